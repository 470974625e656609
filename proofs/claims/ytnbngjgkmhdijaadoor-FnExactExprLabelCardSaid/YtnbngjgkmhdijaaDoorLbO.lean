/- The places that occur in a valid expression, and the join of the labels of a set of places. -/
import Derived.Test.YtnbngjgkmhdijaaDoorLbQ
import Derived.Test.YtnbngjgkmhdijaaDoorImX
namespace Go.Proofs.YtnbngjgkmhdijaaDoor
open Go.RowKit Go.Shelf
set_option linter.unusedVariables false

attribute [local go_sem] Oper.semAt_some

/-- The number of a set. -/
def setN (L : List (Nat × E)) : Nat := orF (fun x => bitE x.2) L
theorem setN_snoc (L : List (Nat × E)) (x : Nat × E) : setN (L ++ [x]) = setN L ||| bitE x.2 := orF_snoc _ _ _
theorem mixed : Tryd.prog.follows .mixedOrders = true := by kernel_rfl
theorem stripsP_all {w₀ : World} {D : Nat → Prop} {P : E → Prop} (L : List (YEp w₀ D P)) : ∀ q ∈ stripsP L, P q.2 := fun q hq => by
  obtain ⟨x, _, rfl⟩ := List.mem_map.1 hq
  exact x.2.2

set_option maxRecDepth 100000 in
set_option maxHeartbeats 8000000 in
theorem placesOf_in (nv na : Nat) (n : Nat) (e : E) (a : Option Addr) (c : Nat) (D' : Nat → Prop) (w : World) (h : IsE w D' n e (cellsI e a c)) (hl : ∀ k, D' k → k < w.heap.size) (hv : nv ≤ 12) (ha : na ≤ 2) (hr : rightB nv na e = true) :
    CallsIn Fence.wide 5 Tryd.prog 23 #[.agg #[.int .i64 e.kind, .int .i64 e.value, .slice a e.kids.length c]] w (fun f w' => f = .returned (.int .u64 (setN (preEs [e] 1) : Int)) ∧ Below w.heap.size w w') := by
  have HE := Lib.hid h.inCells
  have hfit := (right_iff nv na e).1 hr
  have HFIT : Hid (∀ q ∈ preEs [e] 1, nodeB nv na q.2 = true) := fun q hq => (hfit.2 q hq).2
  have hcn : cntEs [e] ≤ 15 := by rw [← len_preEs [e] 1]; exact hfit.1
  clear h hfit hr
  refine callsIn_of_wp_marks Tryd.func23 rfl trivial ?_ rfl
  simp only [Tryd.ntmps23, List.size_toArray, List.length_cons, List.length_nil, Nat.reduceAdd, Nat.reduceSub, Array.replicate_succ, Array.replicate_zero, List.push_toArray, List.append_toArray, List.nil_append, List.cons_append]
  gi_wp2_with (refine ⟨trivial, ?_⟩; gi_at_call 37; refine (nodesE_in _ _ _ _ _).mono ?_; rintro e w2 ⟨rfl, rfl⟩)
  obtain ⟨A2, hA2⟩ : ∃ A2, A2 = w.alloc (.cells #[.int .i64 e.kind, .int .i64 e.value, .slice a e.kids.length c] 38) := ⟨_, rfl⟩
  obtain ⟨A4, hA4⟩ : ∃ A4, A4 = A2.alloc (.cells #[.int .u64 0] 56) := ⟨_, rfl⟩
  obtain ⟨A5, hA5⟩ : ∃ A5, A5 = A4.alloc (.cells #[.int .i64 e.kind, .int .i64 e.value, .slice a e.kids.length c] 38) := ⟨_, rfl⟩
  obtain ⟨A6, hA6⟩ : ∃ A6, A6 = A5.alloc (.cells #[.slice (some ⟨w.heap.size + 1 + 1, 0, none⟩) 1 1] 36) := ⟨_, rfl⟩
  rw [← hA2, ← hA4, ← hA5, ← hA6]
  have z2 : A2.heap.size = w.heap.size + 1 := by rw [hA2]; simp
  have z4 : A4.heap.size = w.heap.size + 2 := by rw [hA4]; simp [z2]
  have z5 : A5.heap.size = w.heap.size + 3 := by rw [hA5]; simp [z4]
  have z6 : A6.heap.size = w.heap.size + 4 := by rw [hA6]; simp [z5]
  have o6 : ∀ j, j < A5.heap.size → A6.heap[j]? = A5.heap[j]? := fun j hj => by rw [hA6]; exact Below.heap_alloc _ _ _ hj
  have o5 : ∀ j, j < A4.heap.size → A5.heap[j]? = A4.heap[j]? := fun j hj => by rw [hA5]; exact Below.heap_alloc _ _ _ hj
  have bC : Boxed A6 (w.heap.size + 1) 56 (.int .u64 0) := by
    have h := Boxed.new A2 56 (.int .u64 0)
    rw [← hA4, z2] at h
    exact (show A6.heap[w.heap.size + 1]? = _ from (by rw [o6 _ (by omega), o5 _ (by omega)])).trans h
  have bL : BoxE A6 (w.heap.size + 1 + 1) e a c := by
    have h := BoxE.new A4 e a c 38
    rw [← hA5, z4] at h
    exact h.later (o6 _ (by omega))
  have bN : A6.heap[w.heap.size + 1 + 1 + 1]? = some (.cells #[.slice (some ⟨w.heap.size + 1 + 1, 0, none⟩) 1 1] 36 (0, 0)) := by
    have h := heap_alloc_new A5 (.cells #[.slice (some ⟨w.heap.size + 1 + 1, 0, none⟩) 1 1] 36)
    rw [← hA6, z5] at h
    exact h
  have bB : Below w.heap.size w A6 := by
    rw [hA6, hA5, hA4, hA2]
    exact ((((Below.refl _ w).alloc (Nat.le_refl _) _).alloc (by simp) _).alloc (by simp; omega) _).alloc (by simp; omega) _
  clear hA2 hA4 hA5 hA6 o5 o6 z2 z4 z5
  obtain ⟨D, hD⟩ : ∃ D : Nat → Prop, D = fun j => (D' j ∧ CellsAt w j) ∨ j = w.heap.size + 1 + 1 := ⟨_, rfl⟩
  obtain ⟨O, hO⟩ : ∃ O : Nat → Prop, O = fun j => j = w.heap.size + 1 := ⟨_, rfl⟩
  have hOc : O (w.heap.size + 1) := by rw [hO]
  have hOo : ∀ j, O j → j = w.heap.size + 1 := fun j hj => by rw [hO] at hj; exact hj
  have hDO : ∀ j, D j → ¬ O j ∧ CellsAt A6 j := fun j hj => by
    rw [hD] at hj
    rcases hj with ⟨h1, o, h2, h3⟩ | rfl
    · have := hl j h1
      exact ⟨fun h => by have := hOo j h; omega, o, (bB.block j this).trans h2, h3⟩
    · obtain ⟨T, hT⟩ := bL
      exact ⟨fun h => by have := hOo _ h; omega, _, hT, rfl⟩
  have hDl : ∀ j, D j → j < A6.heap.size := fun j hj => by
    obtain ⟨o, h, _⟩ := (hDO j hj).2
    exact (Array.getElem?_eq_some_iff.1 h).1
  have hOl : ∀ j, O j → j < A6.heap.size := fun j hj => by have := hOo j hj; omega
  have hat : EsAt A6 D (IsE A6 D n) [e] (some ⟨w.heap.size + 1 + 1, 0, none⟩) := fun i x hx => by
    cases i with
    | succ i => simp at hx
    | zero =>
      simp at hx
      subst hx
      refine ⟨_, 0, _, _, _, rfl, by rw [hD]; exact .inr rfl, bL.c0, bL.c1, bL.c2, ?_⟩
      exact HE.out.mono (fun j hj => bB.block j (hl j hj.1)) fun j hj => by rw [hD]; exact .inl hj
  have HST := Lib.hid (nodesEp_stops (fun x => nodeB nv na x = true) 4 (by omega) (w.heap.size + 1 + 1 + 1) [e] (some ⟨w.heap.size + 1 + 1, 0, none⟩) 1 n A6 A6 D O hDO hDl hOl hat (by simp) (by unfold maxLen; omega) (Kps.refl _ _) (by omega) bN (by omega) HFIT.out)
  have HOO := Lib.hid hOo
  have hmx := mixed
  clear hat bN bL hD hO hDO hDl hOo hOl HE
  refine wpIn_rangeFunc_ownH rfl (by omega) (gf := 49) (lb := #[.pointer (some ⟨w.heap.size + 1 + 1 + 1, 0, none⟩)]) rfl trivial (enters_of Tryd.func49 (by kernel_rfl) rfl)
    HST.out Kps.tr (fun W l o o' _ h hc _ => Kps.book W l o o' h hc) (Below.refl _ _) (fun _ => rfl)
    (fun pre W => Boxed W (w.heap.size + 1) 56 (.int .u64 (setN (stripsP pre) : Int)) ∧ Below w.heap.size w W ∧ Kps O A6 W)
    (fun cc pre W => False)
    (OwnFrom.and (Own.from (boxed_own _ _ (fun pre : List (YEp A6 D (fun x => nodeB nv na x = true)) => .int .u64 (setN (stripsP pre) : Int))) _) (OwnFrom.and (ownFrom_below (Nat.le_refl _) (by omega)) (Kps.own _)))
    (fun cc => ownFrom_pure _ _)
    ⟨bC, bB, Kps.refl _ _⟩
    (fun x a' W => ∃ Bx, w.heap.size + 4 ≤ Bx ∧ BoxE W Bx x.1.e x.1.a x.1.c ∧ a' = { tmps := #[.agg #[.int .i64 e.kind, .int .i64 e.value, .slice a e.kids.length c], .pointer (some ⟨w.heap.size, 0, none⟩), .int .u64 0, .pointer (some ⟨w.heap.size + 1, 0, none⟩), undef, .pointer (some ⟨Bx, 0, none⟩), .agg #[.int .i64 e.kind, .int .i64 e.value, .slice a e.kids.length c], .slice (some ⟨w.heap.size + 1 + 1, 0, none⟩) 1 1, .func (.func 49) #[] #[.pointer (some ⟨w.heap.size + 1 + 1 + 1, 0, none⟩)], .int .i64 (x.1.lvl : Int), .agg #[.int .i64 x.1.e.kind, .int .i64 x.1.e.value, .slice x.1.a x.1.e.kids.length x.1.c], undef, undef, undef, undef, undef, undef, undef, undef, undef, undef, undef, undef, undef, undef, undef, undef, undef, undef, undef], defers := [] })
    (fun x a' _ W W' row hs hg hr => by
      obtain ⟨Bx, h1, ⟨T, h2⟩, h3⟩ := hs
      refine ⟨Bx, h1, ⟨T, (hg.block Bx (Array.getElem?_eq_some_iff.1 h2).1 fun e => ?_).trans h2⟩, h3⟩
      obtain ⟨_, o', ho', hc'⟩ := hr Bx e.symm
      rw [h2] at ho'; cases ho'; cases hc') ?assign ?body ?done ?stop
  case assign =>
    rintro l pre x W K ⟨hC, hB, hK⟩ hKK
    have hsz := hK.size
    dsimp only [encEp]
    gi_wp2
    exact hKK _ _ ((KeepsOthers.alloc _ _).from _) ((Kps.refl _ _).alloc _) ⟨hC.alloc _, hB.alloc (by omega) _, hK.alloc _⟩ ⟨W.heap.size, by omega, BoxE.new _ _ _ _ _, rfl⟩
  case body =>
    rintro l pre x a' W hl ⟨r, hr⟩ ⟨hC, hB, hK⟩ ⟨Bx, hBx, bX, rfl⟩ hlt
    have HSN : Hid (setN (stripsP (pre ++ [x])) = setN (stripsP pre) ||| bitE x.1.e) := by
      show setN (stripsP (pre ++ [x])) = _
      rw [stripsP_app, show stripsP [x] = [(x.1.lvl, x.1.e)] from rfl, setN_snoc]
    have hsn : setN (stripsP pre) < 16384 := set_lt hv ha (stripsP_all pre)
    obtain ⟨s, hs⟩ : ∃ s, setN (stripsP pre) = s := ⟨_, rfl⟩
    rw [hs] at hC hsn
    have hnb : nodeB nv na x.1.e = true := x.2.2
    have hsz := hK.size
    have x0 := bX.c0
    have x1 := bX.c1
    have x0' : W.drew.cell? ⟨Bx, 0, none⟩ = _ := bX.c0
    have x1' : W.drew.cell? ⟨Bx, 1, none⟩ = _ := bX.c1
    have cc := hC.cell
    have cf := hC.frozen
    have cc' : W.drew.cell? ⟨w.heap.size + 1, 0, none⟩ = _ := hC.cell
    have cf' : W.drew.frozen? ⟨w.heap.size + 1, 0, none⟩ = false := hC.frozen
    have HC := Lib.hid hC
    have HB := Lib.hid hB
    have HK := Lib.hid hK
    have HPL : Hid (placeE x.1.e = if x.1.e.kind = 2 then some x.1.e.value.toNat else if x.1.e.kind = 3 then some (12 + x.1.e.value.toNat) else none) := rfl
    unfold nodeB at hnb
    simp only [Bool.and_eq_true, decide_eq_true_iff] at hnb
    obtain ⟨⟨⟨_, hv0⟩, hv1⟩, _⟩ := hnb
    clear hC hB hK bX
    obtain ⟨kd, hkd⟩ : ∃ kd, x.1.e.kind = kd := ⟨_, rfl⟩
    obtain ⟨vv, hvv⟩ : ∃ vv, x.1.e.value = vv := ⟨_, rfl⟩
    rw [hkd] at x0 x0' hv1
    rw [hvv] at x1 x1' hv0 hv1
    by_cases h2 : kd = 2
    case pos =>
      subst h2
      obtain ⟨i, rfl⟩ := Int.eq_ofNat_of_zero_le hv0
      have hi : i < 12 := by unfold limit at hv1; simp at hv1; omega
      have hbit : Hid (bitE x.1.e = 2 ^ i) := by
        show bitE x.1.e = _
        unfold bitE
        rw [HPL.out, hkd, hvv]; simp
      have hp2 : 2 ^ i < 2 ^ 14 := Nat.pow_lt_pow_right (by omega) (by omega)
      have hor : bits .or .u64 (s : Int) ((2 ^ i : Nat) : Int) = ((s ||| 2 ^ i : Nat) : Int) := u64_or_nat _ _ (by omega) (by omega)
      obtain ⟨b2, hb2⟩ : ∃ b2 : Nat, 2 ^ i = b2 := ⟨_, rfl⟩
      have HPS : Hid (∀ w : World, Calls Tryd.prog 38 #[.int .i64 ((i : Nat) : Int)] w fun e w' => e = .returned (.int .u64 (b2 : Int)) ∧ w' = w) := fun w => by rw [← hb2]; exact placeSet_one i w (by omega)
      have HNEW : Hid (setN (stripsP (pre ++ [x])) = s ||| b2) := by show setN _ = _; rw [HSN.out, hs, hbit.out, hb2]
      rw [hb2] at hor
      have k1 : Hid (KeepsOthers W (W.setCell ⟨w.heap.size + 1, 0, none⟩ (.int .u64 ((s ||| b2 : Nat) : Int))).drew) := ⟨(KeepsOthers.setCell W ⟨w.heap.size + 1, 0, none⟩ (.int .u64 ((s ||| b2 : Nat) : Int))).1, (KeepsOthers.setCell W ⟨w.heap.size + 1, 0, none⟩ (.int .u64 ((s ||| b2 : Nat) : Int))).2⟩
      have k2 : Hid (Kps O W (W.setCell ⟨w.heap.size + 1, 0, none⟩ (.int .u64 ((s ||| b2 : Nat) : Int))).drew) := ⟨((Kps.refl O W).set hOc (.int .u64 ((s ||| b2 : Nat) : Int))).size, ((Kps.refl O W).set hOc (.int .u64 ((s ||| b2 : Nat) : Int))).keep⟩
      have k3 : Hid (Boxed (W.setCell ⟨w.heap.size + 1, 0, none⟩ (.int .u64 ((s ||| b2 : Nat) : Int))).drew (w.heap.size + 1) 56 (.int .u64 ((s ||| b2 : Nat) : Int))) := HC.out.set _
      have k4 : Hid (Below w.heap.size w (W.setCell ⟨w.heap.size + 1, 0, none⟩ (.int .u64 ((s ||| b2 : Nat) : Int))).drew) := (HB.out.setCell (p := ⟨w.heap.size + 1, 0, none⟩) (by simp) _).drew
      clear hbit HPL hb2 hp2
      gi_wp2
      gi_region_with_o (refine ⟨trivial, ?_⟩; first
        | (gi_at_call 33; (refine (CallsIn.inRound l (callsIn_wide.2 (varPlace_one _ _))).mono ?_); rintro e w2 ⟨rfl, rfl⟩)
        | (gi_at_call 38; (refine (CallsIn.inRound l (callsIn_wide.2 (HPS.out _))).mono ?_); rintro e w2 ⟨rfl, rfl⟩))
      all_goals
        refine ⟨k1.out.from _, k2.out, ?_, k4.out, HK.out.tr k2.out⟩
        rw [HNEW.out]
        exact k3.out
    by_cases h3 : kd = 3
    case pos =>
      subst h3
      obtain ⟨i, rfl⟩ := Int.eq_ofNat_of_zero_le hv0
      have hi : i < 2 := by unfold limit at hv1; simp at hv1; omega
      have hbit : Hid (bitE x.1.e = 2 ^ (12 + i)) := by
        show bitE x.1.e = _
        unfold bitE
        rw [HPL.out, hkd, hvv]; simp
      have hp2 : 2 ^ (12 + i) < 2 ^ 14 := Nat.pow_lt_pow_right (by omega) (by omega)
      have hor : bits .or .u64 (s : Int) ((2 ^ (12 + i) : Nat) : Int) = ((s ||| 2 ^ (12 + i) : Nat) : Int) := u64_or_nat _ _ (by omega) (by omega)
      obtain ⟨b2, hb2⟩ : ∃ b2 : Nat, 2 ^ (12 + i) = b2 := ⟨_, rfl⟩
      have HPS : Hid (∀ w : World, Calls Tryd.prog 38 #[.int .i64 (((12 + i) : Nat) : Int)] w fun e w' => e = .returned (.int .u64 (b2 : Int)) ∧ w' = w) := fun w => by rw [← hb2]; exact placeSet_one (12 + i) w (by omega)
      have HNEW : Hid (setN (stripsP (pre ++ [x])) = s ||| b2) := by show setN _ = _; rw [HSN.out, hs, hbit.out, hb2]
      rw [hb2] at hor
      have k1 : Hid (KeepsOthers W (W.setCell ⟨w.heap.size + 1, 0, none⟩ (.int .u64 ((s ||| b2 : Nat) : Int))).drew) := ⟨(KeepsOthers.setCell W ⟨w.heap.size + 1, 0, none⟩ (.int .u64 ((s ||| b2 : Nat) : Int))).1, (KeepsOthers.setCell W ⟨w.heap.size + 1, 0, none⟩ (.int .u64 ((s ||| b2 : Nat) : Int))).2⟩
      have k2 : Hid (Kps O W (W.setCell ⟨w.heap.size + 1, 0, none⟩ (.int .u64 ((s ||| b2 : Nat) : Int))).drew) := ⟨((Kps.refl O W).set hOc (.int .u64 ((s ||| b2 : Nat) : Int))).size, ((Kps.refl O W).set hOc (.int .u64 ((s ||| b2 : Nat) : Int))).keep⟩
      have k3 : Hid (Boxed (W.setCell ⟨w.heap.size + 1, 0, none⟩ (.int .u64 ((s ||| b2 : Nat) : Int))).drew (w.heap.size + 1) 56 (.int .u64 ((s ||| b2 : Nat) : Int))) := HC.out.set _
      have k4 : Hid (Below w.heap.size w (W.setCell ⟨w.heap.size + 1, 0, none⟩ (.int .u64 ((s ||| b2 : Nat) : Int))).drew) := (HB.out.setCell (p := ⟨w.heap.size + 1, 0, none⟩) (by simp) _).drew
      clear hbit HPL hb2 hp2
      gi_wp2
      gi_region_with_o (refine ⟨trivial, ?_⟩; first
        | (gi_at_call 34; (refine (CallsIn.inRound l (callsIn_wide.2 (arrPlace_nat i _ (by omega)))).mono ?_); rintro e w2 ⟨rfl, rfl⟩)
        | (gi_at_call 38; (refine (CallsIn.inRound l (callsIn_wide.2 (HPS.out _))).mono ?_); rintro e w2 ⟨rfl, rfl⟩))
      all_goals
        refine ⟨k1.out.from _, k2.out, ?_, k4.out, HK.out.tr k2.out⟩
        rw [HNEW.out]
        exact k3.out
    have hbit : bitE x.1.e = 0 := by
      unfold bitE
      rw [HPL.out, hkd, if_neg h2, if_neg h3]
    have HNEW : Hid (setN (stripsP (pre ++ [x])) = s) := by show setN _ = _; rw [HSN.out, hs, hbit, Nat.or_zero]
    have d2 : (kd == 2) = false := by simpa using h2
    have d3 : (kd == 3) = false := by simpa using h3
    clear hbit HPL
    gi_wp2
    refine ⟨(KeepsOthers.refl _).from _, Kps.refl _ _, ?_, HB.out, HK.out⟩
    rw [HNEW.out]
    exact HC.out
  case stop => rintro D0 cc pre W hD hSp h; exact h.elim
  case done =>
    rintro D0 ys W hD hys ⟨hC, hB, hK⟩ hKd
    have hsz := hK.size
    have cc := hC.cell
    have HC := Lib.hid hC
    have HB := Lib.hid hB
    have HKd := Lib.hid hKd
    have HYS := Lib.hid hys
    clear hC hB hKd hys
    gi_wp2
    refine ⟨by simp, .inl ⟨_, _, rfl, run_takeDeferred HKd.out, ?_⟩⟩
    have hb := HB.out.trans (belowK_b (w := w) (Nat.le_refl _) _ D0 _ (.deferred none) (by omega) HKd.out rfl rfl)
    refine ⟨.int .u64 (setN (preEs [e] 1) : Int), ?_, rfl, hb⟩
    rw [← HYS.out]
    simp [results, Tryd.f23, go_sem]

end Go.Proofs.YtnbngjgkmhdijaaDoor

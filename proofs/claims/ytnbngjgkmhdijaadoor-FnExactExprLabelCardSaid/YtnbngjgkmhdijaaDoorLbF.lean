/- The join of the labels of a set of places; the label of an expression by the program. Condition: the tables lie as the program's text lays them. -/
import Derived.Test.YtnbngjgkmhdijaaDoorLbO
namespace Go.Proofs.YtnbngjgkmhdijaaDoor
open Go.RowKit Go.Shelf
set_option linter.unusedVariables false

attribute [local go_sem] Oper.semAt_some

theorem orF_lt {α : Type} (f : α → Nat) (h : ∀ x, f x < 4) : ∀ (L : List α), orF f L < 4
  | [] => by rw [orF_nil]; omega
  | x :: xs => by
    rw [orF_cons]
    exact Nat.or_lt_two_pow (n := 2) (h x) (orF_lt f h xs)

set_option maxRecDepth 100000 in
set_option maxHeartbeats 8000000 in
theorem ofSet_in (p : Pg) (s : Nat) (w : World) (hs : s < 16384) (hB : TblB w) (hk : ∀ i, knl p i < 4) :
    CallsIn Fence.wide 5 Tryd.prog 22 #[.agg (arrOf (knl p)), .int .u64 (s : Int)] w (fun f w' => f = .returned (.int .i64 (orF (knl p) (bitsN s) : Int)) ∧ Below w.heap.size w w') := by
  have hgl := hB.lt
  have HTB := Lib.hid hB
  clear hB
  refine callsIn_of_wp_marks Tryd.func22 rfl trivial ?_ rfl
  simp only [Tryd.ntmps22, List.size_toArray, List.length_cons, List.length_nil, Nat.reduceAdd, Nat.reduceSub, Array.replicate_succ, Array.replicate_zero, List.push_toArray, List.append_toArray, List.nil_append, List.cons_append]
  gi_wp2_with (refine ⟨trivial, ?_⟩; gi_at_call 35; refine (places_in _ _ _).mono ?_; rintro e w2 ⟨rfl, rfl⟩)
  obtain ⟨A1, hA1⟩ : ∃ A1, A1 = w.alloc (.cells (arrOf (knl p)) 52) := ⟨_, rfl⟩
  obtain ⟨A2, hA2⟩ : ∃ A2, A2 = A1.alloc (.cells #[.int .i64 0] 50) := ⟨_, rfl⟩
  obtain ⟨A3, hA3⟩ : ∃ A3, A3 = A2.alloc (.cells #[.int .u64 (s : Int)] 56) := ⟨_, rfl⟩
  rw [← hA1, ← hA2, ← hA3]
  have z1 : A1.heap.size = w.heap.size + 1 := by rw [hA1]; simp
  have z2 : A2.heap.size = w.heap.size + 2 := by rw [hA2]; simp [z1]
  have z3 : A3.heap.size = w.heap.size + 3 := by rw [hA3]; simp [z2]
  have o3 : ∀ j, j < A2.heap.size → A3.heap[j]? = A2.heap[j]? := fun j hj => by rw [hA3]; exact Below.heap_alloc _ _ _ hj
  have o2 : ∀ j, j < A1.heap.size → A2.heap[j]? = A1.heap[j]? := fun j hj => by rw [hA2]; exact Below.heap_alloc _ _ _ hj
  have bK : A3.heap[w.heap.size]? = some (.cells (arrOf (knl p)) 52 (0, 0)) := by
    rw [o3 _ (by omega), o2 _ (by omega), hA1]
    exact heap_alloc_new w _
  have bC : Boxed A3 (w.heap.size + 1) 50 (.int .i64 0) := by
    have h := Boxed.new A1 50 (.int .i64 0)
    rw [← hA2, z1] at h
    exact (o3 _ (by omega)).trans h
  have bN : A3.heap[w.heap.size + 1 + 1]? = some (.cells #[.int .u64 (s : Int)] 56 (0, 0)) := by
    have h := heap_alloc_new A2 (.cells #[.int .u64 (s : Int)] 56)
    rw [← hA3, z2] at h
    exact h
  have bB : Below w.heap.size w A3 := by
    rw [hA3, hA2, hA1]
    exact (((Below.refl _ w).alloc (Nat.le_refl _) _).alloc (by simp) _).alloc (by simp; omega) _
  clear hA1 hA2 hA3 o2 o3 z1 z2
  obtain ⟨O, hO⟩ : ∃ O : Nat → Prop, O = fun j => j = w.heap.size + 1 := ⟨_, rfl⟩
  have hOc : O (w.heap.size + 1) := by rw [hO]
  have hOo : ∀ j, O j → j = w.heap.size + 1 := fun j hj => by rw [hO] at hj; exact hj
  have HST := Lib.hid (places_stops 4 (by omega) (w.heap.size + 1 + 1) s A3 O hs (fun h => by have := hOo _ h; omega) (by omega) bN (HTB.out.below bB hgl))
  have HOO := Lib.hid hOo
  have HBK := Lib.hid bK
  have hmx := mixed
  clear bN hO hOo bK HTB
  refine wpIn_rangeFunc_ownH rfl (by omega) (gf := 47) (lb := #[.pointer (some ⟨w.heap.size + 1 + 1, 0, none⟩)]) rfl trivial (enters_of Tryd.func47 (by kernel_rfl) rfl)
    HST.out Kps.tr (fun W l o o' _ h hc _ => Kps.book W l o o' h hc) (Below.refl _ _) (fun _ => rfl)
    (fun pre W => Boxed W (w.heap.size + 1) 50 (.int .i64 (orF (knl p) (plN pre) : Int)) ∧ Below w.heap.size w W ∧ Kps O A3 W)
    (fun cc pre W => False)
    (OwnFrom.and (Own.from (boxed_own _ _ (fun pre : List Pl => .int .i64 (orF (knl p) (plN pre) : Int))) _) (OwnFrom.and (ownFrom_below (Nat.le_refl _) (by omega)) (Kps.own _)))
    (fun cc => ownFrom_pure _ _)
    ⟨bC, bB, Kps.refl _ _⟩
    (fun x a' W => a' = { tmps := #[.agg (arrOf (knl p)), .int .u64 (s : Int), .pointer (some ⟨w.heap.size, 0, none⟩), undef, .int .i64 0, .pointer (some ⟨w.heap.size + 1, 0, none⟩), .int .i64 (x.1 : Int), .int .u64 (s : Int), .func (.func 47) #[] #[.pointer (some ⟨w.heap.size + 1 + 1, 0, none⟩)], .int .i64 (x.1 : Int), undef, undef, undef, undef, undef, undef], defers := [] })
    (fun x a' _ W W' row hs hg hr => hs) ?assign ?body ?done ?stop
  case assign =>
    rintro l pre x W K ⟨hC, hB, hK⟩ hKK
    dsimp only [encP]
    gi_wp2
    exact hKK _ _ ((KeepsOthers.refl _).from _) (Kps.refl _ _) ⟨hC, hB, hK⟩ rfl
  case body =>
    rintro l pre x a' W hl ⟨r, hr⟩ ⟨hC, hB, hK⟩ rfl hlt
    obtain ⟨i, hi⟩ := x
    have HSN : Hid (orF (knl p) (plN (pre ++ [⟨i, hi⟩])) = orF (knl p) (plN pre) ||| knl p i) := by
      show orF (knl p) (plN (pre ++ [⟨i, hi⟩])) = _
      rw [plN_snoc, orF_snoc]
    have hsn : orF (knl p) (plN pre) < 4 := orF_lt _ hk _
    obtain ⟨q, hq⟩ : ∃ q, orF (knl p) (plN pre) = q := ⟨_, rfl⟩
    rw [hq] at hC hsn
    obtain ⟨y, hy⟩ : ∃ y, knl p i = y := ⟨_, rfl⟩
    have hy4 : y < 4 := by rw [← hy]; exact hk i
    have hkb : W.heap[w.heap.size]? = some (.cells (arrOf (knl p)) 52 (0, 0)) := hK.keep _ _ (fun h => by have := HOO.out _ h; omega) HBK.out rfl
    have kc : W.cell? ⟨w.heap.size, i, none⟩ = some (.int .i64 (y : Int)) := by rw [cell_at hkb, arrOf_at _ i hi, hy]
    have kc' : W.drew.cell? ⟨w.heap.size, i, none⟩ = some (.int .i64 (y : Int)) := kc
    have hsz := hK.size
    have cc := hC.cell
    have cf := hC.frozen
    have cc' : W.drew.cell? ⟨w.heap.size + 1, 0, none⟩ = _ := hC.cell
    have cf' : W.drew.frozen? ⟨w.heap.size + 1, 0, none⟩ = false := hC.frozen
    have HC := Lib.hid hC
    have HB := Lib.hid hB
    have HK := Lib.hid hK
    have HNEW : Hid (orF (knl p) (plN (pre ++ [⟨i, hi⟩])) = q ||| y) := by show orF _ _ = _; rw [HSN.out, hq, hy]
    have k1 : Hid (KeepsOthers W (W.setCell ⟨w.heap.size + 1, 0, none⟩ (.int .i64 ((q ||| y : Nat) : Int))).drew) := ⟨(KeepsOthers.setCell W ⟨w.heap.size + 1, 0, none⟩ (.int .i64 ((q ||| y : Nat) : Int))).1, (KeepsOthers.setCell W ⟨w.heap.size + 1, 0, none⟩ (.int .i64 ((q ||| y : Nat) : Int))).2⟩
    have k2 : Hid (Kps O W (W.setCell ⟨w.heap.size + 1, 0, none⟩ (.int .i64 ((q ||| y : Nat) : Int))).drew) := ⟨((Kps.refl O W).set hOc (.int .i64 ((q ||| y : Nat) : Int))).size, ((Kps.refl O W).set hOc (.int .i64 ((q ||| y : Nat) : Int))).keep⟩
    have k3 : Hid (Boxed (W.setCell ⟨w.heap.size + 1, 0, none⟩ (.int .i64 ((q ||| y : Nat) : Int))).drew (w.heap.size + 1) 50 (.int .i64 ((q ||| y : Nat) : Int))) := HC.out.set _
    have k4 : Hid (Below w.heap.size w (W.setCell ⟨w.heap.size + 1, 0, none⟩ (.int .i64 ((q ||| y : Nat) : Int))).drew) := (HB.out.setCell (p := ⟨w.heap.size + 1, 0, none⟩) (by simp) _).drew
    clear hC hB hK HSN hkb hy hq
    gi_wp2
    gi_region_with_o (refine ⟨trivial, ?_⟩; gi_at_call 36; (refine (CallsIn.inRound l (callsIn_wide.2 (join_one q y _ hsn hy4))).mono ?_); rintro e w2 ⟨rfl, rfl⟩)
    all_goals
      refine ⟨k1.out.from _, k2.out, ?_, k4.out, HK.out.tr k2.out⟩
      rw [HNEW.out]
      exact k3.out
  case stop => rintro D0 cc pre W hD hSp h; exact h.elim
  case done =>
    rintro D0 ys W hD hys ⟨hC, hB, hK⟩ hKd
    have hsz := hK.size
    have cc := hC.cell
    have HC := Lib.hid hC
    have HB := Lib.hid hB
    have HKd := Lib.hid hKd
    have HYS := Lib.hid hys
    clear hC hB hKd hys
    gi_wp2
    refine ⟨by simp, .inl ⟨_, _, rfl, run_takeDeferred HKd.out, ?_⟩⟩
    have hb := HB.out.trans (belowK_b (w := w) (Nat.le_refl _) _ D0 _ (.deferred none) (by omega) HKd.out rfl rfl)
    refine ⟨.int .i64 (orF (knl p) (bitsN s) : Int), ?_, rfl, hb⟩
    rw [← HYS.out]
    simp [results, Tryd.f22, go_sem]

end Go.Proofs.YtnbngjgkmhdijaaDoor

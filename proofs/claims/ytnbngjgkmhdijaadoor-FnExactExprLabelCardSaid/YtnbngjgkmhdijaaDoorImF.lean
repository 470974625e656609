/- The program's judgement of a whole expression: exprFits answers what the plain function says; nothing that was there has changed. Condition: the table of operands lies as the program's text lays it; the expression has at most 2^40 nodes. -/
import Derived.Test.YtnbngjgkmhdijaaDoorImY
import Derived.Test.YtnbngjgkmhdijaaDoorImD
namespace Go.Proofs.YtnbngjgkmhdijaaDoor
open Go.RowKit Go.Shelf
set_option linter.unusedVariables false

attribute [local go_sem] Oper.semAt_some

theorem KeepsOthers.below {A B : World} (h : Below A.heap.size A B) : KeepsOthers A B := ⟨h.size, fun k o hk _ => (h.block k (Array.getElem?_eq_some_iff.1 hk).1).trans hk⟩
/-- A tree's memory lies in blocks of cells. -/
theorem IsE.inCells {w : World} {D : Nat → Prop} : ∀ {n : Nat} {e : E} {cs : List Value}, IsE w D n e cs → IsE w (fun k => D k ∧ CellsAt w k) n e cs
  | 0, _, _, h => h.elim
  | n + 1, _, _, ⟨a, cap, h0, h1, h2, h3⟩ => ⟨a, cap, h0, h1, h2, fun i x hx => by
    obtain ⟨b, o, c0, c1, c2, ha, hd, e0, e1, e2, hr⟩ := h3 i x hx
    exact ⟨b, o, c0, c1, c2, ha, ⟨hd, cellsAt_of_cell e0⟩, e0, e1, e2, hr.inCells⟩⟩
theorem Kps.own (B : Nat) {β : Type} {O : Nat → Prop} {w₀ : World} : OwnFrom B (fun (_ : β) W => Kps O w₀ W) := fun _ W W' row hs hg hr => by
  refine hs.tr ⟨hg.size, fun k o _ hk hc => ?_⟩
  have hne : some k ≠ row := fun e => by
    obtain ⟨_, o', ho', hc'⟩ := hr k e.symm
    rw [ho'] at hk; cases hk; rw [hc] at hc'; cases hc'
  exact (hg.block k (Array.getElem?_eq_some_iff.1 hk).1 hne).trans hk
theorem Kps.stand {O D : Nat → Prop} {A B : World} (h : Kps O A B) (hD : ∀ k, D k → ¬ O k ∧ CellsAt A k) : Stand D A B := fun k hk => by
  obtain ⟨ho, o, hq, hc⟩ := hD k hk
  rw [h.keep k o ho hq hc, hq]
theorem Kps.set {O : Nat → Prop} {A B : World} (h : Kps O A B) {g : Nat} (hg : O g) (v : Value) : Kps O A (B.setCell ⟨g, 0, none⟩ v) :=
  h.tr ⟨by simp [World.setCell], fun k o hk hq _ => by rw [Below.heap_setCell _ _ _ _ (fun e => hk (by simp at e; rw [e]; exact hg))]; exact hq⟩

set_option maxRecDepth 100000 in
set_option maxHeartbeats 8000000 in
theorem iFits_in (p : Pg) (k : PC) (n : Nat) (e : E) (a : Option Addr) (c : Nat) (D' : Nat → Prop) (w : World) (hT : TblO w) (hw : 2 ≤ w.heap.size) (hmv : p.vars.length ≤ maxLen) (hma : p.arrs.length ≤ maxLen) (h : IsE w D' n e (cellsI e a c)) (hl : ∀ k, D' k → k < w.heap.size) (hcn : cntE e ≤ 1099511627776) :
    CallsIn Fence.wide 5 Tryd.prog 32 #[aggP p k, .agg #[.int .i64 e.kind, .int .i64 e.value, .slice a e.kids.length c]] w (AnsB (rightB p.vars.length p.arrs.length e) w) := by
  have HE := Lib.hid h.inCells
  have HT := Lib.hid hT
  clear h hT
  refine callsIn_of_wp_marks Tryd.func32 rfl trivial ?_ rfl
  simp only [Tryd.ntmps32, List.size_toArray, List.length_cons, List.length_nil, Nat.reduceAdd, Nat.reduceSub, Array.replicate_succ, Array.replicate_zero, List.push_toArray, List.append_toArray, List.nil_append, List.cons_append]
  gi_wp2_with (refine ⟨trivial, ?_⟩; gi_at_call 37; refine (nodesE_in _ _ _ _ _).mono ?_; rintro e w2 ⟨rfl, rfl⟩)
  obtain ⟨A1, hA1⟩ : ∃ A1, A1 = w.alloc (.cells #[.slice k.va p.vars.length k.vc, .slice k.aa p.arrs.length k.ac, .slice k.ba p.body.length k.bc] 34) := ⟨_, rfl⟩
  obtain ⟨A2, hA2⟩ : ∃ A2, A2 = A1.alloc (.cells #[.int .i64 e.kind, .int .i64 e.value, .slice a e.kids.length c] 38) := ⟨_, rfl⟩
  obtain ⟨A3, hA3⟩ : ∃ A3, A3 = A2.alloc (.cells #[.bool false] 4) := ⟨_, rfl⟩
  obtain ⟨A4, hA4⟩ : ∃ A4, A4 = A3.alloc (.cells #[.int .i64 0] 3) := ⟨_, rfl⟩
  obtain ⟨A5, hA5⟩ : ∃ A5, A5 = A4.alloc (.cells #[.int .i64 e.kind, .int .i64 e.value, .slice a e.kids.length c] 38) := ⟨_, rfl⟩
  obtain ⟨A6, hA6⟩ : ∃ A6, A6 = A5.alloc (.cells #[.slice (some ⟨w.heap.size + 1 + 1 + 1 + 1, 0, none⟩) 1 1] 36) := ⟨_, rfl⟩
  rw [← hA1, ← hA2, ← hA3, ← hA4, ← hA5, ← hA6]
  have z1 : A1.heap.size = w.heap.size + 1 := by rw [hA1]; simp
  have z2 : A2.heap.size = w.heap.size + 2 := by rw [hA2]; simp [z1]
  have z3 : A3.heap.size = w.heap.size + 3 := by rw [hA3]; simp [z2]
  have z4 : A4.heap.size = w.heap.size + 4 := by rw [hA4]; simp [z3]
  have z5 : A5.heap.size = w.heap.size + 5 := by rw [hA5]; simp [z4]
  have z6 : A6.heap.size = w.heap.size + 6 := by rw [hA6]; simp [z5]
  have o6 : ∀ j, j < A5.heap.size → A6.heap[j]? = A5.heap[j]? := fun j hj => by rw [hA6]; exact Below.heap_alloc _ _ _ hj
  have o5 : ∀ j, j < A4.heap.size → A5.heap[j]? = A4.heap[j]? := fun j hj => by rw [hA5]; exact Below.heap_alloc _ _ _ hj
  have o4 : ∀ j, j < A3.heap.size → A4.heap[j]? = A3.heap[j]? := fun j hj => by rw [hA4]; exact Below.heap_alloc _ _ _ hj
  have o3 : ∀ j, j < A2.heap.size → A3.heap[j]? = A2.heap[j]? := fun j hj => by rw [hA3]; exact Below.heap_alloc _ _ _ hj
  have o2 : ∀ j, j < A1.heap.size → A2.heap[j]? = A1.heap[j]? := fun j hj => by rw [hA2]; exact Below.heap_alloc _ _ _ hj
  have bP : BoxP A6 w.heap.size p k := by
    have : BoxP A1 w.heap.size p k := by rw [hA1]; exact BoxP.new w p k _
    exact this.later (by rw [o6 _ (by omega), o5 _ (by omega), o4 _ (by omega), o3 _ (by omega), o2 _ (by omega)])
  have bR : Boxed A6 (w.heap.size + 1 + 1) 4 (.bool false) := by
    have h := Boxed.new A2 4 (.bool false)
    rw [← hA3, z2] at h
    exact (show A6.heap[w.heap.size + 2]? = _ from (by rw [o6 _ (by omega), o5 _ (by omega), o4 _ (by omega)])).trans h
  have bC : Boxed A6 (w.heap.size + 1 + 1 + 1) 3 (.int .i64 0) := by
    have h := Boxed.new A3 3 (.int .i64 0)
    rw [← hA4, z3] at h
    exact (show A6.heap[w.heap.size + 3]? = _ from (by rw [o6 _ (by omega), o5 _ (by omega)])).trans h
  have bL : BoxE A6 (w.heap.size + 1 + 1 + 1 + 1) e a c := by
    have h := BoxE.new A4 e a c 38
    rw [← hA5, z4] at h
    exact h.later (o6 _ (by omega))
  have bN : A6.heap[w.heap.size + 1 + 1 + 1 + 1 + 1]? = some (.cells #[.slice (some ⟨w.heap.size + 1 + 1 + 1 + 1, 0, none⟩) 1 1] 36 (0, 0)) := by
    have h := heap_alloc_new A5 (.cells #[.slice (some ⟨w.heap.size + 1 + 1 + 1 + 1, 0, none⟩) 1 1] 36)
    rw [← hA6, z5] at h
    exact h
  have bB : Below w.heap.size w A6 := by
    rw [hA6, hA5, hA4, hA3, hA2, hA1]
    exact ((((((Below.refl _ w).alloc (Nat.le_refl _) _).alloc (by simp) _).alloc (by simp; omega) _).alloc (by simp; omega) _).alloc (by simp; omega) _).alloc (by simp; omega) _
  clear hA1 hA2 hA3 hA4 hA5 hA6 o2 o3 o4 o5 o6 z1 z2 z3 z4 z5
  obtain ⟨D, hD⟩ : ∃ D : Nat → Prop, D = fun j => (D' j ∧ CellsAt w j) ∨ j = w.heap.size + 1 + 1 + 1 + 1 := ⟨_, rfl⟩
  obtain ⟨O, hO⟩ : ∃ O : Nat → Prop, O = fun j => j = w.heap.size + 1 + 1 ∨ j = w.heap.size + 1 + 1 + 1 := ⟨_, rfl⟩
  have hOr : O (w.heap.size + 1 + 1) := by rw [hO]; exact .inl rfl
  have hOc : O (w.heap.size + 1 + 1 + 1) := by rw [hO]; exact .inr rfl
  have hOo : ∀ j, O j → j = w.heap.size + 1 + 1 ∨ j = w.heap.size + 1 + 1 + 1 := fun j hj => by rw [hO] at hj; exact hj
  have hDO : ∀ j, D j → ¬ O j ∧ CellsAt A6 j := fun j hj => by
    rw [hD] at hj
    rcases hj with ⟨h1, o, h2, h3⟩ | rfl
    · have := hl j h1
      exact ⟨fun h => by have := hOo j h; omega, o, (bB.block j this).trans h2, h3⟩
    · obtain ⟨T, hT⟩ := bL
      exact ⟨fun h => by have := hOo _ h; omega, _, hT, rfl⟩
  have hDl : ∀ j, D j → j < A6.heap.size := fun j hj => by
    obtain ⟨o, h, _⟩ := (hDO j hj).2
    exact (Array.getElem?_eq_some_iff.1 h).1
  have hOl : ∀ j, O j → j < A6.heap.size := fun j hj => by have := hOo j hj; omega
  have hat : EsAt A6 D (IsE A6 D n) [e] (some ⟨w.heap.size + 1 + 1 + 1 + 1, 0, none⟩) := fun i x hx => by
    cases i with
    | succ i => simp at hx
    | zero =>
      simp at hx
      subst hx
      refine ⟨_, 0, _, _, _, rfl, by rw [hD]; exact .inr rfl, bL.c0, bL.c1, bL.c2, ?_⟩
      exact HE.out.mono (fun j hj => bB.block j (hl j hj.1)) fun j hj => by rw [hD]; exact .inl hj
  have hc1 : cntEs [e] ≤ 1099511627776 := by simp [cntEs]; exact hcn
  have hTW : TblO A6 := HT.out.below bB HT.out.lt
  have HTW := Lib.hid hTW
  have HBP := Lib.hid bP
  have HST := Lib.hid (nodesE_stops 4 (by omega) (w.heap.size + 1 + 1 + 1 + 1 + 1) [e] (some ⟨w.heap.size + 1 + 1 + 1 + 1, 0, none⟩) 1 n A6 A6 D O hDO hDl hOl hat (by simp) (by unfold maxLen; omega) (Kps.refl _ _) (by omega) bN hc1)
  have HDO := Lib.hid hDO
  have HDL := Lib.hid hDl
  have HOO := Lib.hid hOo
  have HRI := right_iff p.vars.length p.arrs.length e
  have HR := Lib.hid HRI
  clear hTW bP hat hc1 bN bL hD hO hDO hDl hOo hOl HRI HE HT
  refine wpIn_rangeFunc_ownH rfl (by omega) (gf := 49) (lb := #[.pointer (some ⟨w.heap.size + 1 + 1 + 1 + 1 + 1, 0, none⟩)]) rfl trivial (enters_of Tryd.func49 (by kernel_rfl) rfl)
    HST.out Kps.tr (fun W l o o' _ h hc _ => Kps.book W l o o' h hc) (Below.refl _ _) (fun _ => rfl)
    (fun pre W => (Boxed W (w.heap.size + 1 + 1 + 1) 3 (.int .i64 (pre.length : Int)) ∧ Boxed W (w.heap.size + 1 + 1) 4 (.bool false)) ∧ (FitE p.vars.length p.arrs.length (strips pre) ∧ Below w.heap.size w W) ∧ Kps O A6 W)
    (fun cc pre W => (cc = .ret ∧ ¬ FitE p.vars.length p.arrs.length (strips pre)) ∧ Boxed W (w.heap.size + 1 + 1) 4 (.bool false) ∧ Below w.heap.size w W)
    (OwnFrom.and (OwnFrom.and (Own.from (boxed_own _ _ (fun pre : List (YE A6 D) => .int .i64 (pre.length : Int))) _) (Own.from (boxed_own _ _ _) _)) (OwnFrom.and (OwnFrom.and (ownFrom_pure _ (fun pre : List (YE A6 D) => FitE p.vars.length p.arrs.length (strips pre))) (ownFrom_below (Nat.le_refl _) (by omega))) (Kps.own _)))
    (fun cc => OwnFrom.and (ownFrom_pure _ _) (OwnFrom.and (Own.from (boxed_own _ _ _) _) (ownFrom_below (Nat.le_refl _) (by omega))))
    ⟨⟨bC, bR⟩, ⟨⟨by simp [strips], fun q hq => by simp [strips] at hq⟩, bB⟩, Kps.refl _ _⟩
    (fun x a' W => ∃ Bx, w.heap.size + 6 ≤ Bx ∧ BoxE W Bx x.1.e x.1.a x.1.c ∧ a' = { tmps := #[aggP p k, .agg #[.int .i64 e.kind, .int .i64 e.value, .slice a e.kids.length c], .pointer (some ⟨w.heap.size, 0, none⟩), .pointer (some ⟨w.heap.size + 1, 0, none⟩), .pointer (some ⟨w.heap.size + 1 + 1, 0, none⟩), .pointer (some ⟨w.heap.size + 1 + 1 + 1, 0, none⟩), .int .i64 (x.1.lvl : Int), .pointer (some ⟨Bx, 0, none⟩), .agg #[.int .i64 e.kind, .int .i64 e.value, .slice a e.kids.length c], .slice (some ⟨w.heap.size + 1 + 1 + 1 + 1, 0, none⟩) 1 1, .func (.func 49) #[] #[.pointer (some ⟨w.heap.size + 1 + 1 + 1 + 1 + 1, 0, none⟩)], .int .i64 (x.1.lvl : Int), .agg #[.int .i64 x.1.e.kind, .int .i64 x.1.e.value, .slice x.1.a x.1.e.kids.length x.1.c], undef, undef, undef, undef, undef, undef, undef, undef, undef, undef, undef, undef, undef, undef], defers := [] })
    (fun x a' _ W W' row hs hg hr => by
      obtain ⟨Bx, h1, ⟨T, h2⟩, h3⟩ := hs
      refine ⟨Bx, h1, ⟨T, (hg.block Bx (Array.getElem?_eq_some_iff.1 h2).1 fun e => ?_).trans h2⟩, h3⟩
      obtain ⟨_, o', ho', hc'⟩ := hr Bx e.symm
      rw [h2] at ho'; cases ho'; cases hc') ?assign ?body ?done ?stop
  case assign =>
    rintro l pre x W K ⟨⟨hC, hR⟩, ⟨hF, hB⟩, hK⟩ hKK
    have hsz := hK.size
    dsimp only [encE]
    gi_wp2
    exact hKK _ _ ((KeepsOthers.alloc _ _).from _) ((Kps.refl _ _).alloc _) ⟨⟨hC.alloc _, hR.alloc _⟩, ⟨hF, hB.alloc (by omega) _⟩, hK.alloc _⟩ ⟨W.heap.size, by omega, BoxE.new _ _ _ _ _, rfl⟩
  case body =>
    rintro l pre x a' W hl ⟨r, hr⟩ ⟨⟨hC, hRr⟩, ⟨hF, hB⟩, hK⟩ ⟨Bx, hBx, bX, rfl⟩ hlt
    have hlen : (strips pre).length = pre.length := by simp [strips]
    have HSN : Hid (strips (pre ++ [x]) = strips pre ++ [(x.1.lvl, x.1.e)]) := by show strips (pre ++ [x]) = _; simp [strips, YN.strip]
    have hsz := hK.size
    have bp : BoxP W w.heap.size p k := by
      obtain ⟨T, hT⟩ := HBP.out
      exact ⟨T, hK.keep _ _ (fun h => by have := HOO.out _ h; omega) hT rfl⟩
    have p0 := bp.c0
    have p1 := bp.c1
    have p2 := bp.c2
    have x0 := bX.c0
    have x1 := bX.c1
    have x2 := bX.c2
    have cc := hC.cell
    have cf := hC.frozen
    have rc := hRr.cell
    have rf := hRr.frozen
    have hTW : TblO W := HTW.out.stand (by
      obtain ⟨T, fr, hT⟩ := HTW.out
      rw [hT]
      exact hK.keep _ _ (fun h => by have := HOO.out _ h; omega) hT rfl)
    have HIE : Hid (∃ n, IsE W D n x.1.e (cellsI x.1.e x.1.a x.1.c)) := by
      obtain ⟨n, hn⟩ := x.2
      exact ⟨n, hn.later (hK.stand HDO.out)⟩
    have HC := Lib.hid hC
    have HRr := Lib.hid hRr
    have HF := Lib.hid hF
    have HB := Lib.hid hB
    have HK := Lib.hid hK
    have HTB := Lib.hid hTW
    have hpl : pre.length ≤ 15 := by have := hF.1; omega
    have HLEN := Lib.hid hlen
    clear hC hRr hF hB hK bp bX hTW hlen
    by_cases g1 : pre.length < 15
    case neg =>
      have g15 : pre.length = 15 := by omega
      have HN : Hid (¬ FitE p.vars.length p.arrs.length (strips (pre ++ [x]))) := fun h => by
        rw [HSN.out] at h
        have := h.last.1
        have := HLEN.out
        omega
      rw [g15] at cc
      simp only [Int.cast_ofNat_Int] at cc
      clear g15 g1
      gi_wp2
      refine ⟨trivial, ?_⟩
      gi_wp2
      exact ⟨((KeepsOthers.setCell _ _ _).trans (KeepsOthers.setCell _ _ _)).from _, ⟨rfl, HN.out⟩, (HRr.out.other (by omega) _).set _, (HB.out.setCell (p := ⟨w.heap.size + 1 + 1 + 1, 0, none⟩) (by simp; omega) _).setCell (p := ⟨w.heap.size + 1 + 1, 0, none⟩) (by simp; omega) _⟩
    case pos =>
    have d1 : decide ((15 : Int) < (pre.length : Int) + 1) = false := by simp; omega
    by_cases g2 : x.1.lvl ≤ 5
    case neg =>
      have d2 : decide ((5 : Int) < (x.1.lvl : Int)) = true := by simp; omega
      have HN : Hid (¬ FitE p.vars.length p.arrs.length (strips (pre ++ [x]))) := fun h => by
        rw [HSN.out] at h
        exact g2 h.last.2.1
      clear g2
      gi_wp2
      refine ⟨trivial, ?_⟩
      gi_wp2
      exact ⟨((KeepsOthers.setCell _ _ _).trans (KeepsOthers.setCell _ _ _)).from _, ⟨rfl, HN.out⟩, (HRr.out.other (by omega) _).set _, (HB.out.setCell (p := ⟨w.heap.size + 1 + 1 + 1, 0, none⟩) (by simp; omega) _).setCell (p := ⟨w.heap.size + 1 + 1, 0, none⟩) (by simp; omega) _⟩
    case pos =>
    have d2 : decide ((5 : Int) < (x.1.lvl : Int)) = false := by simp; omega
    obtain ⟨W1, hW1⟩ : ∃ W1, W1 = W.setCell ⟨w.heap.size + 1 + 1 + 1, 0, none⟩ (.int .i64 ((pre.length : Int) + 1)) := ⟨_, rfl⟩
    have hC1 : Boxed W1 (w.heap.size + 1 + 1 + 1) 3 (.int .i64 ((pre.length : Int) + 1)) := by rw [hW1]; exact HC.out.set _
    have hR1 : Boxed W1 (w.heap.size + 1 + 1) 4 (.bool false) := by rw [hW1]; exact HRr.out.other (by omega) _
    have hB1 : Below w.heap.size w W1 := by rw [hW1]; exact HB.out.setCell (p := ⟨w.heap.size + 1 + 1 + 1, 0, none⟩) (by simp; omega) _
    have hK1 : Kps O A6 W1 := by rw [hW1]; exact HK.out.set hOc _
    have hKw1 : Kps O W W1 := by rw [hW1]; exact (Kps.refl _ _).set hOc _
    have hO1 : KeepsOthers W W1 := by rw [hW1]; exact KeepsOthers.setCell _ _ _
    have hz1 : W1.heap.size = W.heap.size := by rw [hW1]; simp [World.setCell]
    have hT1 : TblO W1 := HTB.out.stand (by rw [hW1]; exact Below.heap_setCell _ _ _ _ (by simp))
    have hstW : Stand D W W1 := fun j hj => by rw [hW1]; exact Below.heap_setCell _ _ _ _ (fun h => (HDO.out j hj).1 (by
      simp at h
      rw [h]; exact hOc))
    have HIE1 : Hid (∃ n, IsE W1 D n x.1.e (cellsI x.1.e x.1.a x.1.c)) := by
      obtain ⟨n, hn⟩ := HIE.out
      exact ⟨n, hn.later hstW⟩
    have HW1 : Hid (W1 = W.setCell ⟨w.heap.size + 1 + 1 + 1, 0, none⟩ (.int .i64 ((pre.length : Int) + 1))) := hW1
    have HC1 := Lib.hid hC1
    have HR1 := Lib.hid hR1
    have HB1 := Lib.hid hB1
    have HK1 := Lib.hid hK1
    have HKW1 := Lib.hid hKw1
    have HO1 := Lib.hid hO1
    have HT1 := Lib.hid hT1
    have HDL1 : Hid (∀ j, D j → j < W1.heap.size) := fun j hj => by have := HDL.out j hj; omega
    clear hC1 hR1 hB1 hK1 hKw1 hO1 hT1 hstW hW1 HIE
    cases hq : nodeB p.vars.length p.arrs.length x.1.e
    case false =>
      have HN : Hid (¬ FitE p.vars.length p.arrs.length (strips (pre ++ [x]))) := fun h => by
        rw [HSN.out] at h
        have := h.last.2.2
        rw [hq] at this; cases this
      gi_wp2_with (refine ⟨trivial, ?_⟩; gi_at_call 46; rw [← HW1.out]; refine (CallsIn.inRound l (callsIn_wide.2 (iNode_one p k (Classical.choose HIE1.out) x.1.e x.1.a x.1.c D _ HT1.out (by omega) hmv hma (Classical.choose_spec HIE1.out) HDL1.out))).mono ?_; rintro e w2 ⟨rfl, hb2⟩; rw [hq]; have hb2' := HB1.out.trans (hb2.mono (by omega)); have hr2 : Boxed w2 (w.heap.size + 1 + 1) 4 (.bool false) := (hb2.block _ HR1.out.lt).trans HR1.out; have HO2 := Lib.hid (HO1.out.trans (KeepsOthers.below hb2)); have HB2 := Lib.hid hb2'; have HR2 := Lib.hid hr2; have c2 := hr2.cell; have f2 := hr2.frozen; clear hb2 hb2' hr2)
      exact ⟨(HO2.out.trans (KeepsOthers.setCell _ _ _)).from _, ⟨rfl, HN.out⟩, HR2.out.set _, HB2.out.setCell (p := ⟨w.heap.size + 1 + 1, 0, none⟩) (by simp; omega) _⟩
    case true =>
      have HN : Hid (FitE p.vars.length p.arrs.length (strips (pre ++ [x]))) := by
        show FitE _ _ _
        rw [HSN.out]
        exact HF.out.snoc (by have := HLEN.out; omega) g2 hq
      gi_wp2_with (refine ⟨trivial, ?_⟩; gi_at_call 46; rw [← HW1.out]; refine (CallsIn.inRound l (callsIn_wide.2 (iNode_one p k (Classical.choose HIE1.out) x.1.e x.1.a x.1.c D _ HT1.out (by omega) hmv hma (Classical.choose_spec HIE1.out) HDL1.out))).mono ?_; rintro e w2 ⟨rfl, hb2⟩; rw [hq]; have HB2 := Lib.hid hb2; clear hb2)
      refine ⟨(HO1.out.trans (KeepsOthers.below HB2.out)).from _, HKW1.out.below HB2.out, ⟨?_, (HB2.out.block _ HR1.out.lt).trans HR1.out⟩, ⟨HN.out, HB1.out.trans (HB2.out.mono (by omega))⟩, HK1.out.below HB2.out⟩
      have := (HB2.out.block _ HC1.out.lt).trans HC1.out
      rw [show (((pre ++ [x]).length : Nat) : Int) = (pre.length : Int) + 1 by simp]
      exact this
  case done =>
    rintro D0 ys W hD hys ⟨⟨hC, hRr⟩, ⟨hF, hB⟩, hK⟩ hKd
    have hsz := hK.size
    have rc := hRr.cell
    have rf := hRr.frozen
    have HN : Hid (true = rightB p.vars.length p.arrs.length e) := by
      show true = _
      rw [hys] at hF
      exact (HR.out.2 hF).symm
    have HRr := Lib.hid hRr
    have HB := Lib.hid hB
    have HKd := Lib.hid hKd
    clear hC hRr hF hB hKd hys
    gi_wp2
    have hK' := (KeepsOthers.setCell W ⟨w.heap.size + 1 + 1, 0, none⟩ (.bool true)).same D0 _ HKd.out rfl
    refine ⟨by simp, .inl ⟨_, _, rfl, run_takeDeferred hK', ?_⟩⟩
    have p0 := cell_kept (HRr.out.set (.bool true)).cell (grownBy_putObj' _ D0 (.deferred none)) (fun r e => by cases e; exact ⟨_, hK', rfl⟩)
    have hb := (HB.out.setCell (p := ⟨w.heap.size + 1 + 1, 0, none⟩) (by simp; omega) (.bool true)).trans (belowK_b (w := w) (Nat.le_refl _) _ D0 _ (.deferred none) (by omega) hK' rfl rfl)
    refine ⟨.bool true, ?_, AnsB.of HN.out hb⟩
    simp [results, Tryd.f32, go_sem, p0]
  case stop =>
    rintro D0 cc pre W hD hSp ⟨⟨rfl, hF⟩, hRr, hB⟩ hKd
    have HN : Hid (false = rightB p.vars.length p.arrs.length e) := by
      show false = _
      cases hq : rightB p.vars.length p.arrs.length e
      · rfl
      · exact absurd ((HR.out.1 hq).pre hSp) hF
    have HRr := Lib.hid hRr
    have HB := Lib.hid hB
    have HKd := Lib.hid hKd
    clear hRr hF hB hKd hSp
    gi_wp2
    refine ⟨by simp, .inl ⟨_, _, rfl, run_takeDeferred HKd.out, ?_⟩⟩
    have p0 := cell_kept HRr.out.cell (grownBy_putObj' _ D0 (.deferred none)) (fun r e => by cases e; exact ⟨_, HKd.out, rfl⟩)
    have hb := HB.out.trans (belowK_b (w := w) (Nat.le_refl _) _ D0 _ (.deferred none) (by omega) HKd.out rfl rfl)
    refine ⟨.bool false, ?_, AnsB.of HN.out hb⟩
    simp [results, Tryd.f32, go_sem, p0]

/-- **exprFits.** -/
theorem iFits_one (p : Pg) (k : PC) (n : Nat) (e : E) (a : Option Addr) (c : Nat) (D' : Nat → Prop) (w : World) (hT : TblO w) (hw : 2 ≤ w.heap.size) (hmv : p.vars.length ≤ maxLen) (hma : p.arrs.length ≤ maxLen) (h : IsE w D' n e (cellsI e a c)) (hl : ∀ k, D' k → k < w.heap.size) (hcn : cntE e ≤ 1099511627776) :
    Calls Tryd.prog 32 #[aggP p k, .agg #[.int .i64 e.kind, .int .i64 e.value, .slice a e.kids.length c]] w (AnsB (rightB p.vars.length p.arrs.length e) w) := callsIn_wide.1 (iFits_in p k n e a c D' w hT hw hmv hma h hl hcn)

set_option maxHeartbeats 2000000 in
/-- **ExprValid OF THE PROGRAM.** -/
theorem iExprValid_one (p : Pg) (k : PC) (n : Nat) (e : E) (a : Option Addr) (c : Nat) (D : Nat → Prop) (w : World) (hT : TblO w) (hw : 2 ≤ w.heap.size) (hp : IsP w D n p k) (h : IsE w D n e (cellsI e a c)) (hl : ∀ k, D k → k < w.heap.size) (hcn : cntE e ≤ 1099511627776) :
    Calls Tryd.prog 20 #[aggP p k, .agg #[.int .i64 e.kind, .int .i64 e.value, .slice a e.kids.length c]] w (AnsB (exprB p e) w) := by
  have hmv := Nat.le_trans hp.1.1 hp.1.2.1
  have hma := Nat.le_trans hp.2.1.1 hp.2.1.2.1
  have HMV := Lib.hid hmv
  have HMA := Lib.hid hma
  have H := Lib.hid h
  have HP := Lib.hid hp
  have HT := Lib.hid hT
  clear h hp hT hmv hma
  go_enter Tryd.func20, Tryd.ntmps20
  go_wp2_with fail
  obtain ⟨W, hW⟩ : ∃ W, ((w.alloc (.cells (arrP p k) 34)).alloc (.cells #[.int .i64 e.kind, .int .i64 e.value, .slice a e.kids.length c] 38)) = W := ⟨_, rfl⟩
  have hB : Below w.heap.size w W := by rw [← hW]; exact ((Below.refl _ w).alloc (Nat.le_refl _) _).alloc (by simp) _
  have hz : W.heap.size = w.heap.size + 2 := by rw [← hW]; simp
  have e0 : BoxP W w.heap.size p k := by
    rw [← hW]; exact (BoxP.new w p k _).later (Below.heap_alloc _ _ _ (by simp))
  have e1 : BoxE W (w.heap.size + 1) e a c := by
    have e1 := BoxE.new (w.alloc (.cells (arrP p k) 34)) e a c 38
    rw [World.size_alloc] at e1
    rw [← hW]; exact e1
  unfold arrP at hW
  rw [hW]
  clear hW
  have HB := Lib.hid hB
  have HX := Lib.hid e1
  have HY := Lib.hid e0
  have HZ := Lib.hid hz
  clear hB e1 e0 hz
  have hs0 := HB.out.size
  refine (iHeads_one p k n D W (HP.out.later (Stand.of_below HB.out hl)) (fun j hj => Nat.lt_of_lt_of_le (hl j hj) hs0)).mono ?_
  rintro g w1 ⟨rfl, hb1⟩
  have B1 := Lib.hid (HB.out.trans (hb1.mono hs0))
  have r := HX.out.below hb1 (by have := HZ.out; omega)
  have s := HY.out.below hb1 (by have := HZ.out; omega)
  have r0 := r.c0
  have r1 := r.c1
  have r2 := r.c2
  have s0 := s.c0
  have s1 := s.c1
  have s2 := s.c2
  clear hb1 r s HX HY HB
  cases hq : headsB p
  case false =>
    have HN : Hid (false = exprB p e) := by show false = _; unfold exprB; rw [hq]; rfl
    go_wp2_with fail
    go_ret
    exact AnsB.of HN.out B1.out
  case true =>
    have hs1 := B1.out.size
    have HN : Hid (rightB p.vars.length p.arrs.length e = exprB p e) := by show _ = exprB p e; unfold exprB; rw [hq]; rfl
    clear hq
    go_wp2_with fail
    refine (iFits_one p k n e a c D w1 (HT.out.below B1.out HT.out.lt) (by omega) HMV.out HMA.out (H.out.later (Stand.of_below B1.out hl)) (fun j hj => Nat.lt_of_lt_of_le (hl j hj) hs1) hcn).mono ?_
    rintro g w2 ⟨rfl, hb2⟩
    have B2 := Lib.hid (B1.out.trans (hb2.mono hs1))
    clear hb2
    rw [HN.out]
    go_wp2_with fail
    go_ret
    exact AnsB.of rfl B2.out

end Go.Proofs.YtnbngjgkmhdijaaDoor

/- The draw of an instruction: it is valid in a code of n instructions. -/
import Derived.Test.YtgfagdjadmpklaaCvF
import Derived.Test.YtgfagdjadmpklaaL3D
import Derived.Test.YtgfagdjadmpklaaRmB
import Derived.Deep.CutRange
import Derived.Deep.RegionHeld3
import Derived.Deep.RegionLaw
namespace Go.Proofs.Ytgfagdjadmpklaa
open Go.RowKit
set_option linter.unusedVariables false

/-- A row of five cells is written anew. -/
abbrev set5 (w : World) (b : Nat) (v0 v1 v2 v3 v4 : Value) : World := (((((w.setCell ⟨b, 0, none⟩ v0).setCell ⟨b, 1, none⟩ v1).setCell ⟨b, 2, none⟩ v2).setCell ⟨b, 3, none⟩ v3).setCell ⟨b, 4, none⟩ v4).drew
theorem drew_heap (w : World) : w.drew.heap = w.heap := rfl
theorem set5_row {w : World} {b : Nat} {T : TypeId} {fr : Nat × Nat} {a0 a1 a2 a3 a4 : Value} (v0 v1 v2 v3 v4 : Value) (h : w.heap[b]? = some (.cells #[a0, a1, a2, a3, a4] T fr)) : (set5 w b v0 v1 v2 v3 v4).heap[b]? = some (.cells #[v0, v1, v2, v3, v4] T fr) := by
  have h0 := blk_set (i := 0) h v0
  have h1 := blk_set (i := 1) h0 v1
  have h2 := blk_set (i := 2) h1 v2
  have h3 := blk_set (i := 3) h2 v3
  have h4 := blk_set (i := 4) h3 v4
  rw [drew_heap, h4]
  simp only [List.setIfInBounds_toArray, List.set_cons_zero, List.set_cons_succ]
theorem cell_other (w : World) (b o q : Nat) (v : Value) (h : q ≠ b) : (w.setCell ⟨b, o, none⟩ v).heap[q]? = w.heap[q]? := Below.heap_setCell _ _ _ _ (by simpa using h)
theorem below_cell {b o : Nat} {v : Value} {a w : World} (h : Below b a w) : Below b a (w.setCell ⟨b, o, none⟩ v) := h.setCell (p := ⟨b, o, none⟩) (Nat.le_refl _) _
theorem set5_other (w : World) (b : Nat) (v0 v1 v2 v3 v4 : Value) (q : Nat) (h : q ≠ b) : (set5 w b v0 v1 v2 v3 v4).heap[q]? = w.heap[q]? := by
  rw [drew_heap, cell_other _ _ _ _ _ h, cell_other _ _ _ _ _ h, cell_other _ _ _ _ _ h, cell_other _ _ _ _ _ h, cell_other _ _ _ _ _ h]
theorem set5_below (w : World) (b : Nat) (v0 v1 v2 v3 v4 : Value) : Below b w (set5 w b v0 v1 v2 v3 v4) := by
  have h := below_cell (o := 4) (v := v4) (below_cell (o := 3) (v := v3) (below_cell (o := 2) (v := v2) (below_cell (o := 1) (v := v1) (below_cell (o := 0) (v := v0) (Below.refl b w)))))
  exact h.drew

/-- What stands while an instruction is drawn: the code at C, the result's block behind it, the drawn operation at I. -/
structure RmS (B m C I nv na nl vc ac lc : Nat) (va aa la : Option Addr) (op : Nat) (w wx : World) : Prop where
  c0 : wx.heap[C]? = some (.cells #[.slice va nv vc, .slice aa na ac, .slice la nl lc] 70 (0, 0))
  c1 : wx.heap[C + 1]? = some (.cells #[.int .i64 0, .int .i64 0, .int .i64 0, .int .i64 0, .int .i64 0] 118 (0, 0))
  ci : wx.heap[I]? = some (.cells #[.int .i64 op, .int .i64 0, .int .i64 0, .int .i64 0, .int .i64 0] 118 (0, 0))
  rd : RdU wx B m
  oth : Oth B w wx
  bel : Below B w wx
theorem RmS.cells {B m C I nv na nl vc ac lc : Nat} {va aa la : Option Addr} {op : Nat} {w wx : World} (h : RmS B m C I nv na nl vc ac lc va aa la op w wx) :
    wx.cell? ⟨C, 0, none⟩ = some (.slice va nv vc) ∧ wx.cell? ⟨C, 1, none⟩ = some (.slice aa na ac) ∧ wx.cell? ⟨I, 0, none⟩ = some (.int .i64 op) ∧ wx.cell? ⟨C + 1, 0, none⟩ = some (.int .i64 0) ∧ wx.cell? ⟨C + 1, 1, none⟩ = some (.int .i64 0) ∧ wx.cell? ⟨C + 1, 2, none⟩ = some (.int .i64 0) ∧ wx.cell? ⟨C + 1, 3, none⟩ = some (.int .i64 0) ∧ wx.cell? ⟨C + 1, 4, none⟩ = some (.int .i64 0) :=
  ⟨by rw [cell_of_row _ _ _ _ _ _ h.c0]; rfl, by rw [cell_of_row _ _ _ _ _ _ h.c0]; rfl, by rw [cell_of_row _ _ _ _ _ _ h.ci]; rfl, by rw [cell_of_row _ _ _ _ _ _ h.c1]; rfl, by rw [cell_of_row _ _ _ _ _ _ h.c1]; rfl, by rw [cell_of_row _ _ _ _ _ _ h.c1]; rfl, by rw [cell_of_row _ _ _ _ _ _ h.c1]; rfl, by rw [cell_of_row _ _ _ _ _ _ h.c1]; rfl⟩

theorem RmS.below {B m C I nv na nl vc ac lc : Nat} {va aa la : Option Addr} {op : Nat} {w wx wy : World} (h : RmS B m C I nv na nl vc ac lc va aa la op w wx) (hb : Below wx.heap.size wx wy) : RmS B m C I nv na nl vc ac lc va aa la op w wy :=
  ⟨(hb.block C (Array.getElem?_eq_some_iff.1 h.c0).1).trans h.c0, (hb.block (C + 1) (Array.getElem?_eq_some_iff.1 h.c1).1).trans h.c1, (hb.block I (Array.getElem?_eq_some_iff.1 h.ci).1).trans h.ci, h.rd.below hb h.rd.lt, h.oth.trans (Oth.below hb), h.bel.trans (hb.mono (Nat.le_of_lt h.rd.lt))⟩
theorem RmS.setI {B m C I nv na nl vc ac lc : Nat} {va aa la : Option Addr} {op : Nat} {w wx : World} (h : RmS B m C I nv na nl vc ac lc va aa la op w wx) (hI : C + 1 < I) (hB : B < C) (hw : w.heap.size = C) (op' : Nat) : RmS B m C I nv na nl vc ac lc va aa la op' w (wx.setCell ⟨I, 0, none⟩ (.int .i64 op')) := by
  have hst : ∀ q, q ≠ I → (wx.setCell ⟨I, 0, none⟩ (.int .i64 op')).heap[q]? = wx.heap[q]? := fun q hq => Below.heap_setCell _ _ _ _ (by simpa using hq)
  have hb : Below I wx (wx.setCell ⟨I, 0, none⟩ (.int .i64 op')) := (Below.refl _ _).setCell (p := ⟨I, 0, none⟩) (Nat.le_refl _) _
  refine ⟨(hst C (by omega)).trans h.c0, (hst (C + 1) (by omega)).trans h.c1, ?_, h.rd.below hb (by omega), ⟨Nat.le_trans h.oth.1 hb.size, fun q hq hqB => (hst q (by omega)).trans (h.oth.2 q hq hqB)⟩, h.bel.trans (hb.mono (by omega))⟩
  rw [blk_set h.ci]; rfl
/-- A draw keeps it. -/
theorem RmS.draw {B m m' C I nv na nl vc ac lc : Nat} {va aa la : Option Addr} {op : Nat} {w wx wy : World} (h : RmS B m C I nv na nl vc ac lc va aa la op w wx) (hI : C + 1 < I) (hB : B < C) (hr : RdU wy B m') (ho : Oth B wx wy) (hb : Below B wx wy) : RmS B m' C I nv na nl vc ac lc va aa la op w wy :=
  ⟨(ho.2 C (Array.getElem?_eq_some_iff.1 h.c0).1 (by omega)).trans h.c0, (ho.2 (C + 1) (Array.getElem?_eq_some_iff.1 h.c1).1 (by omega)).trans h.c1, (ho.2 I (Array.getElem?_eq_some_iff.1 h.ci).1 (by omega)).trans h.ci, hr, h.oth.trans ho, h.bel.trans hb⟩
/-- A cell of another new block is written. -/
theorem RmS.setJ {B m C I J k nv na nl vc ac lc : Nat} {va aa la : Option Addr} {op : Nat} {w wx : World} (h : RmS B m C I nv na nl vc ac lc va aa la op w wx) (hI : C + 1 < I) (hJ : I < J) (hB : B < C) (hw : w.heap.size = C) (v : Value) : RmS B m C I nv na nl vc ac lc va aa la op w (wx.setCell ⟨J, k, none⟩ v) := by
  have hst : ∀ q, q ≠ J → (wx.setCell ⟨J, k, none⟩ v).heap[q]? = wx.heap[q]? := fun q hq => Below.heap_setCell _ _ _ _ (by simpa using hq)
  have hb : Below J wx (wx.setCell ⟨J, k, none⟩ v) := (Below.refl _ _).setCell (p := ⟨J, k, none⟩) (Nat.le_refl _) _
  exact ⟨(hst C (by omega)).trans h.c0, (hst (C + 1) (by omega)).trans h.c1, (hst I (by omega)).trans h.ci, h.rd.below hb (by omega), ⟨Nat.le_trans h.oth.1 hb.size, fun q hq hqB => (hst q (by omega)).trans (h.oth.2 q hq hqB)⟩, h.bel.trans (hb.mono (by omega))⟩

/-- The fields of an instruction, as a row's cells; one of them written anew. -/
def prtC (x : Ins) : Array Value := #[.int .i64 x.fa, .int .i64 x.fb, .int .i64 x.fc, .int .i64 x.fd]
def Ins.put (x : Ins) (j : Nat) (z : Int) : Ins := if j = 0 then { x with fa := z } else if j = 1 then { x with fb := z } else if j = 2 then { x with fc := z } else { x with fd := z }
theorem prtC_put (x : Ins) (j : Nat) (z : Int) (h : j < 4) : (prtC x).setIfInBounds j (.int .i64 z) = prtC (x.put j z) := by
  match j, h with
  | 0, _ | 1, _ | 2, _ | 3, _ => rfl
theorem Ins.put_op (x : Ins) (j : Nat) (z : Int) : (x.put j z).op = x.op := by unfold Ins.put; (repeat' split) <;> rfl
theorem Ins.put_same (x : Ins) (j : Nat) (z : Int) (h : j < 4) : (x.put j z).part j = z := by
  match j, h with
  | 0, _ | 1, _ | 2, _ | 3, _ => rfl
theorem Ins.put_ne (x : Ins) (j k : Nat) (z : Int) (hj : j < 4) (hk : k < 4) (h : k ≠ j) : (x.put j z).part k = x.part k := by
  match j, hj, k, hk, h with
  | 0, _, 0, _, h | 1, _, 1, _, h | 2, _, 2, _, h | 3, _, 3, _, h => exact absurd rfl h
  | 0, _, 1, _, _ | 0, _, 2, _, _ | 0, _, 3, _, _ | 1, _, 0, _, _ | 1, _, 2, _, _ | 1, _, 3, _, _ | 2, _, 0, _, _ | 2, _, 1, _, _ | 2, _, 3, _, _ | 3, _, 0, _, _ | 3, _, 1, _, _ | 3, _, 2, _, _ => rfl

/-- The fields up to j are drawn, the others are 0. -/
def PrtS (nv na n op j : Nat) (x : Ins) : Prop := x.op = op ∧ FldTo nv na n x j ∧ ∀ k, j ≤ k → k < 4 → x.part k = 0
theorem PrtS.zero (nv na n op : Nat) : PrtS nv na n op 0 ⟨op, 0, 0, 0, 0⟩ := ⟨rfl, FldTo.zero _ _ _ _, fun k _ h => by
  match k, h with
  | 0, _ | 1, _ | 2, _ | 3, _ => rfl⟩
theorem PrtS.step {nv na n op j : Nat} {x : Ins} (h : PrtS nv na n op j x) (hj : j < 4) {z : Int} (e : fldB nv na n (kdAt op j) z = true) : PrtS nv na n op (j + 1) (x.put j z) := by
  refine ⟨(x.put_op j z).trans h.1, fun k hk => ?_, fun k h1 h2 => ?_⟩
  · rw [x.put_op]
    by_cases hq : k = j
    · subst hq; rw [x.put_same k z hj, h.1]; simpa using e
    · rw [x.put_ne j k z hj (by omega) hq]; exact h.2.1 k (by omega)
  · rw [x.put_ne j k z hj h2 (by omega)]; exact h.2.2 k (by omega) h2
theorem PrtS.done {nv na n op j : Nat} {x : Ins} (h : PrtS nv na n op j x) (h1 : 1 ≤ op) (h2 : op ≤ 13) (hj : ∀ k, j ≤ k → kdAt op k = 0) : insB nv na n x = true := by
  have hf : FldTo nv na n x 4 := fun k hk => by
    by_cases hq : k < j
    · exact h.2.1 k hq
    · have e0 : kdAt x.op.toNat k = 0 := by rw [h.1]; exact hj k (by omega)
      rw [e0, h.2.2 k (by omega) hk]; rfl
  exact (hf.all (by rw [h.1]; omega) (by rw [h.1]; omega)).symm

theorem kdL_four (op j : Nat) (h : kdAt op j = 4) : op = 4 ∨ op = 5 := by
  by_cases ho : op ≤ 13
  · by_cases hj : j < 4
    · have hall : ∀ a : Fin 14, ∀ b : Fin 4, kdAt a.val b.val = 4 → a.val = 4 ∨ a.val = 5 := by decide
      exact hall ⟨op, by omega⟩ ⟨j, hj⟩ h
    · rw [kdL_none op j (by have := kdL_len op; omega)] at h; cases h
  · exfalso
    have e : kdL.getD op [] = [] := by
      rw [List.getD_eq_getElem?_getD, List.getElem?_eq_none (by simp [kdL]; omega)]; rfl
    unfold kdAt at h
    rw [e] at h
    cases h

/-- The loop over the fields. -/
def CgL (B m C I J nv na nl vc ac lc : Nat) (va aa la : Option Addr) (n op sz : Nat) (w : World) (i : Value) (wr : World) : Prop := ∃ (j : Nat) (x : Ins), i = .int .i64 j ∧ j ≤ sz ∧ PrtS nv na n op j x ∧ RmS B (m + j) C I nv na nl vc ac lc va aa la op w wr ∧ wr.heap[J]? = some (.cells (prtC x) 3 (0, 0))

set_option maxRecDepth 100000 in
set_option maxHeartbeats 8000000 in
theorem l6Random_one (B m nv na nl vc ac lc at' n : Nat) (va aa la : Option Addr) (w : World) (h : RdU w B m) (hm : m < 1099511620000) (hv1 : 1 ≤ nv) (hv : nv ≤ 12) (ha : na ≤ 2) (hn : n ≤ 100) (hat : at' + 1 < n) :
    Calls Try.prog 81 #[.pointer (some ⟨B, 0, none⟩), .agg #[.slice va nv vc, .slice aa na ac, .slice la nl lc], .int .i64 at', .int .i64 n] w fun e w' => ∃ x : Ins, e = .returned (.agg #[.int .i64 x.op, .int .i64 x.fa, .int .i64 x.fb, .int .i64 x.fc, .int .i64 x.fd]) ∧ insB nv na n x = true ∧ Below B w w' ∧ Oth B w w' ∧ RdU w' B (m + 5) := by
  have hlt := h.lt
  obtain ⟨C, hC⟩ : ∃ C, w.heap.size = C := ⟨_, rfl⟩
  obtain ⟨W2, hW2⟩ : ∃ W, (w.alloc (.cells #[.slice va nv vc, .slice aa na ac, .slice la nl lc] 70)).alloc (.cells #[.int .i64 0, .int .i64 0, .int .i64 0, .int .i64 0, .int .i64 0] 118) = W := ⟨_, rfl⟩
  have hz2 : W2.heap.size = C + 2 := by rw [← hW2, World.size_alloc, World.size_alloc, hC]
  obtain ⟨W, hW⟩ : ∃ W, W2.alloc (.cells #[.int .i64 1, .int .i64 2, .int .i64 3, .int .i64 6, .int .i64 2, .int .i64 7, .int .i64 9, .int .i64 4, .int .i64 5, .int .i64 11, .int .i64 8, .int .i64 12] 3) = W := ⟨_, rfl⟩
  have hl2 : ∀ i, i < 12 → W.cell? ⟨C + 2, 0 + i, none⟩ = some (.int .i64 (([1, 2, 3, 6, 2, 7, 9, 4, 5, 11, 8, 12] : List Int).getD i 0)) := by
    rw [← hW, ← hz2]; exact lit_cells W2 [1, 2, 3, 6, 2, 7, 9, 4, 5, 11, 8, 12] _
  have hb2 : Below C w W := by
    rw [← hW, ← hW2]
    exact ((((Below.refl C w).alloc (by omega) _).alloc (by rw [World.size_alloc]; omega) _)).alloc (by rw [World.size_alloc, World.size_alloc]; omega) _
  have hc0 : W.heap[C]? = some (.cells #[.slice va nv vc, .slice aa na ac, .slice la nl lc] 70 (0, 0)) := by
    rw [← hW, Below.heap_alloc _ _ _ (by omega), ← hW2, Below.heap_alloc _ _ _ (by rw [World.size_alloc]; omega), ← hC]; exact heap_alloc_new w _
  have hc1 : W.heap[C + 1]? = some (.cells #[.int .i64 0, .int .i64 0, .int .i64 0, .int .i64 0, .int .i64 0] 118 (0, 0)) := by
    rw [← hW, Below.heap_alloc _ _ _ (by omega), ← hW2]
    have := heap_alloc_new (w.alloc (.cells #[.slice va nv vc, .slice aa na ac, .slice la nl lc] 70)) (.cells #[.int .i64 0, .int .i64 0, .int .i64 0, .int .i64 0, .int .i64 0] 118)
    rw [World.size_alloc, hC] at this
    exact this
  have hz : W.heap.size = C + 3 := by rw [← hW, World.size_alloc, hz2]
  have hr2 : RdU W B m := h.below (by rw [hC]; exact hb2) hlt
  have HW2 := Lib.hid hW2
  have HW := Lib.hid hW
  have HL2 := Lib.hid hl2
  have HB2 := Lib.hid hb2
  have HC0 := Lib.hid hc0
  have HC1 := Lib.hid hc1
  have HR2 := Lib.hid hr2
  have HC := Lib.hid hC
  have HZ := Lib.hid hz
  have hBC : B < C := by omega
  clear h hW2 hW hl2 hb2 hc0 hc1 hr2 hz2 hlt
  go_enter Try.func81, Try.ntmps81
  go_wp2_with fail
  rw [HW2.out, HW.out]
  clear hC hz HW2 HW
  refine (numU B m (C + 2) 0 12 12 [1, 2, 3, 6, 2, 7, 9, 4, 5, 11, 8, 12] W HR2.out (by omega) (by omega) rfl (by omega) (by omega) HL2.out).mono ?_
  rintro f w1 ⟨u, hu, rfl, hr3, ho3, hb3⟩
  obtain ⟨uo, huo⟩ : ∃ uo : Nat, (uo : Int) = u := ⟨u.toNat, by simp only [List.mem_cons, List.not_mem_nil, or_false] at hu; omega⟩
  subst huo
  have hur : 1 ≤ uo ∧ uo ≤ 12 := by
    simp only [List.mem_cons, List.not_mem_nil, or_false] at hu
    omega
  have hsz3 := ho3.1
  have hz : W.heap.size = C + 3 := HZ.out
  obtain ⟨I, hI⟩ : ∃ I, w1.heap.size = I := ⟨_, rfl⟩
  have hIC : C + 3 ≤ I := by omega
  obtain ⟨W3, hW3⟩ : ∃ W3, w1.alloc (.cells #[.int .i64 uo, .int .i64 0, .int .i64 0, .int .i64 0, .int .i64 0] 118) = W3 := ⟨_, rfl⟩
  have hS3 : RmS B (m + 1) C I nv na nl vc ac lc va aa la uo w W3 := by
    have hst : ∀ q, q < C + 3 → q ≠ B → W3.heap[q]? = W.heap[q]? := fun q hq hqB => by rw [← hW3]; exact (Below.heap_alloc _ _ _ (by omega)).trans ((ho3.2 q (by omega) hqB))
    have hbw : Below w1.heap.size w1 W3 := by rw [← hW3]; exact (Below.refl _ _).alloc (Nat.le_refl _) _
    have how : Oth B w W := ⟨by rw [HC.out]; omega, fun q hq _ => HB2.out.block q (by rw [← HC.out]; exact hq)⟩
    refine ⟨(hst C (by omega) (by omega)).trans HC0.out, (hst (C + 1) (by omega) (by omega)).trans HC1.out, ?_, hr3.below hbw (by omega), (how.trans ho3).trans (Oth.below hbw), ((HB2.out.mono (by omega)).trans hb3).trans (hbw.mono (by omega))⟩
    rw [← hW3, ← hI]; exact heap_alloc_new w1 _
  have HS3 := Lib.hid hS3
  have HW3 := Lib.hid hW3
  obtain ⟨k0, k1, ki, _⟩ := hS3.cells
  rw [← hW3] at k0 k1 ki
  have HCC := Lib.hid HC.out
  clear hu hr3 ho3 hb3 hS3 hW3
  have hIC2 := HZ.out
  go_upto_region 2 with fail
  rw [HW3.out] at k0 k1 ki ⊢
  clear HL2 HB2 HC0 HC1 HR2 HC HW3 hz hIC2 HZ hsz3
  have HI := Lib.hid hI
  clear hI
  go_cut [30] from 13 (fun s30 wx => ∃ b : Bool, s30 = .bool b ∧ (b = true ↔ na = 0 ∧ (uo = 4 ∨ uo = 5)) ∧ Hid (RmS B (m + 1) C I nv na nl vc ac lc va aa la uo w wx))
  case first =>
    by_cases g : na = 0
    · subst g
      by_cases g4 : uo = 4
      · subst g4
        go_wp2_with fail
        go_meet
        case rel => exact ⟨true, rfl, by simp, HS3⟩
      · by_cases g5 : uo = 5
        · subst g5
          go_wp2_with fail
          go_meet
          case rel => exact ⟨true, rfl, by simp, HS3⟩
        · have n4 : ((uo : Int) == 4) = false := by simp; omega
          have n5 : ((uo : Int) == 5) = false := by simp; omega
          go_wp2_with fail
          go_meet
          case rel => exact ⟨false, rfl, by simp [g4, g5], HS3⟩
    · have n0 : ((na : Int) == 0) = false := by simp; omega
      go_wp2_with fail
      go_meet
      case rel => exact ⟨false, rfl, by simp [g], HS3⟩
  case rest =>
    obtain ⟨b, rfl, hb, HS⟩ := hcut
    obtain ⟨k0, k1, ki, _⟩ := HS.out.cells
    clear HS3
    go_upto_if 30 with fail
    go_cut [] from 13 (fun wx => ∃ op : Nat, Hid (1 ≤ op ∧ op ≤ 13 ∧ (na = 0 → op ≠ 4 ∧ op ≠ 5)) ∧ Hid (RmS B (m + 1) C I nv na nl vc ac lc va aa la op w wx))
    case first =>
      cases b
      · have HG : Hid (1 ≤ uo ∧ uo ≤ 13 ∧ (na = 0 → uo ≠ 4 ∧ uo ≠ 5)) := ⟨by omega, by omega, fun e => by simp at hb; omega⟩
        clear hb
        go_wp2_with fail
        go_meet
        case rel => exact ⟨uo, HG, HS⟩
      · clear hb
        have fi := frozen_of_row _ _ 0 _ _ HS.out.ci
        have HS4 : Hid (RmS B (m + 1) C I nv na nl vc ac lc va aa la 2 w (wc.setCell ⟨I, 0, none⟩ (.int .i64 2))) := HS.out.setI (by omega) hBC HCC.out 2
        go_wp2_with fail
        go_meet
        case rel => exact ⟨2, ⟨by omega, by omega, fun _ => ⟨by omega, by omega⟩⟩, HS4⟩
    case rest =>
      obtain ⟨op, HG, HX⟩ := hcut
      clear HS k0 k1 ki hb hur
      obtain ⟨k0, k1, ki, _⟩ := HX.out.cells
      obtain ⟨V, hV⟩ : ∃ V, V = wc := ⟨_, rfl⟩
      subst hV
      have h13 := HG.out.2.1
      go_wp2_with fail
      refine (l6Fields_one op h13 V).mono ?_
      rintro e w4 ⟨rfl, hb4⟩
      obtain ⟨s, hs⟩ : ∃ s, fsB op = s := ⟨_, rfl⟩
      rw [hs]
      have HK : Hid (∀ j, (h : j < s.size) → s[j] = kdC (kdAt op j) ∧ 1 ≤ kdAt op j) := fun j h => by
        subst hs
        exact ⟨fsB_at op j h, kdL_pos op j (by rw [← fsB_size]; exact h)⟩
      have HK0 : Hid (∀ j, s.size ≤ j → kdAt op j = 0) := fun j h => kdL_none op j (by rw [← fsB_size, hs]; omega)
      have hss : s.size ≤ 4 := by rw [← hs, fsB_size]; exact kdL_len op
      have HX4 := HX.out.below hb4
      obtain ⟨J, hJ⟩ : ∃ J, w4.heap.size = J := ⟨_, rfl⟩
      have hsz4 := hb4.size
      have hJI : I < J := by have := (Array.getElem?_eq_some_iff.1 HX.out.ci).1; omega
      obtain ⟨W5, hW5⟩ : ∃ W5, w4.alloc (.cells #[.int .i64 0, .int .i64 0, .int .i64 0, .int .i64 0] 3) = W5 := ⟨_, rfl⟩
      have HX5 : Hid (RmS B (m + 1) C I nv na nl vc ac lc va aa la op w W5) := HX4.below (by rw [← hW5]; exact (Below.refl _ _).alloc (Nat.le_refl _) _)
      have HJ5 : Hid (W5.heap[J]? = some (.cells (prtC ⟨op, 0, 0, 0, 0⟩) 3 (0, 0))) := by
        have : W5.heap[J]? = some (.cells (prtC ⟨op, 0, 0, 0, 0⟩) 3 (0, 0)) := by rw [← hW5, ← hJ]; exact heap_alloc_new w4 _
        exact this
      have HL0 : Hid (CgL B (m + 1) C I J nv na nl vc ac lc va aa la n op s.size w (.int .i64 0) W5) := ⟨0, ⟨op, 0, 0, 0, 0⟩, rfl, Nat.zero_le _, PrtS.zero _ _ _ _, HX5.out, HJ5.out⟩
      have HW5 := Lib.hid hW5
      clear hs hb4 HX HX4 hW5 HX5 HJ5 hsz4 k0 k1 ki
      go_wp2_with fail
      rw [HW5.out]
      clear HW5 hJ
      go_loopw [12] (fun i wr => CgL B (m + 1) C I J nv na nl vc ac lc va aa la n op s.size w i wr) (fun i _ => s.size - (intOf i).toNat)
      case atStart => exact HL0.out
      case round =>
        obtain ⟨j, x, rfl, hj, HP, HR, hJc⟩ := hrel
        obtain ⟨k0, k1, ki, q0, q1, q2, q3, q4⟩ := HR.cells
        have HRR := Lib.hid HR
        have HJR := Lib.hid hJc
        have HPP := Lib.hid HP
        have HRD := Lib.hid HR.rd
        have hj4 : j ≤ 4 := by omega
        clear HR hJc HP
        by_cases hlt : j < s.size
        · have hjl : j < 4 := by omega
          obtain ⟨kd, hkd⟩ : ∃ kd, kdAt op j = kd := ⟨_, rfl⟩
          obtain ⟨hsc, hk1⟩ := HK.out j hlt
          have hk6 := kdAt_le op j
          rw [hkd] at hsc hk1 hk6
          have HKD := Lib.hid hkd
          clear hkd
          obtain ⟨V2, hV2⟩ : ∃ V2, V2 = wr := ⟨_, rfl⟩
          subst hV2
          have hJV : J < V2.heap.size := (Array.getElem?_eq_some_iff.1 HJR.out).1
          -- what the end of a round needs
          have HEND : Hid (∀ (u : World) (z : Int), fldB nv na n kd z = true → RdU u B (m + 1 + j + 1) → Oth B V2 u → Below B V2 u → CgL B (m + 1) C I J nv na nl vc ac lc va aa la n op s.size w (.int .i64 ((j : Int) + 1)) (u.setCell ⟨J, j, none⟩ (.int .i64 z))) := fun u z hz hr ho hb => by
            have hR2 := (HRR.out.draw (by omega) hBC hr ho hb).setJ (k := j) (by omega) hJI hBC HCC.out (.int .i64 z)
            refine ⟨j + 1, x.put j z, by simp, by omega, HPP.out.step hjl (by rw [HKD.out]; exact hz), hR2, ?_⟩
            have := (ho.2 J hJV (by omega)).trans HJR.out
            rw [blk_set this, prtC_put x j z hjl]
          have HFR : Hid (∀ (u : World), Oth B V2 u → u.frozen? ⟨J, j, none⟩ = false ∧ ∃ v, u.cell? ⟨J, j, none⟩ = some v) := fun u ho => by
            have e := (ho.2 J hJV (by omega)).trans HJR.out
            refine ⟨frozen_of_row _ _ j _ _ e, ?_⟩
            rw [cell_of_row _ _ _ _ _ _ e]
            match j, hjl with
            | 0, _ | 1, _ | 2, _ | 3, _ => exact ⟨_, rfl⟩
          clear hk1 q0 q1 q2 q3 q4 HPP
          obtain rfl | rfl | rfl | rfl | rfl | rfl : kd = 1 ∨ kd = 2 ∨ kd = 3 ∨ kd = 4 ∨ kd = 5 ∨ kd = 6 := by have := (HK.out j hlt).2; have := HKD.out; omega
          · have hc : s[j] = 114 := hsc
            clear hsc
            go_wp2_with fail
            refine (pickU B (m + 1 + j) 3 V2 HRD.out (by omega) (by omega) (by omega)).mono ?_
            rintro f u ⟨z, hz, rfl, hr5, ho5, hb5⟩
            have hE := Lib.hid (HEND.out u z (by simp [fldB]; omega) hr5 ho5 hb5)
            obtain ⟨fz, vz, hvz⟩ := HFR.out u ho5
            clear hr5 ho5 hb5
            go_wp2_with fail
            go_roundw
            case rel => exact hE.out
            case measure => simp [intOf]; omega
          · have hc : s[j] = 99 := hsc
            clear hsc
            go_wp2_with fail
            refine (l3Value_one B (m + 1 + j) V2 HRD.out (by omega)).mono ?_
            rintro f u ⟨z, hz, rfl, hr5, ho5, hb5⟩
            have hE := Lib.hid (HEND.out u z (by simp [fldB]; omega) hr5 ho5 hb5)
            obtain ⟨fz, vz, hvz⟩ := HFR.out u ho5
            clear hr5 ho5 hb5
            go_wp2_with fail
            go_roundw
            case rel => exact hE.out
            case measure => simp [intOf]; omega
          · have hc : s[j] = 118 := hsc
            clear hsc
            go_wp2_with fail
            refine (pickU B (m + 1 + j) nv V2 HRD.out (by omega) (by omega) (by omega)).mono ?_
            rintro f u ⟨z, hz, rfl, hr5, ho5, hb5⟩
            have hE := Lib.hid (HEND.out u z (by simp [fldB]; omega) hr5 ho5 hb5)
            obtain ⟨fz, vz, hvz⟩ := HFR.out u ho5
            clear hr5 ho5 hb5
            go_wp2_with fail
            go_roundw
            case rel => exact hE.out
            case measure => simp [intOf]; omega
          · have hc : s[j] = 97 := hsc
            clear hsc
            have hn1 : 1 ≤ na := by
              rcases Nat.eq_zero_or_pos na with e | e
              · have h1 := HG.out.2.2 e
                have h2 := kdL_four op j HKD.out
                omega
              · exact e
            go_wp2_with fail
            refine (pickU B (m + 1 + j) na V2 HRD.out (by omega) (by omega) (by omega)).mono ?_
            rintro f u ⟨z, hz, rfl, hr5, ho5, hb5⟩
            have hE := Lib.hid (HEND.out u z (by simp [fldB]; omega) hr5 ho5 hb5)
            obtain ⟨fz, vz, hvz⟩ := HFR.out u ho5
            clear hr5 ho5 hb5
            go_wp2_with fail
            go_roundw
            case rel => exact hE.out
            case measure => simp [intOf]; omega
          · have hc : s[j] = 111 := hsc
            clear hsc
            go_wp2_with fail
            refine (pickU B (m + 1 + j) 7 V2 HRD.out (by omega) (by omega) (by omega)).mono ?_
            rintro f u ⟨z, hz, rfl, hr5, ho5, hb5⟩
            have hE := Lib.hid (HEND.out u (4 + z) (by simp [fldB]; omega) hr5 ho5 hb5)
            obtain ⟨fz, vz, hvz⟩ := HFR.out u ho5
            clear hr5 ho5 hb5
            go_wp2_with fail
            go_roundw
            case rel => exact hE.out
            case measure => simp [intOf]; omega
          · have hc : s[j] = 116 := hsc
            clear hsc
            go_wp2_with fail
            refine (pickU B (m + 1 + j) ((n : Int) - (at' : Int) - 1) V2 HRD.out (by omega) (by omega) (by omega)).mono ?_
            rintro f u ⟨z, hz, rfl, hr5, ho5, hb5⟩
            have hE := Lib.hid (HEND.out u ((at' : Int) + 1 + z) (by simp [fldB]; omega) hr5 ho5 hb5)
            obtain ⟨fz, vz, hvz⟩ := HFR.out u ho5
            clear hr5 ho5 hb5
            go_wp2_with fail
            go_roundw
            case rel => exact hE.out
            case measure => simp [intOf]; omega
        · have hje : j = s.size := by omega
          have hge : ¬ ((j : Int) < (s.size : Int)) := by omega
          have hib : insB nv na n x = true := HPP.out.done HG.out.1 HG.out.2.1 (fun k hk => HK0.out k (by omega))
          have hop : x.op = op := HPP.out.1
          have HIB := Lib.hid hib
          have r0 : wr.cell? ⟨J, 0, none⟩ = some (.int .i64 x.fa) := by rw [cell_of_row _ _ _ _ _ _ HJR.out]; rfl
          have r1 : wr.cell? ⟨J, 1, none⟩ = some (.int .i64 x.fb) := by rw [cell_of_row _ _ _ _ _ _ HJR.out]; rfl
          have r2 : wr.cell? ⟨J, 2, none⟩ = some (.int .i64 x.fc) := by rw [cell_of_row _ _ _ _ _ _ HJR.out]; rfl
          have r3 : wr.cell? ⟨J, 3, none⟩ = some (.int .i64 x.fd) := by rw [cell_of_row _ _ _ _ _ _ HJR.out]; rfl
          have f0 := frozen_of_row _ _ 0 _ _ HRR.out.c1
          have f1 := frozen_of_row _ _ 1 _ _ HRR.out.c1
          have f2 := frozen_of_row _ _ 2 _ _ HRR.out.c1
          have f3 := frozen_of_row _ _ 3 _ _ HRR.out.c1
          have f4 := frozen_of_row _ _ 4 _ _ HRR.out.c1
          clear HPP
          have HS5 : Hid (∀ v : World, v.heap[I]? = wr.heap[I]? → v.heap[J]? = wr.heap[J]? → v.cell? ⟨I, 0, none⟩ = some (.int .i64 op) ∧ v.cell? ⟨J, 0, none⟩ = some (.int .i64 x.fa) ∧ v.cell? ⟨J, 1, none⟩ = some (.int .i64 x.fb) ∧ v.cell? ⟨J, 2, none⟩ = some (.int .i64 x.fc) ∧ v.cell? ⟨J, 3, none⟩ = some (.int .i64 x.fd)) := fun v h1 h2 => by
            have e1 := h1.trans HRR.out.ci
            have e2 := h2.trans HJR.out
            exact ⟨by rw [cell_of_row _ _ _ _ _ _ e1]; rfl, by rw [cell_of_row _ _ _ _ _ _ e2]; rfl, by rw [cell_of_row _ _ _ _ _ _ e2]; rfl, by rw [cell_of_row _ _ _ _ _ _ e2]; rfl, by rw [cell_of_row _ _ _ _ _ _ e2]; rfl⟩
          have hS0 := HS5.out wr rfl rfl
          have hS1 := HS5.out wr.drew rfl rfl
          go_wp2_with fail
          refine wp_region_held_drew (S := (fun v => v.cell? ⟨I, 0, none⟩ = some (.int .i64 op) ∧ v.cell? ⟨J, 0, none⟩ = some (.int .i64 x.fa) ∧ v.cell? ⟨J, 1, none⟩ = some (.int .i64 x.fb) ∧ v.cell? ⟨J, 2, none⟩ = some (.int .i64 x.fc) ∧ v.cell? ⟨J, 3, none⟩ = some (.int .i64 x.fd))) (by kernel_rfl) hS1 (fun hHeld => ?_)
          refine wpAnyH_take (i := 0) (oi := ⟨some 99, _, _, _, _, _⟩) (v := ?_) rfl (by kernel_rfl) (by kernel_rfl) (by kernel_rfl) (fun _ _ _ h => h) (Or.inl ⟨by rfl, ?_⟩) (by assumption) ?_
          rotate_left
          · intro w hSw; (try dsimp only at hSw); go_simp; (try with_reducible rfl)
          simp only [Act.put, List.setIfInBounds_toArray, List.set_cons_zero, List.set_cons_succ]
          refine wpAnyH_take (i := 1) (oi := ⟨some 100, _, _, _, _, _⟩) (v := ?_) rfl (by kernel_rfl) (by kernel_rfl) (by kernel_rfl) (fun _ _ _ h => h) (Or.inl ⟨by rfl, ?_⟩) (by assumption) ?_
          rotate_left
          · intro w hSw; (try dsimp only at hSw); go_simp; (try with_reducible rfl)
          simp only [Act.put, List.setIfInBounds_toArray, List.set_cons_zero, List.set_cons_succ]
          refine wpAnyH_take (i := 2) (oi := ⟨some 101, _, _, _, _, _⟩) (v := ?_) rfl (by kernel_rfl) (by kernel_rfl) (by kernel_rfl) (fun _ _ _ h => h) (Or.inl ⟨by rfl, ?_⟩) (by assumption) ?_
          rotate_left
          · intro w hSw; (try dsimp only at hSw); go_simp; (try with_reducible rfl)
          simp only [Act.put, List.setIfInBounds_toArray, List.set_cons_zero, List.set_cons_succ]
          refine wpAnyH_take (i := 3) (oi := ⟨some 102, _, _, _, _, _⟩) (v := ?_) rfl (by kernel_rfl) (by kernel_rfl) (by kernel_rfl) (fun _ _ _ h => h) (Or.inl ⟨by rfl, ?_⟩) (by assumption) ?_
          rotate_left
          · intro w hSw; (try dsimp only at hSw); go_simp; (try with_reducible rfl)
          simp only [Act.put, List.setIfInBounds_toArray, List.set_cons_zero, List.set_cons_succ]
          refine wpAnyH_take (i := 4) (oi := ⟨some 103, _, _, _, _, _⟩) (v := ?_) rfl (by kernel_rfl) (by kernel_rfl) (by kernel_rfl) (fun _ _ _ h => h) (Or.inl ⟨by rfl, ?_⟩) (by assumption) ?_
          rotate_left
          · intro w hSw; (try dsimp only at hSw); go_simp; (try with_reducible rfl)
          simp only [Act.put, List.setIfInBounds_toArray, List.set_cons_zero, List.set_cons_succ]
          refine wpAnyH_take (i := 5) (oi := ⟨some 104, _, _, _, _, _⟩) (v := ?_) rfl (by kernel_rfl) (by kernel_rfl) (by kernel_rfl) (fun _ _ _ h => h) (Or.inl ⟨by rfl, ?_⟩) (by assumption) ?_
          rotate_left
          · intro w hSw; (try dsimp only at hSw); go_simp; (try with_reducible rfl)
          simp only [Act.put, List.setIfInBounds_toArray, List.set_cons_zero, List.set_cons_succ]
          refine wpAnyH_take (i := 6) (oi := ⟨some 105, _, _, _, _, _⟩) (v := ?_) rfl (by kernel_rfl) (by kernel_rfl) (by kernel_rfl) (fun _ _ _ h => h) (Or.inl ⟨by rfl, ?_⟩) (by assumption) ?_
          rotate_left
          · intro w hSw; (try dsimp only at hSw); go_simp; (try with_reducible rfl)
          simp only [Act.put, List.setIfInBounds_toArray, List.set_cons_zero, List.set_cons_succ]
          refine wpAnyH_take (i := 7) (oi := ⟨some 106, _, _, _, _, _⟩) (v := ?_) rfl (by kernel_rfl) (by kernel_rfl) (by kernel_rfl) (fun _ _ _ h => h) (Or.inl ⟨by rfl, ?_⟩) (by assumption) ?_
          rotate_left
          · intro w hSw; (try dsimp only at hSw); go_simp; (try with_reducible rfl)
          simp only [Act.put, List.setIfInBounds_toArray, List.set_cons_zero, List.set_cons_succ]
          refine wpAnyH_take (i := 8) (oi := ⟨some 107, _, _, _, _, _⟩) (v := ?_) rfl (by kernel_rfl) (by kernel_rfl) (by kernel_rfl) (fun _ _ _ h => h) (Or.inl ⟨by rfl, ?_⟩) (by assumption) ?_
          rotate_left
          · intro w hSw; (try dsimp only at hSw); go_simp; (try with_reducible rfl)
          simp only [Act.put, List.setIfInBounds_toArray, List.set_cons_zero, List.set_cons_succ]
          refine wpAnyH_take (i := 9) (oi := ⟨some 108, _, _, _, _, _⟩) (v := ?_) rfl (by kernel_rfl) (by kernel_rfl) (by kernel_rfl) (fun _ _ _ h => h) (Or.inl ⟨by rfl, ?_⟩) (by assumption) ?_
          rotate_left
          · intro w hSw; (try dsimp only at hSw); go_simp; (try with_reducible rfl)
          simp only [Act.put, List.setIfInBounds_toArray, List.set_cons_zero, List.set_cons_succ]
          refine wpAnyH_take (i := 10) (oi := ⟨some 109, _, _, _, _, _⟩) (v := ?_) rfl (by kernel_rfl) (by kernel_rfl) (by kernel_rfl) (fun _ _ _ h => h) (Or.inl ⟨by rfl, ?_⟩) (by assumption) ?_
          rotate_left
          · intro w hSw; (try dsimp only at hSw); go_simp; (try with_reducible rfl)
          simp only [Act.put, List.setIfInBounds_toArray, List.set_cons_zero, List.set_cons_succ]
          refine wpAnyH_take (i := 11) (oi := ⟨some 110, _, _, _, _, _⟩) (v := ?_) rfl (by kernel_rfl) (by kernel_rfl) (by kernel_rfl) (fun _ _ _ h => h) (Or.inl ⟨by rfl, ?_⟩) (by assumption) ?_
          rotate_left
          · intro w hSw; (try dsimp only at hSw); go_simp; (try with_reducible rfl)
          simp only [Act.put, List.setIfInBounds_toArray, List.set_cons_zero, List.set_cons_succ]
          refine wpAnyH_take (i := 12) (oi := ⟨some 111, _, _, _, _, _⟩) (v := ?_) rfl (by kernel_rfl) (by kernel_rfl) (by kernel_rfl) (fun _ _ _ h => h) (Or.inl ⟨by rfl, ?_⟩) (by assumption) ?_
          rotate_left
          · intro w hSw; (try dsimp only at hSw); go_simp; (try with_reducible rfl)
          simp only [Act.put, List.setIfInBounds_toArray, List.set_cons_zero, List.set_cons_succ]
          refine wpAnyH_take (i := 13) (oi := ⟨some 112, _, _, _, _, _⟩) (v := ?_) rfl (by kernel_rfl) (by kernel_rfl) (by kernel_rfl) (fun _ _ _ h => h) (Or.inl ⟨by rfl, ?_⟩) (by assumption) ?_
          rotate_left
          · intro w hSw; (try dsimp only at hSw); go_simp; (try with_reducible rfl)
          simp only [Act.put, List.setIfInBounds_toArray, List.set_cons_zero, List.set_cons_succ]
          refine wpAnyH_take (i := 14) (oi := ⟨some 113, _, _, _, _, _⟩) (v := ?_) rfl (by kernel_rfl) (by kernel_rfl) (by kernel_rfl) (fun _ _ _ h => h) (Or.inl ⟨by rfl, ?_⟩) (by assumption) ?_
          rotate_left
          · intro w hSw; (try dsimp only at hSw); go_simp; (try with_reducible rfl)
          simp only [Act.put, List.setIfInBounds_toArray, List.set_cons_zero, List.set_cons_succ]
          refine wpAnyH_ready (rs := [15]) (by kernel_rfl) (by simp) ?_
          refine AllReadyH.cons (o := ⟨none, _, _, _, _, _⟩) rfl (fun K hK => ?_) AllReadyH.nil
          go_simp
          obtain ⟨W9, hW9⟩ : ∃ W9, set5 wr (C + 1) (.int .i64 op) (.int .i64 x.fa) (.int .i64 x.fb) (.int .i64 x.fc) (.int .i64 x.fd) = W9 := ⟨_, rfl⟩
          have h9 : W9.heap[C + 1]? = some (.cells #[.int .i64 op, .int .i64 x.fa, .int .i64 x.fb, .int .i64 x.fc, .int .i64 x.fd] 118 (0, 0)) := by rw [← hW9]; exact set5_row _ _ _ _ _ HRR.out.c1
          have h9s : ∀ q, q ≠ C + 1 → W9.heap[q]? = wr.heap[q]? := fun q hq => by rw [← hW9]; exact set5_other _ _ _ _ _ _ _ q hq
          have h9b : Below (C + 1) wr W9 := by rw [← hW9]; exact set5_below _ _ _ _ _ _ _
          have hS9 := HS5.out W9 (h9s I (by omega)) (h9s J (by omega))
          have p0 : W9.cell? ⟨C + 1, 0, none⟩ = some (.int .i64 op) := by rw [cell_of_row _ _ _ _ _ _ h9]; rfl
          have p1 : W9.cell? ⟨C + 1, 1, none⟩ = some (.int .i64 x.fa) := by rw [cell_of_row _ _ _ _ _ _ h9]; rfl
          have p2 : W9.cell? ⟨C + 1, 2, none⟩ = some (.int .i64 x.fb) := by rw [cell_of_row _ _ _ _ _ _ h9]; rfl
          have p3 : W9.cell? ⟨C + 1, 3, none⟩ = some (.int .i64 x.fc) := by rw [cell_of_row _ _ _ _ _ _ h9]; rfl
          have p4 : W9.cell? ⟨C + 1, 4, none⟩ = some (.int .i64 x.fd) := by rw [cell_of_row _ _ _ _ _ _ h9]; rfl
          have hwc := HCC.out
          have HFIN : Hid (∃ y : Ins, Ending.returned (.agg #[.int .i64 op, .int .i64 x.fa, .int .i64 x.fb, .int .i64 x.fc, .int .i64 x.fd]) = .returned (.agg #[.int .i64 y.op, .int .i64 y.fa, .int .i64 y.fb, .int .i64 y.fc, .int .i64 y.fd]) ∧ insB nv na n y = true ∧ Below B w W9 ∧ Oth B w W9 ∧ RdU W9 B (m + 5)) :=
            ⟨x, by rw [hop], HIB.out, HRR.out.bel.trans (h9b.mono (by omega)), ⟨Nat.le_trans HRR.out.oth.1 h9b.size, fun q hq hqB => (h9s q (by omega)).trans (HRR.out.oth.2 q hq hqB)⟩, (HRR.out.rd.below h9b (by omega)).mono (by omega)⟩
          show K _ (set5 wr (C + 1) (.int .i64 op) (.int .i64 x.fa) (.int .i64 x.fb) (.int .i64 x.fc) (.int .i64 x.fd))
          rw [hW9]
          clear h9 h9s h9b hW9 hop
          refine hK.out _ _ hS9 (fun hHeld => ?_)
          clear hK K
          try simp only [Act.put, List.setIfInBounds_toArray, List.set_cons_zero, List.set_cons_succ]
          refine wpAnyH_done (by kernel_rfl) ?_ _
          go_wp2_with fail
          exact bodyPost_ret (v := .agg #[.int .i64 op, .int .i64 x.fa, .int .i64 x.fb, .int .i64 x.fc, .int .i64 x.fd]) (by simp [results, Try.f81, go_sem, p0, p1, p2, p3, p4]) rfl HFIN.out

end Go.Proofs.Ytgfagdjadmpklaa

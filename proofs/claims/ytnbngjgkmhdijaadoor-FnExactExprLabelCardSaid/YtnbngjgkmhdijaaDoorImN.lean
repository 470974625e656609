/- The program's judgement of one node of an expression: isIndexOf, isSimple, nodeFits answer what the plain functions say; nothing that was there has changed. Condition: the table of operands lies as the program's text lays it. -/
import Derived.Test.YtnbngjgkmhdijaaDoorEq
import Derived.Test.YtnbngjgkmhdijaaDoorTreeP
import Derived.BigQuiet
import Derived.Deep.QuietTactic
import Derived.Deep.RegionHeld3
import Derived.IntWalk
namespace Go.Proofs.YtnbngjgkmhdijaaDoor
open Go.RowKit
set_option linter.unusedVariables false

theorem below_drewNw {B : Nat} {a w : World} (h : Below B a w) (k : Nat) : Below B a (w.drewN k) := ⟨h.os, h.tape, h.output, h.size, h.block⟩

def opsCells : Array Value := #[.int .i64 0, .int .i64 0, .int .i64 0, .int .i64 1, .int .i64 2, .int .i64 2, .int .i64 2, .int .i64 2, .int .i64 2, .int .i64 2, .int .i64 2, .int .i64 3]
/-- The table of operands lies as it was laid. -/
def TblO (w : World) : Prop := ∃ (t : TypeId) (fr : Nat × Nat), w.heap[(0 : Nat)]? = some (.cells opsCells t fr)
theorem TblO.cell {w : World} (h : TblO w) (i : Nat) (hi : i < 12) : w.cell? ⟨0, i, none⟩ = some (.int .i64 (([0, 0, 0, 1, 2, 2, 2, 2, 2, 2, 2, 3] : List Int).getD i 0)) := by
  obtain ⟨t, fr, h⟩ := h
  have : w.cell? ⟨0, i, none⟩ = opsCells[i]? := by simp [World.cell?, h]
  rw [this]
  match i, hi with
  | 0, _ | 1, _ | 2, _ | 3, _ | 4, _ | 5, _ | 6, _ | 7, _ | 8, _ | 9, _ | 10, _ | 11, _ => rfl
theorem TblO.lt {w : World} (h : TblO w) : 0 < w.heap.size := by
  obtain ⟨t, fr, hg⟩ := h
  exact (Array.getElem?_eq_some_iff.1 hg).1
theorem TblO.stand {A B : World} (h : TblO A) (hb : B.heap[(0 : Nat)]? = A.heap[(0 : Nat)]?) : TblO B := by
  obtain ⟨t, fr, hg⟩ := h
  exact ⟨t, fr, hb.trans hg⟩
theorem TblO.below {n : Nat} {A B : World} (h : TblO A) (hb : Below n A B) (hn : 0 < n) : TblO B := h.stand (hb.block _ hn)

set_option maxHeartbeats 1000000 in
theorem iIndexOf_any (i : Int) (a : Option Addr) (n c : Nat) (w : World) (hn : n ≤ maxLen) : Calls Tryd.prog 56 #[.int .i64 i, .slice a n c] w fun e w' => e = .returned (.bool (decide (0 ≤ i) && decide (i < n))) ∧ w = w' := by
  unfold maxLen at hn
  by_cases h0 : 0 ≤ i
  · have d0 : decide (0 ≤ i) = true := by simpa using h0
    rw [d0]
    by_cases h1 : i < n
    · have d1 : decide (i < (n : Int)) = true := by simpa using h1
      rw [d1]
      go_enter Tryd.func56, Tryd.ntmps56
      go_wp2_with fail
      go_ret
      exact ⟨rfl, rfl⟩
    · have d1 : decide (i < (n : Int)) = false := by simpa using h1
      rw [d1]
      go_enter Tryd.func56, Tryd.ntmps56
      go_wp2_with fail
      go_ret
      exact ⟨rfl, rfl⟩
  · have d0 : decide (0 ≤ i) = false := by simpa using h0
    rw [d0]
    go_enter Tryd.func56, Tryd.ntmps56
    go_wp2_with fail
    go_ret
    exact ⟨rfl, rfl⟩

set_option maxHeartbeats 1000000 in
theorem iSimple_any (k v : Int) (c : Value) (a : Option Addr) (l m : Nat) (hc : c = .slice a l m) (w : World) : Calls Tryd.prog 57 #[.agg #[.int .i64 k, .int .i64 v, c]] w fun e w' => e = .returned (.bool (decide (k = 1) || decide (k = 2))) ∧ w' = w.alloc (.cells #[.int .i64 k, .int .i64 v, c] 38) := by
  subst hc
  by_cases h1 : k = 1
  · subst h1
    go_enter Tryd.func57, Tryd.ntmps57
    go_wp2
    go_ret
    exact ⟨rfl, rfl⟩
  · by_cases h2 : k = 2
    · subst h2
      go_enter Tryd.func57, Tryd.ntmps57
      go_wp2
      go_ret
      exact ⟨rfl, rfl⟩
    · have n1 : (k == 1) = false := by simpa using h1
      have n2 : (k == 2) = false := by simpa using h2
      have HD : Hid ((decide (k = 1) || decide (k = 2)) = false) := by
        show (decide (k = 1) || decide (k = 2)) = false
        simp [h1, h2]
      rw [HD.out]
      clear h1 h2
      go_enter Tryd.func57, Tryd.ntmps57
      go_wp2
      go_ret
      exact ⟨rfl, rfl⟩

theorem AnsB.of' {b c : Bool} {w : World} {e : Ending} {w' : World} (h : e = .returned (.bool b) ∧ Below w.heap.size w w') (hb : b = c) : AnsB c w e w' := ⟨by rw [h.1, hb], h.2⟩

/-- The two boxes that nodeFits lays. -/
abbrev boxN (w : World) (p : Pg) (k : PC) (kd v : Int) (a : Option Addr) (n c : Nat) : World := (w.alloc (.cells (arrP p k) 34)).alloc (.cells #[.int .i64 kd, .int .i64 v, .slice a n c] 38)

set_option maxRecDepth 100000 in
set_option maxHeartbeats 8000000 in
/-- A node whose number of operands is wrong, or whose kind is none. -/
theorem iNode_bad (p : Pg) (k : PC) (kd v : Int) (a : Option Addr) (n c : Nat) (w : World) (hT : TblO w) (hw : 2 ≤ w.heap.size) (hn : n ≤ maxLen) (hbad : (n : Int) ≠ arity kd) :
    Calls Tryd.prog 46 #[aggP p k, .agg #[.int .i64 kd, .int .i64 v, .slice a n c]] w fun e w' => e = .returned (.bool false) ∧ Below w.heap.size w w' := by
  unfold maxLen at hn
  have H0 : Hid (Below w.heap.size w (boxN w p k kd v a n c)) := ((Below.refl _ w).alloc (Nat.le_refl _) _).alloc (by simp) _
  have hg := hT.lt
  have hT2 : TblO ((w.alloc (.cells #[.slice k.va p.vars.length k.vc, .slice k.aa p.arrs.length k.ac, .slice k.ba p.body.length k.bc] 34)).alloc (.cells #[.int .i64 kd, .int .i64 v, .slice a n c] 38)) := hT.below H0.out hg
  have hkd : kd = 1 ∨ kd = 2 ∨ kd = 3 ∨ kd = 4 ∨ kd = 5 ∨ kd = 6 ∨ kd = 7 ∨ kd = 8 ∨ kd = 9 ∨ kd = 10 ∨ kd = 11 ∨ kd < 1 ∨ 11 < kd := by omega
  rcases hkd with rfl | rfl | rfl | rfl | rfl | rfl | rfl | rfl | rfl | rfl | rfl | h | h
  case inr.inr.inr.inr.inr.inr.inr.inr.inr.inr.inr.inl =>
    have d1 : decide (kd < 1) = true := by simpa using h
    clear hbad
    go_enter Tryd.func46, Tryd.ntmps46
    go_wp2_with fail
    go_quiet (fail)
    go_wp2_with fail
    go_ret
    exact ⟨rfl, below_drewNw H0.out _⟩
  case inr.inr.inr.inr.inr.inr.inr.inr.inr.inr.inr.inr =>
    have d1 : decide (kd < 1) = false := by simp; omega
    have d2 : decide (11 < kd) = true := by simpa using h
    clear hbad
    go_enter Tryd.func46, Tryd.ntmps46
    go_wp2_with fail
    go_quiet (fail)
    go_wp2_with fail
    go_ret
    exact ⟨rfl, below_drewNw H0.out _⟩
  case inl =>
    have hc := hT2.cell 1 (by omega)
    have hne : ((n : Int) != 0) = true := by simpa [arity] using hbad
    simp only [List.getD_cons_succ, List.getD_cons_zero] at hc
    clear hbad hT hT2
    go_enter Tryd.func46, Tryd.ntmps46
    go_wp2_with fail
    go_quiet (fail)
    go_wp2_with fail
    go_ret
    exact ⟨rfl, below_drewNw H0.out _⟩
  case inr.inl =>
    have hc := hT2.cell 2 (by omega)
    have hne : ((n : Int) != 0) = true := by simpa [arity] using hbad
    simp only [List.getD_cons_succ, List.getD_cons_zero] at hc
    clear hbad hT hT2
    go_enter Tryd.func46, Tryd.ntmps46
    go_wp2_with fail
    go_quiet (fail)
    go_wp2_with fail
    go_ret
    exact ⟨rfl, below_drewNw H0.out _⟩
  case inr.inr.inl =>
    have hc := hT2.cell 3 (by omega)
    have hne : ((n : Int) != 1) = true := by simpa [arity] using hbad
    simp only [List.getD_cons_succ, List.getD_cons_zero] at hc
    clear hbad hT hT2
    go_enter Tryd.func46, Tryd.ntmps46
    go_wp2_with fail
    go_quiet (fail)
    go_wp2_with fail
    go_ret
    exact ⟨rfl, below_drewNw H0.out _⟩
  case inr.inr.inr.inl =>
    have hc := hT2.cell 4 (by omega)
    have hne : ((n : Int) != 2) = true := by simpa [arity] using hbad
    simp only [List.getD_cons_succ, List.getD_cons_zero] at hc
    clear hbad hT hT2
    go_enter Tryd.func46, Tryd.ntmps46
    go_wp2_with fail
    go_quiet (fail)
    go_wp2_with fail
    go_ret
    exact ⟨rfl, below_drewNw H0.out _⟩
  case inr.inr.inr.inr.inl =>
    have hc := hT2.cell 5 (by omega)
    have hne : ((n : Int) != 2) = true := by simpa [arity] using hbad
    simp only [List.getD_cons_succ, List.getD_cons_zero] at hc
    clear hbad hT hT2
    go_enter Tryd.func46, Tryd.ntmps46
    go_wp2_with fail
    go_quiet (fail)
    go_wp2_with fail
    go_ret
    exact ⟨rfl, below_drewNw H0.out _⟩
  case inr.inr.inr.inr.inr.inl =>
    have hc := hT2.cell 6 (by omega)
    have hne : ((n : Int) != 2) = true := by simpa [arity] using hbad
    simp only [List.getD_cons_succ, List.getD_cons_zero] at hc
    clear hbad hT hT2
    go_enter Tryd.func46, Tryd.ntmps46
    go_wp2_with fail
    go_quiet (fail)
    go_wp2_with fail
    go_ret
    exact ⟨rfl, below_drewNw H0.out _⟩
  case inr.inr.inr.inr.inr.inr.inl =>
    have hc := hT2.cell 7 (by omega)
    have hne : ((n : Int) != 2) = true := by simpa [arity] using hbad
    simp only [List.getD_cons_succ, List.getD_cons_zero] at hc
    clear hbad hT hT2
    go_enter Tryd.func46, Tryd.ntmps46
    go_wp2_with fail
    go_quiet (fail)
    go_wp2_with fail
    go_ret
    exact ⟨rfl, below_drewNw H0.out _⟩
  case inr.inr.inr.inr.inr.inr.inr.inl =>
    have hc := hT2.cell 8 (by omega)
    have hne : ((n : Int) != 2) = true := by simpa [arity] using hbad
    simp only [List.getD_cons_succ, List.getD_cons_zero] at hc
    clear hbad hT hT2
    go_enter Tryd.func46, Tryd.ntmps46
    go_wp2_with fail
    go_quiet (fail)
    go_wp2_with fail
    go_ret
    exact ⟨rfl, below_drewNw H0.out _⟩
  case inr.inr.inr.inr.inr.inr.inr.inr.inl =>
    have hc := hT2.cell 9 (by omega)
    have hne : ((n : Int) != 2) = true := by simpa [arity] using hbad
    simp only [List.getD_cons_succ, List.getD_cons_zero] at hc
    clear hbad hT hT2
    go_enter Tryd.func46, Tryd.ntmps46
    go_wp2_with fail
    go_quiet (fail)
    go_wp2_with fail
    go_ret
    exact ⟨rfl, below_drewNw H0.out _⟩
  case inr.inr.inr.inr.inr.inr.inr.inr.inr.inl =>
    have hc := hT2.cell 10 (by omega)
    have hne : ((n : Int) != 2) = true := by simpa [arity] using hbad
    simp only [List.getD_cons_succ, List.getD_cons_zero] at hc
    clear hbad hT hT2
    go_enter Tryd.func46, Tryd.ntmps46
    go_wp2_with fail
    go_quiet (fail)
    go_wp2_with fail
    go_ret
    exact ⟨rfl, below_drewNw H0.out _⟩
  case inr.inr.inr.inr.inr.inr.inr.inr.inr.inr.inl =>
    have hc := hT2.cell 11 (by omega)
    have hne : ((n : Int) != 3) = true := by simpa [arity] using hbad
    simp only [List.getD_cons_succ, List.getD_cons_zero] at hc
    clear hbad hT hT2
    go_enter Tryd.func46, Tryd.ntmps46
    go_wp2_with fail
    go_quiet (fail)
    go_wp2_with fail
    go_ret
    exact ⟨rfl, below_drewNw H0.out _⟩

set_option maxRecDepth 100000 in
set_option maxHeartbeats 8000000 in
/-- A node that is an operation. -/
theorem iNode_op (p : Pg) (k : PC) (kd v : Int) (a : Option Addr) (n c : Nat) (w : World) (hT : TblO w) (hw : 2 ≤ w.heap.size) (hn : n ≤ maxLen) (hk : 4 ≤ kd ∧ kd ≤ 11) (hgood : (n : Int) = arity kd) :
    Calls Tryd.prog 46 #[aggP p k, .agg #[.int .i64 kd, .int .i64 v, .slice a n c]] w fun e w' => e = .returned (.bool (decide (v = 0))) ∧ Below w.heap.size w w' := by
  unfold maxLen at hn
  have H0 : Hid (Below w.heap.size w (boxN w p k kd v a n c)) := ((Below.refl _ w).alloc (Nat.le_refl _) _).alloc (by simp) _
  have hg := hT.lt
  have hT2 : TblO ((w.alloc (.cells #[.slice k.va p.vars.length k.vc, .slice k.aa p.arrs.length k.ac, .slice k.ba p.body.length k.bc] 34)).alloc (.cells #[.int .i64 kd, .int .i64 v, .slice a n c] 38)) := hT.below H0.out hg
  have hv : v = 0 ∨ v ≠ 0 := by omega
  have hkd : kd = 4 ∨ kd = 5 ∨ kd = 6 ∨ kd = 7 ∨ kd = 8 ∨ kd = 9 ∨ kd = 10 ∨ kd = 11 := by omega
  clear hk
  rcases hkd with rfl | rfl | rfl | rfl | rfl | rfl | rfl | rfl
  case inl =>
    have hc := hT2.cell 4 (by omega)
    have hne : ((n : Int) != 2) = false := by simpa [arity] using hgood
    simp only [List.getD_cons_succ, List.getD_cons_zero] at hc
    clear hgood hT hT2
    rcases hv with rfl | hv
    · go_enter Tryd.func46, Tryd.ntmps46
      go_wp2_with fail
      go_quiet (fail)
      go_wp2_with fail
      go_ret
      exact ⟨rfl, below_drewNw H0.out _⟩
    · have hv' : (v == 0) = false := by simpa using hv
      have HD : Hid (decide (v = 0) = false) := decide_eq_false hv
      rw [HD.out]
      clear hv
      go_enter Tryd.func46, Tryd.ntmps46
      go_wp2_with fail
      go_quiet (fail)
      go_wp2_with fail
      go_ret
      exact ⟨rfl, below_drewNw H0.out _⟩
  case inr.inl =>
    have hc := hT2.cell 5 (by omega)
    have hne : ((n : Int) != 2) = false := by simpa [arity] using hgood
    simp only [List.getD_cons_succ, List.getD_cons_zero] at hc
    clear hgood hT hT2
    rcases hv with rfl | hv
    · go_enter Tryd.func46, Tryd.ntmps46
      go_wp2_with fail
      go_quiet (fail)
      go_wp2_with fail
      go_ret
      exact ⟨rfl, below_drewNw H0.out _⟩
    · have hv' : (v == 0) = false := by simpa using hv
      have HD : Hid (decide (v = 0) = false) := decide_eq_false hv
      rw [HD.out]
      clear hv
      go_enter Tryd.func46, Tryd.ntmps46
      go_wp2_with fail
      go_quiet (fail)
      go_wp2_with fail
      go_ret
      exact ⟨rfl, below_drewNw H0.out _⟩
  case inr.inr.inl =>
    have hc := hT2.cell 6 (by omega)
    have hne : ((n : Int) != 2) = false := by simpa [arity] using hgood
    simp only [List.getD_cons_succ, List.getD_cons_zero] at hc
    clear hgood hT hT2
    rcases hv with rfl | hv
    · go_enter Tryd.func46, Tryd.ntmps46
      go_wp2_with fail
      go_quiet (fail)
      go_wp2_with fail
      go_ret
      exact ⟨rfl, below_drewNw H0.out _⟩
    · have hv' : (v == 0) = false := by simpa using hv
      have HD : Hid (decide (v = 0) = false) := decide_eq_false hv
      rw [HD.out]
      clear hv
      go_enter Tryd.func46, Tryd.ntmps46
      go_wp2_with fail
      go_quiet (fail)
      go_wp2_with fail
      go_ret
      exact ⟨rfl, below_drewNw H0.out _⟩
  case inr.inr.inr.inl =>
    have hc := hT2.cell 7 (by omega)
    have hne : ((n : Int) != 2) = false := by simpa [arity] using hgood
    simp only [List.getD_cons_succ, List.getD_cons_zero] at hc
    clear hgood hT hT2
    rcases hv with rfl | hv
    · go_enter Tryd.func46, Tryd.ntmps46
      go_wp2_with fail
      go_quiet (fail)
      go_wp2_with fail
      go_ret
      exact ⟨rfl, below_drewNw H0.out _⟩
    · have hv' : (v == 0) = false := by simpa using hv
      have HD : Hid (decide (v = 0) = false) := decide_eq_false hv
      rw [HD.out]
      clear hv
      go_enter Tryd.func46, Tryd.ntmps46
      go_wp2_with fail
      go_quiet (fail)
      go_wp2_with fail
      go_ret
      exact ⟨rfl, below_drewNw H0.out _⟩
  case inr.inr.inr.inr.inl =>
    have hc := hT2.cell 8 (by omega)
    have hne : ((n : Int) != 2) = false := by simpa [arity] using hgood
    simp only [List.getD_cons_succ, List.getD_cons_zero] at hc
    clear hgood hT hT2
    rcases hv with rfl | hv
    · go_enter Tryd.func46, Tryd.ntmps46
      go_wp2_with fail
      go_quiet (fail)
      go_wp2_with fail
      go_ret
      exact ⟨rfl, below_drewNw H0.out _⟩
    · have hv' : (v == 0) = false := by simpa using hv
      have HD : Hid (decide (v = 0) = false) := decide_eq_false hv
      rw [HD.out]
      clear hv
      go_enter Tryd.func46, Tryd.ntmps46
      go_wp2_with fail
      go_quiet (fail)
      go_wp2_with fail
      go_ret
      exact ⟨rfl, below_drewNw H0.out _⟩
  case inr.inr.inr.inr.inr.inl =>
    have hc := hT2.cell 9 (by omega)
    have hne : ((n : Int) != 2) = false := by simpa [arity] using hgood
    simp only [List.getD_cons_succ, List.getD_cons_zero] at hc
    clear hgood hT hT2
    rcases hv with rfl | hv
    · go_enter Tryd.func46, Tryd.ntmps46
      go_wp2_with fail
      go_quiet (fail)
      go_wp2_with fail
      go_ret
      exact ⟨rfl, below_drewNw H0.out _⟩
    · have hv' : (v == 0) = false := by simpa using hv
      have HD : Hid (decide (v = 0) = false) := decide_eq_false hv
      rw [HD.out]
      clear hv
      go_enter Tryd.func46, Tryd.ntmps46
      go_wp2_with fail
      go_quiet (fail)
      go_wp2_with fail
      go_ret
      exact ⟨rfl, below_drewNw H0.out _⟩
  case inr.inr.inr.inr.inr.inr.inl =>
    have hc := hT2.cell 10 (by omega)
    have hne : ((n : Int) != 2) = false := by simpa [arity] using hgood
    simp only [List.getD_cons_succ, List.getD_cons_zero] at hc
    clear hgood hT hT2
    rcases hv with rfl | hv
    · go_enter Tryd.func46, Tryd.ntmps46
      go_wp2_with fail
      go_quiet (fail)
      go_wp2_with fail
      go_ret
      exact ⟨rfl, below_drewNw H0.out _⟩
    · have hv' : (v == 0) = false := by simpa using hv
      have HD : Hid (decide (v = 0) = false) := decide_eq_false hv
      rw [HD.out]
      clear hv
      go_enter Tryd.func46, Tryd.ntmps46
      go_wp2_with fail
      go_quiet (fail)
      go_wp2_with fail
      go_ret
      exact ⟨rfl, below_drewNw H0.out _⟩
  case inr.inr.inr.inr.inr.inr.inr =>
    have hc := hT2.cell 11 (by omega)
    have hne : ((n : Int) != 3) = false := by simpa [arity] using hgood
    simp only [List.getD_cons_succ, List.getD_cons_zero] at hc
    clear hgood hT hT2
    rcases hv with rfl | hv
    · go_enter Tryd.func46, Tryd.ntmps46
      go_wp2_with fail
      go_quiet (fail)
      go_wp2_with fail
      go_ret
      exact ⟨rfl, below_drewNw H0.out _⟩
    · have hv' : (v == 0) = false := by simpa using hv
      have HD : Hid (decide (v = 0) = false) := decide_eq_false hv
      rw [HD.out]
      clear hv
      go_enter Tryd.func46, Tryd.ntmps46
      go_wp2_with fail
      go_quiet (fail)
      go_wp2_with fail
      go_ret
      exact ⟨rfl, below_drewNw H0.out _⟩

set_option maxRecDepth 100000 in
set_option maxHeartbeats 8000000 in
/-- A constant. -/
theorem iNode_const (p : Pg) (k : PC) (v : Int) (a : Option Addr) (c : Nat) (w : World) (hT : TblO w) (hw : 2 ≤ w.heap.size) :
    Calls Tryd.prog 46 #[aggP p k, .agg #[.int .i64 1, .int .i64 v, .slice a 0 c]] w fun e w' => e = .returned (.bool (decide (0 ≤ v) && decide (v ≤ 255))) ∧ Below w.heap.size w w' := by
  have H0 : Hid (Below w.heap.size w (boxN w p k 1 v a 0 c)) := ((Below.refl _ w).alloc (Nat.le_refl _) _).alloc (by simp) _
  have hg := hT.lt
  have hT2 : TblO ((w.alloc (.cells #[.slice k.va p.vars.length k.vc, .slice k.aa p.arrs.length k.ac, .slice k.ba p.body.length k.bc] 34)).alloc (.cells #[.int .i64 1, .int .i64 v, .slice a 0 c] 38)) := hT.below H0.out hg
  have hc := hT2.cell 1 (by omega)
  simp only [List.getD_cons_succ, List.getD_cons_zero] at hc
  clear hT hT2
  by_cases h0 : 0 ≤ v
  · have d0 : decide (0 ≤ v) = true := by simpa using h0
    rw [d0]
    by_cases h1 : v ≤ 255
    · have d1 : decide (v ≤ 255) = true := by simpa using h1
      rw [d1]
      go_enter Tryd.func46, Tryd.ntmps46
      go_wp2_with fail
      go_quiet (fail)
      go_wp2_with fail
      go_ret
      exact ⟨rfl, below_drewNw H0.out _⟩
    · have d1 : decide (v ≤ 255) = false := by simpa using h1
      rw [d1]
      go_enter Tryd.func46, Tryd.ntmps46
      go_wp2_with fail
      go_quiet (fail)
      go_wp2_with fail
      go_ret
      exact ⟨rfl, below_drewNw H0.out _⟩
  · have d0 : decide (0 ≤ v) = false := by simpa using h0
    rw [d0]
    go_enter Tryd.func46, Tryd.ntmps46
    go_wp2_with fail
    go_quiet (fail)
    go_wp2_with fail
    go_ret
    exact ⟨rfl, below_drewNw H0.out _⟩

set_option maxRecDepth 100000 in
set_option maxHeartbeats 8000000 in
/-- A variable. -/
theorem iNode_var (p : Pg) (k : PC) (v : Int) (a : Option Addr) (c : Nat) (w : World) (hT : TblO w) (hw : 2 ≤ w.heap.size) (hm : p.vars.length ≤ maxLen) :
    Calls Tryd.prog 46 #[aggP p k, .agg #[.int .i64 2, .int .i64 v, .slice a 0 c]] w fun e w' => e = .returned (.bool (decide (0 ≤ v) && decide (v < p.vars.length))) ∧ Below w.heap.size w w' := by
  have H0 : Hid (Below w.heap.size w (boxN w p k 2 v a 0 c)) := ((Below.refl _ w).alloc (Nat.le_refl _) _).alloc (by simp) _
  have hg := hT.lt
  have hT2 : TblO ((w.alloc (.cells #[.slice k.va p.vars.length k.vc, .slice k.aa p.arrs.length k.ac, .slice k.ba p.body.length k.bc] 34)).alloc (.cells #[.int .i64 2, .int .i64 v, .slice a 0 c] 38)) := hT.below H0.out hg
  have hc := hT2.cell 2 (by omega)
  simp only [List.getD_cons_succ, List.getD_cons_zero] at hc
  clear hT hT2
  go_enter Tryd.func46, Tryd.ntmps46
  go_wp2_with fail
  go_quiet (fail)
  go_wp2_with (go_at_call 56; refine (iIndexOf_any _ _ _ _ _ hm).mono ?_; rintro g w2 ⟨rfl, rfl⟩)
  go_ret
  exact ⟨rfl, below_drewNw H0.out _⟩

set_option maxRecDepth 100000 in
set_option maxHeartbeats 8000000 in
/-- A read. -/
theorem iNode_read (p : Pg) (k : PC) (v : Int) (b o c : Nat) (xk xv : Int) (xa : Option Addr) (xn xc : Nat) (w : World) (hT : TblO w) (hw : 2 ≤ w.heap.size) (hm : p.arrs.length ≤ maxLen) (hb : b < w.heap.size)
    (c0 : w.cell? ⟨b, o, none⟩ = some (.int .i64 xk)) (c1 : w.cell? ⟨b, o + 1, none⟩ = some (.int .i64 xv)) (c2 : w.cell? ⟨b, o + 2, none⟩ = some (.slice xa xn xc)) :
    Calls Tryd.prog 46 #[aggP p k, .agg #[.int .i64 3, .int .i64 v, .slice (some ⟨b, o, none⟩) 1 c]] w fun e w' => e = .returned (.bool ((decide (0 ≤ v) && decide (v < p.arrs.length)) && (decide (xk = 1) || decide (xk = 2)))) ∧ Below w.heap.size w w' := by
  have H0 : Hid (Below w.heap.size w (boxN w p k 3 v (some ⟨b, o, none⟩) 1 c)) := ((Below.refl _ w).alloc (Nat.le_refl _) _).alloc (by simp) _
  have hg := hT.lt
  have hT2 : TblO ((w.alloc (.cells #[.slice k.va p.vars.length k.vc, .slice k.aa p.arrs.length k.ac, .slice k.ba p.body.length k.bc] 34)).alloc (.cells #[.int .i64 3, .int .i64 v, .slice (some ⟨b, o, none⟩) 1 c] 38)) := hT.below H0.out hg
  have hc := hT2.cell 3 (by omega)
  simp only [List.getD_cons_succ, List.getD_cons_zero] at hc
  have g0 := (H0.out.cell (p := ⟨b, o, none⟩) hb).trans c0
  have g1 := (H0.out.cell (p := ⟨b, o + 1, none⟩) hb).trans c1
  have g2 := (H0.out.cell (p := ⟨b, o + 2, none⟩) hb).trans c2
  unfold boxN arrP at g0 g1 g2
  obtain ⟨q, hq⟩ : ∃ q, (decide (0 ≤ v) && decide (v < p.arrs.length)) = q := ⟨_, rfl⟩
  rw [hq]
  have HQ := Lib.hid hq
  clear hT hT2 c0 c1 c2 hq
  go_enter Tryd.func46, Tryd.ntmps46
  go_wp2_with fail
  go_quiet (fail)
  cases q
  · go_wp2_with (go_at_call 56; refine (iIndexOf_any _ _ _ _ _ hm).mono ?_; rintro g w2 ⟨rfl, rfl⟩; rw [HQ.out])
    go_ret
    exact ⟨rfl, below_drewNw H0.out _⟩
  · go_wp2_with (first | (go_at_call 56; refine (iIndexOf_any _ _ _ _ _ hm).mono ?_; rintro g w2 ⟨rfl, rfl⟩; rw [HQ.out]) | (go_at_call 57; refine (iSimple_any _ _ _ _ _ _ rfl _).mono ?_; rintro g w2 ⟨rfl, rfl⟩))
    go_ret
    exact ⟨rfl, (below_drewNw H0.out _).alloc (by simp; omega) _⟩

/-- **nodeFits, AT EVERY NODE.** -/
theorem iNode_one (p : Pg) (k : PC) (n : Nat) (e : E) (a : Option Addr) (c : Nat) (D : Nat → Prop) (w : World) (hT : TblO w) (hw : 2 ≤ w.heap.size) (hmv : p.vars.length ≤ maxLen) (hma : p.arrs.length ≤ maxLen) (h : IsE w D n e (cellsI e a c)) (hl : ∀ k, D k → k < w.heap.size) :
    Calls Tryd.prog 46 #[aggP p k, .agg #[.int .i64 e.kind, .int .i64 e.value, .slice a e.kids.length c]] w (AnsB (nodeB p.vars.length p.arrs.length e) w) := by
  cases n with
  | zero => exact h.elim
  | succ n =>
  obtain ⟨a', c', hcs, hcap, hm, hat⟩ := h
  simp at hcs
  obtain ⟨rfl, rfl⟩ := hcs
  obtain ⟨kd, v, ks⟩ := e
  simp only at hcap hat ⊢
  by_cases hgood : (ks.length : Int) = arity kd
  case neg =>
    refine (iNode_bad p k kd v a ks.length c w hT hw (Nat.le_trans hcap hm) hgood).mono fun e w' h => AnsB.of' h ?_
    simp [nodeB, hgood]
  case pos =>
  have hkd : kd = 1 ∨ kd = 2 ∨ kd = 3 ∨ (4 ≤ kd ∧ kd ≤ 11) := by
    by_cases h1 : kd < 1 ∨ 11 < kd
    · have : arity kd = -1 := by unfold arity; rw [if_neg (by omega), if_neg (by omega), if_neg (by omega), if_neg (by omega)]
      omega
    · omega
  rcases hkd with rfl | rfl | rfl | hkd
  · have h0 : ks = [] := by simpa [arity] using hgood
    subst h0
    refine (iNode_const p k v a c w hT hw).mono fun e w' h => AnsB.of' h ?_
    simp only [nodeB, arity, limit]
    simp
    by_cases h0 : 0 ≤ v <;> simp [h0] <;> omega
  · have h0 : ks = [] := by simpa [arity] using hgood
    subst h0
    refine (iNode_var p k v a c w hT hw hmv).mono fun e w' h => AnsB.of' h ?_
    simp [nodeB, arity, limit]
  · have h0 : ks.length = 1 := by simp [arity] at hgood; omega
    match ks, h0 with
    | [x], _ =>
      obtain ⟨b, o, c0, c1, c2, rfl, hbl, e0, e1, e2, hE⟩ := hat 0 x rfl
      obtain ⟨xa, xc, rfl, rfl, rfl, _, _⟩ := hE.shape
      simp only [Nat.zero_mul, Nat.add_zero] at e0 e1 e2
      refine (iNode_read p k v b o c x.kind x.value xa x.kids.length xc w hT hw hma (hl b hbl) e0 e1 e2).mono fun e w' h => AnsB.of' h ?_
      simp [nodeB, arity, limit, kid0B, atomB]
  · refine (iNode_op p k kd v a ks.length c w hT hw (Nat.le_trans hcap hm) hkd hgood).mono fun e w' h => AnsB.of' h ?_
    have e1 : limit p.vars.length p.arrs.length kd = 1 := by unfold limit; rw [if_neg (by omega), if_neg (by omega), if_neg (by omega)]
    have e2 : decide (kd = 3) = false := decide_eq_false (by omega)
    simp only [nodeB, e1, e2, decide_eq_true hgood]
    by_cases h0 : v = 0
    · subst h0; rfl
    · rw [decide_eq_false h0]
      by_cases h1 : 0 ≤ v
      · have : decide (v < 1) = false := by simp; omega
        simp [this]
      · have : decide (0 ≤ v) = false := by simp; omega
        simp [this]

end Go.Proofs.YtnbngjgkmhdijaaDoor

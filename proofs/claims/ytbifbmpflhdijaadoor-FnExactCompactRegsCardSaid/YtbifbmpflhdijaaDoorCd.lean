/- Code (two lists of ints and a list of instructions) as it lies in a world; the exact laws' helpers on it: szCode measures, toCode makes a copy, eqCode answers whether two are equal. Nothing that was there changes. -/
import Derived.Test.YtbifbmpflhdijaaDoorIn
import Derived.Test.YtbifbmpflhdijaaDoorMmB
namespace Go.Proofs.YtbifbmpflhdijaaDoor
open Go.RowKit
set_option linter.unusedVariables false

structure Cd where
  vars : List Int
  arrs : List Int
  list : List Ins
deriving DecidableEq
structure CK where
  va : Option Addr
  vc : Nat
  aa : Option Addr
  ac : Nat
  la : Option Addr
  lc : Nat
abbrev arrC (m : Cd) (k : CK) : Array Value := #[.slice k.va m.vars.length k.vc, .slice k.aa m.arrs.length k.ac, .slice k.la m.list.length k.lc]
abbrev aggC (m : Cd) (k : CK) : Value := .agg #[.slice k.va m.vars.length k.vc, .slice k.aa m.arrs.length k.ac, .slice k.la m.list.length k.lc]
/-- Code lies in the world. -/
def CL (w : World) (m : Cd) (k : CK) : Prop := IAt w (fun b => b < w.heap.size) m.vars k.va ∧ IAt w (fun b => b < w.heap.size) m.arrs k.aa ∧ NAt w (fun b => b < w.heap.size) m.list k.la
theorem CL.below {w w' : World} {m : Cd} {k : CK} (h : CL w m k) (hb : Below w.heap.size w w') : CL w' m k :=
  ⟨h.1.wide (fun j hj => hb.block j hj) fun j hj => Nat.lt_of_lt_of_le hj hb.size, h.2.1.wide (fun j hj => hb.block j hj) fun j hj => Nat.lt_of_lt_of_le hj hb.size, h.2.2.below hb⟩
/-- Every list of it is short. -/
def CSm (m : Cd) : Prop := m.vars.length ≤ 1048576 ∧ m.arrs.length ≤ 1048576 ∧ m.list.length ≤ 1048576

def BoxC (w : World) (b : Nat) (m : Cd) (k : CK) : Prop := ∃ T, w.heap[b]? = some (.cells (arrC m k) T (0, 0))
theorem BoxC.new (w : World) (m : Cd) (k : CK) (T : TypeId) : BoxC (w.alloc (.cells (arrC m k) T)) w.heap.size m k := ⟨T, heap_alloc_new w _⟩
theorem BoxC.later {w w' : World} {b : Nat} {m : Cd} {k : CK} (h : BoxC w b m k) (hb : w'.heap[b]? = w.heap[b]?) : BoxC w' b m k := by obtain ⟨T, h⟩ := h; exact ⟨T, hb.trans h⟩
theorem BoxC.below {w w' : World} {b B : Nat} {m : Cd} {k : CK} (h : BoxC w b m k) (hb : Below B w w') (hlt : b < B) : BoxC w' b m k := h.later (hb.block b hlt)
theorem BoxC.lt {w : World} {b : Nat} {m : Cd} {k : CK} (h : BoxC w b m k) : b < w.heap.size := by obtain ⟨T, h⟩ := h; exact (Array.getElem?_eq_some_iff.1 h).1
theorem BoxC.c0 {w : World} {b : Nat} {m : Cd} {k : CK} (h : BoxC w b m k) : w.cell? ⟨b, 0, none⟩ = some (.slice k.va m.vars.length k.vc) := by obtain ⟨T, h⟩ := h; rw [cellAtM h]; rfl
theorem BoxC.c1 {w : World} {b : Nat} {m : Cd} {k : CK} (h : BoxC w b m k) : w.cell? ⟨b, 1, none⟩ = some (.slice k.aa m.arrs.length k.ac) := by obtain ⟨T, h⟩ := h; rw [cellAtM h]; rfl
theorem BoxC.c2 {w : World} {b : Nat} {m : Cd} {k : CK} (h : BoxC w b m k) : w.cell? ⟨b, 2, none⟩ = some (.slice k.la m.list.length k.lc) := by obtain ⟨T, h⟩ := h; rw [cellAtM h]; rfl

set_option maxHeartbeats 4000000 in
/-- **szCode.** -/
theorem szC_one (m : Cd) (k : CK) (left : Int) (w : World) (h : CL w m k) (h0 : 0 ≤ left) (h1 : left ≤ 1048576) :
    Calls Tryd.prog 11 #[aggC m k, .int .i64 left] w (MSized (CSm m) left w) := by
  have hv := h.1.1
  have ha := h.2.1.1
  have hl := h.2.2.1
  clear h
  have HBX := Lib.hid (BoxC.new w m k 25)
  have HW := Lib.hid ((Below.refl w.heap.size w).alloc (Nat.le_refl _) (.cells (arrC m k) 25))
  go_enter Tryd.func11, Tryd.ntmps11
  go_wp2_with fail
  obtain ⟨W, hW⟩ : ∃ W, w.alloc (.cells (arrC m k) 25) = W := ⟨_, rfl⟩
  unfold arrC at hW
  rw [hW] at HBX HW ⊢
  clear hW
  have y1 := HBX.out.c1
  have y2 := HBX.out.c2
  refine (szI_one k.va m.vars.length k.vc left W h0 h1 hv).mono ?_
  rintro f w1 ⟨v1, rfl, hv1', hs1, rfl⟩
  by_cases hn1 : v1 < 0
  · go_wp2_with fail
    go_ret
    exact ⟨-1, rfl, by omega, fun h => absurd h (by omega), HW.out⟩
  go_wp2_with fail
  refine (szI_one k.aa m.arrs.length k.ac v1 _ (by omega) (by omega) ha).mono ?_
  rintro f w2 ⟨v2, rfl, hv2', hs2, rfl⟩
  by_cases hn2 : v2 < 0
  · go_wp2_with fail
    go_ret
    exact ⟨-1, rfl, by omega, fun h => absurd h (by omega), HW.out⟩
  go_wp2_with fail
  refine (szIn_one k.la m.list.length k.lc v2 _ (by omega) (by omega) hl).mono ?_
  rintro f w3 ⟨v3, rfl, hv3', hs3, rfl⟩
  by_cases hn3 : v3 < 0
  · go_wp2_with fail
    go_ret
    exact ⟨-1, rfl, by omega, fun h => absurd h (by omega), HW.out⟩
  go_wp2_with fail
  go_ret
  have q1 := hs1 (by omega)
  have q2 := hs2 (by omega)
  have q3 := hs3 (by omega)
  exact ⟨v3, rfl, by omega, fun _ => ⟨by omega, by omega, by omega⟩, HW.out⟩

/-- Two codes, boxed one behind the other. -/
theorem two_codes {w : World} (m n : Cd) (k l : CK) (T : TypeId) : Below w.heap.size w ((w.alloc (.cells (arrC m k) T)).alloc (.cells (arrC n l) T)) ∧ BoxC ((w.alloc (.cells (arrC m k) T)).alloc (.cells (arrC n l) T)) w.heap.size m k ∧
    BoxC ((w.alloc (.cells (arrC m k) T)).alloc (.cells (arrC n l) T)) (w.heap.size + 1) n l ∧ ((w.alloc (.cells (arrC m k) T)).alloc (.cells (arrC n l) T)).heap.size = w.heap.size + 2 := by
  refine ⟨((Below.refl w.heap.size w).alloc (Nat.le_refl _) _).alloc (by simp) _, ?_, ?_, by simp⟩
  · exact (BoxC.new w m k T).later (Below.heap_alloc _ _ _ (by simp))
  · have := BoxC.new (w.alloc (.cells (arrC m k) T)) n l T
    rw [World.size_alloc] at this
    exact this

theorem Cd.ext' {m n : Cd} (h1 : m.vars = n.vars) (h2 : m.arrs = n.arrs) (h3 : m.list = n.list) : m = n := by cases m; cases n; simp_all

/-- Code is handed back that reads alike. -/
def CopyC (m : Cd) (w : World) (f : Ending) (w' : World) : Prop := ∃ k, f = .returned (aggC m k) ∧ CL w' m k ∧ Below w.heap.size w w'

end Go.Proofs.YtbifbmpflhdijaaDoor

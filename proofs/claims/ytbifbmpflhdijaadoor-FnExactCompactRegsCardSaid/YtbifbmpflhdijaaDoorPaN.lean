/- What a pass of an exported function answers; a code whose rows three calls have made. -/
import Derived.Test.YtbifbmpflhdijaaDoorToCO
import Derived.Test.YtbifbmpflhdijaaDoorThC
import Derived.Test.YtbifbmpflhdijaaDoorCvJ
namespace Go.Proofs.YtbifbmpflhdijaaDoor
open Go.RowKit
set_option linter.unusedVariables false

/-- What a pass makes of a code, and whether the code is valid. -/
def PassV (g : List Ins → List Ins) (m m' : Cd) (b : Bool) : Prop := (codeB m = true → b = true ∧ m' = ⟨m.vars, m.arrs, g m.list⟩) ∧ (codeB m = false → b = false ∧ m' = ⟨[], [], []⟩)
theorem PassV.uniq {g : List Ins → List Ins} {m m' m'' : Cd} {b b' : Bool} (h : PassV g m m' b) (h' : PassV g m m'' b') : m' = m'' ∧ b = b' := by
  cases hq : codeB m
  · exact ⟨(h.2 hq).2.trans (h'.2 hq).2.symm, (h.2 hq).1.trans (h'.2 hq).1.symm⟩
  · exact ⟨(h.1 hq).2.trans (h'.1 hq).2.symm, (h.1 hq).1.trans (h'.1 hq).1.symm⟩
/-- A code is handed back in rows of its own, and a bool. -/
def PassN (g : List Ins → List Ins) (m : Cd) (w : World) (e : Ending) (w' : World) : Prop := ∃ (m' : Cd) (k' : CK) (b : Bool), e = .returned (.tuple #[aggC m' k', .bool b]) ∧ PassV g m m' b ∧ OwnC w' w.heap.size m' k' ∧ Below w.heap.size w w'
theorem blk_no {a : Option Addr} {g : Nat} (h : blk a 0 = some g) : False := by rw [blk_zero] at h; cases h
theorem OwnC.none (w : World) (base : Nat) : OwnC w base ⟨[], [], []⟩ ⟨none, 0, none, 0, none, 0⟩ := ⟨.inl ⟨rfl, rfl⟩, .inl ⟨rfl, rfl⟩, .inl ⟨rfl, rfl⟩, fun g h => (blk_no h).elim, fun g h => (blk_no h).elim, fun g h => (blk_no h).elim⟩
theorem OwnC.three {w1 w2 w3 w4 W : World} {base : Nat} {m : Cd} {va aa la : Option Addr} {vc ac lc : Nat} {ys : List Ins} (hb : base ≤ w1.heap.size)
    (ho2 : w2.ownsRow w1.heap.size 3 1 (.slice va m.vars.length vc) m.vars.length (m.vars.map (Value.int .i64))) (hb3 : Below w2.heap.size w2 w3)
    (ho3 : w3.ownsRow w2.heap.size 3 1 (.slice aa m.arrs.length ac) m.arrs.length (m.arrs.map (Value.int .i64))) (hb4 : Below w3.heap.size w3 w4)
    (ho4 : w4.ownsRow w3.heap.size 50 5 (.slice la ys.length lc) ys.length (flatN ys)) (hW : ∀ j, w1.heap.size ≤ j → W.heap[j]? = w4.heap[j]?) (h12 : w1.heap.size ≤ w2.heap.size := by omega) : OwnC W base ⟨m.vars, m.arrs, ys⟩ ⟨va, vc, aa, ac, la, lc⟩ := by
  have q2 := RowX.of ho2
  have q3 := RowX.of ho3
  have q4 := RowX.of ho4
  have l2 := q2.lt
  have l3 := q3.lt
  have l4 := q4.lt
  have z3 := hb3.size
  have z4 := hb4.size
  refine ⟨(((q2.far fun g _ hl => hb3.block g hl).far fun g _ hl => hb4.block g hl).far fun g hg _ => hW g (l2 g hg).1).mono hb, ((q3.far fun g _ hl => hb4.block g hl).far fun g hg _ => hW g (by have := (l3 g hg).1; omega)).mono (by omega), (q4.far fun g hg _ => hW g (by have := (l4 g hg).1; omega)).mono (by omega), fun g h1 h2 => ?_, fun g h1 h2 => ?_, fun g h1 h2 => ?_⟩
  · have := l2 g h1
    have := l3 g h2
    omega
  · have := l2 g h1
    have := l4 g h2
    omega
  · have := l3 g h1
    have := l4 g h2
    omega
/-- Facts on another block stand where three cells are written. -/
theorem facts_put3 {w : World} {b b' : Nat} {v0 v1 v2 : Value} (n0 n1 n2 : Value) (hne : b' ≠ b) (h : w.cell? ⟨b', 0, none⟩ = some v0 ∧ w.cell? ⟨b', 1, none⟩ = some v1 ∧ w.cell? ⟨b', 2, none⟩ = some v2) :
    (((w.setCell ⟨b, 0, none⟩ n0).setCell ⟨b, 1, none⟩ n1).setCell ⟨b, 2, none⟩ n2).cell? ⟨b', 0, none⟩ = some v0 ∧ (((w.setCell ⟨b, 0, none⟩ n0).setCell ⟨b, 1, none⟩ n1).setCell ⟨b, 2, none⟩ n2).cell? ⟨b', 1, none⟩ = some v1 ∧ (((w.setCell ⟨b, 0, none⟩ n0).setCell ⟨b, 1, none⟩ n1).setCell ⟨b, 2, none⟩ n2).cell? ⟨b', 2, none⟩ = some v2 := by
  have hb : (((w.setCell ⟨b, 0, none⟩ n0).setCell ⟨b, 1, none⟩ n1).setCell ⟨b, 2, none⟩ n2).heap[b']? = w.heap[b']? := by
    rw [Below.heap_setCell _ _ _ _ (by simpa using hne), Below.heap_setCell _ _ _ _ (by simpa using hne), Below.heap_setCell _ _ _ _ (by simpa using hne)]
  exact ⟨(World.cell?_of_block (w := w) (a := ⟨b', 0, none⟩) hb).trans h.1, (World.cell?_of_block (w := w) (a := ⟨b', 1, none⟩) hb).trans h.2.1, (World.cell?_of_block (w := w) (a := ⟨b', 2, none⟩) hb).trans h.2.2⟩

end Go.Proofs.YtbifbmpflhdijaaDoor

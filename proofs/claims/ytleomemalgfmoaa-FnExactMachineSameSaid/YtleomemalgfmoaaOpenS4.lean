/- An argument of type Machine, opened: whatever reads as a value of that type lies in memory as a number, a list of ints and a memory. -/
import Derived.Test.YtleomemalgfmoaaMc
import Derived.Test.YtleomemalgfmoaaOpenM
namespace Go.Proofs.Ytleomemalgfmoaa
open Go.RowKit Go.ChangeShapes Go.WideShapes Go.Deep
set_option linter.unusedVariables false

theorem ms_cellsS : Try.prog.cellsOf 45 = 4 := by kernel_rfl

set_option maxRecDepth 100000 in
/-- **AN ARGUMENT OF TYPE Machine.** -/
theorem open_S4 {H : Type} {enc : TypeId × Value → H} {w : World} {base : Nat} {sp : Nat → Bool} {hd : Bool} (fuel : Nat) (cs : List Value) (x : DataW H × List MemPlace) (h : DataW.trod enc Try.prog w base sp hd fuel 45 cs = some x) :
    ∃ m k, cs = (arrS4 m k).toList ∧ SL w m k := by
  obtain ⟨ys, n, rfl, _, hlen, hyl, hf⟩ := DataW.trod_struct Try.underlying45 h
  rw [ms_cellsS] at hlen
  match cs, hlen with
  | [c0, c1, c2, c3], _ =>
    match ys, hyl with
    | [y0, y1, y2], _ =>
      have f0 : DataW.trod enc Try.prog w base sp hd n 3 [c0] = some y0 := by simpa [mm_cellsInt] using hf 0 _ rfl
      have f1 : DataW.trod enc Try.prog w base sp hd n 23 [c1] = some y1 := by simpa [mm_cellsInt, mm_cellsInts] using hf 1 _ rfl
      have f2 : DataW.trod enc Try.prog w base sp hd n 43 [c2, c3] = some y2 := by simpa [mm_cellsInt, mm_cellsInts, mm_cellsM] using hf 2 _ rfl
      obtain ⟨k0, e0, _, _⟩ := DataW.trod_int Try.underlying3 f0
      cases e0
      obtain ⟨vs, va, vc, rfl, hv⟩ := open_ints' n _ _ f1
      obtain ⟨mm, mk, hmm, hm⟩ := open_M n _ _ f2
      simp at hmm
      obtain ⟨rfl, rfl⟩ := hmm
      exact ⟨⟨k0, vs, mm⟩, ⟨va, vc, mk⟩, rfl, hv, hm⟩

end Go.Proofs.Ytleomemalgfmoaa

/- An argument of type Cache, opened: whatever reads as a value of that type lies in memory as a list of ints. -/
import Derived.Test.YteoaecfjgbkefaaCaH
import Derived.Test.YteoaecfjgbkefaaOpenMB
namespace Go.Proofs.Yteoaecfjgbkefaa
open Go.RowKit Go.ChangeShapes Go.WideShapes Go.Deep
set_option linter.unusedVariables false

theorem ca_cells : Try.prog.cellsOf 47 = 1 := by kernel_rfl

set_option maxRecDepth 100000 in
/-- **AN ARGUMENT OF TYPE Cache.** -/
theorem open_Ca {H : Type} {enc : TypeId × Value → H} {w : World} {base : Nat} {sp : Nat → Bool} {hd : Bool} (fuel : Nat) (cs : List Value) (x : DataW H × List MemPlace) (h : DataW.trod enc Try.prog w base sp hd fuel 47 cs = some x) :
    ∃ xs a n c, cs = [.slice a n c] ∧ SliceI w a n xs := by
  obtain ⟨ys, n, rfl, _, hlen, hyl, hf⟩ := DataW.trod_struct Try.underlying47 h
  rw [ca_cells] at hlen
  match cs, hlen with
  | [c0], _ =>
    match ys, hyl with
    | [y0], _ =>
      have f0 : DataW.trod enc Try.prog w base sp hd n 23 [c0] = some y0 := by simpa [mm_cellsInts] using hf 0 _ rfl
      obtain ⟨vs, va, vc, rfl, hv⟩ := open_ints' n _ _ f0
      exact ⟨vs, va, vs.length, vc, rfl, hv.slice⟩

end Go.Proofs.Yteoaecfjgbkefaa

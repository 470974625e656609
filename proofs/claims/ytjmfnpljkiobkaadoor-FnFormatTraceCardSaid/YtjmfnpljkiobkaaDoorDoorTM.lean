/- What the condition on the tables gives the walks, and that the start which the program's own text lays meets it. -/
import Derived.Test.YtjmfnpljkiobkaaDoorRows
import Derived.Test.YtjmfnpljkiobkaaDoorLFmM
import Derived.ProofKit
import Derived.LaidMore
import Derived.OpenShut
import Derived.ShutString
import Derived.ChangeOld
import Derived.ChangeVars
import Derived.Stop.Joined
import Derived.WalkSmall
import Derived.Lib.LaidTab
namespace Go.Proofs.YtjmfnpljkiobkaaDoor
open Go.ChangeShapes Go.WideShapes Go.ChangeAt Go.WideMaps Go.WideElems Go.RowKit

theorem own : ownKnob Tryd.prog.godebug = none := by kernel_rfl
theorem laidOut : laidOutB Tryd.prog = true := by kernel_rfl
theorem gEv : Tryd.prog.globalNamed "loop.example/constanttime/impl.eventLetters" = some 0 := by kernel_rfl
theorem tEv : (Tryd.prog.globals[0]?).map (·.type) = some 67 := by kernel_rfl
theorem gPow : Tryd.prog.globalNamed "internal/strconv.uint64pow10" = some 2 := by kernel_rfl
theorem tPow : (Tryd.prog.globals[2]?).map (·.type) = some 145 := by kernel_rfl
theorem gDB : Tryd.prog.globalNamed "math/bits.deBruijn64tab" = some 4 := by kernel_rfl
theorem cellsU8 : Tryd.prog.cellsOf 5 = 1 := by kernel_rfl
theorem cellsU64 : Tryd.prog.cellsOf 134 = 1 := by kernel_rfl
theorem cellsA5 : Tryd.prog.cellsOf 67 = 5 := by kernel_rfl
theorem cellsA20 : Tryd.prog.cellsOf 145 = 20 := by kernel_rfl

abbrev evTab : List Int := [0, 98, 114, 119, 111]
def laidL {H : Type} : List (String × DataW H) := [("math/bits.deBruijn32tab", Rows.laid_math_bits_deBruijn32tab), ("math/bits.deBruijn64tab", Rows.laid_math_bits_deBruijn64tab), ("internal/strconv.uint64pow10", Rows.laid_internal_strconv_uint64pow10), ("loop.example/constanttime/impl.eventLetters", Rows.laid_loop_example_constanttime_impl_eventLetters)]

theorem door_met (os : Os) (args : Array Value) : laidMetH Tryd.prog laidL ((World.doorLaid Tryd.prog 400 os).forCall (fun _ _ => 0) ⟨#[], args, []⟩).memory :=
  laidMetH_of_parts3 (fuel := 8) (laidMet_of_run' 8 (by kernel_rfl) (by kernel_rfl)) (by kernel_rfl) (by kernel_rfl)

theorem tabs_of_laid {W : World} (h : laidMetH Tryd.prog laidL W) : TabsE W ∧ W.var? Tryd.prog "loop.example/constanttime/impl.eventLetters" = some (evTab.map fun z => Value.int .u8 z).toArray := by
  rw [MakeChecks.laidMetH_plain _ _ _ (by kernel_rfl)] at h
  obtain ⟨ps, ⟨_, _, _, _, _, _, _, _, _, _, hr1, _⟩, _⟩ := h
  obtain ⟨gd, _, _, _, _, _, hgd, _, hvd, _, hr2, _⟩ := hr1
  obtain ⟨g, t, cs, fuel, p, q, hg, ht, hvar, hd, hr3, _⟩ := hr2
  obtain ⟨g', t', cs', fuel', p', q', hg', ht', hvar', hd', _, _⟩ := hr3
  obtain rfl := Option.some.inj (gPow.symm.trans hg)
  obtain rfl := Option.some.inj (tPow.symm.trans ht)
  obtain rfl := Option.some.inj (gEv.symm.trans hg')
  obtain rfl := Option.some.inj (tEv.symm.trans ht')
  have e1 : (Rows.laid_internal_strconv_uint64pow10 : DataW Unit) = Lib.tabData .u64 Lib.pow10Tab := by kernel_rfl
  have e2 : (Rows.laid_loop_example_constanttime_impl_eventLetters : DataW Unit) = Lib.tabData .u8 evTab := by kernel_rfl
  rw [e1] at hd
  rw [e2] at hd'
  have c1 := Lib.cells_of_tab Tryd.underlying145 Tryd.underlying134 cellsU64 cellsA20 hd
  have c2 := Lib.cells_of_tab Tryd.underlying67 Tryd.underlying5 cellsU8 cellsA5 hd'
  have hp : Lib.TabIs Tryd.prog W "internal/strconv.uint64pow10" .u64 Lib.pow10Tab := by unfold Lib.TabIs; rw [hvar, ← c1]
  have he : Lib.TabIs Tryd.prog W "loop.example/constanttime/impl.eventLetters" .u8 evTab := by unfold Lib.TabIs; rw [hvar', ← c2]
  refine ⟨⟨hp, ?_, ?_⟩, he⟩
  · rintro kd (rfl | rfl | rfl | rfl)
    · exact he.cell gEv 1 (by decide)
    · exact he.cell gEv 2 (by decide)
    · exact he.cell gEv 3 (by decide)
    · exact he.cell gEv 4 (by decide)
  · unfold World.var? at hvd
    rw [gDB] at hvd
    simp only [Option.bind_some] at hvd
    split at hvd
    · rename_i hh
      have := (Array.getElem?_eq_some_iff.1 hh).1
      omega
    · cases hvd

abbrev tableH {H : Type} : DataW H := .agg [.lit (.int .u8 0), .lit (.int .u8 98), .lit (.int .u8 114), .lit (.int .u8 119), .lit (.int .u8 111)]
theorem reads_table {H : Type} (enc : TypeId × Value → H) (W : World) (sp : Nat → Bool) : DataW.trod enc Tryd.prog W 0 sp true 3 67 (evTab.map fun z => Value.int .u8 z) = some (tableH, []) := by kernel_rfl

theorem vars_at {H : Type} (enc : TypeId × Value → H) {W : World} (hvar : W.var? Tryd.prog "loop.example/constanttime/impl.eventLetters" = some (evTab.map fun z => Value.int .u8 z).toArray) (sp : Nat → Bool) :
    DataW.TrodVars enc Tryd.prog W sp ["loop.example/constanttime/impl.eventLetters"] [tableH] (MemPlace.row ⟨0, 0, none⟩ 5 ++ [] ++ []) :=
  ⟨_, _, (evTab.map fun z => Value.int .u8 z).toArray, 3, [], [], gEv, tEv, hvar, reads_table enc W sp, rfl, rfl⟩

end Go.Proofs.YtjmfnpljkiobkaaDoor

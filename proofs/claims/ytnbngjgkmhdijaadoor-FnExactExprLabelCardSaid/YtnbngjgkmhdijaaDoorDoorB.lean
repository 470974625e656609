/- What the condition on the tables gives the walk of ExprLabel, and that the start which the program's own text lays meets it. -/
import Derived.Test.YtnbngjgkmhdijaaDoorRows
import Derived.Test.YtnbngjgkmhdijaaDoorLbT
import Derived.ProofKit
import Derived.LaidMore
import Derived.OpenShut
import Derived.ShutString
import Derived.ChangeOld
import Derived.ChangeVars
import Derived.Stop.Joined
import Derived.WalkSmall
import Derived.Lib.LaidTab
namespace Go.Proofs.YtnbngjgkmhdijaaDoor
open Go.ChangeShapes Go.WideShapes Go.ChangeAt Go.WideMaps Go.WideElems Go.RowKit

theorem own : ownKnob Tryd.prog.godebug = none := by kernel_rfl
theorem laidOut : laidOutB Tryd.prog = true := by kernel_rfl
theorem gLet : Tryd.prog.globalNamed "loop.example/constanttime/impl.exprOperands" = some 0 := by kernel_rfl
theorem tLet : (Tryd.prog.globals[0]?).map (·.type) = some 90 := by kernel_rfl
theorem gDB : Tryd.prog.globalNamed "math/bits.deBruijn64tab" = some 2 := by kernel_rfl
theorem tDB : (Tryd.prog.globals[2]?).map (·.type) = some 99 := by kernel_rfl
theorem cellsI1 : Tryd.prog.cellsOf 3 = 1 := by kernel_rfl
theorem cellsU8 : Tryd.prog.cellsOf 5 = 1 := by kernel_rfl
theorem cellsA64 : Tryd.prog.cellsOf 99 = 64 := by kernel_rfl
theorem cellsI12 : Tryd.prog.cellsOf 90 = 12 := by kernel_rfl

abbrev opnTab : List Int := [0, 0, 0, 1, 2, 2, 2, 2, 2, 2, 2, 3]
def laidL {H : Type} : List (String × DataW H) := [("math/bits.deBruijn32tab", Rows.laid_math_bits_deBruijn32tab), ("math/bits.deBruijn64tab", Rows.laid_math_bits_deBruijn64tab), ("loop.example/constanttime/impl.exprOperands", Rows.laid_loop_example_constanttime_impl_exprOperands)]

theorem door_met (os : Os) (args : Array Value) : laidMetH Tryd.prog laidL ((World.doorLaid Tryd.prog 400 os).forCall (fun _ _ => 0) ⟨#[], args, []⟩).memory :=
  laidMetH_of_parts3 (fuel := 8) (laidMet_of_run' 8 (by kernel_rfl) (by kernel_rfl)) (by kernel_rfl) (by kernel_rfl)

theorem tbl_of_var {W : World} (h : W.var? Tryd.prog "loop.example/constanttime/impl.exprOperands" = some opsCells) : TblO W := by
  unfold World.var? at h
  rw [gLet] at h
  simp only [Option.bind_some] at h
  split at h
  · rename_i cs t fr hh
    cases h
    exact ⟨t, fr, hh⟩
  · cases h
theorem tblB_of_var {W : World} (h : W.var? Tryd.prog "math/bits.deBruijn64tab" = some dbCells) : TblB W := by
  unfold World.var? at h
  rw [gDB] at h
  simp only [Option.bind_some] at h
  split at h
  · rename_i cs t fr hh
    cases h
    exact ⟨t, fr, hh⟩
  · cases h

theorem tabs_of_laid {W : World} (h : laidMetH Tryd.prog laidL W) : W.var? Tryd.prog "math/bits.deBruijn64tab" = some dbCells ∧ W.var? Tryd.prog "loop.example/constanttime/impl.exprOperands" = some opsCells := by
  rw [MakeChecks.laidMetH_plain _ _ _ (by kernel_rfl)] at h
  obtain ⟨ps, ⟨_, _, _, _, _, _, _, _, _, _, hr1, _⟩, _⟩ := h
  obtain ⟨g, t, cs, fuel, p, q, hg, ht, hvar, hd, hr3, _⟩ := hr1
  obtain ⟨g', t', cs', fuel', p', q', hg', ht', hvar', hd', _, _⟩ := hr3
  obtain rfl := Option.some.inj (gDB.symm.trans hg)
  obtain rfl := Option.some.inj (tDB.symm.trans ht)
  obtain rfl := Option.some.inj (gLet.symm.trans hg')
  obtain rfl := Option.some.inj (tLet.symm.trans ht')
  have e1 : (Rows.laid_math_bits_deBruijn64tab : DataW Unit) = Lib.tabData .u8 dbTab := by kernel_rfl
  have e2 : (Rows.laid_loop_example_constanttime_impl_exprOperands : DataW Unit) = Lib.tabData .i64 opnTab := by kernel_rfl
  rw [e1] at hd
  rw [e2] at hd'
  have c1 := Lib.cells_of_tab Tryd.underlying99 Tryd.underlying5 cellsU8 cellsA64 hd
  have c2 := Lib.cells_of_tab Tryd.underlying90 Tryd.underlying3 cellsI1 cellsI12 hd'
  exact ⟨by rw [hvar, show cs = dbCells from Array.toList_inj.1 c1], by rw [hvar', show cs' = opsCells from Array.toList_inj.1 c2]⟩
theorem cells_of_laid {W : World} (h : laidMetH Tryd.prog laidL W) : W.var? Tryd.prog "loop.example/constanttime/impl.exprOperands" = some opsCells := (tabs_of_laid h).2
theorem tblB_of_laid {W : World} (h : laidMetH Tryd.prog laidL W) : TblB W := tblB_of_var (tabs_of_laid h).1

abbrev tableH {H : Type} : DataW H := .agg [.lit (.int .i64 0), .lit (.int .i64 0), .lit (.int .i64 0), .lit (.int .i64 1), .lit (.int .i64 2), .lit (.int .i64 2), .lit (.int .i64 2), .lit (.int .i64 2), .lit (.int .i64 2), .lit (.int .i64 2), .lit (.int .i64 2), .lit (.int .i64 3)]
theorem reads_table {H : Type} (enc : TypeId × Value → H) (W : World) (sp : Nat → Bool) : DataW.trod enc Tryd.prog W 0 sp true 3 90 opsCells.toList = some (tableH, []) := by kernel_rfl

theorem vars_at {H : Type} (enc : TypeId × Value → H) {W : World} (hvar : W.var? Tryd.prog "loop.example/constanttime/impl.exprOperands" = some opsCells) (sp : Nat → Bool) :
    DataW.TrodVars enc Tryd.prog W sp ["loop.example/constanttime/impl.exprOperands"] [tableH] (MemPlace.row ⟨0, 0, none⟩ opsCells.size ++ [] ++ []) :=
  ⟨_, _, opsCells, 3, [], [], gLet, tLet, hvar, reads_table enc W sp, rfl, rfl⟩

end Go.Proofs.YtnbngjgkmhdijaaDoor

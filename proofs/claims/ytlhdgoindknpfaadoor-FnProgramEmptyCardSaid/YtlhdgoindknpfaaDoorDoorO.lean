/- What the condition on the table of operands gives the walks, and that the start which the program's own text lays meets it. -/
import Derived.Test.YtlhdgoindknpfaaDoorRows
import Derived.Test.YtlhdgoindknpfaaDoorImN
import Derived.ProofKit
import Derived.LaidMore
import Derived.OpenShut
import Derived.ShutString
import Derived.ChangeOld
import Derived.ChangeVars
import Derived.Stop.Joined
import Derived.WalkSmall
namespace Go.Proofs.YtlhdgoindknpfaaDoor
open Go.ChangeShapes Go.WideShapes Go.ChangeAt Go.WideMaps Go.WideElems Go.RowKit

theorem own : ownKnob Tryd.prog.godebug = none := by kernel_rfl
theorem laidOut : laidOutB Tryd.prog = true := by kernel_rfl
theorem gLet : Tryd.prog.globalNamed "loop.example/constanttime/impl.exprOperands" = some 1 := by kernel_rfl
theorem tLet : (Tryd.prog.globals[1]?).map (·.type) = some 125 := by kernel_rfl
theorem cellsArr12 : Tryd.prog.cellsOf 125 = 12 := by kernel_rfl
theorem cellsIntO : Tryd.prog.cellsOf 3 = 1 := by kernel_rfl

def laidL {H : Type} : List (String × DataW H) := [("loop.example/constanttime/impl.exprOperands", Rows.laid_loop_example_constanttime_impl_exprOperands)]

theorem door_met (os : Os) (args : Array Value) : laidMetH Tryd.prog laidL ((World.doorLaid Tryd.prog 400 os).forCall (fun _ _ => 0) ⟨#[], args, []⟩).memory :=
  laidMetH_of_parts3 (fuel := 8) (laidMet_of_run' 8 (by kernel_rfl) (by kernel_rfl)) (by kernel_rfl) (by kernel_rfl)

theorem int_of_trod {H : Type} {enc : TypeId × Value → H} {P : Program} {w : World} {base : Nat} {sp : Nat → Bool} {held : Bool} {fuel : Nat} {t : TypeId} {k : IntKind} {c : Value} {y : DataW H × List MemPlace}
    (ht : P.underlying t = some (.int k)) (h : DataW.trod enc P w base sp held fuel t [c] = some y) : ∃ n, c = .int k n ∧ y = (.lit (.int k n), []) := by
  cases fuel with
  | zero => simp [DataW.trod] at h
  | succ fuel =>
    cases c <;> simp [DataW.trod, ht] at h
    rename_i k' n
    obtain ⟨⟨rfl, _⟩, rfl⟩ := h
    exact ⟨n, rfl, rfl⟩

theorem cells_of_laid {W : World} (h : laidMetH Tryd.prog laidL W) : W.var? Tryd.prog "loop.example/constanttime/impl.exprOperands" = some opsCells := by
  rw [MakeChecks.laidMetH_plain _ _ _ (by kernel_rfl)] at h
  obtain ⟨ps, ⟨g, t, cs, fuel, p, q, hg, ht, hvar, hd, _, _⟩, _⟩ := h
  obtain rfl := Option.some.inj (gLet.symm.trans hg)
  obtain rfl := Option.some.inj (tLet.symm.trans ht)
  rw [hvar]
  congr 1
  obtain ⟨l⟩ := cs
  cases fuel with
  | zero => simp [DataW.trod] at hd
  | succ fuel =>
    simp only [DataW.trod, Tryd.underlying125, cellsArr12, cellsIntO] at hd
    split at hd
    · rename_i hl
      obtain ⟨c0, c1, c2, c3, c4, c5, c6, c7, c8, c9, c10, c11, rfl⟩ : ∃ c0 c1 c2 c3 c4 c5 c6 c7 c8 c9 c10 c11, l = [c0, c1, c2, c3, c4, c5, c6, c7, c8, c9, c10, c11] := by
        match l, hl with
        | [a0, a1, a2, a3, a4, a5, a6, a7, a8, a9, a10, a11], _ => exact ⟨a0, a1, a2, a3, a4, a5, a6, a7, a8, a9, a10, a11, rfl⟩
      have e : List.range 12 = [0, 1, 2, 3, 4, 5, 6, 7, 8, 9, 10, 11] := rfl
      rw [e] at hd
      simp only [Option.map_eq_some_iff, List.mapM_cons, List.mapM_nil, Option.bind_eq_bind, Option.bind_eq_some_iff, Option.pure_def, Option.some.injEq] at hd
      obtain ⟨xs, ⟨y0, h0, _, ⟨y1, h1, _, ⟨y2, h2, _, ⟨y3, h3, _, ⟨y4, h4, _, ⟨y5, h5, _, ⟨y6, h6, _, ⟨y7, h7, _, ⟨y8, h8, _, ⟨y9, h9, _, ⟨y10, h10, _, ⟨y11, h11, _, rfl, rfl⟩, rfl⟩, rfl⟩, rfl⟩, rfl⟩, rfl⟩, rfl⟩, rfl⟩, rfl⟩, rfl⟩, rfl⟩, rfl⟩, hx⟩ := hd
      obtain ⟨n0, rfl, rfl⟩ := int_of_trod Tryd.underlying3 h0
      obtain ⟨n1, rfl, rfl⟩ := int_of_trod Tryd.underlying3 h1
      obtain ⟨n2, rfl, rfl⟩ := int_of_trod Tryd.underlying3 h2
      obtain ⟨n3, rfl, rfl⟩ := int_of_trod Tryd.underlying3 h3
      obtain ⟨n4, rfl, rfl⟩ := int_of_trod Tryd.underlying3 h4
      obtain ⟨n5, rfl, rfl⟩ := int_of_trod Tryd.underlying3 h5
      obtain ⟨n6, rfl, rfl⟩ := int_of_trod Tryd.underlying3 h6
      obtain ⟨n7, rfl, rfl⟩ := int_of_trod Tryd.underlying3 h7
      obtain ⟨n8, rfl, rfl⟩ := int_of_trod Tryd.underlying3 h8
      obtain ⟨n9, rfl, rfl⟩ := int_of_trod Tryd.underlying3 h9
      obtain ⟨n10, rfl, rfl⟩ := int_of_trod Tryd.underlying3 h10
      obtain ⟨n11, rfl, rfl⟩ := int_of_trod Tryd.underlying3 h11
      simp [Rows.laid_loop_example_constanttime_impl_exprOperands] at hx
      obtain ⟨⟨rfl, rfl, rfl, rfl, rfl, rfl, rfl, rfl, rfl, rfl, rfl, rfl⟩, _⟩ := hx
      rfl
    · cases hd

theorem tbl_of_var {W : World} (h : W.var? Tryd.prog "loop.example/constanttime/impl.exprOperands" = some opsCells) : TblO W := by
  unfold World.var? at h
  rw [gLet] at h
  simp only [Option.bind_some] at h
  split at h
  · rename_i cs t fr hh
    cases h
    exact ⟨t, fr, hh⟩
  · cases h

abbrev tableH {H : Type} : DataW H := .agg [.lit (.int .i64 0), .lit (.int .i64 0), .lit (.int .i64 0), .lit (.int .i64 1), .lit (.int .i64 2), .lit (.int .i64 2), .lit (.int .i64 2), .lit (.int .i64 2), .lit (.int .i64 2), .lit (.int .i64 2), .lit (.int .i64 2), .lit (.int .i64 3)]
theorem reads_table {H : Type} (enc : TypeId × Value → H) (W : World) (sp : Nat → Bool) : DataW.trod enc Tryd.prog W 0 sp true 3 125 opsCells.toList = some (tableH, []) := by kernel_rfl

theorem vars_at {H : Type} (enc : TypeId × Value → H) {W : World} (hvar : W.var? Tryd.prog "loop.example/constanttime/impl.exprOperands" = some opsCells) (sp : Nat → Bool) :
    DataW.TrodVars enc Tryd.prog W sp ["loop.example/constanttime/impl.exprOperands"] [tableH] (MemPlace.row ⟨1, 0, none⟩ opsCells.size ++ [] ++ []) :=
  ⟨_, _, opsCells, 3, [], [], gLet, tLet, hvar, reads_table enc W sp, rfl, rfl⟩

end Go.Proofs.YtlhdgoindknpfaaDoor

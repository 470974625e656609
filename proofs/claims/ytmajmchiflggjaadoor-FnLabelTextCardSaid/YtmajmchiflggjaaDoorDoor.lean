/- What the condition on the table of letters gives the walks, and that the start which the program's own text lays meets it. -/
import Derived.Test.YtmajmchiflggjaaDoorRows
import Derived.Test.YtmajmchiflggjaaDoorEPar
import Derived.ProofKit
import Derived.LaidMore
import Derived.OpenShut
import Derived.ShutString
import Derived.ChangeOld
import Derived.ChangeVars
import Derived.Stop.Joined
import Derived.WalkSmall
namespace Go.Proofs.YtmajmchiflggjaaDoor
open Go.ChangeShapes Go.WideShapes Go.ChangeAt Go.WideMaps Go.WideElems Go.RowKit

theorem own : ownKnob Tryd.prog.godebug = none := by kernel_rfl
theorem laidOut : laidOutB Tryd.prog = true := by kernel_rfl
theorem gLet : Tryd.prog.globalNamed "loop.example/constanttime/impl.labelLetters" = some 0 := by kernel_rfl
theorem tLet : (Tryd.prog.globals[0]?).map (·.type) = some 62 := by kernel_rfl
theorem cellsArr : Tryd.prog.cellsOf 62 = 4 := by kernel_rfl
theorem cellsByte : Tryd.prog.cellsOf 5 = 1 := by kernel_rfl

def laidL {H : Type} : List (String × DataW H) := [("loop.example/constanttime/impl.labelLetters", Rows.laid_loop_example_constanttime_impl_labelLetters)]
def cells4 : Array Value := #[.int .u8 76, .int .u8 72, .int .u8 85, .int .u8 88]

theorem door_met (os : Os) (args : Array Value) : laidMetH Tryd.prog laidL ((World.doorLaid Tryd.prog 400 os).forCall (fun _ _ => 0) ⟨#[], args, []⟩).memory :=
  laidMetH_of_parts3 (fuel := 8) (laidMet_of_run' 8 (by kernel_rfl) (by kernel_rfl)) (by kernel_rfl) (by kernel_rfl)

theorem int_of_trod {H : Type} {enc : TypeId × Value → H} {P : Program} {w : World} {base : Nat} {sp : Nat → Bool} {held : Bool} {fuel : Nat} {t : TypeId} {k : IntKind} {c : Value} {y : DataW H × List MemPlace}
    (ht : P.underlying t = some (.int k)) (h : DataW.trod enc P w base sp held fuel t [c] = some y) : ∃ n, c = .int k n ∧ y = (.lit (.int k n), []) := by
  cases fuel with
  | zero => simp [DataW.trod] at h
  | succ fuel =>
    cases c <;> simp [DataW.trod, ht] at h
    rename_i k' n
    obtain ⟨⟨rfl, _⟩, rfl⟩ := h
    exact ⟨n, rfl, rfl⟩

theorem cells_of_laid {W : World} (h : laidMetH Tryd.prog laidL W) : W.var? Tryd.prog "loop.example/constanttime/impl.labelLetters" = some cells4 := by
  rw [MakeChecks.laidMetH_plain _ _ _ (by kernel_rfl)] at h
  obtain ⟨ps, ⟨g, t, cs, fuel, p, q, hg, ht, hvar, hd, _, _⟩, _⟩ := h
  obtain rfl := Option.some.inj (gLet.symm.trans hg)
  obtain rfl := Option.some.inj (tLet.symm.trans ht)
  rw [hvar]
  congr 1
  obtain ⟨l⟩ := cs
  cases fuel with
  | zero => simp [DataW.trod] at hd
  | succ fuel =>
    simp only [DataW.trod, Tryd.underlying62, cellsArr, cellsByte] at hd
    split at hd
    · rename_i hl
      obtain ⟨c0, c1, c2, c3, rfl⟩ : ∃ c0 c1 c2 c3, l = [c0, c1, c2, c3] := by
        match l, hl with
        | [a, b, c, d], _ => exact ⟨a, b, c, d, rfl⟩
      have e : List.range 4 = [0, 1, 2, 3] := rfl
      rw [e] at hd
      simp only [Option.map_eq_some_iff, List.mapM_cons, List.mapM_nil, Option.bind_eq_bind, Option.bind_eq_some_iff, Option.pure_def, Option.some.injEq] at hd
      obtain ⟨xs, ⟨y0, h0, _, ⟨y1, h1, _, ⟨y2, h2, _, ⟨y3, h3, _, rfl, rfl⟩, rfl⟩, rfl⟩, rfl⟩, hx⟩ := hd
      obtain ⟨n0, rfl, rfl⟩ := int_of_trod Tryd.underlying5 h0
      obtain ⟨n1, rfl, rfl⟩ := int_of_trod Tryd.underlying5 h1
      obtain ⟨n2, rfl, rfl⟩ := int_of_trod Tryd.underlying5 h2
      obtain ⟨n3, rfl, rfl⟩ := int_of_trod Tryd.underlying5 h3
      simp [Rows.laid_loop_example_constanttime_impl_labelLetters] at hx
      obtain ⟨⟨rfl, rfl, rfl, rfl⟩, _⟩ := hx
      rfl
    · cases hd

theorem tbl_of_var {W : World} (h : W.var? Tryd.prog "loop.example/constanttime/impl.labelLetters" = some cells4) : Tbl W := by
  unfold World.var? at h
  rw [gLet] at h
  simp only [Option.bind_some] at h
  split at h
  · rename_i cs t fr hh
    cases h
    exact ⟨t, fr, hh⟩
  · cases h

theorem Tbl.lt {W : World} (h : Tbl W) : 0 < W.heap.size := by
  obtain ⟨t, fr, hg⟩ := h
  exact (Array.getElem?_eq_some_iff.1 hg).1

abbrev tableH {H : Type} : DataW H := .agg [.lit (.int .u8 76), .lit (.int .u8 72), .lit (.int .u8 85), .lit (.int .u8 88)]
theorem reads_table {H : Type} (enc : TypeId × Value → H) (W : World) (sp : Nat → Bool) : DataW.trod enc Tryd.prog W 0 sp true 3 62 cells4.toList = some (tableH, []) := by kernel_rfl

theorem vars_at {H : Type} (enc : TypeId × Value → H) {W : World} (hvar : W.var? Tryd.prog "loop.example/constanttime/impl.labelLetters" = some cells4) (sp : Nat → Bool) :
    DataW.TrodVars enc Tryd.prog W sp ["loop.example/constanttime/impl.labelLetters"] [tableH] (MemPlace.row ⟨0, 0, none⟩ cells4.size ++ [] ++ []) :=
  ⟨_, _, cells4, 3, [], [], gLet, tLet, hvar, reads_table enc W sp, rfl, rfl⟩

end Go.Proofs.YtmajmchiflggjaaDoor

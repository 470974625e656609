/- What the condition on the five tables gives the walks of FormatExpr, and that the start which the program's own text lays meets it. -/
import Derived.Test.YtomgnnhbabnckaaDoorRows
import Derived.Test.YtomgnnhbabnckaaDoorWrF
import Derived.ProofKit
import Derived.LaidMore
import Derived.OpenShut
import Derived.ShutString
import Derived.ChangeOld
import Derived.ChangeVars
import Derived.ChangeArms
import Derived.Stop.Joined
import Derived.WalkSmall
import Derived.Lib.LaidTab
namespace Go.Proofs.YtomgnnhbabnckaaDoor
open Go.ChangeShapes Go.WideShapes Go.ChangeAt Go.WideMaps Go.WideElems Go.RowKit

theorem own : ownKnob Tryd.prog.godebug = none := by kernel_rfl
theorem laidOut : laidOutB Tryd.prog = true := by kernel_rfl
theorem gOpn : Tryd.prog.globalNamed "loop.example/constanttime/impl.exprOperands" = some 1 := by kernel_rfl
theorem tOpn : (Tryd.prog.globals[1]?).map (·.type) = some 125 := by kernel_rfl
theorem gOpr : Tryd.prog.globalNamed "loop.example/constanttime/impl.exprOperators" = some 0 := by kernel_rfl
theorem tOpr : (Tryd.prog.globals[0]?).map (·.type) = some 115 := by kernel_rfl
theorem gPow : Tryd.prog.globalNamed "internal/strconv.uint64pow10" = some 2 := by kernel_rfl
theorem tPow : (Tryd.prog.globals[2]?).map (·.type) = some 157 := by kernel_rfl
theorem gDB : Tryd.prog.globalNamed "math/bits.deBruijn64tab" = some 4 := by kernel_rfl
theorem cellsI1 : Tryd.prog.cellsOf 3 = 1 := by kernel_rfl
theorem cellsS1 : Tryd.prog.cellsOf 9 = 1 := by kernel_rfl
theorem cellsU64 : Tryd.prog.cellsOf 151 = 1 := by kernel_rfl
theorem cellsA20 : Tryd.prog.cellsOf 157 = 20 := by kernel_rfl
theorem cellsI12 : Tryd.prog.cellsOf 125 = 12 := by kernel_rfl
theorem cellsS12 : Tryd.prog.cellsOf 115 = 12 := by kernel_rfl

abbrev opnTab : List Int := [0, 0, 0, 1, 2, 2, 2, 2, 2, 2, 2, 3]
abbrev oprTab : List (List UInt8) := [[], [], [], [], [43], [45], [42], [38], [94], [61], [60], []]
def laidL {H : Type} : List (String × DataW H) := [("math/bits.deBruijn32tab", Rows.laid_math_bits_deBruijn32tab), ("math/bits.deBruijn64tab", Rows.laid_math_bits_deBruijn64tab), ("internal/strconv.uint64pow10", Rows.laid_internal_strconv_uint64pow10),
  ("loop.example/constanttime/impl.exprOperands", Rows.laid_loop_example_constanttime_impl_exprOperands), ("loop.example/constanttime/impl.exprOperators", Rows.laid_loop_example_constanttime_impl_exprOperators)]

theorem door_met (os : Os) (args : Array Value) : laidMetH Tryd.prog laidL ((World.doorLaid Tryd.prog 400 os).forCall (fun _ _ => 0) ⟨#[], args, []⟩).memory :=
  laidMetH_of_parts3 (fuel := 8) (laidMet_of_run' 8 (by kernel_rfl) (by kernel_rfl)) (by kernel_rfl) (by kernel_rfl)

/-- An array of texts that reads as a table holds the table's texts, cell for cell. -/
theorem cells_of_strs {H : Type} {enc : TypeId × Value → H} {P : Program} {w : World} {base : Nat} {sp : Nat → Bool} {held : Bool} {fuel : Nat} {t e : TypeId} {n : Nat} {cs : List Value} {ss : List (List UInt8)} {p : List MemPlace}
    (ht : P.underlying t = some (.array n e)) (he : P.underlying e = some .string) (hce : P.cellsOf e = 1) (hct : P.cellsOf t = n)
    (h : DataW.trod enc P w base sp held fuel t cs = some (.agg (ss.map fun s => .lit (.string s)), p)) : cs = ss.map fun s => Value.string ⟨s.toArray⟩ := by
  cases fuel with
  | zero => simp [DataW.trod] at h
  | succ fuel =>
    simp only [DataW.trod, ht, hce, hct, Nat.mul_one] at h
    split at h
    · rename_i hl
      obtain ⟨xs, hm, hx⟩ := Option.map_eq_some_iff.1 h
      have hxs : xs.map (·.1) = ss.map fun s => (DataW.lit (.string s) : DataW H) := by
        have := congrArg Prod.fst hx
        simpa using this
      have hxl : xs.length = n := by simpa using Lib.mapM_length hm
      have hzl : ss.length = n := by
        have := congrArg List.length hxs
        simp at this
        omega
      apply List.ext_getElem?
      intro i
      by_cases hi : i < n
      · obtain ⟨b, hb, hf⟩ := Lib.mapM_at hm i i (by simp [hi])
        obtain ⟨s, hc, rfl, _⟩ := DataW.trod_string he hf
        have h1 : cs[i]? = some (.string s) := by
          have := congrArg (·[0]?) hc
          simpa [List.getElem?_take, List.getElem?_drop] using this
        have h2 : (xs.map (·.1))[i]? = some (DataW.lit (.string s.data.toList) : DataW H) := by simp [hb]
        rw [hxs] at h2
        simp only [List.getElem?_map, Option.map_eq_some_iff, DataW.lit.injEq, Lit.string.injEq] at h2
        obtain ⟨z', hz', hzz⟩ := h2
        have es : s = ⟨z'.toArray⟩ := by
          apply ByteArray.ext
          rw [hzz]
        simp [h1, hz', es]
      · rw [List.getElem?_eq_none (by omega), List.getElem?_eq_none (by simp; omega)]
    · cases h

theorem tbl_of_var {W : World} (h : W.var? Tryd.prog "loop.example/constanttime/impl.exprOperands" = some opsCells) : TblO W := by
  unfold World.var? at h
  rw [gOpn] at h
  simp only [Option.bind_some] at h
  split at h
  · rename_i cs t fr hh
    cases h
    exact ⟨t, fr, hh⟩
  · cases h

abbrev opnA : Array Value := (opnTab.map fun z => Value.int .i64 z).toArray
abbrev oprA : Array Value := (oprTab.map fun s => Value.string ⟨s.toArray⟩).toArray

theorem tabs_of_laid {W : World} (h : laidMetH Tryd.prog laidL W) : TabF W ∧ W.var? Tryd.prog "loop.example/constanttime/impl.exprOperands" = some opnA ∧ W.var? Tryd.prog "loop.example/constanttime/impl.exprOperators" = some oprA := by
  rw [MakeChecks.laidMetH_plain _ _ _ (by kernel_rfl)] at h
  obtain ⟨ps, ⟨_, _, _, _, _, _, _, _, _, _, hr1, _⟩, _⟩ := h
  obtain ⟨gd, _, _, _, _, _, hgd, _, hvd, _, hr2, _⟩ := hr1
  obtain ⟨g, t, cs, fuel, p, q, hg, ht, hvar, hd, hr3, _⟩ := hr2
  obtain ⟨g', t', cs', fuel', p', q', hg', ht', hvar', hd', hr4, _⟩ := hr3
  obtain ⟨g2, t2, cs2, fuel2, p2, q2, hg2, ht2, hvar2, hd2, _, _⟩ := hr4
  obtain rfl := Option.some.inj (gPow.symm.trans hg)
  obtain rfl := Option.some.inj (tPow.symm.trans ht)
  obtain rfl := Option.some.inj (gOpn.symm.trans hg')
  obtain rfl := Option.some.inj (tOpn.symm.trans ht')
  obtain rfl := Option.some.inj (gOpr.symm.trans hg2)
  obtain rfl := Option.some.inj (tOpr.symm.trans ht2)
  have e1 : (Rows.laid_internal_strconv_uint64pow10 : DataW Unit) = Lib.tabData .u64 Lib.pow10Tab := by kernel_rfl
  have e2 : (Rows.laid_loop_example_constanttime_impl_exprOperands : DataW Unit) = Lib.tabData .i64 opnTab := by kernel_rfl
  have e3 : (Rows.laid_loop_example_constanttime_impl_exprOperators : DataW Unit) = .agg (oprTab.map fun s => .lit (.string s)) := by kernel_rfl
  rw [e1] at hd
  rw [e2] at hd'
  rw [e3] at hd2
  have c1 := Lib.cells_of_tab Tryd.underlying157 Tryd.underlying151 cellsU64 cellsA20 hd
  have c2 := Lib.cells_of_tab Tryd.underlying125 Tryd.underlying3 cellsI1 cellsI12 hd'
  have c3 := cells_of_strs Tryd.underlying115 Tryd.underlying9 cellsS1 cellsS12 hd2
  have hp : Lib.TabIs Tryd.prog W "internal/strconv.uint64pow10" .u64 Lib.pow10Tab := by unfold Lib.TabIs; rw [hvar, ← c1]
  have h2 : W.var? Tryd.prog "loop.example/constanttime/impl.exprOperands" = some opnA := by rw [hvar', show cs' = opnA from Array.toList_inj.1 c2]
  have h3 : W.var? Tryd.prog "loop.example/constanttime/impl.exprOperators" = some oprA := by rw [hvar2, show cs2 = oprA from Array.toList_inj.1 c3]
  refine ⟨⟨⟨hp, ?_, ?_⟩, tbl_of_var h2⟩, h2, h3⟩
  · intro kd hk
    have key : ∀ j, W.cell? ⟨0, j, none⟩ = oprA[j]? := fun j => World.var?_cell gOpr h3 j
    have h7 : kd = 4 ∨ kd = 5 ∨ kd = 6 ∨ kd = 7 ∨ kd = 8 ∨ kd = 9 ∨ kd = 10 := by omega
    rcases h7 with rfl | rfl | rfl | rfl | rfl | rfl | rfl
    · exact key 4
    · exact key 5
    · exact key 6
    · exact key 7
    · exact key 8
    · exact key 9
    · exact key 10
  · unfold World.var? at hvd
    rw [gDB] at hvd
    simp only [Option.bind_some] at hvd
    split at hvd
    · rename_i hh
      have := (Array.getElem?_eq_some_iff.1 hh).1
      have e := Option.some.inj (gDB.symm.trans hgd)
      omega
    · cases hvd

abbrev opnH {H : Type} : DataW H := .agg [.lit (.int .i64 0), .lit (.int .i64 0), .lit (.int .i64 0), .lit (.int .i64 1), .lit (.int .i64 2), .lit (.int .i64 2), .lit (.int .i64 2), .lit (.int .i64 2), .lit (.int .i64 2), .lit (.int .i64 2), .lit (.int .i64 2), .lit (.int .i64 3)]
abbrev oprH {H : Type} : DataW H := .agg [.lit (.string []), .lit (.string []), .lit (.string []), .lit (.string []), .lit (.string [43]), .lit (.string [45]), .lit (.string [42]), .lit (.string [38]), .lit (.string [94]), .lit (.string [61]), .lit (.string [60]), .lit (.string [])]
theorem reads_opn {H : Type} (enc : TypeId × Value → H) (W : World) (sp : Nat → Bool) : DataW.trod enc Tryd.prog W 0 sp true 3 125 opnA.toList = some (opnH, []) := by kernel_rfl
theorem reads_opr {H : Type} (enc : TypeId × Value → H) (W : World) (sp : Nat → Bool) : DataW.trod enc Tryd.prog W 0 sp true 3 115 oprA.toList = some (oprH, []) := by kernel_rfl

theorem vars_at {H : Type} (enc : TypeId × Value → H) {W : World} (h1 : W.var? Tryd.prog "loop.example/constanttime/impl.exprOperands" = some opnA) (h2 : W.var? Tryd.prog "loop.example/constanttime/impl.exprOperators" = some oprA) (sp : Nat → Bool) :
    DataW.TrodVars enc Tryd.prog W sp ["loop.example/constanttime/impl.exprOperands", "loop.example/constanttime/impl.exprOperators"] [opnH, oprH]
      (MemPlace.row ⟨1, 0, none⟩ opnA.size ++ [] ++ (MemPlace.row ⟨0, 0, none⟩ oprA.size ++ [] ++ [])) :=
  ⟨_, _, opnA, 3, [], _, gOpn, tOpn, h1, reads_opn enc W sp, ⟨_, _, oprA, 3, [], [], gOpr, tOpr, h2, reads_opr enc W sp, rfl, rfl⟩, rfl⟩

end Go.Proofs.YtomgnnhbabnckaaDoor

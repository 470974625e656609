/- What the condition on the tables of forms, of letters and of powers gives the walks, and that the start which the program's own text lays meets it. -/
import Derived.Test.YtleomemalgfmoaaDoorRows
import Derived.Test.YtleomemalgfmoaaDoorCfF
import Derived.ProofKit
import Derived.LaidMore
import Derived.OpenShut
import Derived.ShutString
import Derived.ChangeOld
import Derived.ChangeVars
import Derived.ChangeSame
import Derived.Stop.Joined
import Derived.WalkSmall
import Derived.Lib.LaidTab
namespace Go.Proofs.YtleomemalgfmoaaDoor
open Go.ChangeShapes Go.WideShapes Go.ChangeAt Go.WideMaps Go.WideElems Go.RowKit

theorem own : ownKnob Tryd.prog.godebug = none := by kernel_rfl
theorem laidOut : laidOutB Tryd.prog = true := by kernel_rfl
theorem gFrm : Tryd.prog.globalNamed "loop.example/constanttime/impl.instrForms" = some 0 := by kernel_rfl
theorem tFrm : (Tryd.prog.globals[0]?).map (·.type) = some 97 := by kernel_rfl
theorem cellsFrm : Tryd.prog.cellsOf 97 = 70 := by kernel_rfl
theorem cellsForm : Tryd.prog.cellsOf 96 = 5 := by kernel_rfl
theorem cellsK4 : Tryd.prog.cellsOf 94 = 4 := by kernel_rfl
theorem cellsK1 : Tryd.prog.cellsOf 93 = 1 := by kernel_rfl
theorem cellsStr : Tryd.prog.cellsOf 9 = 1 := by kernel_rfl

theorem gLet : Tryd.prog.globalNamed "loop.example/constanttime/impl.labelLetters" = some 1 := by kernel_rfl
theorem tLet : (Tryd.prog.globals[1]?).map (·.type) = some 120 := by kernel_rfl
theorem gPow : Tryd.prog.globalNamed "internal/strconv.uint64pow10" = some 2 := by kernel_rfl
theorem tPow : (Tryd.prog.globals[2]?).map (·.type) = some 161 := by kernel_rfl
theorem cellsU8 : Tryd.prog.cellsOf 5 = 1 := by kernel_rfl
theorem cellsU64 : Tryd.prog.cellsOf 141 = 1 := by kernel_rfl
theorem cellsA4u : Tryd.prog.cellsOf 120 = 4 := by kernel_rfl
theorem cellsA20 : Tryd.prog.cellsOf 161 = 20 := by kernel_rfl

abbrev letTab : List Int := [76, 72, 85, 88]
abbrev letA : Array Value := #[.int .u8 76, .int .u8 72, .int .u8 85, .int .u8 88]
def laidL {H : Type} : List (String × DataW H) := [("math/bits.deBruijn32tab", Rows.laid_math_bits_deBruijn32tab), ("math/bits.deBruijn64tab", Rows.laid_math_bits_deBruijn64tab), ("internal/strconv.uint64pow10", Rows.laid_internal_strconv_uint64pow10), ("loop.example/constanttime/impl.labelLetters", Rows.laid_loop_example_constanttime_impl_labelLetters), ("loop.example/constanttime/impl.instrForms", Rows.laid_loop_example_constanttime_impl_instrForms)]

theorem door_met (os : Os) (args : Array Value) : laidMetH Tryd.prog laidL ((World.doorLaid Tryd.prog 400 os).forCall (fun _ _ => 0) ⟨#[], args, []⟩).memory :=
  laidMetH_of_parts3 (fuel := 8) (laidMet_of_run' 8 (by kernel_rfl) (by kernel_rfl)) (by kernel_rfl) (by kernel_rfl)

/-- The five cells of a form. -/
def c5 (s : List UInt8 × List Int) : List Value := .string ⟨s.1.toArray⟩ :: s.2.map (Value.int .i64)
def frmTab : List (List UInt8 × List Int) := (List.range 14).map fun p => (nmT p, [(kdAt p 0 : Int), kdAt p 1, kdAt p 2, kdAt p 3])
theorem chunks : ∀ (ss : List (List UInt8 × List Int)) (cs : List Value), cs.length = ss.length * 5 → (∀ (i : Nat) (s : List UInt8 × List Int), ss[i]? = some s → (cs.drop (i * 5)).take 5 = c5 s) → cs = ss.flatMap c5
  | [], cs, hl, _ => by simp at hl; simp [hl]
  | s :: ss, cs, hl, h => by
    have h0 := h 0 s rfl
    have ih := chunks ss (cs.drop 5) (by simp at hl ⊢; omega) fun i s' hs => by
      have := h (i + 1) s' (by simpa using hs)
      rw [List.drop_drop]
      rwa [show (i + 1) * 5 = 5 + i * 5 by omega] at this
    rw [List.flatMap_cons, ← ih]
    simp at h0
    rw [← h0, List.take_append_drop]

set_option maxRecDepth 100000 in
theorem cells_of_forms {H : Type} {enc : TypeId × Value → H} {w : World} {base : Nat} {sp : Nat → Bool} {held : Bool} {fuel : Nat} {cs : List Value} {p : List MemPlace}
    (h : DataW.trod enc Tryd.prog w base sp held fuel 97 cs = some (.agg (frmTab.map fun s => .agg [.lit (.string s.1), Lib.tabData .i64 s.2]), p)) : cs = frmTab.flatMap c5 := by
  cases fuel with
  | zero => simp [DataW.trod] at h
  | succ fuel =>
    simp only [DataW.trod, Tryd.underlying97, cellsForm, cellsFrm] at h
    split at h
    · rename_i hl
      obtain ⟨xs, hm, hx⟩ := Option.map_eq_some_iff.1 h
      have hxs : xs.map (·.1) = frmTab.map fun s => (DataW.agg [.lit (.string s.1), Lib.tabData .i64 s.2] : DataW H) := by
        have := congrArg Prod.fst hx
        simpa using this
      have hxl : xs.length = 14 := by simpa using Lib.mapM_length hm
      refine chunks _ _ (by rw [hl]; rfl) fun i s hs => ?_
      have hi : i < 14 := by
        have := (List.getElem?_eq_some_iff.1 hs).1
        simpa [frmTab] using this
      obtain ⟨b, hb, hf⟩ := Lib.mapM_at hm i i (by simp [hi])
      have h2 : (xs.map (·.1))[i]? = some b.1 := by simp [hb]
      rw [hxs] at h2
      simp only [List.getElem?_map, hs, Option.map_some, Option.some.injEq] at h2
      obtain ⟨y0, y1, n, hy, hlen, f0, f1⟩ := trod_struct2 Tryd.underlying96 hf
      rw [hy] at h2
      simp only [DataW.agg.injEq, List.cons.injEq] at h2
      obtain ⟨e0, e1, _⟩ := h2
      generalize (cs.drop (i * 5)).take 5 = x5 at hlen f0 f1
      rw [cellsForm] at hlen
      match x5, hlen with
      | [a0, a1, a2, a3, a4], _ =>
        have f0' : DataW.trod enc Tryd.prog w base sp held n 9 [a0] = some y0 := by simpa [cellsStr] using f0
        have f1' : DataW.trod enc Tryd.prog w base sp held n 94 [a1, a2, a3, a4] = some y1 := by simpa [cellsK4] using f1
        obtain ⟨st, hc, hy0, _⟩ := DataW.trod_string Tryd.underlying9 f0'
        obtain ⟨z1, z2⟩ := y1
        simp only at e1
        rw [← e1] at f1'
        have c4 := Lib.cells_of_tab Tryd.underlying94 Tryd.underlying93 cellsK1 cellsK4 f1'
        rw [hy0] at e0
        simp only [DataW.lit.injEq, Lit.string.injEq] at e0
        have es : st = ⟨s.1.toArray⟩ := by
          apply ByteArray.ext
          rw [e0]
        simp at hc
        rw [hc, es, c4]
        rfl
    · cases h

theorem frm_cells : frmTab.flatMap c5 = frmCells.toList := by kernel_rfl

theorem var_at {W : World} {name : String} {g : Nat} {cs : Array Value} (hg : Tryd.prog.globalNamed name = some g) (h : W.var? Tryd.prog name = some cs) : ∃ (t : TypeId) (fr : Nat × Nat), W.heap[g]? = some (.cells cs t fr) := by
  unfold World.var? at h
  rw [hg] at h
  simp only [Option.bind_some] at h
  split at h
  · rename_i cs' t fr hh
    cases h
    exact ⟨t, fr, hh⟩
  · cases h
theorem var_lt {W : World} {name : String} {g : Nat} {cs : Array Value} (hg : Tryd.prog.globalNamed name = some g) (h : W.var? Tryd.prog name = some cs) : g < W.heap.size := by
  obtain ⟨t, fr, hh⟩ := var_at hg h
  exact (Array.getElem?_eq_some_iff.1 hh).1

theorem tabs_of_laid {W : World} (h : laidMetH Tryd.prog laidL W) : TabC W ∧ W.var? Tryd.prog "loop.example/constanttime/impl.instrForms" = some frmCells ∧ W.var? Tryd.prog "loop.example/constanttime/impl.labelLetters" = some letA := by
  rw [MakeChecks.laidMetH_plain _ _ _ (by kernel_rfl)] at h
  obtain ⟨ps, ⟨_, _, _, _, _, _, _, _, _, _, hr1, _⟩, _⟩ := h
  obtain ⟨gd, _, _, _, _, _, hgd, _, hvd, _, hr2, _⟩ := hr1
  obtain ⟨g, t, cs, fuel, p, q, hg, ht, hvar, hd, hr3, _⟩ := hr2
  obtain ⟨g', t', cs', fuel', p', q', hg', ht', hvar', hd', hr4, _⟩ := hr3
  obtain ⟨g2, t2, cs2, fuel2, p2, q2, hg2, ht2, hvar2, hd2, _, _⟩ := hr4
  obtain rfl := Option.some.inj (gPow.symm.trans hg)
  obtain rfl := Option.some.inj (tPow.symm.trans ht)
  obtain rfl := Option.some.inj (gLet.symm.trans hg')
  obtain rfl := Option.some.inj (tLet.symm.trans ht')
  obtain rfl := Option.some.inj (gFrm.symm.trans hg2)
  obtain rfl := Option.some.inj (tFrm.symm.trans ht2)
  have e1 : (Rows.laid_internal_strconv_uint64pow10 : DataW Unit) = Lib.tabData .u64 Lib.pow10Tab := by kernel_rfl
  have e2 : (Rows.laid_loop_example_constanttime_impl_labelLetters : DataW Unit) = Lib.tabData .u8 letTab := by kernel_rfl
  have e3 : (Rows.laid_loop_example_constanttime_impl_instrForms : DataW Unit) = .agg (frmTab.map fun s => .agg [.lit (.string s.1), Lib.tabData .i64 s.2]) := by kernel_rfl
  rw [e1] at hd
  rw [e2] at hd'
  rw [e3] at hd2
  have c1 := Lib.cells_of_tab Tryd.underlying161 Tryd.underlying141 cellsU64 cellsA20 hd
  have c2 := Lib.cells_of_tab Tryd.underlying120 Tryd.underlying5 cellsU8 cellsA4u hd'
  have c3 := cells_of_forms hd2
  have hp : Lib.TabIs Tryd.prog W "internal/strconv.uint64pow10" .u64 Lib.pow10Tab := by unfold Lib.TabIs; rw [hvar, ← c1]
  have h2 : W.var? Tryd.prog "loop.example/constanttime/impl.instrForms" = some frmCells := by rw [hvar2, show cs2 = frmCells from Array.toList_inj.1 (c3.trans frm_cells)]
  have h3 : W.var? Tryd.prog "loop.example/constanttime/impl.labelLetters" = some letA := by rw [hvar', show cs' = letA from Array.toList_inj.1 c2]
  exact ⟨⟨var_at gFrm h2, var_at gLet h3, ⟨hp, var_lt gPow hvar⟩, var_lt gFrm h2, var_lt gLet h3⟩, h2, h3⟩

abbrev frmH {H : Type} : DataW H := Rows.laid_loop_example_constanttime_impl_instrForms
abbrev letH {H : Type} : DataW H := Rows.laid_loop_example_constanttime_impl_labelLetters
theorem reads_frm {H : Type} (enc : TypeId × Value → H) (W : World) (sp : Nat → Bool) : DataW.trod enc Tryd.prog W 0 sp true 5 97 frmCells.toList = some (frmH, []) := by kernel_rfl
theorem reads_let {H : Type} (enc : TypeId × Value → H) (W : World) (sp : Nat → Bool) : DataW.trod enc Tryd.prog W 0 sp true 3 120 letA.toList = some (letH, []) := by kernel_rfl

theorem vars_at {H : Type} (enc : TypeId × Value → H) {W : World} (h1 : W.var? Tryd.prog "loop.example/constanttime/impl.instrForms" = some frmCells) (h2 : W.var? Tryd.prog "loop.example/constanttime/impl.labelLetters" = some letA) (sp : Nat → Bool) :
    DataW.TrodVars enc Tryd.prog W sp ["loop.example/constanttime/impl.instrForms", "loop.example/constanttime/impl.labelLetters"] [frmH, letH]
      (MemPlace.row ⟨0, 0, none⟩ frmCells.size ++ [] ++ (MemPlace.row ⟨1, 0, none⟩ letA.size ++ [] ++ [])) :=
  ⟨_, _, frmCells, 5, [], _, gFrm, tFrm, h1, reads_frm enc W sp, ⟨_, _, letA, 3, [], [], gLet, tLet, h2, reads_let enc W sp, rfl, rfl⟩, rfl⟩

end Go.Proofs.YtleomemalgfmoaaDoor

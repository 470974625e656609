/- What the condition on the table of forms gives the walks, and that the start which the program's own text lays meets it. -/
import Derived.Test.YtbifbmpflhdijaaDoorRows
import Derived.Test.YtbifbmpflhdijaaDoorCvI
import Derived.ProofKit
import Derived.LaidMore
import Derived.OpenShut
import Derived.ShutString
import Derived.ChangeOld
import Derived.ChangeVars
import Derived.ChangeSame
import Derived.Stop.Joined
import Derived.WalkSmall
import Derived.Lib.LaidTab
namespace Go.Proofs.YtbifbmpflhdijaaDoor
open Go.ChangeShapes Go.WideShapes Go.ChangeAt Go.WideMaps Go.WideElems Go.RowKit

theorem own : ownKnob Tryd.prog.godebug = none := by kernel_rfl
theorem laidOut : laidOutB Tryd.prog = true := by kernel_rfl
theorem gFrm : Tryd.prog.globalNamed "loop.example/constanttime/impl.instrForms" = some 0 := by kernel_rfl
theorem tFrm : (Tryd.prog.globals[0]?).map (·.type) = some 124 := by kernel_rfl
theorem cellsFrm : Tryd.prog.cellsOf 124 = 70 := by kernel_rfl
theorem cellsForm : Tryd.prog.cellsOf 123 = 5 := by kernel_rfl
theorem cellsK4 : Tryd.prog.cellsOf 121 = 4 := by kernel_rfl
theorem cellsK1 : Tryd.prog.cellsOf 120 = 1 := by kernel_rfl
theorem cellsStr : Tryd.prog.cellsOf 9 = 1 := by kernel_rfl

def laidL {H : Type} : List (String × DataW H) := [("loop.example/constanttime/impl.instrForms", Rows.laid_loop_example_constanttime_impl_instrForms)]

theorem door_met (os : Os) (args : Array Value) : laidMetH Tryd.prog laidL ((World.doorLaid Tryd.prog 400 os).forCall (fun _ _ => 0) ⟨#[], args, []⟩).memory :=
  laidMetH_of_parts3 (fuel := 8) (laidMet_of_run' 8 (by kernel_rfl) (by kernel_rfl)) (by kernel_rfl) (by kernel_rfl)

/-- The five cells of a form. -/
def c5 (s : List UInt8 × List Int) : List Value := .string ⟨s.1.toArray⟩ :: s.2.map (Value.int .i64)
def frmTab : List (List UInt8 × List Int) := (List.range 14).map fun p => (nmT p, [(kdAt p 0 : Int), kdAt p 1, kdAt p 2, kdAt p 3])
theorem chunks : ∀ (ss : List (List UInt8 × List Int)) (cs : List Value), cs.length = ss.length * 5 → (∀ (i : Nat) (s : List UInt8 × List Int), ss[i]? = some s → (cs.drop (i * 5)).take 5 = c5 s) → cs = ss.flatMap c5
  | [], cs, hl, _ => by simp at hl; simp [hl]
  | s :: ss, cs, hl, h => by
    have h0 := h 0 s rfl
    have ih := chunks ss (cs.drop 5) (by simp at hl ⊢; omega) fun i s' hs => by
      have := h (i + 1) s' (by simpa using hs)
      rw [List.drop_drop]
      rwa [show (i + 1) * 5 = 5 + i * 5 by omega] at this
    rw [List.flatMap_cons, ← ih]
    simp at h0
    rw [← h0, List.take_append_drop]

set_option maxRecDepth 100000 in
theorem cells_of_forms {H : Type} {enc : TypeId × Value → H} {w : World} {base : Nat} {sp : Nat → Bool} {held : Bool} {fuel : Nat} {cs : List Value} {p : List MemPlace}
    (h : DataW.trod enc Tryd.prog w base sp held fuel 124 cs = some (.agg (frmTab.map fun s => .agg [.lit (.string s.1), Lib.tabData .i64 s.2]), p)) : cs = frmTab.flatMap c5 := by
  cases fuel with
  | zero => simp [DataW.trod] at h
  | succ fuel =>
    simp only [DataW.trod, Tryd.underlying124, cellsForm, cellsFrm] at h
    split at h
    · rename_i hl
      obtain ⟨xs, hm, hx⟩ := Option.map_eq_some_iff.1 h
      have hxs : xs.map (·.1) = frmTab.map fun s => (DataW.agg [.lit (.string s.1), Lib.tabData .i64 s.2] : DataW H) := by
        have := congrArg Prod.fst hx
        simpa using this
      have hxl : xs.length = 14 := by simpa using Lib.mapM_length hm
      refine chunks _ _ (by rw [hl]; rfl) fun i s hs => ?_
      have hi : i < 14 := by
        have := (List.getElem?_eq_some_iff.1 hs).1
        simpa [frmTab] using this
      obtain ⟨b, hb, hf⟩ := Lib.mapM_at hm i i (by simp [hi])
      have h2 : (xs.map (·.1))[i]? = some b.1 := by simp [hb]
      rw [hxs] at h2
      simp only [List.getElem?_map, hs, Option.map_some, Option.some.injEq] at h2
      obtain ⟨y0, y1, n, hy, hlen, f0, f1⟩ := trod_struct2 Tryd.underlying123 hf
      rw [hy] at h2
      simp only [DataW.agg.injEq, List.cons.injEq] at h2
      obtain ⟨e0, e1, _⟩ := h2
      generalize (cs.drop (i * 5)).take 5 = x5 at hlen f0 f1
      rw [cellsForm] at hlen
      match x5, hlen with
      | [a0, a1, a2, a3, a4], _ =>
        have f0' : DataW.trod enc Tryd.prog w base sp held n 9 [a0] = some y0 := by simpa [cellsStr] using f0
        have f1' : DataW.trod enc Tryd.prog w base sp held n 121 [a1, a2, a3, a4] = some y1 := by simpa [cellsK4] using f1
        obtain ⟨st, hc, hy0, _⟩ := DataW.trod_string Tryd.underlying9 f0'
        obtain ⟨z1, z2⟩ := y1
        simp only at e1
        rw [← e1] at f1'
        have c4 := Lib.cells_of_tab Tryd.underlying121 Tryd.underlying120 cellsK1 cellsK4 f1'
        rw [hy0] at e0
        simp only [DataW.lit.injEq, Lit.string.injEq] at e0
        have es : st = ⟨s.1.toArray⟩ := by
          apply ByteArray.ext
          rw [e0]
        simp at hc
        rw [hc, es, c4]
        rfl
    · cases h

theorem frm_cells : frmTab.flatMap c5 = frmCells.toList := by kernel_rfl

theorem cells_of_laid {W : World} (h : laidMetH Tryd.prog laidL W) : W.var? Tryd.prog "loop.example/constanttime/impl.instrForms" = some frmCells := by
  rw [MakeChecks.laidMetH_plain _ _ _ (by kernel_rfl)] at h
  obtain ⟨ps, ⟨g, t, cs, fuel, p, q, hg, ht, hvar, hd, _, _⟩, _⟩ := h
  obtain rfl := Option.some.inj (gFrm.symm.trans hg)
  obtain rfl := Option.some.inj (tFrm.symm.trans ht)
  have e : (Rows.laid_loop_example_constanttime_impl_instrForms : DataW Unit) = .agg (frmTab.map fun s => .agg [.lit (.string s.1), Lib.tabData .i64 s.2]) := by kernel_rfl
  rw [e] at hd
  have c := cells_of_forms hd
  rw [hvar, show cs = frmCells from Array.toList_inj.1 (c.trans frm_cells)]

theorem tbl_of_var {W : World} (h : W.var? Tryd.prog "loop.example/constanttime/impl.instrForms" = some frmCells) : TblF W := by
  unfold World.var? at h
  rw [gFrm] at h
  simp only [Option.bind_some] at h
  split at h
  · rename_i cs t fr hh
    cases h
    exact ⟨t, fr, hh⟩
  · cases h

abbrev tableH {H : Type} : DataW H := Rows.laid_loop_example_constanttime_impl_instrForms
theorem reads_table {H : Type} (enc : TypeId × Value → H) (W : World) (sp : Nat → Bool) : DataW.trod enc Tryd.prog W 0 sp true 5 124 frmCells.toList = some (tableH, []) := by kernel_rfl

theorem vars_at {H : Type} (enc : TypeId × Value → H) {W : World} (hvar : W.var? Tryd.prog "loop.example/constanttime/impl.instrForms" = some frmCells) (sp : Nat → Bool) :
    DataW.TrodVars enc Tryd.prog W sp ["loop.example/constanttime/impl.instrForms"] [tableH] (MemPlace.row ⟨0, 0, none⟩ frmCells.size ++ [] ++ []) :=
  ⟨_, _, frmCells, 5, [], [], gFrm, tFrm, hvar, reads_table enc W sp, rfl, rfl⟩

end Go.Proofs.YtbifbmpflhdijaaDoor

/- At every program and expression, ExprLabel answers what the model's ExprLabel answers and writes into neither; nothing that was there has changed. Condition: the tables of operands and of the library lie as the program's text lays them. -/
import Derived.Test.YtnbngjgkmhdijaaDoorCards
import Derived.Test.YtnbngjgkmhdijaaDoorTie
import Derived.Test.YtnbngjgkmhdijaaDoorDoorB
import Derived.Test.YtnbngjgkmhdijaaDoorLLb
import Derived.Test.YtnbngjgkmhdijaaDoorOpenP
import Derived.SevenTiedAt
namespace Go.Proofs.YtnbngjgkmhdijaaDoor.fnExactExprLabel
open Go Go.ChangeShapes Go.WideShapes Go.ChangeAt Go.WideMaps Go.WideElems Go.RowKit
open Go.ChangeMaps (open_string shut_string)
set_option linter.unusedVariables false

set_option maxRecDepth 100000 in
theorem lifted (os : Os) (started : os.Started) (H : Type) (enc : TypeId × Value → H) :
    ReturnsInHanded {} Tryd.checked os 3 .any (fun w args => (Rows.fnExactExprLabelSpec.pre enc Tryd.prog Tryd.f3 [] false w args ∧ laidMetH Tryd.prog laidL w) ∧ sizedMet enc Tryd.prog Tryd.f3 (OpenSpec.ofChange Rows.fnExactExprLabelSpec) false w args)
      (Rows.fnExactExprLabelSpec.post enc Tryd.prog Tryd.f3 false true false false) := by
  refine returnsInHanded_of_change_and (C := Tryd.checked) (X := fun w _ => laidMetH Tryd.prog laidL w) (fun _ _ _ hh h => h.of_heap hh) own started (by kernel_rfl) Tryd.func3
    (ChangeSpec.witness_shaped (enc := enc) (C := Tryd.checked) (os := os) (X := fun w _ => laidMetH Tryd.prog laidL w) false (World.doorLaid Tryd.prog 400 os) #[.agg #[.slice none 0 0, .slice none 0 0, .slice none 0 0], .agg #[.int .i64 0, .int .i64 0, .slice none 0 0]] 8 rfl (World.shaped_of_RefB (by kernel_rfl) (by kernel_rfl)) (by kernel_rfl) (by kernel_rfl) (by kernel_rfl) (door_met os _)) ?_
  intro W base args ds gs before hval0 hW _ _ hL _
  have hval : ∀ (j : Nat) t v, Tryd.f3.params[j]? = some t → args[j]? = some v → Value.okWide Tryd.prog W .any base t v := hval0
  have hW' := hW
  obtain ⟨p, q, hA0, hV0, rfl, hfz, hnd⟩ := hW
  have hA : DataW.TrodAll enc Tryd.prog W 0 (fun _ => true) true Tryd.f3.params.toList args.toList ds p := hA0
  have hV : DataW.TrodVars enc Tryd.prog W (fun _ => true) ["loop.example/constanttime/impl.exprOperands"] gs q := hV0
  rw [Tryd.params3] at hA hval
  obtain ⟨v0, vs0, d0, ds0, p0, q0, hargs, rfl, rfl, h0, r0⟩ := trodAll_cons hA
  obtain ⟨v1, vs1, d1, ds1, p1, q1, rfl, rfl, rfl, h1, r1⟩ := trodAll_cons r0
  obtain ⟨rfl, rfl, rfl⟩ := trodAll_nil r1
  obtain rfl : args = #[v0, v1] := by cases args; simp_all
  have hvar := cells_of_laid hL
  have hT : TblO W := tbl_of_var hvar
  obtain ⟨g, t, cs, fuel, dv, pv', rfl, hg, ht, hvar', hd, rfl⟩ := trodVars_one hV
  obtain rfl := Option.some.inj (gLet.symm.trans hg)
  obtain rfl := Option.some.inj (tLet.symm.trans ht)
  obtain rfl : cs = opsCells := Option.some.inj (hvar'.symm.trans hvar)
  obtain ⟨rfl, rfl⟩ := DataW.Trod.unique (v := .agg opsCells) ⟨fuel, hd⟩ ⟨3, reads_table enc W _⟩
  obtain ⟨cs0, rfl, _⟩ := okWide_struct Tryd.underlying25 (hval 0 25 v0 rfl rfl)
  have k0 := h0
  have lt0 : ∀ x ∈ p0, x.block < W.heap.size := by obtain ⟨m, hm⟩ := k0; exact DataW.trod_lt m _ _ _ hm
  obtain ⟨z0, kk0, nn0, e0, w0⟩ : ∃ p k n, cs0.toList = (arrP p k).toList ∧ IsP W (fun k => k < W.heap.size) n p k := by
    obtain ⟨fuel, hf⟩ := h0
    exact open_P fuel _ _ hf
  obtain rfl : cs0 = arrP z0 kk0 := by simpa using congrArg List.toArray e0
  obtain ⟨cs1, rfl, _⟩ := okWide_struct Tryd.underlying28 (hval 1 28 v1 rfl rfl)
  have k1 := h1
  have lt1 : ∀ x ∈ p1, x.block < W.heap.size := by obtain ⟨m, hm⟩ := k1; exact DataW.trod_lt m _ _ _ hm
  obtain ⟨z1, a1, c1, nn1, e1, w1⟩ : ∃ e a c n, cs1.toList = cellsI e a c ∧ IsE W (fun k => k < W.heap.size) n e (cellsI e a c) := by
    obtain ⟨fuel, hf⟩ := h1
    obtain ⟨e, he⟩ := open_E fuel _ _ hf
    cases fuel with
    | zero => exact he.elim
    | succ fuel =>
      obtain ⟨a, c, hcs, h1, h2, h3⟩ := he
      exact ⟨e, a, c, fuel + 1, hcs, ⟨a, c, rfl, h1, h2, h3⟩⟩
  obtain rfl : cs1 = #[.int .i64 z1.kind, .int .i64 z1.value, .slice a1 z1.kids.length c1] := by simpa using congrArg List.toArray e1
  clear hA0 hV0 hval0
  have hlt := hT.lt
  refine (law_FnExactExprLabel z0 kk0 z1 a1 c1 W hT (tblB_of_laid hL) (by have := (tblB_of_laid hL).lt; omega) ⟨_, nn0, fun _ h => h, w0⟩ ⟨_, nn1, fun _ h => h, w1⟩).mono fun e W' ⟨he, bel⟩ => ?_
  subst he
  exact ⟨_, rfl, _, _, _, [], _, _, hW', trodAll_mk1 (shut_bool Tryd.underlying4 _), (trodAll_cons_mk (Below.trod laidOut (by kernel_rfl) (of_decide_eq_true (by kernel_rfl)) k0 bel lt0) (trodAll_cons_mk (Below.trod laidOut (by kernel_rfl) (of_decide_eq_true (by kernel_rfl)) k1 bel lt1) trodAll_mk0)), vars_at enc (var?_below bel gLet hlt hvar) _, bel.frame _, fun h => by cases h⟩

theorem over : Rows.FnExactExprLabelSaid :=
  OpenClaim.holds_of_wide 3 Tryd.f3 rfl rfl rfl rfl rfl rfl rfl ⟨rfl, rfl, rfl, rfl, rfl⟩ rfl rfl rfl rfl rfl (by kernel_rfl) Tryd.func3 (by kernel_rfl)
    (of_decide_eq_true (by kernel_rfl)) (by unfold Func.isWrapper; first | (rw [if_pos (by decide +kernel)]; kernel_rfl) | (rw [if_neg (by decide +kernel)]; exact ⟨rfl, rfl⟩))
    (fun os started H enc _ => lifted os started H enc)

theorem proved : Rows.FnExactExprLabelCardSaid :=
  Claim7.holds_tied_plain_at .later [] [.data, .data, .data] true _ false
    over (fun _ h => by cases h) (by kernel_rfl) (fun _ h => by cases h) fnExactExprLabel_row_tie rfl ⟨rfl, rfl⟩ (by kernel_rfl) rfl
    (fun f fn hf hfn => by
      obtain rfl : f = 3 := Option.some.inj ((show Tryd.prog.funcNamed "loop.example/constanttime/laws.FnExactExprLabel" = some 3 by kernel_rfl).symm.trans hf) |>.symm
      obtain rfl : fn = Tryd.f3 := (Option.some.inj (Tryd.func3.symm.trans hfn)).symm
      exact ⟨by kernel_rfl, fun j t ht => by
        rw [Tryd.params3] at ht
        have hm : t ∈ [25, 28] := by simpa using Array.mem_of_getElem? ht
        have hall : ([25, 28].all fun u => !Tryd.prog.wantsStandIn u) = true := by kernel_rfl
        exact (show Tryd.prog.wantsStandIn t = false by simpa using List.all_eq_true.1 hall t hm)⟩)
    (by kernel_rfl)
#print axioms proved
end Go.Proofs.YtnbngjgkmhdijaaDoor.fnExactExprLabel

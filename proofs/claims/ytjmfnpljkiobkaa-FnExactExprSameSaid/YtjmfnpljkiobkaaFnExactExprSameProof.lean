/- The law FnExactExprSame: at every two expressions the call returns true. No condition. -/
import Derived.Test.YtjmfnpljkiobkaaRows
import Derived.Test.YtjmfnpljkiobkaaLSm
import Derived.Test.YtjmfnpljkiobkaaOpenE
import Derived.WalkKit
import Derived.ProofKit
import Derived.OpenShut
import Derived.ChangeSame
namespace Go.Proofs.Ytjmfnpljkiobkaa.fnExactExprSame
open Go Go.ChangeShapes Go.WideShapes Go.ChangeAt Go.WideMaps Go.WideElems Go.RowKit
set_option linter.unusedVariables false

theorem own : ownKnob Try.prog.godebug = none := by kernel_rfl
theorem laidOut : laidOutB Try.prog = true := by kernel_rfl

set_option maxRecDepth 100000 in
theorem lifted (os : Os) (started : os.Started) (H : Type) (enc : TypeId × Value → H) :
    ReturnsInHanded {} Try.checked os 4 .any (Rows.fnExactExprSameSpec.pre6 enc Try.prog Try.f4 Rows.fnExactExprSameRow.domain false) (Rows.fnExactExprSameSpec.post enc Try.prog Try.f4 false true false false) := by
  refine returnsInHanded_of_change (C := Try.checked) own started (by kernel_rfl) Try.func4
    (ChangeSpec.witness6 (enc := enc) (C := Try.checked) false ⟨#[], #[.agg #[.int .i64 0, .int .i64 0, .slice none 0 0], .agg #[.int .i64 0, .int .i64 0, .slice none 0 0]], []⟩ 8 (by kernel_rfl) (by kernel_rfl) (by kernel_rfl) (by kernel_rfl)) ?_
  intro W base args ds gs before hval0 hW hcnd _
  have hval : ∀ (j : Nat) t v, Try.f4.params[j]? = some t → args[j]? = some v → Value.okWide Try.prog W .any base t v := hval0
  have hW' := hW
  obtain ⟨p, q, hA0, hV, rfl, hfz, hnd⟩ := hW
  have hA : DataW.TrodAll enc Try.prog W 0 (fun _ => true) true Try.f4.params.toList args.toList ds p := hA0
  rw [Try.params4] at hA hval
  obtain ⟨v0, vs0, d0, ds0, p0, q0, hargs, rfl, rfl, h0, r0⟩ := trodAll_cons hA
  obtain ⟨v1, vs1, d1, ds1, p1, q1, rfl, rfl, rfl, h1, r1⟩ := trodAll_cons r0
  obtain ⟨rfl, rfl, rfl⟩ := trodAll_nil r1
  obtain rfl : args = #[v0, v1] := by cases args; simp_all
  obtain ⟨rfl, rfl⟩ := trodVars_none hV
  obtain ⟨cs0, rfl, _⟩ := okWide_struct Try.underlying33 (hval 0 33 v0 rfl rfl)
  have k0 := h0
  have lt0 : ∀ x ∈ p0, x.block < W.heap.size := by obtain ⟨m, hm⟩ := k0; exact DataW.trod_lt m _ _ _ hm
  obtain ⟨z0, a0, c0, nn0, e0, w0⟩ : ∃ e a c n, cs0.toList = cellsI e a c ∧ IsE W (fun k => k < W.heap.size) n e (cellsI e a c) := by
    obtain ⟨fuel, hf⟩ := h0
    obtain ⟨e, he⟩ := open_E fuel _ _ hf
    cases fuel with
    | zero => exact he.elim
    | succ fuel =>
      obtain ⟨a, c, hcs, h1, h2, h3⟩ := he
      exact ⟨e, a, c, fuel + 1, hcs, ⟨a, c, rfl, h1, h2, h3⟩⟩
  obtain rfl : cs0 = #[.int .i64 z0.kind, .int .i64 z0.value, .slice a0 z0.kids.length c0] := by simpa using congrArg List.toArray e0
  obtain ⟨cs1, rfl, _⟩ := okWide_struct Try.underlying33 (hval 1 33 v1 rfl rfl)
  have k1 := h1
  have lt1 : ∀ x ∈ p1, x.block < W.heap.size := by obtain ⟨m, hm⟩ := k1; exact DataW.trod_lt m _ _ _ hm
  obtain ⟨z1, a1, c1, nn1, e1, w1⟩ : ∃ e a c n, cs1.toList = cellsI e a c ∧ IsE W (fun k => k < W.heap.size) n e (cellsI e a c) := by
    obtain ⟨fuel, hf⟩ := h1
    obtain ⟨e, he⟩ := open_E fuel _ _ hf
    cases fuel with
    | zero => exact he.elim
    | succ fuel =>
      obtain ⟨a, c, hcs, h1, h2, h3⟩ := he
      exact ⟨e, a, c, fuel + 1, hcs, ⟨a, c, rfl, h1, h2, h3⟩⟩
  obtain rfl : cs1 = #[.int .i64 z1.kind, .int .i64 z1.value, .slice a1 z1.kids.length c1] := by simpa using congrArg List.toArray e1
  clear hA0 hval0
  refine (law_FnExactExprSame z0 z1 a0 a1 c0 c1 W ⟨_, nn0, fun _ h => h, w0⟩ ⟨_, nn1, fun _ h => h, w1⟩).mono fun e W' ⟨he, bel⟩ => ?_
  subst he
  exact ⟨_, rfl, _, _, _, [], _, [], hW', trodAll_mk1 (shut_bool Try.underlying4 _), (trodAll_cons_mk (Below.trod laidOut (by kernel_rfl) (of_decide_eq_true (by kernel_rfl)) k0 bel lt0) (trodAll_cons_mk (Below.trod laidOut (by kernel_rfl) (of_decide_eq_true (by kernel_rfl)) k1 bel lt1) trodAll_mk0)), rfl, bel.frame _, fun h => by cases h⟩

theorem over : Rows.fnExactExprSameRow.holds Try.pinned (OpenSpec.ofChange Rows.fnExactExprSameSpec) :=
  OpenClaim.holds_of_wide 4 Try.f4 rfl rfl rfl rfl rfl rfl rfl ⟨rfl, rfl, rfl, rfl, rfl⟩ rfl rfl rfl rfl rfl (by kernel_rfl) Try.func4 (by kernel_rfl)
    (of_decide_eq_true (by kernel_rfl)) (by unfold Func.isWrapper; first | (rw [if_pos (by decide +kernel)]; kernel_rfl) | (rw [if_neg (by decide +kernel)]; exact ⟨rfl, rfl⟩))
    (fun os started H enc _ => lifted os started H enc)

theorem proved : Rows.FnExactExprSameSaid :=
  over
#print axioms proved
end Go.Proofs.Ytjmfnpljkiobkaa.fnExactExprSame

/- Both judgements of expressions at programs and expressions of some world, whole and short. -/
import Derived.Test.YtnbngjgkmhdijaaDoorVal
import Derived.Test.YtnbngjgkmhdijaaDoorImF
namespace Go.Proofs.YtnbngjgkmhdijaaDoor
open Go.RowKit
set_option linter.unusedVariables false

theorem sExprValidC (p : Pg) (k : PC) (e : E) (a : Option Addr) (c : Nat) (w : World) (hp : CP w p k) (h : CE w e a c) :
    Calls Tryd.prog 15 #[aggP p k, .agg #[.int .i64 e.kind, .int .i64 e.value, .slice a e.kids.length c]] w (AnsB (exprB p e) w) := by
  obtain ⟨D, n, hD, hp, hs⟩ := hp
  obtain ⟨D', n', hD', h, hs'⟩ := h
  exact sExprValid_one p k (max n n') e a c (fun j => D j ∨ D' j) w ((hp.mono (fun _ _ => rfl) fun _ h => .inl h).deeper (Nat.le_max_left _ _)) ((h.mono (fun _ _ => rfl) fun _ h => .inr h).deeper' (Nat.le_max_right _ _)) fun j hj => hj.elim (hD j) (hD' j)
theorem iExprValidC (p : Pg) (k : PC) (e : E) (a : Option Addr) (c : Nat) (w : World) (hT : TblO w) (hw : 2 ≤ w.heap.size) (hp : CP w p k) (h : CE w e a c) :
    Calls Tryd.prog 20 #[aggP p k, .agg #[.int .i64 e.kind, .int .i64 e.value, .slice a e.kids.length c]] w (AnsB (exprB p e) w) := by
  have hc := h.cnt
  obtain ⟨D, n, hD, hp, hs⟩ := hp
  obtain ⟨D', n', hD', h, hs'⟩ := h
  exact iExprValid_one p k (max n n') e a c (fun j => D j ∨ D' j) w hT hw ((hp.mono (fun _ _ => rfl) fun _ h => .inl h).deeper (Nat.le_max_left _ _)) ((h.mono (fun _ _ => rfl) fun _ h => .inr h).deeper' (Nat.le_max_right _ _)) (fun j hj => hj.elim (hD j) (hD' j)) hc

end Go.Proofs.YtnbngjgkmhdijaaDoor

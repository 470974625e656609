/- Rows of expressions that a call owns. -/
import Derived.Test.YtgfagdjadmpklaaRowB
import Derived.Test.YtgfagdjadmpklaaDrU
namespace Go.Proofs.Ytgfagdjadmpklaa
open Go.RowKit
set_option linter.unusedVariables false

/-! Rows of expressions. -/
abbrev RowE (n : Nat) (w : World) (base : Nat) (v : Value) (es : List E) : Prop := RowG 45 3 (fun (x : E) (k : Option Addr × Nat) => cellsI x k.1 k.2) (fun w D x k => IsE w D n x (cellsI x k.1 k.2)) w base v es
theorem hRE (n : Nat) : ∀ (w w' : World) (D D' : Nat → Prop) (x : E) (k : Option Addr × Nat), Stand D w w' → (∀ j, D j → D' j) → IsE w D n x (cellsI x k.1 k.2) → IsE w' D' n x (cellsI x k.1 k.2) := fun _ _ _ _ _ _ h1 h2 h3 => h3.mono h1 h2
theorem RowE.es {n : Nat} {w : World} {base : Nat} {v : Value} {es : List E} (h : RowE n w base v es) : ∃ a cap, v = .slice a es.length cap ∧ es.length ≤ cap ∧ cap ≤ maxLen ∧ EsAt w (fun j => base ≤ j ∧ j < w.heap.size) (IsE w (fun j => base ≤ j ∧ j < w.heap.size) n) es a := by
  obtain ⟨L, h1, h2, h3⟩ := h
  rcases h2.2 with ⟨e1, e2⟩ | ⟨g, cap, cur, rfl, e2, e3, e4, e5, _⟩
  · have : es = [] := by simpa using e2
    subst this
    exact ⟨none, 0, by rw [e1]; rfl, by simp, by unfold maxLen; omega, fun i x hx => by simp at hx⟩
  · refine ⟨_, cap, rfl, e4, e5, fun i x hx => ?_⟩
    have hi : i < es.length := (List.getElem?_eq_some_iff.1 hx).1
    obtain ⟨k, hk⟩ : ∃ k, L[i]? = some k := ⟨L[i]'(by omega), List.getElem?_eq_getElem _⟩
    have hat : ∀ j, j < 3 → w.cell? ⟨g, 0 + i * 3 + j, none⟩ = (cellsI x k.1 k.2)[j]? := fun j hj => by
      rw [Nat.zero_add, h2.cellAt _ (by omega), cellsL_at (sz := 3) (fun x k => rfl) es L i j x k hx hk hj]
    exact ⟨g, 0, _, _, _, rfl, ⟨e2, (Array.getElem?_eq_some_iff.1 e3).1⟩, hat 0 (by omega), hat 1 (by omega), hat 2 (by omega), (h3 i x k hx hk).mono (fun _ _ => rfl) fun j hj => ⟨hj.1, hj.2.1⟩⟩

end Go.Proofs.Ytgfagdjadmpklaa

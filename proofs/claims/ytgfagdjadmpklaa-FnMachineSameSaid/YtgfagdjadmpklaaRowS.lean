/- Rows of statements that a call owns. -/
import Derived.Test.YtgfagdjadmpklaaDrE
import Derived.Test.YtgfagdjadmpklaaToS
namespace Go.Proofs.Ytgfagdjadmpklaa
open Go.RowKit
set_option linter.unusedVariables false

abbrev RowS (n : Nat) (w : World) (base : Nat) (v : Value) (ss : List S) : Prop := RowG 107 11 (fun (x : S) (k : SC) => (arrS x k).toList) (fun w D x k => IsS w D n x k) w base v ss
theorem hRS (n : Nat) : ∀ (w w' : World) (D D' : Nat → Prop) (x : S) (k : SC), Stand D w w' → (∀ j, D j → D' j) → IsS w D n x k → IsS w' D' n x k := fun _ _ _ _ _ _ h1 h2 h3 => h3.mono h1 h2
theorem RowS.below {n : Nat} {w w' : World} {base : Nat} {v : Value} {es : List S} (h : RowS n w base v es) (hb : Below w.heap.size w w') : RowS n w' base v es := by
  obtain ⟨L, h1, h2, h3⟩ := h
  refine ⟨L, h1, ?_, fun i x k hx hk => hRS n _ _ _ _ _ _ (fun j hj => hb.block j hj.2.1) (fun j hj => ⟨hj.1, Nat.lt_of_lt_of_le hj.2.1 hb.size, hj.2.2⟩) (h3 i x k hx hk)⟩
  refine ⟨h2.1, ?_⟩
  rcases h2.2 with h | ⟨g, cap, cur, e1, e2, e3, e4⟩
  · exact .inl h
  · exact .inr ⟨g, cap, cur, e1, e2, (hb.block g (Array.getElem?_eq_some_iff.1 e3).1).trans e3, e4⟩
theorem RowS.ss {n : Nat} {w : World} {base : Nat} {v : Value} {es : List S} (h : RowS n w base v es) : ∃ a cap, v = .slice a es.length cap ∧ es.length ≤ cap ∧ cap ≤ maxLen ∧ SsAt w (fun j => base ≤ j ∧ j < w.heap.size) (IsS w (fun j => base ≤ j ∧ j < w.heap.size) n) es a := by
  obtain ⟨L, h1, h2, h3⟩ := h
  rcases h2.2 with ⟨e1, e2⟩ | ⟨g, cap, cur, rfl, e2, e3, e4, e5, _⟩
  · have : es = [] := by simpa using e2
    subst this
    exact ⟨none, 0, by rw [e1]; rfl, by simp, by unfold maxLen; omega, fun i x hx => by simp at hx⟩
  · refine ⟨_, cap, rfl, e4, e5, fun i x hx => ?_⟩
    have hi : i < es.length := (List.getElem?_eq_some_iff.1 hx).1
    obtain ⟨k, hk⟩ : ∃ k, L[i]? = some k := ⟨L[i]'(by omega), List.getElem?_eq_getElem _⟩
    have hat : ∀ j, j < 11 → w.cell? ⟨g, 0 + i * 11 + j, none⟩ = (arrS x k).toList[j]? := fun j hj => by
      rw [Nat.zero_add, h2.cellAt _ (by omega), cellsL_at (sz := 11) (fun x k => rfl) es L i j x k hx hk hj]
    exact ⟨g, 0, k, rfl, ⟨e2, (Array.getElem?_eq_some_iff.1 e3).1⟩, ⟨hat 0 (by omega), hat 1 (by omega), hat 2 (by omega), hat 3 (by omega), hat 4 (by omega), hat 5 (by omega), hat 6 (by omega), hat 7 (by omega), hat 8 (by omega), hat 9 (by omega), hat 10 (by omega)⟩, (h3 i x k hx hk).mono (fun _ _ => rfl) fun j hj => ⟨hj.1, hj.2.1⟩⟩

end Go.Proofs.Ytgfagdjadmpklaa

/- A row of a call's own with one cell of one element written anew (every struct). -/
import Derived.Test.YteoaecfjgbkefaaRowA
namespace Go.Proofs.Yteoaecfjgbkefaa
open Go.RowKit
set_option linter.unusedVariables false

section
variable {α κ : Type} {T : TypeId} {sz : Nat} {C : α → κ → List Value} {R : World → (Nat → Prop) → α → κ → Prop}

theorem cellsL_set (hC : ∀ x k, (C x k).length = sz) (x' : α) (u : Value) : ∀ (es : List α) (L : List κ) (i j : Nat) (x : α) (k : κ), es[i]? = some x → L[i]? = some k → j < sz → (C x k).set j u = C x' k → (cellsL C es L).set (i * sz + j) u = cellsL C (es.set i x') L
  | y :: ys, l :: ls, 0, j, x, k, h1, h2, hj, hs => by
    simp at h1 h2; subst h1 h2
    rw [Nat.zero_mul, Nat.zero_add, cellsL, List.set_append_left _ _ (by rw [hC]; exact hj), hs, List.set_cons_zero, cellsL]
  | y :: ys, l :: ls, i + 1, j, x, k, h1, h2, hj, hs => by
    simp at h1 h2
    rw [cellsL, List.set_append_right _ _ (by rw [hC, Nat.succ_mul]; omega), hC, show (i + 1) * sz + j - sz = i * sz + j by rw [Nat.succ_mul]; omega, cellsL_set hC x' u ys ls i j x k h1 h2 hj hs, List.set_cons_succ, cellsL]
  | [], _, _, _, _, _, h, _, _, _ => by simp at h
  | _ :: _, [], _, _, _, _, _, h, _, _ => by simp at h

theorem RowG.set (hC : ∀ x k, (C x k).length = sz) (hR : ∀ (w w' : World) (D D' : Nat → Prop) (x : α) (k : κ), Stand D w w' → (∀ j, D j → D' j) → R w D x k → R w' D' x k) {w : World} {base g cap : Nat} {es : List α} (h : RowG T sz C R w base (.slice (some ⟨g, 0, none⟩) es.length cap) es)
    {i j : Nat} {x x' : α} {u : Value} (hx : es[i]? = some x) (hj : j < sz) (hs : ∀ k, (C x k).set j u = C x' k) (hx' : ∀ w D k, R w D x k → R w D x' k) :
    RowG T sz C R (w.setCell ⟨g, i * sz + j, none⟩ u) base (.slice (some ⟨g, 0, none⟩) es.length cap) (es.set i x') := by
  obtain ⟨L, h1, h2, h3⟩ := h
  have hi : i < es.length := (List.getElem?_eq_some_iff.1 hx).1
  obtain ⟨k, hk⟩ : ∃ k, L[i]? = some k := ⟨L[i]'(by omega), List.getElem?_eq_getElem _⟩
  have hset := cellsL_set hC x' u es L i j x k hx hk hj (hs k)
  have hst : ∀ b, b ≠ g → (w.setCell ⟨g, i * sz + j, none⟩ u).heap[b]? = w.heap[b]? := fun b hb => Below.heap_setCell _ _ _ _ (by simpa using hb)
  have hsz : (w.setCell ⟨g, i * sz + j, none⟩ u).heap.size = w.heap.size := by simp [World.setCell]
  have hD : Stand (Dv w base (.slice (some ⟨g, 0, none⟩) es.length cap)) w (w.setCell ⟨g, i * sz + j, none⟩ u) := fun b hb => hst b fun e => hb.2.2 (by rw [e]; rfl)
  have hDD : ∀ b, Dv w base (.slice (some ⟨g, 0, none⟩) es.length cap) b → Dv (w.setCell ⟨g, i * sz + j, none⟩ u) base (.slice (some ⟨g, 0, none⟩) es.length cap) b := fun b hb => ⟨hb.1, by rw [hsz]; exact hb.2.1, hb.2.2⟩
  refine ⟨L, by rw [h1]; simp, ?_, fun i' y q hy hq => ?_⟩
  · rw [List.length_set]
    rcases h2.2 with ⟨e, _⟩ | ⟨g', cap', cur, e, hb, hg, hn, hm, hc, ht⟩
    · cases e
    · cases e
      refine ⟨by rw [← hset, List.length_set]; exact h2.1, .inr ⟨g, cap, cur.setIfInBounds (i * sz + j) u, rfl, hb, heap_setCell_same w g _ cur T u hg, hn, hm, by rw [Array.size_setIfInBounds]; exact hc, ?_⟩⟩
      rw [Array.toList_setIfInBounds, List.take_set, ht, hset]
  · by_cases hii : i' = i
    · subst hii
      rw [List.getElem?_set_self hi] at hy
      cases hy
      exact hR _ _ _ _ _ _ hD hDD (hx' _ _ _ (h3 i' x q hx hq))
    · rw [List.getElem?_set_ne (by omega)] at hy
      exact hR _ _ _ _ _ _ hD hDD (h3 i' y q hy hq)
end

end Go.Proofs.Yteoaecfjgbkefaa

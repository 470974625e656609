/- Rows of structs that a call owns (for every struct), each element the root of a tree of the call's own: how a row grows by an append. -/
import Derived.Test.YteoaecfjgbkefaaTreeS
import Derived.Deep.AppendLies
namespace Go.Proofs.Yteoaecfjgbkefaa
open Go.RowKit
set_option linter.unusedVariables false

section
variable {α κ : Type} (T : TypeId) (sz : Nat) (C : α → κ → List Value) (R : World → (Nat → Prop) → α → κ → Prop)

def cellsL : List α → List κ → List Value
  | x :: xs, k :: ks => C x k ++ cellsL xs ks
  | _, _ => []
/-- The blocks of the call's own, the row's aside. -/
def Dv (w : World) (base : Nat) (v : Value) : Nat → Prop := fun j => base ≤ j ∧ j < w.heap.size ∧ v.ownBlock ≠ some j
def RowG (w : World) (base : Nat) (v : Value) (es : List α) : Prop := ∃ L : List κ, L.length = es.length ∧ w.ownsRow base T sz v es.length (cellsL C es L) ∧ ∀ (i : Nat) (x : α) (k : κ), es[i]? = some x → L[i]? = some k → R w (Dv w base v) x k

variable {T sz C R}
theorem cellsL_snoc : ∀ (es : List α) (L : List κ) (x : α) (k : κ), L.length = es.length → cellsL C (es ++ [x]) (L ++ [k]) = cellsL C es L ++ C x k
  | [], [], x, k, _ => by simp [cellsL]
  | y :: ys, l :: ls, x, k, h => by simp [cellsL, cellsL_snoc ys ls x k (by simpa using h)]
  | [], _ :: _, _, _, h => by simp at h
  | _ :: _, [], _, _, h => by simp at h
theorem cellsL_at (hC : ∀ x k, (C x k).length = sz) : ∀ (es : List α) (L : List κ) (i j : Nat) (x : α) (k : κ), es[i]? = some x → L[i]? = some k → j < sz → (cellsL C es L)[i * sz + j]? = (C x k)[j]?
  | y :: ys, l :: ls, 0, j, x, k, h1, h2, hj => by
    simp at h1 h2; subst h1 h2
    rw [Nat.zero_mul, Nat.zero_add, cellsL, List.getElem?_append_left (by rw [hC]; exact hj)]
  | y :: ys, l :: ls, i + 1, j, x, k, h1, h2, hj => by
    simp at h1 h2
    rw [cellsL, List.getElem?_append_right (by rw [hC, Nat.succ_mul]; omega), hC, show (i + 1) * sz + j - sz = i * sz + j by rw [Nat.succ_mul]; omega]
    exact cellsL_at hC ys ls i j x k h1 h2 hj
  | [], _, _, _, _, _, h, _, _ => by simp at h
  | _ :: _, [], _, _, _, _, _, h, _ => by simp at h

theorem RowG.nil (w : World) (base : Nat) : RowG T sz C R w base (.slice none 0 0) [] := ⟨[], rfl, World.ownsRow_nil _ _ _ _, fun i x k h => by simp at h⟩
theorem RowG.size {w : World} {base : Nat} {v : Value} {es : List α} (h : RowG T sz C R w base v es) : ∃ a c, v = .slice a es.length c := by
  obtain ⟨L, _, ho, _⟩ := h
  rcases ho.2 with ⟨h1, h2⟩ | ⟨g, cap, cur, h1, _⟩
  · exact ⟨none, 0, by rw [h1, h2]⟩
  · exact ⟨_, cap, h1⟩
/-- It has grown by an element. -/
theorem RowG.snoc (hR : ∀ (w w' : World) (D D' : Nat → Prop) (x : α) (k : κ), Stand D w w' → (∀ j, D j → D' j) → R w D x k → R w' D' x k) {w w1 : World} {base g cap : Nat} {v : Value} {es : List α} {x : α} {k : κ} {L : List κ} (hL : L.length = es.length)
    (hel : ∀ (i : Nat) (y : α) (q : κ), es[i]? = some y → L[i]? = some q → R w (Dv w base v) y q) (hx : R w (Dv w base v) x k)
    (hown : w1.ownsRow base T sz (.slice (some ⟨g, 0, none⟩) (es.length + 1) cap) (es.length + 1) (cellsL C es L ++ C x k)) (hg : w.grownBy w1 v.ownBlock) (hat : v.ownBlock = some g ∨ g = w.heap.size) :
    RowG T sz C R w1 base (.slice (some ⟨g, 0, none⟩) (es.length + 1) cap) (es ++ [x]) := by
  have hst : Stand (Dv w base v) w w1 := fun j hj => hg.block j hj.2.1 (fun e => hj.2.2 e.symm)
  have hw : ∀ j, Dv w base v j → Dv w1 base (.slice (some ⟨g, 0, none⟩) (es.length + 1) cap) j := fun j hj => ⟨hj.1, Nat.lt_of_lt_of_le hj.2.1 hg.size, fun e => by
    simp [Value.ownBlock] at e
    rcases hat with h | h
    · exact hj.2.2 (by rw [h, e])
    · have := hj.2.1; omega⟩
  refine ⟨L ++ [k], by simp [hL], ?_, fun i y q hy hq => ?_⟩
  · rw [cellsL_snoc _ _ _ _ hL]; simpa using hown
  · by_cases hi : i < es.length
    · rw [List.getElem?_append_left hi] at hy
      rw [List.getElem?_append_left (by omega)] at hq
      exact hR _ _ _ _ _ _ hst hw (hel i y q hy hq)
    · have hi2 : i = es.length := by
        have := (List.getElem?_eq_some_iff.1 hy).1
        simp at this; omega
      subst hi2
      rw [List.getElem?_append_right (Nat.le_refl _)] at hy
      rw [List.getElem?_append_right (by omega), hL] at hq
      simp at hy hq
      subst hy hq
      exact hR _ _ _ _ _ _ hst hw hx
end

end Go.Proofs.Yteoaecfjgbkefaa

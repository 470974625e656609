/- The least measure of a state of which a relation tells measures. -/
import Derived.Test.YtodihpnnajlkdaaDoorProg
namespace Go.Proofs.YtodihpnnajlkdaaDoor
set_option linter.unusedVariables false

/-- The least measure. -/
theorem least_ex {P : Nat → Prop} (h : ∃ m, P m) : ∃ m, P m ∧ ∀ k, P k → m ≤ k := by
  obtain ⟨m, hm⟩ := h
  induction m using Nat.strongRecOn with
  | ind m ih =>
    by_cases h1 : ∃ k, k < m ∧ P k
    · obtain ⟨k, hk, hp⟩ := h1
      exact ih k hk hp
    · exact ⟨m, hm, fun k hk => Nat.le_of_not_lt fun hlt => h1 ⟨k, hlt, hk⟩⟩
theorem mu_ex {σ : Type} (R : σ → Nat → Prop) : ∃ mu : σ → Nat, ∀ s, (∃ m, R s m) → R s (mu s) ∧ ∀ k, R s k → mu s ≤ k := by
  refine ⟨fun s => @dite _ (∃ m, R s m) (Classical.propDecidable _) (fun h => Classical.choose (least_ex h)) (fun _ => 0), fun s h => ?_⟩
  simp only [h, dite_true]
  exact Classical.choose_spec (least_ex h)

end Go.Proofs.YtodihpnnajlkdaaDoor

/- The labels that a program declares, by their places: labelingOf, walked. -/
import Derived.Test.YtbifbmpflhdijaaDoorLbM
import Derived.Test.YtbifbmpflhdijaaDoorTreeP
import Derived.Test.YtbifbmpflhdijaaDoorPut
import Derived.Test.YtbifbmpflhdijaaDoorMmB
import Derived.Outline
import Derived.KernelRfl
namespace Go.Proofs.YtbifbmpflhdijaaDoor
open Go.RowKit
set_option linter.unusedVariables false

def arrOf (f : Nat → Nat) : Array Value := ((List.range 14).map fun i => Value.int .i64 (f i : Int)).toArray
theorem arrOf_size (f : Nat → Nat) : (arrOf f).size = 14 := by simp [arrOf]
theorem arrOf_at (f : Nat → Nat) (i : Nat) (h : i < 14) : (arrOf f)[i]? = some (.int .i64 (f i : Int)) := by simp [arrOf, h]
theorem arrOf_out (f : Nat → Nat) (i : Nat) (h : ¬ i < 14) : (arrOf f)[i]? = none := by simp [arrOf]; omega
theorem arrOf_ext {f g : Nat → Nat} (h : ∀ i, i < 14 → f i = g i) : arrOf f = arrOf g := by
  apply Array.ext_getElem?
  intro i
  by_cases hi : i < 14
  · rw [arrOf_at f i hi, arrOf_at g i hi, h i hi]
  · rw [arrOf_out f i hi, arrOf_out g i hi]
theorem arrOf_set (f : Nat → Nat) (j x : Nat) (hj : j < 14) : (arrOf f).setIfInBounds j (.int .i64 (x : Int)) = arrOf fun i => if i = j then x else f i := by
  apply Array.ext_getElem?
  intro i
  rw [Array.getElem?_setIfInBounds, arrOf_size]
  by_cases hij : j = i
  · subst hij
    rw [if_pos rfl, if_pos hj, arrOf_at _ j hj, if_pos rfl]
  · rw [if_neg hij]
    by_cases hi : i < 14
    · rw [arrOf_at f i hi, arrOf_at _ i hi, if_neg (fun e => hij e.symm)]
    · rw [arrOf_out f i hi, arrOf_out _ i hi]

theorem knl_lt {p : Pg} (hq : headsB p = true) (i : Nat) : knl p i < 4 := by
  unfold headsB at hq
  simp only [Bool.and_eq_true, decide_eq_true_iff, List.all_eq_true] at hq
  obtain ⟨⟨⟨⟨h1, h2⟩, _⟩, _⟩, _⟩ := hq
  have key : ∀ (xs : List Int) (j : Nat), (∀ x ∈ xs, lokB x = true) → (xs.getD j 0).toNat < 4 := fun xs j h => by
    rw [List.getD_eq_getElem?_getD]
    cases hx : xs[j]? with
    | none => simp
    | some x =>
      have := h x (List.mem_of_getElem? hx)
      unfold lokB at this
      simp at this
      simp; omega
  unfold knl
  split
  · exact key _ _ h1
  · exact key _ _ h2
theorem knl_var {p : Pg} (hq : headsB p = true) {i : Nat} (hi : i < p.vars.length) (h12 : p.vars.length ≤ 12) : p.vars.getD i 0 = (knl p i : Int) := by
  unfold headsB at hq
  simp only [Bool.and_eq_true, decide_eq_true_iff, List.all_eq_true] at hq
  obtain ⟨⟨⟨⟨h1, h2⟩, _⟩, _⟩, _⟩ := hq
  have hx := h1 (p.vars.getD i 0) (by rw [List.getD_eq_getElem?_getD, List.getElem?_eq_getElem hi]; exact List.getElem_mem _)
  unfold lokB at hx
  simp only [Bool.and_eq_true, decide_eq_true_iff] at hx
  unfold knl
  rw [if_pos (by omega)]
  omega
theorem knl_arr {p : Pg} (hq : headsB p = true) {i : Nat} (hi : i < p.arrs.length) : p.arrs.getD i 0 = (knl p (12 + i) : Int) := by
  unfold headsB at hq
  simp only [Bool.and_eq_true, decide_eq_true_iff, List.all_eq_true] at hq
  obtain ⟨⟨⟨⟨h1, h2⟩, _⟩, _⟩, _⟩ := hq
  have hx := h2 (p.arrs.getD i 0) (by rw [List.getD_eq_getElem?_getD, List.getElem?_eq_getElem hi]; exact List.getElem_mem _)
  unfold lokB at hx
  simp only [Bool.and_eq_true, decide_eq_true_iff] at hx
  unfold knl
  rw [if_neg (by omega), Nat.add_sub_cancel_left]
  omega
theorem headsB_len {p : Pg} (hq : headsB p = true) : p.vars.length ≤ 12 ∧ p.arrs.length ≤ 2 := by
  unfold headsB at hq
  simp only [Bool.and_eq_true, decide_eq_true_iff] at hq
  exact ⟨hq.1.2, hq.2⟩

end Go.Proofs.YtbifbmpflhdijaaDoor

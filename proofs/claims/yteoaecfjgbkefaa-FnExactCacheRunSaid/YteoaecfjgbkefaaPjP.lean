/- The projection of a list of events, and rows of marks. -/
import Derived.Test.YteoaecfjgbkefaaTrE
namespace Go.Proofs.Yteoaecfjgbkefaa
open Go.RowKit
set_option linter.unusedVariables false

/-- The events that a projection keeps. -/
def kept (x : Ev) : Bool := decide (x.kind = 2 ∨ x.kind = 3 ∨ x.kind = 4)
/-- The projection of a list of events, as pairs. -/
def proj (es : List Ev) : List (Int × Int) := prs (es.filter kept)
theorem proj_app (es fs : List Ev) : proj (es ++ fs) = proj es ++ proj fs := by simp [proj, prs]
theorem proj_len (es : List Ev) : (proj es).length ≤ es.length := by simp [proj, prs_len, List.length_filter_le]
theorem proj_nil : proj [] = [] := rfl
theorem take_one {es : List Ev} {k : Nat} {x : Ev} (h : es[k]? = some x) : es.take (k + 1) = es.take k ++ [x] := by
  have hk := (List.getElem?_eq_some_iff.1 h).1
  have e : es[k] = x := by have := (List.getElem?_eq_some_iff.1 h).2; exact this
  rw [List.take_add_one, h]; rfl
theorem proj_yes {es : List Ev} {k : Nat} {x : Ev} (h : es[k]? = some x) (hk : kept x = true) : proj (es.take (k + 1)) = proj (es.take k) ++ [(x.kind, x.value)] := by
  rw [take_one h, proj_app]
  simp [proj, prs, hk]
theorem proj_no {es : List Ev} {k : Nat} {x : Ev} (h : es[k]? = some x) (hk : kept x = false) : proj (es.take (k + 1)) = proj (es.take k) := by
  rw [take_one h, proj_app]
  simp [proj, prs, hk]
theorem proj_all {es : List Ev} {n : Nat} (h : es.length = n) : proj (es.take n) = proj es := by rw [← h, List.take_length]
theorem proj_take_len (es : List Ev) (k : Nat) : (proj (es.take k)).length ≤ k := Nat.le_trans (proj_len _) (by rw [List.length_take]; exact Nat.min_le_left _ _)
/-- A projection is projected to itself. -/
theorem proj_twice (es : List Ev) : proj (evs (proj es)) = proj es := by
  unfold proj
  rw [evs_prs, List.filter_filter]
  simp
theorem proj_cut (es : List Ev) (k : Nat) : proj (es.take k) ++ proj (es.drop k) = proj es := by rw [← proj_app, List.take_append_drop]

/-- The marks from k on. -/
def mks (k : Int) (n : Nat) : List (Int × Int) := (List.range n).map fun (i : Nat) => (k + 2 * (i : Int), k + 2 * (i : Int) + 1)
theorem mks_len (k : Int) (n : Nat) : (mks k n).length = n := by simp [mks]
theorem mks_at (k : Int) {n i : Nat} (h : i < n) : (mks k n)[i]? = some (k + 2 * (i : Int), k + 2 * (i : Int) + 1) := by
  unfold mks
  rw [List.getElem?_map, List.getElem?_range h]; rfl
theorem mks_all {k : Int} {n : Nat} {ps : List (Int × Int)} (hl : ps.length = n) (h : ∀ i : Nat, i < n → ps[i]? = some (k + 2 * (i : Int), k + 2 * (i : Int) + 1)) : ps = mks k n := by
  apply List.ext_getElem?
  intro i
  by_cases hi : i < n
  · rw [h i hi, mks_at k hi]
  · rw [List.getElem?_eq_none (by omega), List.getElem?_eq_none (by rw [mks_len]; omega)]

end Go.Proofs.Yteoaecfjgbkefaa

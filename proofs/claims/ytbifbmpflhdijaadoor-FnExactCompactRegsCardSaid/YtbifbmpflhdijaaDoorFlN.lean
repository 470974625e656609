/- Rows of instructions of a call's own, as flat cells: grown by one, read as a list. -/
import Derived.Test.YtbifbmpflhdijaaDoorInB
import Derived.Test.YtbifbmpflhdijaaDoorTreeS
import Derived.Test.YtbifbmpflhdijaaDoorSlB
import Derived.Deep.AppendLies
namespace Go.Proofs.YtbifbmpflhdijaaDoor
open Go.RowKit
set_option linter.unusedVariables false

/-- The cells of a list of instructions. -/
def flatN : List Ins → List Value
  | [] => []
  | x :: xs => .int .i64 x.op :: .int .i64 x.fa :: .int .i64 x.fb :: .int .i64 x.fc :: .int .i64 x.fd :: flatN xs
theorem flatN_app : ∀ (xs ys : List Ins), flatN (xs ++ ys) = flatN xs ++ flatN ys
  | [], ys => rfl
  | x :: xs, ys => by simp only [List.cons_append, flatN, flatN_app xs ys]
theorem flatN_len : ∀ (xs : List Ins), (flatN xs).length = xs.length * 5
  | [] => rfl
  | x :: xs => by simp only [flatN, List.length_cons, flatN_len xs]; omega
theorem flatN_at : ∀ (xs : List Ins) (i : Nat) (x : Ins), xs[i]? = some x → (flatN xs)[i * 5]? = some (.int .i64 x.op) ∧ (flatN xs)[i * 5 + 1]? = some (.int .i64 x.fa) ∧ (flatN xs)[i * 5 + 2]? = some (.int .i64 x.fb) ∧ (flatN xs)[i * 5 + 3]? = some (.int .i64 x.fc) ∧ (flatN xs)[i * 5 + 4]? = some (.int .i64 x.fd)
  | [], i, x, h => by simp at h
  | y :: ys, 0, x, h => by simp at h; subst h; exact ⟨rfl, rfl, rfl, rfl, rfl⟩
  | y :: ys, i + 1, x, h => by
    obtain ⟨h0, h1, h2, h3, h4⟩ := flatN_at ys i x (by simpa using h)
    rw [show (i + 1) * 5 = i * 5 + 1 + 1 + 1 + 1 + 1 by omega]
    simp only [flatN]
    exact ⟨by simpa using h0, by simpa using h1, by simpa using h2, by simpa using h3, by simpa using h4⟩
/-- A row of instructions of the call's own. -/
def OwnN (w : World) (base : Nat) (v : Value) (xs : List Ins) : Prop := w.ownsRow base 50 5 v xs.length (flatN xs)
theorem OwnN.nil (w : World) (base : Nat) : OwnN w base (.slice none 0 0) [] := World.ownsRow_nil _ _ _ _
theorem OwnN.far {w w' : World} {base : Nat} {v : Value} {xs : List Ins} (h : OwnN w base v xs) (hs : ∀ g, v.ownBlock = some g → g < w.heap.size → w'.heap[g]? = w.heap[g]?) : OwnN w' base v xs := by
  refine ⟨h.1, ?_⟩
  rcases h.2 with e | ⟨g, cp, cur, rfl, e2, e3, e4⟩
  · exact .inl e
  · exact .inr ⟨g, cp, cur, rfl, e2, (hs g rfl (Array.getElem?_eq_some_iff.1 e3).1).trans e3, e4⟩
theorem OwnN.nat {v : World} {base n cap : Nat} {a : Option Addr} {ys : List Ins} (h : OwnN v base (.slice a n cap) ys) : ys.length = n ∧ n ≤ cap ∧ cap ≤ maxLen ∧ NAt v (fun j => base ≤ j ∧ j < v.heap.size) ys a := by
  rcases h.2 with ⟨e, e2⟩ | ⟨g, cap', cur, e, hb, hg, hn, hm, hc, ht⟩
  · cases e
    obtain rfl : ys = [] := List.eq_nil_of_length_eq_zero e2
    exact ⟨rfl, Nat.le_refl _, by unfold maxLen; omega, Nat.zero_le _, fun i x hx => by simp at hx⟩
  · injection e with e1 e2 e3
    subst e1 e2 e3
    refine ⟨rfl, hn, hm, Nat.le_trans hn hm, fun i x hx => ?_⟩
    have hi := (List.getElem?_eq_some_iff.1 hx).1
    obtain ⟨h0, h1, h2, h3, h4⟩ := flatN_at ys i x hx
    have hcell : ∀ j, j < 5 → v.cell? ⟨g, 0 + i * 5 + j, none⟩ = (flatN ys)[i * 5 + j]? := fun j hj => by
      rw [Nat.zero_add]
      exact World.ownsRow.cellAt h (i * 5 + j) (by omega)
    exact ⟨g, 0, rfl, ⟨hb, (Array.getElem?_eq_some_iff.1 hg).1⟩, (hcell 0 (by omega)).trans h0, (hcell 1 (by omega)).trans h1, (hcell 2 (by omega)).trans h2, (hcell 3 (by omega)).trans h3, (hcell 4 (by omega)).trans h4⟩

theorem Tryd.infoN : (Tryd.prog.info? 50).map (fun i => (i.zero, i.size, i.bytes)) = some (some (.agg #[.int .i64 0, .int .i64 0, .int .i64 0, .int .i64 0, .int .i64 0]), 5, 40) := by kernel_rfl

end Go.Proofs.YtbifbmpflhdijaaDoor

/- spec.l6Fields: the letters of an instruction. -/
import Derived.Test.YtbifbmpflhdijaaDoorCoB
namespace Go.Proofs.YtbifbmpflhdijaaDoor
open Go.RowKit
set_option linter.unusedVariables false

/-- The letter of a kind of field. -/
def kdC (k : Nat) : UInt8 := if k = 1 then 114 else if k = 2 then 99 else if k = 3 then 118 else if k = 4 then 97 else if k = 5 then 111 else 116

/-- What the fields of an operation are, as a text. -/
def fsB (op : Nat) : ByteArray := ⟨((kdL.getD op []).map kdC).toArray⟩
theorem fsB_size (op : Nat) : (fsB op).size = (kdL.getD op []).length := by show ((kdL.getD op []).map kdC).toArray.size = _; simp
theorem fsB_at (op j : Nat) (h : j < (fsB op).size) : (fsB op)[j] = kdC (kdAt op j) := by
  have hj : j < (kdL.getD op []).length := by rw [← fsB_size]; exact h
  show ((kdL.getD op []).map kdC).toArray[j]'(by simpa using hj) = _
  have e : kdAt op j = (kdL.getD op [])[j] := by
    unfold kdAt
    rw [List.getD_eq_getElem?_getD (l := kdL.getD op []), List.getElem?_eq_getElem hj]; rfl
  rw [e]
  simp
theorem kdL_pos (op j : Nat) (hj : j < (kdL.getD op []).length) : 1 ≤ kdAt op j := by
  have hall : ∀ l ∈ kdL, ∀ x ∈ l, 1 ≤ x := by decide
  unfold kdAt
  rw [List.getD_eq_getElem?_getD (l := kdL.getD op []), List.getElem?_eq_getElem hj]
  exact getD_all (fun l => ∀ x ∈ l, 1 ≤ x) kdL [] (by simp) hall op _ (List.getElem_mem _)
theorem kdL_none (op j : Nat) (hj : ¬ j < (kdL.getD op []).length) : kdAt op j = 0 := by
  unfold kdAt
  rw [List.getD_eq_getElem?_getD (l := kdL.getD op []), List.getElem?_eq_none (Nat.not_lt.1 hj)]; rfl
theorem kdL_len (op : Nat) : (kdL.getD op []).length ≤ 4 := by
  have hall : ∀ l ∈ kdL, l.length ≤ 4 := by decide
  exact getD_all (fun l : List Nat => l.length ≤ 4) kdL [] (by simp) hall op

set_option maxHeartbeats 4000000 in
theorem l6Fields_one (op : Nat) (h : op ≤ 13) (w : World) :
    Calls Tryd.prog 108 #[.int .i64 op] w fun e w' => e = .returned (.string (fsB op)) ∧ Below w.heap.size w w' := by
  obtain rfl | rfl | rfl | rfl | rfl | rfl | rfl | rfl | rfl | rfl | rfl | rfl | rfl | rfl : op = 0 ∨ op = 1 ∨ op = 2 ∨ op = 3 ∨ op = 4 ∨ op = 5 ∨ op = 6 ∨ op = 7 ∨ op = 8 ∨ op = 9 ∨ op = 10 ∨ op = 11 ∨ op = 12 ∨ op = 13 := by omega
  all_goals
    go_enter Tryd.func108, Tryd.ntmps108
    go_wp2_with fail
    go_ret
    exact ⟨rfl, (Below.refl _ _).alloc (Nat.le_refl _) _⟩

/-- A row of an instruction's four fields. -/
def RowP (w : World) (b : Nat) (x : Ins) : Prop := w.heap[b]? = some (.cells #[.int .i64 x.fa, .int .i64 x.fb, .int .i64 x.fc, .int .i64 x.fd] 3 (0, 0))
theorem RowP.at {w : World} {b : Nat} {x : Ins} (h : RowP w b x) (j : Nat) (hj : j < 4) : w.cell? ⟨b, j, none⟩ = some (.int .i64 (x.part j)) := by
  rw [cell_of_row _ _ _ _ _ _ h]
  match j, hj with
  | 0, _ | 1, _ | 2, _ | 3, _ => rfl
theorem RowP.below {w w' : World} {b B : Nat} {x : Ins} (h : RowP w b x) (hb : Below B w w') (hlt : b < B) : RowP w' b x := (hb.block b hlt).trans h
theorem RowP.lt {w : World} {b : Nat} {x : Ins} (h : RowP w b x) : b < w.heap.size := (Array.getElem?_eq_some_iff.1 h).1

end Go.Proofs.YtbifbmpflhdijaaDoor

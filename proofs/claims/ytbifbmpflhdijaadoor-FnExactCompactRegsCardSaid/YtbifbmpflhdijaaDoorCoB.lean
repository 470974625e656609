/- What it says that an instruction and a code are valid: plain functions. -/
import Derived.Test.YtbifbmpflhdijaaDoorCd
import Derived.Test.YtbifbmpflhdijaaDoorSpH
namespace Go.Proofs.YtbifbmpflhdijaaDoor
open Go.RowKit
set_option linter.unusedVariables false

/-- What the fields of each operation are: 0 nothing, 1 a register, 2 a value, 3 a variable, 4 an array, 5 an operator, 6 a target. -/
def kdL : List (List Nat) := [[], [1, 2], [1, 3], [3, 1], [1, 4, 1], [4, 1, 1], [1, 5, 1, 1], [1, 1, 1, 1], [6], [1, 6], [1, 6], [1], [], []]
def kdAt (op j : Nat) : Nat := (kdL.getD op []).getD j 0
theorem getD_all {α : Type} (P : α → Prop) (l : List α) (d : α) (hd : P d) (h : ∀ x ∈ l, P x) (i : Nat) : P (l.getD i d) := by
  rw [List.getD_eq_getElem?_getD]
  cases hq : l[i]? with
  | none => exact hd
  | some x => exact h x (List.mem_of_getElem? hq)
theorem kdAt_le (op j : Nat) : kdAt op j ≤ 6 := by
  have hall : ∀ l ∈ kdL, ∀ x ∈ l, x ≤ 6 := by decide
  exact getD_all (fun x => x ≤ 6) _ 0 (by omega) (getD_all (fun l => ∀ x ∈ l, x ≤ 6) kdL [] (by simp) hall op) j

/-- The names of the operations. -/
def nmL : List (List UInt8) := [[], [99, 111, 110, 115, 116], [103, 101, 116], [112, 117, 116], [108, 111, 97, 100], [115, 116, 111, 114, 101], [98, 105, 110], [115, 101, 108, 101, 99, 116], [106, 117, 109, 112], [122, 101, 114, 111], [108, 111, 111, 112], [114, 101, 108, 101, 97, 115, 101], [102, 101, 110, 99, 101], [104, 97, 108, 116]]
def nmT (op : Nat) : List UInt8 := nmL.getD op []
theorem nmT_len (op : Nat) : (nmT op).length ≤ 7 := by
  have hall : ∀ l ∈ nmL, l.length ≤ 7 := by decide
  exact getD_all (fun l : List UInt8 => l.length ≤ 7) nmL [] (by simp) hall op

def fldB (nv na nl : Nat) (k : Nat) (n : Int) : Bool :=
  if k = 0 then decide (n = 0)
  else if k = 1 then decide (0 ≤ n) && decide (n < 14)
  else if k = 2 then decide (0 ≤ n) && decide (n ≤ 255)
  else if k = 3 then decide (0 ≤ n) && decide (n < nv)
  else if k = 4 then decide (0 ≤ n) && decide (n < na)
  else if k = 5 then decide (4 ≤ n) && decide (n ≤ 10)
  else decide (0 ≤ n) && decide (n < nl)

def Ins.part (x : Ins) (j : Nat) : Int := if j = 0 then x.fa else if j = 1 then x.fb else if j = 2 then x.fc else x.fd
/-- The first k fields are valid. -/
def FldTo (nv na nl : Nat) (x : Ins) (k : Nat) : Prop := ∀ j, j < k → fldB nv na nl (kdAt x.op.toNat j) (x.part j) = true
def insB (nv na nl : Nat) (x : Ins) : Bool :=
  decide (1 ≤ x.op) && decide (x.op ≤ 13) && (fldB nv na nl (kdAt x.op.toNat 0) x.fa && fldB nv na nl (kdAt x.op.toNat 1) x.fb && fldB nv na nl (kdAt x.op.toNat 2) x.fc && fldB nv na nl (kdAt x.op.toNat 3) x.fd)
theorem FldTo.zero (nv na nl : Nat) (x : Ins) : FldTo nv na nl x 0 := fun _ h => absurd h (Nat.not_lt_zero _)
theorem FldTo.succ {nv na nl : Nat} {x : Ins} {k : Nat} (h : FldTo nv na nl x k) (e : fldB nv na nl (kdAt x.op.toNat k) (x.part k) = true) : FldTo nv na nl x (k + 1) := fun j hj => by
  by_cases hk : j = k
  · rw [hk]; exact e
  · exact h j (by omega)
theorem FldTo.all {nv na nl : Nat} {x : Ins} (h : FldTo nv na nl x 4) (h1 : 1 ≤ x.op) (h2 : x.op ≤ 13) : true = insB nv na nl x := by
  have q0 := h 0 (by omega)
  have q1 := h 1 (by omega)
  have q2 := h 2 (by omega)
  have q3 := h 3 (by omega)
  unfold insB
  simp only [Ins.part] at q0 q1 q2 q3
  simp at q0 q1 q2 q3
  simp [h1, h2, q0, q1, q2, q3]
theorem ins_no {nv na nl : Nat} {x : Ins} {k : Nat} (hk : k < 4) (e : fldB nv na nl (kdAt x.op.toNat k) (x.part k) = false) : false = insB nv na nl x := by
  unfold insB
  match k, hk with
  | 0, _ | 1, _ | 2, _ | 3, _ => simp only [Ins.part] at e; simp at e; simp [e]
theorem ins_lo {nv na nl : Nat} {x : Ins} (h : x.op < 1) : false = insB nv na nl x := by
  unfold insB; rw [decide_eq_false (by omega)]; simp
theorem ins_hi {nv na nl : Nat} {x : Ins} (h : 13 < x.op) : false = insB nv na nl x := by
  unfold insB; rw [decide_eq_false (p := x.op ≤ 13) (by omega)]; simp

/-- The declarations of a code. -/
def Cd.heads (c : Cd) : Pg := ⟨c.vars, c.arrs, []⟩
def lastB (l : List Ins) : Bool := match l.getLast? with | some x => decide (x.op = 13) || decide (x.op = 8) | none => false
def codeB (c : Cd) : Bool := headsB c.heads && (decide (1 ≤ c.list.length) && decide (c.list.length ≤ 400)) && (c.list.all (insB c.vars.length c.arrs.length c.list.length) && lastB c.list)

/-- The first k instructions are valid. -/
def InsTo (nv na nl : Nat) (l : List Ins) (k : Nat) : Prop := ∀ (j : Nat) (x : Ins), j < k → l[j]? = some x → insB nv na nl x = true
theorem InsTo.succ {nv na nl : Nat} {l : List Ins} {k : Nat} {x : Ins} (h : InsTo nv na nl l k) (hx : l[k]? = some x) (e : insB nv na nl x = true) : InsTo nv na nl l (k + 1) := fun j y hj hy => by
  by_cases hk : j = k
  · subst hk
    rw [hx] at hy
    cases hy
    exact e
  · exact h j y (by omega) hy
theorem InsTo.all {nv na nl : Nat} {l : List Ins} (h : InsTo nv na nl l l.length) : l.all (insB nv na nl) = true := by
  rw [List.all_eq_true]
  intro x hx
  obtain ⟨i, hi, rfl⟩ := List.mem_iff_getElem.1 hx
  exact h i _ hi (List.getElem?_eq_getElem hi)
theorem inss_no {nv na nl : Nat} {l : List Ins} {k : Nat} {x : Ins} (hx : l[k]? = some x) (e : insB nv na nl x = false) : l.all (insB nv na nl) = false := by
  cases hq : l.all (insB nv na nl)
  · rfl
  · have := List.all_eq_true.1 hq x (List.mem_of_getElem? hx)
    rw [e] at this
    cases this
theorem lastB_at {l : List Ins} {x : Ins} (h : l[l.length - 1]? = some x) : lastB l = (decide (x.op = 13) || decide (x.op = 8)) := by
  unfold lastB
  rw [List.getLast?_eq_getElem?, h]

end Go.Proofs.YtbifbmpflhdijaaDoor

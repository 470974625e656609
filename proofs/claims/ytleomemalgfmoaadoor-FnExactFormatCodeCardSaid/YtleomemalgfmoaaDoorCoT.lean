/- The text of an instruction and of a code: plain functions, and how long the texts are. -/
import Derived.Test.YtleomemalgfmoaaDoorCoB
import Derived.Test.YtleomemalgfmoaaDoorFmt
import Derived.Lib.ItoaNum
import Derived.Lib.ItoaLen
namespace Go.Proofs.YtleomemalgfmoaaDoor
open Go.RowKit
set_option linter.unusedVariables false

/-- Field j of an instruction, as its text has it. -/
def fldT (x : Ins) (j : Nat) : List UInt8 := if kdAt x.op.toNat j = 0 then [] else 32 :: Lib.decDigits (x.part j).toNat
/-- An instruction's name and its first k fields. -/
def insP (x : Ins) : Nat → List UInt8
  | 0 => nmT x.op.toNat
  | k + 1 => insP x k ++ fldT x k
def insT (x : Ins) : List UInt8 := insP x 4 ++ [10]
theorem fldB_le {nv na nl k : Nat} {n : Int} (h : fldB nv na nl k n = true) (h1 : nv ≤ 400) (h2 : na ≤ 400) (h3 : nl ≤ 400) : 0 ≤ n ∧ n ≤ 400 := by
  unfold fldB at h
  split at h
  · simp at h; omega
  split at h
  · simp at h; omega
  split at h
  · simp at h; omega
  split at h
  · simp at h; omega
  split at h
  · simp at h; omega
  split at h
  · simp at h; omega
  · simp at h; omega
theorem dec_len400 (v : Nat) (h : v ≤ 400) : (Lib.decDigits v).length ≤ 20 := by
  rw [Lib.decDigits_length]
  exact Lib.nDigits_le20 v (by omega)
/-- The fields of a valid instruction are from 0 to 400. -/
theorem insB_part {nv na nl : Nat} {x : Ins} (h : insB nv na nl x = true) (h1 : nv ≤ 400) (h2 : na ≤ 400) (h3 : nl ≤ 400) (j : Nat) (hj : j < 4) : 0 ≤ x.part j ∧ x.part j ≤ 400 := by
  unfold insB at h
  simp only [Bool.and_eq_true] at h
  obtain ⟨_, ⟨⟨q0, q1⟩, q2⟩, q3⟩ := h
  match j, hj with
  | 0, _ => exact fldB_le q0 h1 h2 h3
  | 1, _ => exact fldB_le q1 h1 h2 h3
  | 2, _ => exact fldB_le q2 h1 h2 h3
  | 3, _ => exact fldB_le q3 h1 h2 h3
theorem insB_op {nv na nl : Nat} {x : Ins} (h : insB nv na nl x = true) : 1 ≤ x.op ∧ x.op ≤ 13 := by
  unfold insB at h
  simp only [Bool.and_eq_true, decide_eq_true_eq] at h
  exact h.1
theorem fldT_len {x : Ins} {j : Nat} (h : 0 ≤ x.part j ∧ x.part j ≤ 400) : (fldT x j).length ≤ 21 := by
  unfold fldT
  split
  · simp
  · have := dec_len400 (x.part j).toNat (by omega)
    simp; omega
theorem insP_len {x : Ins} (h : ∀ j, j < 4 → 0 ≤ x.part j ∧ x.part j ≤ 400) : ∀ k, k ≤ 4 → (insP x k).length ≤ 7 + 21 * k
  | 0, _ => by have := nmT_len x.op.toNat; simp [insP]; omega
  | k + 1, hk => by
    have ih := insP_len h k (by omega)
    have h2 := fldT_len (h k (by omega))
    simp only [insP, List.length_append]
    omega

/-- The head of a code's text. -/
def codeH (c : Cd) : List UInt8 := [99, 111, 100, 101, 32] ++ fmtL c.vars ++ [47] ++ fmtL c.arrs ++ [10]
/-- The text of a code up to its first k instructions. -/
def codeP (c : Cd) : Nat → List UInt8
  | 0 => codeH c
  | k + 1 => codeP c k ++ insT (c.list.getD k ⟨0, 0, 0, 0, 0⟩)
def fmtC (c : Cd) : List UInt8 := if codeB c then codeP c c.list.length else []
theorem codeP_succ {c : Cd} {k : Nat} {x : Ins} (h : c.list[k]? = some x) : codeP c (k + 1) = codeP c k ++ insT x := by
  have e : c.list.getD k ⟨0, 0, 0, 0, 0⟩ = x := by simp [List.getD, h]
  rw [codeP, e]

/-- What a valid code's bounds are. -/
theorem codeB_bounds {c : Cd} (h : codeB c = true) : c.vars.length ≤ 12 ∧ c.arrs.length ≤ 2 ∧ c.list.length ≤ 400 ∧ 1 ≤ c.list.length ∧ c.list.all (insB c.vars.length c.arrs.length c.list.length) = true := by
  unfold codeB at h
  rw [Bool.and_eq_true, Bool.and_eq_true, Bool.and_eq_true, Bool.and_eq_true] at h
  obtain ⟨⟨hh, h1, h2⟩, h3, _⟩ := h
  have hh' : (c.vars.all lokB && c.arrs.all lokB && decide (1 ≤ c.vars.length) && decide (c.vars.length ≤ 12) && decide (c.arrs.length ≤ 2)) = true := hh
  rw [Bool.and_eq_true, Bool.and_eq_true] at hh'
  exact ⟨of_decide_eq_true hh'.1.2, of_decide_eq_true hh'.2, of_decide_eq_true h2, of_decide_eq_true h1, h3⟩

end Go.Proofs.YtleomemalgfmoaaDoor

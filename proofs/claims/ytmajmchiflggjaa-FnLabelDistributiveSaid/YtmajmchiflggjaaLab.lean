/- Contracts of the label functions of package impl and of package spec: for every two integers each call returns what the plain functions of namespace Lab give, and leaves memory alone. No condition. -/
import Derived.Test.YtmajmchiflggjaaProg
import Derived.WalkKit
namespace Go.Proofs.Ytmajmchiflggjaa
open Go.RowKit

/-! The plain functions. -/
def Lab.ok (n : Int) : Bool := decide (0 ≤ n) && decide (n ≤ 3)
def Lab.jn (a b : Int) : Int := if Lab.ok a && Lab.ok b then ((a.toNat ||| b.toNat : Nat) : Int) else 3
def Lab.mt (a b : Int) : Int := if Lab.ok a && Lab.ok b then ((a.toNat &&& b.toNat : Nat) : Int) else 0
def Lab.fl (a b : Int) : Bool := Lab.ok a && Lab.ok b && decide (a.toNat ||| b.toNat = b.toNat)
def Lab.sec (a : Int) : Bool := Lab.ok a && decide (a.toNat % 2 = 1)
def Lab.tru (a : Int) : Bool := Lab.ok a && decide (a.toNat < 2)

theorem Lab.cases (n : Int) : n = 0 ∨ n = 1 ∨ n = 2 ∨ n = 3 ∨ n < 0 ∨ (0 ≤ n ∧ 3 < n) := by omega
theorem Lab.ok_lo {n : Int} (h : n < 0) : Lab.ok n = false := by unfold Lab.ok; simp; omega
theorem Lab.ok_hi {n : Int} (h : 3 < n) : Lab.ok n = false := by unfold Lab.ok; simp; omega

set_option maxHeartbeats 400000 in
theorem labelOf_any (n : Int) (w : World) :
    Calls Try.prog 31 #[.int .i64 n] w fun e w' => e = .returned (.tuple #[.int .i64 (if Lab.ok n then n else 0), .bool (Lab.ok n)]) ∧ w = w' := by
  rcases Lab.cases n with rfl | rfl | rfl | rfl | h | ⟨h0, h⟩
  case inr.inr.inr.inr.inl =>
    rw [Lab.ok_lo h]
    go_enter Try.func31, Try.ntmps31
    go_wp2
    go_ret2
    exact ⟨rfl, rfl⟩
  case inr.inr.inr.inr.inr =>
    rw [Lab.ok_hi h]
    go_enter Try.func31, Try.ntmps31
    go_wp2
    go_ret2
    exact ⟨rfl, rfl⟩
  all_goals
    go_enter Try.func31, Try.ntmps31
    go_wp2
    go_ret2
    exact ⟨rfl, rfl⟩

set_option maxHeartbeats 1000000 in
theorem iValid_any (a : Int) (w : World) :
    Calls Try.prog 17 #[.int .i64 a] w fun e w' => e = .returned (.bool (Lab.ok a)) ∧ w = w' := by
  rcases Lab.cases a with rfl | rfl | rfl | rfl | h | ⟨h0, h⟩
  all_goals
    try have hd := decide_eq_false (Int.not_le.2 h)
    go_enter Try.func17, Try.ntmps17
    go_wp2
    go_ret
    refine ⟨?_, rfl⟩
    first | rfl | (simp [Lab.ok_lo h]) | (simp [Lab.ok_hi h])

set_option maxHeartbeats 1000000 in
theorem sValid_any (a : Int) (w : World) :
    Calls Try.prog 24 #[.int .i64 a] w fun e w' => e = .returned (.bool (Lab.ok a)) ∧ w = w' := by
  rcases Lab.cases a with rfl | rfl | rfl | rfl | h | ⟨h0, h⟩
  all_goals
    try have hd := decide_eq_false (Int.not_le.2 h)
    go_enter Try.func24, Try.ntmps24
    go_wp2
    go_ret
    refine ⟨?_, rfl⟩
    first | rfl | (simp [Lab.ok_lo h]) | (simp [Lab.ok_hi h])

set_option maxHeartbeats 1000000 in
theorem iSecret_any (a : Int) (w : World) :
    Calls Try.prog 25 #[.int .i64 a] w fun e w' => e = .returned (.bool (Lab.sec a)) ∧ w = w' := by
  rcases Lab.cases a with rfl | rfl | rfl | rfl | h | ⟨h0, h⟩
  all_goals
    try have hd := decide_eq_false (Int.not_le.2 h)
    go_enter Try.func25, Try.ntmps25
    go_wp2
    go_ret
    refine ⟨?_, rfl⟩
    first | rfl | (simp [Lab.sec, Lab.ok_lo h]) | (simp [Lab.sec, Lab.ok_hi h])

set_option maxHeartbeats 1000000 in
theorem sSecret_any (a : Int) (w : World) :
    Calls Try.prog 26 #[.int .i64 a] w fun e w' => e = .returned (.bool (Lab.sec a)) ∧ w = w' := by
  rcases Lab.cases a with rfl | rfl | rfl | rfl | h | ⟨h0, h⟩
  all_goals
    try have hd := decide_eq_false (Int.not_le.2 h)
    go_enter Try.func26, Try.ntmps26
    go_wp2
    go_ret
    refine ⟨?_, rfl⟩
    first | rfl | (simp [Lab.sec, Lab.ok_lo h]) | (simp [Lab.sec, Lab.ok_hi h])

set_option maxHeartbeats 1000000 in
theorem iTrusted_any (a : Int) (w : World) :
    Calls Try.prog 27 #[.int .i64 a] w fun e w' => e = .returned (.bool (Lab.tru a)) ∧ w = w' := by
  rcases Lab.cases a with rfl | rfl | rfl | rfl | h | ⟨h0, h⟩
  all_goals
    try have hd := decide_eq_false (Int.not_le.2 h)
    go_enter Try.func27, Try.ntmps27
    go_wp2
    go_ret
    refine ⟨?_, rfl⟩
    first | rfl | (simp [Lab.tru, Lab.ok_lo h]) | (simp [Lab.tru, Lab.ok_hi h])

set_option maxHeartbeats 1000000 in
theorem sTrusted_any (a : Int) (w : World) :
    Calls Try.prog 28 #[.int .i64 a] w fun e w' => e = .returned (.bool (Lab.tru a)) ∧ w = w' := by
  rcases Lab.cases a with rfl | rfl | rfl | rfl | h | ⟨h0, h⟩
  all_goals
    try have hd := decide_eq_false (Int.not_le.2 h)
    go_enter Try.func28, Try.ntmps28
    go_wp2
    go_ret
    refine ⟨?_, rfl⟩
    first | rfl | (simp [Lab.tru, Lab.ok_lo h]) | (simp [Lab.tru, Lab.ok_hi h])

set_option maxHeartbeats 3000000 in
theorem iJoin_any (a b : Int) (w : World) :
    Calls Try.prog 15 #[.int .i64 a, .int .i64 b] w fun e w' => e = .returned (.int .i64 (Lab.jn a b)) ∧ w = w' := by
  rcases Lab.cases a with rfl | rfl | rfl | rfl | h | ⟨h0, h⟩ <;> rcases Lab.cases b with rfl | rfl | rfl | rfl | h' | ⟨h0', h'⟩
  all_goals
    try have hd := decide_eq_false (Int.not_le.2 h)
    try have hd' := decide_eq_false (Int.not_le.2 h')
    go_enter Try.func15, Try.ntmps15
    go_wp2
    go_ret
    refine ⟨?_, rfl⟩
    first | rfl | (simp [Lab.jn, Lab.ok_lo, Lab.ok_hi, *])

set_option maxHeartbeats 3000000 in
theorem sJoin_any (a b : Int) (w : World) :
    Calls Try.prog 16 #[.int .i64 a, .int .i64 b] w fun e w' => e = .returned (.int .i64 (Lab.jn a b)) ∧ w = w' := by
  rcases Lab.cases a with rfl | rfl | rfl | rfl | h | ⟨h0, h⟩ <;> rcases Lab.cases b with rfl | rfl | rfl | rfl | h' | ⟨h0', h'⟩
  all_goals
    try have hd := decide_eq_false (Int.not_le.2 h)
    try have hd' := decide_eq_false (Int.not_le.2 h')
    go_enter Try.func16, Try.ntmps16
    go_wp2
    go_ret
    refine ⟨?_, rfl⟩
    first | rfl | (simp [Lab.jn, Lab.ok_lo, Lab.ok_hi, *])

set_option maxHeartbeats 3000000 in
theorem iMeet_any (a b : Int) (w : World) :
    Calls Try.prog 20 #[.int .i64 a, .int .i64 b] w fun e w' => e = .returned (.int .i64 (Lab.mt a b)) ∧ w = w' := by
  rcases Lab.cases a with rfl | rfl | rfl | rfl | h | ⟨h0, h⟩ <;> rcases Lab.cases b with rfl | rfl | rfl | rfl | h' | ⟨h0', h'⟩
  all_goals
    try have hd := decide_eq_false (Int.not_le.2 h)
    try have hd' := decide_eq_false (Int.not_le.2 h')
    go_enter Try.func20, Try.ntmps20
    go_wp2
    go_ret
    refine ⟨?_, rfl⟩
    first | rfl | (simp [Lab.mt, Lab.ok_lo, Lab.ok_hi, *])

set_option maxHeartbeats 3000000 in
theorem sMeet_any (a b : Int) (w : World) :
    Calls Try.prog 21 #[.int .i64 a, .int .i64 b] w fun e w' => e = .returned (.int .i64 (Lab.mt a b)) ∧ w = w' := by
  rcases Lab.cases a with rfl | rfl | rfl | rfl | h | ⟨h0, h⟩ <;> rcases Lab.cases b with rfl | rfl | rfl | rfl | h' | ⟨h0', h'⟩
  all_goals
    try have hd := decide_eq_false (Int.not_le.2 h)
    try have hd' := decide_eq_false (Int.not_le.2 h')
    go_enter Try.func21, Try.ntmps21
    go_wp2
    go_ret
    refine ⟨?_, rfl⟩
    first | rfl | (simp [Lab.mt, Lab.ok_lo, Lab.ok_hi, *])

set_option maxHeartbeats 3000000 in
theorem iFlows_any (a b : Int) (w : World) :
    Calls Try.prog 18 #[.int .i64 a, .int .i64 b] w fun e w' => e = .returned (.bool (Lab.fl a b)) ∧ w = w' := by
  rcases Lab.cases a with rfl | rfl | rfl | rfl | h | ⟨h0, h⟩ <;> rcases Lab.cases b with rfl | rfl | rfl | rfl | h' | ⟨h0', h'⟩
  all_goals
    try have hd := decide_eq_false (Int.not_le.2 h)
    try have hd' := decide_eq_false (Int.not_le.2 h')
    go_enter Try.func18, Try.ntmps18
    go_wp2
    go_ret
    refine ⟨?_, rfl⟩
    first | rfl | (simp [Lab.fl, Lab.ok_lo, Lab.ok_hi, *])

set_option maxHeartbeats 3000000 in
theorem sFlows_any (a b : Int) (w : World) :
    Calls Try.prog 23 #[.int .i64 a, .int .i64 b] w fun e w' => e = .returned (.bool (Lab.fl a b)) ∧ w = w' := by
  rcases Lab.cases a with rfl | rfl | rfl | rfl | h | ⟨h0, h⟩ <;> rcases Lab.cases b with rfl | rfl | rfl | rfl | h' | ⟨h0', h'⟩
  all_goals
    try have hd := decide_eq_false (Int.not_le.2 h)
    try have hd' := decide_eq_false (Int.not_le.2 h')
    go_enter Try.func23, Try.ntmps23
    go_wp2
    go_ret
    refine ⟨?_, rfl⟩
    first | rfl | (simp [Lab.fl, Lab.ok_lo, Lab.ok_hi, *])

end Go.Proofs.Ytmajmchiflggjaa

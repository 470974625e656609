/- The verifier's small methods, walked: sets of registers, the labels that are secret, what an instruction makes of a set, the result that it has. -/
import Derived.Test.YtbifbmpflhdijaaDoorTnO
import Derived.Test.YtbifbmpflhdijaaDoorLbK
import Derived.Test.YtbifbmpflhdijaaDoorCvJ
namespace Go.Proofs.YtbifbmpflhdijaaDoor
open Go.RowKit
set_option linter.unusedVariables false

theorem and_ne (m k : Nat) : (((m &&& 2 ^ k : Nat) : Int) != 0) = m.testBit k := by
  have hb : ∀ b, (m &&& 2 ^ k).testBit b = (m.testBit b && decide (k = b)) := fun b => by rw [Nat.testBit_and, Nat.testBit_two_pow]
  cases h : m.testBit k
  · have h0 : m &&& 2 ^ k = 0 := by
      apply Nat.eq_of_testBit_eq
      intro b
      rw [hb b, Nat.zero_testBit]
      by_cases e : k = b
      · subst e; rw [h]; rfl
      · rw [decide_eq_false e, Bool.and_false]
    rw [h0]; rfl
  · have h0 : m &&& 2 ^ k ≠ 0 := fun e => by
      have h1 := hb k
      rw [e, Nat.zero_testBit, h] at h1
      simp at h1
    simp only [bne_iff_ne, ne_eq]
    omega
theorem mod_ne (m : Nat) : ((m : Int) % 2 != 0) = m.testBit 0 := by
  rw [Nat.testBit_zero]
  by_cases h : m % 2 = 1
  · rw [decide_eq_true h]; simp only [bne_iff_ne, ne_eq]; omega
  · rw [decide_eq_false h]; simp only [bne_eq_false_iff_eq]; omega
def V16 (m : Nat) : Value := .int .u16 (m : Int)

set_option maxHeartbeats 4000000 in
/-- **has.** -/
theorem has_one (m r : Nat) (w : World) (hm : m < 32768) (hr : r < 14) :
    Calls Tryd.prog 95 #[.int .u16 (m : Int), .int .i64 (r : Int)] w fun e w' => e = .returned (.bool (m.testBit r)) ∧ w' = w := by
  have hc : r = 0 ∨ r = 1 ∨ r = 2 ∨ r = 3 ∨ r = 4 ∨ r = 5 ∨ r = 6 ∨ r = 7 ∨ r = 8 ∨ r = 9 ∨ r = 10 ∨ r = 11 ∨ r = 12 ∨ r = 13 := by omega
  rcases hc with rfl | rfl | rfl | rfl | rfl | rfl | rfl | rfl | rfl | rfl | rfl | rfl | rfl | rfl
  · have h1 : bits .and .u16 (m : Int) 1 = ((m &&& 1 : Nat) : Int) := u16_and_nat m 1 (by omega) (by omega)
    have h2 : (((m &&& 1 : Nat) : Int) != 0) = m.testBit 0 := and_ne m 0
    have h3 := mod_ne m
    go_enter Tryd.func95, Tryd.ntmps95
    go_wp2_with fail
    go_ret
    exact ⟨by rw [Nat.testBit_zero]; rfl, rfl⟩
  · have h1 : bits .and .u16 (m : Int) 2 = ((m &&& 2 : Nat) : Int) := u16_and_nat m 2 (by omega) (by omega)
    have h2 : (((m &&& 2 : Nat) : Int) != 0) = m.testBit 1 := and_ne m 1
    go_enter Tryd.func95, Tryd.ntmps95
    go_wp2_with fail
    go_ret
    exact ⟨rfl, rfl⟩
  · have h1 : bits .and .u16 (m : Int) 4 = ((m &&& 4 : Nat) : Int) := u16_and_nat m 4 (by omega) (by omega)
    have h2 : (((m &&& 4 : Nat) : Int) != 0) = m.testBit 2 := and_ne m 2
    go_enter Tryd.func95, Tryd.ntmps95
    go_wp2_with fail
    go_ret
    exact ⟨rfl, rfl⟩
  · have h1 : bits .and .u16 (m : Int) 8 = ((m &&& 8 : Nat) : Int) := u16_and_nat m 8 (by omega) (by omega)
    have h2 : (((m &&& 8 : Nat) : Int) != 0) = m.testBit 3 := and_ne m 3
    go_enter Tryd.func95, Tryd.ntmps95
    go_wp2_with fail
    go_ret
    exact ⟨rfl, rfl⟩
  · have h1 : bits .and .u16 (m : Int) 16 = ((m &&& 16 : Nat) : Int) := u16_and_nat m 16 (by omega) (by omega)
    have h2 : (((m &&& 16 : Nat) : Int) != 0) = m.testBit 4 := and_ne m 4
    go_enter Tryd.func95, Tryd.ntmps95
    go_wp2_with fail
    go_ret
    exact ⟨rfl, rfl⟩
  · have h1 : bits .and .u16 (m : Int) 32 = ((m &&& 32 : Nat) : Int) := u16_and_nat m 32 (by omega) (by omega)
    have h2 : (((m &&& 32 : Nat) : Int) != 0) = m.testBit 5 := and_ne m 5
    go_enter Tryd.func95, Tryd.ntmps95
    go_wp2_with fail
    go_ret
    exact ⟨rfl, rfl⟩
  · have h1 : bits .and .u16 (m : Int) 64 = ((m &&& 64 : Nat) : Int) := u16_and_nat m 64 (by omega) (by omega)
    have h2 : (((m &&& 64 : Nat) : Int) != 0) = m.testBit 6 := and_ne m 6
    go_enter Tryd.func95, Tryd.ntmps95
    go_wp2_with fail
    go_ret
    exact ⟨rfl, rfl⟩
  · have h1 : bits .and .u16 (m : Int) 128 = ((m &&& 128 : Nat) : Int) := u16_and_nat m 128 (by omega) (by omega)
    have h2 : (((m &&& 128 : Nat) : Int) != 0) = m.testBit 7 := and_ne m 7
    go_enter Tryd.func95, Tryd.ntmps95
    go_wp2_with fail
    go_ret
    exact ⟨rfl, rfl⟩
  · have h1 : bits .and .u16 (m : Int) 256 = ((m &&& 256 : Nat) : Int) := u16_and_nat m 256 (by omega) (by omega)
    have h2 : (((m &&& 256 : Nat) : Int) != 0) = m.testBit 8 := and_ne m 8
    go_enter Tryd.func95, Tryd.ntmps95
    go_wp2_with fail
    go_ret
    exact ⟨rfl, rfl⟩
  · have h1 : bits .and .u16 (m : Int) 512 = ((m &&& 512 : Nat) : Int) := u16_and_nat m 512 (by omega) (by omega)
    have h2 : (((m &&& 512 : Nat) : Int) != 0) = m.testBit 9 := and_ne m 9
    go_enter Tryd.func95, Tryd.ntmps95
    go_wp2_with fail
    go_ret
    exact ⟨rfl, rfl⟩
  · have h1 : bits .and .u16 (m : Int) 1024 = ((m &&& 1024 : Nat) : Int) := u16_and_nat m 1024 (by omega) (by omega)
    have h2 : (((m &&& 1024 : Nat) : Int) != 0) = m.testBit 10 := and_ne m 10
    go_enter Tryd.func95, Tryd.ntmps95
    go_wp2_with fail
    go_ret
    exact ⟨rfl, rfl⟩
  · have h1 : bits .and .u16 (m : Int) 2048 = ((m &&& 2048 : Nat) : Int) := u16_and_nat m 2048 (by omega) (by omega)
    have h2 : (((m &&& 2048 : Nat) : Int) != 0) = m.testBit 11 := and_ne m 11
    go_enter Tryd.func95, Tryd.ntmps95
    go_wp2_with fail
    go_ret
    exact ⟨rfl, rfl⟩
  · have h1 : bits .and .u16 (m : Int) 4096 = ((m &&& 4096 : Nat) : Int) := u16_and_nat m 4096 (by omega) (by omega)
    have h2 : (((m &&& 4096 : Nat) : Int) != 0) = m.testBit 12 := and_ne m 12
    go_enter Tryd.func95, Tryd.ntmps95
    go_wp2_with fail
    go_ret
    exact ⟨rfl, rfl⟩
  · have h1 : bits .and .u16 (m : Int) 8192 = ((m &&& 8192 : Nat) : Int) := u16_and_nat m 8192 (by omega) (by omega)
    have h2 : (((m &&& 8192 : Nat) : Int) != 0) = m.testBit 13 := and_ne m 13
    go_enter Tryd.func95, Tryd.ntmps95
    go_wp2_with fail
    go_ret
    exact ⟨rfl, rfl⟩

set_option maxHeartbeats 4000000 in
/-- **with.** -/
theorem with_one (m r : Nat) (v : Bool) (w : World) (hm : m < 32768) (hr : r < 14) :
    Calls Tryd.prog 97 #[.int .u16 (m : Int), .int .i64 (r : Int), .bool v] w fun e w' => e = .returned (.int .u16 (sb m r v : Int)) ∧ w' = w := by
  have hc : r = 0 ∨ r = 1 ∨ r = 2 ∨ r = 3 ∨ r = 4 ∨ r = 5 ∨ r = 6 ∨ r = 7 ∨ r = 8 ∨ r = 9 ∨ r = 10 ∨ r = 11 ∨ r = 12 ∨ r = 13 := by omega
  rcases hc with rfl | rfl | rfl | rfl | rfl | rfl | rfl | rfl | rfl | rfl | rfl | rfl | rfl | rfl
  · have h1 : bits .or .u16 (m : Int) 1 = ((m ||| 1 : Nat) : Int) := u16_or_nat m 1 (by omega) (by omega)
    have h2 : bits .andNot .u16 (m : Int) 1 = ((m &&& 65534 : Nat) : Int) := u16_andNot_nat m 1 (by omega) (by omega)
    cases v
    all_goals
      go_enter Tryd.func97, Tryd.ntmps97
      go_wp2_with fail
      go_ret
      exact ⟨rfl, rfl⟩
  · have h1 : bits .or .u16 (m : Int) 2 = ((m ||| 2 : Nat) : Int) := u16_or_nat m 2 (by omega) (by omega)
    have h2 : bits .andNot .u16 (m : Int) 2 = ((m &&& 65533 : Nat) : Int) := u16_andNot_nat m 2 (by omega) (by omega)
    cases v
    all_goals
      go_enter Tryd.func97, Tryd.ntmps97
      go_wp2_with fail
      go_ret
      exact ⟨rfl, rfl⟩
  · have h1 : bits .or .u16 (m : Int) 4 = ((m ||| 4 : Nat) : Int) := u16_or_nat m 4 (by omega) (by omega)
    have h2 : bits .andNot .u16 (m : Int) 4 = ((m &&& 65531 : Nat) : Int) := u16_andNot_nat m 4 (by omega) (by omega)
    cases v
    all_goals
      go_enter Tryd.func97, Tryd.ntmps97
      go_wp2_with fail
      go_ret
      exact ⟨rfl, rfl⟩
  · have h1 : bits .or .u16 (m : Int) 8 = ((m ||| 8 : Nat) : Int) := u16_or_nat m 8 (by omega) (by omega)
    have h2 : bits .andNot .u16 (m : Int) 8 = ((m &&& 65527 : Nat) : Int) := u16_andNot_nat m 8 (by omega) (by omega)
    cases v
    all_goals
      go_enter Tryd.func97, Tryd.ntmps97
      go_wp2_with fail
      go_ret
      exact ⟨rfl, rfl⟩
  · have h1 : bits .or .u16 (m : Int) 16 = ((m ||| 16 : Nat) : Int) := u16_or_nat m 16 (by omega) (by omega)
    have h2 : bits .andNot .u16 (m : Int) 16 = ((m &&& 65519 : Nat) : Int) := u16_andNot_nat m 16 (by omega) (by omega)
    cases v
    all_goals
      go_enter Tryd.func97, Tryd.ntmps97
      go_wp2_with fail
      go_ret
      exact ⟨rfl, rfl⟩
  · have h1 : bits .or .u16 (m : Int) 32 = ((m ||| 32 : Nat) : Int) := u16_or_nat m 32 (by omega) (by omega)
    have h2 : bits .andNot .u16 (m : Int) 32 = ((m &&& 65503 : Nat) : Int) := u16_andNot_nat m 32 (by omega) (by omega)
    cases v
    all_goals
      go_enter Tryd.func97, Tryd.ntmps97
      go_wp2_with fail
      go_ret
      exact ⟨rfl, rfl⟩
  · have h1 : bits .or .u16 (m : Int) 64 = ((m ||| 64 : Nat) : Int) := u16_or_nat m 64 (by omega) (by omega)
    have h2 : bits .andNot .u16 (m : Int) 64 = ((m &&& 65471 : Nat) : Int) := u16_andNot_nat m 64 (by omega) (by omega)
    cases v
    all_goals
      go_enter Tryd.func97, Tryd.ntmps97
      go_wp2_with fail
      go_ret
      exact ⟨rfl, rfl⟩
  · have h1 : bits .or .u16 (m : Int) 128 = ((m ||| 128 : Nat) : Int) := u16_or_nat m 128 (by omega) (by omega)
    have h2 : bits .andNot .u16 (m : Int) 128 = ((m &&& 65407 : Nat) : Int) := u16_andNot_nat m 128 (by omega) (by omega)
    cases v
    all_goals
      go_enter Tryd.func97, Tryd.ntmps97
      go_wp2_with fail
      go_ret
      exact ⟨rfl, rfl⟩
  · have h1 : bits .or .u16 (m : Int) 256 = ((m ||| 256 : Nat) : Int) := u16_or_nat m 256 (by omega) (by omega)
    have h2 : bits .andNot .u16 (m : Int) 256 = ((m &&& 65279 : Nat) : Int) := u16_andNot_nat m 256 (by omega) (by omega)
    cases v
    all_goals
      go_enter Tryd.func97, Tryd.ntmps97
      go_wp2_with fail
      go_ret
      exact ⟨rfl, rfl⟩
  · have h1 : bits .or .u16 (m : Int) 512 = ((m ||| 512 : Nat) : Int) := u16_or_nat m 512 (by omega) (by omega)
    have h2 : bits .andNot .u16 (m : Int) 512 = ((m &&& 65023 : Nat) : Int) := u16_andNot_nat m 512 (by omega) (by omega)
    cases v
    all_goals
      go_enter Tryd.func97, Tryd.ntmps97
      go_wp2_with fail
      go_ret
      exact ⟨rfl, rfl⟩
  · have h1 : bits .or .u16 (m : Int) 1024 = ((m ||| 1024 : Nat) : Int) := u16_or_nat m 1024 (by omega) (by omega)
    have h2 : bits .andNot .u16 (m : Int) 1024 = ((m &&& 64511 : Nat) : Int) := u16_andNot_nat m 1024 (by omega) (by omega)
    cases v
    all_goals
      go_enter Tryd.func97, Tryd.ntmps97
      go_wp2_with fail
      go_ret
      exact ⟨rfl, rfl⟩
  · have h1 : bits .or .u16 (m : Int) 2048 = ((m ||| 2048 : Nat) : Int) := u16_or_nat m 2048 (by omega) (by omega)
    have h2 : bits .andNot .u16 (m : Int) 2048 = ((m &&& 63487 : Nat) : Int) := u16_andNot_nat m 2048 (by omega) (by omega)
    cases v
    all_goals
      go_enter Tryd.func97, Tryd.ntmps97
      go_wp2_with fail
      go_ret
      exact ⟨rfl, rfl⟩
  · have h1 : bits .or .u16 (m : Int) 4096 = ((m ||| 4096 : Nat) : Int) := u16_or_nat m 4096 (by omega) (by omega)
    have h2 : bits .andNot .u16 (m : Int) 4096 = ((m &&& 61439 : Nat) : Int) := u16_andNot_nat m 4096 (by omega) (by omega)
    cases v
    all_goals
      go_enter Tryd.func97, Tryd.ntmps97
      go_wp2_with fail
      go_ret
      exact ⟨rfl, rfl⟩
  · have h1 : bits .or .u16 (m : Int) 8192 = ((m ||| 8192 : Nat) : Int) := u16_or_nat m 8192 (by omega) (by omega)
    have h2 : bits .andNot .u16 (m : Int) 8192 = ((m &&& 57343 : Nat) : Int) := u16_andNot_nat m 8192 (by omega) (by omega)
    cases v
    all_goals
      go_enter Tryd.func97, Tryd.ntmps97
      go_wp2_with fail
      go_ret
      exact ⟨rfl, rfl⟩

/-- A verifier: the instructions, the labels of the places. -/
abbrev arrV (la : Option Addr) (n lc : Nat) (f : Nat → Nat) : Array Value := #[.slice la n lc, .int .i64 (f 0 : Int), .int .i64 (f 1 : Int), .int .i64 (f 2 : Int), .int .i64 (f 3 : Int), .int .i64 (f 4 : Int), .int .i64 (f 5 : Int), .int .i64 (f 6 : Int), .int .i64 (f 7 : Int), .int .i64 (f 8 : Int), .int .i64 (f 9 : Int), .int .i64 (f 10 : Int), .int .i64 (f 11 : Int), .int .i64 (f 12 : Int), .int .i64 (f 13 : Int)]
theorem arrV_at (la : Option Addr) (n lc : Nat) (f : Nat → Nat) (i : Nat) (hi : i < 14) : (arrV la n lc f)[1 + i]? = some (.int .i64 (f i : Int)) := by
  have hc : i = 0 ∨ i = 1 ∨ i = 2 ∨ i = 3 ∨ i = 4 ∨ i = 5 ∨ i = 6 ∨ i = 7 ∨ i = 8 ∨ i = 9 ∨ i = 10 ∨ i = 11 ∨ i = 12 ∨ i = 13 := by omega
  rcases hc with rfl | rfl | rfl | rfl | rfl | rfl | rfl | rfl | rfl | rfl | rfl | rfl | rfl | rfl <;> rfl
/-- The labels are those of the code's places. -/
structure KnT (m : Cd) (f : Nat → Nat) : Prop where
  lt : ∀ i, f i < 4
  vars : ∀ i, i < m.vars.length → (f i % 2 == 1) = secN m.vars i
  arrs : ∀ i, i < m.arrs.length → (f (12 + i) % 2 == 1) = secN m.arrs i
  nv : m.vars.length ≤ 12
  na : m.arrs.length ≤ 2

end Go.Proofs.YtbifbmpflhdijaaDoor

/- Small contracts of the model's runs: l3Bool, l3Bin, l3Address, l3Value. -/
import Derived.Test.YtgfagdjadmpklaaRm
import Derived.Laws.BitsAllLaws
namespace Go.Proofs.Ytgfagdjadmpklaa
open Go.RowKit
set_option linter.unusedVariables false

theorem ofInt_i64 (a : Nat) (ha : a < 256) : (BitVec.ofInt 64 (a : Int)).toNat = a := by
  rw [BitVec.ofInt_natCast, BitVec.toNat_ofNat]; exact Nat.mod_eq_of_lt (by omega)
theorem wrap_small (n : Nat) (h : n < 256) : IntKind.i64.wrap (n : Int) = (n : Int) := by
  simp [IntKind.wrap, IntKind.bits, IntKind.signed]; omega
theorem i64_and_nat (a b : Nat) (ha : a < 256) (hb : b < 256) : bits .and .i64 (a : Int) (b : Int) = ((a &&& b : Nat) : Int) := by
  have hx : a &&& b < 2 ^ 8 := Nat.and_lt_two_pow _ (by omega)
  show IntKind.i64.wrap ((BitVec.ofInt 64 (a : Int) &&& BitVec.ofInt 64 (b : Int)).toNat : Int) = _
  rw [BitVec.toNat_and, ofInt_i64 a ha, ofInt_i64 b hb]
  exact wrap_small _ (by omega)
theorem i64_xor_nat (a b : Nat) (ha : a < 256) (hb : b < 256) : bits .xor .i64 (a : Int) (b : Int) = ((a ^^^ b : Nat) : Int) := by
  have hx : a ^^^ b < 2 ^ 8 := Nat.xor_lt_two_pow (by omega) (by omega)
  show IntKind.i64.wrap ((BitVec.ofInt 64 (a : Int) ^^^ BitVec.ofInt 64 (b : Int)).toNat : Int) = _
  rw [BitVec.toNat_xor, ofInt_i64 a ha, ofInt_i64 b hb]
  exact wrap_small _ (by omega)

/-- A value from 0 to 255; memory is as it was. -/
def AnsV (w : World) (e : Ending) (w' : World) : Prop := ∃ v : Nat, e = .returned (.int .i64 (v : Int)) ∧ v ≤ 255 ∧ w' = w

theorem l3Bool_one (b : Bool) (w : World) : Calls Try.prog 112 #[.bool b] w (AnsV w) := by
  cases b
  · go_enter Try.func112, Try.ntmps112
    go_wp2_with fail
    go_ret
    exact ⟨0, rfl, by omega, rfl⟩
  · go_enter Try.func112, Try.ntmps112
    go_wp2_with fail
    go_ret
    exact ⟨1, rfl, by omega, rfl⟩

set_option maxHeartbeats 4000000 in
theorem l3Bin_one (kd : Int) (a b : Nat) (w : World) (hk : 4 ≤ kd ∧ kd ≤ 10) (ha : a ≤ 255) (hb : b ≤ 255) : Calls Try.prog 118 #[.int .i64 kd, .int .i64 (a : Int), .int .i64 (b : Int)] w (AnsV w) := by
  have h7 : kd = 4 ∨ kd = 5 ∨ kd = 6 ∨ kd = 7 ∨ kd = 8 ∨ kd = 9 ∨ kd = 10 := by omega
  have hmul : a * b ≤ 255 * 255 := Nat.mul_le_mul ha hb
  have hmulI : (a : Int) * (b : Int) = ((a * b : Nat) : Int) := (Int.natCast_mul a b).symm
  obtain ⟨m, hm⟩ : ∃ m, a * b = m := ⟨_, rfl⟩
  rw [hm] at hmul hmulI
  have hand := i64_and_nat a b (by omega) (by omega)
  have hxor := i64_xor_nat a b (by omega) (by omega)
  have hx1 : a &&& b < 2 ^ 8 := Nat.and_lt_two_pow _ (by omega)
  have hx2 : a ^^^ b < 2 ^ 8 := Nat.xor_lt_two_pow (by omega) (by omega)
  obtain ⟨x1, hx1e⟩ : ∃ x, a &&& b = x := ⟨_, rfl⟩
  obtain ⟨x2, hx2e⟩ : ∃ x, a ^^^ b = x := ⟨_, rfl⟩
  rw [hx1e] at hand hx1
  rw [hx2e] at hxor hx2
  clear hm hx1e hx2e
  rcases h7 with rfl | rfl | rfl | rfl | rfl | rfl | rfl
  · go_enter Try.func118, Try.ntmps118
    go_wp2_with fail
    go_ret
    have e : (((a + b) % 256 : Nat) : Int) = ((a : Int) + (b : Int)) % 256 := by omega
    exact ⟨(a + b) % 256, by rw [e]; rfl, by omega, rfl⟩
  · go_enter Try.func118, Try.ntmps118
    go_wp2_with fail
    go_ret
    have e : (((a + 256 - b) % 256 : Nat) : Int) = ((a : Int) - (b : Int) + 256) % 256 := by omega
    exact ⟨(a + 256 - b) % 256, by rw [e]; rfl, by omega, rfl⟩
  · go_enter Try.func118, Try.ntmps118
    go_wp2_with fail
    go_ret
    have e : ((m % 256 : Nat) : Int) = (m : Int) % 256 := by omega
    exact ⟨m % 256, by rw [e]; rfl, by omega, rfl⟩
  · go_enter Try.func118, Try.ntmps118
    go_wp2_with fail
    go_ret
    exact ⟨x1, rfl, by omega, rfl⟩
  · go_enter Try.func118, Try.ntmps118
    go_wp2_with fail
    go_ret
    exact ⟨x2, rfl, by omega, rfl⟩
  · go_enter Try.func118, Try.ntmps118
    go_wp2_with fail
    refine (l3Bool_one _ w).mono ?_
    rintro f w1 ⟨v, rfl, hv, rfl⟩
    go_wp2_with fail
    go_ret
    exact ⟨v, rfl, hv, rfl⟩
  · go_enter Try.func118, Try.ntmps118
    go_wp2_with fail
    refine (l3Bool_one _ w).mono ?_
    rintro f w1 ⟨v, rfl, hv, rfl⟩
    go_wp2_with fail
    go_ret
    exact ⟨v, rfl, hv, rfl⟩

theorem l3Address_one (x y : Nat) (w : World) (hx : x ≤ 2) (hy : y ≤ 255) : Calls Try.prog 111 #[.int .i64 (x : Int), .int .i64 (y : Int)] w fun e w' => (∃ v : Int, e = .returned (.int .i64 v)) ∧ w' = w := by
  go_enter Try.func111, Try.ntmps111
  go_wp2_with fail
  go_ret
  exact ⟨⟨_, rfl⟩, rfl⟩

end Go.Proofs.Ytgfagdjadmpklaa

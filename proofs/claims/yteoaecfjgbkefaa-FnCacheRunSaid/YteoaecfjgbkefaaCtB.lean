/- ctBools of the laws answers whether two lists of bools are equal. -/
import Derived.Test.YteoaecfjgbkefaaBlS
namespace Go.Proofs.Yteoaecfjgbkefaa
open Go.RowKit
set_option linter.unusedVariables false

set_option maxHeartbeats 2000000 in
/-- **ctBools.** -/
theorem ctBS_one (bs cs : List Bool) (a a' : Option Addr) (n n' cap cap' : Nat) (w : World) {D D' : Nat → Prop} (h : BAt w D bs a) (h' : BAt w D' cs a') (hn : bs.length = n) (hn' : cs.length = n') :
    Calls Try.prog 26 #[.slice a n cap, .slice a' n' cap'] w (YN (decide (bs = cs)) w) := by
  have hm := h.1
  have hm' := h'.1
  unfold maxLen at hm hm'
  have HC : Hid (∀ k, k < n → ∃ x b o, bs[k]? = some x ∧ a = some ⟨b, o, none⟩ ∧ w.cell? ⟨b, o + k, none⟩ = some (.bool x)) := fun k hk => by
    have hx : bs[k]? = some (bs[k]'(by omega)) := List.getElem?_eq_getElem _
    obtain ⟨b, o, ha, _, hc⟩ := h.2 k _ hx
    exact ⟨_, b, o, hx, ha, hc⟩
  have HC' : Hid (∀ k, k < n' → ∃ x b o, cs[k]? = some x ∧ a' = some ⟨b, o, none⟩ ∧ w.cell? ⟨b, o + k, none⟩ = some (.bool x)) := fun k hk => by
    have hx : cs[k]? = some (cs[k]'(by omega)) := List.getElem?_eq_getElem _
    obtain ⟨b, o, ha, _, hc⟩ := h'.2 k _ hx
    exact ⟨_, b, o, hx, ha, hc⟩
  have HN := Lib.hid hn
  have HN' := Lib.hid hn'
  rw [hn] at hm
  rw [hn'] at hm'
  clear h h' hn hn'
  by_cases hne : n = n'
  · subst hne
    go_enter Try.func26, Try.ntmps26
    go_wp2
    go_loopw [5] (fun i wr => ∃ k m : Nat, k ≤ n ∧ i = .int .i64 k ∧ SameUp bs cs k ∧ wr = w.drewN m) (fun i _ => n - (intOf i).toNat)
    case atStart => exact ⟨0, 0, Nat.zero_le _, rfl, fun j hj => absurd hj (Nat.not_lt_zero _), rfl⟩
    case round =>
      obtain ⟨k, m, hk, rfl, heq, rfl⟩ := hrel
      have HE := Lib.hid heq
      clear heq
      by_cases hlt : k < n
      · obtain ⟨x, b, o, hx, rfl, hc⟩ := HC.out k hlt
        obtain ⟨y, b', o', hy, rfl, hc'⟩ := HC'.out k hlt
        have HX := Lib.hid hx
        have HY := Lib.hid hy
        clear hx hy HC HC'
        by_cases hxy : x = y
        · subst hxy
          have HE2 : Hid (SameUp bs cs (k + 1)) := HE.out.succ (HX.out.trans HY.out.symm)
          have hne : (x != x) = false := by simp
          have hne2 : (x == x) = true := by simp
          go_wp2
          go_quiet (fail)
          go_wp2
          go_roundw
          case rel => exact ⟨k + 1, _, by omega, by go_num, HE2.out, rfl⟩
          case measure => simp [intOf]; omega
        · have hne : (x == y) = false := by simpa using hxy
          have hne2 : (x != y) = true := by simpa using hxy
          have HNO : Hid (false = decide (bs = cs)) := (decide_eq_false fun e => hxy (by have h1 := HX.out; rw [e, HY.out] at h1; cases h1; rfl)).symm
          clear hxy
          go_wp2
          go_quiet (fail)
          go_wp2
          go_ret
          exact YN.of HNO.out ⟨rfl, rfl, rfl, Nat.le_refl _, fun _ _ => rfl⟩
      · obtain rfl : k = n := by omega
        have HY : Hid (true = decide (bs = cs)) := (decide_eq_true (HE.out.all HN.out HN'.out)).symm
        clear HC HC'
        go_wp2
        go_ret
        exact YN.of HY.out ⟨rfl, rfl, rfl, Nat.le_refl _, fun _ _ => rfl⟩
  · have hne' : ((n : Int) != (n' : Int)) = true := by simp; omega
    have HNO : Hid (false = decide (bs = cs)) := (decide_eq_false fun e => hne (by rw [← HN.out, ← HN'.out, e])).symm
    clear HC HC'
    go_enter Try.func26, Try.ntmps26
    go_wp2
    go_ret
    exact YN.of HNO.out (Below.refl _ _)

end Go.Proofs.Yteoaecfjgbkefaa

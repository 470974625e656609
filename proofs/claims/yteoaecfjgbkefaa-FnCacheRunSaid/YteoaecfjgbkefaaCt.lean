/- ctInts of the laws answers whether two lists of ints are equal. -/
import Derived.Test.YteoaecfjgbkefaaSl
namespace Go.Proofs.Yteoaecfjgbkefaa
open Go.RowKit

set_option maxHeartbeats 1000000 in
theorem ctInts_one (a a' : Option Addr) (n cap n' cap' : Nat) (xs ys : List Int) (w : World) (h : SliceI w a n xs) (h' : SliceI w a' n' ys) :
    Calls Try.prog 20 #[.slice a n cap, .slice a' n' cap'] w (Ans (eqL xs ys) w) := by
  obtain ⟨hm, hx, hc⟩ := h
  obtain ⟨hm', hy, hc'⟩ := h'
  unfold maxLen at hm hm'
  have HX := Lib.hid hx
  have HY := Lib.hid hy
  have HC := Lib.hid hc
  have HC' := Lib.hid hc'
  clear hx hy hc hc'
  by_cases hn : n = n'
  · subst hn
    go_enter Try.func20, Try.ntmps20
    go_wp2
    go_loopw [5] (fun i wr => ∃ k m : Nat, k ≤ n ∧ i = .int .i64 k ∧ EqUpto xs ys k ∧ wr = w.drewN m) (fun i _ => n - (intOf i).toNat)
    case atStart => exact ⟨0, 0, Nat.zero_le _, rfl, EqUpto.zero _ _, rfl⟩
    case round =>
      obtain ⟨k, m, hk, rfl, heq, rfl⟩ := hrel
      have HE := Lib.hid heq
      clear heq
      by_cases hlt : k < n
      · obtain ⟨b, o, rfl, hc⟩ := HC.out k hlt
        obtain ⟨b', o', rfl, hc'⟩ := HC'.out k hlt
        obtain ⟨x, hx⟩ : ∃ x, xs.getD k 0 = x := ⟨_, rfl⟩
        obtain ⟨y, hy⟩ : ∃ y, ys.getD k 0 = y := ⟨_, rfl⟩
        rw [hx] at hc
        rw [hy] at hc'
        have HXK := Lib.hid hx
        have HYK := Lib.hid hy
        clear hx hy HC HC'
        by_cases hxy : x = y
        · subst hxy
          go_wp2
          go_quiet (fail)
          go_wp2
          go_roundw
          case rel => exact ⟨k + 1, _, by omega, by go_num, HE.out.succ (HXK.out.trans HYK.out.symm), rfl⟩
          case measure => simp [intOf]; omega
        · have hne : (x != y) = true := by simpa using hxy
          go_wp2
          go_quiet (fail)
          go_wp2
          go_ret
          refine ⟨?_, _, drewN_drewN' _ _ _⟩
          have : eqL xs ys = false := by
            unfold eqL
            refine decide_eq_false fun e => hxy ?_
            rw [← HXK.out, ← HYK.out, e]
          rw [this]; rfl
      · have hkn : k = n := by omega
        have hall := (show EqUpto xs ys n from hkn ▸ HE.out).all HX.out HY.out
        have hL : eqL xs ys = true := decide_eq_true hall
        have HL := Lib.hid hL
        clear hL hall hkn
        go_wp2
        go_ret
        exact ⟨by rw [HL.out]; rfl, _, rfl⟩
  · have hne : ((n : Int) != (n' : Int)) = true := by simp; omega
    have hL : eqL xs ys = false := by
      unfold eqL
      refine decide_eq_false fun e => hn ?_
      rw [← HX.out, ← HY.out, e]
    have HL := Lib.hid hL
    clear hL
    go_enter Try.func20, Try.ntmps20
    go_wp2
    go_ret
    exact ⟨by rw [HL.out]; rfl, 0, rfl⟩

end Go.Proofs.Yteoaecfjgbkefaa

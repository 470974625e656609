/- The laws on labels, walked: for whatever bytes came in each law returns true, and nothing that was there has changed. No condition. -/
import Derived.Test.YtmajmchiflggjaaDraw
import Derived.Test.YtmajmchiflggjaaLab
namespace Go.Proofs.Ytmajmchiflggjaa
open Go.RowKit

theorem Lab.jn_comm (a b : Int) : Lab.jn a b = Lab.jn b a := by unfold Lab.jn; rw [Bool.and_comm, Nat.or_comm]
theorem Lab.mt_comm (a b : Int) : Lab.mt a b = Lab.mt b a := by unfold Lab.mt; rw [Bool.and_comm, Nat.and_comm]
theorem Lab.four {a : Int} (h : Lab.ok a = true) : a = 0 ∨ a = 1 ∨ a = 2 ∨ a = 3 := by
  unfold Lab.ok at h; simp at h; omega
theorem Lab.fl_bad (a : Int) {c : Int} (h : Lab.ok c = false) : Lab.fl a c = false := by unfold Lab.fl; simp [h]
theorem Lab.fl_bad' (a : Int) {c : Int} (h : Lab.ok c = false) : Lab.fl c a = false := by unfold Lab.fl; simp [h]
theorem Lab.fl_ok {a b : Int} (h : Lab.fl a b = true) : Lab.ok a = true ∧ Lab.ok b = true := by
  unfold Lab.fl at h; simp at h; exact h.1
theorem Lab.fl_join {a b : Int} (c : Int) (ha : Lab.ok a = true) (hb : Lab.ok b = true) : Lab.fl (Lab.jn a b) c = (Lab.fl a c && Lab.fl b c) := by
  cases hc : Lab.ok c
  · simp [Lab.fl_bad _ hc]
  · rcases Lab.four ha with rfl | rfl | rfl | rfl <;> rcases Lab.four hb with rfl | rfl | rfl | rfl <;> rcases Lab.four hc with rfl | rfl | rfl | rfl <;> rfl
theorem Lab.fl_meet {a b : Int} (c : Int) (ha : Lab.ok a = true) (hb : Lab.ok b = true) : Lab.fl c (Lab.mt a b) = (Lab.fl c a && Lab.fl c b) := by
  cases hc : Lab.ok c
  · simp [Lab.fl_bad' _ hc]
  · rcases Lab.four ha with rfl | rfl | rfl | rfl <;> rcases Lab.four hb with rfl | rfl | rfl | rfl <;> rcases Lab.four hc with rfl | rfl | rfl | rfl <;> rfl
theorem Lab.fl_refl (a : Int) : Lab.fl a a = Lab.ok a := by
  cases ha : Lab.ok a
  · exact Lab.fl_bad _ ha
  · rcases Lab.four ha with rfl | rfl | rfl | rfl <;> rfl
theorem Lab.fl_anti {a b : Int} (h : Lab.fl a b = true) (h' : Lab.fl b a = true) : a = b := by
  obtain ⟨ha, hb⟩ := Lab.fl_ok h
  rcases Lab.four ha with rfl | rfl | rfl | rfl <;> rcases Lab.four hb with rfl | rfl | rfl | rfl <;> first | rfl | (revert h h'; decide)
theorem Lab.fl_trans {a b c : Int} (h : Lab.fl a b = true) (h' : Lab.fl b c = true) : Lab.fl a c = true := by
  obtain ⟨ha, hb⟩ := Lab.fl_ok h
  obtain ⟨_, hc⟩ := Lab.fl_ok h'
  rcases Lab.four ha with rfl | rfl | rfl | rfl <;> rcases Lab.four hb with rfl | rfl | rfl | rfl <;> rcases Lab.four hc with rfl | rfl | rfl | rfl <;> first | rfl | (revert h h'; decide)
theorem Lab.fl_eq {a b : Int} (ha : Lab.ok a = true) (hb : Lab.ok b = true) : Lab.fl a b = (Lab.jn a b == b) := by
  rcases Lab.four ha with rfl | rfl | rfl | rfl <;> rcases Lab.four hb with rfl | rfl | rfl | rfl <;> rfl
theorem Lab.sec_join {a b : Int} (ha : Lab.ok a = true) (hb : Lab.ok b = true) : Lab.sec (Lab.jn a b) = (Lab.sec a || Lab.sec b) := by
  rcases Lab.four ha with rfl | rfl | rfl | rfl <;> rcases Lab.four hb with rfl | rfl | rfl | rfl <;> rfl
theorem Lab.tru_join {a b : Int} (ha : Lab.ok a = true) (hb : Lab.ok b = true) : Lab.tru (Lab.jn a b) = (Lab.tru a && Lab.tru b) := by
  rcases Lab.four ha with rfl | rfl | rfl | rfl <;> rcases Lab.four hb with rfl | rfl | rfl | rfl <;> rfl
theorem Lab.distr {a b c : Int} (ha : Lab.ok a = true) (hb : Lab.ok b = true) (hc : Lab.ok c = true) : Lab.jn a (Lab.mt b c) = Lab.mt (Lab.jn a b) (Lab.jn a c) := by
  rcases Lab.four ha with rfl | rfl | rfl | rfl <;> rcases Lab.four hb with rfl | rfl | rfl | rfl <;> rcases Lab.four hc with rfl | rfl | rfl | rfl <;> rfl
theorem Lab.absorb {a b : Int} (ha : Lab.ok a = true) (hb : Lab.ok b = true) : Lab.jn a (Lab.mt a b) = a := by
  rcases Lab.four ha with rfl | rfl | rfl | rfl <;> rcases Lab.four hb with rfl | rfl | rfl | rfl <;> rfl

theorem drawMeet_one (a : Option Addr) (len cap : Nat) (zs : List Int) (w : World) (h : IsRow .u8 w a len cap zs) :
    Calls Try.prog 19 #[.slice a len cap] w (TwoInts w) := by
  have H := Lib.hid h
  clear h
  go_enter Try.func19, Try.ntmps19
  go_wp2_with fail
  refine (drawJoin_one a len cap zs _ H.out).mono ?_
  rintro e w1 ⟨x, y, rfl, hb1⟩
  have HB1 := Lib.hid hb1
  clear hb1
  go_wp2
  go_ret2
  exact ⟨x, y, rfl, HB1.out⟩

theorem drawFlows_one (a : Option Addr) (len cap : Nat) (zs : List Int) (w : World) (h : IsRow .u8 w a len cap zs) :
    Calls Try.prog 22 #[.slice a len cap] w (TwoInts w) := by
  have H := Lib.hid h
  clear h
  go_enter Try.func22, Try.ntmps22
  go_wp2_with fail
  refine (drawJoin_one a len cap zs _ H.out).mono ?_
  rintro e w1 ⟨x, y, rfl, hb1⟩
  have HB1 := Lib.hid hb1
  clear hb1
  go_wp2
  go_ret2
  exact ⟨x, y, rfl, HB1.out⟩

/-- The law's answer: true, and nothing that was there has changed. -/
def Yes (w : World) (e : Ending) (w' : World) : Prop := e = .returned (.bool true) ∧ Below w.heap.size w w'

theorem IsRow.below {k : IntKind} {w w' : World} {a : Option Addr} {len cap : Nat} {zs : List Int} (h : IsRow k w a len cap zs) (hb : Below w.heap.size w w') : IsRow k w' a len cap zs := by
  rcases h with ⟨rfl, rfl, rfl, rfl⟩ | ⟨x, rfl, hlen, hcap, hz, hc, hw⟩
  · exact .inl ⟨rfl, rfl, rfl, rfl⟩
  · exact .inr ⟨x, rfl, hlen, hcap, hz, fun i hi => (hb.cell (p := x.add i) (World.block_lt_of_cell? w _ (hc i hi))).trans (hc i hi), hw⟩

set_option maxHeartbeats 4000000 in
theorem joinLaw_walk (a : Option Addr) (len cap : Nat) (zs : List Int) (w : World) (h : IsRow .u8 w a len cap zs) :
    Calls Try.prog 3 #[.slice a len cap] w (Yes w) := by
  have H := Lib.hid h
  clear h
  by_cases hlen : 1048576 < len
  · go_enter Try.func3, Try.ntmps3
    go_wp2_with fail
    go_ret
    exact ⟨rfl, Below.refl _ _⟩
  · go_enter Try.func3, Try.ntmps3
    go_wp2_with fail
    refine (drawJoin_one a len cap zs _ H.out).mono ?_
    rintro e w1 ⟨x, y, rfl, hb1⟩
    have HB := Lib.hid hb1
    clear hb1 H
    have hcm : (Lab.jn x y != Lab.jn y x) = false := by rw [Lab.jn_comm]; simp
    have hcm' : (Lab.jn x y == Lab.jn y x) = true := by rw [Lab.jn_comm]; simp
    cases hx : Lab.ok x
    case false =>
      go_wp2_with (first | (go_at_call 15; refine (iJoin_any _ _ _).mono ?_; rintro e w2 ⟨rfl, rfl⟩) | (go_at_call 16; refine (sJoin_any _ _ _).mono ?_; rintro e w2 ⟨rfl, rfl⟩) | (go_at_call 17; refine (iValid_any _ _).mono ?_; rintro e w2 ⟨rfl, rfl⟩) | (go_at_call 18; refine (iFlows_any _ _ _).mono ?_; rintro e w2 ⟨rfl, rfl⟩))
      go_ret
      exact ⟨rfl, HB.out⟩
    case true =>
    cases hy : Lab.ok y
    case false =>
      go_wp2_with (first | (go_at_call 15; refine (iJoin_any _ _ _).mono ?_; rintro e w2 ⟨rfl, rfl⟩) | (go_at_call 16; refine (sJoin_any _ _ _).mono ?_; rintro e w2 ⟨rfl, rfl⟩) | (go_at_call 17; refine (iValid_any _ _).mono ?_; rintro e w2 ⟨rfl, rfl⟩) | (go_at_call 18; refine (iFlows_any _ _ _).mono ?_; rintro e w2 ⟨rfl, rfl⟩))
      go_ret
      exact ⟨rfl, HB.out⟩
    case true =>
    go_wp2_with (first | (go_at_call 15; refine (iJoin_any _ _ _).mono ?_; rintro e w2 ⟨rfl, rfl⟩) | (go_at_call 16; refine (sJoin_any _ _ _).mono ?_; rintro e w2 ⟨rfl, rfl⟩) | (go_at_call 17; refine (iValid_any _ _).mono ?_; rintro e w2 ⟨rfl, rfl⟩) | (go_at_call 18; refine (iFlows_any _ _ _).mono ?_; rintro e w2 ⟨rfl, rfl⟩))
    go_loop [6] (fun i => ∃ k : Nat, k ≤ 4 ∧ i = .int .i64 k) (fun i => 4 - (intOf i).toNat)
    case atStart => exact ⟨0, by omega, rfl⟩
    case round =>
      obtain ⟨k, hk, rfl⟩ := hrel
      by_cases hk4 : k < 4
      · have hf := Lab.fl_join (k : Int) hx hy
        cases h1 : Lab.fl x (k : Int) <;> cases h2 : Lab.fl y (k : Int) <;> rw [h1, h2] at hf
        all_goals
          go_wp2_with (first | (go_at_call 15; refine (iJoin_any _ _ _).mono ?_; rintro e w2 ⟨rfl, rfl⟩) | (go_at_call 16; refine (sJoin_any _ _ _).mono ?_; rintro e w2 ⟨rfl, rfl⟩) | (go_at_call 17; refine (iValid_any _ _).mono ?_; rintro e w2 ⟨rfl, rfl⟩) | (go_at_call 18; refine (iFlows_any _ _ _).mono ?_; rintro e w2 ⟨rfl, rfl⟩))
          go_round
          case rel => exact ⟨k + 1, by omega, by go_num⟩
          case measure => simp [intOf]; omega
      · go_wp2
        go_ret
        exact ⟨rfl, HB.out⟩

set_option maxHeartbeats 4000000 in
theorem meetLaw_walk (a : Option Addr) (len cap : Nat) (zs : List Int) (w : World) (h : IsRow .u8 w a len cap zs) :
    Calls Try.prog 4 #[.slice a len cap] w (Yes w) := by
  have H := Lib.hid h
  clear h
  by_cases hlen : 1048576 < len
  · go_enter Try.func4, Try.ntmps4
    go_wp2_with fail
    go_ret
    exact ⟨rfl, Below.refl _ _⟩
  · go_enter Try.func4, Try.ntmps4
    go_wp2_with fail
    refine (drawMeet_one a len cap zs _ H.out).mono ?_
    rintro e w1 ⟨x, y, rfl, hb1⟩
    have HB := Lib.hid hb1
    clear hb1 H
    have hcm : (Lab.mt x y != Lab.mt y x) = false := by rw [Lab.mt_comm]; simp
    have hcm' : (Lab.mt x y == Lab.mt y x) = true := by rw [Lab.mt_comm]; simp
    cases hx : Lab.ok x
    case false =>
      go_wp2_with (first | (go_at_call 20; refine (iMeet_any _ _ _).mono ?_; rintro e w2 ⟨rfl, rfl⟩) | (go_at_call 21; refine (sMeet_any _ _ _).mono ?_; rintro e w2 ⟨rfl, rfl⟩) | (go_at_call 17; refine (iValid_any _ _).mono ?_; rintro e w2 ⟨rfl, rfl⟩) | (go_at_call 18; refine (iFlows_any _ _ _).mono ?_; rintro e w2 ⟨rfl, rfl⟩))
      go_ret
      exact ⟨rfl, HB.out⟩
    case true =>
    cases hy : Lab.ok y
    case false =>
      go_wp2_with (first | (go_at_call 20; refine (iMeet_any _ _ _).mono ?_; rintro e w2 ⟨rfl, rfl⟩) | (go_at_call 21; refine (sMeet_any _ _ _).mono ?_; rintro e w2 ⟨rfl, rfl⟩) | (go_at_call 17; refine (iValid_any _ _).mono ?_; rintro e w2 ⟨rfl, rfl⟩) | (go_at_call 18; refine (iFlows_any _ _ _).mono ?_; rintro e w2 ⟨rfl, rfl⟩))
      go_ret
      exact ⟨rfl, HB.out⟩
    case true =>
    go_wp2_with (first | (go_at_call 20; refine (iMeet_any _ _ _).mono ?_; rintro e w2 ⟨rfl, rfl⟩) | (go_at_call 21; refine (sMeet_any _ _ _).mono ?_; rintro e w2 ⟨rfl, rfl⟩) | (go_at_call 17; refine (iValid_any _ _).mono ?_; rintro e w2 ⟨rfl, rfl⟩) | (go_at_call 18; refine (iFlows_any _ _ _).mono ?_; rintro e w2 ⟨rfl, rfl⟩))
    go_loop [6] (fun i => ∃ k : Nat, k ≤ 4 ∧ i = .int .i64 k) (fun i => 4 - (intOf i).toNat)
    case atStart => exact ⟨0, by omega, rfl⟩
    case round =>
      obtain ⟨k, hk, rfl⟩ := hrel
      by_cases hk4 : k < 4
      · have hf := Lab.fl_meet (k : Int) hx hy
        cases h1 : Lab.fl (k : Int) x <;> cases h2 : Lab.fl (k : Int) y <;> rw [h1, h2] at hf
        all_goals
          go_wp2_with (first | (go_at_call 20; refine (iMeet_any _ _ _).mono ?_; rintro e w2 ⟨rfl, rfl⟩) | (go_at_call 21; refine (sMeet_any _ _ _).mono ?_; rintro e w2 ⟨rfl, rfl⟩) | (go_at_call 17; refine (iValid_any _ _).mono ?_; rintro e w2 ⟨rfl, rfl⟩) | (go_at_call 18; refine (iFlows_any _ _ _).mono ?_; rintro e w2 ⟨rfl, rfl⟩))
          go_round
          case rel => exact ⟨k + 1, by omega, by go_num⟩
          case measure => simp [intOf]; omega
      · go_wp2
        go_ret
        exact ⟨rfl, HB.out⟩

set_option maxHeartbeats 4000000 in
theorem flowsLaw_walk (a : Option Addr) (len cap : Nat) (zs : List Int) (a' : Option Addr) (len' cap' : Nat) (zs' : List Int) (w : World) (h : IsRow .u8 w a len cap zs) (h' : IsRow .u8 w a' len' cap' zs') :
    Calls Try.prog 5 #[.slice a len cap, .slice a' len' cap'] w (Yes w) := by
  have H := Lib.hid h
  have H' := Lib.hid h'
  clear h h'
  by_cases hlen : 1048576 < len
  · go_enter Try.func5, Try.ntmps5
    go_wp2_with fail
    go_ret
    exact ⟨rfl, Below.refl _ _⟩
  · by_cases hlen' : 1048576 < len'
    · go_enter Try.func5, Try.ntmps5
      go_wp2_with fail
      go_ret
      exact ⟨rfl, Below.refl _ _⟩
    · go_enter Try.func5, Try.ntmps5
      go_wp2_with fail
      refine (drawFlows_one a len cap zs _ H.out).mono ?_
      rintro e w1 ⟨x, y, rfl, hb1⟩
      have HB1 := Lib.hid hb1
      have H2 := Lib.hid (H'.out.below hb1)
      clear hb1 H H'
      go_wp2_with fail
      refine (drawFlows_one a' len' cap' zs' _ H2.out).mono ?_
      rintro e w2 ⟨z0, z, rfl, hb2⟩
      have HB := Lib.hid (HB1.out.trans (hb2.mono HB1.out.size))
      clear hb2 HB1 H2
      have hr := Lab.fl_refl x
      cases h1 : Lab.fl x y
      case false =>
        cases hx : Lab.ok x
        case false =>
          go_wp2_with (first | (go_at_call 18; refine (iFlows_any _ _ _).mono ?_; rintro e w2 ⟨rfl, rfl⟩) | (go_at_call 23; refine (sFlows_any _ _ _).mono ?_; rintro e w2 ⟨rfl, rfl⟩) | (go_at_call 17; refine (iValid_any _ _).mono ?_; rintro e w2 ⟨rfl, rfl⟩) | (go_at_call 24; refine (sValid_any _ _).mono ?_; rintro e w2 ⟨rfl, rfl⟩) | (go_at_call 15; refine (iJoin_any _ _ _).mono ?_; rintro e w2 ⟨rfl, rfl⟩))
          go_ret
          exact ⟨rfl, HB.out⟩
        case true =>
        cases hy : Lab.ok y
        case false =>
          go_wp2_with (first | (go_at_call 18; refine (iFlows_any _ _ _).mono ?_; rintro e w2 ⟨rfl, rfl⟩) | (go_at_call 23; refine (sFlows_any _ _ _).mono ?_; rintro e w2 ⟨rfl, rfl⟩) | (go_at_call 17; refine (iValid_any _ _).mono ?_; rintro e w2 ⟨rfl, rfl⟩) | (go_at_call 24; refine (sValid_any _ _).mono ?_; rintro e w2 ⟨rfl, rfl⟩) | (go_at_call 15; refine (iJoin_any _ _ _).mono ?_; rintro e w2 ⟨rfl, rfl⟩))
          go_ret
          exact ⟨rfl, HB.out⟩
        case true =>
        have hj : (Lab.jn x y == y) = false := by rw [← Lab.fl_eq hx hy]; exact h1
        go_wp2_with (first | (go_at_call 18; refine (iFlows_any _ _ _).mono ?_; rintro e w2 ⟨rfl, rfl⟩) | (go_at_call 23; refine (sFlows_any _ _ _).mono ?_; rintro e w2 ⟨rfl, rfl⟩) | (go_at_call 17; refine (iValid_any _ _).mono ?_; rintro e w2 ⟨rfl, rfl⟩) | (go_at_call 24; refine (sValid_any _ _).mono ?_; rintro e w2 ⟨rfl, rfl⟩) | (go_at_call 15; refine (iJoin_any _ _ _).mono ?_; rintro e w2 ⟨rfl, rfl⟩))
        go_ret
        exact ⟨rfl, HB.out⟩
      case true =>
      obtain ⟨hx, hy⟩ := Lab.fl_ok h1
      have hj : (Lab.jn x y == y) = true := by rw [← Lab.fl_eq hx hy]; exact h1
      cases h3 : Lab.fl y z
      case false =>
        cases h2 : Lab.fl y x
        case false =>
          go_wp2_with (first | (go_at_call 18; refine (iFlows_any _ _ _).mono ?_; rintro e w2 ⟨rfl, rfl⟩) | (go_at_call 23; refine (sFlows_any _ _ _).mono ?_; rintro e w2 ⟨rfl, rfl⟩) | (go_at_call 17; refine (iValid_any _ _).mono ?_; rintro e w2 ⟨rfl, rfl⟩) | (go_at_call 24; refine (sValid_any _ _).mono ?_; rintro e w2 ⟨rfl, rfl⟩) | (go_at_call 15; refine (iJoin_any _ _ _).mono ?_; rintro e w2 ⟨rfl, rfl⟩))
          go_ret
          exact ⟨rfl, HB.out⟩
        case true =>
          have hne : (x != y) = false := by have := Lab.fl_anti h1 h2; simp [this]
          go_wp2_with (first | (go_at_call 18; refine (iFlows_any _ _ _).mono ?_; rintro e w2 ⟨rfl, rfl⟩) | (go_at_call 23; refine (sFlows_any _ _ _).mono ?_; rintro e w2 ⟨rfl, rfl⟩) | (go_at_call 17; refine (iValid_any _ _).mono ?_; rintro e w2 ⟨rfl, rfl⟩) | (go_at_call 24; refine (sValid_any _ _).mono ?_; rintro e w2 ⟨rfl, rfl⟩) | (go_at_call 15; refine (iJoin_any _ _ _).mono ?_; rintro e w2 ⟨rfl, rfl⟩))
          go_ret
          exact ⟨rfl, HB.out⟩
      case true =>
        have h4 := Lab.fl_trans h1 h3
        cases h2 : Lab.fl y x
        case false =>
          go_wp2_with (first | (go_at_call 18; refine (iFlows_any _ _ _).mono ?_; rintro e w2 ⟨rfl, rfl⟩) | (go_at_call 23; refine (sFlows_any _ _ _).mono ?_; rintro e w2 ⟨rfl, rfl⟩) | (go_at_call 17; refine (iValid_any _ _).mono ?_; rintro e w2 ⟨rfl, rfl⟩) | (go_at_call 24; refine (sValid_any _ _).mono ?_; rintro e w2 ⟨rfl, rfl⟩) | (go_at_call 15; refine (iJoin_any _ _ _).mono ?_; rintro e w2 ⟨rfl, rfl⟩))
          go_ret
          exact ⟨rfl, HB.out⟩
        case true =>
          have hne : (x != y) = false := by have := Lab.fl_anti h1 h2; simp [this]
          go_wp2_with (first | (go_at_call 18; refine (iFlows_any _ _ _).mono ?_; rintro e w2 ⟨rfl, rfl⟩) | (go_at_call 23; refine (sFlows_any _ _ _).mono ?_; rintro e w2 ⟨rfl, rfl⟩) | (go_at_call 17; refine (iValid_any _ _).mono ?_; rintro e w2 ⟨rfl, rfl⟩) | (go_at_call 24; refine (sValid_any _ _).mono ?_; rintro e w2 ⟨rfl, rfl⟩) | (go_at_call 15; refine (iJoin_any _ _ _).mono ?_; rintro e w2 ⟨rfl, rfl⟩))
          go_ret
          exact ⟨rfl, HB.out⟩

set_option maxHeartbeats 4000000 in
theorem secretLaw_walk (a : Option Addr) (len cap : Nat) (zs : List Int) (w : World) (h : IsRow .u8 w a len cap zs) :
    Calls Try.prog 6 #[.slice a len cap] w (Yes w) := by
  have H := Lib.hid h
  clear h
  by_cases hlen : 1048576 < len
  · go_enter Try.func6, Try.ntmps6
    go_wp2_with fail
    go_ret
    exact ⟨rfl, Below.refl _ _⟩
  · go_enter Try.func6, Try.ntmps6
    go_wp2_with fail
    refine (drawJoin_one a len cap zs _ H.out).mono ?_
    rintro e w1 ⟨x, y, rfl, hb1⟩
    have HB := Lib.hid hb1
    clear hb1 H
    cases hx : Lab.ok x
    case false =>
      go_wp2_with (first | (go_at_call 25; refine (iSecret_any _ _).mono ?_; rintro e w2 ⟨rfl, rfl⟩) | (go_at_call 26; refine (sSecret_any _ _).mono ?_; rintro e w2 ⟨rfl, rfl⟩) | (go_at_call 27; refine (iTrusted_any _ _).mono ?_; rintro e w2 ⟨rfl, rfl⟩) | (go_at_call 28; refine (sTrusted_any _ _).mono ?_; rintro e w2 ⟨rfl, rfl⟩) | (go_at_call 17; refine (iValid_any _ _).mono ?_; rintro e w2 ⟨rfl, rfl⟩) | (go_at_call 15; refine (iJoin_any _ _ _).mono ?_; rintro e w2 ⟨rfl, rfl⟩))
      go_ret
      exact ⟨rfl, HB.out⟩
    case true =>
    cases hy : Lab.ok y
    case false =>
      go_wp2_with (first | (go_at_call 25; refine (iSecret_any _ _).mono ?_; rintro e w2 ⟨rfl, rfl⟩) | (go_at_call 26; refine (sSecret_any _ _).mono ?_; rintro e w2 ⟨rfl, rfl⟩) | (go_at_call 27; refine (iTrusted_any _ _).mono ?_; rintro e w2 ⟨rfl, rfl⟩) | (go_at_call 28; refine (sTrusted_any _ _).mono ?_; rintro e w2 ⟨rfl, rfl⟩) | (go_at_call 17; refine (iValid_any _ _).mono ?_; rintro e w2 ⟨rfl, rfl⟩) | (go_at_call 15; refine (iJoin_any _ _ _).mono ?_; rintro e w2 ⟨rfl, rfl⟩))
      go_ret
      exact ⟨rfl, HB.out⟩
    case true =>
    have hs := Lab.sec_join hx hy
    have ht := Lab.tru_join hx hy
    cases h1 : Lab.sec x <;> cases h2 : Lab.sec y <;> cases h3 : Lab.tru x <;> cases h4 : Lab.tru y <;> rw [h1, h2] at hs <;> rw [h3, h4] at ht
    all_goals
      go_wp2_with (first | (go_at_call 25; refine (iSecret_any _ _).mono ?_; rintro e w2 ⟨rfl, rfl⟩) | (go_at_call 26; refine (sSecret_any _ _).mono ?_; rintro e w2 ⟨rfl, rfl⟩) | (go_at_call 27; refine (iTrusted_any _ _).mono ?_; rintro e w2 ⟨rfl, rfl⟩) | (go_at_call 28; refine (sTrusted_any _ _).mono ?_; rintro e w2 ⟨rfl, rfl⟩) | (go_at_call 17; refine (iValid_any _ _).mono ?_; rintro e w2 ⟨rfl, rfl⟩) | (go_at_call 15; refine (iJoin_any _ _ _).mono ?_; rintro e w2 ⟨rfl, rfl⟩))
      go_ret
      exact ⟨rfl, HB.out⟩

set_option maxHeartbeats 4000000 in
theorem distrLaw_walk (a : Option Addr) (len cap : Nat) (zs : List Int) (a' : Option Addr) (len' cap' : Nat) (zs' : List Int) (w : World) (h : IsRow .u8 w a len cap zs) (h' : IsRow .u8 w a' len' cap' zs') :
    Calls Try.prog 7 #[.slice a len cap, .slice a' len' cap'] w (Yes w) := by
  have H := Lib.hid h
  have H' := Lib.hid h'
  clear h h'
  by_cases hlen : 1048576 < len
  · go_enter Try.func7, Try.ntmps7
    go_wp2_with fail
    go_ret
    exact ⟨rfl, Below.refl _ _⟩
  · by_cases hlen' : 1048576 < len'
    · go_enter Try.func7, Try.ntmps7
      go_wp2_with fail
      go_ret
      exact ⟨rfl, Below.refl _ _⟩
    · go_enter Try.func7, Try.ntmps7
      go_wp2_with fail
      refine (drawJoin_one a len cap zs _ H.out).mono ?_
      rintro e w1 ⟨x, y, rfl, hb1⟩
      have HB1 := Lib.hid hb1
      have H2 := Lib.hid (H'.out.below hb1)
      clear hb1 H H'
      go_wp2_with fail
      refine (drawMeet_one a' len' cap' zs' _ H2.out).mono ?_
      rintro e w2 ⟨z0, z, rfl, hb2⟩
      have HB := Lib.hid (HB1.out.trans (hb2.mono HB1.out.size))
      clear hb2 HB1 H2
      cases hx : Lab.ok x
      case false =>
          go_wp2_with (first | (go_at_call 15; refine (iJoin_any _ _ _).mono ?_; rintro e w2 ⟨rfl, rfl⟩) | (go_at_call 16; refine (sJoin_any _ _ _).mono ?_; rintro e w2 ⟨rfl, rfl⟩) | (go_at_call 20; refine (iMeet_any _ _ _).mono ?_; rintro e w2 ⟨rfl, rfl⟩) | (go_at_call 21; refine (sMeet_any _ _ _).mono ?_; rintro e w2 ⟨rfl, rfl⟩) | (go_at_call 17; refine (iValid_any _ _).mono ?_; rintro e w2 ⟨rfl, rfl⟩))
          go_ret
          exact ⟨rfl, HB.out⟩

      case true =>
      cases hy : Lab.ok y
      case false =>
          go_wp2_with (first | (go_at_call 15; refine (iJoin_any _ _ _).mono ?_; rintro e w2 ⟨rfl, rfl⟩) | (go_at_call 16; refine (sJoin_any _ _ _).mono ?_; rintro e w2 ⟨rfl, rfl⟩) | (go_at_call 20; refine (iMeet_any _ _ _).mono ?_; rintro e w2 ⟨rfl, rfl⟩) | (go_at_call 21; refine (sMeet_any _ _ _).mono ?_; rintro e w2 ⟨rfl, rfl⟩) | (go_at_call 17; refine (iValid_any _ _).mono ?_; rintro e w2 ⟨rfl, rfl⟩))
          go_ret
          exact ⟨rfl, HB.out⟩

      case true =>
      cases hz : Lab.ok z
      case false =>
          go_wp2_with (first | (go_at_call 15; refine (iJoin_any _ _ _).mono ?_; rintro e w2 ⟨rfl, rfl⟩) | (go_at_call 16; refine (sJoin_any _ _ _).mono ?_; rintro e w2 ⟨rfl, rfl⟩) | (go_at_call 20; refine (iMeet_any _ _ _).mono ?_; rintro e w2 ⟨rfl, rfl⟩) | (go_at_call 21; refine (sMeet_any _ _ _).mono ?_; rintro e w2 ⟨rfl, rfl⟩) | (go_at_call 17; refine (iValid_any _ _).mono ?_; rintro e w2 ⟨rfl, rfl⟩))
          go_ret
          exact ⟨rfl, HB.out⟩

      case true =>
      have hd : (Lab.jn x (Lab.mt y z) == Lab.mt (Lab.jn x y) (Lab.jn x z)) = true := by rw [Lab.distr hx hy hz]; simp
      have ha : (Lab.jn x (Lab.mt x y) == x) = true := by rw [Lab.absorb hx hy]; simp
      go_wp2_with (first | (go_at_call 15; refine (iJoin_any _ _ _).mono ?_; rintro e w2 ⟨rfl, rfl⟩) | (go_at_call 16; refine (sJoin_any _ _ _).mono ?_; rintro e w2 ⟨rfl, rfl⟩) | (go_at_call 20; refine (iMeet_any _ _ _).mono ?_; rintro e w2 ⟨rfl, rfl⟩) | (go_at_call 21; refine (sMeet_any _ _ _).mono ?_; rintro e w2 ⟨rfl, rfl⟩) | (go_at_call 17; refine (iValid_any _ _).mono ?_; rintro e w2 ⟨rfl, rfl⟩))
      go_ret
      exact ⟨rfl, HB.out⟩

end Go.Proofs.Ytmajmchiflggjaa

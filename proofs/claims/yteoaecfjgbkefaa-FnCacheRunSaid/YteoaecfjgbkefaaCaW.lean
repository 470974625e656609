/- The program's small functions on caches (isAddress, lineOf, lineFits) and its CacheValid. -/
import Derived.Test.YteoaecfjgbkefaaCaV
namespace Go.Proofs.Yteoaecfjgbkefaa
open Go.RowKit
set_option linter.unusedVariables false

set_option maxHeartbeats 1000000 in
theorem isAdr_one (v : Int) (w : World) :
    Calls Try.prog 53 #[.int .i64 v] w fun e w' => e = .returned (.bool (adr v)) ∧ w' = w := by
  have HY : Hid (0 ≤ v ∧ v < 8 → true = adr v) := fun h => (decide_eq_true h).symm
  have HN : Hid (¬ (0 ≤ v ∧ v < 8) → false = adr v) := fun h => (decide_eq_false h).symm
  by_cases h0 : v < 0
  · have HE := Lib.hid (HN.out (by omega))
    go_enter Try.func53, Try.ntmps53
    go_wp2
    go_ret
    exact ⟨by rw [← HE.out]; rfl, rfl⟩
  · by_cases h8 : v < 8
    · have HE := Lib.hid (HY.out (by omega))
      go_enter Try.func53, Try.ntmps53
      go_wp2
      go_ret
      exact ⟨by rw [← HE.out]; rfl, rfl⟩
    · have HE := Lib.hid (HN.out (by omega))
      go_enter Try.func53, Try.ntmps53
      go_wp2
      go_ret
      exact ⟨by rw [← HE.out]; rfl, rfl⟩

theorem lineOf_one (b : Int) (w : World) (h : 0 ≤ b) :
    Calls Try.prog 76 #[.int .i64 b] w fun e w' => e = .returned (.int .i64 (b % 2)) ∧ w' = w := by
  go_enter Try.func76, Try.ntmps76
  go_wp2
  go_ret
  exact ⟨rfl, rfl⟩

set_option maxHeartbeats 2000000 in
theorem lineFits_one (k : Nat) (x : Int) (w : World) (hk : k < 2) :
    Calls Try.prog 59 #[.int .i64 (k : Int), .int .i64 x] w fun e w' => e = .returned (.bool (okLn (k : Int) x)) ∧ w' = w := by
  have hk2 : k = 0 ∨ k = 1 := by omega
  rcases ln_cases x with h | h | h
  · have HN := Lib.hid (okLn_lo (k : Int) h)
    have e1 : (x == -1) = false := by simp; omega
    have e2 : (x == -2) = false := by simp; omega
    go_enter Try.func59, Try.ntmps59
    go_wp2
    go_ret
    exact ⟨by rw [HN.out]; rfl, rfl⟩
  · have HN := Lib.hid (okLn_hi (k : Int) h)
    have e1 : (x == -1) = false := by simp; omega
    have e2 : (x == -2) = false := by simp; omega
    go_enter Try.func59, Try.ntmps59
    go_wp2
    go_ret
    exact ⟨by rw [HN.out]; rfl, rfl⟩
  · have HP : Hid ((okLn (k : Int) 0 = ((0 : Int) == (k : Int))) ∧ okLn (k : Int) 1 = ((1 : Int) == (k : Int)) ∧ okLn (k : Int) 2 = ((0 : Int) == (k : Int)) ∧ okLn (k : Int) 3 = ((1 : Int) == (k : Int)) ∧ okLn (k : Int) (-2) = true ∧ okLn (k : Int) (-1) = true) := by
      rcases hk2 with rfl | rfl <;> exact ⟨rfl, rfl, rfl, rfl, rfl, rfl⟩
    clear hk2
    rcases h with rfl | rfl | rfl | rfl | rfl | rfl
    all_goals
      go_enter Try.func59, Try.ntmps59
      go_wp2_with (go_at_call 76; refine (lineOf_one _ _ (by omega)).mono ?_; rintro e w' ⟨rfl, rfl⟩)
      go_ret
      exact ⟨by first | (rw [HP.out.1]; rfl) | (rw [HP.out.2.1]; rfl) | (rw [HP.out.2.2.1]; rfl) | (rw [HP.out.2.2.2.1]; rfl) | (rw [HP.out.2.2.2.2.1]; rfl) | (rw [HP.out.2.2.2.2.2]; rfl), rfl⟩

set_option maxHeartbeats 2000000 in
/-- **impl.CacheValid.** -/
theorem iCv_one (a : Option Addr) (n cap : Nat) (xs : List Int) (w : World) (h : SliceI w a n xs) :
    Calls Try.prog 21 #[.agg #[.slice a n cap]] w (YN (okL xs) w) := by
  obtain ⟨hm, hl, hc⟩ := h
  have HBEL : Hid (Below w.heap.size w (w.alloc (.cells #[.slice a n cap] 25))) := (Below.refl _ w).alloc (Nat.le_refl _) _
  by_cases hn : n = 2
  · subst hn
    obtain ⟨c, rfl⟩ := len_two hl
    have HC : Hid (∀ k, k < 2 → ∃ b o, a = some ⟨b, o, none⟩ ∧ (w.alloc (.cells #[.slice a 2 cap] 25)).cell? ⟨b, o + k, none⟩ = some (.int .i64 (c.l.getD k 0))) := fun k hk => by
      obtain ⟨b, o, ha, h1⟩ := hc k hk
      exact ⟨b, o, ha, (HBEL.out.cell (p := ⟨b, o + k, none⟩) (World.block_lt_of_cell? w _ h1)).trans h1⟩
    have hok : okL c.l = okCa c := rfl
    rw [hok]
    clear hm hl hc hok
    go_enter Try.func21, Try.ntmps21
    go_wp2
    go_loop [12] (fun i => ∃ k : Nat, k ≤ 2 ∧ i = .int .i64 k ∧ CvR c k) (fun i => 2 - (intOf i).toNat)
    case atStart => exact ⟨0, by omega, rfl, .inl rfl⟩
    case round =>
      obtain ⟨k, hk, rfl, hR⟩ := hrel
      have HR := Lib.hid hR
      clear hR
      by_cases hlt : k < 2
      · obtain ⟨b, o, rfl, hcell⟩ := HC.out k hlt
        obtain ⟨x, hx⟩ : ∃ x, x = c.l.getD k 0 := ⟨_, rfl⟩
        rw [← hx] at hcell
        have HX := Lib.hid hx
        clear hx HC
        by_cases hok : okLn (k : Int) x = true
        · have HN : Hid (CvR c (k + 1)) := HR.out.next hlt _ HX.out hok
          have HOK := Lib.hid hok
          clear hok HR HX
          go_wp2_with (go_at_call 59; refine (lineFits_one k x _ hlt).mono ?_; rintro e w' ⟨rfl, rfl⟩; rw [HOK.out])
          go_round
          case rel => exact ⟨k + 1, by omega, by go_num, HN.out⟩
          case measure => simp [intOf]; omega
        · have hno : okLn (k : Int) x = false := by simpa using hok
          have HN : Hid (false = okCa c) := HR.out.bad hlt _ HX.out hno
          have HOK := Lib.hid hno
          clear hok hno HR HX
          go_wp2_with (go_at_call 59; refine (lineFits_one k x _ hlt).mono ?_; rintro e w' ⟨rfl, rfl⟩; rw [HOK.out])
          go_ret
          exact YN.of HN.out HBEL.out
      · have HY := Lib.hid (HR.out.end hlt)
        obtain rfl : k = 2 := by omega
        clear HR
        go_wp2
        go_ret
        exact YN.of HY.out HBEL.out
  · have hne : ((n : Int) != 2) = true := by simp; omega
    have HN : Hid (false = okL xs) := (okL_len (by omega)).symm
    unfold maxLen at hm
    clear hl hc
    go_enter Try.func21, Try.ntmps21
    go_wp2
    go_ret
    exact YN.of HN.out HBEL.out

end Go.Proofs.Yteoaecfjgbkefaa

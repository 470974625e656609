/- Both CacheValid: whatever list of numbers came in, the answer is whether it is the lines of a valid cache. -/
import Derived.Test.YteoaecfjgbkefaaCaP
import Derived.Test.YteoaecfjgbkefaaSlB
namespace Go.Proofs.Yteoaecfjgbkefaa
open Go.RowKit
set_option linter.unusedVariables false

/-- What is known of a number that a line contains. -/
theorem ln_cases (b : Int) : b < -2 ∨ 3 < b ∨ b = -2 ∨ b = -1 ∨ b = 0 ∨ b = 1 ∨ b = 2 ∨ b = 3 := by omega
theorem okLn_lo {b : Int} (i : Int) (h : b < -2) : okLn i b = false := decide_eq_false (by omega)
theorem okLn_hi {b : Int} (i : Int) (h : 3 < b) : okLn i b = false := decide_eq_false (by omega)

/-- How far a check has come. -/
def CvR (c : Ca) (k : Nat) : Prop := k = 0 ∨ (k = 1 ∧ okLn 0 c.c0 = true) ∨ (k = 2 ∧ okCa c = true)

/-- A line has been found fit, or not. -/
theorem CvR.next {c : Ca} {k : Nat} (h : CvR c k) (hk : k < 2) (b : Int) (hb : b = c.l.getD k 0) (ho : okLn (k : Int) b = true) : CvR c (k + 1) := by
  rcases h with rfl | ⟨rfl, h⟩ | ⟨rfl, _⟩
  · exact .inr (.inl ⟨rfl, by rw [hb] at ho; exact ho⟩)
  · exact .inr (.inr ⟨rfl, by unfold okCa; rw [h]; rw [hb] at ho; exact ho⟩)
  · omega
theorem CvR.bad {c : Ca} {k : Nat} (h : CvR c k) (hk : k < 2) (b : Int) (hb : b = c.l.getD k 0) (ho : okLn (k : Int) b = false) : false = okCa c := by
  rcases h with rfl | ⟨rfl, h⟩ | ⟨rfl, _⟩
  · have h1 : okLn 0 c.c0 = false := by rw [hb] at ho; exact ho
    unfold okCa; rw [h1]; rfl
  · have h1 : okLn 1 c.c1 = false := by rw [hb] at ho; exact ho
    unfold okCa; rw [h, h1]; rfl
  · omega
theorem CvR.end {c : Ca} {k : Nat} (h : CvR c k) (hk : ¬ k < 2) : true = okCa c := by
  rcases h with rfl | ⟨rfl, h⟩ | ⟨rfl, h⟩
  · omega
  · omega
  · exact h.symm

set_option maxHeartbeats 2000000 in
/-- **spec.CacheValid.** -/
theorem sCv_one (a : Option Addr) (n cap : Nat) (xs : List Int) (w : World) (h : SliceI w a n xs) :
    Calls Try.prog 22 #[.agg #[.slice a n cap]] w (YN (okL xs) w) := by
  obtain ⟨hm, hl, hc⟩ := h
  have HBEL : Hid (Below w.heap.size w (w.alloc (.cells #[.slice a n cap] 25))) := (Below.refl _ w).alloc (Nat.le_refl _) _
  by_cases hn : n = 2
  · subst hn
    obtain ⟨c, rfl⟩ := len_two hl
    have HC : Hid (∀ k, k < 2 → ∃ b o, a = some ⟨b, o, none⟩ ∧ (w.alloc (.cells #[.slice a 2 cap] 25)).cell? ⟨b, o + k, none⟩ = some (.int .i64 (c.l.getD k 0))) := fun k hk => by
      obtain ⟨b, o, ha, h1⟩ := hc k hk
      exact ⟨b, o, ha, (HBEL.out.cell (p := ⟨b, o + k, none⟩) (World.block_lt_of_cell? w _ h1)).trans h1⟩
    have hok : okL c.l = okCa c := rfl
    rw [hok]
    clear hm hl hc hok
    go_enter Try.func22, Try.ntmps22
    go_wp2
    go_loop [3] (fun i => ∃ k : Nat, k ≤ 2 ∧ i = .int .i64 k ∧ CvR c k) (fun i => 2 - (intOf i).toNat)
    case atStart => exact ⟨0, by omega, rfl, .inl rfl⟩
    case round =>
      obtain ⟨k, hk, rfl, hR⟩ := hrel
      have HR := Lib.hid hR
      clear hR
      by_cases hlt : k < 2
      · obtain ⟨b, o, rfl, hcell⟩ := HC.out k hlt
        obtain ⟨x, hx⟩ : ∃ x, x = c.l.getD k 0 := ⟨_, rfl⟩
        rw [← hx] at hcell
        have HX := Lib.hid hx
        clear hx HC
        have hk2 : k = 0 ∨ k = 1 := by omega
        rcases ln_cases x with h | h | h
        · have HN : Hid (false = okCa c) := HR.out.bad hlt x HX.out (okLn_lo _ h)
          go_wp2
          go_ret
          exact YN.of HN.out HBEL.out
        · have HN : Hid (false = okCa c) := HR.out.bad hlt x HX.out (okLn_hi _ h)
          go_wp2
          go_ret
          exact YN.of HN.out HBEL.out
        · have hpar : (okLn (k : Int) 0 = true ∧ okLn (k : Int) 1 = false ∧ okLn (k : Int) 2 = true ∧ okLn (k : Int) 3 = false ∧ ((0 : Int) != (k : Int)) = false ∧ ((1 : Int) != (k : Int)) = true) ∨ (okLn (k : Int) 0 = false ∧ okLn (k : Int) 1 = true ∧ okLn (k : Int) 2 = false ∧ okLn (k : Int) 3 = true ∧ ((0 : Int) != (k : Int)) = true ∧ ((1 : Int) != (k : Int)) = false) := by
            rcases hk2 with rfl | rfl
            · exact .inl ⟨rfl, rfl, rfl, rfl, rfl, rfl⟩
            · exact .inr ⟨rfl, rfl, rfl, rfl, rfl, rfl⟩
          have hm2 : okLn (k : Int) (-2) = true := by rcases hk2 with rfl | rfl <;> rfl
          have hm1 : okLn (k : Int) (-1) = true := by rcases hk2 with rfl | rfl <;> rfl
          clear hk2
          rcases hpar with ⟨p0, p1, p2, p3, q0, q1⟩ | ⟨p0, p1, p2, p3, q0, q1⟩
          all_goals
            have P0 := Lib.hid p0
            have P1 := Lib.hid p1
            have P2 := Lib.hid p2
            have P3 := Lib.hid p3
            have M1 := Lib.hid hm1
            have M2 := Lib.hid hm2
            clear p0 p1 p2 p3 hm1 hm2
            rcases h with rfl | rfl | rfl | rfl | rfl | rfl
            all_goals
              first
              | (have HN : Hid (CvR c (k + 1)) := HR.out.next hlt _ HX.out (by first | exact M2.out | exact M1.out | exact P0.out | exact P1.out | exact P2.out | exact P3.out)
                 clear HX HR P0 P1 P2 P3 M1 M2
                 go_wp2
                 go_round
                 case rel => exact ⟨k + 1, by omega, by go_num, HN.out⟩
                 case measure => simp [intOf]; omega)
              | (have HN : Hid (false = okCa c) := HR.out.bad hlt _ HX.out (by first | exact P0.out | exact P1.out | exact P2.out | exact P3.out)
                 clear HX HR P0 P1 P2 P3 M1 M2
                 go_wp2
                 go_ret
                 exact YN.of HN.out HBEL.out)
      · have HY := Lib.hid (HR.out.end hlt)
        obtain rfl : k = 2 := by omega
        clear HR
        go_wp2
        go_ret
        exact YN.of HY.out HBEL.out
  · have hne : ((n : Int) != 2) = true := by simp; omega
    have HN : Hid (false = okL xs) := (okL_len (by omega)).symm
    unfold maxLen at hm
    clear hl hc
    go_enter Try.func22, Try.ntmps22
    go_wp2
    go_ret
    exact YN.of HN.out HBEL.out

end Go.Proofs.Yteoaecfjgbkefaa

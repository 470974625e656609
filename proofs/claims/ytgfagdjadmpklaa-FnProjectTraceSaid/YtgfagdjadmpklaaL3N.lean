/- The model's run of a valid block, at every depth. -/
import Derived.Test.YtgfagdjadmpklaaL3R
namespace Go.Proofs.Ytgfagdjadmpklaa
open Go.RowKit
set_option linter.unusedVariables false

set_option maxRecDepth 100000 in
set_option maxHeartbeats 1000000 in
theorem l3Run_nil (nv na lo hi tb N : Nat) (va aa : Option Addr) (vc ac : Nat) (hlo : lo ≤ hi) (hhi : hi ≤ tb) (sa : Option Addr) (sc : Nat) (ta : Option Addr) (tc : Nat) (es : List (Int × Int)) (w : World) (hm : RM w lo hi nv na va aa) (ht : RowEv w tb (.slice ta es.length tc) es) (htb : tb ≤ w.heap.size) :
    Calls Try.prog 102 #[aggMm va aa nv na vc ac, .slice sa 0 sc, .slice ta es.length tc] w (RunR lo hi tb nv na va aa es (.slice ta es.length tc) N w) := by
  obtain ⟨W, hW⟩ : ∃ W, w.alloc (.cells #[.slice va nv vc, .slice aa na ac] 26) = W := ⟨_, rfl⟩
  have hB : Below w.heap.size w W := by rw [← hW]; exact (Below.refl _ w).alloc (Nat.le_refl _) _
  have HFIN : Hid (RunR lo hi tb nv na va aa es (.slice ta es.length tc) N w (.returned (.slice ta es.length tc)) W) :=
    ⟨ta, tc, es, rfl, ht.stand fun g _ hg' => hB.block g hg', by omega, hm.stand fun b _ hb => hB.block b (by omega), Below.trm hB (by omega) _⟩
  obtain ⟨tn, htn⟩ : ∃ tn, es.length = tn := ⟨_, rfl⟩
  have HW := Lib.hid hW
  rw [htn]
  have hfin := HFIN.out
  rw [htn] at hfin
  have HFIN2 := Lib.hid hfin
  clear hm ht htn hW hfin HFIN hB
  show Calls Try.prog 102 #[.agg #[.slice va nv vc, .slice aa na ac], .slice sa 0 sc, .slice ta tn tc] w (RunR lo hi tb nv na va aa es (.slice ta tn tc) N w)
  go_enter Try.func102, Try.ntmps102
  go_wp2_with fail
  rw [HW.out]
  go_loopw [2, 7] (fun tr i wr => tr = .slice ta tn tc ∧ i = .int .i64 0 ∧ wr = W) (fun _ i _ => 0 - (intOf i).toNat)
  case atStart => exact ⟨rfl, rfl, rfl⟩
  case round =>
    obtain ⟨rfl, rfl, rfl⟩ := hrel
    go_wp2_with fail
    go_ret
    exact HFIN2.out

theorem l3Run_one (nv na lo hi tb : Nat) (va aa : Option Addr) (vc ac : Nat) (hlo : lo ≤ hi) (hhi : hi ≤ tb) (hnv : nv ≤ 1048576) (hna : na ≤ 2) : ∀ (d : Nat) (n : Nat) (ss : List S) (sa : Option Addr) (sc : Nat) (D : Nat → Prop) (ta : Option Addr) (tc : Nat) (es : List (Int × Int)) (w : World), SsAt w D (IsS w D n) ss sa → ss.length ≤ sc → sc ≤ maxLen → (∀ k, D k → k < lo) → RM w lo hi nv na va aa → RowEv w tb (.slice ta es.length tc) es → tb ≤ w.heap.size → es.length + (1100 * 3 ^ d) * cntSs ss ≤ 2199023255552 → ss.all (stmtB nv na d) = true →
      Calls Try.prog 102 #[aggMm va aa nv na vc ac, .slice sa ss.length sc, .slice ta es.length tc] w (RunR lo hi tb nv na va aa es (.slice ta es.length tc) ((1100 * 3 ^ d) * cntSs ss) w)
  | d, n, [], sa, sc, D, ta, tc, es, w, h, h1, h2, hl, hm, ht, htb, hsz, hs => l3Run_nil nv na lo hi tb _ va aa vc ac hlo hhi sa sc ta tc es w hm ht htb
  | 0, n, x :: xs, sa, sc, D, ta, tc, es, w, h, h1, h2, hl, hm, ht, htb, hsz, hs => by simp [stmtB] at hs
  | d + 1, 0, x :: xs, sa, sc, D, ta, tc, es, w, h, h1, h2, hl, hm, ht, htb, hsz, hs => by
    obtain ⟨_, _, _, _, _, _, hF⟩ := h 0 x rfl
    exact hF.elim
  | d + 1, n + 1, x :: xs, sa, sc, D, ta, tc, es, w, h, h1, h2, hl, hm, ht, htb, hsz, hs => by
    have e : 1100 * 3 ^ (d + 1) = 3 * (1100 * 3 ^ d) := by rw [Nat.pow_succ]; omega
    rw [e] at hsz ⊢
    have hQ : 1100 ≤ 1100 * 3 ^ d := Nat.le_mul_of_pos_right _ (Nat.pow_pos (by omega))
    exact l3Run_succ nv na d lo hi tb (1100 * 3 ^ d) va aa vc ac hQ hlo hhi hnv hna (l3Run_one nv na lo hi tb va aa vc ac hlo hhi hnv hna d) n (x :: xs) sa sc D ta tc es w h h1 h2 hl hm ht htb hsz hs

end Go.Proofs.Ytgfagdjadmpklaa

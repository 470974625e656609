/- spec.l9Own and spec.l9Below, walked: the result of an instruction with its row; whether a row has all that another one has. -/
import Derived.Test.YtbifbmpflhdijaaDoorTnA
namespace Go.Proofs.YtbifbmpflhdijaaDoor
open Go.RowKit
set_option linter.unusedVariables false

/-- A number; nothing that was there has changed. -/
def NumB (z : Int) (w : World) (e : Ending) (w' : World) : Prop := e = .returned (.int .i64 z) ∧ Below w.heap.size w w'
theorem NumB.of {y z : Int} (h : y = z) {w w' : World} (hb : Below w.heap.size w w') : NumB z w (.returned (.int .i64 y)) w' := ⟨by rw [h], hb⟩
theorem regs_at {w : World} {D : Nat → Prop} {mk : Nat} {ra : Option Addr} (h : BAt w D (rowB mk) ra) (h0 : mk ≠ 0) : ∃ b o, ra = some ⟨b, o, none⟩ ∧ ∀ r, r < 14 → w.cell? ⟨b, o + r, none⟩ = some (.bool (mk.testBit r)) := by
  obtain ⟨b, o, e, _, _⟩ := h.2 0 _ (rowB_at h0 (by omega))
  refine ⟨b, o, e, fun r hr => ?_⟩
  obtain ⟨b', o', e', _, hc⟩ := h.2 r _ (rowB_at h0 hr)
  rw [e] at e'
  cases e'
  exact hc

/-- Of the first k registers, those of a are among m's. -/
def SubTo (a m k : Nat) : Prop := ∀ r, r < k → a.testBit r = true → m.testBit r = true
theorem SubTo.succ {a m k : Nat} (h : SubTo a m k) (e : a.testBit k = true → m.testBit k = true) : SubTo a m (k + 1) := fun r hr => by
  by_cases hk : r = k
  · subst hk; exact e
  · exact h r (by omega)
theorem SubTo.all {a m : Nat} (h : SubTo a m 14) (ha : a < 32768) (h14 : m.testBit 14 = true) : Sub a m := fun b hb => by
  by_cases h1 : b < 14
  · exact h b h1 hb
  · by_cases h2 : b = 14
    · rw [h2]; exact h14
    · rw [bit_lt ha (by omega)] at hb; cases hb

set_option maxRecDepth 100000 in
set_option maxHeartbeats 4000000 in
/-- **spec.l9Below.** -/
theorem sBel_one (a mk : Nat) (ta ra : Option Addr) (tc n rc : Nat) (w : World) {D D' : Nat → Prop} (ht : BAt w D (rowB a) ta) (hr : BAt w D' (rowB mk) ra) (ha : a < 32768) (ha0 : a.testBit 14 = true) (hg : Gm mk) (hn : (rowB mk).length = n) :
    Calls Tryd.prog 59 #[.slice ta 14 tc, .slice ra n rc] w (fun e w' => ∃ b, e = .returned (.bool b) ∧ (b = true ↔ Sub a mk) ∧ w' = w) := by
  obtain ⟨tb, tO, rfl, hta⟩ := regs_at ht (bit_ne ha0)
  have HT := Lib.hid hta
  have HA := Lib.hid ha
  have HA0 := Lib.hid ha0
  have HG := Lib.hid hg
  by_cases h0 : mk = 0
  · have hn0 : n = 0 := by rw [← hn, h0]; rfl
    have HF : Hid (¬ Sub a mk) := fun h => by
      have := h 14 ha0
      rw [h0, Nat.zero_testBit] at this
      cases this
    subst hn0
    clear ht hr hta ha ha0 hg hn h0 HT
    go_enter Tryd.func59, Tryd.ntmps59
    go_wp2_with fail
    go_ret
    exact ⟨false, rfl, ⟨fun e => (by cases e), fun e => absurd e HF.out⟩, rfl⟩
  · have hn14 : n = 14 := by rw [← hn, rowB_len h0]
    subst hn14
    obtain ⟨rb, ro, rfl, hra⟩ := regs_at hr h0
    have HR := Lib.hid hra
    have H0 := Lib.hid h0
    clear ht hr hta ha ha0 hg hn h0 hra
    go_enter Tryd.func59, Tryd.ntmps59
    go_wp2_with fail
    go_loopw [5] (fun i wr => ∃ j : Nat, j ≤ 14 ∧ i = .int .i64 j ∧ Hid (SubTo a mk j) ∧ wr = w) (fun i _ => 14 - (intOf i).toNat)
    case atStart => exact ⟨0, Nat.zero_le _, rfl, (fun r hr => absurd hr (Nat.not_lt_zero _) : SubTo a mk 0), rfl⟩
    case round =>
      obtain ⟨j, hj, rfl, HS, rfl⟩ := hrel
      by_cases hlt : j < 14
      · have y0 := HT.out j hlt
        have y1 := HR.out j hlt
        have hjI : (j : Int) < 14 := by omega
        obtain ⟨p, hp⟩ : ∃ p, a.testBit j = p := ⟨_, rfl⟩
        obtain ⟨q, hq⟩ : ∃ q, mk.testBit j = q := ⟨_, rfl⟩
        rw [hp] at y0
        rw [hq] at y1
        have HP := Lib.hid hp
        have HQ := Lib.hid hq
        clear hp hq HT HR
        cases p
        case false =>
          have HS2 : Hid (SubTo a mk (j + 1)) := HS.out.succ fun e => by rw [HP.out] at e; cases e
          clear HS
          go_wp2_with fail
          go_roundw
          case rel => exact ⟨j + 1, by omega, by go_num, HS2, by first | rfl | trivial⟩
          case measure => simp [intOf]; omega
        case true =>
          cases q
          case false =>
            have HF : Hid (¬ Sub a mk) := fun h => by
              have := h j HP.out
              rw [HQ.out] at this
              cases this
            clear HS
            go_wp2_with fail
            go_ret
            exact ⟨false, rfl, ⟨fun e => (by cases e), fun e => absurd e HF.out⟩, rfl⟩
          case true =>
            have HS2 : Hid (SubTo a mk (j + 1)) := HS.out.succ fun _ => HQ.out
            clear HS
            go_wp2_with fail
            go_roundw
            case rel => exact ⟨j + 1, by omega, by go_num, HS2, by first | rfl | trivial⟩
            case measure => simp [intOf]; omega
      · obtain rfl : j = 14 := by omega
        have HF : Hid (Sub a mk) := HS.out.all HA.out (HG.out.pos H0.out)
        clear HS HT HR
        go_wp2_with fail
        go_ret
        exact ⟨true, rfl, ⟨fun _ => HF.out, fun _ => rfl⟩, rfl⟩

end Go.Proofs.YtbifbmpflhdijaaDoor

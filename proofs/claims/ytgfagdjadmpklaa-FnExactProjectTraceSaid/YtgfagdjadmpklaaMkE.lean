/- The marking and holding helpers of the exact laws on lists of events. -/
import Derived.Test.YtgfagdjadmpklaaPjP
namespace Go.Proofs.Ytgfagdjadmpklaa
open Go.RowKit
set_option linter.unusedVariables false

/-- Behind markEventS: the row holds k, k + 1, ..; nothing else has changed. -/
def WroteE (w : World) (base n cap : Nat) (a : Option Addr) (k : Int) (f : Ending) (w' : World) : Prop := f = .returned (.int .i64 (k + 2 * (n : Int))) ∧ RowEv w' base (.slice a n cap) (mks k n) ∧ w'.heap.size = w.heap.size ∧ Below base w w' ∧ ∀ j, (Value.slice a n cap).ownBlock ≠ some j → w'.heap[j]? = w.heap[j]?

/-- The state of the marking loop. -/
def MkL (w : World) (base n cap : Nat) (a : Option Addr) (k0 : Int) (c i : Value) (wr : World) : Prop := ∃ (k : Nat) (ps : List (Int × Int)), k ≤ n ∧ i = .int .i64 k ∧ c = .int .i64 (k0 + 2 * (k : Int)) ∧ RowEv wr base (.slice a n cap) ps ∧ ps.length = n ∧ (∀ i : Nat, i < k → ps[i]? = some (k0 + 2 * (i : Int), k0 + 2 * (i : Int) + 1)) ∧ wr.heap.size = w.heap.size ∧ Below base w wr ∧ ∀ j, (Value.slice a n cap).ownBlock ≠ some j → wr.heap[j]? = w.heap[j]?

set_option maxHeartbeats 2000000 in
theorem markEvS_one (base n cap : Nat) (a : Option Addr) (k0 : Int) (ps : List (Int × Int)) (w : World) (h : RowEv w base (.slice a n cap) ps) (hn : n ≤ 1048576) (h0 : 0 ≤ k0) (h1 : k0 ≤ 1000000000) :
    Calls Try.prog 44 #[.slice a n cap, .int .i64 k0] w (WroteE w base n cap a k0) := by
  have HL : Hid (MkL w base n cap a k0 (.int .i64 k0) (.int .i64 0) w) := ⟨0, ps, Nat.zero_le _, rfl, by simp, h, h.row, fun i hi => absurd hi (Nat.not_lt_zero _), rfl, Below.refl _ _, fun _ _ => rfl⟩
  clear h
  go_enter Try.func44, Try.ntmps44
  go_wp2_with fail
  go_loopw [1, 5] (fun c i wr => MkL w base n cap a k0 c i wr) (fun _ i _ => n - (intOf i).toNat)
  case atStart => exact HL.out
  case round =>
    obtain ⟨k, ps', hk, rfl, rfl, hrow, hlen, hdone, hsz, hbel, hst⟩ := hrel
    have HROW := Lib.hid hrow
    have HLEN := Lib.hid hlen
    have HD := Lib.hid hdone
    have HSZ := Lib.hid hsz
    have HBEL := Lib.hid hbel
    have HST := Lib.hid hst
    clear hrow hlen hdone hsz hbel hst HL
    by_cases hlt : k < n
    · obtain ⟨g, cur, rfl, hg, hblk, hcs, hnc, hcm⟩ := HROW.out.ptr (by omega)
      obtain ⟨⟨x0, x1⟩, hx⟩ : ∃ x, ps'[k]? = some x := ⟨ps'[k]'(by rw [HLEN.out]; exact hlt), List.getElem?_eq_getElem _⟩
      obtain ⟨⟨u0, u1, hu0, hu1⟩, hf0, hf1⟩ := ev_cells2 (o := k * 2) hblk (by rw [hcs]; omega)
      have hr1 := HROW.out.setK HLEN.out hx (k0 + 2 * (k : Int))
      have hx1 : (ps'.set k (k0 + 2 * (k : Int), x1))[k]? = some (k0 + 2 * (k : Int), x1) := List.getElem?_set_self (by rw [HLEN.out]; exact hlt)
      have hr2 := hr1.setV (by rw [List.length_set]; exact HLEN.out) hx1 (k0 + 2 * (k : Int) + 1)
      have HREL : Hid (MkL w base n cap (some ⟨g, 0, none⟩) k0 (.int .i64 (k0 + 2 * (k : Int) + 1 + 1)) (.int .i64 ((k : Int) + 1)) ((wr.setCell ⟨g, k * 2, none⟩ (.int .i64 (k0 + 2 * (k : Int)))).setCell ⟨g, k * 2 + 1, none⟩ (.int .i64 (k0 + 2 * (k : Int) + 1)))) := by
        refine ⟨k + 1, _, by omega, by go_num, by go_num, hr2, by rw [List.length_set, List.length_set]; exact HLEN.out, ?_, by simpa [World.setCell] using HSZ.out, (HBEL.out.setCell (p := ⟨g, k * 2, none⟩) hg _).setCell (p := ⟨g, k * 2 + 1, none⟩) hg _, fun j hj => ?_⟩
        · intro i hi
          by_cases hik : i = k
          · subst hik
            rw [List.getElem?_set_self (by rw [List.length_set, HLEN.out]; exact hlt)]
          · rw [List.getElem?_set_ne (by omega), List.getElem?_set_ne (by omega)]
            exact HD.out i (by omega)
        · have hjg : j ≠ g := fun e => hj (by rw [e]; rfl)
          rw [Below.heap_setCell _ _ _ _ (by simpa using hjg), Below.heap_setCell _ _ _ _ (by simpa using hjg)]
          exact HST.out j hj
      clear HROW hblk hr1 hr2 hx hx1 HBEL HST HD HSZ
      go_wp2_with fail
      go_roundw
      case rel => exact HREL.out
      case measure => simp [intOf]; omega
    · obtain rfl : k = n := by omega
      have HFIN : Hid (WroteE w base k cap a k0 (.returned (.int .i64 (k0 + 2 * (k : Int)))) wr) := ⟨rfl, by rw [← mks_all HLEN.out HD.out]; exact HROW.out, HSZ.out, HBEL.out, HST.out⟩
      clear HROW HD
      go_wp2_with fail
      go_ret
      exact HFIN.out

theorem Below.of_drewN (w : World) (k : Nat) : Below w.heap.size w (w.drewN k) := ⟨rfl, rfl, rfl, Nat.le_refl _, fun _ _ => rfl⟩
/-- heldEventS: the list holds k, k + 1, .. -/
def HeldE (n : Nat) (k : Int) (w : World) (f : Ending) (w' : World) : Prop := f = .returned (.int .i64 (k + 2 * (n : Int))) ∧ Below w.heap.size w w'

set_option maxHeartbeats 2000000 in
theorem heldEvS_one (n cap : Nat) (a : Option Addr) (k0 : Int) (w : World) (h : EvL w (evs (mks k0 n)) a cap) (hn : n ≤ 1048576) (h0 : 0 ≤ k0) (h1 : k0 ≤ 1000000000) :
    Calls Try.prog 45 #[.slice a n cap, .int .i64 k0] w (HeldE n k0 w) := by
  have HC : Hid (∀ k, k < n → ∃ b o, a = some ⟨b, o, none⟩ ∧ w.cell? ⟨b, o + k * 2, none⟩ = some (.int .i64 (k0 + 2 * (k : Int))) ∧ w.cell? ⟨b, o + k * 2 + 1, none⟩ = some (.int .i64 (k0 + 2 * (k : Int) + 1))) := fun k hk => by
    have e : (evs (mks k0 n))[k]? = some ⟨k0 + 2 * (k : Int), k0 + 2 * (k : Int) + 1⟩ := by
      unfold evs
      rw [List.getElem?_map, mks_at k0 hk]; rfl
    obtain ⟨b, o, ha, _, c0, c1⟩ := h.2.2 k _ e
    exact ⟨b, o, ha, c0, c1⟩
  clear h
  go_enter Try.func45, Try.ntmps45
  go_wp2
  go_loopw [1, 5] (fun c i wr => ∃ k m : Nat, k ≤ n ∧ i = .int .i64 k ∧ c = .int .i64 (k0 + 2 * (k : Int)) ∧ wr = w.drewN m) (fun _ i _ => n - (intOf i).toNat)
  case atStart => exact ⟨0, 0, Nat.zero_le _, rfl, by simp, rfl⟩
  case round =>
    obtain ⟨k, m, hk, rfl, rfl, rfl⟩ := hrel
    by_cases hlt : k < n
    · obtain ⟨b, o, rfl, c0, c1⟩ := HC.out k hlt
      clear HC
      go_wp2
      go_roundw
      case rel => exact ⟨k + 1, m, by omega, by go_num, by go_num, rfl⟩
      case measure => simp [intOf]; omega
    · obtain rfl : k = n := by omega
      go_wp2
      go_ret
      exact ⟨rfl, Below.of_drewN w _⟩

end Go.Proofs.Ytgfagdjadmpklaa

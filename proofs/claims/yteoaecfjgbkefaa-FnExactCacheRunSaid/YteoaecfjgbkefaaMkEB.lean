/- The marking helper of the exact laws on lists of events (split off MkE). -/
import Derived.Test.YteoaecfjgbkefaaPjP
namespace Go.Proofs.Yteoaecfjgbkefaa
open Go.RowKit
set_option linter.unusedVariables false

/-- Behind markEventS: the row holds k, k + 1, ..; nothing else has changed. -/
def WroteE (w : World) (base n cap : Nat) (a : Option Addr) (k : Int) (f : Ending) (w' : World) : Prop := f = .returned (.int .i64 (k + 2 * (n : Int))) ∧ RowEv w' base (.slice a n cap) (mks k n) ∧ w'.heap.size = w.heap.size ∧ Below base w w' ∧ ∀ j, (Value.slice a n cap).ownBlock ≠ some j → w'.heap[j]? = w.heap[j]?

/-- The state of the marking loop. -/
def MkL (w : World) (base n cap : Nat) (a : Option Addr) (k0 : Int) (c i : Value) (wr : World) : Prop := ∃ (k : Nat) (ps : List (Int × Int)), k ≤ n ∧ i = .int .i64 k ∧ c = .int .i64 (k0 + 2 * (k : Int)) ∧ RowEv wr base (.slice a n cap) ps ∧ ps.length = n ∧ (∀ i : Nat, i < k → ps[i]? = some (k0 + 2 * (i : Int), k0 + 2 * (i : Int) + 1)) ∧ wr.heap.size = w.heap.size ∧ Below base w wr ∧ ∀ j, (Value.slice a n cap).ownBlock ≠ some j → wr.heap[j]? = w.heap[j]?

set_option maxHeartbeats 2000000 in
theorem markEvS_one (base n cap : Nat) (a : Option Addr) (k0 : Int) (ps : List (Int × Int)) (w : World) (h : RowEv w base (.slice a n cap) ps) (hn : n ≤ 1048576) (h0 : 0 ≤ k0) (h1 : k0 ≤ 1000000000) :
    Calls Try.prog 46 #[.slice a n cap, .int .i64 k0] w (WroteE w base n cap a k0) := by
  have HL : Hid (MkL w base n cap a k0 (.int .i64 k0) (.int .i64 0) w) := ⟨0, ps, Nat.zero_le _, rfl, by simp, h, h.row, fun i hi => absurd hi (Nat.not_lt_zero _), rfl, Below.refl _ _, fun _ _ => rfl⟩
  clear h
  go_enter Try.func46, Try.ntmps46
  go_wp2_with fail
  go_loopw [1, 5] (fun c i wr => MkL w base n cap a k0 c i wr) (fun _ i _ => n - (intOf i).toNat)
  case atStart => exact HL.out
  case round =>
    obtain ⟨k, ps', hk, rfl, rfl, hrow, hlen, hdone, hsz, hbel, hst⟩ := hrel
    have HROW := Lib.hid hrow
    have HLEN := Lib.hid hlen
    have HD := Lib.hid hdone
    have HSZ := Lib.hid hsz
    have HBEL := Lib.hid hbel
    have HST := Lib.hid hst
    clear hrow hlen hdone hsz hbel hst HL
    by_cases hlt : k < n
    · obtain ⟨g, cur, rfl, hg, hblk, hcs, hnc, hcm⟩ := HROW.out.ptr (by omega)
      obtain ⟨⟨x0, x1⟩, hx⟩ : ∃ x, ps'[k]? = some x := ⟨ps'[k]'(by rw [HLEN.out]; exact hlt), List.getElem?_eq_getElem _⟩
      obtain ⟨⟨u0, u1, hu0, hu1⟩, hf0, hf1⟩ := ev_cells2 (o := k * 2) hblk (by rw [hcs]; omega)
      have hr1 := HROW.out.setK HLEN.out hx (k0 + 2 * (k : Int))
      have hx1 : (ps'.set k (k0 + 2 * (k : Int), x1))[k]? = some (k0 + 2 * (k : Int), x1) := List.getElem?_set_self (by rw [HLEN.out]; exact hlt)
      have hr2 := hr1.setV (by rw [List.length_set]; exact HLEN.out) hx1 (k0 + 2 * (k : Int) + 1)
      have HREL : Hid (MkL w base n cap (some ⟨g, 0, none⟩) k0 (.int .i64 (k0 + 2 * (k : Int) + 1 + 1)) (.int .i64 ((k : Int) + 1)) ((wr.setCell ⟨g, k * 2, none⟩ (.int .i64 (k0 + 2 * (k : Int)))).setCell ⟨g, k * 2 + 1, none⟩ (.int .i64 (k0 + 2 * (k : Int) + 1)))) := by
        refine ⟨k + 1, _, by omega, by go_num, by go_num, hr2, by rw [List.length_set, List.length_set]; exact HLEN.out, ?_, by simpa [World.setCell] using HSZ.out, (HBEL.out.setCell (p := ⟨g, k * 2, none⟩) hg _).setCell (p := ⟨g, k * 2 + 1, none⟩) hg _, fun j hj => ?_⟩
        · intro i hi
          by_cases hik : i = k
          · subst hik
            rw [List.getElem?_set_self (by rw [List.length_set, HLEN.out]; exact hlt)]
          · rw [List.getElem?_set_ne (by omega), List.getElem?_set_ne (by omega)]
            exact HD.out i (by omega)
        · have hjg : j ≠ g := fun e => hj (by rw [e]; rfl)
          rw [Below.heap_setCell _ _ _ _ (by simpa using hjg), Below.heap_setCell _ _ _ _ (by simpa using hjg)]
          exact HST.out j hj
      clear HROW hblk hr1 hr2 hx hx1 HBEL HST HD HSZ
      go_wp2_with fail
      go_roundw
      case rel => exact HREL.out
      case measure => simp [intOf]; omega
    · obtain rfl : k = n := by omega
      have HFIN : Hid (WroteE w base k cap a k0 (.returned (.int .i64 (k0 + 2 * (k : Int)))) wr) := ⟨rfl, by rw [← mks_all HLEN.out HD.out]; exact HROW.out, HSZ.out, HBEL.out, HST.out⟩
      clear HROW HD
      go_wp2_with fail
      go_ret
      exact HFIN.out

end Go.Proofs.Yteoaecfjgbkefaa

/- The exact laws' helpers on lists of bools: eqBoolS, markBoolS, heldBoolS. -/
import Derived.Test.YtbifbmpflhdijaaDoorBlSB
namespace Go.Proofs.YtbifbmpflhdijaaDoor
open Go.RowKit
set_option linter.unusedVariables false

set_option maxHeartbeats 2000000 in
/-- **eqBoolS.** -/
theorem eqBS_one (bs cs : List Bool) (a a' : Option Addr) (n n' cap cap' : Nat) (w : World) {D D' : Nat → Prop} (h : BAt w D bs a) (h' : BAt w D' cs a') (hn : bs.length = n) (hn' : cs.length = n') :
    Calls Tryd.prog 55 #[.slice a n cap, .slice a' n' cap'] w (YN (decide (bs = cs)) w) := by
  have hm := h.1
  have hm' := h'.1
  unfold maxLen at hm hm'
  have HC : Hid (∀ k, k < n → ∃ x b o, bs[k]? = some x ∧ a = some ⟨b, o, none⟩ ∧ w.cell? ⟨b, o + k, none⟩ = some (.bool x)) := fun k hk => by
    have hx : bs[k]? = some (bs[k]'(by omega)) := List.getElem?_eq_getElem _
    obtain ⟨b, o, ha, _, hc⟩ := h.2 k _ hx
    exact ⟨_, b, o, hx, ha, hc⟩
  have HC' : Hid (∀ k, k < n' → ∃ x b o, cs[k]? = some x ∧ a' = some ⟨b, o, none⟩ ∧ w.cell? ⟨b, o + k, none⟩ = some (.bool x)) := fun k hk => by
    have hx : cs[k]? = some (cs[k]'(by omega)) := List.getElem?_eq_getElem _
    obtain ⟨b, o, ha, _, hc⟩ := h'.2 k _ hx
    exact ⟨_, b, o, hx, ha, hc⟩
  have HN := Lib.hid hn
  have HN' := Lib.hid hn'
  rw [hn] at hm
  rw [hn'] at hm'
  clear h h' hn hn'
  by_cases hne : n = n'
  · subst hne
    go_enter Tryd.func55, Tryd.ntmps55
    go_wp2
    go_loopw [5] (fun i wr => ∃ k m : Nat, k ≤ n ∧ i = .int .i64 k ∧ SameUp bs cs k ∧ wr = w.drewN m) (fun i _ => n - (intOf i).toNat)
    case atStart => exact ⟨0, 0, Nat.zero_le _, rfl, fun j hj => absurd hj (Nat.not_lt_zero _), rfl⟩
    case round =>
      obtain ⟨k, m, hk, rfl, heq, rfl⟩ := hrel
      have HE := Lib.hid heq
      clear heq
      by_cases hlt : k < n
      · obtain ⟨x, b, o, hx, rfl, hc⟩ := HC.out k hlt
        obtain ⟨y, b', o', hy, rfl, hc'⟩ := HC'.out k hlt
        have HX := Lib.hid hx
        have HY := Lib.hid hy
        clear hx hy HC HC'
        by_cases hxy : x = y
        · subst hxy
          have HE2 : Hid (SameUp bs cs (k + 1)) := HE.out.succ (HX.out.trans HY.out.symm)
          have hne : (x != x) = false := by simp
          go_wp2
          go_quiet (fail)
          go_wp2
          go_roundw
          case rel => exact ⟨k + 1, _, by omega, by go_num, HE2.out, rfl⟩
          case measure => simp [intOf]; omega
        · have hne : (x == y) = false := by simpa using hxy
          have HNO : Hid (false = decide (bs = cs)) := (decide_eq_false fun e => hxy (by have h1 := HX.out; rw [e, HY.out] at h1; cases h1; rfl)).symm
          clear hxy
          go_wp2
          go_quiet (fail)
          go_wp2
          go_ret
          exact YN.of HNO.out ⟨rfl, rfl, rfl, Nat.le_refl _, fun _ _ => rfl⟩
      · obtain rfl : k = n := by omega
        have HY : Hid (true = decide (bs = cs)) := (decide_eq_true (HE.out.all HN.out HN'.out)).symm
        clear HC HC'
        go_wp2
        go_ret
        exact YN.of HY.out ⟨rfl, rfl, rfl, Nat.le_refl _, fun _ _ => rfl⟩
  · have hne' : ((n : Int) != (n' : Int)) = true := by simp; omega
    have HNO : Hid (false = decide (bs = cs)) := (decide_eq_false fun e => hne (by rw [← HN.out, ← HN'.out, e])).symm
    clear HC HC'
    go_enter Tryd.func55, Tryd.ntmps55
    go_wp2
    go_ret
    exact YN.of HNO.out (Below.refl _ _)

/-- The marks from k on. -/
def mkBl (k : Int) (n : Nat) : List Bool := (List.range n).map fun (i : Nat) => (k + (i : Int)) % 3 == 0
theorem mkBl_len (k : Int) (n : Nat) : (mkBl k n).length = n := by simp [mkBl]
theorem mkBl_at (k : Int) {n i : Nat} (h : i < n) : (mkBl k n)[i]? = some ((k + (i : Int)) % 3 == 0) := by
  unfold mkBl
  rw [List.getElem?_map, List.getElem?_range h]; rfl
theorem mkBl_all {k : Int} {n : Nat} {ps : List Bool} (hl : ps.length = n) (h : ∀ i : Nat, i < n → ps[i]? = some ((k + (i : Int)) % 3 == 0)) : ps = mkBl k n := by
  apply List.ext_getElem?
  intro i
  by_cases hi : i < n
  · rw [h i hi, mkBl_at k hi]
  · rw [List.getElem?_eq_none (by omega), List.getElem?_eq_none (by rw [mkBl_len]; omega)]
/-- Behind markBoolS: the row holds the marks; nothing else has changed. -/
def WroteB (w : World) (base n cap : Nat) (a : Option Addr) (k : Int) (f : Ending) (w' : World) : Prop := f = .returned (.int .i64 (k + (n : Int))) ∧ OwnB w' base (.slice a n cap) (mkBl k n) ∧ w'.heap.size = w.heap.size ∧ Below base w w' ∧ ∀ j, (Value.slice a n cap).ownBlock ≠ some j → w'.heap[j]? = w.heap[j]?
/-- The state of the marking loop. -/
def MkBL (w : World) (base n cap : Nat) (a : Option Addr) (k0 : Int) (c i : Value) (wr : World) : Prop := ∃ (k : Nat) (ps : List Bool), k ≤ n ∧ i = .int .i64 k ∧ c = .int .i64 (k0 + (k : Int)) ∧ OwnB wr base (.slice a n cap) ps ∧ ps.length = n ∧ (∀ i : Nat, i < k → ps[i]? = some ((k0 + (i : Int)) % 3 == 0)) ∧ wr.heap.size = w.heap.size ∧ Below base w wr ∧ ∀ j, (Value.slice a n cap).ownBlock ≠ some j → wr.heap[j]? = w.heap[j]?

set_option maxRecDepth 100000 in
set_option maxHeartbeats 2000000 in
theorem markBS_one (base n cap : Nat) (a : Option Addr) (k0 : Int) (ps : List Bool) (w : World) (h : OwnB w base (.slice a n cap) ps) (hpl : ps.length = n) (hn : n ≤ 1048576) (h0 : 0 ≤ k0) (h1 : k0 ≤ 1000000000) :
    Calls Tryd.prog 56 #[.slice a n cap, .int .i64 k0] w (WroteB w base n cap a k0) := by
  have HL : Hid (MkBL w base n cap a k0 (.int .i64 k0) (.int .i64 0) w) := ⟨0, ps, Nat.zero_le _, rfl, by simp, h, hpl, fun i hi => absurd hi (Nat.not_lt_zero _), rfl, Below.refl _ _, fun _ _ => rfl⟩
  clear h hpl
  go_enter Tryd.func56, Tryd.ntmps56
  go_wp2_with fail
  go_loopw [1, 5] (fun c i wr => MkBL w base n cap a k0 c i wr) (fun _ i _ => n - (intOf i).toNat)
  case atStart => exact HL.out
  case round =>
    obtain ⟨k, ps', hk, rfl, rfl, hrow, hlen, hdone, hsz, hbel, hst⟩ := hrel
    have HROW := Lib.hid hrow
    have HLEN := Lib.hid hlen
    have HD := Lib.hid hdone
    have HSZ := Lib.hid hsz
    have HBEL := Lib.hid hbel
    have HST := Lib.hid hst
    clear hrow hlen hdone hsz hbel hst HL
    by_cases hlt : k < n
    · have hro : wr.ownsRow base 4 1 (.slice a n cap) n (ps'.map Value.bool) := by have h1 := HROW.out; unfold OwnB at h1; rw [HLEN.out] at h1; exact h1
      obtain ⟨g, rfl, hg, cur, hblk, hcs⟩ : ∃ g, a = some ⟨g, 0, none⟩ ∧ base ≤ g ∧ ∃ cur, wr.heap[g]? = some (.cells cur 4 (0, 0)) ∧ n ≤ cur.size := by
        rcases hro.2 with ⟨e, e2⟩ | ⟨g, cap', cur, e, hb, hg, hn', hm, hc, ht⟩
        · cases e; omega
        · injection e with e1 e2 e3
          exact ⟨g, e1, hb, cur, hg, by omega⟩
      obtain ⟨u0, hu0⟩ := cell_ex hblk k (by omega)
      have f0 := frozen_at hblk k
      have hr6 := (hro.stored k (.bool ((k0 + (k : Int)) % 3 == 0))).1
      have HREL : Hid (MkBL w base n cap (some ⟨g, 0, none⟩) k0 (.int .i64 (k0 + (k : Int) + 1)) (.int .i64 ((k : Int) + 1)) (wr.setCell ⟨g, k, none⟩ (.bool ((k0 + (k : Int)) % 3 == 0)))) := by
        have hl6 : (ps'.set k ((k0 + (k : Int)) % 3 == 0)).length = n := by rw [List.length_set]; exact HLEN.out
        refine ⟨k + 1, _, hlt, by go_num, by go_num, ?_, hl6, ?_, by simpa [World.setCell] using HSZ.out, HBEL.out.setCell (p := ⟨g, k, none⟩) hg _, fun j hj => ?_⟩
        · unfold OwnB
          rw [hl6, List.map_set]
          exact hr6
        · intro i hi
          by_cases hik : i = k
          · subst hik
            rw [List.getElem?_set_self (by rw [HLEN.out]; exact hlt)]
          · rw [List.getElem?_set_ne (by omega)]
            exact HD.out i (by omega)
        · have hjg : j ≠ g := fun e => hj (by rw [e]; rfl)
          rw [Below.heap_setCell _ _ _ _ (by simpa using hjg)]
          exact HST.out j hj
      clear HROW hro hblk hr6 HBEL HST HD HSZ
      go_wp2_with fail
      go_roundw
      case rel => exact HREL.out
      case measure => simp [intOf]; omega
    · obtain rfl : k = n := by omega
      have HFIN : Hid (WroteB w base k cap a k0 (.returned (.int .i64 (k0 + (k : Int)))) wr) := ⟨rfl, by rw [← mkBl_all HLEN.out HD.out]; exact HROW.out, HSZ.out, HBEL.out, HST.out⟩
      clear HROW HD
      go_wp2_with fail
      go_ret
      exact HFIN.out

/-- heldBoolS: the list holds the marks. -/
def HeldB (n : Nat) (k : Int) (w : World) (f : Ending) (w' : World) : Prop := f = .returned (.int .i64 (k + (n : Int))) ∧ Below w.heap.size w w'

set_option maxHeartbeats 2000000 in
theorem heldBS_one (n cap : Nat) (a : Option Addr) (k0 : Int) (w : World) {D : Nat → Prop} (h : BAt w D (mkBl k0 n) a) (hn : n ≤ 1048576) (h0 : 0 ≤ k0) (h1 : k0 ≤ 1000000000) :
    Calls Tryd.prog 57 #[.slice a n cap, .int .i64 k0] w (HeldB n k0 w) := by
  have HC : Hid (∀ k, k < n → ∃ b o, a = some ⟨b, o, none⟩ ∧ w.cell? ⟨b, o + k, none⟩ = some (.bool ((k0 + (k : Int)) % 3 == 0))) := fun k hk => by
    obtain ⟨b, o, ha, _, c0⟩ := h.2 k _ (mkBl_at k0 hk)
    exact ⟨b, o, ha, c0⟩
  clear h
  go_enter Tryd.func57, Tryd.ntmps57
  go_wp2
  go_loopw [1, 5] (fun c i wr => ∃ k m : Nat, k ≤ n ∧ i = .int .i64 k ∧ c = .int .i64 (k0 + (k : Int)) ∧ wr = w.drewN m) (fun _ i _ => n - (intOf i).toNat)
  case atStart => exact ⟨0, 0, Nat.zero_le _, rfl, by simp, rfl⟩
  case round =>
    obtain ⟨k, m, hk, rfl, rfl, rfl⟩ := hrel
    by_cases hlt : k < n
    · obtain ⟨b, o, rfl, c0⟩ := HC.out k hlt
      clear HC
      go_wp2
      go_roundw
      case rel => exact ⟨k + 1, m, by omega, by go_num, by go_num, rfl⟩
      case measure => simp [intOf]; omega
    · obtain rfl : k = n := by omega
      go_wp2
      go_ret
      exact ⟨rfl, ⟨rfl, rfl, rfl, Nat.le_refl _, fun _ _ => rfl⟩⟩

end Go.Proofs.YtbifbmpflhdijaaDoor

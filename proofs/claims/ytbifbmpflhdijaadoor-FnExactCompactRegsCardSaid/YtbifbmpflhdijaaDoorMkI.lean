/- The marking and holding helpers of the exact laws on lists of instructions. -/
import Derived.Test.YtbifbmpflhdijaaDoorFlN
import Derived.Test.YtbifbmpflhdijaaDoorPut
namespace Go.Proofs.YtbifbmpflhdijaaDoor
open Go.RowKit
set_option linter.unusedVariables false

theorem flatN_set : ∀ (ys : List Ins) (i : Nat) (y : Ins), i < ys.length → (((((flatN ys).set (i * 5) (.int .i64 y.op)).set (i * 5 + 1) (.int .i64 y.fa)).set (i * 5 + 2) (.int .i64 y.fb)).set (i * 5 + 3) (.int .i64 y.fc)).set (i * 5 + 4) (.int .i64 y.fd) = flatN (ys.set i y)
  | [], i, y, h => by simp at h
  | z :: zs, 0, y, h => by simp [flatN]
  | z :: zs, i + 1, y, h => by
    have e : (i + 1) * 5 = i * 5 + 1 + 1 + 1 + 1 + 1 := by omega
    simp only [e, flatN, List.set_cons_succ]
    rw [flatN_set zs i y (by simpa using h)]
/-- The marks from k on. -/
def mkN (k : Int) (n : Nat) : List Ins := (List.range n).map fun (i : Nat) => ⟨k + 5 * (i : Int), k + 5 * (i : Int) + 1, k + 5 * (i : Int) + 1 + 1, k + 5 * (i : Int) + 1 + 1 + 1, k + 5 * (i : Int) + 1 + 1 + 1 + 1⟩
theorem mkN_len (k : Int) (n : Nat) : (mkN k n).length = n := by simp [mkN]
theorem mkN_at (k : Int) {n i : Nat} (h : i < n) : (mkN k n)[i]? = some ⟨k + 5 * (i : Int), k + 5 * (i : Int) + 1, k + 5 * (i : Int) + 1 + 1, k + 5 * (i : Int) + 1 + 1 + 1, k + 5 * (i : Int) + 1 + 1 + 1 + 1⟩ := by
  unfold mkN
  rw [List.getElem?_map, List.getElem?_range h]; rfl
theorem mkN_all {k : Int} {n : Nat} {ps : List Ins} (hl : ps.length = n) (h : ∀ i : Nat, i < n → ps[i]? = some ⟨k + 5 * (i : Int), k + 5 * (i : Int) + 1, k + 5 * (i : Int) + 1 + 1, k + 5 * (i : Int) + 1 + 1 + 1, k + 5 * (i : Int) + 1 + 1 + 1 + 1⟩) : ps = mkN k n := by
  apply List.ext_getElem?
  intro i
  by_cases hi : i < n
  · rw [h i hi, mkN_at k hi]
  · rw [List.getElem?_eq_none (by omega), List.getElem?_eq_none (by rw [mkN_len]; omega)]

/-- Behind markInstrS: the row holds k, k + 1, ..; nothing else has changed. -/
def WroteN (w : World) (base n cap : Nat) (a : Option Addr) (k : Int) (f : Ending) (w' : World) : Prop := f = .returned (.int .i64 (k + 5 * (n : Int))) ∧ OwnN w' base (.slice a n cap) (mkN k n) ∧ w'.heap.size = w.heap.size ∧ Below base w w' ∧ ∀ j, (Value.slice a n cap).ownBlock ≠ some j → w'.heap[j]? = w.heap[j]?
/-- The state of the marking loop. -/
def MkNL (w : World) (base n cap : Nat) (a : Option Addr) (k0 : Int) (c i : Value) (wr : World) : Prop := ∃ (k : Nat) (ps : List Ins), k ≤ n ∧ i = .int .i64 k ∧ c = .int .i64 (k0 + 5 * (k : Int)) ∧ OwnN wr base (.slice a n cap) ps ∧ ps.length = n ∧ (∀ i : Nat, i < k → ps[i]? = some ⟨k0 + 5 * (i : Int), k0 + 5 * (i : Int) + 1, k0 + 5 * (i : Int) + 1 + 1, k0 + 5 * (i : Int) + 1 + 1 + 1, k0 + 5 * (i : Int) + 1 + 1 + 1 + 1⟩) ∧ wr.heap.size = w.heap.size ∧ Below base w wr ∧ ∀ j, (Value.slice a n cap).ownBlock ≠ some j → wr.heap[j]? = w.heap[j]?

set_option maxRecDepth 100000 in
set_option maxHeartbeats 2000000 in
theorem markInS_one (base n cap : Nat) (a : Option Addr) (k0 : Int) (ps : List Ins) (w : World) (h : OwnN w base (.slice a n cap) ps) (hpl : ps.length = n) (hn : n ≤ 1048576) (h0 : 0 ≤ k0) (h1 : k0 ≤ 1000000000) :
    Calls Tryd.prog 49 #[.slice a n cap, .int .i64 k0] w (WroteN w base n cap a k0) := by
  have HL : Hid (MkNL w base n cap a k0 (.int .i64 k0) (.int .i64 0) w) := ⟨0, ps, Nat.zero_le _, rfl, by simp, h, hpl, fun i hi => absurd hi (Nat.not_lt_zero _), rfl, Below.refl _ _, fun _ _ => rfl⟩
  clear h hpl
  go_enter Tryd.func49, Tryd.ntmps49
  go_wp2_with fail
  go_loopw [1, 5] (fun c i wr => MkNL w base n cap a k0 c i wr) (fun _ i _ => n - (intOf i).toNat)
  case atStart => exact HL.out
  case round =>
    obtain ⟨k, ps', hk, rfl, rfl, hrow, hlen, hdone, hsz, hbel, hst⟩ := hrel
    have HROW := Lib.hid hrow
    have HLEN := Lib.hid hlen
    have HD := Lib.hid hdone
    have HSZ := Lib.hid hsz
    have HBEL := Lib.hid hbel
    have HST := Lib.hid hst
    clear hrow hlen hdone hsz hbel hst HL
    by_cases hlt : k < n
    · have hro : wr.ownsRow base 50 5 (.slice a n cap) n (flatN ps') := by have h1 := HROW.out; unfold OwnN at h1; rw [HLEN.out] at h1; exact h1
      obtain ⟨g, rfl, hg, cur, hblk, hcs⟩ : ∃ g, a = some ⟨g, 0, none⟩ ∧ base ≤ g ∧ ∃ cur, wr.heap[g]? = some (.cells cur 50 (0, 0)) ∧ n * 5 ≤ cur.size := by
        rcases hro.2 with ⟨e, e2⟩ | ⟨g, cap', cur, e, hb, hg, hn', hm, hc, ht⟩
        · cases e; omega
        · injection e with e1 e2 e3
          exact ⟨g, e1, hb, cur, hg, by rw [hc]; exact Nat.mul_le_mul_right _ hn'⟩
      obtain ⟨u0, hu0⟩ := cell_ex hblk (k * 5) (by omega)
      obtain ⟨u1, hu1⟩ := cell_ex hblk (k * 5 + 1) (by omega)
      obtain ⟨u2, hu2⟩ := cell_ex hblk (k * 5 + 2) (by omega)
      obtain ⟨u3, hu3⟩ := cell_ex hblk (k * 5 + 3) (by omega)
      obtain ⟨u4, hu4⟩ := cell_ex hblk (k * 5 + 4) (by omega)
      have f0 := frozen_at hblk (k * 5)
      have f1 := frozen_at hblk (k * 5 + 1)
      have f2 := frozen_at hblk (k * 5 + 2)
      have f3 := frozen_at hblk (k * 5 + 3)
      have f4 := frozen_at hblk (k * 5 + 4)
      have hr5 := ((((hro.stored (k * 5) (.int .i64 (k0 + 5 * (k : Int)))).1.stored (k * 5 + 1) (.int .i64 (k0 + 5 * (k : Int) + 1))).1.stored (k * 5 + 2) (.int .i64 (k0 + 5 * (k : Int) + 1 + 1))).1.stored (k * 5 + 3) (.int .i64 (k0 + 5 * (k : Int) + 1 + 1 + 1))).1.stored (k * 5 + 4) (.int .i64 (k0 + 5 * (k : Int) + 1 + 1 + 1 + 1))
      have hr6 := hr5.1
      rw [flatN_set ps' k ⟨k0 + 5 * (k : Int), k0 + 5 * (k : Int) + 1, k0 + 5 * (k : Int) + 1 + 1, k0 + 5 * (k : Int) + 1 + 1 + 1, k0 + 5 * (k : Int) + 1 + 1 + 1 + 1⟩ (by rw [HLEN.out]; exact hlt)] at hr6
      have HREL : Hid (MkNL w base n cap (some ⟨g, 0, none⟩) k0 (.int .i64 (k0 + 5 * (k : Int) + 1 + 1 + 1 + 1 + 1)) (.int .i64 ((k : Int) + 1)) (((((wr.setCell ⟨g, k * 5, none⟩ (.int .i64 (k0 + 5 * (k : Int)))).setCell ⟨g, k * 5 + 1, none⟩ (.int .i64 (k0 + 5 * (k : Int) + 1))).setCell ⟨g, k * 5 + 2, none⟩ (.int .i64 (k0 + 5 * (k : Int) + 1 + 1))).setCell ⟨g, k * 5 + 2 + 1, none⟩ (.int .i64 (k0 + 5 * (k : Int) + 1 + 1 + 1))).setCell ⟨g, k * 5 + 2 + 1 + 1, none⟩ (.int .i64 (k0 + 5 * (k : Int) + 1 + 1 + 1 + 1)))) := by
        have hl6 : (ps'.set k ⟨k0 + 5 * (k : Int), k0 + 5 * (k : Int) + 1, k0 + 5 * (k : Int) + 1 + 1, k0 + 5 * (k : Int) + 1 + 1 + 1, k0 + 5 * (k : Int) + 1 + 1 + 1 + 1⟩).length = n := by rw [List.length_set]; exact HLEN.out
        refine ⟨k + 1, _, hlt, by go_num, by go_num, ?_, hl6, ?_, by simpa [World.setCell] using HSZ.out, ((((HBEL.out.setCell (p := ⟨g, k * 5, none⟩) hg _).setCell (p := ⟨g, k * 5 + 1, none⟩) hg _).setCell (p := ⟨g, k * 5 + 2, none⟩) hg _).setCell (p := ⟨g, k * 5 + 2 + 1, none⟩) hg _).setCell (p := ⟨g, k * 5 + 2 + 1 + 1, none⟩) hg _, fun j hj => ?_⟩
        · unfold OwnN
          rw [hl6]
          exact hr6
        · intro i hi
          by_cases hik : i = k
          · subst hik
            rw [List.getElem?_set_self (by rw [HLEN.out]; exact hlt)]
          · rw [List.getElem?_set_ne (by omega)]
            exact HD.out i (by omega)
        · have hjg : j ≠ g := fun e => hj (by rw [e]; rfl)
          rw [Below.heap_setCell _ _ _ _ (by simpa using hjg), Below.heap_setCell _ _ _ _ (by simpa using hjg), Below.heap_setCell _ _ _ _ (by simpa using hjg), Below.heap_setCell _ _ _ _ (by simpa using hjg), Below.heap_setCell _ _ _ _ (by simpa using hjg)]
          exact HST.out j hj
      clear HROW hro hblk hr5 hr6 HBEL HST HD HSZ
      go_wp2_with fail
      go_roundw
      case rel => exact HREL.out
      case measure => simp [intOf]; omega
    · obtain rfl : k = n := by omega
      have HFIN : Hid (WroteN w base k cap a k0 (.returned (.int .i64 (k0 + 5 * (k : Int)))) wr) := ⟨rfl, by rw [← mkN_all HLEN.out HD.out]; exact HROW.out, HSZ.out, HBEL.out, HST.out⟩
      clear HROW HD
      go_wp2_with fail
      go_ret
      exact HFIN.out

/-- heldInstrS: the list holds k, k + 1, .. -/
def HeldN (n : Nat) (k : Int) (w : World) (f : Ending) (w' : World) : Prop := f = .returned (.int .i64 (k + 5 * (n : Int))) ∧ Below w.heap.size w w'

set_option maxHeartbeats 2000000 in
theorem heldInS_one (n cap : Nat) (a : Option Addr) (k0 : Int) (w : World) {D : Nat → Prop} (h : NAt w D (mkN k0 n) a) (hn : n ≤ 1048576) (h0 : 0 ≤ k0) (h1 : k0 ≤ 1000000000) :
    Calls Tryd.prog 51 #[.slice a n cap, .int .i64 k0] w (HeldN n k0 w) := by
  have HC : Hid (∀ k, k < n → ∃ b o, a = some ⟨b, o, none⟩ ∧ w.cell? ⟨b, o + k * 5, none⟩ = some (.int .i64 (k0 + 5 * (k : Int))) ∧ w.cell? ⟨b, o + k * 5 + 1, none⟩ = some (.int .i64 (k0 + 5 * (k : Int) + 1)) ∧ w.cell? ⟨b, o + k * 5 + 2, none⟩ = some (.int .i64 (k0 + 5 * (k : Int) + 1 + 1)) ∧ w.cell? ⟨b, o + k * 5 + 3, none⟩ = some (.int .i64 (k0 + 5 * (k : Int) + 1 + 1 + 1)) ∧ w.cell? ⟨b, o + k * 5 + 4, none⟩ = some (.int .i64 (k0 + 5 * (k : Int) + 1 + 1 + 1 + 1))) := fun k hk => by
    obtain ⟨b, o, ha, _, c0, c1, c2, c3, c4⟩ := h.2 k _ (mkN_at k0 hk)
    exact ⟨b, o, ha, c0, c1, c2, c3, c4⟩
  clear h
  go_enter Tryd.func51, Tryd.ntmps51
  go_wp2
  go_loopw [1, 5] (fun c i wr => ∃ k m : Nat, k ≤ n ∧ i = .int .i64 k ∧ c = .int .i64 (k0 + 5 * (k : Int)) ∧ wr = w.drewN m) (fun _ i _ => n - (intOf i).toNat)
  case atStart => exact ⟨0, 0, Nat.zero_le _, rfl, by simp, rfl⟩
  case round =>
    obtain ⟨k, m, hk, rfl, rfl, rfl⟩ := hrel
    by_cases hlt : k < n
    · obtain ⟨b, o, rfl, c0, c1, c2, c3, c4⟩ := HC.out k hlt
      clear HC
      go_wp2
      go_roundw
      case rel => exact ⟨k + 1, m, by omega, by go_num, by go_num, rfl⟩
      case measure => simp [intOf]; omega
    · obtain rfl : k = n := by omega
      go_wp2
      go_ret
      exact ⟨rfl, ⟨rfl, rfl, rfl, Nat.le_refl _, fun _ _ => rfl⟩⟩

end Go.Proofs.YtbifbmpflhdijaaDoor

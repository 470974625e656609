/- Rows of a call's own, of which an empty one may lie anywhere; the marking and holding helpers of the exact laws on them: markIntS, heldIntS, markInstrS, heldInstrS. -/
import Derived.Test.YtbifbmpflhdijaaDoorMkI
import Derived.Test.YtbifbmpflhdijaaDoorMmB
namespace Go.Proofs.YtbifbmpflhdijaaDoor
open Go.RowKit
set_option linter.unusedVariables false

/-- The block of a slice's elements, where it has any. -/
def blk (a : Option Addr) (n : Nat) : Option Nat := if n = 0 then none else (Value.slice a n n).ownBlock
theorem blk_pos {a : Option Addr} {n c : Nat} (h : 0 < n) : blk a n = (Value.slice a n c).ownBlock := by
  unfold blk; rw [if_neg (by omega)]; cases a <;> rfl
theorem blk_zero (a : Option Addr) : blk a 0 = none := rfl

/-- A row of the call's own; an empty one may lie anywhere. -/
def RowX (w : World) (base : Nat) (T : TypeId) (sz : Nat) (a : Option Addr) (n c : Nat) (xs : List Value) : Prop := (n = 0 ∧ xs = []) ∨ (0 < n ∧ w.ownsRow base T sz (.slice a n c) n xs)
theorem RowX.of {w : World} {base : Nat} {T : TypeId} {sz : Nat} {a : Option Addr} {n c : Nat} {xs : List Value} (h : w.ownsRow base T sz (.slice a n c) n xs) : RowX w base T sz a n c xs := by
  by_cases hn : n = 0
  · exact .inl ⟨hn, List.eq_nil_of_length_eq_zero (by rw [h.1, hn]; simp)⟩
  · exact .inr ⟨by omega, h⟩
theorem RowX.lt {w : World} {base : Nat} {T : TypeId} {sz : Nat} {a : Option Addr} {n c : Nat} {xs : List Value} (h : RowX w base T sz a n c xs) : ∀ g, blk a n = some g → base ≤ g ∧ g < w.heap.size := fun g hg => by
  rcases h with ⟨rfl, _⟩ | ⟨hp, h⟩
  · rw [blk_zero] at hg; cases hg
  · exact h.lt g (by rw [← blk_pos hp]; exact hg)
theorem RowX.far {w w' : World} {base : Nat} {T : TypeId} {sz : Nat} {a : Option Addr} {n c : Nat} {xs : List Value} (h : RowX w base T sz a n c xs) (hs : ∀ g, blk a n = some g → g < w.heap.size → w'.heap[g]? = w.heap[g]?) : RowX w' base T sz a n c xs := by
  rcases h with h | ⟨hp, h⟩
  · exact .inl h
  · refine .inr ⟨hp, h.1, ?_⟩
    rcases h.2 with e | ⟨g, cp, cur, e1, e2, e3, e4⟩
    · exact .inl e
    · exact .inr ⟨g, cp, cur, e1, e2, (hs g (by rw [blk_pos (c := c) hp, e1]; rfl) (Array.getElem?_eq_some_iff.1 e3).1).trans e3, e4⟩
theorem RowX.mono {w : World} {base base' : Nat} {T : TypeId} {sz : Nat} {a : Option Addr} {n c : Nat} {xs : List Value} (h : RowX w base T sz a n c xs) (hb : base' ≤ base) : RowX w base' T sz a n c xs := by
  rcases h with h | ⟨hp, h⟩
  · exact .inl h
  · refine .inr ⟨hp, h.1, ?_⟩
    rcases h.2 with e | ⟨g, cp, cur, e1, e2, e3⟩
    · exact .inl e
    · exact .inr ⟨g, cp, cur, e1, by omega, e3⟩
theorem RowX.iat {w : World} {base : Nat} {a : Option Addr} {n c : Nat} {xs : List Int} (h : RowX w base 3 1 a n c (xs.map (Value.int .i64))) (hn : xs.length = n) : IAt w (fun b => base ≤ b ∧ b < w.heap.size) xs a := by
  rcases h with ⟨e1, e2⟩ | ⟨hp, h⟩
  · obtain rfl : xs = [] := List.eq_nil_of_length_eq_zero (by omega)
    exact ⟨Nat.zero_le _, fun k hk => absurd hk (Nat.not_lt_zero _)⟩
  · have h' : OwnI w base (.slice a n c) xs := by unfold OwnI; rw [hn]; exact h
    obtain ⟨a', cap, e, h2⟩ := h'.iat
    cases e
    exact h2
theorem RowX.nat {w : World} {base : Nat} {a : Option Addr} {n c : Nat} {xs : List Ins} (h : RowX w base 50 5 a n c (flatN xs)) (hn : xs.length = n) : NAt w (fun b => base ≤ b ∧ b < w.heap.size) xs a := by
  rcases h with ⟨e1, e2⟩ | ⟨hp, h⟩
  · obtain rfl : xs = [] := List.eq_nil_of_length_eq_zero (by omega)
    exact ⟨Nat.zero_le _, fun i x hx => by simp at hx⟩
  · have h' : OwnN w base (.slice a n c) xs := by unfold OwnN; rw [hn]; exact h
    exact h'.nat.2.2.2

/-- The marks from k on, of a list of ints. -/
def mkI (k : Int) (n : Nat) : List Int := (List.range n).map fun (i : Nat) => k + (i : Int)
theorem mkI_len (k : Int) (n : Nat) : (mkI k n).length = n := by simp [mkI]
theorem mkI_at (k : Int) {n i : Nat} (h : i < n) : (mkI k n)[i]? = some (k + (i : Int)) := by
  unfold mkI
  rw [List.getElem?_map, List.getElem?_range h]; rfl
theorem mkI_all {k : Int} {n : Nat} {ps : List Int} (hl : ps.length = n) (h : ∀ i : Nat, i < n → ps[i]? = some (k + (i : Int))) : ps = mkI k n := by
  apply List.ext_getElem?
  intro i
  by_cases hi : i < n
  · rw [h i hi, mkI_at k hi]
  · rw [List.getElem?_eq_none (by omega), List.getElem?_eq_none (by rw [mkI_len]; omega)]

/-- Behind a mark of a row: it holds the marks; nothing else has changed. -/
def WroteX (T : TypeId) (sz : Nat) (xs : List Value) (w : World) (base n c : Nat) (a : Option Addr) (k : Int) (f : Ending) (w' : World) : Prop := f = .returned (.int .i64 k) ∧ RowX w' base T sz a n c xs ∧ w'.heap.size = w.heap.size ∧ Below base w w' ∧ ∀ j, blk a n ≠ some j → w'.heap[j]? = w.heap[j]?
/-- The state of the marking loop. -/
def MkIL (w : World) (base n cap : Nat) (a : Option Addr) (k0 : Int) (c i : Value) (wr : World) : Prop := ∃ (k : Nat) (ps : List Int), k ≤ n ∧ i = .int .i64 k ∧ c = .int .i64 (k0 + (k : Int)) ∧ RowX wr base 3 1 a n cap (ps.map (Value.int .i64)) ∧ ps.length = n ∧ (∀ i : Nat, i < k → ps[i]? = some (k0 + (i : Int))) ∧ wr.heap.size = w.heap.size ∧ Below base w wr ∧ ∀ j, blk a n ≠ some j → wr.heap[j]? = w.heap[j]?

set_option maxRecDepth 100000 in
set_option maxHeartbeats 2000000 in
theorem markIX_one (base n cap : Nat) (a : Option Addr) (k0 : Int) (ps : List Int) (w : World) (h : RowX w base 3 1 a n cap (ps.map (Value.int .i64))) (hpl : ps.length = n) (hn : n ≤ 1048576) (h0 : 0 ≤ k0) (h1 : k0 ≤ 1000000000) :
    Calls Tryd.prog 48 #[.slice a n cap, .int .i64 k0] w (WroteX 3 1 ((mkI k0 n).map (Value.int .i64)) w base n cap a (k0 + (n : Int))) := by
  have HL : Hid (MkIL w base n cap a k0 (.int .i64 k0) (.int .i64 0) w) := ⟨0, ps, Nat.zero_le _, rfl, by simp, h, hpl, fun i hi => absurd hi (Nat.not_lt_zero _), rfl, Below.refl _ _, fun _ _ => rfl⟩
  clear h hpl
  go_enter Tryd.func48, Tryd.ntmps48
  go_wp2_with fail
  go_loopw [1, 5] (fun c i wr => MkIL w base n cap a k0 c i wr) (fun _ i _ => n - (intOf i).toNat)
  case atStart => exact HL.out
  case round =>
    obtain ⟨k, ps', hk, rfl, rfl, hrow, hlen, hdone, hsz, hbel, hst⟩ := hrel
    have HROW := Lib.hid hrow
    have HLEN := Lib.hid hlen
    have HD := Lib.hid hdone
    have HSZ := Lib.hid hsz
    have HBEL := Lib.hid hbel
    have HST := Lib.hid hst
    clear hrow hlen hdone hsz hbel hst HL
    by_cases hlt : k < n
    · obtain ⟨hp, hro⟩ := HROW.out.resolve_left (fun e => by have := e.1; omega)
      obtain ⟨g, rfl, hg, cur, hblk, hcs⟩ : ∃ g, a = some ⟨g, 0, none⟩ ∧ base ≤ g ∧ ∃ cur, wr.heap[g]? = some (.cells cur 3 (0, 0)) ∧ n ≤ cur.size := by
        rcases hro.2 with ⟨e, e2⟩ | ⟨g, cap', cur, e, hb, hg, hn', hm, hc, ht⟩
        · cases e; omega
        · injection e with e1 e2 e3
          exact ⟨g, e1, hb, cur, hg, by omega⟩
      obtain ⟨u0, hu0⟩ := cell_ex hblk k (by omega)
      have f0 := frozen_at hblk k
      have hr6 := (hro.stored k (.int .i64 (k0 + (k : Int)))).1
      have HREL : Hid (MkIL w base n cap (some ⟨g, 0, none⟩) k0 (.int .i64 (k0 + (k : Int) + 1)) (.int .i64 ((k : Int) + 1)) (wr.setCell ⟨g, k, none⟩ (.int .i64 (k0 + (k : Int))))) := by
        have hl6 : (ps'.set k (k0 + (k : Int))).length = n := by rw [List.length_set]; exact HLEN.out
        refine ⟨k + 1, _, hlt, by go_num, by go_num, ?_, hl6, ?_, by simpa [World.setCell] using HSZ.out, HBEL.out.setCell (p := ⟨g, k, none⟩) hg _, fun j hj => ?_⟩
        · rw [List.map_set]
          exact .inr ⟨hp, hr6⟩
        · intro i hi
          by_cases hik : i = k
          · subst hik
            rw [List.getElem?_set_self (by rw [HLEN.out]; exact hlt)]
          · rw [List.getElem?_set_ne (by omega)]
            exact HD.out i (by omega)
        · have hjg : j ≠ g := fun e => hj (by rw [blk_pos (c := cap) hp, e]; rfl)
          rw [Below.heap_setCell _ _ _ _ (by simpa using hjg)]
          exact HST.out j hj
      clear HROW hro hblk hr6 HBEL HST HD HSZ
      go_wp2_with fail
      go_roundw
      case rel => exact HREL.out
      case measure => simp [intOf]; omega
    · obtain rfl : k = n := by omega
      have HFIN : Hid (WroteX 3 1 ((mkI k0 k).map (Value.int .i64)) w base k cap a (k0 + (k : Int)) (.returned (.int .i64 (k0 + (k : Int)))) wr) := ⟨rfl, by rw [← mkI_all HLEN.out HD.out]; exact HROW.out, HSZ.out, HBEL.out, HST.out⟩
      clear HROW HD
      go_wp2_with fail
      go_ret
      exact HFIN.out

theorem markNX_one (base n cap : Nat) (a : Option Addr) (k0 : Int) (ps : List Ins) (w : World) (h : RowX w base 50 5 a n cap (flatN ps)) (hpl : ps.length = n) (hn : n ≤ 1048576) (h0 : 0 ≤ k0) (h1 : k0 ≤ 1000000000) :
    Calls Tryd.prog 49 #[.slice a n cap, .int .i64 k0] w (WroteX 50 5 (flatN (mkN k0 n)) w base n cap a (k0 + 5 * (n : Int))) := by
  rcases h with ⟨rfl, e⟩ | ⟨hp, h⟩
  · have HFIN : Hid (WroteX 50 5 (flatN (mkN k0 0)) w base 0 cap a (k0 + 5 * ((0 : Nat) : Int)) (.returned (.int .i64 k0)) w) := ⟨by simp, .inl ⟨rfl, rfl⟩, rfl, Below.refl _ _, fun _ _ => rfl⟩
    clear hpl
    go_enter Tryd.func49, Tryd.ntmps49
    go_wp2_with fail
    go_loopw [1, 5] (fun c i wr => c = .int .i64 k0 ∧ i = .int .i64 0 ∧ wr = w) (fun _ i _ => 0)
    case atStart => exact ⟨rfl, rfl, rfl⟩
    case round =>
      obtain ⟨rfl, rfl, rfl⟩ := hrel
      go_wp2_with fail
      go_ret
      exact HFIN.out
  · have ho : OwnN w base (.slice a n cap) ps := by unfold OwnN; rw [hpl]; exact h
    refine (markInS_one base n cap a k0 ps w ho hpl hn h0 h1).mono ?_
    rintro f w' ⟨rfl, h2, h3, h4, h5⟩
    refine ⟨rfl, .inr ⟨hp, ?_⟩, h3, h4, fun j hj => h5 j (by rw [← blk_pos hp]; exact hj)⟩
    unfold OwnN at h2
    rw [mkN_len] at h2
    exact h2

set_option maxHeartbeats 2000000 in
theorem heldIX_one (n cap : Nat) (a : Option Addr) (k0 : Int) (w : World) {D : Nat → Prop} (h : IAt w D (mkI k0 n) a) (hn : n ≤ 1048576) (h0 : 0 ≤ k0) (h1 : k0 ≤ 1000000000) :
    Calls Tryd.prog 50 #[.slice a n cap, .int .i64 k0] w (fun f w' => f = .returned (.int .i64 (k0 + (n : Int))) ∧ Below w.heap.size w w') := by
  have HC : Hid (∀ k, k < n → ∃ b o, a = some ⟨b, o, none⟩ ∧ w.cell? ⟨b, o + k, none⟩ = some (.int .i64 (k0 + (k : Int)))) := fun k hk => by
    obtain ⟨b, o, ha, hc⟩ := h.slice.2.2 k (by rw [mkI_len]; exact hk)
    refine ⟨b, o, ha, ?_⟩
    rw [hc, List.getD_eq_getElem?_getD, mkI_at k0 hk]; rfl
  clear h
  go_enter Tryd.func50, Tryd.ntmps50
  go_wp2
  go_loopw [1, 5] (fun c i wr => ∃ k m : Nat, k ≤ n ∧ i = .int .i64 k ∧ c = .int .i64 (k0 + (k : Int)) ∧ wr = w.drewN m) (fun _ i _ => n - (intOf i).toNat)
  case atStart => exact ⟨0, 0, Nat.zero_le _, rfl, by simp, rfl⟩
  case round =>
    obtain ⟨k, m, hk, rfl, rfl, rfl⟩ := hrel
    by_cases hlt : k < n
    · obtain ⟨b, o, rfl, c0⟩ := HC.out k hlt
      clear HC
      go_wp2
      go_roundw
      case rel => exact ⟨k + 1, m, by omega, by go_num, by go_num, rfl⟩
      case measure => simp [intOf]; omega
    · obtain rfl : k = n := by omega
      go_wp2
      go_ret
      exact ⟨rfl, ⟨rfl, rfl, rfl, Nat.le_refl _, fun _ _ => rfl⟩⟩

end Go.Proofs.YtbifbmpflhdijaaDoor

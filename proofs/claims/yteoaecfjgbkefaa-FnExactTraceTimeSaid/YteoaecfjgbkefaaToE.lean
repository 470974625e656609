/- toEventS, told of the copy as a row of its own. -/
import Derived.Test.YteoaecfjgbkefaaTrE
namespace Go.Proofs.Yteoaecfjgbkefaa
open Go.RowKit
set_option linter.unusedVariables false

theorem flat_of {es : List Ev} {cur : Array Value} {n : Nat} (hn : es.length = n) (hc : cur.size = n * 2) (h : ∀ (j : Nat) (x : Ev), j < n → es[j]? = some x → cur[j * 2]? = some (.int .i64 x.kind) ∧ cur[j * 2 + 1]? = some (.int .i64 x.value)) : cur.toList = flatE (prs es) := by
  have hfl : (flatE (prs es)).length = n * 2 := by rw [flatE_len, prs_len, hn]
  apply List.ext_getElem?
  intro q
  by_cases hq : q < n * 2
  · have hj : q / 2 < n := by omega
    obtain ⟨x, hx⟩ : ∃ x, es[q / 2]? = some x := ⟨es[q / 2]'(by omega), List.getElem?_eq_getElem _⟩
    obtain ⟨h0, h1⟩ := h (q / 2) x hj hx
    obtain ⟨k0, k1⟩ := flatE_at (prs es) (q / 2) _ (prs_at hx)
    rw [Array.getElem?_toList]
    rcases Nat.mod_two_eq_zero_or_one q with e | e
    · have e2 : q / 2 * 2 = q := by omega
      rw [e2] at h0 k0
      rw [h0, k0]
    · have e2 : q / 2 * 2 + 1 = q := by omega
      rw [e2] at h1 k1
      rw [h1, k1]
  · rw [List.getElem?_eq_none (by rw [Array.length_toList]; omega), List.getElem?_eq_none (by omega)]

/-- A list of events is copied into a row of its own. -/
def CopyER (es : List Ev) (w : World) (f : Ending) (w' : World) : Prop := ∃ a n c, f = .returned (.slice a n c) ∧ es.length = n ∧ RowEv w' w.heap.size (.slice a n c) (prs es) ∧ Below w.heap.size w w'

set_option maxRecDepth 100000 in
set_option maxHeartbeats 2000000 in
theorem toER_one (es : List Ev) (a : Option Addr) (len cap : Nat) (w : World) (h : EvL w es a cap) (hlen : es.length = len) (hs : len ≤ 1048576) :
    Calls Try.prog 43 #[.slice a len cap] w (CopyER es w) := by
  obtain ⟨i0, hi, hz0, hz1, hz2⟩ := info_parts Try.infoEv
  obtain ⟨hc, hm, h⟩ := h
  have HLEN := Lib.hid hlen
  rw [hlen] at hc
  have H := Lib.hid h
  clear h hlen
  go_enter Try.func43, Try.ntmps43
  go_wp2_with (at_make; refine wpList_make_full _ rfl _ _ 33 rfl w.heap.size 43 i0 (.agg #[.int .i64 0, .int .i64 0]) 2 Try.underlying33 hi hz0 hz1 .i64 .i64 (len : Int) (len : Int) len rfl rfl rfl rfl (by rw [hz2]; omega) (by unfold maxLen; omega) (Nat.le_refl _) ?_; intro w1 hown1 hgrow1; clear hz0 hz1 hz2)
  have HB1 : Hid (Below w.heap.size w w1) := (Below.refl _ w).grown hgrow1 (Nat.le_refl _) (fun k e => by cases e)
  have HO1 : Hid (∃ cur : Array Value, cur.size = len * 2 ∧ w1.heap[w.heap.size]? = some (.cells cur 43 (0, 0))) := by
    rcases hown1.2 with ⟨h', _⟩ | ⟨g, cp, cur, h', _, hg, _, _, hcs, _⟩
    · cases h'
    · cases h'
      exact ⟨cur, hcs, hg⟩
  clear hown1 hgrow1
  go_loopw [4] (fun i wr => ∃ k : Nat, k ≤ len ∧ i = .int .i64 k ∧ Below w.heap.size w wr ∧ w.heap.size < wr.heap.size ∧ ∃ cur : Array Value, cur.size = len * 2 ∧ wr.heap[w.heap.size]? = some (.cells cur 43 (0, 0)) ∧
      ∀ (j : Nat) (x : Ev), j < k → es[j]? = some x → cur[j * 2]? = some (.int .i64 x.kind) ∧ cur[j * 2 + 1]? = some (.int .i64 x.value)) (fun i _ => len - (intOf i).toNat)
  case atStart =>
    obtain ⟨cur, h1, h2⟩ := HO1.out
    exact ⟨0, Nat.zero_le _, rfl, HB1.out, (Array.getElem?_eq_some_iff.1 h2).1, cur, h1, h2, fun j x hj => absurd hj (Nat.not_lt_zero _)⟩
  case round =>
    obtain ⟨k, hk, rfl, hB, hgt, cur, hcs, hblk, hdone⟩ := hrel
    have HB := Lib.hid hB
    have HCS := Lib.hid hcs
    have HBLK := Lib.hid hblk
    have HD := Lib.hid hdone
    clear hB hcs hblk hdone HO1 HB1
    by_cases hlt : k < len
    · obtain ⟨x, hx⟩ : ∃ x, es[k]? = some x := ⟨es[k]'(by rw [HLEN.out]; exact hlt), List.getElem?_eq_getElem _⟩
      obtain ⟨b, o, rfl, hbl, e0, e1⟩ := H.out k x hx
      have d0 := (HB.out.cell (p := ⟨b, o + k * 2, none⟩) hbl).trans e0
      have d1 := (HB.out.cell (p := ⟨b, o + k * 2 + 1, none⟩) hbl).trans e1
      clear e0 e1
      have hsz := HB.out.size
      have HX := Lib.hid hx
      clear hx
      go_wp2_with fail
      refine (toEv_one x _).mono ?_
      rintro f w2 ⟨rfl, hb2⟩
      have hsz2 := hb2.size
      have hblk2 : w2.heap[w.heap.size]? = some (.cells cur 43 (0, 0)) := (hb2.block _ hgt).trans HBLK.out
      have hb3 : k * 2 + 1 < cur.size := by rw [HCS.out]; omega
      obtain ⟨⟨u0, u1, hu0, hu1⟩, hf0, hf1⟩ := ev_cells2 (o := k * 2) hblk2 hb3
      have HST := Lib.hid (ev_store2 (o := k * 2) hblk2 (.int .i64 x.kind) (.int .i64 x.value))
      have HSM3 := Lib.hid (ev_set2_same cur (k * 2) (.int .i64 x.kind) (.int .i64 x.value) hb3)
      have HB3 : Hid (Below w.heap.size w ((w2.setCell ⟨w.heap.size, k * 2, none⟩ (.int .i64 x.kind)).setCell ⟨w.heap.size, k * 2 + 1, none⟩ (.int .i64 x.value))) :=
        ((HB.out.trans (hb2.mono hsz)).setCell (p := ⟨w.heap.size, k * 2, none⟩) (Nat.le_refl _) (.int .i64 x.kind)).setCell (p := ⟨w.heap.size, k * 2 + 1, none⟩) (Nat.le_refl _) (.int .i64 x.value)
      have HSZW : Hid (((w2.setCell ⟨w.heap.size, k * 2, none⟩ (.int .i64 x.kind)).setCell ⟨w.heap.size, k * 2 + 1, none⟩ (.int .i64 x.value)).heap.size = w2.heap.size) := by
        have : ((w2.setCell ⟨w.heap.size, k * 2, none⟩ (.int .i64 x.kind)).setCell ⟨w.heap.size, k * 2 + 1, none⟩ (.int .i64 x.value)).heap.size = w2.heap.size := by simp [World.setCell]
        exact this
      clear hb2 hblk2 HBLK HB d0 d1
      go_wp2_with fail
      go_roundw
      case rel =>
        refine ⟨k + 1, by omega, by go_num, HB3.out, by rw [HSZW.out]; omega, _, ?_, HST.out, ?_⟩
        · simp [HCS.out]
        · intro j y hj hy
          by_cases hjk : j = k
          · subst hjk
            rw [HX.out] at hy
            cases hy
            exact HSM3.out
          · obtain ⟨h0, h1⟩ := HD.out j y (by omega) hy
            exact ⟨by rw [ev_set2_other _ _ _ _ _ (by omega)]; exact h0, by rw [ev_set2_other _ _ _ _ _ (by omega)]; exact h1⟩
      case measure => simp [intOf]; omega
    · obtain rfl : k = len := by omega
      have HFIN : Hid (RowEv wr w.heap.size (.slice (some ⟨w.heap.size, 0, none⟩) k k) (prs es)) := by
        have hf := flat_of HLEN.out HCS.out HD.out
        have h2 : wr.ownsRow w.heap.size 43 2 (.slice (some ⟨w.heap.size, 0, none⟩) (prs es).length k) (prs es).length (flatE (prs es)) := by
          rw [prs_len, HLEN.out]
          refine ⟨by rw [flatE_len, prs_len, HLEN.out], .inr ⟨w.heap.size, k, cur, rfl, Nat.le_refl _, HBLK.out, Nat.le_refl _, by unfold maxLen; omega, HCS.out, ?_⟩⟩
          rw [← hf, List.take_of_length_le (by rw [Array.length_toList, HCS.out]; exact Nat.le_refl _)]
        have h3 := RowEv.ofFlat h2
        rw [prs_len, HLEN.out] at h3
        exact h3
      clear H HD HBLK
      go_wp2_with fail
      go_ret
      exact ⟨_, k, k, rfl, HLEN.out, HFIN.out, HB.out⟩

theorem eqEvS_n (es fs : List Ev) (a a' : Option Addr) (n n' cap cap' : Nat) (w : World) (h : EvL w es a cap) (h' : EvL w fs a' cap') (hn : es.length = n) (hn' : fs.length = n') :
    Calls Try.prog 45 #[.slice a n cap, .slice a' n' cap'] w (YN (decide (es = fs)) w) := by
  subst hn hn'
  exact eqEvS_one es fs a a' cap cap' w h h'

end Go.Proofs.Yteoaecfjgbkefaa

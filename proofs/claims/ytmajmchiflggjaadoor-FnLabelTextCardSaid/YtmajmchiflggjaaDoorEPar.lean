/- The exact law of ParseLabels, walked: for every string it returns true and nothing that was there has changed. Condition: the table of letters lies as the program's text lays it. -/
import Derived.Test.YtmajmchiflggjaaDoorIPar
namespace Go.Proofs.YtmajmchiflggjaaDoor
open Go.RowKit

theorem OwnI.sl {w : World} {base : Nat} {a : Option Addr} {n cap : Nat} {xs : List Int} (h : OwnI w base (.slice a n cap) xs) : xs.length = n ∧ SliceI w a n xs := by
  obtain ⟨a', cap', e, hs⟩ := h.slice
  cases e
  exact ⟨rfl, hs⟩

theorem OwnI.shape {w : World} {base : Nat} {v : Value} {xs : List Int} (h : OwnI w base v xs) : ∃ a cap, v = .slice a xs.length cap := by
  obtain ⟨a', cap', e, _⟩ := h.slice
  exact ⟨a', cap', e⟩

theorem OwnI.drewN {w : World} {base : Nat} {v : Value} {xs : List Int} (h : OwnI w base v xs) (m : Nat) : OwnI (w.drewN m) base v xs := h

theorem Below.drewN' {B : Nat} {a w : World} (h : Below B a w) (k : Nat) : Below B a (w.drewN k) := ⟨h.os, h.tape, h.output, h.size, h.block⟩

theorem eqL_self (xs : List Int) : eqL xs xs = true := by simp [eqL]
theorem parseL_len (s : ByteArray) : (parseL s.data.toList).length ≤ s.size := by
  unfold parseL Labs
  split <;> simp

def Yes (w : World) (e : Ending) (w' : World) : Prop := e = .returned (.bool true) ∧ Below w.heap.size w w'

set_option maxRecDepth 100000 in
set_option maxHeartbeats 2000000 in
theorem exactParse_walk (s : ByteArray) (w : World) (hT : Tbl w) (hw : 0 < w.heap.size) :
    Calls Tryd.prog 5 #[.string s] w (Yes w) := by
  by_cases hs : 1048576 < s.size
  · go_enter Tryd.func5, Tryd.ntmps5
    go_wp2_with fail
    go_ret
    exact ⟨rfl, Below.refl _ _⟩
  · have HT := Lib.hid hT
    have hlen := parseL_len s
    have hs' : s.size ≤ 1048576 := by omega
    clear hT
    obtain ⟨xs, hxs⟩ : ∃ xs, parseL s.data.toList = xs := ⟨_, rfl⟩
    rw [hxs] at hlen
    have HX := Lib.hid hxs
    clear hxs
    go_enter Tryd.func5, Tryd.ntmps5
    go_wp2_with fail
    refine (sParse_one s _ hs').mono ?_
    rintro e w1 ⟨v0, rfl, hO1, hB1⟩
    rw [HX.out] at hO1
    obtain ⟨a0, cap0, rfl⟩ := hO1.shape
    have O1 := Lib.hid hO1
    have B1 := Lib.hid hB1
    have T1 := Lib.hid (HT.out.below hB1 hw)
    have hz1 := hB1.size
    clear hO1 hB1
    go_wp2_with fail
    refine (iParse_one s _ hs' T1.out (by omega)).mono ?_
    rintro e w2 ⟨v1, rfl, hO2, hB2⟩
    rw [HX.out] at hO2
    obtain ⟨a1, cap1, rfl⟩ := hO2.shape
    have O2 := Lib.hid hO2
    have B2 := Lib.hid hB2
    clear hO2 hB2
    go_wp2_with fail
    refine (eqInts_one _ _ _ _ _ _ xs xs _ O2.out.sl.2 (O1.out.later B2.out).sl.2).mono ?_
    rintro e w3 ⟨rfl, m3, hw3⟩
    rw [eqL_self]
    have O3 : Hid (OwnI w3 w1.heap.size (.slice a1 xs.length cap1) xs) := by rw [hw3]; exact O2.out.drewN m3
    have B3 : Hid (Below w1.heap.size w1 w3) := by rw [hw3]; exact Below.drewN' B2.out m3
    clear hw3 O2 B2
    go_wp2_with fail
    refine (mark_one w1.heap.size _ xs 1 _ O3.out (by omega) (by omega) (by omega)).mono ?_
    rintro e w4 ⟨rfl, hB4, L, hL, hM, hO4⟩
    have O4 := Lib.hid hO4
    have B4 := Lib.hid (B3.out.trans hB4)
    have M4 := Lib.hid hM
    have T4 := Lib.hid (T1.out.below B4.out (by omega))
    have hz4 := B4.out.size
    have HL := Lib.hid hL
    clear hL hB4 hO4 hM O3 B3
    go_wp2_with fail
    refine (held_one _ _ _ L 1 _ O4.out.sl.2 M4.out (by omega) (by omega) (by omega)).mono ?_
    rintro e w5 ⟨rfl, rfl⟩
    go_wp2_with fail
    refine (iParse_one s _ hs' T4.out (by omega)).mono ?_
    rintro e w6 ⟨v2, rfl, hO6, hB6⟩
    rw [HX.out] at hO6
    obtain ⟨a2, cap2, rfl⟩ := hO6.shape
    have O6 := Lib.hid hO6
    have B6 := Lib.hid hB6
    clear hO6 hB6
    go_wp2_with fail
    refine (eqInts_one _ _ _ _ _ _ xs xs _ O6.out.sl.2 ((O1.out.later B4.out).later B6.out).sl.2).mono ?_
    rintro e w7 ⟨rfl, m7, hw7⟩
    rw [eqL_self]
    have O7 : Hid (OwnI w7 w1.heap.size (.slice a1 xs.length cap1) L) := by rw [hw7]; exact (O4.out.later B6.out).drewN m7
    have B7 : Hid (Below w1.heap.size w1 w7) := by rw [hw7]; exact Below.drewN' (B4.out.trans (B6.out.mono (by omega))) m7
    clear hw7 O6 B6
    go_wp2_with fail
    refine (held_one _ _ _ L 1 _ O7.out.sl.2 M4.out (by omega) (by omega) (by omega)).mono ?_
    rintro e w8 ⟨rfl, rfl⟩
    go_wp2_with fail
    go_ret
    exact ⟨rfl, B1.out.trans (B7.out.mono hz1)⟩

end Go.Proofs.YtmajmchiflggjaaDoor

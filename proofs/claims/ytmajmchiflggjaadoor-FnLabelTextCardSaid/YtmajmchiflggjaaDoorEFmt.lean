/- The exact law of FormatLabels, walked: for every list it returns true and nothing that was there has changed. Condition: the table of letters lies as the program's text lays it. -/
import Derived.Test.YtmajmchiflggjaaDoorIFmt
import Derived.Test.YtmajmchiflggjaaDoorEPar
import Derived.Test.YtmajmchiflggjaaDoorRd
namespace Go.Proofs.YtmajmchiflggjaaDoor
open Go.RowKit

theorem IsRow.sliceI {w : World} {a : Option Addr} {n cap : Nat} {zs : List Int} (h : IsRow .i64 w a n cap zs) : SliceI w a n (zs.take n) := by
  rcases h with ⟨rfl, rfl, rfl, rfl⟩ | ⟨x, rfl, hlen, hcap, hz, hc, hw⟩
  · exact ⟨by unfold maxLen; omega, rfl, fun k hk => absurd hk (Nat.not_lt_zero _)⟩
  · refine ⟨by omega, by rw [List.length_take]; omega, fun k hk => ?_⟩
    have hck := hc k (by omega)
    obtain ⟨b, o, s⟩ := x
    have hs0 : s = none := by simpa [Addr.add] using World.cell?_spot (hc 0 (by omega))
    subst hs0
    have e : (⟨b, o, none⟩ : Addr).add k = ⟨b, o + k, none⟩ := by unfold Addr.add; split <;> simp_all
    refine ⟨b, o, rfl, ?_⟩
    rw [← e, hck]
    simp [List.getD, hk]

theorem SliceI.later {w w' : World} {a : Option Addr} {n : Nat} {xs : List Int} (h : SliceI w a n xs) (hb : Below w.heap.size w w') : SliceI w' a n xs :=
  ⟨h.1, h.2.1, fun k hk => by
    obtain ⟨b, o, e, hc⟩ := h.2.2 k hk
    exact ⟨b, o, e, (hb.cell (p := ⟨b, o + k, none⟩) (World.block_lt_of_cell? w _ hc)).trans hc⟩⟩

set_option maxRecDepth 100000 in
set_option maxHeartbeats 2000000 in
theorem exactFormat_walk (a : Option Addr) (n cap : Nat) (zs : List Int) (w : World) (h : IsRow .i64 w a n cap zs) (hT : Tbl w) (hw : 0 < w.heap.size) :
    Calls Tryd.prog 4 #[.slice a n cap] w (Yes w) := by
  by_cases hs : 1048576 < n
  · clear h
    go_enter Tryd.func4, Tryd.ntmps4
    go_wp2_with fail
    go_ret
    exact ⟨rfl, Below.refl _ _⟩
  · have hS := h.sliceI
    obtain ⟨xs, hxs⟩ : ∃ xs, zs.take n = xs := ⟨_, rfl⟩
    rw [hxs] at hS
    clear h hxs
    have H := Lib.hid hS
    have HT := Lib.hid hT
    clear hS hT
    obtain ⟨l, hl⟩ : ∃ l, xs.length = l := ⟨_, rfl⟩
    have hln : xs.length = n := H.out.2.1
    have HL := Lib.hid hln
    clear hl hln
    go_enter Tryd.func4, Tryd.ntmps4
    go_wp2_with fail
    refine (toInts_one a n cap xs _ H.out (by omega)).mono ?_
    rintro e w1 ⟨v1, rfl, hO1, hB1⟩
    obtain ⟨a1, cap1, rfl⟩ := hO1.shape
    rw [HL.out]
    rw [HL.out] at hO1
    have S1 := Lib.hid hO1.sl.2
    have B1 := Lib.hid hB1
    clear hO1 hB1
    go_wp2_with fail
    refine (sFormat_one a1 n cap1 xs _ S1.out (by omega)).mono ?_
    rintro e w2 ⟨rfl, m2, hw2⟩
    have B2 : Hid (Below w.heap.size w w2) := by rw [hw2]; exact Below.drewN' B1.out m2
    clear hw2
    go_wp2_with fail
    refine (toInts_one a n cap xs _ (H.out.later B2.out) (by omega)).mono ?_
    rintro e w3 ⟨v3, rfl, hO3, hB3⟩
    obtain ⟨a3, cap3, rfl⟩ := hO3.shape
    rw [HL.out]
    rw [HL.out] at hO3
    have S3 := Lib.hid hO3.sl.2
    have hz2 := B2.out.size
    have B3 := Lib.hid (B2.out.trans (hB3.mono hz2))
    clear hO3 hB3
    have hz3 := B3.out.size
    go_wp2_with fail
    refine (iFormat_one a3 n cap3 xs _ S3.out (by omega) (HT.out.below B3.out hw) (by omega)).mono ?_
    rintro e w4 ⟨rfl, hB4⟩
    have S4 := Lib.hid (S3.out.later hB4)
    have B4 := Lib.hid (B3.out.trans (hB4.mono hz3))
    clear hB4
    go_wp2_with fail
    refine (toInts_one a n cap xs _ (H.out.later B4.out) (by omega)).mono ?_
    rintro e w5 ⟨v5, rfl, hO5, hB5⟩
    obtain ⟨a5, cap5, rfl⟩ := hO5.shape
    rw [HL.out]
    rw [HL.out] at hO5
    have S5 := Lib.hid hO5.sl.2
    have S6 := Lib.hid (S4.out.later hB5)
    have hz4 := B4.out.size
    have B5 := Lib.hid (B4.out.trans (hB5.mono hz4))
    clear hO5 hB5
    go_wp2_with fail
    refine (eqInts_one _ _ _ _ _ _ xs xs _ S6.out S5.out).mono ?_
    rintro e w6 ⟨rfl, m6, hw6⟩
    rw [eqL_self]
    have B6 : Hid (Below w.heap.size w w6) := by rw [hw6]; exact Below.drewN' B5.out m6
    clear hw6
    go_wp2_with fail
    go_ret
    exact ⟨rfl, B6.out⟩

end Go.Proofs.YtmajmchiflggjaaDoor

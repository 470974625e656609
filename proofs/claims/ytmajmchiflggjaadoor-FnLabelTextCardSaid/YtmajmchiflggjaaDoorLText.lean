/- The law on texts of labels, walked: for whatever bytes came in it returns true and nothing that was there has changed. Condition: the table of letters lies as the program's text lays it. -/
import Derived.Test.YtmajmchiflggjaaDoorTxt
namespace Go.Proofs.YtmajmchiflggjaaDoor
open Go.RowKit

set_option maxRecDepth 100000 in
set_option maxHeartbeats 4000000 in
theorem labelText_walk (a : Option Addr) (len cap : Nat) (zs : List Int) (a' : Option Addr) (len' cap' : Nat) (zs' : List Int) (w : World) (h : IsRow .u8 w a len cap zs) (h' : IsRow .u8 w a' len' cap' zs') (hT : Tbl w) (hw : 0 < w.heap.size) :
    Calls Tryd.prog 3 #[.slice a len cap, .slice a' len' cap'] w (Yes w) := by
  have H := Lib.hid h
  have H' := Lib.hid h'
  have HT := Lib.hid hT
  clear h h' hT
  by_cases hlen : 1048576 < len
  · go_enter Tryd.func3, Tryd.ntmps3
    go_wp2_with fail
    go_ret
    exact ⟨rfl, Below.refl _ _⟩
  by_cases hlen' : 1048576 < len'
  · go_enter Tryd.func3, Tryd.ntmps3
    go_wp2_with fail
    go_ret
    exact ⟨rfl, Below.refl _ _⟩
  go_enter Tryd.func3, Tryd.ntmps3
  go_wp2_with fail
  refine (drawFormat_one a len cap zs _ H.out).mono ?_
  rintro e w1 ⟨v1, xs, rfl, hO1, hx6, hB1⟩
  obtain ⟨a1, cap1, rfl⟩ := hO1.shape
  have O1 := Lib.hid hO1
  have B1 := Lib.hid hB1
  have hz1 := hB1.size
  have T1 := Lib.hid (HT.out.below hB1 hw)
  have S1 := Lib.hid hO1.sl.2
  clear hO1 hB1
  go_wp2_with fail
  refine (iFormat_one a1 xs.length cap1 xs _ S1.out (by omega) T1.out (by omega)).mono ?_
  rintro e w2 ⟨rfl, hB2⟩
  have hfl := fmt_len xs
  obtain ⟨s, hs⟩ : ∃ s : ByteArray, (⟨(fmtL xs).toArray⟩ : ByteArray) = s := ⟨_, rfl⟩
  have hsz : s.size = (fmtL xs).length := by rw [← hs]; simp [ByteArray.size]
  have HSL : Hid (s.data.toList = fmtL xs) := by rw [← hs]; exact List.toList_toArray
  have HS := Lib.hid hs
  have HSZ := Lib.hid hsz
  have hs6 : s.size ≤ 6 := by omega
  rw [hs]
  have S2 := Lib.hid (S1.out.later hB2)
  have O2 := Lib.hid (O1.out.later hB2)
  have B2 := Lib.hid (B1.out.trans (hB2.mono hz1))
  have hz2 := B2.out.size
  clear hs hsz hB2 hfl S1 O1
  go_wp2_with fail
  refine (sFormat_one a1 xs.length cap1 xs _ S2.out (by omega)).mono ?_
  rintro e w3 ⟨rfl, m3, hw3⟩
  rw [HS.out]
  have B3 : Hid (Below w.heap.size w w3) := by rw [hw3]; exact Below.drewN' B2.out m3
  have S3 : Hid (SliceI w3 a1 xs.length xs) := by rw [hw3]; exact S2.out
  have T3 := Lib.hid (HT.out.below B3.out hw)
  have hz3 := B3.out.size
  clear hw3 S2 O2
  go_wp2_with fail
  refine (iParse_one s _ (by omega) T3.out (by omega)).mono ?_
  rintro e w4 ⟨v4, rfl, hO4, hB4⟩
  rw [HSL.out, fmt_ok xs]
  rw [HSL.out] at hO4
  obtain ⟨a4, cap4, rfl⟩ := hO4.shape
  have S4 := Lib.hid hO4.sl.2
  have X4 := Lib.hid (S3.out.later hB4)
  have B4' := Lib.hid (B3.out.trans (hB4.mono hz3))
  clear hO4 hB4
  by_cases hq : s.size = xs.length
  · have hqb : ((s.size : Int) == (xs.length : Int)) = true := by rw [hq]; simp
    have hback : parseL (fmtL xs) = xs := fmt_back xs (by rw [← HSZ.out]; exact hq)
    have S4b : Hid (SliceI w4 a4 xs.length xs) := by have := S4.out; rwa [hback] at this
    rw [hback]
    clear hback hq S4
    go_wp2_with fail
    refine (ctInts_one _ _ _ _ _ _ xs xs _ S4b.out X4.out).mono ?_
    rintro e w4' ⟨rfl, m4, hw4⟩
    rw [eqL_self]
    have B4 : Hid (Below w.heap.size w w4') := by rw [hw4]; exact Below.drewN' B4'.out m4
    have hz4 := B4.out.size
    have H4 := Lib.hid (H'.out.below B4.out)
    clear hw4 B4'
    go_wp2_with fail
    refine (drawParse_one a' len' cap' zs' _ H4.out).mono ?_
    rintro e w5 ⟨t, ht, rfl, hB5⟩
    have B5 := Lib.hid (B4.out.trans (hB5.mono hz4))
    have hz5 := B5.out.size
    have T5 := Lib.hid (HT.out.below B5.out hw)
    obtain ⟨l, hl⟩ : ∃ l, t.data.toList = l := ⟨_, rfl⟩
    have HTL := Lib.hid hl
    have hll : (parseL l).length ≤ 1000 := by rw [← hl]; exact Nat.le_trans (parseL_len t) ht
    clear hB5 hl B4 H4
    go_wp2_with fail
    refine (iParse_one t _ (by omega) T5.out (by omega)).mono ?_
    rintro e w6 ⟨v6, rfl, hO6, hB6⟩
    rw [HTL.out]
    rw [HTL.out] at hO6
    obtain ⟨a6, cap6, rfl⟩ := hO6.shape
    have O6 := Lib.hid hO6
    have B6 := Lib.hid (B5.out.trans (hB6.mono hz5))
    have hz6 := B6.out.size
    have T6 := Lib.hid (HT.out.below B6.out hw)
    clear hO6 hB6
    go_wp2_with fail
    refine (sParse_one t _ (by omega)).mono ?_
    rintro e w7 ⟨v7, rfl, hO7, hB7⟩
    rw [HTL.out]
    rw [HTL.out] at hO7
    obtain ⟨a7, cap7, rfl⟩ := hO7.shape
    have S7 := Lib.hid hO7.sl.2
    have S6 := Lib.hid (O6.out.later hB7).sl.2
    have B7 := Lib.hid (B6.out.trans (hB7.mono hz6))
    have hz7 := B7.out.size
    clear hO7 hB7
    cases hp : parseOk l
    case false =>
      go_wp2_with fail
      refine (ctInts_one _ _ _ _ _ _ (parseL l) (parseL l) _ S6.out S7.out).mono ?_
      rintro e w8 ⟨rfl, m8, hw8⟩
      rw [eqL_self]
      have B8 : Hid (Below w.heap.size w w8) := by rw [hw8]; exact Below.drewN' B7.out m8
      clear hw8
      go_wp2_with fail
      go_ret
      exact ⟨rfl, B8.out⟩
    case true =>
      have TB : Hid ((⟨(fmtL (parseL l)).toArray⟩ : ByteArray) = t) := by
        have := text_back t (by rw [HTL.out]; exact hp)
        rwa [HTL.out] at this
      go_wp2_with fail
      refine (ctInts_one _ _ _ _ _ _ (parseL l) (parseL l) _ S6.out S7.out).mono ?_
      rintro e w8 ⟨rfl, m8, hw8⟩
      rw [eqL_self]
      have B8 : Hid (Below w.heap.size w w8) := by rw [hw8]; exact Below.drewN' B7.out m8
      have hz8 := B8.out.size
      have S8 : Hid (SliceI w8 a6 (parseL l).length (parseL l)) := by rw [hw8]; exact S6.out
      have T8 := Lib.hid (HT.out.below B8.out hw)
      clear hw8
      go_wp2_with fail
      refine (iFormat_one a6 (parseL l).length cap6 (parseL l) _ S8.out (by omega) T8.out (by omega)).mono ?_
      rintro e w9 ⟨rfl, hB9⟩
      rw [TB.out]
      have B9 := Lib.hid (B8.out.trans (hB9.mono hz8))
      clear hB9
      go_wp2_with fail
      go_ret
      exact ⟨rfl, B9.out⟩

  · have hqb : ((s.size : Int) == (xs.length : Int)) = false := beq_eq_false_iff_ne.2 (by omega)
    have B4 := B4'
    have hz4 := B4.out.size
    have H4 := Lib.hid (H'.out.below B4.out)
    clear B4' hq
    go_wp2_with fail
    refine (drawParse_one a' len' cap' zs' _ H4.out).mono ?_
    rintro e w5 ⟨t, ht, rfl, hB5⟩
    have B5 := Lib.hid (B4.out.trans (hB5.mono hz4))
    have hz5 := B5.out.size
    have T5 := Lib.hid (HT.out.below B5.out hw)
    obtain ⟨l, hl⟩ : ∃ l, t.data.toList = l := ⟨_, rfl⟩
    have HTL := Lib.hid hl
    have hll : (parseL l).length ≤ 1000 := by rw [← hl]; exact Nat.le_trans (parseL_len t) ht
    clear hB5 hl B4 H4
    go_wp2_with fail
    refine (iParse_one t _ (by omega) T5.out (by omega)).mono ?_
    rintro e w6 ⟨v6, rfl, hO6, hB6⟩
    rw [HTL.out]
    rw [HTL.out] at hO6
    obtain ⟨a6, cap6, rfl⟩ := hO6.shape
    have O6 := Lib.hid hO6
    have B6 := Lib.hid (B5.out.trans (hB6.mono hz5))
    have hz6 := B6.out.size
    have T6 := Lib.hid (HT.out.below B6.out hw)
    clear hO6 hB6
    go_wp2_with fail
    refine (sParse_one t _ (by omega)).mono ?_
    rintro e w7 ⟨v7, rfl, hO7, hB7⟩
    rw [HTL.out]
    rw [HTL.out] at hO7
    obtain ⟨a7, cap7, rfl⟩ := hO7.shape
    have S7 := Lib.hid hO7.sl.2
    have S6 := Lib.hid (O6.out.later hB7).sl.2
    have B7 := Lib.hid (B6.out.trans (hB7.mono hz6))
    have hz7 := B7.out.size
    clear hO7 hB7
    cases hp : parseOk l
    case false =>
      go_wp2_with fail
      refine (ctInts_one _ _ _ _ _ _ (parseL l) (parseL l) _ S6.out S7.out).mono ?_
      rintro e w8 ⟨rfl, m8, hw8⟩
      rw [eqL_self]
      have B8 : Hid (Below w.heap.size w w8) := by rw [hw8]; exact Below.drewN' B7.out m8
      clear hw8
      go_wp2_with fail
      go_ret
      exact ⟨rfl, B8.out⟩
    case true =>
      have TB : Hid ((⟨(fmtL (parseL l)).toArray⟩ : ByteArray) = t) := by
        have := text_back t (by rw [HTL.out]; exact hp)
        rwa [HTL.out] at this
      go_wp2_with fail
      refine (ctInts_one _ _ _ _ _ _ (parseL l) (parseL l) _ S6.out S7.out).mono ?_
      rintro e w8 ⟨rfl, m8, hw8⟩
      rw [eqL_self]
      have B8 : Hid (Below w.heap.size w w8) := by rw [hw8]; exact Below.drewN' B7.out m8
      have hz8 := B8.out.size
      have S8 : Hid (SliceI w8 a6 (parseL l).length (parseL l)) := by rw [hw8]; exact S6.out
      have T8 := Lib.hid (HT.out.below B8.out hw)
      clear hw8
      go_wp2_with fail
      refine (iFormat_one a6 (parseL l).length cap6 (parseL l) _ S8.out (by omega) T8.out (by omega)).mono ?_
      rintro e w9 ⟨rfl, hB9⟩
      rw [TB.out]
      have B9 := Lib.hid (B8.out.trans (hB9.mono hz8))
      clear hB9
      go_wp2_with fail
      go_ret
      exact ⟨rfl, B9.out⟩


end Go.Proofs.YtmajmchiflggjaaDoor

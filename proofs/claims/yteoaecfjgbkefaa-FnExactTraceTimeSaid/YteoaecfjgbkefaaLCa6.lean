/- The law FnExactTraceTime, walked: at every cache and every trace the call returns true; nothing that was there has changed. -/
import Derived.Test.YteoaecfjgbkefaaCaQ
import Derived.Test.YteoaecfjgbkefaaCaH
import Derived.Test.YteoaecfjgbkefaaToE
import Derived.Deep.RegionWith
import Derived.Deep.RegionHeld3
namespace Go.Proofs.Yteoaecfjgbkefaa
open Go.RowKit
set_option linter.unusedVariables false

set_option maxRecDepth 100000 in
set_option maxHeartbeats 8000000 in
theorem law_FnExactTraceTime (xs : List Int) (es : List Ev) (a : Option Addr) (n c : Nat) (ea : Option Addr) (ec : Nat) (w : World) (h : SliceI w a n xs) (he : EvL w es ea ec) :
    Calls Try.prog 14 #[aggCa a n c, .slice ea es.length ec] w (YN true w) := by
  have hn := h.1
  have hem := Nat.le_trans he.1 he.2.1
  obtain ⟨en, hen⟩ : ∃ en, es.length = en := ⟨_, rfl⟩
  rw [hen] at hem ⊢
  have HN := Lib.hid hen
  have HM : Hid (∀ u, Below w.heap.size w u → SliceI u a n xs) := fun u hu => h.below hu
  have HEM : Hid (∀ u, Below w.heap.size w u → EvL u es ea ec) := fun u hu => he.below hu
  obtain ⟨T, hT⟩ : ∃ T, ttP xs es = T := ⟨_, rfl⟩
  have HT := Lib.hid hT
  clear h he hen hT
  have HEQ : Hid (∀ ys : List Int, eqL ys ys = true) := fun ys => decide_eq_true rfl
  have HB := Lib.hid ((Below.refl w.heap.size w).alloc (Nat.le_refl _) (.cells #[.slice a n c] 47))
  have HX := Lib.hid (BoxCa.new w a n c 47)
  go_enter Try.func14, Try.ntmps14
  go_wp2_with fail
  obtain ⟨W, hW⟩ : ∃ W, (w.alloc (.cells #[.slice a n c] 47)) = W := ⟨_, rfl⟩
  rw [hW] at HB HX ⊢
  clear hW
  refine (szCa_one a n c W hn).mono ?_
  rintro f w2 ⟨v1, rfl, hv1, hv2, hs1, hb1⟩
  have HB2 := Lib.hid (HB.out.trans (hb1.mono HB.out.size))
  have HX2 := Lib.hid (HX.out.below hb1)
  by_cases n1 : v1 < 0
  · clear hs1 hb1 HX
    go_wp2_with fail
    go_ret
    exact YN.of rfl HB2.out
  have hz : n ≤ 1048576 := hs1 (by omega)
  clear hs1 hb1 HX
  go_wp2_with fail
  refine (szEv_one ea en ec v1 w2 (by omega) hv1 hem).mono ?_
  rintro f w2' ⟨v2, rfl, hv3, hs2, hw2⟩
  obtain rfl : w2 = w2' := hw2.symm
  by_cases n2 : v2 < 0
  · clear hs2
    go_wp2_with fail
    go_ret
    exact YN.of rfl HB2.out
  have hez : en ≤ 1048576 := by have := hs2 (by omega); omega
  clear hs2 hv3
  have HS : Hid (∀ u, Below w2.heap.size w2 u → u.cell? ⟨w.heap.size, 0, none⟩ = some (.slice a n c)) := fun u hu => (HX2.out.below hu).c0
  have HW : Hid (∀ u, Below w2.heap.size w2 u → SliceI u a n xs) := fun u hu => HM.out _ (HB2.out.trans (hu.mono HB2.out.size))
  have HE : Hid (∀ u, Below w2.heap.size w2 u → EvL u es ea ec) := fun u hu => HEM.out _ (HB2.out.trans (hu.mono HB2.out.size))
  have x0 := HS.out w2 (Below.refl _ _)
  clear HM HEM
  go_wp2_with fail
  refine (toCa_one a n c xs w2 (HW.out _ (Below.refl _ _)) hz).mono ?_
  rintro f w3 ⟨a3, m3, c3, rfl, hm3, ho3, hb3⟩
  have HS3 := Lib.hid ho3.sl.1
  have HB3 := Lib.hid hb3
  clear hm3 hb3 ho3 x0
  go_wp2_with fail
  refine (toER_one es ea en ec w3 (HE.out _ HB3.out) HN.out hez).mono ?_
  rintro f w4 ⟨a4, n4, c4, rfl, hn4, hr4, hb4⟩
  obtain rfl : en = n4 := by rw [← hn4]; exact HN.out.symm
  have HE4 := Lib.hid (hr4.evl' hn4)
  have HB4 : Hid (Below w2.heap.size w2 w4) := HB3.out.trans (hb4.mono HB3.out.size)
  have HS4 := Lib.hid (HS3.out.below hb4)
  clear hr4 hb4 hn4 HB3 HS3
  go_wp2_with fail
  refine (sTT_one xs es a3 m3 c3 a4 en c4 w4 HS4.out HE4.out HN.out hez).mono ?_
  rintro f w5 ⟨rfl, hb5⟩
  rw [HT.out]
  have HB5 : Hid (Below w2.heap.size w2 w5) := HB4.out.trans (hb5.mono HB4.out.size)
  have x0 := HS.out w5 HB5.out
  clear hb5 HS4 HE4 HB4
  go_wp2_with fail
  refine (toCa_one a n c xs w5 (HW.out _ HB5.out) hz).mono ?_
  rintro f w6 ⟨a5, m5, c5, rfl, hm5, ho5, hb6⟩
  obtain ⟨u6, hu6⟩ : ∃ u6, w6.alloc (.cells #[.slice a5 m5 c5] 25) = u6 := ⟨_, rfl⟩
  have k6 : Below w6.heap.size w6 u6 := by rw [← hu6]; exact (Below.refl _ _).alloc (Nat.le_refl _) _
  have HX6 : Hid (BoxCa u6 w6.heap.size a5 m5 c5) := by rw [← hu6]; exact BoxCa.new _ _ _ _ _
  have HB6 : Hid (Below w2.heap.size w2 u6) := HB5.out.trans ((hb6.trans (k6.mono hb6.size)).mono HB5.out.size)
  have HC6 := Lib.hid (ho5.sl.1.below k6)
  have HU6 := Lib.hid hu6
  clear hu6 k6 hb6 ho5 hm5 x0
  go_wp2_with fail
  rw [HU6.out]
  refine (toER_one es ea en ec u6 (HE.out _ HB6.out) HN.out hez).mono ?_
  rintro f w7 ⟨a7, n7, c7, rfl, hn7, hr7, hb7⟩
  obtain rfl : en = n7 := by rw [← hn7]; exact HN.out.symm
  have HE7 := Lib.hid (hr7.evl' hn7)
  have HB7 : Hid (Below w2.heap.size w2 w7) := HB6.out.trans (hb7.mono HB6.out.size)
  have HC7 := Lib.hid (HC6.out.below hb7)
  have HX7 := Lib.hid (HX6.out.below hb7)
  have y0 := HX7.out.c0
  clear hr7 hb7 hn7
  go_wp2_with fail
  refine (iTT_one xs es a5 m5 c5 a7 en c7 w7 HC7.out HE7.out HN.out hez).mono ?_
  rintro f w8 ⟨rfl, hb8⟩
  rw [HT.out]
  have HB8 : Hid (Below w2.heap.size w2 w8) := HB7.out.trans (hb8.mono HB7.out.size)
  have HC8 := Lib.hid (HC7.out.below hb8)
  have HX8 := Lib.hid (HX7.out.below hb8)
  have HE8 := Lib.hid (HE7.out.below hb8)
  have HBD : Hid (Below w8.heap.size w8 w8.drew) := (Below.refl _ _).drew
  have f0 := HS.out w8 HB8.out
  have q0 := HX8.out.c0
  have HSQ : Hid (∀ u, Below w8.heap.size w8 u → u.cell? ⟨w.heap.size, 0, none⟩ = some (.slice a n c) ∧ u.cell? ⟨w6.heap.size, 0, none⟩ = some (.slice a5 m5 c5)) := fun u hu => ⟨HS.out u (HB8.out.trans (hu.mono HB8.out.size)), (HX8.out.below hu).c0⟩
  have HWQ : Hid (∀ u, Below w8.heap.size w8 u → SliceI u a n xs) := fun u hu => HW.out _ (HB8.out.trans (hu.mono HB8.out.size))
  clear hb8 y0
  go_wp2_with fail
  go_region_held3 (fun u => u.cell? ⟨w.heap.size, 0, none⟩ = some (.slice a n c) ∧ u.cell? ⟨w6.heap.size, 0, none⟩ = some (.slice a5 m5 c5)) (first | assumption | exact ⟨f0, q0⟩)
    (first
    | (go_at_call 38; (with_reducible refine (toCa_one a n c xs w8.drew (HWQ.out _ HBD.out) hz).mono ?_); rintro f u9 ⟨a9, m9, c9, rfl, hm9, ho9, hA⟩; have hA2 := HBD.out.trans hA; have hS1 := HSQ.out _ hA2; have HO9 := Lib.hid ho9.sl.1; clear hm9 ho9)
    | (go_at_call 39; (with_reducible refine (eqCa_one a5 a9 m5 m9 c5 c9 xs xs u9 (HC8.out.below hA2) HO9.out).mono ?_); rintro f u10 ⟨rfl, hE⟩; rw [HEQ.out]; have hB10 := hA2.trans (hE.mono hA2.size); have hS2 := HSQ.out _ hB10)
    | fail)
  have HB10 : Hid (Below w2.heap.size w2 u10) := HB8.out.trans (hB10.mono HB8.out.size)
  have HE10 := Lib.hid (HE8.out.below hB10)
  clear hB10 hA hA2 hE hS1 hS2 q0 f0 HSQ HC8 HWQ
  go_wp2_with fail
  refine (toER_one es ea en ec u10 (HE.out _ HB10.out) HN.out hez).mono ?_
  rintro f w11 ⟨a11, n11, c11, rfl, hn11, hr11, hb11⟩
  obtain rfl : en = n11 := by rw [← hn11]; exact HN.out.symm
  have HE11 := Lib.hid (hr11.evl' hn11)
  have HB11 : Hid (Below w2.heap.size w2 w11) := HB10.out.trans (hb11.mono HB10.out.size)
  have HE7' := Lib.hid (HE10.out.below hb11)
  clear hr11 hb11 hn11
  go_wp2_with fail
  refine (eqEvS_n es es a7 a11 en en c7 c11 w11 HE7'.out HE11.out HN.out HN.out).mono ?_
  rintro f w12 ⟨rfl, hb12⟩
  rw [show decide (es = es) = true from decide_eq_true rfl]
  have HB12 : Hid (Below w.heap.size w w12) := HB2.out.trans ((HB11.out.trans (hb12.mono HB11.out.size)).mono HB2.out.size)
  clear hb12
  go_wp2_with fail
  go_ret
  exact YN.of rfl HB12.out

end Go.Proofs.Yteoaecfjgbkefaa

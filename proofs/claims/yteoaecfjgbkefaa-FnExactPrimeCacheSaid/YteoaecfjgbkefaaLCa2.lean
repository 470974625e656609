/- The laws FnExactEmptyCache and FnExactPrimeCache, walked: each call returns true; nothing that was there has changed. -/
import Derived.Test.YteoaecfjgbkefaaCaJ
import Derived.Test.YteoaecfjgbkefaaCaH
namespace Go.Proofs.Yteoaecfjgbkefaa
open Go.RowKit
set_option linter.unusedVariables false

set_option maxHeartbeats 4000000 in
theorem law_FnExactEmptyCache (w : World) :
    Calls Try.prog 11 #[] w (YN true w) := by
  have HEQ : Hid (eqL [-1, -1] [-1, -1] = true) := decide_eq_true rfl
  go_enter Try.func11, Try.ntmps11
  go_wp2_with fail
  refine (sEmpty_one w).mono ?_
  rintro e w1 ⟨a1, n1, c1, rfl, hn1, ho1, hb1⟩
  obtain rfl : 2 = n1 := hn1
  obtain ⟨u1, hu1⟩ : ∃ u1, w1.alloc (.cells #[.slice a1 2 c1] 25) = u1 := ⟨_, rfl⟩
  have k1 : Below w1.heap.size w1 u1 := by rw [← hu1]; exact (Below.refl _ _).alloc (Nat.le_refl _) _
  have HX1 : Hid (BoxCa u1 w1.heap.size a1 2 c1) := by rw [← hu1]; exact BoxCa.new _ _ _ _ _
  have HS1 : Hid (SliceI u1 a1 2 [-1, -1]) := ho1.sl.1.below k1
  have HB1 : Hid (Below w.heap.size w u1) := hb1.trans (k1.mono hb1.size)
  have z1 := k1.size
  have HU1 := Lib.hid hu1
  clear hu1 k1 hb1 ho1
  go_wp2_with fail
  rw [HU1.out]
  refine (iEmpty_one u1).mono ?_
  rintro e w2 ⟨a2, n2, c2, rfl, hn2, ho2, hb2⟩
  obtain rfl : 2 = n2 := hn2
  obtain ⟨u2, hu2⟩ : ∃ u2, w2.alloc (.cells #[.slice a2 2 c2] 25) = u2 := ⟨_, rfl⟩
  have k2 : Below w2.heap.size w2 u2 := by rw [← hu2]; exact (Below.refl _ _).alloc (Nat.le_refl _) _
  have hx2 : BoxCa u2 w2.heap.size a2 2 c2 := by rw [← hu2]; exact BoxCa.new _ _ _ _ _
  have HB2 : Hid (Below u1.heap.size u1 u2) := hb2.trans (k2.mono hb2.size)
  have HO2 : Hid (OwnI u2 u1.heap.size (.slice a2 2 c2) [-1, -1]) := ho2.later k2
  have h2lt : ∀ g, (Value.slice a2 2 c2).ownBlock = some g → g < w2.heap.size := fun g hg => (ho2.lt g hg).2
  have H2LT := Lib.hid h2lt
  have z2 := hb2.size
  have z2' := k2.size
  have HX2 := Lib.hid hx2
  have HU2 := Lib.hid hu2
  clear hu2 k2 hb2 ho2 h2lt hx2
  have x1 : (w2.alloc (.cells #[.slice a2 2 c2] 25)).cell? ⟨w1.heap.size, 0, none⟩ = some (.slice a1 2 c1) := by rw [HU2.out]; exact (HX1.out.below HB2.out).c0
  go_wp2_with fail
  rw [HU2.out]
  refine (eqCa_one a2 a1 2 2 c2 c1 _ _ u2 HO2.out.sl.1 (HS1.out.below HB2.out)).mono ?_
  rintro e w3 ⟨rfl, hb3⟩
  rw [HEQ.out]
  have HB3 : Hid (Below u1.heap.size u1 w3) := HB2.out.trans (hb3.mono HB2.out.size)
  have HO3 := Lib.hid (HO2.out.later hb3)
  have HX3 := Lib.hid (HX2.out.below hb3)
  have z3 := hb3.size
  have x2 := HX3.out.c0
  clear hb3 x1
  go_wp2_with fail
  refine (markCa_one u1.heap.size 2 c2 a2 1 _ w3 HO3.out (by omega) (by omega) (by omega) (by omega)).mono ?_
  rintro e w4 ⟨rfl, ho4, z4, hb4, hst4⟩
  have HB4 : Hid (Below u1.heap.size u1 w4) := HB3.out.trans hb4
  have HO4 := Lib.hid ho4
  have HX4 : Hid (BoxCa w4 w2.heap.size a2 2 c2) := HX3.out.later (hst4 _ HX3.out.lt (fun e => by have := H2LT.out _ e; omega))
  have x2 := HX4.out.c0
  clear hb4 ho4 hst4
  go_wp2_with fail
  refine (heldCa_one 2 c2 a2 1 w4 HO4.out.sl.1 (by omega) (by omega) (by omega)).mono ?_
  rintro e w5 ⟨rfl, hb5⟩
  have HB5 : Hid (Below u1.heap.size u1 w5) := HB4.out.trans (hb5.mono (by omega))
  have HO5 := Lib.hid (HO4.out.later hb5)
  have HX5 := Lib.hid (HX4.out.below hb5)
  have z5 := hb5.size
  clear hb5 x2
  go_wp2_with fail
  refine (iEmpty_one w5).mono ?_
  rintro e w6 ⟨a6, n6, c6, rfl, hn6, ho6, hb6⟩
  obtain rfl : 2 = n6 := hn6
  obtain ⟨u6, hu6⟩ : ∃ u6, w6.alloc (.cells #[.slice a6 2 c6] 25) = u6 := ⟨_, rfl⟩
  have k6 : Below w6.heap.size w6 u6 := by rw [← hu6]; exact (Below.refl _ _).alloc (Nat.le_refl _) _
  have hx6 : BoxCa u6 w6.heap.size a6 2 c6 := by rw [← hu6]; exact BoxCa.new _ _ _ _ _
  have hb56 : Below w5.heap.size w5 u6 := hb6.trans (k6.mono hb6.size)
  have HB6 : Hid (Below u1.heap.size u1 u6) := HB5.out.trans (hb56.mono (by omega))
  have HS6 := Lib.hid (ho6.sl.1.below k6)
  have HO6 := Lib.hid (HO5.out.later hb56)
  have HX6 := Lib.hid (HX5.out.below hb56)
  have HY6 := Lib.hid hx6
  have HU6 := Lib.hid hu6
  have z6 := hb56.size
  clear hu6 k6 hx6 hb56 ho6 hb6
  have x1 : (w6.alloc (.cells #[.slice a6 2 c6] 25)).cell? ⟨w1.heap.size, 0, none⟩ = some (.slice a1 2 c1) := by rw [HU6.out]; exact (HX1.out.below HB6.out).c0
  go_wp2_with fail
  rw [HU6.out]
  refine (eqCa_one a6 a1 2 2 c6 c1 _ _ u6 HS6.out (HS1.out.below HB6.out)).mono ?_
  rintro e w7 ⟨rfl, hb7⟩
  rw [HEQ.out]
  have HB7 : Hid (Below u1.heap.size u1 w7) := HB6.out.trans (hb7.mono HB6.out.size)
  have HO7 := Lib.hid (HO6.out.later hb7)
  have x2 := (HX6.out.below hb7).c0
  clear hb7 x1
  go_wp2_with fail
  refine (heldCa_one 2 c2 a2 1 w7 HO7.out.sl.1 (by omega) (by omega) (by omega)).mono ?_
  rintro e w8 ⟨rfl, hb8⟩
  have HB8 : Hid (Below w.heap.size w w8) := HB1.out.trans ((HB7.out.trans (hb8.mono HB7.out.size)).mono HB1.out.size)
  clear hb8 x2
  go_wp2_with fail
  go_ret
  exact YN.of rfl HB8.out

set_option maxHeartbeats 4000000 in
theorem law_FnExactPrimeCache (w : World) :
    Calls Try.prog 15 #[] w (YN true w) := by
  have HEQ : Hid (eqL [-2, -2] [-2, -2] = true) := decide_eq_true rfl
  go_enter Try.func15, Try.ntmps15
  go_wp2_with fail
  refine (sPrime_one w).mono ?_
  rintro e w1 ⟨a1, n1, c1, rfl, hn1, ho1, hb1⟩
  obtain rfl : 2 = n1 := hn1
  obtain ⟨u1, hu1⟩ : ∃ u1, w1.alloc (.cells #[.slice a1 2 c1] 25) = u1 := ⟨_, rfl⟩
  have k1 : Below w1.heap.size w1 u1 := by rw [← hu1]; exact (Below.refl _ _).alloc (Nat.le_refl _) _
  have HX1 : Hid (BoxCa u1 w1.heap.size a1 2 c1) := by rw [← hu1]; exact BoxCa.new _ _ _ _ _
  have HS1 : Hid (SliceI u1 a1 2 [-2, -2]) := ho1.sl.1.below k1
  have HB1 : Hid (Below w.heap.size w u1) := hb1.trans (k1.mono hb1.size)
  have z1 := k1.size
  have HU1 := Lib.hid hu1
  clear hu1 k1 hb1 ho1
  go_wp2_with fail
  rw [HU1.out]
  refine (iPrime_one u1).mono ?_
  rintro e w2 ⟨a2, n2, c2, rfl, hn2, ho2, hb2⟩
  obtain rfl : 2 = n2 := hn2
  obtain ⟨u2, hu2⟩ : ∃ u2, w2.alloc (.cells #[.slice a2 2 c2] 25) = u2 := ⟨_, rfl⟩
  have k2 : Below w2.heap.size w2 u2 := by rw [← hu2]; exact (Below.refl _ _).alloc (Nat.le_refl _) _
  have hx2 : BoxCa u2 w2.heap.size a2 2 c2 := by rw [← hu2]; exact BoxCa.new _ _ _ _ _
  have HB2 : Hid (Below u1.heap.size u1 u2) := hb2.trans (k2.mono hb2.size)
  have HO2 : Hid (OwnI u2 u1.heap.size (.slice a2 2 c2) [-2, -2]) := ho2.later k2
  have h2lt : ∀ g, (Value.slice a2 2 c2).ownBlock = some g → g < w2.heap.size := fun g hg => (ho2.lt g hg).2
  have H2LT := Lib.hid h2lt
  have z2 := hb2.size
  have z2' := k2.size
  have HX2 := Lib.hid hx2
  have HU2 := Lib.hid hu2
  clear hu2 k2 hb2 ho2 h2lt hx2
  have x1 : (w2.alloc (.cells #[.slice a2 2 c2] 25)).cell? ⟨w1.heap.size, 0, none⟩ = some (.slice a1 2 c1) := by rw [HU2.out]; exact (HX1.out.below HB2.out).c0
  go_wp2_with fail
  rw [HU2.out]
  refine (eqCa_one a2 a1 2 2 c2 c1 _ _ u2 HO2.out.sl.1 (HS1.out.below HB2.out)).mono ?_
  rintro e w3 ⟨rfl, hb3⟩
  rw [HEQ.out]
  have HB3 : Hid (Below u1.heap.size u1 w3) := HB2.out.trans (hb3.mono HB2.out.size)
  have HO3 := Lib.hid (HO2.out.later hb3)
  have HX3 := Lib.hid (HX2.out.below hb3)
  have z3 := hb3.size
  have x2 := HX3.out.c0
  clear hb3 x1
  go_wp2_with fail
  refine (markCa_one u1.heap.size 2 c2 a2 1 _ w3 HO3.out (by omega) (by omega) (by omega) (by omega)).mono ?_
  rintro e w4 ⟨rfl, ho4, z4, hb4, hst4⟩
  have HB4 : Hid (Below u1.heap.size u1 w4) := HB3.out.trans hb4
  have HO4 := Lib.hid ho4
  have HX4 : Hid (BoxCa w4 w2.heap.size a2 2 c2) := HX3.out.later (hst4 _ HX3.out.lt (fun e => by have := H2LT.out _ e; omega))
  have x2 := HX4.out.c0
  clear hb4 ho4 hst4
  go_wp2_with fail
  refine (heldCa_one 2 c2 a2 1 w4 HO4.out.sl.1 (by omega) (by omega) (by omega)).mono ?_
  rintro e w5 ⟨rfl, hb5⟩
  have HB5 : Hid (Below u1.heap.size u1 w5) := HB4.out.trans (hb5.mono (by omega))
  have HO5 := Lib.hid (HO4.out.later hb5)
  have HX5 := Lib.hid (HX4.out.below hb5)
  have z5 := hb5.size
  clear hb5 x2
  go_wp2_with fail
  refine (iPrime_one w5).mono ?_
  rintro e w6 ⟨a6, n6, c6, rfl, hn6, ho6, hb6⟩
  obtain rfl : 2 = n6 := hn6
  obtain ⟨u6, hu6⟩ : ∃ u6, w6.alloc (.cells #[.slice a6 2 c6] 25) = u6 := ⟨_, rfl⟩
  have k6 : Below w6.heap.size w6 u6 := by rw [← hu6]; exact (Below.refl _ _).alloc (Nat.le_refl _) _
  have hx6 : BoxCa u6 w6.heap.size a6 2 c6 := by rw [← hu6]; exact BoxCa.new _ _ _ _ _
  have hb56 : Below w5.heap.size w5 u6 := hb6.trans (k6.mono hb6.size)
  have HB6 : Hid (Below u1.heap.size u1 u6) := HB5.out.trans (hb56.mono (by omega))
  have HS6 := Lib.hid (ho6.sl.1.below k6)
  have HO6 := Lib.hid (HO5.out.later hb56)
  have HX6 := Lib.hid (HX5.out.below hb56)
  have HY6 := Lib.hid hx6
  have HU6 := Lib.hid hu6
  have z6 := hb56.size
  clear hu6 k6 hx6 hb56 ho6 hb6
  have x1 : (w6.alloc (.cells #[.slice a6 2 c6] 25)).cell? ⟨w1.heap.size, 0, none⟩ = some (.slice a1 2 c1) := by rw [HU6.out]; exact (HX1.out.below HB6.out).c0
  go_wp2_with fail
  rw [HU6.out]
  refine (eqCa_one a6 a1 2 2 c6 c1 _ _ u6 HS6.out (HS1.out.below HB6.out)).mono ?_
  rintro e w7 ⟨rfl, hb7⟩
  rw [HEQ.out]
  have HB7 : Hid (Below u1.heap.size u1 w7) := HB6.out.trans (hb7.mono HB6.out.size)
  have HO7 := Lib.hid (HO6.out.later hb7)
  have x2 := (HX6.out.below hb7).c0
  clear hb7 x1
  go_wp2_with fail
  refine (heldCa_one 2 c2 a2 1 w7 HO7.out.sl.1 (by omega) (by omega) (by omega)).mono ?_
  rintro e w8 ⟨rfl, hb8⟩
  have HB8 : Hid (Below w.heap.size w w8) := HB1.out.trans ((HB7.out.trans (hb8.mono HB7.out.size)).mono HB1.out.size)
  clear hb8 x2
  go_wp2_with fail
  go_ret
  exact YN.of rfl HB8.out

end Go.Proofs.Yteoaecfjgbkefaa

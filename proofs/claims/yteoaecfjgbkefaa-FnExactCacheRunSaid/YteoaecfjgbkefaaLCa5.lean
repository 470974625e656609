/- The law FnExactCacheRun, walked: at every cache and every trace the call returns true; nothing that was there has changed. -/
import Derived.Test.YteoaecfjgbkefaaCaX
import Derived.Test.YteoaecfjgbkefaaCaH
import Derived.Test.YteoaecfjgbkefaaToE
import Derived.Test.YteoaecfjgbkefaaMkEB
import Derived.Deep.RegionWith
import Derived.Deep.RegionHeld3
namespace Go.Proofs.Yteoaecfjgbkefaa
open Go.RowKit
set_option linter.unusedVariables false

theorem OwnB.ba' {v : World} {base n cap : Nat} {a : Option Addr} {bs : List Bool} (h : OwnB v base (.slice a n cap) bs) : BAt v (fun j => j < v.heap.size) bs a := (h.bat.2.2.2).wide (fun _ _ => rfl) fun _ hk => hk.2

set_option maxRecDepth 100000 in
set_option maxHeartbeats 16000000 in
theorem law_FnExactCacheRun (xs : List Int) (es : List Ev) (a : Option Addr) (n c : Nat) (ea : Option Addr) (ec : Nat) (w : World) (h : SliceI w a n xs) (he : EvL w es ea ec) :
    Calls Try.prog 13 #[aggCa a n c, .slice ea es.length ec] w (YN true w) := by
  have hn := h.1
  have hem := Nat.le_trans he.1 he.2.1
  obtain ⟨en, hen⟩ : ∃ en, es.length = en := ⟨_, rfl⟩
  rw [hen] at hem ⊢
  have HN := Lib.hid hen
  have HM : Hid (∀ u, Below w.heap.size w u → SliceI u a n xs) := fun u hu => h.below hu
  have HEM : Hid (∀ u, Below w.heap.size w u → EvL u es ea ec) := fun u hu => he.below hu
  obtain ⟨L, H, q, hcr⟩ : ∃ L H q, crP xs es = (L, H, q) := ⟨_, _, _, rfl⟩
  have hLH := crP_len hcr
  obtain ⟨hL2, hHen⟩ := hLH
  rw [hen] at hHen
  have HSA : Hid (en ≤ 1048576 → ∀ (a : Option Addr) (n cp : Nat) (ea : Option Addr) (ec : Nat) (u : World), SliceI u a n xs → EvL u es ea ec → Calls Try.prog 25 #[aggCa a n cp, .slice ea en ec] u (CrQ L H q u)) := fun hm a n cp ea ec u h1 h2 => by
    have := sCR_one xs es a n cp ea en ec u h1 h2 hen hm
    rw [hcr] at this
    exact this
  have HIA : Hid (en ≤ 1048576 → ∀ (a : Option Addr) (n cp : Nat) (ea : Option Addr) (ec : Nat) (u : World), SliceI u a n xs → EvL u es ea ec → Calls Try.prog 24 #[aggCa a n cp, .slice ea en ec] u (CrQ L H q u)) := fun hm a n cp ea ec u h1 h2 => by
    have := iCR_one xs es a n cp ea en ec u h1 h2 hen hm
    rw [hcr] at this
    exact this
  clear h he hen hcr
  have HEQ : Hid (∀ ys : List Int, eqL ys ys = true) := fun ys => decide_eq_true rfl
  have HB := Lib.hid ((Below.refl w.heap.size w).alloc (Nat.le_refl _) (.cells #[.slice a n c] 47))
  have HX := Lib.hid (BoxCa.new w a n c 47)
  go_enter Try.func13, Try.ntmps13
  go_wp2_with fail
  obtain ⟨W, hW⟩ : ∃ W, (w.alloc (.cells #[.slice a n c] 47)) = W := ⟨_, rfl⟩
  rw [hW] at HB HX ⊢
  clear hW
  refine (szCa_one a n c W hn).mono ?_
  rintro f w2 ⟨v1, rfl, hv1, hv2, hs1, hb1⟩
  have HB2 := Lib.hid (HB.out.trans (hb1.mono HB.out.size))
  have HX2 := Lib.hid (HX.out.below hb1)
  by_cases n1 : v1 < 0
  · clear hs1 hb1 HX
    go_wp2_with fail
    go_ret
    exact YN.of rfl HB2.out
  have hz : n ≤ 1048576 := hs1 (by omega)
  clear hs1 hb1 HX
  go_wp2_with fail
  refine (szEv_one ea en ec v1 w2 (by omega) hv1 hem).mono ?_
  rintro f w2' ⟨v2, rfl, hv3, hs2, hw2⟩
  obtain rfl : w2 = w2' := hw2.symm
  by_cases n2 : v2 < 0
  · clear hs2
    go_wp2_with fail
    go_ret
    exact YN.of rfl HB2.out
  have hez : en ≤ 1048576 := by have := hs2 (by omega); omega
  clear hs2 hv3
  have HSB := Lib.hid (HSA.out hez)
  have HIB := Lib.hid (HIA.out hez)
  have HS : Hid (∀ u, Below w2.heap.size w2 u → u.cell? ⟨w.heap.size, 0, none⟩ = some (.slice a n c)) := fun u hu => (HX2.out.below hu).c0
  have HW : Hid (∀ u, Below w2.heap.size w2 u → SliceI u a n xs) := fun u hu => HM.out _ (HB2.out.trans (hu.mono HB2.out.size))
  have HE : Hid (∀ u, Below w2.heap.size w2 u → EvL u es ea ec) := fun u hu => HEM.out _ (HB2.out.trans (hu.mono HB2.out.size))
  have x0 := HS.out w2 (Below.refl _ _)
  clear HM HEM HSA HIA
  go_wp2_with fail
  -- the model
  refine (toCa_one a n c xs w2 (HW.out _ (Below.refl _ _)) hz).mono ?_
  rintro f w3 ⟨a3, m3, c3, rfl, hm3, ho3, hb3⟩
  have HS3 := Lib.hid ho3.sl.1
  have HB3 := Lib.hid hb3
  clear hm3 hb3 ho3 x0
  go_wp2_with fail
  refine (toER_one es ea en ec w3 (HE.out _ HB3.out) HN.out hez).mono ?_
  rintro f w4 ⟨a4, n4, c4, rfl, hn4, hr4, hb4⟩
  obtain rfl : en = n4 := by rw [← hn4]; exact HN.out.symm
  have HE4 := Lib.hid (hr4.evl' hn4)
  have HB4 : Hid (Below w2.heap.size w2 w4) := HB3.out.trans (hb4.mono HB3.out.size)
  have HS4 := Lib.hid (HS3.out.below hb4)
  clear hr4 hb4 hn4 HB3 HS3
  go_wp2_with fail
  refine (HSB.out a3 m3 c3 a4 c4 w4 HS4.out HE4.out).mono ?_
  rintro f w5 ⟨a1, n1, c1, b1, m1, d1, rfl, hn1, hm1, ho1, hq1, hb5⟩
  have hn2' : n1 ≤ 2 := by omega
  have hm1e : m1 ≤ 1048576 := by omega
  have HN1 := Lib.hid hn1
  have HM1 := Lib.hid hm1
  obtain ⟨u1, hu1⟩ : ∃ u1, w5.alloc (.cells #[.slice a1 n1 c1] 25) = u1 := ⟨_, rfl⟩
  have k1 : Below w5.heap.size w5 u1 := by rw [← hu1]; exact (Below.refl _ _).alloc (Nat.le_refl _) _
  have HX1 : Hid (BoxCa u1 w5.heap.size a1 n1 c1) := by rw [← hu1]; exact BoxCa.new _ _ _ _ _
  have HS1 : Hid (SliceI u1 a1 n1 L) := ho1.sl.1.below k1
  have HQ1 : Hid (BAt u1 (fun j => j < u1.heap.size) H b1) := (hq1.later k1).ba'
  have HB5 : Hid (Below w2.heap.size w2 u1) := HB4.out.trans ((hb5.trans (k1.mono hb5.size)).mono HB4.out.size)
  have x0 : (w5.alloc (.cells #[.slice a1 n1 c1] 25)).cell? ⟨w.heap.size, 0, none⟩ = some (.slice a n c) := by rw [hu1]; exact HS.out u1 HB5.out
  have HU1 := Lib.hid hu1
  clear hu1 k1 hb5 ho1 hq1 hn1 hm1 HS4 HE4 HB4 hHen
  go_wp2_with fail
  rw [HU1.out]
  -- the arguments' copies
  refine (toCa_one a n c xs u1 (HW.out _ HB5.out) hz).mono ?_
  rintro f w6 ⟨a5, m5, c5, rfl, hm5, ho5, hb6⟩
  have hmn : m5 = n := by rw [← hm5]; exact (HW.out _ HB5.out).2.1
  obtain ⟨u6, hu6⟩ : ∃ u6, w6.alloc (.cells #[.slice a5 m5 c5] 25) = u6 := ⟨_, rfl⟩
  have k6 : Below w6.heap.size w6 u6 := by rw [← hu6]; exact (Below.refl _ _).alloc (Nat.le_refl _) _
  have hx6 : BoxCa u6 w6.heap.size a5 m5 c5 := by rw [← hu6]; exact BoxCa.new _ _ _ _ _
  have HB6 : Hid (Below u1.heap.size u1 u6) := hb6.trans (k6.mono hb6.size)
  have HO6 : Hid (OwnI u6 u1.heap.size (.slice a5 m5 c5) xs) := ho5.later k6
  have H6LT : Hid (∀ g, (Value.slice a5 m5 c5).ownBlock = some g → g < w6.heap.size) := fun g hg => (ho5.lt g hg).2
  have z6 : w6.heap.size + 1 ≤ u6.heap.size := by rw [← hu6]; simp
  have z6' := hb6.size
  have HX6 := Lib.hid hx6
  have HU6 := Lib.hid hu6
  clear hu6 k6 hb6 ho5 hx6 x0 hm5
  have hm5' : m5 ≤ 1048576 := by omega
  clear hmn
  go_wp2_with fail
  rw [HU6.out]
  refine (toER_one es ea en ec u6 (HE.out _ (HB5.out.trans (HB6.out.mono HB5.out.size))) HN.out hez).mono ?_
  rintro f u7 ⟨a7, n7, c7, rfl, hn7, hr7, hb7⟩
  obtain rfl : en = n7 := by rw [← hn7]; exact HN.out.symm
  have HE7 := Lib.hid (hr7.evl' hn7)
  have HR7 := Lib.hid hr7
  have H7LT : Hid (∀ g, (Value.slice a7 en c7).ownBlock = some g → u6.heap.size ≤ g ∧ g < u7.heap.size) := fun g hg => hr7.lt g hg
  have HB7 : Hid (Below u1.heap.size u1 u7) := HB6.out.trans (hb7.mono HB6.out.size)
  have HO7 := Lib.hid (HO6.out.later hb7)
  have HX7 := Lib.hid (HX6.out.below hb7)
  have z7 := hb7.size
  have y0 := HX7.out.c0
  clear hr7 hb7 hn7 HO6 HX6
  go_wp2_with fail
  -- the program
  refine (HIB.out a5 m5 c5 a7 c7 u7 HO7.out.sl.1 HE7.out).mono ?_
  rintro f w8 ⟨a2, n2', c2, b2, m2', d2, rfl, hn2, hm2, ho2, hq2, hb8⟩
  obtain rfl : n1 = n2' := by rw [← hn2]; exact HN1.out.symm
  obtain rfl : m1 = m2' := by rw [← hm2]; exact HM1.out.symm
  obtain ⟨u8, hu8⟩ : ∃ u8, w8.alloc (.cells #[.slice a2 n1 c2] 25) = u8 := ⟨_, rfl⟩
  have k8 : Below w8.heap.size w8 u8 := by rw [← hu8]; exact (Below.refl _ _).alloc (Nat.le_refl _) _
  have hb78 : Below u7.heap.size u7 u8 := hb8.trans (k8.mono hb8.size)
  have HX8 : Hid (BoxCa u8 w8.heap.size a2 n1 c2) := by rw [← hu8]; exact BoxCa.new _ _ _ _ _
  have HY8 := Lib.hid (HX7.out.below hb78)
  have HO8 := Lib.hid (HO7.out.later hb78)
  have HE8 : Hid (RowEv u8 u6.heap.size (.slice a7 en c7) (prs es)) := HR7.out.stand fun g hg hg' => hb78.block g hg'
  have HP8 : Hid (OwnI u8 u7.heap.size (.slice a2 n1 c2) L) := ho2.later k8
  have HQ8 : Hid (OwnB u8 u7.heap.size (.slice b2 m1 d2) H) := hq2.later k8
  have H8LT : Hid (∀ g, (Value.slice a2 n1 c2).ownBlock = some g → g < w8.heap.size) := fun g hg => (ho2.lt g hg).2
  have H8LB : Hid (∀ g, (Value.slice b2 m1 d2).ownBlock = some g → g < w8.heap.size) := fun g hg => (hq2.lt g hg).2
  have HB8 : Hid (Below u1.heap.size u1 u8) := HB7.out.trans (hb78.mono HB7.out.size)
  have z8 : w8.heap.size + 1 ≤ u8.heap.size := by rw [← hu8]; simp
  have z8' := hb8.size
  have HU8 := Lib.hid hu8
  have x1 : (w8.alloc (.cells #[.slice a2 n1 c2] 25)).cell? ⟨w5.heap.size, 0, none⟩ = some (.slice a1 n1 c1) := by rw [hu8]; exact (HX1.out.below HB8.out).c0
  clear hu8 k8 hb8 ho2 hq2 hb78 hn2 hm2 HX7 HO7 HR7 HE7 y0
  cases q
  all_goals
    go_wp2_with fail
    rw [HU8.out]
    refine (eqCa_one a2 a1 n1 n1 c2 c1 _ _ u8 HP8.out.sl.1 (HS1.out.below HB8.out)).mono ?_
    rintro f w9 ⟨rfl, hb9⟩
    rw [HEQ.out]
    have HB9 : Hid (Below u1.heap.size u1 w9) := HB8.out.trans (hb9.mono HB8.out.size)
    have HO9 := Lib.hid (HO8.out.later hb9)
    have HE9 : Hid (RowEv w9 u6.heap.size (.slice a7 en c7) (prs es)) := HE8.out.stand fun g hg hg' => hb9.block g hg'
    have HP9 := Lib.hid (HP8.out.later hb9)
    have HQ9 := Lib.hid (HQ8.out.later hb9)
    have HX9 := Lib.hid (HX8.out.below hb9)
    have HY9 := Lib.hid (HY8.out.below hb9)
    have z9 := hb9.size
    clear hb9 x1
    go_wp2_with fail
    refine (eqBS_one H H b2 b1 m1 m1 d2 d1 w9 HQ9.out.ba' (HQ1.out.below HB9.out) HM1.out HM1.out).mono ?_
    rintro f w10 ⟨rfl, hb10⟩
    rw [show decide (H = H) = true from decide_eq_true rfl]
    have HB10 : Hid (Below u1.heap.size u1 w10) := HB9.out.trans (hb10.mono HB9.out.size)
    have HO10 := Lib.hid (HO9.out.later hb10)
    have HE10 : Hid (RowEv w10 u6.heap.size (.slice a7 en c7) (prs es)) := HE9.out.stand fun g hg hg' => hb10.block g hg'
    have HP10 := Lib.hid (HP9.out.later hb10)
    have HQ10 := Lib.hid (HQ9.out.later hb10)
    have HX10 := Lib.hid (HX9.out.below hb10)
    have HY10 := Lib.hid (HY9.out.below hb10)
    have z10 := hb10.size
    have HBD : Hid (Below w10.heap.size w10 w10.drew) := (Below.refl _ _).drew
    have HB210 : Hid (Below w2.heap.size w2 w10) := HB5.out.trans (HB10.out.mono HB5.out.size)
    have f0 := HS.out w10 HB210.out
    have q0 := HY10.out.c0
    have HSQ : Hid (∀ u, Below w10.heap.size w10 u → u.cell? ⟨w.heap.size, 0, none⟩ = some (.slice a n c) ∧ u.cell? ⟨w6.heap.size, 0, none⟩ = some (.slice a5 m5 c5)) := fun u hu => ⟨HS.out u (HB210.out.trans (hu.mono HB210.out.size)), (HY10.out.below hu).c0⟩
    have HWQ : Hid (∀ u, Below w10.heap.size w10 u → SliceI u a n xs) := fun u hu => HW.out _ (HB210.out.trans (hu.mono HB210.out.size))
    have HC10 := Lib.hid HO10.out.sl.1
    clear hb10 HO9 HE9 HP9 HQ9 HX9 HY9
    go_wp2_with fail
    go_region_held3 (fun u => u.cell? ⟨w.heap.size, 0, none⟩ = some (.slice a n c) ∧ u.cell? ⟨w6.heap.size, 0, none⟩ = some (.slice a5 m5 c5)) (first | assumption | exact ⟨f0, q0⟩)
      (first
      | (go_at_call 38; (with_reducible refine (toCa_one a n c xs w10.drew (HWQ.out _ HBD.out) hz).mono ?_); rintro f u9 ⟨a9, m9, c9, rfl, hm9, ho9, hA⟩; have hA2 := HBD.out.trans hA; have hS1 := HSQ.out _ hA2; have HO9 := Lib.hid ho9.sl.1; clear hm9 ho9)
      | (go_at_call 39; (with_reducible refine (eqCa_one a5 a9 m5 m9 c5 c9 xs xs u9 (HC10.out.below hA2) HO9.out).mono ?_); rintro f u10 ⟨rfl, hE⟩; rw [HEQ.out]; have hB10 := hA2.trans (hE.mono hA2.size); have hS2 := HSQ.out _ hB10)
      | fail)
    have zu10 := hB10.size
    have HB11 : Hid (Below u1.heap.size u1 u10) := HB10.out.trans (hB10.mono HB10.out.size)
    have HO11 := Lib.hid (HO10.out.later hB10)
    have HE11 : Hid (RowEv u10 u6.heap.size (.slice a7 en c7) (prs es)) := HE10.out.stand fun g hg hg' => hB10.block g hg'
    have HP11 := Lib.hid (HP10.out.later hB10)
    have HQ11 := Lib.hid (HQ10.out.later hB10)
    have HX11 := Lib.hid (HX10.out.below hB10)
    have HY11 := Lib.hid (HY10.out.below hB10)
    have HB211 : Hid (Below w2.heap.size w2 u10) := HB5.out.trans (HB11.out.mono HB5.out.size)
    clear hB10 hA hA2 hE hS1 hS2 q0 f0 HSQ HC10 HWQ HO10 HE10 HP10 HQ10 HX10 HY10
    go_wp2_with fail
    refine (toER_one es ea en ec u10 (HE.out _ HB211.out) HN.out hez).mono ?_
    rintro f w12 ⟨a12, n12, c12, rfl, hn12, hr12, hb12⟩
    obtain rfl : en = n12 := by rw [← hn12]; exact HN.out.symm
    have HF12 := Lib.hid (hr12.evl' hn12)
    have HB12 : Hid (Below u1.heap.size u1 w12) := HB11.out.trans (hb12.mono HB11.out.size)
    have HO12 := Lib.hid (HO11.out.later hb12)
    have HE12 : Hid (RowEv w12 u6.heap.size (.slice a7 en c7) (prs es)) := HE11.out.stand fun g hg hg' => hb12.block g hg'
    have HP12 := Lib.hid (HP11.out.later hb12)
    have HQ12 := Lib.hid (HQ11.out.later hb12)
    have HX12 := Lib.hid (HX11.out.below hb12)
    have HY12 := Lib.hid (HY11.out.below hb12)
    have z12 := hb12.size
    clear hr12 hb12 hn12 HO11 HE11 HP11 HQ11 HX11 HY11
    go_wp2_with fail
    refine (eqEvS_n es es a7 a12 en en c7 c12 w12 (HE12.out.evl' HN.out) HF12.out HN.out HN.out).mono ?_
    rintro f w13 ⟨rfl, hb13⟩
    rw [show decide (es = es) = true from decide_eq_true rfl]
    have HB13 : Hid (Below u1.heap.size u1 w13) := HB12.out.trans (hb13.mono HB12.out.size)
    have HO13 := Lib.hid (HO12.out.later hb13)
    have HE13 : Hid (RowEv w13 u6.heap.size (.slice a7 en c7) (prs es)) := HE12.out.stand fun g hg hg' => hb13.block g hg'
    have HP13 := Lib.hid (HP12.out.later hb13)
    have HQ13 := Lib.hid (HQ12.out.later hb13)
    have HX13 := Lib.hid (HX12.out.below hb13)
    have y0 := (HY12.out.below hb13).c0
    have z13 := hb13.size
    clear hb13 HO12 HE12 HP12 HQ12 HX12 HY12 HF12
    go_wp2_with fail
    -- marks in the arguments' copies
    refine (markCa_one u1.heap.size m5 c5 a5 1 _ w13 HO13.out (by omega) hm5' (by omega) (by omega)).mono ?_
    rintro f w14 ⟨rfl, ho14, z14, hb14, hst14⟩
    have HB14 : Hid (Below u1.heap.size u1 w14) := HB13.out.trans hb14
    have HE14 : Hid (RowEv w14 u6.heap.size (.slice a7 en c7) (prs es)) := HE13.out.stand fun g hg hg' => hst14 g hg' (fun e => by have h1 := H6LT.out _ e; have h2 := (H7LT.out g hg).1; omega)
    have HX14 : Hid (BoxCa w14 w8.heap.size a2 n1 c2) := HX13.out.later (hst14 _ HX13.out.lt (fun e => by have := H6LT.out _ e; omega))
    have HP14 : Hid (OwnI w14 u7.heap.size (.slice a2 n1 c2) L) := HP13.out.far fun g hg hg' => hst14 g hg' (fun e => by have h1 := H6LT.out _ e; have h2 := (HP13.out.lt g hg).1; omega)
    have HQ14 : Hid (OwnB w14 u7.heap.size (.slice b2 m1 d2) H) := HQ13.out.far fun g hg hg' => hst14 g hg' (fun e => by have h1 := H6LT.out _ e; have h2 := (HQ13.out.lt g hg).1; omega)
    clear hb14 ho14 hst14 y0 HO13 HE13 HP13 HQ13 HX13
    go_wp2_with fail
    refine (markEvS_one u6.heap.size en c7 a7 (1 + (m5 : Int)) (prs es) w14 HE14.out hez (by omega) (by omega)).mono ?_
    rintro f w15 ⟨rfl, hr15, z15, hb15, hst15⟩
    have z15' : w14.heap.size ≤ w15.heap.size := by omega
    have HB15 : Hid (Below u1.heap.size u1 w15) := HB14.out.trans (hb15.mono (by omega))
    have HX15 : Hid (BoxCa w15 w8.heap.size a2 n1 c2) := HX14.out.later (hst15 _ (fun e => by have := (H7LT.out _ e).2; omega))
    have HP15 : Hid (OwnI w15 u7.heap.size (.slice a2 n1 c2) L) := HP14.out.far fun g hg hg' => hst15 g (fun e => by have h1 := (H7LT.out _ e).2; have h2 := (HP14.out.lt g hg).1; omega)
    have HQ15 : Hid (OwnB w15 u7.heap.size (.slice b2 m1 d2) H) := HQ14.out.far fun g hg hg' => hst15 g (fun e => by have h1 := (H7LT.out _ e).2; have h2 := (HQ14.out.lt g hg).1; omega)
    have x2 := HX15.out.c0
    have x1 := (HX1.out.below HB15.out).c0
    have hk1 : ¬ ((1 : Int) + (m5 : Int) + 2 * (en : Int) < 0) := by omega
    clear hb15 hr15 hst15 z15 HE14 HP14 HQ14 HX14
    go_wp2_with fail
    refine (eqCa_one a2 a1 n1 n1 c2 c1 _ _ w15 HP15.out.sl.1 (HS1.out.below HB15.out)).mono ?_
    rintro f w16 ⟨rfl, hb16⟩
    rw [HEQ.out]
    have HB16 : Hid (Below u1.heap.size u1 w16) := HB15.out.trans (hb16.mono HB15.out.size)
    have HP16 := Lib.hid (HP15.out.later hb16)
    have HQ16 := Lib.hid (HQ15.out.later hb16)
    have HX16 := Lib.hid (HX15.out.below hb16)
    have z16 := hb16.size
    clear hb16 x1 x2 hk1 HP15 HQ15 HX15
    go_wp2_with fail
    refine (eqBS_one H H b2 b1 m1 m1 d2 d1 w16 HQ16.out.ba' (HQ1.out.below HB16.out) HM1.out HM1.out).mono ?_
    rintro f w17 ⟨rfl, hb17⟩
    rw [show decide (H = H) = true from decide_eq_true rfl]
    have HB17 : Hid (Below u1.heap.size u1 w17) := HB16.out.trans (hb17.mono HB16.out.size)
    have HP17 := Lib.hid (HP16.out.later hb17)
    have HQ17 := Lib.hid (HQ16.out.later hb17)
    have HX17 := Lib.hid (HX16.out.below hb17)
    have z17 := hb17.size
    have x2 := HX17.out.c0
    clear hb17 HP16 HQ16 HX16
    go_wp2_with fail
    -- marks in the answer
    refine (markCa_one u7.heap.size n1 c2 a2 1 _ w17 HP17.out (by omega) (by omega) (by omega) (by omega)).mono ?_
    rintro f w18 ⟨rfl, ho18, z18, hb18, hst18⟩
    have HB18 : Hid (Below u1.heap.size u1 w18) := HB17.out.trans (hb18.mono (by omega))
    have HP18 := Lib.hid ho18
    have HQ18 : Hid (OwnB w18 u7.heap.size (.slice b2 m1 d2) H) := HQ17.out.far fun g hg hg' => hst18 g hg' (fun e => apartIB HP17.out HQ17.out g e hg)
    have HX18 : Hid (BoxCa w18 w8.heap.size a2 n1 c2) := HX17.out.later (hst18 _ HX17.out.lt (fun e => by have := H8LT.out _ e; omega))
    clear hb18 ho18 hst18 x2 HP17 HQ17 HX17
    go_wp2_with fail
    refine (markBS_one u7.heap.size m1 d2 b2 (1 + (n1 : Int)) H w18 HQ18.out HM1.out hm1e (by omega) (by omega)).mono ?_
    rintro f w19 ⟨rfl, ho19, z19, hb19, hst19⟩
    have z19' : w18.heap.size ≤ w19.heap.size := by omega
    have HB19 : Hid (Below u1.heap.size u1 w19) := HB18.out.trans (hb19.mono (by omega))
    have HP19 : Hid (OwnI w19 u7.heap.size (.slice a2 n1 c2) (mkI 1 n1)) := HP18.out.far fun g hg hg' => hst19 g (fun e => apartIB HP18.out HQ18.out g hg e)
    have HQ19 := Lib.hid ho19
    have HX19 : Hid (BoxCa w19 w8.heap.size a2 n1 c2) := HX18.out.later (hst19 _ (fun e => by have := H8LB.out _ e; omega))
    have x2 := HX19.out.c0
    clear hb19 ho19 hst19 z19 HP18 HQ18 HX18
    go_wp2_with fail
    refine (heldCa_one n1 c2 a2 1 w19 HP19.out.sl.1 (by omega) (by omega) (by omega)).mono ?_
    rintro f w20 ⟨rfl, hb20⟩
    have HB20 : Hid (Below u1.heap.size u1 w20) := HB19.out.trans (hb20.mono (by omega))
    have HP20 := Lib.hid (HP19.out.later hb20)
    have HQ20 := Lib.hid (HQ19.out.later hb20)
    have HX20 := Lib.hid (HX19.out.below hb20)
    have z20 := hb20.size
    have hk1 : ¬ ((1 : Int) + (n1 : Int) < 0) := by omega
    clear hb20 x2 HP19 HQ19 HX19
    go_wp2_with fail
    refine (heldBS_one m1 d2 b2 (1 + (n1 : Int)) w20 HQ20.out.ba' hm1e (by omega) (by omega)).mono ?_
    rintro f w21 ⟨rfl, hb21⟩
    have HB21 : Hid (Below u1.heap.size u1 w21) := HB20.out.trans (hb21.mono (by omega))
    have HP21 := Lib.hid (HP20.out.later hb21)
    have HQ21 := Lib.hid (HQ20.out.later hb21)
    have HX21 := Lib.hid (HX20.out.below hb21)
    have HB221 : Hid (Below w2.heap.size w2 w21) := HB5.out.trans (HB21.out.mono HB5.out.size)
    have z21 := hb21.size
    have f0 := HS.out w21 HB221.out
    have hk2 : ¬ ((1 : Int) + (n1 : Int) + (m1 : Int) < 0) := by omega
    clear hb21 HP20 HQ20 HX20
    go_wp2_with fail
    -- the second call
    refine (toCa_one a n c xs w21 (HW.out _ HB221.out) hz).mono ?_
    rintro f w22 ⟨a22, m22, c22, rfl, hm22, ho22, hb22⟩
    have HS22 := Lib.hid ho22.sl.1
    have HB22 := Lib.hid hb22
    clear hm22 hb22 ho22 f0
    go_wp2_with fail
    refine (toER_one es ea en ec w22 (HE.out _ (HB221.out.trans (HB22.out.mono HB221.out.size))) HN.out hez).mono ?_
    rintro f w23 ⟨a23, n23, c23, rfl, hn23, hr23, hb23⟩
    obtain rfl : en = n23 := by rw [← hn23]; exact HN.out.symm
    have HE23 := Lib.hid (hr23.evl' hn23)
    have HS23 := Lib.hid (HS22.out.below hb23)
    have HB23 : Hid (Below w21.heap.size w21 w23) := HB22.out.trans (hb23.mono HB22.out.size)
    clear hr23 hb23 hn23 HS22 HB22
    go_wp2_with fail
    refine (HIB.out a22 m22 c22 a23 c23 w23 HS23.out HE23.out).mono ?_
    rintro f w24 ⟨a24, n24, c24, b24, m24, d24, rfl, hn24, hm24, ho24, hq24, hb24⟩
    obtain rfl : n1 = n24 := by rw [← hn24]; exact HN1.out.symm
    obtain rfl : m1 = m24 := by rw [← hm24]; exact HM1.out.symm
    obtain ⟨u24, hu24⟩ : ∃ u24, w24.alloc (.cells #[.slice a24 n1 c24] 25) = u24 := ⟨_, rfl⟩
    have k24 : Below w24.heap.size w24 u24 := by rw [← hu24]; exact (Below.refl _ _).alloc (Nat.le_refl _) _
    have hb2124 : Below w21.heap.size w21 u24 := HB23.out.trans ((hb24.trans (k24.mono hb24.size)).mono HB23.out.size)
    have HS24 : Hid (SliceI u24 a24 n1 L) := ho24.sl.1.below k24
    have HQ24 : Hid (BAt u24 (fun j => j < u24.heap.size) H b24) := (hq24.later k24).ba'
    have HB24 : Hid (Below u1.heap.size u1 u24) := HB21.out.trans (hb2124.mono (by omega))
    have HP24 := Lib.hid (HP21.out.later hb2124)
    have HR24 := Lib.hid (HQ21.out.later hb2124)
    have HX24 := Lib.hid (HX21.out.below hb2124)
    have z24 := hb2124.size
    have HU24 := Lib.hid hu24
    have x1 : (w24.alloc (.cells #[.slice a24 n1 c24] 25)).cell? ⟨w5.heap.size, 0, none⟩ = some (.slice a1 n1 c1) := by rw [hu24]; exact (HX1.out.below HB24.out).c0
    clear hu24 k24 hb24 ho24 hq24 hb2124 hn24 hm24 HS23 HE23 HB23 HP21 HQ21 HX21
    go_wp2_with fail
    rw [HU24.out]
    refine (eqCa_one a24 a1 n1 n1 c24 c1 _ _ u24 HS24.out (HS1.out.below HB24.out)).mono ?_
    rintro f w25 ⟨rfl, hb25⟩
    rw [HEQ.out]
    have HB25 : Hid (Below u1.heap.size u1 w25) := HB24.out.trans (hb25.mono HB24.out.size)
    have HP25 := Lib.hid (HP24.out.later hb25)
    have HR25 := Lib.hid (HR24.out.later hb25)
    have HX25 := Lib.hid (HX24.out.below hb25)
    have HQ25 := Lib.hid (HQ24.out.below hb25)
    have z25 := hb25.size
    clear hb25 x1 HP24 HR24 HX24 HQ24
    go_wp2_with fail
    refine (eqBS_one H H b24 b1 m1 m1 d24 d1 w25 HQ25.out (HQ1.out.below HB25.out) HM1.out HM1.out).mono ?_
    rintro f w26 ⟨rfl, hb26⟩
    rw [show decide (H = H) = true from decide_eq_true rfl]
    have HB26 : Hid (Below u1.heap.size u1 w26) := HB25.out.trans (hb26.mono HB25.out.size)
    have HP26 := Lib.hid (HP25.out.later hb26)
    have HR26 := Lib.hid (HR25.out.later hb26)
    have x2 := (HX25.out.below hb26).c0
    have z26 := hb26.size
    clear hb26 HP25 HR25 HX25 HQ25
    go_wp2_with fail
    refine (heldCa_one n1 c2 a2 1 w26 HP26.out.sl.1 (by omega) (by omega) (by omega)).mono ?_
    rintro f w27 ⟨rfl, hb27⟩
    have HB27 : Hid (Below u1.heap.size u1 w27) := HB26.out.trans (hb27.mono HB26.out.size)
    have HR27 := Lib.hid (HR26.out.later hb27)
    clear hb27 x2
    go_wp2_with fail
    refine (heldBS_one m1 d2 b2 (1 + (n1 : Int)) w27 HR27.out.ba' hm1e (by omega) (by omega)).mono ?_
    rintro f w28 ⟨rfl, hb28⟩
    have HB28 : Hid (Below w.heap.size w w28) := HB2.out.trans ((HB5.out.trans ((HB27.out.trans (hb28.mono HB27.out.size)).mono HB5.out.size)).mono HB2.out.size)
    clear hb28
    go_wp2_with fail
    go_ret
    exact YN.of rfl HB28.out

end Go.Proofs.Yteoaecfjgbkefaa

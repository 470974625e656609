/- The law FnExactThreadJumps, walked: at every code the call returns true; nothing that was there has changed. Condition: the table of forms lies as the program's text lays it. -/
import Derived.Test.YtkjgnaaoiebcjaaDoorCdE
import Derived.Test.YtkjgnaaoiebcjaaDoorCdT
import Derived.Test.YtkjgnaaoiebcjaaDoorMkC
import Derived.Test.YtkjgnaaoiebcjaaDoorPaN
import Derived.Test.YtkjgnaaoiebcjaaDoorHdP
import Derived.Test.YtkjgnaaoiebcjaaDoorThT
import Derived.Test.YtkjgnaaoiebcjaaDoorThR
import Derived.Deep.RegionWith
import Derived.Deep.RegionHeld3
namespace Go.Proofs.YtkjgnaaoiebcjaaDoor
open Go.RowKit
set_option linter.unusedVariables false

set_option maxRecDepth 100000 in
set_option maxHeartbeats 16000000 in
theorem law_FnExactThreadJumps' (m : Cd) (k : CK) (w : World) (hT : TblF w) (hg : 0 < w.heap.size) (h : CL w m k)
    (hgl : codeB m = true → (thrL m.list).length ≤ 1048576)
    (hSp : ∀ v k', CL v m k' → CSm m → Calls Tryd.prog 19 #[aggC m k'] v (PassN thrL m v))
    (hIm : ∀ v k', CL v m k' → CSm m → TblF v → Calls Tryd.prog 20 #[aggC m k'] v (PassN thrL m v)) :
    Calls Tryd.prog 5 #[aggC m k] w (YN true w) := by
  have HSP := Lib.hid hSp
  have HIM := Lib.hid hIm
  have HGL := Lib.hid hgl
  have HM : Hid (∀ v, Below w.heap.size w v → CL v m k) := fun v hv => h.below hv
  have HT : Hid (∀ v, Below w.heap.size w v → TblF v) := fun v hv => hT.below hv hg
  clear h hT hg hSp hIm hgl
  have HB := Lib.hid ((Below.refl w.heap.size w).alloc (Nat.le_refl _) (.cells (arrC m k) 25))
  have HX := Lib.hid (BoxC.new w m k 25)
  go_enter Tryd.func5, Tryd.ntmps5
  go_wp2_with fail
  obtain ⟨W, hW⟩ : ∃ W, (w.alloc (.cells (arrC m k) 25)) = W := ⟨_, rfl⟩
  unfold arrC at hW
  rw [hW] at HB HX ⊢
  clear hW
  refine (szC_one m k 1048576 W (HM.out _ HB.out) (by omega) (by omega)).mono ?_
  rintro f w1 ⟨v1, rfl, hv1, hs1, hb1⟩
  have HS1 := Lib.hid hs1
  have HB1 := Lib.hid (HB.out.trans (hb1.mono HB.out.size))
  have HX1 := Lib.hid (HX.out.below hb1 HX.out.lt)
  have hx1 := HX1.out.lt
  clear hs1 hb1 HX HB
  by_cases n1 : v1 < 0
  · go_wp2_with fail
    go_ret
    exact YN.of rfl HB1.out
  have HMS : Hid (CSm m) := HS1.out (by omega)
  have c0 := HX1.out.c0
  have c1 := HX1.out.c1
  have c2 := HX1.out.c2
  clear HS1
  -- the model's answer
  go_wp2_with fail
  refine (toC_one m k w1 (HM.out _ HB1.out) HMS.out).mono ?_
  rintro f u1 ⟨k1, rfl, hm1, hb1⟩
  have R1 := Lib.hid (HSP.out u1 k1 hm1 HMS.out)
  have HBu1 := Lib.hid hb1
  clear hm1 hb1 c0 c1 c2
  go_wp2_with fail
  refine R1.out.mono ?_
  rintro f u2' ⟨m0, kw, b0, rfl, hpv, hwo, hb2⟩
  have HPV := Lib.hid hpv
  have HMZ : Hid (CSm m0) := by
    have h1 := HMS.out
    cases hq : codeB m
    · rw [(hpv.2 hq).2]; exact ⟨Nat.zero_le _, Nat.zero_le _, Nat.zero_le _⟩
    · rw [(hpv.1 hq).2]; exact ⟨h1.1, h1.2.1, HGL.out hq⟩
  obtain ⟨u2, hu2⟩ : ∃ u2, u2'.alloc (.cells (arrC m0 kw) 30) = u2 := ⟨_, rfl⟩
  have hbu2 : Below u2'.heap.size u2' u2 := by rw [← hu2]; exact (Below.refl _ _).alloc (Nat.le_refl _) _
  have hXw : BoxC u2 u2'.heap.size m0 kw := by rw [← hu2]; exact BoxC.new _ _ _ _
  have hCw : CL u2 m0 kw := hwo.cl.below hbu2
  have hb12 : Below w1.heap.size w1 u2 := HBu1.out.trans ((hb2.trans (hbu2.mono hb2.size)).mono HBu1.out.size)
  have HBw : Hid (Below w.heap.size w u2) := HB1.out.trans (hb12.mono HB1.out.size)
  have HX2 : Hid (BoxC u2 w.heap.size m k) := HX1.out.below hb12 hx1
  obtain ⟨wb, hwb⟩ : ∃ wb, u2'.heap.size = wb := ⟨_, rfl⟩
  rw [hwb] at hXw
  have HS : Hid (∀ v, Below u2.heap.size u2 v → (v.cell? ⟨w.heap.size, 0, none⟩ = some (.slice k.va m.vars.length k.vc) ∧ v.cell? ⟨w.heap.size, 1, none⟩ = some (.slice k.aa m.arrs.length k.ac) ∧ v.cell? ⟨w.heap.size, 2, none⟩ = some (.slice k.la m.list.length k.lc)) ∧ (v.cell? ⟨wb, 0, none⟩ = some (.slice kw.va m0.vars.length kw.vc) ∧ v.cell? ⟨wb, 1, none⟩ = some (.slice kw.aa m0.arrs.length kw.ac) ∧ v.cell? ⟨wb, 2, none⟩ = some (.slice kw.la m0.list.length kw.lc)) ∧ CL v m k ∧ TblF v ∧ CL v m0 kw) := fun v hv => by
    have bx := HX2.out.below hv HX2.out.lt
    have bw := hXw.below hv hXw.lt
    have hb := HBw.out.trans (hv.mono HBw.out.size)
    exact ⟨⟨bx.c0, bx.c1, bx.c2⟩, ⟨bw.c0, bw.c1, bw.c2⟩, HM.out _ hb, HT.out _ hb, hCw.below hv⟩
  obtain ⟨⟨x0, x1, x2⟩, _⟩ := HS.out u2 (Below.refl _ _)
  have hs2 := HBw.out.size
  unfold arrC at hu2
  have HU2 := Lib.hid hu2
  have HWB := Lib.hid hwb
  clear R1 HBu1 HX1 hwo hpv hb2 HX2 HM HT HB1 hbu2 hXw hCw hb12 hu2 hwb
  -- the argument
  go_wp2_with (first | rw [HU2.out, HWB.out] | rw [HU2.out] | fail)
  try rw [HWB.out]
  refine (toCO_one m k u2 (HS.out _ (Below.refl _ _)).2.2.1 HMS.out).mono ?_
  rintro f u3 ⟨k2, rfl, ho3, hb3⟩
  obtain ⟨u4, hu4⟩ : ∃ u4, u3.alloc (.cells (arrC m k2) 30) = u4 := ⟨_, rfl⟩
  have hX4 : BoxC u4 u3.heap.size m k2 := by rw [← hu4]; exact BoxC.new _ _ _ _
  have hb34 : Below u3.heap.size u3 u4 := by rw [← hu4]; exact (Below.refl _ _).alloc (Nat.le_refl _) _
  have HO4 : Hid (OwnC u4 u2.heap.size m k2) := ho3.stand fun g _ hg => hb34.block g hg
  have hlt4 : u3.heap.size < u4.heap.size := hX4.lt
  have HB4 : Hid (Below u2.heap.size u2 u4) := hb3.trans (hb34.mono hb3.size)
  have LV := Lib.hid ho3.v.lt
  have LA := Lib.hid ho3.a.lt
  have LL := Lib.hid ho3.l.lt
  have g0 := hX4.c0
  have g1 := hX4.c1
  have g2 := hX4.c2
  have HX4 := Lib.hid hX4
  have hs3 := hb3.size
  have I4 := Lib.hid (HIM.out u4 k2 HO4.out.cl HMS.out (HS.out _ HB4.out).2.2.2.1)
  unfold arrC at hu4
  have HU4 := Lib.hid hu4
  clear ho3 hX4 hb34 hu4 hb3 x0 x1 x2
  go_wp2_with (first | rw [HU4.out] | fail)
  try rw [HU4.out]
  refine I4.out.mono ?_
  rintro f u5 ⟨m1, kg, b1, rfl, hpg, hgo, hb5⟩
  obtain ⟨e1, e2⟩ := hpg.uniq HPV.out
  subst e1 e2
  obtain ⟨u6, hu6⟩ : ∃ u6, u5.alloc (.cells (arrC m1 kg) 30) = u6 := ⟨_, rfl⟩
  have hX6 : BoxC u6 u5.heap.size m1 kg := by rw [← hu6]; exact BoxC.new _ _ _ _
  have hb56 : Below u5.heap.size u5 u6 := by rw [← hu6]; exact (Below.refl _ _).alloc (Nat.le_refl _) _
  have LGV := Lib.hid hgo.v.lt
  have LGA := Lib.hid hgo.a.lt
  have LGL := Lib.hid hgo.l.lt
  have HG6 : Hid (OwnC u6 u4.heap.size m1 kg) := hgo.stand fun g _ hg => hb56.block g hg
  have HB6 : Hid (Below u2.heap.size u2 u6) := HB4.out.trans ((hb5.trans (hb56.mono hb5.size)).mono HB4.out.size)
  have hb46 : Below u4.heap.size u4 u6 := hb5.trans (hb56.mono hb5.size)
  have HO6 : Hid (OwnC u6 u2.heap.size m k2) := HO4.out.stand fun g _ hg => hb46.block g hg
  have HX6 : Hid (BoxC u6 u3.heap.size m k2) := HX4.out.below hb46 hlt4
  have HXG6 := Lib.hid hX6
  have hs4 := HB4.out.size
  have hs5 := hb5.size
  have hlt6 : u5.heap.size < u6.heap.size := hX6.lt
  have y0 := hX6.c0
  have y1 := hX6.c1
  have y2 := hX6.c2
  obtain ⟨_, ⟨z0, z1, z2⟩, _⟩ := HS.out u6 HB6.out
  unfold arrC at hu6
  have HU6 := Lib.hid hu6
  have E6 := Lib.hid (eqC_same m1 kg kw u6 HG6.out.cl (HS.out _ HB6.out).2.2.2.2)
  clear hpg hgo hb5 g0 g1 g2 HX4 HO4 hX6 hb56 hb46 hu6 I4
  go_wp2_with (first | rw [HU6.out] | fail)
  try rw [HU6.out]
  refine E6.out.mono ?_
  rintro f u7 ⟨rfl, hb7⟩
  have HB7 : Hid (Below u2.heap.size u2 u7) := HB6.out.trans (hb7.mono HB6.out.size)
  have HG7 : Hid (OwnC u7 u4.heap.size m1 kg) := HG6.out.stand fun g _ hg => hb7.block g hg
  have HO7 : Hid (OwnC u7 u2.heap.size m k2) := HO6.out.stand fun g _ hg => hb7.block g hg
  have HX7 : Hid (BoxC u7 u3.heap.size m k2) := HX6.out.below hb7 HX6.out.lt
  have HXG7 : Hid (BoxC u7 u5.heap.size m1 kg) := HXG6.out.below hb7 hlt6
  have hs7 := hb7.size
  have HSQ : Hid (∀ v, Below u7.heap.size u7 v → v.cell? ⟨w.heap.size, 0, none⟩ = some (.slice k.va m.vars.length k.vc) ∧ v.cell? ⟨w.heap.size, 1, none⟩ = some (.slice k.aa m.arrs.length k.ac) ∧ v.cell? ⟨w.heap.size, 2, none⟩ = some (.slice k.la m.list.length k.lc) ∧ v.cell? ⟨u3.heap.size, 0, none⟩ = some (.slice k2.va m.vars.length k2.vc) ∧ v.cell? ⟨u3.heap.size, 1, none⟩ = some (.slice k2.aa m.arrs.length k2.ac) ∧ v.cell? ⟨u3.heap.size, 2, none⟩ = some (.slice k2.la m.list.length k2.lc)) := fun v hv => by
    obtain ⟨⟨f0, f1, f2⟩, _⟩ := HS.out v (HB7.out.trans (hv.mono HB7.out.size))
    have h := HX7.out.below hv HX7.out.lt
    exact ⟨f0, f1, f2, h.c0, h.c1, h.c2⟩
  obtain ⟨f0, f1, f2, q0, q1, q2⟩ := HSQ.out u7 (Below.refl _ _)
  have HWQ : Hid (∀ v, Below u7.heap.size u7 v → CL v m k) := fun v hv => (HS.out _ (HB7.out.trans (hv.mono HB7.out.size))).2.2.1
  have HC7 : Hid (CL u7 m k2) := HO7.out.cl
  have HBD7 : Hid (Below u7.heap.size u7 u7.drew) := (Below.refl _ _).drew
  clear hb7 HG6 HO6 HX6 HXG6 HB6 y0 y1 y2 z0 z1 z2 E6
  go_wp2_with fail
  go_region_held3 (fun v => v.cell? ⟨w.heap.size, 0, none⟩ = some (.slice k.va m.vars.length k.vc) ∧ v.cell? ⟨w.heap.size, 1, none⟩ = some (.slice k.aa m.arrs.length k.ac) ∧ v.cell? ⟨w.heap.size, 2, none⟩ = some (.slice k.la m.list.length k.lc) ∧ v.cell? ⟨u3.heap.size, 0, none⟩ = some (.slice k2.va m.vars.length k2.vc) ∧ v.cell? ⟨u3.heap.size, 1, none⟩ = some (.slice k2.aa m.arrs.length k2.ac) ∧ v.cell? ⟨u3.heap.size, 2, none⟩ = some (.slice k2.la m.list.length k2.lc)) (first | assumption | exact ⟨f0, f1, f2, q0, q1, q2⟩)
    (first
    | (go_at_call 10; (with_reducible refine (toC_one m k u7.drew (HWQ.out _ HBD7.out) HMS.out).mono ?_); rintro f u9 ⟨k3, rfl, hm3, hA⟩; have hA2 := HBD7.out.trans hA; have hS1 := HSQ.out _ hA2)
    | (go_at_call 12; (with_reducible refine (eqC_one m m k2 k3 u9 (HC7.out.below hA2) hm3).mono ?_); rintro f u8 ⟨rfl, hE⟩; rw [show decide (m = m) = true from decide_eq_true rfl]; have hB8 := hA2.trans (hE.mono hA2.size); have hS2 := HSQ.out _ hB8)
    | fail)
  have HB8 : Hid (Below u2.heap.size u2 u8) := HB7.out.trans (hB8.mono HB7.out.size)
  have HG8 : Hid (OwnC u8 u4.heap.size m1 kg) := HG7.out.stand fun g _ hg => hB8.block g hg
  have HO8 : Hid (OwnC u8 u2.heap.size m k2) := HO7.out.stand fun g _ hg => hB8.block g hg
  have HXG8 : Hid (BoxC u8 u5.heap.size m1 kg) := HXG7.out.below hB8 HXG7.out.lt
  obtain ⟨_, _, _, y0, y1, y2⟩ := hS2
  have hs8 := hB8.size
  clear hB8 hA hA2 hE hS1 q0 q1 q2 f0 f1 f2 HSQ HC7 HWQ HG7 HO7 HX7 HXG7 hm3 HBD7
  -- the marks of the argument
  have MC := Lib.hid (markC_one u2.heap.size m k2 1 u8 HO8.out HB8.out.size HMS.out (by omega) (by omega))
  go_wp2_with fail
  refine MC.out.mono ?_
  rintro f u9 ⟨rfl, _, hb9, hs9, hst9⟩
  have hout : ∀ g, u3.heap.size ≤ g → g < u8.heap.size → u9.heap[g]? = u8.heap[g]? := fun g hg hlt => hst9 g hlt (fun e => by have := LV.out g e; omega) (fun e => by have := LA.out g e; omega) (fun e => by have := LL.out g e; omega)
  have HG9 : Hid (OwnC u9 u4.heap.size m1 kg) := HG8.out.stand fun g hg hlt => hout g (by omega) hlt
  have HXG9 : Hid (BoxC u9 u5.heap.size m1 kg) := HXG8.out.later (hout _ (by omega) HXG8.out.lt)
  have HB9 : Hid (Below u2.heap.size u2 u9) := HB8.out.trans hb9
  obtain ⟨ke, hke⟩ : ∃ ke, mkEnd 1 m = ke := ⟨_, rfl⟩
  have hk1 : ¬ (ke < 0) := by rw [← hke]; unfold mkEnd; omega
  rw [hke]
  have E9 := Lib.hid (eqC_same m1 kg kw u9 HG9.out.cl (HS.out _ HB9.out).2.2.2.2)
  have v0 := HXG9.out.c0
  have v1' := HXG9.out.c1
  have v2 := HXG9.out.c2
  obtain ⟨_, ⟨z0, z1, z2⟩, _⟩ := HS.out u9 HB9.out
  clear hb9 hst9 hout MC HG8 HO8 HXG8 y0 y1 y2 hke
  go_wp2_with fail
  refine E9.out.mono ?_
  rintro f u10 ⟨rfl, hb10⟩
  have HG10 : Hid (OwnC u10 u4.heap.size m1 kg) := HG9.out.stand fun g _ hg => hb10.block g hg
  have HXG10 : Hid (BoxC u10 u5.heap.size m1 kg) := HXG9.out.below hb10 HXG9.out.lt
  have HB10 : Hid (Below u2.heap.size u2 u10) := HB9.out.trans (hb10.mono HB9.out.size)
  have hs10 := hb10.size
  have t0 := HXG10.out.c0
  have t1 := HXG10.out.c1
  have t2 := HXG10.out.c2
  clear hb10 E9 HG9 HXG9 v0 v1' v2 z0 z1 z2
  -- the marks of the answer
  have M10 := Lib.hid (markC_one u4.heap.size m1 kg 1 u10 HG10.out (by omega) HMZ.out (by omega) (by omega))
  go_wp2_with fail
  refine M10.out.mono ?_
  rintro f u11 ⟨rfl, hg11, hb11, hs11, hst11⟩
  have HG11 := Lib.hid hg11
  have HXG11 : Hid (BoxC u11 u5.heap.size m1 kg) := HXG10.out.later (hst11 _ HXG10.out.lt (fun e => by have := LGV.out _ e; omega) (fun e => by have := LGA.out _ e; omega) (fun e => by have := LGL.out _ e; omega))
  have HB11 : Hid (Below u2.heap.size u2 u11) := HB10.out.trans (hb11.mono hs4)
  have H11 := Lib.hid (heldC_one m1 kg 1 u11 HG11.out.cl HMZ.out (by omega) (by omega))
  obtain ⟨kf, hkf⟩ : ∃ kf, mkEnd 1 m1 = kf := ⟨_, rfl⟩
  have hk2 : ¬ (kf < 0) := by rw [← hkf]; unfold mkEnd; omega
  rw [hkf] at H11 ⊢
  have HKF := Lib.hid hkf
  have r0 := HXG11.out.c0
  have r1 := HXG11.out.c1
  have r2 := HXG11.out.c2
  clear hg11 hb11 hst11 M10 HG10 HXG10 t0 t1 t2 hkf
  go_wp2_with fail
  refine H11.out.mono ?_
  rintro f u12 ⟨rfl, hb12⟩
  have HG12 : Hid (OwnC u12 u4.heap.size (mkCd 1 m1) kg) := HG11.out.stand fun g _ hg => hb12.block g hg
  have HXG12 : Hid (BoxC u12 u5.heap.size m1 kg) := HXG11.out.below hb12 HXG11.out.lt
  have HB12 : Hid (Below u2.heap.size u2 u12) := HB11.out.trans (hb12.mono HB11.out.size)
  obtain ⟨⟨z0, z1, z2⟩, _⟩ := HS.out u12 HB12.out
  clear hb12 H11 HG11 HXG11 r0 r1 r2
  -- again
  have T12 := Lib.hid (toC_one m k u12 (HS.out _ HB12.out).2.2.1 HMS.out)
  go_wp2_with fail
  refine T12.out.mono ?_
  rintro f u13 ⟨k4, rfl, hm4, hb13⟩
  have HG13 : Hid (OwnC u13 u4.heap.size (mkCd 1 m1) kg) := HG12.out.stand fun g _ hg => hb13.block g hg
  have HXG13 : Hid (BoxC u13 u5.heap.size m1 kg) := HXG12.out.below hb13 HXG12.out.lt
  have HB13 : Hid (Below u2.heap.size u2 u13) := HB12.out.trans (hb13.mono HB12.out.size)
  have I13 := Lib.hid (HIM.out u13 k4 hm4 HMS.out (HS.out _ HB13.out).2.2.2.1)
  clear hm4 hb13 T12 HG12 HXG12 z0 z1 z2
  go_wp2_with fail
  refine I13.out.mono ?_
  rintro f u14 ⟨m2, kh, b2, rfl, hph, hho, hb14⟩
  obtain ⟨e1, e2⟩ := hph.uniq HPV.out
  subst e1 e2
  obtain ⟨u15, hu15⟩ : ∃ u15, u14.alloc (.cells (arrC m2 kh) 30) = u15 := ⟨_, rfl⟩
  have hXh : BoxC u15 u14.heap.size m2 kh := by rw [← hu15]; exact BoxC.new _ _ _ _
  have hb15 : Below u14.heap.size u14 u15 := by rw [← hu15]; exact (Below.refl _ _).alloc (Nat.le_refl _) _
  have hb135 : Below u13.heap.size u13 u15 := hb14.trans (hb15.mono hb14.size)
  have HG15 : Hid (OwnC u15 u4.heap.size (mkCd 1 m2) kg) := HG13.out.stand fun g _ hg => hb135.block g hg
  have HXG15 : Hid (BoxC u15 u5.heap.size m2 kg) := HXG13.out.below hb135 HXG13.out.lt
  have HB15 : Hid (Below u2.heap.size u2 u15) := HB13.out.trans (hb135.mono HB13.out.size)
  have E15 := Lib.hid (eqC_same m2 kh kw u15 (hho.cl.below hb15) (HS.out _ HB15.out).2.2.2.2)
  have y0 := hXh.c0
  have y1 := hXh.c1
  have y2 := hXh.c2
  obtain ⟨_, ⟨z0, z1, z2⟩, _⟩ := HS.out u15 HB15.out
  unfold arrC at hu15
  have HU15 := Lib.hid hu15
  clear hph hho hb14 hXh hb15 hb135 hu15 I13 HG13 HXG13
  go_wp2_with (first | rw [HU15.out] | fail)
  try rw [HU15.out]
  refine E15.out.mono ?_
  rintro f u16 ⟨rfl, hb16⟩
  have HG16 : Hid (OwnC u16 u4.heap.size (mkCd 1 m2) kg) := HG15.out.stand fun g _ hg => hb16.block g hg
  have HXG16 : Hid (BoxC u16 u5.heap.size m2 kg) := HXG15.out.below hb16 HXG15.out.lt
  have HB16 : Hid (Below u2.heap.size u2 u16) := HB15.out.trans (hb16.mono HB15.out.size)
  have H16 := heldC_one m2 kg 1 u16 HG16.out.cl HMZ.out (by omega) (by omega)
  rw [HKF.out] at H16
  have H16 := Lib.hid H16
  have r0 := HXG16.out.c0
  have r1 := HXG16.out.c1
  have r2 := HXG16.out.c2
  clear hb16 E15 HG15 HXG15 y0 y1 y2 z0 z1 z2
  go_wp2_with fail
  refine H16.out.mono ?_
  rintro f u17 ⟨rfl, hb17⟩
  have HFIN : Hid (Below w.heap.size w u17) := HBw.out.trans ((HB16.out.trans (hb17.mono HB16.out.size)).mono hs2)
  clear hb17 H16 r0 r1 r2
  go_wp2_with fail
  go_ret
  exact YN.of rfl HFIN.out

theorem law_FnExactThreadJumps (m : Cd) (k : CK) (w : World) (hT : TblF w) (hg : 0 < w.heap.size) (h : CL w m k) :
    Calls Tryd.prog 5 #[aggC m k] w (YN true w) :=
  law_FnExactThreadJumps' m k w hT hg h (fun e => by rw [thrL_len]; have := (codeB_ok e).le; omega)
    (fun v k' hc hs => sTh_one m k' v hc fun e v' hv' => l8Thr_one m k' v' (hc.below hv') hs (codeB_ok e))
    (fun v k' hc hs ht => iTh_one m k' v hc hs ht fun e v' hv' => by rw [thrL_len]; exact threaded_one m.list k'.la m.list.length k'.lc v' (hc.below hv').2.2 rfl (codeB_ok e))

end Go.Proofs.YtkjgnaaoiebcjaaDoor

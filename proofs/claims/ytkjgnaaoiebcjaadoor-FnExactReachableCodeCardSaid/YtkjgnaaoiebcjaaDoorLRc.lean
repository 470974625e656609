/- The law FnExactReachableCode, walked: at every code the call returns true; nothing that was there has changed. Condition: the table of forms lies as the program's text lays it. -/
import Derived.Test.YtkjgnaaoiebcjaaDoorCdE
import Derived.Test.YtkjgnaaoiebcjaaDoorCdT
import Derived.Test.YtkjgnaaoiebcjaaDoorRcV
import Derived.Test.YtkjgnaaoiebcjaaDoorMkC
import Derived.Deep.RegionWith
import Derived.Deep.RegionHeld3
namespace Go.Proofs.YtkjgnaaoiebcjaaDoor
open Go.RowKit
set_option linter.unusedVariables false

theorem eqBS_same (bs : List Bool) (a a' : Option Addr) (n n' cap cap' : Nat) (w : World) {D D' : Nat → Prop} (h : BAt w D bs a) (h' : BAt w D' bs a') (hn : bs.length = n) (hn' : bs.length = n') :
    Calls Tryd.prog 15 #[.slice a n cap, .slice a' n' cap'] w (YN true w) := by
  have h1 := eqBS_one bs bs a a' n n' cap cap' w h h' hn hn'
  rw [decide_eq_true rfl] at h1
  exact h1

set_option maxRecDepth 100000 in
set_option maxHeartbeats 8000000 in
theorem law_FnExactReachableCode (m : Cd) (k : CK) (w : World) (hT : TblF w) (hg : 0 < w.heap.size) (h : CL w m k) :
    Calls Tryd.prog 4 #[aggC m k] w (YN true w) := by
  have HM : Hid (∀ v, Below w.heap.size w v → CL v m k) := fun v hv => h.below hv
  have HT : Hid (∀ v, Below w.heap.size w v → TblF v) := fun v hv => hT.below hv hg
  clear h hT hg
  have HB := Lib.hid ((Below.refl w.heap.size w).alloc (Nat.le_refl _) (.cells (arrC m k) 25))
  have HX := Lib.hid (BoxC.new w m k 25)
  go_enter Tryd.func4, Tryd.ntmps4
  go_wp2_with fail
  obtain ⟨W, hW⟩ : ∃ W, (w.alloc (.cells (arrC m k) 25)) = W := ⟨_, rfl⟩
  unfold arrC at hW
  rw [hW] at HB HX ⊢
  clear hW
  refine (szC_one m k 1048576 W (HM.out _ HB.out) (by omega) (by omega)).mono ?_
  rintro f w1 ⟨v1, rfl, hv1, hs1, hb1⟩
  have HS1 := Lib.hid hs1
  have HB1 := Lib.hid (HB.out.trans (hb1.mono HB.out.size))
  have HX1 := Lib.hid (HX.out.below hb1 HX.out.lt)
  have hx1 := HX1.out.lt
  clear hs1 hb1 HX HB
  by_cases n1 : v1 < 0
  · go_wp2_with fail
    go_ret
    exact YN.of rfl HB1.out
  have HMS : Hid (CSm m) := HS1.out (by omega)
  have c0 := HX1.out.c0
  have c1 := HX1.out.c1
  have c2 := HX1.out.c2
  clear HS1
  -- the model's answer
  go_wp2_with fail
  refine (toC_one m k w1 (HM.out _ HB1.out) HMS.out).mono ?_
  rintro f u1 ⟨k1, rfl, hm1, hb1⟩
  have HM1 := Lib.hid hm1
  have HBu1 := Lib.hid hb1
  clear hm1 hb1 c0 c1 c2
  go_wp2_with fail
  refine (sRC_one m k1 u1 HM1.out).mono ?_
  rintro f u2 ⟨bs, wa, wn, wc, rfl, hwn, hbs, hwo, hb2⟩
  have HBS := Lib.hid hbs
  have HWN := Lib.hid hwn
  have HBw : Hid (Below w.heap.size w u2) := HB1.out.trans ((HBu1.out.trans (hb2.mono HBu1.out.size)).mono HB1.out.size)
  have HX2 : Hid (BoxC u2 w.heap.size m k) := HX1.out.below (HBu1.out.trans (hb2.mono HBu1.out.size)) hx1
  have hwb := hwo.bat
  have hwnl : wn ≤ 400 := by
    cases hq : codeB m
    · rw [← hwn, hbs.2 hq]; exact Nat.zero_le _
    · rw [← hwn, (hbs.1 hq).1]; exact (codeB_ok hq).le
  have HS : Hid (∀ v, Below u2.heap.size u2 v → (v.cell? ⟨w.heap.size, 0, none⟩ = some (.slice k.va m.vars.length k.vc) ∧ v.cell? ⟨w.heap.size, 1, none⟩ = some (.slice k.aa m.arrs.length k.ac) ∧ v.cell? ⟨w.heap.size, 2, none⟩ = some (.slice k.la m.list.length k.lc)) ∧ CL v m k ∧ TblF v ∧ BAt v (fun j => j < u2.heap.size) bs wa) := fun v hv => by
    have bx := HX2.out.below hv HX2.out.lt
    have hb := HBw.out.trans (hv.mono HBw.out.size)
    exact ⟨⟨bx.c0, bx.c1, bx.c2⟩, HM.out _ hb, HT.out _ hb, hwb.2.2.2.wide (fun j hj => hv.block j hj.2) fun j hj => hj.2⟩
  obtain ⟨⟨x0, x1, x2⟩, _⟩ := HS.out u2 (Below.refl _ _)
  have hs2 := HBw.out.size
  clear HM1 HBu1 HX1 hwo hwb hwn hbs hb2 HX2 HM HT HB1
  -- the argument
  go_wp2_with fail
  refine (toCO_one m k u2 (HS.out _ (Below.refl _ _)).2.1 HMS.out).mono ?_
  rintro f u3 ⟨k2, rfl, ho3, hb3⟩
  obtain ⟨u4, hu4⟩ : ∃ u4, u3.alloc (.cells (arrC m k2) 30) = u4 := ⟨_, rfl⟩
  have hX4 : BoxC u4 u3.heap.size m k2 := by rw [← hu4]; exact BoxC.new _ _ _ _
  have hb34 : Below u3.heap.size u3 u4 := by rw [← hu4]; exact (Below.refl _ _).alloc (Nat.le_refl _) _
  have HO4 : Hid (OwnC u4 u2.heap.size m k2) := ho3.stand fun g _ hg => hb34.block g hg
  have hlt4 : u3.heap.size < u4.heap.size := hX4.lt
  have HB4 : Hid (Below u2.heap.size u2 u4) := hb3.trans (hb34.mono hb3.size)
  have LV := Lib.hid ho3.v.lt
  have LA := Lib.hid ho3.a.lt
  have LL := Lib.hid ho3.l.lt
  have g0 := hX4.c0
  have g1 := hX4.c1
  have g2 := hX4.c2
  have HX4 := Lib.hid hX4
  have hs3 := hb3.size
  unfold arrC at hu4
  have HU4 := Lib.hid hu4
  clear ho3 hX4 hb34 hu4 hb3 x0 x1 x2
  go_wp2_with (first | rw [HU4.out] | fail)
  refine (iRC_one m k2 u4 HO4.out.cl (HS.out _ HB4.out).2.2.1).mono ?_
  rintro f u5 ⟨gs, ga, gn, gc, rfl, hgn, hgs, hgo, hb5⟩
  have hgb : gs = bs := hgs.uniq HBS.out
  subst hgb
  obtain rfl : gn = wn := by rw [← hgn]; exact HWN.out
  have HG5 := Lib.hid hgo
  have hgl := hgo.lt
  have LG := Lib.hid hgl
  have HB5 : Hid (Below u2.heap.size u2 u5) := HB4.out.trans (hb5.mono HB4.out.size)
  have HO5 : Hid (OwnC u5 u2.heap.size m k2) := HO4.out.stand fun g _ hg => hb5.block g hg
  have HX5 : Hid (BoxC u5 u3.heap.size m k2) := HX4.out.below hb5 hlt4
  have hs4 := HB4.out.size
  have hs5 := hb5.size
  clear hgs hgo hgl hb5 hgn g0 g1 g2 HX4 HO4
  go_wp2_with fail
  refine (eqBS_same gs ga wa gn gn gc wc u5 HG5.out.bat.2.2.2 (HS.out _ HB5.out).2.2.2 HWN.out HWN.out).mono ?_
  rintro f u6 ⟨rfl, hb6⟩
  have HB6 : Hid (Below u2.heap.size u2 u6) := HB5.out.trans (hb6.mono HB5.out.size)
  have HG6 : Hid (OwnB u6 u4.heap.size (.slice ga gn gc) gs) := HG5.out.far fun g _ hg => hb6.block g hg
  have HO6 : Hid (OwnC u6 u2.heap.size m k2) := HO5.out.stand fun g _ hg => hb6.block g hg
  have HX6 : Hid (BoxC u6 u3.heap.size m k2) := HX5.out.below hb6 HX5.out.lt
  have hs6 := hb6.size
  have HSQ : Hid (∀ v, Below u6.heap.size u6 v → v.cell? ⟨w.heap.size, 0, none⟩ = some (.slice k.va m.vars.length k.vc) ∧ v.cell? ⟨w.heap.size, 1, none⟩ = some (.slice k.aa m.arrs.length k.ac) ∧ v.cell? ⟨w.heap.size, 2, none⟩ = some (.slice k.la m.list.length k.lc) ∧ v.cell? ⟨u3.heap.size, 0, none⟩ = some (.slice k2.va m.vars.length k2.vc) ∧ v.cell? ⟨u3.heap.size, 1, none⟩ = some (.slice k2.aa m.arrs.length k2.ac) ∧ v.cell? ⟨u3.heap.size, 2, none⟩ = some (.slice k2.la m.list.length k2.lc)) := fun v hv => by
    obtain ⟨⟨f0, f1, f2⟩, _⟩ := HS.out v (HB6.out.trans (hv.mono HB6.out.size))
    have h := HX6.out.below hv HX6.out.lt
    exact ⟨f0, f1, f2, h.c0, h.c1, h.c2⟩
  obtain ⟨f0, f1, f2, q0, q1, q2⟩ := HSQ.out u6 (Below.refl _ _)
  have HWQ : Hid (∀ v, Below u6.heap.size u6 v → CL v m k) := fun v hv => (HS.out _ (HB6.out.trans (hv.mono HB6.out.size))).2.1
  have HC6 : Hid (CL u6 m k2) := HO6.out.cl
  have HBD6 : Hid (Below u6.heap.size u6 u6.drew) := (Below.refl _ _).drew
  clear hb6 HG5 HO5 HX5 HB5
  go_wp2_with fail
  go_region_held3 (fun v => v.cell? ⟨w.heap.size, 0, none⟩ = some (.slice k.va m.vars.length k.vc) ∧ v.cell? ⟨w.heap.size, 1, none⟩ = some (.slice k.aa m.arrs.length k.ac) ∧ v.cell? ⟨w.heap.size, 2, none⟩ = some (.slice k.la m.list.length k.lc) ∧ v.cell? ⟨u3.heap.size, 0, none⟩ = some (.slice k2.va m.vars.length k2.vc) ∧ v.cell? ⟨u3.heap.size, 1, none⟩ = some (.slice k2.aa m.arrs.length k2.ac) ∧ v.cell? ⟨u3.heap.size, 2, none⟩ = some (.slice k2.la m.list.length k2.lc)) (first | assumption | exact ⟨f0, f1, f2, q0, q1, q2⟩)
    (first
    | (go_at_call 10; (with_reducible refine (toC_one m k u6.drew (HWQ.out _ HBD6.out) HMS.out).mono ?_); rintro f u9 ⟨k3, rfl, hm3, hA⟩; have hA2 := HBD6.out.trans hA; have hS1 := HSQ.out _ hA2)
    | (go_at_call 12; (with_reducible refine (eqC_one m m k2 k3 u9 (HC6.out.below hA2) hm3).mono ?_); rintro f u7 ⟨rfl, hE⟩; rw [show decide (m = m) = true from decide_eq_true rfl]; have hB7 := hA2.trans (hE.mono hA2.size); have hS2 := HSQ.out _ hB7)
    | fail)
  have HB7 : Hid (Below u2.heap.size u2 u7) := HB6.out.trans (hB7.mono HB6.out.size)
  have HG7 : Hid (OwnB u7 u4.heap.size (.slice ga gn gc) gs) := HG6.out.far fun g _ hg => hB7.block g hg
  have HO7 : Hid (OwnC u7 u2.heap.size m k2) := HO6.out.stand fun g _ hg => hB7.block g hg
  have HX7 : Hid (BoxC u7 u3.heap.size m k2) := HX6.out.below hB7 HX6.out.lt
  obtain ⟨_, _, _, y0, y1, y2⟩ := hS2
  have hs7 := hB7.size
  clear hB7 hA hA2 hE hS1 q0 q1 q2 f0 f1 f2 HSQ HC6 HWQ HG6 HO6 HX6 hm3 HBD6
  -- the marks of the argument
  have MC := Lib.hid (markC_one u2.heap.size m k2 1 u7 HO7.out HB7.out.size HMS.out (by omega) (by omega))
  go_wp2_with fail
  refine MC.out.mono ?_
  rintro f u8 ⟨rfl, _, hb8, hs8, hst8⟩
  have HG8 : Hid (OwnB u8 u4.heap.size (.slice ga gn gc) gs) := HG7.out.far fun g hg hlt => hst8 g hlt (fun e => by have := LV.out g e; have := LG.out g hg; omega) (fun e => by have := LA.out g e; have := LG.out g hg; omega) (fun e => by have := LL.out g e; have := LG.out g hg; omega)
  have HB8 : Hid (Below u2.heap.size u2 u8) := HB7.out.trans hb8
  obtain ⟨ke, hke⟩ : ∃ ke, mkEnd 1 m = ke := ⟨_, rfl⟩
  have hk1 : ¬ (ke < 0) := by rw [← hke]; unfold mkEnd; omega
  rw [hke]
  clear hb8 hst8 MC HG7 HO7 HX7 y0 y1 y2 hke
  have E8 := Lib.hid (eqBS_same gs ga wa gn gn gc wc u8 HG8.out.bat.2.2.2 (HS.out _ HB8.out).2.2.2 HWN.out HWN.out)
  go_wp2_with fail
  refine E8.out.mono ?_
  rintro f u9 ⟨rfl, hb9⟩
  have HG9 : Hid (OwnB u9 u4.heap.size (.slice ga gn gc) gs) := HG8.out.far fun g _ hg => hb9.block g hg
  have HB9 : Hid (Below u2.heap.size u2 u9) := HB8.out.trans (hb9.mono HB8.out.size)
  clear hb9 E8 HG8
  -- the marks of the answer
  have M9 := Lib.hid (markBS_one u4.heap.size gn gc ga 1 gs u9 HG9.out HWN.out (by omega) (by omega) (by omega))
  go_wp2_with fail
  refine M9.out.mono ?_
  rintro f u10 ⟨rfl, hg10, hz10, hb10, hst10⟩
  have HG10 := Lib.hid hg10
  have HB10 : Hid (Below u2.heap.size u2 u10) := HB9.out.trans (hb10.mono hs4)
  clear hg10 hz10 hb10 hst10 M9 HG9
  have H10 := Lib.hid (heldBS_one gn gc ga 1 u10 HG10.out.bat.2.2.2 (by omega) (by omega) (by omega))
  go_wp2_with fail
  refine H10.out.mono ?_
  rintro f u11 ⟨rfl, hb11⟩
  have HG11 : Hid (OwnB u11 u4.heap.size (.slice ga gn gc) (mkBl 1 gn)) := HG10.out.far fun g _ hg => hb11.block g hg
  have HB11 : Hid (Below u2.heap.size u2 u11) := HB10.out.trans (hb11.mono HB10.out.size)
  have hk2 : ¬ ((1 : Int) + (gn : Int) < 0) := by omega
  obtain ⟨⟨z0, z1, z2⟩, _⟩ := HS.out u11 HB11.out
  clear hb11 H10 HG10
  -- again
  have T11 := Lib.hid (toC_one m k u11 (HS.out _ HB11.out).2.1 HMS.out)
  go_wp2_with fail
  refine T11.out.mono ?_
  rintro f u12 ⟨k4, rfl, hm4, hb12⟩
  have HG12 : Hid (OwnB u12 u4.heap.size (.slice ga gn gc) (mkBl 1 gn)) := HG11.out.far fun g _ hg => hb12.block g hg
  have HB12 : Hid (Below u2.heap.size u2 u12) := HB11.out.trans (hb12.mono HB11.out.size)
  have R12 := Lib.hid (iRC_one m k4 u12 hm4 (HS.out _ HB12.out).2.2.1)
  clear hm4 hb12 T11 HG11 z0 z1 z2
  go_wp2_with fail
  refine R12.out.mono ?_
  rintro f u13 ⟨hs, ha, hn, hc, rfl, hhn, hhs, hho, hb13⟩
  have hhb : hs = gs := hhs.uniq HBS.out
  subst hhb
  obtain rfl : hn = gn := by rw [← hhn]; exact HWN.out
  have HG13 : Hid (OwnB u13 u4.heap.size (.slice ga hn gc) (mkBl 1 hn)) := HG12.out.far fun g _ hg => hb13.block g hg
  have HB13 : Hid (Below u2.heap.size u2 u13) := HB12.out.trans (hb13.mono HB12.out.size)
  have E13 := Lib.hid (eqBS_same hs ha wa hn hn hc wc u13 hho.bat.2.2.2 (HS.out _ HB13.out).2.2.2 HWN.out HWN.out)
  clear hhs hho hb13 R12 HG12 hhn
  go_wp2_with fail
  refine E13.out.mono ?_
  rintro f u14 ⟨rfl, hb14⟩
  have HG14 : Hid (OwnB u14 u4.heap.size (.slice ga hn gc) (mkBl 1 hn)) := HG13.out.far fun g _ hg => hb14.block g hg
  have HB14 : Hid (Below u2.heap.size u2 u14) := HB13.out.trans (hb14.mono HB13.out.size)
  have H14 := Lib.hid (heldBS_one hn gc ga 1 u14 HG14.out.bat.2.2.2 (by omega) (by omega) (by omega))
  clear hb14 E13 HG13
  go_wp2_with fail
  refine H14.out.mono ?_
  rintro f u15 ⟨rfl, hb15⟩
  have HFIN : Hid (Below w.heap.size w u15) := HBw.out.trans ((HB14.out.trans (hb15.mono HB14.out.size)).mono hs2)
  clear hb15 H14
  go_wp2_with fail
  go_ret
  exact YN.of rfl HFIN.out

end Go.Proofs.YtkjgnaaoiebcjaaDoor

/- The law FnExactCodeFenced, walked: at every code the call returns true; nothing that was there has changed. Condition: the table of forms lies as the program's text lays it. -/
import Derived.Test.YtodihpnnajlkdaaDoorCdE
import Derived.Test.YtodihpnnajlkdaaDoorCdT
import Derived.Test.YtodihpnnajlkdaaDoorMkS
import Derived.Deep.RegionWith
import Derived.Deep.RegionHeld3
namespace Go.Proofs.YtodihpnnajlkdaaDoor
open Go.RowKit
set_option linter.unusedVariables false

set_option maxRecDepth 100000 in
set_option maxHeartbeats 8000000 in
theorem law_FnExactCodeFenced (m : Cd) (k : CK) (w : World) (hT : TblF w) (hg : 0 < w.heap.size) (h : CL w m k) :
    Calls Tryd.prog 4 #[aggC m k] w (YN true w) := by
  have HM : Hid (∀ v, Below w.heap.size w v → CL v m k) := fun v hv => h.below hv
  have HT : Hid (∀ v, Below w.heap.size w v → TblF v) := fun v hv => hT.below hv hg
  clear h hT hg
  have HB := Lib.hid ((Below.refl w.heap.size w).alloc (Nat.le_refl _) (.cells (arrC m k) 25))
  have HX := Lib.hid (BoxC.new w m k 25)
  go_enter Tryd.func4, Tryd.ntmps4
  go_wp2_with fail
  obtain ⟨W, hW⟩ : ∃ W, (w.alloc (.cells (arrC m k) 25)) = W := ⟨_, rfl⟩
  unfold arrC at hW
  rw [hW] at HB HX ⊢
  clear hW
  refine (szC_one m k 1048576 W (HM.out _ HB.out) (by omega) (by omega)).mono ?_
  rintro f w2 ⟨v1, rfl, hv1, hs1, hb1⟩
  have HS1 := Lib.hid hs1
  have HB2 := Lib.hid (HB.out.trans (hb1.mono HB.out.size))
  have HX2 := Lib.hid (HX.out.below hb1 HX.out.lt)
  clear hs1 hb1 HX
  by_cases n1 : v1 < 0
  · go_wp2_with fail
    go_ret
    exact YN.of rfl HB2.out
  have HMS : Hid (CSm m) := HS1.out (by omega)
  have HS : Hid (∀ v, Below w2.heap.size w2 v → v.cell? ⟨w.heap.size, 0, none⟩ = some (.slice k.va m.vars.length k.vc) ∧ v.cell? ⟨w.heap.size, 1, none⟩ = some (.slice k.aa m.arrs.length k.ac) ∧ v.cell? ⟨w.heap.size, 2, none⟩ = some (.slice k.la m.list.length k.lc)) := fun v hv => by
    have bx := HX2.out.below hv HX2.out.lt
    exact ⟨bx.c0, bx.c1, bx.c2⟩
  have HW : Hid (∀ v, Below w2.heap.size w2 v → CL v m k ∧ TblF v ∧ 0 < v.heap.size) := fun v hv => by
    have hb := HB2.out.trans (hv.mono HB2.out.size)
    exact ⟨HM.out _ hb, HT.out _ hb, (HT.out _ hb).lt⟩
  obtain ⟨x0, x1, x2⟩ := HS.out w2 (Below.refl _ _)
  obtain ⟨q, hq⟩ : ∃ q, fncB m = q := ⟨_, rfl⟩
  clear HS1 HM HT
  go_wp2_with fail
  refine (toC_one m k w2 (HW.out _ (Below.refl _ _)).1 HMS.out).mono ?_
  rintro f w3 ⟨k1, rfl, hm1, hb3⟩
  have HM1 := Lib.hid hm1
  have HB3 := Lib.hid hb3
  clear hm1 hb3 x0 x1 x2
  go_wp2_with fail
  refine (sCf_one m k1 w3 HM1.out).mono ?_
  rintro f w4 ⟨rfl, hb4⟩
  rw [hq]
  have HB4 := Lib.hid (HB3.out.trans (hb4.mono HB3.out.size))
  obtain ⟨x0, x1, x2⟩ := HS.out w4 HB4.out
  clear hb4 HM1 HB3
  go_wp2_with fail
  refine (toC_one m k w4 (HW.out _ HB4.out).1 HMS.out).mono ?_
  rintro f w5 ⟨k2, rfl, hm2, hb5⟩
  have hX5 : BoxC (w5.alloc (.cells (arrC m k2) 30)) w5.heap.size m k2 := BoxC.new _ _ _ _
  have hB5 : Below w2.heap.size w2 (w5.alloc (.cells (arrC m k2) 30)) := (HB4.out.trans (hb5.mono HB4.out.size)).alloc (Nat.le_trans HB4.out.size hb5.size) _
  have hC5 : CL (w5.alloc (.cells (arrC m k2) 30)) m k2 := hm2.below ((Below.refl _ _).alloc (Nat.le_refl _) _)
  have HX5 := Lib.hid hX5
  have HB5 := Lib.hid hB5
  have HC5 := Lib.hid hC5
  have g0 := hX5.c0
  have g1 := hX5.c1
  have g2 := hX5.c2
  clear hm2 hb5 hX5 hB5 hC5 x0 x1 x2 HB4
  go_wp2_with fail
  obtain ⟨u5, hu5⟩ : ∃ u5, w5.alloc (.cells (arrC m k2) 30) = u5 := ⟨_, rfl⟩
  rw [hu5] at HX5 HB5 HC5 g0 g1 g2
  unfold arrC at hu5
  rw [hu5]
  clear hu5 g0 g1 g2
  refine (iCf_one m k2 u5 HC5.out (HW.out _ HB5.out).2.1).mono ?_
  rintro f u6 ⟨rfl, hb6⟩
  rw [hq]
  have HB6 := Lib.hid (HB5.out.trans (hb6.mono HB5.out.size))
  have HX6 := Lib.hid (HX5.out.below hb6 HX5.out.lt)
  have HC6 := Lib.hid (HC5.out.below hb6)
  obtain ⟨f0, f1, f2⟩ := HS.out u6 HB6.out
  have q0 := HX6.out.c0
  have q1 := HX6.out.c1
  have q2 := HX6.out.c2
  have HSQ : Hid (∀ v, Below u6.heap.size u6 v → v.cell? ⟨w.heap.size, 0, none⟩ = some (.slice k.va m.vars.length k.vc) ∧ v.cell? ⟨w.heap.size, 1, none⟩ = some (.slice k.aa m.arrs.length k.ac) ∧ v.cell? ⟨w.heap.size, 2, none⟩ = some (.slice k.la m.list.length k.lc) ∧ v.cell? ⟨w5.heap.size, 0, none⟩ = some (.slice k2.va m.vars.length k2.vc) ∧ v.cell? ⟨w5.heap.size, 1, none⟩ = some (.slice k2.aa m.arrs.length k2.ac) ∧ v.cell? ⟨w5.heap.size, 2, none⟩ = some (.slice k2.la m.list.length k2.lc)) := fun v hv => by
    obtain ⟨f0, f1, f2⟩ := HS.out v (HB6.out.trans (hv.mono HB6.out.size))
    have h := HX6.out.below hv HX6.out.lt
    exact ⟨f0, f1, f2, h.c0, h.c1, h.c2⟩
  have HWQ : Hid (∀ v, Below u6.heap.size u6 v → CL v m k) := fun v hv => (HW.out _ (HB6.out.trans (hv.mono HB6.out.size))).1
  have HBD6 : Hid (Below u6.heap.size u6 u6.drew) := (Below.refl _ _).drew
  clear hb6 HX5 HC5 HB5
  cases q
  all_goals
    go_wp2_with fail
    go_region_held3 (fun v => v.cell? ⟨w.heap.size, 0, none⟩ = some (.slice k.va m.vars.length k.vc) ∧ v.cell? ⟨w.heap.size, 1, none⟩ = some (.slice k.aa m.arrs.length k.ac) ∧ v.cell? ⟨w.heap.size, 2, none⟩ = some (.slice k.la m.list.length k.lc) ∧ v.cell? ⟨w5.heap.size, 0, none⟩ = some (.slice k2.va m.vars.length k2.vc) ∧ v.cell? ⟨w5.heap.size, 1, none⟩ = some (.slice k2.aa m.arrs.length k2.ac) ∧ v.cell? ⟨w5.heap.size, 2, none⟩ = some (.slice k2.la m.list.length k2.lc)) (first | assumption | exact ⟨f0, f1, f2, q0, q1, q2⟩)
      (first
      | (go_at_call 10; (with_reducible refine (toC_one m k u6.drew (HWQ.out _ HBD6.out) HMS.out).mono ?_); rintro f u9 ⟨k3, rfl, hm3, hA⟩; have hA2 := HBD6.out.trans hA; have hS1 := HSQ.out _ hA2)
      | (go_at_call 12; (with_reducible refine (eqC_one m m k2 k3 u9 (HC6.out.below hA2) hm3).mono ?_); rintro f u10 ⟨rfl, hE⟩; rw [show decide (m = m) = true from decide_eq_true rfl]; have hB10 := hA2.trans (hE.mono hA2.size); have hS2 := HSQ.out _ hB10)
      | fail)
    have HB10 := Lib.hid (HB6.out.trans (hB10.mono HB6.out.size))
    clear hB10 hA hA2 hE hS1 hS2 q0 q1 q2 f0 f1 f2 HSQ HC6 HWQ
    go_wp2_with fail
    go_ret
    exact YN.of rfl (HB2.out.trans (HB10.out.mono HB2.out.size))

end Go.Proofs.YtodihpnnajlkdaaDoor

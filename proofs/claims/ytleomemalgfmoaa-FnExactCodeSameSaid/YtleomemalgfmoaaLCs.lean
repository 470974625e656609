/- The law FnExactCodeSame, walked: at every two codes the call returns true; nothing that was there has changed. -/
import Derived.Test.YtleomemalgfmoaaCdS
import Derived.Test.YtleomemalgfmoaaCdT
import Derived.Deep.RegionWith
import Derived.Deep.RegionHeld3
namespace Go.Proofs.Ytleomemalgfmoaa
open Go.RowKit
set_option linter.unusedVariables false

set_option maxRecDepth 100000 in
set_option maxHeartbeats 8000000 in
theorem law_FnExactCodeSame (m n : Cd) (k l : CK) (w : World) (h : CL w m k) (h' : CL w n l) :
    Calls Try.prog 4 #[aggC m k, aggC n l] w (YN true w) := by
  have HM : Hid (∀ v, Below w.heap.size w v → CL v m k) := fun v hv => h.below hv
  have HN : Hid (∀ v, Below w.heap.size w v → CL v n l) := fun v hv => h'.below hv
  clear h h'
  obtain ⟨hB, h0, h1, hz⟩ := two_codes (w := w) m n k l 35
  have HB := Lib.hid hB
  have HX := Lib.hid h0
  have HY := Lib.hid h1
  clear hB h0 h1
  go_enter Try.func4, Try.ntmps4
  go_wp2_with fail
  obtain ⟨W, hW⟩ : ∃ W, ((w.alloc (.cells (arrC m k) 35)).alloc (.cells (arrC n l) 35)) = W := ⟨_, rfl⟩
  unfold arrC at hW
  rw [hW] at HB HX HY hz ⊢
  clear hW
  refine (szC_one m k 1048576 W (HM.out _ HB.out) (by omega) (by omega)).mono ?_
  rintro f w1 ⟨v1, rfl, hv1, hs1, hb1⟩
  have HS1 := Lib.hid hs1
  have HB1 := Lib.hid (HB.out.trans (hb1.mono HB.out.size))
  have HX1 := Lib.hid (HX.out.below hb1 HX.out.lt)
  have HY1 := Lib.hid (HY.out.below hb1 HY.out.lt)
  have y0 := HY1.out.c0
  have y1 := HY1.out.c1
  have y2 := HY1.out.c2
  clear hs1 hb1 HX HY
  by_cases n1 : v1 < 0
  · go_wp2_with fail
    go_ret
    exact YN.of rfl HB1.out
  go_wp2_with fail
  refine (szC_one n l v1 w1 (HN.out _ HB1.out) (by omega) (by omega)).mono ?_
  rintro f w2 ⟨v2, rfl, hv2, hs2, hb2⟩
  have HS2 := Lib.hid hs2
  have HB2 := Lib.hid (HB1.out.trans (hb2.mono HB1.out.size))
  have HX2 := Lib.hid (HX1.out.below hb2 HX1.out.lt)
  have HY2 := Lib.hid (HY1.out.below hb2 HY1.out.lt)
  clear hs2 hb2 HX1 HY1 y0 y1 y2 HB
  by_cases n2 : v2 < 0
  · go_wp2_with fail
    go_ret
    exact YN.of rfl HB2.out
  have HMS : Hid (CSm m) := HS1.out (by omega)
  have HNS : Hid (CSm n) := HS2.out (by omega)
  have hsz : w.heap.size + 1 < w2.heap.size := HY2.out.lt
  have HS : Hid (∀ v, Below w2.heap.size w2 v → v.cell? ⟨w.heap.size, 0, none⟩ = some (.slice k.va m.vars.length k.vc) ∧ v.cell? ⟨w.heap.size, 1, none⟩ = some (.slice k.aa m.arrs.length k.ac) ∧ v.cell? ⟨w.heap.size, 2, none⟩ = some (.slice k.la m.list.length k.lc) ∧ v.cell? ⟨w.heap.size + 1, 0, none⟩ = some (.slice l.va n.vars.length l.vc) ∧ v.cell? ⟨w.heap.size + 1, 1, none⟩ = some (.slice l.aa n.arrs.length l.ac) ∧ v.cell? ⟨w.heap.size + 1, 2, none⟩ = some (.slice l.la n.list.length l.lc)) := fun v hv => by
    have bx := HX2.out.below hv HX2.out.lt
    have by' := HY2.out.below hv HY2.out.lt
    exact ⟨bx.c0, bx.c1, bx.c2, by'.c0, by'.c1, by'.c2⟩
  have HW : Hid (∀ v, Below w2.heap.size w2 v → CL v m k ∧ CL v n l) := fun v hv => ⟨HM.out _ (HB2.out.trans (hv.mono HB2.out.size)), HN.out _ (HB2.out.trans (hv.mono HB2.out.size))⟩
  obtain ⟨x0, x1, x2, y0, y1, y2⟩ := HS.out w2 (Below.refl _ _)
  obtain ⟨q, hq⟩ : ∃ q, decide (m = n) = q := ⟨_, rfl⟩
  have HBD : Hid (Below w2.heap.size w2 w2.drew) := (Below.refl _ _).drew
  clear HS1 HS2 HX2 HY2 HB1 HM HN
  go_wp2_with fail
  go_region_held3 (fun v => v.cell? ⟨w.heap.size, 0, none⟩ = some (.slice k.va m.vars.length k.vc) ∧ v.cell? ⟨w.heap.size, 1, none⟩ = some (.slice k.aa m.arrs.length k.ac) ∧ v.cell? ⟨w.heap.size, 2, none⟩ = some (.slice k.la m.list.length k.lc) ∧ v.cell? ⟨w.heap.size + 1, 0, none⟩ = some (.slice l.va n.vars.length l.vc) ∧ v.cell? ⟨w.heap.size + 1, 1, none⟩ = some (.slice l.aa n.arrs.length l.ac) ∧ v.cell? ⟨w.heap.size + 1, 2, none⟩ = some (.slice l.la n.list.length l.lc)) (first | assumption | exact ⟨x0, x1, x2, y0, y1, y2⟩)
    (first
    | (go_at_call 14; (with_reducible refine (toC_one m k w2.drew (HW.out _ HBD.out).1 HMS.out).mono ?_); rintro f u1 ⟨k1, rfl, hm1, hA⟩; have hA2 := HBD.out.trans hA; have hS1 := HS.out _ hA2)
    | (go_at_call 14; (with_reducible refine (toC_one n l u1 (HW.out _ hA2).2 HNS.out).mono ?_); rintro f u2 ⟨l1, rfl, hn1, hC⟩; have hM2 := hm1.below hC; have hC2 := hA2.trans (hC.mono hA2.size); have hS2 := HS.out _ hC2)
    | (go_at_call 13; (with_reducible refine (sCS_one m n k1 l1 u2 hM2 hn1).mono ?_); rintro f u3 ⟨rfl, hE⟩; rw [hq]; have hB3 := hC2.trans (hE.mono hC2.size); have hS3 := HS.out _ hB3)
    | (go_at_call 14; (with_reducible refine (toC_one n l w2.drew (HW.out _ HBD.out).2 HNS.out).mono ?_); rintro f u1' ⟨l1, rfl, hn1, hA⟩; have hA2 := HBD.out.trans hA; have hS1 := HS.out _ hA2)
    | (go_at_call 14; (with_reducible refine (toC_one m k u1' (HW.out _ hA2).1 HMS.out).mono ?_); rintro f u2' ⟨k1, rfl, hm1, hC⟩; have hN2 := hn1.below hC; have hC2 := hA2.trans (hC.mono hA2.size); have hS2 := HS.out _ hC2)
    | (go_at_call 13; (with_reducible refine (sCS_one m n k1 l1 u2' hm1 hN2).mono ?_); rintro f u3 ⟨rfl, hE⟩; rw [hq]; have hB3 := hC2.trans (hE.mono hC2.size); have hS3 := HS.out _ hB3)
    | fail)
  all_goals
    have HB3 := Lib.hid hB3
    obtain ⟨f0, f1, f2, f3, f4, f5⟩ := hS3
    clear x0 x1 x2 y0 y1 y2 hB3 hC2 hA2 hS1 hS2 hE hC hA
    go_wp2_with fail
    refine (toC_one m k u3 (HW.out _ HB3.out).1 HMS.out).mono ?_
    rintro f u4 ⟨k2, rfl, hm4, hb4⟩
    have hB5 : Below w2.heap.size w2 (u4.alloc (.cells #[.slice k2.va m.vars.length k2.vc, .slice k2.aa m.arrs.length k2.ac, .slice k2.la m.list.length k2.lc] 40)) := (HB3.out.trans (hb4.mono HB3.out.size)).alloc (Nat.le_trans HB3.out.size hb4.size) _
    have hX5 : BoxC (u4.alloc (.cells #[.slice k2.va m.vars.length k2.vc, .slice k2.aa m.arrs.length k2.ac, .slice k2.la m.list.length k2.lc] 40)) u4.heap.size m k2 := BoxC.new _ _ _ _
    have hC5 : CL (u4.alloc (.cells #[.slice k2.va m.vars.length k2.vc, .slice k2.aa m.arrs.length k2.ac, .slice k2.la m.list.length k2.lc] 40)) m k2 := hm4.below ((Below.refl _ _).alloc (Nat.le_refl _) _)
    obtain ⟨_, _, _, g0, g1, g2⟩ := HS.out _ hB5
    have HB5 := Lib.hid hB5
    have HX5 := Lib.hid hX5
    have HC5 := Lib.hid hC5
    clear f0 f1 f2 f3 f4 f5 hm4 hb4 hB5 hX5 hC5
    go_wp2_with fail
    obtain ⟨u5, hu5⟩ : ∃ u5, u4.alloc (.cells #[.slice k2.va m.vars.length k2.vc, .slice k2.aa m.arrs.length k2.ac, .slice k2.la m.list.length k2.lc] 40) = u5 := ⟨_, rfl⟩
    rw [hu5] at HB5 HX5 HC5 ⊢
    clear hu5 g0 g1 g2
    refine (toC_one n l u5 (HW.out _ HB5.out).2 HNS.out).mono ?_
    rintro f u6 ⟨l2, rfl, hn6, hb6⟩
    have hb7 : Below u5.heap.size u5 (u6.alloc (.cells #[.slice l2.va n.vars.length l2.vc, .slice l2.aa n.arrs.length l2.ac, .slice l2.la n.list.length l2.lc] 40)) := hb6.alloc hb6.size _
    have hX7 : BoxC (u6.alloc (.cells #[.slice l2.va n.vars.length l2.vc, .slice l2.aa n.arrs.length l2.ac, .slice l2.la n.list.length l2.lc] 40)) u6.heap.size n l2 := BoxC.new _ _ _ _
    have hE7 : CL (u6.alloc (.cells #[.slice l2.va n.vars.length l2.vc, .slice l2.aa n.arrs.length l2.ac, .slice l2.la n.list.length l2.lc] 40)) n l2 := hn6.below ((Below.refl _ _).alloc (Nat.le_refl _) _)
    have hP7 := HX5.out.below hb7 HX5.out.lt
    have hC7 := HC5.out.below hb7
    have hB7 := HB5.out.trans (hb7.mono HB5.out.size)
    have q0 := hP7.c0
    have q1 := hP7.c1
    have q2 := hP7.c2
    have HB7 := Lib.hid hB7
    have HX7 := Lib.hid hX7
    have HE7 := Lib.hid hE7
    have HP7 := Lib.hid hP7
    have HC7 := Lib.hid hC7
    have y0 := hX7.c0
    have y1 := hX7.c1
    have y2 := hX7.c2
    clear hn6 hb6 hb7 hX7 hE7 hP7 hC7 hB7 HX5 HC5 HB5 HB3
    go_wp2_with fail
    obtain ⟨u7, hu7⟩ : ∃ u7, u6.alloc (.cells #[.slice l2.va n.vars.length l2.vc, .slice l2.aa n.arrs.length l2.ac, .slice l2.la n.list.length l2.lc] 40) = u7 := ⟨_, rfl⟩
    rw [hu7] at HB7 HX7 HE7 HP7 HC7 ⊢
    clear hu7 q0 q1 q2 y0 y1 y2
    refine (iCS_one m n k2 l2 u7 HC7.out HE7.out).mono ?_
    rintro f u8 ⟨rfl, hb8⟩
    rw [hq]
    have hB8 := HB7.out.trans (hb8.mono HB7.out.size)
    have HB8 := Lib.hid hB8
    have HP8 := Lib.hid (HP7.out.below hb8 HP7.out.lt)
    have HX8 := Lib.hid (HX7.out.below hb8 HX7.out.lt)
    have HC8 := Lib.hid (HC7.out.below hb8)
    have HE8 := Lib.hid (HE7.out.below hb8)
    obtain ⟨f0, f1, f2, _, _, _⟩ := HS.out _ hB8
    have q0 := HP8.out.c0
    have q1 := HP8.out.c1
    have q2 := HP8.out.c2
    have hz8 := hb8.size
    have HSQ : Hid (∀ v, Below u8.heap.size u8 v → v.cell? ⟨w.heap.size, 0, none⟩ = some (.slice k.va m.vars.length k.vc) ∧ v.cell? ⟨w.heap.size, 1, none⟩ = some (.slice k.aa m.arrs.length k.ac) ∧ v.cell? ⟨w.heap.size, 2, none⟩ = some (.slice k.la m.list.length k.lc) ∧ v.cell? ⟨u4.heap.size, 0, none⟩ = some (.slice k2.va m.vars.length k2.vc) ∧ v.cell? ⟨u4.heap.size, 1, none⟩ = some (.slice k2.aa m.arrs.length k2.ac) ∧ v.cell? ⟨u4.heap.size, 2, none⟩ = some (.slice k2.la m.list.length k2.lc)) := fun v hv => by
      obtain ⟨f0, f1, f2, _, _, _⟩ := HS.out v (HB8.out.trans (hv.mono HB8.out.size))
      have h := HP8.out.below hv HP8.out.lt
      exact ⟨f0, f1, f2, h.c0, h.c1, h.c2⟩
    have HWQ : Hid (∀ v, Below u8.heap.size u8 v → CL v m k ∧ CL v n l) := fun v hv => HW.out _ (HB8.out.trans (hv.mono HB8.out.size))
    have HBD8 : Hid (Below u8.heap.size u8 u8.drew) := (Below.refl _ _).drew
    clear hB8 hb8 HP7 HX7 HC7 HE7 HB7
    cases q
    all_goals
      go_wp2_with fail
      go_region_held3 (fun v => v.cell? ⟨w.heap.size, 0, none⟩ = some (.slice k.va m.vars.length k.vc) ∧ v.cell? ⟨w.heap.size, 1, none⟩ = some (.slice k.aa m.arrs.length k.ac) ∧ v.cell? ⟨w.heap.size, 2, none⟩ = some (.slice k.la m.list.length k.lc) ∧ v.cell? ⟨u4.heap.size, 0, none⟩ = some (.slice k2.va m.vars.length k2.vc) ∧ v.cell? ⟨u4.heap.size, 1, none⟩ = some (.slice k2.aa m.arrs.length k2.ac) ∧ v.cell? ⟨u4.heap.size, 2, none⟩ = some (.slice k2.la m.list.length k2.lc)) (first | assumption | exact ⟨f0, f1, f2, q0, q1, q2⟩)
        (first
        | (go_at_call 14; (with_reducible refine (toC_one m k u8.drew (HWQ.out _ HBD8.out).1 HMS.out).mono ?_); rintro f u9 ⟨k3, rfl, hm3, hA⟩; have hA2 := HBD8.out.trans hA; have hS1 := HSQ.out _ hA2)
        | (go_at_call 16; (with_reducible refine (eqC_one m m k2 k3 u9 (HC8.out.below hA2) hm3).mono ?_); rintro f u10 ⟨rfl, hE⟩; rw [show decide (m = m) = true from decide_eq_true rfl]; have hB10 := hA2.trans (hE.mono hA2.size); have hS2 := HSQ.out _ hB10)
        | fail)
      have hB10' := HB8.out.trans (hB10.mono HB8.out.size)
      obtain ⟨_, _, _, g0, g1, g2⟩ := HS.out _ hB10'
      have HX10 := Lib.hid (HX8.out.below hB10 HX8.out.lt)
      have q0' := HX10.out.c0
      have q1' := HX10.out.c1
      have q2' := HX10.out.c2
      have HE10 := Lib.hid (HE8.out.below hB10)
      have HB10 := Lib.hid hB10'
      have HSE : Hid (∀ v, Below u10.heap.size u10 v → v.cell? ⟨w.heap.size + 1, 0, none⟩ = some (.slice l.va n.vars.length l.vc) ∧ v.cell? ⟨w.heap.size + 1, 1, none⟩ = some (.slice l.aa n.arrs.length l.ac) ∧ v.cell? ⟨w.heap.size + 1, 2, none⟩ = some (.slice l.la n.list.length l.lc) ∧ v.cell? ⟨u6.heap.size, 0, none⟩ = some (.slice l2.va n.vars.length l2.vc) ∧ v.cell? ⟨u6.heap.size, 1, none⟩ = some (.slice l2.aa n.arrs.length l2.ac) ∧ v.cell? ⟨u6.heap.size, 2, none⟩ = some (.slice l2.la n.list.length l2.lc)) := fun v hv => by
        obtain ⟨_, _, _, g0, g1, g2⟩ := HS.out v (HB10.out.trans (hv.mono HB10.out.size))
        have h := HX10.out.below hv HX10.out.lt
        exact ⟨g0, g1, g2, h.c0, h.c1, h.c2⟩
      have HWE : Hid (∀ v, Below u10.heap.size u10 v → CL v m k ∧ CL v n l) := fun v hv => HW.out _ (HB10.out.trans (hv.mono HB10.out.size))
      have HBD10 : Hid (Below u10.heap.size u10 u10.drew) := (Below.refl _ _).drew
      clear hB10 hB10' hA hA2 hE hS1 hS2 q0 q1 q2 f0 f1 f2 HSQ HC8 HWQ
      go_wp2_with fail
      go_region_held3 (fun v => v.cell? ⟨w.heap.size + 1, 0, none⟩ = some (.slice l.va n.vars.length l.vc) ∧ v.cell? ⟨w.heap.size + 1, 1, none⟩ = some (.slice l.aa n.arrs.length l.ac) ∧ v.cell? ⟨w.heap.size + 1, 2, none⟩ = some (.slice l.la n.list.length l.lc) ∧ v.cell? ⟨u6.heap.size, 0, none⟩ = some (.slice l2.va n.vars.length l2.vc) ∧ v.cell? ⟨u6.heap.size, 1, none⟩ = some (.slice l2.aa n.arrs.length l2.ac) ∧ v.cell? ⟨u6.heap.size, 2, none⟩ = some (.slice l2.la n.list.length l2.lc)) (first | assumption | exact ⟨g0, g1, g2, q0', q1', q2'⟩)
        (first
        | (go_at_call 14; (with_reducible refine (toC_one n l u10.drew (HWE.out _ HBD10.out).2 HNS.out).mono ?_); rintro f u11 ⟨l3, rfl, hn3, hA⟩; have hA2 := HBD10.out.trans hA; have hS1 := HSE.out _ hA2)
        | (go_at_call 16; (with_reducible refine (eqC_one n n l2 l3 u11 (HE10.out.below hA2) hn3).mono ?_); rintro f u12 ⟨rfl, hE⟩; rw [show decide (n = n) = true from decide_eq_true rfl]; have hB12 := hA2.trans (hE.mono hA2.size); have hS2 := HSE.out _ hB12)
        | fail)
      have HB12 := Lib.hid (HB10.out.trans (hB12.mono HB10.out.size))
      clear hB12 hA hA2 hE hS1 hS2 q0' q1' q2' g0 g1 g2 HSE
      go_wp2_with fail
      go_ret
      exact YN.of rfl (HB2.out.trans (HB12.out.mono HB2.out.size))

end Go.Proofs.Ytleomemalgfmoaa

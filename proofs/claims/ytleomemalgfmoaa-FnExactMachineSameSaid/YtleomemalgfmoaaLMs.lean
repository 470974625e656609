/- The law FnExactMachineSame, walked: at every two states the call returns true; nothing that was there has changed. -/
import Derived.Test.YtleomemalgfmoaaMcT
import Derived.Deep.RegionWith
import Derived.Deep.RegionHeld3
namespace Go.Proofs.Ytleomemalgfmoaa
open Go.RowKit
set_option linter.unusedVariables false

set_option maxRecDepth 100000 in
set_option maxHeartbeats 8000000 in
theorem law_FnExactMachineSame (m n : Ms) (k l : MK) (w : World) (h : SL w m k) (h' : SL w n l) :
    Calls Try.prog 5 #[aggS4 m k, aggS4 n l] w (YN true w) := by
  have HM : Hid (∀ v, Below w.heap.size w v → SL v m k) := fun v hv => h.below hv
  have HN : Hid (∀ v, Below w.heap.size w v → SL v n l) := fun v hv => h'.below hv
  clear h h'
  obtain ⟨hB, h0, h1, hz⟩ := two_states (w := w) m n k l 45
  have HB := Lib.hid hB
  have HX := Lib.hid h0
  have HY := Lib.hid h1
  clear hB h0 h1
  go_enter Try.func5, Try.ntmps5
  go_wp2_with fail
  obtain ⟨W, hW⟩ : ∃ W, ((w.alloc (.cells (arrS4 m k) 45)).alloc (.cells (arrS4 n l) 45)) = W := ⟨_, rfl⟩
  unfold arrS4 at hW
  rw [hW] at HB HX HY hz ⊢
  clear hW
  refine (szS_one m k 1048576 W (HM.out _ HB.out) (by omega) (by omega)).mono ?_
  rintro f w1 ⟨v1, rfl, hv1, hs1, hb1⟩
  have HS1 := Lib.hid hs1
  have HB1 := Lib.hid (HB.out.trans (hb1.mono HB.out.size))
  have HX1 := Lib.hid (HX.out.below hb1 HX.out.lt)
  have HY1 := Lib.hid (HY.out.below hb1 HY.out.lt)
  have y0 := HY1.out.c0
  have y1 := HY1.out.c1
  have y2 := HY1.out.c2
  have y3 := HY1.out.c3
  clear hs1 hb1 HX HY
  by_cases n1 : v1 < 0
  · go_wp2_with fail
    go_ret
    exact YN.of rfl HB1.out
  go_wp2_with fail
  refine (szS_one n l v1 w1 (HN.out _ HB1.out) (by omega) (by omega)).mono ?_
  rintro f w2 ⟨v2, rfl, hv2, hs2, hb2⟩
  have HS2 := Lib.hid hs2
  have HB2 := Lib.hid (HB1.out.trans (hb2.mono HB1.out.size))
  have HX2 := Lib.hid (HX1.out.below hb2 HX1.out.lt)
  have HY2 := Lib.hid (HY1.out.below hb2 HY1.out.lt)
  clear hs2 hb2 HX1 HY1 y0 y1 y2 y3 HB
  by_cases n2 : v2 < 0
  · go_wp2_with fail
    go_ret
    exact YN.of rfl HB2.out
  have HMS : Hid (SSm m) := HS1.out (by omega)
  have HNS : Hid (SSm n) := HS2.out (by omega)
  have hsz : w.heap.size + 1 < w2.heap.size := HY2.out.lt
  have HS : Hid (∀ v, Below w2.heap.size w2 v → v.cell? ⟨w.heap.size, 0, none⟩ = some (.int .i64 m.pc) ∧ v.cell? ⟨w.heap.size, 1, none⟩ = some (.slice k.ra m.regs.length k.rc) ∧ v.cell? ⟨w.heap.size, 2, none⟩ = some (.slice k.me.va m.mem.vals.length k.me.vc) ∧ v.cell? ⟨w.heap.size, 3, none⟩ = some (.slice k.me.aa m.mem.arrs.length k.me.ac) ∧ v.cell? ⟨w.heap.size + 1, 0, none⟩ = some (.int .i64 n.pc) ∧ v.cell? ⟨w.heap.size + 1, 1, none⟩ = some (.slice l.ra n.regs.length l.rc) ∧ v.cell? ⟨w.heap.size + 1, 2, none⟩ = some (.slice l.me.va n.mem.vals.length l.me.vc) ∧ v.cell? ⟨w.heap.size + 1, 3, none⟩ = some (.slice l.me.aa n.mem.arrs.length l.me.ac)) := fun v hv => by
    have bx := HX2.out.below hv HX2.out.lt
    have by' := HY2.out.below hv HY2.out.lt
    exact ⟨bx.c0, bx.c1, bx.c2, bx.c3, by'.c0, by'.c1, by'.c2, by'.c3⟩
  have HW : Hid (∀ v, Below w2.heap.size w2 v → SL v m k ∧ SL v n l) := fun v hv => ⟨HM.out _ (HB2.out.trans (hv.mono HB2.out.size)), HN.out _ (HB2.out.trans (hv.mono HB2.out.size))⟩
  obtain ⟨x0, x1, x2, x3, y0, y1, y2, y3⟩ := HS.out w2 (Below.refl _ _)
  obtain ⟨q, hq⟩ : ∃ q, decide (m = n) = q := ⟨_, rfl⟩
  have HBD : Hid (Below w2.heap.size w2 w2.drew) := (Below.refl _ _).drew
  clear HS1 HS2 HX2 HY2 HB1 HM HN
  go_wp2_with fail
  go_region_held3 (fun v => v.cell? ⟨w.heap.size, 0, none⟩ = some (.int .i64 m.pc) ∧ v.cell? ⟨w.heap.size, 1, none⟩ = some (.slice k.ra m.regs.length k.rc) ∧ v.cell? ⟨w.heap.size, 2, none⟩ = some (.slice k.me.va m.mem.vals.length k.me.vc) ∧ v.cell? ⟨w.heap.size, 3, none⟩ = some (.slice k.me.aa m.mem.arrs.length k.me.ac) ∧ v.cell? ⟨w.heap.size + 1, 0, none⟩ = some (.int .i64 n.pc) ∧ v.cell? ⟨w.heap.size + 1, 1, none⟩ = some (.slice l.ra n.regs.length l.rc) ∧ v.cell? ⟨w.heap.size + 1, 2, none⟩ = some (.slice l.me.va n.mem.vals.length l.me.vc) ∧ v.cell? ⟨w.heap.size + 1, 3, none⟩ = some (.slice l.me.aa n.mem.arrs.length l.me.ac)) (first | assumption | exact ⟨x0, x1, x2, x3, y0, y1, y2, y3⟩)
    (first
    | (go_at_call 18; (with_reducible refine (toS4_one m k w2.drew (HW.out _ HBD.out).1 HMS.out).mono ?_); rintro f u1 ⟨k1, rfl, hm1, hA⟩; have hA2 := HBD.out.trans hA; have hS1 := HS.out _ hA2)
    | (go_at_call 18; (with_reducible refine (toS4_one n l u1 (HW.out _ hA2).2 HNS.out).mono ?_); rintro f u2 ⟨l1, rfl, hn1, hC⟩; have hM2 := hm1.below hC; have hC2 := hA2.trans (hC.mono hA2.size); have hS2 := HS.out _ hC2)
    | (go_at_call 11; (with_reducible refine (sSS_one m n k1 l1 u2 hM2 hn1).mono ?_); rintro f u3 ⟨rfl, hE⟩; rw [hq]; have hB3 := hC2.trans (hE.mono hC2.size); have hS3 := HS.out _ hB3)
    | (go_at_call 18; (with_reducible refine (toS4_one n l w2.drew (HW.out _ HBD.out).2 HNS.out).mono ?_); rintro f u1' ⟨l1, rfl, hn1, hA⟩; have hA2 := HBD.out.trans hA; have hS1 := HS.out _ hA2)
    | (go_at_call 18; (with_reducible refine (toS4_one m k u1' (HW.out _ hA2).1 HMS.out).mono ?_); rintro f u2' ⟨k1, rfl, hm1, hC⟩; have hN2 := hn1.below hC; have hC2 := hA2.trans (hC.mono hA2.size); have hS2 := HS.out _ hC2)
    | (go_at_call 11; (with_reducible refine (sSS_one m n k1 l1 u2' hm1 hN2).mono ?_); rintro f u3 ⟨rfl, hE⟩; rw [hq]; have hB3 := hC2.trans (hE.mono hC2.size); have hS3 := HS.out _ hB3)
    | fail)
  all_goals
    have HB3 := Lib.hid hB3
    obtain ⟨f0, f1, f2, f3, f4, f5, f6, f7⟩ := hS3
    clear x0 x1 x2 x3 y0 y1 y2 y3 hB3 hC2 hA2 hS1 hS2 hE hC hA
    go_wp2_with fail
    refine (toS4_one m k u3 (HW.out _ HB3.out).1 HMS.out).mono ?_
    rintro f u4 ⟨k2, rfl, hm4, hb4⟩
    have hB5 : Below w2.heap.size w2 (u4.alloc (.cells #[.int .i64 m.pc, .slice k2.ra m.regs.length k2.rc, .slice k2.me.va m.mem.vals.length k2.me.vc, .slice k2.me.aa m.mem.arrs.length k2.me.ac] 28)) := (HB3.out.trans (hb4.mono HB3.out.size)).alloc (Nat.le_trans HB3.out.size hb4.size) _
    have hX5 : BoxS (u4.alloc (.cells #[.int .i64 m.pc, .slice k2.ra m.regs.length k2.rc, .slice k2.me.va m.mem.vals.length k2.me.vc, .slice k2.me.aa m.mem.arrs.length k2.me.ac] 28)) u4.heap.size m k2 := BoxS.new _ _ _ _
    have hC5 : SL (u4.alloc (.cells #[.int .i64 m.pc, .slice k2.ra m.regs.length k2.rc, .slice k2.me.va m.mem.vals.length k2.me.vc, .slice k2.me.aa m.mem.arrs.length k2.me.ac] 28)) m k2 := hm4.below ((Below.refl _ _).alloc (Nat.le_refl _) _)
    obtain ⟨_, _, _, _, g0, g1, g2, g3⟩ := HS.out _ hB5
    have HB5 := Lib.hid hB5
    have HX5 := Lib.hid hX5
    have HC5 := Lib.hid hC5
    clear f0 f1 f2 f3 f4 f5 f6 f7 hm4 hb4 hB5 hX5 hC5
    go_wp2_with fail
    obtain ⟨u5, hu5⟩ : ∃ u5, u4.alloc (.cells #[.int .i64 m.pc, .slice k2.ra m.regs.length k2.rc, .slice k2.me.va m.mem.vals.length k2.me.vc, .slice k2.me.aa m.mem.arrs.length k2.me.ac] 28) = u5 := ⟨_, rfl⟩
    rw [hu5] at HB5 HX5 HC5 ⊢
    clear hu5 g0 g1 g2 g3
    refine (toS4_one n l u5 (HW.out _ HB5.out).2 HNS.out).mono ?_
    rintro f u6 ⟨l2, rfl, hn6, hb6⟩
    have hb7 : Below u5.heap.size u5 (u6.alloc (.cells #[.int .i64 n.pc, .slice l2.ra n.regs.length l2.rc, .slice l2.me.va n.mem.vals.length l2.me.vc, .slice l2.me.aa n.mem.arrs.length l2.me.ac] 28)) := hb6.alloc hb6.size _
    have hX7 : BoxS (u6.alloc (.cells #[.int .i64 n.pc, .slice l2.ra n.regs.length l2.rc, .slice l2.me.va n.mem.vals.length l2.me.vc, .slice l2.me.aa n.mem.arrs.length l2.me.ac] 28)) u6.heap.size n l2 := BoxS.new _ _ _ _
    have hE7 : SL (u6.alloc (.cells #[.int .i64 n.pc, .slice l2.ra n.regs.length l2.rc, .slice l2.me.va n.mem.vals.length l2.me.vc, .slice l2.me.aa n.mem.arrs.length l2.me.ac] 28)) n l2 := hn6.below ((Below.refl _ _).alloc (Nat.le_refl _) _)
    have hP7 := HX5.out.below hb7 HX5.out.lt
    have hC7 := HC5.out.below hb7
    have hB7 := HB5.out.trans (hb7.mono HB5.out.size)
    have q0 := hP7.c0
    have q1 := hP7.c1
    have q2 := hP7.c2
    have q3 := hP7.c3
    have HB7 := Lib.hid hB7
    have HX7 := Lib.hid hX7
    have HE7 := Lib.hid hE7
    have HP7 := Lib.hid hP7
    have HC7 := Lib.hid hC7
    have y0 := hX7.c0
    have y1 := hX7.c1
    have y2 := hX7.c2
    have y3 := hX7.c3
    clear hn6 hb6 hb7 hX7 hE7 hP7 hC7 hB7 HX5 HC5 HB5 HB3
    go_wp2_with fail
    obtain ⟨u7, hu7⟩ : ∃ u7, u6.alloc (.cells #[.int .i64 n.pc, .slice l2.ra n.regs.length l2.rc, .slice l2.me.va n.mem.vals.length l2.me.vc, .slice l2.me.aa n.mem.arrs.length l2.me.ac] 28) = u7 := ⟨_, rfl⟩
    rw [hu7] at HB7 HX7 HE7 HP7 HC7 ⊢
    clear hu7 q0 q1 q2 q3 y0 y1 y2 y3
    refine (iSS_one m n k2 l2 u7 HC7.out HE7.out).mono ?_
    rintro f u8 ⟨rfl, hb8⟩
    rw [hq]
    have hB8 := HB7.out.trans (hb8.mono HB7.out.size)
    have HB8 := Lib.hid hB8
    have HP8 := Lib.hid (HP7.out.below hb8 HP7.out.lt)
    have HX8 := Lib.hid (HX7.out.below hb8 HX7.out.lt)
    have HC8 := Lib.hid (HC7.out.below hb8)
    have HE8 := Lib.hid (HE7.out.below hb8)
    obtain ⟨f0, f1, f2, f3, _, _, _, _⟩ := HS.out _ hB8
    have q0 := HP8.out.c0
    have q1 := HP8.out.c1
    have q2 := HP8.out.c2
    have q3 := HP8.out.c3
    have hz8 := hb8.size
    have HSQ : Hid (∀ v, Below u8.heap.size u8 v → v.cell? ⟨w.heap.size, 0, none⟩ = some (.int .i64 m.pc) ∧ v.cell? ⟨w.heap.size, 1, none⟩ = some (.slice k.ra m.regs.length k.rc) ∧ v.cell? ⟨w.heap.size, 2, none⟩ = some (.slice k.me.va m.mem.vals.length k.me.vc) ∧ v.cell? ⟨w.heap.size, 3, none⟩ = some (.slice k.me.aa m.mem.arrs.length k.me.ac) ∧ v.cell? ⟨u4.heap.size, 0, none⟩ = some (.int .i64 m.pc) ∧ v.cell? ⟨u4.heap.size, 1, none⟩ = some (.slice k2.ra m.regs.length k2.rc) ∧ v.cell? ⟨u4.heap.size, 2, none⟩ = some (.slice k2.me.va m.mem.vals.length k2.me.vc) ∧ v.cell? ⟨u4.heap.size, 3, none⟩ = some (.slice k2.me.aa m.mem.arrs.length k2.me.ac)) := fun v hv => by
      obtain ⟨f0, f1, f2, f3, _, _, _, _⟩ := HS.out v (HB8.out.trans (hv.mono HB8.out.size))
      have h := HP8.out.below hv HP8.out.lt
      exact ⟨f0, f1, f2, f3, h.c0, h.c1, h.c2, h.c3⟩
    have HWQ : Hid (∀ v, Below u8.heap.size u8 v → SL v m k ∧ SL v n l) := fun v hv => HW.out _ (HB8.out.trans (hv.mono HB8.out.size))
    have HBD8 : Hid (Below u8.heap.size u8 u8.drew) := (Below.refl _ _).drew
    clear hB8 hb8 HP7 HX7 HC7 HE7 HB7
    cases q
    all_goals
      go_wp2_with fail
      go_region_held3 (fun v => v.cell? ⟨w.heap.size, 0, none⟩ = some (.int .i64 m.pc) ∧ v.cell? ⟨w.heap.size, 1, none⟩ = some (.slice k.ra m.regs.length k.rc) ∧ v.cell? ⟨w.heap.size, 2, none⟩ = some (.slice k.me.va m.mem.vals.length k.me.vc) ∧ v.cell? ⟨w.heap.size, 3, none⟩ = some (.slice k.me.aa m.mem.arrs.length k.me.ac) ∧ v.cell? ⟨u4.heap.size, 0, none⟩ = some (.int .i64 m.pc) ∧ v.cell? ⟨u4.heap.size, 1, none⟩ = some (.slice k2.ra m.regs.length k2.rc) ∧ v.cell? ⟨u4.heap.size, 2, none⟩ = some (.slice k2.me.va m.mem.vals.length k2.me.vc) ∧ v.cell? ⟨u4.heap.size, 3, none⟩ = some (.slice k2.me.aa m.mem.arrs.length k2.me.ac)) (first | assumption | exact ⟨f0, f1, f2, f3, q0, q1, q2, q3⟩)
        (first
        | (go_at_call 18; (with_reducible refine (toS4_one m k u8.drew (HWQ.out _ HBD8.out).1 HMS.out).mono ?_); rintro f u9 ⟨k3, rfl, hm3, hA⟩; have hA2 := HBD8.out.trans hA; have hS1 := HSQ.out _ hA2)
        | (go_at_call 19; (with_reducible refine (eqS4_one m m k2 k3 u9 (HC8.out.below hA2) hm3).mono ?_); rintro f u10 ⟨rfl, hE⟩; rw [show decide (m = m) = true from decide_eq_true rfl]; have hB10 := hA2.trans (hE.mono hA2.size); have hS2 := HSQ.out _ hB10)
        | fail)
      have hB10' := HB8.out.trans (hB10.mono HB8.out.size)
      obtain ⟨_, _, _, _, g0, g1, g2, g3⟩ := HS.out _ hB10'
      have HX10 := Lib.hid (HX8.out.below hB10 HX8.out.lt)
      have q0' := HX10.out.c0
      have q1' := HX10.out.c1
      have q2' := HX10.out.c2
      have q3' := HX10.out.c3
      have HE10 := Lib.hid (HE8.out.below hB10)
      have HB10 := Lib.hid hB10'
      have HSE : Hid (∀ v, Below u10.heap.size u10 v → v.cell? ⟨w.heap.size + 1, 0, none⟩ = some (.int .i64 n.pc) ∧ v.cell? ⟨w.heap.size + 1, 1, none⟩ = some (.slice l.ra n.regs.length l.rc) ∧ v.cell? ⟨w.heap.size + 1, 2, none⟩ = some (.slice l.me.va n.mem.vals.length l.me.vc) ∧ v.cell? ⟨w.heap.size + 1, 3, none⟩ = some (.slice l.me.aa n.mem.arrs.length l.me.ac) ∧ v.cell? ⟨u6.heap.size, 0, none⟩ = some (.int .i64 n.pc) ∧ v.cell? ⟨u6.heap.size, 1, none⟩ = some (.slice l2.ra n.regs.length l2.rc) ∧ v.cell? ⟨u6.heap.size, 2, none⟩ = some (.slice l2.me.va n.mem.vals.length l2.me.vc) ∧ v.cell? ⟨u6.heap.size, 3, none⟩ = some (.slice l2.me.aa n.mem.arrs.length l2.me.ac)) := fun v hv => by
        obtain ⟨_, _, _, _, g0, g1, g2, g3⟩ := HS.out v (HB10.out.trans (hv.mono HB10.out.size))
        have h := HX10.out.below hv HX10.out.lt
        exact ⟨g0, g1, g2, g3, h.c0, h.c1, h.c2, h.c3⟩
      have HWE : Hid (∀ v, Below u10.heap.size u10 v → SL v m k ∧ SL v n l) := fun v hv => HW.out _ (HB10.out.trans (hv.mono HB10.out.size))
      have HBD10 : Hid (Below u10.heap.size u10 u10.drew) := (Below.refl _ _).drew
      clear hB10 hB10' hA hA2 hE hS1 hS2 q0 q1 q2 q3 f0 f1 f2 f3 HSQ HC8 HWQ
      go_wp2_with fail
      go_region_held3 (fun v => v.cell? ⟨w.heap.size + 1, 0, none⟩ = some (.int .i64 n.pc) ∧ v.cell? ⟨w.heap.size + 1, 1, none⟩ = some (.slice l.ra n.regs.length l.rc) ∧ v.cell? ⟨w.heap.size + 1, 2, none⟩ = some (.slice l.me.va n.mem.vals.length l.me.vc) ∧ v.cell? ⟨w.heap.size + 1, 3, none⟩ = some (.slice l.me.aa n.mem.arrs.length l.me.ac) ∧ v.cell? ⟨u6.heap.size, 0, none⟩ = some (.int .i64 n.pc) ∧ v.cell? ⟨u6.heap.size, 1, none⟩ = some (.slice l2.ra n.regs.length l2.rc) ∧ v.cell? ⟨u6.heap.size, 2, none⟩ = some (.slice l2.me.va n.mem.vals.length l2.me.vc) ∧ v.cell? ⟨u6.heap.size, 3, none⟩ = some (.slice l2.me.aa n.mem.arrs.length l2.me.ac)) (first | assumption | exact ⟨g0, g1, g2, g3, q0', q1', q2', q3'⟩)
        (first
        | (go_at_call 18; (with_reducible refine (toS4_one n l u10.drew (HWE.out _ HBD10.out).2 HNS.out).mono ?_); rintro f u11 ⟨l3, rfl, hn3, hA⟩; have hA2 := HBD10.out.trans hA; have hS1 := HSE.out _ hA2)
        | (go_at_call 19; (with_reducible refine (eqS4_one n n l2 l3 u11 (HE10.out.below hA2) hn3).mono ?_); rintro f u12 ⟨rfl, hE⟩; rw [show decide (n = n) = true from decide_eq_true rfl]; have hB12 := hA2.trans (hE.mono hA2.size); have hS2 := HSE.out _ hB12)
        | fail)
      have HB12 := Lib.hid (HB10.out.trans (hB12.mono HB10.out.size))
      clear hB12 hA hA2 hE hS1 hS2 q0' q1' q2' q3' g0 g1 g2 g3 HSE
      go_wp2_with fail
      go_ret
      exact YN.of rfl (HB2.out.trans (HB12.out.mono HB2.out.size))

end Go.Proofs.Ytleomemalgfmoaa

/- The law FnExactExprLabel, walked: at every program and expression the call returns true; nothing that was there has changed. Condition: the tables of operands and of the library lie as the program's text lays them. -/
import Derived.Test.YtnbngjgkmhdijaaDoorLbS
namespace Go.Proofs.YtnbngjgkmhdijaaDoor
open Go.RowKit
set_option linter.unusedVariables false

set_option maxRecDepth 100000 in
set_option maxHeartbeats 8000000 in
theorem law_FnExactExprLabel (p : Pg) (k : PC) (e : E) (a : Option Addr) (c : Nat) (w : World) (hT : TblO w) (hTB : TblB w) (hw : 2 ≤ w.heap.size) (hp : RP w p k) (h : RE w e a c) :
    Calls Tryd.prog 3 #[aggP p k, .agg #[.int .i64 e.kind, .int .i64 e.value, .slice a e.kids.length c]] w (AnsB true w) := by
  have HP := Lib.hid hp
  have HE := Lib.hid h
  have HT := Lib.hid hT
  have HT2 := Lib.hid hTB
  clear hp h hT hTB
  go_enter Tryd.func3, Tryd.ntmps3
  go_wp2_with fail
  obtain ⟨W, hW⟩ : ∃ W, ((w.alloc (.cells (arrP p k) 25)).alloc (.cells #[.int .i64 e.kind, .int .i64 e.value, .slice a e.kids.length c] 28)) = W := ⟨_, rfl⟩
  have hB : Below w.heap.size w W := by rw [← hW]; exact ((Below.refl _ w).alloc (Nat.le_refl _) _).alloc (by simp) _
  have hz : W.heap.size = w.heap.size + 2 := by rw [← hW]; simp
  have e0 : BoxP W w.heap.size p k := by
    rw [← hW]; exact (BoxP.new w p k _).later (Below.heap_alloc _ _ _ (by simp))
  have e1 : BoxE W (w.heap.size + 1) e a c := by
    have e1 := BoxE.new (w.alloc (.cells (arrP p k) 25)) e a c 28
    rw [World.size_alloc] at e1
    rw [← hW]; exact e1
  unfold arrP at hW
  rw [hW]
  clear hW
  have HB := Lib.hid hB
  have HX := Lib.hid e1
  have HY := Lib.hid e0
  clear hB e1 e0
  refine (szProgC p k 1048576 W (HP.out.below HB.out) (by omega) (by omega)).mono ?_
  rintro f w1 ⟨v1, rfl, hv1, hc1, hb1⟩
  have HC1 := Lib.hid hc1
  have HB1 := Lib.hid hb1
  have r := HX.out.below hb1 (by omega)
  have r0 := r.c0
  have r1 := r.c1
  have r2 := r.c2
  have hs1 := hb1.size
  clear hc1 hb1 r
  by_cases n1 : v1 < 0
  · go_wp2_with fail
    go_ret
    exact AnsB.of rfl (HB.out.trans (HB1.out.mono (by omega)))
  go_wp2_with fail
  refine (szExprC e a c v1 w1 ((HE.out.below HB.out).below HB1.out) (by omega) (by omega)).mono ?_
  rintro f w2 ⟨v2, rfl, hv2, hc2, hb2⟩
  have HC2 := Lib.hid hc2
  have HB2 := Lib.hid (HB1.out.trans (hb2.mono hs1))
  have hs2 := hb2.size
  have HCP : Hid (CP w2 p k) := (HC1.out (by omega)).below hb2
  clear hc2 hb2 r0 r1 r2 HB1
  by_cases n2 : v2 < 0
  · go_wp2_with fail
    go_ret
    exact AnsB.of rfl (HB.out.trans (HB2.out.mono (by omega)))
  have HCE : Hid (CE w2 e a c) := HC2.out (by omega)
  have HBw : Hid (∀ v, Below w2.heap.size w2 v → BoxP v w.heap.size p k ∧ BoxE v (w.heap.size + 1) e a c) := fun v hv => ⟨(HY.out.below HB2.out (by omega)).below hv (by omega), (HX.out.below HB2.out (by omega)).below hv (by omega)⟩
  have HTW : Hid (∀ v, Below w2.heap.size w2 v → TblO v) := fun v hv => ((HT.out.below HB.out HT.out.lt).below HB2.out (HT.out.below HB.out HT.out.lt).lt).below hv ((HT.out.below HB.out HT.out.lt).below HB2.out (HT.out.below HB.out HT.out.lt).lt).lt
  have HTV : Hid (∀ v, Below w2.heap.size w2 v → TblB v) := fun v hv => ((HT2.out.below HB.out HT2.out.lt).below HB2.out (HT2.out.below HB.out HT2.out.lt).lt).below hv ((HT2.out.below HB.out HT2.out.lt).below HB2.out (HT2.out.below HB.out HT2.out.lt).lt).lt
  obtain ⟨bp, be⟩ := HBw.out w2 (Below.refl _ _)
  have p0 := bp.c0
  have p1 := bp.c1
  have p2 := bp.c2
  have x0 := be.c0
  have x1 := be.c1
  have x2 := be.c2
  have HS : Hid (∀ v, Below w2.heap.size w2 v → v.cell? ⟨w.heap.size, 0, none⟩ = some (.slice k.va p.vars.length k.vc) ∧ v.cell? ⟨w.heap.size, 1, none⟩ = some (.slice k.aa p.arrs.length k.ac) ∧ v.cell? ⟨w.heap.size, 2, none⟩ = some (.slice k.ba p.body.length k.bc) ∧ v.cell? ⟨w.heap.size + 1, 0, none⟩ = some (.int .i64 e.kind) ∧ v.cell? ⟨w.heap.size + 1, 1, none⟩ = some (.int .i64 e.value) ∧ v.cell? ⟨w.heap.size + 1, 2, none⟩ = some (.slice a e.kids.length c)) := fun v hv => by
    obtain ⟨bp, be⟩ := HBw.out v hv
    exact ⟨bp.c0, bp.c1, bp.c2, be.c0, be.c1, be.c2⟩
  obtain ⟨q, hq⟩ : ∃ q, elab' p e = q := ⟨_, rfl⟩
  have HBD : Hid (Below w2.heap.size w2 w2.drew) := (Below.refl _ _).drew
  clear bp be
  go_wp2_with fail
  go_region_held3 (fun v => v.cell? ⟨w.heap.size, 0, none⟩ = some (.slice k.va p.vars.length k.vc) ∧ v.cell? ⟨w.heap.size, 1, none⟩ = some (.slice k.aa p.arrs.length k.ac) ∧ v.cell? ⟨w.heap.size, 2, none⟩ = some (.slice k.ba p.body.length k.bc) ∧ v.cell? ⟨w.heap.size + 1, 0, none⟩ = some (.int .i64 e.kind) ∧ v.cell? ⟨w.heap.size + 1, 1, none⟩ = some (.int .i64 e.value) ∧ v.cell? ⟨w.heap.size + 1, 2, none⟩ = some (.slice a e.kids.length c)) (first | assumption | exact ⟨p0, p1, p2, x0, x1, x2⟩)
    (first
    | (go_at_call 7; (with_reducible refine (toProgC p k w2.drew (HCP.out.below HBD.out)).mono ?_); rintro f u1 ⟨k1, rfl, hcp1, hA⟩; have hA2 := HBD.out.trans hA; have hS1 := HS.out _ hA2)
    | (go_at_call 8; (with_reducible refine (toExprC e a c u1 (HCE.out.below hA2)).mono ?_); rintro f u2 ⟨a1, c1, rfl, hce1, hC⟩; have hCP2 := hcp1.below hC; have hC2 := hA2.trans (hC.mono hA2.size); have hS2 := HS.out _ hC2)
    | (go_at_call 6; (with_reducible refine (sExprLabel p k1 e a1 c1 u2 hCP2 hce1).mono ?_); rintro f u3 ⟨rfl, hE⟩; rw [hq]; have hB3 := hC2.trans (hE.mono hC2.size); have hS3 := HS.out _ hB3)
    | (go_at_call 8; (with_reducible refine (toExprC e a c w2.drew (HCE.out.below HBD.out)).mono ?_); rintro f u1' ⟨a1, c1, rfl, hce1, hA⟩; have hA2 := HBD.out.trans hA; have hS1 := HS.out _ hA2)
    | (go_at_call 7; (with_reducible refine (toProgC p k u1' (HCP.out.below hA2)).mono ?_); rintro f u2' ⟨k1, rfl, hcp1, hC⟩; have hCE2 := hce1.below hC; have hC2 := hA2.trans (hC.mono hA2.size); have hS2 := HS.out _ hC2)
    | (go_at_call 6; (with_reducible refine (sExprLabel p k1 e a1 c1 u2' hcp1 hCE2).mono ?_); rintro f u3 ⟨rfl, hE⟩; rw [hq]; have hB3 := hC2.trans (hE.mono hC2.size); have hS3 := HS.out _ hB3))
  all_goals
    have HB3 := Lib.hid hB3
    obtain ⟨f0, f1, f2, _, _, _⟩ := hS3
    clear p0 p1 p2 x0 x1 x2 hB3 hC2 hA2 hS1 hS2 hE hC hA
    go_wp2_with fail
    refine (toProgC p k u3 (HCP.out.below HB3.out)).mono ?_
    rintro f u4 ⟨k2, rfl, hcp2, hb4⟩
    have hB5 : Below w2.heap.size w2 (u4.alloc (.cells #[.slice k2.va p.vars.length k2.vc, .slice k2.aa p.arrs.length k2.ac, .slice k2.ba p.body.length k2.bc] 34)) := (HB3.out.trans (hb4.mono HB3.out.size)).alloc (Nat.le_trans HB3.out.size hb4.size) _
    have hX5 : BoxP (u4.alloc (.cells #[.slice k2.va p.vars.length k2.vc, .slice k2.aa p.arrs.length k2.ac, .slice k2.ba p.body.length k2.bc] 34)) u4.heap.size p k2 := BoxP.new _ _ _ _
    have hC5 : CP (u4.alloc (.cells #[.slice k2.va p.vars.length k2.vc, .slice k2.aa p.arrs.length k2.ac, .slice k2.ba p.body.length k2.bc] 34)) p k2 := hcp2.below ((Below.refl _ _).alloc (Nat.le_refl _) _)
    have hz5 : u4.heap.size < (u4.alloc (.cells #[.slice k2.va p.vars.length k2.vc, .slice k2.aa p.arrs.length k2.ac, .slice k2.ba p.body.length k2.bc] 34)).heap.size := by simp
    obtain ⟨_, _, _, g0, g1, g2⟩ := HS.out _ hB5
    have HB5 := Lib.hid hB5
    have HX5 := Lib.hid hX5
    have HC5 := Lib.hid hC5
    clear f0 f1 f2 hcp2 hb4 hB5 hX5 hC5
    go_wp2_with fail
    obtain ⟨u5, hu5⟩ : ∃ u5, u4.alloc (.cells #[.slice k2.va p.vars.length k2.vc, .slice k2.aa p.arrs.length k2.ac, .slice k2.ba p.body.length k2.bc] 34) = u5 := ⟨_, rfl⟩
    rw [hu5] at HB5 HX5 HC5 hz5 ⊢
    clear hu5 g0 g1 g2
    refine (toExprC e a c u5 (HCE.out.below HB5.out)).mono ?_
    rintro f u6 ⟨a2, c2, rfl, hce2, hb6⟩
    have hb7 : Below u5.heap.size u5 (u6.alloc (.cells #[.int .i64 e.kind, .int .i64 e.value, .slice a2 e.kids.length c2] 38)) := hb6.alloc hb6.size _
    have hX7 : BoxE (u6.alloc (.cells #[.int .i64 e.kind, .int .i64 e.value, .slice a2 e.kids.length c2] 38)) u6.heap.size e a2 c2 := BoxE.new _ _ _ _ _
    have hE7 : CE (u6.alloc (.cells #[.int .i64 e.kind, .int .i64 e.value, .slice a2 e.kids.length c2] 38)) e a2 c2 := hce2.below ((Below.refl _ _).alloc (Nat.le_refl _) _)
    have hP7 := HX5.out.below hb7 hz5
    have hC7 := HC5.out.below hb7
    have hB7 := HB5.out.trans (hb7.mono HB5.out.size)
    have hz7 : u6.heap.size < (u6.alloc (.cells #[.int .i64 e.kind, .int .i64 e.value, .slice a2 e.kids.length c2] 38)).heap.size := by simp
    have hz57 : u5.heap.size ≤ u6.heap.size := hb6.size
    have q0 := hP7.c0
    have q1 := hP7.c1
    have q2 := hP7.c2
    have HB7 := Lib.hid hB7
    have HX7 := Lib.hid hX7
    have HE7 := Lib.hid hE7
    have HP7 := Lib.hid hP7
    have HC7 := Lib.hid hC7
    have y0 := hX7.c0
    have y1 := hX7.c1
    have y2 := hX7.c2
    clear hce2 hb6 hb7 hX7 hE7 hP7 hC7 hB7 HX5 HC5 HB5 HB3
    go_wp2_with fail
    obtain ⟨u7, hu7⟩ : ∃ u7, u6.alloc (.cells #[.int .i64 e.kind, .int .i64 e.value, .slice a2 e.kids.length c2] 38) = u7 := ⟨_, rfl⟩
    rw [hu7] at HB7 HX7 HE7 HP7 HC7 hz7 ⊢
    clear hu7 q0 q1 q2 y0 y1 y2
    refine (iExprLabel p k2 e a2 c2 u7 (HTW.out _ HB7.out) (HTV.out _ HB7.out) (by have := HB7.out.size; omega) HC7.out HE7.out).mono ?_
    rintro f u8 ⟨rfl, hb8⟩
    rw [hq]
    have hB8 := HB7.out.trans (hb8.mono HB7.out.size)
    have HB8 := Lib.hid hB8
    have hP8 := HP7.out.below hb8 (by omega)
    have hX8 := HX7.out.below hb8 hz7
    have HC8 := Lib.hid (HC7.out.below hb8)
    have HE8 := Lib.hid (HE7.out.below hb8)
    obtain ⟨f0, f1, f2, _, _, _⟩ := HS.out _ hB8
    have q0 := hP8.c0
    have q1 := hP8.c1
    have q2 := hP8.c2
    have HP8 := Lib.hid hP8
    have HX8 := Lib.hid hX8
    have hz8 := hb8.size
    have HSQ : Hid (∀ v, Below u8.heap.size u8 v → v.cell? ⟨w.heap.size, 0, none⟩ = some (.slice k.va p.vars.length k.vc) ∧ v.cell? ⟨w.heap.size, 1, none⟩ = some (.slice k.aa p.arrs.length k.ac) ∧ v.cell? ⟨w.heap.size, 2, none⟩ = some (.slice k.ba p.body.length k.bc) ∧ v.cell? ⟨u4.heap.size, 0, none⟩ = some (.slice k2.va p.vars.length k2.vc) ∧ v.cell? ⟨u4.heap.size, 1, none⟩ = some (.slice k2.aa p.arrs.length k2.ac) ∧ v.cell? ⟨u4.heap.size, 2, none⟩ = some (.slice k2.ba p.body.length k2.bc)) := fun v hv => by
      obtain ⟨f0, f1, f2, _, _, _⟩ := HS.out v (HB8.out.trans (hv.mono HB8.out.size))
      have h := HP8.out.below hv (by omega)
      exact ⟨f0, f1, f2, h.c0, h.c1, h.c2⟩
    clear hB8 hP8 hX8 hb8 HP7 HX7 HC7 HE7 HB7 HTW
    have hqq : (q != q) = false := by simp
    go_wp2_with fail
    go_region_held3 (fun v => v.cell? ⟨w.heap.size, 0, none⟩ = some (.slice k.va p.vars.length k.vc) ∧ v.cell? ⟨w.heap.size, 1, none⟩ = some (.slice k.aa p.arrs.length k.ac) ∧ v.cell? ⟨w.heap.size, 2, none⟩ = some (.slice k.ba p.body.length k.bc) ∧ v.cell? ⟨u4.heap.size, 0, none⟩ = some (.slice k2.va p.vars.length k2.vc) ∧ v.cell? ⟨u4.heap.size, 1, none⟩ = some (.slice k2.aa p.arrs.length k2.ac) ∧ v.cell? ⟨u4.heap.size, 2, none⟩ = some (.slice k2.ba p.body.length k2.bc)) (first | assumption | exact ⟨f0, f1, f2, q0, q1, q2⟩)
      (first
      | (go_at_call 7; (with_reducible refine (toProgC p k u8.drew (HCP.out.below (HB8.out.drew))).mono ?_); rintro f u9 ⟨k3, rfl, hcp3, hA⟩; have hA2 := ((Below.refl u8.heap.size u8).drew).trans hA; have hS1 := HSQ.out _ hA2)
      | (go_at_call 10; (with_reducible refine (eqProgC p k2 k3 u9 (HC8.out.below hA2) hcp3).mono ?_); rintro f u10 ⟨rfl, hE⟩; have hB10 := hA2.trans (hE.mono hA2.size); have hS2 := HSQ.out _ hB10))
    have hB10' := HB8.out.trans (hB10.mono HB8.out.size)
    obtain ⟨_, _, _, g0, g1, g2⟩ := HS.out _ hB10'
    have hX10 := HX8.out.below hB10 (by omega)
    have q0' := hX10.c0
    have q1' := hX10.c1
    have q2' := hX10.c2
    have HE10 := Lib.hid (HE8.out.below hB10)
    have HB10 := Lib.hid hB10'
    have HX10 := Lib.hid hX10
    have hz10 := hB10.size
    have HSE : Hid (∀ v, Below u10.heap.size u10 v → v.cell? ⟨w.heap.size + 1, 0, none⟩ = some (.int .i64 e.kind) ∧ v.cell? ⟨w.heap.size + 1, 1, none⟩ = some (.int .i64 e.value) ∧ v.cell? ⟨w.heap.size + 1, 2, none⟩ = some (.slice a e.kids.length c) ∧ v.cell? ⟨u6.heap.size, 0, none⟩ = some (.int .i64 e.kind) ∧ v.cell? ⟨u6.heap.size, 1, none⟩ = some (.int .i64 e.value) ∧ v.cell? ⟨u6.heap.size, 2, none⟩ = some (.slice a2 e.kids.length c2)) := fun v hv => by
      obtain ⟨_, _, _, g0, g1, g2⟩ := HS.out v (HB10.out.trans (hv.mono HB10.out.size))
      have h := HX10.out.below hv (by omega)
      exact ⟨g0, g1, g2, h.c0, h.c1, h.c2⟩
    clear hB10 hB10' hX10 hA hA2 hE hS1 hS2 q0 q1 q2 f0 f1 f2 HSQ HC8
    go_wp2_with fail
    go_region_held3 (fun v => v.cell? ⟨w.heap.size + 1, 0, none⟩ = some (.int .i64 e.kind) ∧ v.cell? ⟨w.heap.size + 1, 1, none⟩ = some (.int .i64 e.value) ∧ v.cell? ⟨w.heap.size + 1, 2, none⟩ = some (.slice a e.kids.length c) ∧ v.cell? ⟨u6.heap.size, 0, none⟩ = some (.int .i64 e.kind) ∧ v.cell? ⟨u6.heap.size, 1, none⟩ = some (.int .i64 e.value) ∧ v.cell? ⟨u6.heap.size, 2, none⟩ = some (.slice a2 e.kids.length c2)) (first | assumption | exact ⟨g0, g1, g2, q0', q1', q2'⟩)
      (first
      | (go_at_call 8; (with_reducible refine (toExprC e a c u10.drew (HCE.out.below (HB10.out.drew))).mono ?_); rintro f u11 ⟨a3, c3, rfl, hce3, hA⟩; have hA2 := ((Below.refl u10.heap.size u10).drew).trans hA; have hS1 := HSE.out _ hA2)
      | (go_at_call 11; (with_reducible refine (eqExprC e a2 a3 c2 c3 u11 (HE10.out.below hA2) hce3).mono ?_); rintro f u12 ⟨rfl, hE⟩; have hB12 := hA2.trans (hE.mono hA2.size); have hS2 := HSE.out _ hB12))
    have HB12 := Lib.hid (HB10.out.trans (hB12.mono HB10.out.size))
    clear hB12 hA hA2 hE hS1 hS2 q0' q1' q2' g0 g1 g2 HSE
    go_wp2_with fail
    go_ret
    exact AnsB.of rfl (HB.out.trans ((HB2.out.trans (HB12.out.mono (by omega))).mono (by omega)))

end Go.Proofs.YtnbngjgkmhdijaaDoor

/- The law FnExactExprSame, walked: at every two expressions the call returns true; nothing that was there has changed. -/
import Derived.Test.YtjmfnpljkiobkaaSmI
import Derived.Test.YtjmfnpljkiobkaaSame
import Derived.Test.YtjmfnpljkiobkaaVal
import Derived.Deep.RegionHeld3
namespace Go.Proofs.Ytjmfnpljkiobkaa
open Go.RowKit Go.ChangeMaps
set_option linter.unusedVariables false

/-- An expression in rows of expressions, every list of it short. -/
def CU (w : World) (e : E) (a : Option Addr) (c : Nat) : Prop := ∃ (D : Nat → Prop) (n : Nat), (∀ j, D j → PlB w j) ∧ IsE w D n e (cellsI e a c) ∧ SmE 1048576 n e
theorem PlB.lt {w : World} {j : Nat} (h : PlB w j) : j < w.heap.size := by obtain ⟨cs, h⟩ := h; exact (Array.getElem?_eq_some_iff.1 h).1
theorem CU.ce {w : World} {e : E} {a : Option Addr} {c : Nat} (h : CU w e a c) : CE w e a c := by
  obtain ⟨D, n, hD, hp, hs⟩ := h
  exact ⟨D, n, fun j hj => (hD j hj).lt, hp, hs⟩
theorem CU.below {w w' : World} {e : E} {a : Option Addr} {c : Nat} (h : CU w e a c) (hb : Below w.heap.size w w') : CU w' e a c := by
  obtain ⟨D, n, hD, hp, hs⟩ := h
  exact ⟨D, n, fun j hj => (hD j hj).stand (hb.block j (hD j hj).lt), hp.later (Stand.of_below hb fun j hj => (hD j hj).lt), hs⟩
theorem toExprCU (e : E) (a : Option Addr) (c : Nat) (w : World) (h : CE w e a c) : Calls Try.prog 14 #[.agg #[.int .i64 e.kind, .int .i64 e.value, .slice a e.kids.length c]] w fun f w' => ∃ a' c', f = .returned (.agg #[.int .i64 e.kind, .int .i64 e.value, .slice a' e.kids.length c']) ∧ CU w' e a' c' ∧ Below w.heap.size w w' := by
  obtain ⟨D, n, hD, hp, hs⟩ := h
  refine (toExpr_oneU n e _ _ _ D w hp hD hs).mono ?_
  rintro f w' ⟨c0, c1, c2, h1, h2, h3⟩
  obtain ⟨a', c', rfl, rfl, rfl, _, _⟩ := h2.shape
  exact ⟨a', c', h1, ⟨NewP w w', n, fun j hj => hj.2.2, h2, hs⟩, h3⟩
theorem iSameC (e f : E) (a b : Option Addr) (c c' : Nat) (w : World) (h : CU w e a c) (h' : CU w f b c') : Calls Try.prog 15 #[.agg #[.int .i64 e.kind, .int .i64 e.value, .slice a e.kids.length c], .agg #[.int .i64 f.kind, .int .i64 f.value, .slice b f.kids.length c']] w (AnsB (eqB e f) w) := by
  obtain ⟨D, n, hD, hp, hs⟩ := h
  obtain ⟨D', n', hD', hp', hs'⟩ := h'
  refine iExprSame_one w (fun j => D j ∨ D' j) n n' e f _ _ _ _ _ _ (hp.mono (fun _ _ => rfl) fun j hj => .inl hj) (hp'.mono (fun _ _ => rfl) fun j hj => .inr hj) (fun j hj => hj.elim (hD j) (hD' j)) ?_
  cases n with
  | zero => exact hp.elim
  | succ n =>
    have h1 := hs.2.1
    rw [cntE_eq]
    omega
theorem sSameC (e f : E) (a b : Option Addr) (c c' : Nat) (w : World) (h : CU w e a c) (h' : CU w f b c') : Calls Try.prog 13 #[.agg #[.int .i64 e.kind, .int .i64 e.value, .slice a e.kids.length c], .agg #[.int .i64 f.kind, .int .i64 f.value, .slice b f.kids.length c']] w (AnsB (eqB e f) w) := by
  obtain ⟨D, n, hD, hp, hs⟩ := h
  obtain ⟨D', n', hD', hp', hs'⟩ := h'
  exact sSame_one (n + n') e f _ _ _ _ _ _ (fun j => D j ∨ D' j) w ((hp.mono (fun _ _ => rfl) fun j hj => .inl hj).deeper' (by omega)) ((hp'.mono (fun _ _ => rfl) fun j hj => .inr hj).deeper' (by omega)) fun j hj => hj.elim (fun h => (hD j h).lt) fun h => (hD' j h).lt

set_option maxRecDepth 100000 in
set_option maxHeartbeats 8000000 in
theorem law_FnExactExprSame (e f : E) (a b : Option Addr) (c c' : Nat) (w : World) (he : RE w e a c) (hf : RE w f b c') :
    Calls Try.prog 4 #[.agg #[.int .i64 e.kind, .int .i64 e.value, .slice a e.kids.length c], .agg #[.int .i64 f.kind, .int .i64 f.value, .slice b f.kids.length c']] w (AnsB true w) := by
  obtain ⟨W, hW⟩ : ∃ W, (w.alloc (.cells #[.int .i64 e.kind, .int .i64 e.value, .slice a e.kids.length c] 33)).alloc (.cells #[.int .i64 f.kind, .int .i64 f.value, .slice b f.kids.length c'] 33) = W := ⟨_, rfl⟩
  have hB : Below w.heap.size w W := by rw [← hW]; exact ((Below.refl _ w).alloc (Nat.le_refl _) _).alloc (by simp) _
  have hz : W.heap.size = w.heap.size + 2 := by rw [← hW]; simp
  have e0 : BoxE W w.heap.size e a c := by
    have e1 := BoxE.new w e a c 33
    rw [← hW]; exact e1.later (Below.heap_alloc _ _ _ (by simp))
  have e1 : BoxE W (w.heap.size + 1) f b c' := by
    have e1 := BoxE.new (w.alloc (.cells #[.int .i64 e.kind, .int .i64 e.value, .slice a e.kids.length c] 33)) f b c' 33
    rw [World.size_alloc] at e1
    rw [← hW]; exact e1
  have HE := Lib.hid he
  have HF := Lib.hid hf
  have HB := Lib.hid hB
  have HX := Lib.hid e0
  have HY := Lib.hid e1
  have HWW := Lib.hid hW
  clear he hf hB e0 e1 hW
  go_enter Try.func4, Try.ntmps4
  go_wp2_with fail
  rw [HWW.out]
  refine (szExprC e a c 1048576 W (HE.out.below HB.out) (by omega) (by omega)).mono ?_
  rintro r w1 ⟨v1, rfl, hv1, hc1, hb1⟩
  have HC1 := Lib.hid hc1
  have HB1 := Lib.hid hb1
  have r0 := (HY.out.below hb1 (by omega)).c0
  have r1 := (HY.out.below hb1 (by omega)).c1
  have r2 := (HY.out.below hb1 (by omega)).c2
  have hs1 := hb1.size
  clear hc1 hb1
  by_cases n1 : v1 < 0
  · go_wp2_with fail
    go_ret
    exact AnsB.of rfl (HB.out.trans (HB1.out.mono (by omega)))
  go_wp2_with fail
  refine (szExprC f b c' v1 w1 ((HF.out.below HB.out).below HB1.out) (by omega) (by omega)).mono ?_
  rintro r w2 ⟨v2, rfl, hv2, hc2, hb2⟩
  have HC2 := Lib.hid hc2
  have HB2 := Lib.hid (HB1.out.trans (hb2.mono hs1))
  have hs2 := hb2.size
  have HCE : Hid (CE w2 e a c) := (HC1.out (by omega)).below hb2
  clear hc2 hb2 r0 r1 r2 HB1
  by_cases n2 : v2 < 0
  · go_wp2_with fail
    go_ret
    exact AnsB.of rfl (HB.out.trans (HB2.out.mono (by omega)))
  have HCF : Hid (CE w2 f b c') := HC2.out (by omega)
  have HS : Hid (∀ v, Below w2.heap.size w2 v → v.cell? ⟨w.heap.size, 0, none⟩ = some (.int .i64 e.kind) ∧ v.cell? ⟨w.heap.size, 1, none⟩ = some (.int .i64 e.value) ∧ v.cell? ⟨w.heap.size, 2, none⟩ = some (.slice a e.kids.length c) ∧ v.cell? ⟨w.heap.size + 1, 0, none⟩ = some (.int .i64 f.kind) ∧ v.cell? ⟨w.heap.size + 1, 1, none⟩ = some (.int .i64 f.value) ∧ v.cell? ⟨w.heap.size + 1, 2, none⟩ = some (.slice b f.kids.length c')) := fun v hv => by
    have be := (HX.out.below HB2.out (by omega)).below hv (by omega)
    have bf := (HY.out.below HB2.out (by omega)).below hv (by omega)
    exact ⟨be.c0, be.c1, be.c2, bf.c0, bf.c1, bf.c2⟩
  obtain ⟨x0, x1, x2, y0, y1, y2⟩ := HS.out w2 (Below.refl _ _)
  have HBD : Hid (Below w2.heap.size w2 w2.drew) := (Below.refl _ _).drew
  obtain ⟨q, hq⟩ : ∃ q, eqB e f = q := ⟨_, rfl⟩
  clear HC1 HC2
  go_wp2_with fail
  go_region_held3 (fun v => v.cell? ⟨w.heap.size, 0, none⟩ = some (.int .i64 e.kind) ∧ v.cell? ⟨w.heap.size, 1, none⟩ = some (.int .i64 e.value) ∧ v.cell? ⟨w.heap.size, 2, none⟩ = some (.slice a e.kids.length c) ∧ v.cell? ⟨w.heap.size + 1, 0, none⟩ = some (.int .i64 f.kind) ∧ v.cell? ⟨w.heap.size + 1, 1, none⟩ = some (.int .i64 f.value) ∧ v.cell? ⟨w.heap.size + 1, 2, none⟩ = some (.slice b f.kids.length c')) (first | assumption | exact ⟨x0, x1, x2, y0, y1, y2⟩)
    (first
    | (go_at_call 14; (with_reducible refine (toExprCU e a c w2.drew (HCE.out.below HBD.out)).mono ?_); rintro r u1 ⟨a1, c1, rfl, hce1, hA⟩; have hA2 := HBD.out.trans hA; have hS1 := HS.out _ hA2)
    | (go_at_call 14; (with_reducible refine (toExprCU f b c' u1 (HCF.out.below hA2)).mono ?_); rintro r u2 ⟨a2, c2, rfl, hce2, hC⟩; have hcx1 := hce1.below hC; have hcx2 := hce2; have hC2 := hA2.trans (hC.mono hA2.size); have hS2 := HS.out _ hC2)
    | (go_at_call 13; (with_reducible refine (sSameC e f a1 a2 c1 c2 u2 hcx1 hcx2).mono ?_); rintro r u3 ⟨rfl, hE⟩; rw [hq]; have hB3 := hC2.trans (hE.mono hC2.size); have hS3 := HS.out _ hB3)
    | (go_at_call 14; (with_reducible refine (toExprCU f b c' w2.drew (HCF.out.below HBD.out)).mono ?_); rintro r u1' ⟨a2, c2, rfl, hce2, hA⟩; have hA2 := HBD.out.trans hA; have hS1 := HS.out _ hA2)
    | (go_at_call 14; (with_reducible refine (toExprCU e a c u1' (HCE.out.below hA2)).mono ?_); rintro r u2 ⟨a1, c1, rfl, hce1, hC⟩; have hcx2 := hce2.below hC; have hcx1 := hce1; have hC2 := hA2.trans (hC.mono hA2.size); have hS2 := HS.out _ hC2)
    | fail)
  all_goals
    have HB3 := Lib.hid hB3
    obtain ⟨f0, f1, f2, f3, f4, f5⟩ := hS3
    clear x0 x1 x2 y0 y1 y2 hB3 hC2 hA2 hS1 hS2 hE hC hA hcx1 hcx2
    go_wp2_with fail
    refine (toExprCU e a c u3 (HCE.out.below HB3.out)).mono ?_
    rintro r u4 ⟨a3, c3, rfl, hce3, hb4⟩
    obtain ⟨u5, hu5⟩ : ∃ u5, u4.alloc (.cells #[.int .i64 e.kind, .int .i64 e.value, .slice a3 e.kids.length c3] 38) = u5 := ⟨_, rfl⟩
    have hb45 : Below u4.heap.size u4 u5 := by rw [← hu5]; exact (Below.refl _ _).alloc (Nat.le_refl _) _
    have hz5 : u5.heap.size = u4.heap.size + 1 := by rw [← hu5]; simp
    have HX5 : Hid (BoxE u5 u4.heap.size e a3 c3) := by rw [← hu5]; exact BoxE.new _ _ _ _ _
    have HCE5 := Lib.hid (hce3.below hb45)
    have hB5 : Below w2.heap.size w2 u5 := (HB3.out.trans (hb4.mono HB3.out.size)).trans (hb45.mono (Nat.le_trans HB3.out.size hb4.size))
    have HB5 := Lib.hid hB5
    have HU5 := Lib.hid hu5
    obtain ⟨_, _, _, g0, g1, g2⟩ := HS.out _ hB5
    have hu45 : u4.heap.size < u5.heap.size := by omega
    clear f0 f1 f2 f3 f4 f5 hce3 hb4 hb45 hB5 hu5
    go_wp2_with (first | rw [HU5.out] | fail)
    refine (toExprCU f b c' u5 (HCF.out.below HB5.out)).mono ?_
    rintro r u6 ⟨a4, c4, rfl, hce4, hb6⟩
    obtain ⟨u7, hu7⟩ : ∃ u7, u6.alloc (.cells #[.int .i64 f.kind, .int .i64 f.value, .slice a4 f.kids.length c4] 38) = u7 := ⟨_, rfl⟩
    have hb67 : Below u6.heap.size u6 u7 := by rw [← hu7]; exact (Below.refl _ _).alloc (Nat.le_refl _) _
    have hz7 : u7.heap.size = u6.heap.size + 1 := by rw [← hu7]; simp
    have hs6 := hb6.size
    have HY7 : Hid (BoxE u7 u6.heap.size f a4 c4) := by rw [← hu7]; exact BoxE.new _ _ _ _ _
    have HCF7 := Lib.hid (hce4.below hb67)
    have hb57 : Below u5.heap.size u5 u7 := hb6.trans (hb67.mono hs6)
    have HCE7 := Lib.hid (HCE5.out.below hb57)
    have HX7 := Lib.hid (HX5.out.below hb57 hu45)
    have HB7 := Lib.hid (HB5.out.trans (hb57.mono HB5.out.size))
    have HU7 := Lib.hid hu7
    have p0 := HX7.out.c0
    have p1 := HX7.out.c1
    have p2 := HX7.out.c2
    have q0 := HY7.out.c0
    have q1 := HY7.out.c1
    have q2 := HY7.out.c2
    clear g0 g1 g2 hce4 hb6 hb67 hb57 hu7 HX5 HCE5
    go_wp2_with (first | rw [HU7.out] | fail)
    refine (iSameC e f a3 a4 c3 c4 u7 HCE7.out HCF7.out).mono ?_
    rintro r u8 ⟨rfl, hb8⟩
    rw [hq]
    have HB8 := Lib.hid (HB7.out.trans (hb8.mono HB7.out.size))
    have HX8 := Lib.hid (HX7.out.below hb8 (by omega))
    have HY8 := Lib.hid (HY7.out.below hb8 (by omega))
    have HCE8 := Lib.hid (HCE7.out.below hb8)
    have HCF8 := Lib.hid (HCF7.out.below hb8)
    have hs8 := hb8.size
    clear p0 p1 p2 q0 q1 q2 hb8
    have HSQ : Hid (∀ v, Below u8.heap.size u8 v → v.cell? ⟨w.heap.size, 0, none⟩ = some (.int .i64 e.kind) ∧ v.cell? ⟨w.heap.size, 1, none⟩ = some (.int .i64 e.value) ∧ v.cell? ⟨w.heap.size, 2, none⟩ = some (.slice a e.kids.length c) ∧ v.cell? ⟨u4.heap.size, 0, none⟩ = some (.int .i64 e.kind) ∧ v.cell? ⟨u4.heap.size, 1, none⟩ = some (.int .i64 e.value) ∧ v.cell? ⟨u4.heap.size, 2, none⟩ = some (.slice a3 e.kids.length c3)) := fun v hv => by
      obtain ⟨k0, k1, k2, _, _, _⟩ := HS.out v (HB8.out.trans (hv.mono HB8.out.size))
      have h := HX8.out.below hv (by omega)
      exact ⟨k0, k1, k2, h.c0, h.c1, h.c2⟩
    obtain ⟨f0, f1, f2, q0, q1, q2⟩ := HSQ.out u8 (Below.refl _ _)
    clear HX7 HY7 HCE7 HCF7 HB7 HU7 HU5 HB5
    cases q
    all_goals
      go_wp2_with fail
      go_region_held3 (fun v => v.cell? ⟨w.heap.size, 0, none⟩ = some (.int .i64 e.kind) ∧ v.cell? ⟨w.heap.size, 1, none⟩ = some (.int .i64 e.value) ∧ v.cell? ⟨w.heap.size, 2, none⟩ = some (.slice a e.kids.length c) ∧ v.cell? ⟨u4.heap.size, 0, none⟩ = some (.int .i64 e.kind) ∧ v.cell? ⟨u4.heap.size, 1, none⟩ = some (.int .i64 e.value) ∧ v.cell? ⟨u4.heap.size, 2, none⟩ = some (.slice a3 e.kids.length c3)) (first | assumption | exact ⟨f0, f1, f2, q0, q1, q2⟩)
        (first
        | (go_at_call 14; (with_reducible refine (toExprCU e a c u8.drew (HCE.out.below (HB8.out.drew))).mono ?_); rintro r u9 ⟨a5, c5, rfl, hce5, hA⟩; have hA2 := ((Below.refl u8.heap.size u8).drew).trans hA; have hS1 := HSQ.out _ hA2)
        | (go_at_call 16; (with_reducible refine (eqExprC e a3 a5 c3 c5 u9 (HCE8.out.below hA2).ce hce5.ce).mono ?_); rintro r u10 ⟨rfl, hE⟩; have hB10 := hA2.trans (hE.mono hA2.size); have hS2 := HSQ.out _ hB10))
      have hB10' := HB8.out.trans (hB10.mono HB8.out.size)
      have HY10 := Lib.hid (HY8.out.below hB10 (by omega))
      have HCF10 := Lib.hid (HCF8.out.below hB10)
      have HB10 := Lib.hid hB10'
      have hz10 := hB10.size
      have HSE : Hid (∀ v, Below u10.heap.size u10 v → v.cell? ⟨w.heap.size + 1, 0, none⟩ = some (.int .i64 f.kind) ∧ v.cell? ⟨w.heap.size + 1, 1, none⟩ = some (.int .i64 f.value) ∧ v.cell? ⟨w.heap.size + 1, 2, none⟩ = some (.slice b f.kids.length c') ∧ v.cell? ⟨u6.heap.size, 0, none⟩ = some (.int .i64 f.kind) ∧ v.cell? ⟨u6.heap.size, 1, none⟩ = some (.int .i64 f.value) ∧ v.cell? ⟨u6.heap.size, 2, none⟩ = some (.slice a4 f.kids.length c4)) := fun v hv => by
        obtain ⟨_, _, _, k0, k1, k2⟩ := HS.out v (HB10.out.trans (hv.mono HB10.out.size))
        have h := HY10.out.below hv (by omega)
        exact ⟨k0, k1, k2, h.c0, h.c1, h.c2⟩
      obtain ⟨g0, g1, g2, q0', q1', q2'⟩ := HSE.out u10 (Below.refl _ _)
      clear hB10 hB10' hA hA2 hE hS1 hS2 q0 q1 q2 f0 f1 f2 HSQ
      go_wp2_with fail
      go_region_held3 (fun v => v.cell? ⟨w.heap.size + 1, 0, none⟩ = some (.int .i64 f.kind) ∧ v.cell? ⟨w.heap.size + 1, 1, none⟩ = some (.int .i64 f.value) ∧ v.cell? ⟨w.heap.size + 1, 2, none⟩ = some (.slice b f.kids.length c') ∧ v.cell? ⟨u6.heap.size, 0, none⟩ = some (.int .i64 f.kind) ∧ v.cell? ⟨u6.heap.size, 1, none⟩ = some (.int .i64 f.value) ∧ v.cell? ⟨u6.heap.size, 2, none⟩ = some (.slice a4 f.kids.length c4)) (first | assumption | exact ⟨g0, g1, g2, q0', q1', q2'⟩)
        (first
        | (go_at_call 14; (with_reducible refine (toExprCU f b c' u10.drew (HCF.out.below (HB10.out.drew))).mono ?_); rintro r u11 ⟨a6, c6, rfl, hce6, hA⟩; have hA2 := ((Below.refl u10.heap.size u10).drew).trans hA; have hS1 := HSE.out _ hA2)
        | (go_at_call 16; (with_reducible refine (eqExprC f a4 a6 c4 c6 u11 (HCF10.out.below hA2).ce hce6.ce).mono ?_); rintro r u12 ⟨rfl, hE⟩; have hB12 := hA2.trans (hE.mono hA2.size); have hS2 := HSE.out _ hB12))
      have HB12 := Lib.hid (HB10.out.trans (hB12.mono HB10.out.size))
      clear hB12 hA hA2 hE hS1 hS2 q0' q1' q2' g0 g1 g2 HSE
      go_wp2_with fail
      go_ret
      exact AnsB.of rfl (HB.out.trans ((HB2.out.trans (HB12.out.mono (by omega))).mono (by omega)))

end Go.Proofs.Ytjmfnpljkiobkaa

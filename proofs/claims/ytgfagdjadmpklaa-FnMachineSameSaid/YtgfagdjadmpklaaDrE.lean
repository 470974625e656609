/- The draw of an expression of the model's package: whatever bytes came in, an expression of the asked depth at most, in new blocks; every block but the reader's stands. -/
import Derived.Test.YtgfagdjadmpklaaRow
import Derived.Deep.RegionLaw
import Derived.Test.YtgfagdjadmpklaaSpE
import Derived.Deep.RegionHeld3
namespace Go.Proofs.Ytgfagdjadmpklaa
open Go.RowKit
set_option linter.unusedVariables false

theorem four_pow (d : Nat) (hd : d ≤ 4) : 1 ≤ 4 ^ d ∧ 4 ^ d ≤ 256 ∧ 4 ^ (d + 1) = 4 ^ d * 4 := by
  refine ⟨Nat.one_le_pow _ _ (by omega), ?_, Nat.pow_succ 4 d⟩
  have : 4 ^ d ≤ 4 ^ 4 := Nat.pow_le_pow_right (by omega) hd
  simpa using this

theorem DrE.mono {d : Nat} {w w' : World} {B m m' : Nat} {f : Ending} (h : DrE d w B m f w') (hm : m ≤ m') : DrE d w B m' f w' := by
  obtain ⟨e, a, c, h1, h2, h3, h4, h5⟩ := h
  exact ⟨e, a, c, h1, h2, h3.mono hm, h4, h5⟩
theorem DrE.of {d : Nat} {w w0 w' : World} {B m m' : Nat} (h : Below w.heap.size w w0) (hB : B < w.heap.size) {e : E} {a : Option Addr} {c : Nat} (hx : IsE w' (New w0 w') (d + 1) e (cellsI e a c) ∧ SmE 1048576 (d + 1) e ∧ cntE e ≤ 4 ^ d) (hr : RdU w' B m) (ho : Oth B w0 w') (hb : Below B w0 w') (hm : m ≤ m')
    (g o : Nat) (hg : w.heap.size ≤ g) (hg' : g < w0.heap.size) (vs : List Value) :
    DrE d w B m' (.returned (.agg #[.int .i64 e.kind, .int .i64 e.value, .slice a e.kids.length c])) (put w' g o vs) := by
  obtain ⟨h1, h2, h3⟩ := dr_end hr ((Oth.below h).trans ho) ((h.mono (Nat.le_of_lt hB)).trans hb) hB hg o vs
  exact ⟨e, a, c, rfl, ⟨hx.1.mono (fun j hj => put_other _ _ _ _ _ (by have := hj.1; omega)) fun j hj => ⟨by have := hj.1; have := h.size; omega, by rw [put_size]; exact hj.2⟩, hx.2⟩, h1.mono hm, h2, h3⟩

set_option maxRecDepth 100000 in
set_option maxHeartbeats 8000000 in
theorem drDraw_lo (p : Pg) (k : PC) (hv : 1 ≤ p.vars.length) (hv' : p.vars.length ≤ 1048576) (d : Nat) (hd : d < 2) (B m : Nat) (w : World) (h : RdU w B m) (hm : m < 1099511000000) :
    Calls Try.prog 119 #[.pointer (some ⟨B, 0, none⟩), aggP p k, .int .i64 (d : Int)] w (DrE d w B (m + 5 ^ (d + 1))) := by
  have hlt := h.lt
  have hp5 : 5 ≤ 5 ^ (d + 1) := by
    have : 5 ^ 1 ≤ 5 ^ (d + 1) := Nat.pow_le_pow_right (by omega) (by omega)
    simpa using this
  obtain ⟨W, hW⟩ : ∃ W, W = ((w.alloc (.cells #[.slice k.va p.vars.length k.vc, .slice k.aa p.arrs.length k.ac, .slice k.ba p.body.length k.bc] 55)).alloc (.cells #[.int .i64 0, .int .i64 0, .slice none 0 0] 45)) := ⟨_, rfl⟩
  have hBW : Below w.heap.size w W := by rw [hW]; exact ((Below.refl _ w).alloc (Nat.le_refl _) _).alloc (by simp) _
  have hz : W.heap.size = w.heap.size + 2 := by rw [hW]; simp
  have e0 : BoxP W w.heap.size p k := by rw [hW]; exact (BoxP.new w p k _).later (Below.heap_alloc _ _ _ (by simp))
  have e1 : W.heap[w.heap.size + 1]? = some (.cells #[.int .i64 0, .int .i64 0, .slice none 0 0] 45 (0, 0)) := by
    have e1 := heap_alloc_new (w.alloc (.cells #[.slice k.va p.vars.length k.vc, .slice k.aa p.arrs.length k.ac, .slice k.ba p.body.length k.bc] 55)) (.cells #[.int .i64 0, .int .i64 0, .slice none 0 0] 45)
    rw [World.size_alloc] at e1
    rw [hW]; exact e1
  have HR := Lib.hid (h.below hBW hlt)
  have HBW := Lib.hid hBW
  have HX := Lib.hid e1
  have d1 : decide ((d : Int) < 2) = true := by simp; omega
  clear h hBW e0 e1
  go_enter Try.func119, Try.ntmps119
  go_wp2_with fail
  rw [← hW]
  clear hW
  refine (drAtom B m p k W HR.out (by omega) hv hv' d).mono ?_
  rintro f w3 ⟨e, a, c, rfl, hx, hr3, ho3, hb3⟩
  have hx3 := (ho3.2 (w.heap.size + 1) (by omega) (by omega)).trans HX.out
  obtain ⟨u0, hu0⟩ := cell_ex hx3 0 (by simp)
  obtain ⟨u1, hu1⟩ := cell_ex hx3 1 (by simp)
  obtain ⟨u2, hu2⟩ := cell_ex hx3 2 (by simp)
  have hf0 := frozen_at hx3 0
  have hf1 := frozen_at hx3 1
  have hf2 := frozen_at hx3 2
  have HFIN := Lib.hid (DrE.of (m' := m + 5 ^ (d + 1)) HBW.out hlt hx hr3 ho3 hb3 (by omega) (w.heap.size + 1) 0 (by omega) (by omega) [.int .i64 e.kind, .int .i64 e.value, .slice a e.kids.length c])
  clear hx hr3 ho3 hb3 hx3 HX HR HBW
  go_wp2_with fail
  exact bodyPost_ret (v := .agg #[.int .i64 e.kind, .int .i64 e.value, .slice a e.kids.length c]) (by simp [results, Try.f119, go_sem, hu0, hu1, hu2]) rfl HFIN.out

set_option maxRecDepth 100000 in
set_option maxHeartbeats 16000000 in
theorem drDraw_hi (p : Pg) (k : PC) (hv : 1 ≤ p.vars.length) (hv' : p.vars.length ≤ 1048576) (ha' : p.arrs.length ≤ 1048576) (d : Nat) (hd : 1 ≤ d) (hd' : d ≤ 4) (M : Nat) (hM : M ≤ 1099510000000)
    (ih : ∀ (B m : Nat) (w : World), RdU w B m → m < M + 20000 → Calls Try.prog 119 #[.pointer (some ⟨B, 0, none⟩), aggP p k, .int .i64 (d : Int)] w (DrE d w B (m + 5 ^ (d + 1))))
    (B m : Nat) (w : World) (h : RdU w B m) (hm : m < M) (D : Int) (hD : D = (d : Int) + 1) :
    Calls Try.prog 119 #[.pointer (some ⟨B, 0, none⟩), aggP p k, .int .i64 D] w (DrE (d + 1) w B (m + 5 ^ (d + 2))) := by
  have hlt := h.lt
  have hp5 : 5 ^ (d + 1) * 5 = 5 ^ (d + 2) := (Nat.pow_succ 5 (d + 1)).symm
  have hp6 : 25 ≤ 5 ^ (d + 1) := by
    have : 5 ^ 2 ≤ 5 ^ (d + 1) := Nat.pow_le_pow_right (by omega) (by omega)
    simpa using this
  have hp7 : 5 ^ (d + 1) ≤ 3125 := by
    have : 5 ^ (d + 1) ≤ 5 ^ 5 := Nat.pow_le_pow_right (by omega) (by omega)
    simpa using this
  obtain ⟨Q, hQ⟩ : ∃ Q, 5 ^ (d + 1) = Q := ⟨_, rfl⟩
  obtain ⟨Q2, hQ2⟩ : ∃ Q2, 5 ^ (d + 2) = Q2 := ⟨_, rfl⟩
  rw [hQ] at hp5 hp6 hp7 ih
  rw [hQ2] at hp5 ⊢
  obtain ⟨W, hW⟩ : ∃ W, W = ((w.alloc (.cells #[.slice k.va p.vars.length k.vc, .slice k.aa p.arrs.length k.ac, .slice k.ba p.body.length k.bc] 55)).alloc (.cells #[.int .i64 0, .int .i64 0, .slice none 0 0] 45)) := ⟨_, rfl⟩
  have hBW : Below w.heap.size w W := by rw [hW]; exact ((Below.refl _ w).alloc (Nat.le_refl _) _).alloc (by simp) _
  have hz : W.heap.size = w.heap.size + 2 := by rw [hW]; simp
  have e0 : BoxP W w.heap.size p k := by rw [hW]; exact (BoxP.new w p k _).later (Below.heap_alloc _ _ _ (by simp))
  have e1 : W.heap[w.heap.size + 1]? = some (.cells #[.int .i64 0, .int .i64 0, .slice none 0 0] 45 (0, 0)) := by
    have e1 := heap_alloc_new (w.alloc (.cells #[.slice k.va p.vars.length k.vc, .slice k.aa p.arrs.length k.ac, .slice k.ba p.body.length k.bc] 55)) (.cells #[.int .i64 0, .int .i64 0, .slice none 0 0] 45)
    rw [World.size_alloc] at e1
    rw [hW]; exact e1
  have HR := Lib.hid (h.below hBW hlt)
  have HBW := Lib.hid hBW
  have HX := Lib.hid e1
  have HP := Lib.hid e0
  have HP0 := Lib.hid e0
  have HX0 := Lib.hid e1
  have HQ := Lib.hid hQ
  have HQ2 := Lib.hid hQ2
  have IH := Lib.hid ih
  have d1 : decide (D < 2) = false := by simp; omega
  have HD := Lib.hid hD
  have hd2 : 2 ≤ D := by omega
  have hd3 : D ≤ 5 := by omega
  clear h hBW e0 e1 ih hQ hQ2 hD
  go_enter Try.func119, Try.ntmps119
  go_wp2_with fail
  rw [← hW]
  clear hW
  refine (pickU B m 4 W HR.out (by omega) (by omega) (by omega)).mono ?_
  rintro f w1 ⟨v, ⟨v0, v1⟩, rfl, hr1, ho1, hb1⟩
  have HR1 := Lib.hid hr1
  have HO1 := Lib.hid ho1
  have HB1 := Lib.hid hb1
  have hs1 := ho1.1
  have hP1 := HP.out.later (ho1.2 w.heap.size (by omega) (by omega))
  have HX1 := Lib.hid ((ho1.2 (w.heap.size + 1) (by omega) (by omega)).trans HX.out)
  have p0 := hP1.c0
  have p1 := hP1.c1
  have p2 := hP1.c2
  have HP1 := Lib.hid hP1
  clear hr1 ho1 hb1 HR HP HX hP1
  by_cases h0 : v = 0
  · subst h0
    go_wp2_with fail
    refine (drAtom B (m + 1) p k w1 HR1.out (by omega) hv hv' (d + 1)).mono ?_
    rintro f w3 ⟨e, a, c, rfl, hx, hr3, ho3, hb3⟩
    have hx3 := (ho3.2 (w.heap.size + 1) (by omega) (by omega)).trans HX1.out
    obtain ⟨u0, hu0⟩ := cell_ex hx3 0 (by simp)
    obtain ⟨u1, hu1⟩ := cell_ex hx3 1 (by simp)
    obtain ⟨u2, hu2⟩ := cell_ex hx3 2 (by simp)
    have hf0 := frozen_at hx3 0
    have hf1 := frozen_at hx3 1
    have hf2 := frozen_at hx3 2
    have hs3 := ho3.1
    have HFIN : Hid (DrE (d + 1) w B (m + Q2) (.returned (.agg #[.int .i64 e.kind, .int .i64 e.value, .slice a e.kids.length c])) (put w3 (w.heap.size + 1) 0 [.int .i64 e.kind, .int .i64 e.value, .slice a e.kids.length c])) :=
      DrE.of HBW.out hlt ⟨hx.1.mono (fun _ _ => rfl) fun j hj => ⟨by have := hj.1; omega, hj.2⟩, hx.2⟩ hr3 (HO1.out.trans ho3) (HB1.out.trans hb3) (by omega) (w.heap.size + 1) 0 (by omega) (by omega) _
    clear hx hr3 ho3 hb3 hx3 HX1 HR1 HBW HP1 p0 p1 p2
    go_wp2_with fail
    exact bodyPost_ret (v := .agg #[.int .i64 e.kind, .int .i64 e.value, .slice a e.kids.length c]) (by simp [results, Try.f119, go_sem, hu0, hu1, hu2]) rfl HFIN.out
  have h0' : (v == 0) = false := by simpa using h0
  clear h0
  go_wp2_with fail
  obtain ⟨W2, hW2⟩ : ∃ W2, w1.alloc (.cells #[.int .i64 4, .int .i64 10, .int .i64 8, .int .i64 9, .int .i64 3, .int .i64 6, .int .i64 7, .int .i64 5, .int .i64 11] 3) = W2 := ⟨_, rfl⟩
  have hl2 : ∀ i, i < 9 → W2.cell? ⟨w1.heap.size, 0 + i, none⟩ = some (.int .i64 (([4, 10, 8, 9, 3, 6, 7, 5, 11] : List Int).getD i 0)) := by
    rw [← hW2]; exact lit_cells w1 [4, 10, 8, 9, 3, 6, 7, 5, 11] _
  have ho2 : Oth B W W2 := by rw [← hW2]; exact HO1.out.alloc _
  have hb2 : Below B W W2 := by rw [← hW2]; exact HB1.out.alloc (Nat.le_of_lt HR1.out.lt) _
  have hr2 : RdU W2 B (m + 1) := by rw [← hW2]; exact HR1.out.below ((Below.refl w1.heap.size w1).alloc (Nat.le_refl _) _) HR1.out.lt
  have hz2 : W2.heap.size = w1.heap.size + 1 := by rw [← hW2]; simp
  have hP2 : BoxP W2 w.heap.size p k := by rw [← hW2]; exact HP1.out.later (Below.heap_alloc _ _ _ (by omega))
  have hX2 : W2.heap[w.heap.size + 1]? = some (.cells #[.int .i64 0, .int .i64 0, .slice none 0 0] 45 (0, 0)) := by rw [← hW2]; exact (Below.heap_alloc _ _ _ (by omega)).trans HX1.out
  rw [hW2]
  have HL2 := Lib.hid hl2
  have HR2 := Lib.hid hr2
  have HP2 := Lib.hid hP2
  have HX2 := Lib.hid hX2
  clear hW2 hl2 hr2 hP2 hX2 HP1 HX1 HR1 p0 p1 p2
  refine (numU B (m + 1) w1.heap.size 0 9 9 [4, 10, 8, 9, 3, 6, 7, 5, 11] W2 HR2.out (by omega) (by omega) rfl (by omega) (by omega) HL2.out).mono ?_
  rintro f w3 ⟨kd, hkd, rfl, hr3, ho3, hb3⟩
  have hs3 := ho3.1
  have HO3 := Lib.hid (ho2.trans ho3)
  have HB3 := Lib.hid (hb2.trans hb3)
  have HR3 := Lib.hid hr3
  have HP3 := Lib.hid (HP2.out.later (ho3.2 w.heap.size (by omega) (by omega)))
  have HX3 := Lib.hid ((ho3.2 (w.heap.size + 1) (by omega) (by omega)).trans HX2.out)
  have p0 := HP3.out.c0
  have p1 := HP3.out.c1
  have p2 := HP3.out.c2
  clear hr3 ho3 hb3 HL2 HR2 HP2 HX2 ho2 hb2 HO1 HB1
  have hna0 : (0 : Int) ≤ (p.arrs.length : Int) := by omega
  by_cases hk3 : kd = 3
  case pos =>
    subst hk3
    by_cases hna : p.arrs.length = 0
    case pos =>
      have hna' : ((p.arrs.length : Int) == 0) = true := by simp [hna]
      clear hna hkd
      go_wp2_with fail
      refine (drAtom B (m + 2) p k w3 HR3.out (by omega) hv hv' (d + 1)).mono ?_
      rintro f w4 ⟨e, a, c, rfl, hx, hr4, ho4, hb4⟩
      have hx3 := (ho4.2 (w.heap.size + 1) (by omega) (by omega)).trans HX3.out
      obtain ⟨u0, hu0⟩ := cell_ex hx3 0 (by simp)
      obtain ⟨u1, hu1⟩ := cell_ex hx3 1 (by simp)
      obtain ⟨u2, hu2⟩ := cell_ex hx3 2 (by simp)
      have hf0 := frozen_at hx3 0
      have hf1 := frozen_at hx3 1
      have hf2 := frozen_at hx3 2
      have hs4 := ho4.1
      have HFIN : Hid (DrE (d + 1) w B (m + Q2) (.returned (.agg #[.int .i64 e.kind, .int .i64 e.value, .slice a e.kids.length c])) (put w4 (w.heap.size + 1) 0 [.int .i64 e.kind, .int .i64 e.value, .slice a e.kids.length c])) :=
        DrE.of HBW.out hlt ⟨hx.1.mono (fun _ _ => rfl) fun j hj => ⟨by have := hj.1; omega, hj.2⟩, hx.2⟩ hr4 (HO3.out.trans ho4) (HB3.out.trans hb4) (by omega) (w.heap.size + 1) 0 (by omega) (by omega) _
      clear hx hr4 ho4 hb4 hx3 HX3 HR3 HBW HP3 p0 p1 p2
      go_wp2_with fail
      exact bodyPost_ret (v := .agg #[.int .i64 e.kind, .int .i64 e.value, .slice a e.kids.length c]) (by simp [results, Try.f119, go_sem, hu0, hu1, hu2]) rfl HFIN.out
    case neg =>
      have hna' : ((p.arrs.length : Int) == 0) = false := by simp [hna]
      have hna1 : (1 : Int) ≤ (p.arrs.length : Int) := by omega
      clear hna hkd
      have HR3d : Hid (RdU w3.drew B (m + 2)) := Lib.hid HR3.out.drew
      have HS : Hid (∀ v, Oth B w3 v → v.cell? ⟨w.heap.size, 0, none⟩ = some (.slice k.va p.vars.length k.vc) ∧ v.cell? ⟨w.heap.size, 1, none⟩ = some (.slice k.aa p.arrs.length k.ac) ∧ v.cell? ⟨w.heap.size, 2, none⟩ = some (.slice k.ba p.body.length k.bc)) := fun v hv => by
        have h := HP3.out.later (hv.2 w.heap.size (by omega) (by omega))
        exact ⟨h.c0, h.c1, h.c2⟩
      go_wp2_with fail
      go_region_held3 (fun v => v.cell? ⟨w.heap.size, 0, none⟩ = some (.slice k.va p.vars.length k.vc) ∧ v.cell? ⟨w.heap.size, 1, none⟩ = some (.slice k.aa p.arrs.length k.ac) ∧ v.cell? ⟨w.heap.size, 2, none⟩ = some (.slice k.ba p.body.length k.bc)) (first | assumption | exact ⟨p0, p1, p2⟩ | exact ⟨g0, g1, g2⟩ | go_keep)
        (first
        | (go_at_call 49; (with_reducible refine (pickU B (m + 2) (p.arrs.length : Int) w3.drew HR3d.out (by omega) hna1 (by omega)).mono ?_); rintro f u1 ⟨v2, _, rfl, hr4, ho4, hb4⟩; have hS1 := HS.out _ ((Oth.refl B w3).drew.trans ho4))
        | (go_at_call 113; (with_reducible refine (drAtom B (m + 2 + 1) p k u1 hr4 (by omega) hv hv' d).mono ?_); rintro f u2 ⟨e, a, c, rfl, hx, hr5, ho5, hb5⟩; have hO5 := ((Oth.refl B w3).drew.trans ho4).trans ho5; have hS2 := HS.out _ hO5; obtain ⟨g0, g1, g2⟩ := HS.out (u2.alloc (.cells #[.int .i64 e.kind, .int .i64 e.value, .slice a e.kids.length c] 45)) (hO5.alloc _); have hx3 := ((hO5.alloc (.cells #[.int .i64 e.kind, .int .i64 e.value, .slice a e.kids.length c] 45)).2 (w.heap.size + 1) (by omega) (by omega)).trans HX3.out; obtain ⟨u0, hu0⟩ := cell_ex hx3 0 (by simp); obtain ⟨u1', hu1⟩ := cell_ex hx3 1 (by simp); obtain ⟨u2', hu2⟩ := cell_ex hx3 2 (by simp); have hf0 := frozen_at hx3 0; have hf1 := frozen_at hx3 1; have hf2 := frozen_at hx3 2))
      have hs4 := ho4.1
      have hs5 := ho5.1
      have hs3d : w3.drew.heap.size = w3.heap.size := rfl
      obtain ⟨q1, q2, q3⟩ := four_pow d hd'
      have HFIN : Hid (DrE (d + 1) w B (m + Q2) (.returned (.agg #[.int .i64 3, .int .i64 v2, .slice (some ⟨u2.heap.size, 0, none⟩) 1 1])) (put (u2.alloc (.cells #[.int .i64 e.kind, .int .i64 e.value, .slice a e.kids.length c] 45)) (w.heap.size + 1) 0 [.int .i64 3, .int .i64 v2, .slice (some ⟨u2.heap.size, 0, none⟩) 1 1])) := by
        have hbx : BoxE (u2.alloc (.cells #[.int .i64 e.kind, .int .i64 e.value, .slice a e.kids.length c] 45)) u2.heap.size e a c := BoxE.new _ _ _ _ _
        have hz6 : (u2.alloc (.cells #[.int .i64 e.kind, .int .i64 e.value, .slice a e.kids.length c] 45)).heap.size = u2.heap.size + 1 := by simp
        have hst : Stand (New u1 u2) u2 (u2.alloc (.cells #[.int .i64 e.kind, .int .i64 e.value, .slice a e.kids.length c] 45)) := fun j hj => Below.heap_alloc _ _ _ hj.2
        have hr6 : RdU (u2.alloc (.cells #[.int .i64 e.kind, .int .i64 e.value, .slice a e.kids.length c] 45)) B (m + 2 + 1 + 2) := hr5.below ((Below.refl u2.heap.size u2).alloc (Nat.le_refl _) _) hr5.lt
        have ho6 : Oth B W (u2.alloc (.cells #[.int .i64 e.kind, .int .i64 e.value, .slice a e.kids.length c] 45)) := (HO3.out.trans hO5).alloc _
        have hb6 : Below B W (u2.alloc (.cells #[.int .i64 e.kind, .int .i64 e.value, .slice a e.kids.length c] 45)) := (HB3.out.trans (((Below.refl B w3).drew.trans hb4).trans hb5)).alloc (Nat.le_of_lt hr5.lt) _
        obtain ⟨W6, hW6⟩ : ∃ W6, u2.alloc (.cells #[.int .i64 e.kind, .int .i64 e.value, .slice a e.kids.length c] 45) = W6 := ⟨_, rfl⟩
        rw [hW6] at hbx hz6 hst hr6 ho6 hb6 ⊢
        refine DrE.of (e := ⟨3, v2, [e]⟩) HBW.out hlt ⟨⟨some ⟨u2.heap.size, 0, none⟩, 1, rfl, by simp, by unfold maxLen; omega, fun i x hx' => ?_⟩, ⟨by simp, ?_, fun i x hx' => ?_⟩, ?_⟩ hr6 ho6 hb6 (by omega) (w.heap.size + 1) 0 (by omega) (by omega) _
        · cases i with
          | succ i => simp at hx'
          | zero =>
            simp at hx'
            subst hx'
            exact ⟨u2.heap.size, 0, _, _, _, rfl, ⟨by omega, by omega⟩, hbx.c0, hbx.c1, hbx.c2, hx.1.mono hst fun j hj => ⟨by have := hj.1; omega, by have := hj.2; omega⟩⟩
        · simp [cntEs]; have := hx.2.2; omega
        · cases i with
          | succ i => simp at hx'
          | zero =>
            simp at hx'
            subst hx'
            exact hx.2.1
        · rw [cntE_eq]; simp only [cntEs]; have := hx.2.2; omega
      clear hx hr5 ho5 hb5 hx3 hr4 ho4 hb4 hS1 hS2 g0 g1 g2 HS HX3 HP3 HR3 HR3d HO3 HB3 HBW hO5 q1 q2 q3
      go_wp2_with fail
      exact bodyPost_ret (v := .agg #[.int .i64 3, .int .i64 v2, .slice (some ⟨u2.heap.size, 0, none⟩) 1 1]) (by simp [results, Try.f119, go_sem, hu0, hu1, hu2]) rfl HFIN.out
  case neg =>
    have hk3' : (kd == 3) = false := by simpa using hk3
    have har : arity kd = 2 ∨ arity kd = 3 := by
      simp at hkd
      rcases hkd with rfl | rfl | rfl | rfl | rfl | rfl | rfl | rfl | rfl <;> first | (exact absurd rfl hk3) | (left; rfl) | (right; rfl)
    obtain ⟨N, hN, hN2⟩ : ∃ N : Nat, arity kd = (N : Int) ∧ (N = 2 ∨ N = 3) := by
      rcases har with h | h
      · exact ⟨2, h, .inl rfl⟩
      · exact ⟨3, h, .inr rfl⟩
    have HN := Lib.hid hN
    clear hkd hk3 har hN
    go_wp2_with fail
    refine (sArity_any kd _).mono ?_
    rintro f W4 ⟨rfl, hW4⟩
    rw [HN.out]
    obtain ⟨X, hX⟩ : ∃ X, w3.heap.size = X := ⟨_, rfl⟩
    have hEB : W4.heap[X]? = some (.cells #[.int .i64 kd, .int .i64 0, .slice none 0 0] 45 (0, 0)) := by
      rw [← hW4, ← hX]; exact heap_alloc_new w3 _
    have hz4 : W4.heap.size = X + 1 := by rw [← hW4, ← hX]; simp
    have ho4 : Oth B W W4 := by rw [← hW4]; exact HO3.out.alloc _
    have hb4 : Below B W W4 := by rw [← hW4]; exact HB3.out.alloc (Nat.le_of_lt HR3.out.lt) _
    have hr4 : RdU W4 B (m + 2) := by rw [← hW4]; exact HR3.out.below ((Below.refl w3.heap.size w3).alloc (Nat.le_refl _) _) HR3.out.lt
    have hP4 : BoxP W4 w.heap.size p k := by rw [← hW4]; exact HP3.out.later (Below.heap_alloc _ _ _ (by omega))
    have hX4 : W4.heap[w.heap.size + 1]? = some (.cells #[.int .i64 0, .int .i64 0, .slice none 0 0] 45 (0, 0)) := by rw [← hW4]; exact (Below.heap_alloc _ _ _ (by omega)).trans HX3.out
    rw [hX]
    have hXw : w.heap.size + 1 < X := by omega
    have HEB := Lib.hid hEB
    have HO4 := Lib.hid ho4
    have HB4 := Lib.hid hb4
    have HR4 := Lib.hid hr4
    have HP4 := Lib.hid hP4
    have HX4 := Lib.hid hX4
    clear hEB ho4 hb4 hr4 hP4 hX4 hW4 HP3 HX3 HR3 HO3 HB3 p0 p1 p2
    have HI := Lib.hid Try.infoE
    go_wp2_with fail
    go_loopw [9] (fun c wr => ∃ (i : Nat) (es : List E) (va : Option Addr) (vc : Nat), i ≤ N ∧ c = .int .i64 i ∧ es.length + i = N ∧ wr.heap[X]? = some (.cells #[.int .i64 kd, .int .i64 0, .slice va es.length vc] 45 (0, 0)) ∧ RowE (d + 1) wr (X + 1) (.slice va es.length vc) es ∧
        (∀ x ∈ es, SmE 1048576 (d + 1) x ∧ cntE x ≤ 4 ^ d) ∧ RdU wr B (m + 2 + es.length * Q) ∧ Oth B W wr ∧ Below B W wr ∧ X + 1 ≤ wr.heap.size) (fun c _ => (intOf c).toNat)
    case atStart => exact ⟨N, [], none, 0, Nat.le_refl _, rfl, by simp, HEB.out, RowG.nil _ _, fun x hx => by simp at hx, by simpa using HR4.out, HO4.out, HB4.out, by omega⟩
    case round =>
      obtain ⟨i, es, va, vc, hi, rfl, hel, hEB, hrow, hsm, hrd, hoth, hbel, hXs⟩ := hrel
      have HEB := Lib.hid hEB
      have HROW := Lib.hid hrow
      have HSM := Lib.hid hsm
      have HRD := Lib.hid hrd
      have HOTH := Lib.hid hoth
      have HBEL := Lib.hid hbel
      obtain ⟨n, hn⟩ : ∃ n, es.length = n := ⟨_, rfl⟩
      have HNN := Lib.hid hn
      rw [hn] at hel
      have q2 : wr.cell? ⟨X, 2, none⟩ = some (.slice va n vc) := by rw [cell_at hEB, ← hn]; rfl
      clear hEB hrow hsm hrd hoth hbel hn
      by_cases hi0 : i = 0
      · subst hi0
        have hx3 := (HOTH.out.2 (w.heap.size + 1) (by omega) (by omega)).trans HX0.out
        obtain ⟨u0, hu0⟩ := cell_ex hx3 0 (by simp)
        obtain ⟨u1, hu1⟩ := cell_ex hx3 1 (by simp)
        obtain ⟨u2, hu2⟩ := cell_ex hx3 2 (by simp)
        have hf0 := frozen_at hx3 0
        have hf1 := frozen_at hx3 1
        have hf2 := frozen_at hx3 2
        have q0 : wr.cell? ⟨X, 0, none⟩ = some (.int .i64 kd) := by rw [cell_at HEB.out]; rfl
        have q1 : wr.cell? ⟨X, 1, none⟩ = some (.int .i64 0) := by rw [cell_at HEB.out]; rfl
        obtain ⟨y1, y2, y3⟩ := four_pow d hd'
        have HFIN : Hid (DrE (d + 1) w B (m + Q2) (.returned (.agg #[.int .i64 kd, .int .i64 0, .slice va n vc])) (put wr (w.heap.size + 1) 0 [.int .i64 kd, .int .i64 0, .slice va n vc])) := by
          obtain ⟨ra, rc, e1, e2, e3, e4⟩ := RowE.es HROW.out
          cases e1
          have hcs := cntEs_mem (es := es) (m := 4 ^ d) fun x hx => (HSM.out x hx).2
          have hle : es.length * 4 ^ d ≤ 3 * 4 ^ d := Nat.mul_le_mul_right _ (by have := HNN.out; omega)
          have hr : RdU wr B (m + Q2) := HRD.out.mono (by
            have : es.length * Q ≤ 3 * Q := Nat.mul_le_mul_right _ (by have := HNN.out; omega)
            omega)
          have := DrE.of (e := ⟨kd, 0, es⟩) (a := va) (c := vc) (d := d + 1) (m' := m + Q2) HBW.out hlt ⟨⟨va, vc, rfl, e2, e3, e4.wide (fun _ _ => rfl) fun j hj => ⟨by have := hj.1; omega, hj.2⟩⟩, ⟨by have := HNN.out; simp; omega, by simp; omega, fun i x hx => (HSM.out x (List.mem_of_getElem? hx)).1⟩, by rw [cntE_eq]; simp; omega⟩ hr HOTH.out HBEL.out (Nat.le_refl _) (w.heap.size + 1) 0 (by omega) (by omega) [.int .i64 kd, .int .i64 0, .slice va es.length vc]
          rw [← HNN.out]
          exact this
        clear hx3 HX0 HP0 HROW HSM HRD HOTH HBEL HEB y1 y2 y3
        go_wp2_with fail
        exact bodyPost_ret (v := .agg #[.int .i64 kd, .int .i64 0, .slice va n vc]) (by simp [results, Try.f119, go_sem, hu0, hu1, hu2]) rfl HFIN.out
      · have hip : (0 : Int) < (i : Int) := by omega
        have hnQ : n * Q ≤ 2 * Q := Nat.mul_le_mul_right _ (by omega)
        have HRd : Hid (RdU wr.drew B (m + 2 + n * Q)) := by have := HRD.out.drew; rw [HNN.out] at this; exact this
        have hP := HP0.out.later (HOTH.out.2 w.heap.size (by omega) (by omega))
        have p0 := hP.c0
        have p1 := hP.c1
        have p2 := hP.c2
        have hDm : IntKind.i64.wrap (D - 1) = (d : Int) := by rw [HD.out, show (d : Int) + 1 - 1 = d from by omega]; exact IntWalk.i64_in _ (by omega)
        obtain ⟨i0, hinf, hz0, hz1, hz2⟩ := info_parts HI.out
        clear hP
        go_wp2_with fail
        go_region_law (first
          | (go_simp; go_at_call 119; refine (IH.out B (m + 2 + n * Q) wr.drew HRd.out (by omega)).mono ?_; rintro f u ⟨x, xa, xc, rfl, hx, hr5, ho5, hb5⟩; have hO5 : Oth B wr u := (Oth.refl B wr).drew.trans ho5; have hEBu := (hO5.2 X (by omega) (by omega)).trans HEB.out; have q2u : u.cell? ⟨X, 2, none⟩ = some (.slice va n vc) := (by rw [cell_at hEBu, HNN.out]; rfl); have hs5 := ho5.1; have hsd : wr.drew.heap.size = wr.heap.size := rfl
             have hEBa : (u.alloc (.cells #[.int .i64 x.kind, .int .i64 x.value, .slice xa x.kids.length xc] 45)).heap[X]? = some (.cells #[.int .i64 kd, .int .i64 0, .slice va es.length vc] 45 (0, 0)) := (Below.heap_alloc _ _ _ (by omega)).trans hEBu
             have q2a : (u.alloc (.cells #[.int .i64 x.kind, .int .i64 x.value, .slice xa x.kids.length xc] 45)).cell? ⟨X, 2, none⟩ = some (.slice va n vc) := (by rw [cell_at hEBa, HNN.out]; rfl)
             obtain ⟨L, hL1, hL2, hL3⟩ := HROW.out.oth (hRE (d + 1)) (hO5.alloc (.cells #[.int .i64 x.kind, .int .i64 x.value, .slice xa x.kids.length xc] 45)) (by omega)
             rw [HNN.out] at hL2)
          | (refine step_append_lies _ (by rfl) _ _ _ (by rfl) (X + 1) 45 i0 _ 3 40 Try.underlying43 hinf hz0 hz1 hz2 rfl (by omega) (.slice va n vc) n _ (by rfl) hL2 ⟨u.heap.size, 0, none⟩ 1 1 [.int .i64 x.kind, .int .i64 x.value, .slice xa x.kids.length xc] (by rfl) (by rfl) (World.news_of_block (cs := #[.int .i64 x.kind, .int .i64 x.value, .slice xa x.kids.length xc]) (t := 45) (fr := (0, 0)) (heap_alloc_new u _)) (by simp [Value.oneCell']) (by omega) (by unfold maxLen; omega) (by omega) (by simp; omega) (u.heap.size + 1) (by simp) ?_; intro g cap w5 hown5 hgrow hat hlt5
             have hXr : some X ≠ (Value.slice va n vc).ownBlock := fun e => (by have := (hL2.lt X e.symm).1; omega)
             have hEB5 := (hgrow.block X (by simp; omega) hXr).trans hEBa
             have q25 : w5.cell? ⟨X, 2, none⟩ = some (.slice va n vc) := (by rw [cell_at hEB5, HNN.out]; rfl)
             have f25 := frozen_at hEB5 2))
        all_goals
          have HREL : Hid ((put w5 X 2 [.slice (some ⟨g, 0, none⟩) (n + 1) cap]).heap[X]? = some (.cells #[.int .i64 kd, .int .i64 0, .slice (some ⟨g, 0, none⟩) (es ++ [x]).length cap] 45 (0, 0)) ∧ RowE (d + 1) (put w5 X 2 [.slice (some ⟨g, 0, none⟩) (n + 1) cap]) (X + 1) (.slice (some ⟨g, 0, none⟩) (es ++ [x]).length cap) (es ++ [x]) ∧
              (∀ y ∈ es ++ [x], SmE 1048576 (d + 1) y ∧ cntE y ≤ 4 ^ d) ∧ RdU (put w5 X 2 [.slice (some ⟨g, 0, none⟩) (n + 1) cap]) B (m + 2 + (es ++ [x]).length * Q) ∧ Oth B W (put w5 X 2 [.slice (some ⟨g, 0, none⟩) (n + 1) cap]) ∧ Below B W (put w5 X 2 [.slice (some ⟨g, 0, none⟩) (n + 1) cap]) ∧ X + 1 ≤ (put w5 X 2 [.slice (some ⟨g, 0, none⟩) (n + 1) cap]).heap.size) := by
            have hzu : (u.alloc (.cells #[.int .i64 x.kind, .int .i64 x.value, .slice xa x.kids.length xc] 45)).heap.size = u.heap.size + 1 := by simp
            have hlen : (es ++ [x]).length = n + 1 := by rw [← HNN.out]; simp
            have hba : Below u.heap.size u (u.alloc (.cells #[.int .i64 x.kind, .int .i64 x.value, .slice xa x.kids.length xc] 45)) := (Below.refl _ _).alloc (Nat.le_refl _) _
            have hb5' : Below (X + 1) (u.alloc (.cells #[.int .i64 x.kind, .int .i64 x.value, .slice xa x.kids.length xc] 45)) w5 := (Below.refl (X + 1) _).grown hgrow (by omega) (fun k e => (hL2.lt k e).1)
            have hb6 : Below X u (put w5 X 2 [.slice (some ⟨g, 0, none⟩) (n + 1) cap]) := put_below _ _ _ X X 2 ((hba.mono (by omega)).trans (hb5'.mono (by omega))) (Nat.le_refl _)
            have hrowlt : ∀ j, (Value.slice va n vc).ownBlock = some j → j < wr.heap.size := fun j hj => by
              obtain ⟨L', _, h2, _⟩ := HROW.out
              rw [HNN.out] at h2
              exact (h2.lt j hj).2
            have hxx : IsE (u.alloc (.cells #[.int .i64 x.kind, .int .i64 x.value, .slice xa x.kids.length xc] 45)) (Dv (u.alloc (.cells #[.int .i64 x.kind, .int .i64 x.value, .slice xa x.kids.length xc] 45)) (X + 1) (.slice va n vc)) (d + 1) x (cellsI x xa xc) := hx.1.mono (fun j hj => hba.block j hj.2) fun j hj => ⟨by have := hj.1; omega, by have := hj.2; omega, fun e => by have := hrowlt j e; have := hj.1; omega⟩
            have hgs := hgrow.size
            refine ⟨?_, ?_, ?_, ?_, ?_, ?_, by rw [put_size]; omega⟩
            · rw [put_row _ _ _ _ _ _ hEB5, hlen]; rfl
            · rw [HNN.out] at hL3 hL1
              have hs := RowG.snoc (hRE (d + 1)) (es := es) (v := .slice va n vc) (base := X + 1) (x := x) (k := (xa, xc)) (by rw [HNN.out]; exact hL1) hL3 hxx (by rw [HNN.out]; exact hown5) hgrow (by rcases hat with h | h; exact .inl h; exact .inr (by rw [h, hzu]))
              rw [HNN.out] at hs
              rw [hlen]
              exact hs.oth (hRE (d + 1)) (B := X) ⟨by rw [put_size]; exact Nat.le_refl _, fun k _ hk => put_other _ _ _ _ _ hk⟩ (by omega)
            · intro y hy
              rcases List.mem_append.1 hy with hy | hy
              · exact HSM.out y hy
              · simp at hy; subst hy; exact hx.2
            · rw [hlen, Nat.succ_mul]
              have := hr5.below hb6 (by omega)
              exact this.mono (by omega)
            · exact ⟨Nat.le_trans (Nat.le_trans HOTH.out.1 hO5.1) hb6.size, fun k hk hB => (hb6.block k (by omega)).trans ((hO5.2 k (by have := HOTH.out.1; omega) hB).trans (HOTH.out.2 k hk hB))⟩
            · exact HBEL.out.trans (((Below.refl B wr).drew.trans hb5).trans (hb6.mono (by omega)))
          clear hx hr5 ho5 hb5 hO5 hEBu q2u hEBa q2a hL1 hL2 hL3 hown5 hgrow hat hlt5 hXr hEB5 q25 f25 HROW HSM HRD HOTH HBEL HEB HRd p0 p1 p2 q2
          go_wp2_with fail
          go_roundw
          case rel => exact ⟨i - 1, es ++ [x], some ⟨g, 0, none⟩, cap, by omega, by go_num, by simp; have := HNN.out; omega, HREL.out⟩
          case measure => simp [intOf]; omega

end Go.Proofs.Ytgfagdjadmpklaa

/- The draw of a program of the model's package: a valid program is handed back. -/
import Derived.Test.YtgfagdjadmpklaaDrO
import Derived.Deep.RegionHeld3
namespace Go.Proofs.Ytgfagdjadmpklaa
open Go.RowKit
set_option linter.unusedVariables false

/-- What a loop of the draw keeps: blocks below Y stand, but the reader's and the program's box. -/
def Kq (B X Y : Nat) (W wr : World) : Prop := W.heap.size ≤ wr.heap.size ∧ ∀ j, j < Y → j ≠ B → j ≠ X → wr.heap[j]? = W.heap[j]?

set_option maxRecDepth 100000 in
set_option maxHeartbeats 16000000 in
theorem drProgramC (B m : Nat) (w : World) (h : RdU w B m) (hm : m < 1099000000000) : Calls Try.prog 79 #[.pointer (some ⟨B, 0, none⟩)] w (DrPgC w B (m + 6000000)) := by
  have hlt := h.lt
  obtain ⟨W, hW⟩ : ∃ W, (w.alloc (.cells #[.slice none 0 0, .slice none 0 0, .slice none 0 0] 55)).alloc (.cells #[.slice none 0 0, .slice none 0 0, .slice none 0 0] 55) = W := ⟨_, rfl⟩
  have hBW : Below w.heap.size w W := by rw [← hW]; exact ((Below.refl _ w).alloc (Nat.le_refl _) _).alloc (by simp) _
  have hz : W.heap.size = w.heap.size + 2 := by rw [← hW]; simp
  have e0 : W.heap[w.heap.size]? = some (.cells #[.slice none 0 0, .slice none 0 0, .slice none 0 0] 55 (0, 0)) := by
    rw [← hW]; exact (Below.heap_alloc _ _ _ (by simp)).trans (heap_alloc_new w _)
  have e1 : W.heap[w.heap.size + 1]? = some (.cells #[.slice none 0 0, .slice none 0 0, .slice none 0 0] 55 (0, 0)) := by
    have e1 := heap_alloc_new (w.alloc (.cells #[.slice none 0 0, .slice none 0 0, .slice none 0 0] 55)) (.cells #[.slice none 0 0, .slice none 0 0, .slice none 0 0] 55)
    rw [World.size_alloc] at e1
    rw [← hW]; exact e1
  have hl2 : ∀ i, i < 4 → (W.alloc (.cells #[.int .i64 3, .int .i64 4, .int .i64 2, .int .i64 5] 3)).cell? ⟨w.heap.size + 2, 0 + i, none⟩ = some (.int .i64 (([3, 4, 2, 5] : List Int).getD i 0)) := by rw [← hz]; exact lit_cells W [3, 4, 2, 5] _
  have hRL : RdU (W.alloc (.cells #[.int .i64 3, .int .i64 4, .int .i64 2, .int .i64 5] 3)) B m := (h.below hBW hlt).alloc _
  have HBL := Lib.hid hBW
  have HR := Lib.hid e0
  have HX := Lib.hid e1
  have HL := Lib.hid hl2
  have HRL := Lib.hid hRL
  have HI := Lib.hid Try.infoI
  have HWW := Lib.hid hW
  clear h hBW e0 e1 hl2 hRL hW
  go_enter Try.func79, Try.ntmps79
  go_wp2_with fail
  rw [HWW.out]
  clear HWW
  with_reducible refine (numU B m (w.heap.size + 2) 0 4 4 [3, 4, 2, 5] (W.alloc (.cells #[.int .i64 3, .int .i64 4, .int .i64 2, .int .i64 5] 3)) HRL.out (by omega) (by omega) rfl (by omega) (by omega) HL.out).mono ?_
  rintro f u1 ⟨nv, hnv, rfl, hr1, ho1, hb1⟩
  have hO1 : Oth B W u1 := ((Oth.refl B W).alloc (.cells #[.int .i64 3, .int .i64 4, .int .i64 2, .int .i64 5] 3)).trans ho1
  have hB1 : Below B W u1 := ((Below.refl B W).alloc (by omega) (.cells #[.int .i64 3, .int .i64 4, .int .i64 2, .int .i64 5] 3)).trans hb1
  have hX1 := (hO1.2 (w.heap.size + 1) (by omega) (by omega)).trans HX.out
  have hR1 := (hO1.2 w.heap.size (by omega) (by omega)).trans HR.out
  have hz1 : W.heap.size + 1 ≤ u1.heap.size := by have := ho1.1; simpa using this
  obtain ⟨N, rfl, hN2, hN5⟩ : ∃ N : Nat, nv = (N : Int) ∧ 2 ≤ N ∧ N ≤ 5 := by simp at hnv; exact ⟨nv.toNat, by omega, by omega, by omega⟩
  have HO1 := Lib.hid hO1
  have HB1 := Lib.hid hB1
  have HX1 := Lib.hid hX1
  have HR1 := Lib.hid hR1
  have HRD1 := Lib.hid hr1
  clear hnv hr1 ho1 hb1 hO1 hB1 hX1 hR1 HX HR HL HRL
  go_wp2_with fail
  go_loopw [4] (fun cc wr => ∃ (i : Nat) (xs : List Int) (va : Option Addr) (vc : Nat), i ≤ N ∧ cc = .int .i64 i ∧ xs.length + i = N ∧ wr.heap[w.heap.size + 1]? = some (.cells #[.slice va xs.length vc, .slice none 0 0, .slice none 0 0] 55 (0, 0)) ∧ OwnI wr u1.heap.size (.slice va xs.length vc) xs ∧ RdU wr B (m + 1 + xs.length) ∧ Kq B (w.heap.size + 1) u1.heap.size u1 wr ∧ Below B u1 wr) (fun cc _ => (intOf cc).toNat)
  case atStart => exact ⟨N, [], none, 0, Nat.le_refl _, rfl, by simp, HX1.out, OwnI.nil' _ _, by simpa using HRD1.out, ⟨Nat.le_refl _, fun _ _ _ _ => rfl⟩, Below.refl _ _⟩
  case round =>
    obtain ⟨i, xs1, va1, vc1, hi, rfl, hel, hEB, hrow, hrd, hkq, hbel⟩ := hrel
    have HEB1 := Lib.hid hEB
    have HROW1 := Lib.hid hrow
    have HRDr1 := Lib.hid hrd
    have HKQ1 := Lib.hid hkq
    have HBEL1 := Lib.hid hbel
    obtain ⟨n1, hn⟩ : ∃ n, xs1.length = n := ⟨_, rfl⟩
    have HNN1 := Lib.hid hn
    rw [hn] at hel
    have q2 : wr.cell? ⟨w.heap.size + 1, 0, none⟩ = some (.slice va1 n1 vc1) := by rw [cell_at hEB, ← hn]; rfl
    have hzr := hkq.1
    clear hEB hrow hrd hkq hbel hn
    by_cases hi0 : i = 0
    · subst hi0
      obtain rfl : n1 = N := by omega
      obtain ⟨Va, hVa⟩ : ∃ V, V = wr := ⟨_, rfl⟩
      subst hVa
      have hBx := HRDr1.out.lt
      have HRDv : Hid (RdU (Va.alloc (.cells #[.int .i64 1, .int .i64 2, .int .i64 0, .int .i64 1] 3)) B (m + 1 + n1)) := by have := HRDr1.out.alloc (.cells #[.int .i64 1, .int .i64 2, .int .i64 0, .int .i64 1] 3); rw [HNN1.out] at this; exact this
      have HLv : Hid (∀ j, j < 4 → (Va.alloc (.cells #[.int .i64 1, .int .i64 2, .int .i64 0, .int .i64 1] 3)).cell? ⟨Va.heap.size, 0 + j, none⟩ = some (.int .i64 (([1, 2, 0, 1] : List Int).getD j 0))) := lit_cells Va [1, 2, 0, 1] _
      go_wp2_with fail
      with_reducible refine (numU B (m + 1 + n1) Va.heap.size 0 4 4 [1, 2, 0, 1] (Va.alloc (.cells #[.int .i64 1, .int .i64 2, .int .i64 0, .int .i64 1] 3)) HRDv.out (by omega) (by omega) rfl (by omega) (by omega) HLv.out).mono ?_
      rintro f u2 ⟨av, hav, rfl, hr2, ho2, hb2⟩
      have ho2' : Oth B Va u2 := ((Oth.refl B Va).alloc (.cells #[.int .i64 1, .int .i64 2, .int .i64 0, .int .i64 1] 3)).trans ho2
      have hs2 := ho2'.1
      have hkq := HKQ1.out
      obtain ⟨N2, rfl, hN22⟩ : ∃ N : Nat, av = (N : Int) ∧ N ≤ 2 := by simp at hav; exact ⟨av.toNat, by omega, by omega⟩
      have HO2 : Hid (Oth B w u2) := ⟨by omega, fun j hj hjB => (ho2'.2 j (by omega) hjB).trans ((hkq.2 j (by omega) hjB (by omega)).trans ((HO1.out.2 j (by omega) hjB).trans (HBL.out.block j hj)))⟩
      have HB2 : Hid (Below B w u2) := (((HBL.out.mono (by omega)).trans HB1.out).trans HBEL1.out).trans (((Below.refl B Va).alloc (by omega) (.cells #[.int .i64 1, .int .i64 2, .int .i64 0, .int .i64 1] 3)).trans hb2)
      have HX2 : Hid (u2.heap[w.heap.size + 1]? = some (.cells #[.slice va1 n1 vc1, .slice none 0 0, .slice none 0 0] 55 (0, 0))) := by have := (ho2'.2 (w.heap.size + 1) (by omega) (by omega)).trans HEB1.out; rw [HNN1.out] at this; exact this
      have HR2 : Hid (u2.heap[w.heap.size]? = some (.cells #[.slice none 0 0, .slice none 0 0, .slice none 0 0] 55 (0, 0))) := (ho2'.2 w.heap.size (by omega) (by omega)).trans ((hkq.2 w.heap.size (by omega) (by omega) (by omega)).trans HR1.out)
      have HROWv : Hid (OwnI u2 u1.heap.size (.slice va1 xs1.length vc1) xs1) := HROW1.out.stand fun j hj hj' => ho2'.2 j hj' (by omega)
      have HRD2 : Hid (RdU u2 B (m + 1 + n1 + 1)) := hr2
      have hzu2 : u1.heap.size + 1 ≤ u2.heap.size := by have := ho2.1; simp at this; omega
      clear hav hr2 ho2 hb2 ho2' hkq HKQ1 HBEL1 HEB1 HROW1 HRDr1 HRDv HLv q2 hs2 hzr HX1 HR1 HRD1 HO1 HB1 HBL hel hi hBx
      go_wp2_with fail
      go_loopw [5] (fun cc wr => ∃ (i : Nat) (xs : List Int) (va : Option Addr) (vc : Nat), i ≤ N2 ∧ cc = .int .i64 i ∧ xs.length + i = N2 ∧ wr.heap[w.heap.size + 1]? = some (.cells #[.slice va1 n1 vc1, .slice va xs.length vc, .slice none 0 0] 55 (0, 0)) ∧ OwnI wr u2.heap.size (.slice va xs.length vc) xs ∧ RdU wr B (m + 1 + n1 + 1 + xs.length) ∧ Kq B (w.heap.size + 1) u2.heap.size u2 wr ∧ Below B u2 wr) (fun cc _ => (intOf cc).toNat)
      case atStart => exact ⟨N2, [], none, 0, Nat.le_refl _, rfl, by simp, HX2.out, OwnI.nil' _ _, by simpa using HRD2.out, ⟨Nat.le_refl _, fun _ _ _ _ => rfl⟩, Below.refl _ _⟩
      case round =>
        obtain ⟨i, xs2, va2, vc2, hi, rfl, hel, hEB, hrow, hrd, hkq, hbel⟩ := hrel
        have HEB2 := Lib.hid hEB
        have HROW2 := Lib.hid hrow
        have HRDr2 := Lib.hid hrd
        have HKQ2 := Lib.hid hkq
        have HBEL2 := Lib.hid hbel
        obtain ⟨n2, hn⟩ : ∃ n, xs2.length = n := ⟨_, rfl⟩
        have HNN2 := Lib.hid hn
        rw [hn] at hel
        have q2 : wr.cell? ⟨w.heap.size + 1, 1, none⟩ = some (.slice va2 n2 vc2) := by rw [cell_at hEB, ← hn]; rfl
        have hzr := hkq.1
        clear hEB hrow hrd hkq hbel hn
        by_cases hi0 : i = 0
        · subst hi0
          obtain rfl : n2 = N2 := by omega
          obtain ⟨Vb, hVb⟩ : ∃ V, V = wr := ⟨_, rfl⟩
          subst hVb
          have hrow1 : OwnI Vb u1.heap.size (.slice va1 xs1.length vc1) xs1 := HROWv.out.stand fun j hj hj' => HKQ2.out.2 j hj' (by omega) (by omega)
          have hst : PSt w B (m + 1 + n1 + 1 + n2) ⟨xs1, xs2, []⟩ ⟨va1, vc1, va2, vc2, none, 0⟩ Vb := by
            have h1 := HNN1.out
            have h2 := HNN2.out
            have hzk := HKQ2.out.1
            obtain ⟨a1, c1, e1, i1, j1, k1⟩ := hrow1.ints
            cases e1
            obtain ⟨a2, c2, e2, i2, j2, k2⟩ := HROW2.out.ints
            cases e2
            refine ⟨by have := HRDr2.out; rw [h2] at this; exact this, ⟨by have := HO2.out.1; omega, fun j hj hjB => (HKQ2.out.2 j (by omega) hjB (by omega)).trans (HO2.out.2 j hj hjB)⟩, HB2.out.trans HBEL2.out, by have := HEB2.out; rw [← h1] at this; exact this, (HKQ2.out.2 _ (by omega) (by omega) (by omega)).trans HR2.out, hlt, ?_, ⟨by show xs1.length ≤ 1048576; omega, by show xs2.length ≤ 1048576; omega, by simp, fun i x hx => by simp at hx⟩, by show 1 ≤ xs1.length; omega, by show xs1.length ≤ 5; omega, by show xs2.length ≤ 2; omega, by simp [cntSs]⟩
            exact ⟨⟨i1, j1, k1.wide (fun _ _ => rfl) fun j hj => ⟨by have := hj.1; omega, hj.2⟩⟩, ⟨i2, j2, k2.wide (fun _ _ => rfl) fun j hj => ⟨by have := hj.1; omega, hj.2⟩⟩, Nat.le_refl _, by unfold maxLen; simp, fun i x hx => by simp at hx⟩
          obtain ⟨M, hM, hM'⟩ : ∃ M, m + 1 + n1 + 1 + n2 = M ∧ M ≤ m + 9 := ⟨_, rfl, by omega⟩
          rw [hM] at hst
          obtain ⟨p, hp⟩ : ∃ p, (⟨xs1, xs2, []⟩ : Pg) = p := ⟨_, rfl⟩
          obtain ⟨k, hk⟩ : ∃ k, (⟨va1, vc1, va2, vc2, none, 0⟩ : PC) = k := ⟨_, rfl⟩
          rw [hp, hk] at hst
          have HST := Lib.hid hst
          have HSL := Lib.hid ((hst.alloc (.cells #[.int .i64 2, .int .i64 3, .int .i64 1, .int .i64 4] 3)).drew)
          have hlv := hst.lv
          have hlv' := hst.lv'
          have hla := hst.la
          have hbV := hst.rd.lt
          have hbxa : BoxP Vb (w.heap.size + 1) p k := ⟨_, hst.bx⟩; have a0 := hbxa.c0; have a1 := hbxa.c1; have a2 := hbxa.c2
          have hbxb : BoxP (Vb.alloc (.cells #[.int .i64 2, .int .i64 3, .int .i64 1, .int .i64 4] 3)) (w.heap.size + 1) p k := ⟨_, (hst.alloc (.cells #[.int .i64 2, .int .i64 3, .int .i64 1, .int .i64 4] 3)).bx⟩; have b0 := hbxb.c0; have b1 := hbxb.c1; have b2 := hbxb.c2
          have HLT : Hid (∀ j, j < 4 → ((Vb.alloc (.cells #[.int .i64 2, .int .i64 3, .int .i64 1, .int .i64 4] 3)).drew).cell? ⟨Vb.heap.size, 0 + j, none⟩ = some (.int .i64 (([2, 3, 1, 4] : List Int).getD j 0))) := lit_cells Vb [2, 3, 1, 4] _
          clear hp hk hM hst hrow1 HROW2 HRDr2 HKQ2 HBEL2 HEB2 HROWv HR2 HO2 HB2 hbxa hbxb q2 hel hzr
          go_wp2_with fail
          go_region_law (first
            | (go_simp; go_at_call 80; refine (numU B M Vb.heap.size 0 4 4 [2, 3, 1, 4] ((Vb.alloc (.cells #[.int .i64 2, .int .i64 3, .int .i64 1, .int .i64 4] 3)).drew) HSL.out.rd (by omega) (by omega) rfl (by omega) (by omega) HLT.out).mono ?_; rintro f v1 ⟨nv, hnv, rfl, hr7, ho7, hb7⟩; have hD7 := HSL.out.call hr7 ho7 hb7; have hbxd : BoxP v1 (w.heap.size + 1) p k := ⟨_, hD7.bx⟩; have d0 := hbxd.c0; have d1 := hbxd.c1; have d2 := hbxd.c2; obtain ⟨N3, rfl, hN3⟩ : ∃ N : Nat, nv = (N : Int) ∧ N ≤ 4 := (by (simp at hnv); exact ⟨nv.toNat, by omega, by omega⟩))
            | (go_simp; go_at_call 98; (with_reducible refine (drBlock3 p k hlv (by omega) (by omega) B (M + 1) N3 v1 hr7 (by omega) (by omega)).mono ?_); rintro f v2 ⟨ss, sa, sc, rfl, hsl, hrow, hsm, hr8, ho8, hb8⟩; have hD8 := hD7.call hr8 ho8 hb8; have hD9 := hD7.body hN3 hsl hrow hsm hr8 ho8 hb8; have hbx9 : BoxP v2 (w.heap.size + 1) p k := ⟨_, hD8.bx⟩; have y9 := hbx9.c2; have x9 := frozen_at hD8.bx 2)
            | fail)
          all_goals
            subst hsl
            have hq : ss.length * 1460730 ≤ 4 * 1460730 := Nat.mul_le_mul_right _ hN3
            have hd9 : PSt w B (M + 1 + ss.length * 1460730) { p with body := ss } { k with ba := sa, bc := sc } (v2.setCell ⟨w.heap.size + 1, 2, none⟩ (.slice sa ss.length sc)) := hD9
            have hd9' := hd9.call (hd9.rd.mono (show M + 1 + ss.length * 1460730 ≤ m + 5900000 by omega)) (Oth.refl _ _) (Below.refl _ _)
            obtain ⟨U, hUU⟩ : ∃ U, v2.setCell ⟨w.heap.size + 1, 2, none⟩ (.slice sa ss.length sc) = U := ⟨_, rfl⟩
            rw [hUU] at hd9' ⊢
            obtain ⟨P, hP⟩ : ∃ P, { p with body := ss } = P := ⟨_, rfl⟩
            obtain ⟨K, hK⟩ : ∃ K, { k with ba := sa, bc := sc } = K := ⟨_, rfl⟩
            rw [hP, hK] at hd9'
            have HD := Lib.hid hd9'
            have hbe : BoxP U (w.heap.size + 1) P K := ⟨_, hd9'.bx⟩
            have e0 := hbe.c0
            have e1 := hbe.c1
            have e2 := hbe.c2
            clear hP hK hUU hd9 hd9' hD9 hD8 hD7 hbxd d0 d1 d2 y9 x9 hbx9 hrow hsm hr7 ho7 hb7 hr8 ho8 hb8 hnv HST HSL HLT a0 a1 a2 b0 b1 b2 hbe
            go_wp2_with fail
            with_reducible refine (sProgramValid_one P K 10 _ U HD.out.is (fun k hk => hk.2)).mono ?_
            rintro f V ⟨rfl, hb⟩
            have HV := Lib.hid (HD.out.calm hb)
            have hbg : BoxP V (w.heap.size + 1) P K := ⟨_, HV.out.bx⟩
            have g0 := hbg.c0
            have g1 := hbg.c1
            have g2 := hbg.c2
            clear HD e0 e1 e2 hb hbg
            cases hpv : progV P
            · have HZ := Lib.hid (HV.out.zero (m' := m + 6000000) (by omega))
              have hb2 : ((V.alloc (.cells #[.int .i64 0, .int .i64 1] 3)).alloc (.cells #[.int .i64 1, .int .i64 1, .int .i64 0, .int .i64 0, .slice none 0 0, .int .i64 2, .int .i64 0, .slice none 0 0, .int .i64 0, .slice none 0 0, .slice none 0 0] 107)).heap[w.heap.size]? = some (.cells #[.slice none 0 0, .slice none 0 0, .slice none 0 0] 55 (0, 0)) := ((HV.out.alloc lit1).alloc lit2).br
              obtain ⟨r0, hr0⟩ := cell_ex hb2 0 (by simp)
              obtain ⟨r1, hr1⟩ := cell_ex hb2 1 (by simp)
              obtain ⟨r2, hr2⟩ := cell_ex hb2 2 (by simp)
              have f0 := frozen_at hb2 0
              have f1 := frozen_at hb2 1
              have f2 := frozen_at hb2 2
              clear hb2 HV g0 g1 g2 hpv
              go_wp2_with fail
              exact bodyPost_ret (v := aggP p0 (k0 V.heap.size)) (by simp [results, Try.f79, go_sem, hr0, hr1, hr2]) rfl HZ.out
            · have HF := Lib.hid (HV.out.fin (m' := m + 6000000) (by omega) hpv)
              have hb2 := HV.out.br
              obtain ⟨r0, hr0⟩ := cell_ex hb2 0 (by simp)
              obtain ⟨r1, hr1⟩ := cell_ex hb2 1 (by simp)
              obtain ⟨r2, hr2⟩ := cell_ex hb2 2 (by simp)
              have f0 := frozen_at hb2 0
              have f1 := frozen_at hb2 1
              have f2 := frozen_at hb2 2
              clear hb2 HV hpv
              go_wp2_with fail
              exact bodyPost_ret (v := aggP P K) (by simp [results, Try.f79, go_sem, hr0, hr1, hr2]) rfl HF.out

        · have hip : (0 : Int) < (i : Int) := by omega
          have HRd : Hid (RdU ((wr.alloc (.cells #[.int .i64 0, .int .i64 1, .int .i64 0, .int .i64 1, .int .i64 3] 3)).drew) B (m + 1 + n1 + 1 + n2)) := by have := (HRDr2.out.alloc (.cells #[.int .i64 0, .int .i64 1, .int .i64 0, .int .i64 1, .int .i64 3] 3)).drew; rw [HNN2.out] at this; exact this
          have HLt : Hid (∀ j, j < 5 → ((wr.alloc (.cells #[.int .i64 0, .int .i64 1, .int .i64 0, .int .i64 1, .int .i64 3] 3)).drew).cell? ⟨wr.heap.size, 0 + j, none⟩ = some (.int .i64 (([0, 1, 0, 1, 3] : List Int).getD j 0))) := lit_cells wr [0, 1, 0, 1, 3] _
          have hBw := HRDr2.out.lt
          obtain ⟨i0, hinf, hz0, hz1', hz2⟩ := info_parts HI.out
          have q2l : (wr.alloc (.cells #[.int .i64 0, .int .i64 1, .int .i64 0, .int .i64 1, .int .i64 3] 3)).cell? ⟨w.heap.size + 1, 1, none⟩ = some (.slice va2 n2 vc2) := (World.cell?_of_block (w := wr) (a := ⟨w.heap.size + 1, 1, none⟩) (Below.heap_alloc _ _ _ (show w.heap.size + 1 < wr.heap.size by omega))).trans q2
          go_wp2_with fail
          go_region_law (first
            | (go_simp; go_at_call 80; refine (numU B (m + 1 + n1 + 1 + n2) wr.heap.size 0 5 5 [0, 1, 0, 1, 3] ((wr.alloc (.cells #[.int .i64 0, .int .i64 1, .int .i64 0, .int .i64 1, .int .i64 3] 3)).drew) HRd.out (by omega) (by omega) rfl (by omega) (by omega) HLt.out).mono ?_; rintro f u ⟨x, hx, rfl, hr5, ho5, hb5⟩; have hO5 : Oth B wr u := ((Oth.refl B wr).alloc (.cells #[.int .i64 0, .int .i64 1, .int .i64 0, .int .i64 1, .int .i64 3] 3)).drew.trans ho5; have hs5 := hO5.1; have hEBu := (hO5.2 (w.heap.size + 1) (by omega) (by omega)).trans HEB2.out; have q2u : u.cell? ⟨w.heap.size + 1, 1, none⟩ = some (.slice va2 n2 vc2) := (by rw [cell_at hEBu, HNN2.out]; rfl)
               have hEBa : (u.alloc (.cells #[.int .i64 x] 3)).heap[w.heap.size + 1]? = some (.cells #[.slice va1 n1 vc1, .slice va2 xs2.length vc2, .slice none 0 0] 55 (0, 0)) := (Below.heap_alloc _ _ _ (by omega)).trans hEBu
               have q2a : (u.alloc (.cells #[.int .i64 x] 3)).cell? ⟨w.heap.size + 1, 1, none⟩ = some (.slice va2 n2 vc2) := (by rw [cell_at hEBa, HNN2.out]; rfl)
               have hL2 : (u.alloc (.cells #[.int .i64 x] 3)).ownsRow u2.heap.size 3 1 (.slice va2 n2 vc2) n2 (xs2.map (Value.int .i64)) := (by have := HROW2.out.stand (w' := u.alloc (.cells #[.int .i64 x] 3)) (fun j hj hj' => (Below.heap_alloc _ _ _ (by omega)).trans (hO5.2 j hj' (by omega))); unfold OwnI at this; rw [HNN2.out] at this; exact this))
            | (refine step_append_lies _ (by rfl) _ _ _ (by rfl) u2.heap.size 3 i0 _ 1 8 Try.underlying23 hinf hz0 hz1' hz2 rfl (by omega) (.slice va2 n2 vc2) n2 _ (by rfl) hL2 ⟨u.heap.size, 0, none⟩ 1 1 [.int .i64 x] (by rfl) (by rfl) (World.news_of_block (cs := #[.int .i64 x]) (t := 3) (fr := (0, 0)) (heap_alloc_new u _)) (by simp [Value.oneCell']) (by omega) (by unfold maxLen; omega) (by omega) (by simp; omega) (u.heap.size + 1) (by simp) ?_; intro g cap w5 hown5 hgrow hat hlt5
               have hXr : some (w.heap.size + 1) ≠ (Value.slice va2 n2 vc2).ownBlock := fun e => (by have := (hL2.lt _ e.symm).1; omega)
               have hEB5 := (hgrow.block (w.heap.size + 1) (by simp; omega) hXr).trans hEBa
               have q25 : w5.cell? ⟨w.heap.size + 1, 1, none⟩ = some (.slice va2 n2 vc2) := (by rw [cell_at hEB5, HNN2.out]; rfl)
               have f25 := frozen_at hEB5 1))
          all_goals
            have hlen : (xs2 ++ [x]).length = n2 + 1 := by rw [← HNN2.out]; simp
            have HREL : Hid ((put w5 (w.heap.size + 1) 1 [.slice (some ⟨g, 0, none⟩) (n2 + 1) cap]).heap[w.heap.size + 1]? = some (.cells #[.slice va1 n1 vc1, .slice (some ⟨g, 0, none⟩) (xs2 ++ [x]).length cap, .slice none 0 0] 55 (0, 0)) ∧ OwnI (put w5 (w.heap.size + 1) 1 [.slice (some ⟨g, 0, none⟩) (n2 + 1) cap]) u2.heap.size (.slice (some ⟨g, 0, none⟩) (xs2 ++ [x]).length cap) (xs2 ++ [x]) ∧
                RdU (put w5 (w.heap.size + 1) 1 [.slice (some ⟨g, 0, none⟩) (n2 + 1) cap]) B (m + 1 + n1 + 1 + (xs2 ++ [x]).length) ∧ Kq B (w.heap.size + 1) u2.heap.size u2 (put w5 (w.heap.size + 1) 1 [.slice (some ⟨g, 0, none⟩) (n2 + 1) cap]) ∧ Below B u2 (put w5 (w.heap.size + 1) 1 [.slice (some ⟨g, 0, none⟩) (n2 + 1) cap])) := by
              have hba : Below u.heap.size u (u.alloc (.cells #[.int .i64 x] 3)) := (Below.refl _ _).alloc (Nat.le_refl _) _
              have hb5' : Below u2.heap.size (u.alloc (.cells #[.int .i64 x] 3)) w5 := (Below.refl _ _).grown hgrow (by simp; omega) (fun k e => (hL2.lt k e).1)
              have hb6 : Below (w.heap.size + 1) u (put w5 (w.heap.size + 1) 1 [.slice (some ⟨g, 0, none⟩) (n2 + 1) cap]) := put_below _ _ _ (w.heap.size + 1) (w.heap.size + 1) 1 ((hba.mono (by omega)).trans (hb5'.mono (by omega))) (Nat.le_refl _)
              refine ⟨?_, ?_, ?_, ?_, ?_⟩
              · rw [put_row _ _ _ _ _ _ hEB5, hlen]; rfl
              · have ho : OwnI w5 u2.heap.size (.slice (some ⟨g, 0, none⟩) (xs2 ++ [x]).length cap) (xs2 ++ [x]) := by
                  unfold OwnI
                  rw [hlen, List.map_append]
                  exact hown5
                exact ho.stand fun j hj _ => put_other _ _ _ _ _ (by omega)
              · rw [hlen]
                exact (hr5.below hb6 (by omega)).mono (by omega)
              · refine ⟨Nat.le_trans (Nat.le_trans HKQ2.out.1 hO5.1) hb6.size, fun j hj hjB hjX => ?_⟩
                rw [put_other _ _ _ _ _ hjX]
                exact (hb5'.block j hj).trans ((hba.block j (by omega)).trans ((hO5.2 j (by omega) hjB).trans (HKQ2.out.2 j hj hjB hjX)))
              · exact HBEL2.out.trans ((((Below.refl B wr).alloc (by omega) (.cells #[.int .i64 0, .int .i64 1, .int .i64 0, .int .i64 1, .int .i64 3] 3)).drew.trans hb5).trans (hb6.mono (by omega)))
            clear hx hr5 ho5 hb5 hO5 hEBu q2u hEBa q2a hL2 hown5 hgrow hat hlt5 hXr hEB5 q25 f25 HROW2 HRDr2 HKQ2 HBEL2 HEB2 HRd HLt q2 q2l
            go_wp2_with fail
            go_roundw
            case rel => exact ⟨i - 1, xs2 ++ [x], some ⟨g, 0, none⟩, cap, by omega, by go_num, by simp; have := HNN2.out; omega, HREL.out⟩
            case measure => simp [intOf]; omega

    · have hip : (0 : Int) < (i : Int) := by omega
      have HRd : Hid (RdU ((wr.alloc (.cells #[.int .i64 0, .int .i64 1, .int .i64 0, .int .i64 1, .int .i64 2, .int .i64 3] 3)).drew) B (m + 1 + n1)) := by have := (HRDr1.out.alloc (.cells #[.int .i64 0, .int .i64 1, .int .i64 0, .int .i64 1, .int .i64 2, .int .i64 3] 3)).drew; rw [HNN1.out] at this; exact this
      have HLt : Hid (∀ j, j < 6 → ((wr.alloc (.cells #[.int .i64 0, .int .i64 1, .int .i64 0, .int .i64 1, .int .i64 2, .int .i64 3] 3)).drew).cell? ⟨wr.heap.size, 0 + j, none⟩ = some (.int .i64 (([0, 1, 0, 1, 2, 3] : List Int).getD j 0))) := lit_cells wr [0, 1, 0, 1, 2, 3] _
      have hBw := HRDr1.out.lt
      obtain ⟨i0, hinf, hz0, hz1', hz2⟩ := info_parts HI.out
      have q2l : (wr.alloc (.cells #[.int .i64 0, .int .i64 1, .int .i64 0, .int .i64 1, .int .i64 2, .int .i64 3] 3)).cell? ⟨w.heap.size + 1, 0, none⟩ = some (.slice va1 n1 vc1) := (World.cell?_of_block (w := wr) (a := ⟨w.heap.size + 1, 0, none⟩) (Below.heap_alloc _ _ _ (show w.heap.size + 1 < wr.heap.size by omega))).trans q2
      go_wp2_with fail
      go_region_law (first
        | (go_simp; go_at_call 80; refine (numU B (m + 1 + n1) wr.heap.size 0 6 6 [0, 1, 0, 1, 2, 3] ((wr.alloc (.cells #[.int .i64 0, .int .i64 1, .int .i64 0, .int .i64 1, .int .i64 2, .int .i64 3] 3)).drew) HRd.out (by omega) (by omega) rfl (by omega) (by omega) HLt.out).mono ?_; rintro f u ⟨x, hx, rfl, hr5, ho5, hb5⟩; have hO5 : Oth B wr u := ((Oth.refl B wr).alloc (.cells #[.int .i64 0, .int .i64 1, .int .i64 0, .int .i64 1, .int .i64 2, .int .i64 3] 3)).drew.trans ho5; have hs5 := hO5.1; have hEBu := (hO5.2 (w.heap.size + 1) (by omega) (by omega)).trans HEB1.out; have q2u : u.cell? ⟨w.heap.size + 1, 0, none⟩ = some (.slice va1 n1 vc1) := (by rw [cell_at hEBu, HNN1.out]; rfl)
           have hEBa : (u.alloc (.cells #[.int .i64 x] 3)).heap[w.heap.size + 1]? = some (.cells #[.slice va1 xs1.length vc1, .slice none 0 0, .slice none 0 0] 55 (0, 0)) := (Below.heap_alloc _ _ _ (by omega)).trans hEBu
           have q2a : (u.alloc (.cells #[.int .i64 x] 3)).cell? ⟨w.heap.size + 1, 0, none⟩ = some (.slice va1 n1 vc1) := (by rw [cell_at hEBa, HNN1.out]; rfl)
           have hL2 : (u.alloc (.cells #[.int .i64 x] 3)).ownsRow u1.heap.size 3 1 (.slice va1 n1 vc1) n1 (xs1.map (Value.int .i64)) := (by have := HROW1.out.stand (w' := u.alloc (.cells #[.int .i64 x] 3)) (fun j hj hj' => (Below.heap_alloc _ _ _ (by omega)).trans (hO5.2 j hj' (by omega))); unfold OwnI at this; rw [HNN1.out] at this; exact this))
        | (refine step_append_lies _ (by rfl) _ _ _ (by rfl) u1.heap.size 3 i0 _ 1 8 Try.underlying23 hinf hz0 hz1' hz2 rfl (by omega) (.slice va1 n1 vc1) n1 _ (by rfl) hL2 ⟨u.heap.size, 0, none⟩ 1 1 [.int .i64 x] (by rfl) (by rfl) (World.news_of_block (cs := #[.int .i64 x]) (t := 3) (fr := (0, 0)) (heap_alloc_new u _)) (by simp [Value.oneCell']) (by omega) (by unfold maxLen; omega) (by omega) (by simp; omega) (u.heap.size + 1) (by simp) ?_; intro g cap w5 hown5 hgrow hat hlt5
           have hXr : some (w.heap.size + 1) ≠ (Value.slice va1 n1 vc1).ownBlock := fun e => (by have := (hL2.lt _ e.symm).1; omega)
           have hEB5 := (hgrow.block (w.heap.size + 1) (by simp; omega) hXr).trans hEBa
           have q25 : w5.cell? ⟨w.heap.size + 1, 0, none⟩ = some (.slice va1 n1 vc1) := (by rw [cell_at hEB5, HNN1.out]; rfl)
           have f25 := frozen_at hEB5 0))
      all_goals
        have hlen : (xs1 ++ [x]).length = n1 + 1 := by rw [← HNN1.out]; simp
        have HREL : Hid ((put w5 (w.heap.size + 1) 0 [.slice (some ⟨g, 0, none⟩) (n1 + 1) cap]).heap[w.heap.size + 1]? = some (.cells #[.slice (some ⟨g, 0, none⟩) (xs1 ++ [x]).length cap, .slice none 0 0, .slice none 0 0] 55 (0, 0)) ∧ OwnI (put w5 (w.heap.size + 1) 0 [.slice (some ⟨g, 0, none⟩) (n1 + 1) cap]) u1.heap.size (.slice (some ⟨g, 0, none⟩) (xs1 ++ [x]).length cap) (xs1 ++ [x]) ∧
            RdU (put w5 (w.heap.size + 1) 0 [.slice (some ⟨g, 0, none⟩) (n1 + 1) cap]) B (m + 1 + (xs1 ++ [x]).length) ∧ Kq B (w.heap.size + 1) u1.heap.size u1 (put w5 (w.heap.size + 1) 0 [.slice (some ⟨g, 0, none⟩) (n1 + 1) cap]) ∧ Below B u1 (put w5 (w.heap.size + 1) 0 [.slice (some ⟨g, 0, none⟩) (n1 + 1) cap])) := by
          have hba : Below u.heap.size u (u.alloc (.cells #[.int .i64 x] 3)) := (Below.refl _ _).alloc (Nat.le_refl _) _
          have hb5' : Below u1.heap.size (u.alloc (.cells #[.int .i64 x] 3)) w5 := (Below.refl _ _).grown hgrow (by simp; omega) (fun k e => (hL2.lt k e).1)
          have hb6 : Below (w.heap.size + 1) u (put w5 (w.heap.size + 1) 0 [.slice (some ⟨g, 0, none⟩) (n1 + 1) cap]) := put_below _ _ _ (w.heap.size + 1) (w.heap.size + 1) 0 ((hba.mono (by omega)).trans (hb5'.mono (by omega))) (Nat.le_refl _)
          refine ⟨?_, ?_, ?_, ?_, ?_⟩
          · rw [put_row _ _ _ _ _ _ hEB5, hlen]; rfl
          · have ho : OwnI w5 u1.heap.size (.slice (some ⟨g, 0, none⟩) (xs1 ++ [x]).length cap) (xs1 ++ [x]) := by
              unfold OwnI
              rw [hlen, List.map_append]
              exact hown5
            exact ho.stand fun j hj _ => put_other _ _ _ _ _ (by omega)
          · rw [hlen]
            exact (hr5.below hb6 (by omega)).mono (by omega)
          · refine ⟨Nat.le_trans (Nat.le_trans HKQ1.out.1 hO5.1) hb6.size, fun j hj hjB hjX => ?_⟩
            rw [put_other _ _ _ _ _ hjX]
            exact (hb5'.block j hj).trans ((hba.block j (by omega)).trans ((hO5.2 j (by omega) hjB).trans (HKQ1.out.2 j hj hjB hjX)))
          · exact HBEL1.out.trans ((((Below.refl B wr).alloc (by omega) (.cells #[.int .i64 0, .int .i64 1, .int .i64 0, .int .i64 1, .int .i64 2, .int .i64 3] 3)).drew.trans hb5).trans (hb6.mono (by omega)))
        clear hx hr5 ho5 hb5 hO5 hEBu q2u hEBa q2a hL2 hown5 hgrow hat hlt5 hXr hEB5 q25 f25 HROW1 HRDr1 HKQ1 HBEL1 HEB1 HRd HLt q2 q2l
        go_wp2_with fail
        go_roundw
        case rel => exact ⟨i - 1, xs1 ++ [x], some ⟨g, 0, none⟩, cap, by omega, by go_num, by simp; have := HNN1.out; omega, HREL.out⟩
        case measure => simp [intOf]; omega

theorem drProgram (B m : Nat) (w : World) (h : RdU w B m) (hm : m < 1099000000000) : Calls Try.prog 79 #[.pointer (some ⟨B, 0, none⟩)] w (DrPg w B (m + 6000000)) := (drProgramC B m w h hm).mono fun _ _ h => h.to

end Go.Proofs.Ytgfagdjadmpklaa

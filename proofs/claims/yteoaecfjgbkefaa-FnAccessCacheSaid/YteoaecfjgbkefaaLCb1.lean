/- The law FnAccessCache, walked: at every list of bytes the call returns true; nothing that was there has changed. -/
import Derived.Test.YteoaecfjgbkefaaLCb4
import Derived.Test.YteoaecfjgbkefaaCaL
import Derived.Deep.RegionWith
import Derived.Test.YteoaecfjgbkefaaCaDD
import Derived.Test.YteoaecfjgbkefaaCt
namespace Go.Proofs.Yteoaecfjgbkefaa
open Go.RowKit
set_option linter.unusedVariables false

theorem AcR.q {xs L : List Int} {v : Int} {q : Bool} {w w' : World} {e : Ending} (hp : accP xs v = (L, q)) (h : AcR xs v w e w') : ∃ a n c, e = .returned (.tuple #[aggCa a n c, .bool q]) ∧ L.length = n ∧ OwnI w' w.heap.size (.slice a n c) L ∧ Below w.heap.size w w' := by
  unfold AcR at h
  rw [hp] at h
  exact h
theorem hit_iff (c : Ca) (m : Nat) : c.hit m = true ↔ ∀ i, i < 2 → (c.acc m).get i = c.get i := by
  have h1 : lnA m < 2 := by unfold lnA; omega
  unfold Ca.hit
  constructor
  · intro h i hi
    have h' := eq_of_beq h
    rw [c.acc_get m i hi]
    split
    · rename_i e
      rw [← e, h']
    · rfl
  · intro h
    have h2 := h (lnA m) h1
    rw [c.acc_get m _ h1, if_pos rfl] at h2
    rw [← h2]
    exact beq_self_eq_true _
theorem hit_acc (c : Ca) (m : Nat) : (c.acc m).hit m = true := by
  have h1 : lnA m < 2 := by unfold lnA; omega
  unfold Ca.hit
  rw [c.acc_get m _ h1, if_pos rfl]
  exact beq_self_eq_true _

set_option maxRecDepth 100000 in
set_option maxHeartbeats 8000000 in
theorem law_FnAccessCache (a : Option Addr) (len cap : Nat) (zs : List Int) (w : World) (h : IsRow .u8 w a len cap zs) :
    Calls Try.prog 3 #[.slice a len cap] w (YN true w) := by
  have HROW := Lib.hid h
  have hll := h.len
  unfold maxLen at hll
  clear h
  by_cases hlen : 1048576 < len
  · go_enter Try.func3, Try.ntmps3
    go_wp2_with fail
    go_ret
    exact YN.of rfl (Below.refl _ _)
  have HEQ : Hid (∀ ys : List Int, eqL ys ys = true) := fun ys => decide_eq_true rfl
  go_enter Try.func3, Try.ntmps3
  go_wp2_with fail
  refine (drAccess_one a len cap zs w HROW.out).mono ?_
  rintro f w1 ⟨xs, a1, n1, c1, v, rfl, hn1, ho1, hb1⟩
  obtain ⟨u1, hu1⟩ : ∃ u1, w1.alloc (.cells #[.slice a1 n1 c1] 25) = u1 := ⟨_, rfl⟩
  have k1 : Below w1.heap.size w1 u1 := by rw [← hu1]; exact (Below.refl _ _).alloc (Nat.le_refl _) _
  have HX1 : Hid (BoxCa u1 w1.heap.size a1 n1 c1) := by rw [← hu1]; exact BoxCa.new _ _ _ _ _
  have HS : Hid (∀ u, Below u1.heap.size u1 u → SliceI u a1 n1 xs ∧ BoxCa u w1.heap.size a1 n1 c1) := fun u hu => ⟨(ho1.sl.1.below k1).below hu, HX1.out.below hu⟩
  have HB1 : Hid (Below w.heap.size w u1) := hb1.trans (k1.mono hb1.size)
  obtain ⟨L, q, hcr⟩ : ∃ L q, accP xs v = (L, q) := ⟨_, _, rfl⟩
  have HCR := Lib.hid hcr
  have HU1 := Lib.hid hu1
  clear hu1 k1 hb1 ho1 hcr hn1
  go_wp2_with fail
  rw [HU1.out]
  refine (iAC_one xs v a1 n1 c1 u1 (HS.out u1 (Below.refl _ _)).1).mono ?_
  rintro f u2 hR
  obtain ⟨a2, n2, c2, rfl, hn2, ho2, hb2⟩ := hR.q HCR.out
  have HN2 := Lib.hid hn2
  obtain ⟨v2, hv2⟩ : ∃ v2, u2.alloc (.cells #[.slice a2 n2 c2] 25) = v2 := ⟨_, rfl⟩
  have k2 : Below u2.heap.size u2 v2 := by rw [← hv2]; exact (Below.refl _ _).alloc (Nat.le_refl _) _
  have HX2 : Hid (BoxCa v2 u2.heap.size a2 n2 c2) := by rw [← hv2]; exact BoxCa.new _ _ _ _ _
  have HP2 := Lib.hid (ho2.sl.1.below k2)
  have HB2 : Hid (Below u1.heap.size u1 v2) := hb2.trans (k2.mono hb2.size)
  have x0 : (u2.alloc (.cells #[.slice a2 n2 c2] 25)).cell? ⟨w1.heap.size, 0, none⟩ = some (.slice a1 n1 c1) := by rw [hv2]; exact (HS.out v2 HB2.out).2.c0
  have HV2 := Lib.hid hv2
  clear hv2 k2 ho2 hb2 hn2 hR
  go_wp2_with fail
  rw [HV2.out]
  refine (sAC_one xs v a1 n1 c1 v2 (HS.out v2 HB2.out).1).mono ?_
  rintro f u3 hR
  obtain ⟨a3, n3, c3, rfl, hn3, ho3, hb3⟩ := hR.q HCR.out
  obtain rfl : n2 = n3 := by rw [← hn3]; exact HN2.out.symm
  obtain ⟨v3, hv3⟩ : ∃ v3, u3.alloc (.cells #[.slice a3 n2 c3] 25) = v3 := ⟨_, rfl⟩
  have k3 : Below u3.heap.size u3 v3 := by rw [← hv3]; exact (Below.refl _ _).alloc (Nat.le_refl _) _
  have k23 : Below v2.heap.size v2 v3 := hb3.trans (k3.mono hb3.size)
  have HX3 : Hid (BoxCa v3 u3.heap.size a3 n2 c3) := by rw [← hv3]; exact BoxCa.new _ _ _ _ _
  have HQ3 := Lib.hid (HX2.out.below k23)
  have HT3 : Hid (∀ u, Below v3.heap.size v3 u → SliceI u a2 n2 L ∧ SliceI u a3 n2 L ∧ BoxCa u u2.heap.size a2 n2 c2 ∧ BoxCa u u3.heap.size a3 n2 c3) := fun u hu => ⟨(HP2.out.below k23).below hu, (ho3.sl.1.below k3).below hu, HQ3.out.below hu, HX3.out.below hu⟩
  have HB3 : Hid (Below u1.heap.size u1 v3) := HB2.out.trans (k23.mono HB2.out.size)
  have x1 : (u3.alloc (.cells #[.slice a3 n2 c3] 25)).cell? ⟨u2.heap.size, 0, none⟩ = some (.slice a2 n2 c2) := by rw [hv3]; exact HQ3.out.c0
  have HV3 := Lib.hid hv3
  have hqq : (q != q) = false := by simp
  clear hv3 k3 ho3 hb3 hn3 k23 x0 hR
  go_wp2_with fail
  rw [HV3.out]
  obtain ⟨s1, s2, s3, s4⟩ := HT3.out v3 (Below.refl _ _)
  refine (ctInts_one a2 a3 n2 c2 n2 c3 _ _ v3 s1 s2).mono ?_
  clear s1 s2 s3 s4
  rintro f v4 hA
  obtain ⟨rfl, hb4⟩ := hA.bel
  rw [HEQ.out]
  have HB4 := Lib.hid hb4
  have y0 := (HT3.out v4 hb4).2.2.1.c0
  clear hA hb4 x1 hqq
  go_wp2_with fail
  refine (iCv_one a2 n2 c2 L v4 (HT3.out v4 HB4.out).1).mono ?_
  rintro f v5 ⟨rfl, hb5⟩
  have HB5 : Hid (Below v3.heap.size v3 v5) := HB4.out.trans (hb5.mono HB4.out.size)
  have HB15 : Hid (Below u1.heap.size u1 v5) := HB3.out.trans (HB5.out.mono HB3.out.size)
  clear hb5 y0
  by_cases hbad : okL xs = false ∨ adr v = false
  · have hcr := HCR.out
    rw [accP_no hbad] at hcr
    cases hcr
    rw [show okL [] = false from rfl]
    obtain ⟨o, ho⟩ : ∃ o, okL xs = o := ⟨_, rfl⟩
    have HO := Lib.hid ho
    have hoo : (o == o) = true := beq_self_eq_true o
    have HBD : Hid (Below v5.heap.size v5 v5.drew) := (Below.refl _ _).drew
    have HF : Hid (∀ u, Below v5.heap.size v5 u → SliceI u a1 n1 xs ∧ SliceI u a2 n2 [] ∧ SliceI u a3 n2 [] ∧ u.cell? ⟨w1.heap.size, 0, none⟩ = some (.slice a1 n1 c1) ∧ u.cell? ⟨u2.heap.size, 0, none⟩ = some (.slice a2 n2 c2) ∧ u.cell? ⟨u3.heap.size, 0, none⟩ = some (.slice a3 n2 c3)) := fun u hu => by
      obtain ⟨s1, s2⟩ := HS.out u (HB15.out.trans (hu.mono HB15.out.size))
      obtain ⟨t1, t2, t3, t4⟩ := HT3.out u (HB5.out.trans (hu.mono HB5.out.size))
      exact ⟨s1, t1, t2, s2.c0, t3.c0, t4.c0⟩
    obtain ⟨_, _, _, f0, f1, f2⟩ := HF.out v5 (Below.refl _ _)
    obtain ⟨_, _, _, g0, g1, g2⟩ := HF.out v5.drew HBD.out
    clear hbad ho
    go_wp2_with fail
    go_region_with (first
      | (go_at_call 20; refine (ctInts_one a2 a3 n2 c2 n2 c3 _ _ v5.drew (HF.out _ HBD.out).2.1 (HF.out _ HBD.out).2.2.1).mono ?_; rintro f u9 hA; obtain ⟨rfl, hb9⟩ := hA.bel; rw [HEQ.out]; have hB9 := HBD.out.trans hb9; obtain ⟨_, _, _, h0, h1, h2⟩ := HF.out u9 hB9; clear hA hb9)
      | (go_at_call 21; refine (iCv_one a1 n1 c1 xs u10 (HF.out u10 hB10).1).mono ?_; rintro f u11 ⟨rfl, hb11⟩; rw [HO.out]; have hB11 := hB10.trans (hb11.mono hB10.size))
      | (go_at_call 22; refine (sCv_one a1 n1 c1 xs u10 (HF.out u10 hB10).1).mono ?_; rintro f u11 ⟨rfl, hb11⟩; rw [HO.out]; have hB11 := hB10.trans (hb11.mono hB10.size))
      | (go_at_call 21; refine (iCv_one a1 n1 c1 xs u9 (HF.out u9 hB9).1).mono ?_; rintro f u10 ⟨rfl, hb10⟩; rw [HO.out]; have hB10 := hB9.trans (hb10.mono hB9.size); obtain ⟨_, _, _, i0, i1, i2⟩ := HF.out u10 hB10)
      | (go_at_call 22; refine (sCv_one a1 n1 c1 xs u9 (HF.out u9 hB9).1).mono ?_; rintro f u10 ⟨rfl, hb10⟩; rw [HO.out]; have hB10 := hB9.trans (hb10.mono hB9.size); obtain ⟨_, _, _, i0, i1, i2⟩ := HF.out u10 hB10)
      | fail)
    all_goals
      have HFIN : Hid (Below w.heap.size w u11) := HB1.out.trans ((HB15.out.trans (hB11.mono HB15.out.size)).mono HB1.out.size)
      go_wp2_with fail
      go_ret
      exact YN.of rfl HFIN.out
  · have h1 : okL xs = true := by simpa using fun h => hbad (.inl h)
    have h2 : adr v = true := by simpa using fun h => hbad (.inr h)
    obtain ⟨c, rfl, hok⟩ := okL_two h1
    obtain ⟨m, rfl, hm⟩ := adr_nat h2
    have hcr := HCR.out
    rw [accP_yes hok hm] at hcr
    obtain rfl : (c.acc m).l = L := (Prod.mk.inj hcr).1
    obtain hq : c.hit m = q := (Prod.mk.inj hcr).2
    have HQ := Lib.hid hq
    rw [show okL (c.acc m).l = true from Ca.acc_ok hok hm]
    have HACC : Hid (accP (c.acc m).l (m : Int) = (((c.acc m).acc m).l, true)) := Lib.hid (by rw [accP_yes (Ca.acc_ok hok hm) hm, hit_acc])
    obtain rfl : 2 = n1 := (HS.out u1 (Below.refl _ _)).1.2.1
    obtain rfl : 2 = n2 := HN2.out
    have y0 := (HT3.out v5 HB5.out).2.2.1.c0
    clear hbad h1 h2 hok hcr hq hm
    go_wp2_with fail
    refine (iAC_one (c.acc m).l (m : Int) a2 2 c2 v5 (HT3.out v5 HB5.out).1).mono ?_
    rintro f u6 hR
    obtain ⟨a6, n6, c6, rfl, hn6, ho6, hb6⟩ := hR.q HACC.out
    obtain ⟨v6, hv6⟩ : ∃ v6, u6.alloc (.cells #[.slice a6 n6 c6] 25) = v6 := ⟨_, rfl⟩
    have k6 : Below u6.heap.size u6 v6 := by rw [← hv6]; exact (Below.refl _ _).alloc (Nat.le_refl _) _
    have HB6 : Hid (Below v3.heap.size v3 v6) := HB5.out.trans ((hb6.trans (k6.mono hb6.size)).mono HB5.out.size)
    have HV6 := Lib.hid hv6
    clear hR hn6 ho6 hb6 hv6 k6 y0
    go_wp2_with fail
    rw [HV6.out]
    go_loopw [11, 12] (fun s i wr => ∃ k ch : Nat, k ≤ 2 ∧ ch ≤ k ∧ i = .int .i64 (k : Int) ∧ s = .int .i64 (ch : Int) ∧ (ch = 0 ↔ ∀ j, j < k → (c.acc m).get j = c.get j) ∧ Below v3.heap.size v3 wr) (fun _ i _ => 2 - (intOf i).toNat)
    case atStart => exact ⟨0, 0, by omega, by omega, rfl, rfl, ⟨fun _ j hj => absurd hj (by omega), fun _ => rfl⟩, HB6.out⟩
    case round =>
      obtain ⟨k, ch, hk, hck, rfl, rfl, hch, hbel⟩ := hrel
      have HCH := Lib.hid hch
      have HBEL := Lib.hid hbel
      have HBW : Hid (Below u1.heap.size u1 wr) := HB3.out.trans (hbel.mono HB3.out.size)
      clear hch hbel
      have x1 := (HT3.out wr HBEL.out).2.2.1.c0
      by_cases hlt : k < 2
      · obtain ⟨s1, s3⟩ := HS.out wr HBW.out
        obtain ⟨t1, t2, t3, t4⟩ := HT3.out wr HBEL.out
        obtain ⟨b', o', rfl, h0⟩ := s1.2.2 k hlt
        obtain ⟨b'', o'', rfl, h1⟩ := t1.2.2 k hlt
        rw [c.getl k hlt] at h0
        rw [(c.acc m).getl k hlt] at h1
        have x0 := s3.c0
        obtain ⟨g, hg⟩ : ∃ g, c.get k = g := ⟨_, rfl⟩
        obtain ⟨p, hp⟩ : ∃ p, (c.acc m).get k = p := ⟨_, rfl⟩
        rw [hg] at h0
        rw [hp] at h1
        have HNX : Hid (∀ j, j < k + 1 → j < k ∨ j = k) := fun j hj => by omega
        have hBND : (k : Int) < 2 := by omega
        by_cases hgp : p = g
        · subst hgp
          have hne : (p != p) = false := by simp
          have HREL : Hid (ch = 0 ↔ ∀ j, j < k + 1 → (c.acc m).get j = c.get j) := by
            refine ⟨fun h j hj => ?_, fun h => HCH.out.2 fun j hj => h j (by omega)⟩
            rcases HNX.out j hj with h' | rfl
            · exact HCH.out.1 h j h'
            · rw [hg, hp]
          clear s1 s3 t1 t2 t3 t4 hg hp
          go_wp2_with fail
          go_quiet (fail)
          rename_i nq
          have HBN : Hid (Below v3.heap.size v3 (wr.drewN nq)) := below_drewN' HBEL.out nq
          go_wp2_with fail
          go_roundw
          case rel => exact ⟨k + 1, ch, by omega, by omega, by go_num, rfl, HREL.out, HBN.out⟩
          case measure => simp [intOf]; omega
        · have hne : (p != g) = true := bne_iff_ne.2 hgp
          have HREL : Hid (ch + 1 = 0 ↔ ∀ j, j < k + 1 → (c.acc m).get j = c.get j) := by
            refine ⟨fun h => by omega, fun h => absurd ?_ hgp⟩
            rw [← hg, ← hp]
            exact h k (by omega)
          clear s1 s3 t1 t2 t3 t4 hg hp hgp
          go_wp2_with fail
          go_quiet (fail)
          rename_i nq
          have HBN : Hid (Below v3.heap.size v3 (wr.drewN nq)) := below_drewN' HBEL.out nq
          go_wp2_with fail
          go_roundw
          case rel => exact ⟨k + 1, ch + 1, by omega, by omega, by go_num, by go_num, HREL.out, HBN.out⟩
          case measure => simp [intOf]; omega
      · obtain rfl : k = 2 := by omega
        have HFIN : Hid (Below w.heap.size w wr) := HB1.out.trans (HBW.out.mono HB1.out.size)
        have hit := hit_iff c m
        rw [HQ.out] at hit
        cases q with
        | true =>
          obtain rfl : ch = 0 := HCH.out.2 (hit.1 rfl)
          clear hit
          go_wp2_with fail
          go_ret
          exact YN.of rfl HFIN.out
        | false =>
          have hc0 : ch ≠ 0 := fun h => by have := hit.2 (HCH.out.1 h); cases this
          have hc1 : ((ch : Int) == 0) = false := by simpa using hc0
          clear hit
          go_wp2_with fail
          go_ret
          exact YN.of rfl HFIN.out

end Go.Proofs.Yteoaecfjgbkefaa

/- The law FnProbeEmpty, walked: at every list of bytes the call returns true; nothing that was there has changed. -/
import Derived.Test.YteoaecfjgbkefaaCaB
import Derived.Test.YteoaecfjgbkefaaCaJ
import Derived.Test.YteoaecfjgbkefaaCaDD
import Derived.Test.YteoaecfjgbkefaaCtB
import Derived.Test.YteoaecfjgbkefaaCt
import Derived.Deep.RegionWith
namespace Go.Proofs.Yteoaecfjgbkefaa
open Go.RowKit
set_option linter.unusedVariables false

theorem OwnB.ba6 {v : World} {base n cap : Nat} {a : Option Addr} {bs : List Bool} (h : OwnB v base (.slice a n cap) bs) : BAt v (fun j => j < v.heap.size) bs a := (h.bat.2.2.2).wide (fun _ _ => rfl) fun _ hk => hk.2
set_option maxRecDepth 100000 in
theorem caField (a : Option Addr) (n c : Nat) (w : World) : Sem.run Try.prog (Instr.field 25 (.agg #[.slice a n c]) 0) w = Result.ok (.slice a n c) w := by
  first | kernel_rfl | rfl | (simp [go_sem, Instr.field]; done)

set_option maxRecDepth 100000 in
set_option maxHeartbeats 8000000 in
theorem law_FnProbeEmpty (a : Option Addr) (len cap : Nat) (zs : List Int) (w : World) (h : IsRow .u8 w a len cap zs) :
    Calls Try.prog 8 #[.slice a len cap] w (YN true w) := by
  have HROW := Lib.hid h
  have hll := h.len
  unfold maxLen at hll
  clear h
  by_cases hlen : 1048576 < len
  · go_enter Try.func8, Try.ntmps8
    go_wp2_with fail
    go_ret
    exact YN.of rfl (Below.refl _ _)
  have HEQ : Hid (∀ ys : List Int, eqL ys ys = true) := fun ys => decide_eq_true rfl
  go_enter Try.func8, Try.ntmps8
  go_wp2_with fail
  refine (drProbe_one a len cap zs w HROW.out).mono ?_
  rintro f w1 ⟨xs, a1, n1, c1, rfl, hn1, ho1, hb1⟩
  obtain ⟨u1, hu1⟩ : ∃ u1, w1.alloc (.cells #[.slice a1 n1 c1] 25) = u1 := ⟨_, rfl⟩
  have k1 : Below w1.heap.size w1 u1 := by rw [← hu1]; exact (Below.refl _ _).alloc (Nat.le_refl _) _
  have HX1 : Hid (BoxCa u1 w1.heap.size a1 n1 c1) := by rw [← hu1]; exact BoxCa.new _ _ _ _ _
  have HS : Hid (∀ u, Below u1.heap.size u1 u → SliceI u a1 n1 xs ∧ BoxCa u w1.heap.size a1 n1 c1) := fun u hu => ⟨(ho1.sl.1.below k1).below hu, HX1.out.below hu⟩
  have HB1 : Hid (Below w.heap.size w u1) := hb1.trans (k1.mono hb1.size)
  have HU1 := Lib.hid hu1
  clear hu1 k1 hb1 ho1 hn1
  go_wp2_with fail
  rw [HU1.out]
  obtain ⟨s1, s2⟩ := HS.out u1 (Below.refl _ _)
  refine (iPb_one xs a1 n1 c1 u1 s1).mono ?_
  clear s1 s2
  rintro f u2 ⟨b1, m1, d1, rfl, hm1, hq1, hb2⟩
  have HB2 := Lib.hid hb2
  have HQ2 := Lib.hid hq1
  have HM1 := Lib.hid hm1
  have x0 := (HS.out u2 hb2).2.c0
  clear hb2 hq1 hm1
  go_wp2_with fail
  obtain ⟨s1, s2⟩ := HS.out u2 HB2.out
  refine (sPb_one xs a1 n1 c1 u2 s1).mono ?_
  clear s1 s2 x0
  rintro f u3 ⟨b2, m2, d2, rfl, hm2, hq2, hb3⟩
  obtain rfl : m1 = m2 := by rw [← hm2]; exact HM1.out.symm
  have HB3 : Hid (Below u1.heap.size u1 u3) := HB2.out.trans (hb3.mono HB2.out.size)
  have HQ3 := Lib.hid (HQ2.out.later hb3)
  have HP3 := Lib.hid hq2
  clear hb3 hq2 hm2
  go_wp2_with fail
  refine (ctBS_one (prbP xs) (prbP xs) b1 b2 m1 m1 d1 d2 u3 HQ3.out.ba6 HP3.out.ba6 HM1.out HM1.out).mono ?_
  rintro f u4 ⟨rfl, hb4⟩
  rw [show decide (prbP xs = prbP xs) = true from decide_eq_true rfl]
  have HB4 : Hid (Below u1.heap.size u1 u4) := HB3.out.trans (hb4.mono HB3.out.size)
  have HQ4 := Lib.hid (HQ3.out.later hb4)
  have x0 := (HS.out u4 HB4.out).2.c0
  clear hb4
  go_wp2_with fail
  obtain ⟨s1, s2⟩ := HS.out u4 HB4.out
  refine (iCv_one a1 n1 c1 xs u4 s1).mono ?_
  clear s1 s2 x0
  rintro f u5 ⟨rfl, hb5⟩
  have HB5 : Hid (Below u1.heap.size u1 u5) := HB4.out.trans (hb5.mono HB4.out.size)
  have HQ5 := Lib.hid (HQ4.out.later hb5)
  have x0 := (HS.out u5 HB5.out).2.c0
  have z5 := hb5.size
  clear hb5
  cases hok : okL xs with
  | false =>
    clear hok
    go_wp2_with fail
    obtain ⟨s1, s2⟩ := HS.out u5 HB5.out
    refine (sPb_one xs a1 n1 c1 u5 s1).mono ?_
    clear s1 s2 x0
    rintro f u6 ⟨b6, m6, d6, rfl, hm6, hq6, hb6⟩
    obtain rfl : m1 = m6 := by rw [← hm6]; exact HM1.out.symm
    have HB6 : Hid (Below u1.heap.size u1 u6) := HB5.out.trans (hb6.mono HB5.out.size)
    have HQ6 := Lib.hid (HQ5.out.later hb6)
    have HP6 := Lib.hid hq6
    clear hb6 hq6 hm6
    go_wp2_with fail
    refine (ctBS_one (prbP xs) (prbP xs) b1 b6 m1 m1 d1 d6 u6 HQ6.out.ba6 HP6.out.ba6 HM1.out HM1.out).mono ?_
    rintro f u7 ⟨rfl, hb7⟩
    rw [show decide (prbP xs = prbP xs) = true from decide_eq_true rfl]
    have HB7 : Hid (Below w.heap.size w u7) := HB1.out.trans ((HB6.out.trans (hb7.mono HB6.out.size)).mono HB1.out.size)
    clear hb7
    go_wp2_with fail
    go_ret
    exact YN.of rfl HB7.out
  | true =>
    obtain ⟨c, rfl, hca⟩ := okL_two hok
    have hn1 : n1 = 2 := (HS.out u5 HB5.out).1.2.1.symm
    subst hn1
    have hm2 : m1 = 2 := by have := HM1.out; rw [prbP_yes hca] at this; exact this.symm
    subst hm2
    have HQL : Hid (∀ u, Below u5.heap.size u5 u → ∀ k, k < 2 → ∃ b o, b1 = some ⟨b, o, none⟩ ∧ u.cell? ⟨b, o + k, none⟩ = some (.bool (c.l.getD k 0 != -2))) := fun u hu k hk => by
      have hq := (HQ5.out.later hu).ba6
      have hx : (prbP c.l)[k]? = some (c.l.getD k 0 != -2) := by
        rw [prbP_yes hca]
        have : k = 0 ∨ k = 1 := by omega
        rcases this with rfl | rfl <;> rfl
      obtain ⟨b, o, ha, _, hc⟩ := hq.2 k _ hx
      exact ⟨b, o, ha, hc⟩
    clear hok hca x0
    go_wp2_with fail
    go_loopw [5] (fun i wr => ∃ k : Nat, k ≤ 2 ∧ i = .int .i64 (k : Int) ∧ Below u5.heap.size u5 wr) (fun i _ => 2 - (intOf i).toNat)
    case atStart => exact ⟨0, by omega, rfl, Below.refl _ _⟩
    case round =>
      obtain ⟨k, hk, rfl, hbel⟩ := hrel
      have HBEL := Lib.hid hbel
      have HBR : Hid (Below u1.heap.size u1 wr) := HB5.out.trans (hbel.mono HB5.out.size)
      clear hbel
      by_cases hlt : k < 2
      · obtain ⟨b, o, rfl, _⟩ := HQL.out wr HBEL.out k hlt
        obtain ⟨b', o', rfl, _⟩ := (HS.out wr HBR.out).1.2.2 k hlt
        obtain ⟨x, hx⟩ : ∃ x, c.l.getD k 0 = x := ⟨_, rfl⟩
        have HF : Hid (∀ u, Below wr.heap.size wr u → u.cell? ⟨b, o + k, none⟩ = some (.bool (x != -2)) ∧ u.cell? ⟨w1.heap.size, 0, none⟩ = some (.slice (some ⟨b', o', none⟩) 2 c1) ∧ u.cell? ⟨b', o' + k, none⟩ = some (.int .i64 x)) := fun u hu => by
          obtain ⟨b2, o2, e, h1⟩ := HQL.out u (HBEL.out.trans (hu.mono HBEL.out.size)) k hlt
          cases e
          obtain ⟨s1, s2⟩ := HS.out u (HBR.out.trans (hu.mono HBR.out.size))
          obtain ⟨b3, o3, e, h3⟩ := s1.2.2 k hlt
          cases e
          rw [hx] at h1 h3
          exact ⟨h1, s2.c0, h3⟩
        have HBD : Hid (Below wr.heap.size wr wr.drew) := (Below.refl _ _).drew
        obtain ⟨f0, f1, f2⟩ := HF.out wr (Below.refl _ _)
        obtain ⟨g0, g1, g2⟩ := HF.out wr.drew HBD.out
        have HNE : Hid (((x != -2) != (x != -2)) = false) := by show (_ != _) = false; cases (x != -2) <;> rfl
        have hk2 : k = 0 ∨ k = 1 := by omega
        have HGD : Hid (([-2, -2] : List Int).getD k 0 = -2) := by rcases hk2 with rfl | rfl <;> rfl
        have hfld := caField
        clear hx hk2
        go_wp2_with fail
        go_region_with (go_at_call 30; refine (iPrime_one wr.drew).mono ?_; rintro f u9 ⟨a9, m9, c9, rfl, hm9, ho9, hA⟩; obtain rfl : 2 = m9 := hm9; have hA2 := HBD.out.trans hA; obtain ⟨b9, o9, e9, hc9⟩ := ho9.sl.1.2.2 k hlt; obtain rfl := e9; rw [HGD.out] at hc9; obtain ⟨h0, h1, h2⟩ := HF.out _ hA2; have HA2 := Lib.hid hA2; clear hA hA2 ho9)
        all_goals
          have HREL : Hid (Below u5.heap.size u5 u9) := HBEL.out.trans (HA2.out.mono HBEL.out.size)
          have hne := HNE.out
          clear hc9 h0 h1 h2 HA2
          go_wp2_with fail
          go_roundw
          case rel => exact ⟨k + 1, by omega, by go_num, HREL.out⟩
          case measure => simp [intOf]; omega
      · have hfld := caField
        go_wp2_with fail
        refine (iEmpty_one wr).mono ?_
        rintro f v1 ⟨p1, q1, r1, rfl, hq1, ho1, hb1⟩
        obtain rfl : 2 = q1 := hq1
        have HP1 := Lib.hid ho1.sl.1
        have HV1 : Hid (Below u1.heap.size u1 v1) := HBR.out.trans (hb1.mono HBR.out.size)
        clear ho1 hb1
        go_wp2_with fail
        refine (sEmpty_one v1).mono ?_
        rintro f v2 ⟨p2, q2, r2, rfl, hq2, ho2, hb2⟩
        obtain rfl : 2 = q2 := hq2
        have HP2 := Lib.hid ho2.sl.1
        have HP1' := Lib.hid (HP1.out.below hb2)
        have HV2 : Hid (Below u1.heap.size u1 v2) := HV1.out.trans (hb2.mono HV1.out.size)
        clear ho2 hb2
        go_wp2_with fail
        refine (ctInts_one p1 p2 2 r1 2 r2 _ _ v2 HP1'.out HP2.out).mono ?_
        rintro f v3 hA
        obtain ⟨rfl, hb3⟩ := hA.bel
        rw [HEQ.out]
        have HV3 : Hid (Below u1.heap.size u1 v3) := HV2.out.trans (hb3.mono HV2.out.size)
        clear hA hb3
        go_wp2_with fail
        refine (iPrime_one v3).mono ?_
        rintro f v4 ⟨p4, q4, r4, rfl, hq4, ho4, hb4⟩
        obtain rfl : 2 = q4 := hq4
        have HP4 := Lib.hid ho4.sl.1
        have HV4 : Hid (Below u1.heap.size u1 v4) := HV3.out.trans (hb4.mono HV3.out.size)
        clear ho4 hb4
        go_wp2_with fail
        refine (sPrime_one v4).mono ?_
        rintro f v5 ⟨p5, q5, r5, rfl, hq5, ho5, hb5⟩
        obtain rfl : 2 = q5 := hq5
        have HP5 := Lib.hid ho5.sl.1
        have HP4' := Lib.hid (HP4.out.below hb5)
        have HV5 : Hid (Below u1.heap.size u1 v5) := HV4.out.trans (hb5.mono HV4.out.size)
        clear ho5 hb5
        go_wp2_with fail
        refine (ctInts_one p4 p5 2 r4 2 r5 _ _ v5 HP4'.out HP5.out).mono ?_
        rintro f v6 hA
        obtain ⟨rfl, hb6⟩ := hA.bel
        rw [HEQ.out]
        have HV6 : Hid (Below w.heap.size w v6) := HB1.out.trans ((HV5.out.trans (hb6.mono HV5.out.size)).mono HB1.out.size)
        clear hA hb6
        go_wp2_with fail
        go_ret
        exact YN.of rfl HV6.out

end Go.Proofs.Yteoaecfjgbkefaa

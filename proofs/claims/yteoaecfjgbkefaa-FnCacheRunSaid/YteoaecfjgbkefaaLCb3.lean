/- The law FnTraceTime, walked: at every two lists of bytes the call returns true; nothing that was there has changed. -/
import Derived.Test.YteoaecfjgbkefaaLCb4
import Derived.Test.YteoaecfjgbkefaaCaQ
import Derived.Deep.RegionWith
import Derived.Deep.CutRange
namespace Go.Proofs.Yteoaecfjgbkefaa
open Go.RowKit
set_option linter.unusedVariables false

theorem run_cut {c d : Ca} {es : List Ev} {H : List Bool} (h : runC c es = some (d, H)) (k : Nat) : ∃ (d1 : Ca) (h1 h2 : List Bool), runC c (es.take k) = some (d1, h1) ∧ runC d1 (es.drop k) = some (d, h2) ∧ h1 ++ h2 = H := by
  have e : es.take k ++ es.drop k = es := List.take_append_drop k es
  cases g : runC c (es.take k) with
  | none =>
    have := runC_app_none (fs := es.drop k) g
    rw [e, h] at this
    cases this
  | some p =>
    obtain ⟨d1, h1⟩ := p
    have g2 := runC_app (fs := es.drop k) g
    rw [e, h] at g2
    cases g3 : runC d1 (es.drop k) with
    | none => rw [g3] at g2; cases g2
    | some r =>
      obtain ⟨d2, h2⟩ := r
      rw [g3] at g2
      cases g2
      exact ⟨d1, h1, h2, rfl, g3, rfl⟩
theorem ev_addC (b o k : Nat) : (⟨b, o, none⟩ : Addr).add k = ⟨b, o + k, none⟩ := by unfold Addr.add; split <;> simp_all
theorem EvL.dropC {u : World} {es : List Ev} {b o : Nat} {c : Nat} (h : EvL u es (some ⟨b, o, none⟩) c) (k : Nat) (hk : k ≤ es.length) : EvL u (es.drop k) (some ⟨b, o + k * 2, none⟩) (c - k) := by
  refine ⟨by rw [List.length_drop]; have := h.1; omega, by have := h.2.1; omega, fun i x hx => ?_⟩
  rw [List.getElem?_drop] at hx
  obtain ⟨b', o', e, h1, h2, h3⟩ := h.2.2 (k + i) x hx
  cases e
  refine ⟨b, o + k * 2, rfl, h1, ?_, ?_⟩
  · rw [show o + k * 2 + i * 2 = o + (k + i) * 2 by omega]; exact h2
  · rw [show o + k * 2 + i * 2 = o + (k + i) * 2 by omega]; exact h3
theorem EvL.dropC' {u : World} {es : List Ev} {a : Option Addr} {c : Nat} (h : EvL u es a c) (k : Nat) (hk : k ≤ es.length) : EvL u (es.drop k) (a.map fun x => x.add (k * 2)) (c - k) := by
  by_cases he : es.length = 0
  · have e : es.drop k = [] := List.eq_nil_of_length_eq_zero (by rw [List.length_drop]; omega)
    rw [e]
    exact ⟨Nat.zero_le _, by have := h.2.1; omega, fun i x hx => by simp at hx⟩
  · obtain ⟨b, o, rfl, _⟩ := h.2.2 0 es[0] (List.getElem?_eq_getElem (by omega))
    show EvL u (es.drop k) (some ((⟨b, o, none⟩ : Addr).add (k * 2))) (c - k)
    rw [ev_addC]
    exact h.dropC k hk

set_option maxRecDepth 100000 in
set_option maxHeartbeats 8000000 in
theorem law_FnTraceTime (a : Option Addr) (len cap : Nat) (zs : List Int) (a' : Option Addr) (len' cap' : Nat) (zs' : List Int) (w : World) (h : IsRow .u8 w a len cap zs) (h' : IsRow .u8 w a' len' cap' zs') :
    Calls Try.prog 5 #[.slice a len cap, .slice a' len' cap'] w (YN true w) := by
  have HROW := Lib.hid h
  have hll := h.len
  unfold maxLen at hll
  have hll' := h'.len
  unfold maxLen at hll'
  clear h h'
  by_cases hlen : 1048576 < len
  · go_enter Try.func5, Try.ntmps5
    go_wp2_with fail
    go_ret
    exact YN.of rfl (Below.refl _ _)
  by_cases hlen' : 1048576 < len'
  · go_enter Try.func5, Try.ntmps5
    go_wp2_with fail
    go_ret
    exact YN.of rfl (Below.refl _ _)
  have HEQ : Hid (∀ ys : List Int, eqL ys ys = true) := fun ys => decide_eq_true rfl
  go_enter Try.func5, Try.ntmps5
  go_wp2_with fail
  refine (drTime_one a len cap zs w HROW.out).mono ?_
  rintro f w1 ⟨xs, a1, n1, c1, ps, ea, en, ec, rfl, hn1, ho1, hel, hen, hr1, hb1⟩
  obtain ⟨u1, hu1⟩ : ∃ u1, w1.alloc (.cells #[.slice a1 n1 c1] 25) = u1 := ⟨_, rfl⟩
  have k1 : Below w1.heap.size w1 u1 := by rw [← hu1]; exact (Below.refl _ _).alloc (Nat.le_refl _) _
  have HX1 : Hid (BoxCa u1 w1.heap.size a1 n1 c1) := by rw [← hu1]; exact BoxCa.new _ _ _ _ _
  obtain ⟨es, hes⟩ : ∃ es, evs ps = es := ⟨_, rfl⟩
  have hesn : es.length = en := by rw [← hes, evs_len]; exact hel
  have hE1 : EvL w1 es ea ec := by
    have := hr1.evl2 (by rw [hes]; exact hesn)
    rw [hes] at this
    exact this
  have HS : Hid (∀ u, Below u1.heap.size u1 u → SliceI u a1 n1 xs ∧ EvL u es ea ec ∧ BoxCa u w1.heap.size a1 n1 c1) := fun u hu => ⟨(ho1.sl.1.below k1).below hu, (hE1.below k1).below hu, HX1.out.below hu⟩
  have HN := Lib.hid hesn
  have HB1 : Hid (Below w.heap.size w u1) := hb1.trans (k1.mono hb1.size)
  obtain ⟨T, hT⟩ : ∃ T, ttP xs es = T := ⟨_, rfl⟩
  have HT := Lib.hid hT
  obtain ⟨L, H, q, hcr⟩ : ∃ L H q, crP xs es = (L, H, q) := ⟨_, _, _, rfl⟩
  have hL2 := (crP_len hcr).1
  have HIA : Hid (∀ u, Below u1.heap.size u1 u → Calls Try.prog 24 #[aggCa a1 n1 c1, .slice ea en ec] u (CrQ L H q u)) := fun u hu => by
    obtain ⟨s1, s2, _⟩ := HS.out u hu
    have := iCR_one xs es a1 n1 c1 ea en ec u s1 s2 HN.out (by omega)
    rw [hcr] at this
    exact this
  have HCR := Lib.hid hcr
  have HTQ : Hid (T = if q then (stpN es : Int) + 10 * (misN H : Int) else -1) := Lib.hid (by rw [← hT]; exact ttP_eq hcr)
  have HU1 := Lib.hid hu1
  clear hu1 k1 hb1 ho1 hr1 hel hes hesn hE1 hcr hn1 hT
  go_wp2_with fail
  rw [HU1.out]
  obtain ⟨s1, s2, s3⟩ := HS.out u1 (Below.refl _ _)
  refine (iTT_one xs es a1 n1 c1 ea en ec u1 s1 s2 HN.out (by omega)).mono ?_
  clear s1 s2 s3
  rintro f u2 ⟨rfl, hb2⟩
  rw [HT.out]
  have HB2 := Lib.hid hb2
  have x0 := (HS.out u2 hb2).2.2.c0
  clear hb2
  go_wp2_with fail
  refine (HIA.out u2 HB2.out).mono ?_
  rintro f u3 ⟨a2, n2, c2, b2, m2, d2, rfl, hn2, _, ho2, _, hb3⟩
  have HN2 := Lib.hid hn2
  obtain ⟨v3, hv3⟩ : ∃ v3, u3.alloc (.cells #[.slice a2 n2 c2] 25) = v3 := ⟨_, rfl⟩
  have k3 : Below u3.heap.size u3 v3 := by rw [← hv3]; exact (Below.refl _ _).alloc (Nat.le_refl _) _
  have HX3 : Hid (BoxCa v3 u3.heap.size a2 n2 c2) := by rw [← hv3]; exact BoxCa.new _ _ _ _ _
  have HP3 := Lib.hid (ho2.sl.1.below k3)
  have HB3 : Hid (Below u1.heap.size u1 v3) := HB2.out.trans ((hb3.trans (k3.mono hb3.size)).mono HB2.out.size)
  have x1 : (u3.alloc (.cells #[.slice a2 n2 c2] 25)).cell? ⟨w1.heap.size, 0, none⟩ = some (.slice a1 n1 c1) := by rw [hv3]; exact (HS.out v3 HB3.out).2.2.c0
  have HV3 := Lib.hid hv3
  clear hv3 k3 ho2 hb3 hn2 x0
  go_wp2_with fail
  rw [HV3.out]
  obtain ⟨s1, s2, s3⟩ := HS.out v3 HB3.out
  refine (sTT_one xs es a1 n1 c1 ea en ec v3 s1 s2 HN.out (by omega)).mono ?_
  clear s1 s2 s3 x1
  rintro f u4 ⟨rfl, hb4⟩
  rw [HT.out]
  have HB34 := Lib.hid hb4
  have HB4 : Hid (Below u1.heap.size u1 u4) := HB3.out.trans (hb4.mono HB3.out.size)
  clear hb4
  have x0 := (HS.out u4 HB4.out).2.2.c0
  cases q with
  | false =>
    obtain rfl : T = -1 := HTQ.out
    go_wp2_with fail
    obtain ⟨s1, s2, s3⟩ := HS.out u4 HB4.out
    refine (sTT_one xs es a1 n1 c1 ea en ec u4 s1 s2 HN.out (by omega)).mono ?_
    clear s1 s2 s3 x0
    rintro f u5 ⟨rfl, hb5⟩
    rw [HT.out]
    have HB5 : Hid (Below w.heap.size w u5) := HB1.out.trans ((HB4.out.trans (hb5.mono HB4.out.size)).mono HB1.out.size)
    clear hb5
    go_wp2_with fail
    go_ret
    exact YN.of rfl HB5.out
  | true =>
    obtain ⟨c, d, rfl, hok, hrun, rfl⟩ := crP_true HCR.out
    obtain rfl : 2 = n1 := (HS.out u1 (Below.refl _ _)).1.2.1
    obtain rfl : 2 = n2 := HN2.out
    obtain ⟨k, hk⟩ : ∃ k, len' % (en + 1) = k := ⟨_, rfl⟩
    have hkn : k ≤ en := by rw [← hk]; exact Nat.lt_succ_iff.1 (Nat.mod_lt len' (Nat.succ_pos en))
    have hkm : ((len' : Int).tmod ((en : Int) + 1)) = (k : Int) := by
      rw [← hk]; exact (Int.ofNat_tmod len' (en + 1)).symm
    obtain ⟨d1, h1, h2, hr1, hr2, hh⟩ := run_cut hrun k
    have hdok := runC_ok hok hrun
    have h1ok := runC_ok hok hr1
    obtain ⟨A, hA⟩ : ∃ A, timC c (es.take k) = A := ⟨_, rfl⟩
    obtain ⟨B, hB⟩ : ∃ B, timC d1 (es.drop k) = B := ⟨_, rfl⟩
    have hTT : T = timC c es := by rw [← HT.out]; exact ttP_c hok
    have hAB : T = A + B := by
      have e : es.take k ++ es.drop k = es := List.take_append_drop k es
      have := timC_app (fs := es.drop k) hr1 (by rw [e, hrun]; exact fun h => by cases h)
      rw [e] at this
      rw [hTT, this, hA, hB]
    have hlt : (es.take k).length = k := by rw [List.length_take, HN.out]; omega
    have hld : (es.drop k).length = en - k := by rw [List.length_drop, HN.out]
    have hA1 := timC_le c (es.take k)
    have hA2 := timC_range c (es.take k)
    have hB1' := timC_le d1 (es.drop k)
    have hB2' := timC_range d1 (es.drop k)
    rw [hA, hlt] at hA1
    rw [hA] at hA2
    rw [hB, hld] at hB1'
    rw [hB] at hB2'
    have HC1 := Lib.hid (crP_yes hok hr1)
    have HT1 : Hid (ttP c.l (es.take k) = A) := Lib.hid (by rw [ttP_c hok, hA])
    have HT2 : Hid (ttP d1.l (es.drop k) = B) := Lib.hid (by rw [ttP_c h1ok, hB])
    have HOKD : Hid (okL d.l = true) := Lib.hid hdok
    have HLT := Lib.hid hlt
    have HLD := Lib.hid hld
    have hle : T ≤ (en : Int) * 10 := by
      have := timC_le c es
      rw [← hTT, HN.out] at this
      omega
    have hTB : (T == A + B) = true := by rw [hAB]; exact beq_self_eq_true _
    have HV : Hid (∀ u, Below v3.heap.size v3 u → SliceI u a1 2 c.l ∧ EvL u es ea ec ∧ u.cell? ⟨w1.heap.size, 0, none⟩ = some (.slice a1 2 c1) ∧ SliceI u a2 2 d.l ∧ u.cell? ⟨u3.heap.size, 0, none⟩ = some (.slice a2 2 c2)) := fun u hu => by
      obtain ⟨s1, s2, s3⟩ := HS.out u (HB3.out.trans (hu.mono HB3.out.size))
      exact ⟨s1, s2, s3.c0, HP3.out.below hu, (HX3.out.below hu).c0⟩
    have hlc : en ≤ ec := by have := (HS.out u1 (Below.refl _ _)).2.1.1; rw [HN.out] at this; exact this
    have hlm : ec ≤ maxLen := (HS.out u1 (Below.refl _ _)).2.1.2.1
    have hzz : v3.heap.size ≤ u4.heap.size := HB34.out.size
    have HK : Hid (∀ u, Below v3.heap.size v3 u → Calls Try.prog 24 #[aggCa a1 2 c1, .slice ea k ec] u (CrQ d1.l h1 true u)) := fun u hu => by
      obtain ⟨s1, s2, _⟩ := HV.out u hu
      have := iCR_one c.l (es.take k) a1 2 c1 ea k ec u s1 (s2.take k) hlt (by omega)
      rw [HC1.out] at this
      exact this
    have HK1 : Hid (∀ u, Below v3.heap.size v3 u → Calls Try.prog 28 #[aggCa a1 2 c1, .slice ea k ec] u (IntR A u)) := fun u hu => by
      obtain ⟨s1, s2, _⟩ := HV.out u hu
      have := iTT_one c.l (es.take k) a1 2 c1 ea k ec u s1 (s2.take k) hlt (by omega)
      rw [HT1.out] at this
      exact this
    have HK2 : Hid (∀ u a9 c9 ea' m ec', m = en - k → SliceI u a9 2 d1.l → EvL u (es.drop k) ea' ec' → Calls Try.prog 28 #[aggCa a9 2 c9, .slice ea' m ec'] u (IntR B u)) := fun u a9 c9 ea' m ec' e s1 s2 => by
      subst e
      have := iTT_one d1.l (es.drop k) a9 2 c9 ea' (en - k) ec' u s1 s2 hld (by omega)
      rw [HT2.out] at this
      exact this
    have hA3 : A ≤ 80 := by omega
    have hB3 : B ≤ 80 := by omega
    have hnk : ((en : Int) - (k : Int)) = ((en - k : Nat) : Int) := by omega
    clear hrun hr1 hr2 hh hdok h1ok hok hA hB hTT hAB hlt hld hk HIA hA1 hB1'
    go_upto_region 9 with fail
    have hc1 : Below v3.heap.size v3 u4.drew := HB34.out.drew
    have hc2 : Below v3.heap.size v3 (u4.drew.alloc (.cells #[.slice none 0 0] 25)) := hc1.alloc hzz _
    go_cut [12, 13, 14] from 17 (fun s12 s13 s14 wx => ∃ (B9 : Nat) (a9 : Option Addr) (c9 : Nat) (b9 : Option Addr) (m9 d9 : Nat), s12 = .pointer (some ⟨B9, 0, none⟩) ∧ s13 = .slice b9 m9 d9 ∧ s14 = .bool true ∧ Hid (wx.cell? ⟨B9, 0, none⟩ = some (.slice a9 2 c9)) ∧ Hid (SliceI wx a9 2 d1.l) ∧ Hid (Below v3.heap.size v3 wx))
    case first =>
      have y0 : u4.drew.cell? ⟨w1.heap.size, 0, none⟩ = some (.slice a1 2 c1) := (HV.out _ hc1).2.2.1
      have y1 : (u4.drew.alloc (.cells #[.slice none 0 0] 25)).cell? ⟨w1.heap.size, 0, none⟩ = some (.slice a1 2 c1) := (HV.out _ hc2).2.2.1
      have y2 : (u4.alloc (.cells #[.slice none 0 0] 25)).cell? ⟨w1.heap.size, 0, none⟩ = some (.slice a1 2 c1) := y1
      have y3 : (u4.alloc (.cells #[.slice none 0 0] 25)).drew.cell? ⟨w1.heap.size, 0, none⟩ = some (.slice a1 2 c1) := y1
      go_region_with (first
        | (go_at_call 24; refine (HK.out u4.drew hc1).mono ?_; rintro f u9 ⟨a9, n9, c9, b9, m9, d9, rfl, hn9, _, ho9, _, hb9⟩
           obtain rfl : 2 = n9 := hn9
           have HREL : Hid ((u9.alloc (.cells #[.slice a9 2 c9] 25)).cell? ⟨u9.heap.size, 0, none⟩ = some (.slice a9 2 c9) ∧ SliceI (u9.alloc (.cells #[.slice a9 2 c9] 25)) a9 2 d1.l ∧ Below v3.heap.size v3 (u9.alloc (.cells #[.slice a9 2 c9] 25))) := by
             have hbb : Below v3.heap.size v3 u9 := hc1.trans (hb9.mono hzz)
             exact ⟨(BoxCa.new u9 a9 2 c9 25).c0, ho9.sl.1.below ((Below.refl _ _).alloc (Nat.le_refl _) _), hbb.alloc hbb.size _⟩
           clear ho9 hb9)
        | (go_at_call 24; refine (HK.out (u4.drew.alloc (.cells #[.slice none 0 0] 25)) hc2).mono ?_; rintro f u9 ⟨a9, n9, c9, b9, m9, d9, rfl, hn9, _, ho9, _, hb9⟩
           obtain rfl : 2 = n9 := hn9
           have hX9 : BoxCa u9 u4.heap.size none 0 0 := (BoxCa.new u4.drew none 0 0 25).below hb9
           have e0 := hX9.c0
           have e1 := hX9.f0
           have HREL : Hid ((u9.setCell ⟨u4.heap.size, 0, none⟩ (.slice a9 2 c9)).cell? ⟨u4.heap.size, 0, none⟩ = some (.slice a9 2 c9) ∧ SliceI (u9.setCell ⟨u4.heap.size, 0, none⟩ (.slice a9 2 c9)) a9 2 d1.l ∧ Below v3.heap.size v3 (u9.setCell ⟨u4.heap.size, 0, none⟩ (.slice a9 2 c9))) := by
             have hbb : Below v3.heap.size v3 u9 := hc2.trans (hb9.mono (by simp; omega))
             exact ⟨World.cell?_setCell_same' _ _ _ (by rw [e0]; rfl), (ho9.far fun g hg _ => Below.heap_setCell _ _ _ _ (by have := (ho9.lt g hg).1; simp at this ⊢; omega)).sl.1, hbb.setCell (p := ⟨u4.heap.size, 0, none⟩) hzz _⟩
           clear ho9 hb9 hX9)
        | fail)
      all_goals
        go_wp2_with fail
        go_meet
        case rel => exact ⟨_, a9, c9, b9, m9, d9, rfl, rfl, rfl, Lib.hid HREL.out.1, Lib.hid HREL.out.2.1, Lib.hid HREL.out.2.2⟩
    case rest =>
      obtain ⟨B9, a9, c9, b9, m9, d9, rfl, rfl, rfl, HQ1, HQ2, HQ3⟩ := hcut
      have hc3 : Below v3.heap.size v3 wc.drew := HQ3.out.drew
      have y0 : wc.cell? ⟨w1.heap.size, 0, none⟩ = some (.slice a1 2 c1) := (HV.out _ hc3).2.2.1
      have y1 : wc.drew.cell? ⟨w1.heap.size, 0, none⟩ = some (.slice a1 2 c1) := y0
      go_wp2_with fail
      go_region_with (first
        | (go_at_call 28; refine (HK1.out wc.drew hc3).mono ?_; rintro f u10 ⟨rfl, hb10⟩
           have HB10 : Hid (Below wc.heap.size wc u10) := (Below.refl wc.heap.size wc).drew.trans hb10
           clear hb10)
        | fail)
      all_goals
        have z0 : u10.cell? ⟨B9, 0, none⟩ = some (.slice a9 2 c9) := (HB10.out.cell (p := ⟨B9, 0, none⟩) (World.block_lt_of_cell? _ _ HQ1.out)).trans HQ1.out
        have z1 : u10.drew.cell? ⟨B9, 0, none⟩ = some (.slice a9 2 c9) := z0
        have HS10 : Hid (SliceI u10.drew a9 2 d1.l) := HQ2.out.below HB10.out.drew
        have HB10' : Hid (Below v3.heap.size v3 u10.drew) := (HQ3.out.trans (HB10.out.mono HQ3.out.size)).drew
        have HDG : Hid (EvL u10.drew (es.drop k) (ea.map fun x => x.add (k * 2)) (ec - k)) := (HV.out _ HB10'.out).2.1.dropC' k (by rw [HN.out]; exact hkn)
        have HDS : Hid (k = ec → EvL u10.drew (es.drop k) ea 0) := fun e => by
          have e2 : es.drop k = [] := List.eq_nil_of_length_eq_zero (by rw [HLD.out]; omega)
          rw [e2]
          exact ⟨Nat.zero_le _, by unfold maxLen; omega, fun i x hx => by simp at hx⟩
        by_cases hkc : k = ec
        · have HM0 : Hid (0 = en - k) := Lib.hid (by omega)
          go_wp2_with fail
          go_region_with (first
            | (go_at_call 28; refine (HK2.out u10.drew a9 c9 ea 0 0 HM0.out HS10.out (HDS.out hkc)).mono ?_; rintro f u11 ⟨rfl, hb11⟩
               have HB11 : Hid (Below v3.heap.size v3 u11) := HB10'.out.trans (hb11.mono HB10'.out.size)
               clear hb11)
            | fail)
          all_goals
            have x8 := (HV.out u11 HB11.out).2.2.2.2
            go_wp2_with fail
            refine (iCv_one a2 2 c2 d.l u11 (HV.out u11 HB11.out).2.2.2.1).mono ?_
            rintro f u12 ⟨rfl, hb12⟩
            rw [HOKD.out]
            have HB12 : Hid (Below w.heap.size w u12) := HB1.out.trans ((HB3.out.trans ((HB11.out.trans (hb12.mono HB11.out.size)).mono HB3.out.size)).mono HB1.out.size)
            clear hb12 x8
            go_wp2_with fail
            go_ret
            exact YN.of rfl HB12.out
        · have hkc2 : ¬ ec = k := fun e => hkc e.symm
          go_wp2_with fail
          go_region_with (first
            | (go_at_call 28; refine (HK2.out u10.drew a9 c9 _ (en - k) _ rfl HS10.out HDG.out).mono ?_; rintro f u11 ⟨rfl, hb11⟩
               have HB11 : Hid (Below v3.heap.size v3 u11) := HB10'.out.trans (hb11.mono HB10'.out.size)
               clear hb11)
            | fail)
          all_goals
            have x8 := (HV.out u11 HB11.out).2.2.2.2
            go_wp2_with fail
            refine (iCv_one a2 2 c2 d.l u11 (HV.out u11 HB11.out).2.2.2.1).mono ?_
            rintro f u12 ⟨rfl, hb12⟩
            rw [HOKD.out]
            have HB12 : Hid (Below w.heap.size w u12) := HB1.out.trans ((HB3.out.trans ((HB11.out.trans (hb12.mono HB11.out.size)).mono HB3.out.size)).mono HB1.out.size)
            clear hb12 x8
            go_wp2_with fail
            go_ret
            exact YN.of rfl HB12.out

end Go.Proofs.Yteoaecfjgbkefaa

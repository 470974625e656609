/- The law FnCacheRun, walked: at every two lists of bytes the call returns true; nothing that was there has changed. -/
import Derived.Test.YteoaecfjgbkefaaLCb3
import Derived.Test.YteoaecfjgbkefaaCtB
namespace Go.Proofs.Yteoaecfjgbkefaa
open Go.RowKit
set_option linter.unusedVariables false

theorem NewsAt.boolsC {w : World} {D : Nat → Prop} {A : Option Addr} {m : Nat} {xs : List Bool} (h : BAt w D xs A) (hm : xs.length = m) : NewsAt w A m (xs.map Value.bool) := by
  rcases A with _ | ad
  · by_cases h0 : m = 0
    · exact .inl ⟨rfl, h0⟩
    · obtain ⟨b, o, e, _⟩ := h.2 0 xs[0] (List.getElem?_eq_getElem (by omega))
      cases e
  · refine .inr ⟨ad, rfl, fun j u hu => ?_⟩
    rw [List.getElem?_map] at hu
    cases hx : xs[j]? with
    | none => rw [hx] at hu; cases hu
    | some x =>
      rw [hx] at hu
      cases hu
      obtain ⟨b, o, e, _, hc⟩ := h.2 j x hx
      cases e
      rw [add_none]
      exact hc
theorem OwnB.baC {v : World} {base n cap : Nat} {a : Option Addr} {bs : List Bool} (h : OwnB v base (.slice a n cap) bs) : BAt v (fun j => j < v.heap.size) bs a := (h.bat.2.2.2).wide (fun _ _ => rfl) fun _ hk => hk.2

/-- 'wpList_append_any' for an append behind a guard that holds. -/
theorem wpList_append_g (w : World) {ops : Array Oper} {rest : List Oper} {o : Oper} {a : Act} {Q : Exit → Act → World → Prop} (hw : Region.wanted o (yielded ops a.tmps) = true) (s x : Operand) (t : TypeId)
    (ho : o.op = .call { callee := .builtin .append, args := #[s, x], argTypes := #[t, t] })
    (base : Nat) (e : TypeId) (i : TypeInfo) (z : Value) (size bytes : Nat) (ht : Try.prog.underlying t = some (.slice e)) (hi : Try.prog.info? e = some i) (hz : i.zero = some z)
    (hsize : i.size = size) (hby : i.bytes = bytes) (hzs : z.cells.size = size) (hsz : 0 < size)
    (v : Value) (n : Nat) (xs : List Value) (hs : a.eval s = v) (hown : w.ownsRow base e size v n xs)
    (A : Option Addr) (m c : Nat) (news : List Value) (hx : a.eval x = .slice A m c) (hl : news.length = m * size) (hA : NewsAt w A m news) (h1 : ∀ u ∈ news, u.oneCell' = true)
    (h63 : n + m ≤ maxLen) (hbytes : (n + m) * bytes ≤ 140737488355328) (hbase : base ≤ w.heap.size)
    (h : ∀ v' w', ApA w base e size v (n + m) (xs ++ news) v' w' → wpList Try.prog ops Q rest (a.put o.dst v') w') : wpList Try.prog ops Q (o :: rest) a w :=
  wpList_step fun K hK => by
    rw [if_pos hw]
    obtain ⟨v', w', hrun, hc⟩ := run_append_any w t o.type base e i z size bytes ht hi hz hsize hby hzs hsz v n xs hown A m c news hl hA h1 h63 hbytes hbase
    unfold Oper.wp execOp
    simp only [ho, resolve, invoke, builtin, Sem.run_bind, Sem.run_pure, Result.andThen_ok, List.map_toArray, List.map_cons, List.map_nil, hs, hx, hrun]
    exact hK _ _ (h v' w' hc)

set_option maxRecDepth 100000 in
set_option maxHeartbeats 8000000 in
theorem law_FnCacheRun (a : Option Addr) (len cap : Nat) (zs : List Int) (a' : Option Addr) (len' cap' : Nat) (zs' : List Int) (w : World) (h : IsRow .u8 w a len cap zs) (h' : IsRow .u8 w a' len' cap' zs') :
    Calls Try.prog 4 #[.slice a len cap, .slice a' len' cap'] w (YN true w) := by
  have HROW := Lib.hid h
  have hll := h.len
  unfold maxLen at hll
  have hll' := h'.len
  unfold maxLen at hll'
  clear h h'
  by_cases hlen : 1048576 < len
  · go_enter Try.func4, Try.ntmps4
    go_wp2_with fail
    go_ret
    exact YN.of rfl (Below.refl _ _)
  by_cases hlen' : 1048576 < len'
  · go_enter Try.func4, Try.ntmps4
    go_wp2_with fail
    go_ret
    exact YN.of rfl (Below.refl _ _)
  have HEQ : Hid (∀ ys : List Int, eqL ys ys = true) := fun ys => decide_eq_true rfl
  go_enter Try.func4, Try.ntmps4
  go_wp2_with fail
  refine (drRun_one a len cap zs w HROW.out).mono ?_
  rintro f w1 ⟨xs, a1, n1, c1, ps, ea, en, ec, rfl, hn1, ho1, hel, hen, hr1, hb1⟩
  obtain ⟨u1, hu1⟩ : ∃ u1, w1.alloc (.cells #[.slice a1 n1 c1] 25) = u1 := ⟨_, rfl⟩
  have k1 : Below w1.heap.size w1 u1 := by rw [← hu1]; exact (Below.refl _ _).alloc (Nat.le_refl _) _
  have HX1 : Hid (BoxCa u1 w1.heap.size a1 n1 c1) := by rw [← hu1]; exact BoxCa.new _ _ _ _ _
  obtain ⟨es, hes⟩ : ∃ es, evs ps = es := ⟨_, rfl⟩
  have hesn : es.length = en := by rw [← hes, evs_len]; exact hel
  have hE1 : EvL w1 es ea ec := by
    have := hr1.evl2 (by rw [hes]; exact hesn)
    rw [hes] at this
    exact this
  have HS : Hid (∀ u, Below u1.heap.size u1 u → SliceI u a1 n1 xs ∧ EvL u es ea ec ∧ BoxCa u w1.heap.size a1 n1 c1) := fun u hu => ⟨(ho1.sl.1.below k1).below hu, (hE1.below k1).below hu, HX1.out.below hu⟩
  have HN := Lib.hid hesn
  have HB1 : Hid (Below w.heap.size w u1) := hb1.trans (k1.mono hb1.size)
  obtain ⟨L, H, q, hcr⟩ : ∃ L H q, crP xs es = (L, H, q) := ⟨_, _, _, rfl⟩
  have hL2 := (crP_len hcr).1
  have HIA : Hid (∀ u, Below u1.heap.size u1 u → Calls Try.prog 24 #[aggCa a1 n1 c1, .slice ea en ec] u (CrQ L H q u)) := fun u hu => by
    obtain ⟨s1, s2, _⟩ := HS.out u hu
    have := iCR_one xs es a1 n1 c1 ea en ec u s1 s2 HN.out (by omega)
    rw [hcr] at this
    exact this
  have HSA : Hid (∀ u, Below u1.heap.size u1 u → Calls Try.prog 25 #[aggCa a1 n1 c1, .slice ea en ec] u (CrQ L H q u)) := fun u hu => by
    obtain ⟨s1, s2, _⟩ := HS.out u hu
    have := sCR_one xs es a1 n1 c1 ea en ec u s1 s2 HN.out (by omega)
    rw [hcr] at this
    exact this
  have HCR := Lib.hid hcr
  have HU1 := Lib.hid hu1
  clear hu1 k1 hb1 ho1 hr1 hel hes hesn hE1 hcr hn1
  go_wp2_with fail
  rw [HU1.out]
  refine (HIA.out u1 (Below.refl _ _)).mono ?_
  rintro f u2 ⟨a2, n2, c2, b2, m2, d2, rfl, hn2, hm2, ho2, hq2, hb2⟩
  have HN2 := Lib.hid hn2
  have HM2 := Lib.hid hm2
  obtain ⟨v2, hv2⟩ : ∃ v2, u2.alloc (.cells #[.slice a2 n2 c2] 25) = v2 := ⟨_, rfl⟩
  have k2 : Below u2.heap.size u2 v2 := by rw [← hv2]; exact (Below.refl _ _).alloc (Nat.le_refl _) _
  have HX2 : Hid (BoxCa v2 u2.heap.size a2 n2 c2) := by rw [← hv2]; exact BoxCa.new _ _ _ _ _
  have HP2 := Lib.hid (ho2.sl.1.below k2)
  have HH2 := Lib.hid (hq2.baC.below k2)
  have HB2 : Hid (Below u1.heap.size u1 v2) := hb2.trans (k2.mono hb2.size)
  have x0 : (u2.alloc (.cells #[.slice a2 n2 c2] 25)).cell? ⟨w1.heap.size, 0, none⟩ = some (.slice a1 n1 c1) := by rw [hv2]; exact (HS.out v2 HB2.out).2.2.c0
  have HV2 := Lib.hid hv2
  clear hv2 k2 ho2 hq2 hb2 hn2 hm2
  go_wp2_with fail
  rw [HV2.out]
  refine (HSA.out v2 HB2.out).mono ?_
  rintro f u3 ⟨a3, n3, c3, b3, m3, d3, rfl, hn3, hm3, ho3, hq3, hb3⟩
  obtain rfl : n2 = n3 := by rw [← hn3]; exact HN2.out.symm
  obtain rfl : m2 = m3 := by rw [← hm3]; exact HM2.out.symm
  obtain ⟨v3, hv3⟩ : ∃ v3, u3.alloc (.cells #[.slice a3 n2 c3] 25) = v3 := ⟨_, rfl⟩
  have k3 : Below u3.heap.size u3 v3 := by rw [← hv3]; exact (Below.refl _ _).alloc (Nat.le_refl _) _
  have k23 : Below v2.heap.size v2 v3 := hb3.trans (k3.mono hb3.size)
  have HX3 : Hid (BoxCa v3 u3.heap.size a3 n2 c3) := by rw [← hv3]; exact BoxCa.new _ _ _ _ _
  have HQ3 := Lib.hid (HX2.out.below k23)
  have HT3 : Hid (∀ u, Below v3.heap.size v3 u → SliceI u a2 n2 L ∧ SliceI u a3 n2 L ∧ BoxCa u u2.heap.size a2 n2 c2 ∧ BoxCa u u3.heap.size a3 n2 c3) := fun u hu => ⟨(HP2.out.below k23).below hu, (ho3.sl.1.below k3).below hu, HQ3.out.below hu, HX3.out.below hu⟩
  have HH3 : Hid (∀ u, Below v3.heap.size v3 u → BAt u (fun j => j < u.heap.size) H b2 ∧ BAt u (fun j => j < u.heap.size) H b3) := fun u hu => ⟨(HH2.out.below k23).below hu, (hq3.baC.below k3).below hu⟩
  have HB3 : Hid (Below u1.heap.size u1 v3) := HB2.out.trans (k23.mono HB2.out.size)
  have x1 : (u3.alloc (.cells #[.slice a3 n2 c3] 25)).cell? ⟨u2.heap.size, 0, none⟩ = some (.slice a2 n2 c2) := by rw [hv3]; exact HQ3.out.c0
  have HV3 := Lib.hid hv3
  clear hv3 k3 ho3 hq3 hb3 hn3 hm3 k23 x0
  cases q with
  | false =>
    go_wp2_with fail
    rw [HV3.out]
    obtain ⟨s1, s2, s3, s4⟩ := HT3.out v3 (Below.refl _ _)
    refine (ctInts_one a2 a3 n2 c2 n2 c3 _ _ v3 s1 s2).mono ?_
    clear s1 s2 s3 s4
    rintro f v4 hA
    obtain ⟨rfl, hb4⟩ := hA.bel
    rw [HEQ.out]
    have HB4 := Lib.hid hb4
    clear hA hb4 x1
    go_wp2_with fail
    refine (ctBS_one H H b2 b3 m2 m2 d2 d3 v4 (HH3.out v4 HB4.out).1 (HH3.out v4 HB4.out).2 HM2.out HM2.out).mono ?_
    rintro f v5 ⟨rfl, hb5⟩
    rw [show decide (H = H) = true from decide_eq_true rfl]
    have HB5 : Hid (Below v3.heap.size v3 v5) := HB4.out.trans (hb5.mono HB4.out.size)
    obtain ⟨s1, s2, s3, s4⟩ := HT3.out v5 HB5.out
    have y0 := s3.c0
    have y1 := s4.c0
    clear hb5 s1 s2 s3 s4
    go_wp2_with fail
    obtain ⟨s1, s2, s3, s4⟩ := HT3.out v5 HB5.out
    refine (ctInts_one a2 a3 n2 c2 n2 c3 _ _ v5 s1 s2).mono ?_
    clear s1 s2 s3 s4 y0 y1
    rintro f v6 hA
    obtain ⟨rfl, hb6⟩ := hA.bel
    rw [HEQ.out]
    have HB6 : Hid (Below v3.heap.size v3 v6) := HB5.out.trans (hb6.mono HB5.out.size)
    clear hA hb6
    go_wp2_with fail
    refine (ctBS_one H H b2 b3 m2 m2 d2 d3 v6 (HH3.out v6 HB6.out).1 (HH3.out v6 HB6.out).2 HM2.out HM2.out).mono ?_
    rintro f v7 ⟨rfl, hb7⟩
    rw [show decide (H = H) = true from decide_eq_true rfl]
    have HB7 : Hid (Below w.heap.size w v7) := HB1.out.trans ((HB3.out.trans ((HB6.out.trans (hb7.mono HB6.out.size)).mono HB3.out.size)).mono HB1.out.size)
    clear hb7
    go_wp2_with fail
    go_ret
    exact YN.of rfl HB7.out
  | true =>
    obtain ⟨c, d, rfl, hok, hrun, rfl⟩ := crP_true HCR.out
    obtain rfl : 2 = n1 := (HS.out u1 (Below.refl _ _)).1.2.1
    obtain rfl : 2 = n2 := HN2.out
    obtain ⟨k, hk⟩ : ∃ k, len' % (en + 1) = k := ⟨_, rfl⟩
    have hkn : k ≤ en := by rw [← hk]; exact Nat.lt_succ_iff.1 (Nat.mod_lt len' (Nat.succ_pos en))
    have hkm : ((len' : Int).tmod ((en : Int) + 1)) = (k : Int) := by
      rw [← hk]; exact (Int.ofNat_tmod len' (en + 1)).symm
    obtain ⟨d1, h1, h2, hr1, hr2, hh⟩ := run_cut hrun k
    have h1ok := runC_ok hok hr1
    have hlt : (es.take k).length = k := by rw [List.length_take, HN.out]; omega
    have hld : (es.drop k).length = en - k := by rw [List.length_drop, HN.out]
    have hl1 : h1.length ≤ 8 := by have := runC_len hr1; omega
    have hl2 : h2.length ≤ 8 := by have := runC_len hr2; omega
    have HC1 := Lib.hid (crP_yes hok hr1)
    have HC2 := Lib.hid (crP_yes h1ok hr2)
    have HHH := Lib.hid hh
    have HLD := Lib.hid hld
    have HV : Hid (∀ u, Below v3.heap.size v3 u → SliceI u a1 2 c.l ∧ EvL u es ea ec ∧ u.cell? ⟨w1.heap.size, 0, none⟩ = some (.slice a1 2 c1) ∧ SliceI u a2 2 d.l ∧ u.cell? ⟨u2.heap.size, 0, none⟩ = some (.slice a2 2 c2)) := fun u hu => by
      obtain ⟨s1, s2, s3⟩ := HS.out u (HB3.out.trans (hu.mono HB3.out.size))
      exact ⟨s1, s2, s3.c0, (HT3.out u hu).1, (HT3.out u hu).2.2.1.c0⟩
    have hlc : en ≤ ec := by have := (HS.out u1 (Below.refl _ _)).2.1.1; rw [HN.out] at this; exact this
    have hlm : ec ≤ maxLen := (HS.out u1 (Below.refl _ _)).2.1.2.1
    have HK : Hid (∀ u, Below v3.heap.size v3 u → Calls Try.prog 24 #[aggCa a1 2 c1, .slice ea k ec] u (CrQ d1.l h1 true u)) := fun u hu => by
      obtain ⟨s1, s2, _⟩ := HV.out u hu
      have := iCR_one c.l (es.take k) a1 2 c1 ea k ec u s1 (s2.take k) hlt (by omega)
      rw [HC1.out] at this
      exact this
    have HK2 : Hid (∀ u a9 c9 ea' m ec', m = en - k → SliceI u a9 2 d1.l → EvL u (es.drop k) ea' ec' → Calls Try.prog 24 #[aggCa a9 2 c9, .slice ea' m ec'] u (CrQ d.l h2 true u)) := fun u a9 c9 ea' m ec' e s1 s2 => by
      subst e
      have := iCR_one d1.l (es.drop k) a9 2 c9 ea' (en - k) ec' u s1 s2 hld (by omega)
      rw [HC2.out] at this
      exact this
    have hnk : ((en : Int) - (k : Int)) = ((en - k : Nat) : Int) := by omega
    clear hrun hr1 hr2 hh h1ok hok hlt hld hk HIA HSA
    go_wp2_with fail
    rw [HV3.out]
    obtain ⟨s1, s2, s3, s4⟩ := HT3.out v3 (Below.refl _ _)
    refine (ctInts_one a2 a3 2 c2 2 c3 _ _ v3 s1 s2).mono ?_
    clear s1 s2 s3 s4
    rintro f v4 hA
    obtain ⟨rfl, hb4⟩ := hA.bel
    rw [HEQ.out]
    have HB4 := Lib.hid hb4
    clear hA hb4 x1
    go_wp2_with fail
    refine (ctBS_one H H b2 b3 m2 m2 d2 d3 v4 (HH3.out v4 HB4.out).1 (HH3.out v4 HB4.out).2 HM2.out HM2.out).mono ?_
    rintro f u4 ⟨rfl, hb5⟩
    rw [show decide (H = H) = true from decide_eq_true rfl]
    have HB34 : Hid (Below v3.heap.size v3 u4) := HB4.out.trans (hb5.mono HB4.out.size)
    have hzz : v3.heap.size ≤ u4.heap.size := HB34.out.size
    clear hb5
    go_upto_region 9 with fail
    have hc1 : Below v3.heap.size v3 u4.drew := HB34.out.drew
    have hc2 : Below v3.heap.size v3 (u4.drew.alloc (.cells #[.slice none 0 0] 25)) := hc1.alloc hzz _
    go_cut [14, 15, 16] from 20 (fun s14 s15 s16 wx => ∃ (B9 : Nat) (a9 : Option Addr) (c9 : Nat) (b9 : Option Addr) (m9 d9 : Nat), s14 = .pointer (some ⟨B9, 0, none⟩) ∧ s15 = .slice b9 m9 d9 ∧ s16 = .bool true ∧ h1.length = m9 ∧ Hid (wx.cell? ⟨B9, 0, none⟩ = some (.slice a9 2 c9)) ∧ Hid (SliceI wx a9 2 d1.l) ∧ Hid (BAt wx (fun j => j < wx.heap.size) h1 b9) ∧ Hid (Below v3.heap.size v3 wx))
    case first =>
      have y0 : u4.drew.cell? ⟨w1.heap.size, 0, none⟩ = some (.slice a1 2 c1) := (HV.out _ hc1).2.2.1
      have y1 : (u4.drew.alloc (.cells #[.slice none 0 0] 25)).cell? ⟨w1.heap.size, 0, none⟩ = some (.slice a1 2 c1) := (HV.out _ hc2).2.2.1
      have y2 : (u4.alloc (.cells #[.slice none 0 0] 25)).cell? ⟨w1.heap.size, 0, none⟩ = some (.slice a1 2 c1) := y1
      have y3 : (u4.alloc (.cells #[.slice none 0 0] 25)).drew.cell? ⟨w1.heap.size, 0, none⟩ = some (.slice a1 2 c1) := y1
      go_region_with (first
        | (go_at_call 24; refine (HK.out u4.drew hc1).mono ?_; rintro f u9 ⟨a9, n9, c9, b9, m9, d9, rfl, hn9, hm9, ho9, hq9, hb9⟩
           obtain rfl : 2 = n9 := hn9
           have HREL : Hid ((u9.alloc (.cells #[.slice a9 2 c9] 25)).cell? ⟨u9.heap.size, 0, none⟩ = some (.slice a9 2 c9) ∧ SliceI (u9.alloc (.cells #[.slice a9 2 c9] 25)) a9 2 d1.l ∧ BAt (u9.alloc (.cells #[.slice a9 2 c9] 25)) (fun j => j < (u9.alloc (.cells #[.slice a9 2 c9] 25)).heap.size) h1 b9 ∧ Below v3.heap.size v3 (u9.alloc (.cells #[.slice a9 2 c9] 25))) := by
             have hbb : Below v3.heap.size v3 u9 := hc1.trans (hb9.mono hzz)
             have hal := (Below.refl u9.heap.size u9).alloc (Nat.le_refl _) (.cells #[.slice a9 2 c9] 25)
             exact ⟨(BoxCa.new u9 a9 2 c9 25).c0, ho9.sl.1.below hal, hq9.baC.below hal, hbb.alloc hbb.size _⟩
           clear ho9 hq9 hb9)
        | (go_at_call 24; refine (HK.out (u4.drew.alloc (.cells #[.slice none 0 0] 25)) hc2).mono ?_; rintro f u9 ⟨a9, n9, c9, b9, m9, d9, rfl, hn9, hm9, ho9, hq9, hb9⟩
           obtain rfl : 2 = n9 := hn9
           have hX9 : BoxCa u9 u4.heap.size none 0 0 := (BoxCa.new u4.drew none 0 0 25).below hb9
           have e0 := hX9.c0
           have e1 := hX9.f0
           have HREL : Hid ((u9.setCell ⟨u4.heap.size, 0, none⟩ (.slice a9 2 c9)).cell? ⟨u4.heap.size, 0, none⟩ = some (.slice a9 2 c9) ∧ SliceI (u9.setCell ⟨u4.heap.size, 0, none⟩ (.slice a9 2 c9)) a9 2 d1.l ∧ BAt (u9.setCell ⟨u4.heap.size, 0, none⟩ (.slice a9 2 c9)) (fun j => j < (u9.setCell ⟨u4.heap.size, 0, none⟩ (.slice a9 2 c9)).heap.size) h1 b9 ∧ Below v3.heap.size v3 (u9.setCell ⟨u4.heap.size, 0, none⟩ (.slice a9 2 c9))) := by
             have hbb : Below v3.heap.size v3 u9 := hc2.trans (hb9.mono (by simp; omega))
             exact ⟨World.cell?_setCell_same' _ _ _ (by rw [e0]; rfl), (ho9.far fun g hg _ => Below.heap_setCell _ _ _ _ (by have := (ho9.lt g hg).1; simp at this ⊢; omega)).sl.1, (hq9.far fun g hg _ => Below.heap_setCell _ _ _ _ (by have := (hq9.lt g hg).1; simp at this ⊢; omega)).baC, hbb.setCell (p := ⟨u4.heap.size, 0, none⟩) hzz _⟩
           clear ho9 hq9 hb9 hX9)
        | fail)
      all_goals
        go_wp2_with fail
        go_meet
        case rel => exact ⟨_, a9, c9, b9, m9, d9, rfl, rfl, rfl, hm9, Lib.hid HREL.out.1, Lib.hid HREL.out.2.1, Lib.hid HREL.out.2.2.1, Lib.hid HREL.out.2.2.2⟩
    case rest =>
      obtain ⟨B9, a9, c9, b9, m9, d9, rfl, rfl, rfl, hm9, HQ1, HQ2, HQ4, HQ3⟩ := hcut
      have HM9 := Lib.hid hm9
      have hm98 : m9 ≤ 8 := by omega
      obtain ⟨u9, rfl⟩ : ∃ u9 : World, u9 = wc := ⟨_, rfl⟩
      have hz9 := HQ3.out.size
      clear hm9 hc1 hc2
      go_upto_region 10 with fail
      have hc3 : Below u9.heap.size u9 u9.drew := (Below.refl u9.heap.size u9).drew
      have hc4 : Below u9.heap.size u9 (u9.drew.alloc (.cells #[.slice none 0 0] 25)) := hc3.alloc (Nat.le_refl _) _
      have HF : Hid (∀ u, Below u9.heap.size u9 u → u.cell? ⟨B9, 0, none⟩ = some (.slice a9 2 c9) ∧ SliceI u a9 2 d1.l ∧ EvL u (es.drop k) (ea.map fun x => x.add (k * 2)) (ec - k) ∧ (k = ec → EvL u (es.drop k) ea 0)) := fun u hu => by
        refine ⟨(hu.cell (p := ⟨B9, 0, none⟩) (World.block_lt_of_cell? _ _ HQ1.out)).trans HQ1.out, HQ2.out.below hu, ((HV.out u (HQ3.out.trans (hu.mono hz9))).2.1).dropC' k (by rw [HN.out]; exact hkn), fun e => ?_⟩
        have e2 : es.drop k = [] := List.eq_nil_of_length_eq_zero (by rw [HLD.out]; omega)
        rw [e2]
        exact ⟨Nat.zero_le _, by unfold maxLen; omega, fun i x hx => by simp at hx⟩
      go_cut [17, 18, 19] from 20 (fun s17 s18 s19 wx => ∃ (B9 : Nat) (a9 : Option Addr) (c9 : Nat) (b9 : Option Addr) (m9 d9 : Nat), s17 = .pointer (some ⟨B9, 0, none⟩) ∧ s18 = .slice b9 m9 d9 ∧ s19 = .bool true ∧ h2.length = m9 ∧ Hid (wx.cell? ⟨B9, 0, none⟩ = some (.slice a9 2 c9)) ∧ Hid (SliceI wx a9 2 d.l) ∧ Hid (BAt wx (fun j => j < wx.heap.size) h2 b9) ∧ Hid (Below u9.heap.size u9 wx))
      case first =>
        have y0 : u9.drew.cell? ⟨B9, 0, none⟩ = some (.slice a9 2 c9) := (HF.out _ hc3).1
        have y1 : (u9.drew.alloc (.cells #[.slice none 0 0] 25)).cell? ⟨B9, 0, none⟩ = some (.slice a9 2 c9) := (HF.out _ hc4).1
        have y2 : (u9.alloc (.cells #[.slice none 0 0] 25)).cell? ⟨B9, 0, none⟩ = some (.slice a9 2 c9) := y1
        have y3 : (u9.alloc (.cells #[.slice none 0 0] 25)).drew.cell? ⟨B9, 0, none⟩ = some (.slice a9 2 c9) := y1
        have HSX : Hid (∀ (ea' : Option Addr) (m ec' : Nat) (u : World), m = en - k → (Below u9.heap.size u9 u → EvL u (es.drop k) ea' ec') → Below u9.heap.size u9 u → Calls Try.prog 24 #[aggCa a9 2 c9, .slice ea' m ec'] u (CrQ d.l h2 true u)) := fun ea' m ec' u e hE hu => HK2.out u a9 c9 ea' m ec' e (HF.out u hu).2.1 (hE hu)
        by_cases hkc : k = ec
        · subst hkc
          have HM0 : Hid (0 = en - k) := Lib.hid (by omega)
          have HA1 : Hid (Calls Try.prog 24 #[aggCa a9 2 c9, .slice ea 0 0] u9.drew (CrQ d.l h2 true u9.drew)) := HSX.out ea 0 0 _ HM0.out (fun hu => (HF.out _ hu).2.2.2 rfl) hc3
          have HA2 : Hid (Calls Try.prog 24 #[aggCa a9 2 c9, .slice ea 0 0] (u9.drew.alloc (.cells #[.slice none 0 0] 25)) (CrQ d.l h2 true (u9.drew.alloc (.cells #[.slice none 0 0] 25)))) := HSX.out ea 0 0 _ HM0.out (fun hu => (HF.out _ hu).2.2.2 rfl) hc4
          go_region_with (first
            | (go_at_call 24; refine (HA1.out).mono ?_; rintro f u10 ⟨a10, n10, c10, b10, m10, d10, rfl, hn10, hm10, ho10, hq10, hb10⟩
               obtain rfl : 2 = n10 := hn10
               have HREL : Hid ((u10.alloc (.cells #[.slice a10 2 c10] 25)).cell? ⟨u10.heap.size, 0, none⟩ = some (.slice a10 2 c10) ∧ SliceI (u10.alloc (.cells #[.slice a10 2 c10] 25)) a10 2 d.l ∧ BAt (u10.alloc (.cells #[.slice a10 2 c10] 25)) (fun j => j < (u10.alloc (.cells #[.slice a10 2 c10] 25)).heap.size) h2 b10 ∧ Below u9.heap.size u9 (u10.alloc (.cells #[.slice a10 2 c10] 25))) := by
                 have hbb : Below u9.heap.size u9 u10 := hc3.trans hb10
                 have hal := (Below.refl u10.heap.size u10).alloc (Nat.le_refl _) (.cells #[.slice a10 2 c10] 25)
                 exact ⟨(BoxCa.new u10 a10 2 c10 25).c0, ho10.sl.1.below hal, hq10.baC.below hal, hbb.alloc hbb.size _⟩
               clear ho10 hq10 hb10)
            | (go_at_call 24; refine (HA2.out).mono ?_; rintro f u10 ⟨a10, n10, c10, b10, m10, d10, rfl, hn10, hm10, ho10, hq10, hb10⟩
               obtain rfl : 2 = n10 := hn10
               have hX10 : BoxCa u10 u9.heap.size none 0 0 := (BoxCa.new u9.drew none 0 0 25).below hb10
               have e0 := hX10.c0
               have e1 := hX10.f0
               have HREL : Hid ((u10.setCell ⟨u9.heap.size, 0, none⟩ (.slice a10 2 c10)).cell? ⟨u9.heap.size, 0, none⟩ = some (.slice a10 2 c10) ∧ SliceI (u10.setCell ⟨u9.heap.size, 0, none⟩ (.slice a10 2 c10)) a10 2 d.l ∧ BAt (u10.setCell ⟨u9.heap.size, 0, none⟩ (.slice a10 2 c10)) (fun j => j < (u10.setCell ⟨u9.heap.size, 0, none⟩ (.slice a10 2 c10)).heap.size) h2 b10 ∧ Below u9.heap.size u9 (u10.setCell ⟨u9.heap.size, 0, none⟩ (.slice a10 2 c10))) := by
                 have hbb : Below u9.heap.size u9 u10 := hc4.trans (hb10.mono (by simp))
                 exact ⟨World.cell?_setCell_same' _ _ _ (by rw [e0]; rfl), (ho10.far fun g hg _ => Below.heap_setCell _ _ _ _ (by have := (ho10.lt g hg).1; simp at this ⊢; omega)).sl.1, (hq10.far fun g hg _ => Below.heap_setCell _ _ _ _ (by have := (hq10.lt g hg).1; simp at this ⊢; omega)).baC, hbb.setCell (p := ⟨u9.heap.size, 0, none⟩) (Nat.le_refl _) _⟩
               clear ho10 hq10 hb10 hX10)
            | fail)
          all_goals
            go_wp2_with fail
            go_meet
            case rel => exact ⟨_, a10, c10, b10, m10, d10, rfl, rfl, rfl, hm10, Lib.hid HREL.out.1, Lib.hid HREL.out.2.1, Lib.hid HREL.out.2.2.1, Lib.hid HREL.out.2.2.2⟩
        · have hkc2 : ¬ ec = k := fun e => hkc e.symm
          have HA1 : Hid (Calls Try.prog 24 #[aggCa a9 2 c9, .slice (ea.map fun x => x.add (k * 2)) (en - k) (ec - k)] u9.drew (CrQ d.l h2 true u9.drew)) := HSX.out _ _ _ _ rfl (fun hu => (HF.out _ hu).2.2.1) hc3
          have HA2 : Hid (Calls Try.prog 24 #[aggCa a9 2 c9, .slice (ea.map fun x => x.add (k * 2)) (en - k) (ec - k)] (u9.drew.alloc (.cells #[.slice none 0 0] 25)) (CrQ d.l h2 true (u9.drew.alloc (.cells #[.slice none 0 0] 25)))) := HSX.out _ _ _ _ rfl (fun hu => (HF.out _ hu).2.2.1) hc4
          go_region_with (first
            | (go_at_call 24; refine (HA1.out).mono ?_; rintro f u10 ⟨a10, n10, c10, b10, m10, d10, rfl, hn10, hm10, ho10, hq10, hb10⟩
               obtain rfl : 2 = n10 := hn10
               have HREL : Hid ((u10.alloc (.cells #[.slice a10 2 c10] 25)).cell? ⟨u10.heap.size, 0, none⟩ = some (.slice a10 2 c10) ∧ SliceI (u10.alloc (.cells #[.slice a10 2 c10] 25)) a10 2 d.l ∧ BAt (u10.alloc (.cells #[.slice a10 2 c10] 25)) (fun j => j < (u10.alloc (.cells #[.slice a10 2 c10] 25)).heap.size) h2 b10 ∧ Below u9.heap.size u9 (u10.alloc (.cells #[.slice a10 2 c10] 25))) := by
                 have hbb : Below u9.heap.size u9 u10 := hc3.trans hb10
                 have hal := (Below.refl u10.heap.size u10).alloc (Nat.le_refl _) (.cells #[.slice a10 2 c10] 25)
                 exact ⟨(BoxCa.new u10 a10 2 c10 25).c0, ho10.sl.1.below hal, hq10.baC.below hal, hbb.alloc hbb.size _⟩
               clear ho10 hq10 hb10)
            | (go_at_call 24; refine (HA2.out).mono ?_; rintro f u10 ⟨a10, n10, c10, b10, m10, d10, rfl, hn10, hm10, ho10, hq10, hb10⟩
               obtain rfl : 2 = n10 := hn10
               have hX10 : BoxCa u10 u9.heap.size none 0 0 := (BoxCa.new u9.drew none 0 0 25).below hb10
               have e0 := hX10.c0
               have e1 := hX10.f0
               have HREL : Hid ((u10.setCell ⟨u9.heap.size, 0, none⟩ (.slice a10 2 c10)).cell? ⟨u9.heap.size, 0, none⟩ = some (.slice a10 2 c10) ∧ SliceI (u10.setCell ⟨u9.heap.size, 0, none⟩ (.slice a10 2 c10)) a10 2 d.l ∧ BAt (u10.setCell ⟨u9.heap.size, 0, none⟩ (.slice a10 2 c10)) (fun j => j < (u10.setCell ⟨u9.heap.size, 0, none⟩ (.slice a10 2 c10)).heap.size) h2 b10 ∧ Below u9.heap.size u9 (u10.setCell ⟨u9.heap.size, 0, none⟩ (.slice a10 2 c10))) := by
                 have hbb : Below u9.heap.size u9 u10 := hc4.trans (hb10.mono (by simp))
                 exact ⟨World.cell?_setCell_same' _ _ _ (by rw [e0]; rfl), (ho10.far fun g hg _ => Below.heap_setCell _ _ _ _ (by have := (ho10.lt g hg).1; simp at this ⊢; omega)).sl.1, (hq10.far fun g hg _ => Below.heap_setCell _ _ _ _ (by have := (hq10.lt g hg).1; simp at this ⊢; omega)).baC, hbb.setCell (p := ⟨u9.heap.size, 0, none⟩) (Nat.le_refl _) _⟩
               clear ho10 hq10 hb10 hX10)
            | fail)
          all_goals
            go_wp2_with fail
            go_meet
            case rel => exact ⟨_, a10, c10, b10, m10, d10, rfl, rfl, rfl, hm10, Lib.hid HREL.out.1, Lib.hid HREL.out.2.1, Lib.hid HREL.out.2.2.1, Lib.hid HREL.out.2.2.2⟩
      case rest =>
        obtain ⟨B10, a10, c10, b10, m10, d10, rfl, rfl, rfl, hm10, HR1, HR2, HR4, HR3⟩ := hcut
        have HM10 := Lib.hid hm10
        have hm108 : m10 ≤ 8 := by omega
        obtain ⟨u10, rfl⟩ : ∃ u10 : World, u10 = wc := ⟨_, rfl⟩
        have HB10 : Hid (Below v3.heap.size v3 u10) := HQ3.out.trans (HR3.out.mono hz9)
        have x0 := HR1.out
        have x1 := (HV.out u10 HB10.out).2.2.2.2
        clear hm10 hc3 hc4
        obtain ⟨k0, kinf, kj0, kj1, kj2⟩ := info_parts Try.infoB
        go_wp2_with fail
        refine (ctInts_one a10 a2 2 c10 2 c2 _ _ u10 HR2.out (HV.out u10 HB10.out).2.2.2.1).mono ?_
        rintro f u11 hA
        obtain ⟨rfl, hb11⟩ := hA.bel
        rw [HEQ.out]
        have HB11 : Hid (Below v3.heap.size v3 u11) := HB10.out.trans (hb11.mono HB10.out.size)
        have HE9 : Hid (BAt u11 (fun j => j < u11.heap.size) h1 b9) := (HQ4.out.below HR3.out).below hb11
        have HE10 : Hid (BAt u11 (fun j => j < u11.heap.size) h2 b10) := HR4.out.below hb11
        have hal : Below u11.heap.size u11 (u11.alloc (.cells #[] 4)) := (Below.refl _ _).alloc (Nat.le_refl _) _
        have HAL := Lib.hid hal
        have hown : (u11.alloc (.cells #[] 4)).ownsRow u11.heap.size 4 1 (.slice (some ⟨u11.heap.size, 0, none⟩) 0 0) 0 [] := World.ownsRow_made u11 #[] 0 (Nat.le_refl _) (by unfold maxLen; omega) rfl
        have hnews : NewsAt (u11.alloc (.cells #[] 4)) b9 m9 (h1.map Value.bool) := NewsAt.boolsC (HE9.out.below hal) HM9.out
        have HL9 : Hid ((h1.map Value.bool).length = m9 * 1) := Lib.hid (by rw [List.length_map, HM9.out]; omega)
        have HL10 : Hid ((h2.map Value.bool).length = m10 * 1) := Lib.hid (by rw [List.length_map, HM10.out]; omega)
        have hone : ∀ u ∈ h1.map Value.bool, u.oneCell' = true := fun u hu => by obtain ⟨b, _, rfl⟩ := List.mem_map.1 hu; rfl
        have hone2 : ∀ u ∈ h2.map Value.bool, u.oneCell' = true := fun u hu => by obtain ⟨b, _, rfl⟩ := List.mem_map.1 hu; rfl
        clear hA hb11 x0 x1 hal
        go_wp2_with (at_builtin; first
          | (refine wpList_append_g _ (by first | rfl | kernel_rfl | (simp [Region.wanted, yielded, go_sem])) _ _ 36 (by rfl) u11.heap.size 4 k0 _ 1 1 Try.underlying36 kinf kj0 kj1 kj2 rfl (by omega) (.slice (some ⟨u11.heap.size, 0, none⟩) 0 0) 0 _ (by rfl) hown b9 m9 d9 _ (by rfl) HL9.out hnews hone (by unfold maxLen; omega) (by omega) (by simp) ?_
             intro v' w6 hap
             obtain ⟨a6, c6, hv, g1, g2, _⟩ := hap
             rw [Nat.zero_add] at hv g1
             rw [List.nil_append] at g1
             subst hv
             have HO6 : Hid (OwnB w6 u11.heap.size (.slice a6 m9 c6) h1) := Lib.hid (by unfold OwnB; rw [HM9.out]; exact g1)
             have HB6 : Hid (Below u11.heap.size u11 w6) := HAL.out.grown g2 (by simp) (fun k e => by have e' := ownS_eq e; omega)
             have hz6 := HB6.out.size
             have hnews2 : NewsAt w6 b10 m10 (h2.map Value.bool) := NewsAt.boolsC (HE10.out.below HB6.out) HM10.out
             have HG1 := Lib.hid g1
             clear g1 g2)
          | (refine wpList_append_g _ (by first | rfl | kernel_rfl | (simp [Region.wanted, yielded, go_sem])) _ _ 36 (by rfl) u11.heap.size 4 k0 _ 1 1 Try.underlying36 kinf kj0 kj1 kj2 rfl (by omega) (.slice a6 m9 c6) m9 _ (by rfl) HG1.out b10 m10 d10 _ (by rfl) HL10.out hnews2 hone2 (by unfold maxLen; omega) (by omega) hz6 ?_
             intro v' w7 hap
             obtain ⟨a7, c7, hv, g1, g2, _⟩ := hap
             subst hv
             rw [← List.map_append] at g1
             have HLL : Hid ((h1 ++ h2).length = m9 + m10) := Lib.hid (by rw [List.length_append, HM9.out, HM10.out])
             have HO7 : Hid (OwnB w7 u11.heap.size (.slice a7 (m9 + m10) c7) (h1 ++ h2)) := Lib.hid (by unfold OwnB; rw [HLL.out]; exact g1)
             have HB7 : Hid (Below u11.heap.size u11 w7) := HB6.out.grown g2 hz6 (fun k e => (HO6.out.lt k e).1)
             clear g1 g2))
        refine (ctBS_one (h1 ++ h2) H a7 b2 (m9 + m10) m2 c7 d2 w7 HO7.out.baC (HH3.out w7 (HB11.out.trans (HB7.out.mono HB11.out.size))).1 HLL.out HM2.out).mono ?_
        rintro f w8 ⟨rfl, hb8⟩
        rw [show decide (h1 ++ h2 = H) = true from decide_eq_true HHH.out]
        have HB8 : Hid (Below w.heap.size w w8) := HB1.out.trans ((HB3.out.trans ((HB11.out.trans ((HB7.out.trans (hb8.mono HB7.out.size)).mono HB11.out.size)).mono HB3.out.size)).mono HB1.out.size)
        clear hb8 hown hnews hnews2 hone hone2
        go_wp2_with fail
        go_ret
        exact YN.of rfl HB8.out

end Go.Proofs.Yteoaecfjgbkefaa

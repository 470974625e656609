/- The law FnCacheState, walked: at every list of bytes the call returns true; nothing that was there has changed. -/
import Derived.Test.YteoaecfjgbkefaaCaX
import Derived.Test.YteoaecfjgbkefaaCaDD
import Derived.Test.YteoaecfjgbkefaaCt
namespace Go.Proofs.Yteoaecfjgbkefaa
open Go.RowKit
set_option linter.unusedVariables false

theorem crP_true {xs L : List Int} {es : List Ev} {H : List Bool} (h : crP xs es = (L, H, true)) : ∃ c d : Ca, xs = c.l ∧ okCa c = true ∧ runC c es = some (d, H) ∧ L = d.l := by
  cases hok : okL xs with
  | false => rw [crP_bad hok] at h; cases h
  | true =>
    obtain ⟨c, rfl, hca⟩ := okL_two hok
    cases hr : runC c es with
    | none => rw [crP_none hr] at h; cases h
    | some p =>
      obtain ⟨d, hs⟩ := p
      rw [crP_yes hca hr] at h
      cases h
      exact ⟨c, d, rfl, hca, hr, rfl⟩
theorem Ca.getl (c : Ca) (k : Nat) (h : k < 2) : c.l.getD k 0 = c.get k := by
  have : k = 0 ∨ k = 1 := by omega
  rcases this with rfl | rfl <;> rfl
theorem Ca.acc_get (c : Ca) (a k : Nat) (h : k < 2) : (c.acc a).get k = if lnA a = k then ((a / 2 : Nat) : Int) else c.get k := by
  have h1 : lnA a = 0 ∨ lnA a = 1 := by unfold lnA; omega
  have h2 : k = 0 ∨ k = 1 := by omega
  unfold Ca.acc
  rcases h1 with h1 | h1 <;> rcases h2 with rfl | rfl <;> rw [h1] <;> rfl

set_option maxRecDepth 100000 in
set_option maxHeartbeats 8000000 in
theorem law_FnCacheState (a : Option Addr) (len cap : Nat) (zs : List Int) (w : World) (h : IsRow .u8 w a len cap zs) :
    Calls Try.prog 6 #[.slice a len cap] w (YN true w) := by
  have HROW := Lib.hid h
  have hll := h.len
  unfold maxLen at hll
  clear h
  by_cases hlen : 1048576 < len
  · go_enter Try.func6, Try.ntmps6
    go_wp2_with fail
    go_ret
    exact YN.of rfl (Below.refl _ _)
  have HEQ : Hid (∀ ys : List Int, eqL ys ys = true) := fun ys => decide_eq_true rfl
  go_enter Try.func6, Try.ntmps6
  go_wp2_with fail
  refine (drRun_one a len cap zs w HROW.out).mono ?_
  rintro f w1 ⟨xs, a1, n1, c1, ps, ea, en, ec, rfl, hn1, ho1, hel, hen, hr1, hb1⟩
  obtain ⟨u1, hu1⟩ : ∃ u1, w1.alloc (.cells #[.slice a1 n1 c1] 25) = u1 := ⟨_, rfl⟩
  have k1 : Below w1.heap.size w1 u1 := by rw [← hu1]; exact (Below.refl _ _).alloc (Nat.le_refl _) _
  have HX1 : Hid (BoxCa u1 w1.heap.size a1 n1 c1) := by rw [← hu1]; exact BoxCa.new _ _ _ _ _
  obtain ⟨es, hes⟩ : ∃ es, evs ps = es := ⟨_, rfl⟩
  have hesn : es.length = en := by rw [← hes, evs_len]; exact hel
  have hE1 : EvL w1 es ea ec := by
    have := hr1.evl2 (by rw [hes]; exact hesn)
    rw [hes] at this
    exact this
  have HS : Hid (∀ u, Below u1.heap.size u1 u → SliceI u a1 n1 xs ∧ EvL u es ea ec ∧ BoxCa u w1.heap.size a1 n1 c1) := fun u hu => ⟨(ho1.sl.1.below k1).below hu, (hE1.below k1).below hu, HX1.out.below hu⟩
  have HN := Lib.hid hesn
  have HB1 : Hid (Below w.heap.size w u1) := hb1.trans (k1.mono hb1.size)
  obtain ⟨L, H, q, hcr⟩ : ∃ L H q, crP xs es = (L, H, q) := ⟨_, _, _, rfl⟩
  have hL2 := (crP_len hcr).1
  have HIA : Hid (∀ u, Below u1.heap.size u1 u → Calls Try.prog 24 #[aggCa a1 n1 c1, .slice ea en ec] u (CrQ L H q u)) := fun u hu => by
    obtain ⟨s1, s2, _⟩ := HS.out u hu
    have := iCR_one xs es a1 n1 c1 ea en ec u s1 s2 HN.out (by omega)
    rw [hcr] at this
    exact this
  have HSA : Hid (∀ u, Below u1.heap.size u1 u → Calls Try.prog 25 #[aggCa a1 n1 c1, .slice ea en ec] u (CrQ L H q u)) := fun u hu => by
    obtain ⟨s1, s2, _⟩ := HS.out u hu
    have := sCR_one xs es a1 n1 c1 ea en ec u s1 s2 HN.out (by omega)
    rw [hcr] at this
    exact this
  have HCR := Lib.hid hcr
  have HU1 := Lib.hid hu1
  clear hu1 k1 hb1 ho1 hr1 hel hes hesn hE1 hcr hn1
  go_wp2_with fail
  rw [HU1.out]
  refine (HIA.out u1 (Below.refl _ _)).mono ?_
  rintro f u2 ⟨a2, n2, c2, b2, m2, d2, rfl, hn2, _, ho2, _, hb2⟩
  have HN2 := Lib.hid hn2
  obtain ⟨v2, hv2⟩ : ∃ v2, u2.alloc (.cells #[.slice a2 n2 c2] 25) = v2 := ⟨_, rfl⟩
  have k2 : Below u2.heap.size u2 v2 := by rw [← hv2]; exact (Below.refl _ _).alloc (Nat.le_refl _) _
  have HX2 : Hid (BoxCa v2 u2.heap.size a2 n2 c2) := by rw [← hv2]; exact BoxCa.new _ _ _ _ _
  have HP2 := Lib.hid (ho2.sl.1.below k2)
  have HB2 : Hid (Below u1.heap.size u1 v2) := hb2.trans (k2.mono hb2.size)
  have x0 : (u2.alloc (.cells #[.slice a2 n2 c2] 25)).cell? ⟨w1.heap.size, 0, none⟩ = some (.slice a1 n1 c1) := by rw [hv2]; exact (HS.out v2 HB2.out).2.2.c0
  have HV2 := Lib.hid hv2
  clear hv2 k2 ho2 hb2 hn2
  go_wp2_with fail
  rw [HV2.out]
  refine (HSA.out v2 HB2.out).mono ?_
  rintro f u3 ⟨a3, n3, c3, b3, m3, d3, rfl, hn3, _, ho3, _, hb3⟩
  obtain rfl : n2 = n3 := by rw [← hn3]; exact HN2.out.symm
  obtain ⟨v3, hv3⟩ : ∃ v3, u3.alloc (.cells #[.slice a3 n2 c3] 25) = v3 := ⟨_, rfl⟩
  have k3 : Below u3.heap.size u3 v3 := by rw [← hv3]; exact (Below.refl _ _).alloc (Nat.le_refl _) _
  have k23 : Below v2.heap.size v2 v3 := hb3.trans (k3.mono hb3.size)
  have HX3 : Hid (BoxCa v3 u3.heap.size a3 n2 c3) := by rw [← hv3]; exact BoxCa.new _ _ _ _ _
  have HQ3 := Lib.hid (HX2.out.below k23)
  have HT3 : Hid (∀ u, Below v3.heap.size v3 u → SliceI u a2 n2 L ∧ SliceI u a3 n2 L ∧ BoxCa u u2.heap.size a2 n2 c2 ∧ BoxCa u u3.heap.size a3 n2 c3) := fun u hu => ⟨(HP2.out.below k23).below hu, (ho3.sl.1.below k3).below hu, HQ3.out.below hu, HX3.out.below hu⟩
  have HB3 : Hid (Below u1.heap.size u1 v3) := HB2.out.trans (k23.mono HB2.out.size)
  have x1 : (u3.alloc (.cells #[.slice a3 n2 c3] 25)).cell? ⟨u2.heap.size, 0, none⟩ = some (.slice a2 n2 c2) := by rw [hv3]; exact HQ3.out.c0
  have HV3 := Lib.hid hv3
  clear hv3 k3 ho3 hb3 hn3 k23 x0
  cases q with
  | false =>
    go_wp2_with fail
    rw [HV3.out]
    obtain ⟨s1, s2, s3, s4⟩ := HT3.out v3 (Below.refl _ _)
    refine (ctInts_one a2 a3 n2 c2 n2 c3 _ _ v3 s1 s2).mono ?_
    clear s1 s2 s3 s4
    rintro f v4 hA
    obtain ⟨rfl, hb4⟩ := hA.bel
    rw [HEQ.out]
    have HB4 := Lib.hid hb4
    obtain ⟨s1, s2, s3, s4⟩ := HT3.out v4 hb4
    have y0 := s3.c0
    have y1 := s4.c0
    clear hA hb4 s1 s2 s3 s4 x1
    go_wp2_with fail
    obtain ⟨s1, s2, s3, s4⟩ := HT3.out v4 HB4.out
    refine (ctInts_one a2 a3 n2 c2 n2 c3 _ _ v4 s1 s2).mono ?_
    clear s1 s2 s3 s4
    rintro f v5 hA
    obtain ⟨rfl, hb5⟩ := hA.bel
    rw [HEQ.out]
    have HB5 : Hid (Below w.heap.size w v5) := HB1.out.trans ((HB3.out.trans ((HB4.out.trans (hb5.mono HB4.out.size)).mono HB3.out.size)).mono HB1.out.size)
    clear hA hb5
    go_wp2_with fail
    go_ret
    exact YN.of rfl HB5.out
  | true =>
    obtain ⟨c, d, rfl, hok, hrun, rfl⟩ := crP_true HCR.out
    have HRUN := Lib.hid hrun
    obtain rfl : 2 = n1 := (HS.out u1 (Below.refl _ _)).1.2.1
    obtain rfl : 2 = n2 := HN2.out
    clear hrun hok HIA HSA
    go_wp2_with fail
    rw [HV3.out]
    obtain ⟨s1, s2, s3, s4⟩ := HT3.out v3 (Below.refl _ _)
    refine (ctInts_one a2 a3 2 c2 2 c3 _ _ v3 s1 s2).mono ?_
    clear s1 s2 s3 s4
    rintro f v4 hA
    obtain ⟨rfl, hb4⟩ := hA.bel
    rw [HEQ.out]
    have HB4 := Lib.hid hb4
    clear hA hb4 x1
    go_wp2_with fail
    go_loopw [11] (fun i wr => ∃ k : Nat, k ≤ 2 ∧ i = .int .i64 (k : Int) ∧ wr = v4) (fun i _ => 2 - (intOf i).toNat)
    case atStart => exact ⟨0, by omega, rfl, rfl⟩
    case round =>
      obtain ⟨k, hk, rfl, hwr⟩ := hrel
      subst hwr
      obtain ⟨wo, rfl⟩ : ∃ wo : World, wo = wr := ⟨_, rfl⟩
      have HBW : Hid (Below u1.heap.size u1 wo) := HB3.out.trans (HB4.out.mono HB3.out.size)
      by_cases hlt : k < 2
      · obtain ⟨s1, s2, s3⟩ := HS.out wo HBW.out
        obtain ⟨t1, t2, t3, t4⟩ := HT3.out wo HB4.out
        obtain ⟨b', o', rfl, h0⟩ := s1.2.2 k hlt
        obtain ⟨b'', o'', rfl, h1⟩ := t1.2.2 k hlt
        rw [c.getl k hlt] at h0
        rw [d.getl k hlt] at h1
        have x0 := s3.c0
        have x1 := t3.c0
        have HE := Lib.hid s2
        obtain ⟨g, hg⟩ : ∃ g, c.get k = g := ⟨_, rfl⟩
        rw [hg] at h0
        have HG := Lib.hid hg
        clear s1 s2 s3 t1 t2 t3 t4 hg
        go_wp2_with fail
        go_loopw [12, 13] (fun b i wr => ∃ (j : Nat) (e : Ca) (hs : List Bool), j ≤ en ∧ i = .int .i64 (j : Int) ∧ runC c (es.take j) = some (e, hs) ∧ b = .int .i64 (e.get k) ∧ wr = wo) (fun _ i _ => en - (intOf i).toNat)
        case atStart => exact ⟨0, c, [], Nat.zero_le _, rfl, rfl, by rw [HG.out], rfl⟩
        case round =>
          obtain ⟨j, e, hs, hj, rfl, hrj, rfl, hwr⟩ := hrel
          subst hwr
          have HRJ := Lib.hid hrj
          clear hrj
          by_cases hjt : j < en
          · obtain ⟨x, hx⟩ : ∃ x, es[j]? = some x := ⟨es[j]'(by rw [HN.out]; exact hjt), List.getElem?_eq_getElem _⟩
            obtain ⟨eb, eo, rfl, hbl, e0, e1⟩ := HE.out.2.2 j x hx
            have HX := Lib.hid hx
            obtain ⟨kd, vl⟩ := x
            dsimp only at e0 e1
            clear hx
            cases ht : tch ⟨kd, vl⟩ with
            | false =>
              have hn := of_decide_eq_false ht
              have g2 : (kd == 2) = false := by have : kd ≠ 2 := fun h => hn (.inl h); simpa using this
              have g3 : (kd == 3) = false := by have : kd ≠ 3 := fun h => hn (.inr h); simpa using this
              have HREL : Hid (runC c (es.take (j + 1)) = some (e, hs)) := runC_skip HRJ.out HX.out ht
              clear hn ht
              go_wp2_with fail
              go_roundw
              case rel => exact ⟨j + 1, e, hs, hjt, by go_num, HREL.out, by first | rfl | trivial, by first | rfl | trivial⟩
              case measure => simp [intOf]; omega
            | true =>
              cases hav : adr vl with
              | false =>
                have h := runC_stop HRJ.out HX.out ht hav
                rw [HRUN.out] at h
                cases h
              | true =>
                obtain ⟨m, rfl, hm⟩ := adr_nat hav
                have HREL : Hid (runC c (es.take (j + 1)) = some (e.acc m, hs ++ [e.hit m])) := runC_step HRJ.out HX.out ht rfl hm
                have hq : ((m : Int).tdiv 2) = ((m / 2 : Nat) : Int) := (Int.ofNat_tdiv m 2).symm
                obtain ⟨q2, hq2⟩ : ∃ q2, m / 2 = q2 := ⟨_, rfl⟩
                have hq4 : q2 < 4 := by omega
                have hr : ((q2 : Int).tmod 2) = ((lnA m : Nat) : Int) := by unfold lnA; rw [hq2]; exact (Int.ofNat_tmod q2 2).symm
                rw [hq2] at hq
                have HAG : Hid ((e.acc m).get k = if lnA m = k then (q2 : Int) else e.get k) := by rw [← hq2]; exact e.acc_get m k hlt
                obtain ⟨ln, hln⟩ : ∃ ln, lnA m = ln := ⟨_, rfl⟩
                rw [hln] at hr
                have HLN := Lib.hid hln
                have hl2 : ln < 2 := by rw [← hln]; unfold lnA; omega
                have hkd := of_decide_eq_true ht
                clear hav ht hq2 hln
                by_cases hlk : ln = k
                · subst hlk
                  have hval : Hid ((q2 : Int) = (e.acc m).get ln) := Lib.hid (by rw [HAG.out, if_pos HLN.out])
                  rcases hkd with rfl | rfl
                  all_goals
                    go_wp2_with fail
                    go_roundw
                    case rel => exact ⟨j + 1, e.acc m, hs ++ [e.hit m], hjt, by go_num, HREL.out, by rw [hval.out], by first | rfl | trivial⟩
                    case measure => simp [intOf]; omega
                · have hval : Hid (e.get k = (e.acc m).get k) := Lib.hid (by rw [HAG.out, if_neg (by rw [HLN.out]; exact hlk)])
                  have hne : ((ln : Int) == (k : Int)) = false := by simpa using (by omega : (ln : Int) ≠ k)
                  rcases hkd with rfl | rfl
                  all_goals
                    go_wp2_with fail
                    go_roundw
                    case rel => exact ⟨j + 1, e.acc m, hs ++ [e.hit m], hjt, by go_num, HREL.out, by rw [hval.out], by first | rfl | trivial⟩
                    case measure => simp [intOf]; omega
          · obtain rfl : j = en := by omega
            have hfin := HRJ.out
            rw [List.take_of_length_le (by rw [HN.out]; exact Nat.le_refl _), HRUN.out] at hfin
            cases hfin
            obtain ⟨y, hy⟩ : ∃ y, d.get k = y := ⟨_, rfl⟩
            rw [hy] at h1 ⊢
            have hne : (y != y) = false := by simp
            clear hy
            go_wp2_with fail
            go_roundw
            case rel => exact ⟨k + 1, by omega, by go_num, by first | rfl | trivial⟩
            case measure => simp [intOf]; omega
      · go_wp2_with fail
        go_ret
        exact YN.of rfl (HB1.out.trans (HBW.out.mono HB1.out.size))

end Go.Proofs.Yteoaecfjgbkefaa

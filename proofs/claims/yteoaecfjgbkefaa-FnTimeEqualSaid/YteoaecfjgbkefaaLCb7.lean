/- The law FnTimeEqual, walked: at every list of bytes the call returns true; nothing that was there has changed. -/
import Derived.Test.YteoaecfjgbkefaaCaQ
import Derived.Test.YteoaecfjgbkefaaCaDD
namespace Go.Proofs.Yteoaecfjgbkefaa
open Go.RowKit
set_option linter.unusedVariables false

theorem ttP_bad {xs : List Int} {es : List Ev} (h : okL xs = false) : ttP xs es = -1 := by rw [ttP_eq (crP_bad (es := es) h)]; rfl
theorem ttP_cnt (xs : List Int) (es : List Ev) : ttP xs (es.filter cnt) = ttP xs es := by
  cases h : okL xs with
  | false => rw [ttP_bad h, ttP_bad h]
  | true =>
    obtain ⟨c, rfl, hok⟩ := okL_two h
    rw [ttP_c hok, ttP_c hok, timC_cnt]
theorem cnt_cases (kd vl : Int) : (kd = 5 ∧ cnt ⟨kd, vl⟩ = true) ∨ (kd = 2 ∧ cnt ⟨kd, vl⟩ = true) ∨ (kd = 3 ∧ cnt ⟨kd, vl⟩ = true) ∨ (kd ≠ 5 ∧ kd ≠ 2 ∧ kd ≠ 3 ∧ cnt ⟨kd, vl⟩ = false) := by
  by_cases h5 : kd = 5
  · subst h5; exact .inl ⟨rfl, rfl⟩
  · by_cases h2 : kd = 2
    · subst h2; exact .inr (.inl ⟨rfl, rfl⟩)
    · by_cases h3 : kd = 3
      · subst h3; exact .inr (.inr (.inl ⟨rfl, rfl⟩))
      · exact .inr (.inr (.inr ⟨h5, h2, h3, decide_eq_false (by intro h; rcases h with h | h | h; exact h5 h; exact h2 h; exact h3 h)⟩))
theorem flt_yes {es : List Ev} {k : Nat} {x : Ev} (h : es[k]? = some x) (ht : cnt x = true) : (es.take (k + 1)).filter cnt = (es.take k).filter cnt ++ [x] := by
  rw [take_snoc' h, List.filter_append]; simp [ht]
theorem flt_no {es : List Ev} {k : Nat} {x : Ev} (h : es[k]? = some x) (ht : cnt x = false) : (es.take (k + 1)).filter cnt = (es.take k).filter cnt := by
  rw [take_snoc' h, List.filter_append]; simp [ht]
theorem flt_len (es : List Ev) (k : Nat) : ((es.take k).filter cnt).length ≤ k := Nat.le_trans (List.length_filter_le _ _) (by rw [List.length_take]; exact Nat.min_le_left _ _)
theorem prs_snoc (es : List Ev) (x : Ev) : prs (es ++ [x]) = prs es ++ [(x.kind, x.value)] := by simp [prs]

/-- The state of the filtering loop. -/
def KeL (es : List Ev) (en : Nat) (w8 : World) (o i : Value) (wr : World) : Prop := ∃ (k m cp : Nat) (a : Option Addr), k ≤ en ∧ i = .int .i64 (k : Int) ∧ o = .slice a m cp ∧ ((es.take k).filter cnt).length = m ∧ RowEv wr w8.heap.size (.slice a m cp) (prs ((es.take k).filter cnt)) ∧ Below w8.heap.size w8 wr

set_option maxRecDepth 100000 in
set_option maxHeartbeats 8000000 in
theorem law_FnTimeEqual (a : Option Addr) (len cap : Nat) (zs : List Int) (w : World) (h : IsRow .u8 w a len cap zs) :
    Calls Try.prog 9 #[.slice a len cap] w (YN true w) := by
  obtain ⟨i0, hinf, hj0, hj1, hj2⟩ := info_parts infoEv
  have HROW := Lib.hid h
  have hll := h.len
  unfold maxLen at hll
  clear h
  by_cases hlen : 1048576 < len
  · go_enter Try.func9, Try.ntmps9
    go_wp2_with fail
    go_ret
    exact YN.of rfl (Below.refl _ _)
  go_enter Try.func9, Try.ntmps9
  go_wp2_with fail
  refine (drTime_one a len cap zs w HROW.out).mono ?_
  rintro f w1 ⟨xs, a1, n1, c1, ps, ea, en, ec, rfl, hn1, ho1, hel, hen, hr1, hb1⟩
  obtain ⟨u1, hu1⟩ : ∃ u1, w1.alloc (.cells #[.slice a1 n1 c1] 25) = u1 := ⟨_, rfl⟩
  have k1 : Below w1.heap.size w1 u1 := by rw [← hu1]; exact (Below.refl _ _).alloc (Nat.le_refl _) _
  have HX1 : Hid (BoxCa u1 w1.heap.size a1 n1 c1) := by rw [← hu1]; exact BoxCa.new _ _ _ _ _
  obtain ⟨es, hes⟩ : ∃ es, evs ps = es := ⟨_, rfl⟩
  have hesn : es.length = en := by rw [← hes, evs_len]; exact hel
  have hE1 : EvL w1 es ea ec := by
    have := hr1.evl2 (by rw [hes]; exact hesn)
    rw [hes] at this
    exact this
  have HS : Hid (∀ u, Below u1.heap.size u1 u → SliceI u a1 n1 xs ∧ EvL u es ea ec ∧ BoxCa u w1.heap.size a1 n1 c1) := fun u hu => ⟨(ho1.sl.1.below k1).below hu, (hE1.below k1).below hu, HX1.out.below hu⟩
  have HN := Lib.hid hesn
  have HB1 : Hid (Below w.heap.size w u1) := hb1.trans (k1.mono hb1.size)
  obtain ⟨T, hT⟩ : ∃ T, ttP xs es = T := ⟨_, rfl⟩
  have HT := Lib.hid hT
  have HU1 := Lib.hid hu1
  clear hu1 k1 hb1 ho1 hr1 hel hes hesn hE1 hT hn1
  go_wp2_with fail
  rw [HU1.out]
  obtain ⟨s1, s2, s3⟩ := HS.out u1 (Below.refl _ _)
  refine (iTT_one xs es a1 n1 c1 ea en ec u1 s1 s2 HN.out (by omega)).mono ?_
  clear s1 s2 s3
  rintro f u2 ⟨rfl, hb2⟩
  rw [HT.out]
  have HB2 := Lib.hid hb2
  have x0 := (HS.out u2 hb2).2.2.c0
  clear hb2
  go_wp2_with fail
  obtain ⟨s1, s2, s3⟩ := HS.out u2 HB2.out
  refine (sTT_one xs es a1 n1 c1 ea en ec u2 s1 s2 HN.out (by omega)).mono ?_
  clear s1 s2 s3 x0
  rintro f u3 ⟨rfl, hb3⟩
  rw [HT.out]
  have HB3 : Hid (Below u1.heap.size u1 u3) := HB2.out.trans (hb3.mono HB2.out.size)
  clear hb3
  by_cases hneg : T < 0
  · have x0 := (HS.out u3 HB3.out).2.2.c0
    go_wp2_with fail
    obtain ⟨s1, s2, s3⟩ := HS.out u3 HB3.out
    refine (sTT_one xs es a1 n1 c1 ea en ec u3 s1 s2 HN.out (by omega)).mono ?_
    clear s1 s2 s3 x0
    rintro f u4 ⟨rfl, hb4⟩
    rw [HT.out]
    have HB4 : Hid (Below w.heap.size w u4) := HB1.out.trans ((HB3.out.trans (hb4.mono HB3.out.size)).mono HB1.out.size)
    clear hb4
    go_wp2_with fail
    go_ret
    exact YN.of rfl HB4.out
  · have hge := HB3.out.size
    have HL0 : Hid (KeL es en u3 (.slice (some ⟨u3.heap.size, 0, none⟩) 0 0) (.int .i64 0) (u3.alloc (.cells #[] 43))) := ⟨0, 0, 0, _, Nat.zero_le _, rfl, rfl, rfl, RowEv.made u3 u3.heap.size (Nat.le_refl _), (Below.refl _ _).alloc (Nat.le_refl _) _⟩
    go_wp2_with fail
    go_loopw [6, 7] (fun o i wr => KeL es en u3 o i wr) (fun _ i _ => en - (intOf i).toNat)
    case atStart => exact HL0.out
    case round =>
      obtain ⟨k, m, cp, a2, hk, rfl, rfl, hm, hrow, hbel⟩ := hrel
      have HM := Lib.hid hm
      have HROW2 := Lib.hid hrow
      have HBEL := Lib.hid hbel
      have hzr := hbel.size
      have hmk : m ≤ k := by rw [← hm]; exact flt_len es k
      have hB1r : Below u1.heap.size u1 wr := HB3.out.trans (hbel.mono hge)
      have HB1R := Lib.hid hB1r
      obtain ⟨s1, s2, s3⟩ := HS.out wr hB1r
      have HS1 := Lib.hid s1
      have HS2 := Lib.hid s2
      have HS3 := Lib.hid s3
      clear hm hrow hbel HL0 s1 s2 s3 hB1r
      by_cases hlt : k < en
      · obtain ⟨x, hx⟩ : ∃ x, es[k]? = some x := ⟨es[k]'(by rw [HN.out]; exact hlt), List.getElem?_eq_getElem _⟩
        obtain ⟨b, o, rfl, hbl, e0, e1⟩ := HS2.out.2.2 k x hx
        have HX := Lib.hid hx
        obtain ⟨kd, vl⟩ := x
        dsimp only at e0 e1
        clear hx
        rcases cnt_cases kd vl with ⟨h5, ht⟩ | ⟨h5, ht⟩ | ⟨h5, ht⟩ | ⟨h5, h2, h3, ht⟩
        · subst h5
          have HF := Lib.hid (flt_yes HX.out ht)
          have hL : (wr.alloc (.cells #[.int .i64 5, .int .i64 vl] 43)).ownsRow u3.heap.size 43 2 (.slice a2 m cp) m (flatE (prs ((es.take k).filter cnt))) := by
            have h2 := (HROW2.out.stand (w' := wr.alloc (.cells #[.int .i64 5, .int .i64 vl] 43)) fun g _ hg => Below.heap_alloc _ _ _ hg).flat
            rw [prs_len, HM.out] at h2
            exact h2
          have hNB : (wr.alloc (.cells #[.int .i64 5, .int .i64 vl] 43)).heap[wr.heap.size]? = some (.cells #[.int .i64 5, .int .i64 vl] 43 (0, 0)) := heap_alloc_new wr _
          clear ht
          go_wp2_with (at_builtin; refine wpList_append_lies _ (by rfl) _ _ 33 (by rfl) u3.heap.size 43 i0 _ 2 16 Try.underlying33 hinf hj0 hj1 hj2 rfl (by omega) (.slice a2 m cp) m _ (by rfl) hL ⟨wr.heap.size, 0, none⟩ 1 1 _ (by rfl) (by rfl) (World.news_of_block hNB) (by simp [Value.oneCell']) (by omega) (by unfold maxLen; omega) (by omega) (by simp; omega) (wr.heap.size + 1) (by simp) ?_; intro g cp2 w6 hown6 hgrow hat hlt6)
          have HREL : Hid (KeL es en u3 (.slice (some ⟨g, 0, none⟩) (m + 1) cp2) (.int .i64 ((k : Int) + 1)) w6) := by
            refine ⟨k + 1, m + 1, cp2, _, hlt, by go_num, rfl, by rw [HF.out, List.length_append, HM.out]; rfl, ?_, (HBEL.out.alloc hzr _).grown hgrow (by simp; omega) (fun q e => (HROW2.out.lt q e).1)⟩
            have h2 : RowEv w6 u3.heap.size (.slice (some ⟨g, 0, none⟩) (m + 1) cp2) (prs ((es.take (k + 1)).filter cnt)) := by
              refine RowEv.ofFlat ?_
              rw [prs_len, HF.out, List.length_append, HM.out, prs_snoc, flatE_app]
              exact hown6
            exact h2
          clear hown6 hgrow hat hlt6 hL hNB
          go_wp2_with fail
          go_roundw
          case rel => exact HREL.out
          case measure => simp [intOf]; omega
        · subst h5
          have HF := Lib.hid (flt_yes HX.out ht)
          have hL : (wr.alloc (.cells #[.int .i64 2, .int .i64 vl] 43)).ownsRow u3.heap.size 43 2 (.slice a2 m cp) m (flatE (prs ((es.take k).filter cnt))) := by
            have h2 := (HROW2.out.stand (w' := wr.alloc (.cells #[.int .i64 2, .int .i64 vl] 43)) fun g _ hg => Below.heap_alloc _ _ _ hg).flat
            rw [prs_len, HM.out] at h2
            exact h2
          have hNB : (wr.alloc (.cells #[.int .i64 2, .int .i64 vl] 43)).heap[wr.heap.size]? = some (.cells #[.int .i64 2, .int .i64 vl] 43 (0, 0)) := heap_alloc_new wr _
          clear ht
          go_wp2_with (at_builtin; refine wpList_append_lies _ (by rfl) _ _ 33 (by rfl) u3.heap.size 43 i0 _ 2 16 Try.underlying33 hinf hj0 hj1 hj2 rfl (by omega) (.slice a2 m cp) m _ (by rfl) hL ⟨wr.heap.size, 0, none⟩ 1 1 _ (by rfl) (by rfl) (World.news_of_block hNB) (by simp [Value.oneCell']) (by omega) (by unfold maxLen; omega) (by omega) (by simp; omega) (wr.heap.size + 1) (by simp) ?_; intro g cp2 w6 hown6 hgrow hat hlt6)
          have HREL : Hid (KeL es en u3 (.slice (some ⟨g, 0, none⟩) (m + 1) cp2) (.int .i64 ((k : Int) + 1)) w6) := by
            refine ⟨k + 1, m + 1, cp2, _, hlt, by go_num, rfl, by rw [HF.out, List.length_append, HM.out]; rfl, ?_, (HBEL.out.alloc hzr _).grown hgrow (by simp; omega) (fun q e => (HROW2.out.lt q e).1)⟩
            have h2 : RowEv w6 u3.heap.size (.slice (some ⟨g, 0, none⟩) (m + 1) cp2) (prs ((es.take (k + 1)).filter cnt)) := by
              refine RowEv.ofFlat ?_
              rw [prs_len, HF.out, List.length_append, HM.out, prs_snoc, flatE_app]
              exact hown6
            exact h2
          clear hown6 hgrow hat hlt6 hL hNB
          go_wp2_with fail
          go_roundw
          case rel => exact HREL.out
          case measure => simp [intOf]; omega
        · subst h5
          have HF := Lib.hid (flt_yes HX.out ht)
          have hL : (wr.alloc (.cells #[.int .i64 3, .int .i64 vl] 43)).ownsRow u3.heap.size 43 2 (.slice a2 m cp) m (flatE (prs ((es.take k).filter cnt))) := by
            have h2 := (HROW2.out.stand (w' := wr.alloc (.cells #[.int .i64 3, .int .i64 vl] 43)) fun g _ hg => Below.heap_alloc _ _ _ hg).flat
            rw [prs_len, HM.out] at h2
            exact h2
          have hNB : (wr.alloc (.cells #[.int .i64 3, .int .i64 vl] 43)).heap[wr.heap.size]? = some (.cells #[.int .i64 3, .int .i64 vl] 43 (0, 0)) := heap_alloc_new wr _
          clear ht
          go_wp2_with (at_builtin; refine wpList_append_lies _ (by rfl) _ _ 33 (by rfl) u3.heap.size 43 i0 _ 2 16 Try.underlying33 hinf hj0 hj1 hj2 rfl (by omega) (.slice a2 m cp) m _ (by rfl) hL ⟨wr.heap.size, 0, none⟩ 1 1 _ (by rfl) (by rfl) (World.news_of_block hNB) (by simp [Value.oneCell']) (by omega) (by unfold maxLen; omega) (by omega) (by simp; omega) (wr.heap.size + 1) (by simp) ?_; intro g cp2 w6 hown6 hgrow hat hlt6)
          have HREL : Hid (KeL es en u3 (.slice (some ⟨g, 0, none⟩) (m + 1) cp2) (.int .i64 ((k : Int) + 1)) w6) := by
            refine ⟨k + 1, m + 1, cp2, _, hlt, by go_num, rfl, by rw [HF.out, List.length_append, HM.out]; rfl, ?_, (HBEL.out.alloc hzr _).grown hgrow (by simp; omega) (fun q e => (HROW2.out.lt q e).1)⟩
            have h2 : RowEv w6 u3.heap.size (.slice (some ⟨g, 0, none⟩) (m + 1) cp2) (prs ((es.take (k + 1)).filter cnt)) := by
              refine RowEv.ofFlat ?_
              rw [prs_len, HF.out, List.length_append, HM.out, prs_snoc, flatE_app]
              exact hown6
            exact h2
          clear hown6 hgrow hat hlt6 hL hNB
          go_wp2_with fail
          go_roundw
          case rel => exact HREL.out
          case measure => simp [intOf]; omega
        · have g5 : (kd == 5) = false := by simpa using h5
          have g2 : (kd == 2) = false := by simpa using h2
          have g3 : (kd == 3) = false := by simpa using h3
          have HF := Lib.hid (flt_no HX.out ht)
          have HREL : Hid (KeL es en u3 (.slice a2 m cp) (.int .i64 ((k : Int) + 1)) wr) := ⟨k + 1, m, cp, a2, hlt, by go_num, rfl, by rw [HF.out]; exact HM.out, by rw [HF.out]; exact HROW2.out, HBEL.out⟩
          clear h5 h2 h3 ht
          go_wp2_with fail
          go_roundw
          case rel => exact HREL.out
          case measure => simp [intOf]; omega
      · obtain rfl : k = en := by omega
        have hft : (es.take k).filter cnt = es.filter cnt := by rw [List.take_of_length_le (by rw [HN.out]; exact Nat.le_refl _)]
        have HFM : Hid ((es.filter cnt).length = m) := by
          have h := HM.out
          rw [hft] at h
          exact h
        have HFE : Hid (EvL wr (es.filter cnt) a2 cp) := by
          have h := HROW2.out
          rw [hft] at h
          exact h.evl' HFM.out
        have HTT : Hid (ttP xs (es.filter cnt) = T) := by
          have h := ttP_cnt xs es
          rw [HT.out] at h
          exact h
        have x0 := HS3.out.c0
        clear hft HROW2 HM
        go_wp2_with fail
        refine (iTT_one xs (es.filter cnt) a1 n1 c1 a2 m cp wr HS1.out HFE.out HFM.out (by omega)).mono ?_
        rintro f u5 ⟨rfl, hb5⟩
        rw [HTT.out]
        have HB5 : Hid (Below w.heap.size w u5) := HB1.out.trans ((HB1R.out.trans (hb5.mono HB1R.out.size)).mono HB1.out.size)
        clear hb5 x0
        go_wp2_with fail
        go_ret
        exact YN.of rfl HB5.out

end Go.Proofs.Yteoaecfjgbkefaa

/- The model's l11Branch, l11Marks and CodeFenced, walked. -/
import Derived.Test.YtodihpnnajlkdaaDoorCfN
import Derived.Test.YtodihpnnajlkdaaDoorBlSB
import Derived.Test.YtodihpnnajlkdaaDoorThI
namespace Go.Proofs.YtodihpnnajlkdaaDoor
open Go.RowKit
set_option linter.unusedVariables false

theorem bndN_yes {l : List Ins} {j : Nat} {x : Ins} (hx : l[j]? = some x) (hb : brB x = true) : bndN l (j + 1) = bndN l j ++ [x.fb.toNat, j + 1] := by
  show bndN l j ++ _ = _
  have h9 : x.op = 9 ∨ x.op = 10 := by unfold brB at hb; simpa using hb
  rw [brAt_at hx, hb, if_pos rfl, folAt_at hx]
  unfold folN
  rw [if_neg (by omega), if_pos h9]
theorem bndN_no {l : List Ins} {j : Nat} {x : Ins} (hx : l[j]? = some x) (hb : brB x = false) : bndN l (j + 1) = bndN l j := by
  show bndN l j ++ _ = _
  rw [brAt_at hx, hb]; simp
/-- The marks of the first j instructions. -/
def MkT (l : List Ins) (n j : Nat) (ys : List Bool) : Prop := ys.length = n ∧ ∀ t, t < n → ys[t]? = some (decide (t ∈ bndN l j))
theorem MkT.start (l : List Ins) (n : Nat) : MkT l n 0 (List.replicate n false) := ⟨List.length_replicate, fun t ht => by rw [List.getElem?_replicate, if_pos ht]; simp [bndN]⟩
theorem MkT.no {l : List Ins} {n j : Nat} {ys : List Bool} {x : Ins} (h : MkT l n j ys) (hx : l[j]? = some x) (hb : brB x = false) : MkT l n (j + 1) ys := by
  unfold MkT; rw [bndN_no hx hb]; exact h
theorem MkT.yes {l : List Ins} {n j f : Nat} {ys : List Bool} {x : Ins} (h : MkT l n j ys) (hx : l[j]? = some x) (hb : brB x = true) (hf : x.fb = (f : Int)) : MkT l n (j + 1) ((ys.set (j + 1) true).set f true) := by
  refine ⟨by rw [List.length_set, List.length_set]; exact h.1, fun t ht => ?_⟩
  rw [bndN_yes hx hb, show x.fb.toNat = f by omega]
  by_cases e1 : t = f
  · subst e1
    rw [List.getElem?_set_self (by rw [List.length_set, h.1]; exact ht)]
    simp
  · rw [List.getElem?_set_ne (by omega)]
    by_cases e2 : t = j + 1
    · subst e2
      rw [List.getElem?_set_self (by rw [h.1]; exact ht)]
      simp
    · rw [List.getElem?_set_ne (by omega), h.2 t ht]
      simp [e1, e2]

set_option maxRecDepth 100000 in
set_option maxHeartbeats 2000000 in
/-- **l11Branch.** -/
theorem sBr_one (x : Ins) (w : World) :
    Calls Tryd.prog 64 #[.agg #[.int .i64 x.op, .int .i64 x.fa, .int .i64 x.fb, .int .i64 x.fc, .int .i64 x.fd]] w (YN (brB x) w) := by
  have HB := Lib.hid ((Below.refl w.heap.size w).alloc (Nat.le_refl _) (.cells #[.int .i64 x.op, .int .i64 x.fa, .int .i64 x.fb, .int .i64 x.fc, .int .i64 x.fd] 46))
  obtain ⟨q, hq⟩ : ∃ q, brB x = q := ⟨_, rfl⟩
  rw [hq]
  unfold brB at hq
  cases h9 : (x.op == 9)
  · rw [h9] at hq
    simp only [Bool.false_or] at hq
    go_enter Tryd.func64, Tryd.ntmps64
    go_wp2_with fail
    go_ret
    exact ⟨rfl, HB.out⟩
  · rw [h9] at hq
    simp only [Bool.true_or] at hq
    subst hq
    go_enter Tryd.func64, Tryd.ntmps64
    go_wp2_with fail
    go_ret
    exact ⟨rfl, HB.out⟩

/-- The marks in a row of the call's own. -/
def MkA (l : List Ins) (n : Nat) (w : World) (e : Ending) (w' : World) : Prop := ∃ ys, e = .returned (.slice (some ⟨w.heap.size + 1, 0, none⟩) n n) ∧ MkT l n n ys ∧ w'.ownsRow (w.heap.size + 1) 4 1 (.slice (some ⟨w.heap.size + 1, 0, none⟩) n n) n (ys.map Value.bool) ∧ Below w.heap.size w w'
def MkL (l : List Ins) (n : Nat) (W : World) (i : Value) (wr : World) : Prop := ∃ (j : Nat) (ys : List Bool), j ≤ n ∧ i = .int .i64 (j : Int) ∧ MkT l n j ys ∧ wr.ownsRow W.heap.size 4 1 (.slice (some ⟨W.heap.size, 0, none⟩) n n) n (ys.map Value.bool) ∧ Below W.heap.size W wr

set_option maxRecDepth 100000 in
set_option maxHeartbeats 8000000 in
/-- **l11Marks.** -/
theorem sMk_one (m : Cd) (k : CK) (w : World) (n : Nat) (hn : m.list.length = n) (h : CL w m k) (hok : Okc m.list) : Calls Tryd.prog 37 #[aggC m k] w (MkA m.list n w) := by
  obtain ⟨i0, hi, hz0, hz1, hz2⟩ := info_parts Tryd.infoB
  have hle : n ≤ 400 := by rw [← hn]; exact hok.le
  obtain ⟨W, hW⟩ : ∃ W, w.alloc (.cells (arrC m k) 30) = W := ⟨_, rfl⟩
  have hB : Below w.heap.size w W := by rw [← hW]; exact (Below.refl _ w).alloc (Nat.le_refl _) _
  have hz : W.heap.size = w.heap.size + 1 := by rw [← hW]; simp
  have hX : BoxC W w.heap.size m k := by rw [← hW]; exact BoxC.new _ _ _ _
  have H : Hid (∀ v, Below W.heap.size W v → v.cell? ⟨w.heap.size, 2, none⟩ = some (.slice k.la n k.lc) ∧ NAt v (fun b => b < v.heap.size) m.list k.la) := fun v hv => ⟨by rw [← hn]; exact (hX.below hv hX.lt).c2, ((h.below hB).below hv).2.2⟩
  have x2 := (H.out W (Below.refl _ _)).1
  have HW := Lib.hid hW
  have HB := Lib.hid hB
  have HZ := Lib.hid hz
  have HN := Lib.hid hn
  have HO := Lib.hid hok
  unfold arrC at HW
  clear h hW hB hX hz hn hok
  go_enter Tryd.func37, Tryd.ntmps37
  go_wp2_with (first
    | (at_make
       try rw [HW.out]
       refine wpList_make_full _ rfl _ _ 54 rfl W.heap.size 4 i0 (.bool false) 1 Tryd.underlying54 hi hz0 hz1 .i64 .i64 (n : Int) (n : Int) n rfl rfl rfl rfl (by rw [hz2]; omega) (by unfold maxLen; omega) (Nat.le_refl _) ?_
       intro w1 hown1 hgrow1
       rw [falses] at hown1
       have hb1 : Below W.heap.size W w1 := (Below.refl _ W).grown hgrow1 (Nat.le_refl _) (fun k e => (by cases e))
       have HL0 : Hid (MkL m.list n W (.int .i64 0) w1) := ⟨0, _, Nat.zero_le _, rfl, MkT.start _ _, hown1, hb1⟩
       clear hown1 hgrow1 hb1)
    | rw [HW.out]
    | fail)
  go_loopw [4] (fun i wr => MkL m.list n W i wr) (fun i _ => n - (intOf i).toNat)
  case atStart => exact HL0.out
  case round =>
    obtain ⟨j, ys, hj, rfl, hmk, hrow, hb⟩ := hrel
    obtain ⟨z2, hNA⟩ := H.out wr hb
    have HMK := Lib.hid hmk
    have HROW := Lib.hid hrow
    have HBR := Lib.hid hb
    have hzr := hb.size
    clear hmk hb HL0 x2
    by_cases hlt : j < n
    · obtain ⟨x, hx⟩ : ∃ x, m.list[j]? = some x := ⟨m.list[j]'(by rw [HN.out]; exact hlt), List.getElem?_eq_getElem _⟩
      obtain ⟨b, o, ha, hbl, e0, e1, e2, e3, e4⟩ := hNA.2 j x hx
      rw [ha] at z2
      have HX := Lib.hid hx
      have HI := Lib.hid (sBr_one x wr)
      have HA := Lib.hid ha
      clear hx hNA hrow ha
      obtain ⟨q, hq⟩ : ∃ q, brB x = q := ⟨_, rfl⟩
      have HQ := Lib.hid hq
      rw [hq] at HI
      clear hq
      go_wp2_with fail
      refine HI.out.mono ?_
      rintro e w2 ⟨rfl, hb2⟩
      have HB2 : Hid (Below W.heap.size W w2) := HBR.out.trans (hb2.mono hzr)
      have hROW2 := HROW.out.far5 (w' := w2) (fun g _ hl => hb2.block g hl)
      have hz2 := hb2.size
      cases q
      case false =>
        have HREL : Hid (MkL m.list n W (.int .i64 ((j : Int) + 1)) w2) := ⟨j + 1, ys, hlt, by go_num, HMK.out.no HX.out HQ.out, hROW2, HB2.out⟩
        clear hb2 hROW2 HROW HMK HI
        go_wp2_with fail
        go_roundw
        case rel => exact HREL.out
        case measure => simp [intOf]; omega
      case true =>
        have h9 : x.op = 9 ∨ x.op = 10 := by have := HQ.out; unfold brB at this; simpa using this
        obtain ⟨hf0, hf1⟩ := HO.out.jb j x HX.out h9
        have hnx := HO.out.nx j x HX.out (by omega) (by omega)
        rw [HN.out] at hf1 hnx
        obtain ⟨f, hf⟩ : ∃ f : Nat, x.fb = (f : Int) := ⟨x.fb.toNat, by omega⟩
        have HF := Lib.hid hf
        obtain ⟨⟨s0, hs0⟩, g0⟩ := ownsRow_cellx hROW2 (j + 1) (by omega)
        have hst := (hROW2.stored (j + 1) (.bool true)).1
        rw [← List.map_set] at hst
        obtain ⟨V, hV⟩ : ∃ V, w2.setCell ⟨W.heap.size, j + 1, none⟩ (.bool true) = V := ⟨_, rfl⟩
        rw [hV] at hst
        have hBV : Below W.heap.size W V := by rw [← hV]; exact HB2.out.setCell (p := ⟨W.heap.size, j + 1, none⟩) (Nat.le_refl _) _
        obtain ⟨v2, hNAV⟩ := H.out V hBV
        obtain ⟨b', o', ha', hbl', c0, c1, c2, c3, c4⟩ := hNAV.2 j x HX.out
        rw [ha'] at v2
        rw [hf] at c2
        obtain ⟨⟨s1, hs1⟩, g1⟩ := ownsRow_cellx hst f (by omega)
        have hst2 := (hst.stored f (.bool true)).1
        rw [← List.map_set] at hst2
        have HREL : Hid (MkL m.list n W (.int .i64 ((j : Int) + 1)) (V.setCell ⟨W.heap.size, f, none⟩ (.bool true))) := ⟨j + 1, _, hlt, by go_num, HMK.out.yes HX.out HQ.out HF.out, hst2, hBV.setCell (p := ⟨W.heap.size, f, none⟩) (Nat.le_refl _) _⟩
        obtain ⟨y2, _⟩ := H.out w2 HB2.out
        rw [ha'] at y2
        clear ha'
        have HV := Lib.hid hV
        have hfn : f < n := by omega
        clear hb2 hROW2 HROW HMK HI hst hst2 hBV hNAV h9 hf hV hf0 hf1 c1 c3 c4 e0 e1 e2 e3 e4 c0 z2
        go_wp2_with (first | rw [HV.out] | fail)
        try rw [HV.out]
        go_roundw
        case rel => exact HREL.out
        case measure => simp [intOf]; omega
    · obtain rfl : j = n := by omega
      have HFIN : Hid (MkA m.list j w (.returned (.slice (some ⟨W.heap.size, 0, none⟩) j j)) wr) := by
        have hz := HZ.out
        refine ⟨ys, by rw [hz], HMK.out, by rw [← hz]; exact HROW.out, HB.out.trans (HBR.out.mono (by omega))⟩
      clear HROW HMK hrow hNA
      go_wp2_with fail
      go_ret
      exact HFIN.out

/-- None of the first j marked instructions is another one than a fence. -/
def NoGap (l : List Ins) (n j : Nat) : Prop := ∀ t, t < j → t ∈ bndN l n → okE l t = true
theorem fncL_of {l : List Ins} {n : Nat} (hn : l.length = n) (hok : Okc l) (h : NoGap l n n) : fncL l = true := by
  unfold fncL
  rw [List.all_eq_true, hn]
  intro t ht
  by_cases hlt : t < n
  · exact h t hlt ht
  · unfold okE
    rw [List.getElem?_eq_none (by omega)]
theorem fncL_off {l : List Ins} {n t : Nat} (hn : l.length = n) (ht : t ∈ bndN l n) (h : okE l t = false) : fncL l = false := by
  unfold fncL
  rw [List.all_eq_false, hn]
  exact ⟨t, ht, by rw [h]; decide⟩

set_option maxRecDepth 100000 in
set_option maxHeartbeats 8000000 in
/-- **spec.CodeFenced.** -/
theorem sCf_one (m : Cd) (k : CK) (w : World) (h : CL w m k) : Calls Tryd.prog 13 #[aggC m k] w (YN (fncB m) w) := by
  obtain ⟨W, hW⟩ : ∃ W, w.alloc (.cells (arrC m k) 30) = W := ⟨_, rfl⟩
  have hB : Below w.heap.size w W := by rw [← hW]; exact (Below.refl _ w).alloc (Nat.le_refl _) _
  have hX : BoxC W w.heap.size m k := by rw [← hW]; exact BoxC.new _ _ _ _
  have H : Hid (∀ v, Below W.heap.size W v → BoxC v w.heap.size m k ∧ CL v m k) := fun v hv => ⟨hX.below hv hX.lt, (h.below hB).below hv⟩
  have c0 := hX.c0
  have c1 := hX.c1
  have c2 := hX.c2
  have HW := Lib.hid hW
  have HB := Lib.hid hB
  unfold arrC at HW
  have HV := Lib.hid (sCV_one m k W (h.below hB))
  clear h hB hX hW
  go_enter Tryd.func13, Tryd.ntmps13
  go_wp2_with (first | rw [HW.out] | fail)
  refine HV.out.mono ?_
  rintro e w2 ⟨rfl, hb2⟩
  have HB2 : Hid (Below w.heap.size w w2) := HB.out.trans (hb2.mono HB.out.size)
  have HL2 : Hid (Below W.heap.size W w2) := hb2
  have hz2 := hb2.size
  obtain ⟨q, hq⟩ : ∃ q, codeB m = q := ⟨_, rfl⟩
  have HQ := Lib.hid hq
  rw [hq]
  clear hb2 hq HV c0 c1 c2
  cases q
  case false =>
    have HF : Hid (false = fncB m) := fncB_no HQ.out
    go_wp2_with fail
    go_ret
    exact YN.of HF.out HB2.out
  case true =>
    obtain ⟨n, hn⟩ : ∃ n, m.list.length = n := ⟨_, rfl⟩
    have HN := Lib.hid hn
    have HO := Lib.hid (codeB_ok HQ.out)
    have hle : n ≤ 400 := by rw [← HN.out]; exact HO.out.le
    have x0 := (H.out w2 HL2.out).1.c0
    have x1 := (H.out w2 HL2.out).1.c1
    have x2 := (H.out w2 HL2.out).1.c2
    have HM := Lib.hid (sMk_one m k w2 n hn (H.out w2 HL2.out).2 HO.out)
    clear hn
    go_wp2_with fail
    refine HM.out.mono ?_
    rintro e w3 ⟨ys, rfl, hmk, hown, hb3⟩
    have hL3 : Below W.heap.size W w3 := HL2.out.trans (hb3.mono hz2)
    have HB3 : Hid (Below w.heap.size w w3) := HB2.out.trans (hb3.mono HB2.out.size)
    have y2 : w3.cell? ⟨w.heap.size, 2, none⟩ = some (.slice k.la n k.lc) := by rw [← HN.out]; exact (H.out w3 hL3).1.c2
    have HNA : Hid (NAt w3 (fun b => b < w3.heap.size) m.list k.la) := (H.out w3 hL3).2.2.2
    have HOWN := Lib.hid hown
    have HMK := Lib.hid hmk
    obtain ⟨S, hS⟩ : ∃ S, w2.heap.size + 1 = S := ⟨_, rfl⟩
    rw [hS] at HOWN ⊢
    clear hmk hown hb3 hL3 HM x0 x1 x2 H hS
    go_wp2_with fail
    go_loopw [4] (fun i wr => ∃ j : Nat, j ≤ n ∧ i = .int .i64 j ∧ Hid (NoGap m.list n j) ∧ wr = w3) (fun i _ => n - (intOf i).toNat)
    case atStart => exact ⟨0, Nat.zero_le _, rfl, (fun t ht => absurd ht (Nat.not_lt_zero _) : NoGap m.list n 0), by first | rfl | trivial⟩
    case round =>
      obtain ⟨j, hj, rfl, HI, rfl⟩ := hrel
      by_cases hlt : j < n
      · obtain ⟨x, hx⟩ : ∃ x, m.list[j]? = some x := ⟨m.list[j]'(by rw [HN.out]; exact hlt), List.getElem?_eq_getElem _⟩
        obtain ⟨b, o, ha, hbl, e0, e1, e2, e3, e4⟩ := HNA.out.2 j x hx
        rw [ha] at y2
        have hc := HOWN.out.cellAt j (by omega)
        rw [List.getElem?_map, HMK.out.2 j hlt] at hc
        obtain ⟨d, hd⟩ : ∃ d, decide (j ∈ bndN m.list n) = d := ⟨_, rfl⟩
        rw [hd] at hc
        have hc' : wr.cell? ⟨S, j, none⟩ = some (.bool d) := hc
        have HD := Lib.hid hd
        have HX := Lib.hid hx
        clear hx hc hd ha HOWN HMK HNA e1 e2 e3 e4
        cases d
        case false =>
          have HI2 : Hid (NoGap m.list n (j + 1)) := fun t ht hm => by
            by_cases e : t = j
            · subst e
              have := HD.out
              simp at this
              exact absurd hm this
            · exact HI.out t (by omega) hm
          go_wp2_with fail
          go_roundw
          case rel => exact ⟨j + 1, by omega, by go_num, HI2, trivial⟩
          case measure => simp [intOf]; omega
        case true =>
          have hmem : j ∈ bndN m.list n := by simpa using HD.out
          by_cases h12 : x.op = 12
          · have b12 : (x.op != 12) = false := by simpa using h12
            have HI2 : Hid (NoGap m.list n (j + 1)) := fun t ht hm => by
              by_cases e : t = j
              · subst e
                rw [okE_at HX.out]; simpa using h12
              · exact HI.out t (by omega) hm
            clear h12 hmem
            go_wp2_with fail
            go_roundw
            case rel => exact ⟨j + 1, by omega, by go_num, HI2, trivial⟩
            case measure => simp [intOf]; omega
          · have b12 : (x.op != 12) = true := by simpa using h12
            have HF : Hid (false = fncB m) := fncB_yes HQ.out (fncL_off HN.out hmem (by rw [okE_at HX.out]; simpa using h12))
            clear h12 hmem
            go_wp2_with fail
            go_ret
            exact YN.of HF.out HB3.out
      · obtain rfl : j = n := by omega
        have HF : Hid (true = fncB m) := fncB_yes HQ.out (fncL_of HN.out HO.out HI.out)
        clear HI
        go_wp2_with fail
        go_ret
        exact YN.of HF.out HB3.out

end Go.Proofs.YtodihpnnajlkdaaDoor

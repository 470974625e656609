/- The program's FormatCode, walked: it answers as its model; nothing that was there has changed. Condition: the tables of forms, of letters and of powers lie as the program's text lays them. -/
import Derived.Test.YtleomemalgfmoaaDoorCfW
import Derived.Test.YtleomemalgfmoaaDoorCfT
import Derived.Test.YtleomemalgfmoaaDoorCvJ
import Derived.Test.YtleomemalgfmoaaDoorIFmt
namespace Go.Proofs.YtleomemalgfmoaaDoor
open Go.RowKit Go.Shelf
set_option linter.unusedVariables false

/-- The three tables lie as they were laid. -/
def TabC (w : World) : Prop := TblF w ∧ Tbl w ∧ TabP w ∧ 0 < w.heap.size ∧ 1 < w.heap.size
theorem TabC.below {w w' : World} (h : TabC w) (hb : Below w.heap.size w w') : TabC w' := ⟨h.1.below hb h.2.2.2.1, h.2.1.below hb h.2.2.2.2, h.2.2.1.below hb h.2.2.1.2, Nat.lt_of_lt_of_le h.2.2.2.1 hb.size, Nat.lt_of_lt_of_le h.2.2.2.2 hb.size⟩

set_option maxRecDepth 100000 in
set_option maxHeartbeats 8000000 in
/-- **impl.FormatCode.** -/
theorem iFC_one (m : Cd) (k : CK) (w : World) (h : CL w m k) (hT : TabC w) :
    Calls Tryd.prog 12 #[aggC m k] w (Txt (fmtC m) w) := by
  have hl := h.2.2.1
  unfold maxLen at hl
  have H : Hid (∀ v, Below w.heap.size w v → CL v m k ∧ TabC v) := fun v hv => ⟨h.below hv, hT.below hv⟩
  clear h hT
  have HB := Lib.hid ((Below.refl w.heap.size w).alloc (Nat.le_refl _) (.cells (arrC m k) 30))
  have HX := Lib.hid (BoxC.new w m k 30)
  go_enter Tryd.func12, Tryd.ntmps12
  go_wp2_with fail
  obtain ⟨W, hW⟩ : ∃ W, w.alloc (.cells (arrC m k) 30) = W := ⟨_, rfl⟩
  unfold arrC at hW
  rw [hW] at HB HX ⊢
  clear hW
  refine (iCV_one m k W (H.out _ HB.out).1 (H.out _ HB.out).2.1).mono ?_
  rintro e u ⟨rfl, hb2⟩
  have HBU := Lib.hid (HB.out.trans (hb2.mono HB.out.size))
  have HX2 := Lib.hid (HX.out.below hb2 HX.out.lt)
  clear hb2 HX HB
  cases hq : codeB m
  case false =>
    have HN : Hid (fmtC m = []) := fmtC_no hq
    clear hq
    go_wp2_with fail
    go_ret
    exact ⟨by rw [HN.out] <;> rfl, HBU.out⟩
  case true =>
  have HQ := Lib.hid hq
  obtain ⟨hv12, ha2, hl400, _, _⟩ := codeB_bounds hq
  have HFIN : Hid (codeP m m.list.length = fmtC m) := (fmtC_yes hq).symm
  obtain ⟨n, hn⟩ : ∃ n, m.list.length = n := ⟨_, rfl⟩
  have HN := Lib.hid hn
  have HC : Hid (∀ v, Below u.heap.size u v → (v.cell? ⟨w.heap.size, 0, none⟩ = some (.slice k.va m.vars.length k.vc) ∧ v.cell? ⟨w.heap.size, 1, none⟩ = some (.slice k.aa m.arrs.length k.ac) ∧ v.cell? ⟨w.heap.size, 2, none⟩ = some (.slice k.la n k.lc))) := fun v hv => by
    have b := HX2.out.below hv HX2.out.lt
    have c2 := b.c2
    rw [HN.out] at c2
    exact ⟨b.c0, b.c1, c2⟩
  have HE : Hid (∀ v, Below u.heap.size u v → ∀ i, i < n → ∃ x b o, m.list[i]? = some x ∧ k.la = some ⟨b, o, none⟩ ∧ b < u.heap.size ∧ v.cell? ⟨b, o + i * 5, none⟩ = some (.int .i64 x.op) ∧ v.cell? ⟨b, o + i * 5 + 1, none⟩ = some (.int .i64 x.fa) ∧ v.cell? ⟨b, o + i * 5 + 2, none⟩ = some (.int .i64 x.fb) ∧ v.cell? ⟨b, o + i * 5 + 3, none⟩ = some (.int .i64 x.fc) ∧ v.cell? ⟨b, o + i * 5 + 4, none⟩ = some (.int .i64 x.fd)) := fun v hv i hi => by
    obtain ⟨x, b, o, hx, ha, hbl, e0, e1, e2, e3, e4⟩ := (H.out u HBU.out).1.at (i := i) (by rw [HN.out]; exact hi)
    exact ⟨x, b, o, hx, ha, hbl, (hv.cell (p := ⟨b, o + i * 5, none⟩) hbl).trans e0, (hv.cell (p := ⟨b, o + i * 5 + 1, none⟩) hbl).trans e1, (hv.cell (p := ⟨b, o + i * 5 + 2, none⟩) hbl).trans e2, (hv.cell (p := ⟨b, o + i * 5 + 3, none⟩) hbl).trans e3, (hv.cell (p := ⟨b, o + i * 5 + 4, none⟩) hbl).trans e4⟩
  have HTC : Hid (∀ v, Below u.heap.size u v → CL v m k ∧ TabC v) := fun v hv => H.out v (HBU.out.trans (hv.mono HBU.out.size))
  obtain ⟨t1, ht1⟩ : ∃ t, fmtL m.vars = t := ⟨_, rfl⟩
  obtain ⟨t2, ht2⟩ : ∃ t, fmtL m.arrs = t := ⟨_, rfl⟩
  have hs1 := fmtL_small m.vars
  have hs2 := fmtL_small m.arrs
  rw [ht1] at hs1
  rw [ht2] at hs2
  have HT1 := Lib.hid ht1
  have HT2 := Lib.hid ht2
  have HH : Hid (([] : List UInt8) ++ [99, 111, 100, 101, 32] ++ t1 ++ [47] ++ t2 ++ [10] = codeP m 0) := by
    have : ([] : List UInt8) ++ [99, 111, 100, 101, 32] ++ t1 ++ [47] ++ t2 ++ [10] = codeP m 0 := by rw [codeP, codeH, ht1, ht2]; rfl
    exact this
  have hnn : n ≤ 400 := by omega
  have hB0 : Below u.heap.size u (u.alloc (.cells #[.pointer none, .slice none 0 0] 70)) := (Below.refl _ u).alloc (Nat.le_refl _) _
  have hi0 : IsB u.heap.size u.heap.size [] (u.alloc (.cells #[.pointer none, .slice none 0 0] 70)) := by
    have e := heap_alloc_new u (.cells #[.pointer none, .slice none 0 0] 70)
    exact .inl ⟨Nat.le_refl _, .slice none 0 0, e, World.ownsRowF_nil _ _ _ _, by simp [Value.ownBlock]⟩
  have HB0 := Lib.hid hB0
  have HI0 := Lib.hid hi0
  clear hq hn ht1 ht2 H HX2 hB0 hi0
  go_wp2_with fail
  obtain ⟨W0, hW0⟩ : ∃ W0, u.alloc (.cells #[.pointer none, .slice none 0 0] 70) = W0 := ⟨_, rfl⟩
  rw [hW0] at HB0 HI0 ⊢
  clear hW0
  refine (wStr u.heap.size u.heap.size _ [99, 111, 100, 101, 32] _ HI0.out (by simp) (by first | omega | (simp; omega) | simp) HB0.out.size).mono ?_
  rintro e v1 ⟨rfl, hi1, hb1, hk1⟩
  have HI1 : Hid (IsB u.heap.size u.heap.size ([] ++ [99, 111, 100, 101, 32]) v1) := hi1
  have HB1 := Lib.hid (HB0.out.trans hb1)
  clear hi1 hb1 hk1
  obtain ⟨c0, _, _⟩ := HC.out v1 HB1.out
  go_wp2_with fail
  refine (iFormat_one k.va m.vars.length k.vc m.vars v1 (HTC.out v1 HB1.out).1.1.slice (by omega) (HTC.out v1 HB1.out).2.2.1 (HTC.out v1 HB1.out).2.2.2.2.2).mono ?_
  rintro e y1 ⟨rfl, hf1⟩
  rw [HT1.out]
  have HIy1 := Lib.hid (isB_kept HI1.out (Lib.grownBy_below (grown_refl v1) hf1))
  have HBy1 := Lib.hid (HB1.out.trans (hf1.mono HB1.out.size))
  clear hf1 c0
  go_wp2_with fail
  refine (wStr u.heap.size u.heap.size _ t1 _ HIy1.out (by simp) (by first | omega | (simp; omega) | simp) HBy1.out.size).mono ?_
  rintro e v2 ⟨rfl, hi2, hb2, hk2⟩
  have HI2 : Hid (IsB u.heap.size u.heap.size ([] ++ [99, 111, 100, 101, 32] ++ t1) v2) := hi2
  have HB2 := Lib.hid (HBy1.out.trans hb2)
  clear hi2 hb2 hk2
  go_wp2_with fail
  refine (wByte u.heap.size u.heap.size _ 47 _ HI2.out (by simp; omega) HB2.out.size).mono ?_
  rintro e v3 ⟨rfl, hi3, hb3, hk3⟩
  have HI3 : Hid (IsB u.heap.size u.heap.size ([] ++ [99, 111, 100, 101, 32] ++ t1 ++ [47]) v3) := hi3
  have HB3 := Lib.hid (HB2.out.trans hb3)
  clear hi3 hb3 hk3
  obtain ⟨_, c1, _⟩ := HC.out v3 HB3.out
  go_wp2_with fail
  refine (iFormat_one k.aa m.arrs.length k.ac m.arrs v3 (HTC.out v3 HB3.out).1.2.1.slice (by omega) (HTC.out v3 HB3.out).2.2.1 (HTC.out v3 HB3.out).2.2.2.2.2).mono ?_
  rintro e y3 ⟨rfl, hf3⟩
  rw [HT2.out]
  have HIy3 := Lib.hid (isB_kept HI3.out (Lib.grownBy_below (grown_refl v3) hf3))
  have HBy3 := Lib.hid (HB3.out.trans (hf3.mono HB3.out.size))
  clear hf3 c1
  go_wp2_with fail
  refine (wStr u.heap.size u.heap.size _ t2 _ HIy3.out (by simp; omega) (by first | omega | (simp; omega) | simp) HBy3.out.size).mono ?_
  rintro e v4 ⟨rfl, hi4, hb4, hk4⟩
  have HI4 : Hid (IsB u.heap.size u.heap.size ([] ++ [99, 111, 100, 101, 32] ++ t1 ++ [47] ++ t2) v4) := hi4
  have HB4 := Lib.hid (HBy3.out.trans hb4)
  clear hi4 hb4 hk4
  go_wp2_with fail
  refine (wByte u.heap.size u.heap.size _ 10 _ HI4.out (by simp; omega) HB4.out.size).mono ?_
  rintro e v5 ⟨rfl, hi5, hb5, hk5⟩
  have HI5 : Hid (IsB u.heap.size u.heap.size ([] ++ [99, 111, 100, 101, 32] ++ t1 ++ [47] ++ t2 ++ [10]) v5) := hi5
  have HB5 := Lib.hid (HB4.out.trans hb5)
  clear hi5 hb5 hk5
  have HI6 : Hid (IsB u.heap.size u.heap.size (codeP m 0) v5) := by
    have : IsB u.heap.size u.heap.size (codeP m 0) v5 := by rw [← HH.out]; exact HI5.out
    exact this
  obtain ⟨_, _, c2⟩ := HC.out v5 HB5.out
  go_wp2_with fail
  clear c2
  go_loopw [23] (fun i wr => ∃ j : Nat, j ≤ n ∧ i = .int .i64 j ∧ Hid (IsB u.heap.size u.heap.size (codeP m j) wr) ∧ Below u.heap.size u wr) (fun i _ => n - (intOf i).toNat)
  case atStart => exact ⟨0, Nat.zero_le _, rfl, HI6, HB5.out⟩
  case round =>
    obtain ⟨j, hj, rfl, HIR, hb⟩ := hrel
    have HBR := Lib.hid hb
    have hlen := codeP_len HQ.out j (by rw [HN.out]; exact hj)
    have hzr := HBR.out.size
    clear hb
    by_cases hlt : j < n
    · obtain ⟨x, b, o, hx, ha, hbl, e0, e1, e2, e3, e4⟩ := HE.out wr HBR.out j hlt
      rw [ha]
      obtain ⟨g1, g2, g3, g4⟩ := codeB_ins HQ.out hx
      have HG3 := Lib.hid g3
      have HS := Lib.hid (codeP_succ hx)
      have HB7 : Hid (Below u.heap.size u (wr.alloc (.cells #[.int .i64 x.op, .int .i64 x.fa, .int .i64 x.fb, .int .i64 x.fc, .int .i64 x.fd] 57))) := HBR.out.alloc hzr _
      have HI7 := Lib.hid (isB_kept HIR.out (World.grownBy_alloc wr (.cells #[.int .i64 x.op, .int .i64 x.fa, .int .i64 x.fb, .int .i64 x.fc, .int .i64 x.fd] 57) none))
      have hbx : b < wr.heap.size := by omega
      clear hx ha g3
      go_wp2_with fail
      obtain ⟨W7, hW7⟩ : ∃ W7, wr.alloc (.cells #[.int .i64 x.op, .int .i64 x.fa, .int .i64 x.fb, .int .i64 x.fc, .int .i64 x.fd] 57) = W7 := ⟨_, rfl⟩
      rw [hW7] at HB7 HI7 ⊢
      clear hW7
      have hTC := (HTC.out W7 HB7.out).2
      have hTU := (HTC.out u (Below.refl _ _)).2
      refine (write_one x u.heap.size u.heap.size (codeP m j) W7 g1 g2 HG3.out HI7.out (by omega) hTC.1 hTC.2.2.1 hTU.2.2.2.1 hTU.2.2.1.2 HB7.out.size).mono ?_
      rintro e w8 ⟨rfl, hi8, hb8, hk8⟩
      have HI8 : Hid (IsB u.heap.size u.heap.size (codeP m (j + 1)) w8) := by
        have : IsB u.heap.size u.heap.size (codeP m (j + 1)) w8 := by rw [HS.out]; exact hi8
        exact this
      have HB8 := Lib.hid (HB7.out.trans hb8)
      clear hi8 hb8 hk8 hTC hTU e0 e1 e2 e3 e4
      go_wp2_with fail
      go_roundw
      case rel => exact ⟨j + 1, by omega, by go_num, HI8, HB8.out⟩
      case measure => simp [intOf]; omega
    · obtain rfl : j = n := by omega
      obtain ⟨t, ht⟩ : ∃ t, codeP m j = t := ⟨_, rfl⟩
      have HT : Hid (t = fmtC m) := by
        have : t = fmtC m := by rw [← HFIN.out, HN.out, ht]
        exact this
      rw [ht] at HIR hlen
      clear ht
      go_wp2_with fail
      refine (Tryd.Builder_String_any_k u.heap.size u.heap.size t _ HIR.out HBR.out.size).mono ?_
      rintro f w6 ⟨rfl, hbd6, hb6, hk6⟩
      have HB6 := Lib.hid (HBU.out.trans ((HBR.out.trans hb6).mono HBU.out.size))
      clear hbd6 hb6 hk6
      go_wp2_with fail
      go_ret
      exact ⟨by rw [← HT.out] <;> rfl, HB6.out⟩

end Go.Proofs.YtleomemalgfmoaaDoor

/- spec's FormatCode, walked: it returns the text of a valid code, and the empty text otherwise; nothing that was there has changed. -/
import Derived.Test.YtleomemalgfmoaaDoorCfS
import Derived.Test.YtleomemalgfmoaaDoorCvU
import Derived.BigQuiet
import Derived.Deep.QuietTactic
namespace Go.Proofs.YtleomemalgfmoaaDoor
open Go.RowKit
set_option linter.unusedVariables false

theorem fmtL_small (xs : List Int) : (fmtL xs).length ≤ xs.length := by
  unfold fmtL
  split
  · simp [L8]
  · simp
theorem codeH_len {c : Cd} (h1 : c.vars.length ≤ 12) (h2 : c.arrs.length ≤ 2) : (codeH c).length ≤ 40 := by
  have a := fmtL_small c.vars
  have b := fmtL_small c.arrs
  unfold codeH
  simp only [List.length_append, List.length_cons, List.length_nil]
  omega
theorem insT_len {x : Ins} (h : ∀ j, j < 4 → 0 ≤ x.part j ∧ x.part j ≤ 400) : (insT x).length ≤ 92 := by
  have := insP_len h 4 (Nat.le_refl _)
  unfold insT
  simp only [List.length_append, List.length_cons, List.length_nil]
  omega
theorem codeP_len {c : Cd} (hc : codeB c = true) : ∀ k, k ≤ c.list.length → (codeP c k).length ≤ 40 + 92 * k
  | 0, _ => by
    obtain ⟨h1, h2, _⟩ := codeB_bounds hc
    have := codeH_len h1 h2
    simp only [codeP]; omega
  | k + 1, hk => by
    have ih := codeP_len hc k (by omega)
    obtain ⟨h1, h2, h3, _, h5⟩ := codeB_bounds hc
    have hx : c.list[k]? = some c.list[k] := List.getElem?_eq_getElem _
    have hv := List.all_eq_true.1 h5 _ (List.mem_of_getElem? hx)
    rw [codeP_succ hx, List.length_append]
    have := insT_len (x := c.list[k]) fun j hj => insB_part hv (by omega) (by omega) (by omega) j hj
    omega
/-- What is known of an instruction of a valid code. -/
theorem codeB_ins {c : Cd} (hc : codeB c = true) {k : Nat} {x : Ins} (hx : c.list[k]? = some x) : 1 ≤ x.op ∧ x.op ≤ 13 ∧ (∀ j, j < 4 → 0 ≤ x.part j ∧ x.part j ≤ 400) ∧ (insT x).length ≤ 92 := by
  obtain ⟨h1, h2, h3, _, h5⟩ := codeB_bounds hc
  have hv := List.all_eq_true.1 h5 _ (List.mem_of_getElem? hx)
  have hp := insB_part hv (by omega) (by omega) (by omega)
  exact ⟨(insB_op hv).1, (insB_op hv).2, fun j hj => hp j hj, insT_len fun j hj => hp j hj⟩
theorem fmtC_no {c : Cd} (h : codeB c = false) : fmtC c = [] := by unfold fmtC; rw [h]; rfl
theorem fmtC_yes {c : Cd} (h : codeB c = true) : fmtC c = codeP c c.list.length := by unfold fmtC; rw [h]; rfl

set_option maxRecDepth 100000 in
set_option maxHeartbeats 8000000 in
/-- **spec.FormatCode.** -/
theorem sFC_one (m : Cd) (k : CK) (w : World) (h : CL w m k) :
    Calls Tryd.prog 11 #[aggC m k] w (Txt (fmtC m) w) := by
  have hl := h.2.2.1
  unfold maxLen at hl
  have H : Hid (∀ v, Below w.heap.size w v → CL v m k) := fun v hv => h.below hv
  clear h
  have HB := Lib.hid ((Below.refl w.heap.size w).alloc (Nat.le_refl _) (.cells (arrC m k) 30))
  have HX := Lib.hid (BoxC.new w m k 30)
  go_enter Tryd.func11, Tryd.ntmps11
  go_wp2_with fail
  obtain ⟨W, hW⟩ : ∃ W, w.alloc (.cells (arrC m k) 30) = W := ⟨_, rfl⟩
  unfold arrC at hW
  rw [hW] at HB HX ⊢
  clear hW
  refine (sCV_one m k W (H.out _ HB.out)).mono ?_
  rintro e w2 ⟨rfl, hb2⟩
  have HB2 := Lib.hid (HB.out.trans (hb2.mono HB.out.size))
  have HX2 := Lib.hid (HX.out.below hb2 HX.out.lt)
  clear hb2 HX HB
  cases hq : codeB m
  case false =>
    have HN : Hid (fmtC m = []) := fmtC_no hq
    clear hq
    go_wp2_with fail
    go_ret
    exact ⟨by rw [HN.out] <;> rfl, HB2.out⟩
  case true =>
  have HQ := Lib.hid hq
  obtain ⟨hv12, ha2, hl400, _, _⟩ := codeB_bounds hq
  have HFIN : Hid (codeP m m.list.length = fmtC m) := (fmtC_yes hq).symm
  obtain ⟨n, hn⟩ : ∃ n, m.list.length = n := ⟨_, rfl⟩
  have HN := Lib.hid hn
  have HC : Hid (∀ v, Below w2.heap.size w2 v → (v.cell? ⟨w.heap.size, 0, none⟩ = some (.slice k.va m.vars.length k.vc) ∧ v.cell? ⟨w.heap.size, 1, none⟩ = some (.slice k.aa m.arrs.length k.ac) ∧ v.cell? ⟨w.heap.size, 2, none⟩ = some (.slice k.la n k.lc))) := fun v hv => by
    have b := HX2.out.below hv HX2.out.lt
    have c2 := b.c2
    rw [HN.out] at c2
    exact ⟨b.c0, b.c1, c2⟩
  have HE : Hid (∀ v, Below w2.heap.size w2 v → ∀ i, i < n → ∃ x b o, m.list[i]? = some x ∧ k.la = some ⟨b, o, none⟩ ∧ b < v.heap.size ∧ v.cell? ⟨b, o + i * 5, none⟩ = some (.int .i64 x.op) ∧ v.cell? ⟨b, o + i * 5 + 1, none⟩ = some (.int .i64 x.fa) ∧ v.cell? ⟨b, o + i * 5 + 2, none⟩ = some (.int .i64 x.fb) ∧ v.cell? ⟨b, o + i * 5 + 3, none⟩ = some (.int .i64 x.fc) ∧ v.cell? ⟨b, o + i * 5 + 4, none⟩ = some (.int .i64 x.fd)) := fun v hv i hi => (H.out v (HB2.out.trans (hv.mono HB2.out.size))).at (by rw [HN.out]; exact hi)
  have HF1 : Hid (∀ u, Below w2.heap.size w2 u → Calls Tryd.prog 32 #[.slice k.va m.vars.length k.vc] u (fun e w' => e = .returned (.string ⟨(fmtL m.vars).toArray⟩) ∧ Below w2.heap.size w2 w')) := fun u hu =>
    (sFormat_one k.va m.vars.length k.vc m.vars u (H.out u (HB2.out.trans (hu.mono HB2.out.size))).1.slice (by omega)).mono fun e w' ⟨h1, q, h2⟩ => ⟨h1, by rw [h2]; exact below_drewC hu q⟩
  have HF2 : Hid (∀ u, Below w2.heap.size w2 u → Calls Tryd.prog 32 #[.slice k.aa m.arrs.length k.ac] u (fun e w' => e = .returned (.string ⟨(fmtL m.arrs).toArray⟩) ∧ Below w2.heap.size w2 w')) := fun u hu =>
    (sFormat_one k.aa m.arrs.length k.ac m.arrs u (H.out u (HB2.out.trans (hu.mono HB2.out.size))).2.1.slice (by omega)).mono fun e w' ⟨h1, q, h2⟩ => ⟨h1, by rw [h2]; exact below_drewC hu q⟩
  obtain ⟨c0, c1, c2⟩ := HC.out w2 (Below.refl _ _)
  obtain ⟨t1, ht1⟩ : ∃ t, fmtL m.vars = t := ⟨_, rfl⟩
  obtain ⟨t2, ht2⟩ : ∃ t, fmtL m.arrs = t := ⟨_, rfl⟩
  have hs1 := fmtL_small m.vars
  have hs2 := fmtL_small m.arrs
  rw [ht1] at HF1 hs1
  rw [ht2] at HF2 hs2
  have HH : Hid (codeP m 0 = ([99, 111, 100, 101, 32] : List UInt8) ++ t1 ++ [47] ++ t2 ++ [10]) := by
    have : codeP m 0 = ([99, 111, 100, 101, 32] : List UInt8) ++ t1 ++ [47] ++ t2 ++ [10] := by rw [codeP, codeH, ht1, ht2]
    exact this
  have q1 : ¬ 9223372036854775807 < 5 + t1.length := by omega
  have q2 : ¬ 9223372036854775807 < 5 + t1.length + 1 := by omega
  have q3 : ¬ 9223372036854775807 < 5 + t1.length + 1 + t2.length := by omega
  have q4 : ¬ 9223372036854775807 < 5 + t1.length + 1 + t2.length + 1 := by omega
  have hnn : n ≤ 400 := by omega
  clear hq hn ht1 ht2 H HX2
  go_wp2_with fail
  have HS5 : Hid (∀ v, Below w2.heap.size w2 v → v.cell? ⟨w.heap.size, 0, none⟩ = some (.slice k.va m.vars.length k.vc) ∧ v.cell? ⟨w.heap.size, 1, none⟩ = some (.slice k.aa m.arrs.length k.ac)) := fun v hv => ⟨(HC.out v hv).1, (HC.out v hv).2.1⟩
  have HBD : Hid (Below w2.heap.size w2 w2.drew) := (Below.refl _ _).drew
  clear c2
  go_region_held3 (fun v => v.cell? ⟨w.heap.size, 0, none⟩ = some (.slice k.va m.vars.length k.vc) ∧ v.cell? ⟨w.heap.size, 1, none⟩ = some (.slice k.aa m.arrs.length k.ac)) (first | assumption | exact ⟨c0, c1⟩)
    (first
    | (go_at_call 32; (with_reducible refine (HF1.out w2.drew HBD.out).mono ?_); rintro f u1 ⟨rfl, hA⟩; have hS1 := HS5.out _ hA)
    | (go_at_call 32; (with_reducible refine (HF2.out u1 hA).mono ?_); rintro f u2 ⟨rfl, hC⟩; have hS2 := HS5.out _ hC)
    | fail)
  have HU2 := Lib.hid hC
  have HSTR : Hid ((⟨#[99, 111, 100, 101, 32]⟩ : ByteArray) ++ ⟨t1.toArray⟩ ++ ⟨#[47]⟩ ++ ⟨t2.toArray⟩ ++ ⟨#[10]⟩ = ⟨(codeP m 0).toArray⟩) := by
    have : (⟨#[99, 111, 100, 101, 32]⟩ : ByteArray) ++ ⟨t1.toArray⟩ ++ ⟨#[47]⟩ ++ ⟨t2.toArray⟩ ++ ⟨#[10]⟩ = ⟨(codeP m 0).toArray⟩ := by
      rw [HH.out, ← cat_arr, ← cat_arr, ← cat_arr, ← cat_arr]
    exact this
  clear hA hC hS1 hS2 c0 c1 hs1 hs2 q1 q2 q3 q4
  go_wp2_with fail
  rw [HSTR.out]
  go_loopw [3, 4] (fun o i wr => ∃ j : Nat, j ≤ n ∧ i = .int .i64 j ∧ o = .string ⟨(codeP m j).toArray⟩ ∧ Below w2.heap.size w2 wr) (fun _ i _ => n - (intOf i).toNat)
  case atStart => exact ⟨0, Nat.zero_le _, rfl, rfl, HU2.out⟩
  case round =>
    obtain ⟨j, hj, rfl, rfl, hb⟩ := hrel
    have HBR := Lib.hid hb
    obtain ⟨c0, c1, c2⟩ := HC.out wr hb
    have hlen := codeP_len HQ.out j (by rw [HN.out]; exact hj)
    obtain ⟨t, ht⟩ : ∃ t, codeP m j = t := ⟨_, rfl⟩
    rw [ht] at hlen ⊢
    have HT := Lib.hid ht
    clear hb ht
    by_cases hlt : j < n
    · obtain ⟨x, b, o, hx, ha, hbl, e0, e1, e2, e3, e4⟩ := HE.out wr HBR.out j hlt
      rw [ha] at c2
      obtain ⟨g1, g2, g3, g4⟩ := codeB_ins HQ.out hx
      have HG3 := Lib.hid g3
      have HS := Lib.hid (codeP_succ hx)
      obtain ⟨l, hl⟩ : ∃ l, insT x = l := ⟨_, rfl⟩
      rw [hl] at g4 HS
      have HL := Lib.hid hl
      have hszr := HBR.out.size
      have hl2 : ¬ 9223372036854775807 < t.length + l.length := by omega
      clear hx ha g3 hl
      go_wp2_with fail
      refine (l6Line_one x wr g1 g2 HG3.out).mono ?_
      rintro e w4 ⟨rfl, hb4⟩
      rw [HL.out]
      have HB4 : Hid (Below w2.heap.size w2 w4) := HBR.out.trans (hb4.mono hszr)
      clear hb4 e0 e1 e2 e3 e4
      go_wp2_with fail
      go_roundw
      case rel => exact ⟨j + 1, by omega, by go_num, by rw [HS.out, HT.out]; exact congrArg Value.string (cat_arr t l), HB4.out⟩
      case measure => simp [intOf]; omega
    · obtain rfl : j = n := by omega
      have HE2 : Hid (t = fmtC m) := by
        have : t = fmtC m := by rw [← HFIN.out, HN.out, HT.out]
        exact this
      go_wp2_with fail
      go_ret
      refine ⟨?_, HB2.out.trans (HBR.out.mono HB2.out.size)⟩
      rw [← HE2.out] <;> rfl

end Go.Proofs.YtleomemalgfmoaaDoor

/- spec's CodeValid, walked: it answers what the plain function says; nothing that was there has changed. -/
import Derived.Test.YtbifbmpflhdijaaDoorCvT
import Derived.Test.YtbifbmpflhdijaaDoorHdC
namespace Go.Proofs.YtbifbmpflhdijaaDoor
open Go.RowKit
set_option linter.unusedVariables false

theorem codeB_no1 {c : Cd} (h : headsB c.heads = false) : false = codeB c := by unfold codeB; rw [h]; rfl
theorem codeB_no2 {c : Cd} (h : ¬ (1 ≤ c.list.length ∧ c.list.length ≤ 400)) : false = codeB c := by
  unfold codeB
  rw [show (decide (1 ≤ c.list.length) && decide (c.list.length ≤ 400)) = false by simp; omega]
  simp
theorem codeB_no3 {c : Cd} (h : c.list.all (insB c.vars.length c.arrs.length c.list.length) = false) : false = codeB c := by unfold codeB; rw [h]; simp
theorem codeB_yes {c : Cd} (h1 : headsB c.heads = true) (h2 : 1 ≤ c.list.length) (h3 : c.list.length ≤ 400) (h4 : c.list.all (insB c.vars.length c.arrs.length c.list.length) = true) : lastB c.list = codeB c := by
  unfold codeB
  rw [h1, h4, decide_eq_true h2, decide_eq_true h3]
  simp
/-- The declarations of a code, as a program's. -/
theorem CL.ints {w : World} {m : Cd} {k : CK} (h : CL w m k) : IntsAt w (fun b => b < w.heap.size) m.vars k.va ∧ IntsAt w (fun b => b < w.heap.size) m.arrs k.aa := ⟨h.1.2, h.2.1.2⟩
theorem CL.at {w : World} {m : Cd} {k : CK} (h : CL w m k) {i : Nat} (hi : i < m.list.length) : ∃ x b o, m.list[i]? = some x ∧ k.la = some ⟨b, o, none⟩ ∧ b < w.heap.size ∧ w.cell? ⟨b, o + i * 5, none⟩ = some (.int .i64 x.op) ∧ w.cell? ⟨b, o + i * 5 + 1, none⟩ = some (.int .i64 x.fa) ∧ w.cell? ⟨b, o + i * 5 + 2, none⟩ = some (.int .i64 x.fb) ∧ w.cell? ⟨b, o + i * 5 + 3, none⟩ = some (.int .i64 x.fc) ∧ w.cell? ⟨b, o + i * 5 + 4, none⟩ = some (.int .i64 x.fd) := by
  have hx : m.list[i]? = some m.list[i] := List.getElem?_eq_getElem _
  obtain ⟨b, o, ha, hb, e0, e1, e2, e3, e4⟩ := h.2.2.2 i _ hx
  exact ⟨_, b, o, hx, ha, hb, e0, e1, e2, e3, e4⟩

set_option maxRecDepth 100000 in
set_option maxHeartbeats 8000000 in
/-- **spec.CodeValid.** -/
theorem sCV_one (m : Cd) (k : CK) (w : World) (h : CL w m k) :
    Calls Tryd.prog 35 #[aggC m k] w (YN (codeB m) w) := by
  have hl := h.2.2.1
  have HVL := Lib.hid h.1.1
  have HAL := Lib.hid h.2.1.1
  have HLL := Lib.hid h.2.2.1
  unfold maxLen at hl
  have H : Hid (∀ v, Below w.heap.size w v → CL v m k) := fun v hv => h.below hv
  clear h
  have HB := Lib.hid ((Below.refl w.heap.size w).alloc (Nat.le_refl _) (.cells (arrC m k) 29))
  have HX := Lib.hid (BoxC.new w m k 29)
  go_enter Tryd.func35, Tryd.ntmps35
  go_wp2_with fail
  obtain ⟨W, hW⟩ : ∃ W, w.alloc (.cells (arrC m k) 29) = W := ⟨_, rfl⟩
  unfold arrC at hW
  rw [hW] at HB HX ⊢
  clear hW
  refine (l6Heads_one m k W).mono ?_
  rintro e w1 ⟨rfl, hb1⟩
  have HB1 := Lib.hid (HB.out.trans (hb1.mono HB.out.size))
  have HX1 := Lib.hid (HX.out.below hb1 HX.out.lt)
  clear hb1 HX HB
  go_wp2_with fail
  have hc := H.out w1 HB1.out
  refine (sHeads_raw m.heads ⟨k.va, k.vc, k.aa, k.ac, none, 0⟩ maxLen maxLen (fun b => b < w1.heap.size) w1 HVL.out (Nat.le_refl _) hc.ints.1 HAL.out (Nat.le_refl _) hc.ints.2 (fun _ x => x)).mono ?_
  rintro e w2 ⟨rfl, hb2⟩
  have HB2 := Lib.hid (HB1.out.trans (hb2.mono HB1.out.size))
  have HX2 := Lib.hid (HX1.out.below hb2 HX1.out.lt)
  clear hb2 hc HX1 HB1
  cases hq : headsB m.heads
  case false =>
    have HN : Hid (false = codeB m) := codeB_no1 hq
    clear hq
    go_wp2_with fail
    go_ret
    exact YN.of HN.out HB2.out
  case true =>
  have HQ := Lib.hid hq
  clear hq
  obtain ⟨n, hn⟩ : ∃ n, m.list.length = n := ⟨_, rfl⟩
  rw [hn] at hl ⊢
  have HN := Lib.hid hn
  by_cases g1 : n < 1
  · have HNO : Hid (false = codeB m) := codeB_no2 (by rw [hn]; omega)
    clear hn
    go_wp2_with fail
    go_ret
    exact YN.of HNO.out HB2.out
  by_cases g2 : 400 < n
  · have HNO : Hid (false = codeB m) := codeB_no2 (by rw [hn]; omega)
    clear hn
    go_wp2_with fail
    go_ret
    exact YN.of HNO.out HB2.out
  have HC : Hid (∀ v, Below w2.heap.size w2 v → (v.cell? ⟨w.heap.size, 0, none⟩ = some (.slice k.va m.vars.length k.vc) ∧ v.cell? ⟨w.heap.size, 1, none⟩ = some (.slice k.aa m.arrs.length k.ac) ∧ v.cell? ⟨w.heap.size, 2, none⟩ = some (.slice k.la n k.lc))) := fun v hv => by
    have b := HX2.out.below hv HX2.out.lt
    have c2 := b.c2
    rw [HN.out] at c2
    exact ⟨b.c0, b.c1, c2⟩
  have HE : Hid (∀ v, Below w2.heap.size w2 v → ∀ i, i < n → ∃ x b o, m.list[i]? = some x ∧ k.la = some ⟨b, o, none⟩ ∧ b < v.heap.size ∧ v.cell? ⟨b, o + i * 5, none⟩ = some (.int .i64 x.op) ∧ v.cell? ⟨b, o + i * 5 + 1, none⟩ = some (.int .i64 x.fa) ∧ v.cell? ⟨b, o + i * 5 + 2, none⟩ = some (.int .i64 x.fb) ∧ v.cell? ⟨b, o + i * 5 + 3, none⟩ = some (.int .i64 x.fc) ∧ v.cell? ⟨b, o + i * 5 + 4, none⟩ = some (.int .i64 x.fd)) := fun v hv i hi => (H.out v (HB2.out.trans (hv.mono HB2.out.size))).at (by rw [HN.out]; exact hi)
  clear hn H HX2
  go_wp2_with fail
  go_loopw [4] (fun i wr => ∃ j : Nat, j ≤ n ∧ i = .int .i64 j ∧ Hid (InsTo m.vars.length m.arrs.length m.list.length m.list j) ∧ Below w2.heap.size w2 wr) (fun i _ => n - (intOf i).toNat)
  case atStart => exact ⟨0, Nat.zero_le _, rfl, (fun j x hj => absurd hj (Nat.not_lt_zero _) : InsTo m.vars.length m.arrs.length m.list.length m.list 0), Below.refl _ _⟩
  case round =>
    obtain ⟨j, hj, rfl, HI, hb⟩ := hrel
    have HBR := Lib.hid hb
    obtain ⟨c0, c1, c2⟩ := HC.out wr hb
    clear hb
    by_cases hlt : j < n
    · obtain ⟨x, b, o, hx, ha, hbl, e0, e1, e2, e3, e4⟩ := HE.out wr HBR.out j hlt
      rw [ha] at c2
      have HXX := Lib.hid hx
      have HS5 : Hid (∀ v, Below w2.heap.size w2 v → (v.cell? ⟨w.heap.size, 0, none⟩ = some (.slice k.va m.vars.length k.vc) ∧ v.cell? ⟨w.heap.size, 1, none⟩ = some (.slice k.aa m.arrs.length k.ac) ∧ v.cell? ⟨w.heap.size, 2, none⟩ = some (.slice (some ⟨b, o, none⟩) n k.lc)) ∧ v.cell? ⟨b, o + j * 5, none⟩ = some (.int .i64 x.op) ∧ v.cell? ⟨b, o + j * 5 + 1, none⟩ = some (.int .i64 x.fa) ∧ v.cell? ⟨b, o + j * 5 + 2, none⟩ = some (.int .i64 x.fb) ∧ v.cell? ⟨b, o + j * 5 + 3, none⟩ = some (.int .i64 x.fc) ∧ v.cell? ⟨b, o + j * 5 + 4, none⟩ = some (.int .i64 x.fd)) := fun v hv => by
        obtain ⟨q0, q1, q2⟩ := HC.out v hv
        rw [ha] at q2
        obtain ⟨x', b', o', hx', ha', _, f0, f1, f2, f3, f4⟩ := HE.out v hv j hlt
        rw [hx] at hx'
        cases hx'
        rw [ha] at ha'
        cases ha'
        exact ⟨⟨q0, q1, q2⟩, f0, f1, f2, f3, f4⟩
      have hsz2 := HBR.out.size
      obtain ⟨q, hq⟩ : ∃ q, insB m.vars.length m.arrs.length m.list.length x = q := ⟨_, rfl⟩
      have HQ2 := Lib.hid hq
      have HCA : Hid (∀ v, Calls Tryd.prog 80 #[.agg #[.slice k.va m.vars.length k.vc, .slice k.aa m.arrs.length k.ac, .slice (some ⟨b, o, none⟩) n k.lc], .agg #[.int .i64 x.op, .int .i64 x.fa, .int .i64 x.fb, .int .i64 x.fc, .int .i64 x.fd]] v (YN q v)) := fun v => by
        have h1 := l6Instr_one m k x v HVL.out HAL.out HLL.out
        unfold aggC at h1
        rw [HN.out] at h1
        rw [ha] at h1
        rw [← HN.out, hq] at h1
        rw [HN.out] at h1
        exact h1
      clear hx ha hq
      go_wp2_with fail
      go_region_held3 (fun v => (v.cell? ⟨w.heap.size, 0, none⟩ = some (.slice k.va m.vars.length k.vc) ∧ v.cell? ⟨w.heap.size, 1, none⟩ = some (.slice k.aa m.arrs.length k.ac) ∧ v.cell? ⟨w.heap.size, 2, none⟩ = some (.slice (some ⟨b, o, none⟩) n k.lc)) ∧ v.cell? ⟨b, o + j * 5, none⟩ = some (.int .i64 x.op) ∧ v.cell? ⟨b, o + j * 5 + 1, none⟩ = some (.int .i64 x.fa) ∧ v.cell? ⟨b, o + j * 5 + 2, none⟩ = some (.int .i64 x.fb) ∧ v.cell? ⟨b, o + j * 5 + 3, none⟩ = some (.int .i64 x.fc) ∧ v.cell? ⟨b, o + j * 5 + 4, none⟩ = some (.int .i64 x.fd)) (first | assumption | exact ⟨⟨c0, c1, c2⟩, e0, e1, e2, e3, e4⟩)
        ((go_at_call 80; (with_reducible refine (HCA.out _).mono ?_); rintro e w3 ⟨rfl, hb3⟩; have hB3 : Below w2.heap.size w2 w3 := (HBR.out.drew.trans (hb3.mono hsz2)); have hS3 := HS5.out _ hB3))
      cases q
      case false =>
        have HNO : Hid (false = codeB m) := codeB_no3 (inss_no HXX.out HQ2.out)
        go_wp2_with fail
        go_ret
        exact YN.of HNO.out (HB2.out.trans (hB3.mono HB2.out.size))
      case true =>
        have HI2 : Hid (InsTo m.vars.length m.arrs.length m.list.length m.list (j + 1)) := HI.out.succ HXX.out HQ2.out
        go_wp2_with fail
        go_roundw
        case rel => exact ⟨j + 1, by omega, by go_num, HI2, hB3⟩
        case measure => simp [intOf]; omega
    · obtain rfl : j = n := by omega
      have HA : Hid (m.list.all (insB m.vars.length m.arrs.length m.list.length) = true) := InsTo.all (by rw [HN.out]; rw [HN.out] at HI; exact HI.out)
      have HY : Hid (lastB m.list = codeB m) := codeB_yes HQ.out (by rw [HN.out]; omega) (by rw [HN.out]; omega) HA.out
      clear HI
      obtain ⟨x, b, o, hx, ha, hbl, e0, e1, e2, e3, e4⟩ := HE.out wr HBR.out (j - 1) (by omega)
      rw [ha] at c2
      have HLB : Hid (lastB m.list = (decide (x.op = 13) || decide (x.op = 8))) := lastB_at (by rw [HN.out]; exact hx)
      have hi0 : (0 : Int) ≤ (j : Int) - 1 := by omega
      have hi1 : (j : Int) - 1 < (j : Int) := by omega
      have hi2 : ((j : Int) - 1).toNat = j - 1 := by omega
      clear hx ha e1 e2 e3 e4
      by_cases h13 : x.op = 13
      · have HYY : Hid (true = codeB m) := by
          have : true = codeB m := by rw [← HY.out, HLB.out, h13]; rfl
          exact this
        rw [h13] at e0
        clear h13
        go_wp2_with fail
        go_ret
        exact YN.of HYY.out (HB2.out.trans (HBR.out.mono HB2.out.size))
      · have b13 : (x.op == 13) = false := by simpa using h13
        by_cases h8 : x.op = 8
        · have HYY : Hid (true = codeB m) := by
            have : true = codeB m := by rw [← HY.out, HLB.out, h8]; rfl
            exact this
          rw [h8] at e0 b13
          clear h13 h8
          go_wp2_with fail
          go_ret
          exact YN.of HYY.out (HB2.out.trans (HBR.out.mono HB2.out.size))
        · have b8 : (x.op == 8) = false := by simpa using h8
          have HYY : Hid (false = codeB m) := by
            have : false = codeB m := by rw [← HY.out, HLB.out, decide_eq_false h13, decide_eq_false h8]; rfl
            exact this
          clear h13 h8
          go_wp2_with fail
          go_ret
          exact YN.of HYY.out (HB2.out.trans (HBR.out.mono HB2.out.size))

end Go.Proofs.YtbifbmpflhdijaaDoor

/- The program's TraceTime. -/
import Derived.Test.YteoaecfjgbkefaaCaX
namespace Go.Proofs.Yteoaecfjgbkefaa
open Go.RowKit Go.Shelf
set_option linter.unusedVariables false

/-- **step.** -/
def StepW (BK : Nat) (t : Int) (x : Ev) (u : World) : World := if x.kind = 5 then (u.alloc (.cells #[.int .i64 x.kind, .int .i64 x.value] 43)).setCell ⟨BK, 0, none⟩ (.int .i64 (t + 1)) else u.alloc (.cells #[.int .i64 x.kind, .int .i64 x.value] 43)
set_option maxHeartbeats 2000000 in
theorem step_one (BK : Nat) (t : Int) (x : Ev) (u : World) (h : Boxed u BK 80 (.int .i64 t)) (h0 : 0 ≤ t) (h1 : t ≤ 1000000000) :
    Calls Try.prog 65 #[.pointer (some ⟨BK, 0, none⟩), .agg #[.int .i64 x.kind, .int .i64 x.value]] u (fun e u' => (∃ v, e = .returned v) ∧ u' = StepW BK t x u) := by
  obtain ⟨kd, vl⟩ := x
  dsimp only
  have hb : Boxed (u.alloc (.cells #[.int .i64 kd, .int .i64 vl] 43)) BK 80 (.int .i64 t) := h.alloc _
  have c1 := hb.cell
  have f1 := hb.frozen
  by_cases h5 : kd = 5
  · subst h5
    have HW : Hid (StepW BK t ⟨5, vl⟩ u = (u.alloc (.cells #[.int .i64 5, .int .i64 vl] 43)).setCell ⟨BK, 0, none⟩ (.int .i64 (t + 1))) := rfl
    clear hb h
    go_enter Try.func65, Try.ntmps65
    go_wp2_with fail
    go_end0
    exact ⟨⟨_, rfl⟩, by rw [HW.out]⟩
  · have HW : Hid (StepW BK t ⟨kd, vl⟩ u = u.alloc (.cells #[.int .i64 kd, .int .i64 vl] 43)) := if_neg h5
    have hne : (kd == 5) = false := by simpa using h5
    clear hb h h5
    go_enter Try.func65, Try.ntmps65
    go_wp2_with fail
    go_end0
    exact ⟨⟨_, rfl⟩, by rw [HW.out]⟩
theorem StepW.box {BK : Nat} {t : Int} {x : Ev} {u : World} (h : Boxed u BK 80 (.int .i64 t)) : Boxed (StepW BK t x u) BK 80 (.int .i64 (if x.kind = 5 then t + 1 else t)) := by
  unfold StepW
  split
  · exact (h.alloc _).set _
  · exact h.alloc _
theorem StepW.below {BK B : Nat} {t : Int} {x : Ev} {a u : World} (h : Below B a u) (hB : B ≤ BK) (hu : B ≤ u.heap.size) : Below B a (StepW BK t x u) := by
  unfold StepW
  split
  · exact (h.alloc hu _).setCell (p := ⟨BK, 0, none⟩) hB _
  · exact h.alloc hu _

set_option maxRecDepth 100000 in
set_option maxHeartbeats 8000000 in
/-- **impl.TraceTime.** -/
theorem iTT_one (xs : List Int) (es : List Ev) (a : Option Addr) (n cp : Nat) (ea : Option Addr) (en ec : Nat) (w : World) (h : SliceI w a n xs) (he : EvL w es ea ec) (hen : es.length = en) (hem : en ≤ 1048576) :
    Calls Try.prog 28 #[aggCa a n cp, .slice ea en ec] w (IntR (ttP xs es) w) := by
  obtain ⟨W2, hW2⟩ : ∃ W, w.alloc (.cells #[.slice a n cp] 25) = W := ⟨_, rfl⟩
  have hz2 : w.heap.size + 1 ≤ W2.heap.size := by rw [← hW2]; simp
  have hB2 : Below w.heap.size w W2 := by rw [← hW2]; exact (Below.refl _ w).alloc (Nat.le_refl _) _
  have HS := Lib.hid (h.below hB2)
  have HE : Hid (EvAt w (fun b => b < w.heap.size) es ea) := he.2.2
  have HN := Lib.hid hen
  have HW := Lib.hid hW2
  have HB := Lib.hid hB2
  clear hW2 hB2 h he hen
  go_enter Try.func28, Try.ntmps28
  go_wp2_with fail
  rw [HW.out]
  refine (iLinesOf_one xs a n cp W2 HS.out).mono ?_
  rintro e w3 ⟨c, rfl, hc, hb3⟩
  have HC := Lib.hid hc
  have HB3 : Hid (Below w.heap.size w w3) := HB.out.trans (hb3.mono (by omega))
  have hz3 : w.heap.size + 1 ≤ w3.heap.size := by have := hb3.size; omega
  obtain ⟨w5, hw5⟩ : ∃ w5, (w3.alloc (.cells #[.int .i64 c.c0, .int .i64 c.c1] 67)).alloc (.cells #[.int .i64 0] 80) = w5 := ⟨_, rfl⟩
  have h35 : Below w3.heap.size w3 w5 := by rw [← hw5]; exact ((Below.refl _ _).alloc (Nat.le_refl _) _).alloc (by simp) _
  have hx5 : BoxLn w5 w3.heap.size c := by rw [← hw5]; exact (BoxLn.new w3 c).below ((Below.refl _ _).alloc (Nat.le_refl _) _)
  have ht5 : Boxed w5 (w3.heap.size + 1) 80 (.int .i64 0) := by
    rw [← hw5]
    have h := Boxed.new (w3.alloc (.cells #[.int .i64 c.c0, .int .i64 c.c1] 67)) 80 (.int .i64 0)
    rw [World.size_alloc] at h
    exact h
  have hz5 : w3.heap.size + 2 ≤ w5.heap.size := by rw [← hw5]; simp
  have HB5 : Hid (Below w.heap.size w w5) := HB3.out.trans (h35.mono (by omega))
  have HX5 := Lib.hid hx5
  have HT5 := Lib.hid ht5
  have HW5 := Lib.hid hw5
  have HE5 : Hid (EvAt w5 (fun b => b < w3.heap.size) es ea) := fun i x hx => by
    obtain ⟨b, o, ha, hbl, h1, h2⟩ := HE.out i x hx
    exact ⟨b, o, ha, show b < w3.heap.size by omega, (HB5.out.cell (p := ⟨b, o + i * 2, none⟩) hbl).trans h1, (HB5.out.cell (p := ⟨b, o + i * 2 + 1, none⟩) hbl).trans h2⟩
  clear hc hb3 hw5 h35 hx5 ht5
  cases hq : okL xs with
  | false =>
    have HFIN : Hid (IntR (ttP xs es) w (.returned (.int .i64 (-1))) w5) := ⟨by rw [ttP_eq (crP_bad (es := es) hq)]; rfl, HB5.out⟩
    clear hq
    go_wp2_with fail
    rw [HW5.out]
    go_ret
    exact HFIN.out
  | true =>
    obtain ⟨rfl, hok⟩ := HC.out hq
    have HCR := Lib.hid (crP_le (es := es) hok)
    clear hq hok
    go_wp2_with fail
    rw [HW5.out]
    refine (callsIn_wide.1 (run2_in c w3.heap.size (w3.heap.size + 1) es ea en ec w5 HX5.out HT5.out (by omega) (by omega) HE5.out HN.out hem)).mono ?_
    rintro e w6 ⟨z, hz, hb6, hans⟩
    have HB56 := Lib.hid hb6
    have HB6 : Hid (Below w.heap.size w w6) := HB5.out.trans (hb6.mono (by omega))
    have hz6 := hb6.size
    clear hb6
    rcases hans with ⟨d, hs, hrun, rfl, _, htd⟩ | ⟨hno, rfl⟩
    · have hcr : crP c.l es = (d.l, hs, true) := by
        rcases HCR.out with ⟨d', hs', h1, h2⟩ | ⟨h1, _⟩
        · rw [hrun] at h1; cases h1; exact h2
        · rw [hrun] at h1; cases h1
      have hlen : hs.length ≤ en := by have := (crP_len hcr).2; rw [HN.out] at this; exact this
      have hml := misN_le hs
      obtain ⟨m, hm⟩ : ∃ m, misN hs = m := ⟨_, rfl⟩
      rw [hm] at hml
      have HTT : Hid (ttP c.l es = (stpN es : Int) + 10 * (m : Int)) := by
        show ttP c.l es = _
        rw [ttP_eq hcr, hm]; rfl
      have HT6 : Hid (Boxed w6 (w3.heap.size + 1) 80 (.int .i64 (10 * (m : Int)))) := by
        have h : Boxed w6 (w3.heap.size + 1) 80 (.int .i64 (10 * (misN hs : Int))) := htd
        rw [hm] at h
        exact h
      clear hrun hcr htd hm
      go_wp2_with fail
      go_loopw [25] (fun i wr => ∃ k : Nat, k ≤ en ∧ i = .int .i64 (k : Int) ∧ ∃ t : Nat, t ≤ k ∧ stpN (es.take k) = t ∧ Boxed wr (w3.heap.size + 1) 80 (.int .i64 (10 * (m : Int) + (t : Int))) ∧ Below w3.heap.size w5 wr) (fun i _ => en - (intOf i).toNat)
      case atStart => exact ⟨0, Nat.zero_le _, rfl, 0, Nat.le_refl _, rfl, by have := HT6.out; simpa using this, HB56.out⟩
      case round =>
        obtain ⟨k, hk, rfl, t, ht, hst, hbx, hbel⟩ := hrel
        have HST := Lib.hid hst
        have HBX := Lib.hid hbx
        have HBEL := Lib.hid hbel
        have hzr := hbel.size
        have cx := hbx.cell
        clear hst hbx hbel HT6
        by_cases hlt : k < en
        · obtain ⟨x, hx⟩ : ∃ x, es[k]? = some x := ⟨es[k]'(by rw [HN.out]; exact hlt), List.getElem?_eq_getElem _⟩
          obtain ⟨b, o, rfl, hbl, e0, e1⟩ := HE5.out k x hx
          have HX := Lib.hid hx
          have HSW : Hid (stpN (es.take (k + 1)) = if x.kind = 5 then t + 1 else t) := by
            show stpN _ = _
            split
            · rename_i h5; rw [stpN_yes HX.out h5, HST.out]
            · rename_i h5; rw [stpN_no HX.out h5, HST.out]
          have HSTEP : Hid (∀ u, Boxed u (w3.heap.size + 1) 80 (.int .i64 (10 * (m : Int) + (t : Int))) → Calls Try.prog 65 #[.pointer (some ⟨w3.heap.size + 1, 0, none⟩), .agg #[.int .i64 x.kind, .int .i64 x.value]] u (fun e u' => (∃ v, e = .returned v) ∧ u' = StepW (w3.heap.size + 1) (10 * (m : Int) + (t : Int)) x u)) := fun u hu => step_one _ _ x u hu (by omega) (by omega)
          have d0 : wr.cell? ⟨b, o + k * 2, none⟩ = some (.int .i64 x.kind) := (HBEL.out.cell (p := ⟨b, o + k * 2, none⟩) hbl).trans e0
          have d1 : wr.cell? ⟨b, o + k * 2 + 1, none⟩ = some (.int .i64 x.value) := (HBEL.out.cell (p := ⟨b, o + k * 2 + 1, none⟩) hbl).trans e1
          obtain ⟨v1, hv1⟩ : ∃ v1, wr.alloc (.cells #[.int .i64 x.kind, .int .i64 x.value] 43) = v1 := ⟨_, rfl⟩
          have hb1 : Boxed v1 (w3.heap.size + 1) 80 (.int .i64 (10 * (m : Int) + (t : Int))) := by rw [← hv1]; exact HBX.out.alloc _
          have hz1 : w5.heap.size ≤ v1.heap.size := by rw [← hv1]; simp; omega
          have hB1 : Below w3.heap.size w5 v1 := by rw [← hv1]; exact HBEL.out.alloc (by omega) _
          have HREL : Hid (∃ k' : Nat, k' ≤ en ∧ Value.int .i64 ((k : Int) + 1) = .int .i64 (k' : Int) ∧ ∃ t' : Nat, t' ≤ k' ∧ stpN (es.take k') = t' ∧ Boxed (StepW (w3.heap.size + 1) (10 * (m : Int) + (t : Int)) x v1) (w3.heap.size + 1) 80 (.int .i64 (10 * (m : Int) + (t' : Int))) ∧ Below w3.heap.size w5 (StepW (w3.heap.size + 1) (10 * (m : Int) + (t : Int)) x v1)) := by
            refine ⟨k + 1, by omega, by go_num, if x.kind = 5 then t + 1 else t, by split <;> omega, HSW.out, ?_, StepW.below hB1 (by omega) (by omega)⟩
            have h := StepW.box (x := x) hb1
            have e : (10 * (m : Int) + ((if x.kind = 5 then t + 1 else t : Nat) : Int)) = if x.kind = 5 then 10 * (m : Int) + (t : Int) + 1 else 10 * (m : Int) + (t : Int) := by split <;> simp; omega
            rw [e]
            exact h
          have HV1 := Lib.hid hv1
          have HC1 := Lib.hid hb1
          clear hx e0 e1 hv1 hb1 hB1 cx HSW
          go_wp2_with fail
          rw [HV1.out]
          refine (HSTEP.out v1 HC1.out).mono ?_
          rintro e u ⟨⟨v, rfl⟩, hu⟩
          have HREL2 : Hid (∃ k' : Nat, k' ≤ en ∧ Value.int .i64 ((k : Int) + 1) = .int .i64 (k' : Int) ∧ ∃ t' : Nat, t' ≤ k' ∧ stpN (es.take k') = t' ∧ Boxed u (w3.heap.size + 1) 80 (.int .i64 (10 * (m : Int) + (t' : Int))) ∧ Below w3.heap.size w5 u) := by
            have h := HREL.out
            rw [← hu] at h
            exact h
          clear hu HREL
          go_wp2_with fail
          go_roundw
          case rel => exact HREL2.out
          case measure => simp [intOf]; omega
        · obtain rfl : k = en := by omega
          have HFIN : Hid (IntR (ttP c.l es) w (.returned (.int .i64 (10 * (m : Int) + (t : Int)))) wr) := by
            have h := HST.out
            rw [stpN_all HN.out] at h
            exact ⟨by rw [HTT.out, h]; congr 2; omega, HB5.out.trans (HBEL.out.mono (by omega))⟩
          clear HST HBX HBEL
          go_wp2_with fail
          go_ret
          exact HFIN.out
    · have hcr : crP c.l es = ([], [], false) := by
        rcases HCR.out with ⟨d', hs', h1, h2⟩ | ⟨_, h2⟩
        · rw [hno] at h1; cases h1
        · exact h2
      have HFIN : Hid (IntR (ttP c.l es) w (.returned (.int .i64 (-1))) w6) := ⟨by rw [ttP_eq hcr]; rfl, HB6.out⟩
      clear hno hcr
      go_wp2_with fail
      go_ret
      exact HFIN.out

end Go.Proofs.Yteoaecfjgbkefaa

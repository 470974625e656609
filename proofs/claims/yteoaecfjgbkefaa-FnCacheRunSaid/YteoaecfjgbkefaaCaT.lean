/- The model's TraceTime. -/
import Derived.Test.YteoaecfjgbkefaaCaR
namespace Go.Proofs.Yteoaecfjgbkefaa
open Go.RowKit
set_option linter.unusedVariables false

/-- The time of a trace in a cache. -/
def ttP (xs : List Int) (es : List Ev) : Int := match (crP xs es) with
  | (_, hs, true) => (stpN es : Int) + 10 * (misN hs : Int)
  | (_, _, false) => -1
theorem ttP_eq {xs L : List Int} {es : List Ev} {H : List Bool} {q : Bool} (h : crP xs es = (L, H, q)) : ttP xs es = if q then (stpN es : Int) + 10 * (misN H : Int) else -1 := by
  unfold ttP; rw [h]
  cases q <;> rfl
theorem ttP_c {c : Ca} {es : List Ev} (h : okCa c = true) : ttP c.l es = timC c es := by
  cases hr : runC c es with
  | none => rw [timC_none hr, ttP_eq (crP_none hr)]; rfl
  | some x =>
    obtain ⟨d, hs⟩ := x
    rw [timC_some hr, ttP_eq (crP_yes h hr)]; rfl
theorem crP_len {xs L : List Int} {es : List Ev} {H : List Bool} {q : Bool} (h : crP xs es = (L, H, q)) : L.length ≤ 2 ∧ H.length ≤ es.length := by
  cases hq : okL xs with
  | false => rw [crP_bad hq] at h; cases h; exact ⟨Nat.zero_le _, Nat.zero_le _⟩
  | true =>
    obtain ⟨c, rfl, hok⟩ := okL_two hq
    cases hr : runC c es with
    | none => rw [crP_none hr] at h; cases h; exact ⟨Nat.zero_le _, Nat.zero_le _⟩
    | some x =>
      obtain ⟨d, hs⟩ := x
      rw [crP_yes hok hr] at h; cases h
      exact ⟨Nat.le_refl _, runC_len hr⟩

/-- A number is handed back; nothing that was there has changed. -/
def IntR (v : Int) (w : World) (e : Ending) (w' : World) : Prop := e = .returned (.int .i64 v) ∧ Below w.heap.size w w'

set_option maxRecDepth 100000 in
set_option maxHeartbeats 8000000 in
/-- **spec.TraceTime.** -/
theorem sTT_one (xs : List Int) (es : List Ev) (a : Option Addr) (n cp : Nat) (ea : Option Addr) (en ec : Nat) (w : World) (h : SliceI w a n xs) (he : EvL w es ea ec) (hen : es.length = en) (hem : en ≤ 1048576) :
    Calls Try.prog 29 #[aggCa a n cp, .slice ea en ec] w (IntR (ttP xs es) w) := by
  obtain ⟨W1, hW1⟩ : ∃ W, w.alloc (.cells #[.slice a n cp] 25) = W := ⟨_, rfl⟩
  have hB1 : Below w.heap.size w W1 := by rw [← hW1]; exact (Below.refl _ w).alloc (Nat.le_refl _) _
  have HS := Lib.hid (h.below hB1)
  have HE : Hid (∀ v, Below w.heap.size w v → EvL v es ea ec) := fun v hv => he.below hv
  have HN := Lib.hid hen
  have HW := Lib.hid hW1
  have HB := Lib.hid hB1
  obtain ⟨L, H, q, hcr⟩ : ∃ L H q, crP xs es = (L, H, q) := ⟨_, _, _, rfl⟩
  have HL := (crP_len hcr).2
  rw [hen] at HL
  have HTT := Lib.hid (ttP_eq hcr)
  have HCR := Lib.hid hcr
  clear h he hen hW1 hB1 hcr
  go_enter Try.func29, Try.ntmps29
  go_wp2_with fail
  rw [HW.out]
  refine (sCR_one xs es a n cp ea en ec W1 HS.out (HE.out _ HB.out) HN.out hem).mono ?_
  rw [HCR.out]
  rintro e w2 ⟨a2, n2, c2, b2, m2, d2, rfl, hn2, hm2, _, hob, hb2⟩
  dsimp only at hn2 hm2 hob
  have HM := Lib.hid hm2
  have HBH := Lib.hid hob.bat.2.2.2
  have HB2 : Hid (Below w.heap.size w w2) := HB.out.trans (hb2.mono HB.out.size)
  have hmm : m2 ≤ en := by rw [← hm2]; exact HL
  dsimp only
  obtain ⟨W3, hW3⟩ : ∃ W, w2.alloc (.cells #[.slice a2 n2 c2] 25) = W := ⟨_, rfl⟩
  have hB3 : Below w2.heap.size w2 W3 := by rw [← hW3]; exact (Below.refl _ _).alloc (Nat.le_refl _) _
  have HB3 : Hid (Below w.heap.size w W3) := HB2.out.trans (hB3.mono HB2.out.size)
  have HBT : Hid (BAt W3 (fun j => j < W3.heap.size) H b2) := (HBH.out.wide (D' := fun j => j < w2.heap.size) (fun _ _ => rfl) fun _ hk => hk.2).below hB3
  have HW3 := Lib.hid hW3
  clear hn2 hm2 hob hb2 hW3 hB3 HL HBH
  cases q with
  | false =>
    have HFIN : Hid (IntR (ttP xs es) w (.returned (.int .i64 (-1))) W3) := ⟨by rw [HTT.out]; rfl, HB3.out⟩
    go_wp2_with fail
    rw [HW3.out]
    go_ret
    exact HFIN.out
  | true =>
    have HEV := Lib.hid (HE.out _ HB3.out)
    go_wp2_with fail
    rw [HW3.out]
    go_loop [8, 9] (fun s i => ∃ k : Nat, k ≤ en ∧ i = .int .i64 (k : Int) ∧ ∃ t : Nat, t ≤ k ∧ s = .int .i64 (t : Int) ∧ stpN (es.take k) = t) (fun _ i => en - (intOf i).toNat)
    case atStart => exact ⟨0, Nat.zero_le _, rfl, 0, Nat.le_refl _, rfl, rfl⟩
    case round =>
      obtain ⟨k, hk, rfl, t, ht, rfl, hst⟩ := hrel
      have HST := Lib.hid hst
      clear hst
      by_cases hlt : k < en
      · obtain ⟨x, hx⟩ : ∃ x, es[k]? = some x := ⟨es[k]'(by rw [HN.out]; exact hlt), List.getElem?_eq_getElem _⟩
        obtain ⟨b, o, rfl, hbl, e0, e1⟩ := HEV.out.2.2 k x hx
        have HX := Lib.hid hx
        obtain ⟨kd, vl⟩ := x
        dsimp only at e0 e1
        clear hx e1
        by_cases h5 : kd = 5
        · subst h5
          have HS2 : Hid (stpN (es.take (k + 1)) = t + 1) := by
            show stpN _ = _
            rw [stpN_yes HX.out rfl, HST.out]
          go_wp2_with fail
          go_round
          case rel => exact ⟨k + 1, by omega, by go_num, t + 1, by omega, by go_num, HS2.out⟩
          case measure => simp [intOf]; omega
        · have HS2 : Hid (stpN (es.take (k + 1)) = t) := by
            show stpN _ = _
            rw [stpN_no HX.out h5, HST.out]
          have hne : (kd == 5) = false := by simpa using h5
          clear h5
          go_wp2_with fail
          go_round
          case rel => exact ⟨k + 1, by omega, by go_num, t, by omega, rfl, HS2.out⟩
          case measure => simp [intOf]; omega
      · obtain rfl : k = en := by omega
        have HS2 : Hid (stpN es = t) := by
          have h := HST.out
          rw [stpN_all HN.out] at h
          exact h
        clear HST HEV
        go_wp2_with fail
        go_loop [8, 10] (fun s i => ∃ j : Nat, j ≤ m2 ∧ i = .int .i64 (j : Int) ∧ ∃ u : Nat, u ≤ j ∧ s = .int .i64 ((t : Int) + 10 * (u : Int)) ∧ misN (H.take j) = u) (fun _ i => m2 - (intOf i).toNat)
        case atStart => exact ⟨0, Nat.zero_le _, rfl, 0, Nat.le_refl _, by simp, rfl⟩
        case round =>
          obtain ⟨j, hj, rfl, u, hu, rfl, hst⟩ := hrel
          have HU := Lib.hid hst
          clear hst
          by_cases hlt2 : j < m2
          · obtain ⟨x, hx⟩ : ∃ x, H[j]? = some x := ⟨H[j]'(by rw [HM.out]; exact hlt2), List.getElem?_eq_getElem _⟩
            obtain ⟨b, o, rfl, hbl, e0⟩ := HBT.out.2 j x hx
            have HX := Lib.hid hx
            clear hx
            cases x with
            | true =>
              have HU2 : Hid (misN (H.take (j + 1)) = u) := by
                show misN _ = _
                rw [misN_no HX.out, HU.out]
              go_wp2_with fail
              go_round
              case rel => exact ⟨j + 1, by omega, by go_num, u, by omega, rfl, HU2.out⟩
              case measure => simp [intOf]; omega
            | false =>
              have HU2 : Hid (misN (H.take (j + 1)) = u + 1) := by
                show misN _ = _
                rw [misN_yes HX.out, HU.out]
              go_wp2_with fail
              go_round
              case rel => exact ⟨j + 1, by omega, by go_num, u + 1, by omega, by congr 1, HU2.out⟩
              case measure => simp [intOf]; omega
          · obtain rfl : j = m2 := by omega
            have HFIN : Hid (IntR (ttP xs es) w (.returned (.int .i64 ((t : Int) + 10 * (u : Int)))) W3) := by
              have h := HU.out
              rw [misN_all HM.out] at h
              exact ⟨by rw [HTT.out, HS2.out, h]; rfl, HB3.out⟩
            clear HU HBT
            go_wp2_with fail
            go_ret
            exact HFIN.out

end Go.Proofs.Yteoaecfjgbkefaa

/- The model's ExprSame: whatever two trees lie in memory, the call answers whether they are equal, and nothing that was there has changed. -/
import Derived.Test.YtjmfnpljkiobkaaEq
namespace Go.Proofs.Ytjmfnpljkiobkaa
open Go.RowKit
set_option linter.unusedVariables false

set_option maxHeartbeats 4000000 in
theorem sSame_succ (n : Nat) (ih : ∀ (e f : E) (c0 c1 c2 d0 d1 d2 : Value) (D : Nat → Prop) (w : World), IsE w D n e [c0, c1, c2] → IsE w D n f [d0, d1, d2] → (∀ k, D k → k < w.heap.size) →
      Calls Try.prog 13 #[.agg #[c0, c1, c2], .agg #[d0, d1, d2]] w (AnsB (eqB e f) w))
    (e f : E) (c0 c1 c2 d0 d1 d2 : Value) (D : Nat → Prop) (w : World) (h : IsE w D (n + 1) e [c0, c1, c2]) (h' : IsE w D (n + 1) f [d0, d1, d2]) (hl : ∀ k, D k → k < w.heap.size) :
    Calls Try.prog 13 #[.agg #[c0, c1, c2], .agg #[d0, d1, d2]] w (AnsB (eqB e f) w) := by
  obtain ⟨a, cap, hcs, hcap, hm, hat⟩ := h
  cases hcs
  obtain ⟨a', cap', hcs, hcap', hm', hat'⟩ := h'
  cases hcs
  unfold maxLen at hm hm'
  have HAT := Lib.hid hat
  have HAT' := Lib.hid hat'
  have IH := Lib.hid ih
  clear ih hat hat'
  have H0 : Hid (Below w.heap.size w ((w.alloc (.cells #[.int .i64 e.kind, .int .i64 e.value, .slice a e.kids.length cap] 38)).alloc (.cells #[.int .i64 f.kind, .int .i64 f.value, .slice a' f.kids.length cap'] 38))) := ((Below.refl _ _).alloc (Nat.le_refl _) _).alloc (by simp) _
  by_cases hk : e.kind = f.kind
  case neg =>
    have hk' : (e.kind != f.kind) = true := by simpa using hk
    have HN : Hid (false = eqB e f) := (eqB_no fun x => hk (by rw [x])).symm
    clear hk
    go_enter Try.func13, Try.ntmps13
    go_wp2_with fail
    go_ret
    exact AnsB.of HN.out H0.out
  case pos =>
  by_cases hv : e.value = f.value
  case neg =>
    have hk' : (e.kind != f.kind) = false := by simpa using hk
    have hv' : (e.value != f.value) = true := by simpa using hv
    have HN : Hid (false = eqB e f) := (eqB_no fun x => hv (by rw [x])).symm
    clear hk hv
    go_enter Try.func13, Try.ntmps13
    go_wp2_with fail
    go_ret
    exact AnsB.of HN.out H0.out
  case pos =>
  have hk' : (e.kind != f.kind) = false := by simpa using hk
  have hv' : (e.value != f.value) = false := by simpa using hv
  by_cases hne : e.kids.length = f.kids.length
  case neg =>
    have hn' : ((e.kids.length : Int) != (f.kids.length : Int)) = true := by simp; omega
    have HN : Hid (false = eqB e f) := (eqB_no fun x => hne (by rw [x])).symm
    clear hk hv hne
    go_enter Try.func13, Try.ntmps13
    go_wp2_with fail
    go_ret
    exact AnsB.of HN.out H0.out
  case pos =>
  have HN : Hid (eqB e.kids f.kids = eqB e f) := by
    by_cases hq : e.kids = f.kids
    · exact (eqB_yes hq).trans (eqB_yes (E.ext' hk hv hq)).symm
    · exact (eqB_no hq).trans (eqB_no fun x => hq (by rw [x])).symm
  obtain ⟨es, hes⟩ : ∃ es, e.kids = es := ⟨_, rfl⟩
  obtain ⟨fs, hfs⟩ : ∃ fs, f.kids = fs := ⟨_, rfl⟩
  rw [hes] at hcap hne HAT HN
  rw [hfs] at hcap' hne HAT' HN
  obtain ⟨len, hlen⟩ : ∃ len, es.length = len := ⟨_, rfl⟩
  have HLEN := Lib.hid hlen
  have HLEN' : Hid (fs.length = len) := hne.symm.trans hlen
  rw [hes, hlen, hfs, HLEN'.out] at H0
  rw [hlen] at hcap
  rw [HLEN'.out] at hcap'
  rw [hes, hlen, hfs, HLEN'.out]
  clear hk hv hne hes hfs hlen
  go_enter Try.func13, Try.ntmps13
  go_wp2_with fail
  obtain ⟨W, hW⟩ : ∃ W, ((w.alloc (.cells #[.int .i64 e.kind, .int .i64 e.value, .slice a len cap] 38)).alloc (.cells #[.int .i64 f.kind, .int .i64 f.value, .slice a' len cap'] 38)) = W := ⟨_, rfl⟩
  have x2 : W.cell? ⟨w.heap.size, 2, none⟩ = some (.slice a len cap) := by rw [← hW]; simp
  have y2 : W.cell? ⟨w.heap.size + 1, 2, none⟩ = some (.slice a' len cap') := by rw [← hW]; simp
  have hz : W.heap.size = w.heap.size + 2 := by rw [← hW]; simp
  rw [hW] at H0 ⊢
  clear hW
  have X2 := Lib.hid x2
  have Y2 := Lib.hid y2
  have HZ := Lib.hid hz
  have hzw := H0.out.size
  clear x2 y2 hz
  go_loopw [5] (fun i wr => ∃ k : Nat, k ≤ len ∧ i = .int .i64 k ∧ SameTo es fs k ∧ Below W.heap.size W wr) (fun i _ => len - (intOf i).toNat)
  case atStart => exact ⟨0, Nat.zero_le _, rfl, fun j hj => absurd hj (Nat.not_lt_zero _), Below.refl _ _⟩
  case round =>
    obtain ⟨k, hk, rfl, hS, hB⟩ := hrel
    have HS := Lib.hid hS
    have HB := Lib.hid hB
    have z2 := (hB.cell (p := ⟨w.heap.size, 2, none⟩) (by simp [HZ.out])).trans X2.out
    have v2 := (hB.cell (p := ⟨w.heap.size + 1, 2, none⟩) (by simp [HZ.out])).trans Y2.out
    have hlW : ∀ k, D k → k < W.heap.size := fun j hj => Nat.lt_of_lt_of_le (hl j hj) hzw
    have HLW := Lib.hid hlW
    clear hS hB hlW
    by_cases hlt : k < len
    · obtain ⟨x, hx⟩ : ∃ x, es[k]? = some x := ⟨es[k]'(by rw [HLEN.out]; exact hlt), List.getElem?_eq_getElem _⟩
      obtain ⟨y, hy⟩ : ∃ y, fs[k]? = some y := ⟨fs[k]'(by rw [HLEN'.out]; exact hlt), List.getElem?_eq_getElem _⟩
      obtain ⟨b, o, c0, c1, c2, rfl, hbl, e0, e1, e2, hE⟩ := HAT.out k x hx
      obtain ⟨b', o', d0, d1, d2, rfl, hbl', g0, g1, g2, hF⟩ := HAT'.out k y hy
      have hst : Stand D w wr := Stand.trans (Stand.of_below H0.out hl) (Stand.of_below HB.out HLW.out)
      have r0 := (World.cell?_of_block (w := w) (a := ⟨b, o + k * 3, none⟩) (hst b hbl)).trans e0
      have r1 := (World.cell?_of_block (w := w) (a := ⟨b, o + k * 3 + 1, none⟩) (hst b hbl)).trans e1
      have r2 := (World.cell?_of_block (w := w) (a := ⟨b, o + k * 3 + 2, none⟩) (hst b hbl)).trans e2
      have s0 := (World.cell?_of_block (w := w) (a := ⟨b', o' + k * 3, none⟩) (hst b' hbl')).trans g0
      have s1 := (World.cell?_of_block (w := w) (a := ⟨b', o' + k * 3 + 1, none⟩) (hst b' hbl')).trans g1
      have s2 := (World.cell?_of_block (w := w) (a := ⟨b', o' + k * 3 + 2, none⟩) (hst b' hbl')).trans g2
      clear e0 e1 e2 g0 g1 g2
      have HE : Hid (IsE wr.drew D n x [c0, c1, c2]) := hE.later (Stand.trans hst fun _ _ => rfl)
      have HF : Hid (IsE wr.drew D n y [d0, d1, d2]) := hF.later (Stand.trans hst fun _ _ => rfl)
      have hsz := HB.out.size
      have HDW : Hid (∀ k, D k → k < wr.drew.heap.size) := fun j hj => Nat.lt_of_lt_of_le (HLW.out j hj) hsz
      have HX := Lib.hid hx
      have HY := Lib.hid hy
      clear hE hF hx hy HAT HAT' hst
      cases hq : eqB x y
      case false =>
        have hxy : x ≠ y := fun e => by rw [eqB_yes e] at hq; cases hq
        have HM : Hid (false = eqB e f) := by
          have h1 : eqB es fs = false := eqB_no fun e => hxy (by have h1 := HX.out; rw [e, HY.out] at h1; cases h1; rfl)
          have h2 := HN.out
          rw [h1] at h2
          exact h2
        clear hxy
        go_wp2_with fail
        go_region_with (go_at_call 13; refine (IH.out x y c0 c1 c2 d0 d1 d2 D _ HE.out HF.out HDW.out).mono ?_; rintro g w2 ⟨rfl, hb2⟩; have HB2 : Hid (Below W.heap.size W w2) := (HB.out.drew.trans (hb2.mono hsz)); clear hb2)
        all_goals
          go_wp2_with fail
          go_ret
          exact AnsB.of HM.out (H0.out.trans (HB2.out.mono hzw))
      case true =>
        have hxy : x = y := Classical.byContradiction fun e => by rw [eqB_no e] at hq; cases hq
        have HS2 : Hid (SameTo es fs (k + 1)) := fun j hj => by
          by_cases hjk : j = k
          · rw [hjk, HX.out, HY.out, hxy]
          · exact HS.out j (by omega)
        clear hxy
        go_wp2_with fail
        go_region_with (go_at_call 13; refine (IH.out x y c0 c1 c2 d0 d1 d2 D _ HE.out HF.out HDW.out).mono ?_; rintro g w2 ⟨rfl, hb2⟩; have HB2 : Hid (Below W.heap.size W w2) := (HB.out.drew.trans (hb2.mono hsz)); clear hb2)
        all_goals
          go_wp2_with fail
          go_roundw
          case rel => exact ⟨k + 1, by omega, by go_num, HS2.out, HB2.out⟩
          case measure => simp [intOf]; omega
    · obtain rfl : k = len := by omega
      have HM : Hid (true = eqB e f) := by
        have h1 : eqB es fs = true := eqB_yes (HS.out.all HLEN.out HLEN'.out)
        have h2 := HN.out
        rw [h1] at h2
        exact h2
      clear HAT HAT'
      go_wp2_with fail
      go_ret
      exact AnsB.of HM.out (H0.out.trans (HB.out.mono hzw))

/-- **ExprSame OF THE MODEL, AT EVERY TWO TREES.** -/
theorem sSame_one : ∀ (n : Nat) (e f : E) (c0 c1 c2 d0 d1 d2 : Value) (D : Nat → Prop) (w : World), IsE w D n e [c0, c1, c2] → IsE w D n f [d0, d1, d2] → (∀ k, D k → k < w.heap.size) →
      Calls Try.prog 13 #[.agg #[c0, c1, c2], .agg #[d0, d1, d2]] w (AnsB (eqB e f) w)
  | 0, _, _, _, _, _, _, _, _, _, _, h, _, _ => h.elim
  | n + 1, e, f, c0, c1, c2, d0, d1, d2, D, w, h, h', hl => sSame_succ n (sSame_one n) e f c0 c1 c2 d0 d1 d2 D w h h' hl

end Go.Proofs.Ytjmfnpljkiobkaa

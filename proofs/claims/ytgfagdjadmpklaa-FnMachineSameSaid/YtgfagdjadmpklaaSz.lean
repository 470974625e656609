/- The size functions of the exact laws on expressions: whatever tree lies in memory, the answer is not above what was left, and where it is not negative every list is short. -/
import Derived.Test.YtgfagdjadmpklaaTree
import Derived.BigQuiet
import Derived.Deep.QuietTactic
import Derived.IntWalk
import Derived.OwnWalk
import Derived.Outline
namespace Go.Proofs.Ytgfagdjadmpklaa
open Go.RowKit

set_option maxHeartbeats 1000000 in
theorem szExprS_of (n : Nat) (ih : ∀ (e : E) (c0 c1 c2 : Value) (D : Nat → Prop) (left : Int) (w : World), IsE w D n e [c0, c1, c2] → (∀ k, D k → k < w.heap.size) → 0 ≤ left → left ≤ 1048576 →
      Calls Try.prog 18 #[.agg #[c0, c1, c2], .int .i64 left] w (SizedS (cntEs e.kids) (SmE 1048576 n e) left w))
    (es : List E) (a : Option Addr) (cap : Nat) (D : Nat → Prop) (left : Int) (w : World) (hc : es.length ≤ cap) (hm : cap ≤ maxLen) (h : EsAt w D (IsE w D n) es a) (hl : ∀ k, D k → k < w.heap.size) (h0 : 0 ≤ left) (h1 : left ≤ 1048576) :
    Calls Try.prog 55 #[.slice a es.length cap, .int .i64 left] w (SizedS (cntEs es) (es.length ≤ 1048576 ∧ ∀ (i : Nat) (x : E), es[i]? = some x → SmE 1048576 n x) left w) := by
  unfold maxLen at hm
  obtain ⟨len, hlen⟩ : ∃ len, es.length = len := ⟨_, rfl⟩
  have HLEN := Lib.hid hlen
  rw [hlen] at hc ⊢
  have H := Lib.hid h
  have IH := Lib.hid ih
  clear h ih hlen
  by_cases hneg : left < len
  · go_enter Try.func55, Try.ntmps55
    go_wp2_with fail
    go_ret
    exact ⟨-1, rfl, by omega, fun h => absurd h (by omega), Below.refl _ _⟩
  · go_enter Try.func55, Try.ntmps55
    go_wp2_with fail
    go_loopw [1, 5] (fun c i wr => ∃ (k : Nat) (v : Int), k ≤ len ∧ i = .int .i64 k ∧ c = .int .i64 v ∧ 0 ≤ v ∧ v + (cntEs (es.take k) : Nat) ≤ left - len + k ∧ v ≤ left - len ∧ (∀ (j : Nat) (x : E), j < k → es[j]? = some x → SmE 1048576 n x) ∧ Below w.heap.size w wr) (fun _ i _ => len - (intOf i).toNat)
    case atStart => exact ⟨0, _, Nat.zero_le _, rfl, rfl, by omega, by simp [cntEs], by omega, fun j x hj => absurd hj (Nat.not_lt_zero _), Below.refl _ _⟩
    case round =>
      obtain ⟨k, v, hk, rfl, rfl, hv0, hvc, hv1, hS, hB⟩ := hrel
      have HV := Lib.hid hvc
      clear hvc
      have HS := Lib.hid hS
      have HB := Lib.hid hB
      clear hS hB
      by_cases hlt : k < len
      · obtain ⟨x, hx⟩ : ∃ x, es[k]? = some x := ⟨es[k]'(by rw [HLEN.out]; exact hlt), List.getElem?_eq_getElem _⟩
        obtain ⟨b, o, c0, c1, c2, rfl, hbl, e0, e1, e2, hE⟩ := H.out k x hx
        have d0 := (HB.out.cell (p := ⟨b, o + k * 3, none⟩) (by simpa using hl _ hbl)).trans e0
        have d1 := (HB.out.cell (p := ⟨b, o + k * 3 + 1, none⟩) (by simpa using hl _ hbl)).trans e1
        have d2 := (HB.out.cell (p := ⟨b, o + k * 3 + 2, none⟩) (by simpa using hl _ hbl)).trans e2
        clear e0 e1 e2
        have HE : Hid (IsE wr D n x [c0, c1, c2]) := hE.later (Stand.of_below HB.out hl)
        have hsz := HB.out.size
        have HX := Lib.hid hx
        clear hE hx H
        go_wp2_with fail
        refine (IH.out x c0 c1 c2 D v _ HE.out (fun k hk => Nat.lt_of_lt_of_le (hl k hk) hsz) hv0 (by omega)).mono ?_
        rintro e w2 ⟨v2, rfl, hv2, hs2, hb2⟩
        have HB2 := Lib.hid (HB.out.trans (hb2.mono hsz))
        have HS2 := Lib.hid hs2
        clear hb2 hs2 HB HE d0 d1 d2
        by_cases hneg2 : v2 < 0
        · go_wp2_with fail
          go_ret
          exact ⟨-1, rfl, by omega, fun h => absurd h (by omega), HB2.out⟩
        · have HS3 : Hid (∀ (j : Nat) (x : E), j < k + 1 → es[j]? = some x → SmE 1048576 n x) := fun j y hj hy => by
            by_cases hjk : j = k
            · subst hjk
              rw [HX.out] at hy
              cases hy
              exact (HS2.out (by omega)).1
            · exact HS.out j y (by omega) hy
          have HC : Hid (v2 + (cntEs (es.take (k + 1)) : Nat) ≤ left - len + (k + 1 : Nat)) := by
            have h1 := (HS2.out (by omega)).2
            have h2 := HV.out
            have h3 := cntEs_snoc es k x HX.out
            have h4 := cntE_eq x
            show v2 + (cntEs (es.take (k + 1)) : Nat) ≤ left - len + (k + 1 : Nat)
            rw [h3]
            omega
          clear HS HS2 HX HV
          go_wp2_with fail
          go_roundw
          case rel => exact ⟨k + 1, v2, by omega, by go_num, rfl, by omega, HC.out, by omega, HS3.out, HB2.out⟩
          case measure => simp [intOf]; omega
      · obtain rfl : k = len := by omega
        have HV2 : Hid (v + (cntEs es : Nat) ≤ left) := by
          have h1 := HV.out
          rw [List.take_of_length_le (by rw [HLEN.out]; exact Nat.le_refl _)] at h1
          show v + (cntEs es : Nat) ≤ left
          omega
        clear H HV
        go_wp2_with fail
        go_ret
        exact ⟨v, rfl, by omega, fun _ => ⟨⟨by omega, fun j y hy => HS.out j y (by have := (List.getElem?_eq_some_iff.1 hy).1; rw [HLEN.out] at this; exact this) hy⟩, HV2.out⟩, HB.out⟩

set_option maxHeartbeats 1000000 in
theorem szExpr_succ (n : Nat) (hS : ∀ (es : List E) (a : Option Addr) (cap : Nat) (D : Nat → Prop) (left : Int) (w : World), es.length ≤ cap → cap ≤ maxLen → EsAt w D (IsE w D n) es a → (∀ k, D k → k < w.heap.size) → 0 ≤ left → left ≤ 1048576 →
      Calls Try.prog 55 #[.slice a es.length cap, .int .i64 left] w (SizedS (cntEs es) (es.length ≤ 1048576 ∧ ∀ (i : Nat) (x : E), es[i]? = some x → SmE 1048576 n x) left w))
    (e : E) (c0 c1 c2 : Value) (D : Nat → Prop) (left : Int) (w : World) (h : IsE w D (n + 1) e [c0, c1, c2]) (hl : ∀ k, D k → k < w.heap.size) (h0 : 0 ≤ left) (h1 : left ≤ 1048576) :
    Calls Try.prog 18 #[.agg #[c0, c1, c2], .int .i64 left] w (SizedS (cntEs e.kids) (SmE 1048576 (n + 1) e) left w) := by
  obtain ⟨a, cap, hcs, hcap, hm, hat⟩ := h
  cases hcs
  have HAT := Lib.hid (hat.later (Stand.of_below ((Below.refl w.heap.size w).alloc (Nat.le_refl _) (.cells #[.int .i64 e.kind, .int .i64 e.value, .slice a e.kids.length cap] 40)) hl))
  have HS := Lib.hid hS
  clear hS hat
  go_enter Try.func18, Try.ntmps18
  go_wp2_with fail
  refine (HS.out e.kids a cap D left _ hcap hm HAT.out (fun k hk => by simp; exact Nat.lt_succ_of_lt (hl k hk)) h0 h1).mono ?_
  rintro f w2 ⟨v, rfl, hv, hs, hb⟩
  have HB : Hid (Below w.heap.size w w2) := ((Below.refl _ w).alloc (Nat.le_refl _) _).trans (hb.mono (by simp))
  have HP := Lib.hid hs
  clear hb hs HAT HS
  by_cases hneg : v < 0
  · go_wp2_with fail
    go_ret
    exact ⟨-1, rfl, by omega, fun h => absurd h (by omega), HB.out⟩
  · go_wp2_with fail
    go_ret
    exact ⟨v, rfl, hv, fun h => ⟨⟨(HP.out h).1.1, by have := (HP.out h).2; omega, (HP.out h).1.2⟩, (HP.out h).2⟩, HB.out⟩

/-- **szExpr, AT EVERY TREE.** -/
theorem szExpr_one : ∀ (n : Nat) (e : E) (c0 c1 c2 : Value) (D : Nat → Prop) (left : Int) (w : World), IsE w D n e [c0, c1, c2] → (∀ k, D k → k < w.heap.size) → 0 ≤ left → left ≤ 1048576 →
      Calls Try.prog 18 #[.agg #[c0, c1, c2], .int .i64 left] w (SizedS (cntEs e.kids) (SmE 1048576 n e) left w)
  | 0, _, _, _, _, _, _, _, h, _, _, _ => h.elim
  | n + 1, e, c0, c1, c2, D, left, w, h, hl, h0, h1 => szExpr_succ n (fun es a cap D left w hc hm hat hl h0 h1 => szExprS_of n (szExpr_one n) es a cap D left w hc hm hat hl h0 h1) e c0 c1 c2 D left w h hl h0 h1

end Go.Proofs.Ytgfagdjadmpklaa

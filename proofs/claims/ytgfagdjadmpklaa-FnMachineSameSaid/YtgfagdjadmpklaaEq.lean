/- The comparing functions of the exact laws on expressions: whatever two trees lie in memory, the call answers whether they are equal, and nothing that was there has changed. -/
import Derived.Test.YtgfagdjadmpklaaSz
import Derived.Deep.RegionWith
namespace Go.Proofs.Ytgfagdjadmpklaa
open Go.RowKit
set_option linter.unusedVariables false

/-- Are they equal? -/
noncomputable def eqB {α : Type} (a b : α) : Bool := @decide (a = b) (Classical.propDecidable _)
theorem eqB_yes {α : Type} {a b : α} (h : a = b) : eqB a b = true := by unfold eqB; simp [h]
theorem eqB_no {α : Type} {a b : α} (h : a ≠ b) : eqB a b = false := by unfold eqB; simp [h]


def SameTo (es fs : List E) (k : Nat) : Prop := ∀ j, j < k → es[j]? = fs[j]?
theorem SameTo.all {es fs : List E} {n : Nat} (h : SameTo es fs n) (h1 : es.length = n) (h2 : fs.length = n) : es = fs := by
  apply List.ext_getElem?
  intro i
  by_cases hi : i < n
  · exact h i hi
  · rw [List.getElem?_eq_none (by omega), List.getElem?_eq_none (by omega)]

set_option maxHeartbeats 2000000 in
theorem eqExprS_of (n : Nat) (ih : ∀ (e f : E) (c0 c1 c2 d0 d1 d2 : Value) (D : Nat → Prop) (w : World), IsE w D n e [c0, c1, c2] → IsE w D n f [d0, d1, d2] → (∀ k, D k → k < w.heap.size) →
      Calls Try.prog 22 #[.agg #[c0, c1, c2], .agg #[d0, d1, d2]] w (AnsB (eqB e f) w))
    (es fs : List E) (a a' : Option Addr) (cap cap' : Nat) (D : Nat → Prop) (w : World) (hc : es.length ≤ cap) (hc' : fs.length ≤ cap') (hm : cap ≤ maxLen) (hm' : cap' ≤ maxLen) (h : EsAt w D (IsE w D n) es a) (h' : EsAt w D (IsE w D n) fs a') (hl : ∀ k, D k → k < w.heap.size) :
    Calls Try.prog 59 #[.slice a es.length cap, .slice a' fs.length cap'] w (AnsB (eqB es fs) w) := by
  unfold maxLen at hm hm'
  obtain ⟨len, hlen⟩ : ∃ len, es.length = len := ⟨_, rfl⟩
  obtain ⟨len', hlen'⟩ : ∃ len', fs.length = len' := ⟨_, rfl⟩
  have HLEN := Lib.hid hlen
  have HLEN' := Lib.hid hlen'
  rw [hlen] at hc
  rw [hlen'] at hc'
  rw [hlen, hlen']
  have H := Lib.hid h
  have H' := Lib.hid h'
  have IH := Lib.hid ih
  clear h h' ih hlen hlen'
  by_cases hne : len = len'
  · subst hne
    go_enter Try.func59, Try.ntmps59
    go_wp2_with fail
    go_loopw [5] (fun i wr => ∃ k : Nat, k ≤ len ∧ i = .int .i64 k ∧ SameTo es fs k ∧ Below w.heap.size w wr) (fun i _ => len - (intOf i).toNat)
    case atStart => exact ⟨0, Nat.zero_le _, rfl, fun j hj => absurd hj (Nat.not_lt_zero _), Below.refl _ _⟩
    case round =>
      obtain ⟨k, hk, rfl, hS, hB⟩ := hrel
      have HS := Lib.hid hS
      have HB := Lib.hid hB
      clear hS hB
      by_cases hlt : k < len
      · obtain ⟨x, hx⟩ : ∃ x, es[k]? = some x := ⟨es[k]'(by rw [HLEN.out]; exact hlt), List.getElem?_eq_getElem _⟩
        obtain ⟨y, hy⟩ : ∃ y, fs[k]? = some y := ⟨fs[k]'(by rw [HLEN'.out]; exact hlt), List.getElem?_eq_getElem _⟩
        obtain ⟨b, o, c0, c1, c2, rfl, hbl, e0, e1, e2, hE⟩ := H.out k x hx
        obtain ⟨b', o', d0, d1, d2, rfl, hbl', g0, g1, g2, hF⟩ := H'.out k y hy
        have r0 := (HB.out.cell (p := ⟨b, o + k * 3, none⟩) (hl _ hbl)).trans e0
        have r1 := (HB.out.cell (p := ⟨b, o + k * 3 + 1, none⟩) (hl _ hbl)).trans e1
        have r2 := (HB.out.cell (p := ⟨b, o + k * 3 + 2, none⟩) (hl _ hbl)).trans e2
        have s0 := (HB.out.cell (p := ⟨b', o' + k * 3, none⟩) (hl _ hbl')).trans g0
        have s1 := (HB.out.cell (p := ⟨b', o' + k * 3 + 1, none⟩) (hl _ hbl')).trans g1
        have s2 := (HB.out.cell (p := ⟨b', o' + k * 3 + 2, none⟩) (hl _ hbl')).trans g2
        clear e0 e1 e2 g0 g1 g2
        have HE : Hid (IsE wr.drew D n x [c0, c1, c2]) := hE.later (Stand.trans (Stand.of_below HB.out hl) fun _ _ => rfl)
        have HF : Hid (IsE wr.drew D n y [d0, d1, d2]) := hF.later (Stand.trans (Stand.of_below HB.out hl) fun _ _ => rfl)
        have hsz := HB.out.size
        have HDW : Hid (∀ k, D k → k < wr.drew.heap.size) := fun j hj => Nat.lt_of_lt_of_le (hl j hj) hsz
        have HX := Lib.hid hx
        have HY := Lib.hid hy
        clear hE hF hx hy H H'
        cases hq : eqB x y
        case false =>
          have hxy : x ≠ y := fun e => by rw [eqB_yes e] at hq; cases hq
          have HN : Hid (false = eqB es fs) := (eqB_no fun e => hxy (by have h1 := HX.out; rw [e, HY.out] at h1; cases h1; rfl)).symm
          clear hxy
          go_wp2_with fail
          go_region_with (go_at_call 22; refine (IH.out x y c0 c1 c2 d0 d1 d2 D _ HE.out HF.out HDW.out).mono ?_; rintro e w2 ⟨rfl, hb2⟩; have HB2 : Hid (Below w.heap.size w w2) := (HB.out.drew.trans (hb2.mono hsz)); clear hb2)
          all_goals
            go_wp2_with fail
            go_ret
            exact AnsB.of HN.out HB2.out
        case true =>
          have hxy : x = y := Classical.byContradiction fun e => by rw [eqB_no e] at hq; cases hq
          have HS2 : Hid (SameTo es fs (k + 1)) := fun j hj => by
            by_cases hjk : j = k
            · rw [hjk, HX.out, HY.out, hxy]
            · exact HS.out j (by omega)
          clear hxy
          go_wp2_with fail
          go_region_with (go_at_call 22; refine (IH.out x y c0 c1 c2 d0 d1 d2 D _ HE.out HF.out HDW.out).mono ?_; rintro e w2 ⟨rfl, hb2⟩; have HB2 : Hid (Below w.heap.size w w2) := (HB.out.drew.trans (hb2.mono hsz)); clear hb2)
          all_goals
            go_wp2_with fail
            go_roundw
            case rel => exact ⟨k + 1, by omega, by go_num, HS2.out, HB2.out⟩
            case measure => simp [intOf]; omega
      · obtain rfl : k = len := by omega
        have HN : Hid (true = eqB es fs) := (eqB_yes (HS.out.all HLEN.out HLEN'.out)).symm
        clear H H'
        go_wp2_with fail
        go_ret
        exact AnsB.of HN.out HB.out
  · have hne' : ((len : Int) != (len' : Int)) = true := by simp; omega
    have HN : Hid (false = eqB es fs) := (eqB_no fun e => hne (by rw [← HLEN.out, ← HLEN'.out, e])).symm
    go_enter Try.func59, Try.ntmps59
    go_wp2_with fail
    go_ret
    exact AnsB.of HN.out (Below.refl _ _)

theorem E.ext' {e f : E} (h1 : e.kind = f.kind) (h2 : e.value = f.value) (h3 : e.kids = f.kids) : e = f := by
  cases e; cases f; simp_all

set_option maxHeartbeats 2000000 in
theorem eqExpr_succ (n : Nat) (hS : ∀ (es fs : List E) (a a' : Option Addr) (cap cap' : Nat) (D : Nat → Prop) (w : World), es.length ≤ cap → fs.length ≤ cap' → cap ≤ maxLen → cap' ≤ maxLen → EsAt w D (IsE w D n) es a → EsAt w D (IsE w D n) fs a' → (∀ k, D k → k < w.heap.size) →
      Calls Try.prog 59 #[.slice a es.length cap, .slice a' fs.length cap'] w (AnsB (eqB es fs) w))
    (e f : E) (c0 c1 c2 d0 d1 d2 : Value) (D : Nat → Prop) (w : World) (h : IsE w D (n + 1) e [c0, c1, c2]) (h' : IsE w D (n + 1) f [d0, d1, d2]) (hl : ∀ k, D k → k < w.heap.size) :
    Calls Try.prog 22 #[.agg #[c0, c1, c2], .agg #[d0, d1, d2]] w (AnsB (eqB e f) w) := by
  obtain ⟨a, cap, hcs, hcap, hm, hat⟩ := h
  cases hcs
  obtain ⟨a', cap', hcs, hcap', hm', hat'⟩ := h'
  cases hcs
  have HAT := Lib.hid hat
  have HAT' := Lib.hid hat'
  have HS := Lib.hid hS
  clear hS hat hat'
  by_cases hk : e.kind = f.kind
  case neg =>
    have hk' : (e.kind != f.kind) = true := by simpa using hk
    have HN : Hid (false = eqB e f) := (eqB_no fun x => hk (by rw [x])).symm
    go_enter Try.func22, Try.ntmps22
    go_wp2_with fail
    go_ret
    exact AnsB.of HN.out (((Below.refl _ _).alloc (Nat.le_refl _) _).alloc (by simp) _)
  case pos =>
  by_cases hv : e.value = f.value
  case neg =>
    have hk' : (e.kind != f.kind) = false := by simpa using hk
    have hv' : (e.value != f.value) = true := by simpa using hv
    have HN : Hid (false = eqB e f) := (eqB_no fun x => hv (by rw [x])).symm
    clear hk hv
    go_enter Try.func22, Try.ntmps22
    go_wp2_with fail
    go_ret
    exact AnsB.of HN.out (((Below.refl _ _).alloc (Nat.le_refl _) _).alloc (by simp) _)
  case pos =>
  have hk' : (e.kind != f.kind) = false := by simpa using hk
  have hv' : (e.value != f.value) = false := by simpa using hv
  have HN : Hid (eqB e.kids f.kids = eqB e f) := by
    by_cases hq : e.kids = f.kids
    · exact (eqB_yes hq).trans (eqB_yes (E.ext' hk hv hq)).symm
    · exact (eqB_no hq).trans (eqB_no fun x => hq (by rw [x])).symm
  clear hk hv
  go_enter Try.func22, Try.ntmps22
  go_wp2_with fail
  obtain ⟨W, hW⟩ : ∃ W, ((w.alloc (.cells #[.int .i64 e.kind, .int .i64 e.value, .slice a e.kids.length cap] 45)).alloc (.cells #[.int .i64 f.kind, .int .i64 f.value, .slice a' f.kids.length cap'] 45)) = W := ⟨_, rfl⟩
  have hB : Below w.heap.size w W := by rw [← hW]; exact ((Below.refl _ _).alloc (Nat.le_refl _) _).alloc (by simp) _
  rw [hW]
  clear hW
  have HB := Lib.hid hB
  have hz := hB.size
  refine (HS.out e.kids f.kids a a' cap cap' D _ hcap hcap' hm hm' (HAT.out.later (Stand.of_below hB hl)) (HAT'.out.later (Stand.of_below hB hl)) (fun k hk => Nat.lt_of_lt_of_le (hl k hk) hz)).mono ?_
  rintro g w2 ⟨rfl, hb2⟩
  have HB2 := Lib.hid (hB.trans (hb2.mono hz))
  clear hb2 hB HB HAT HAT' HS
  cases hq : eqB e.kids f.kids <;> rw [hq] at HN
  all_goals
    go_wp2_with fail
    go_ret
    exact AnsB.of HN.out HB2.out

/-- **eqExpr, AT EVERY TWO TREES.** -/
theorem eqExpr_one : ∀ (n : Nat) (e f : E) (c0 c1 c2 d0 d1 d2 : Value) (D : Nat → Prop) (w : World), IsE w D n e [c0, c1, c2] → IsE w D n f [d0, d1, d2] → (∀ k, D k → k < w.heap.size) →
      Calls Try.prog 22 #[.agg #[c0, c1, c2], .agg #[d0, d1, d2]] w (AnsB (eqB e f) w)
  | 0, _, _, _, _, _, _, _, _, _, _, h, _, _ => h.elim
  | n + 1, e, f, c0, c1, c2, d0, d1, d2, D, w, h, h', hl => eqExpr_succ n (fun es fs a a' cap cap' D w hc hc' hm hm' hat hat' hl => eqExprS_of n (eqExpr_one n) es fs a a' cap cap' D w hc hc' hm hm' hat hat' hl) e f c0 c1 c2 d0 d1 d2 D w h h' hl

end Go.Proofs.Ytgfagdjadmpklaa

/- The first place at which two lists of events differ: what it says that an index is that place, and that there is only one; spec's and the program's FirstDifference and TraceSame answer it. -/
import Derived.Test.YtjmfnpljkiobkaaEv
import Derived.Laws.StructEq
namespace Go.Proofs.Ytjmfnpljkiobkaa
open Go.RowKit
set_option linter.unusedVariables false

/-- v is the first place at which the lists differ, or -1. -/
def IsFD (es fs : List Ev) (v : Int) : Prop := (∃ k : Nat, v = k ∧ SameUp es fs k ∧ es[k]? ≠ fs[k]?) ∨ (v = -1 ∧ es = fs)
theorem IsFD.one {es fs : List Ev} {v u : Int} (h : IsFD es fs v) (h' : IsFD es fs u) : v = u := by
  rcases h with ⟨k, rfl, hk, hn⟩ | ⟨rfl, he⟩
  · rcases h' with ⟨j, rfl, hj, hm⟩ | ⟨rfl, he⟩
    · rcases Nat.lt_trichotomy k j with hl | rfl | hl
      · exact absurd (hj k hl) hn
      · rfl
      · exact absurd (hk j hl) hm
    · exact absurd (by rw [he]) hn
  · rcases h' with ⟨j, rfl, hj, hm⟩ | ⟨rfl, _⟩
    · exact absurd (by rw [he]) hm
    · rfl
theorem IsFD.nil {es fs : List Ev} {v : Int} (h : IsFD es fs v) : decide (v = -1) = decide (es = fs) := by
  rcases h with ⟨k, rfl, hk, hn⟩ | ⟨rfl, he⟩
  · rw [decide_eq_false (by omega), decide_eq_false]
    intro e
    exact hn (by rw [e])
  · rw [decide_eq_true rfl, decide_eq_true he]

/-- The first place of difference is handed back. -/
def FDA (es fs : List Ev) (w : World) (e : Ending) (w' : World) : Prop := ∃ v : Int, e = .returned (.int .i64 v) ∧ IsFD es fs v ∧ Below w.heap.size w w'
theorem FDA.at {es fs : List Ev} {w w' : World} {k : Nat} (hs : SameUp es fs k) (hn : es[k]? ≠ fs[k]?) (hb : Below w.heap.size w w') : FDA es fs w (.returned (.int .i64 k)) w' := ⟨k, rfl, .inl ⟨k, rfl, hs, hn⟩, hb⟩
theorem FDA.same {es fs : List Ev} {w w' : World} (he : es = fs) (hb : Below w.heap.size w w') : FDA es fs w (.returned (.int .i64 (-1))) w' := ⟨-1, rfl, .inr ⟨rfl, he⟩, hb⟩

theorem below_drewNe {B : Nat} {a w : World} (h : Below B a w) (k : Nat) : Below B a (w.drewN k) := ⟨h.os, h.tape, h.output, h.size, h.block⟩
/-- What the walks need of two lists at index k. -/
theorem EvAt.two {w : World} {es fs : List Ev} {a a' : Option Addr} {c c' : Nat} (h : EvL w es a c) (h' : EvL w fs a' c') {k : Nat} (hk : k < es.length) (hk' : k < fs.length) :
    ∃ x y b o b' o', es[k]? = some x ∧ fs[k]? = some y ∧ a = some ⟨b, o, none⟩ ∧ a' = some ⟨b', o', none⟩ ∧
      w.cell? ⟨b, o + k * 2, none⟩ = some (.int .i64 x.kind) ∧ w.cell? ⟨b, o + k * 2 + 1, none⟩ = some (.int .i64 x.value) ∧
      w.cell? ⟨b', o' + k * 2, none⟩ = some (.int .i64 y.kind) ∧ w.cell? ⟨b', o' + k * 2 + 1, none⟩ = some (.int .i64 y.value) := by
  have hx : es[k]? = some es[k] := List.getElem?_eq_getElem _
  have hy : fs[k]? = some fs[k] := List.getElem?_eq_getElem _
  obtain ⟨b, o, rfl, _, e0, e1⟩ := h.2.2 k _ hx
  obtain ⟨b', o', rfl, _, g0, g1⟩ := h'.2.2 k _ hy
  exact ⟨_, _, b, o, b', o', hx, hy, rfl, rfl, e0, e1, g0, g1⟩

set_option maxHeartbeats 2000000 in
/-- **spec.FirstDifference.** -/
theorem sFD_one (es fs : List Ev) (a a' : Option Addr) (cap cap' : Nat) (w : World) (h : EvL w es a cap) (h' : EvL w fs a' cap') :
    Calls Try.prog 9 #[.slice a es.length cap, .slice a' fs.length cap'] w (FDA es fs w) := by
  have hc := Nat.le_trans h.1 h.2.1
  have hc' := Nat.le_trans h'.1 h'.2.1
  unfold maxLen at hc hc'
  have H : Hid (∀ k, k < es.length → k < fs.length → ∃ x y b o b' o', es[k]? = some x ∧ fs[k]? = some y ∧ a = some ⟨b, o, none⟩ ∧ a' = some ⟨b', o', none⟩ ∧
      w.cell? ⟨b, o + k * 2, none⟩ = some (.int .i64 x.kind) ∧ w.cell? ⟨b, o + k * 2 + 1, none⟩ = some (.int .i64 x.value) ∧
      w.cell? ⟨b', o' + k * 2, none⟩ = some (.int .i64 y.kind) ∧ w.cell? ⟨b', o' + k * 2 + 1, none⟩ = some (.int .i64 y.value)) := fun k hk hk' => EvAt.two h h' hk hk'
  clear h h'
  have HB : Hid (∀ m, Below w.heap.size w (w.drewN m)) := fun m => below_drewNe (Below.refl _ w) m
  obtain ⟨n, hn⟩ : ∃ n, es.length = n := ⟨_, rfl⟩
  obtain ⟨n', hn'⟩ : ∃ n', fs.length = n' := ⟨_, rfl⟩
  have HN := Lib.hid hn
  have HN' := Lib.hid hn'
  rw [hn] at hc H ⊢
  rw [hn'] at hc' H ⊢
  clear hn hn'
  go_enter Try.func9, Try.ntmps9
  go_wp2
  go_loopw [5] (fun i wr => ∃ k m : Nat, k ≤ n ∧ k ≤ n' ∧ i = .int .i64 k ∧ SameUp es fs k ∧ wr = w.drewN m) (fun i _ => n - (intOf i).toNat)
  case atStart => exact ⟨0, 0, Nat.zero_le _, Nat.zero_le _, rfl, fun j hj => absurd hj (Nat.not_lt_zero _), rfl⟩
  case round =>
    obtain ⟨k, m, hk, hk', rfl, hS, rfl⟩ := hrel
    have HS := Lib.hid hS
    clear hS
    by_cases hlt : k < n
    · by_cases hlt' : k < n'
      · obtain ⟨x, y, b, o, b', o', hx, hy, rfl, rfl, d0, d1, e0, e1⟩ := H.out k hlt hlt'
        have HX := Lib.hid hx
        have HY := Lib.hid hy
        clear hx hy H
        by_cases hxy : x = y
        · subst hxy
          have HS2 : Hid (SameUp es fs (k + 1)) := HS.out.succ (by rw [HX.out, HY.out])
          go_wp2
          go_quiet (fail)
          go_wp2
          go_roundw
          case rel => exact ⟨k + 1, _, by omega, by omega, by go_num, HS2.out, rfl⟩
          case measure => simp [intOf]; omega
        · have HNE : Hid (es[k]? ≠ fs[k]?) := by
            have : es[k]? ≠ fs[k]? := by rw [HX.out, HY.out]; intro e; cases e; exact hxy rfl
            exact this
          by_cases h1 : x.kind = y.kind
          · have h2 : (x.value == y.value) = false := by simpa using fun e => hxy (Ev.ext' h1 e)
            have h1' : (x.kind == y.kind) = true := by simpa using h1
            clear h1
            go_wp2
            go_quiet (fail)
            go_wp2
            go_ret
            exact FDA.at HS.out HNE.out (below_drewNe (HB.out _) _)
          · have h1' : (x.kind == y.kind) = false := by simpa using h1
            clear h1
            go_wp2
            go_quiet (fail)
            go_wp2
            go_ret
            exact FDA.at HS.out HNE.out (below_drewNe (HB.out _) _)
      · obtain rfl : k = n' := by omega
        have HNE : Hid (es[k]? ≠ fs[k]?) := by
          have : es[k]? ≠ fs[k]? := by
            rw [List.getElem?_eq_none (l := fs) (by rw [HN'.out]; exact Nat.le_refl _), List.getElem?_eq_getElem (l := es) (by rw [HN.out]; exact hlt)]
            simp
          exact this
        clear H
        go_wp2
        go_ret
        exact FDA.at HS.out HNE.out (HB.out _)
    · obtain rfl : k = n := by omega
      clear H
      by_cases hlt' : k < n'
      · have HNE : Hid (es[k]? ≠ fs[k]?) := by
          have : es[k]? ≠ fs[k]? := by
            rw [List.getElem?_eq_none (l := es) (by rw [HN.out]; exact Nat.le_refl _), List.getElem?_eq_getElem (l := fs) (by rw [HN'.out]; exact hlt')]
            simp
          exact this
        go_wp2
        go_ret
        exact FDA.at HS.out HNE.out (HB.out _)
      · obtain rfl : k = n' := by omega
        have HE : Hid (es = fs) := HS.out.all HN.out HN'.out
        go_wp2
        go_ret
        exact FDA.same HE.out (HB.out _)

/-- Two values of events compare as events do. -/
theorem ev_ne {x y : Ev} (h : x ≠ y) : (x.kind == y.kind) = false ∨ ((x.kind == y.kind) = true ∧ (x.value == y.value) = false) := by
  by_cases h1 : x.kind = y.kind
  · exact .inr ⟨by simpa using h1, by simpa using fun e => h (Ev.ext' h1 e)⟩
  · exact .inl (by simpa using h1)

set_option maxHeartbeats 2000000 in
/-- **impl.FirstDifference.** -/
theorem iFD_one (es fs : List Ev) (a a' : Option Addr) (cap cap' : Nat) (w : World) (h : EvL w es a cap) (h' : EvL w fs a' cap') :
    Calls Try.prog 8 #[.slice a es.length cap, .slice a' fs.length cap'] w (FDA es fs w) := by
  have hc := Nat.le_trans h.1 h.2.1
  have hc' := Nat.le_trans h'.1 h'.2.1
  unfold maxLen at hc hc'
  have H : Hid (∀ k, k < es.length → k < fs.length → ∃ x y b o b' o', es[k]? = some x ∧ fs[k]? = some y ∧ a = some ⟨b, o, none⟩ ∧ a' = some ⟨b', o', none⟩ ∧
      w.cell? ⟨b, o + k * 2, none⟩ = some (.int .i64 x.kind) ∧ w.cell? ⟨b, o + k * 2 + 1, none⟩ = some (.int .i64 x.value) ∧
      w.cell? ⟨b', o' + k * 2, none⟩ = some (.int .i64 y.kind) ∧ w.cell? ⟨b', o' + k * 2 + 1, none⟩ = some (.int .i64 y.value)) := fun k hk hk' => EvAt.two h h' hk hk'
  clear h h'
  have HB : Hid (∀ m, Below w.heap.size w (w.drewN m)) := fun m => below_drewNe (Below.refl _ w) m
  obtain ⟨n, hn⟩ : ∃ n, es.length = n := ⟨_, rfl⟩
  obtain ⟨n', hn'⟩ : ∃ n', fs.length = n' := ⟨_, rfl⟩
  have HN := Lib.hid hn
  have HN' := Lib.hid hn'
  rw [hn] at hc H ⊢
  rw [hn'] at hc' H ⊢
  clear hn hn'
  rcases Nat.lt_trichotomy n n' with hq | rfl | hq
  · go_enter Try.func8, Try.ntmps8
    go_wp2
    go_loopw [13] (fun i wr => ∃ k m : Nat, k ≤ n ∧ i = .int .i64 k ∧ SameUp es fs k ∧ wr = w.drewN m) (fun i _ => n - (intOf i).toNat)
    case atStart => exact ⟨0, 0, Nat.zero_le _, rfl, fun j hj => absurd hj (Nat.not_lt_zero _), rfl⟩
    case round =>
      obtain ⟨k, m, hk, rfl, hS, rfl⟩ := hrel
      have HS := Lib.hid hS
      clear hS
      by_cases hlt : k < n
      · obtain ⟨x, y, b, o, b', o', hx, hy, rfl, rfl, d0, d1, e0, e1⟩ := H.out k (by omega) (by omega)
        have HX := Lib.hid hx
        have HY := Lib.hid hy
        clear hx hy H
        by_cases hxy : x = y
        · subst hxy
          have HS2 : Hid (SameUp es fs (k + 1)) := HS.out.succ (by rw [HX.out, HY.out])
          go_wp2
          go_quiet (fail)
          go_wp2
          go_roundw
          case rel => exact ⟨k + 1, _, by omega, by go_num, HS2.out, rfl⟩
          case measure => simp [intOf]; omega
        · have HNE : Hid (es[k]? ≠ fs[k]?) := by
            have : es[k]? ≠ fs[k]? := by rw [HX.out, HY.out]; intro e; cases e; exact hxy rfl
            exact this
          rcases ev_ne hxy with h1 | ⟨h1, h2⟩
          all_goals
            clear hxy
            go_wp2
            go_quiet (fail)
            go_wp2
            go_ret
            exact FDA.at HS.out HNE.out (below_drewNe (HB.out _) _)
      · obtain rfl : k = n := by omega
        clear H
        have HNE : Hid (es[k]? ≠ fs[k]?) := by
          have : es[k]? ≠ fs[k]? := by
            rw [List.getElem?_eq_none (l := es) (by rw [HN.out]; exact Nat.le_refl _), List.getElem?_eq_getElem (l := fs) (by rw [HN'.out]; omega)]
            simp
          exact this
        have hne : ((k : Int) == (n' : Int)) = false := by simp; omega
        go_wp2
        go_ret
        exact FDA.at HS.out HNE.out (HB.out _)
  · go_enter Try.func8, Try.ntmps8
    go_wp2
    go_loopw [13] (fun i wr => ∃ k m : Nat, k ≤ n ∧ i = .int .i64 k ∧ SameUp es fs k ∧ wr = w.drewN m) (fun i _ => n - (intOf i).toNat)
    case atStart => exact ⟨0, 0, Nat.zero_le _, rfl, fun j hj => absurd hj (Nat.not_lt_zero _), rfl⟩
    case round =>
      obtain ⟨k, m, hk, rfl, hS, rfl⟩ := hrel
      have HS := Lib.hid hS
      clear hS
      by_cases hlt : k < n
      · obtain ⟨x, y, b, o, b', o', hx, hy, rfl, rfl, d0, d1, e0, e1⟩ := H.out k (by omega) (by omega)
        have HX := Lib.hid hx
        have HY := Lib.hid hy
        clear hx hy H
        by_cases hxy : x = y
        · subst hxy
          have HS2 : Hid (SameUp es fs (k + 1)) := HS.out.succ (by rw [HX.out, HY.out])
          go_wp2
          go_quiet (fail)
          go_wp2
          go_roundw
          case rel => exact ⟨k + 1, _, by omega, by go_num, HS2.out, rfl⟩
          case measure => simp [intOf]; omega
        · have HNE : Hid (es[k]? ≠ fs[k]?) := by
            have : es[k]? ≠ fs[k]? := by rw [HX.out, HY.out]; intro e; cases e; exact hxy rfl
            exact this
          rcases ev_ne hxy with h1 | ⟨h1, h2⟩
          all_goals
            clear hxy
            go_wp2
            go_quiet (fail)
            go_wp2
            go_ret
            exact FDA.at HS.out HNE.out (below_drewNe (HB.out _) _)
      · obtain rfl : k = n := by omega
        clear H
        have HE : Hid (es = fs) := HS.out.all HN.out HN'.out
        go_wp2
        go_ret
        exact FDA.same HE.out (HB.out _)
  · go_enter Try.func8, Try.ntmps8
    go_wp2
    go_loopw [13] (fun i wr => ∃ k m : Nat, k ≤ n' ∧ i = .int .i64 k ∧ SameUp es fs k ∧ wr = w.drewN m) (fun i _ => n' - (intOf i).toNat)
    case atStart => exact ⟨0, 0, Nat.zero_le _, rfl, fun j hj => absurd hj (Nat.not_lt_zero _), rfl⟩
    case round =>
      obtain ⟨k, m, hk, rfl, hS, rfl⟩ := hrel
      have HS := Lib.hid hS
      clear hS
      by_cases hlt : k < n'
      · obtain ⟨x, y, b, o, b', o', hx, hy, rfl, rfl, d0, d1, e0, e1⟩ := H.out k (by omega) (by omega)
        have HX := Lib.hid hx
        have HY := Lib.hid hy
        clear hx hy H
        by_cases hxy : x = y
        · subst hxy
          have HS2 : Hid (SameUp es fs (k + 1)) := HS.out.succ (by rw [HX.out, HY.out])
          go_wp2
          go_quiet (fail)
          go_wp2
          go_roundw
          case rel => exact ⟨k + 1, _, by omega, by go_num, HS2.out, rfl⟩
          case measure => simp [intOf]; omega
        · have HNE : Hid (es[k]? ≠ fs[k]?) := by
            have : es[k]? ≠ fs[k]? := by rw [HX.out, HY.out]; intro e; cases e; exact hxy rfl
            exact this
          rcases ev_ne hxy with h1 | ⟨h1, h2⟩
          all_goals
            clear hxy
            go_wp2
            go_quiet (fail)
            go_wp2
            go_ret
            exact FDA.at HS.out HNE.out (below_drewNe (HB.out _) _)
      · obtain rfl : k = n' := by omega
        clear H
        have HNE : Hid (es[k]? ≠ fs[k]?) := by
          have : es[k]? ≠ fs[k]? := by
            rw [List.getElem?_eq_none (l := fs) (by rw [HN'.out]; exact Nat.le_refl _), List.getElem?_eq_getElem (l := es) (by rw [HN.out]; omega)]
            simp
          exact this
        have hne : ((n : Int) == (k : Int)) = false := by simp; omega
        go_wp2
        go_ret
        exact FDA.at HS.out HNE.out (HB.out _)

set_option maxHeartbeats 2000000 in
/-- **spec.TraceSame.** -/
theorem sTS_one (es fs : List Ev) (a a' : Option Addr) (cap cap' : Nat) (w : World) (h : EvL w es a cap) (h' : EvL w fs a' cap') :
    Calls Try.prog 11 #[.slice a es.length cap, .slice a' fs.length cap'] w (YN (decide (es = fs)) w) := by
  have hc := Nat.le_trans h.1 h.2.1
  have hc' := Nat.le_trans h'.1 h'.2.1
  unfold maxLen at hc hc'
  have HH := Lib.hid (sFD_one es fs a a' cap cap' w h h')
  clear h h'
  obtain ⟨n, hn⟩ : ∃ n, es.length = n := ⟨_, rfl⟩
  obtain ⟨n', hn'⟩ : ∃ n', fs.length = n' := ⟨_, rfl⟩
  rw [hn] at hc HH ⊢
  rw [hn'] at hc' HH ⊢
  have HV1 : Hid (n ≠ n' → false = decide (es = fs)) := by
    have : n ≠ n' → false = decide (es = fs) := fun h => (decide_eq_false fun e => h (by rw [← hn, ← hn', e])).symm
    exact this
  clear hn hn'
  by_cases hl : n = n'
  · subst hl
    go_enter Try.func11, Try.ntmps11
    go_wp2_with fail
    refine HH.out.mono ?_
    rintro e w1 ⟨v, rfl, hv, hb⟩
    have HV := Lib.hid hv.nil
    have HB := Lib.hid hb
    clear hv hb
    by_cases h1 : v = -1
    · subst h1
      go_wp2_with fail
      go_ret
      exact YN.of (b := true) (by rw [← HV.out]; rfl) HB.out
    · have h2 : (v == -1) = false := by simpa using h1
      have HE : Hid (false = decide (es = fs)) := by
        have : false = decide (es = fs) := by rw [← HV.out]; simpa using h1
        exact this
      clear h1
      go_wp2_with fail
      go_ret
      exact YN.of (b := false) HE.out HB.out
  · have hl' : ((n : Int) == (n' : Int)) = false := by simp; omega
    go_enter Try.func11, Try.ntmps11
    go_wp2_with fail
    go_ret
    exact YN.of (b := false) (HV1.out hl) (Below.refl _ _)

set_option maxHeartbeats 2000000 in
/-- slices.Equal at events. -/
theorem slEqEv_one (es fs : List Ev) (a a' : Option Addr) (cap cap' : Nat) (w : World) (h : EvL w es a cap) (h' : EvL w fs a' cap') :
    Calls Try.prog 26 #[.slice a es.length cap, .slice a' fs.length cap'] w (YN (decide (es = fs)) w) := by
  have hc := Nat.le_trans h.1 h.2.1
  have hc' := Nat.le_trans h'.1 h'.2.1
  unfold maxLen at hc hc'
  have H : Hid (∀ k, k < es.length → k < fs.length → ∃ x y b o b' o', es[k]? = some x ∧ fs[k]? = some y ∧ a = some ⟨b, o, none⟩ ∧ a' = some ⟨b', o', none⟩ ∧
      w.cell? ⟨b, o + k * 2, none⟩ = some (.int .i64 x.kind) ∧ w.cell? ⟨b, o + k * 2 + 1, none⟩ = some (.int .i64 x.value) ∧
      w.cell? ⟨b', o' + k * 2, none⟩ = some (.int .i64 y.kind) ∧ w.cell? ⟨b', o' + k * 2 + 1, none⟩ = some (.int .i64 y.value)) := fun k hk hk' => EvAt.two h h' hk hk'
  clear h h'
  have HB : Hid (∀ m, Below w.heap.size w (w.drewN m)) := fun m => below_drewNe (Below.refl _ w) m
  obtain ⟨n, hn⟩ : ∃ n, es.length = n := ⟨_, rfl⟩
  obtain ⟨n', hn'⟩ : ∃ n', fs.length = n' := ⟨_, rfl⟩
  have HN := Lib.hid hn
  have HN' := Lib.hid hn'
  rw [hn] at hc H ⊢
  rw [hn'] at hc' H ⊢
  clear hn hn'
  by_cases hnn : n = n'
  · subst hnn
    go_enter Try.func26, Try.ntmps26
    go_wp2
    go_loopw [13] (fun i wr => ∃ k m : Nat, k ≤ n ∧ i = .int .i64 k ∧ SameUp es fs k ∧ wr = w.drewN m) (fun i _ => n - (intOf i).toNat)
    case atStart => exact ⟨0, 0, Nat.zero_le _, rfl, fun j hj => absurd hj (Nat.not_lt_zero _), rfl⟩
    case round =>
      obtain ⟨k, m, hk, rfl, hS, rfl⟩ := hrel
      have HS := Lib.hid hS
      clear hS
      by_cases hlt : k < n
      · obtain ⟨x, y, b, o, b', o', hx, hy, rfl, rfl, d0, d1, e0, e1⟩ := H.out k (by omega) (by omega)
        have HX := Lib.hid hx
        have HY := Lib.hid hy
        clear hx hy H
        by_cases hxy : x = y
        · subst hxy
          have HS2 : Hid (SameUp es fs (k + 1)) := HS.out.succ (by rw [HX.out, HY.out])
          go_wp2
          go_quiet (fail)
          go_wp2
          go_roundw
          case rel => exact ⟨k + 1, _, by omega, by go_num, HS2.out, rfl⟩
          case measure => simp [intOf]; omega
        · have HNE : Hid (false = decide (es = fs)) := (decide_eq_false fun e => hxy (by have h1 := HX.out; rw [e, HY.out] at h1; cases h1; rfl)).symm
          rcases ev_ne hxy with h1 | ⟨h1, h2⟩
          all_goals
            clear hxy
            go_wp2
            go_quiet (fail)
            go_wp2
            go_ret
            exact YN.of HNE.out (below_drewNe (HB.out _) _)
      · obtain rfl : k = n := by omega
        clear H
        have HE : Hid (true = decide (es = fs)) := (decide_eq_true (HS.out.all HN.out HN'.out)).symm
        go_wp2
        go_ret
        exact YN.of HE.out (HB.out _)
  · have hne : ((n : Int) != (n' : Int)) = true := by simp; omega
    have HNE : Hid (false = decide (es = fs)) := (decide_eq_false fun e => hnn (by rw [← HN.out, ← HN'.out, e])).symm
    clear H
    go_enter Try.func26, Try.ntmps26
    go_wp2
    go_ret
    exact YN.of HNE.out (Below.refl _ _)

set_option maxHeartbeats 2000000 in
/-- **impl.TraceSame.** -/
theorem iTS_one (es fs : List Ev) (a a' : Option Addr) (cap cap' : Nat) (w : World) (h : EvL w es a cap) (h' : EvL w fs a' cap') :
    Calls Try.prog 10 #[.slice a es.length cap, .slice a' fs.length cap'] w (YN (decide (es = fs)) w) := by
  have HH := Lib.hid h
  have HH' := Lib.hid h'
  clear h h'
  obtain ⟨q, hq⟩ : ∃ q, decide (es = fs) = q := ⟨_, rfl⟩
  go_enter Try.func10, Try.ntmps10
  go_wp2_with fail
  refine (slEqEv_one es fs a a' cap cap' _ HH.out HH'.out).mono ?_
  rintro e w1 ⟨rfl, hb⟩
  have HB := Lib.hid hb
  rw [hq]
  go_wp2_with fail
  go_ret
  exact YN.of (b := q) hq.symm HB.out

end Go.Proofs.Ytjmfnpljkiobkaa

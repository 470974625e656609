/- eqMemory of the exact laws, spec's and the program's MemorySame: each answers whether two memories are equal. Nothing that was there changes. -/
import Derived.Test.YtleomemalgfmoaaMm
namespace Go.Proofs.Ytleomemalgfmoaa
open Go.RowKit
set_option linter.unusedVariables false

theorem Ans.yn {b : Bool} {w w' : World} {e : Ending} (h : Ans b w e w') : YN b w e w' := by
  obtain ⟨rfl, m, rfl⟩ := h
  exact ⟨rfl, ⟨(Below.refl w.heap.size w).os, (Below.refl w.heap.size w).tape, (Below.refl w.heap.size w).output, (Below.refl w.heap.size w).size, (Below.refl w.heap.size w).block⟩⟩

/-- eqIntS. -/
theorem eqI_one (a a' : Option Addr) (c c' : Nat) (xs ys : List Int) (w : World) {D D' : Nat → Prop} (h : IAt w D xs a) (h' : IAt w D' ys a') :
    Calls Try.prog 47 #[.slice a xs.length c, .slice a' ys.length c'] w (YN (decide (xs = ys)) w) :=
  (eqInts_one a a' xs.length c ys.length c' xs ys w h.slice h'.slice).mono fun _ _ q => q.yn

set_option maxHeartbeats 1000000 in
/-- slices.Equal at ints. -/
theorem slEqInts_one (a a' : Option Addr) (n cap n' cap' : Nat) (xs ys : List Int) (w : World) (h : SliceI w a n xs) (h' : SliceI w a' n' ys) :
    Calls Try.prog 40 #[.slice a n cap, .slice a' n' cap'] w (Ans (eqL xs ys) w) := by
  obtain ⟨hm, hx, hc⟩ := h
  obtain ⟨hm', hy, hc'⟩ := h'
  unfold maxLen at hm hm'
  have HX := Lib.hid hx
  have HY := Lib.hid hy
  have HC := Lib.hid hc
  have HC' := Lib.hid hc'
  clear hx hy hc hc'
  by_cases hn : n = n'
  · subst hn
    go_enter Try.func40, Try.ntmps40
    go_wp2
    go_loopw [13] (fun i wr => ∃ k m : Nat, k ≤ n ∧ i = .int .i64 k ∧ EqUpto xs ys k ∧ wr = w.drewN m) (fun i _ => n - (intOf i).toNat)
    case atStart => exact ⟨0, 0, Nat.zero_le _, rfl, EqUpto.zero _ _, rfl⟩
    case round =>
      obtain ⟨k, m, hk, rfl, heq, rfl⟩ := hrel
      have HE := Lib.hid heq
      clear heq
      by_cases hlt : k < n
      · obtain ⟨b, o, rfl, hc⟩ := HC.out k hlt
        obtain ⟨b', o', rfl, hc'⟩ := HC'.out k hlt
        obtain ⟨x, hx⟩ : ∃ x, xs.getD k 0 = x := ⟨_, rfl⟩
        obtain ⟨y, hy⟩ : ∃ y, ys.getD k 0 = y := ⟨_, rfl⟩
        rw [hx] at hc
        rw [hy] at hc'
        have HXK := Lib.hid hx
        have HYK := Lib.hid hy
        clear hx hy HC HC'
        by_cases hxy : x = y
        · subst hxy
          go_wp2
          go_quiet (fail)
          go_wp2
          go_roundw
          case rel => exact ⟨k + 1, _, by omega, by go_num, HE.out.succ (HXK.out.trans HYK.out.symm), rfl⟩
          case measure => simp [intOf]; omega
        · have hne : (x != y) = true := by simpa using hxy
          go_wp2
          go_quiet (fail)
          go_wp2
          go_ret
          refine ⟨?_, _, drewN_drewN' _ _ _⟩
          have : eqL xs ys = false := by
            unfold eqL
            refine decide_eq_false fun e => hxy ?_
            rw [← HXK.out, ← HYK.out, e]
          rw [this]; rfl
      · have hkn : k = n := by omega
        have hall := (show EqUpto xs ys n from hkn ▸ HE.out).all HX.out HY.out
        have hL : eqL xs ys = true := decide_eq_true hall
        have HL := Lib.hid hL
        clear hL hall hkn
        go_wp2
        go_ret
        exact ⟨by rw [HL.out]; rfl, _, rfl⟩
  · have hne : ((n : Int) != (n' : Int)) = true := by simp; omega
    have hL : eqL xs ys = false := by
      unfold eqL
      refine decide_eq_false fun e => hn ?_
      rw [← HX.out, ← HY.out, e]
    have HL := Lib.hid hL
    clear hL
    go_enter Try.func40, Try.ntmps40
    go_wp2
    go_ret
    exact ⟨by rw [HL.out]; rfl, 0, rfl⟩
theorem slEqI_one (a a' : Option Addr) (c c' : Nat) (xs ys : List Int) (w : World) {D D' : Nat → Prop} (h : IAt w D xs a) (h' : IAt w D' ys a') :
    Calls Try.prog 40 #[.slice a xs.length c, .slice a' ys.length c'] w (YN (decide (xs = ys)) w) :=
  (slEqInts_one a a' xs.length c ys.length c' xs ys w h.slice h'.slice).mono fun _ _ q => q.yn

set_option maxHeartbeats 1000000 in
/-- spec.l2Ints. -/
theorem l2Ints_one (a a' : Option Addr) (n cap n' cap' : Nat) (xs ys : List Int) (w : World) (h : SliceI w a n xs) (h' : SliceI w a' n' ys) :
    Calls Try.prog 41 #[.slice a n cap, .slice a' n' cap'] w (Ans (eqL xs ys) w) := by
  obtain ⟨hm, hx, hc⟩ := h
  obtain ⟨hm', hy, hc'⟩ := h'
  unfold maxLen at hm hm'
  have HX := Lib.hid hx
  have HY := Lib.hid hy
  have HC := Lib.hid hc
  have HC' := Lib.hid hc'
  clear hx hy hc hc'
  by_cases hn : n = n'
  · subst hn
    go_enter Try.func41, Try.ntmps41
    go_wp2
    go_loopw [5] (fun i wr => ∃ k m : Nat, k ≤ n ∧ i = .int .i64 k ∧ EqUpto xs ys k ∧ wr = w.drewN m) (fun i _ => n - (intOf i).toNat)
    case atStart => exact ⟨0, 0, Nat.zero_le _, rfl, EqUpto.zero _ _, rfl⟩
    case round =>
      obtain ⟨k, m, hk, rfl, heq, rfl⟩ := hrel
      have HE := Lib.hid heq
      clear heq
      by_cases hlt : k < n
      · obtain ⟨b, o, rfl, hc⟩ := HC.out k hlt
        obtain ⟨b', o', rfl, hc'⟩ := HC'.out k hlt
        obtain ⟨x, hx⟩ : ∃ x, xs.getD k 0 = x := ⟨_, rfl⟩
        obtain ⟨y, hy⟩ : ∃ y, ys.getD k 0 = y := ⟨_, rfl⟩
        rw [hx] at hc
        rw [hy] at hc'
        have HXK := Lib.hid hx
        have HYK := Lib.hid hy
        clear hx hy HC HC'
        by_cases hxy : x = y
        · subst hxy
          go_wp2
          go_quiet (fail)
          go_wp2
          go_roundw
          case rel => exact ⟨k + 1, _, by omega, by go_num, HE.out.succ (HXK.out.trans HYK.out.symm), rfl⟩
          case measure => simp [intOf]; omega
        · have hne : (x != y) = true := by simpa using hxy
          go_wp2
          go_quiet (fail)
          go_wp2
          go_ret
          refine ⟨?_, _, drewN_drewN' _ _ _⟩
          have : eqL xs ys = false := by
            unfold eqL
            refine decide_eq_false fun e => hxy ?_
            rw [← HXK.out, ← HYK.out, e]
          rw [this]; rfl
      · have hkn : k = n := by omega
        have hall := (show EqUpto xs ys n from hkn ▸ HE.out).all HX.out HY.out
        have hL : eqL xs ys = true := decide_eq_true hall
        have HL := Lib.hid hL
        clear hL hall hkn
        go_wp2
        go_ret
        exact ⟨by rw [HL.out]; rfl, _, rfl⟩
  · have hne : ((n : Int) != (n' : Int)) = true := by simp; omega
    have hL : eqL xs ys = false := by
      unfold eqL
      refine decide_eq_false fun e => hn ?_
      rw [← HX.out, ← HY.out, e]
    have HL := Lib.hid hL
    clear hL
    go_enter Try.func41, Try.ntmps41
    go_wp2
    go_ret
    exact ⟨by rw [HL.out]; rfl, 0, rfl⟩
theorem l2I_one (a a' : Option Addr) (c c' : Nat) (xs ys : List Int) (w : World) {D D' : Nat → Prop} (h : IAt w D xs a) (h' : IAt w D' ys a') :
    Calls Try.prog 41 #[.slice a xs.length c, .slice a' ys.length c'] w (YN (decide (xs = ys)) w) :=
  (l2Ints_one a a' xs.length c ys.length c' xs ys w h.slice h'.slice).mono fun _ _ q => q.yn

/-- Two rows at one index. -/
theorem RAt.two {w : World} {D D' : Nat → Prop} {es fs : List (List Int)} {a a' : Option Addr} (h : RAt w D es a) (h' : RAt w D' fs a') {k : Nat} (hk : k < es.length) (hk' : k < fs.length) :
    ∃ x y b o b' o' ax cx ay cy, es[k]? = some x ∧ fs[k]? = some y ∧ a = some ⟨b, o, none⟩ ∧ a' = some ⟨b', o', none⟩ ∧ b < w.heap.size ∧ b' < w.heap.size ∧
      w.cell? ⟨b, o + k, none⟩ = some (.slice ax x.length cx) ∧ w.cell? ⟨b', o' + k, none⟩ = some (.slice ay y.length cy) ∧ IAt w D x ax ∧ IAt w D' y ay := by
  have hx : es[k]? = some es[k] := List.getElem?_eq_getElem _
  have hy : fs[k]? = some fs[k] := List.getElem?_eq_getElem _
  obtain ⟨b, o, ax, cx, rfl, _, e0, e1⟩ := h.2 k _ hx
  obtain ⟨b', o', ay, cy, rfl, _, g0, g1⟩ := h'.2 k _ hy
  exact ⟨_, _, b, o, b', o', ax, cx, ay, cy, hx, hy, rfl, rfl, World.block_lt_of_cell? w _ e0, World.block_lt_of_cell? w _ g0, e0, g0, e1, g1⟩

set_option maxHeartbeats 2000000 in
/-- eqIntSS. -/
theorem eqRows_one (es fs : List (List Int)) (a a' : Option Addr) (cap cap' : Nat) (w : World) {D D' : Nat → Prop} (h : RAt w D es a) (h' : RAt w D' fs a') (hD : ∀ j, D j → j < w.heap.size) (hD' : ∀ j, D' j → j < w.heap.size) :
    Calls Try.prog 63 #[.slice a es.length cap, .slice a' fs.length cap'] w (YN (decide (es = fs)) w) := by
  have hm := h.1
  have hm' := h'.1
  unfold maxLen at hm hm'
  have HT : Hid (∀ v, Below w.heap.size w v → ∀ k, k < es.length → k < fs.length → ∃ x y b o b' o' ax cx ay cy, es[k]? = some x ∧ fs[k]? = some y ∧ a = some ⟨b, o, none⟩ ∧ a' = some ⟨b', o', none⟩ ∧ b < v.heap.size ∧ b' < v.heap.size ∧
      v.cell? ⟨b, o + k, none⟩ = some (.slice ax x.length cx) ∧ v.cell? ⟨b', o' + k, none⟩ = some (.slice ay y.length cy) ∧ IAt v D x ax ∧ IAt v D' y ay) := fun v hv k hk hk' =>
    RAt.two (h.wide (fun j hj => hv.block j (hD j hj)) fun _ x => x) (h'.wide (fun j hj => hv.block j (hD' j hj)) fun _ x => x) hk hk'
  clear h h'
  obtain ⟨len, hlen⟩ : ∃ len, es.length = len := ⟨_, rfl⟩
  obtain ⟨len', hlen'⟩ : ∃ len', fs.length = len' := ⟨_, rfl⟩
  have HLEN := Lib.hid hlen
  have HLEN' := Lib.hid hlen'
  rw [hlen] at hm HT ⊢
  rw [hlen'] at hm' HT ⊢
  clear hlen hlen'
  by_cases hne : len = len'
  · subst hne
    go_enter Try.func63, Try.ntmps63
    go_wp2_with fail
    go_loopw [5] (fun i wr => ∃ k : Nat, k ≤ len ∧ i = .int .i64 k ∧ SameUp es fs k ∧ Below w.heap.size w wr) (fun i _ => len - (intOf i).toNat)
    case atStart => exact ⟨0, Nat.zero_le _, rfl, fun j hj => absurd hj (Nat.not_lt_zero _), Below.refl _ _⟩
    case round =>
      obtain ⟨k, hk, rfl, hS, hB⟩ := hrel
      have HS := Lib.hid hS
      have HB := Lib.hid hB
      clear hS hB
      by_cases hlt : k < len
      · obtain ⟨x, y, b, o, b', o', ax, cx, ay, cy, hx, hy, rfl, rfl, _, _, r0, s0, hi, hi'⟩ := HT.out wr HB.out k hlt hlt
        have HI : Hid (IAt wr.drew D x ax) := hi
        have HI' : Hid (IAt wr.drew D' y ay) := hi'
        have hsz := HB.out.size
        have HX := Lib.hid hx
        have HY := Lib.hid hy
        clear hx hy HT hi hi'
        by_cases hxy : x = y
        · have HQ : Hid (decide (x = y) = true) := decide_eq_true hxy
          have HS2 : Hid (SameUp es fs (k + 1)) := HS.out.succ (by rw [HX.out, HY.out, hxy])
          clear hxy
          go_wp2_with fail
          go_region_with (go_at_call 47; refine (eqI_one ax ay cx cy x y _ HI.out HI'.out).mono ?_; rintro e w2 ⟨rfl, hb2⟩; rw [HQ.out]; have HB2 : Hid (Below w.heap.size w w2) := (HB.out.drew.trans (hb2.mono hsz)); clear hb2)
          all_goals
            go_wp2_with fail
            go_roundw
            case rel => exact ⟨k + 1, by omega, by go_num, HS2.out, HB2.out⟩
            case measure => simp [intOf]; omega
        · have HQ : Hid (decide (x = y) = false) := decide_eq_false hxy
          have HN : Hid (false = decide (es = fs)) := (decide_eq_false fun e => hxy (by have h1 := HX.out; rw [e, HY.out] at h1; cases h1; rfl)).symm
          clear hxy
          go_wp2_with fail
          go_region_with (go_at_call 47; refine (eqI_one ax ay cx cy x y _ HI.out HI'.out).mono ?_; rintro e w2 ⟨rfl, hb2⟩; rw [HQ.out]; have HB2 : Hid (Below w.heap.size w w2) := (HB.out.drew.trans (hb2.mono hsz)); clear hb2)
          all_goals
            go_wp2_with fail
            go_ret
            exact YN.of HN.out HB2.out
      · obtain rfl : k = len := by omega
        have HN : Hid (true = decide (es = fs)) := (decide_eq_true (HS.out.all HLEN.out HLEN'.out)).symm
        clear HT
        go_wp2_with fail
        go_ret
        exact YN.of HN.out HB.out
  · have hne' : ((len : Int) != (len' : Int)) = true := by simp; omega
    have HN : Hid (false = decide (es = fs)) := (decide_eq_false fun e => hne (by rw [← HLEN.out, ← HLEN'.out, e])).symm
    clear HT
    go_enter Try.func63, Try.ntmps63
    go_wp2_with fail
    go_ret
    exact YN.of HN.out (Below.refl _ _)

theorem Mm.ext' {m n : Mm} (h1 : m.vals = n.vals) (h2 : m.arrs = n.arrs) : m = n := by cases m; cases n; simp_all

end Go.Proofs.Ytleomemalgfmoaa

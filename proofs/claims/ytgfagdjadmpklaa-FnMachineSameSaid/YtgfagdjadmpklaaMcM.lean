/- eqMemory of the exact laws, spec's and the program's MemorySame: each answers whether two memories are equal. Nothing that was there changes. -/
import Derived.Test.YtgfagdjadmpklaaMm
namespace Go.Proofs.Ytgfagdjadmpklaa
open Go.RowKit
set_option linter.unusedVariables false

theorem Ans.yn {b : Bool} {w w' : World} {e : Ending} (h : Ans b w e w') : YN b w e w' := by
  obtain ⟨rfl, m, rfl⟩ := h
  exact ⟨rfl, ⟨(Below.refl w.heap.size w).os, (Below.refl w.heap.size w).tape, (Below.refl w.heap.size w).output, (Below.refl w.heap.size w).size, (Below.refl w.heap.size w).block⟩⟩

/-- eqIntS. -/
theorem eqI_one (a a' : Option Addr) (c c' : Nat) (xs ys : List Int) (w : World) {D D' : Nat → Prop} (h : IAt w D xs a) (h' : IAt w D' ys a') :
    Calls Try.prog 67 #[.slice a xs.length c, .slice a' ys.length c'] w (YN (decide (xs = ys)) w) :=
  (eqInts_one a a' xs.length c ys.length c' xs ys w h.slice h'.slice).mono fun _ _ q => q.yn

set_option maxHeartbeats 1000000 in
/-- slices.Equal at ints. -/
theorem slEqInts_one (a a' : Option Addr) (n cap n' cap' : Nat) (xs ys : List Int) (w : World) (h : SliceI w a n xs) (h' : SliceI w a' n' ys) :
    Calls Try.prog 51 #[.slice a n cap, .slice a' n' cap'] w (Ans (eqL xs ys) w) := by
  obtain ⟨hm, hx, hc⟩ := h
  obtain ⟨hm', hy, hc'⟩ := h'
  unfold maxLen at hm hm'
  have HX := Lib.hid hx
  have HY := Lib.hid hy
  have HC := Lib.hid hc
  have HC' := Lib.hid hc'
  clear hx hy hc hc'
  by_cases hn : n = n'
  · subst hn
    go_enter Try.func51, Try.ntmps51
    go_wp2
    go_loopw [13] (fun i wr => ∃ k m : Nat, k ≤ n ∧ i = .int .i64 k ∧ EqUpto xs ys k ∧ wr = w.drewN m) (fun i _ => n - (intOf i).toNat)
    case atStart => exact ⟨0, 0, Nat.zero_le _, rfl, EqUpto.zero _ _, rfl⟩
    case round =>
      obtain ⟨k, m, hk, rfl, heq, rfl⟩ := hrel
      have HE := Lib.hid heq
      clear heq
      by_cases hlt : k < n
      · obtain ⟨b, o, rfl, hc⟩ := HC.out k hlt
        obtain ⟨b', o', rfl, hc'⟩ := HC'.out k hlt
        obtain ⟨x, hx⟩ : ∃ x, xs.getD k 0 = x := ⟨_, rfl⟩
        obtain ⟨y, hy⟩ : ∃ y, ys.getD k 0 = y := ⟨_, rfl⟩
        rw [hx] at hc
        rw [hy] at hc'
        have HXK := Lib.hid hx
        have HYK := Lib.hid hy
        clear hx hy HC HC'
        by_cases hxy : x = y
        · subst hxy
          go_wp2
          go_quiet (fail)
          go_wp2
          go_roundw
          case rel => exact ⟨k + 1, _, by omega, by go_num, HE.out.succ (HXK.out.trans HYK.out.symm), rfl⟩
          case measure => simp [intOf]; omega
        · have hne : (x != y) = true := by simpa using hxy
          go_wp2
          go_quiet (fail)
          go_wp2
          go_ret
          refine ⟨?_, _, drewN_drewN' _ _ _⟩
          have : eqL xs ys = false := by
            unfold eqL
            refine decide_eq_false fun e => hxy ?_
            rw [← HXK.out, ← HYK.out, e]
          rw [this]; rfl
      · have hkn : k = n := by omega
        have hall := (show EqUpto xs ys n from hkn ▸ HE.out).all HX.out HY.out
        have hL : eqL xs ys = true := decide_eq_true hall
        have HL := Lib.hid hL
        clear hL hall hkn
        go_wp2
        go_ret
        exact ⟨by rw [HL.out]; rfl, _, rfl⟩
  · have hne : ((n : Int) != (n' : Int)) = true := by simp; omega
    have hL : eqL xs ys = false := by
      unfold eqL
      refine decide_eq_false fun e => hn ?_
      rw [← HX.out, ← HY.out, e]
    have HL := Lib.hid hL
    clear hL
    go_enter Try.func51, Try.ntmps51
    go_wp2
    go_ret
    exact ⟨by rw [HL.out]; rfl, 0, rfl⟩
theorem slEqI_one (a a' : Option Addr) (c c' : Nat) (xs ys : List Int) (w : World) {D D' : Nat → Prop} (h : IAt w D xs a) (h' : IAt w D' ys a') :
    Calls Try.prog 51 #[.slice a xs.length c, .slice a' ys.length c'] w (YN (decide (xs = ys)) w) :=
  (slEqInts_one a a' xs.length c ys.length c' xs ys w h.slice h'.slice).mono fun _ _ q => q.yn

set_option maxHeartbeats 1000000 in
/-- spec.l2Ints. -/
theorem l2Ints_one (a a' : Option Addr) (n cap n' cap' : Nat) (xs ys : List Int) (w : World) (h : SliceI w a n xs) (h' : SliceI w a' n' ys) :
    Calls Try.prog 52 #[.slice a n cap, .slice a' n' cap'] w (Ans (eqL xs ys) w) := by
  obtain ⟨hm, hx, hc⟩ := h
  obtain ⟨hm', hy, hc'⟩ := h'
  unfold maxLen at hm hm'
  have HX := Lib.hid hx
  have HY := Lib.hid hy
  have HC := Lib.hid hc
  have HC' := Lib.hid hc'
  clear hx hy hc hc'
  by_cases hn : n = n'
  · subst hn
    go_enter Try.func52, Try.ntmps52
    go_wp2
    go_loopw [5] (fun i wr => ∃ k m : Nat, k ≤ n ∧ i = .int .i64 k ∧ EqUpto xs ys k ∧ wr = w.drewN m) (fun i _ => n - (intOf i).toNat)
    case atStart => exact ⟨0, 0, Nat.zero_le _, rfl, EqUpto.zero _ _, rfl⟩
    case round =>
      obtain ⟨k, m, hk, rfl, heq, rfl⟩ := hrel
      have HE := Lib.hid heq
      clear heq
      by_cases hlt : k < n
      · obtain ⟨b, o, rfl, hc⟩ := HC.out k hlt
        obtain ⟨b', o', rfl, hc'⟩ := HC'.out k hlt
        obtain ⟨x, hx⟩ : ∃ x, xs.getD k 0 = x := ⟨_, rfl⟩
        obtain ⟨y, hy⟩ : ∃ y, ys.getD k 0 = y := ⟨_, rfl⟩
        rw [hx] at hc
        rw [hy] at hc'
        have HXK := Lib.hid hx
        have HYK := Lib.hid hy
        clear hx hy HC HC'
        by_cases hxy : x = y
        · subst hxy
          go_wp2
          go_quiet (fail)
          go_wp2
          go_roundw
          case rel => exact ⟨k + 1, _, by omega, by go_num, HE.out.succ (HXK.out.trans HYK.out.symm), rfl⟩
          case measure => simp [intOf]; omega
        · have hne : (x != y) = true := by simpa using hxy
          go_wp2
          go_quiet (fail)
          go_wp2
          go_ret
          refine ⟨?_, _, drewN_drewN' _ _ _⟩
          have : eqL xs ys = false := by
            unfold eqL
            refine decide_eq_false fun e => hxy ?_
            rw [← HXK.out, ← HYK.out, e]
          rw [this]; rfl
      · have hkn : k = n := by omega
        have hall := (show EqUpto xs ys n from hkn ▸ HE.out).all HX.out HY.out
        have hL : eqL xs ys = true := decide_eq_true hall
        have HL := Lib.hid hL
        clear hL hall hkn
        go_wp2
        go_ret
        exact ⟨by rw [HL.out]; rfl, _, rfl⟩
  · have hne : ((n : Int) != (n' : Int)) = true := by simp; omega
    have hL : eqL xs ys = false := by
      unfold eqL
      refine decide_eq_false fun e => hn ?_
      rw [← HX.out, ← HY.out, e]
    have HL := Lib.hid hL
    clear hL
    go_enter Try.func52, Try.ntmps52
    go_wp2
    go_ret
    exact ⟨by rw [HL.out]; rfl, 0, rfl⟩
theorem l2I_one (a a' : Option Addr) (c c' : Nat) (xs ys : List Int) (w : World) {D D' : Nat → Prop} (h : IAt w D xs a) (h' : IAt w D' ys a') :
    Calls Try.prog 52 #[.slice a xs.length c, .slice a' ys.length c'] w (YN (decide (xs = ys)) w) :=
  (l2Ints_one a a' xs.length c ys.length c' xs ys w h.slice h'.slice).mono fun _ _ q => q.yn

/-- Two rows at one index. -/
theorem RAt.two {w : World} {D D' : Nat → Prop} {es fs : List (List Int)} {a a' : Option Addr} (h : RAt w D es a) (h' : RAt w D' fs a') {k : Nat} (hk : k < es.length) (hk' : k < fs.length) :
    ∃ x y b o b' o' ax cx ay cy, es[k]? = some x ∧ fs[k]? = some y ∧ a = some ⟨b, o, none⟩ ∧ a' = some ⟨b', o', none⟩ ∧ b < w.heap.size ∧ b' < w.heap.size ∧
      w.cell? ⟨b, o + k, none⟩ = some (.slice ax x.length cx) ∧ w.cell? ⟨b', o' + k, none⟩ = some (.slice ay y.length cy) ∧ IAt w D x ax ∧ IAt w D' y ay := by
  have hx : es[k]? = some es[k] := List.getElem?_eq_getElem _
  have hy : fs[k]? = some fs[k] := List.getElem?_eq_getElem _
  obtain ⟨b, o, ax, cx, rfl, _, e0, e1⟩ := h.2 k _ hx
  obtain ⟨b', o', ay, cy, rfl, _, g0, g1⟩ := h'.2 k _ hy
  exact ⟨_, _, b, o, b', o', ax, cx, ay, cy, hx, hy, rfl, rfl, World.block_lt_of_cell? w _ e0, World.block_lt_of_cell? w _ g0, e0, g0, e1, g1⟩

set_option maxHeartbeats 2000000 in
/-- eqIntSS. -/
theorem eqRows_one (es fs : List (List Int)) (a a' : Option Addr) (cap cap' : Nat) (w : World) {D D' : Nat → Prop} (h : RAt w D es a) (h' : RAt w D' fs a') (hD : ∀ j, D j → j < w.heap.size) (hD' : ∀ j, D' j → j < w.heap.size) :
    Calls Try.prog 72 #[.slice a es.length cap, .slice a' fs.length cap'] w (YN (decide (es = fs)) w) := by
  have hm := h.1
  have hm' := h'.1
  unfold maxLen at hm hm'
  have HT : Hid (∀ v, Below w.heap.size w v → ∀ k, k < es.length → k < fs.length → ∃ x y b o b' o' ax cx ay cy, es[k]? = some x ∧ fs[k]? = some y ∧ a = some ⟨b, o, none⟩ ∧ a' = some ⟨b', o', none⟩ ∧ b < v.heap.size ∧ b' < v.heap.size ∧
      v.cell? ⟨b, o + k, none⟩ = some (.slice ax x.length cx) ∧ v.cell? ⟨b', o' + k, none⟩ = some (.slice ay y.length cy) ∧ IAt v D x ax ∧ IAt v D' y ay) := fun v hv k hk hk' =>
    RAt.two (h.wide (fun j hj => hv.block j (hD j hj)) fun _ x => x) (h'.wide (fun j hj => hv.block j (hD' j hj)) fun _ x => x) hk hk'
  clear h h'
  obtain ⟨len, hlen⟩ : ∃ len, es.length = len := ⟨_, rfl⟩
  obtain ⟨len', hlen'⟩ : ∃ len', fs.length = len' := ⟨_, rfl⟩
  have HLEN := Lib.hid hlen
  have HLEN' := Lib.hid hlen'
  rw [hlen] at hm HT ⊢
  rw [hlen'] at hm' HT ⊢
  clear hlen hlen'
  by_cases hne : len = len'
  · subst hne
    go_enter Try.func72, Try.ntmps72
    go_wp2_with fail
    go_loopw [5] (fun i wr => ∃ k : Nat, k ≤ len ∧ i = .int .i64 k ∧ SameUp es fs k ∧ Below w.heap.size w wr) (fun i _ => len - (intOf i).toNat)
    case atStart => exact ⟨0, Nat.zero_le _, rfl, fun j hj => absurd hj (Nat.not_lt_zero _), Below.refl _ _⟩
    case round =>
      obtain ⟨k, hk, rfl, hS, hB⟩ := hrel
      have HS := Lib.hid hS
      have HB := Lib.hid hB
      clear hS hB
      by_cases hlt : k < len
      · obtain ⟨x, y, b, o, b', o', ax, cx, ay, cy, hx, hy, rfl, rfl, _, _, r0, s0, hi, hi'⟩ := HT.out wr HB.out k hlt hlt
        have HI : Hid (IAt wr.drew D x ax) := hi
        have HI' : Hid (IAt wr.drew D' y ay) := hi'
        have hsz := HB.out.size
        have HX := Lib.hid hx
        have HY := Lib.hid hy
        clear hx hy HT hi hi'
        by_cases hxy : x = y
        · have HQ : Hid (decide (x = y) = true) := decide_eq_true hxy
          have HS2 : Hid (SameUp es fs (k + 1)) := HS.out.succ (by rw [HX.out, HY.out, hxy])
          clear hxy
          go_wp2_with fail
          go_region_with (go_at_call 67; refine (eqI_one ax ay cx cy x y _ HI.out HI'.out).mono ?_; rintro e w2 ⟨rfl, hb2⟩; rw [HQ.out]; have HB2 : Hid (Below w.heap.size w w2) := (HB.out.drew.trans (hb2.mono hsz)); clear hb2)
          all_goals
            go_wp2_with fail
            go_roundw
            case rel => exact ⟨k + 1, by omega, by go_num, HS2.out, HB2.out⟩
            case measure => simp [intOf]; omega
        · have HQ : Hid (decide (x = y) = false) := decide_eq_false hxy
          have HN : Hid (false = decide (es = fs)) := (decide_eq_false fun e => hxy (by have h1 := HX.out; rw [e, HY.out] at h1; cases h1; rfl)).symm
          clear hxy
          go_wp2_with fail
          go_region_with (go_at_call 67; refine (eqI_one ax ay cx cy x y _ HI.out HI'.out).mono ?_; rintro e w2 ⟨rfl, hb2⟩; rw [HQ.out]; have HB2 : Hid (Below w.heap.size w w2) := (HB.out.drew.trans (hb2.mono hsz)); clear hb2)
          all_goals
            go_wp2_with fail
            go_ret
            exact YN.of HN.out HB2.out
      · obtain rfl : k = len := by omega
        have HN : Hid (true = decide (es = fs)) := (decide_eq_true (HS.out.all HLEN.out HLEN'.out)).symm
        clear HT
        go_wp2_with fail
        go_ret
        exact YN.of HN.out HB.out
  · have hne' : ((len : Int) != (len' : Int)) = true := by simp; omega
    have HN : Hid (false = decide (es = fs)) := (decide_eq_false fun e => hne (by rw [← HLEN.out, ← HLEN'.out, e])).symm
    clear HT
    go_enter Try.func72, Try.ntmps72
    go_wp2_with fail
    go_ret
    exact YN.of HN.out (Below.refl _ _)

theorem Mm.ext' {m n : Mm} (h1 : m.vals = n.vals) (h2 : m.arrs = n.arrs) : m = n := by cases m; cases n; simp_all

end Go.Proofs.Ytgfagdjadmpklaa

namespace Go.Proofs.Ytgfagdjadmpklaa
open Go.RowKit
set_option linter.unusedVariables false

/-- Two memories, boxed one behind the other. -/
theorem two_boxes {w : World} (m n : Mm) (k l : MC) (T : TypeId) : Below w.heap.size w ((w.alloc (.cells (arrM m k) T)).alloc (.cells (arrM n l) T)) ∧ BoxM ((w.alloc (.cells (arrM m k) T)).alloc (.cells (arrM n l) T)) w.heap.size m k ∧
    BoxM ((w.alloc (.cells (arrM m k) T)).alloc (.cells (arrM n l) T)) (w.heap.size + 1) n l ∧ ((w.alloc (.cells (arrM m k) T)).alloc (.cells (arrM n l) T)).heap.size = w.heap.size + 2 := by
  refine ⟨((Below.refl w.heap.size w).alloc (Nat.le_refl _) _).alloc (by simp) _, ?_, ?_, by simp⟩
  · exact (BoxM.new w m k T).later (Below.heap_alloc _ _ _ (by simp))
  · have := BoxM.new (w.alloc (.cells (arrM m k) T)) n l T
    rw [World.size_alloc] at this
    exact this

set_option maxHeartbeats 2000000 in
/-- **eqMemory.** -/
theorem eqM_one (m n : Mm) (k l : MC) (w : World) (h : ML w m k) (h' : ML w n l) :
    Calls Try.prog 32 #[aggM m k, aggM n l] w (YN (decide (m = n)) w) := by
  have H : Hid (∀ v, Below w.heap.size w v → ML v m k ∧ ML v n l) := fun v hv => ⟨h.below hv, h'.below hv⟩
  clear h h'
  obtain ⟨hB, h0, h1, hz⟩ := two_boxes (w := w) m n k l 26
  have HB := Lib.hid hB
  have HX := Lib.hid h0
  have HY := Lib.hid h1
  clear hB h0 h1
  go_enter Try.func32, Try.ntmps32
  go_wp2_with fail
  obtain ⟨W, hW⟩ : ∃ W, ((w.alloc (.cells (arrM m k) 26)).alloc (.cells (arrM n l) 26)) = W := ⟨_, rfl⟩
  unfold arrM at hW
  rw [hW] at HB HX HY hz ⊢
  clear hW
  obtain ⟨q1, q2⟩ := H.out W HB.out
  have Q1 := Lib.hid q1
  have Q2 := Lib.hid q2
  clear q1 q2
  by_cases hv : m.vals = n.vals
  case neg =>
    have HN : Hid (false = decide (m = n)) := (decide_eq_false fun e => hv (by rw [e])).symm
    have HQ : Hid (decide (m.vals = n.vals) = false) := decide_eq_false hv
    refine (eqI_one k.va l.va k.vc l.vc m.vals n.vals W Q1.out.1 Q2.out.1).mono ?_
    rintro e w2 ⟨rfl, hb2⟩
    rw [HQ.out]
    have HB2 := Lib.hid (HB.out.trans (hb2.mono HB.out.size))
    clear hb2
    go_wp2_with fail
    go_ret
    exact YN.of HN.out HB2.out
  case pos =>
    have HQ : Hid (decide (m.vals = n.vals) = true) := decide_eq_true hv
    have HN : Hid (decide (m.arrs = n.arrs) = decide (m = n)) := by
      by_cases ha : m.arrs = n.arrs
      · exact (decide_eq_true ha).trans (decide_eq_true (Mm.ext' hv ha)).symm
      · exact (decide_eq_false ha).trans (decide_eq_false fun e => ha (by rw [e])).symm
    refine (eqI_one k.va l.va k.vc l.vc m.vals n.vals W Q1.out.1 Q2.out.1).mono ?_
    rintro e w2 ⟨rfl, hb2⟩
    rw [HQ.out]
    have y1 := (HX.out.below hb2 HX.out.lt).c1
    have z1 := (HY.out.below hb2 HY.out.lt).c1
    have HB2 := Lib.hid (HB.out.trans (hb2.mono HB.out.size))
    have hsz := hb2.size
    have hr1 := (Q1.out.below hb2).2
    have hr2 := (Q2.out.below hb2).2
    have R1 := Lib.hid hr1
    have R2 := Lib.hid hr2
    clear hb2 hr1 hr2 hv
    obtain ⟨q, hq⟩ : ∃ q, decide (m.arrs = n.arrs) = q := ⟨_, rfl⟩
    go_wp2_with fail
    refine (eqRows_one m.arrs n.arrs k.aa l.aa k.ac l.ac w2 R1.out R2.out (fun _ x => x) fun _ x => x).mono ?_
    rintro e w3 ⟨rfl, hb3⟩
    have HB3 := Lib.hid (HB2.out.trans (hb3.mono HB2.out.size))
    rw [hq] at HN ⊢
    clear hb3
    cases q
    all_goals
      go_wp2_with fail
      go_ret
      exact YN.of HN.out HB3.out

set_option maxHeartbeats 4000000 in
/-- **spec.MemorySame.** -/
theorem sMS_one (m n : Mm) (k l : MC) (w : World) (h : ML w m k) (h' : ML w n l) :
    Calls Try.prog 29 #[aggM m k, aggM n l] w (YN (decide (m = n)) w) := by
  have hm := h.2.1
  have hm' := h'.2.1
  unfold maxLen at hm hm'
  have H : Hid (∀ v, Below w.heap.size w v → ML v m k ∧ ML v n l) := fun v hv => ⟨h.below hv, h'.below hv⟩
  clear h h'
  obtain ⟨hB, h0, h1, hz⟩ := two_boxes (w := w) m n k l 26
  have HB := Lib.hid hB
  have HX := Lib.hid h0
  have HY := Lib.hid h1
  clear hB h0 h1
  obtain ⟨la, hla⟩ : ∃ la, m.arrs.length = la := ⟨_, rfl⟩
  obtain ⟨lb, hlb⟩ : ∃ lb, n.arrs.length = lb := ⟨_, rfl⟩
  have HLA := Lib.hid hla
  have HLB := Lib.hid hlb
  rw [hla] at hm
  rw [hlb] at hm'
  clear hla hlb
  go_enter Try.func29, Try.ntmps29
  go_wp2_with fail
  obtain ⟨W, hW⟩ : ∃ W, ((w.alloc (.cells (arrM m k) 26)).alloc (.cells (arrM n l) 26)) = W := ⟨_, rfl⟩
  unfold arrM at hW
  rw [hW] at HB HX HY hz ⊢
  clear hW
  obtain ⟨q1, q2⟩ := H.out W HB.out
  have Q1 := Lib.hid q1
  have Q2 := Lib.hid q2
  clear q1 q2
  by_cases hv : m.vals = n.vals
  case neg =>
    have HN : Hid (false = decide (m = n)) := (decide_eq_false fun e => hv (by rw [e])).symm
    have HQ : Hid (decide (m.vals = n.vals) = false) := decide_eq_false hv
    refine (l2I_one k.va l.va k.vc l.vc m.vals n.vals W Q1.out.1 Q2.out.1).mono ?_
    rintro e w2 ⟨rfl, hb2⟩
    rw [HQ.out]
    have HB2 := Lib.hid (HB.out.trans (hb2.mono HB.out.size))
    clear hb2
    go_wp2_with fail
    go_ret
    exact YN.of HN.out HB2.out
  case pos =>
  have HQ : Hid (decide (m.vals = n.vals) = true) := decide_eq_true hv
  refine (l2I_one k.va l.va k.vc l.vc m.vals n.vals W Q1.out.1 Q2.out.1).mono ?_
  rintro e w2 ⟨rfl, hb2⟩
  rw [HQ.out]
  have hx2 := HX.out.below hb2 HX.out.lt
  have hy2 := HY.out.below hb2 HY.out.lt
  have y1 : w2.cell? ⟨w.heap.size, 1, none⟩ = some (.slice k.aa la k.ac) := by rw [← HLA.out]; exact hx2.c1
  have z1 : w2.cell? ⟨w.heap.size + 1, 1, none⟩ = some (.slice l.aa lb l.ac) := by rw [← HLB.out]; exact hy2.c1
  have HBX : Hid (∀ v, Below w2.heap.size w2 v → v.cell? ⟨w.heap.size, 1, none⟩ = some (.slice k.aa la k.ac) ∧ v.cell? ⟨w.heap.size + 1, 1, none⟩ = some (.slice l.aa lb l.ac)) := fun v hv => by
    rw [← HLA.out, ← HLB.out]
    exact ⟨(hx2.below hv hx2.lt).c1, (hy2.below hv hy2.lt).c1⟩
  have HB2 := Lib.hid (HB.out.trans (hb2.mono HB.out.size))
  have hr1 := (Q1.out.below hb2).2
  have hr2 := (Q2.out.below hb2).2
  have HT : Hid (∀ v, Below w2.heap.size w2 v → ∀ j, j < la → j < lb → ∃ x y b o b' o' ax cx ay cy, m.arrs[j]? = some x ∧ n.arrs[j]? = some y ∧ k.aa = some ⟨b, o, none⟩ ∧ l.aa = some ⟨b', o', none⟩ ∧ b < v.heap.size ∧ b' < v.heap.size ∧
      v.cell? ⟨b, o + j, none⟩ = some (.slice ax x.length cx) ∧ v.cell? ⟨b', o' + j, none⟩ = some (.slice ay y.length cy) ∧ IAt v (fun b => b < w2.heap.size) x ax ∧ IAt v (fun b => b < w2.heap.size) y ay) := fun v hv j hj hj' =>
    RAt.two (hr1.wide (fun j hj => hv.block j hj) fun _ x => x) (hr2.wide (fun j hj => hv.block j hj) fun _ x => x) (by rw [HLA.out]; exact hj) (by rw [HLB.out]; exact hj')
  clear hb2 hr1 hr2 hx2 hy2
  by_cases hne : la = lb
  case neg =>
    have hne' : ((la : Int) != (lb : Int)) = true := by simp; omega
    have HN : Hid (false = decide (m = n)) := (decide_eq_false fun e => hne (by rw [← HLA.out, ← HLB.out, e])).symm
    clear HT hv
    go_wp2_with fail
    go_ret
    exact YN.of HN.out HB2.out
  case pos =>
  subst hne
  have HMV := Lib.hid hv
  clear hv
  go_wp2_with fail
  go_loopw [5] (fun i wr => ∃ j : Nat, j ≤ la ∧ i = .int .i64 j ∧ SameUp m.arrs n.arrs j ∧ Below w2.heap.size w2 wr) (fun i _ => la - (intOf i).toNat)
  case atStart => exact ⟨0, Nat.zero_le _, rfl, fun j hj => absurd hj (Nat.not_lt_zero _), Below.refl _ _⟩
  case round =>
    obtain ⟨j, hj, rfl, hS, hb⟩ := hrel
    have HS := Lib.hid hS
    have HBR := Lib.hid hb
    obtain ⟨y2, z2⟩ := HBX.out _ hb
    clear hS hb y1 z1
    by_cases hlt : j < la
    · obtain ⟨x, y, b, o, b', o', ax, cx, ay, cy, hx, hy, ha1, ha2, _, _, r0, s0, hi, hi'⟩ := HT.out wr HBR.out j hlt hlt
      have HI : Hid (IAt wr.drew (fun b => b < w2.heap.size) x ax) := hi
      have HI' : Hid (IAt wr.drew (fun b => b < w2.heap.size) y ay) := hi'
      have hsz := HBR.out.size
      have HX2 := Lib.hid hx
      have HY2 := Lib.hid hy
      rw [ha1] at y2
      rw [ha2] at z2
      clear hx hy HT hi hi' ha1 ha2
      by_cases hxy : x = y
      · have HQ2 : Hid (decide (x = y) = true) := decide_eq_true hxy
        have HS2 : Hid (SameUp m.arrs n.arrs (j + 1)) := HS.out.succ (by rw [HX2.out, HY2.out, hxy])
        clear hxy
        go_wp2_with fail
        go_region_with (go_at_call 52; refine (l2I_one ax ay cx cy x y _ HI.out HI'.out).mono ?_; rintro e w3 ⟨rfl, hb3⟩; rw [HQ2.out]; have HB3 : Hid (Below w2.heap.size w2 w3) := (HBR.out.drew.trans (hb3.mono hsz)); clear hb3)
        all_goals
          go_wp2_with fail
          go_roundw
          case rel => exact ⟨j + 1, by omega, by go_num, HS2.out, HB3.out⟩
          case measure => simp [intOf]; omega
      · have HQ2 : Hid (decide (x = y) = false) := decide_eq_false hxy
        have HN : Hid (false = decide (m = n)) := (decide_eq_false fun e => hxy (by have h1 := HX2.out; rw [e, HY2.out] at h1; cases h1; rfl)).symm
        clear hxy
        go_wp2_with fail
        go_region_with (go_at_call 52; refine (l2I_one ax ay cx cy x y _ HI.out HI'.out).mono ?_; rintro e w3 ⟨rfl, hb3⟩; rw [HQ2.out]; have HB3 : Hid (Below w2.heap.size w2 w3) := (HBR.out.drew.trans (hb3.mono hsz)); clear hb3)
        all_goals
          go_wp2_with fail
          go_ret
          exact YN.of HN.out (HB2.out.trans (HB3.out.mono HB2.out.size))
    · obtain rfl : j = la := by omega
      have HN : Hid (true = decide (m = n)) := (decide_eq_true (Mm.ext' HMV.out (HS.out.all HLA.out HLB.out))).symm
      clear HT
      go_wp2_with fail
      go_ret
      exact YN.of HN.out (HB2.out.trans (HBR.out.mono HB2.out.size))

end Go.Proofs.Ytgfagdjadmpklaa

namespace Go.Proofs.Ytgfagdjadmpklaa
open Go.RowKit
set_option linter.unusedVariables false

set_option maxHeartbeats 2000000 in
/-- slices.EqualFunc at rows of ints, told slices.Equal. -/
theorem eqF_one (es fs : List (List Int)) (a a' : Option Addr) (cap cap' : Nat) (w : World) {D D' : Nat → Prop} (h : RAt w D es a) (h' : RAt w D' fs a') (hD : ∀ j, D j → j < w.heap.size) (hD' : ∀ j, D' j → j < w.heap.size) :
    Calls Try.prog 71 #[.slice a es.length cap, .slice a' fs.length cap', .func (.func 51) #[] #[]] w (YN (decide (es = fs)) w) := by
  have hm := h.1
  have hm' := h'.1
  unfold maxLen at hm hm'
  have HT : Hid (∀ v, Below w.heap.size w v → ∀ k, k < es.length → k < fs.length → ∃ x y b o b' o' ax cx ay cy, es[k]? = some x ∧ fs[k]? = some y ∧ a = some ⟨b, o, none⟩ ∧ a' = some ⟨b', o', none⟩ ∧ b < v.heap.size ∧ b' < v.heap.size ∧
      v.cell? ⟨b, o + k, none⟩ = some (.slice ax x.length cx) ∧ v.cell? ⟨b', o' + k, none⟩ = some (.slice ay y.length cy) ∧ IAt v D x ax ∧ IAt v D' y ay) := fun v hv k hk hk' =>
    RAt.two (h.wide (fun j hj => hv.block j (hD j hj)) fun _ x => x) (h'.wide (fun j hj => hv.block j (hD' j hj)) fun _ x => x) hk hk'
  clear h h'
  obtain ⟨len, hlen⟩ : ∃ len, es.length = len := ⟨_, rfl⟩
  obtain ⟨len', hlen'⟩ : ∃ len', fs.length = len' := ⟨_, rfl⟩
  have HLEN := Lib.hid hlen
  have HLEN' := Lib.hid hlen'
  rw [hlen] at hm HT ⊢
  rw [hlen'] at hm' HT ⊢
  clear hlen hlen'
  by_cases hne : len = len'
  · subst hne
    go_enter Try.func71, Try.ntmps71
    go_wp2_with fail
    go_loopw [17] (fun i wr => ∃ k : Nat, k ≤ len ∧ i = .int .i64 k ∧ SameUp es fs k ∧ Below w.heap.size w wr) (fun i _ => len - (intOf i).toNat)
    case atStart => exact ⟨0, Nat.zero_le _, rfl, fun j hj => absurd hj (Nat.not_lt_zero _), Below.refl _ _⟩
    case round =>
      obtain ⟨k, hk, rfl, hS, hB⟩ := hrel
      have HS := Lib.hid hS
      have HB := Lib.hid hB
      clear hS hB
      by_cases hlt : k < len
      · obtain ⟨x, y, b, o, b', o', ax, cx, ay, cy, hx, hy, rfl, rfl, _, _, r0, s0, hi, hi'⟩ := HT.out wr HB.out k hlt hlt
        have HI : Hid (IAt wr D x ax) := hi
        have HI' : Hid (IAt wr D' y ay) := hi'
        have hsz := HB.out.size
        have HX := Lib.hid hx
        have HY := Lib.hid hy
        clear hx hy HT hi hi'
        by_cases hxy : x = y
        · have HQ : Hid (decide (x = y) = true) := decide_eq_true hxy
          have HS2 : Hid (SameUp es fs (k + 1)) := HS.out.succ (by rw [HX.out, HY.out, hxy])
          clear hxy
          go_wp2_with fail
          refine (slEqI_one ax ay cx cy x y _ HI.out HI'.out).mono ?_
          rintro e w2 ⟨rfl, hb2⟩
          rw [HQ.out]
          have HB2 : Hid (Below w.heap.size w w2) := (HB.out.trans (hb2.mono hsz))
          clear hb2
          go_wp2_with fail
          go_roundw
          case rel => exact ⟨k + 1, by omega, by go_num, HS2.out, HB2.out⟩
          case measure => simp [intOf]; omega
        · have HQ : Hid (decide (x = y) = false) := decide_eq_false hxy
          have HN : Hid (false = decide (es = fs)) := (decide_eq_false fun e => hxy (by have h1 := HX.out; rw [e, HY.out] at h1; cases h1; rfl)).symm
          clear hxy
          go_wp2_with fail
          refine (slEqI_one ax ay cx cy x y _ HI.out HI'.out).mono ?_
          rintro e w2 ⟨rfl, hb2⟩
          rw [HQ.out]
          have HB2 : Hid (Below w.heap.size w w2) := (HB.out.trans (hb2.mono hsz))
          clear hb2
          go_wp2_with fail
          go_ret
          exact YN.of HN.out HB2.out
      · obtain rfl : k = len := by omega
        have HN : Hid (true = decide (es = fs)) := (decide_eq_true (HS.out.all HLEN.out HLEN'.out)).symm
        clear HT
        go_wp2_with fail
        go_ret
        exact YN.of HN.out HB.out
  · have hne' : ((len : Int) != (len' : Int)) = true := by simp; omega
    have HN : Hid (false = decide (es = fs)) := (decide_eq_false fun e => hne (by rw [← HLEN.out, ← HLEN'.out, e])).symm
    clear HT
    go_enter Try.func71, Try.ntmps71
    go_wp2_with fail
    go_ret
    exact YN.of HN.out (Below.refl _ _)

set_option maxHeartbeats 2000000 in
/-- **impl.MemorySame.** -/
theorem iMS_one (m n : Mm) (k l : MC) (w : World) (h : ML w m k) (h' : ML w n l) :
    Calls Try.prog 31 #[aggM m k, aggM n l] w (YN (decide (m = n)) w) := by
  have H : Hid (∀ v, Below w.heap.size w v → ML v m k ∧ ML v n l) := fun v hv => ⟨h.below hv, h'.below hv⟩
  clear h h'
  obtain ⟨hB, h0, h1, hz⟩ := two_boxes (w := w) m n k l 26
  have HB := Lib.hid hB
  have HX := Lib.hid h0
  have HY := Lib.hid h1
  clear hB h0 h1
  go_enter Try.func31, Try.ntmps31
  go_wp2_with fail
  obtain ⟨W, hW⟩ : ∃ W, ((w.alloc (.cells (arrM m k) 26)).alloc (.cells (arrM n l) 26)) = W := ⟨_, rfl⟩
  unfold arrM at hW
  rw [hW] at HB HX HY hz ⊢
  clear hW
  obtain ⟨q1, q2⟩ := H.out W HB.out
  have Q1 := Lib.hid q1
  have Q2 := Lib.hid q2
  clear q1 q2
  by_cases hv : m.vals = n.vals
  case neg =>
    have HN : Hid (false = decide (m = n)) := (decide_eq_false fun e => hv (by rw [e])).symm
    have HQ : Hid (decide (m.vals = n.vals) = false) := decide_eq_false hv
    refine (slEqI_one k.va l.va k.vc l.vc m.vals n.vals W Q1.out.1 Q2.out.1).mono ?_
    rintro e w2 ⟨rfl, hb2⟩
    rw [HQ.out]
    have HB2 := Lib.hid (HB.out.trans (hb2.mono HB.out.size))
    clear hb2
    go_wp2_with fail
    go_ret
    exact YN.of HN.out HB2.out
  case pos =>
    have HQ : Hid (decide (m.vals = n.vals) = true) := decide_eq_true hv
    have HN : Hid (decide (m.arrs = n.arrs) = decide (m = n)) := by
      by_cases ha : m.arrs = n.arrs
      · exact (decide_eq_true ha).trans (decide_eq_true (Mm.ext' hv ha)).symm
      · exact (decide_eq_false ha).trans (decide_eq_false fun e => ha (by rw [e])).symm
    refine (slEqI_one k.va l.va k.vc l.vc m.vals n.vals W Q1.out.1 Q2.out.1).mono ?_
    rintro e w2 ⟨rfl, hb2⟩
    rw [HQ.out]
    have y1 := (HX.out.below hb2 HX.out.lt).c1
    have z1 := (HY.out.below hb2 HY.out.lt).c1
    have HB2 := Lib.hid (HB.out.trans (hb2.mono HB.out.size))
    have hsz := hb2.size
    have hr1 := (Q1.out.below hb2).2
    have hr2 := (Q2.out.below hb2).2
    have R1 := Lib.hid hr1
    have R2 := Lib.hid hr2
    clear hb2 hr1 hr2 hv
    obtain ⟨q, hq⟩ : ∃ q, decide (m.arrs = n.arrs) = q := ⟨_, rfl⟩
    go_wp2_with fail
    refine (eqF_one m.arrs n.arrs k.aa l.aa k.ac l.ac w2 R1.out R2.out (fun _ x => x) fun _ x => x).mono ?_
    rintro e w3 ⟨rfl, hb3⟩
    have HB3 := Lib.hid (HB2.out.trans (hb3.mono HB2.out.size))
    rw [hq] at HN ⊢
    clear hb3
    cases q
    all_goals
      go_wp2_with fail
      go_ret
      exact YN.of HN.out HB3.out

end Go.Proofs.Ytgfagdjadmpklaa

namespace Go.Proofs.Ytgfagdjadmpklaa
open Go.RowKit
set_option linter.unusedVariables false

structure Ms where
  pc : Int
  regs : List Int
  mem : Mm
deriving DecidableEq
structure MK where
  ra : Option Addr
  rc : Nat
  me : MC
abbrev arrS4 (m : Ms) (k : MK) : Array Value := #[.int .i64 m.pc, .slice k.ra m.regs.length k.rc, .slice k.me.va m.mem.vals.length k.me.vc, .slice k.me.aa m.mem.arrs.length k.me.ac]
abbrev aggS4 (m : Ms) (k : MK) : Value := .agg #[.int .i64 m.pc, .slice k.ra m.regs.length k.rc, .slice k.me.va m.mem.vals.length k.me.vc, .slice k.me.aa m.mem.arrs.length k.me.ac]
/-- A state lies in the world. -/
def SL (w : World) (m : Ms) (k : MK) : Prop := IAt w (fun b => b < w.heap.size) m.regs k.ra ∧ ML w m.mem k.me
theorem SL.below {w w' : World} {m : Ms} {k : MK} (h : SL w m k) (hb : Below w.heap.size w w') : SL w' m k :=
  ⟨h.1.wide (fun j hj => hb.block j hj) fun j hj => Nat.lt_of_lt_of_le hj hb.size, h.2.below hb⟩
/-- Every list of it is short. -/
def SSm (m : Ms) : Prop := m.regs.length ≤ 1048576 ∧ MSm m.mem

def BoxMs (w : World) (b : Nat) (m : Ms) (k : MK) : Prop := ∃ T, w.heap[b]? = some (.cells (arrS4 m k) T (0, 0))
theorem BoxMs.new (w : World) (m : Ms) (k : MK) (T : TypeId) : BoxMs (w.alloc (.cells (arrS4 m k) T)) w.heap.size m k := ⟨T, heap_alloc_new w _⟩
theorem BoxMs.later {w w' : World} {b : Nat} {m : Ms} {k : MK} (h : BoxMs w b m k) (hb : w'.heap[b]? = w.heap[b]?) : BoxMs w' b m k := by obtain ⟨T, h⟩ := h; exact ⟨T, hb.trans h⟩
theorem BoxMs.below {w w' : World} {b B : Nat} {m : Ms} {k : MK} (h : BoxMs w b m k) (hb : Below B w w') (hlt : b < B) : BoxMs w' b m k := h.later (hb.block b hlt)
theorem BoxMs.lt {w : World} {b : Nat} {m : Ms} {k : MK} (h : BoxMs w b m k) : b < w.heap.size := by obtain ⟨T, h⟩ := h; exact (Array.getElem?_eq_some_iff.1 h).1
theorem BoxMs.c0 {w : World} {b : Nat} {m : Ms} {k : MK} (h : BoxMs w b m k) : w.cell? ⟨b, 0, none⟩ = some (.int .i64 m.pc) := by obtain ⟨T, h⟩ := h; rw [cellAtM h]; rfl
theorem BoxMs.c1 {w : World} {b : Nat} {m : Ms} {k : MK} (h : BoxMs w b m k) : w.cell? ⟨b, 1, none⟩ = some (.slice k.ra m.regs.length k.rc) := by obtain ⟨T, h⟩ := h; rw [cellAtM h]; rfl
theorem BoxMs.c2 {w : World} {b : Nat} {m : Ms} {k : MK} (h : BoxMs w b m k) : w.cell? ⟨b, 2, none⟩ = some (.slice k.me.va m.mem.vals.length k.me.vc) := by obtain ⟨T, h⟩ := h; rw [cellAtM h]; rfl
theorem BoxMs.c3 {w : World} {b : Nat} {m : Ms} {k : MK} (h : BoxMs w b m k) : w.cell? ⟨b, 3, none⟩ = some (.slice k.me.aa m.mem.arrs.length k.me.ac) := by obtain ⟨T, h⟩ := h; rw [cellAtM h]; rfl

set_option maxHeartbeats 4000000 in
/-- **szMachine.** -/
theorem szS_one (m : Ms) (k : MK) (left : Int) (w : World) (h : SL w m k) (h0 : 0 ≤ left) (h1 : left ≤ 1048576) :
    Calls Try.prog 38 #[aggS4 m k, .int .i64 left] w (MSized (SSm m) left w) := by
  have hv := h.1.1
  have HM : Hid (∀ v, Below w.heap.size w v → ML v m.mem k.me) := fun v hv => h.2.below hv
  clear h
  have HBX := Lib.hid (BoxMs.new w m k 74)
  have HW := Lib.hid ((Below.refl w.heap.size w).alloc (Nat.le_refl _) (.cells (arrS4 m k) 74))
  go_enter Try.func38, Try.ntmps38
  go_wp2_with fail
  obtain ⟨W, hW⟩ : ∃ W, w.alloc (.cells (arrS4 m k) 74) = W := ⟨_, rfl⟩
  unfold arrS4 at hW
  rw [hW] at HBX HW ⊢
  clear hW
  have y2 := HBX.out.c2
  have y3 := HBX.out.c3
  refine (szI_one k.ra m.regs.length k.rc left W h0 h1 hv).mono ?_
  rintro f w1 ⟨v1, rfl, hv1', hs1, rfl⟩
  by_cases hn1 : v1 < 0
  · go_wp2_with fail
    go_ret
    exact ⟨-1, rfl, by omega, fun h => absurd h (by omega), HW.out⟩
  go_wp2_with fail
  refine (szM_one m.mem k.me v1 _ (HM.out _ HW.out) (by omega) (by omega)).mono ?_
  rintro f w2 ⟨v2, rfl, hv2', hs2, hb2⟩
  have HS2 := Lib.hid hs2
  have HB2 := Lib.hid (HW.out.trans (hb2.mono HW.out.size))
  clear hs2 hb2
  by_cases hn2 : v2 < 0
  · go_wp2_with fail
    go_ret
    exact ⟨-1, rfl, by omega, fun h => absurd h (by omega), HB2.out⟩
  go_wp2_with fail
  go_ret
  have q1 := hs1 (by omega)
  exact ⟨v2, rfl, by omega, fun _ => ⟨by omega, HS2.out (by omega)⟩, HB2.out⟩

/-- Two states, boxed one behind the other. -/
theorem two_states {w : World} (m n : Ms) (k l : MK) (T : TypeId) : Below w.heap.size w ((w.alloc (.cells (arrS4 m k) T)).alloc (.cells (arrS4 n l) T)) ∧ BoxMs ((w.alloc (.cells (arrS4 m k) T)).alloc (.cells (arrS4 n l) T)) w.heap.size m k ∧
    BoxMs ((w.alloc (.cells (arrS4 m k) T)).alloc (.cells (arrS4 n l) T)) (w.heap.size + 1) n l ∧ ((w.alloc (.cells (arrS4 m k) T)).alloc (.cells (arrS4 n l) T)).heap.size = w.heap.size + 2 := by
  refine ⟨((Below.refl w.heap.size w).alloc (Nat.le_refl _) _).alloc (by simp) _, ?_, ?_, by simp⟩
  · exact (BoxMs.new w m k T).later (Below.heap_alloc _ _ _ (by simp))
  · have := BoxMs.new (w.alloc (.cells (arrS4 m k) T)) n l T
    rw [World.size_alloc] at this
    exact this

theorem Ms.ext' {m n : Ms} (h1 : m.pc = n.pc) (h2 : m.regs = n.regs) (h3 : m.mem = n.mem) : m = n := by cases m; cases n; simp_all

/-- A state is handed back that reads alike. -/
def CopyS4 (m : Ms) (w : World) (f : Ending) (w' : World) : Prop := ∃ k, f = .returned (aggS4 m k) ∧ SL w' m k ∧ Below w.heap.size w w'

set_option maxHeartbeats 4000000 in
/-- **eqMachine.** -/
theorem eqS4_one (m n : Ms) (k l : MK) (w : World) (h : SL w m k) (h' : SL w n l) :
    Calls Try.prog 40 #[aggS4 m k, aggS4 n l] w (YN (decide (m = n)) w) := by
  have H : Hid (∀ v, Below w.heap.size w v → SL v m k ∧ SL v n l) := fun v hv => ⟨h.below hv, h'.below hv⟩
  clear h h'
  obtain ⟨hB, h0, h1, hz⟩ := two_states (w := w) m n k l 28
  have HB := Lib.hid hB
  have HX := Lib.hid h0
  have HY := Lib.hid h1
  clear hB h0 h1
  by_cases hp : m.pc = n.pc
  case neg =>
    have HN : Hid (false = decide (m = n)) := (decide_eq_false fun e => hp (by rw [e])).symm
    have hp' : (m.pc != n.pc) = true := by simpa using hp
    clear hp H
    go_enter Try.func40, Try.ntmps40
    go_wp2_with fail
    go_ret
    exact YN.of HN.out HB.out
  case pos =>
  have hp' : (m.pc != n.pc) = false := by simpa using hp
  have HP := Lib.hid hp
  clear hp
  go_enter Try.func40, Try.ntmps40
  go_wp2_with fail
  obtain ⟨W, hW⟩ : ∃ W, ((w.alloc (.cells (arrS4 m k) 28)).alloc (.cells (arrS4 n l) 28)) = W := ⟨_, rfl⟩
  unfold arrS4 at hW
  rw [hW] at HB HX HY hz ⊢
  clear hW
  have Q1 := Lib.hid (H.out W HB.out).1
  have Q2 := Lib.hid (H.out W HB.out).2
  by_cases hv : m.regs = n.regs
  case neg =>
    have HN : Hid (false = decide (m = n)) := (decide_eq_false fun e => hv (by rw [e])).symm
    have HQ : Hid (decide (m.regs = n.regs) = false) := decide_eq_false hv
    refine (eqI_one k.ra l.ra k.rc l.rc m.regs n.regs W Q1.out.1 Q2.out.1).mono ?_
    rintro e w2 ⟨rfl, hb2⟩
    rw [HQ.out]
    have HB2 := Lib.hid (HB.out.trans (hb2.mono HB.out.size))
    clear hb2
    go_wp2_with fail
    go_ret
    exact YN.of HN.out HB2.out
  case pos =>
  have HQ : Hid (decide (m.regs = n.regs) = true) := decide_eq_true hv
  have HN : Hid (decide (m.mem = n.mem) = decide (m = n)) := by
    by_cases hl : m.mem = n.mem
    · exact (decide_eq_true hl).trans (decide_eq_true (Ms.ext' HP.out hv hl)).symm
    · exact (decide_eq_false hl).trans (decide_eq_false fun e => hl (by rw [e])).symm
  clear hv
  refine (eqI_one k.ra l.ra k.rc l.rc m.regs n.regs W Q1.out.1 Q2.out.1).mono ?_
  rintro e w2 ⟨rfl, hb2⟩
  rw [HQ.out]
  have hx2 := HX.out.below hb2 HX.out.lt
  have hy2 := HY.out.below hb2 HY.out.lt
  have y2 := hx2.c2
  have z2 := hy2.c2
  have y3 := hx2.c3
  have z3 := hy2.c3
  have HB2 := Lib.hid (HB.out.trans (hb2.mono HB.out.size))
  have R1 := Lib.hid (Q1.out.below hb2)
  have R2 := Lib.hid (Q2.out.below hb2)
  clear hb2 hx2 hy2 HX HY HB Q1 Q2
  obtain ⟨q, hq⟩ : ∃ q, decide (m.mem = n.mem) = q := ⟨_, rfl⟩
  go_wp2_with fail
  refine (eqM_one m.mem n.mem k.me l.me w2 R1.out.2 R2.out.2).mono ?_
  rintro e w4 ⟨rfl, hb4⟩
  have HB4 := Lib.hid (HB2.out.trans (hb4.mono HB2.out.size))
  rw [hq] at HN ⊢
  clear hb4
  cases q
  all_goals
    go_wp2_with fail
    go_ret
    exact YN.of HN.out HB4.out

set_option maxHeartbeats 4000000 in
/-- **impl.MachineSame.** -/
theorem iSS_one (m n : Ms) (k l : MK) (w : World) (h : SL w m k) (h' : SL w n l) :
    Calls Try.prog 12 #[aggS4 m k, aggS4 n l] w (YN (decide (m = n)) w) := by
  have H : Hid (∀ v, Below w.heap.size w v → SL v m k ∧ SL v n l) := fun v hv => ⟨h.below hv, h'.below hv⟩
  clear h h'
  obtain ⟨hB, h0, h1, hz⟩ := two_states (w := w) m n k l 28
  have HB := Lib.hid hB
  have HX := Lib.hid h0
  have HY := Lib.hid h1
  clear hB h0 h1
  by_cases hp : m.pc = n.pc
  case neg =>
    have HN : Hid (false = decide (m = n)) := (decide_eq_false fun e => hp (by rw [e])).symm
    have hp' : (m.pc == n.pc) = false := by simpa using hp
    clear hp H
    go_enter Try.func12, Try.ntmps12
    go_wp2_with fail
    go_ret
    exact YN.of HN.out HB.out
  case pos =>
  have hp' : (m.pc == n.pc) = true := by simpa using hp
  have HP := Lib.hid hp
  clear hp
  go_enter Try.func12, Try.ntmps12
  go_wp2_with fail
  obtain ⟨W, hW⟩ : ∃ W, ((w.alloc (.cells (arrS4 m k) 28)).alloc (.cells (arrS4 n l) 28)) = W := ⟨_, rfl⟩
  unfold arrS4 at hW
  rw [hW] at HB HX HY hz ⊢
  clear hW
  have Q1 := Lib.hid (H.out W HB.out).1
  have Q2 := Lib.hid (H.out W HB.out).2
  by_cases hv : m.regs = n.regs
  case neg =>
    have HN : Hid (false = decide (m = n)) := (decide_eq_false fun e => hv (by rw [e])).symm
    have HQ : Hid (decide (m.regs = n.regs) = false) := decide_eq_false hv
    refine (slEqI_one k.ra l.ra k.rc l.rc m.regs n.regs W Q1.out.1 Q2.out.1).mono ?_
    rintro e w2 ⟨rfl, hb2⟩
    rw [HQ.out]
    have HB2 := Lib.hid (HB.out.trans (hb2.mono HB.out.size))
    clear hb2
    go_wp2_with fail
    go_ret
    exact YN.of HN.out HB2.out
  case pos =>
  have HQ : Hid (decide (m.regs = n.regs) = true) := decide_eq_true hv
  have HN : Hid (decide (m.mem = n.mem) = decide (m = n)) := by
    by_cases hl : m.mem = n.mem
    · exact (decide_eq_true hl).trans (decide_eq_true (Ms.ext' HP.out hv hl)).symm
    · exact (decide_eq_false hl).trans (decide_eq_false fun e => hl (by rw [e])).symm
  clear hv
  refine (slEqI_one k.ra l.ra k.rc l.rc m.regs n.regs W Q1.out.1 Q2.out.1).mono ?_
  rintro e w2 ⟨rfl, hb2⟩
  rw [HQ.out]
  have hx2 := HX.out.below hb2 HX.out.lt
  have hy2 := HY.out.below hb2 HY.out.lt
  have y2 := hx2.c2
  have z2 := hy2.c2
  have y3 := hx2.c3
  have z3 := hy2.c3
  have HB2 := Lib.hid (HB.out.trans (hb2.mono HB.out.size))
  have R1 := Lib.hid (Q1.out.below hb2)
  have R2 := Lib.hid (Q2.out.below hb2)
  clear hb2 hx2 hy2 HX HY HB Q1 Q2
  obtain ⟨q, hq⟩ : ∃ q, decide (m.mem = n.mem) = q := ⟨_, rfl⟩
  go_wp2_with fail
  refine (iMS_one m.mem n.mem k.me l.me w2 R1.out.2 R2.out.2).mono ?_
  rintro e w4 ⟨rfl, hb4⟩
  have HB4 := Lib.hid (HB2.out.trans (hb4.mono HB2.out.size))
  rw [hq] at HN ⊢
  clear hb4
  cases q
  all_goals
    go_wp2_with fail
    go_ret
    exact YN.of HN.out HB4.out

set_option maxHeartbeats 4000000 in
/-- **spec.MachineSame.** -/
theorem sSS_one (m n : Ms) (k l : MK) (w : World) (h : SL w m k) (h' : SL w n l) :
    Calls Try.prog 13 #[aggS4 m k, aggS4 n l] w (YN (decide (m = n)) w) := by
  have H : Hid (∀ v, Below w.heap.size w v → SL v m k ∧ SL v n l) := fun v hv => ⟨h.below hv, h'.below hv⟩
  clear h h'
  obtain ⟨hB, h0, h1, hz⟩ := two_states (w := w) m n k l 28
  have HB := Lib.hid hB
  have HX := Lib.hid h0
  have HY := Lib.hid h1
  clear hB h0 h1
  by_cases hp : m.pc = n.pc
  case neg =>
    have HN : Hid (false = decide (m = n)) := (decide_eq_false fun e => hp (by rw [e])).symm
    have hp' : (m.pc == n.pc) = false := by simpa using hp
    clear hp H
    go_enter Try.func13, Try.ntmps13
    go_wp2_with fail
    go_ret
    exact YN.of HN.out HB.out
  case pos =>
  have hp' : (m.pc == n.pc) = true := by simpa using hp
  have HP := Lib.hid hp
  clear hp
  go_enter Try.func13, Try.ntmps13
  go_wp2_with fail
  obtain ⟨W, hW⟩ : ∃ W, ((w.alloc (.cells (arrS4 m k) 28)).alloc (.cells (arrS4 n l) 28)) = W := ⟨_, rfl⟩
  unfold arrS4 at hW
  rw [hW] at HB HX HY hz ⊢
  clear hW
  have Q1 := Lib.hid (H.out W HB.out).1
  have Q2 := Lib.hid (H.out W HB.out).2
  by_cases hv : m.regs = n.regs
  case neg =>
    have HN : Hid (false = decide (m = n)) := (decide_eq_false fun e => hv (by rw [e])).symm
    have HQ : Hid (decide (m.regs = n.regs) = false) := decide_eq_false hv
    refine (l2I_one k.ra l.ra k.rc l.rc m.regs n.regs W Q1.out.1 Q2.out.1).mono ?_
    rintro e w2 ⟨rfl, hb2⟩
    rw [HQ.out]
    have HB2 := Lib.hid (HB.out.trans (hb2.mono HB.out.size))
    clear hb2
    go_wp2_with fail
    go_ret
    exact YN.of HN.out HB2.out
  case pos =>
  have HQ : Hid (decide (m.regs = n.regs) = true) := decide_eq_true hv
  have HN : Hid (decide (m.mem = n.mem) = decide (m = n)) := by
    by_cases hl : m.mem = n.mem
    · exact (decide_eq_true hl).trans (decide_eq_true (Ms.ext' HP.out hv hl)).symm
    · exact (decide_eq_false hl).trans (decide_eq_false fun e => hl (by rw [e])).symm
  clear hv
  refine (l2I_one k.ra l.ra k.rc l.rc m.regs n.regs W Q1.out.1 Q2.out.1).mono ?_
  rintro e w2 ⟨rfl, hb2⟩
  rw [HQ.out]
  have hx2 := HX.out.below hb2 HX.out.lt
  have hy2 := HY.out.below hb2 HY.out.lt
  have y2 := hx2.c2
  have z2 := hy2.c2
  have y3 := hx2.c3
  have z3 := hy2.c3
  have HB2 := Lib.hid (HB.out.trans (hb2.mono HB.out.size))
  have R1 := Lib.hid (Q1.out.below hb2)
  have R2 := Lib.hid (Q2.out.below hb2)
  clear hb2 hx2 hy2 HX HY HB Q1 Q2
  obtain ⟨q, hq⟩ : ∃ q, decide (m.mem = n.mem) = q := ⟨_, rfl⟩
  go_wp2_with fail
  refine (sMS_one m.mem n.mem k.me l.me w2 R1.out.2 R2.out.2).mono ?_
  rintro e w4 ⟨rfl, hb4⟩
  have HB4 := Lib.hid (HB2.out.trans (hb4.mono HB2.out.size))
  rw [hq] at HN ⊢
  clear hb4
  cases q
  all_goals
    go_wp2_with fail
    go_ret
    exact YN.of HN.out HB4.out

end Go.Proofs.Ytgfagdjadmpklaa

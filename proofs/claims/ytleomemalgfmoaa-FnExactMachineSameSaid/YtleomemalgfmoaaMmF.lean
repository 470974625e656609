/- slices.EqualFunc at rows of ints, and the program's MemorySame. -/
import Derived.Test.YtleomemalgfmoaaMmS
namespace Go.Proofs.Ytleomemalgfmoaa
open Go.RowKit
set_option linter.unusedVariables false

set_option maxHeartbeats 2000000 in
/-- slices.EqualFunc at rows of ints, told slices.Equal. -/
theorem eqF_one (es fs : List (List Int)) (a a' : Option Addr) (cap cap' : Nat) (w : World) {D D' : Nat → Prop} (h : RAt w D es a) (h' : RAt w D' fs a') (hD : ∀ j, D j → j < w.heap.size) (hD' : ∀ j, D' j → j < w.heap.size) :
    Calls Try.prog 62 #[.slice a es.length cap, .slice a' fs.length cap', .func (.func 40) #[] #[]] w (YN (decide (es = fs)) w) := by
  have hm := h.1
  have hm' := h'.1
  unfold maxLen at hm hm'
  have HT : Hid (∀ v, Below w.heap.size w v → ∀ k, k < es.length → k < fs.length → ∃ x y b o b' o' ax cx ay cy, es[k]? = some x ∧ fs[k]? = some y ∧ a = some ⟨b, o, none⟩ ∧ a' = some ⟨b', o', none⟩ ∧ b < v.heap.size ∧ b' < v.heap.size ∧
      v.cell? ⟨b, o + k, none⟩ = some (.slice ax x.length cx) ∧ v.cell? ⟨b', o' + k, none⟩ = some (.slice ay y.length cy) ∧ IAt v D x ax ∧ IAt v D' y ay) := fun v hv k hk hk' =>
    RAt.two (h.wide (fun j hj => hv.block j (hD j hj)) fun _ x => x) (h'.wide (fun j hj => hv.block j (hD' j hj)) fun _ x => x) hk hk'
  clear h h'
  obtain ⟨len, hlen⟩ : ∃ len, es.length = len := ⟨_, rfl⟩
  obtain ⟨len', hlen'⟩ : ∃ len', fs.length = len' := ⟨_, rfl⟩
  have HLEN := Lib.hid hlen
  have HLEN' := Lib.hid hlen'
  rw [hlen] at hm HT ⊢
  rw [hlen'] at hm' HT ⊢
  clear hlen hlen'
  by_cases hne : len = len'
  · subst hne
    go_enter Try.func62, Try.ntmps62
    go_wp2_with fail
    go_loopw [17] (fun i wr => ∃ k : Nat, k ≤ len ∧ i = .int .i64 k ∧ SameUp es fs k ∧ Below w.heap.size w wr) (fun i _ => len - (intOf i).toNat)
    case atStart => exact ⟨0, Nat.zero_le _, rfl, fun j hj => absurd hj (Nat.not_lt_zero _), Below.refl _ _⟩
    case round =>
      obtain ⟨k, hk, rfl, hS, hB⟩ := hrel
      have HS := Lib.hid hS
      have HB := Lib.hid hB
      clear hS hB
      by_cases hlt : k < len
      · obtain ⟨x, y, b, o, b', o', ax, cx, ay, cy, hx, hy, rfl, rfl, _, _, r0, s0, hi, hi'⟩ := HT.out wr HB.out k hlt hlt
        have HI : Hid (IAt wr D x ax) := hi
        have HI' : Hid (IAt wr D' y ay) := hi'
        have hsz := HB.out.size
        have HX := Lib.hid hx
        have HY := Lib.hid hy
        clear hx hy HT hi hi'
        by_cases hxy : x = y
        · have HQ : Hid (decide (x = y) = true) := decide_eq_true hxy
          have HS2 : Hid (SameUp es fs (k + 1)) := HS.out.succ (by rw [HX.out, HY.out, hxy])
          clear hxy
          go_wp2_with fail
          refine (slEqI_one ax ay cx cy x y _ HI.out HI'.out).mono ?_
          rintro e w2 ⟨rfl, hb2⟩
          rw [HQ.out]
          have HB2 : Hid (Below w.heap.size w w2) := (HB.out.trans (hb2.mono hsz))
          clear hb2
          go_wp2_with fail
          go_roundw
          case rel => exact ⟨k + 1, by omega, by go_num, HS2.out, HB2.out⟩
          case measure => simp [intOf]; omega
        · have HQ : Hid (decide (x = y) = false) := decide_eq_false hxy
          have HN : Hid (false = decide (es = fs)) := (decide_eq_false fun e => hxy (by have h1 := HX.out; rw [e, HY.out] at h1; cases h1; rfl)).symm
          clear hxy
          go_wp2_with fail
          refine (slEqI_one ax ay cx cy x y _ HI.out HI'.out).mono ?_
          rintro e w2 ⟨rfl, hb2⟩
          rw [HQ.out]
          have HB2 : Hid (Below w.heap.size w w2) := (HB.out.trans (hb2.mono hsz))
          clear hb2
          go_wp2_with fail
          go_ret
          exact YN.of HN.out HB2.out
      · obtain rfl : k = len := by omega
        have HN : Hid (true = decide (es = fs)) := (decide_eq_true (HS.out.all HLEN.out HLEN'.out)).symm
        clear HT
        go_wp2_with fail
        go_ret
        exact YN.of HN.out HB.out
  · have hne' : ((len : Int) != (len' : Int)) = true := by simp; omega
    have HN : Hid (false = decide (es = fs)) := (decide_eq_false fun e => hne (by rw [← HLEN.out, ← HLEN'.out, e])).symm
    clear HT
    go_enter Try.func62, Try.ntmps62
    go_wp2_with fail
    go_ret
    exact YN.of HN.out (Below.refl _ _)

set_option maxHeartbeats 2000000 in
/-- **impl.MemorySame.** -/
theorem iMS_one (m n : Mm) (k l : MC) (w : World) (h : ML w m k) (h' : ML w n l) :
    Calls Try.prog 33 #[aggM m k, aggM n l] w (YN (decide (m = n)) w) := by
  have H : Hid (∀ v, Below w.heap.size w v → ML v m k ∧ ML v n l) := fun v hv => ⟨h.below hv, h'.below hv⟩
  clear h h'
  obtain ⟨hB, h0, h1, hz⟩ := two_boxes (w := w) m n k l 26
  have HB := Lib.hid hB
  have HX := Lib.hid h0
  have HY := Lib.hid h1
  clear hB h0 h1
  go_enter Try.func33, Try.ntmps33
  go_wp2_with fail
  obtain ⟨W, hW⟩ : ∃ W, ((w.alloc (.cells (arrM m k) 26)).alloc (.cells (arrM n l) 26)) = W := ⟨_, rfl⟩
  unfold arrM at hW
  rw [hW] at HB HX HY hz ⊢
  clear hW
  obtain ⟨q1, q2⟩ := H.out W HB.out
  have Q1 := Lib.hid q1
  have Q2 := Lib.hid q2
  clear q1 q2
  by_cases hv : m.vals = n.vals
  case neg =>
    have HN : Hid (false = decide (m = n)) := (decide_eq_false fun e => hv (by rw [e])).symm
    have HQ : Hid (decide (m.vals = n.vals) = false) := decide_eq_false hv
    refine (slEqI_one k.va l.va k.vc l.vc m.vals n.vals W Q1.out.1 Q2.out.1).mono ?_
    rintro e w2 ⟨rfl, hb2⟩
    rw [HQ.out]
    have HB2 := Lib.hid (HB.out.trans (hb2.mono HB.out.size))
    clear hb2
    go_wp2_with fail
    go_ret
    exact YN.of HN.out HB2.out
  case pos =>
    have HQ : Hid (decide (m.vals = n.vals) = true) := decide_eq_true hv
    have HN : Hid (decide (m.arrs = n.arrs) = decide (m = n)) := by
      by_cases ha : m.arrs = n.arrs
      · exact (decide_eq_true ha).trans (decide_eq_true (Mm.ext' hv ha)).symm
      · exact (decide_eq_false ha).trans (decide_eq_false fun e => ha (by rw [e])).symm
    refine (slEqI_one k.va l.va k.vc l.vc m.vals n.vals W Q1.out.1 Q2.out.1).mono ?_
    rintro e w2 ⟨rfl, hb2⟩
    rw [HQ.out]
    have y1 := (HX.out.below hb2 HX.out.lt).c1
    have z1 := (HY.out.below hb2 HY.out.lt).c1
    have HB2 := Lib.hid (HB.out.trans (hb2.mono HB.out.size))
    have hsz := hb2.size
    have hr1 := (Q1.out.below hb2).2
    have hr2 := (Q2.out.below hb2).2
    have R1 := Lib.hid hr1
    have R2 := Lib.hid hr2
    clear hb2 hr1 hr2 hv
    obtain ⟨q, hq⟩ : ∃ q, decide (m.arrs = n.arrs) = q := ⟨_, rfl⟩
    go_wp2_with fail
    refine (eqF_one m.arrs n.arrs k.aa l.aa k.ac l.ac w2 R1.out R2.out (fun _ x => x) fun _ x => x).mono ?_
    rintro e w3 ⟨rfl, hb3⟩
    have HB3 := Lib.hid (HB2.out.trans (hb3.mono HB2.out.size))
    rw [hq] at HN ⊢
    clear hb3
    cases q
    all_goals
      go_wp2_with fail
      go_ret
      exact YN.of HN.out HB3.out

end Go.Proofs.Ytleomemalgfmoaa

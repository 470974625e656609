/- eqMemory of the exact laws, spec's and the program's MemorySame at two memories. -/
import Derived.Test.YtleomemalgfmoaaMmE
namespace Go.Proofs.Ytleomemalgfmoaa
open Go.RowKit
set_option linter.unusedVariables false

/-- Two memories, boxed one behind the other. -/
theorem two_boxes {w : World} (m n : Mm) (k l : MC) (T : TypeId) : Below w.heap.size w ((w.alloc (.cells (arrM m k) T)).alloc (.cells (arrM n l) T)) ∧ BoxM ((w.alloc (.cells (arrM m k) T)).alloc (.cells (arrM n l) T)) w.heap.size m k ∧
    BoxM ((w.alloc (.cells (arrM m k) T)).alloc (.cells (arrM n l) T)) (w.heap.size + 1) n l ∧ ((w.alloc (.cells (arrM m k) T)).alloc (.cells (arrM n l) T)).heap.size = w.heap.size + 2 := by
  refine ⟨((Below.refl w.heap.size w).alloc (Nat.le_refl _) _).alloc (by simp) _, ?_, ?_, by simp⟩
  · exact (BoxM.new w m k T).later (Below.heap_alloc _ _ _ (by simp))
  · have := BoxM.new (w.alloc (.cells (arrM m k) T)) n l T
    rw [World.size_alloc] at this
    exact this

set_option maxHeartbeats 2000000 in
/-- **eqMemory.** -/
theorem eqM_one (m n : Mm) (k l : MC) (w : World) (h : ML w m k) (h' : ML w n l) :
    Calls Try.prog 34 #[aggM m k, aggM n l] w (YN (decide (m = n)) w) := by
  have H : Hid (∀ v, Below w.heap.size w v → ML v m k ∧ ML v n l) := fun v hv => ⟨h.below hv, h'.below hv⟩
  clear h h'
  obtain ⟨hB, h0, h1, hz⟩ := two_boxes (w := w) m n k l 26
  have HB := Lib.hid hB
  have HX := Lib.hid h0
  have HY := Lib.hid h1
  clear hB h0 h1
  go_enter Try.func34, Try.ntmps34
  go_wp2_with fail
  obtain ⟨W, hW⟩ : ∃ W, ((w.alloc (.cells (arrM m k) 26)).alloc (.cells (arrM n l) 26)) = W := ⟨_, rfl⟩
  unfold arrM at hW
  rw [hW] at HB HX HY hz ⊢
  clear hW
  obtain ⟨q1, q2⟩ := H.out W HB.out
  have Q1 := Lib.hid q1
  have Q2 := Lib.hid q2
  clear q1 q2
  by_cases hv : m.vals = n.vals
  case neg =>
    have HN : Hid (false = decide (m = n)) := (decide_eq_false fun e => hv (by rw [e])).symm
    have HQ : Hid (decide (m.vals = n.vals) = false) := decide_eq_false hv
    refine (eqI_one k.va l.va k.vc l.vc m.vals n.vals W Q1.out.1 Q2.out.1).mono ?_
    rintro e w2 ⟨rfl, hb2⟩
    rw [HQ.out]
    have HB2 := Lib.hid (HB.out.trans (hb2.mono HB.out.size))
    clear hb2
    go_wp2_with fail
    go_ret
    exact YN.of HN.out HB2.out
  case pos =>
    have HQ : Hid (decide (m.vals = n.vals) = true) := decide_eq_true hv
    have HN : Hid (decide (m.arrs = n.arrs) = decide (m = n)) := by
      by_cases ha : m.arrs = n.arrs
      · exact (decide_eq_true ha).trans (decide_eq_true (Mm.ext' hv ha)).symm
      · exact (decide_eq_false ha).trans (decide_eq_false fun e => ha (by rw [e])).symm
    refine (eqI_one k.va l.va k.vc l.vc m.vals n.vals W Q1.out.1 Q2.out.1).mono ?_
    rintro e w2 ⟨rfl, hb2⟩
    rw [HQ.out]
    have y1 := (HX.out.below hb2 HX.out.lt).c1
    have z1 := (HY.out.below hb2 HY.out.lt).c1
    have HB2 := Lib.hid (HB.out.trans (hb2.mono HB.out.size))
    have hsz := hb2.size
    have hr1 := (Q1.out.below hb2).2
    have hr2 := (Q2.out.below hb2).2
    have R1 := Lib.hid hr1
    have R2 := Lib.hid hr2
    clear hb2 hr1 hr2 hv
    obtain ⟨q, hq⟩ : ∃ q, decide (m.arrs = n.arrs) = q := ⟨_, rfl⟩
    go_wp2_with fail
    refine (eqRows_one m.arrs n.arrs k.aa l.aa k.ac l.ac w2 R1.out R2.out (fun _ x => x) fun _ x => x).mono ?_
    rintro e w3 ⟨rfl, hb3⟩
    have HB3 := Lib.hid (HB2.out.trans (hb3.mono HB2.out.size))
    rw [hq] at HN ⊢
    clear hb3
    cases q
    all_goals
      go_wp2_with fail
      go_ret
      exact YN.of HN.out HB3.out

set_option maxHeartbeats 4000000 in
/-- **spec.MemorySame.** -/
theorem sMS_one (m n : Mm) (k l : MC) (w : World) (h : ML w m k) (h' : ML w n l) :
    Calls Try.prog 31 #[aggM m k, aggM n l] w (YN (decide (m = n)) w) := by
  have hm := h.2.1
  have hm' := h'.2.1
  unfold maxLen at hm hm'
  have H : Hid (∀ v, Below w.heap.size w v → ML v m k ∧ ML v n l) := fun v hv => ⟨h.below hv, h'.below hv⟩
  clear h h'
  obtain ⟨hB, h0, h1, hz⟩ := two_boxes (w := w) m n k l 26
  have HB := Lib.hid hB
  have HX := Lib.hid h0
  have HY := Lib.hid h1
  clear hB h0 h1
  obtain ⟨la, hla⟩ : ∃ la, m.arrs.length = la := ⟨_, rfl⟩
  obtain ⟨lb, hlb⟩ : ∃ lb, n.arrs.length = lb := ⟨_, rfl⟩
  have HLA := Lib.hid hla
  have HLB := Lib.hid hlb
  rw [hla] at hm
  rw [hlb] at hm'
  clear hla hlb
  go_enter Try.func31, Try.ntmps31
  go_wp2_with fail
  obtain ⟨W, hW⟩ : ∃ W, ((w.alloc (.cells (arrM m k) 26)).alloc (.cells (arrM n l) 26)) = W := ⟨_, rfl⟩
  unfold arrM at hW
  rw [hW] at HB HX HY hz ⊢
  clear hW
  obtain ⟨q1, q2⟩ := H.out W HB.out
  have Q1 := Lib.hid q1
  have Q2 := Lib.hid q2
  clear q1 q2
  by_cases hv : m.vals = n.vals
  case neg =>
    have HN : Hid (false = decide (m = n)) := (decide_eq_false fun e => hv (by rw [e])).symm
    have HQ : Hid (decide (m.vals = n.vals) = false) := decide_eq_false hv
    refine (l2I_one k.va l.va k.vc l.vc m.vals n.vals W Q1.out.1 Q2.out.1).mono ?_
    rintro e w2 ⟨rfl, hb2⟩
    rw [HQ.out]
    have HB2 := Lib.hid (HB.out.trans (hb2.mono HB.out.size))
    clear hb2
    go_wp2_with fail
    go_ret
    exact YN.of HN.out HB2.out
  case pos =>
  have HQ : Hid (decide (m.vals = n.vals) = true) := decide_eq_true hv
  refine (l2I_one k.va l.va k.vc l.vc m.vals n.vals W Q1.out.1 Q2.out.1).mono ?_
  rintro e w2 ⟨rfl, hb2⟩
  rw [HQ.out]
  have hx2 := HX.out.below hb2 HX.out.lt
  have hy2 := HY.out.below hb2 HY.out.lt
  have y1 : w2.cell? ⟨w.heap.size, 1, none⟩ = some (.slice k.aa la k.ac) := by rw [← HLA.out]; exact hx2.c1
  have z1 : w2.cell? ⟨w.heap.size + 1, 1, none⟩ = some (.slice l.aa lb l.ac) := by rw [← HLB.out]; exact hy2.c1
  have HBX : Hid (∀ v, Below w2.heap.size w2 v → v.cell? ⟨w.heap.size, 1, none⟩ = some (.slice k.aa la k.ac) ∧ v.cell? ⟨w.heap.size + 1, 1, none⟩ = some (.slice l.aa lb l.ac)) := fun v hv => by
    rw [← HLA.out, ← HLB.out]
    exact ⟨(hx2.below hv hx2.lt).c1, (hy2.below hv hy2.lt).c1⟩
  have HB2 := Lib.hid (HB.out.trans (hb2.mono HB.out.size))
  have hr1 := (Q1.out.below hb2).2
  have hr2 := (Q2.out.below hb2).2
  have HT : Hid (∀ v, Below w2.heap.size w2 v → ∀ j, j < la → j < lb → ∃ x y b o b' o' ax cx ay cy, m.arrs[j]? = some x ∧ n.arrs[j]? = some y ∧ k.aa = some ⟨b, o, none⟩ ∧ l.aa = some ⟨b', o', none⟩ ∧ b < v.heap.size ∧ b' < v.heap.size ∧
      v.cell? ⟨b, o + j, none⟩ = some (.slice ax x.length cx) ∧ v.cell? ⟨b', o' + j, none⟩ = some (.slice ay y.length cy) ∧ IAt v (fun b => b < w2.heap.size) x ax ∧ IAt v (fun b => b < w2.heap.size) y ay) := fun v hv j hj hj' =>
    RAt.two (hr1.wide (fun j hj => hv.block j hj) fun _ x => x) (hr2.wide (fun j hj => hv.block j hj) fun _ x => x) (by rw [HLA.out]; exact hj) (by rw [HLB.out]; exact hj')
  clear hb2 hr1 hr2 hx2 hy2
  by_cases hne : la = lb
  case neg =>
    have hne' : ((la : Int) != (lb : Int)) = true := by simp; omega
    have HN : Hid (false = decide (m = n)) := (decide_eq_false fun e => hne (by rw [← HLA.out, ← HLB.out, e])).symm
    clear HT hv
    go_wp2_with fail
    go_ret
    exact YN.of HN.out HB2.out
  case pos =>
  subst hne
  have HMV := Lib.hid hv
  clear hv
  go_wp2_with fail
  go_loopw [5] (fun i wr => ∃ j : Nat, j ≤ la ∧ i = .int .i64 j ∧ SameUp m.arrs n.arrs j ∧ Below w2.heap.size w2 wr) (fun i _ => la - (intOf i).toNat)
  case atStart => exact ⟨0, Nat.zero_le _, rfl, fun j hj => absurd hj (Nat.not_lt_zero _), Below.refl _ _⟩
  case round =>
    obtain ⟨j, hj, rfl, hS, hb⟩ := hrel
    have HS := Lib.hid hS
    have HBR := Lib.hid hb
    obtain ⟨y2, z2⟩ := HBX.out _ hb
    clear hS hb y1 z1
    by_cases hlt : j < la
    · obtain ⟨x, y, b, o, b', o', ax, cx, ay, cy, hx, hy, ha1, ha2, _, _, r0, s0, hi, hi'⟩ := HT.out wr HBR.out j hlt hlt
      have HI : Hid (IAt wr.drew (fun b => b < w2.heap.size) x ax) := hi
      have HI' : Hid (IAt wr.drew (fun b => b < w2.heap.size) y ay) := hi'
      have hsz := HBR.out.size
      have HX2 := Lib.hid hx
      have HY2 := Lib.hid hy
      rw [ha1] at y2
      rw [ha2] at z2
      clear hx hy HT hi hi' ha1 ha2
      by_cases hxy : x = y
      · have HQ2 : Hid (decide (x = y) = true) := decide_eq_true hxy
        have HS2 : Hid (SameUp m.arrs n.arrs (j + 1)) := HS.out.succ (by rw [HX2.out, HY2.out, hxy])
        clear hxy
        go_wp2_with fail
        go_region_with (go_at_call 41; refine (l2I_one ax ay cx cy x y _ HI.out HI'.out).mono ?_; rintro e w3 ⟨rfl, hb3⟩; rw [HQ2.out]; have HB3 : Hid (Below w2.heap.size w2 w3) := (HBR.out.drew.trans (hb3.mono hsz)); clear hb3)
        all_goals
          go_wp2_with fail
          go_roundw
          case rel => exact ⟨j + 1, by omega, by go_num, HS2.out, HB3.out⟩
          case measure => simp [intOf]; omega
      · have HQ2 : Hid (decide (x = y) = false) := decide_eq_false hxy
        have HN : Hid (false = decide (m = n)) := (decide_eq_false fun e => hxy (by have h1 := HX2.out; rw [e, HY2.out] at h1; cases h1; rfl)).symm
        clear hxy
        go_wp2_with fail
        go_region_with (go_at_call 41; refine (l2I_one ax ay cx cy x y _ HI.out HI'.out).mono ?_; rintro e w3 ⟨rfl, hb3⟩; rw [HQ2.out]; have HB3 : Hid (Below w2.heap.size w2 w3) := (HBR.out.drew.trans (hb3.mono hsz)); clear hb3)
        all_goals
          go_wp2_with fail
          go_ret
          exact YN.of HN.out (HB2.out.trans (HB3.out.mono HB2.out.size))
    · obtain rfl : j = la := by omega
      have HN : Hid (true = decide (m = n)) := (decide_eq_true (Mm.ext' HMV.out (HS.out.all HLA.out HLB.out))).symm
      clear HT
      go_wp2_with fail
      go_ret
      exact YN.of HN.out (HB2.out.trans (HBR.out.mono HB2.out.size))

end Go.Proofs.Ytleomemalgfmoaa

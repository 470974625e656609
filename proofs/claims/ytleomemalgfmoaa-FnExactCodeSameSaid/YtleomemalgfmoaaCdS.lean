/- eqCode of the exact laws, spec's and the program's CodeSame: each answers whether two codes are equal. Nothing that was there changes. -/
import Derived.Test.YtleomemalgfmoaaCd
import Derived.Test.YtleomemalgfmoaaMmE
namespace Go.Proofs.Ytleomemalgfmoaa
open Go.RowKit
set_option linter.unusedVariables false

set_option maxHeartbeats 4000000 in
/-- slices.Equal at instructions. -/
theorem slEqIn_one (es fs : List Ins) (a a' : Option Addr) (cap cap' : Nat) (w : World) {D D' : Nat → Prop} (h : NAt w D es a) (h' : NAt w D' fs a') (hD : ∀ j, D j → j < w.heap.size) (hD' : ∀ j, D' j → j < w.heap.size) :
    Calls Try.prog 46 #[.slice a es.length cap, .slice a' fs.length cap'] w (YN (decide (es = fs)) w) := by
  have hc := h.1
  have hc' := h'.1
  unfold maxLen at hc hc'
  have H : Hid (∀ k, k < es.length → k < fs.length → ∃ x y b o b' o', es[k]? = some x ∧ fs[k]? = some y ∧ a = some ⟨b, o, none⟩ ∧ a' = some ⟨b', o', none⟩ ∧ b < w.heap.size ∧ b' < w.heap.size ∧
      w.cell? ⟨b, o + k * 5, none⟩ = some (.int .i64 x.op) ∧ w.cell? ⟨b, o + k * 5 + 1, none⟩ = some (.int .i64 x.fa) ∧ w.cell? ⟨b, o + k * 5 + 2, none⟩ = some (.int .i64 x.fb) ∧ w.cell? ⟨b, o + k * 5 + 3, none⟩ = some (.int .i64 x.fc) ∧ w.cell? ⟨b, o + k * 5 + 4, none⟩ = some (.int .i64 x.fd) ∧
      w.cell? ⟨b', o' + k * 5, none⟩ = some (.int .i64 y.op) ∧ w.cell? ⟨b', o' + k * 5 + 1, none⟩ = some (.int .i64 y.fa) ∧ w.cell? ⟨b', o' + k * 5 + 2, none⟩ = some (.int .i64 y.fb) ∧ w.cell? ⟨b', o' + k * 5 + 3, none⟩ = some (.int .i64 y.fc) ∧ w.cell? ⟨b', o' + k * 5 + 4, none⟩ = some (.int .i64 y.fd)) := fun k hk hk' => NAt.two h h' hk hk'
  clear h h'
  have HB : Hid (∀ m, Below w.heap.size w (w.drewN m)) := fun m => below_drewC (Below.refl _ w) m
  obtain ⟨n, hn⟩ : ∃ n, es.length = n := ⟨_, rfl⟩
  obtain ⟨n', hn'⟩ : ∃ n', fs.length = n' := ⟨_, rfl⟩
  have HN := Lib.hid hn
  have HN' := Lib.hid hn'
  rw [hn] at hc H ⊢
  rw [hn'] at hc' H ⊢
  clear hn hn'
  by_cases hnn : n = n'
  · subst hnn
    go_enter Try.func46, Try.ntmps46
    go_wp2
    go_loopw [13] (fun i wr => ∃ k m : Nat, k ≤ n ∧ i = .int .i64 k ∧ SameUp es fs k ∧ wr = w.drewN m) (fun i _ => n - (intOf i).toNat)
    case atStart => exact ⟨0, 0, Nat.zero_le _, rfl, fun j hj => absurd hj (Nat.not_lt_zero _), rfl⟩
    case round =>
      obtain ⟨k, m, hk, rfl, hS, rfl⟩ := hrel
      have HS := Lib.hid hS
      clear hS
      by_cases hlt : k < n
      · obtain ⟨x, y, b, o, b', o', hx, hy, rfl, rfl, _, _, d0, d1, d2, d3, d4, e0, e1, e2, e3, e4⟩ := H.out k (by omega) (by omega)
        have HX := Lib.hid hx
        have HY := Lib.hid hy
        clear hx hy H
        by_cases hxy : x = y
        · subst hxy
          have HS2 : Hid (SameUp es fs (k + 1)) := HS.out.succ (by rw [HX.out, HY.out])
          go_wp2
          go_quiet (fail)
          go_wp2
          go_roundw
          case rel => exact ⟨k + 1, _, by omega, by go_num, HS2.out, rfl⟩
          case measure => simp [intOf]; omega
        · have HNE : Hid (false = decide (es = fs)) := (decide_eq_false fun e => hxy (by have h1 := HX.out; rw [e, HY.out] at h1; cases h1; rfl)).symm
          rcases ins_neq hxy with h0 | ⟨h0, h1⟩ | ⟨h0, h1, h2⟩ | ⟨h0, h1, h2, h3⟩ | ⟨h0, h1, h2, h3, h4⟩
          all_goals
            clear hxy
            go_wp2
            go_quiet (fail)
            go_wp2
            go_ret
            exact YN.of HNE.out (below_drewC (HB.out _) _)
      · obtain rfl : k = n := by omega
        clear H
        have HE : Hid (true = decide (es = fs)) := (decide_eq_true (HS.out.all HN.out HN'.out)).symm
        go_wp2
        go_ret
        exact YN.of HE.out (HB.out _)
  · have hne : ((n : Int) != (n' : Int)) = true := by simp; omega
    have HNE : Hid (false = decide (es = fs)) := (decide_eq_false fun e => hnn (by rw [← HN.out, ← HN'.out, e])).symm
    clear H
    go_enter Try.func46, Try.ntmps46
    go_wp2
    go_ret
    exact YN.of HNE.out (Below.refl _ _)

set_option maxHeartbeats 4000000 in
/-- **eqCode.** -/
theorem eqC_one (m n : Cd) (k l : CK) (w : World) (h : CL w m k) (h' : CL w n l) :
    Calls Try.prog 16 #[aggC m k, aggC n l] w (YN (decide (m = n)) w) := by
  have H : Hid (∀ v, Below w.heap.size w v → CL v m k ∧ CL v n l) := fun v hv => ⟨h.below hv, h'.below hv⟩
  clear h h'
  obtain ⟨hB, h0, h1, hz⟩ := two_codes (w := w) m n k l 40
  have HB := Lib.hid hB
  have HX := Lib.hid h0
  have HY := Lib.hid h1
  clear hB h0 h1
  go_enter Try.func16, Try.ntmps16
  go_wp2_with fail
  obtain ⟨W, hW⟩ : ∃ W, ((w.alloc (.cells (arrC m k) 40)).alloc (.cells (arrC n l) 40)) = W := ⟨_, rfl⟩
  unfold arrC at hW
  rw [hW] at HB HX HY hz ⊢
  clear hW
  obtain ⟨q1, q2⟩ := H.out W HB.out
  have Q1 := Lib.hid q1
  have Q2 := Lib.hid q2
  clear q1 q2
  by_cases hv : m.vars = n.vars
  case neg =>
    have HN : Hid (false = decide (m = n)) := (decide_eq_false fun e => hv (by rw [e])).symm
    have HQ : Hid (decide (m.vars = n.vars) = false) := decide_eq_false hv
    refine (eqI_one k.va l.va k.vc l.vc m.vars n.vars W Q1.out.1 Q2.out.1).mono ?_
    rintro e w2 ⟨rfl, hb2⟩
    rw [HQ.out]
    have HB2 := Lib.hid (HB.out.trans (hb2.mono HB.out.size))
    clear hb2
    go_wp2_with fail
    go_ret
    exact YN.of HN.out HB2.out
  case pos =>
  have HQ : Hid (decide (m.vars = n.vars) = true) := decide_eq_true hv
  have HV : Hid (m.vars = n.vars) := hv
  clear hv
  refine (eqI_one k.va l.va k.vc l.vc m.vars n.vars W Q1.out.1 Q2.out.1).mono ?_
  rintro e w2 ⟨rfl, hb2⟩
  rw [HQ.out]
  have HX2 := Lib.hid (HX.out.below hb2 HX.out.lt)
  have HY2 := Lib.hid (HY.out.below hb2 HY.out.lt)
  have y1 := HX2.out.c1
  have z1 := HY2.out.c1
  have HB2 := Lib.hid (HB.out.trans (hb2.mono HB.out.size))
  have R1 := Lib.hid (Q1.out.below hb2)
  have R2 := Lib.hid (Q2.out.below hb2)
  clear hb2 HX HY HB Q1 Q2
  by_cases ha : m.arrs = n.arrs
  case neg =>
    have HN : Hid (false = decide (m = n)) := (decide_eq_false fun e => ha (by rw [e])).symm
    have HQ : Hid (decide (m.arrs = n.arrs) = false) := decide_eq_false ha
    clear ha
    go_wp2_with fail
    refine (eqI_one k.aa l.aa k.ac l.ac m.arrs n.arrs w2 R1.out.2.1 R2.out.2.1).mono ?_
    rintro e w3 ⟨rfl, hb3⟩
    rw [HQ.out]
    have HB3 := Lib.hid (HB2.out.trans (hb3.mono HB2.out.size))
    clear hb3
    go_wp2_with fail
    go_ret
    exact YN.of HN.out HB3.out
  case pos =>
  have HQA : Hid (decide (m.arrs = n.arrs) = true) := decide_eq_true ha
  have HN : Hid (decide (m.list = n.list) = decide (m = n)) := by
    by_cases hl : m.list = n.list
    · exact (decide_eq_true hl).trans (decide_eq_true (Cd.ext' HV.out ha hl)).symm
    · exact (decide_eq_false hl).trans (decide_eq_false fun e => hl (by rw [e])).symm
  clear ha
  go_wp2_with fail
  refine (eqI_one k.aa l.aa k.ac l.ac m.arrs n.arrs w2 R1.out.2.1 R2.out.2.1).mono ?_
  rintro e w3 ⟨rfl, hb3⟩
  rw [HQA.out]
  have HX3 := Lib.hid (HX2.out.below hb3 HX2.out.lt)
  have HY3 := Lib.hid (HY2.out.below hb3 HY2.out.lt)
  have y2 := HX3.out.c2
  have z2 := HY3.out.c2
  have HB3 := Lib.hid (HB2.out.trans (hb3.mono HB2.out.size))
  have S1 := Lib.hid (R1.out.below hb3)
  have S2 := Lib.hid (R2.out.below hb3)
  clear hb3 y1 z1 HX2 HY2 HB2 R1 R2
  obtain ⟨q, hq⟩ : ∃ q, decide (m.list = n.list) = q := ⟨_, rfl⟩
  go_wp2_with fail
  refine (eqInS_one m.list n.list k.la l.la k.lc l.lc w3 S1.out.2.2 S2.out.2.2 (fun _ x => x) fun _ x => x).mono ?_
  rintro e w4 ⟨rfl, hb4⟩
  have HB4 := Lib.hid (HB3.out.trans (hb4.mono HB3.out.size))
  rw [hq] at HN ⊢
  clear hb4
  cases q
  all_goals
    go_wp2_with fail
    go_ret
    exact YN.of HN.out HB4.out

set_option maxHeartbeats 4000000 in
/-- **impl.CodeSame.** -/
theorem iCS_one (m n : Cd) (k l : CK) (w : World) (h : CL w m k) (h' : CL w n l) :
    Calls Try.prog 15 #[aggC m k, aggC n l] w (YN (decide (m = n)) w) := by
  have H : Hid (∀ v, Below w.heap.size w v → CL v m k ∧ CL v n l) := fun v hv => ⟨h.below hv, h'.below hv⟩
  clear h h'
  obtain ⟨hB, h0, h1, hz⟩ := two_codes (w := w) m n k l 40
  have HB := Lib.hid hB
  have HX := Lib.hid h0
  have HY := Lib.hid h1
  clear hB h0 h1
  go_enter Try.func15, Try.ntmps15
  go_wp2_with fail
  obtain ⟨W, hW⟩ : ∃ W, ((w.alloc (.cells (arrC m k) 40)).alloc (.cells (arrC n l) 40)) = W := ⟨_, rfl⟩
  unfold arrC at hW
  rw [hW] at HB HX HY hz ⊢
  clear hW
  obtain ⟨q1, q2⟩ := H.out W HB.out
  have Q1 := Lib.hid q1
  have Q2 := Lib.hid q2
  clear q1 q2
  by_cases hv : m.vars = n.vars
  case neg =>
    have HN : Hid (false = decide (m = n)) := (decide_eq_false fun e => hv (by rw [e])).symm
    have HQ : Hid (decide (m.vars = n.vars) = false) := decide_eq_false hv
    refine (slEqI_one k.va l.va k.vc l.vc m.vars n.vars W Q1.out.1 Q2.out.1).mono ?_
    rintro e w2 ⟨rfl, hb2⟩
    rw [HQ.out]
    have HB2 := Lib.hid (HB.out.trans (hb2.mono HB.out.size))
    clear hb2
    go_wp2_with fail
    go_ret
    exact YN.of HN.out HB2.out
  case pos =>
  have HQ : Hid (decide (m.vars = n.vars) = true) := decide_eq_true hv
  have HV : Hid (m.vars = n.vars) := hv
  clear hv
  refine (slEqI_one k.va l.va k.vc l.vc m.vars n.vars W Q1.out.1 Q2.out.1).mono ?_
  rintro e w2 ⟨rfl, hb2⟩
  rw [HQ.out]
  have HX2 := Lib.hid (HX.out.below hb2 HX.out.lt)
  have HY2 := Lib.hid (HY.out.below hb2 HY.out.lt)
  have y1 := HX2.out.c1
  have z1 := HY2.out.c1
  have HB2 := Lib.hid (HB.out.trans (hb2.mono HB.out.size))
  have R1 := Lib.hid (Q1.out.below hb2)
  have R2 := Lib.hid (Q2.out.below hb2)
  clear hb2 HX HY HB Q1 Q2
  by_cases ha : m.arrs = n.arrs
  case neg =>
    have HN : Hid (false = decide (m = n)) := (decide_eq_false fun e => ha (by rw [e])).symm
    have HQ : Hid (decide (m.arrs = n.arrs) = false) := decide_eq_false ha
    clear ha
    go_wp2_with fail
    refine (slEqI_one k.aa l.aa k.ac l.ac m.arrs n.arrs w2 R1.out.2.1 R2.out.2.1).mono ?_
    rintro e w3 ⟨rfl, hb3⟩
    rw [HQ.out]
    have HB3 := Lib.hid (HB2.out.trans (hb3.mono HB2.out.size))
    clear hb3
    go_wp2_with fail
    go_ret
    exact YN.of HN.out HB3.out
  case pos =>
  have HQA : Hid (decide (m.arrs = n.arrs) = true) := decide_eq_true ha
  have HN : Hid (decide (m.list = n.list) = decide (m = n)) := by
    by_cases hl : m.list = n.list
    · exact (decide_eq_true hl).trans (decide_eq_true (Cd.ext' HV.out ha hl)).symm
    · exact (decide_eq_false hl).trans (decide_eq_false fun e => hl (by rw [e])).symm
  clear ha
  go_wp2_with fail
  refine (slEqI_one k.aa l.aa k.ac l.ac m.arrs n.arrs w2 R1.out.2.1 R2.out.2.1).mono ?_
  rintro e w3 ⟨rfl, hb3⟩
  rw [HQA.out]
  have HX3 := Lib.hid (HX2.out.below hb3 HX2.out.lt)
  have HY3 := Lib.hid (HY2.out.below hb3 HY2.out.lt)
  have y2 := HX3.out.c2
  have z2 := HY3.out.c2
  have HB3 := Lib.hid (HB2.out.trans (hb3.mono HB2.out.size))
  have S1 := Lib.hid (R1.out.below hb3)
  have S2 := Lib.hid (R2.out.below hb3)
  clear hb3 y1 z1 HX2 HY2 HB2 R1 R2
  obtain ⟨q, hq⟩ : ∃ q, decide (m.list = n.list) = q := ⟨_, rfl⟩
  go_wp2_with fail
  refine (slEqIn_one m.list n.list k.la l.la k.lc l.lc w3 S1.out.2.2 S2.out.2.2 (fun _ x => x) fun _ x => x).mono ?_
  rintro e w4 ⟨rfl, hb4⟩
  have HB4 := Lib.hid (HB3.out.trans (hb4.mono HB3.out.size))
  rw [hq] at HN ⊢
  clear hb4
  cases q
  all_goals
    go_wp2_with fail
    go_ret
    exact YN.of HN.out HB4.out

set_option maxHeartbeats 8000000 in
/-- **spec.CodeSame.** -/
theorem sCS_one (m n : Cd) (k l : CK) (w : World) (h : CL w m k) (h' : CL w n l) :
    Calls Try.prog 13 #[aggC m k, aggC n l] w (YN (decide (m = n)) w) := by
  have hm := h.2.2.1
  have hm' := h'.2.2.1
  unfold maxLen at hm hm'
  have H : Hid (∀ v, Below w.heap.size w v → CL v m k ∧ CL v n l) := fun v hv => ⟨h.below hv, h'.below hv⟩
  clear h h'
  obtain ⟨hB, h0, h1, hz⟩ := two_codes (w := w) m n k l 40
  have HB := Lib.hid hB
  have HX := Lib.hid h0
  have HY := Lib.hid h1
  clear hB h0 h1
  obtain ⟨la, hla⟩ : ∃ la, m.list.length = la := ⟨_, rfl⟩
  obtain ⟨lb, hlb⟩ : ∃ lb, n.list.length = lb := ⟨_, rfl⟩
  have HLA := Lib.hid hla
  have HLB := Lib.hid hlb
  rw [hla] at hm
  rw [hlb] at hm'
  clear hla hlb
  go_enter Try.func13, Try.ntmps13
  go_wp2_with fail
  obtain ⟨W, hW⟩ : ∃ W, ((w.alloc (.cells (arrC m k) 40)).alloc (.cells (arrC n l) 40)) = W := ⟨_, rfl⟩
  unfold arrC at hW
  rw [hW] at HB HX HY hz ⊢
  clear hW
  obtain ⟨q1, q2⟩ := H.out W HB.out
  have Q1 := Lib.hid q1
  have Q2 := Lib.hid q2
  clear q1 q2
  by_cases hv : m.vars = n.vars
  case neg =>
    have HN : Hid (false = decide (m = n)) := (decide_eq_false fun e => hv (by rw [e])).symm
    have HQ : Hid (decide (m.vars = n.vars) = false) := decide_eq_false hv
    refine (l2I_one k.va l.va k.vc l.vc m.vars n.vars W Q1.out.1 Q2.out.1).mono ?_
    rintro e w2 ⟨rfl, hb2⟩
    rw [HQ.out]
    have HB2 := Lib.hid (HB.out.trans (hb2.mono HB.out.size))
    clear hb2
    go_wp2_with fail
    go_ret
    exact YN.of HN.out HB2.out
  case pos =>
  have HQ : Hid (decide (m.vars = n.vars) = true) := decide_eq_true hv
  have HV : Hid (m.vars = n.vars) := hv
  clear hv
  refine (l2I_one k.va l.va k.vc l.vc m.vars n.vars W Q1.out.1 Q2.out.1).mono ?_
  rintro e w2 ⟨rfl, hb2⟩
  rw [HQ.out]
  have HX2 := Lib.hid (HX.out.below hb2 HX.out.lt)
  have HY2 := Lib.hid (HY.out.below hb2 HY.out.lt)
  have y1 := HX2.out.c1
  have z1 := HY2.out.c1
  have HB2 := Lib.hid (HB.out.trans (hb2.mono HB.out.size))
  have R1 := Lib.hid (Q1.out.below hb2)
  have R2 := Lib.hid (Q2.out.below hb2)
  clear hb2 HX HY HB Q1 Q2
  by_cases ha : m.arrs = n.arrs
  case neg =>
    have HN : Hid (false = decide (m = n)) := (decide_eq_false fun e => ha (by rw [e])).symm
    have HQ : Hid (decide (m.arrs = n.arrs) = false) := decide_eq_false ha
    clear ha
    go_wp2_with fail
    refine (l2I_one k.aa l.aa k.ac l.ac m.arrs n.arrs w2 R1.out.2.1 R2.out.2.1).mono ?_
    rintro e w3 ⟨rfl, hb3⟩
    rw [HQ.out]
    have HB3 := Lib.hid (HB2.out.trans (hb3.mono HB2.out.size))
    clear hb3
    go_wp2_with fail
    go_ret
    exact YN.of HN.out HB3.out
  case pos =>
  have HQA : Hid (decide (m.arrs = n.arrs) = true) := decide_eq_true ha
  have HA : Hid (m.arrs = n.arrs) := ha
  clear ha
  go_wp2_with fail
  refine (l2I_one k.aa l.aa k.ac l.ac m.arrs n.arrs w2 R1.out.2.1 R2.out.2.1).mono ?_
  rintro e w3 ⟨rfl, hb3⟩
  rw [HQA.out]
  have hx3 := HX2.out.below hb3 HX2.out.lt
  have hy3 := HY2.out.below hb3 HY2.out.lt
  have y2 : w3.cell? ⟨w.heap.size, 2, none⟩ = some (.slice k.la la k.lc) := by rw [← HLA.out]; exact hx3.c2
  have z2 : w3.cell? ⟨w.heap.size + 1, 2, none⟩ = some (.slice l.la lb l.lc) := by rw [← HLB.out]; exact hy3.c2
  have HBX : Hid (∀ v, Below w3.heap.size w3 v → v.cell? ⟨w.heap.size, 2, none⟩ = some (.slice k.la la k.lc) ∧ v.cell? ⟨w.heap.size + 1, 2, none⟩ = some (.slice l.la lb l.lc)) := fun v hv => by
    rw [← HLA.out, ← HLB.out]
    exact ⟨(hx3.below hv hx3.lt).c2, (hy3.below hv hy3.lt).c2⟩
  have HB3 := Lib.hid (HB2.out.trans (hb3.mono HB2.out.size))
  have HT : Hid (∀ v, Below w3.heap.size w3 v → ∀ j, j < la → j < lb → ∃ x y b o b' o', m.list[j]? = some x ∧ n.list[j]? = some y ∧ k.la = some ⟨b, o, none⟩ ∧ l.la = some ⟨b', o', none⟩ ∧ b < v.heap.size ∧ b' < v.heap.size ∧
      v.cell? ⟨b, o + j * 5, none⟩ = some (.int .i64 x.op) ∧ v.cell? ⟨b, o + j * 5 + 1, none⟩ = some (.int .i64 x.fa) ∧ v.cell? ⟨b, o + j * 5 + 2, none⟩ = some (.int .i64 x.fb) ∧ v.cell? ⟨b, o + j * 5 + 3, none⟩ = some (.int .i64 x.fc) ∧ v.cell? ⟨b, o + j * 5 + 4, none⟩ = some (.int .i64 x.fd) ∧
      v.cell? ⟨b', o' + j * 5, none⟩ = some (.int .i64 y.op) ∧ v.cell? ⟨b', o' + j * 5 + 1, none⟩ = some (.int .i64 y.fa) ∧ v.cell? ⟨b', o' + j * 5 + 2, none⟩ = some (.int .i64 y.fb) ∧ v.cell? ⟨b', o' + j * 5 + 3, none⟩ = some (.int .i64 y.fc) ∧ v.cell? ⟨b', o' + j * 5 + 4, none⟩ = some (.int .i64 y.fd)) := fun v hv j hj hj' =>
    NAt.two ((R1.out.2.2.below hb3).below hv) ((R2.out.2.2.below hb3).below hv) (by rw [HLA.out]; exact hj) (by rw [HLB.out]; exact hj')
  clear hb3 hx3 hy3 y1 z1 HX2 HY2 HB2 R1 R2 H
  by_cases hne : la = lb
  case neg =>
    have hne' : ((la : Int) != (lb : Int)) = true := by simp; omega
    have HN : Hid (false = decide (m = n)) := (decide_eq_false fun e => hne (by rw [← HLA.out, ← HLB.out, e])).symm
    clear HT
    go_wp2_with fail
    go_ret
    exact YN.of HN.out HB3.out
  case pos =>
  subst hne
  go_wp2_with fail
  go_loopw [5] (fun i wr => ∃ j : Nat, j ≤ la ∧ i = .int .i64 j ∧ SameUp m.list n.list j ∧ Below w3.heap.size w3 wr) (fun i _ => la - (intOf i).toNat)
  case atStart => exact ⟨0, Nat.zero_le _, rfl, fun j hj => absurd hj (Nat.not_lt_zero _), Below.refl _ _⟩
  case round =>
    obtain ⟨j, hj, rfl, hS, hb⟩ := hrel
    have HS := Lib.hid hS
    have HBR := Lib.hid hb
    obtain ⟨y3, z3⟩ := HBX.out _ hb
    clear hS hb y2 z2
    by_cases hlt : j < la
    · obtain ⟨x, y, b, o, b', o', hx, hy, ha1, ha2, _, _, d0, d1, d2, d3, d4, e0, e1, e2, e3, e4⟩ := HT.out wr HBR.out j hlt hlt
      have HX2 := Lib.hid hx
      have HY2 := Lib.hid hy
      rw [ha1] at y3
      rw [ha2] at z3
      clear hx hy HT ha1 ha2
      by_cases hxy : x = y
      · have HS2 : Hid (SameUp m.list n.list (j + 1)) := HS.out.succ (by rw [HX2.out, HY2.out, hxy])
        subst hxy
        go_wp2_with fail
        go_quiet (fail)
        go_wp2_with fail
        go_roundw
        case rel => exact ⟨j + 1, by omega, by go_num, HS2.out, below_drewC HBR.out _⟩
        case measure => simp [intOf]; omega
      · have HN : Hid (false = decide (m = n)) := (decide_eq_false fun e => hxy (by have h1 := HX2.out; rw [e, HY2.out] at h1; cases h1; rfl)).symm
        rcases ins_neq hxy with h0 | ⟨h0, h1⟩ | ⟨h0, h1, h2⟩ | ⟨h0, h1, h2, h3⟩ | ⟨h0, h1, h2, h3, h4⟩
        all_goals
          clear hxy
          go_wp2_with fail
          go_quiet (fail)
          go_wp2_with fail
          go_ret
          exact YN.of HN.out (below_drewC (HB3.out.trans (HBR.out.mono HB3.out.size)) _)
    · obtain rfl : j = la := by omega
      have HN : Hid (true = decide (m = n)) := (decide_eq_true (Cd.ext' HV.out HA.out (HS.out.all HLA.out HLB.out))).symm
      clear HT
      go_wp2_with fail
      go_ret
      exact YN.of HN.out (HB3.out.trans (HBR.out.mono HB3.out.size))

end Go.Proofs.Ytleomemalgfmoaa

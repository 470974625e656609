/- eqCode of the exact laws answers whether two codes are equal. Nothing that was there changes. -/
import Derived.Test.YtbifbmpflhdijaaDoorCd
namespace Go.Proofs.YtbifbmpflhdijaaDoor
open Go.RowKit
set_option linter.unusedVariables false

theorem Ans.ynC {b : Bool} {w w' : World} {e : Ending} (h : Ans b w e w') : YN b w e w' := by
  obtain ⟨rfl, m, rfl⟩ := h
  exact ⟨rfl, below_drewC (Below.refl _ w) m⟩
/-- eqIntS. -/
theorem eqIC_one (a a' : Option Addr) (c c' : Nat) (xs ys : List Int) (w : World) {D D' : Nat → Prop} (h : IAt w D xs a) (h' : IAt w D' ys a') :
    Calls Tryd.prog 46 #[.slice a xs.length c, .slice a' ys.length c'] w (YN (decide (xs = ys)) w) :=
  (eqInts_one a a' xs.length c ys.length c' xs ys w h.slice h'.slice).mono fun _ _ q => q.ynC

set_option maxHeartbeats 4000000 in
/-- **eqCode.** -/
theorem eqC_one (m n : Cd) (k l : CK) (w : World) (h : CL w m k) (h' : CL w n l) :
    Calls Tryd.prog 15 #[aggC m k, aggC n l] w (YN (decide (m = n)) w) := by
  have H : Hid (∀ v, Below w.heap.size w v → CL v m k ∧ CL v n l) := fun v hv => ⟨h.below hv, h'.below hv⟩
  clear h h'
  obtain ⟨hB, h0, h1, hz⟩ := two_codes (w := w) m n k l 29
  have HB := Lib.hid hB
  have HX := Lib.hid h0
  have HY := Lib.hid h1
  clear hB h0 h1
  go_enter Tryd.func15, Tryd.ntmps15
  go_wp2_with fail
  obtain ⟨W, hW⟩ : ∃ W, ((w.alloc (.cells (arrC m k) 29)).alloc (.cells (arrC n l) 29)) = W := ⟨_, rfl⟩
  unfold arrC at hW
  rw [hW] at HB HX HY hz ⊢
  clear hW
  obtain ⟨q1, q2⟩ := H.out W HB.out
  have Q1 := Lib.hid q1
  have Q2 := Lib.hid q2
  clear q1 q2
  by_cases hv : m.vars = n.vars
  case neg =>
    have HN : Hid (false = decide (m = n)) := (decide_eq_false fun e => hv (by rw [e])).symm
    have HQ : Hid (decide (m.vars = n.vars) = false) := decide_eq_false hv
    refine (eqIC_one k.va l.va k.vc l.vc m.vars n.vars W Q1.out.1 Q2.out.1).mono ?_
    rintro e w2 ⟨rfl, hb2⟩
    rw [HQ.out]
    have HB2 := Lib.hid (HB.out.trans (hb2.mono HB.out.size))
    clear hb2
    go_wp2_with fail
    go_ret
    exact YN.of HN.out HB2.out
  case pos =>
  have HQ : Hid (decide (m.vars = n.vars) = true) := decide_eq_true hv
  have HV : Hid (m.vars = n.vars) := hv
  clear hv
  refine (eqIC_one k.va l.va k.vc l.vc m.vars n.vars W Q1.out.1 Q2.out.1).mono ?_
  rintro e w2 ⟨rfl, hb2⟩
  rw [HQ.out]
  have HX2 := Lib.hid (HX.out.below hb2 HX.out.lt)
  have HY2 := Lib.hid (HY.out.below hb2 HY.out.lt)
  have y1 := HX2.out.c1
  have z1 := HY2.out.c1
  have HB2 := Lib.hid (HB.out.trans (hb2.mono HB.out.size))
  have R1 := Lib.hid (Q1.out.below hb2)
  have R2 := Lib.hid (Q2.out.below hb2)
  clear hb2 HX HY HB Q1 Q2
  by_cases ha : m.arrs = n.arrs
  case neg =>
    have HN : Hid (false = decide (m = n)) := (decide_eq_false fun e => ha (by rw [e])).symm
    have HQ : Hid (decide (m.arrs = n.arrs) = false) := decide_eq_false ha
    clear ha
    go_wp2_with fail
    refine (eqIC_one k.aa l.aa k.ac l.ac m.arrs n.arrs w2 R1.out.2.1 R2.out.2.1).mono ?_
    rintro e w3 ⟨rfl, hb3⟩
    rw [HQ.out]
    have HB3 := Lib.hid (HB2.out.trans (hb3.mono HB2.out.size))
    clear hb3
    go_wp2_with fail
    go_ret
    exact YN.of HN.out HB3.out
  case pos =>
  have HQA : Hid (decide (m.arrs = n.arrs) = true) := decide_eq_true ha
  have HN : Hid (decide (m.list = n.list) = decide (m = n)) := by
    by_cases hl : m.list = n.list
    · exact (decide_eq_true hl).trans (decide_eq_true (Cd.ext' HV.out ha hl)).symm
    · exact (decide_eq_false hl).trans (decide_eq_false fun e => hl (by rw [e])).symm
  clear ha
  go_wp2_with fail
  refine (eqIC_one k.aa l.aa k.ac l.ac m.arrs n.arrs w2 R1.out.2.1 R2.out.2.1).mono ?_
  rintro e w3 ⟨rfl, hb3⟩
  rw [HQA.out]
  have HX3 := Lib.hid (HX2.out.below hb3 HX2.out.lt)
  have HY3 := Lib.hid (HY2.out.below hb3 HY2.out.lt)
  have y2 := HX3.out.c2
  have z2 := HY3.out.c2
  have HB3 := Lib.hid (HB2.out.trans (hb3.mono HB2.out.size))
  have S1 := Lib.hid (R1.out.below hb3)
  have S2 := Lib.hid (R2.out.below hb3)
  clear hb3 y1 z1 HX2 HY2 HB2 R1 R2
  obtain ⟨q, hq⟩ : ∃ q, decide (m.list = n.list) = q := ⟨_, rfl⟩
  go_wp2_with fail
  refine (eqInS_one m.list n.list k.la l.la k.lc l.lc w3 S1.out.2.2 S2.out.2.2 (fun _ x => x) fun _ x => x).mono ?_
  rintro e w4 ⟨rfl, hb4⟩
  have HB4 := Lib.hid (HB3.out.trans (hb4.mono HB3.out.size))
  rw [hq] at HN ⊢
  clear hb4
  cases q
  all_goals
    go_wp2_with fail
    go_ret
    exact YN.of HN.out HB4.out

end Go.Proofs.YtbifbmpflhdijaaDoor

/- The laws FnExactFirstDifference and FnExactTraceSame, walked: at every two lists of events the call returns true; nothing that was there has changed. -/
import Derived.Test.YtkjppfocdkpnpaaFD
namespace Go.Proofs.Ytkjppfocdkpnpaa
open Go.RowKit
set_option linter.unusedVariables false

set_option maxRecDepth 100000 in
set_option maxHeartbeats 4000000 in
theorem law_FnExactFirstDifference (es fs : List Ev) (a a' : Option Addr) (c c' : Nat) (w : World) (h : EvL w es a c) (h' : EvL w fs a' c') :
    Calls Try.prog 7 #[.slice a es.length c, .slice a' fs.length c'] w (YN true w) := by
  have HE : Hid (∀ v, Below w.heap.size w v → EvL v es a c) := fun v hv => h.below hv
  have HF : Hid (∀ v, Below w.heap.size w v → EvL v fs a' c') := fun v hv => h'.below hv
  have hm := Nat.le_trans h.1 h.2.1
  have hm' := Nat.le_trans h'.1 h'.2.1
  clear h h'
  go_enter Try.func7, Try.ntmps7
  go_wp2_with fail
  refine (szEv_one a es.length c 1048576 w (by omega) (by omega) hm).mono ?_
  rintro f w1 ⟨v1, rfl, hv1, hs1, rfl⟩
  by_cases n1 : v1 < 0
  · go_wp2_with fail
    go_ret
    exact YN.of rfl (Below.refl _ _)
  go_wp2_with fail
  refine (szEv_one a' fs.length c' v1 _ (by omega) (by omega) hm').mono ?_
  rintro f w2 ⟨v2, rfl, hv2, hs2, rfl⟩
  by_cases n2 : v2 < 0
  · go_wp2_with fail
    go_ret
    exact YN.of rfl (Below.refl _ _)
  have hz : es.length ≤ 1048576 := by have := hs1 (by omega); omega
  have hz' : fs.length ≤ 1048576 := by have := hs2 (by omega); omega
  clear hs1 hs2 hv1 hv2
  go_wp2_with fail
  refine (toEvS_one es a c _ (HE.out _ (Below.refl _ _)) hz).mono ?_
  rintro f u1 ⟨a1, c1, rfl, hl1, hb1⟩
  have HL1 := Lib.hid hl1
  have HB1 := Lib.hid hb1
  clear hl1 hb1
  go_wp2_with fail
  refine (toEvS_one fs a' c' _ (HF.out _ HB1.out) hz').mono ?_
  rintro f u2 ⟨a2, c2, rfl, hl2, hb2⟩
  have HL2 := Lib.hid hl2
  have HL1' := Lib.hid (HL1.out.below hb2)
  have HB2 := Lib.hid (HB1.out.trans (hb2.mono HB1.out.size))
  clear hl2 hb2 HL1 HB1
  go_wp2_with fail
  refine (sFD_one es fs a1 a2 c1 c2 _ HL1'.out HL2.out).mono ?_
  rintro f u3 ⟨r, rfl, hr, hb3⟩
  have HR := Lib.hid hr
  have HB3 := Lib.hid (HB2.out.trans (hb3.mono HB2.out.size))
  clear hb3 HB2 HL1' HL2 hr
  go_wp2_with fail
  refine (toEvS_one es a c _ (HE.out _ HB3.out) hz).mono ?_
  rintro f u4 ⟨a3, c3, rfl, hl4, hb4⟩
  have HL4 := Lib.hid hl4
  have HB4 := Lib.hid (HB3.out.trans (hb4.mono HB3.out.size))
  clear hl4 hb4 HB3
  go_wp2_with fail
  refine (toEvS_one fs a' c' _ (HF.out _ HB4.out) hz').mono ?_
  rintro f u5 ⟨a4, c4, rfl, hl5, hb5⟩
  have HL5 := Lib.hid hl5
  have HL4' := Lib.hid (HL4.out.below hb5)
  have HB5 := Lib.hid (HB4.out.trans (hb5.mono HB4.out.size))
  clear hl5 hb5 HB4 HL4
  go_wp2_with fail
  refine (iFD_one es fs a3 a4 c3 c4 _ HL4'.out HL5.out).mono ?_
  rintro f u6 ⟨r2, rfl, hr2, hb6⟩
  obtain rfl := hr2.one HR.out
  have HB6 := Lib.hid (HB5.out.trans (hb6.mono HB5.out.size))
  have HL4 := Lib.hid (HL4'.out.below hb6)
  have HL6 := Lib.hid (HL5.out.below hb6)
  clear hb6 HB5 HL4' HL5 hr2 HR
  go_wp2_with fail
  refine (toEvS_one es a c _ (HE.out _ HB6.out) hz).mono ?_
  rintro f u7 ⟨a5, c5, rfl, hl7, hb7⟩
  have HL7 := Lib.hid hl7
  have HL4' := Lib.hid (HL4.out.below hb7)
  have HL6' := Lib.hid (HL6.out.below hb7)
  have HB7 := Lib.hid (HB6.out.trans (hb7.mono HB6.out.size))
  clear hl7 hb7 HB6 HL4 HL6
  go_wp2_with fail
  refine (eqEvS_one es es a3 a5 c3 c5 _ HL4'.out HL7.out).mono ?_
  rintro f u8 ⟨rfl, hb8⟩
  have HB8 := Lib.hid (HB7.out.trans (hb8.mono HB7.out.size))
  have HL8 := Lib.hid (HL6'.out.below hb8)
  rw [show decide (es = es) = true from decide_eq_true rfl]
  clear hb8 HB7 HL6' HL4' HL7
  go_wp2_with fail
  refine (toEvS_one fs a' c' _ (HF.out _ HB8.out) hz').mono ?_
  rintro f u9 ⟨a6, c6, rfl, hl9, hb9⟩
  have HL9 := Lib.hid hl9
  have HL8' := Lib.hid (HL8.out.below hb9)
  have HB9 := Lib.hid (HB8.out.trans (hb9.mono HB8.out.size))
  clear hl9 hb9 HB8 HL8
  go_wp2_with fail
  refine (eqEvS_one fs fs a4 a6 c4 c6 _ HL8'.out HL9.out).mono ?_
  rintro f u10 ⟨rfl, hb10⟩
  have HB10 := Lib.hid (HB9.out.trans (hb10.mono HB9.out.size))
  rw [show decide (fs = fs) = true from decide_eq_true rfl]
  clear hb10 HB9 HL8' HL9
  go_wp2_with fail
  go_ret
  exact YN.of rfl HB10.out

set_option maxRecDepth 100000 in
set_option maxHeartbeats 4000000 in
theorem law_FnExactTraceSame (es fs : List Ev) (a a' : Option Addr) (c c' : Nat) (w : World) (h : EvL w es a c) (h' : EvL w fs a' c') :
    Calls Try.prog 6 #[.slice a es.length c, .slice a' fs.length c'] w (YN true w) := by
  have HE : Hid (∀ v, Below w.heap.size w v → EvL v es a c) := fun v hv => h.below hv
  have HF : Hid (∀ v, Below w.heap.size w v → EvL v fs a' c') := fun v hv => h'.below hv
  have hm := Nat.le_trans h.1 h.2.1
  have hm' := Nat.le_trans h'.1 h'.2.1
  clear h h'
  go_enter Try.func6, Try.ntmps6
  go_wp2_with fail
  refine (szEv_one a es.length c 1048576 w (by omega) (by omega) hm).mono ?_
  rintro f w1 ⟨v1, rfl, hv1, hs1, rfl⟩
  by_cases n1 : v1 < 0
  · go_wp2_with fail
    go_ret
    exact YN.of rfl (Below.refl _ _)
  go_wp2_with fail
  refine (szEv_one a' fs.length c' v1 _ (by omega) (by omega) hm').mono ?_
  rintro f w2 ⟨v2, rfl, hv2, hs2, rfl⟩
  by_cases n2 : v2 < 0
  · go_wp2_with fail
    go_ret
    exact YN.of rfl (Below.refl _ _)
  have hz : es.length ≤ 1048576 := by have := hs1 (by omega); omega
  have hz' : fs.length ≤ 1048576 := by have := hs2 (by omega); omega
  clear hs1 hs2 hv1 hv2
  go_wp2_with fail
  refine (toEvS_one es a c _ (HE.out _ (Below.refl _ _)) hz).mono ?_
  rintro f u1 ⟨a1, c1, rfl, hl1, hb1⟩
  have HL1 := Lib.hid hl1
  have HB1 := Lib.hid hb1
  clear hl1 hb1
  go_wp2_with fail
  refine (toEvS_one fs a' c' _ (HF.out _ HB1.out) hz').mono ?_
  rintro f u2 ⟨a2, c2, rfl, hl2, hb2⟩
  have HL2 := Lib.hid hl2
  have HL1' := Lib.hid (HL1.out.below hb2)
  have HB2 := Lib.hid (HB1.out.trans (hb2.mono HB1.out.size))
  clear hl2 hb2 HL1 HB1
  go_wp2_with fail
  refine (sTS_one es fs a1 a2 c1 c2 _ HL1'.out HL2.out).mono ?_
  rintro f u3 ⟨rfl, hb3⟩
  obtain ⟨q, hq⟩ : ∃ q, decide (es = fs) = q := ⟨_, rfl⟩
  rw [hq]
  have HQ := Lib.hid hq
  have HB3 := Lib.hid (HB2.out.trans (hb3.mono HB2.out.size))
  clear hb3 HB2 HL1' HL2 hq
  go_wp2_with fail
  refine (toEvS_one es a c _ (HE.out _ HB3.out) hz).mono ?_
  rintro f u4 ⟨a3, c3, rfl, hl4, hb4⟩
  have HL4 := Lib.hid hl4
  have HB4 := Lib.hid (HB3.out.trans (hb4.mono HB3.out.size))
  clear hl4 hb4 HB3
  go_wp2_with fail
  refine (toEvS_one fs a' c' _ (HF.out _ HB4.out) hz').mono ?_
  rintro f u5 ⟨a4, c4, rfl, hl5, hb5⟩
  have HL5 := Lib.hid hl5
  have HL4' := Lib.hid (HL4.out.below hb5)
  have HB5 := Lib.hid (HB4.out.trans (hb5.mono HB4.out.size))
  clear hl5 hb5 HB4 HL4
  go_wp2_with fail
  refine (iTS_one es fs a3 a4 c3 c4 _ HL4'.out HL5.out).mono ?_
  rintro f u6 ⟨rfl, hb6⟩
  rw [HQ.out]
  have HB6 := Lib.hid (HB5.out.trans (hb6.mono HB5.out.size))
  have HL4 := Lib.hid (HL4'.out.below hb6)
  have HL6 := Lib.hid (HL5.out.below hb6)
  clear hb6 HB5 HL4' HL5 HQ
  have hqq : (q != q) = false := by cases q <;> rfl
  go_wp2_with fail
  refine (toEvS_one es a c _ (HE.out _ HB6.out) hz).mono ?_
  rintro f u7 ⟨a5, c5, rfl, hl7, hb7⟩
  have HL7 := Lib.hid hl7
  have HL4' := Lib.hid (HL4.out.below hb7)
  have HL6' := Lib.hid (HL6.out.below hb7)
  have HB7 := Lib.hid (HB6.out.trans (hb7.mono HB6.out.size))
  clear hl7 hb7 HB6 HL4 HL6
  go_wp2_with fail
  refine (eqEvS_one es es a3 a5 c3 c5 _ HL4'.out HL7.out).mono ?_
  rintro f u8 ⟨rfl, hb8⟩
  have HB8 := Lib.hid (HB7.out.trans (hb8.mono HB7.out.size))
  have HL8 := Lib.hid (HL6'.out.below hb8)
  rw [show decide (es = es) = true from decide_eq_true rfl]
  clear hb8 HB7 HL6' HL4' HL7
  go_wp2_with fail
  refine (toEvS_one fs a' c' _ (HF.out _ HB8.out) hz').mono ?_
  rintro f u9 ⟨a6, c6, rfl, hl9, hb9⟩
  have HL9 := Lib.hid hl9
  have HL8' := Lib.hid (HL8.out.below hb9)
  have HB9 := Lib.hid (HB8.out.trans (hb9.mono HB8.out.size))
  clear hl9 hb9 HB8 HL8
  go_wp2_with fail
  refine (eqEvS_one fs fs a4 a6 c4 c6 _ HL8'.out HL9.out).mono ?_
  rintro f u10 ⟨rfl, hb10⟩
  have HB10 := Lib.hid (HB9.out.trans (hb10.mono HB9.out.size))
  rw [show decide (fs = fs) = true from decide_eq_true rfl]
  clear hb10 HB9 HL8' HL9
  go_wp2_with fail
  go_ret
  exact YN.of rfl HB10.out

end Go.Proofs.Ytkjppfocdkpnpaa

/- The law FnExactFormatTrace, walked: at every list of events the call returns true; nothing that was there has changed. Condition: the tables lie as the program's text lays them. -/
import Derived.Test.YtkjppfocdkpnpaaDoorImT
namespace Go.Proofs.YtkjppfocdkpnpaaDoor
open Go.RowKit
set_option linter.unusedVariables false

set_option maxRecDepth 100000 in
set_option maxHeartbeats 4000000 in
theorem law_FnExactFormatTrace (es : List Ev) (a : Option Addr) (c : Nat) (w : World) (hT : TabsE w) (h : EvL w es a c) :
    Calls Tryd.prog 4 #[.slice a es.length c] w (YN true w) := by
  have HE : Hid (∀ v, Below w.heap.size w v → EvL v es a c) := fun v hv => h.below hv
  have hm := Nat.le_trans h.1 h.2.1
  have h4 := hT.2.2
  have HT := Lib.hid hT
  clear h hT
  go_enter Tryd.func4, Tryd.ntmps4
  go_wp2_with fail
  refine (szEv_one a es.length c 1048576 w (by omega) (by omega) hm).mono ?_
  rintro f w1 ⟨v1, rfl, hv1, hs1, rfl⟩
  by_cases n1 : v1 < 0
  · go_wp2_with fail
    go_ret
    exact YN.of rfl (Below.refl _ _)
  have hz : es.length ≤ 1048576 := by have := hs1 (by omega); omega
  clear hs1 hv1
  go_wp2_with fail
  refine (toEvS_one es a c _ (HE.out _ (Below.refl _ _)) hz).mono ?_
  rintro f u1 ⟨a1, c1, rfl, hl1, hb1⟩
  have HL1 := Lib.hid hl1
  have HB1 := Lib.hid hb1
  clear hl1 hb1
  go_wp2_with fail
  refine (sFT_one es a1 c1 _ HL1.out hz).mono ?_
  rintro f u2 ⟨rfl, hb2⟩
  have HB2 := Lib.hid (HB1.out.trans (hb2.mono HB1.out.size))
  clear hb2 HB1 HL1
  obtain ⟨s, hs⟩ : ∃ s, (⟨(ftA es).toArray⟩ : ByteArray) = s := ⟨_, rfl⟩
  rw [hs]
  go_wp2_with fail
  refine (toEvS_one es a c _ (HE.out _ HB2.out) hz).mono ?_
  rintro f u3 ⟨a3, c3, rfl, hl3, hb3⟩
  have HL3 := Lib.hid hl3
  have HB3 := Lib.hid (HB2.out.trans (hb3.mono HB2.out.size))
  clear hl3 hb3 HB2
  go_wp2_with fail
  refine (iFT_one es a3 c3 _ HL3.out hz (HT.out.below HB3.out h4)).mono ?_
  rintro f u4 ⟨rfl, hb4⟩
  have HL4 := Lib.hid (HL3.out.below hb4)
  have HB4 := Lib.hid (HB3.out.trans (hb4.mono HB3.out.size))
  clear hb4 HB3 HL3
  rw [hs]
  clear hs
  go_wp2_with fail
  refine (toEvS_one es a c _ (HE.out _ HB4.out) hz).mono ?_
  rintro f u5 ⟨a5, c5, rfl, hl5, hb5⟩
  have HL5 := Lib.hid hl5
  have HL4' := Lib.hid (HL4.out.below hb5)
  have HB5 := Lib.hid (HB4.out.trans (hb5.mono HB4.out.size))
  clear hl5 hb5 HB4 HL4
  go_wp2_with fail
  refine (eqEvS_one es es a3 a5 c3 c5 _ HL4'.out HL5.out).mono ?_
  rintro f u6 ⟨rfl, hb6⟩
  have HB6 := Lib.hid (HB5.out.trans (hb6.mono HB5.out.size))
  rw [show decide (es = es) = true from decide_eq_true rfl]
  clear hb6 HB5 HL4' HL5
  go_wp2_with fail
  go_ret
  exact YN.of rfl HB6.out

end Go.Proofs.YtkjppfocdkpnpaaDoor

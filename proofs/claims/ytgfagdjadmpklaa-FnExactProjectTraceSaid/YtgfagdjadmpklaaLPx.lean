/- The law FnExactProjectTrace, walked: at every list of events the call returns true; nothing that was there has changed. -/
import Derived.Test.YtgfagdjadmpklaaPjW
import Derived.Test.YtgfagdjadmpklaaPjI
import Derived.Test.YtgfagdjadmpklaaToE
import Derived.Test.YtgfagdjadmpklaaMkE
namespace Go.Proofs.Ytgfagdjadmpklaa
open Go.RowKit
set_option linter.unusedVariables false

set_option maxRecDepth 100000 in
set_option maxHeartbeats 4000000 in
theorem law_FnExactProjectTrace (es : List Ev) (a : Option Addr) (c : Nat) (w : World) (h : EvL w es a c) :
    Calls Try.prog 10 #[.slice a es.length c] w (YN true w) := by
  obtain ⟨n, hn⟩ : ∃ n, es.length = n := ⟨_, rfl⟩
  have HN := Lib.hid hn
  have HE : Hid (∀ v, Below w.heap.size w v → EvL v es a c) := fun v hv => h.below hv
  have hm := Nat.le_trans h.1 h.2.1
  rw [hn] at hm ⊢
  clear h hn
  go_enter Try.func10, Try.ntmps10
  go_wp2_with fail
  refine (szEv_one a n c 1048576 w (by omega) (by omega) hm).mono ?_
  rintro f w1 ⟨v1, rfl, hv1, hs1, hw1⟩
  obtain rfl : w = w1 := hw1.symm
  by_cases n1 : v1 < 0
  · go_wp2_with fail
    go_ret
    exact YN.of rfl (Below.refl _ _)
  have hz : n ≤ 1048576 := by have := hs1 (by omega); omega
  clear hs1 hv1
  go_wp2_with fail
  refine (toER_one es a n c _ (HE.out _ (Below.refl _ _)) HN.out hz).mono ?_
  rintro f u1 ⟨a1, m1, c1, rfl, hm1, hr1, hb1⟩
  obtain rfl : m1 = n := by rw [← hm1]; exact HN.out
  have HL1 := Lib.hid (hr1.evl' hm1)
  have HB1 := Lib.hid hb1
  clear hr1 hb1 hm1
  go_wp2_with fail
  refine (sPj_one es a1 m1 c1 u1 HL1.out HN.out (by omega)).mono ?_
  rintro f u2 ⟨wa, wn, wc, rfl, hwn, hrw, hb2⟩
  have HWL : Hid (EvL u2 (evs (proj es)) wa wc) := by rw [← hwn] at hrw; exact hrw.evl
  have HWN : Hid ((evs (proj es)).length = wn) := by rw [evs_len]; exact hwn
  have hwz : wn ≤ 1048576 := by rw [← hwn]; exact Nat.le_trans (proj_len es) (by rw [HN.out]; exact hz)
  have HB2 := Lib.hid (HB1.out.trans (hb2.mono HB1.out.size))
  clear hrw hb2 HL1 HB1 hwn
  go_wp2_with fail
  refine (toER_one es a m1 c _ (HE.out _ HB2.out) HN.out hz).mono ?_
  rintro f u3 ⟨a3, m3, c3, rfl, hm3, hr3, hb3⟩
  obtain rfl : m3 = m1 := by rw [← hm3]; exact HN.out
  have HR3 := Lib.hid hr3
  have hag : ∀ g, (Value.slice a3 m3 c3).ownBlock = some g → g < u3.heap.size := fun g hg => (hr3.lt g hg).2
  have HL3 := Lib.hid (hr3.evl' hm3)
  have HB3 := Lib.hid hb3
  clear hr3 hb3 hm3
  go_wp2_with fail
  refine (iPj_one es a3 m3 c3 u3 HL3.out HN.out (by omega)).mono ?_
  rintro f u4 ⟨ga, gn, gc, rfl, hgn, hrg, hb4⟩
  obtain rfl : gn = wn := by rw [← hgn, ← evs_len]; exact HWN.out
  have hs2 := HB3.out.size
  have hs3 := hb4.size
  have HR4 : Hid (RowEv u4 u2.heap.size (.slice a3 m3 c3) (prs es)) := HR3.out.stand fun g hg hg' => hb4.block g hg'
  have HRG := Lib.hid hrg
  have HB4 := Lib.hid (HB3.out.trans (hb4.mono hs2))
  have HGL : Hid (EvL u4 (evs (proj es)) ga gc) := by have h := HRG.out; rw [← hgn] at h; exact h.evl
  clear hrg hb4 hgn HR3 HL3 HB3
  go_wp2_with fail
  refine (eqEvS_n (evs (proj es)) (evs (proj es)) ga wa gn gn gc wc u4 HGL.out (HWL.out.below HB4.out) HWN.out HWN.out).mono ?_
  rintro f u5 ⟨rfl, hb5⟩
  rw [show decide (evs (proj es) = evs (proj es)) = true from decide_eq_true rfl]
  have HB5 := Lib.hid hb5
  clear hb5 HGL
  have HB5w : Hid (Below w.heap.size w u5) := HB2.out.trans ((HB4.out.mono HB2.out.size).trans (HB5.out.mono (by have := HB2.out.size; omega)))
  go_wp2_with fail
  refine (toER_one es a m3 c _ (HE.out _ HB5w.out) HN.out hz).mono ?_
  rintro f u6 ⟨a6, m6, c6, rfl, hm6, hr6, hb6⟩
  obtain rfl : m6 = m3 := by rw [← hm6]; exact HN.out
  have HL6 := Lib.hid (hr6.evl' hm6)
  have HB6 : Hid (Below u4.heap.size u4 u6) := HB5.out.trans (hb6.mono HB5.out.size)
  clear hr6 hb6 hm6 HB5w HB5
  have HR6 : Hid (RowEv u6 u2.heap.size (.slice a3 m6 c3) (prs es)) := HR4.out.stand fun g hg hg' => HB6.out.block g hg'
  go_wp2_with fail
  refine (eqEvS_n es es a3 a6 m6 m6 c3 c6 u6 (HR6.out.evl' HN.out) HL6.out HN.out HN.out).mono ?_
  rintro f u7 ⟨rfl, hb7⟩
  rw [show decide (es = es) = true from decide_eq_true rfl]
  have HR7 : Hid (RowEv u7 u2.heap.size (.slice a3 m6 c3) (prs es)) := HR6.out.stand fun g hg hg' => hb7.block g hg'
  have HB7 : Hid (Below u4.heap.size u4 u7) := HB6.out.trans (hb7.mono HB6.out.size)
  clear hb7 HR6 HL6 HB6 HR4
  have HRG7 : Hid (RowEv u7 u3.heap.size (.slice ga gn gc) (proj es)) := HRG.out.stand fun g hg hg' => HB7.out.block g hg'
  go_wp2_with fail
  refine (markEvS_one u2.heap.size m6 c3 a3 1 (prs es) u7 HR7.out hz (by omega) (by omega)).mono ?_
  rintro f u8 ⟨rfl, hr8, hz8, hb8, hst8⟩
  have HRG8 : Hid (RowEv u8 u3.heap.size (.slice ga gn gc) (proj es)) := HRG7.out.stand fun g hg hg' => hst8 g fun e => by have h1 := hag g e; have h2 := (HRG7.out.lt g hg).1; omega
  have HB8 : Hid (Below u2.heap.size u2 u8) := HB4.out.trans ((HB7.out.mono (by omega)).trans hb8)
  have hsz8 : u4.heap.size ≤ u8.heap.size := by rw [hz8]; exact HB7.out.size
  clear hr8 hst8 hb8 HRG7 HR7 HRG HB7 HB4
  have hk1 : ¬ ((1 : Int) + 2 * (m6 : Int) < 0) := by omega
  have HGL8 : Hid (EvL u8 (evs (proj es)) ga gc) := HRG8.out.evl2 HWN.out
  go_wp2_with fail
  refine (eqEvS_n (evs (proj es)) (evs (proj es)) ga wa gn gn gc wc u8 HGL8.out (HWL.out.below HB8.out) HWN.out HWN.out).mono ?_
  rintro f u9 ⟨rfl, hb9⟩
  rw [show decide (evs (proj es) = evs (proj es)) = true from decide_eq_true rfl]
  have HRG9 : Hid (RowEv u9 u3.heap.size (.slice ga gn gc) (proj es)) := HRG8.out.stand fun g hg hg' => hb9.block g hg'
  have HB9 : Hid (Below u2.heap.size u2 u9) := HB8.out.trans (hb9.mono HB8.out.size)
  clear hb9 HRG8 HB8 HGL8
  go_wp2_with fail
  refine (markEvS_one u3.heap.size gn gc ga 1 (proj es) u9 HRG9.out hwz (by omega) (by omega)).mono ?_
  rintro f u10 ⟨rfl, hr10, hz10, hb10, hst10⟩
  have HR10 := Lib.hid hr10
  have HB10 : Hid (Below u2.heap.size u2 u10) := HB9.out.trans (hb10.mono hs2)
  clear hr10 hst10 hb10 HRG9 HB9
  have HLM : Hid (∀ v, Below u10.heap.size u10 v → EvL v (evs (mks 1 gn)) ga gc) := fun v hv => by
    have h1 := HR10.out.stand (w' := v) fun g hg hg' => hv.block g hg'
    exact h1.evl2 (by rw [evs_len, mks_len])
  go_wp2_with fail
  refine (heldEvS_one gn gc ga 1 u10 (HLM.out _ (Below.refl _ _)) hwz (by omega) (by omega)).mono ?_
  rintro f u11 ⟨rfl, hb11⟩
  have HB11 := Lib.hid hb11
  have HB11w : Hid (Below w.heap.size w u11) := HB2.out.trans ((HB10.out.trans (hb11.mono HB10.out.size)).mono HB2.out.size)
  clear hb11
  have hk2 : ¬ ((1 : Int) + 2 * (gn : Int) < 0) := by omega
  go_wp2_with fail
  refine (toER_one es a m6 c _ (HE.out _ HB11w.out) HN.out hz).mono ?_
  rintro f u12 ⟨a12, m12, c12, rfl, hm12, hr12, hb12⟩
  obtain rfl : m12 = m6 := by rw [← hm12]; exact HN.out
  have HL12 := Lib.hid (hr12.evl' hm12)
  have HB12 : Hid (Below u10.heap.size u10 u12) := HB11.out.trans (hb12.mono HB11.out.size)
  clear hr12 hb12 hm12 HB11 HB11w
  go_wp2_with fail
  refine (iPj_one es a12 m12 c12 u12 HL12.out HN.out (by omega)).mono ?_
  rintro f u13 ⟨ha, hn13, hc13, rfl, hhn, hrh, hb13⟩
  obtain rfl : hn13 = gn := by rw [← hhn, ← evs_len]; exact HWN.out
  have HB13 : Hid (Below u10.heap.size u10 u13) := HB12.out.trans (hb13.mono HB12.out.size)
  have HHL : Hid (EvL u13 (evs (proj es)) ha hc13) := hrh.evl2 HWN.out
  have HB13w : Hid (Below u2.heap.size u2 u13) := HB10.out.trans (HB13.out.mono HB10.out.size)
  clear hrh hb13 hhn HB12 HL12
  go_wp2_with fail
  refine (eqEvS_n (evs (proj es)) (evs (proj es)) ha wa hn13 hn13 hc13 wc u13 HHL.out (HWL.out.below HB13w.out) HWN.out HWN.out).mono ?_
  rintro f u14 ⟨rfl, hb14⟩
  rw [show decide (evs (proj es) = evs (proj es)) = true from decide_eq_true rfl]
  have HB14 : Hid (Below u10.heap.size u10 u14) := HB13.out.trans (hb14.mono HB13.out.size)
  clear hb14 HB13 HB13w HHL
  go_wp2_with fail
  refine (heldEvS_one hn13 gc ga 1 u14 (HLM.out _ HB14.out) hwz (by omega) (by omega)).mono ?_
  rintro f u15 ⟨rfl, hb15⟩
  have HB15w : Hid (Below w.heap.size w u15) := HB2.out.trans ((HB10.out.trans ((HB14.out.trans (hb15.mono HB14.out.size)).mono HB10.out.size)).mono HB2.out.size)
  clear hb15 HB14
  go_wp2_with fail
  go_ret
  exact YN.of rfl HB15w.out

end Go.Proofs.Ytgfagdjadmpklaa

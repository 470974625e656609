/- The marking and holding helpers of the exact laws on a code. -/
import Derived.Test.YtbifbmpflhdijaaDoorToCO
import Derived.Test.YtbifbmpflhdijaaDoorMkI
namespace Go.Proofs.YtbifbmpflhdijaaDoor
open Go.RowKit
set_option linter.unusedVariables false

/-- The marks of a code. -/
def mkCd (k : Int) (m : Cd) : Cd := ⟨mkI k m.vars.length, mkI (k + (m.vars.length : Int)) m.arrs.length, mkN (k + (m.vars.length : Int) + (m.arrs.length : Int)) m.list.length⟩
def mkEnd (k : Int) (m : Cd) : Int := k + (m.vars.length : Int) + (m.arrs.length : Int) + 5 * (m.list.length : Int)
/-- Its rows hold the marks; no other block has changed. -/
def WroteC (w : World) (base : Nat) (m : Cd) (k : CK) (k0 : Int) (f : Ending) (w' : World) : Prop := f = .returned (.int .i64 (mkEnd k0 m)) ∧ OwnC w' base (mkCd k0 m) k ∧ Below base w w' ∧ w.heap.size ≤ w'.heap.size ∧ ∀ j, j < w.heap.size → blk k.va m.vars.length ≠ some j → blk k.aa m.arrs.length ≠ some j → blk k.la m.list.length ≠ some j → w'.heap[j]? = w.heap[j]?

set_option maxRecDepth 100000 in
set_option maxHeartbeats 4000000 in
/-- **markCode.** -/
theorem markC_one (base : Nat) (m : Cd) (k : CK) (k0 : Int) (w : World) (h : OwnC w base m k) (hb : base ≤ w.heap.size) (hs : CSm m) (h0 : 0 ≤ k0) (h1 : k0 ≤ 1000) :
    Calls Tryd.prog 16 #[aggC m k, .int .i64 k0] w (WroteC w base m k k0) := by
  obtain ⟨hs1, hs2, hs3⟩ := hs
  obtain ⟨W, hW⟩ : ∃ W, w.alloc (.cells (arrC m k) 29) = W := ⟨_, rfl⟩
  have hB : Below w.heap.size w W := by rw [← hW]; exact (Below.refl _ w).alloc (Nat.le_refl _) _
  have hX : BoxC W w.heap.size m k := by rw [← hW]; exact BoxC.new _ _ _ _
  have hz : W.heap.size = w.heap.size + 1 := by rw [← hW]; simp
  have hO : OwnC W base m k := h.stand fun g _ hg => hB.block g hg
  have lv := h.v.lt
  have la := h.a.lt
  have ll := h.l.lt
  have LV := Lib.hid lv
  have LA := Lib.hid la
  have LL := Lib.hid ll
  have HO := Lib.hid hO
  have HX := Lib.hid hX
  have HB := Lib.hid hB
  have HW := Lib.hid hW
  have HZ := Lib.hid hz
  unfold arrC at HW
  have x0 := hX.c0
  obtain ⟨nv, hnv⟩ : ∃ n, m.vars.length = n := ⟨_, rfl⟩
  obtain ⟨na, hna⟩ : ∃ n, m.arrs.length = n := ⟨_, rfl⟩
  obtain ⟨nl, hnl⟩ : ∃ n, m.list.length = n := ⟨_, rfl⟩
  have HNV := Lib.hid hnv
  have HNA := Lib.hid hna
  have HNL := Lib.hid hnl
  rw [hnv] at hs1 x0
  rw [hna] at hs2
  rw [hnl] at hs3
  have M1 := Lib.hid (markIX_one base nv k.vc k.va k0 m.vars W (by have := hO.v; rw [hnv] at this; exact this) hnv hs1 h0 (by omega))
  clear hW hB hX hz hO lv la ll h hnv hna hnl
  go_enter Tryd.func16, Tryd.ntmps16
  go_wp2_with (first | rw [HW.out] | fail)
  refine M1.out.mono ?_
  rintro f w1 ⟨rfl, hr1, hz1, hb1, hst1⟩
  have hx1 : BoxC w1 w.heap.size m k := HX.out.later (hst1 _ fun e => by have h1 := LV.out; rw [HNV.out] at h1; have := h1 _ e; omega)
  have x1 := hx1.c1
  rw [HNA.out] at x1
  have ha1 : RowX w1 base 3 1 k.aa na k.ac (m.arrs.map (Value.int .i64)) := by
    have h1 := HO.out.a
    rw [HNA.out] at h1
    refine h1.far fun g hg _ => hst1 g fun e => ?_
    have h2 := HO.out.va
    rw [HNV.out, HNA.out] at h2
    exact h2 g e hg
  have hl1 : RowX w1 base 50 5 k.la nl k.lc (flatN m.list) := by
    have h1 := HO.out.l
    rw [HNL.out] at h1
    refine h1.far fun g hg _ => hst1 g fun e => ?_
    have h2 := HO.out.vl
    rw [HNV.out, HNL.out] at h2
    exact h2 g e hg
  have M2 := Lib.hid (markIX_one base na k.ac k.aa (k0 + (nv : Int)) m.arrs w1 ha1 HNA.out hs2 (by omega) (by omega))
  have HR1 := Lib.hid hr1
  have HX1 := Lib.hid hx1
  have HL1 := Lib.hid hl1
  have HB1 := Lib.hid hb1
  have HST1 := Lib.hid hst1
  have HZ1 := Lib.hid hz1
  clear hr1 hx1 ha1 hl1 hb1 hst1 hz1 x0 M1
  go_wp2_with fail
  refine M2.out.mono ?_
  rintro f w2 ⟨rfl, hr2, hz2, hb2, hst2⟩
  have hx2 : BoxC w2 w.heap.size m k := HX1.out.later (hst2 _ fun e => by have h1 := LA.out; rw [HNA.out] at h1; have := h1 _ e; omega)
  have x2 := hx2.c2
  rw [HNL.out] at x2
  have hv2 : RowX w2 base 3 1 k.va nv k.vc ((mkI k0 nv).map (Value.int .i64)) := HR1.out.far fun g hg _ => hst2 g fun e => by
    have h2 := HO.out.va
    rw [HNV.out, HNA.out] at h2
    exact h2 g hg e
  have hl2 : RowX w2 base 50 5 k.la nl k.lc (flatN m.list) := HL1.out.far fun g hg _ => hst2 g fun e => by
    have h2 := HO.out.al
    rw [HNA.out, HNL.out] at h2
    exact h2 g e hg
  have M3 := Lib.hid (markNX_one base nl k.lc k.la (k0 + (nv : Int) + (na : Int)) m.list w2 hl2 HNL.out hs3 (by omega) (by omega))
  have HV2 := Lib.hid hv2
  have HR2 := Lib.hid hr2
  have HB2 := Lib.hid hb2
  have HST2 := Lib.hid hst2
  have HZ2 := Lib.hid hz2
  clear hr2 hx2 hv2 hl2 hb2 hst2 hz2 x1 M2 HR1 HL1
  go_wp2_with fail
  refine M3.out.mono ?_
  rintro f w3 ⟨rfl, hr3, hz3, hb3, hst3⟩
  have HFIN : Hid (WroteC w base m k k0 (.returned (.int .i64 (k0 + (nv : Int) + (na : Int) + 5 * (nl : Int)))) w3) := by
    have hv3 : RowX w3 base 3 1 k.va nv k.vc ((mkI k0 nv).map (Value.int .i64)) := HV2.out.far fun g hg _ => hst3 g fun e => by
      have h2 := HO.out.vl
      rw [HNV.out, HNL.out] at h2
      exact h2 g hg e
    have ha3 : RowX w3 base 3 1 k.aa na k.ac ((mkI (k0 + (nv : Int)) na).map (Value.int .i64)) := HR2.out.far fun g hg _ => hst3 g fun e => by
      have h2 := HO.out.al
      rw [HNA.out, HNL.out] at h2
      exact h2 g hg e
    have hva := HO.out.va
    have hvl := HO.out.vl
    have hal := HO.out.al
    unfold WroteC
    rw [HNV.out, HNA.out] at hva
    rw [HNV.out, HNL.out] at hvl
    rw [HNA.out, HNL.out] at hal
    refine ⟨by unfold mkEnd; rw [HNV.out, HNA.out, HNL.out], ?_, (((HB.out.mono hb).trans HB1.out).trans HB2.out).trans hb3, by rw [hz3, HZ2.out, HZ1.out]; exact HB.out.size, fun j hj n1 n2 n3 => ?_⟩
    · have e1 : (mkCd k0 m).vars.length = nv := by show (mkI _ _).length = nv; rw [mkI_len, HNV.out]
      have e2 : (mkCd k0 m).arrs.length = na := by show (mkI _ _).length = na; rw [mkI_len, HNA.out]
      have e3 : (mkCd k0 m).list.length = nl := by show (mkN _ _).length = nl; rw [mkN_len, HNL.out]
      refine ⟨?_, ?_, ?_, by rw [e1, e2]; exact hva, by rw [e1, e3]; exact hvl, by rw [e2, e3]; exact hal⟩
      · rw [e1]; show RowX _ _ _ _ _ _ _ ((mkI k0 m.vars.length).map _); rw [HNV.out]; exact hv3
      · rw [e2]; show RowX _ _ _ _ _ _ _ ((mkI (k0 + (m.vars.length : Int)) m.arrs.length).map _); rw [HNV.out, HNA.out]; exact ha3
      · rw [e3]; show RowX _ _ _ _ _ _ _ (flatN (mkN (k0 + (m.vars.length : Int) + (m.arrs.length : Int)) m.list.length)); rw [HNV.out, HNA.out, HNL.out]; exact hr3
    · rw [HNV.out] at n1
      rw [HNA.out] at n2
      rw [HNL.out] at n3
      exact (hst3 j n3).trans ((HST2.out j n2).trans ((HST1.out j n1).trans (HB.out.block j hj)))
  clear hr3 hz3 hb3 hst3 HV2 HR2 HO M3
  go_wp2_with fail
  go_ret
  exact HFIN.out

end Go.Proofs.YtbifbmpflhdijaaDoor

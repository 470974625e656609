/- heldCode, walked: at every code the call returns true; nothing that was there has changed. Condition: the table of forms lies as the program's text lays it. -/
import Derived.Test.YtbifbmpflhdijaaDoorCdE
import Derived.Test.YtbifbmpflhdijaaDoorCdT
import Derived.Test.YtbifbmpflhdijaaDoorMkC
import Derived.Test.YtbifbmpflhdijaaDoorPaN
import Derived.Deep.RegionWith
import Derived.Deep.RegionHeld3
namespace Go.Proofs.YtbifbmpflhdijaaDoor
open Go.RowKit
set_option linter.unusedVariables false

theorem eqC_same (m : Cd) (k l : CK) (w : World) (h : CL w m k) (h' : CL w m l) : Calls Tryd.prog 15 #[aggC m k, aggC m l] w (YN true w) := by
  have h1 := eqC_one m m k l w h h'
  rw [decide_eq_true rfl] at h1
  exact h1

set_option maxRecDepth 100000 in
set_option maxHeartbeats 4000000 in
/-- **heldCode.** -/
theorem heldC_one (m : Cd) (k : CK) (k0 : Int) (w : World) (h : CL w (mkCd k0 m) k) (hs : CSm m) (h0 : 0 ≤ k0) (h1 : k0 ≤ 1000) :
    Calls Tryd.prog 17 #[aggC m k, .int .i64 k0] w (fun f w' => f = .returned (.int .i64 (mkEnd k0 m)) ∧ Below w.heap.size w w') := by
  obtain ⟨hs1, hs2, hs3⟩ := hs
  obtain ⟨W, hW⟩ : ∃ W, w.alloc (.cells (arrC m k) 29) = W := ⟨_, rfl⟩
  have hB : Below w.heap.size w W := by rw [← hW]; exact (Below.refl _ w).alloc (Nat.le_refl _) _
  have hX : BoxC W w.heap.size m k := by rw [← hW]; exact BoxC.new _ _ _ _
  have HX : Hid (∀ v, Below W.heap.size W v → BoxC v w.heap.size m k) := fun v hv => hX.below hv hX.lt
  obtain ⟨nv, hnv⟩ : ∃ n, m.vars.length = n := ⟨_, rfl⟩
  obtain ⟨na, hna⟩ : ∃ n, m.arrs.length = n := ⟨_, rfl⟩
  obtain ⟨nl, hnl⟩ : ∃ n, m.list.length = n := ⟨_, rfl⟩
  have HC : Hid (∀ v, Below W.heap.size W v → IAt v (fun b => b < v.heap.size) (mkI k0 nv) k.va ∧ IAt v (fun b => b < v.heap.size) (mkI (k0 + (nv : Int)) na) k.aa ∧ NAt v (fun b => b < v.heap.size) (mkN (k0 + (nv : Int) + (na : Int)) nl) k.la) := fun v hv => by
    have q := (h.below hB).below hv
    have q1 := q.1
    have q2 := q.2.1
    have q3 := q.2.2
    unfold mkCd at q1 q2 q3
    rw [hnv] at q1 q2 q3
    rw [hna] at q2 q3
    rw [hnl] at q3
    exact ⟨q1, q2, q3⟩
  have HE : Hid (mkEnd k0 m = k0 + (nv : Int) + (na : Int) + 5 * (nl : Int)) := by
    have : mkEnd k0 m = k0 + (nv : Int) + (na : Int) + 5 * (nl : Int) := by unfold mkEnd; rw [hnv, hna, hnl]
    exact this
  have HNV := Lib.hid hnv
  have HNA := Lib.hid hna
  have HNL := Lib.hid hnl
  have HB := Lib.hid hB
  have HW := Lib.hid hW
  unfold arrC at HW
  have x0 := hX.c0
  rw [hnv] at hs1 x0
  rw [hna] at hs2
  rw [hnl] at hs3
  have M1 := Lib.hid (heldIX_one nv k.vc k.va k0 W (HC.out W (Below.refl _ _)).1 hs1 h0 (by omega))
  clear hW hB hX h hnv hna hnl
  go_enter Tryd.func17, Tryd.ntmps17
  go_wp2_with (first | rw [HW.out] | fail)
  refine M1.out.mono ?_
  rintro f w1 ⟨rfl, hb1⟩
  have HB1 := Lib.hid hb1
  have x1 := (HX.out w1 hb1).c1
  rw [HNA.out] at x1
  have M2 := Lib.hid (heldIX_one na k.ac k.aa (k0 + (nv : Int)) w1 (HC.out w1 hb1).2.1 hs2 (by omega) (by omega))
  have p1 : ¬ (k0 + (nv : Int) < 0) := by omega
  clear hb1 x0 M1
  go_wp2_with fail
  refine M2.out.mono ?_
  rintro f w2 ⟨rfl, hb2⟩
  have HB2 : Hid (Below W.heap.size W w2) := HB1.out.trans (hb2.mono HB1.out.size)
  have x2 := (HX.out w2 HB2.out).c2
  rw [HNL.out] at x2
  have M3 := Lib.hid (heldInS_one nl k.lc k.la (k0 + (nv : Int) + (na : Int)) w2 (HC.out w2 HB2.out).2.2 hs3 (by omega) (by omega))
  have p2 : ¬ (k0 + (nv : Int) + (na : Int) < 0) := by omega
  clear hb2 x1 M2
  go_wp2_with fail
  refine M3.out.mono ?_
  rintro f w3 ⟨rfl, hb3⟩
  have p3 : ¬ (k0 + (nv : Int) + (na : Int) + 5 * (nl : Int) < 0) := by omega
  have HFIN : Hid (Below w.heap.size w w3) := HB.out.trans ((HB2.out.trans (hb3.mono HB2.out.size)).mono HB.out.size)
  clear hb3 x2 M3
  go_wp2_with fail
  rw [HE.out]
  go_ret
  exact ⟨rfl, HFIN.out⟩

end Go.Proofs.YtbifbmpflhdijaaDoor

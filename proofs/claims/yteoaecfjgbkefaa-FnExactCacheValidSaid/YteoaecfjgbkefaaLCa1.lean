/- The law FnExactCacheValid, walked: at every cache the call returns true; nothing that was there has changed. -/
import Derived.Test.YteoaecfjgbkefaaCaW
import Derived.Test.YteoaecfjgbkefaaCaH
import Derived.Deep.RegionWith
import Derived.Deep.RegionHeld3
namespace Go.Proofs.Yteoaecfjgbkefaa
open Go.RowKit
set_option linter.unusedVariables false

set_option maxHeartbeats 4000000 in
theorem law_FnExactCacheValid (xs : List Int) (a : Option Addr) (n c : Nat) (w : World) (h : SliceI w a n xs) :
    Calls Try.prog 10 #[aggCa a n c] w (YN true w) := by
  have hn := h.1
  have HM : Hid (∀ v, Below w.heap.size w v → SliceI v a n xs) := fun v hv => h.below hv
  clear h
  have HB := Lib.hid ((Below.refl w.heap.size w).alloc (Nat.le_refl _) (.cells #[.slice a n c] 47))
  have HX := Lib.hid (BoxCa.new w a n c 47)
  go_enter Try.func10, Try.ntmps10
  go_wp2_with fail
  obtain ⟨W, hW⟩ : ∃ W, (w.alloc (.cells #[.slice a n c] 47)) = W := ⟨_, rfl⟩
  rw [hW] at HB HX ⊢
  clear hW
  refine (szCa_one a n c W hn).mono ?_
  rintro f w2 ⟨v1, rfl, hv1, hv2, hs1, hb1⟩
  have HB2 := Lib.hid (HB.out.trans (hb1.mono HB.out.size))
  have HX2 := Lib.hid (HX.out.below hb1)
  by_cases n1 : v1 < 0
  · clear hs1 hb1 HX
    go_wp2_with fail
    go_ret
    exact YN.of rfl HB2.out
  have hz : n ≤ 1048576 := hs1 (by omega)
  clear hs1 hb1 HX
  have HS : Hid (∀ v, Below w2.heap.size w2 v → v.cell? ⟨w.heap.size, 0, none⟩ = some (.slice a n c)) := fun v hv => (HX2.out.below hv).c0
  have HW : Hid (∀ v, Below w2.heap.size w2 v → SliceI v a n xs) := fun v hv => HM.out _ (HB2.out.trans (hv.mono HB2.out.size))
  have x0 := HS.out w2 (Below.refl _ _)
  obtain ⟨q, hq⟩ : ∃ q, okL xs = q := ⟨_, rfl⟩
  have HQ := Lib.hid hq
  clear HM hq
  go_wp2_with fail
  refine (toCa_one a n c xs w2 (HW.out _ (Below.refl _ _)) hz).mono ?_
  rintro f w3 ⟨a1, m1, c1, rfl, hm1, ho1, hb3⟩
  have HO1 := Lib.hid ho1.sl.1
  have HB3 := Lib.hid hb3
  clear hm1 hb3 ho1 x0
  go_wp2_with fail
  refine (sCv_one a1 m1 c1 xs w3 HO1.out).mono ?_
  rintro f w4 ⟨rfl, hb4⟩
  rw [HQ.out]
  have HB4 := Lib.hid (HB3.out.trans (hb4.mono HB3.out.size))
  have x0 := HS.out w4 HB4.out
  clear hb4 HO1 HB3
  go_wp2_with fail
  refine (toCa_one a n c xs w4 (HW.out _ HB4.out) hz).mono ?_
  rintro f w5 ⟨a2, m2, c2, rfl, hm2, ho2, hb5⟩
  have hX5 : BoxCa (w5.alloc (.cells #[.slice a2 m2 c2] 25)) w5.heap.size a2 m2 c2 := BoxCa.new _ _ _ _ _
  have hB5 : Below w2.heap.size w2 (w5.alloc (.cells #[.slice a2 m2 c2] 25)) := (HB4.out.trans (hb5.mono HB4.out.size)).alloc (Nat.le_trans HB4.out.size hb5.size) _
  have hC5 : SliceI (w5.alloc (.cells #[.slice a2 m2 c2] 25)) a2 m2 xs := ho2.sl.1.below ((Below.refl _ _).alloc (Nat.le_refl _) _)
  have HX5 := Lib.hid hX5
  have HB5 := Lib.hid hB5
  have HC5 := Lib.hid hC5
  have g0 := hX5.c0
  clear hm2 hb5 hX5 hB5 hC5 x0 HB4 ho2
  go_wp2_with fail
  obtain ⟨u5, hu5⟩ : ∃ u5, w5.alloc (.cells #[.slice a2 m2 c2] 25) = u5 := ⟨_, rfl⟩
  rw [hu5] at HX5 HB5 HC5 g0 ⊢
  clear hu5 g0
  refine (iCv_one a2 m2 c2 xs u5 HC5.out).mono ?_
  rintro f u6 ⟨rfl, hb6⟩
  rw [HQ.out]
  have HB6 := Lib.hid (HB5.out.trans (hb6.mono HB5.out.size))
  have HX6 := Lib.hid (HX5.out.below hb6)
  have HC6 := Lib.hid (HC5.out.below hb6)
  have f0 := HS.out u6 HB6.out
  have q0 := HX6.out.c0
  have HSQ : Hid (∀ v, Below u6.heap.size u6 v → v.cell? ⟨w.heap.size, 0, none⟩ = some (.slice a n c) ∧ v.cell? ⟨w5.heap.size, 0, none⟩ = some (.slice a2 m2 c2)) := fun v hv => by
    have f0 := HS.out v (HB6.out.trans (hv.mono HB6.out.size))
    have h := HX6.out.below hv
    exact ⟨f0, h.c0⟩
  have HWQ : Hid (∀ v, Below u6.heap.size u6 v → SliceI v a n xs) := fun v hv => HW.out _ (HB6.out.trans (hv.mono HB6.out.size))
  have HBD6 : Hid (Below u6.heap.size u6 u6.drew) := (Below.refl _ _).drew
  have HEQ : Hid (eqL xs xs = true) := decide_eq_true rfl
  clear hb6 HX5 HC5 HB5
  cases q
  all_goals
    go_wp2_with fail
    go_region_held3 (fun v => v.cell? ⟨w.heap.size, 0, none⟩ = some (.slice a n c) ∧ v.cell? ⟨w5.heap.size, 0, none⟩ = some (.slice a2 m2 c2)) (first | assumption | exact ⟨f0, q0⟩)
      (first
      | (go_at_call 38; (with_reducible refine (toCa_one a n c xs u6.drew (HWQ.out _ HBD6.out) hz).mono ?_); rintro f u9 ⟨a3, m3, c3, rfl, hm3, ho3, hA⟩; have hA2 := HBD6.out.trans hA; have hS1 := HSQ.out _ hA2; have HO3 := Lib.hid ho3.sl.1; clear hm3 ho3)
      | (go_at_call 39; (with_reducible refine (eqCa_one a2 a3 m2 m3 c2 c3 xs xs u9 (HC6.out.below hA2) HO3.out).mono ?_); rintro f u10 ⟨rfl, hE⟩; rw [HEQ.out]; have hB10 := hA2.trans (hE.mono hA2.size); have hS2 := HSQ.out _ hB10)
      | fail)
    have HB10 := Lib.hid (HB6.out.trans (hB10.mono HB6.out.size))
    clear hB10 hA hA2 hE hS1 hS2 q0 f0 HSQ HC6 HWQ
    go_wp2_with fail
    go_ret
    exact YN.of rfl (HB2.out.trans (HB10.out.mono HB2.out.size))

end Go.Proofs.Yteoaecfjgbkefaa

/- The law FnExactProbeCache, walked: at every cache the call returns true; nothing that was there has changed. -/
import Derived.Test.YteoaecfjgbkefaaCaB
import Derived.Test.YteoaecfjgbkefaaCaH
import Derived.Deep.RegionWith
import Derived.Deep.RegionHeld3
namespace Go.Proofs.Yteoaecfjgbkefaa
open Go.RowKit
set_option linter.unusedVariables false

theorem prbP_len (xs : List Int) : (prbP xs).length ≤ 2 := by
  cases h : okL xs with
  | false => rw [prbP_no h]; exact Nat.zero_le _
  | true =>
    obtain ⟨c, rfl, hok⟩ := okL_two h
    rw [prbP_yes hok]; exact Nat.le_refl _
theorem OwnB.ba {v : World} {base n cap : Nat} {a : Option Addr} {bs : List Bool} (h : OwnB v base (.slice a n cap) bs) : BAt v (fun j => j < v.heap.size) bs a := (h.bat.2.2.2).wide (fun _ _ => rfl) fun _ hk => hk.2

set_option maxRecDepth 100000 in
set_option maxHeartbeats 8000000 in
theorem law_FnExactProbeCache (xs : List Int) (a : Option Addr) (n c : Nat) (w : World) (h : SliceI w a n xs) :
    Calls Try.prog 16 #[aggCa a n c] w (YN true w) := by
  have hn := h.1
  have HM : Hid (∀ u, Below w.heap.size w u → SliceI u a n xs) := fun u hu => h.below hu
  clear h
  obtain ⟨L, hlen, HSA, HIA⟩ : ∃ L, L.length ≤ 2 ∧
      Hid (∀ (a : Option Addr) (n c : Nat) (u : World), SliceI u a n xs → Calls Try.prog 34 #[aggCa a n c] u (OwnBl L u)) ∧
      Hid (∀ (a : Option Addr) (n c : Nat) (u : World), SliceI u a n xs → Calls Try.prog 32 #[aggCa a n c] u (OwnBl L u)) :=
    ⟨_, prbP_len xs, fun a n c u hu => sPb_one xs a n c u hu, fun a n c u hu => iPb_one xs a n c u hu⟩
  have HEQ : Hid (∀ ys : List Int, eqL ys ys = true) := fun ys => decide_eq_true rfl
  have HB := Lib.hid ((Below.refl w.heap.size w).alloc (Nat.le_refl _) (.cells #[.slice a n c] 47))
  have HX := Lib.hid (BoxCa.new w a n c 47)
  go_enter Try.func16, Try.ntmps16
  go_wp2_with fail
  obtain ⟨W, hW⟩ : ∃ W, (w.alloc (.cells #[.slice a n c] 47)) = W := ⟨_, rfl⟩
  rw [hW] at HB HX ⊢
  clear hW
  refine (szCa_one a n c W hn).mono ?_
  rintro f w2 ⟨v1, rfl, hv1, hv2, hs1, hb1⟩
  have HB2 := Lib.hid (HB.out.trans (hb1.mono HB.out.size))
  have HX2 := Lib.hid (HX.out.below hb1)
  by_cases n1 : v1 < 0
  · clear hs1 hb1 HX
    go_wp2_with fail
    go_ret
    exact YN.of rfl HB2.out
  have hz : n ≤ 1048576 := hs1 (by omega)
  clear hs1 hb1 HX
  have HS : Hid (∀ u, Below w2.heap.size w2 u → u.cell? ⟨w.heap.size, 0, none⟩ = some (.slice a n c)) := fun u hu => (HX2.out.below hu).c0
  have HW : Hid (∀ u, Below w2.heap.size w2 u → SliceI u a n xs) := fun u hu => HM.out _ (HB2.out.trans (hu.mono HB2.out.size))
  have x0 := HS.out w2 (Below.refl _ _)
  clear HM
  go_wp2_with fail
  -- the model
  refine (toCa_one a n c xs w2 (HW.out _ (Below.refl _ _)) hz).mono ?_
  rintro f w3 ⟨a3, m3, c3, rfl, hm3, ho3, hb3⟩
  have HS3 := Lib.hid ho3.sl.1
  have HB3 := Lib.hid hb3
  clear hm3 hb3 ho3 x0
  go_wp2_with fail
  refine (HSA.out a3 m3 c3 w3 HS3.out).mono ?_
  rintro f u1 ⟨a1, n1, c1, rfl, hn1, ho1, hb4⟩
  have hn2 : n1 ≤ 2 := by omega
  have HN1 := Lib.hid hn1
  have HO1 := Lib.hid ho1
  have HB4 : Hid (Below w2.heap.size w2 u1) := HB3.out.trans (hb4.mono HB3.out.size)
  have x0 := HS.out u1 HB4.out
  clear hb4 ho1 HB3 HS3 hn1
  go_wp2_with fail
  -- the argument's copy
  refine (toCa_one a n c xs u1 (HW.out _ HB4.out) hz).mono ?_
  rintro f w5 ⟨a5, m5, c5, rfl, hm5, ho5, hb5⟩
  have hmn : m5 = n := by rw [← hm5]; exact (HW.out _ HB4.out).2.1
  obtain ⟨u5, hu5⟩ : ∃ u5, w5.alloc (.cells #[.slice a5 m5 c5] 25) = u5 := ⟨_, rfl⟩
  have k5 : Below w5.heap.size w5 u5 := by rw [← hu5]; exact (Below.refl _ _).alloc (Nat.le_refl _) _
  have hx5 : BoxCa u5 w5.heap.size a5 m5 c5 := by rw [← hu5]; exact BoxCa.new _ _ _ _ _
  have HB5 : Hid (Below u1.heap.size u1 u5) := hb5.trans (k5.mono hb5.size)
  have HO5 : Hid (OwnI u5 u1.heap.size (.slice a5 m5 c5) xs) := ho5.later k5
  have H5LT : Hid (∀ g, (Value.slice a5 m5 c5).ownBlock = some g → g < w5.heap.size) := fun g hg => (ho5.lt g hg).2
  have z5 : w5.heap.size + 1 ≤ u5.heap.size := by rw [← hu5]; simp
  have z5' := hb5.size
  have HX5 := Lib.hid hx5
  have HU5 := Lib.hid hu5
  clear hu5 k5 hb5 ho5 hx5 x0 hm5
  have hm5' : m5 ≤ 1048576 := by omega
  clear hmn
  go_wp2_with fail
  rw [HU5.out]
  -- the program
  refine (HIA.out a5 m5 c5 u5 HO5.out.sl.1).mono ?_
  rintro f u6 ⟨a2, n2, c2, rfl, hn2', ho2, hb56⟩
  obtain rfl : n1 = n2 := by rw [← hn2']; exact HN1.out.symm
  have HY6 := Lib.hid (HX5.out.below hb56)
  have HO6 := Lib.hid (HO5.out.later hb56)
  have HP6 := Lib.hid ho2
  have HB6 : Hid (Below u1.heap.size u1 u6) := HB5.out.trans (hb56.mono HB5.out.size)
  have z6' := hb56.size
  clear ho2 hb56 hn2' HX5 HO5
  go_wp2_with fail
  refine (eqBS_one L L a2 a1 n1 n1 c2 c1 u6 HP6.out.ba ((HO1.out.later HB6.out).ba) HN1.out HN1.out).mono ?_
  rintro f w7 ⟨rfl, hb7⟩
  rw [show decide (L = L) = true from decide_eq_true rfl]
  have HB7 : Hid (Below u1.heap.size u1 w7) := HB6.out.trans (hb7.mono HB6.out.size)
  have HO7 := Lib.hid (HO6.out.later hb7)
  have HP7 := Lib.hid (HP6.out.later hb7)
  have HY7 := Lib.hid (HY6.out.below hb7)
  have z7 := hb7.size
  have HBD : Hid (Below w7.heap.size w7 w7.drew) := (Below.refl _ _).drew
  have HB27 : Hid (Below w2.heap.size w2 w7) := HB4.out.trans (HB7.out.mono HB4.out.size)
  have f0 := HS.out w7 HB27.out
  have q0 := HY7.out.c0
  have HSQ : Hid (∀ u, Below w7.heap.size w7 u → u.cell? ⟨w.heap.size, 0, none⟩ = some (.slice a n c) ∧ u.cell? ⟨w5.heap.size, 0, none⟩ = some (.slice a5 m5 c5)) := fun u hu => ⟨HS.out u (HB27.out.trans (hu.mono HB27.out.size)), (HY7.out.below hu).c0⟩
  have HWQ : Hid (∀ u, Below w7.heap.size w7 u → SliceI u a n xs) := fun u hu => HW.out _ (HB27.out.trans (hu.mono HB27.out.size))
  have HC7 := Lib.hid HO7.out.sl.1
  clear hb7
  go_wp2_with fail
  go_region_held3 (fun u => u.cell? ⟨w.heap.size, 0, none⟩ = some (.slice a n c) ∧ u.cell? ⟨w5.heap.size, 0, none⟩ = some (.slice a5 m5 c5)) (first | assumption | exact ⟨f0, q0⟩)
    (first
    | (go_at_call 38; (with_reducible refine (toCa_one a n c xs w7.drew (HWQ.out _ HBD.out) hz).mono ?_); rintro f u9 ⟨a9, m9, c9, rfl, hm9, ho9, hA⟩; have hA2 := HBD.out.trans hA; have hS1 := HSQ.out _ hA2; have HO9 := Lib.hid ho9.sl.1; clear hm9 ho9)
    | (go_at_call 39; (with_reducible refine (eqCa_one a5 a9 m5 m9 c5 c9 xs xs u9 (HC7.out.below hA2) HO9.out).mono ?_); rintro f u10 ⟨rfl, hE⟩; rw [HEQ.out]; have hB10 := hA2.trans (hE.mono hA2.size); have hS2 := HSQ.out _ hB10)
    | fail)
  have z10 := hB10.size
  have HB10 : Hid (Below u1.heap.size u1 u10) := HB7.out.trans (hB10.mono HB7.out.size)
  have HO10 := Lib.hid (HO7.out.later hB10)
  have HP10 := Lib.hid (HP7.out.later hB10)
  have y0 := (HY7.out.below hB10).c0
  clear hB10 hA hA2 hE hS1 hS2 q0 f0 HSQ HC7 HWQ
  go_wp2_with fail
  refine (markCa_one u1.heap.size m5 c5 a5 1 _ u10 HO10.out (by omega) hm5' (by omega) (by omega)).mono ?_
  rintro f w11 ⟨rfl, ho11, z11, hb11, hst11⟩
  have HB11 : Hid (Below u1.heap.size u1 w11) := HB10.out.trans hb11
  have HP11 : Hid (OwnB w11 u5.heap.size (.slice a2 n1 c2) L) := HP10.out.far fun g hg hg' => hst11 g hg' (fun e => by have h1 := H5LT.out _ e; have h2 := (HP10.out.lt g hg).1; omega)
  have hk1 : ¬ ((1 : Int) + (m5 : Int) < 0) := by omega
  clear hb11 ho11 hst11 y0
  go_wp2_with fail
  refine (eqBS_one L L a2 a1 n1 n1 c2 c1 w11 HP11.out.ba ((HO1.out.later HB11.out).ba) HN1.out HN1.out).mono ?_
  rintro f w12 ⟨rfl, hb12⟩
  rw [show decide (L = L) = true from decide_eq_true rfl]
  have HB12 : Hid (Below u1.heap.size u1 w12) := HB11.out.trans (hb12.mono HB11.out.size)
  have HP12 := Lib.hid (HP11.out.later hb12)
  have z12 := hb12.size
  clear hb12 hk1
  go_wp2_with fail
  refine (markBS_one u5.heap.size n1 c2 a2 1 L w12 HP12.out HN1.out (by omega) (by omega) (by omega)).mono ?_
  rintro f w13 ⟨rfl, ho13, z13, hb13, hst13⟩
  have z13' : w12.heap.size ≤ w13.heap.size := by omega
  have HB13 : Hid (Below u1.heap.size u1 w13) := HB12.out.trans (hb13.mono (by omega))
  have HP13 := Lib.hid ho13
  clear hb13 ho13 hst13 z13
  go_wp2_with fail
  refine (heldBS_one n1 c2 a2 1 w13 HP13.out.ba (by omega) (by omega) (by omega)).mono ?_
  rintro f w14 ⟨rfl, hb14⟩
  have HB14 : Hid (Below u1.heap.size u1 w14) := HB13.out.trans (hb14.mono (by omega))
  have HP14 := Lib.hid (HP13.out.later hb14)
  have HB214 : Hid (Below w2.heap.size w2 w14) := HB4.out.trans (HB14.out.mono HB4.out.size)
  have z14 := hb14.size
  have f0 := HS.out w14 HB214.out
  have hk1 : ¬ ((1 : Int) + (n1 : Int) < 0) := by omega
  clear hb14
  go_wp2_with fail
  -- the second call
  refine (toCa_one a n c xs w14 (HW.out _ HB214.out) hz).mono ?_
  rintro f w15 ⟨a15, m15, c15, rfl, hm15, ho15, hb15⟩
  have HS15 := Lib.hid ho15.sl.1
  have HB15 := Lib.hid hb15
  clear hm15 hb15 ho15 f0
  go_wp2_with fail
  refine (HIA.out a15 m15 c15 w15 HS15.out).mono ?_
  rintro f u16 ⟨a16, n16, c16, rfl, hn16, ho16, hb16⟩
  obtain rfl : n1 = n16 := by rw [← hn16]; exact HN1.out.symm
  have hb1416 : Below w14.heap.size w14 u16 := HB15.out.trans (hb16.mono HB15.out.size)
  have HS16 := Lib.hid ho16
  have HB16 : Hid (Below u1.heap.size u1 u16) := HB14.out.trans (hb1416.mono (by omega))
  have HP16 := Lib.hid (HP14.out.later hb1416)
  have z16 := hb1416.size
  clear hb16 ho16 hb1416 hn16 HS15 HB15 HP14
  go_wp2_with fail
  refine (eqBS_one L L a16 a1 n1 n1 c16 c1 u16 HS16.out.ba ((HO1.out.later HB16.out).ba) HN1.out HN1.out).mono ?_
  rintro f w17 ⟨rfl, hb17⟩
  rw [show decide (L = L) = true from decide_eq_true rfl]
  have HB17 : Hid (Below u1.heap.size u1 w17) := HB16.out.trans (hb17.mono HB16.out.size)
  have HP17 := Lib.hid (HP16.out.later hb17)
  clear hb17
  go_wp2_with fail
  refine (heldBS_one n1 c2 a2 1 w17 HP17.out.ba (by omega) (by omega) (by omega)).mono ?_
  rintro f w18 ⟨rfl, hb18⟩
  have HB18 : Hid (Below w.heap.size w w18) := HB2.out.trans ((HB4.out.trans ((HB17.out.trans (hb18.mono HB17.out.size)).mono HB4.out.size)).mono HB2.out.size)
  clear hb18
  go_wp2_with fail
  go_ret
  exact YN.of rfl HB18.out

end Go.Proofs.Yteoaecfjgbkefaa

/- The program's AccessCache. -/
import Derived.Test.YteoaecfjgbkefaaCaK
namespace Go.Proofs.Yteoaecfjgbkefaa
open Go.RowKit
set_option linter.unusedVariables false

set_option maxRecDepth 100000 in
set_option maxHeartbeats 4000000 in
/-- **impl.AccessCache.** -/
theorem iAC_one (xs : List Int) (v : Int) (a : Option Addr) (n cp : Nat) (w : World) (h : SliceI w a n xs) :
    Calls Try.prog 18 #[aggCa a n cp, .int .i64 v] w (AcR xs v w) := by
  obtain ⟨W2, hW2⟩ : ∃ W, (w.alloc (.cells #[.slice a n cp] 25)).alloc (.cells #[.slice none 0 0] 25) = W := ⟨_, rfl⟩
  have hz2 : w.heap.size + 2 ≤ W2.heap.size := by rw [← hW2]; simp
  have hB2 : Below w.heap.size w W2 := by rw [← hW2]; exact ((Below.refl _ w).alloc (Nat.le_refl _) _).alloc (by simp) _
  have hR : BoxCa W2 (w.heap.size + 1) none 0 0 := by
    rw [← hW2]
    have := BoxCa.new (w.alloc (.cells #[.slice a n cp] 25)) none 0 0 25
    simpa using this
  have hS : SliceI W2 a n xs := h.below hB2
  have HS := Lib.hid hS
  have HW := Lib.hid hW2
  have HR := Lib.hid hR
  have HB := Lib.hid hB2
  clear hW2 hR hB2 hS h
  go_enter Try.func18, Try.ntmps18
  go_wp2_with fail
  rw [HW.out]
  refine (iLinesOf_one xs a n cp W2 HS.out).mono ?_
  rintro e w3 ⟨c, rfl, hc, hb3⟩
  have HC := Lib.hid hc
  have HR3 := Lib.hid (HR.out.below hb3)
  have HB3 : Hid (Below w.heap.size w w3) := HB.out.trans (hb3.mono (by omega))
  have hz3 : w.heap.size + 2 ≤ w3.heap.size := by have := hb3.size; omega
  obtain ⟨w5, hw5⟩ : ∃ w5, w3.alloc (.cells #[.int .i64 c.c0, .int .i64 c.c1] 67) = w5 := ⟨_, rfl⟩
  have h35 : Below w3.heap.size w3 w5 := by rw [← hw5]; exact (Below.refl _ _).alloc (Nat.le_refl _) _
  have hx5 : BoxLn w5 w3.heap.size c := by rw [← hw5]; exact BoxLn.new _ _
  have hR5 := HR3.out.below h35
  have HR5 := Lib.hid hR5
  have HB5 : Hid (Below w.heap.size w w5) := HB3.out.trans (h35.mono (by omega))
  have HX5 := Lib.hid hx5
  have hz5 := h35.size
  have HW5 := Lib.hid hw5
  have m0 : (w3.alloc (.cells #[.int .i64 c.c0, .int .i64 c.c1] 67)).cell? ⟨w.heap.size + 1, 0, none⟩ = some (.slice none 0 0) := by rw [hw5]; exact hR5.c0
  have n0 : (w3.alloc (.cells #[.int .i64 c.c0, .int .i64 c.c1] 67)).frozen? ⟨w.heap.size + 1, 0, none⟩ = false := by rw [hw5]; exact hR5.f0
  have hs1 : (#[Value.slice none 0 0] : Array Value).size = 1 := rfl
  clear hc hb3 hw5 h35 hx5 hR5
  by_cases hbad : okL xs = false ∨ adr v = false
  · have HFIN : Hid (AcR xs v w (.returned (.tuple #[aggCa none 0 0, .bool false])) ((w3.alloc (.cells #[.int .i64 c.c0, .int .i64 c.c1] 67)).setCell ⟨w.heap.size + 1, 0, none⟩ (.slice none 0 0))) := AcR.no hbad ((HB3.out.alloc (by omega) _).setCell (p := ⟨w.heap.size + 1, 0, none⟩) (by simp) _)
    have R0 : Hid (((w3.alloc (.cells #[.int .i64 c.c0, .int .i64 c.c1] 67)).setCell ⟨w.heap.size + 1, 0, none⟩ (.slice none 0 0)).cell? ⟨w.heap.size + 1, 0, none⟩ = some (.slice none 0 0)) := World.cell?_setCell_same' _ _ _ (by rw [m0]; rfl)
    cases hq : okL xs with
    | false =>
      clear hq hbad
      go_wp2_with fail
      have r0 := R0.out
      exact bodyPost_ret (v := .tuple #[aggCa none 0 0, .bool false]) (by simp [results, Try.f18, go_sem, r0]) rfl HFIN.out
    | true =>
      have hav : adr v = false := by rcases hbad with h | h; exact absurd (hq.symm.trans h) (by decide); exact h
      have HAV := Lib.hid hav
      clear hq hbad hav
      go_wp2_with (go_at_call 53; refine (isAdr_one v _).mono ?_; rintro e w' ⟨rfl, hw'⟩; obtain rfl := hw'; rw [HAV.out])
      have r0 := R0.out
      exact bodyPost_ret (v := .tuple #[aggCa none 0 0, .bool false]) (by simp [results, Try.f18, go_sem, r0]) rfl HFIN.out
  · have hq : okL xs = true := by
      cases h : okL xs with
      | true => rfl
      | false => exact absurd (.inl h) hbad
    have hv : adr v = true := by
      cases h : adr v with
      | true => rfl
      | false => exact absurd (.inr h) hbad
    obtain ⟨rfl, hok⟩ := HC.out hq
    obtain ⟨k, rfl, hk⟩ := adr_nat hv
    have HOK := Lib.hid hok
    have HAV := Lib.hid hv
    rw [hq]
    clear hbad hq hv hok
    go_wp2_with (go_at_call 53; refine (isAdr_one _ _).mono ?_; rintro e w' ⟨rfl, hw'⟩; obtain rfl := hw'; rw [HAV.out])
    rw [HW5.out]
    refine (iAcc_one c k w3.heap.size w5 HX5.out hk).mono ?_
    rintro e w6 ⟨rfl, hw6⟩
    have hx6 : BoxLn w6 w3.heap.size (c.acc k) := by rw [hw6]; exact HX5.out.acc k
    have hR6 : BoxCa w6 (w.heap.size + 1) none 0 0 := HR5.out.later (by rw [hw6]; exact accW_other _ _ _ _ (by omega))
    have hB6 : Below w.heap.size w w6 := by rw [hw6]; exact accW_below HB5.out _ k (by omega)
    have hz6 : w5.heap.size ≤ w6.heap.size := by rw [hw6, accW_size]; exact Nat.le_refl _
    have y0 := hx6.c0
    have y1 := hx6.c1
    have HR6 := Lib.hid hR6
    have HB6 := Lib.hid hB6
    clear hw6 hx6 hR6 hB6 m0 n0
    go_wp2_with fail
    refine (iCache_one (c.acc k) w6).mono ?_
    rintro e w7 ⟨a7, n7, c7, rfl, hn7, hown, hb7⟩
    obtain rfl : 2 = n7 := hn7
    have hR7 := HR6.out.below hb7
    have s0 := hR7.c0
    have s1 := hR7.f0
    have R0 : Hid ((w7.setCell ⟨w.heap.size + 1, 0, none⟩ (.slice a7 2 c7)).cell? ⟨w.heap.size + 1, 0, none⟩ = some (.slice a7 2 c7)) := World.cell?_setCell_same' _ _ _ (by rw [s0]; rfl)
    have HFIN : Hid (AcR c.l (k : Int) w (.returned (.tuple #[aggCa a7 2 c7, .bool (c.hit k)])) (w7.setCell ⟨w.heap.size + 1, 0, none⟩ (.slice a7 2 c7))) := by
      refine ⟨_, 2, c7, by rw [accP_yes HOK.out hk], by rw [accP_yes HOK.out hk]; rfl, ?_, (HB6.out.trans (hb7.mono (by omega))).setCell (p := ⟨w.heap.size + 1, 0, none⟩) (by simp) _⟩
      rw [accP_yes HOK.out hk]
      exact (hown.mono (by omega)).far fun j hj hlt => by
        have := (hown.lt j hj).1
        exact Below.heap_setCell _ _ _ _ (by simp; omega)
    have hs2 : (#[Value.slice a7 2 c7] : Array Value).size = 1 := rfl
    clear hR7 hb7 hown
    go_wp2_with fail
    have r0 := R0.out
    exact bodyPost_ret (v := .tuple #[aggCa a7 2 c7, .bool (c.hit k)]) (by simp [results, Try.f18, go_sem, r0]) rfl HFIN.out

end Go.Proofs.Yteoaecfjgbkefaa

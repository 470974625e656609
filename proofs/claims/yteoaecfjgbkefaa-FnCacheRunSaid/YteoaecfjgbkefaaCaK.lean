/- AccessCache, the model's and the program's: the same cache and the same bool. -/
import Derived.Test.YteoaecfjgbkefaaCaJ
namespace Go.Proofs.Yteoaecfjgbkefaa
open Go.RowKit
set_option linter.unusedVariables false

theorem limit_one (w : World) : Calls Try.prog 56 #[] w fun e w' => e = .returned (.int .i64 8) ∧ w' = w := by
  go_enter Try.func56, Try.ntmps56
  go_wp2
  go_ret
  exact ⟨rfl, rfl⟩

/-- What an access answers. -/
def accP (xs : List Int) (v : Int) : List Int × Bool := match xs with
  | [p, q] => if okCa ⟨p, q⟩ && adr v then (((⟨p, q⟩ : Ca).acc v.toNat).l, (⟨p, q⟩ : Ca).hit v.toNat) else ([], false)
  | _ => ([], false)
theorem accP_yes {c : Ca} {a : Nat} (h : okCa c = true) (ha : a < 8) : accP c.l (a : Int) = ((c.acc a).l, c.hit a) := by
  have h1 : adr (a : Int) = true := decide_eq_true ⟨by omega, by omega⟩
  show (if (okCa c && adr (a : Int)) = true then _ else _) = _
  rw [if_pos (by rw [h, h1]; rfl)]; simp
theorem accP_no {xs : List Int} {v : Int} (h : okL xs = false ∨ adr v = false) : accP xs v = ([], false) := by
  match xs, h with
  | [p, q], h =>
    show (if (okCa ⟨p, q⟩ && adr v) = true then _ else _) = _
    rw [if_neg]
    rcases h with h | h
    · rw [show okCa ⟨p, q⟩ = false from h]; simp
    · rw [h]; simp
  | [], _ => rfl
  | [_], _ => rfl
  | _ :: _ :: _ :: _, _ => rfl

/-- AccessCache's answer. -/
def AcR (xs : List Int) (v : Int) (w : World) (e : Ending) (w' : World) : Prop := ∃ a n c, e = .returned (.tuple #[aggCa a n c, .bool (accP xs v).2]) ∧ (accP xs v).1.length = n ∧ OwnI w' w.heap.size (.slice a n c) (accP xs v).1 ∧ Below w.heap.size w w'
theorem AcR.no {xs : List Int} {v : Int} {w w' : World} (h : okL xs = false ∨ adr v = false) (hb : Below w.heap.size w w') : AcR xs v w (.returned (.tuple #[aggCa none 0 0, .bool false])) w' :=
  ⟨none, 0, 0, by rw [accP_no h], by rw [accP_no h]; rfl, by rw [accP_no h]; exact OwnI.nil' _ _, hb⟩

set_option maxRecDepth 100000 in
set_option maxHeartbeats 4000000 in
/-- **spec.AccessCache.** -/
theorem sAC_one (xs : List Int) (v : Int) (a : Option Addr) (n cp : Nat) (w : World) (h : SliceI w a n xs) :
    Calls Try.prog 19 #[aggCa a n cp, .int .i64 v] w (AcR xs v w) := by
  obtain ⟨W2, hW2⟩ : ∃ W, (w.alloc (.cells #[.slice a n cp] 25)).alloc (.cells #[.slice none 0 0] 25) = W := ⟨_, rfl⟩
  have hz2 : w.heap.size + 2 ≤ W2.heap.size := by rw [← hW2]; simp
  have hB2 : Below w.heap.size w W2 := by rw [← hW2]; exact ((Below.refl _ w).alloc (Nat.le_refl _) _).alloc (by simp) _
  have hR : BoxCa W2 (w.heap.size + 1) none 0 0 := by
    rw [← hW2]
    have := BoxCa.new (w.alloc (.cells #[.slice a n cp] 25)) none 0 0 25
    simpa using this
  have hA : BoxCa W2 w.heap.size a n cp := by
    rw [← hW2]
    exact (BoxCa.new w a n cp 25).below ((Below.refl _ _).alloc (Nat.le_refl _) _)
  have hS : SliceI W2 a n xs := h.below hB2
  have HS := Lib.hid hS
  have HW := Lib.hid hW2
  have HR := Lib.hid hR
  have HA := Lib.hid hA
  have HB := Lib.hid hB2
  have x0 := hA.c0
  clear hW2 hR hA hB2 hS h
  go_enter Try.func19, Try.ntmps19
  go_wp2_with fail
  rw [HW.out]
  refine (sCv_one a n cp xs W2 HS.out).mono ?_
  rintro e w3 ⟨rfl, hb3⟩
  have hR3 := HR.out.below hb3
  have m0 := hR3.c0
  have n0 := hR3.f0
  have x0 := (HA.out.below hb3).c0
  have HR3 := Lib.hid hR3
  have HS3 := Lib.hid (HS.out.below hb3)
  have HB3 : Hid (Below w.heap.size w w3) := HB.out.trans (hb3.mono (by omega))
  have hz3 : w.heap.size + 2 ≤ w3.heap.size := by have := hb3.size; omega
  clear hR3 hb3
  have hs1 : (#[Value.slice none 0 0] : Array Value).size = 1 := rfl
  by_cases hbad : okL xs = false ∨ adr v = false
  · have HFIN : Hid (AcR xs v w (.returned (.tuple #[aggCa none 0 0, .bool false])) (w3.setCell ⟨w.heap.size + 1, 0, none⟩ (.slice none 0 0))) := AcR.no hbad (HB3.out.setCell (p := ⟨w.heap.size + 1, 0, none⟩) (by simp) _)
    have R0 : Hid ((w3.setCell ⟨w.heap.size + 1, 0, none⟩ (.slice none 0 0)).cell? ⟨w.heap.size + 1, 0, none⟩ = some (.slice none 0 0)) := World.cell?_setCell_same' _ _ _ (by rw [m0]; rfl)
    cases hq : okL xs with
    | false =>
      clear hq hbad
      go_wp2_with fail
      have r0 := R0.out
      refine bodyPost_ret (v := .tuple #[aggCa none 0 0, .bool false]) (by simp [results, Try.f19, go_sem, r0]) rfl HFIN.out
    | true =>
      have hav : v < 0 ∨ 8 ≤ v := adr_no (by rcases hbad with h | h; exact absurd (hq.symm.trans h) (by decide); exact h)
      clear hq hbad
      rcases hav with hv | hv
      all_goals
        go_wp2_with (go_at_call 56; refine (limit_one _).mono ?_; rintro e w' ⟨rfl, hw'⟩; obtain rfl : w3 = w' := hw'.symm)
        have r0 := R0.out
        refine bodyPost_ret (v := .tuple #[aggCa none 0 0, .bool false]) (by simp [results, Try.f19, go_sem, r0]) rfl HFIN.out
  · have hq : okL xs = true := by
      cases h : okL xs with
      | true => rfl
      | false => exact absurd (.inl h) hbad
    have hv : adr v = true := by
      cases h : adr v with
      | true => rfl
      | false => exact absurd (.inr h) hbad
    obtain ⟨c, rfl, hok⟩ := okL_two hq
    obtain ⟨k, rfl, hk⟩ := adr_nat hv
    have HOK := Lib.hid hok
    have hn : n = 2 := HS3.out.2.1.symm
    subst hn
    rw [hq]
    have hk0 : ¬ ((k : Int) < 0) := by omega
    have hk8 : ¬ (8 ≤ (k : Int)) := by omega
    clear hbad hq hv hok
    go_wp2_with (go_at_call 56; refine (limit_one _).mono ?_; rintro e w' ⟨rfl, hw'⟩; obtain rfl : w3 = w' := hw'.symm)
    refine (sCopy_one c.l a 2 cp w3 HS3.out (by omega)).mono ?_
    rintro e w4 ⟨a4, n4, c4, rfl, hn4, hown, hb4⟩
    obtain rfl : 2 = n4 := hn4
    obtain ⟨g, rfl, hg1, hg2⟩ := hown.ptr (by omega)
    have hz4 := hb4.size
    have HO4 := Lib.hid hown
    have HR4 := Lib.hid (HR3.out.below hb4)
    have HB4 : Hid (Below w.heap.size w w4) := HB3.out.trans (hb4.mono (by omega))
    obtain ⟨w5, hw5⟩ : ∃ w5, w4.alloc (.cells #[.slice (some ⟨g, 0, none⟩) 2 c4] 25) = w5 := ⟨_, rfl⟩
    have h45 : Below w4.heap.size w4 w5 := by rw [← hw5]; exact (Below.refl _ _).alloc (Nat.le_refl _) _
    have hx5 : BoxCa w5 w4.heap.size (some ⟨g, 0, none⟩) 2 c4 := by rw [← hw5]; exact BoxCa.new _ _ _ _ _
    have HW5 := Lib.hid hw5
    have HO5 := Lib.hid (HO4.out.later h45)
    have HB5 : Hid (Below w.heap.size w w5) := HB4.out.trans (h45.mono (by omega))
    have HR5 := Lib.hid (HR4.out.below h45)
    have HX5 := Lib.hid hx5
    have hz5 := h45.size
    clear hown hb4 hw5 h45 hx5
    go_wp2_with fail
    rw [HW5.out]
    have y0 := HX5.out.c0
    go_wp2_with fail
    refine (sAcc_one c k _ g c4 w5 HO5.out hk).mono ?_
    rintro e w6 ⟨rfl, hw6⟩
    have H6 := Lib.hid hw6
    have hg5 : g ≠ w.heap.size + 1 := by omega
    have hg6 : g ≠ w4.heap.size := by omega
    have hO6 : OwnI w6 w3.heap.size (.slice (some ⟨g, 0, none⟩) 2 c4) (c.acc k).l := by
      rw [H6.out]
      exact accW_row (HO5.out.later ((Below.refl _ _).alloc (Nat.le_refl _) _)) k
    have hB6 : Below w.heap.size w w6 := by
      rw [H6.out]
      exact accW_below (HB5.out.alloc (by omega) _) g k (by omega)
    have hb56 : ∀ j, j < w5.heap.size → j ≠ g → w6.heap[j]? = w5.heap[j]? := fun j hj hne => by
      rw [H6.out, accW_other _ _ _ _ hne, Below.heap_alloc _ _ _ hj]
    have hR6 := HR5.out.later (hb56 _ HR5.out.lt (Ne.symm hg5))
    have hX6 := HX5.out.later (hb56 _ HX5.out.lt (Ne.symm hg6))
    have z0 := hX6.c0
    have s0 := hR6.c0
    have s1 := hR6.f0
    have R0 : Hid ((w6.setCell ⟨w.heap.size + 1, 0, none⟩ (.slice (some ⟨g, 0, none⟩) 2 c4)).cell? ⟨w.heap.size + 1, 0, none⟩ = some (.slice (some ⟨g, 0, none⟩) 2 c4)) := World.cell?_setCell_same' _ _ _ (by rw [s0]; rfl)
    have HFIN : Hid (AcR c.l (k : Int) w (.returned (.tuple #[aggCa (some ⟨g, 0, none⟩) 2 c4, .bool (c.hit k)])) (w6.setCell ⟨w.heap.size + 1, 0, none⟩ (.slice (some ⟨g, 0, none⟩) 2 c4))) := by
      refine ⟨_, 2, c4, by rw [accP_yes HOK.out hk], by rw [accP_yes HOK.out hk]; rfl, ?_, hB6.setCell (p := ⟨w.heap.size + 1, 0, none⟩) (by simp) _⟩
      rw [accP_yes HOK.out hk]
      exact (hO6.mono (by omega)).far fun j hj hlt => by
        have e := ownS_eq hj
        exact Below.heap_setCell _ _ _ _ (by simp; omega)
    clear hw6 hO6 hB6 hb56 hR6 hX6 hg5 hg6
    go_wp2_with fail
    have r0 := R0.out
    exact bodyPost_ret (v := .tuple #[aggCa (some ⟨g, 0, none⟩) 2 c4, .bool (c.hit k)]) (by simp [results, Try.f19, go_sem, r0]) rfl HFIN.out

end Go.Proofs.Yteoaecfjgbkefaa

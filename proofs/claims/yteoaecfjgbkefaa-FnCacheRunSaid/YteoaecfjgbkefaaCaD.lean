/- Drawn caches: l10Cache hands back a cache of two or three lines in a row of its own. -/
import Derived.Test.YteoaecfjgbkefaaCaF
import Derived.Test.YteoaecfjgbkefaaDrUB
import Derived.Deep.RegionWith
import Derived.Deep.RegionLaw
namespace Go.Proofs.Yteoaecfjgbkefaa
open Go.RowKit
set_option linter.unusedVariables false

/-- A drawn cache. -/
def DrCa (B m : Nat) (w : World) (e : Ending) (w' : World) : Prop := ∃ (xs : List Int) (a : Option Addr) (n c : Nat), e = .returned (aggCa a n c) ∧ xs.length = n ∧ n ≤ 3 ∧ OwnI w' w.heap.size (.slice a n c) xs ∧ RdU w' B m ∧ Oth B w w' ∧ Below B w w'

theorem BoxCa.oth {w w' : World} {b B n c : Nat} {a : Option Addr} (h : BoxCa w b a n c) (ho : Oth B w w') (hb : b ≠ B) : BoxCa w' b a n c := h.later (ho.2 b h.lt hb)
theorem OwnI.oth {w w' : World} {base B : Nat} {v : Value} {xs : List Int} (h : OwnI w base v xs) (ho : Oth B w w') (hB : B < base) : OwnI w' base v xs := h.far fun g hg hg' => ho.2 g hg' (by have := (h.lt g hg).1; omega)
theorem oth_drew {B : Nat} {w : World} : Oth B w w.drew := ⟨Nat.le_refl _, fun _ _ _ => rfl⟩
theorem oth_alloc (B : Nat) (w : World) (o : Obj) : Oth B w (w.alloc o) := (Oth.refl B w).alloc o
theorem lit_at (w : World) (xs : List Int) (t : TypeId) (i : Nat) (hi : i < xs.length) : (w.alloc (.cells (xs.map (Value.int .i64)).toArray t)).cell? ⟨w.heap.size, i, none⟩ = some (.int .i64 (xs.getD i 0)) := by
  have := lit_cells w xs t i hi
  rw [Nat.zero_add] at this
  exact this

theorem OwnI.lit2 (w : World) (x y : Int) : OwnI (w.alloc (.cells #[.int .i64 x, .int .i64 y] 3)) w.heap.size (.slice (some ⟨w.heap.size, 0, none⟩) 2 2) [x, y] :=
  ⟨rfl, .inr ⟨w.heap.size, 2, #[.int .i64 x, .int .i64 y], rfl, Nat.le_refl _, heap_alloc_new w _, Nat.le_refl _, by unfold maxLen; omega, rfl, rfl⟩⟩

theorem Oth.far {B : Nat} {w u u' : World} (h : Oth B w u) (hb : Below w.heap.size u u') : Oth B w u' := ⟨Nat.le_trans h.1 hb.size, fun j hj hne => (hb.block j hj).trans (h.2 j hj hne)⟩

/-- The drawn cache is handed back through the result's box. -/
theorem DrCa.fin {B m k n c : Nat} {w u : World} {a : Option Addr} {xs : List Int} (hl : xs.length = n) (hn : n ≤ 3) (hB : B < w.heap.size) (hown : OwnI u (w.heap.size + 1) (.slice a n c) xs) (hr : RdU u B k) (hk : k ≤ m) (ho : Oth B w u) (hb : Below B w u) :
    DrCa B m w (.returned (aggCa a n c)) (u.setCell ⟨w.heap.size, 0, none⟩ (.slice a n c)) := by
  have hb2 : Below w.heap.size u (u.setCell ⟨w.heap.size, 0, none⟩ (.slice a n c)) := (Below.refl _ u).setCell (p := ⟨w.heap.size, 0, none⟩) (Nat.le_refl _) _
  refine ⟨xs, a, n, c, rfl, hl, hn, (hown.mono (by omega)).far fun g hg _ => ?_, (hr.below hb2 hB).mono hk, ?_, hb.trans (hb2.mono (by omega))⟩
  · have := (hown.lt g hg).1
    exact Below.heap_setCell _ _ _ _ (by simp; omega)
  · exact ⟨Nat.le_trans ho.1 hb2.size, fun j hj hne => (Below.heap_setCell _ _ _ _ (by simp; omega)).trans (ho.2 j hj hne)⟩

set_option maxRecDepth 100000 in
set_option maxHeartbeats 8000000 in
/-- **l10Cache.** -/
theorem drCa_one (B m : Nat) (w : World) (h : RdU w B m) (hm : m ≤ 1000000) :
    Calls Try.prog 50 #[.pointer (some ⟨B, 0, none⟩)] w (DrCa B (m + 4) w) := by
  obtain ⟨k0, kinf, kj0, kj1, kj2⟩ := info_parts Try.infoI
  have hBw := h.lt
  obtain ⟨A2, hA2⟩ : ∃ A, (w.alloc (.cells #[.slice none 0 0] 25)).alloc (.cells #[.int .i64 0, .int .i64 2, .int .i64 (-1), .int .i64 (-2)] 3) = A := ⟨_, rfl⟩
  have hz2 : A2.heap.size = w.heap.size + 2 := by rw [← hA2]; simp
  have hr2 : RdU A2 B m := by rw [← hA2]; exact (h.alloc _).alloc _
  have ho2 : Oth B w A2 := by rw [← hA2]; exact (oth_alloc B w _).alloc _
  have hb2 : Below B w A2 := by rw [← hA2]; exact ((Below.refl B w).alloc (by omega) _).alloc (by simp; omega) _
  have hx2 : BoxCa A2 w.heap.size none 0 0 := by rw [← hA2]; exact (BoxCa.new w none 0 0 25).below ((Below.refl _ _).alloc (Nat.le_refl _) _)
  have hc2 : ∀ i, i < 4 → A2.cell? ⟨w.heap.size + 1, 0 + i, none⟩ = some (.int .i64 (([0, 2, -1, -2] : List Int).getD i 0)) := fun i hi => by
    rw [← hA2]
    have := lit_cells (w.alloc (.cells #[.slice none 0 0] 25)) [0, 2, -1, -2] 3 i hi
    simpa using this
  have HA2 := Lib.hid hA2
  have HR2 := Lib.hid hr2
  have HO2 := Lib.hid ho2
  have HB2 := Lib.hid hb2
  have HX2 := Lib.hid hx2
  have HC2 := Lib.hid hc2
  have hge2 : w.heap.size + 2 ≤ A2.heap.size := by omega
  clear h hA2 hr2 ho2 hb2 hx2 hc2 hz2
  go_enter Try.func50, Try.ntmps50
  go_wp2_with fail
  rw [HA2.out]
  refine (numU B m (w.heap.size + 1) 0 4 4 [0, 2, -1, -2] A2 HR2.out (by omega) (by omega) rfl (by omega) (by omega) HC2.out).mono ?_
  rintro e w1 ⟨v1, _, rfl, hr1, ho1, hb1⟩
  obtain ⟨A3, hA3⟩ : ∃ A, w1.alloc (.cells #[.int .i64 1, .int .i64 3, .int .i64 (-1), .int .i64 (-2)] 3) = A := ⟨_, rfl⟩
  have hz1 := ho1.1
  have hr3 : RdU A3 B (m + 1) := by rw [← hA3]; exact hr1.alloc _
  have ho3 : Oth B w A3 := by rw [← hA3]; exact (HO2.out.trans ho1).alloc _
  have hb3 : Below B w A3 := by rw [← hA3]; exact (HB2.out.trans hb1).alloc (by omega) _
  have hx3 : BoxCa A3 w.heap.size none 0 0 := by rw [← hA3]; exact (HX2.out.oth ho1 (by omega)).oth (oth_alloc B _ _) (by omega)
  have hc3 : ∀ i, i < 4 → A3.cell? ⟨w1.heap.size, 0 + i, none⟩ = some (.int .i64 (([1, 3, -1, -2] : List Int).getD i 0)) := fun i hi => by
    rw [← hA3]
    exact lit_cells w1 [1, 3, -1, -2] 3 i hi
  have hz3 : w1.heap.size + 1 ≤ A3.heap.size := by rw [← hA3]; simp
  have HA3 := Lib.hid hA3
  have HR3 := Lib.hid hr3
  have HO3 := Lib.hid ho3
  have HB3 := Lib.hid hb3
  have HX3 := Lib.hid hx3
  have HC3 := Lib.hid hc3
  clear hA3 hr3 ho3 hb3 hx3 hc3 hr1 ho1 hb1
  go_wp2_with fail
  rw [HA3.out]
  refine (numU B (m + 1) w1.heap.size 0 4 4 [1, 3, -1, -2] A3 HR3.out (by omega) (by omega) rfl (by omega) (by omega) HC3.out).mono ?_
  rintro e w2 ⟨v2, _, rfl, hr2, ho2, hb2⟩
  have hz2' := ho2.1
  obtain ⟨A4, hA4⟩ : ∃ A, (w2.alloc (.cells #[.int .i64 v1, .int .i64 v2] 3)).alloc (.cells #[.slice (some ⟨w2.heap.size, 0, none⟩) 2 2] 25) = A := ⟨_, rfl⟩
  have hr4 : RdU A4 B (m + 1 + 1) := by rw [← hA4]; exact (hr2.alloc _).alloc _
  have ho4 : Oth B w A4 := by rw [← hA4]; exact ((HO3.out.trans ho2).alloc _).alloc _
  have hb4 : Below B w A4 := by rw [← hA4]; exact ((HB3.out.trans hb2).alloc (by omega) _).alloc (by simp; omega) _
  have hx4 : BoxCa A4 w.heap.size none 0 0 := by rw [← hA4]; exact ((HX3.out.oth ho2 (by omega)).oth (oth_alloc B _ _) (by omega)).oth (oth_alloc B _ _) (by omega)
  have hy4 : BoxCa A4 (w2.heap.size + 1) (some ⟨w2.heap.size, 0, none⟩) 2 2 := by
    rw [← hA4]
    have := BoxCa.new (w2.alloc (.cells #[.int .i64 v1, .int .i64 v2] 3)) (some ⟨w2.heap.size, 0, none⟩) 2 2 25
    simpa using this
  have hw4 : OwnI A4 w2.heap.size (.slice (some ⟨w2.heap.size, 0, none⟩) 2 2) [v1, v2] := by
    rw [← hA4]
    exact (OwnI.lit2 w2 v1 v2).later ((Below.refl _ _).alloc (Nat.le_refl _) _)
  have hz4 : w2.heap.size + 2 ≤ A4.heap.size := by rw [← hA4]; simp
  have HA4 := Lib.hid hA4
  have HR4 := Lib.hid hr4
  have HO4 := Lib.hid ho4
  have HB4 := Lib.hid hb4
  have HX4 := Lib.hid hx4
  have HY4 := Lib.hid hy4
  have HW4 := Lib.hid hw4
  have hs1 : (#[Value.slice (some ⟨w2.heap.size, 0, none⟩) 2 2] : Array Value).size = 1 := rfl
  clear hA4 hr4 ho4 hb4 hx4 hy4 hw4 hr2 ho2 hb2
  go_wp2_with fail
  rw [HA4.out]
  refine (pickU B (m + 1 + 1) 20 A4 HR4.out (by omega) (by omega) (by omega)).mono ?_
  rintro e w3 ⟨v3, _, rfl, hr3, ho3, hb3⟩
  have hz3' := ho3.1
  have HR5 := Lib.hid hr3
  have HO5 := Lib.hid (HO4.out.trans ho3)
  have HB5 := Lib.hid (HB4.out.trans hb3)
  have HX5 := Lib.hid (HX4.out.oth ho3 (by omega))
  have HY5 := Lib.hid (HY4.out.oth ho3 (by omega))
  have HW5 := Lib.hid (HW4.out.oth ho3 (by omega))
  have y0 := HY5.out.c0
  have y1 := HY5.out.f0
  clear hr3 ho3 hb3 HR4 HO4 HB4 HX4 HY4 HW4 HA4
  by_cases hv0 : v3 = 0
  · subst hv0
    obtain ⟨A6, hA6⟩ : ∃ A, (w3.alloc (.cells #[.int .i64 1, .int .i64 (-3), .int .i64 4, .int .i64 9223372036854775807] 3)).drew = A := ⟨_, rfl⟩
    have hr6 : RdU A6 B (m + 1 + 1 + 1) := by rw [← hA6]; exact (HR5.out.alloc _).drew
    have ho6 : Oth B w3 A6 := by rw [← hA6]; exact (oth_alloc B w3 _).drew
    have hb6 : Below B w A6 := by rw [← hA6]; exact (HB5.out.alloc (by omega) _).drew
    have hc6 : ∀ i, i < 4 → A6.cell? ⟨w3.heap.size, 0 + i, none⟩ = some (.int .i64 (([1, -3, 4, 9223372036854775807] : List Int).getD i 0)) := fun i hi => by
      rw [← hA6]
      exact lit_cells w3 [1, -3, 4, 9223372036854775807] 3 i hi
    have hz6 : w3.heap.size + 1 ≤ A6.heap.size := by rw [← hA6]; exact (show w3.heap.size + 1 ≤ (w3.alloc (.cells #[.int .i64 1, .int .i64 (-3), .int .i64 4, .int .i64 9223372036854775807] 3)).heap.size by simp)
    have hy6 := HY5.out.oth ho6 (by omega)
    have yd : w3.drew.cell? ⟨w2.heap.size + 1, 0, none⟩ = _ := y0
    have ya : (w3.alloc (.cells #[.int .i64 1, .int .i64 (-3), .int .i64 4, .int .i64 9223372036854775807] 3)).cell? ⟨w2.heap.size + 1, 0, none⟩ = _ := (HY5.out.oth (oth_alloc B w3 _) (by omega)).c0
    have yad : (w3.alloc (.cells #[.int .i64 1, .int .i64 (-3), .int .i64 4, .int .i64 9223372036854775807] 3)).drew.cell? ⟨w2.heap.size + 1, 0, none⟩ = _ := (HY5.out.oth (oth_alloc B w3 _) (by omega)).c0
    have yda : (w3.drew.alloc (.cells #[.int .i64 1, .int .i64 (-3), .int .i64 4, .int .i64 9223372036854775807] 3)).cell? ⟨w2.heap.size + 1, 0, none⟩ = _ := (HY5.out.oth (oth_alloc B w3 _) (by omega)).c0
    have HA6 := Lib.hid hA6
    have HR6 := Lib.hid hr6
    have HO6 := Lib.hid ho6
    have HB6 := Lib.hid hb6
    have HC6 := Lib.hid hc6
    have HY6 := Lib.hid hy6
    have HX6 := Lib.hid (HX5.out.oth ho6 (by omega))
    have HW6 := Lib.hid (HW5.out.oth ho6 (by omega))
    clear hA6 hr6 ho6 hb6 hc6 hy6
    go_wp2_with fail
    go_region_with (go_at_call 51; rw [HA6.out]; refine (numU B (m + 1 + 1 + 1) w3.heap.size 0 4 4 [1, -3, 4, 9223372036854775807] A6 HR6.out (by omega) (by omega) rfl (by omega) (by omega) HC6.out).mono ?_; rintro e w4 ⟨v4, _, rfl, hr4, ho4, hb4⟩; have hW4 := HW6.out.oth ho4 (by omega); have hX4 := HX6.out.oth ho4 (by omega); have hY4 := HY6.out.oth ho4 (by omega); obtain ⟨q0, q1⟩ := cellI_of hW4 0 (by omega); have yy := hY4.c0; have yf := hY4.f0; have HW4 := Lib.hid hW4; have HX4 := Lib.hid hX4; have HY4 := Lib.hid hY4; have HR4 := Lib.hid hr4; have HO4 := Lib.hid ho4; have HB4 := Lib.hid hb4; clear hW4 hX4 hY4 hr4 ho4 hb4)
    all_goals
      have hz4w := HO4.out.1
      have hBel0 : Below w.heap.size w4 (w4.setCell ⟨w2.heap.size, 0, none⟩ (.int .i64 v4)) := (Below.refl _ w4).setCell (p := ⟨w2.heap.size, 0, none⟩) (by simp; omega) _
      have hX7 : BoxCa (w4.setCell ⟨w2.heap.size, 0, none⟩ (.int .i64 v4)) w.heap.size none 0 0 := HX4.out.later (Below.heap_setCell _ _ _ _ (by simp; omega))
      have hY7 : BoxCa (w4.setCell ⟨w2.heap.size, 0, none⟩ (.int .i64 v4)) (w2.heap.size + 1) (some ⟨w2.heap.size, 0, none⟩) 2 2 := HY4.out.later (Below.heap_setCell _ _ _ _ (by simp))
      have hO7 : OwnI (w4.setCell ⟨w2.heap.size, 0, none⟩ (.int .i64 v4)) w2.heap.size (.slice (some ⟨w2.heap.size, 0, none⟩) 2 2) [v4, v2] := HW4.out.put 0 v4
      have r0' := hX7.c0
      have r1' := hX7.f0
      have r2' := hY7.c0
      have R0 : Hid (((w4.setCell ⟨w2.heap.size, 0, none⟩ (.int .i64 v4)).setCell ⟨w.heap.size, 0, none⟩ (.slice (some ⟨w2.heap.size, 0, none⟩) 2 2)).cell? ⟨w.heap.size, 0, none⟩ = some (.slice (some ⟨w2.heap.size, 0, none⟩) 2 2)) := World.cell?_setCell_same' _ _ _ (by rw [r0']; rfl)
      have HFIN : Hid (DrCa B (m + 4) w (.returned (aggCa (some ⟨w2.heap.size, 0, none⟩) 2 2)) ((w4.setCell ⟨w2.heap.size, 0, none⟩ (.int .i64 v4)).setCell ⟨w.heap.size, 0, none⟩ (.slice (some ⟨w2.heap.size, 0, none⟩) 2 2))) :=
        DrCa.fin rfl (by omega) hBw (hO7.mono (by omega)) (HR4.out.below hBel0 hBw) (by omega) (((HO5.out.trans HO6.out).trans HO4.out).far hBel0) ((HB6.out.trans HB4.out).trans (hBel0.mono (by omega)))
      clear hX7 hY7 hO7
      go_wp2_with fail
      have r0 := R0.out
      exact bodyPost_ret (v := aggCa (some ⟨w2.heap.size, 0, none⟩) 2 2) (by simp [results, Try.f50, go_sem, r0]) rfl HFIN.out
  · have hn0 : (v3 == 0) = false := by simpa using hv0
    by_cases hv1 : v3 = 1
    · subst hv1
      clear hv0
      have hN := news1 w3 (.int .i64 (-1)) 3
      have hO : (w3.alloc (.cells #[.int .i64 (-1)] 3)).ownsRow (w.heap.size + 1) 3 1 (.slice (some ⟨w2.heap.size, 0, none⟩) 2 2) 2 ([v1, v2].map (Value.int .i64)) := by
        have h1 : w3.ownsRow (w.heap.size + 1) 3 1 (.slice (some ⟨w2.heap.size, 0, none⟩) 2 2) 2 ([v1, v2].map (Value.int .i64)) := HW5.out.mono (by omega)
        exact h1.alloc _
      go_wp2_with (first
        | (at_builtin
           refine wpList_append_any _ (by rfl) _ _ 23 (by rfl) (w.heap.size + 1) 3 k0 _ 1 8 Try.underlying23 kinf kj0 kj1 kj2 rfl (by omega) (.slice (some ⟨w2.heap.size, 0, none⟩) 2 2) 2 _ (by rfl) hO (some ⟨w3.heap.size, 0, none⟩) 1 1 _ (by rfl) (by rfl) hN (by simp [Value.oneCell']) (by unfold maxLen; omega) (by omega) (by simp; omega) ?_
           intro v' w6 hap
           obtain ⟨a', c', hv, h1, h2, hat⟩ := hap
           subst hv
           have hne : ∀ q, (Value.slice (some ⟨w2.heap.size, 0, none⟩) 2 2).ownBlock = some q → q = w2.heap.size := fun q hq => (ownS_eq hq).symm
           have hst : ∀ j, j < w3.heap.size → j ≠ w2.heap.size → w6.heap[j]? = w3.heap[j]? := fun j hj hjn => (h2.block j (by simp; omega) (fun e => hjn (hne j e.symm))).trans (Below.heap_alloc _ _ _ hj)
           have hO6 : OwnI w6 (w.heap.size + 1) (.slice a' 3 c') [v1, v2, -1] := h1
           have hX6 := HX5.out.later (hst _ HX5.out.lt (by omega))
           have hY6 := HY5.out.later (hst _ HY5.out.lt (by omega))
           have hz6 : w3.heap.size ≤ w6.heap.size := by have := h2.size; simp at this; omega
           obtain ⟨u6, hu6⟩ : ∃ u, w6.setCell ⟨w2.heap.size + 1, 0, none⟩ (.slice a' 3 c') = u := ⟨_, rfl⟩
           have hs6 : ∀ j, j ≠ w2.heap.size + 1 → u6.heap[j]? = w6.heap[j]? := fun j hj => by rw [← hu6]; exact Below.heap_setCell _ _ _ _ (by simpa using hj)
           have hzu : u6.heap.size = w6.heap.size := by rw [← hu6]; simp [World.setCell]
           have hYu : BoxCa u6 (w2.heap.size + 1) a' 3 c' := by
             rw [← hu6]
             obtain ⟨T, hT⟩ := hY6
             exact ⟨T, heap_setCell_same _ _ _ _ _ _ hT⟩
           have hXu := hX6.later (hs6 _ (by omega))
           have hno : ∀ g, (Value.slice a' 3 c').ownBlock = some g → g ≠ w2.heap.size + 1 := fun g hg e => by
             rw [hg] at hat
             rcases hat with h | h
             · have := ownS_eq h.symm; omega
             · have h3 : g = (w3.alloc (.cells #[.int .i64 (-1)] 3)).heap.size := by simpa using h
               simp at h3; omega
           have hOu : OwnI u6 (w.heap.size + 1) (.slice a' 3 c') [v1, v2, -1] := hO6.far fun g hg _ => hs6 g (hno g hg)
           have hBel0 : Below w.heap.size w3 u6 := by
             rw [← hu6]
             exact (((Below.refl w.heap.size w3).alloc (by omega) _).grown h2 (by simp; omega) (fun k e => by have := hne k e; omega)).setCell (p := ⟨w2.heap.size + 1, 0, none⟩) (by simp; omega) _
           have hOth : Oth B w u6 := HO5.out.far hBel0
           have hBel : Below B w u6 := HB5.out.trans (hBel0.mono (by omega))
           have p0 := hY6.c0
           have p1 := hY6.f0
           have r0 := hYu.c0
           have r1 := hXu.c0
           have r2 := hXu.f0
           have R0 : Hid ((u6.setCell ⟨w.heap.size, 0, none⟩ (.slice a' 3 c')).cell? ⟨w.heap.size, 0, none⟩ = some (.slice a' 3 c')) := World.cell?_setCell_same' _ _ _ (by rw [r1]; rfl)
           have HFIN : Hid (DrCa B (m + 4) w (.returned (aggCa a' 3 c')) (u6.setCell ⟨w.heap.size, 0, none⟩ (.slice a' 3 c'))) := DrCa.fin rfl (by omega) hBw hOu (HR5.out.below hBel0 (by omega)) (by omega) hOth hBel
           clear h1 h2 hN hO hY6 hX6 hYu hXu hOu hO6 hst hs6)
        | fail)
      have r0 := R0.out
      exact bodyPost_ret (v := aggCa a' 3 c') (by simp [results, Try.f50, go_sem, r0]) rfl HFIN.out
    · have hn1 : (v3 == 1) = false := by simpa using hv1
      have x0 := HX5.out.c0
      have x1 := HX5.out.f0
      have R0 : Hid ((w3.setCell ⟨w.heap.size, 0, none⟩ (.slice (some ⟨w2.heap.size, 0, none⟩) 2 2)).cell? ⟨w.heap.size, 0, none⟩ = some (.slice (some ⟨w2.heap.size, 0, none⟩) 2 2)) := World.cell?_setCell_same' _ _ _ (by rw [x0]; rfl)
      have HFIN : Hid (DrCa B (m + 4) w (.returned (aggCa (some ⟨w2.heap.size, 0, none⟩) 2 2)) (w3.setCell ⟨w.heap.size, 0, none⟩ (.slice (some ⟨w2.heap.size, 0, none⟩) 2 2))) := DrCa.fin rfl (by omega) hBw (HW5.out.mono (by omega)) HR5.out (by omega) HO5.out HB5.out
      clear hv0 hv1
      go_wp2_with fail
      have r0 := R0.out
      exact bodyPost_ret (v := aggCa (some ⟨w2.heap.size, 0, none⟩) 2 2) (by simp [results, Try.f50, go_sem, r0]) rfl HFIN.out

end Go.Proofs.Yteoaecfjgbkefaa

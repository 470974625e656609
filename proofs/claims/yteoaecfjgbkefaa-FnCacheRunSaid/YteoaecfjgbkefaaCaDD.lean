/- The draws of the laws on caches. -/
import Derived.Test.YteoaecfjgbkefaaCaE
import Derived.Deep.RegionWith
import Derived.Deep.RegionLaw
namespace Go.Proofs.Yteoaecfjgbkefaa
open Go.RowKit
set_option linter.unusedVariables false

theorem IsRow.below {k : IntKind} {w w' : World} {a : Option Addr} {len cap : Nat} {zs : List Int} (h : IsRow k w a len cap zs) (hb : Below w.heap.size w w') : IsRow k w' a len cap zs := by
  rcases h with h | ⟨x, rfl, h1, h2, h3, h4, h5⟩
  · exact .inl h
  · exact .inr ⟨x, rfl, h1, h2, h3, fun i hi => (hb.cell (World.block_lt_of_cell? w _ (h4 i hi))).trans (h4 i hi), h5⟩

/-- A drawn cache beside nothing. -/
def DrC1 (w : World) (e : Ending) (w' : World) : Prop := ∃ (xs : List Int) (a : Option Addr) (n c : Nat), e = .returned (aggCa a n c) ∧ xs.length = n ∧ OwnI w' w.heap.size (.slice a n c) xs ∧ Below w.heap.size w w'
/-- A drawn cache and a number. -/
def DrC2 (w : World) (e : Ending) (w' : World) : Prop := ∃ (xs : List Int) (a : Option Addr) (n c : Nat) (v : Int), e = .returned (.tuple #[aggCa a n c, .int .i64 v]) ∧ xs.length = n ∧ OwnI w' w.heap.size (.slice a n c) xs ∧ Below w.heap.size w w'
/-- A drawn cache and a trace. -/
def DrC3 (w : World) (e : Ending) (w' : World) : Prop := ∃ (xs : List Int) (a : Option Addr) (n c : Nat) (ps : List (Int × Int)) (ea : Option Addr) (en ec : Nat), e = .returned (.tuple #[aggCa a n c, .slice ea en ec]) ∧ xs.length = n ∧ OwnI w' w.heap.size (.slice a n c) xs ∧ ps.length = en ∧ en ≤ 8 ∧ RowEv w' w.heap.size (.slice ea en ec) ps ∧ Below w.heap.size w w'

set_option maxRecDepth 100000 in
set_option maxHeartbeats 4000000 in
theorem drProbe_one (a : Option Addr) (len cap : Nat) (zs : List Int) (w : World) (h : IsRow .u8 w a len cap zs) :
    Calls Try.prog 33 #[.slice a len cap] w (DrC1 w) := by
  have HB1 := Lib.hid ((Below.refl _ w).alloc (Nat.le_refl _) (.cells #[.slice none 0 0] 25))
  have HI := Lib.hid (h.below HB1.out)
  have HX1 := Lib.hid (BoxCa.new w none 0 0 25)
  clear h
  go_enter Try.func33, Try.ntmps33
  go_wp2_with fail
  refine (open_one a len cap zs _ HI.out).mono ?_
  rintro e w2 ⟨ra, rl, rc, rfl, hb2, hrd⟩
  obtain ⟨B, hB⟩ : ∃ B, (w.alloc (.cells #[.slice none 0 0] 25)).heap.size = B := ⟨_, rfl⟩
  have hBw : B = w.heap.size + 1 := by rw [← hB]; simp
  rw [hB] at hb2 hrd ⊢
  have HX2 := Lib.hid (HX1.out.later (hb2.block _ (by omega)))
  have HB2 : Hid (Below w.heap.size w w2) := HB1.out.trans (hb2.mono (by omega))
  have HRD : Hid (RdU w2 B 0) := ⟨ra, rl, rc, 0, hrd, Nat.le_refl _⟩
  have hz2 := hrd.lt
  have hge : w.heap.size + 1 ≤ B := by omega
  clear hb2 hrd hB hBw
  go_wp2_with fail
  refine (drCa_one B 0 w2 HRD.out (by omega)).mono ?_
  rintro e w3 ⟨xs, a3, n3, c3, rfl, hl, hn3, hown, _, hoth, hbel⟩
  have hX3 := HX2.out.oth hoth (by omega)
  have x0 := hX3.c0
  have x1 := hX3.f0
  have R0 : Hid ((w3.setCell ⟨w.heap.size, 0, none⟩ (.slice a3 n3 c3)).cell? ⟨w.heap.size, 0, none⟩ = some (.slice a3 n3 c3)) := World.cell?_setCell_same' _ _ _ (by rw [x0]; rfl)
  have HFIN : Hid (DrC1 w (.returned (aggCa a3 n3 c3)) (w3.setCell ⟨w.heap.size, 0, none⟩ (.slice a3 n3 c3))) :=
    ⟨xs, a3, n3, c3, rfl, hl, (hown.mono (by omega)).far (fun g hg _ => Below.heap_setCell _ _ _ _ (by have := (hown.lt g hg).1; simp; omega)), (HB2.out.trans (hbel.mono (by omega))).setCell (p := ⟨w.heap.size, 0, none⟩) (by simp) _⟩
  clear hX3 hown hoth hbel hl
  go_wp2_with fail
  have r0 := R0.out
  exact bodyPost_ret (v := aggCa a3 n3 c3) (by simp [results, Try.f33, go_sem, r0]) rfl HFIN.out

set_option maxRecDepth 100000 in
set_option maxHeartbeats 4000000 in
theorem drAccess_one (a : Option Addr) (len cap : Nat) (zs : List Int) (w : World) (h : IsRow .u8 w a len cap zs) :
    Calls Try.prog 17 #[.slice a len cap] w (DrC2 w) := by
  have HB1 := Lib.hid ((Below.refl _ w).alloc (Nat.le_refl _) (.cells #[.slice none 0 0] 25))
  have HI := Lib.hid (h.below HB1.out)
  have HX1 := Lib.hid (BoxCa.new w none 0 0 25)
  clear h
  go_enter Try.func17, Try.ntmps17
  go_wp2_with fail
  refine (open_one a len cap zs _ HI.out).mono ?_
  rintro e w2 ⟨ra, rl, rc, rfl, hb2, hrd⟩
  obtain ⟨B, hB⟩ : ∃ B, (w.alloc (.cells #[.slice none 0 0] 25)).heap.size = B := ⟨_, rfl⟩
  have hBw : B = w.heap.size + 1 := by rw [← hB]; simp
  rw [hB] at hb2 hrd ⊢
  have HX2 := Lib.hid (HX1.out.later (hb2.block _ (by omega)))
  have HB2 : Hid (Below w.heap.size w w2) := HB1.out.trans (hb2.mono (by omega))
  have HRD : Hid (RdU w2 B 0) := ⟨ra, rl, rc, 0, hrd, Nat.le_refl _⟩
  have hz2 := hrd.lt
  have hge : w.heap.size + 1 ≤ B := by omega
  clear hb2 hrd hB hBw
  go_wp2_with fail
  refine (drCa_one B 0 w2 HRD.out (by omega)).mono ?_
  rintro e w3 ⟨xs, a3, n3, c3, rfl, hl, hn3, hown, hrd3, hoth, hbel⟩
  have hz3 := hoth.1
  have hX3 := HX2.out.oth hoth (by omega)
  obtain ⟨A6, hA6⟩ : ∃ A, (w3.alloc (.cells #[.slice a3 n3 c3] 25)) = A := ⟨_, rfl⟩
  have hz6 : w3.heap.size + 1 ≤ A6.heap.size := by rw [← hA6]; simp
  have h36 : Below w3.heap.size w3 A6 := by rw [← hA6]; exact (Below.refl _ _).alloc (Nat.le_refl _) _
  have HY6 : Hid (BoxCa A6 w3.heap.size a3 n3 c3) := by rw [← hA6]; exact BoxCa.new _ _ _ _ _
  have HX6 := Lib.hid (hX3.below h36)
  have HO6 := Lib.hid (hown.later h36)
  have HR6 : Hid (RdU A6 B (0 + 4)) := hrd3.below h36 hrd3.lt
  have HB6 : Hid (Below w.heap.size w A6) := (HB2.out.trans (hbel.mono (by omega))).trans (h36.mono (by omega))
  have HL := Lib.hid hl
  have HA6 := Lib.hid hA6
  obtain ⟨A7, hA7⟩ : ∃ A, (A6.alloc (.cells #[.int .i64 0, .int .i64 1, .int .i64 2, .int .i64 3, .int .i64 4, .int .i64 5, .int .i64 6, .int .i64 7, .int .i64 8, .int .i64 (-1)] 3)).drew = A := ⟨_, rfl⟩
  have o67 : Oth B A6 A7 := by rw [← hA7]; exact (oth_alloc B A6 _).drew
  have b67 : Below A6.heap.size A6 A7 := by rw [← hA7]; exact ((Below.refl _ _).alloc (Nat.le_refl _) _).drew
  have HR7 : Hid (RdU A7 B (0 + 4)) := HR6.out.below b67 HR6.out.lt
  have HC7 : Hid (∀ i, i < 10 → A7.cell? ⟨A6.heap.size, 0 + i, none⟩ = some (.int .i64 (([0, 1, 2, 3, 4, 5, 6, 7, 8, -1] : List Int).getD i 0))) := fun i hi => by
    rw [← hA7]
    exact lit_cells A6 [0, 1, 2, 3, 4, 5, 6, 7, 8, -1] 3 i hi
  have HX7 := Lib.hid (HX6.out.below b67)
  have HY7 := Lib.hid (HY6.out.below b67)
  have HO7 := Lib.hid (HO6.out.later b67)
  have HB7 : Hid (Below w.heap.size w A7) := HB6.out.trans (b67.mono HB6.out.size)
  have hz7 := b67.size
  have HA7 := Lib.hid hA7
  have y0 := HY6.out.c0
  have yd : A6.drew.cell? ⟨w3.heap.size, 0, none⟩ = _ := y0
  have ya : (A6.alloc (.cells #[.int .i64 0, .int .i64 1, .int .i64 2, .int .i64 3, .int .i64 4, .int .i64 5, .int .i64 6, .int .i64 7, .int .i64 8, .int .i64 (-1)] 3)).cell? ⟨w3.heap.size, 0, none⟩ = _ := (HY6.out.below ((Below.refl _ _).alloc (Nat.le_refl _) _)).c0
  have yda : (A6.drew.alloc (.cells #[.int .i64 0, .int .i64 1, .int .i64 2, .int .i64 3, .int .i64 4, .int .i64 5, .int .i64 6, .int .i64 7, .int .i64 8, .int .i64 (-1)] 3)).cell? ⟨w3.heap.size, 0, none⟩ = _ := ya
  have yad : (A6.alloc (.cells #[.int .i64 0, .int .i64 1, .int .i64 2, .int .i64 3, .int .i64 4, .int .i64 5, .int .i64 6, .int .i64 7, .int .i64 8, .int .i64 (-1)] 3)).drew.cell? ⟨w3.heap.size, 0, none⟩ = _ := ya
  clear hX3 hown hoth hbel hl hA6 h36 hrd3 hA7 o67 b67
  go_wp2_with fail
  rw [HA6.out]
  go_region_with (go_at_call 51; rw [HA7.out]; refine (numU B (0 + 4) A6.heap.size 0 10 10 [0, 1, 2, 3, 4, 5, 6, 7, 8, -1] A7 HR7.out (by omega) (by omega) rfl (by omega) (by omega) HC7.out).mono ?_; rintro e w4 ⟨v4, _, rfl, hr4, ho4, hb4⟩; have hX4 := HX7.out.oth ho4 (by omega); have hY4 := HY7.out.oth ho4 (by omega); have yy := hY4.c0; have x0 := hX4.c0; have x1 := hX4.f0; have HX4 := Lib.hid hX4; have HO4 := Lib.hid ho4; have HB4 := Lib.hid hb4; clear hX4 hY4 hr4 ho4 hb4)
  all_goals
    have R0 : Hid ((w4.setCell ⟨w.heap.size, 0, none⟩ (.slice a3 n3 c3)).cell? ⟨w.heap.size, 0, none⟩ = some (.slice a3 n3 c3)) := World.cell?_setCell_same' _ _ _ (by rw [x0]; rfl)
    have HFIN : Hid (DrC2 w (.returned (.tuple #[aggCa a3 n3 c3, .int .i64 v4])) (w4.setCell ⟨w.heap.size, 0, none⟩ (.slice a3 n3 c3))) := by
      have ho := HO7.out.oth HO4.out hz2
      exact ⟨xs, a3, n3, c3, v4, rfl, HL.out, (ho.mono (by omega)).far (fun g hg _ => Below.heap_setCell _ _ _ _ (by have := (ho.lt g hg).1; simp; omega)), (HB7.out.trans (HB4.out.mono (by omega))).setCell (p := ⟨w.heap.size, 0, none⟩) (by simp) _⟩
    go_wp2_with fail
    have r0 := R0.out
    exact bodyPost_ret (v := .tuple #[aggCa a3 n3 c3, .int .i64 v4]) (by simp [results, Try.f17, go_sem, r0]) rfl HFIN.out

set_option maxRecDepth 100000 in
set_option maxHeartbeats 4000000 in
theorem drRun_one (a : Option Addr) (len cap : Nat) (zs : List Int) (w : World) (h : IsRow .u8 w a len cap zs) :
    Calls Try.prog 23 #[.slice a len cap] w (DrC3 w) := by
  have HB1 := Lib.hid ((Below.refl _ w).alloc (Nat.le_refl _) (.cells #[.slice none 0 0] 25))
  have HI := Lib.hid (h.below HB1.out)
  have HX1 := Lib.hid (BoxCa.new w none 0 0 25)
  clear h
  go_enter Try.func23, Try.ntmps23
  go_wp2_with fail
  refine (open_one a len cap zs _ HI.out).mono ?_
  rintro e w2 ⟨ra, rl, rc, rfl, hb2, hrd⟩
  obtain ⟨B, hB⟩ : ∃ B, (w.alloc (.cells #[.slice none 0 0] 25)).heap.size = B := ⟨_, rfl⟩
  have hBw : B = w.heap.size + 1 := by rw [← hB]; simp
  rw [hB] at hb2 hrd ⊢
  have HX2 := Lib.hid (HX1.out.later (hb2.block _ (by omega)))
  have HB2 : Hid (Below w.heap.size w w2) := HB1.out.trans (hb2.mono (by omega))
  have HRD : Hid (RdU w2 B 0) := ⟨ra, rl, rc, 0, hrd, Nat.le_refl _⟩
  have hz2 := hrd.lt
  have hge : w.heap.size + 1 ≤ B := by omega
  clear hb2 hrd hB hBw
  go_wp2_with fail
  refine (drCa_one B 0 w2 HRD.out (by omega)).mono ?_
  rintro e w3 ⟨xs, a3, n3, c3, rfl, hl, hn3, hown, hrd3, hoth, hbel⟩
  have hz3 := hoth.1
  have hX3 := HX2.out.oth hoth (by omega)
  obtain ⟨A6, hA6⟩ : ∃ A, (w3.alloc (.cells #[.slice a3 n3 c3] 25)) = A := ⟨_, rfl⟩
  have hz6 : w3.heap.size + 1 ≤ A6.heap.size := by rw [← hA6]; simp
  have h36 : Below w3.heap.size w3 A6 := by rw [← hA6]; exact (Below.refl _ _).alloc (Nat.le_refl _) _
  have HY6 : Hid (BoxCa A6 w3.heap.size a3 n3 c3) := by rw [← hA6]; exact BoxCa.new _ _ _ _ _
  have HX6 := Lib.hid (hX3.below h36)
  have HO6 := Lib.hid (hown.later h36)
  have HR6 : Hid (RdU A6.drew B (0 + 4)) := (hrd3.below h36 hrd3.lt).drew
  have HB6 : Hid (Below w.heap.size w A6) := (HB2.out.trans (hbel.mono (by omega))).trans (h36.mono (by omega))
  have HL := Lib.hid hl
  have HA6 := Lib.hid hA6
  have y0 := HY6.out.c0
  have yd : A6.drew.cell? ⟨w3.heap.size, 0, none⟩ = _ := y0
  clear hX3 hown hoth hbel hl hA6 h36 hrd3
  go_wp2_with fail
  rw [HA6.out]
  go_region_with (go_at_call 60; refine (drTr_one B (0 + 4) A6.drew HR6.out (by omega)).mono ?_; rintro e w4 ⟨ps, ea, en, ec, rfl, hel, hen, hrow, hr4, ho4', hb4'⟩; have ho4 : Oth B A6 w4 := oth_drew.trans ho4'; have hb4 : Below B A6 w4 := ((Below.refl B A6).drew).trans hb4'; have hX4 := HX6.out.oth ho4 (by omega); have hY4 := HY6.out.oth ho4 (by omega); have yy := hY4.c0; have x0 := hX4.c0; have x1 := hX4.f0; have HEL := Lib.hid hel; have HROW : Hid (RowEv w4 A6.heap.size (.slice ea en ec) ps) := hrow; have HO4 := Lib.hid ho4; have HB4 := Lib.hid hb4; clear hX4 hY4 hr4 ho4 hb4 ho4' hb4' hrow hel)
  all_goals
    have R0 : Hid ((w4.setCell ⟨w.heap.size, 0, none⟩ (.slice a3 n3 c3)).cell? ⟨w.heap.size, 0, none⟩ = some (.slice a3 n3 c3)) := World.cell?_setCell_same' _ _ _ (by rw [x0]; rfl)
    have HFIN : Hid (DrC3 w (.returned (.tuple #[aggCa a3 n3 c3, .slice ea en ec])) (w4.setCell ⟨w.heap.size, 0, none⟩ (.slice a3 n3 c3))) := by
      have ho := HO6.out.oth HO4.out hz2
      have hr := HROW.out
      refine ⟨xs, a3, n3, c3, ps, ea, en, ec, rfl, HL.out, (ho.mono (by omega)).far (fun g hg _ => Below.heap_setCell _ _ _ _ (by have := (ho.lt g hg).1; simp; omega)), HEL.out, hen, ?_, (HB6.out.trans (HB4.out.mono (by omega))).setCell (p := ⟨w.heap.size, 0, none⟩) (by simp) _⟩
      have h1 : RowEv (w4.setCell ⟨w.heap.size, 0, none⟩ (.slice a3 n3 c3)) A6.heap.size (.slice ea en ec) ps := hr.stand fun g hg _ => Below.heap_setCell _ _ _ _ (by have := (hr.lt g hg).1; simp; omega)
      exact RowEv.ofFlat (ownsRow_mono h1.flat (by omega))
    go_wp2_with fail
    have r0 := R0.out
    exact bodyPost_ret (v := .tuple #[aggCa a3 n3 c3, .slice ea en ec]) (by simp [results, Try.f23, go_sem, r0]) rfl HFIN.out

set_option maxHeartbeats 2000000 in
theorem drTime_one (a : Option Addr) (len cap : Nat) (zs : List Int) (w : World) (h : IsRow .u8 w a len cap zs) :
    Calls Try.prog 27 #[.slice a len cap] w (DrC3 w) := by
  have HB1 := Lib.hid ((Below.refl _ w).alloc (Nat.le_refl _) (.cells #[.slice none 0 0] 25))
  have HI := Lib.hid (h.below HB1.out)
  have HX1 := Lib.hid (BoxCa.new w none 0 0 25)
  clear h
  go_enter Try.func27, Try.ntmps27
  go_wp2_with fail
  refine (drRun_one a len cap zs _ HI.out).mono ?_
  rintro e w4 ⟨xs, a3, n3, c3, ps, ea, en, ec, rfl, hl, hown, hel, hen, hrow, hbel⟩
  have hX4 := HX1.out.below hbel
  have x0 := hX4.c0
  have x1 := hX4.f0
  have R0 : Hid ((w4.setCell ⟨w.heap.size, 0, none⟩ (.slice a3 n3 c3)).cell? ⟨w.heap.size, 0, none⟩ = some (.slice a3 n3 c3)) := World.cell?_setCell_same' _ _ _ (by rw [x0]; rfl)
  have HFIN : Hid (DrC3 w (.returned (.tuple #[aggCa a3 n3 c3, .slice ea en ec])) (w4.setCell ⟨w.heap.size, 0, none⟩ (.slice a3 n3 c3))) := by
    refine ⟨xs, a3, n3, c3, ps, ea, en, ec, rfl, hl, (hown.mono (by simp)).far (fun g hg _ => Below.heap_setCell _ _ _ _ (by have := (hown.lt g hg).1; simp at this ⊢; omega)), hel, hen, ?_, (HB1.out.trans (hbel.mono (by simp))).setCell (p := ⟨w.heap.size, 0, none⟩) (by simp) _⟩
    have h1 := hrow.stand (w' := w4.setCell ⟨w.heap.size, 0, none⟩ (.slice a3 n3 c3)) fun g hg _ => Below.heap_setCell _ _ _ _ (by have := (hrow.lt g hg).1; simp at this ⊢; omega)
    exact RowEv.ofFlat (ownsRow_mono h1.flat (by simp))
  clear hX4 hown hrow hbel hl hel
  go_wp2_with fail
  have r0 := R0.out
  exact bodyPost_ret (v := .tuple #[aggCa a3 n3 c3, .slice ea en ec]) (by simp [results, Try.f27, go_sem, r0]) rfl HFIN.out

end Go.Proofs.Yteoaecfjgbkefaa

/- toCode of the exact laws: a copy of a code in new blocks; nothing that was there changes. Condition: no list of it has more than 2^20 elements. -/
import Derived.Test.YtbifbmpflhdijaaDoorCd
import Derived.Test.YtbifbmpflhdijaaDoorMmB
namespace Go.Proofs.YtbifbmpflhdijaaDoor
open Go.RowKit
set_option linter.unusedVariables false

set_option maxHeartbeats 8000000 in
/-- **toCode.** -/
theorem toC_one (m : Cd) (k : CK) (w : World) (h : CL w m k) (hs : CSm m) :
    Calls Tryd.prog 13 #[aggC m k] w (CopyC m w) := by
  obtain ⟨hs1, hs2, hs3⟩ := hs
  have H : Hid (∀ v, Below w.heap.size w v → CL v m k) := fun v hv => h.below hv
  clear h
  go_enter Tryd.func13, Tryd.ntmps13
  go_wp2_with fail
  obtain ⟨W, hW⟩ : ∃ W, (((w.alloc (.cells (arrC m k) 25)).alloc (.cells #[.slice none 0 0, .slice none 0 0, .slice none 0 0] 29)).alloc (.cells #[.slice none 0 0, .slice none 0 0, .slice none 0 0] 29)) = W := ⟨_, rfl⟩
  have hB : Below w.heap.size w W := by rw [← hW]; exact (((Below.refl w.heap.size w).alloc (Nat.le_refl _) _).alloc (by simp) _).alloc (by simp; omega) _
  have hz : W.heap.size = w.heap.size + 3 := by rw [← hW]; simp
  have q0 : BoxC W w.heap.size m k := by
    rw [← hW]
    exact ((BoxC.new w m k 25).later (Below.heap_alloc _ _ _ (by simp))).later (Below.heap_alloc _ _ _ (by simp; omega))
  have q1 : W.heap[w.heap.size + 1]? = some (.cells #[.slice none 0 0, .slice none 0 0, .slice none 0 0] 29 (0, 0)) := by
    rw [← hW, Below.heap_alloc _ _ _ (by simp)]
    have := heap_alloc_new (w.alloc (.cells (arrC m k) 25)) (.cells #[.slice none 0 0, .slice none 0 0, .slice none 0 0] 29)
    rw [World.size_alloc] at this
    exact this
  have q2 : W.heap[w.heap.size + 1 + 1]? = some (.cells #[.slice none 0 0, .slice none 0 0, .slice none 0 0] 29 (0, 0)) := by
    rw [← hW]
    have := heap_alloc_new ((w.alloc (.cells (arrC m k) 25)).alloc (.cells #[.slice none 0 0, .slice none 0 0, .slice none 0 0] 29)) (.cells #[.slice none 0 0, .slice none 0 0, .slice none 0 0] 29)
    rw [World.size_alloc, World.size_alloc] at this
    exact this
  unfold arrC at hW
  rw [hW]
  clear hW
  have HB := Lib.hid hB
  have HZ := Lib.hid hz
  have Q0 := Lib.hid q0
  have Q1 := Lib.hid q1
  have Q2 := Lib.hid q2
  clear hB hz q0 q1 q2
  refine (toInts_one k.va m.vars.length k.vc m.vars W (H.out W HB.out).1.slice (by omega)).mono ?_
  rintro f v0 ⟨v, rfl, hown, hb⟩
  obtain ⟨a0, c0, rfl, hi⟩ := hown.iat
  clear hown
  have z1 := hb.size
  have zz := HZ.out
  have p0 := Q0.out.below hb (by omega)
  have p1 := (hb.block (w.heap.size + 1) (by omega)).trans Q1.out
  have p2 := (hb.block (w.heap.size + 1 + 1) (by omega)).trans Q2.out
  obtain ⟨⟨u, hu⟩, hf⟩ := row_set (o := 0) p2 (by simp)
  have hst := heap_setCell_same v0 (w.heap.size + 1 + 1) 0 _ _ (.slice a0 m.vars.length c0) p2
  have hB2 : Below w.heap.size w (v0.setCell ⟨w.heap.size + 1 + 1, 0, none⟩ (.slice a0 m.vars.length c0)) := (HB.out.trans (hb.mono HB.out.size)).setCell (p := ⟨w.heap.size + 1 + 1, 0, none⟩) (by simp; omega) _
  have hoth : ∀ j, j ≠ w.heap.size + 1 + 1 → (v0.setCell ⟨w.heap.size + 1 + 1, 0, none⟩ (.slice a0 m.vars.length c0)).heap[j]? = v0.heap[j]? := fun j hj => Below.heap_setCell _ _ _ _ (fun e => hj (by simpa using e))
  have hsz : (v0.setCell ⟨w.heap.size + 1 + 1, 0, none⟩ (.slice a0 m.vars.length c0)).heap.size = v0.heap.size := by simp [World.setCell]
  obtain ⟨u1, hw⟩ : ∃ u, v0.setCell ⟨w.heap.size + 1 + 1, 0, none⟩ (.slice a0 m.vars.length c0) = u := ⟨_, rfl⟩
  rw [hw] at hst hB2 hoth hsz
  have BX1 : Hid (BoxC u1 w.heap.size m k) := p0.later (hoth _ (by omega))
  have R1 : Hid (u1.heap[w.heap.size + 1]? = some (.cells #[.slice none 0 0, .slice none 0 0, .slice none 0 0] 29 (0, 0))) := (hoth _ (by omega)).trans p1
  have ST1 := Lib.hid hst
  have HB1 := Lib.hid hB2
  have HZ1 : Hid (W.heap.size ≤ u1.heap.size ∧ W.heap.size = w.heap.size + 3) := ⟨by rw [hsz]; exact z1, zz⟩
  have I0_1 := Lib.hid (hi.wide (w' := u1) (D' := fun b => W.heap.size ≤ b ∧ b < u1.heap.size) (fun b hb' => hoth b (by omega)) fun b hb' => ⟨by omega, by rw [hsz]; exact hb'.2⟩)
  have y1 := BX1.out.c1
  clear hi hb p0 p1 p2 hst hoth hsz hB2 HB Q1 Q2 Q0 HZ z1 zz
  go_wp2_with fail
  clear hw hu hf y1
  refine (toInts_one k.aa m.arrs.length k.ac m.arrs u1 (H.out u1 HB1.out).2.1.slice (by omega)).mono ?_
  rintro f v1 ⟨v, rfl, hown, hb⟩
  obtain ⟨a1, c1, rfl, hi⟩ := hown.iat
  clear hown
  have z1 := hb.size
  have zz := HZ1.out
  have p0 := BX1.out.below hb (by omega)
  have p1 := (hb.block (w.heap.size + 1) (by omega)).trans R1.out
  have p2 := (hb.block (w.heap.size + 1 + 1) (by omega)).trans ST1.out
  have hk0 := I0_1.out.wide (D' := fun b => W.heap.size ≤ b ∧ b < v1.heap.size) (fun b hb' => hb.block b hb'.2) fun b hb' => ⟨hb'.1, by omega⟩
  obtain ⟨⟨u, hu⟩, hf⟩ := row_set (o := 1) p2 (by simp)
  have hst := heap_setCell_same v1 (w.heap.size + 1 + 1) 1 _ _ (.slice a1 m.arrs.length c1) p2
  have hB2 : Below w.heap.size w (v1.setCell ⟨w.heap.size + 1 + 1, 1, none⟩ (.slice a1 m.arrs.length c1)) := (HB1.out.trans (hb.mono HB1.out.size)).setCell (p := ⟨w.heap.size + 1 + 1, 1, none⟩) (by simp; omega) _
  have hoth : ∀ j, j ≠ w.heap.size + 1 + 1 → (v1.setCell ⟨w.heap.size + 1 + 1, 1, none⟩ (.slice a1 m.arrs.length c1)).heap[j]? = v1.heap[j]? := fun j hj => Below.heap_setCell _ _ _ _ (fun e => hj (by simpa using e))
  have hsz : (v1.setCell ⟨w.heap.size + 1 + 1, 1, none⟩ (.slice a1 m.arrs.length c1)).heap.size = v1.heap.size := by simp [World.setCell]
  obtain ⟨u2, hw⟩ : ∃ u, v1.setCell ⟨w.heap.size + 1 + 1, 1, none⟩ (.slice a1 m.arrs.length c1) = u := ⟨_, rfl⟩
  rw [hw] at hst hB2 hoth hsz
  have BX2 : Hid (BoxC u2 w.heap.size m k) := p0.later (hoth _ (by omega))
  have R2 : Hid (u2.heap[w.heap.size + 1]? = some (.cells #[.slice none 0 0, .slice none 0 0, .slice none 0 0] 29 (0, 0))) := (hoth _ (by omega)).trans p1
  have ST2 := Lib.hid hst
  have HB2 := Lib.hid hB2
  have HZ2 : Hid (W.heap.size ≤ u2.heap.size ∧ W.heap.size = w.heap.size + 3) := ⟨by rw [hsz]; omega, zz.2⟩
  have I0_2 := Lib.hid (hk0.wide (w' := u2) (D' := fun b => W.heap.size ≤ b ∧ b < u2.heap.size) (fun b hb' => hoth b (by omega)) fun b hb' => ⟨hb'.1, by rw [hsz]; exact hb'.2⟩)
  have I1_2 := Lib.hid (hi.wide (w' := u2) (D' := fun b => W.heap.size ≤ b ∧ b < u2.heap.size) (fun b hb' => hoth b (by omega)) fun b hb' => ⟨by omega, by rw [hsz]; exact hb'.2⟩)
  have y2 := BX2.out.c2
  clear hi hb p0 p1 p2 hst hoth hsz hB2 HB1 R1 ST1 BX1 HZ1 z1 zz hk0 I0_1
  go_wp2_with fail
  clear hw hu hf y2
  refine (toInS_one m.list k.la k.lc u2 (H.out u2 HB2.out).2.2 hs3).mono ?_
  rintro f v2 ⟨a2, c2, rfl, hi, hb⟩
  have z1 := hb.size
  have zz := HZ2.out
  have p0 := BX2.out.below hb (by omega)
  have p1 := (hb.block (w.heap.size + 1) (by omega)).trans R2.out
  have p2 := (hb.block (w.heap.size + 1 + 1) (by omega)).trans ST2.out
  have hk0 := I0_2.out.wide (D' := fun b => W.heap.size ≤ b ∧ b < v2.heap.size) (fun b hb' => hb.block b hb'.2) fun b hb' => ⟨hb'.1, by omega⟩
  have hk1 := I1_2.out.wide (D' := fun b => W.heap.size ≤ b ∧ b < v2.heap.size) (fun b hb' => hb.block b hb'.2) fun b hb' => ⟨hb'.1, by omega⟩
  obtain ⟨⟨u, hu⟩, hf⟩ := row_set (o := 2) p2 (by simp)
  have hst := heap_setCell_same v2 (w.heap.size + 1 + 1) 2 _ _ (.slice a2 m.list.length c2) p2
  have hB2 : Below w.heap.size w (v2.setCell ⟨w.heap.size + 1 + 1, 2, none⟩ (.slice a2 m.list.length c2)) := (HB2.out.trans (hb.mono HB2.out.size)).setCell (p := ⟨w.heap.size + 1 + 1, 2, none⟩) (by simp; omega) _
  have hoth : ∀ j, j ≠ w.heap.size + 1 + 1 → (v2.setCell ⟨w.heap.size + 1 + 1, 2, none⟩ (.slice a2 m.list.length c2)).heap[j]? = v2.heap[j]? := fun j hj => Below.heap_setCell _ _ _ _ (fun e => hj (by simpa using e))
  have hsz : (v2.setCell ⟨w.heap.size + 1 + 1, 2, none⟩ (.slice a2 m.list.length c2)).heap.size = v2.heap.size := by simp [World.setCell]
  obtain ⟨u3, hw⟩ : ∃ u, v2.setCell ⟨w.heap.size + 1 + 1, 2, none⟩ (.slice a2 m.list.length c2) = u := ⟨_, rfl⟩
  rw [hw] at hst hB2 hoth hsz
  have BX3 : Hid (BoxC u3 w.heap.size m k) := p0.later (hoth _ (by omega))
  have R3 : Hid (u3.heap[w.heap.size + 1]? = some (.cells #[.slice none 0 0, .slice none 0 0, .slice none 0 0] 29 (0, 0))) := (hoth _ (by omega)).trans p1
  have ST3 := Lib.hid hst
  have HB3 := Lib.hid hB2
  have HZ3 : Hid (W.heap.size ≤ u3.heap.size ∧ W.heap.size = w.heap.size + 3) := ⟨by rw [hsz]; omega, zz.2⟩
  have I0_3 := Lib.hid (hk0.wide (w' := u3) (D' := fun b => W.heap.size ≤ b ∧ b < u3.heap.size) (fun b hb' => hoth b (by omega)) fun b hb' => ⟨hb'.1, by rw [hsz]; exact hb'.2⟩)
  have I1_3 := Lib.hid (hk1.wide (w' := u3) (D' := fun b => W.heap.size ≤ b ∧ b < u3.heap.size) (fun b hb' => hoth b (by omega)) fun b hb' => ⟨hb'.1, by rw [hsz]; exact hb'.2⟩)
  have I2_3 := Lib.hid (hi.wide (w' := u3) (D' := fun b => W.heap.size ≤ b ∧ b < u3.heap.size) (fun b hb' => hoth b (by omega)) fun b hb' => ⟨by omega, by rw [hsz]; exact hb'.2⟩)
  clear hi hb p0 p1 p2 hst hoth hsz hB2 HB2 R2 ST2 BX2 HZ2 z1 zz hk0 I0_2 hk1 I1_2
  have hst := ST3.out
  have hr := R3.out
  have zz := HZ3.out
  obtain ⟨⟨s0, hs0'⟩, hg0⟩ := row_set (o := 0) hr (by simp)
  obtain ⟨⟨s1, hs1'⟩, hg1⟩ := row_set (o := 1) hr (by simp)
  obtain ⟨⟨s2, hs2'⟩, hg2⟩ := row_set (o := 2) hr (by simp)
  have t0 : u3.cell? ⟨w.heap.size + 1 + 1, 0, none⟩ = some (.slice a0 m.vars.length c0) := by rw [cell_of_row _ _ _ _ _ _ hst]; rfl
  have t1 : u3.cell? ⟨w.heap.size + 1 + 1, 1, none⟩ = some (.slice a1 m.arrs.length c1) := by rw [cell_of_row _ _ _ _ _ _ hst]; rfl
  have t2 : u3.cell? ⟨w.heap.size + 1 + 1, 2, none⟩ = some (.slice a2 m.list.length c2) := by rw [cell_of_row _ _ _ _ _ _ hst]; rfl
  clear hst hr
  go_wp2_with fail
  have HOT : Hid (∀ j, W.heap.size ≤ j → (((u3.setCell ⟨w.heap.size + 1, 0, none⟩ (.slice a0 m.vars.length c0)).setCell ⟨w.heap.size + 1, 1, none⟩ (.slice a1 m.arrs.length c1)).setCell ⟨w.heap.size + 1, 2, none⟩ (.slice a2 m.list.length c2)).heap[j]? = u3.heap[j]?) := fun j hj => by
    rw [Below.heap_setCell _ _ _ _ (by simp; omega), Below.heap_setCell _ _ _ _ (by simp; omega), Below.heap_setCell _ _ _ _ (by simp; omega)]
  have HSZ : Hid ((((u3.setCell ⟨w.heap.size + 1, 0, none⟩ (.slice a0 m.vars.length c0)).setCell ⟨w.heap.size + 1, 1, none⟩ (.slice a1 m.arrs.length c1)).setCell ⟨w.heap.size + 1, 2, none⟩ (.slice a2 m.list.length c2)).heap.size = u3.heap.size) := by
    have : (((u3.setCell ⟨w.heap.size + 1, 0, none⟩ (.slice a0 m.vars.length c0)).setCell ⟨w.heap.size + 1, 1, none⟩ (.slice a1 m.arrs.length c1)).setCell ⟨w.heap.size + 1, 2, none⟩ (.slice a2 m.list.length c2)).heap.size = u3.heap.size := by simp [World.setCell]
    exact this
  clear hw
  refine bodyPost_ret (v := .agg #[.slice a0 m.vars.length c0, .slice a1 m.arrs.length c1, .slice a2 m.list.length c2]) (by simp [results, Tryd.f13, go_sem, hs0', hs1', hs2']) rfl ?_
  refine ⟨⟨a0, c0, a1, c1, a2, c2⟩, rfl, ⟨I0_3.out.wide (fun b hb => HOT.out b hb.1) fun b hb => by rw [HSZ.out]; exact hb.2, I1_3.out.wide (fun b hb => HOT.out b hb.1) fun b hb => by rw [HSZ.out]; exact hb.2, I2_3.out.wide (fun b hb => HOT.out b hb.1) fun b hb => by rw [HSZ.out]; exact hb.2⟩, ?_⟩
  exact ((HB3.out.setCell (p := ⟨w.heap.size + 1, 0, none⟩) (by simp) _).setCell (p := ⟨w.heap.size + 1, 1, none⟩) (by simp) _).setCell (p := ⟨w.heap.size + 1, 2, none⟩) (by simp) _

end Go.Proofs.YtbifbmpflhdijaaDoor

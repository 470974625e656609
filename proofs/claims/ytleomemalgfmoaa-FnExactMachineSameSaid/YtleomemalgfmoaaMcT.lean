/- toMachine of the exact laws: a copy of a state in new blocks; nothing that was there changes. Condition: no list of it has more than 2^20 elements. -/
import Derived.Test.YtleomemalgfmoaaMc
import Derived.Test.YtleomemalgfmoaaMmT
namespace Go.Proofs.Ytleomemalgfmoaa
open Go.RowKit
set_option linter.unusedVariables false

set_option maxHeartbeats 8000000 in
/-- **toMachine.** -/
theorem toS4_one (m : Ms) (k : MK) (w : World) (h : SL w m k) (hs : SSm m) :
    Calls Try.prog 18 #[aggS4 m k] w (CopyS4 m w) := by
  obtain ⟨hs1, hs2⟩ := hs
  have H : Hid (∀ v, Below w.heap.size w v → SL v m k) := fun v hv => h.below hv
  have HS2 := Lib.hid hs2
  clear h hs2
  go_enter Try.func18, Try.ntmps18
  go_wp2_with fail
  obtain ⟨W, hW⟩ : ∃ W, (((w.alloc (.cells (arrS4 m k) 45)).alloc (.cells #[.int .i64 0, .slice none 0 0, .slice none 0 0, .slice none 0 0] 28)).alloc (.cells #[.int .i64 m.pc, .slice none 0 0, .slice none 0 0, .slice none 0 0] 28)) = W := ⟨_, rfl⟩
  have hB : Below w.heap.size w W := by rw [← hW]; exact (((Below.refl w.heap.size w).alloc (Nat.le_refl _) _).alloc (by simp) _).alloc (by simp; omega) _
  have hz : W.heap.size = w.heap.size + 3 := by rw [← hW]; simp
  have q0 : BoxS W w.heap.size m k := by
    rw [← hW]
    exact ((BoxS.new w m k 45).later (Below.heap_alloc _ _ _ (by simp))).later (Below.heap_alloc _ _ _ (by simp; omega))
  have q1 : W.heap[w.heap.size + 1]? = some (.cells #[.int .i64 0, .slice none 0 0, .slice none 0 0, .slice none 0 0] 28 (0, 0)) := by
    rw [← hW, Below.heap_alloc _ _ _ (by simp)]
    have := heap_alloc_new (w.alloc (.cells (arrS4 m k) 45)) (.cells #[.int .i64 0, .slice none 0 0, .slice none 0 0, .slice none 0 0] 28)
    rw [World.size_alloc] at this
    exact this
  have q2 : W.heap[w.heap.size + 1 + 1]? = some (.cells #[.int .i64 m.pc, .slice none 0 0, .slice none 0 0, .slice none 0 0] 28 (0, 0)) := by
    rw [← hW]
    have := heap_alloc_new ((w.alloc (.cells (arrS4 m k) 45)).alloc (.cells #[.int .i64 0, .slice none 0 0, .slice none 0 0, .slice none 0 0] 28)) (.cells #[.int .i64 m.pc, .slice none 0 0, .slice none 0 0, .slice none 0 0] 28)
    rw [World.size_alloc, World.size_alloc] at this
    exact this
  unfold arrS4 at hW
  rw [hW]
  clear hW
  have HB := Lib.hid hB
  have HZ := Lib.hid hz
  have Q0 := Lib.hid q0
  have Q1 := Lib.hid q1
  have Q2 := Lib.hid q2
  clear hB hz q0 q1 q2
  -- the registers
  refine (toInts_one k.ra m.regs.length k.rc m.regs W (H.out W HB.out).1.slice (by omega)).mono ?_
  rintro f v0 ⟨v, rfl, hown, hb⟩
  obtain ⟨a0, c0, rfl, hi⟩ := hown.iat
  clear hown
  have z1 := hb.size
  have zz := HZ.out
  have p0 := Q0.out.below hb (by omega)
  have p1 := (hb.block (w.heap.size + 1) (by omega)).trans Q1.out
  have p2 := (hb.block (w.heap.size + 1 + 1) (by omega)).trans Q2.out
  obtain ⟨⟨u, hu⟩, hf⟩ := row_set (o := 1) p2 (by simp)
  have hst := heap_setCell_same v0 (w.heap.size + 1 + 1) 1 _ _ (.slice a0 m.regs.length c0) p2
  have hB2 : Below w.heap.size w (v0.setCell ⟨w.heap.size + 1 + 1, 1, none⟩ (.slice a0 m.regs.length c0)) := (HB.out.trans (hb.mono HB.out.size)).setCell (p := ⟨w.heap.size + 1 + 1, 1, none⟩) (by simp; omega) _
  have hoth : ∀ j, j ≠ w.heap.size + 1 + 1 → (v0.setCell ⟨w.heap.size + 1 + 1, 1, none⟩ (.slice a0 m.regs.length c0)).heap[j]? = v0.heap[j]? := fun j hj => Below.heap_setCell _ _ _ _ (fun e => hj (by simpa using e))
  have hsz : (v0.setCell ⟨w.heap.size + 1 + 1, 1, none⟩ (.slice a0 m.regs.length c0)).heap.size = v0.heap.size := by simp [World.setCell]
  obtain ⟨u1, hw⟩ : ∃ u, v0.setCell ⟨w.heap.size + 1 + 1, 1, none⟩ (.slice a0 m.regs.length c0) = u := ⟨_, rfl⟩
  rw [hw] at hst hB2 hoth hsz
  have BX1 : Hid (BoxS u1 w.heap.size m k) := p0.later (hoth _ (by omega))
  have R1 : Hid (u1.heap[w.heap.size + 1]? = some (.cells #[.int .i64 0, .slice none 0 0, .slice none 0 0, .slice none 0 0] 28 (0, 0))) := (hoth _ (by omega)).trans p1
  have ST1 := Lib.hid hst
  have HB1 := Lib.hid hB2
  have HZ1 : Hid (W.heap.size ≤ u1.heap.size ∧ W.heap.size = w.heap.size + 3) := ⟨by rw [hsz]; exact z1, zz⟩
  have I0_1 := Lib.hid (hi.wide (w' := u1) (D' := fun b => W.heap.size ≤ b ∧ b < u1.heap.size) (fun b hb' => hoth b (by omega)) fun b hb' => ⟨by omega, by rw [hsz]; exact hb'.2⟩)
  have y2 := BX1.out.c2
  have y3 := BX1.out.c3
  clear hi hb p0 p1 p2 hst hoth hsz hB2 HB Q1 Q2 Q0 HZ z1 zz
  go_wp2_with fail
  clear hw hu hf y2 y3
  -- the memory
  refine (toM_new m.mem k.me u1 (H.out u1 HB1.out).2 HS2.out).mono ?_
  rintro f v1 ⟨kk, rfl, hi, hb⟩
  have z1 := hb.size
  have zz := HZ1.out
  have p0 := BX1.out.below hb (by omega)
  have p1 := (hb.block (w.heap.size + 1) (by omega)).trans R1.out
  have p2 := (hb.block (w.heap.size + 1 + 1) (by omega)).trans ST1.out
  have hk0 := I0_1.out.wide (D' := fun b => W.heap.size ≤ b ∧ b < v1.heap.size) (fun b hb' => hb.block b hb'.2) fun b hb' => ⟨hb'.1, by omega⟩
  obtain ⟨⟨u, hu⟩, hf⟩ := row_set (o := 2) p2 (by simp)
  obtain ⟨⟨u', hu'⟩, hf'⟩ := row_set (o := 3) p2 (by simp)
  have hst := heap_setCell_same _ (w.heap.size + 1 + 1) 3 _ _ (.slice kk.aa m.mem.arrs.length kk.ac) (heap_setCell_same v1 (w.heap.size + 1 + 1) 2 _ _ (.slice kk.va m.mem.vals.length kk.vc) p2)
  have hB2 : Below w.heap.size w ((v1.setCell ⟨w.heap.size + 1 + 1, 2, none⟩ (.slice kk.va m.mem.vals.length kk.vc)).setCell ⟨w.heap.size + 1 + 1, 3, none⟩ (.slice kk.aa m.mem.arrs.length kk.ac)) := ((HB1.out.trans (hb.mono HB1.out.size)).setCell (p := ⟨w.heap.size + 1 + 1, 2, none⟩) (by simp; omega) _).setCell (p := ⟨w.heap.size + 1 + 1, 3, none⟩) (by simp; omega) _
  have hoth : ∀ j, j ≠ w.heap.size + 1 + 1 → ((v1.setCell ⟨w.heap.size + 1 + 1, 2, none⟩ (.slice kk.va m.mem.vals.length kk.vc)).setCell ⟨w.heap.size + 1 + 1, 3, none⟩ (.slice kk.aa m.mem.arrs.length kk.ac)).heap[j]? = v1.heap[j]? := fun j hj => (Below.heap_setCell _ _ _ _ (fun e => hj (by simpa using e))).trans (Below.heap_setCell _ _ _ _ (fun e => hj (by simpa using e)))
  have hsz : ((v1.setCell ⟨w.heap.size + 1 + 1, 2, none⟩ (.slice kk.va m.mem.vals.length kk.vc)).setCell ⟨w.heap.size + 1 + 1, 3, none⟩ (.slice kk.aa m.mem.arrs.length kk.ac)).heap.size = v1.heap.size := by simp [World.setCell]
  obtain ⟨u3, hw⟩ : ∃ u, (v1.setCell ⟨w.heap.size + 1 + 1, 2, none⟩ (.slice kk.va m.mem.vals.length kk.vc)).setCell ⟨w.heap.size + 1 + 1, 3, none⟩ (.slice kk.aa m.mem.arrs.length kk.ac) = u := ⟨_, rfl⟩
  rw [hw] at hst hB2 hoth hsz
  have hr : u3.heap[w.heap.size + 1]? = some (.cells #[.int .i64 0, .slice none 0 0, .slice none 0 0, .slice none 0 0] 28 (0, 0)) := (hoth _ (by omega)).trans p1
  have HB3 := Lib.hid hB2
  have HZ3 : Hid (W.heap.size ≤ u3.heap.size ∧ W.heap.size = w.heap.size + 3) := ⟨by rw [hsz]; omega, zz.2⟩
  have I0 := Lib.hid (hk0.wide (w' := u3) (D' := fun b => W.heap.size ≤ b ∧ b < u3.heap.size) (fun b hb' => hoth b (by omega)) fun b hb' => ⟨hb'.1, by rw [hsz]; exact hb'.2⟩)
  have I1 := Lib.hid (hi.wide (w' := u3) (D' := fun b => W.heap.size ≤ b ∧ b < u3.heap.size) (fun b hb' => hoth b (by omega)) fun b hb' => ⟨by omega, by rw [hsz]; exact hb'.2⟩)
  obtain ⟨⟨s0, hs0'⟩, hg0⟩ := row_set (o := 0) hr (by simp)
  obtain ⟨⟨s1, hs1'⟩, hg1⟩ := row_set (o := 1) hr (by simp)
  obtain ⟨⟨s2, hs2'⟩, hg2⟩ := row_set (o := 2) hr (by simp)
  obtain ⟨⟨s3, hs3'⟩, hg3⟩ := row_set (o := 3) hr (by simp)
  have t0 : u3.cell? ⟨w.heap.size + 1 + 1, 0, none⟩ = some (.int .i64 m.pc) := by rw [cell_of_row _ _ _ _ _ _ hst]; rfl
  have t1 : u3.cell? ⟨w.heap.size + 1 + 1, 1, none⟩ = some (.slice a0 m.regs.length c0) := by rw [cell_of_row _ _ _ _ _ _ hst]; rfl
  have t2 : u3.cell? ⟨w.heap.size + 1 + 1, 2, none⟩ = some (.slice kk.va m.mem.vals.length kk.vc) := by rw [cell_of_row _ _ _ _ _ _ hst]; rfl
  have t3 : u3.cell? ⟨w.heap.size + 1 + 1, 3, none⟩ = some (.slice kk.aa m.mem.arrs.length kk.ac) := by rw [cell_of_row _ _ _ _ _ _ hst]; rfl
  clear hst hr hoth hsz hB2 p0 p1 p2 hk0 hi hb HB1 BX1 R1 ST1 HZ1 I0_1 zz z1
  go_wp2_with fail
  clear hw
  have HOT : Hid (∀ j, W.heap.size ≤ j → ((((u3.setCell ⟨w.heap.size + 1, 0, none⟩ (.int .i64 m.pc)).setCell ⟨w.heap.size + 1, 1, none⟩ (.slice a0 m.regs.length c0)).setCell ⟨w.heap.size + 1, 2, none⟩ (.slice kk.va m.mem.vals.length kk.vc)).setCell ⟨w.heap.size + 1, 3, none⟩ (.slice kk.aa m.mem.arrs.length kk.ac)).heap[j]? = u3.heap[j]?) := fun j hj => by
    have zz := HZ3.out
    rw [Below.heap_setCell _ _ _ _ (by simp; omega), Below.heap_setCell _ _ _ _ (by simp; omega), Below.heap_setCell _ _ _ _ (by simp; omega), Below.heap_setCell _ _ _ _ (by simp; omega)]
  have HSZ : Hid (((((u3.setCell ⟨w.heap.size + 1, 0, none⟩ (.int .i64 m.pc)).setCell ⟨w.heap.size + 1, 1, none⟩ (.slice a0 m.regs.length c0)).setCell ⟨w.heap.size + 1, 2, none⟩ (.slice kk.va m.mem.vals.length kk.vc)).setCell ⟨w.heap.size + 1, 3, none⟩ (.slice kk.aa m.mem.arrs.length kk.ac)).heap.size = u3.heap.size) := by
    have : ((((u3.setCell ⟨w.heap.size + 1, 0, none⟩ (.int .i64 m.pc)).setCell ⟨w.heap.size + 1, 1, none⟩ (.slice a0 m.regs.length c0)).setCell ⟨w.heap.size + 1, 2, none⟩ (.slice kk.va m.mem.vals.length kk.vc)).setCell ⟨w.heap.size + 1, 3, none⟩ (.slice kk.aa m.mem.arrs.length kk.ac)).heap.size = u3.heap.size := by simp [World.setCell]
    exact this
  have zz := HZ3.out
  refine bodyPost_ret (v := .agg #[.int .i64 m.pc, .slice a0 m.regs.length c0, .slice kk.va m.mem.vals.length kk.vc, .slice kk.aa m.mem.arrs.length kk.ac]) (by simp [results, Try.f18, go_sem, hs0', hs1', hs2', hs3']) rfl ?_
  refine ⟨⟨a0, c0, kk⟩, rfl, ⟨I0.out.wide (fun b hb => HOT.out b hb.1) fun b hb => by rw [HSZ.out]; exact hb.2, I1.out.1.wide (fun b hb => HOT.out b hb.1) fun b hb => by rw [HSZ.out]; exact hb.2, I1.out.2.wide (fun b hb => HOT.out b hb.1) fun b hb => by rw [HSZ.out]; exact hb.2⟩, ?_⟩
  exact (((HB3.out.setCell (p := ⟨w.heap.size + 1, 0, none⟩) (by simp) _).setCell (p := ⟨w.heap.size + 1, 1, none⟩) (by simp) _).setCell (p := ⟨w.heap.size + 1, 2, none⟩) (by simp) _).setCell (p := ⟨w.heap.size + 1, 3, none⟩) (by simp) _

end Go.Proofs.Ytleomemalgfmoaa

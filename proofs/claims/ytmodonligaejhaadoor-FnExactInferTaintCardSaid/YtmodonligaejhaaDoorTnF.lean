/- The program's verifierOf, walked: a verifier of valid code bears its labels. -/
import Derived.Test.YtmodonligaejhaaDoorTnL
namespace Go.Proofs.YtmodonligaejhaaDoor
open Go.RowKit
set_option linter.unusedVariables false

theorem knl_T {m : Cd} (h : codeB m = true) : KnT m (knl m.heads) := by
  have hh : headsB m.heads = true := by
    unfold codeB at h
    simp only [Bool.and_eq_true] at h
    exact h.1.1
  obtain ⟨h1, h2⟩ := headsB_len hh
  refine ⟨knl_lt hh, fun i hi => ?_, fun i hi => ?_, h1, h2⟩
  · have e : m.vars.getD i 0 = (knl m.heads i : Int) := knl_var hh hi h1
    unfold secN
    rw [e]
    by_cases q : knl m.heads i % 2 = 1
    · rw [q]; simp; omega
    · have q0 : knl m.heads i % 2 = 0 := by omega
      rw [q0]; simp; omega
  · have e : m.arrs.getD i 0 = (knl m.heads (12 + i) : Int) := knl_arr hh hi
    unfold secN
    rw [e]
    by_cases q : knl m.heads (12 + i) % 2 = 1
    · rw [q]; simp; omega
    · have q0 : knl m.heads (12 + i) % 2 = 0 := by omega
      rw [q0]; simp; omega
theorem arrOf_lit (f : Nat → Nat) : arrOf f = #[.int .i64 (f 0 : Int), .int .i64 (f 1 : Int), .int .i64 (f 2 : Int), .int .i64 (f 3 : Int), .int .i64 (f 4 : Int), .int .i64 (f 5 : Int), .int .i64 (f 6 : Int), .int .i64 (f 7 : Int), .int .i64 (f 8 : Int), .int .i64 (f 9 : Int), .int .i64 (f 10 : Int), .int .i64 (f 11 : Int), .int .i64 (f 12 : Int), .int .i64 (f 13 : Int)] := by
  apply Array.ext
  · rw [arrOf_size]; rfl
  · intro i h1 h2
    rw [arrOf_size] at h1
    have h := arrOf_at f i h1
    rw [Array.getElem?_eq_getElem (by rw [arrOf_size]; exact h1)] at h
    injection h with h
    rw [h]
    have hc : i = 0 ∨ i = 1 ∨ i = 2 ∨ i = 3 ∨ i = 4 ∨ i = 5 ∨ i = 6 ∨ i = 7 ∨ i = 8 ∨ i = 9 ∨ i = 10 ∨ i = 11 ∨ i = 12 ∨ i = 13 := by omega
    rcases hc with rfl | rfl | rfl | rfl | rfl | rfl | rfl | rfl | rfl | rfl | rfl | rfl | rfl | rfl <;> rfl

set_option maxRecDepth 100000 in
theorem arrV_set (la : Option Addr) (n lc : Nat) (f : Nat → Nat) : setL #[.slice none 0 0, .int .i64 0, .int .i64 0, .int .i64 0, .int .i64 0, .int .i64 0, .int .i64 0, .int .i64 0, .int .i64 0, .int .i64 0, .int .i64 0, .int .i64 0, .int .i64 0, .int .i64 0, .int .i64 0] 0 [.slice la n lc, .int .i64 (f 0 : Int), .int .i64 (f 1 : Int), .int .i64 (f 2 : Int), .int .i64 (f 3 : Int), .int .i64 (f 4 : Int), .int .i64 (f 5 : Int), .int .i64 (f 6 : Int), .int .i64 (f 7 : Int), .int .i64 (f 8 : Int), .int .i64 (f 9 : Int), .int .i64 (f 10 : Int), .int .i64 (f 11 : Int), .int .i64 (f 12 : Int), .int .i64 (f 13 : Int)] = arrV la n lc f := by simp [setL]

set_option maxRecDepth 100000 in
set_option maxHeartbeats 8000000 in
/-- **verifierOf.** -/
theorem vOf_one (m : Cd) (k : CK) (w : World) (h : CL w m k) (hq : codeB m = true) :
    Calls Tryd.prog 40 #[aggC m k] w (fun e w' => e = .returned (.agg (arrV k.la m.list.length k.lc (knl m.heads))) ∧ Below w.heap.size w w') := by
  have hh : headsB m.heads = true := by
    unfold codeB at hq
    simp only [Bool.and_eq_true] at hq
    exact hq.1.1
  obtain ⟨W, hW⟩ : ∃ W, (w.alloc (.cells (arrC m k) 30)).alloc (.cells #[.slice none 0 0, .int .i64 0, .int .i64 0, .int .i64 0, .int .i64 0, .int .i64 0, .int .i64 0, .int .i64 0, .int .i64 0, .int .i64 0, .int .i64 0, .int .i64 0, .int .i64 0, .int .i64 0, .int .i64 0] 69) = W := ⟨_, rfl⟩
  have hB : Below w.heap.size w W := by rw [← hW]; exact ((Below.refl _ w).alloc (Nat.le_refl _) _).alloc (by simp) _
  have hX : BoxC W w.heap.size m k := by rw [← hW]; exact (BoxC.new w m k _).later (Below.heap_alloc _ _ _ (by simp))
  have hz : W.heap.size = w.heap.size + 2 := by rw [← hW]; simp
  have hbx : W.heap[w.heap.size + 1]? = some (.cells #[.slice none 0 0, .int .i64 0, .int .i64 0, .int .i64 0, .int .i64 0, .int .i64 0, .int .i64 0, .int .i64 0, .int .i64 0, .int .i64 0, .int .i64 0, .int .i64 0, .int .i64 0, .int .i64 0, .int .i64 0] 69 (0, 0)) := by
    have h1 := heap_alloc_new (w.alloc (.cells (arrC m k) 30)) (.cells #[.slice none 0 0, .int .i64 0, .int .i64 0, .int .i64 0, .int .i64 0, .int .i64 0, .int .i64 0, .int .i64 0, .int .i64 0, .int .i64 0, .int .i64 0, .int .i64 0, .int .i64 0, .int .i64 0, .int .i64 0] 69)
    rw [World.size_alloc] at h1
    rw [← hW]; exact h1
  have HSB : Hid (∀ (v : World), v.heap[w.heap.size]? = W.heap[w.heap.size]? → v.cell? ⟨w.heap.size, 0, none⟩ = some (.slice k.va m.vars.length k.vc) ∧ v.cell? ⟨w.heap.size, 1, none⟩ = some (.slice k.aa m.arrs.length k.ac) ∧ v.cell? ⟨w.heap.size, 2, none⟩ = some (.slice k.la m.list.length k.lc)) := fun v hv => by
    have b := hX.later hv
    exact ⟨b.c0, b.c1, b.c2⟩
  have HDC := Lib.hid (fun v => iDecl_one m k v)
  have HLO : Hid (∀ v, Below W.heap.size W v → Calls Tryd.prog 71 #[.agg #[.slice k.va m.vars.length k.vc, .slice k.aa m.arrs.length k.ac, .slice none 0 0]] v (fun e w' => e = .returned (.agg #[.int .i64 (knl m.heads 0 : Int), .int .i64 (knl m.heads 1 : Int), .int .i64 (knl m.heads 2 : Int), .int .i64 (knl m.heads 3 : Int), .int .i64 (knl m.heads 4 : Int), .int .i64 (knl m.heads 5 : Int), .int .i64 (knl m.heads 6 : Int), .int .i64 (knl m.heads 7 : Int), .int .i64 (knl m.heads 8 : Int), .int .i64 (knl m.heads 9 : Int), .int .i64 (knl m.heads 10 : Int), .int .i64 (knl m.heads 11 : Int), .int .i64 (knl m.heads 12 : Int), .int .i64 (knl m.heads 13 : Int)]) ∧ Below v.heap.size v w')) := fun v hv => by
    have hcl := (h.below hB).below hv
    have h1 := labelingOf_raw m.heads ⟨k.va, k.vc, k.aa, k.ac, none, 0⟩ (fun b => b < v.heap.size) v hcl.ints (fun _ h => h) hh
    rw [arrOf_lit] at h1
    exact h1
  have HBX := Lib.hid hbx
  have HW := Lib.hid hW
  have HB := Lib.hid hB
  have HZ : Hid (W.heap.size = w.heap.size + 2) := hz
  clear h hX hbx hW hB hz hq hh
  unfold arrC at HW
  go_enter Tryd.func40, Tryd.ntmps40
  go_wp2_with (first | rw [HW.out] | fail)
  have HB_d : Below W.heap.size W W.drew := (Below.refl _ W).drew
  refine wp_region_held_drew (S := fun v => v.cell? ⟨w.heap.size, 0, none⟩ = some (.slice k.va m.vars.length k.vc) ∧ v.cell? ⟨w.heap.size, 1, none⟩ = some (.slice k.aa m.arrs.length k.ac) ∧ v.cell? ⟨w.heap.size, 2, none⟩ = some (.slice k.la m.list.length k.lc)) (by kernel_rfl) (HSB.out W rfl) (fun hHeld => ?_)
  refine wpAnyH_take (i := 0) (oi := ⟨some 3, _, _, _, _, _⟩) (v := ?_) rfl (by kernel_rfl) (by kernel_rfl) (by kernel_rfl) (fun _ _ _ h => h) (Or.inl ⟨by rfl, ?_⟩) (by assumption) ?_
  rotate_left
  · intro w hSw; (try dsimp only at hSw); go_simp; (try with_reducible rfl)
  simp only [Act.put, List.setIfInBounds_toArray, List.set_cons_zero, List.set_cons_succ]
  refine wpAnyH_take (i := 1) (oi := ⟨some 4, _, _, _, _, _⟩) (v := ?_) rfl (by kernel_rfl) (by kernel_rfl) (by kernel_rfl) (fun _ _ _ h => h) (Or.inl ⟨by rfl, ?_⟩) (by assumption) ?_
  rotate_left
  · intro w hSw; (try dsimp only at hSw); go_simp; (try with_reducible rfl)
  simp only [Act.put, List.setIfInBounds_toArray, List.set_cons_zero, List.set_cons_succ]
  refine wpAnyH_take (i := 2) (oi := ⟨some 5, _, _, _, _, _⟩) (v := ?_) rfl (by kernel_rfl) (by kernel_rfl) (by kernel_rfl) (fun _ _ _ h => h) (Or.inl ⟨by rfl, ?_⟩) (by assumption) ?_
  rotate_left
  · intro w hSw; (try dsimp only at hSw); go_simp; (try with_reducible rfl)
  simp only [Act.put, List.setIfInBounds_toArray, List.set_cons_zero, List.set_cons_succ]
  refine wpAnyH_ready (rs := [3]) (by kernel_rfl) (by simp) ?_
  refine AllReadyH.cons (o := ⟨some 6, _, _, _, _, _⟩) rfl (fun K hK => ?_) AllReadyH.nil
  go_simp
  refine (HDC.out _).mono ?_
  rintro e w3 ⟨rfl, hb_w3⟩
  have HB_w3 : Below W.heap.size W w3 := HB_d.trans (hb_w3.mono HB_d.size)
  have hS_w3 := HSB.out w3 (HB_w3.block _ (by have := HZ.out; omega))
  go_wp2_with fail
  refine hK.out _ _ hS_w3 (fun hHeld => ?_)
  clear hK K
  try simp only [Act.put, List.setIfInBounds_toArray, List.set_cons_zero, List.set_cons_succ]
  refine wpAnyH_ready (rs := [4]) (by kernel_rfl) (by simp) ?_
  refine AllReadyH.cons (o := ⟨some 7, _, _, _, _, _⟩) rfl (fun K hK => ?_) AllReadyH.nil
  go_simp
  refine (HLO.out _ HB_w3).mono ?_
  rintro e w4 ⟨rfl, hb_w4⟩
  have HB_w4 : Below W.heap.size W w4 := HB_w3.trans (hb_w4.mono HB_w3.size)
  have hS_w4 := HSB.out w4 (HB_w4.block _ (by have := HZ.out; omega))
  go_wp2_with fail
  refine hK.out _ _ hS_w4 (fun hHeld => ?_)
  clear hK K
  try simp only [Act.put, List.setIfInBounds_toArray, List.set_cons_zero, List.set_cons_succ]
  refine wpAnyH_take (i := 5) (oi := ⟨some 8, _, _, _, _, _⟩) (v := ?_) rfl (by kernel_rfl) (by kernel_rfl) (by kernel_rfl) (fun _ _ _ h => h) (Or.inl ⟨by rfl, ?_⟩) (by assumption) ?_
  rotate_left
  · intro w hSw; (try dsimp only at hSw); go_simp; (try with_reducible rfl)
  simp only [Act.put, List.setIfInBounds_toArray, List.set_cons_zero, List.set_cons_succ]
  have hrow : w4.heap[w.heap.size + 1]? = some (.cells #[.slice none 0 0, .int .i64 0, .int .i64 0, .int .i64 0, .int .i64 0, .int .i64 0, .int .i64 0, .int .i64 0, .int .i64 0, .int .i64 0, .int .i64 0, .int .i64 0, .int .i64 0, .int .i64 0, .int .i64 0] 69 (0, 0)) := (HB_w4.block _ (by have := HZ.out; omega)).trans HBX.out
  have r0 : ∃ u, w4.cell? ⟨w.heap.size + 1, 0, none⟩ = some u := cell_ex hrow 0 (by simp)
  obtain ⟨u0, r0⟩ := r0
  have z0 := frozen_at hrow 0
  have r1 : ∃ u, w4.cell? ⟨w.heap.size + 1, 1, none⟩ = some u := cell_ex hrow 1 (by simp)
  obtain ⟨u1, r1⟩ := r1
  have z1 := frozen_at hrow 1
  have r2 : ∃ u, w4.cell? ⟨w.heap.size + 1, 2, none⟩ = some u := cell_ex hrow 2 (by simp)
  obtain ⟨u2, r2⟩ := r2
  have z2 := frozen_at hrow 2
  have r3 : ∃ u, w4.cell? ⟨w.heap.size + 1, 3, none⟩ = some u := cell_ex hrow 3 (by simp)
  obtain ⟨u3, r3⟩ := r3
  have z3 := frozen_at hrow 3
  have r4 : ∃ u, w4.cell? ⟨w.heap.size + 1, 4, none⟩ = some u := cell_ex hrow 4 (by simp)
  obtain ⟨u4, r4⟩ := r4
  have z4 := frozen_at hrow 4
  have r5 : ∃ u, w4.cell? ⟨w.heap.size + 1, 5, none⟩ = some u := cell_ex hrow 5 (by simp)
  obtain ⟨u5, r5⟩ := r5
  have z5 := frozen_at hrow 5
  have r6 : ∃ u, w4.cell? ⟨w.heap.size + 1, 6, none⟩ = some u := cell_ex hrow 6 (by simp)
  obtain ⟨u6, r6⟩ := r6
  have z6 := frozen_at hrow 6
  have r7 : ∃ u, w4.cell? ⟨w.heap.size + 1, 7, none⟩ = some u := cell_ex hrow 7 (by simp)
  obtain ⟨u7, r7⟩ := r7
  have z7 := frozen_at hrow 7
  have r8 : ∃ u, w4.cell? ⟨w.heap.size + 1, 8, none⟩ = some u := cell_ex hrow 8 (by simp)
  obtain ⟨u8, r8⟩ := r8
  have z8 := frozen_at hrow 8
  have r9 : ∃ u, w4.cell? ⟨w.heap.size + 1, 9, none⟩ = some u := cell_ex hrow 9 (by simp)
  obtain ⟨u9, r9⟩ := r9
  have z9 := frozen_at hrow 9
  have r10 : ∃ u, w4.cell? ⟨w.heap.size + 1, 10, none⟩ = some u := cell_ex hrow 10 (by simp)
  obtain ⟨u10, r10⟩ := r10
  have z10 := frozen_at hrow 10
  have r11 : ∃ u, w4.cell? ⟨w.heap.size + 1, 11, none⟩ = some u := cell_ex hrow 11 (by simp)
  obtain ⟨u11, r11⟩ := r11
  have z11 := frozen_at hrow 11
  have r12 : ∃ u, w4.cell? ⟨w.heap.size + 1, 12, none⟩ = some u := cell_ex hrow 12 (by simp)
  obtain ⟨u12, r12⟩ := r12
  have z12 := frozen_at hrow 12
  have r13 : ∃ u, w4.cell? ⟨w.heap.size + 1, 13, none⟩ = some u := cell_ex hrow 13 (by simp)
  obtain ⟨u13, r13⟩ := r13
  have z13 := frozen_at hrow 13
  have r14 : ∃ u, w4.cell? ⟨w.heap.size + 1, 14, none⟩ = some u := cell_ex hrow 14 (by simp)
  obtain ⟨u14, r14⟩ := r14
  have z14 := frozen_at hrow 14
  have h9 := put_row [.slice k.la m.list.length k.lc, .int .i64 (knl m.heads 0 : Int), .int .i64 (knl m.heads 1 : Int), .int .i64 (knl m.heads 2 : Int), .int .i64 (knl m.heads 3 : Int), .int .i64 (knl m.heads 4 : Int), .int .i64 (knl m.heads 5 : Int), .int .i64 (knl m.heads 6 : Int), .int .i64 (knl m.heads 7 : Int), .int .i64 (knl m.heads 8 : Int), .int .i64 (knl m.heads 9 : Int), .int .i64 (knl m.heads 10 : Int), .int .i64 (knl m.heads 11 : Int), .int .i64 (knl m.heads 12 : Int), .int .i64 (knl m.heads 13 : Int)] w4 (w.heap.size + 1) 0 _ _ hrow
  have h9o := put_other [.slice k.la m.list.length k.lc, .int .i64 (knl m.heads 0 : Int), .int .i64 (knl m.heads 1 : Int), .int .i64 (knl m.heads 2 : Int), .int .i64 (knl m.heads 3 : Int), .int .i64 (knl m.heads 4 : Int), .int .i64 (knl m.heads 5 : Int), .int .i64 (knl m.heads 6 : Int), .int .i64 (knl m.heads 7 : Int), .int .i64 (knl m.heads 8 : Int), .int .i64 (knl m.heads 9 : Int), .int .i64 (knl m.heads 10 : Int), .int .i64 (knl m.heads 11 : Int), .int .i64 (knl m.heads 12 : Int), .int .i64 (knl m.heads 13 : Int)] w4 (w.heap.size + 1) 0
  have h9b := put_below [.slice k.la m.list.length k.lc, .int .i64 (knl m.heads 0 : Int), .int .i64 (knl m.heads 1 : Int), .int .i64 (knl m.heads 2 : Int), .int .i64 (knl m.heads 3 : Int), .int .i64 (knl m.heads 4 : Int), .int .i64 (knl m.heads 5 : Int), .int .i64 (knl m.heads 6 : Int), .int .i64 (knl m.heads 7 : Int), .int .i64 (knl m.heads 8 : Int), .int .i64 (knl m.heads 9 : Int), .int .i64 (knl m.heads 10 : Int), .int .i64 (knl m.heads 11 : Int), .int .i64 (knl m.heads 12 : Int), .int .i64 (knl m.heads 13 : Int)] w4 w4 (w.heap.size + 1) (w.heap.size + 1) 0 (Below.refl _ _) (Nat.le_refl _)
  refine wpAnyH_ready (rs := [6]) (by kernel_rfl) (by simp) ?_
  refine AllReadyH.cons (o := ⟨none, _, _, _, _, _⟩) rfl (fun K hK => ?_) AllReadyH.nil
  go_simp
  obtain ⟨W9, hW9⟩ : ∃ W9, put w4 (w.heap.size + 1) 0 [.slice k.la m.list.length k.lc, .int .i64 (knl m.heads 0 : Int), .int .i64 (knl m.heads 1 : Int), .int .i64 (knl m.heads 2 : Int), .int .i64 (knl m.heads 3 : Int), .int .i64 (knl m.heads 4 : Int), .int .i64 (knl m.heads 5 : Int), .int .i64 (knl m.heads 6 : Int), .int .i64 (knl m.heads 7 : Int), .int .i64 (knl m.heads 8 : Int), .int .i64 (knl m.heads 9 : Int), .int .i64 (knl m.heads 10 : Int), .int .i64 (knl m.heads 11 : Int), .int .i64 (knl m.heads 12 : Int), .int .i64 (knl m.heads 13 : Int)] = W9 := ⟨_, rfl⟩
  show K _ (put w4 (w.heap.size + 1) 0 [.slice k.la m.list.length k.lc, .int .i64 (knl m.heads 0 : Int), .int .i64 (knl m.heads 1 : Int), .int .i64 (knl m.heads 2 : Int), .int .i64 (knl m.heads 3 : Int), .int .i64 (knl m.heads 4 : Int), .int .i64 (knl m.heads 5 : Int), .int .i64 (knl m.heads 6 : Int), .int .i64 (knl m.heads 7 : Int), .int .i64 (knl m.heads 8 : Int), .int .i64 (knl m.heads 9 : Int), .int .i64 (knl m.heads 10 : Int), .int .i64 (knl m.heads 11 : Int), .int .i64 (knl m.heads 12 : Int), .int .i64 (knl m.heads 13 : Int)])
  rw [hW9] at h9 h9o h9b ⊢
  have hS9 := HSB.out W9 ((h9o _ (by omega)).trans (HB_w4.block _ (by have := HZ.out; omega)))
  refine hK.out _ _ hS9 (fun hHeld => ?_)
  clear hK K hW9 r0 z0 r1 z1 r2 z2 r3 z3 r4 z4 r5 z5 r6 z6 r7 z7 r8 z8 r9 z9 r10 z10 r11 z11 r12 z12 r13 z13 r14 z14
  refine wpAnyH_done (by kernel_rfl) ?_ _
  have h9v : W9.heap[w.heap.size + 1]? = some (.cells (arrV k.la m.list.length k.lc (knl m.heads)) 69 (0, 0)) := by rw [← arrV_set]; exact h9
  have p0 : W9.cell? ⟨w.heap.size + 1, 0, none⟩ = some (.slice k.la m.list.length k.lc) := by rw [cell_at h9v]; rfl
  have p1 : W9.cell? ⟨w.heap.size + 1, 1, none⟩ = some (.int .i64 (knl m.heads 0 : Int)) := by rw [cell_at h9v]; rfl
  have p2 : W9.cell? ⟨w.heap.size + 1, 2, none⟩ = some (.int .i64 (knl m.heads 1 : Int)) := by rw [cell_at h9v]; rfl
  have p3 : W9.cell? ⟨w.heap.size + 1, 3, none⟩ = some (.int .i64 (knl m.heads 2 : Int)) := by rw [cell_at h9v]; rfl
  have p4 : W9.cell? ⟨w.heap.size + 1, 4, none⟩ = some (.int .i64 (knl m.heads 3 : Int)) := by rw [cell_at h9v]; rfl
  have p5 : W9.cell? ⟨w.heap.size + 1, 5, none⟩ = some (.int .i64 (knl m.heads 4 : Int)) := by rw [cell_at h9v]; rfl
  have p6 : W9.cell? ⟨w.heap.size + 1, 6, none⟩ = some (.int .i64 (knl m.heads 5 : Int)) := by rw [cell_at h9v]; rfl
  have p7 : W9.cell? ⟨w.heap.size + 1, 7, none⟩ = some (.int .i64 (knl m.heads 6 : Int)) := by rw [cell_at h9v]; rfl
  have p8 : W9.cell? ⟨w.heap.size + 1, 8, none⟩ = some (.int .i64 (knl m.heads 7 : Int)) := by rw [cell_at h9v]; rfl
  have p9 : W9.cell? ⟨w.heap.size + 1, 9, none⟩ = some (.int .i64 (knl m.heads 8 : Int)) := by rw [cell_at h9v]; rfl
  have p10 : W9.cell? ⟨w.heap.size + 1, 10, none⟩ = some (.int .i64 (knl m.heads 9 : Int)) := by rw [cell_at h9v]; rfl
  have p11 : W9.cell? ⟨w.heap.size + 1, 11, none⟩ = some (.int .i64 (knl m.heads 10 : Int)) := by rw [cell_at h9v]; rfl
  have p12 : W9.cell? ⟨w.heap.size + 1, 12, none⟩ = some (.int .i64 (knl m.heads 11 : Int)) := by rw [cell_at h9v]; rfl
  have p13 : W9.cell? ⟨w.heap.size + 1, 13, none⟩ = some (.int .i64 (knl m.heads 12 : Int)) := by rw [cell_at h9v]; rfl
  have p14 : W9.cell? ⟨w.heap.size + 1, 14, none⟩ = some (.int .i64 (knl m.heads 13 : Int)) := by rw [cell_at h9v]; rfl
  have HFB : Hid (Below w.heap.size w W9) := (HB.out.trans (HB_w4.mono HB.out.size)).trans (h9b.mono (by omega))
  go_wp2_with fail
  exact bodyPost_ret (v := .agg (arrV k.la m.list.length k.lc (knl m.heads))) (by simp [results, Tryd.f40, go_sem, p0, p1, p2, p3, p4, p5, p6, p7, p8, p9, p10, p11, p12, p13, p14]) rfl ⟨rfl, HFB.out⟩

end Go.Proofs.YtmodonligaejhaaDoor

/- The verifier's firstLeak, walked: the result of the first instruction that has one. -/
import Derived.Test.YtmodonligaejhaaDoorTnL
import Derived.Deep.CutRange
namespace Go.Proofs.YtmodonligaejhaaDoor
open Go.RowKit
set_option linter.unusedVariables false

/-- A list of masks in blocks of D. -/
def RsAt (w : World) (D : Nat → Prop) (rs : List Nat) (a : Option Addr) : Prop := ∀ (i m : Nat), rs[i]? = some m → ∃ b o, a = some ⟨b, o, none⟩ ∧ D b ∧ w.cell? ⟨b, o + i, none⟩ = some (.int .u16 (m : Int))
theorem RsAt.wide {w w' : World} {D D' : Nat → Prop} {rs : List Nat} {a : Option Addr} (h : RsAt w D rs a) (hb : ∀ k, D k → w'.heap[k]? = w.heap[k]?) (hl : ∀ k, D k → D' k) : RsAt w' D' rs a := fun i m hm => by
  obtain ⟨b, o, ha, hd, h0⟩ := h i m hm
  exact ⟨b, o, ha, hl b hd, (World.cell?_of_block (w := w) (hb b hd)).trans h0⟩
/-- The first result. -/
def FstN (sv sa : Nat → Bool) (l : List Ins) (rs : List Nat) (w : World) (e : Ending) (w' : World) : Prop := ∃ c i, e = .returned (.tuple #[.int .i64 c, .int .i64 i]) ∧ FstL sv sa l rs c i ∧ Below w.heap.size w w'

set_option maxRecDepth 100000 in
set_option maxHeartbeats 8000000 in
/-- **firstLeak.** -/
theorem fstL_one (m : Cd) (l : List Ins) (la ra : Option Addr) (n lc rc : Nat) (f : Nat → Nat) (rs : List Nat) (w : World) (h : NAt w (fun b => b < w.heap.size) l la) (hn : l.length = n) (hrn : rs.length = n) (hm : n ≤ 400) (hf : KnT m f) (hit : ∀ (i : Nat) (x : Ins), l[i]? = some x → InsT m.vars.length m.arrs.length x) (hr : RsAt w (fun b => b < w.heap.size) rs ra) (hlt : ∀ (i q : Nat), rs[i]? = some q → q < 32768) :
    Calls Tryd.prog 41 #[.agg (arrV la n lc f), .slice ra n rc] w (FstN (secN m.vars) (secN m.arrs) l rs w) := by
  obtain ⟨W, hW⟩ : ∃ W, w.alloc (.cells (arrV la n lc f) 69) = W := ⟨_, rfl⟩
  have hB : Below w.heap.size w W := by rw [← hW]; exact (Below.refl _ w).alloc (Nat.le_refl _) _
  have hbx : W.heap[w.heap.size]? = some (.cells (arrV la n lc f) 69 (0, 0)) := by rw [← hW]; exact heap_alloc_new w _
  have hz : W.heap.size = w.heap.size + 1 := by rw [← hW]; simp
  have H : Hid (∀ v, Below W.heap.size W v → v.heap[w.heap.size]? = some (.cells (arrV la n lc f) 69 (0, 0)) ∧ NAt v (fun b => b < w.heap.size) l la ∧ RsAt v (fun b => b < w.heap.size) rs ra) := fun v hv => by
    have hb := hB.trans (hv.mono hB.size)
    exact ⟨(hv.block _ (by omega)).trans hbx, h.wide (fun k hk => hb.block k hk) fun _ hk => hk, hr.wide (fun k hk => hb.block k hk) fun _ hk => hk⟩
  have v0 : W.cell? ⟨w.heap.size, 0, none⟩ = some (.slice la n lc) := by rw [cell_at hbx]; rfl
  have HN := Lib.hid hn
  have HRN := Lib.hid hrn
  have HF := Lib.hid hf
  have HIT := Lib.hid hit
  have HLT := Lib.hid hlt
  have HW := Lib.hid hW
  have HB := Lib.hid hB
  have HZ : Hid (W.heap.size = w.heap.size + 1) := hz
  clear h hn hrn hf hit hr hlt hW hB hz hbx
  unfold arrV at HW
  go_enter Tryd.func41, Tryd.ntmps41
  go_wp2_with (first | rw [HW.out] | fail)
  clear v0
  go_loopw [12] (fun i wr => ∃ j : Nat, j ≤ n ∧ i = .int .i64 j ∧ Hid (NoLk (secN m.vars) (secN m.arrs) l rs j) ∧ Hid (Below W.heap.size W wr)) (fun i _ => n - (intOf i).toNat)
  case atStart => exact ⟨0, Nat.zero_le _, rfl, (fun q x mq hq => absurd hq (Nat.not_lt_zero _) : NoLk (secN m.vars) (secN m.arrs) l rs 0), Below.refl _ _⟩
  case round =>
    obtain ⟨j, hj, rfl, HNL, HBR⟩ := hrel
    by_cases hjn : j < n
    · obtain ⟨x, hx⟩ : ∃ x, l[j]? = some x := ⟨l[j]'(by rw [HN.out]; exact hjn), List.getElem?_eq_getElem _⟩
      obtain ⟨mj, hmj⟩ : ∃ mj, rs[j]? = some mj := ⟨rs[j]'(by rw [HRN.out]; exact hjn), List.getElem?_eq_getElem _⟩
      obtain ⟨hbv, hnat, hrs⟩ := H.out wr HBR.out
      obtain ⟨bi, oi, rfl, hbil, e0, e1, e2, e3, e4⟩ := hnat.2 j x hx
      obtain ⟨rb, ro, rfl, hrbl, d0⟩ := hrs j mj hmj
      have hszr := HBR.out.size
      have hszw := HZ.out
      obtain ⟨W1, hW1⟩ : ∃ W1, wr.alloc (.cells #[.int .i64 0, .int .i64 0, .int .i64 0, .int .i64 0, .int .i64 0] 54) = W1 := ⟨_, rfl⟩
      have hrow : W1.heap[wr.heap.size]? = some (.cells #[.int .i64 0, .int .i64 0, .int .i64 0, .int .i64 0, .int .i64 0] 54 (0, 0)) := by rw [← hW1]; exact heap_alloc_new wr _
      have hB1 : Below wr.heap.size wr W1 := by rw [← hW1]; exact (Below.refl _ wr).alloc (Nat.le_refl _) _
      have r0 : ∃ u, W1.cell? ⟨wr.heap.size, 0, none⟩ = some u := cell_ex hrow 0 (by simp)
      obtain ⟨u0', r0⟩ := r0
      have z0 := frozen_at hrow 0
      have r1 : ∃ u, W1.cell? ⟨wr.heap.size, 1, none⟩ = some u := cell_ex hrow 1 (by simp)
      obtain ⟨u1', r1⟩ := r1
      have z1 := frozen_at hrow 1
      have r2 : ∃ u, W1.cell? ⟨wr.heap.size, 2, none⟩ = some u := cell_ex hrow 2 (by simp)
      obtain ⟨u2', r2⟩ := r2
      have z2 := frozen_at hrow 2
      have r3 : ∃ u, W1.cell? ⟨wr.heap.size, 3, none⟩ = some u := cell_ex hrow 3 (by simp)
      obtain ⟨u3', r3⟩ := r3
      have z3 := frozen_at hrow 3
      have r4 : ∃ u, W1.cell? ⟨wr.heap.size, 4, none⟩ = some u := cell_ex hrow 4 (by simp)
      obtain ⟨u4', r4⟩ := r4
      have z4 := frozen_at hrow 4
      have h9 := put_row [.int .i64 x.op, .int .i64 x.fa, .int .i64 x.fb, .int .i64 x.fc, .int .i64 x.fd] W1 wr.heap.size 0 _ _ hrow
      have h9b := put_below [.int .i64 x.op, .int .i64 x.fa, .int .i64 x.fb, .int .i64 x.fc, .int .i64 x.fd] wr W1 wr.heap.size wr.heap.size 0 hB1 (Nat.le_refl _)
      have h9s := put_size [.int .i64 x.op, .int .i64 x.fa, .int .i64 x.fb, .int .i64 x.fc, .int .i64 x.fd] W1 wr.heap.size 0
      obtain ⟨W2, hW2⟩ : ∃ W2, put W1 wr.heap.size 0 [.int .i64 x.op, .int .i64 x.fa, .int .i64 x.fb, .int .i64 x.fc, .int .i64 x.fd] = W2 := ⟨_, rfl⟩
      rw [hW2] at h9 h9b h9s
      have hz1 : W1.heap.size = wr.heap.size + 1 := by rw [← hW1]; simp
      have h9v : W2.heap[wr.heap.size]? = some (.cells (arrI x) 54 (0, 0)) := by
        have e : setL #[.int .i64 0, .int .i64 0, .int .i64 0, .int .i64 0, .int .i64 0] 0 [.int .i64 x.op, .int .i64 x.fa, .int .i64 x.fb, .int .i64 x.fc, .int .i64 x.fd] = arrI x := by simp [setL]
        rw [← e]; exact h9
      have HSB : Hid (∀ v, Below W2.heap.size W2 v → v.cell? ⟨w.heap.size, 0, none⟩ = some (.slice (some ⟨bi, oi, none⟩) n lc) ∧ v.cell? ⟨w.heap.size, 1, none⟩ = some (.int .i64 (f 0 : Int)) ∧ v.cell? ⟨w.heap.size, 2, none⟩ = some (.int .i64 (f 1 : Int)) ∧ v.cell? ⟨w.heap.size, 3, none⟩ = some (.int .i64 (f 2 : Int)) ∧ v.cell? ⟨w.heap.size, 4, none⟩ = some (.int .i64 (f 3 : Int)) ∧ v.cell? ⟨w.heap.size, 5, none⟩ = some (.int .i64 (f 4 : Int)) ∧ v.cell? ⟨w.heap.size, 6, none⟩ = some (.int .i64 (f 5 : Int)) ∧ v.cell? ⟨w.heap.size, 7, none⟩ = some (.int .i64 (f 6 : Int)) ∧ v.cell? ⟨w.heap.size, 8, none⟩ = some (.int .i64 (f 7 : Int)) ∧ v.cell? ⟨w.heap.size, 9, none⟩ = some (.int .i64 (f 8 : Int)) ∧ v.cell? ⟨w.heap.size, 10, none⟩ = some (.int .i64 (f 9 : Int)) ∧ v.cell? ⟨w.heap.size, 11, none⟩ = some (.int .i64 (f 10 : Int)) ∧ v.cell? ⟨w.heap.size, 12, none⟩ = some (.int .i64 (f 11 : Int)) ∧ v.cell? ⟨w.heap.size, 13, none⟩ = some (.int .i64 (f 12 : Int)) ∧ v.cell? ⟨w.heap.size, 14, none⟩ = some (.int .i64 (f 13 : Int)) ∧ v.cell? ⟨wr.heap.size, 0, none⟩ = some (.int .i64 x.op) ∧ v.cell? ⟨wr.heap.size, 1, none⟩ = some (.int .i64 x.fa) ∧ v.cell? ⟨wr.heap.size, 2, none⟩ = some (.int .i64 x.fb) ∧ v.cell? ⟨wr.heap.size, 3, none⟩ = some (.int .i64 x.fc) ∧ v.cell? ⟨wr.heap.size, 4, none⟩ = some (.int .i64 x.fd) ∧ v.cell? ⟨rb, ro + j, none⟩ = some (.int .u16 (mj : Int))) := fun v hv => by
        have hb := h9b.trans (hv.mono (by omega))
        have h1 := (hb.block w.heap.size (by omega)).trans hbv
        have h2 := (hv.block wr.heap.size (by omega)).trans h9v
        exact ⟨(by rw [cell_at h1]; rfl), (by rw [cell_at h1]; rfl), (by rw [cell_at h1]; rfl), (by rw [cell_at h1]; rfl), (by rw [cell_at h1]; rfl), (by rw [cell_at h1]; rfl), (by rw [cell_at h1]; rfl), (by rw [cell_at h1]; rfl), (by rw [cell_at h1]; rfl), (by rw [cell_at h1]; rfl), (by rw [cell_at h1]; rfl), (by rw [cell_at h1]; rfl), (by rw [cell_at h1]; rfl), (by rw [cell_at h1]; rfl), (by rw [cell_at h1]; rfl), (by rw [cell_at h2]; rfl), (by rw [cell_at h2]; rfl), (by rw [cell_at h2]; rfl), (by rw [cell_at h2]; rfl), (by rw [cell_at h2]; rfl), (hb.cell (p := ⟨rb, _, none⟩) (by show rb < _; omega)).trans d0⟩
      have HLK := Lib.hid (leak_one m (some ⟨bi, oi, none⟩) n lc f x mj W2.drew HF.out (HIT.out j x hx) (HLT.out j mj hmj))
      have HX := Lib.hid hx
      have HMJ := Lib.hid hmj
      have HW1 := Lib.hid hW1
      have HW2 := Lib.hid hW2
      have HB2 : Hid (Below W.heap.size W W2) := HBR.out.trans (h9b.mono hszr)
      have HZ2 : Hid (W.heap.size ≤ W2.heap.size) := by show _ ≤ _; omega
      clear hx hmj hbv hnat hrs hbil hrbl d0 hW1 hrow hB1 h9 h9b h9s hW2 hz1 h9v
      obtain ⟨c, hc⟩ : ∃ c, leakM (secN m.vars) (secN m.arrs) x mj = c := ⟨_, rfl⟩
      have HC := Lib.hid hc
      rw [hc] at HLK
      clear hc
      go_upto_region 4 with (first | rw [HW1.out] | fail)
      show Code.wp _ _ _ _ (put W1 wr.heap.size 0 [.int .i64 x.op, .int .i64 x.fa, .int .i64 x.fb, .int .i64 x.fc, .int .i64 x.fd])
      rw [HW2.out]
      clear r0 z0 r1 z1 r2 z2 r3 z3 r4 z4 e0 e1 e2 e3 e4 HW1 HW2
      by_cases hc0 : c = 0
      · have hcb : (c != 0) = false := by simpa using hc0
        have HNL2 : Hid (NoLk (secN m.vars) (secN m.arrs) l rs (j + 1)) := HNL.out.succ HX.out HMJ.out (by rw [HC.out]; exact hc0)
        clear hc0
        refine wp_region_held_drew (S := fun v => v.cell? ⟨w.heap.size, 0, none⟩ = some (.slice (some ⟨bi, oi, none⟩) n lc) ∧ v.cell? ⟨w.heap.size, 1, none⟩ = some (.int .i64 (f 0 : Int)) ∧ v.cell? ⟨w.heap.size, 2, none⟩ = some (.int .i64 (f 1 : Int)) ∧ v.cell? ⟨w.heap.size, 3, none⟩ = some (.int .i64 (f 2 : Int)) ∧ v.cell? ⟨w.heap.size, 4, none⟩ = some (.int .i64 (f 3 : Int)) ∧ v.cell? ⟨w.heap.size, 5, none⟩ = some (.int .i64 (f 4 : Int)) ∧ v.cell? ⟨w.heap.size, 6, none⟩ = some (.int .i64 (f 5 : Int)) ∧ v.cell? ⟨w.heap.size, 7, none⟩ = some (.int .i64 (f 6 : Int)) ∧ v.cell? ⟨w.heap.size, 8, none⟩ = some (.int .i64 (f 7 : Int)) ∧ v.cell? ⟨w.heap.size, 9, none⟩ = some (.int .i64 (f 8 : Int)) ∧ v.cell? ⟨w.heap.size, 10, none⟩ = some (.int .i64 (f 9 : Int)) ∧ v.cell? ⟨w.heap.size, 11, none⟩ = some (.int .i64 (f 10 : Int)) ∧ v.cell? ⟨w.heap.size, 12, none⟩ = some (.int .i64 (f 11 : Int)) ∧ v.cell? ⟨w.heap.size, 13, none⟩ = some (.int .i64 (f 12 : Int)) ∧ v.cell? ⟨w.heap.size, 14, none⟩ = some (.int .i64 (f 13 : Int)) ∧ v.cell? ⟨wr.heap.size, 0, none⟩ = some (.int .i64 x.op) ∧ v.cell? ⟨wr.heap.size, 1, none⟩ = some (.int .i64 x.fa) ∧ v.cell? ⟨wr.heap.size, 2, none⟩ = some (.int .i64 x.fb) ∧ v.cell? ⟨wr.heap.size, 3, none⟩ = some (.int .i64 x.fc) ∧ v.cell? ⟨wr.heap.size, 4, none⟩ = some (.int .i64 x.fd) ∧ v.cell? ⟨rb, ro + j, none⟩ = some (.int .u16 (mj : Int))) (by kernel_rfl) (HSB.out W2 (Below.refl _ _)) (fun hHeld => ?_)
        refine wpAnyH_take (i := 0) (oi := ⟨some 17, _, _, _, _, _⟩) (v := ?_) rfl (by kernel_rfl) (by kernel_rfl) (by kernel_rfl) (fun _ _ _ h => h) (Or.inl ⟨by rfl, ?_⟩) (by assumption) ?_
        rotate_left
        · intro w hSw; (try dsimp only at hSw); go_simp; (try with_reducible rfl)
        simp only [Act.put, List.setIfInBounds_toArray, List.set_cons_zero, List.set_cons_succ]
        refine wpAnyH_take (i := 1) (oi := ⟨some 18, _, _, _, _, _⟩) (v := ?_) rfl (by kernel_rfl) (by kernel_rfl) (by kernel_rfl) (fun _ _ _ h => h) (Or.inl ⟨by rfl, ?_⟩) (by assumption) ?_
        rotate_left
        · intro w hSw; (try dsimp only at hSw); go_simp; (try with_reducible rfl)
        simp only [Act.put, List.setIfInBounds_toArray, List.set_cons_zero, List.set_cons_succ]
        refine wpAnyH_take (i := 2) (oi := ⟨some 19, _, _, _, _, _⟩) (v := ?_) rfl (by kernel_rfl) (by kernel_rfl) (by kernel_rfl) (fun _ _ _ h => h) (Or.inl ⟨by rfl, ?_⟩) (by assumption) ?_
        rotate_left
        · intro w hSw; (try dsimp only at hSw); go_simp; (try with_reducible rfl)
        simp only [Act.put, List.setIfInBounds_toArray, List.set_cons_zero, List.set_cons_succ]
        refine wpAnyH_take (i := 3) (oi := ⟨some 20, _, _, _, _, _⟩) (v := ?_) rfl (by kernel_rfl) (by kernel_rfl) (by kernel_rfl) (fun _ _ _ h => h) (Or.inl ⟨by rfl, ?_⟩) (by assumption) ?_
        rotate_left
        · intro w hSw; (try dsimp only at hSw); go_simp; (try with_reducible rfl)
        simp only [Act.put, List.setIfInBounds_toArray, List.set_cons_zero, List.set_cons_succ]
        refine wpAnyH_take (i := 4) (oi := ⟨some 21, _, _, _, _, _⟩) (v := ?_) rfl (by kernel_rfl) (by kernel_rfl) (by kernel_rfl) (fun _ _ _ h => h) (Or.inl ⟨by rfl, ?_⟩) (by assumption) ?_
        rotate_left
        · intro w hSw; (try dsimp only at hSw); go_simp; (try with_reducible rfl)
        simp only [Act.put, List.setIfInBounds_toArray, List.set_cons_zero, List.set_cons_succ]
        refine wpAnyH_take (i := 5) (oi := ⟨some 22, _, _, _, _, _⟩) (v := ?_) rfl (by kernel_rfl) (by kernel_rfl) (by kernel_rfl) (fun _ _ _ h => h) (Or.inl ⟨by rfl, ?_⟩) (by assumption) ?_
        rotate_left
        · intro w hSw; (try dsimp only at hSw); go_simp; (try with_reducible rfl)
        simp only [Act.put, List.setIfInBounds_toArray, List.set_cons_zero, List.set_cons_succ]
        refine wpAnyH_ready (rs := [6]) (by kernel_rfl) (by simp) ?_
        refine AllReadyH.cons (o := ⟨some 23, _, _, _, _, _⟩) rfl (fun K hK => ?_) AllReadyH.nil
        go_simp
        refine (HLK.out).mono ?_
        rintro e w6 ⟨rfl, hb6⟩
        have HB6 : Below W2.heap.size W2 w6 := (Below.refl _ W2).drew.trans hb6
        have hS6 := HSB.out w6 HB6
        go_wp2_with fail
        refine hK.out _ _ hS6 (fun hHeld => ?_)
        clear hK K hb6
        try simp only [Act.put, List.setIfInBounds_toArray, List.set_cons_zero, List.set_cons_succ]
        refine wpAnyH_take (i := 7) (oi := ⟨some 8, _, _, _, _, _⟩) (v := ?_) rfl (by kernel_rfl) (by kernel_rfl) (by kernel_rfl) (fun _ _ _ h => h) (Or.inl ⟨by rfl, ?_⟩) (by assumption) ?_
        rotate_left
        · intro w hSw; (try dsimp only at hSw); go_simp; (try with_reducible rfl)
        simp only [Act.put, List.setIfInBounds_toArray, List.set_cons_zero, List.set_cons_succ]
        refine wpAnyH_done (by kernel_rfl) ?_ _
        have HB7 : Hid (Below W.heap.size W w6) := HB2.out.trans (HB6.mono HZ2.out)
        clear HB6 hS6
        go_wp2_with fail
        go_roundw
        case rel => exact ⟨j + 1, by omega, by go_num, HNL2, HB7⟩
        case measure => simp [intOf]; omega
      · have hcb : (c != 0) = true := by simpa using hc0
        have HC0 : Hid (c ≠ 0) := hc0
        clear hc0
        refine wp_region_held_drew (S := fun v => v.cell? ⟨w.heap.size, 0, none⟩ = some (.slice (some ⟨bi, oi, none⟩) n lc) ∧ v.cell? ⟨w.heap.size, 1, none⟩ = some (.int .i64 (f 0 : Int)) ∧ v.cell? ⟨w.heap.size, 2, none⟩ = some (.int .i64 (f 1 : Int)) ∧ v.cell? ⟨w.heap.size, 3, none⟩ = some (.int .i64 (f 2 : Int)) ∧ v.cell? ⟨w.heap.size, 4, none⟩ = some (.int .i64 (f 3 : Int)) ∧ v.cell? ⟨w.heap.size, 5, none⟩ = some (.int .i64 (f 4 : Int)) ∧ v.cell? ⟨w.heap.size, 6, none⟩ = some (.int .i64 (f 5 : Int)) ∧ v.cell? ⟨w.heap.size, 7, none⟩ = some (.int .i64 (f 6 : Int)) ∧ v.cell? ⟨w.heap.size, 8, none⟩ = some (.int .i64 (f 7 : Int)) ∧ v.cell? ⟨w.heap.size, 9, none⟩ = some (.int .i64 (f 8 : Int)) ∧ v.cell? ⟨w.heap.size, 10, none⟩ = some (.int .i64 (f 9 : Int)) ∧ v.cell? ⟨w.heap.size, 11, none⟩ = some (.int .i64 (f 10 : Int)) ∧ v.cell? ⟨w.heap.size, 12, none⟩ = some (.int .i64 (f 11 : Int)) ∧ v.cell? ⟨w.heap.size, 13, none⟩ = some (.int .i64 (f 12 : Int)) ∧ v.cell? ⟨w.heap.size, 14, none⟩ = some (.int .i64 (f 13 : Int)) ∧ v.cell? ⟨wr.heap.size, 0, none⟩ = some (.int .i64 x.op) ∧ v.cell? ⟨wr.heap.size, 1, none⟩ = some (.int .i64 x.fa) ∧ v.cell? ⟨wr.heap.size, 2, none⟩ = some (.int .i64 x.fb) ∧ v.cell? ⟨wr.heap.size, 3, none⟩ = some (.int .i64 x.fc) ∧ v.cell? ⟨wr.heap.size, 4, none⟩ = some (.int .i64 x.fd) ∧ v.cell? ⟨rb, ro + j, none⟩ = some (.int .u16 (mj : Int))) (by kernel_rfl) (HSB.out W2 (Below.refl _ _)) (fun hHeld => ?_)
        refine wpAnyH_take (i := 0) (oi := ⟨some 17, _, _, _, _, _⟩) (v := ?_) rfl (by kernel_rfl) (by kernel_rfl) (by kernel_rfl) (fun _ _ _ h => h) (Or.inl ⟨by rfl, ?_⟩) (by assumption) ?_
        rotate_left
        · intro w hSw; (try dsimp only at hSw); go_simp; (try with_reducible rfl)
        simp only [Act.put, List.setIfInBounds_toArray, List.set_cons_zero, List.set_cons_succ]
        refine wpAnyH_take (i := 1) (oi := ⟨some 18, _, _, _, _, _⟩) (v := ?_) rfl (by kernel_rfl) (by kernel_rfl) (by kernel_rfl) (fun _ _ _ h => h) (Or.inl ⟨by rfl, ?_⟩) (by assumption) ?_
        rotate_left
        · intro w hSw; (try dsimp only at hSw); go_simp; (try with_reducible rfl)
        simp only [Act.put, List.setIfInBounds_toArray, List.set_cons_zero, List.set_cons_succ]
        refine wpAnyH_take (i := 2) (oi := ⟨some 19, _, _, _, _, _⟩) (v := ?_) rfl (by kernel_rfl) (by kernel_rfl) (by kernel_rfl) (fun _ _ _ h => h) (Or.inl ⟨by rfl, ?_⟩) (by assumption) ?_
        rotate_left
        · intro w hSw; (try dsimp only at hSw); go_simp; (try with_reducible rfl)
        simp only [Act.put, List.setIfInBounds_toArray, List.set_cons_zero, List.set_cons_succ]
        refine wpAnyH_take (i := 3) (oi := ⟨some 20, _, _, _, _, _⟩) (v := ?_) rfl (by kernel_rfl) (by kernel_rfl) (by kernel_rfl) (fun _ _ _ h => h) (Or.inl ⟨by rfl, ?_⟩) (by assumption) ?_
        rotate_left
        · intro w hSw; (try dsimp only at hSw); go_simp; (try with_reducible rfl)
        simp only [Act.put, List.setIfInBounds_toArray, List.set_cons_zero, List.set_cons_succ]
        refine wpAnyH_take (i := 4) (oi := ⟨some 21, _, _, _, _, _⟩) (v := ?_) rfl (by kernel_rfl) (by kernel_rfl) (by kernel_rfl) (fun _ _ _ h => h) (Or.inl ⟨by rfl, ?_⟩) (by assumption) ?_
        rotate_left
        · intro w hSw; (try dsimp only at hSw); go_simp; (try with_reducible rfl)
        simp only [Act.put, List.setIfInBounds_toArray, List.set_cons_zero, List.set_cons_succ]
        refine wpAnyH_take (i := 5) (oi := ⟨some 22, _, _, _, _, _⟩) (v := ?_) rfl (by kernel_rfl) (by kernel_rfl) (by kernel_rfl) (fun _ _ _ h => h) (Or.inl ⟨by rfl, ?_⟩) (by assumption) ?_
        rotate_left
        · intro w hSw; (try dsimp only at hSw); go_simp; (try with_reducible rfl)
        simp only [Act.put, List.setIfInBounds_toArray, List.set_cons_zero, List.set_cons_succ]
        refine wpAnyH_ready (rs := [6]) (by kernel_rfl) (by simp) ?_
        refine AllReadyH.cons (o := ⟨some 23, _, _, _, _, _⟩) rfl (fun K hK => ?_) AllReadyH.nil
        go_simp
        refine (HLK.out).mono ?_
        rintro e w6 ⟨rfl, hb6⟩
        have HB6 : Below W2.heap.size W2 w6 := (Below.refl _ W2).drew.trans hb6
        have hS6 := HSB.out w6 HB6
        go_wp2_with fail
        refine hK.out _ _ hS6 (fun hHeld => ?_)
        clear hK K hb6
        try simp only [Act.put, List.setIfInBounds_toArray, List.set_cons_zero, List.set_cons_succ]
        refine wpAnyH_take (i := 7) (oi := ⟨some 8, _, _, _, _, _⟩) (v := ?_) rfl (by kernel_rfl) (by kernel_rfl) (by kernel_rfl) (fun _ _ _ h => h) (Or.inl ⟨by rfl, ?_⟩) (by assumption) ?_
        rotate_left
        · intro w hSw; (try dsimp only at hSw); go_simp; (try with_reducible rfl)
        simp only [Act.put, List.setIfInBounds_toArray, List.set_cons_zero, List.set_cons_succ]
        refine wpAnyH_done (by kernel_rfl) ?_ _
        have HFIN : Hid (FstN (secN m.vars) (secN m.arrs) l rs w (.returned (.tuple #[.int .i64 c, .int .i64 (j : Int)])) w6) := ⟨c, j, rfl, .inl ⟨j, x, mj, HX.out, HMJ.out, HC.out, HC0.out, rfl, HNL.out⟩, HB.out.trans ((HB2.out.trans (HB6.mono HZ2.out)).mono HB.out.size)⟩
        clear HB6 hS6
        go_wp2_with fail
        go_ret2
        exact HFIN.out
    · obtain rfl : j = n := by omega
      have HFIN : Hid (FstN (secN m.vars) (secN m.arrs) l rs w (.returned (.tuple #[.int .i64 0, .int .i64 (-1)])) wr) := ⟨0, -1, rfl, .inr ⟨by rw [HN.out]; exact HNL.out, rfl, rfl⟩, HB.out.trans (HBR.out.mono HB.out.size)⟩
      clear HNL H
      go_wp2_with fail
      go_ret2
      exact HFIN.out

end Go.Proofs.YtmodonligaejhaaDoor

/- The verifier's firstLeak, walked: the result of the first instruction that has one. -/
import Derived.Test.YtjgmhncfijegmaaDoorTnL
import Derived.Deep.CutRange
import Derived.Test.YtjgmhncfijegmaaDoorTnI
import Derived.Test.YtjgmhncfijegmaaDoorTnX
import Derived.Test.YtjgmhncfijegmaaDoorCdE
import Derived.Test.YtjgmhncfijegmaaDoorCdT
import Derived.Deep.RegionWith
import Derived.Deep.RegionHeld3
namespace Go.Proofs.YtjgmhncfijegmaaDoor
open Go.RowKit
set_option linter.unusedVariables false

/-- A list of masks in blocks of D. -/
def RsAt (w : World) (D : Nat → Prop) (rs : List Nat) (a : Option Addr) : Prop := ∀ (i m : Nat), rs[i]? = some m → ∃ b o, a = some ⟨b, o, none⟩ ∧ D b ∧ w.cell? ⟨b, o + i, none⟩ = some (.int .u16 (m : Int))
theorem RsAt.wide {w w' : World} {D D' : Nat → Prop} {rs : List Nat} {a : Option Addr} (h : RsAt w D rs a) (hb : ∀ k, D k → w'.heap[k]? = w.heap[k]?) (hl : ∀ k, D k → D' k) : RsAt w' D' rs a := fun i m hm => by
  obtain ⟨b, o, ha, hd, h0⟩ := h i m hm
  exact ⟨b, o, ha, hl b hd, (World.cell?_of_block (w := w) (hb b hd)).trans h0⟩
/-- The first result. -/
def FstN (sv sa : Nat → Bool) (l : List Ins) (rs : List Nat) (w : World) (e : Ending) (w' : World) : Prop := ∃ c i, e = .returned (.tuple #[.int .i64 c, .int .i64 i]) ∧ FstL sv sa l rs c i ∧ Below w.heap.size w w'

set_option maxRecDepth 100000 in
set_option maxHeartbeats 8000000 in
/-- **firstLeak.** -/
theorem fstL_one (m : Cd) (l : List Ins) (la ra : Option Addr) (n lc rc : Nat) (f : Nat → Nat) (rs : List Nat) (w : World) (h : NAt w (fun b => b < w.heap.size) l la) (hn : l.length = n) (hrn : rs.length = n) (hm : n ≤ 400) (hf : KnT m f) (hit : ∀ (i : Nat) (x : Ins), l[i]? = some x → InsT m.vars.length m.arrs.length x) (hr : RsAt w (fun b => b < w.heap.size) rs ra) (hlt : ∀ (i q : Nat), rs[i]? = some q → q < 32768) :
    Calls Tryd.prog 44 #[.agg (arrV la n lc f), .slice ra n rc] w (FstN (secN m.vars) (secN m.arrs) l rs w) := by
  obtain ⟨W, hW⟩ : ∃ W, w.alloc (.cells (arrV la n lc f) 69) = W := ⟨_, rfl⟩
  have hB : Below w.heap.size w W := by rw [← hW]; exact (Below.refl _ w).alloc (Nat.le_refl _) _
  have hbx : W.heap[w.heap.size]? = some (.cells (arrV la n lc f) 69 (0, 0)) := by rw [← hW]; exact heap_alloc_new w _
  have hz : W.heap.size = w.heap.size + 1 := by rw [← hW]; simp
  have H : Hid (∀ v, Below W.heap.size W v → v.heap[w.heap.size]? = some (.cells (arrV la n lc f) 69 (0, 0)) ∧ NAt v (fun b => b < w.heap.size) l la ∧ RsAt v (fun b => b < w.heap.size) rs ra) := fun v hv => by
    have hb := hB.trans (hv.mono hB.size)
    exact ⟨(hv.block _ (by omega)).trans hbx, h.wide (fun k hk => hb.block k hk) fun _ hk => hk, hr.wide (fun k hk => hb.block k hk) fun _ hk => hk⟩
  have v0 : W.cell? ⟨w.heap.size, 0, none⟩ = some (.slice la n lc) := by rw [cell_at hbx]; rfl
  have HN := Lib.hid hn
  have HRN := Lib.hid hrn
  have HF := Lib.hid hf
  have HIT := Lib.hid hit
  have HLT := Lib.hid hlt
  have HW := Lib.hid hW
  have HB := Lib.hid hB
  have HZ : Hid (W.heap.size = w.heap.size + 1) := hz
  clear h hn hrn hf hit hr hlt hW hB hz hbx
  unfold arrV at HW
  go_enter Tryd.func44, Tryd.ntmps44
  go_wp2_with (first | rw [HW.out] | fail)
  clear v0
  go_loopw [12] (fun i wr => ∃ j : Nat, j ≤ n ∧ i = .int .i64 j ∧ Hid (NoLk (secN m.vars) (secN m.arrs) l rs j) ∧ Hid (Below W.heap.size W wr)) (fun i _ => n - (intOf i).toNat)
  case atStart => exact ⟨0, Nat.zero_le _, rfl, (fun q x mq hq => absurd hq (Nat.not_lt_zero _) : NoLk (secN m.vars) (secN m.arrs) l rs 0), Below.refl _ _⟩
  case round =>
    obtain ⟨j, hj, rfl, HNL, HBR⟩ := hrel
    by_cases hjn : j < n
    · obtain ⟨x, hx⟩ : ∃ x, l[j]? = some x := ⟨l[j]'(by rw [HN.out]; exact hjn), List.getElem?_eq_getElem _⟩
      obtain ⟨mj, hmj⟩ : ∃ mj, rs[j]? = some mj := ⟨rs[j]'(by rw [HRN.out]; exact hjn), List.getElem?_eq_getElem _⟩
      obtain ⟨hbv, hnat, hrs⟩ := H.out wr HBR.out
      obtain ⟨bi, oi, rfl, hbil, e0, e1, e2, e3, e4⟩ := hnat.2 j x hx
      obtain ⟨rb, ro, rfl, hrbl, d0⟩ := hrs j mj hmj
      have hszr := HBR.out.size
      have hszw := HZ.out
      obtain ⟨W1, hW1⟩ : ∃ W1, wr.alloc (.cells #[.int .i64 0, .int .i64 0, .int .i64 0, .int .i64 0, .int .i64 0] 54) = W1 := ⟨_, rfl⟩
      have hrow : W1.heap[wr.heap.size]? = some (.cells #[.int .i64 0, .int .i64 0, .int .i64 0, .int .i64 0, .int .i64 0] 54 (0, 0)) := by rw [← hW1]; exact heap_alloc_new wr _
      have hB1 : Below wr.heap.size wr W1 := by rw [← hW1]; exact (Below.refl _ wr).alloc (Nat.le_refl _) _
      have r0 : ∃ u, W1.cell? ⟨wr.heap.size, 0, none⟩ = some u := cell_ex hrow 0 (by simp)
      obtain ⟨u0', r0⟩ := r0
      have z0 := frozen_at hrow 0
      have r1 : ∃ u, W1.cell? ⟨wr.heap.size, 1, none⟩ = some u := cell_ex hrow 1 (by simp)
      obtain ⟨u1', r1⟩ := r1
      have z1 := frozen_at hrow 1
      have r2 : ∃ u, W1.cell? ⟨wr.heap.size, 2, none⟩ = some u := cell_ex hrow 2 (by simp)
      obtain ⟨u2', r2⟩ := r2
      have z2 := frozen_at hrow 2
      have r3 : ∃ u, W1.cell? ⟨wr.heap.size, 3, none⟩ = some u := cell_ex hrow 3 (by simp)
      obtain ⟨u3', r3⟩ := r3
      have z3 := frozen_at hrow 3
      have r4 : ∃ u, W1.cell? ⟨wr.heap.size, 4, none⟩ = some u := cell_ex hrow 4 (by simp)
      obtain ⟨u4', r4⟩ := r4
      have z4 := frozen_at hrow 4
      have h9 := put_row [.int .i64 x.op, .int .i64 x.fa, .int .i64 x.fb, .int .i64 x.fc, .int .i64 x.fd] W1 wr.heap.size 0 _ _ hrow
      have h9b := put_below [.int .i64 x.op, .int .i64 x.fa, .int .i64 x.fb, .int .i64 x.fc, .int .i64 x.fd] wr W1 wr.heap.size wr.heap.size 0 hB1 (Nat.le_refl _)
      have h9s := put_size [.int .i64 x.op, .int .i64 x.fa, .int .i64 x.fb, .int .i64 x.fc, .int .i64 x.fd] W1 wr.heap.size 0
      obtain ⟨W2, hW2⟩ : ∃ W2, put W1 wr.heap.size 0 [.int .i64 x.op, .int .i64 x.fa, .int .i64 x.fb, .int .i64 x.fc, .int .i64 x.fd] = W2 := ⟨_, rfl⟩
      rw [hW2] at h9 h9b h9s
      have hz1 : W1.heap.size = wr.heap.size + 1 := by rw [← hW1]; simp
      have h9v : W2.heap[wr.heap.size]? = some (.cells (arrI x) 54 (0, 0)) := by
        have e : setL #[.int .i64 0, .int .i64 0, .int .i64 0, .int .i64 0, .int .i64 0] 0 [.int .i64 x.op, .int .i64 x.fa, .int .i64 x.fb, .int .i64 x.fc, .int .i64 x.fd] = arrI x := by simp [setL]
        rw [← e]; exact h9
      have HSB : Hid (∀ v, Below W2.heap.size W2 v → v.cell? ⟨w.heap.size, 0, none⟩ = some (.slice (some ⟨bi, oi, none⟩) n lc) ∧ v.cell? ⟨w.heap.size, 1, none⟩ = some (.int .i64 (f 0 : Int)) ∧ v.cell? ⟨w.heap.size, 2, none⟩ = some (.int .i64 (f 1 : Int)) ∧ v.cell? ⟨w.heap.size, 3, none⟩ = some (.int .i64 (f 2 : Int)) ∧ v.cell? ⟨w.heap.size, 4, none⟩ = some (.int .i64 (f 3 : Int)) ∧ v.cell? ⟨w.heap.size, 5, none⟩ = some (.int .i64 (f 4 : Int)) ∧ v.cell? ⟨w.heap.size, 6, none⟩ = some (.int .i64 (f 5 : Int)) ∧ v.cell? ⟨w.heap.size, 7, none⟩ = some (.int .i64 (f 6 : Int)) ∧ v.cell? ⟨w.heap.size, 8, none⟩ = some (.int .i64 (f 7 : Int)) ∧ v.cell? ⟨w.heap.size, 9, none⟩ = some (.int .i64 (f 8 : Int)) ∧ v.cell? ⟨w.heap.size, 10, none⟩ = some (.int .i64 (f 9 : Int)) ∧ v.cell? ⟨w.heap.size, 11, none⟩ = some (.int .i64 (f 10 : Int)) ∧ v.cell? ⟨w.heap.size, 12, none⟩ = some (.int .i64 (f 11 : Int)) ∧ v.cell? ⟨w.heap.size, 13, none⟩ = some (.int .i64 (f 12 : Int)) ∧ v.cell? ⟨w.heap.size, 14, none⟩ = some (.int .i64 (f 13 : Int)) ∧ v.cell? ⟨wr.heap.size, 0, none⟩ = some (.int .i64 x.op) ∧ v.cell? ⟨wr.heap.size, 1, none⟩ = some (.int .i64 x.fa) ∧ v.cell? ⟨wr.heap.size, 2, none⟩ = some (.int .i64 x.fb) ∧ v.cell? ⟨wr.heap.size, 3, none⟩ = some (.int .i64 x.fc) ∧ v.cell? ⟨wr.heap.size, 4, none⟩ = some (.int .i64 x.fd) ∧ v.cell? ⟨rb, ro + j, none⟩ = some (.int .u16 (mj : Int))) := fun v hv => by
        have hb := h9b.trans (hv.mono (by omega))
        have h1 := (hb.block w.heap.size (by omega)).trans hbv
        have h2 := (hv.block wr.heap.size (by omega)).trans h9v
        exact ⟨(by rw [cell_at h1]; rfl), (by rw [cell_at h1]; rfl), (by rw [cell_at h1]; rfl), (by rw [cell_at h1]; rfl), (by rw [cell_at h1]; rfl), (by rw [cell_at h1]; rfl), (by rw [cell_at h1]; rfl), (by rw [cell_at h1]; rfl), (by rw [cell_at h1]; rfl), (by rw [cell_at h1]; rfl), (by rw [cell_at h1]; rfl), (by rw [cell_at h1]; rfl), (by rw [cell_at h1]; rfl), (by rw [cell_at h1]; rfl), (by rw [cell_at h1]; rfl), (by rw [cell_at h2]; rfl), (by rw [cell_at h2]; rfl), (by rw [cell_at h2]; rfl), (by rw [cell_at h2]; rfl), (by rw [cell_at h2]; rfl), (hb.cell (p := ⟨rb, _, none⟩) (by show rb < _; omega)).trans d0⟩
      have HLK := Lib.hid (leak_one m (some ⟨bi, oi, none⟩) n lc f x mj W2.drew HF.out (HIT.out j x hx) (HLT.out j mj hmj))
      have HX := Lib.hid hx
      have HMJ := Lib.hid hmj
      have HW1 := Lib.hid hW1
      have HW2 := Lib.hid hW2
      have HB2 : Hid (Below W.heap.size W W2) := HBR.out.trans (h9b.mono hszr)
      have HZ2 : Hid (W.heap.size ≤ W2.heap.size) := by show _ ≤ _; omega
      clear hx hmj hbv hnat hrs hbil hrbl d0 hW1 hrow hB1 h9 h9b h9s hW2 hz1 h9v
      obtain ⟨c, hc⟩ : ∃ c, leakM (secN m.vars) (secN m.arrs) x mj = c := ⟨_, rfl⟩
      have HC := Lib.hid hc
      rw [hc] at HLK
      clear hc
      go_upto_region 4 with (first | rw [HW1.out] | fail)
      show Code.wp _ _ _ _ (put W1 wr.heap.size 0 [.int .i64 x.op, .int .i64 x.fa, .int .i64 x.fb, .int .i64 x.fc, .int .i64 x.fd])
      rw [HW2.out]
      clear r0 z0 r1 z1 r2 z2 r3 z3 r4 z4 e0 e1 e2 e3 e4 HW1 HW2
      by_cases hc0 : c = 0
      · have hcb : (c != 0) = false := by simpa using hc0
        have HNL2 : Hid (NoLk (secN m.vars) (secN m.arrs) l rs (j + 1)) := HNL.out.succ HX.out HMJ.out (by rw [HC.out]; exact hc0)
        clear hc0
        refine wp_region_held_drew (S := fun v => v.cell? ⟨w.heap.size, 0, none⟩ = some (.slice (some ⟨bi, oi, none⟩) n lc) ∧ v.cell? ⟨w.heap.size, 1, none⟩ = some (.int .i64 (f 0 : Int)) ∧ v.cell? ⟨w.heap.size, 2, none⟩ = some (.int .i64 (f 1 : Int)) ∧ v.cell? ⟨w.heap.size, 3, none⟩ = some (.int .i64 (f 2 : Int)) ∧ v.cell? ⟨w.heap.size, 4, none⟩ = some (.int .i64 (f 3 : Int)) ∧ v.cell? ⟨w.heap.size, 5, none⟩ = some (.int .i64 (f 4 : Int)) ∧ v.cell? ⟨w.heap.size, 6, none⟩ = some (.int .i64 (f 5 : Int)) ∧ v.cell? ⟨w.heap.size, 7, none⟩ = some (.int .i64 (f 6 : Int)) ∧ v.cell? ⟨w.heap.size, 8, none⟩ = some (.int .i64 (f 7 : Int)) ∧ v.cell? ⟨w.heap.size, 9, none⟩ = some (.int .i64 (f 8 : Int)) ∧ v.cell? ⟨w.heap.size, 10, none⟩ = some (.int .i64 (f 9 : Int)) ∧ v.cell? ⟨w.heap.size, 11, none⟩ = some (.int .i64 (f 10 : Int)) ∧ v.cell? ⟨w.heap.size, 12, none⟩ = some (.int .i64 (f 11 : Int)) ∧ v.cell? ⟨w.heap.size, 13, none⟩ = some (.int .i64 (f 12 : Int)) ∧ v.cell? ⟨w.heap.size, 14, none⟩ = some (.int .i64 (f 13 : Int)) ∧ v.cell? ⟨wr.heap.size, 0, none⟩ = some (.int .i64 x.op) ∧ v.cell? ⟨wr.heap.size, 1, none⟩ = some (.int .i64 x.fa) ∧ v.cell? ⟨wr.heap.size, 2, none⟩ = some (.int .i64 x.fb) ∧ v.cell? ⟨wr.heap.size, 3, none⟩ = some (.int .i64 x.fc) ∧ v.cell? ⟨wr.heap.size, 4, none⟩ = some (.int .i64 x.fd) ∧ v.cell? ⟨rb, ro + j, none⟩ = some (.int .u16 (mj : Int))) (by kernel_rfl) (HSB.out W2 (Below.refl _ _)) (fun hHeld => ?_)
        refine wpAnyH_take (i := 0) (oi := ⟨some 17, _, _, _, _, _⟩) (v := ?_) rfl (by kernel_rfl) (by kernel_rfl) (by kernel_rfl) (fun _ _ _ h => h) (Or.inl ⟨by rfl, ?_⟩) (by assumption) ?_
        rotate_left
        · intro w hSw; (try dsimp only at hSw); go_simp; (try with_reducible rfl)
        simp only [Act.put, List.setIfInBounds_toArray, List.set_cons_zero, List.set_cons_succ]
        refine wpAnyH_take (i := 1) (oi := ⟨some 18, _, _, _, _, _⟩) (v := ?_) rfl (by kernel_rfl) (by kernel_rfl) (by kernel_rfl) (fun _ _ _ h => h) (Or.inl ⟨by rfl, ?_⟩) (by assumption) ?_
        rotate_left
        · intro w hSw; (try dsimp only at hSw); go_simp; (try with_reducible rfl)
        simp only [Act.put, List.setIfInBounds_toArray, List.set_cons_zero, List.set_cons_succ]
        refine wpAnyH_take (i := 2) (oi := ⟨some 19, _, _, _, _, _⟩) (v := ?_) rfl (by kernel_rfl) (by kernel_rfl) (by kernel_rfl) (fun _ _ _ h => h) (Or.inl ⟨by rfl, ?_⟩) (by assumption) ?_
        rotate_left
        · intro w hSw; (try dsimp only at hSw); go_simp; (try with_reducible rfl)
        simp only [Act.put, List.setIfInBounds_toArray, List.set_cons_zero, List.set_cons_succ]
        refine wpAnyH_take (i := 3) (oi := ⟨some 20, _, _, _, _, _⟩) (v := ?_) rfl (by kernel_rfl) (by kernel_rfl) (by kernel_rfl) (fun _ _ _ h => h) (Or.inl ⟨by rfl, ?_⟩) (by assumption) ?_
        rotate_left
        · intro w hSw; (try dsimp only at hSw); go_simp; (try with_reducible rfl)
        simp only [Act.put, List.setIfInBounds_toArray, List.set_cons_zero, List.set_cons_succ]
        refine wpAnyH_take (i := 4) (oi := ⟨some 21, _, _, _, _, _⟩) (v := ?_) rfl (by kernel_rfl) (by kernel_rfl) (by kernel_rfl) (fun _ _ _ h => h) (Or.inl ⟨by rfl, ?_⟩) (by assumption) ?_
        rotate_left
        · intro w hSw; (try dsimp only at hSw); go_simp; (try with_reducible rfl)
        simp only [Act.put, List.setIfInBounds_toArray, List.set_cons_zero, List.set_cons_succ]
        refine wpAnyH_take (i := 5) (oi := ⟨some 22, _, _, _, _, _⟩) (v := ?_) rfl (by kernel_rfl) (by kernel_rfl) (by kernel_rfl) (fun _ _ _ h => h) (Or.inl ⟨by rfl, ?_⟩) (by assumption) ?_
        rotate_left
        · intro w hSw; (try dsimp only at hSw); go_simp; (try with_reducible rfl)
        simp only [Act.put, List.setIfInBounds_toArray, List.set_cons_zero, List.set_cons_succ]
        refine wpAnyH_ready (rs := [6]) (by kernel_rfl) (by simp) ?_
        refine AllReadyH.cons (o := ⟨some 23, _, _, _, _, _⟩) rfl (fun K hK => ?_) AllReadyH.nil
        go_simp
        refine (HLK.out).mono ?_
        rintro e w6 ⟨rfl, hb6⟩
        have HB6 : Below W2.heap.size W2 w6 := (Below.refl _ W2).drew.trans hb6
        have hS6 := HSB.out w6 HB6
        go_wp2_with fail
        refine hK.out _ _ hS6 (fun hHeld => ?_)
        clear hK K hb6
        try simp only [Act.put, List.setIfInBounds_toArray, List.set_cons_zero, List.set_cons_succ]
        refine wpAnyH_take (i := 7) (oi := ⟨some 8, _, _, _, _, _⟩) (v := ?_) rfl (by kernel_rfl) (by kernel_rfl) (by kernel_rfl) (fun _ _ _ h => h) (Or.inl ⟨by rfl, ?_⟩) (by assumption) ?_
        rotate_left
        · intro w hSw; (try dsimp only at hSw); go_simp; (try with_reducible rfl)
        simp only [Act.put, List.setIfInBounds_toArray, List.set_cons_zero, List.set_cons_succ]
        refine wpAnyH_done (by kernel_rfl) ?_ _
        have HB7 : Hid (Below W.heap.size W w6) := HB2.out.trans (HB6.mono HZ2.out)
        clear HB6 hS6
        go_wp2_with fail
        go_roundw
        case rel => exact ⟨j + 1, by omega, by go_num, HNL2, HB7⟩
        case measure => simp [intOf]; omega
      · have hcb : (c != 0) = true := by simpa using hc0
        have HC0 : Hid (c ≠ 0) := hc0
        clear hc0
        refine wp_region_held_drew (S := fun v => v.cell? ⟨w.heap.size, 0, none⟩ = some (.slice (some ⟨bi, oi, none⟩) n lc) ∧ v.cell? ⟨w.heap.size, 1, none⟩ = some (.int .i64 (f 0 : Int)) ∧ v.cell? ⟨w.heap.size, 2, none⟩ = some (.int .i64 (f 1 : Int)) ∧ v.cell? ⟨w.heap.size, 3, none⟩ = some (.int .i64 (f 2 : Int)) ∧ v.cell? ⟨w.heap.size, 4, none⟩ = some (.int .i64 (f 3 : Int)) ∧ v.cell? ⟨w.heap.size, 5, none⟩ = some (.int .i64 (f 4 : Int)) ∧ v.cell? ⟨w.heap.size, 6, none⟩ = some (.int .i64 (f 5 : Int)) ∧ v.cell? ⟨w.heap.size, 7, none⟩ = some (.int .i64 (f 6 : Int)) ∧ v.cell? ⟨w.heap.size, 8, none⟩ = some (.int .i64 (f 7 : Int)) ∧ v.cell? ⟨w.heap.size, 9, none⟩ = some (.int .i64 (f 8 : Int)) ∧ v.cell? ⟨w.heap.size, 10, none⟩ = some (.int .i64 (f 9 : Int)) ∧ v.cell? ⟨w.heap.size, 11, none⟩ = some (.int .i64 (f 10 : Int)) ∧ v.cell? ⟨w.heap.size, 12, none⟩ = some (.int .i64 (f 11 : Int)) ∧ v.cell? ⟨w.heap.size, 13, none⟩ = some (.int .i64 (f 12 : Int)) ∧ v.cell? ⟨w.heap.size, 14, none⟩ = some (.int .i64 (f 13 : Int)) ∧ v.cell? ⟨wr.heap.size, 0, none⟩ = some (.int .i64 x.op) ∧ v.cell? ⟨wr.heap.size, 1, none⟩ = some (.int .i64 x.fa) ∧ v.cell? ⟨wr.heap.size, 2, none⟩ = some (.int .i64 x.fb) ∧ v.cell? ⟨wr.heap.size, 3, none⟩ = some (.int .i64 x.fc) ∧ v.cell? ⟨wr.heap.size, 4, none⟩ = some (.int .i64 x.fd) ∧ v.cell? ⟨rb, ro + j, none⟩ = some (.int .u16 (mj : Int))) (by kernel_rfl) (HSB.out W2 (Below.refl _ _)) (fun hHeld => ?_)
        refine wpAnyH_take (i := 0) (oi := ⟨some 17, _, _, _, _, _⟩) (v := ?_) rfl (by kernel_rfl) (by kernel_rfl) (by kernel_rfl) (fun _ _ _ h => h) (Or.inl ⟨by rfl, ?_⟩) (by assumption) ?_
        rotate_left
        · intro w hSw; (try dsimp only at hSw); go_simp; (try with_reducible rfl)
        simp only [Act.put, List.setIfInBounds_toArray, List.set_cons_zero, List.set_cons_succ]
        refine wpAnyH_take (i := 1) (oi := ⟨some 18, _, _, _, _, _⟩) (v := ?_) rfl (by kernel_rfl) (by kernel_rfl) (by kernel_rfl) (fun _ _ _ h => h) (Or.inl ⟨by rfl, ?_⟩) (by assumption) ?_
        rotate_left
        · intro w hSw; (try dsimp only at hSw); go_simp; (try with_reducible rfl)
        simp only [Act.put, List.setIfInBounds_toArray, List.set_cons_zero, List.set_cons_succ]
        refine wpAnyH_take (i := 2) (oi := ⟨some 19, _, _, _, _, _⟩) (v := ?_) rfl (by kernel_rfl) (by kernel_rfl) (by kernel_rfl) (fun _ _ _ h => h) (Or.inl ⟨by rfl, ?_⟩) (by assumption) ?_
        rotate_left
        · intro w hSw; (try dsimp only at hSw); go_simp; (try with_reducible rfl)
        simp only [Act.put, List.setIfInBounds_toArray, List.set_cons_zero, List.set_cons_succ]
        refine wpAnyH_take (i := 3) (oi := ⟨some 20, _, _, _, _, _⟩) (v := ?_) rfl (by kernel_rfl) (by kernel_rfl) (by kernel_rfl) (fun _ _ _ h => h) (Or.inl ⟨by rfl, ?_⟩) (by assumption) ?_
        rotate_left
        · intro w hSw; (try dsimp only at hSw); go_simp; (try with_reducible rfl)
        simp only [Act.put, List.setIfInBounds_toArray, List.set_cons_zero, List.set_cons_succ]
        refine wpAnyH_take (i := 4) (oi := ⟨some 21, _, _, _, _, _⟩) (v := ?_) rfl (by kernel_rfl) (by kernel_rfl) (by kernel_rfl) (fun _ _ _ h => h) (Or.inl ⟨by rfl, ?_⟩) (by assumption) ?_
        rotate_left
        · intro w hSw; (try dsimp only at hSw); go_simp; (try with_reducible rfl)
        simp only [Act.put, List.setIfInBounds_toArray, List.set_cons_zero, List.set_cons_succ]
        refine wpAnyH_take (i := 5) (oi := ⟨some 22, _, _, _, _, _⟩) (v := ?_) rfl (by kernel_rfl) (by kernel_rfl) (by kernel_rfl) (fun _ _ _ h => h) (Or.inl ⟨by rfl, ?_⟩) (by assumption) ?_
        rotate_left
        · intro w hSw; (try dsimp only at hSw); go_simp; (try with_reducible rfl)
        simp only [Act.put, List.setIfInBounds_toArray, List.set_cons_zero, List.set_cons_succ]
        refine wpAnyH_ready (rs := [6]) (by kernel_rfl) (by simp) ?_
        refine AllReadyH.cons (o := ⟨some 23, _, _, _, _, _⟩) rfl (fun K hK => ?_) AllReadyH.nil
        go_simp
        refine (HLK.out).mono ?_
        rintro e w6 ⟨rfl, hb6⟩
        have HB6 : Below W2.heap.size W2 w6 := (Below.refl _ W2).drew.trans hb6
        have hS6 := HSB.out w6 HB6
        go_wp2_with fail
        refine hK.out _ _ hS6 (fun hHeld => ?_)
        clear hK K hb6
        try simp only [Act.put, List.setIfInBounds_toArray, List.set_cons_zero, List.set_cons_succ]
        refine wpAnyH_take (i := 7) (oi := ⟨some 8, _, _, _, _, _⟩) (v := ?_) rfl (by kernel_rfl) (by kernel_rfl) (by kernel_rfl) (fun _ _ _ h => h) (Or.inl ⟨by rfl, ?_⟩) (by assumption) ?_
        rotate_left
        · intro w hSw; (try dsimp only at hSw); go_simp; (try with_reducible rfl)
        simp only [Act.put, List.setIfInBounds_toArray, List.set_cons_zero, List.set_cons_succ]
        refine wpAnyH_done (by kernel_rfl) ?_ _
        have HFIN : Hid (FstN (secN m.vars) (secN m.arrs) l rs w (.returned (.tuple #[.int .i64 c, .int .i64 (j : Int)])) w6) := ⟨c, j, rfl, .inl ⟨j, x, mj, HX.out, HMJ.out, HC.out, HC0.out, rfl, HNL.out⟩, HB.out.trans ((HB2.out.trans (HB6.mono HZ2.out)).mono HB.out.size)⟩
        clear HB6 hS6
        go_wp2_with fail
        go_ret2
        exact HFIN.out
    · obtain rfl : j = n := by omega
      have HFIN : Hid (FstN (secN m.vars) (secN m.arrs) l rs w (.returned (.tuple #[.int .i64 0, .int .i64 (-1)])) wr) := ⟨0, -1, rfl, .inr ⟨by rw [HN.out]; exact HNL.out, rfl, rfl⟩, HB.out.trans (HBR.out.mono HB.out.size)⟩
      clear HNL H
      go_wp2_with fail
      go_ret2
      exact HFIN.out

end Go.Proofs.YtjgmhncfijegmaaDoor

namespace Go.Proofs.YtjgmhncfijegmaaDoor
open Go.RowKit
set_option linter.unusedVariables false

/-- What CheckCode answers. -/
def CkV (m : Cd) (c i : Int) : Prop := (codeB m = true → ∃ rs, IsT (secN m.vars) (secN m.arrs) m.list rs ∧ FstL (secN m.vars) (secN m.arrs) m.list rs c i) ∧ (codeB m = false → c = 5 ∧ i = -1)
theorem CkV.uniq {m : Cd} {c i c' i' : Int} (h : CkV m c i) (h' : CkV m c' i') : c = c' ∧ i = i' := by
  cases hq : codeB m
  · obtain ⟨rfl, rfl⟩ := h.2 hq
    obtain ⟨rfl, rfl⟩ := h'.2 hq
    exact ⟨rfl, rfl⟩
  · obtain ⟨rs, h1, h2⟩ := h.1 hq
    obtain ⟨rs', h3, h4⟩ := h'.1 hq
    obtain rfl := h1.uniq h3
    exact h2.uniq h4
def CkN (m : Cd) (w : World) (e : Ending) (w' : World) : Prop := ∃ c i, e = .returned (.tuple #[.int .i64 c, .int .i64 i]) ∧ CkV m c i ∧ Below w.heap.size w w'

set_option maxRecDepth 100000 in
set_option maxHeartbeats 8000000 in
/-- **spec.CheckCode.** -/
theorem sCC_one (m : Cd) (k : CK) (w : World) (h : CL w m k) : Calls Tryd.prog 13 #[aggC m k] w (CkN m w) := by
  obtain ⟨W, hW⟩ : ∃ W, w.alloc (.cells (arrC m k) 30) = W := ⟨_, rfl⟩
  have hB : Below w.heap.size w W := by rw [← hW]; exact (Below.refl _ w).alloc (Nat.le_refl _) _
  have hX : BoxC W w.heap.size m k := by rw [← hW]; exact BoxC.new _ _ _ _
  have H : Hid (∀ v, Below W.heap.size W v → BoxC v w.heap.size m k ∧ CL v m k) := fun v hv => ⟨hX.below hv hX.lt, (h.below hB).below hv⟩
  have c0 := hX.c0
  have c1 := hX.c1
  have c2 := hX.c2
  have HW := Lib.hid hW
  have HB := Lib.hid hB
  unfold arrC at HW
  have HV := Lib.hid (sCV_one m k W (h.below hB))
  clear h hB hX hW
  go_enter Tryd.func13, Tryd.ntmps13
  go_wp2_with (first | rw [HW.out] | fail)
  refine HV.out.mono ?_
  rintro e w2 ⟨rfl, hb2⟩
  have HB2 : Hid (Below w.heap.size w w2) := HB.out.trans (hb2.mono HB.out.size)
  have HL2 : Hid (Below W.heap.size W w2) := hb2
  obtain ⟨x0, x1, x2⟩ : w2.cell? ⟨w.heap.size, 0, none⟩ = some (.slice k.va m.vars.length k.vc) ∧ w2.cell? ⟨w.heap.size, 1, none⟩ = some (.slice k.aa m.arrs.length k.ac) ∧ w2.cell? ⟨w.heap.size, 2, none⟩ = some (.slice k.la m.list.length k.lc) := by
    have b := (H.out w2 hb2).1
    exact ⟨b.c0, b.c1, b.c2⟩
  obtain ⟨q, hq⟩ : ∃ q, codeB m = q := ⟨_, rfl⟩
  have HQ := Lib.hid hq
  rw [hq]
  clear hb2 hq HV c0 c1 c2
  cases q
  case false =>
    have HFIN : Hid (CkN m w (.returned (.tuple #[.int .i64 5, .int .i64 (-1)])) w2) := ⟨5, -1, rfl, ⟨fun e => (by rw [HQ.out] at e; cases e), fun _ => ⟨rfl, rfl⟩⟩, HB2.out⟩
    go_wp2_with fail
    go_ret2
    exact HFIN.out
  case true =>
    have HI := Lib.hid (sInf_one m k w2 (H.out w2 HL2.out).2 HQ.out)
    go_wp2_with fail
    refine HI.out.mono ?_
    rintro e w3 ⟨rs, ta, tc, rfl, hist, hbbs, hb3⟩
    have HIS := Lib.hid hist
    have HL3 : Hid (Below W.heap.size W w3) := HL2.out.trans (hb3.mono HL2.out.size)
    have HBS : Hid (∀ v, Below w3.heap.size w3 v → BBs v (fun b => b < v.heap.size) (rs.map rowB) ta) := fun v hv => hbbs.below hv
    obtain ⟨n, hn⟩ : ∃ n, m.list.length = n := ⟨_, rfl⟩
    have HN := Lib.hid hn
    have HIT : Hid (∀ (i : Nat) (x : Ins), m.list[i]? = some x → InsT m.vars.length m.arrs.length x) := fun i x hx => codeB_ins HQ.out hx
    have HD := Lib.hid (codeB_decl HQ.out)
    have hn4 : n ≤ 400 := by rw [← hn]; exact (codeB_ok HQ.out).le
    rw [hn]
    clear hist hbbs hb3 HI hn x0 x1 x2
    go_wp2_with fail
    go_loopw [5] (fun i wr => ∃ j : Nat, j ≤ n ∧ i = .int .i64 j ∧ Hid (NoLk (secN m.vars) (secN m.arrs) m.list rs j) ∧ Hid (Below w3.heap.size w3 wr)) (fun i _ => n - (intOf i).toNat)
    case atStart => exact ⟨0, Nat.zero_le _, rfl, (fun q x mq hq => absurd hq (Nat.not_lt_zero _) : NoLk (secN m.vars) (secN m.arrs) m.list rs 0), Below.refl _ _⟩
    case round =>
      obtain ⟨j, hj, rfl, HNL, HBR⟩ := hrel
      have HWR : Hid (Below W.heap.size W wr) := HL3.out.trans (HBR.out.mono HL3.out.size)
      obtain ⟨hbx, hcl⟩ := H.out wr HWR.out
      have x0 := hbx.c0
      have x1 := hbx.c1
      have x2 := hbx.c2
      rw [HN.out] at x2
      have HBX := Lib.hid hbx
      have HCL := Lib.hid hcl
      clear hbx hcl
      by_cases hjn : j < n
      · obtain ⟨x, hx⟩ : ∃ x, m.list[j]? = some x := ⟨m.list[j]'(by rw [HN.out]; exact hjn), List.getElem?_eq_getElem _⟩
        obtain ⟨mj, hmj⟩ : ∃ mj, rs[j]? = some mj := ⟨rs[j]'(by rw [HIS.out.1, HN.out]; exact hjn), List.getElem?_eq_getElem _⟩
        obtain ⟨tb, tO, pa, pc, rfl, htb, hpc, hpb⟩ := (HBS.out wr HBR.out).2 j (rowB mj) (by rw [List.getElem?_map, hmj]; rfl)
        obtain ⟨bi, oi, hla, hbil, e0, e1, e2, e3, e4⟩ := HCL.out.2.2.2 j x hx
        have HX := Lib.hid hx
        have HMJ := Lib.hid hmj
        have HGM := Lib.hid (HIS.out.2.1 j mj hmj)
        by_cases hm0 : mj = 0
        · have HNL2 : Hid (NoLk (secN m.vars) (secN m.arrs) m.list rs (j + 1)) := HNL.out.succ HX.out HMJ.out (by rw [hm0]; exact leakM_0 _ _ _)
          rw [hm0] at hpc
          have hpc' : wr.cell? ⟨tb, tO + j, none⟩ = some (.slice pa 0 pc) := hpc
          clear hpc hm0 hx hmj hpb e0 e1 e2 e3 e4 hla hbil
          go_wp2_with fail
          go_roundw
          case rel => exact ⟨j + 1, by omega, by go_num, HNL2, HBR⟩
          case measure => simp [intOf]; omega
        · rw [rowB_len hm0] at hpc
          have HOW : Hid (Calls Tryd.prog 42 #[.agg #[.slice k.va m.vars.length k.vc, .slice k.aa m.arrs.length k.ac, .slice (some ⟨bi, oi, none⟩) n k.lc], aggI x, .slice pa 14 pc] wr.drew (NumB (leakM (secN m.vars) (secN m.arrs) x mj) wr.drew)) := by
            have h9 := sOwn_one m k x mj pa pc wr.drew (HCL.out.below (Below.refl _ wr).drew) HD.out (HIT.out j x hx) hm0 (hpb.wide (fun _ _ => rfl) fun _ hb => hb)
            unfold aggC at h9
            rw [HN.out, hla] at h9
            exact h9
          have HSB : Hid (∀ v, Below wr.heap.size wr v → v.cell? ⟨w.heap.size, 0, none⟩ = some (.slice k.va m.vars.length k.vc) ∧ v.cell? ⟨w.heap.size, 1, none⟩ = some (.slice k.aa m.arrs.length k.ac) ∧ v.cell? ⟨w.heap.size, 2, none⟩ = some (.slice (some ⟨bi, oi, none⟩) n k.lc) ∧ v.cell? ⟨bi, oi + j * 5, none⟩ = some (.int .i64 x.op) ∧ v.cell? ⟨bi, oi + j * 5 + 1, none⟩ = some (.int .i64 x.fa) ∧ v.cell? ⟨bi, oi + j * 5 + 2, none⟩ = some (.int .i64 x.fb) ∧ v.cell? ⟨bi, oi + j * 5 + 3, none⟩ = some (.int .i64 x.fc) ∧ v.cell? ⟨bi, oi + j * 5 + 4, none⟩ = some (.int .i64 x.fd) ∧ v.cell? ⟨tb, tO + j, none⟩ = some (.slice pa 14 pc)) := fun v hv => by
            have b := HBX.out.below hv HBX.out.lt
            have b2 := b.c2
            rw [HN.out, hla] at b2
            exact ⟨b.c0, b.c1, b2, (hv.cell (p := ⟨bi, _, none⟩) hbil).trans e0, (hv.cell (p := ⟨bi, _, none⟩) hbil).trans e1, (hv.cell (p := ⟨bi, _, none⟩) hbil).trans e2, (hv.cell (p := ⟨bi, _, none⟩) hbil).trans e3, (hv.cell (p := ⟨bi, _, none⟩) hbil).trans e4, (hv.cell (p := ⟨tb, _, none⟩) htb).trans hpc⟩
          obtain ⟨c, hc⟩ : ∃ c, leakM (secN m.vars) (secN m.arrs) x mj = c := ⟨_, rfl⟩
          have HC := Lib.hid hc
          rw [hc] at HOW
          rw [hla] at x2
          have hb3r := HBR.out.size
          clear hc hm0 hx hmj hpb e0 e1 e2 e3 e4 hla hbil
          by_cases hc0 : c = 0
          · have hcb : (c != 0) = false := by simpa using hc0
            have HNL2 : Hid (NoLk (secN m.vars) (secN m.arrs) m.list rs (j + 1)) := HNL.out.succ HX.out HMJ.out (by rw [HC.out]; exact hc0)
            clear hc0
            go_wp2_with fail
            refine wp_region_held_drew (S := fun v => v.cell? ⟨w.heap.size, 0, none⟩ = some (.slice k.va m.vars.length k.vc) ∧ v.cell? ⟨w.heap.size, 1, none⟩ = some (.slice k.aa m.arrs.length k.ac) ∧ v.cell? ⟨w.heap.size, 2, none⟩ = some (.slice (some ⟨bi, oi, none⟩) n k.lc) ∧ v.cell? ⟨bi, oi + j * 5, none⟩ = some (.int .i64 x.op) ∧ v.cell? ⟨bi, oi + j * 5 + 1, none⟩ = some (.int .i64 x.fa) ∧ v.cell? ⟨bi, oi + j * 5 + 2, none⟩ = some (.int .i64 x.fb) ∧ v.cell? ⟨bi, oi + j * 5 + 3, none⟩ = some (.int .i64 x.fc) ∧ v.cell? ⟨bi, oi + j * 5 + 4, none⟩ = some (.int .i64 x.fd) ∧ v.cell? ⟨tb, tO + j, none⟩ = some (.slice pa 14 pc)) (by kernel_rfl) (HSB.out wr (Below.refl _ _)) (fun hHeld => ?_)
            refine wpAnyH_take (i := 0) (oi := ⟨some 25, _, _, _, _, _⟩) (v := ?_) rfl (by kernel_rfl) (by kernel_rfl) (by kernel_rfl) (fun _ _ _ h => h) (Or.inl ⟨by rfl, ?_⟩) (by assumption) ?_
            rotate_left
            · intro w hSw; (try dsimp only at hSw); go_simp; (try with_reducible rfl)
            simp only [Act.put, List.setIfInBounds_toArray, List.set_cons_zero, List.set_cons_succ]
            refine wpAnyH_take (i := 1) (oi := ⟨some 26, _, _, _, _, _⟩) (v := ?_) rfl (by kernel_rfl) (by kernel_rfl) (by kernel_rfl) (fun _ _ _ h => h) (Or.inl ⟨by rfl, ?_⟩) (by assumption) ?_
            rotate_left
            · intro w hSw; (try dsimp only at hSw); go_simp; (try with_reducible rfl)
            simp only [Act.put, List.setIfInBounds_toArray, List.set_cons_zero, List.set_cons_succ]
            refine wpAnyH_take (i := 2) (oi := ⟨some 27, _, _, _, _, _⟩) (v := ?_) rfl (by kernel_rfl) (by kernel_rfl) (by kernel_rfl) (fun _ _ _ h => h) (Or.inl ⟨by rfl, ?_⟩) (by assumption) ?_
            rotate_left
            · intro w hSw; (try dsimp only at hSw); go_simp; (try with_reducible rfl)
            simp only [Act.put, List.setIfInBounds_toArray, List.set_cons_zero, List.set_cons_succ]
            refine wpAnyH_take (i := 3) (oi := ⟨some 28, _, _, _, _, _⟩) (v := ?_) rfl (by kernel_rfl) (by kernel_rfl) (by kernel_rfl) (fun _ _ _ h => h) (Or.inl ⟨by rfl, ?_⟩) (by assumption) ?_
            rotate_left
            · intro w hSw; (try dsimp only at hSw); go_simp; (try with_reducible rfl)
            simp only [Act.put, List.setIfInBounds_toArray, List.set_cons_zero, List.set_cons_succ]
            refine wpAnyH_take (i := 4) (oi := ⟨some 29, _, _, _, _, _⟩) (v := ?_) rfl (by kernel_rfl) (by kernel_rfl) (by kernel_rfl) (fun _ _ _ h => h) (Or.inl ⟨by rfl, ?_⟩) (by assumption) ?_
            rotate_left
            · intro w hSw; (try dsimp only at hSw); go_simp; (try with_reducible rfl)
            simp only [Act.put, List.setIfInBounds_toArray, List.set_cons_zero, List.set_cons_succ]
            refine wpAnyH_take (i := 5) (oi := ⟨some 30, _, _, _, _, _⟩) (v := ?_) rfl (by kernel_rfl) (by kernel_rfl) (by kernel_rfl) (fun _ _ _ h => h) (Or.inl ⟨by rfl, ?_⟩) (by assumption) ?_
            rotate_left
            · intro w hSw; (try dsimp only at hSw); go_simp; (try with_reducible rfl)
            simp only [Act.put, List.setIfInBounds_toArray, List.set_cons_zero, List.set_cons_succ]
            refine wpAnyH_take (i := 6) (oi := ⟨some 31, _, _, _, _, _⟩) (v := ?_) rfl (by kernel_rfl) (by kernel_rfl) (by kernel_rfl) (fun _ _ _ h => h) (Or.inl ⟨by rfl, ?_⟩) (by assumption) ?_
            rotate_left
            · intro w hSw; (try dsimp only at hSw); go_simp; (try with_reducible rfl)
            simp only [Act.put, List.setIfInBounds_toArray, List.set_cons_zero, List.set_cons_succ]
            refine wpAnyH_take (i := 7) (oi := ⟨some 32, _, _, _, _, _⟩) (v := ?_) rfl (by kernel_rfl) (by kernel_rfl) (by kernel_rfl) (fun _ _ _ h => h) (Or.inl ⟨by rfl, ?_⟩) (by assumption) ?_
            rotate_left
            · intro w hSw; (try dsimp only at hSw); go_simp; (try with_reducible rfl)
            simp only [Act.put, List.setIfInBounds_toArray, List.set_cons_zero, List.set_cons_succ]
            refine wpAnyH_take (i := 8) (oi := ⟨some 33, _, _, _, _, _⟩) (v := ?_) rfl (by kernel_rfl) (by kernel_rfl) (by kernel_rfl) (fun _ _ _ h => h) (Or.inl ⟨by rfl, ?_⟩) (by assumption) ?_
            rotate_left
            · intro w hSw; (try dsimp only at hSw); go_simp; (try with_reducible rfl)
            simp only [Act.put, List.setIfInBounds_toArray, List.set_cons_zero, List.set_cons_succ]
            refine wpAnyH_take (i := 9) (oi := ⟨some 34, _, _, _, _, _⟩) (v := ?_) rfl (by kernel_rfl) (by kernel_rfl) (by kernel_rfl) (fun _ _ _ h => h) (Or.inl ⟨by rfl, ?_⟩) (by assumption) ?_
            rotate_left
            · intro w hSw; (try dsimp only at hSw); go_simp; (try with_reducible rfl)
            simp only [Act.put, List.setIfInBounds_toArray, List.set_cons_zero, List.set_cons_succ]
            refine wpAnyH_ready (rs := [10]) (by kernel_rfl) (by simp) ?_
            refine AllReadyH.cons (o := ⟨some 35, _, _, _, _, _⟩) rfl (fun K hK => ?_) AllReadyH.nil
            go_simp
            refine (HOW.out).mono ?_
            rintro e w6 ⟨rfl, hb6⟩
            have HB6 : Below wr.heap.size wr w6 := (Below.refl _ wr).drew.trans hb6
            have hS6 := HSB.out w6 HB6
            go_wp2_with fail
            refine hK.out _ _ hS6 (fun hHeld => ?_)
            clear hK K hb6
            try simp only [Act.put, List.setIfInBounds_toArray, List.set_cons_zero, List.set_cons_succ]
            refine wpAnyH_take (i := 11) (oi := ⟨some 6, _, _, _, _, _⟩) (v := ?_) rfl (by kernel_rfl) (by kernel_rfl) (by kernel_rfl) (fun _ _ _ h => h) (Or.inl ⟨by rfl, ?_⟩) (by assumption) ?_
            rotate_left
            · intro w hSw; (try dsimp only at hSw); go_simp; (try with_reducible rfl)
            simp only [Act.put, List.setIfInBounds_toArray, List.set_cons_zero, List.set_cons_succ]
            refine wpAnyH_done (by kernel_rfl) ?_ _
            have HB7 : Hid (Below w3.heap.size w3 w6) := HBR.out.trans (HB6.mono hb3r)
            clear HB6 hS6
            go_wp2_with fail
            go_roundw
            case rel => exact ⟨j + 1, by omega, by go_num, HNL2, HB7⟩
            case measure => simp [intOf]; omega
          · have hcb : (c != 0) = true := by simpa using hc0
            have HC0 : Hid (c ≠ 0) := hc0
            clear hc0
            go_wp2_with fail
            refine wp_region_held_drew (S := fun v => v.cell? ⟨w.heap.size, 0, none⟩ = some (.slice k.va m.vars.length k.vc) ∧ v.cell? ⟨w.heap.size, 1, none⟩ = some (.slice k.aa m.arrs.length k.ac) ∧ v.cell? ⟨w.heap.size, 2, none⟩ = some (.slice (some ⟨bi, oi, none⟩) n k.lc) ∧ v.cell? ⟨bi, oi + j * 5, none⟩ = some (.int .i64 x.op) ∧ v.cell? ⟨bi, oi + j * 5 + 1, none⟩ = some (.int .i64 x.fa) ∧ v.cell? ⟨bi, oi + j * 5 + 2, none⟩ = some (.int .i64 x.fb) ∧ v.cell? ⟨bi, oi + j * 5 + 3, none⟩ = some (.int .i64 x.fc) ∧ v.cell? ⟨bi, oi + j * 5 + 4, none⟩ = some (.int .i64 x.fd) ∧ v.cell? ⟨tb, tO + j, none⟩ = some (.slice pa 14 pc)) (by kernel_rfl) (HSB.out wr (Below.refl _ _)) (fun hHeld => ?_)
            refine wpAnyH_take (i := 0) (oi := ⟨some 25, _, _, _, _, _⟩) (v := ?_) rfl (by kernel_rfl) (by kernel_rfl) (by kernel_rfl) (fun _ _ _ h => h) (Or.inl ⟨by rfl, ?_⟩) (by assumption) ?_
            rotate_left
            · intro w hSw; (try dsimp only at hSw); go_simp; (try with_reducible rfl)
            simp only [Act.put, List.setIfInBounds_toArray, List.set_cons_zero, List.set_cons_succ]
            refine wpAnyH_take (i := 1) (oi := ⟨some 26, _, _, _, _, _⟩) (v := ?_) rfl (by kernel_rfl) (by kernel_rfl) (by kernel_rfl) (fun _ _ _ h => h) (Or.inl ⟨by rfl, ?_⟩) (by assumption) ?_
            rotate_left
            · intro w hSw; (try dsimp only at hSw); go_simp; (try with_reducible rfl)
            simp only [Act.put, List.setIfInBounds_toArray, List.set_cons_zero, List.set_cons_succ]
            refine wpAnyH_take (i := 2) (oi := ⟨some 27, _, _, _, _, _⟩) (v := ?_) rfl (by kernel_rfl) (by kernel_rfl) (by kernel_rfl) (fun _ _ _ h => h) (Or.inl ⟨by rfl, ?_⟩) (by assumption) ?_
            rotate_left
            · intro w hSw; (try dsimp only at hSw); go_simp; (try with_reducible rfl)
            simp only [Act.put, List.setIfInBounds_toArray, List.set_cons_zero, List.set_cons_succ]
            refine wpAnyH_take (i := 3) (oi := ⟨some 28, _, _, _, _, _⟩) (v := ?_) rfl (by kernel_rfl) (by kernel_rfl) (by kernel_rfl) (fun _ _ _ h => h) (Or.inl ⟨by rfl, ?_⟩) (by assumption) ?_
            rotate_left
            · intro w hSw; (try dsimp only at hSw); go_simp; (try with_reducible rfl)
            simp only [Act.put, List.setIfInBounds_toArray, List.set_cons_zero, List.set_cons_succ]
            refine wpAnyH_take (i := 4) (oi := ⟨some 29, _, _, _, _, _⟩) (v := ?_) rfl (by kernel_rfl) (by kernel_rfl) (by kernel_rfl) (fun _ _ _ h => h) (Or.inl ⟨by rfl, ?_⟩) (by assumption) ?_
            rotate_left
            · intro w hSw; (try dsimp only at hSw); go_simp; (try with_reducible rfl)
            simp only [Act.put, List.setIfInBounds_toArray, List.set_cons_zero, List.set_cons_succ]
            refine wpAnyH_take (i := 5) (oi := ⟨some 30, _, _, _, _, _⟩) (v := ?_) rfl (by kernel_rfl) (by kernel_rfl) (by kernel_rfl) (fun _ _ _ h => h) (Or.inl ⟨by rfl, ?_⟩) (by assumption) ?_
            rotate_left
            · intro w hSw; (try dsimp only at hSw); go_simp; (try with_reducible rfl)
            simp only [Act.put, List.setIfInBounds_toArray, List.set_cons_zero, List.set_cons_succ]
            refine wpAnyH_take (i := 6) (oi := ⟨some 31, _, _, _, _, _⟩) (v := ?_) rfl (by kernel_rfl) (by kernel_rfl) (by kernel_rfl) (fun _ _ _ h => h) (Or.inl ⟨by rfl, ?_⟩) (by assumption) ?_
            rotate_left
            · intro w hSw; (try dsimp only at hSw); go_simp; (try with_reducible rfl)
            simp only [Act.put, List.setIfInBounds_toArray, List.set_cons_zero, List.set_cons_succ]
            refine wpAnyH_take (i := 7) (oi := ⟨some 32, _, _, _, _, _⟩) (v := ?_) rfl (by kernel_rfl) (by kernel_rfl) (by kernel_rfl) (fun _ _ _ h => h) (Or.inl ⟨by rfl, ?_⟩) (by assumption) ?_
            rotate_left
            · intro w hSw; (try dsimp only at hSw); go_simp; (try with_reducible rfl)
            simp only [Act.put, List.setIfInBounds_toArray, List.set_cons_zero, List.set_cons_succ]
            refine wpAnyH_take (i := 8) (oi := ⟨some 33, _, _, _, _, _⟩) (v := ?_) rfl (by kernel_rfl) (by kernel_rfl) (by kernel_rfl) (fun _ _ _ h => h) (Or.inl ⟨by rfl, ?_⟩) (by assumption) ?_
            rotate_left
            · intro w hSw; (try dsimp only at hSw); go_simp; (try with_reducible rfl)
            simp only [Act.put, List.setIfInBounds_toArray, List.set_cons_zero, List.set_cons_succ]
            refine wpAnyH_take (i := 9) (oi := ⟨some 34, _, _, _, _, _⟩) (v := ?_) rfl (by kernel_rfl) (by kernel_rfl) (by kernel_rfl) (fun _ _ _ h => h) (Or.inl ⟨by rfl, ?_⟩) (by assumption) ?_
            rotate_left
            · intro w hSw; (try dsimp only at hSw); go_simp; (try with_reducible rfl)
            simp only [Act.put, List.setIfInBounds_toArray, List.set_cons_zero, List.set_cons_succ]
            refine wpAnyH_ready (rs := [10]) (by kernel_rfl) (by simp) ?_
            refine AllReadyH.cons (o := ⟨some 35, _, _, _, _, _⟩) rfl (fun K hK => ?_) AllReadyH.nil
            go_simp
            refine (HOW.out).mono ?_
            rintro e w6 ⟨rfl, hb6⟩
            have HB6 : Below wr.heap.size wr w6 := (Below.refl _ wr).drew.trans hb6
            have hS6 := HSB.out w6 HB6
            go_wp2_with fail
            refine hK.out _ _ hS6 (fun hHeld => ?_)
            clear hK K hb6
            try simp only [Act.put, List.setIfInBounds_toArray, List.set_cons_zero, List.set_cons_succ]
            refine wpAnyH_take (i := 11) (oi := ⟨some 6, _, _, _, _, _⟩) (v := ?_) rfl (by kernel_rfl) (by kernel_rfl) (by kernel_rfl) (fun _ _ _ h => h) (Or.inl ⟨by rfl, ?_⟩) (by assumption) ?_
            rotate_left
            · intro w hSw; (try dsimp only at hSw); go_simp; (try with_reducible rfl)
            simp only [Act.put, List.setIfInBounds_toArray, List.set_cons_zero, List.set_cons_succ]
            refine wpAnyH_done (by kernel_rfl) ?_ _
            have HFIN : Hid (CkN m w (.returned (.tuple #[.int .i64 c, .int .i64 (j : Int)])) w6) := ⟨c, j, rfl, ⟨fun _ => ⟨rs, HIS.out, .inl ⟨j, x, mj, HX.out, HMJ.out, HC.out, HC0.out, rfl, HNL.out⟩⟩, fun e => (by rw [HQ.out] at e; cases e)⟩, HB.out.trans ((HWR.out.trans (HB6.mono HWR.out.size)).mono HB.out.size)⟩
            clear HB6 hS6
            go_wp2_with fail
            go_ret2
            exact HFIN.out
      · obtain rfl : j = n := by omega
        have HFIN : Hid (CkN m w (.returned (.tuple #[.int .i64 0, .int .i64 (-1)])) wr) := ⟨0, -1, rfl, ⟨fun _ => ⟨rs, HIS.out, .inr ⟨by rw [HN.out]; exact HNL.out, rfl, rfl⟩⟩, fun e => (by rw [HQ.out] at e; cases e)⟩, HB.out.trans (HWR.out.mono HB.out.size)⟩
        clear HNL H
        go_wp2_with fail
        go_ret2
        exact HFIN.out

end Go.Proofs.YtjgmhncfijegmaaDoor

namespace Go.Proofs.YtjgmhncfijegmaaDoor
open Go.RowKit
set_option linter.unusedVariables false

theorem RsAt.of_own {w : World} {base n S : Nat} {rs : List Nat} (h : w.ownsRow base 75 1 (.slice (some ⟨S, 0, none⟩) n n) n (rs.map v16)) (hl : rs.length = n) : RsAt w (fun b => b < w.heap.size) rs (some ⟨S, 0, none⟩) := fun i m hm => by
  have hi : i < n := by rw [← hl]; exact (List.getElem?_eq_some_iff.1 hm).1
  refine ⟨S, 0, rfl, (h.lt S rfl).2, ?_⟩
  rw [Nat.zero_add, h.cellAt i (by omega), List.getElem?_map, hm]; rfl

set_option maxRecDepth 100000 in
set_option maxHeartbeats 8000000 in
/-- **impl.CheckCode.** -/
theorem iCC_one (m : Cd) (k : CK) (w : World) (h : CL w m k) (hT : TblF w) : Calls Tryd.prog 14 #[aggC m k] w (CkN m w) := by
  obtain ⟨W, hW⟩ : ∃ W, w.alloc (.cells (arrC m k) 30) = W := ⟨_, rfl⟩
  have hB : Below w.heap.size w W := by rw [← hW]; exact (Below.refl _ w).alloc (Nat.le_refl _) _
  have hX : BoxC W w.heap.size m k := by rw [← hW]; exact BoxC.new _ _ _ _
  have H : Hid (∀ v, Below W.heap.size W v → BoxC v w.heap.size m k ∧ CL v m k) := fun v hv => ⟨hX.below hv hX.lt, (h.below hB).below hv⟩
  have c0 := hX.c0
  have c1 := hX.c1
  have c2 := hX.c2
  have HW := Lib.hid hW
  have HB := Lib.hid hB
  unfold arrC at HW
  have HV := Lib.hid (iCV_one m k W (h.below hB) (hT.below hB hT.lt))
  clear h hT hB hX hW
  go_enter Tryd.func14, Tryd.ntmps14
  go_wp2_with (first | rw [HW.out] | fail)
  refine HV.out.mono ?_
  rintro e w2 ⟨rfl, hb2⟩
  have HB2 : Hid (Below w.heap.size w w2) := HB.out.trans (hb2.mono HB.out.size)
  have HL2 : Hid (Below W.heap.size W w2) := hb2
  obtain ⟨x0, x1, x2⟩ : w2.cell? ⟨w.heap.size, 0, none⟩ = some (.slice k.va m.vars.length k.vc) ∧ w2.cell? ⟨w.heap.size, 1, none⟩ = some (.slice k.aa m.arrs.length k.ac) ∧ w2.cell? ⟨w.heap.size, 2, none⟩ = some (.slice k.la m.list.length k.lc) := by
    have b := (H.out w2 hb2).1
    exact ⟨b.c0, b.c1, b.c2⟩
  obtain ⟨q, hq⟩ : ∃ q, codeB m = q := ⟨_, rfl⟩
  have HQ := Lib.hid hq
  rw [hq]
  clear hb2 hq HV c0 c1 c2
  cases q
  case false =>
    have HFIN : Hid (CkN m w (.returned (.tuple #[.int .i64 5, .int .i64 (-1)])) w2) := ⟨5, -1, rfl, ⟨fun e => (by rw [HQ.out] at e; cases e), fun _ => ⟨rfl, rfl⟩⟩, HB2.out⟩
    go_wp2_with fail
    go_ret2
    exact HFIN.out
  case true =>
    have ho := vOf_one m k w2 (H.out w2 HL2.out).2 HQ.out
    unfold aggC at ho
    obtain ⟨n, hn⟩ : ∃ n, m.list.length = n := ⟨_, rfl⟩
    have HN := Lib.hid hn
    have HIT : Hid (∀ (i : Nat) (x : Ins), m.list[i]? = some x → InsT m.vars.length m.arrs.length x) := fun i x hx => codeB_ins HQ.out hx
    have HKN := Lib.hid (knl_T HQ.out)
    have HOK := Lib.hid (codeB_ok HQ.out)
    have hn4 : n ≤ 400 := by rw [← hn]; exact (codeB_ok HQ.out).le
    rw [hn] at ho x2
    have HO := Lib.hid ho
    clear hn ho
    go_upto_region 4 with fail
    refine HO.out.mono ?_
    rintro e w3 ⟨rfl, hb3⟩
    have HL3 : Hid (Below W.heap.size W w3) := HL2.out.trans (hb3.mono HL2.out.size)
    obtain ⟨W4, hW4⟩ : ∃ W4, w3.alloc (.cells #[.slice none 0 0, .int .i64 0, .int .i64 0, .int .i64 0, .int .i64 0, .int .i64 0, .int .i64 0, .int .i64 0, .int .i64 0, .int .i64 0, .int .i64 0, .int .i64 0, .int .i64 0, .int .i64 0, .int .i64 0] 69) = W4 := ⟨_, rfl⟩
    have hrow : W4.heap[w3.heap.size]? = some (.cells #[.slice none 0 0, .int .i64 0, .int .i64 0, .int .i64 0, .int .i64 0, .int .i64 0, .int .i64 0, .int .i64 0, .int .i64 0, .int .i64 0, .int .i64 0, .int .i64 0, .int .i64 0, .int .i64 0, .int .i64 0] 69 (0, 0)) := by rw [← hW4]; exact heap_alloc_new w3 _
    have hB4 : Below w3.heap.size w3 W4 := by rw [← hW4]; exact (Below.refl _ w3).alloc (Nat.le_refl _) _
    have r0 : ∃ u, W4.cell? ⟨w3.heap.size, 0, none⟩ = some u := cell_ex hrow 0 (by simp)
    obtain ⟨u0', r0⟩ := r0
    have z0 := frozen_at hrow 0
    have r1 : ∃ u, W4.cell? ⟨w3.heap.size, 1, none⟩ = some u := cell_ex hrow 1 (by simp)
    obtain ⟨u1', r1⟩ := r1
    have z1 := frozen_at hrow 1
    have r2 : ∃ u, W4.cell? ⟨w3.heap.size, 2, none⟩ = some u := cell_ex hrow 2 (by simp)
    obtain ⟨u2', r2⟩ := r2
    have z2 := frozen_at hrow 2
    have r3 : ∃ u, W4.cell? ⟨w3.heap.size, 3, none⟩ = some u := cell_ex hrow 3 (by simp)
    obtain ⟨u3', r3⟩ := r3
    have z3 := frozen_at hrow 3
    have r4 : ∃ u, W4.cell? ⟨w3.heap.size, 4, none⟩ = some u := cell_ex hrow 4 (by simp)
    obtain ⟨u4', r4⟩ := r4
    have z4 := frozen_at hrow 4
    have r5 : ∃ u, W4.cell? ⟨w3.heap.size, 5, none⟩ = some u := cell_ex hrow 5 (by simp)
    obtain ⟨u5', r5⟩ := r5
    have z5 := frozen_at hrow 5
    have r6 : ∃ u, W4.cell? ⟨w3.heap.size, 6, none⟩ = some u := cell_ex hrow 6 (by simp)
    obtain ⟨u6', r6⟩ := r6
    have z6 := frozen_at hrow 6
    have r7 : ∃ u, W4.cell? ⟨w3.heap.size, 7, none⟩ = some u := cell_ex hrow 7 (by simp)
    obtain ⟨u7', r7⟩ := r7
    have z7 := frozen_at hrow 7
    have r8 : ∃ u, W4.cell? ⟨w3.heap.size, 8, none⟩ = some u := cell_ex hrow 8 (by simp)
    obtain ⟨u8', r8⟩ := r8
    have z8 := frozen_at hrow 8
    have r9 : ∃ u, W4.cell? ⟨w3.heap.size, 9, none⟩ = some u := cell_ex hrow 9 (by simp)
    obtain ⟨u9', r9⟩ := r9
    have z9 := frozen_at hrow 9
    have r10 : ∃ u, W4.cell? ⟨w3.heap.size, 10, none⟩ = some u := cell_ex hrow 10 (by simp)
    obtain ⟨u10', r10⟩ := r10
    have z10 := frozen_at hrow 10
    have r11 : ∃ u, W4.cell? ⟨w3.heap.size, 11, none⟩ = some u := cell_ex hrow 11 (by simp)
    obtain ⟨u11', r11⟩ := r11
    have z11 := frozen_at hrow 11
    have r12 : ∃ u, W4.cell? ⟨w3.heap.size, 12, none⟩ = some u := cell_ex hrow 12 (by simp)
    obtain ⟨u12', r12⟩ := r12
    have z12 := frozen_at hrow 12
    have r13 : ∃ u, W4.cell? ⟨w3.heap.size, 13, none⟩ = some u := cell_ex hrow 13 (by simp)
    obtain ⟨u13', r13⟩ := r13
    have z13 := frozen_at hrow 13
    have r14 : ∃ u, W4.cell? ⟨w3.heap.size, 14, none⟩ = some u := cell_ex hrow 14 (by simp)
    obtain ⟨u14', r14⟩ := r14
    have z14 := frozen_at hrow 14
    have h9 := put_row [.slice k.la n k.lc, .int .i64 (knl m.heads 0 : Int), .int .i64 (knl m.heads 1 : Int), .int .i64 (knl m.heads 2 : Int), .int .i64 (knl m.heads 3 : Int), .int .i64 (knl m.heads 4 : Int), .int .i64 (knl m.heads 5 : Int), .int .i64 (knl m.heads 6 : Int), .int .i64 (knl m.heads 7 : Int), .int .i64 (knl m.heads 8 : Int), .int .i64 (knl m.heads 9 : Int), .int .i64 (knl m.heads 10 : Int), .int .i64 (knl m.heads 11 : Int), .int .i64 (knl m.heads 12 : Int), .int .i64 (knl m.heads 13 : Int)] W4 w3.heap.size 0 _ _ hrow
    have h9b := put_below [.slice k.la n k.lc, .int .i64 (knl m.heads 0 : Int), .int .i64 (knl m.heads 1 : Int), .int .i64 (knl m.heads 2 : Int), .int .i64 (knl m.heads 3 : Int), .int .i64 (knl m.heads 4 : Int), .int .i64 (knl m.heads 5 : Int), .int .i64 (knl m.heads 6 : Int), .int .i64 (knl m.heads 7 : Int), .int .i64 (knl m.heads 8 : Int), .int .i64 (knl m.heads 9 : Int), .int .i64 (knl m.heads 10 : Int), .int .i64 (knl m.heads 11 : Int), .int .i64 (knl m.heads 12 : Int), .int .i64 (knl m.heads 13 : Int)] w3 W4 w3.heap.size w3.heap.size 0 hB4 (Nat.le_refl _)
    have h9s := put_size [.slice k.la n k.lc, .int .i64 (knl m.heads 0 : Int), .int .i64 (knl m.heads 1 : Int), .int .i64 (knl m.heads 2 : Int), .int .i64 (knl m.heads 3 : Int), .int .i64 (knl m.heads 4 : Int), .int .i64 (knl m.heads 5 : Int), .int .i64 (knl m.heads 6 : Int), .int .i64 (knl m.heads 7 : Int), .int .i64 (knl m.heads 8 : Int), .int .i64 (knl m.heads 9 : Int), .int .i64 (knl m.heads 10 : Int), .int .i64 (knl m.heads 11 : Int), .int .i64 (knl m.heads 12 : Int), .int .i64 (knl m.heads 13 : Int)] W4 w3.heap.size 0
    obtain ⟨W5, hW5⟩ : ∃ W5, put W4 w3.heap.size 0 [.slice k.la n k.lc, .int .i64 (knl m.heads 0 : Int), .int .i64 (knl m.heads 1 : Int), .int .i64 (knl m.heads 2 : Int), .int .i64 (knl m.heads 3 : Int), .int .i64 (knl m.heads 4 : Int), .int .i64 (knl m.heads 5 : Int), .int .i64 (knl m.heads 6 : Int), .int .i64 (knl m.heads 7 : Int), .int .i64 (knl m.heads 8 : Int), .int .i64 (knl m.heads 9 : Int), .int .i64 (knl m.heads 10 : Int), .int .i64 (knl m.heads 11 : Int), .int .i64 (knl m.heads 12 : Int), .int .i64 (knl m.heads 13 : Int)] = W5 := ⟨_, rfl⟩
    rw [hW5] at h9 h9b h9s
    have hz4 : W4.heap.size = w3.heap.size + 1 := by rw [← hW4]; simp
    have h9v : W5.heap[w3.heap.size]? = some (.cells (arrV k.la n k.lc (knl m.heads)) 69 (0, 0)) := by rw [← arrV_set]; exact h9
    have HSB : Hid (∀ v, Below W5.heap.size W5 v → v.cell? ⟨w3.heap.size, 0, none⟩ = some (.slice k.la n k.lc) ∧ v.cell? ⟨w3.heap.size, 1, none⟩ = some (.int .i64 (knl m.heads 0 : Int)) ∧ v.cell? ⟨w3.heap.size, 2, none⟩ = some (.int .i64 (knl m.heads 1 : Int)) ∧ v.cell? ⟨w3.heap.size, 3, none⟩ = some (.int .i64 (knl m.heads 2 : Int)) ∧ v.cell? ⟨w3.heap.size, 4, none⟩ = some (.int .i64 (knl m.heads 3 : Int)) ∧ v.cell? ⟨w3.heap.size, 5, none⟩ = some (.int .i64 (knl m.heads 4 : Int)) ∧ v.cell? ⟨w3.heap.size, 6, none⟩ = some (.int .i64 (knl m.heads 5 : Int)) ∧ v.cell? ⟨w3.heap.size, 7, none⟩ = some (.int .i64 (knl m.heads 6 : Int)) ∧ v.cell? ⟨w3.heap.size, 8, none⟩ = some (.int .i64 (knl m.heads 7 : Int)) ∧ v.cell? ⟨w3.heap.size, 9, none⟩ = some (.int .i64 (knl m.heads 8 : Int)) ∧ v.cell? ⟨w3.heap.size, 10, none⟩ = some (.int .i64 (knl m.heads 9 : Int)) ∧ v.cell? ⟨w3.heap.size, 11, none⟩ = some (.int .i64 (knl m.heads 10 : Int)) ∧ v.cell? ⟨w3.heap.size, 12, none⟩ = some (.int .i64 (knl m.heads 11 : Int)) ∧ v.cell? ⟨w3.heap.size, 13, none⟩ = some (.int .i64 (knl m.heads 12 : Int)) ∧ v.cell? ⟨w3.heap.size, 14, none⟩ = some (.int .i64 (knl m.heads 13 : Int))) := fun v hv => by
      have h2 := (hv.block w3.heap.size (by omega)).trans h9v
      exact ⟨(by rw [cell_at h2]; rfl), (by rw [cell_at h2]; rfl), (by rw [cell_at h2]; rfl), (by rw [cell_at h2]; rfl), (by rw [cell_at h2]; rfl), (by rw [cell_at h2]; rfl), (by rw [cell_at h2]; rfl), (by rw [cell_at h2]; rfl), (by rw [cell_at h2]; rfl), (by rw [cell_at h2]; rfl), (by rw [cell_at h2]; rfl), (by rw [cell_at h2]; rfl), (by rw [cell_at h2]; rfl), (by rw [cell_at h2]; rfl), (by rw [cell_at h2]; rfl)⟩
    have HL5 : Hid (Below W.heap.size W W5) := HL3.out.trans (h9b.mono HL3.out.size)
    have HNA : Hid (∀ v, Below W5.heap.size W5 v → NAt v (fun b => b < v.heap.size) m.list k.la) := fun v hv => (H.out v (HL5.out.trans (hv.mono HL5.out.size))).2.2.2
    have HLE := Lib.hid (least_one m m.list k.la n k.lc (knl m.heads) W5.drew (HNA.out _ (Below.refl _ W5).drew) HN.out HOK.out HKN.out HIT.out)
    have HW4 := Lib.hid hW4
    have HW5 := Lib.hid hW5
    clear hb3 hW4 hrow hB4 h9 h9b h9s hW5 hz4 h9v HO
    go_upto_region 4 with (first | rw [HW4.out] | fail)
    show Code.wp _ _ _ _ (put W4 w3.heap.size 0 [.slice k.la n k.lc, .int .i64 (knl m.heads 0 : Int), .int .i64 (knl m.heads 1 : Int), .int .i64 (knl m.heads 2 : Int), .int .i64 (knl m.heads 3 : Int), .int .i64 (knl m.heads 4 : Int), .int .i64 (knl m.heads 5 : Int), .int .i64 (knl m.heads 6 : Int), .int .i64 (knl m.heads 7 : Int), .int .i64 (knl m.heads 8 : Int), .int .i64 (knl m.heads 9 : Int), .int .i64 (knl m.heads 10 : Int), .int .i64 (knl m.heads 11 : Int), .int .i64 (knl m.heads 12 : Int), .int .i64 (knl m.heads 13 : Int)])
    rw [HW5.out]
    clear r0 z0 r1 z1 r2 z2 r3 z3 r4 z4 r5 z5 r6 z6 r7 z7 r8 z8 r9 z9 r10 z10 r11 z11 r12 z12 r13 z13 r14 z14 x0 x1 x2 HW4 HW5
    refine wp_region_held_drew (S := fun v => v.cell? ⟨w3.heap.size, 0, none⟩ = some (.slice k.la n k.lc) ∧ v.cell? ⟨w3.heap.size, 1, none⟩ = some (.int .i64 (knl m.heads 0 : Int)) ∧ v.cell? ⟨w3.heap.size, 2, none⟩ = some (.int .i64 (knl m.heads 1 : Int)) ∧ v.cell? ⟨w3.heap.size, 3, none⟩ = some (.int .i64 (knl m.heads 2 : Int)) ∧ v.cell? ⟨w3.heap.size, 4, none⟩ = some (.int .i64 (knl m.heads 3 : Int)) ∧ v.cell? ⟨w3.heap.size, 5, none⟩ = some (.int .i64 (knl m.heads 4 : Int)) ∧ v.cell? ⟨w3.heap.size, 6, none⟩ = some (.int .i64 (knl m.heads 5 : Int)) ∧ v.cell? ⟨w3.heap.size, 7, none⟩ = some (.int .i64 (knl m.heads 6 : Int)) ∧ v.cell? ⟨w3.heap.size, 8, none⟩ = some (.int .i64 (knl m.heads 7 : Int)) ∧ v.cell? ⟨w3.heap.size, 9, none⟩ = some (.int .i64 (knl m.heads 8 : Int)) ∧ v.cell? ⟨w3.heap.size, 10, none⟩ = some (.int .i64 (knl m.heads 9 : Int)) ∧ v.cell? ⟨w3.heap.size, 11, none⟩ = some (.int .i64 (knl m.heads 10 : Int)) ∧ v.cell? ⟨w3.heap.size, 12, none⟩ = some (.int .i64 (knl m.heads 11 : Int)) ∧ v.cell? ⟨w3.heap.size, 13, none⟩ = some (.int .i64 (knl m.heads 12 : Int)) ∧ v.cell? ⟨w3.heap.size, 14, none⟩ = some (.int .i64 (knl m.heads 13 : Int))) (by kernel_rfl) (HSB.out W5 (Below.refl _ _)) (fun hHeld => ?_)
    refine wpAnyH_take (i := 0) (oi := ⟨some 10, _, _, _, _, _⟩) (v := ?_) rfl (by kernel_rfl) (by kernel_rfl) (by kernel_rfl) (fun _ _ _ h => h) (Or.inl ⟨by rfl, ?_⟩) (by assumption) ?_
    rotate_left
    · intro w hSw; (try dsimp only at hSw); go_simp; (try with_reducible rfl)
    simp only [Act.put, List.setIfInBounds_toArray, List.set_cons_zero, List.set_cons_succ]
    refine wpAnyH_take (i := 1) (oi := ⟨some 11, _, _, _, _, _⟩) (v := ?_) rfl (by kernel_rfl) (by kernel_rfl) (by kernel_rfl) (fun _ _ _ h => h) (Or.inl ⟨by rfl, ?_⟩) (by assumption) ?_
    rotate_left
    · intro w hSw; (try dsimp only at hSw); go_simp; (try with_reducible rfl)
    simp only [Act.put, List.setIfInBounds_toArray, List.set_cons_zero, List.set_cons_succ]
    refine wpAnyH_ready (rs := [2]) (by kernel_rfl) (by simp) ?_
    refine AllReadyH.cons (o := ⟨some 12, _, _, _, _, _⟩) rfl (fun K hK => ?_) AllReadyH.nil
    go_simp
    refine (HLE.out).mono ?_
    rintro e w6 ⟨rs, S, rfl, hist, hown, hb6⟩
    have HB6 : Below W5.heap.size W5 w6 := (Below.refl _ W5).drew.trans hb6
    have hS6 := HSB.out w6 HB6
    go_wp2_with fail
    refine hK.out _ _ hS6 (fun hHeld => ?_)
    clear hK K hb6
    try simp only [Act.put, List.setIfInBounds_toArray, List.set_cons_zero, List.set_cons_succ]
    have HIS := Lib.hid hist
    have HFL := Lib.hid (fstL_one m m.list k.la (some ⟨S, 0, none⟩) n k.lc n (knl m.heads) rs w6 (HNA.out w6 HB6) HN.out (hist.1.trans HN.out) hn4 HKN.out HIT.out (RsAt.of_own hown (hist.1.trans HN.out)) (fun i q hq => (hist.2.1 i q hq).1))
    clear hown hist
    refine wpAnyH_ready (rs := [3]) (by kernel_rfl) (by simp) ?_
    refine AllReadyH.cons (o := ⟨some 13, _, _, _, _, _⟩) rfl (fun K hK => ?_) AllReadyH.nil
    go_simp
    refine (HFL.out).mono ?_
    rintro e w7 ⟨c, i, rfl, hfst, hb7⟩
    have HB7 : Below W5.heap.size W5 w7 := HB6.trans (hb7.mono HB6.size)
    have hS7 := HSB.out w7 HB7
    have HFST := Lib.hid hfst
    go_wp2_with fail
    refine hK.out _ _ hS7 (fun hHeld => ?_)
    clear hK K hb7 hfst
    try simp only [Act.put, List.setIfInBounds_toArray, List.set_cons_zero, List.set_cons_succ]
    refine wpAnyH_take (i := 4) (oi := ⟨some 14, _, _, _, _, _⟩) (v := ?_) rfl (by kernel_rfl) (by kernel_rfl) (by kernel_rfl) (fun _ _ _ h => h) (Or.inl ⟨by rfl, ?_⟩) (by assumption) ?_
    rotate_left
    · intro w hSw; (try dsimp only at hSw); go_simp; (try with_reducible rfl)
    simp only [Act.put, List.setIfInBounds_toArray, List.set_cons_zero, List.set_cons_succ]
    refine wpAnyH_take (i := 5) (oi := ⟨some 15, _, _, _, _, _⟩) (v := ?_) rfl (by kernel_rfl) (by kernel_rfl) (by kernel_rfl) (fun _ _ _ h => h) (Or.inl ⟨by rfl, ?_⟩) (by assumption) ?_
    rotate_left
    · intro w hSw; (try dsimp only at hSw); go_simp; (try with_reducible rfl)
    simp only [Act.put, List.setIfInBounds_toArray, List.set_cons_zero, List.set_cons_succ]
    refine wpAnyH_take (i := 6) (oi := ⟨some 2, _, _, _, _, _⟩) (v := ?_) rfl (by kernel_rfl) (by kernel_rfl) (by kernel_rfl) (fun _ _ _ h => h) (Or.inl ⟨by rfl, ?_⟩) (by assumption) ?_
    rotate_left
    · intro w hSw; (try dsimp only at hSw); go_simp; (try with_reducible rfl)
    simp only [Act.put, List.setIfInBounds_toArray, List.set_cons_zero, List.set_cons_succ]
    refine wpAnyH_take (i := 7) (oi := ⟨some 3, _, _, _, _, _⟩) (v := ?_) rfl (by kernel_rfl) (by kernel_rfl) (by kernel_rfl) (fun _ _ _ h => h) (Or.inl ⟨by rfl, ?_⟩) (by assumption) ?_
    rotate_left
    · intro w hSw; (try dsimp only at hSw); go_simp; (try with_reducible rfl)
    simp only [Act.put, List.setIfInBounds_toArray, List.set_cons_zero, List.set_cons_succ]
    refine wpAnyH_done (by kernel_rfl) ?_ _
    have HFIN : Hid (CkN m w (.returned (.tuple #[.int .i64 c, .int .i64 i])) w7) := ⟨c, i, rfl, ⟨fun _ => ⟨rs, HIS.out, HFST.out⟩, fun e => (by rw [HQ.out] at e; cases e)⟩, HB.out.trans ((HL5.out.trans (HB7.mono HL5.out.size)).mono HB.out.size)⟩
    clear HB6 HB7 hS6 hS7
    go_wp2_with fail
    go_ret2
    exact HFIN.out

end Go.Proofs.YtjgmhncfijegmaaDoor

namespace Go.Proofs.YtjgmhncfijegmaaDoor
open Go.RowKit
set_option linter.unusedVariables false

set_option maxRecDepth 100000 in
set_option maxHeartbeats 8000000 in
theorem law_FnExactCheckCode (m : Cd) (k : CK) (w : World) (hT : TblF w) (hg : 0 < w.heap.size) (h : CL w m k) :
    Calls Tryd.prog 4 #[aggC m k] w (YN true w) := by
  have HM : Hid (∀ v, Below w.heap.size w v → CL v m k) := fun v hv => h.below hv
  have HT : Hid (∀ v, Below w.heap.size w v → TblF v) := fun v hv => hT.below hv hg
  clear h hT hg
  have HB := Lib.hid ((Below.refl w.heap.size w).alloc (Nat.le_refl _) (.cells (arrC m k) 25))
  have HX := Lib.hid (BoxC.new w m k 25)
  go_enter Tryd.func4, Tryd.ntmps4
  go_wp2_with fail
  obtain ⟨W, hW⟩ : ∃ W, (w.alloc (.cells (arrC m k) 25)) = W := ⟨_, rfl⟩
  unfold arrC at hW
  rw [hW] at HB HX ⊢
  clear hW
  refine (szC_one m k 1048576 W (HM.out _ HB.out) (by omega) (by omega)).mono ?_
  rintro f w2 ⟨v1, rfl, hv1, hs1, hb1⟩
  have HS1 := Lib.hid hs1
  have HB2 := Lib.hid (HB.out.trans (hb1.mono HB.out.size))
  have HX2 := Lib.hid (HX.out.below hb1 HX.out.lt)
  clear hs1 hb1 HX
  by_cases n1 : v1 < 0
  · go_wp2_with fail
    go_ret
    exact YN.of rfl HB2.out
  have HMS : Hid (CSm m) := HS1.out (by omega)
  have HS : Hid (∀ v, Below w2.heap.size w2 v → v.cell? ⟨w.heap.size, 0, none⟩ = some (.slice k.va m.vars.length k.vc) ∧ v.cell? ⟨w.heap.size, 1, none⟩ = some (.slice k.aa m.arrs.length k.ac) ∧ v.cell? ⟨w.heap.size, 2, none⟩ = some (.slice k.la m.list.length k.lc)) := fun v hv => by
    have bx := HX2.out.below hv HX2.out.lt
    exact ⟨bx.c0, bx.c1, bx.c2⟩
  have HW : Hid (∀ v, Below w2.heap.size w2 v → CL v m k ∧ TblF v ∧ 0 < v.heap.size) := fun v hv => by
    have hb := HB2.out.trans (hv.mono HB2.out.size)
    exact ⟨HM.out _ hb, HT.out _ hb, (HT.out _ hb).lt⟩
  obtain ⟨x0, x1, x2⟩ := HS.out w2 (Below.refl _ _)
  clear HS1 HM HT
  go_wp2_with fail
  refine (toC_one m k w2 (HW.out _ (Below.refl _ _)).1 HMS.out).mono ?_
  rintro f w3 ⟨k1, rfl, hm1, hb3⟩
  have HM1 := Lib.hid hm1
  have HB3 := Lib.hid hb3
  clear hm1 hb3 x0 x1 x2
  go_wp2_with fail
  refine (sCC_one m k1 w3 HM1.out).mono ?_
  rintro f w4 ⟨cv, iv, rfl, hcv, hb4⟩
  have HCV := Lib.hid hcv
  clear hcv
  have HB4 := Lib.hid (HB3.out.trans (hb4.mono HB3.out.size))
  obtain ⟨x0, x1, x2⟩ := HS.out w4 HB4.out
  clear hb4 HM1 HB3
  go_wp2_with fail
  refine (toC_one m k w4 (HW.out _ HB4.out).1 HMS.out).mono ?_
  rintro f w5 ⟨k2, rfl, hm2, hb5⟩
  have hX5 : BoxC (w5.alloc (.cells (arrC m k2) 30)) w5.heap.size m k2 := BoxC.new _ _ _ _
  have hB5 : Below w2.heap.size w2 (w5.alloc (.cells (arrC m k2) 30)) := (HB4.out.trans (hb5.mono HB4.out.size)).alloc (Nat.le_trans HB4.out.size hb5.size) _
  have hC5 : CL (w5.alloc (.cells (arrC m k2) 30)) m k2 := hm2.below ((Below.refl _ _).alloc (Nat.le_refl _) _)
  have HX5 := Lib.hid hX5
  have HB5 := Lib.hid hB5
  have HC5 := Lib.hid hC5
  have g0 := hX5.c0
  have g1 := hX5.c1
  have g2 := hX5.c2
  clear hm2 hb5 hX5 hB5 hC5 x0 x1 x2 HB4
  go_wp2_with fail
  obtain ⟨u5, hu5⟩ : ∃ u5, w5.alloc (.cells (arrC m k2) 30) = u5 := ⟨_, rfl⟩
  rw [hu5] at HX5 HB5 HC5 g0 g1 g2
  unfold arrC at hu5
  rw [hu5]
  clear hu5 g0 g1 g2
  refine (iCC_one m k2 u5 HC5.out (HW.out _ HB5.out).2.1).mono ?_
  rintro f u6 ⟨cv', iv', rfl, hcv', hb6⟩
  obtain ⟨rfl, rfl⟩ := HCV.out.uniq hcv'
  clear hcv'
  have hce : (cv != cv) = false := by simp
  have hie : (iv != iv) = false := by simp
  have HB6 := Lib.hid (HB5.out.trans (hb6.mono HB5.out.size))
  have HX6 := Lib.hid (HX5.out.below hb6 HX5.out.lt)
  have HC6 := Lib.hid (HC5.out.below hb6)
  obtain ⟨f0, f1, f2⟩ := HS.out u6 HB6.out
  have q0 := HX6.out.c0
  have q1 := HX6.out.c1
  have q2 := HX6.out.c2
  have HSQ : Hid (∀ v, Below u6.heap.size u6 v → v.cell? ⟨w.heap.size, 0, none⟩ = some (.slice k.va m.vars.length k.vc) ∧ v.cell? ⟨w.heap.size, 1, none⟩ = some (.slice k.aa m.arrs.length k.ac) ∧ v.cell? ⟨w.heap.size, 2, none⟩ = some (.slice k.la m.list.length k.lc) ∧ v.cell? ⟨w5.heap.size, 0, none⟩ = some (.slice k2.va m.vars.length k2.vc) ∧ v.cell? ⟨w5.heap.size, 1, none⟩ = some (.slice k2.aa m.arrs.length k2.ac) ∧ v.cell? ⟨w5.heap.size, 2, none⟩ = some (.slice k2.la m.list.length k2.lc)) := fun v hv => by
    obtain ⟨f0, f1, f2⟩ := HS.out v (HB6.out.trans (hv.mono HB6.out.size))
    have h := HX6.out.below hv HX6.out.lt
    exact ⟨f0, f1, f2, h.c0, h.c1, h.c2⟩
  have HWQ : Hid (∀ v, Below u6.heap.size u6 v → CL v m k) := fun v hv => (HW.out _ (HB6.out.trans (hv.mono HB6.out.size))).1
  have HBD6 : Hid (Below u6.heap.size u6 u6.drew) := (Below.refl _ _).drew
  clear hb6 HX5 HC5 HB5
  go_wp2_with fail
  go_region_held3 (fun v => v.cell? ⟨w.heap.size, 0, none⟩ = some (.slice k.va m.vars.length k.vc) ∧ v.cell? ⟨w.heap.size, 1, none⟩ = some (.slice k.aa m.arrs.length k.ac) ∧ v.cell? ⟨w.heap.size, 2, none⟩ = some (.slice k.la m.list.length k.lc) ∧ v.cell? ⟨w5.heap.size, 0, none⟩ = some (.slice k2.va m.vars.length k2.vc) ∧ v.cell? ⟨w5.heap.size, 1, none⟩ = some (.slice k2.aa m.arrs.length k2.ac) ∧ v.cell? ⟨w5.heap.size, 2, none⟩ = some (.slice k2.la m.list.length k2.lc)) (first | assumption | exact ⟨f0, f1, f2, q0, q1, q2⟩)
    (first
    | (go_at_call 10; (with_reducible refine (toC_one m k u6.drew (HWQ.out _ HBD6.out) HMS.out).mono ?_); rintro f u9 ⟨k3, rfl, hm3, hA⟩; have hA2 := HBD6.out.trans hA; have hS1 := HSQ.out _ hA2)
    | (go_at_call 12; (with_reducible refine (eqC_one m m k2 k3 u9 (HC6.out.below hA2) hm3).mono ?_); rintro f u10 ⟨rfl, hE⟩; rw [show decide (m = m) = true from decide_eq_true rfl]; have hB10 := hA2.trans (hE.mono hA2.size); have hS2 := HSQ.out _ hB10)
    | fail)
  have HB10 := Lib.hid (HB6.out.trans (hB10.mono HB6.out.size))
  clear hB10 hA hA2 hE hS1 hS2 q0 q1 q2 f0 f1 f2 HSQ HC6 HWQ
  go_wp2_with fail
  go_ret
  exact YN.of rfl (HB2.out.trans (HB10.out.mono HB2.out.size))

end Go.Proofs.YtjgmhncfijegmaaDoor

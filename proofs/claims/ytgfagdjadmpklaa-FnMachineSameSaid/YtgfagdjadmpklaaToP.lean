/- The copying function of the exact laws on programs. -/
import Derived.Test.YtgfagdjadmpklaaToS
namespace Go.Proofs.Ytgfagdjadmpklaa
open Go.RowKit
set_option linter.unusedVariables false

theorem OwnI.ints {w : World} {base : Nat} {v : Value} {xs : List Int} (h : OwnI w base v xs) : ∃ a cap, v = .slice a xs.length cap ∧ xs.length ≤ cap ∧ cap ≤ maxLen ∧ IntsAt w (fun k => base ≤ k ∧ k < w.heap.size) xs a := by
  have h' := h
  rcases h.2 with ⟨rfl, h2⟩ | ⟨g, cap, cur, rfl, hb, hg, hn, hm, _⟩
  · have : xs = [] := by simpa using h2
    subst this
    exact ⟨none, 0, rfl, Nat.le_refl _, by unfold maxLen; omega, fun k hk => by simp at hk⟩
  · refine ⟨_, cap, rfl, hn, hm, fun k hk => ⟨g, 0, rfl, ⟨hb, (Array.getElem?_eq_some_iff.1 hg).1⟩, ?_⟩⟩
    have := World.ownsRow.cellAt h' k (by simpa using hk)
    rw [Nat.zero_add, this]
    simp [List.getD, hk]

/-- A copy of a program. -/
def CopyP (n : Nat) (p : Pg) (w : World) (f : Ending) (w' : World) : Prop := ∃ k, f = .returned (aggP p k) ∧ IsP w' (New w w') n p k ∧ Below w.heap.size w w'

set_option maxHeartbeats 4000000 in
theorem toProg_one (n : Nat) (p : Pg) (k : PC) (D : Nat → Prop) (w : World) (h : IsP w D n p k) (hl : ∀ k, D k → k < w.heap.size) (hs : SmP 1048576 n p) :
    Calls Try.prog 25 #[aggP p k] w (CopyP n p w) := by
  obtain ⟨⟨hv0, hv1, hvat⟩, ⟨ha0, ha1, haat⟩, hb0, hb1, hbat⟩ := h
  obtain ⟨hs1, hs2, hs3, hs4⟩ := hs
  have HV := Lib.hid hvat
  have HA := Lib.hid haat
  have HBA := Lib.hid hbat
  have HS4 := Lib.hid hs4
  clear hvat haat hbat hs4
  go_enter Try.func25, Try.ntmps25
  go_wp2_with fail
  obtain ⟨W, hW⟩ : ∃ W, (((w.alloc (.cells (arrP p k) 50)).alloc (.cells #[.slice none 0 0, .slice none 0 0, .slice none 0 0] 55)).alloc (.cells #[.slice none 0 0, .slice none 0 0, .slice none 0 0] 55)) = W := ⟨_, rfl⟩
  have hz : W.heap.size = w.heap.size + 3 := by rw [← hW]; simp
  have hB : Below w.heap.size w W := by rw [← hW]; exact (((Below.refl _ w).alloc (Nat.le_refl _) _).alloc (by simp) _).alloc (by simp; omega) _
  have q0 : BoxP W w.heap.size p k := by
    rw [← hW]
    exact ((BoxP.new w p k 50).later (Below.heap_alloc _ _ _ (by simp))).later (Below.heap_alloc _ _ _ (by simp; omega))
  have q1 : W.heap[w.heap.size + 1]? = some (.cells #[.slice none 0 0, .slice none 0 0, .slice none 0 0] 55 (0, 0)) := by
    have e1 := heap_alloc_new (w.alloc (.cells (arrP p k) 50)) (.cells #[.slice none 0 0, .slice none 0 0, .slice none 0 0] 55)
    rw [World.size_alloc] at e1
    rw [← hW, Below.heap_alloc _ _ _ (by simp)]; exact e1
  have q2 : W.heap[w.heap.size + 1 + 1]? = some (.cells #[.slice none 0 0, .slice none 0 0, .slice none 0 0] 55 (0, 0)) := by
    have e1 := heap_alloc_new ((w.alloc (.cells (arrP p k) 50)).alloc (.cells #[.slice none 0 0, .slice none 0 0, .slice none 0 0] 55)) (.cells #[.slice none 0 0, .slice none 0 0, .slice none 0 0] 55)
    rw [World.size_alloc, World.size_alloc] at e1
    rw [← hW]; exact e1
  unfold arrP at hW
  rw [hW]
  clear hW
  have HB := Lib.hid hB
  have HZ := Lib.hid hz
  have Q0 := Lib.hid q0
  have Q1 := Lib.hid q1
  have Q2 := Lib.hid q2
  clear hB hz q0 q1 q2
  -- the variables
  refine (toInts_one k.va p.vars.length k.vc p.vars W ((HV.out.wide (D' := D) (Stand.of_below HB.out hl) (fun _ x => x)).slice (Nat.le_trans hv0 hv1)) (by omega)).mono ?_
  rintro f w1 ⟨v, rfl, hown, hb1'⟩
  obtain ⟨va, vc, rfl, hvc, hvm, hva⟩ := hown.ints
  have z1 := hb1'.size
  have hzz := HZ.out
  have r2 := (hb1'.block (w.heap.size + 1 + 1) (by omega)).trans Q2.out
  have r1 := (hb1'.block (w.heap.size + 1) (by omega)).trans Q1.out
  have r0 := Q0.out.below hb1' (by omega)
  obtain ⟨u0, hu0⟩ := cell_ex r2 0 (by simp)
  have hf0 := frozen_at r2 0
  have q1 := r0.c1
  have R0 := Lib.hid r0
  have R1 := Lib.hid r1
  have R2 := Lib.hid r2
  have HVA := Lib.hid hva
  have HB1 := Lib.hid (HB.out.trans (hb1'.mono HB.out.size))
  clear r0 r1 r2 hva hown hb1' HV HB Q0 Q1 Q2
  go_wp2_with fail
  obtain ⟨W1, hW1⟩ : ∃ W1, put w1 (w.heap.size + 1 + 1) 0 [.slice va p.vars.length vc] = W1 := ⟨_, rfl⟩
  have hp1 : (w1.setCell ⟨w.heap.size + 1 + 1, 0, none⟩ (.slice va p.vars.length vc)) = W1 := hW1
  have p2 : W1.heap[w.heap.size + 1 + 1]? = some (.cells #[.slice va p.vars.length vc, .slice none 0 0, .slice none 0 0] 55 (0, 0)) := by
    rw [← hW1]; exact put_row _ _ _ _ _ _ R2.out
  have p1 : W1.heap[w.heap.size + 1]? = some (.cells #[.slice none 0 0, .slice none 0 0, .slice none 0 0] 55 (0, 0)) := by
    rw [← hW1, put_other _ _ _ _ _ (by omega)]; exact R1.out
  have p0 : BoxP W1 w.heap.size p k := R0.out.later (by rw [← hW1, put_other _ _ _ _ _ (by omega)])
  have zW1 : W1.heap.size = w1.heap.size := by rw [← hW1, put_size]
  have pV : IntsAt W1 (New W w1) p.vars va := HVA.out.wide (fun j hj => by rw [← hW1, put_other _ _ _ _ _ (by have := hj.1; omega)]) fun _ x => x
  have pB1 : Below w.heap.size w W1 := by rw [← hW1]; exact put_below _ _ _ _ _ _ HB1.out (by omega)
  rw [hp1]
  clear hp1 hW1 hu0 hf0 q1 R0 R1 R2 HVA HB1 u0
  have P0 := Lib.hid p0
  have P1 := Lib.hid p1
  have P2 := Lib.hid p2
  have PV := Lib.hid pV
  have PB1 := Lib.hid pB1
  clear p0 p1 p2 pV pB1
  -- the arrays
  refine (toInts_one k.aa p.arrs.length k.ac p.arrs _ ((HA.out.wide (D' := D) (Stand.of_below PB1.out hl) (fun _ x => x)).slice (Nat.le_trans ha0 ha1)) (by omega)).mono ?_
  rintro f w2 ⟨v, rfl, hown, hb2'⟩
  obtain ⟨aa, ac, rfl, hac, ham, haa⟩ := hown.ints
  have z2 := hb2'.size
  have r2 := (hb2'.block (w.heap.size + 1 + 1) (by omega)).trans P2.out
  have r1 := (hb2'.block (w.heap.size + 1) (by omega)).trans P1.out
  have r0 := P0.out.below hb2' (by omega)
  obtain ⟨u1, hu1⟩ := cell_ex r2 1 (by simp)
  have hf1 := frozen_at r2 1
  have q2 := r0.c2
  have R1 := Lib.hid r1
  have R2 := Lib.hid r2
  have HAA := Lib.hid haa
  have HVA : Hid (IntsAt w2 (New W w1) p.vars va) := PV.out.wide (fun j hj => hb2'.block j (by have := hj.2; omega)) fun _ x => x
  have HB2 := Lib.hid (PB1.out.trans (hb2'.mono PB1.out.size))
  clear r0 r1 r2 haa hown hb2' HA PB1 P0 P1 P2 PV
  go_wp2_with fail
  obtain ⟨W2, hW2⟩ : ∃ W2, put w2 (w.heap.size + 1 + 1) 1 [.slice aa p.arrs.length ac] = W2 := ⟨_, rfl⟩
  have hp2 : (w2.setCell ⟨w.heap.size + 1 + 1, 1, none⟩ (.slice aa p.arrs.length ac)) = W2 := hW2
  have p2 : W2.heap[w.heap.size + 1 + 1]? = some (.cells #[.slice va p.vars.length vc, .slice aa p.arrs.length ac, .slice none 0 0] 55 (0, 0)) := by
    rw [← hW2]; exact put_row _ _ _ _ _ _ R2.out
  have p1 : W2.heap[w.heap.size + 1]? = some (.cells #[.slice none 0 0, .slice none 0 0, .slice none 0 0] 55 (0, 0)) := by
    rw [← hW2, put_other _ _ _ _ _ (by omega)]; exact R1.out
  have zW2 : W2.heap.size = w2.heap.size := by rw [← hW2, put_size]
  have pV : IntsAt W2 (New W w1) p.vars va := HVA.out.wide (fun j hj => by rw [← hW2, put_other _ _ _ _ _ (by have := hj.1; omega)]) fun _ x => x
  have pA : IntsAt W2 (New W1 w2) p.arrs aa := HAA.out.wide (fun j hj => by rw [← hW2, put_other _ _ _ _ _ (by have := hj.1; omega)]) fun _ x => x
  have pB2 : Below w.heap.size w W2 := by rw [← hW2]; exact put_below _ _ _ _ _ _ HB2.out (by omega)
  rw [hp2]
  clear hp2 hW2 hu1 hf1 q2 R1 R2 HVA HAA HB2 u1
  have P1 := Lib.hid p1
  have P2 := Lib.hid p2
  have PV := Lib.hid pV
  have PA := Lib.hid pA
  have PB2 := Lib.hid pB2
  clear p1 p2 pV pA pB2
  -- the statements
  refine (toStmtS_of n (toStmt_one n) p.body k.ba k.bc D _ hb0 (HBA.out.later (Stand.of_below PB2.out hl)) (fun j hj => Nat.lt_of_lt_of_le (hl j hj) PB2.out.size) hs3 HS4.out).mono ?_
  rintro f w4 ⟨ba, bc, rfl, hbc', hbm', hE4, hb4⟩
  have z4 := hb4.size
  have r2 := (hb4.block (w.heap.size + 1 + 1) (by omega)).trans P2.out
  have r1 := (hb4.block (w.heap.size + 1) (by omega)).trans P1.out
  have v0 : w4.cell? ⟨w.heap.size + 1 + 1, 0, none⟩ = some (.slice va p.vars.length vc) := by rw [cell_at r2]; rfl
  have v1 : w4.cell? ⟨w.heap.size + 1 + 1, 1, none⟩ = some (.slice aa p.arrs.length ac) := by rw [cell_at r2]; rfl
  have v2 : w4.cell? ⟨w.heap.size + 1 + 1, 2, none⟩ = some (.slice none 0 0) := by rw [cell_at r2]; rfl
  have hg2 := frozen_at r2 2
  obtain ⟨u0, hu0⟩ := cell_ex r1 0 (by simp)
  obtain ⟨u1, hu1⟩ := cell_ex r1 1 (by simp)
  obtain ⟨u2, hu2⟩ := cell_ex r1 2 (by simp)
  have hf0 := frozen_at r1 0
  have hf1 := frozen_at r1 1
  have hf2 := frozen_at r1 2
  obtain ⟨WF, hWF⟩ : ∃ WF, put (put w4 (w.heap.size + 1 + 1) 2 [.slice ba p.body.length bc]) (w.heap.size + 1) 0 (arrP p ⟨va, vc, aa, ac, ba, bc⟩).toList = WF := ⟨_, rfl⟩
  have zF : WF.heap.size = w4.heap.size := by rw [← hWF, put_size, put_size]
  have oF : ∀ j, j ≠ w.heap.size + 1 → j ≠ w.heap.size + 1 + 1 → WF.heap[j]? = w4.heap[j]? := fun j h1 h2 => by rw [← hWF, put_other _ _ _ _ _ h1, put_other _ _ _ _ _ h2]
  have bF : Below w.heap.size w WF := by rw [← hWF]; exact put_below _ _ _ _ _ _ (put_below _ _ _ _ _ _ (PB2.out.trans (hb4.mono PB2.out.size)) (by omega)) (by omega)
  have dF : ∀ {a b : World}, W.heap.size ≤ a.heap.size → b.heap.size ≤ w4.heap.size → ∀ j, New a b j → New w WF j := fun h1 h2 j hj => ⟨by have := hj.1; omega, by have := hj.2; omega⟩
  have sF : ∀ {a b : World}, W.heap.size ≤ a.heap.size → Stand (New a b) w4 WF := fun h1 j hj => oF j (by have := hj.1; omega) (by have := hj.1; omega)
  have HFIN : Hid (CopyP n p w (.returned (aggP p ⟨va, vc, aa, ac, ba, bc⟩)) WF) := by
    refine ⟨_, rfl, ⟨⟨hvc, hvm, ?_⟩, ⟨hac, ham, ?_⟩, hbc', hbm', ?_⟩, bF⟩
    · exact (PV.out.wide (w' := w4) (fun j hj => hb4.block j (by have := hj.2; omega)) fun _ x => x).wide (sF (Nat.le_refl _)) (dF (Nat.le_refl _) (by omega))
    · exact (PA.out.wide (w' := w4) (fun j hj => hb4.block j (by have := hj.2; omega)) fun _ x => x).wide (sF (by omega)) (dF (by omega) (by omega))
    · exact hE4.wide (sF (by omega)) (dF (by omega) (Nat.le_refl _))
  have HWF : Hid (put (put w4 (w.heap.size + 1 + 1) 2 [.slice ba p.body.length bc]) (w.heap.size + 1) 0 (arrP p ⟨va, vc, aa, ac, ba, bc⟩).toList = WF) := hWF
  clear r1 r2 hE4 hb4 HBA PB2 P1 P2 PV PA hWF oF bF dF sF zF
  go_wp2_with fail
  refine bodyPost_ret (v := aggP p ⟨va, vc, aa, ac, ba, bc⟩) (by simp [results, Try.f25, go_sem, hu0, hu1, hu2]) rfl ?_
  have e := HWF.out
  have := HFIN.out
  rw [← e] at this
  exact this

end Go.Proofs.Ytgfagdjadmpklaa

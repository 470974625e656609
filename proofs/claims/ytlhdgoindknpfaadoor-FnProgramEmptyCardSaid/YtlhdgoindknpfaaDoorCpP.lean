/- The copy of a program of the model's package: rows of the call's own. -/
import Derived.Test.YtlhdgoindknpfaaDoorCpI
import Derived.Deep.RegionHeld3
import Derived.Test.YtlhdgoindknpfaaDoorPut
namespace Go.Proofs.YtlhdgoindknpfaaDoor
open Go.RowKit
set_option linter.unusedVariables false

/-- A program has been copied: its three rows are the call's own, apart from one another, the body's behind the other two. -/
def CopyPg (n : Nat) (p : Pg) (w : World) (f : Ending) (w' : World) : Prop := ∃ va vc aa ac ba bc b2, f = .returned (.agg #[.slice va p.vars.length vc, .slice aa p.arrs.length ac, .slice ba p.body.length bc]) ∧ w.heap.size + 2 ≤ b2 ∧ b2 ≤ w'.heap.size ∧
  OwnI w' (w.heap.size + 2) (.slice va p.vars.length vc) p.vars ∧ OwnI w' (w.heap.size + 2) (.slice aa p.arrs.length ac) p.arrs ∧ (∀ g, (Value.slice va p.vars.length vc).ownBlock = some g → g < b2 ∧ (Value.slice aa p.arrs.length ac).ownBlock ≠ some g) ∧ (∀ g, (Value.slice aa p.arrs.length ac).ownBlock = some g → g < b2) ∧
  RowS n w' b2 (.slice ba p.body.length bc) p.body ∧ Below w.heap.size w w'

set_option maxRecDepth 100000 in
set_option maxHeartbeats 4000000 in
theorem cpProgram (p : Pg) (k : PC) (n : Nat) (D : Nat → Prop) (w : World) (hp : IsP w D n p k) (hl : ∀ k, D k → k < w.heap.size) (hs : SmP 1048576 n p) : Calls Tryd.prog 49 #[aggP p k] w (CopyPg n p w) := by
  obtain ⟨W, hW⟩ : ∃ W, (w.alloc (.cells #[.slice k.va p.vars.length k.vc, .slice k.aa p.arrs.length k.ac, .slice k.ba p.body.length k.bc] 26)).alloc (.cells #[.slice none 0 0, .slice none 0 0, .slice none 0 0] 26) = W := ⟨_, rfl⟩
  have hBW : Below w.heap.size w W := by rw [← hW]; exact ((Below.refl _ w).alloc (Nat.le_refl _) _).alloc (by simp) _
  have hz : W.heap.size = w.heap.size + 2 := by rw [← hW]; simp
  have e0 : BoxP W w.heap.size p k := by
    rw [← hW]; exact (BoxP.new w p k _).later (Below.heap_alloc _ _ _ (by simp))
  have HE1 : Hid (W.heap[w.heap.size + 1]? = some (.cells #[.slice none 0 0, .slice none 0 0, .slice none 0 0] 26 (0, 0))) := by
    have e1 := heap_alloc_new (w.alloc (.cells #[.slice k.va p.vars.length k.vc, .slice k.aa p.arrs.length k.ac, .slice k.ba p.body.length k.bc] 26)) (.cells #[.slice none 0 0, .slice none 0 0, .slice none 0 0] 26)
    rw [World.size_alloc] at e1
    rw [← hW]; exact e1
  have HS : Hid (∀ v', Below (w.heap.size + 2) W v' → v'.cell? ⟨w.heap.size, 0, none⟩ = some (.slice k.va p.vars.length k.vc) ∧ v'.cell? ⟨w.heap.size, 1, none⟩ = some (.slice k.aa p.arrs.length k.ac) ∧ v'.cell? ⟨w.heap.size, 2, none⟩ = some (.slice k.ba p.body.length k.bc)) := fun v' hb => ⟨(e0.below hb (by omega)).c0, (e0.below hb (by omega)).c1, (e0.below hb (by omega)).c2⟩
  obtain ⟨p0, p1, p2⟩ := HS.out W (Below.refl _ _)
  have M1 : Hid (OwnI ((W.alloc (.cells #[] 3)).drew) (w.heap.size + 2) (.slice (some ⟨w.heap.size + 2, 0, none⟩) 0 0) []) := by have := (OwnI.made' W (w.heap.size + 2) (by omega)).drew'; rw [hz] at this; exact this
  have M3 : Hid (OwnI (((W.alloc (.cells #[] 3)).alloc (.cells #[] 3)).drew) (w.heap.size + 2) (.slice (some ⟨w.heap.size + 3, 0, none⟩) 0 0) []) := by
    have h := (OwnI.made' (W.alloc (.cells #[] 3)) (w.heap.size + 2) (by simp; omega)).drew'
    have hq : (W.alloc (.cells #[] 3)).heap.size = w.heap.size + 3 := by simp; omega
    rw [hq] at h
    exact h
  have M2 : Hid (OwnI (((W.alloc (.cells #[] 3)).alloc (.cells #[] 3)).drew) (w.heap.size + 2) (.slice (some ⟨w.heap.size + 2, 0, none⟩) 0 0) []) := M1.out.far fun g hg => by
    cases hg
    exact Below.heap_alloc _ _ _ (show w.heap.size + 2 < (W.alloc (.cells #[] 3)).heap.size by simp; omega)
  have HI := Lib.hid Tryd.infoI
  have HPV : Hid (∀ v', Below w.heap.size w v' → IsP v' D n p k) := fun v' hb => hp.later fun j hj => hb.block j (hl j hj)
  have HWW := Lib.hid hW
  have HBL := Lib.hid hBW
  have HSM := Lib.hid hs
  have HB1 : Hid (Below (w.heap.size + 2) W ((W.alloc (.cells #[] 3)).drew)) := ((Below.refl _ W).alloc (by omega) _).drew
  have HB2 : Hid (Below (w.heap.size + 2) W (((W.alloc (.cells #[] 3)).alloc (.cells #[] 3)).drew)) := (((Below.refl _ W).alloc (by omega) _).alloc (by simp; omega) _).drew
  have HZ1 : Hid ((((W.alloc (.cells #[] 3)).drew).heap.size) = w.heap.size + 3) := by show (W.alloc (.cells #[] 3)).heap.size = _; simp; omega
  have HZ2 : Hid (((((W.alloc (.cells #[] 3)).alloc (.cells #[] 3)).drew).heap.size) = w.heap.size + 4) := by show ((W.alloc (.cells #[] 3)).alloc (.cells #[] 3)).heap.size = _; simp; omega
  have HU : Hid (∀ v', Below (w.heap.size + 2) W v' → Below w.heap.size w v') := fun v' hb => hBW.trans (hb.mono (by omega))
  clear hW hBW e0 hp hs
  go_enter Tryd.func49, Tryd.ntmps49
  go_wp2_with fail
  simp only [aggP]
  rw [HWW.out]
  clear HWW
  go_region_held3 (fun v' => v'.cell? ⟨w.heap.size, 0, none⟩ = some (.slice k.va p.vars.length k.vc) ∧ v'.cell? ⟨w.heap.size, 1, none⟩ = some (.slice k.aa p.arrs.length k.ac) ∧ v'.cell? ⟨w.heap.size, 2, none⟩ = some (.slice k.ba p.body.length k.bc)) (first | assumption | exact ⟨p0, p1, p2⟩ | exact HS.out _ HB1.out | exact HS.out _ HB2.out | exact hs1 | exact hs1a | exact hs2 | exact hs3 | exact hsP)
    (first
    | (refine step_copyI (by rfl) _ _ (by rfl) HI.out (w.heap.size + 2) _ (by rfl) (by first | exact M1.out | exact M2.out | exact M3.out) p.vars _ _ (by rfl) D (by first | exact (HPV.out _ (HU.out _ HB1.out)).1.2.2 | exact (HPV.out _ (HU.out _ HB2.out)).1.2.2) HSM.out.1 (by first | (have := HZ1.out; omega) | (have := HZ2.out; omega)) ?_; rintro v w1 ⟨va, vc, rfl, hv1, hgr1, hat1⟩; have hb1 : Below (w.heap.size + 2) W w1 := (by first | exact HB1.out.grown hgr1 (by have := HZ1.out; omega) (fun k e => by cases e; omega) | exact HB2.out.grown hgr1 (by have := HZ2.out; omega) (fun k e => by cases e; omega)); have hs1 := HS.out w1 hb1; have hz1 := hb1.size
       have hb1a : Below (w.heap.size + 2) W (w1.alloc (.cells #[] 3)) := hb1.alloc (by omega) _
       have hs1a := HS.out _ hb1a
       have k4 : OwnI (w1.alloc (.cells #[] 3)) (w.heap.size + 2) (.slice (some ⟨w1.heap.size, 0, none⟩) 0 0) [] := OwnI.made' w1 _ (by omega)
       (try have k3 := M3.out.by' hgr1 (by omega))
       (try have k2 := M2.out.by' hgr1 (by omega)))
    | (refine step_copyI (by rfl) _ _ (by rfl) HI.out (w.heap.size + 2) _ (by rfl) (by first | exact k4 | exact k3 | exact k2) p.arrs _ _ (by rfl) D (by first | exact (HPV.out _ (HU.out _ hb1)).2.1.2.2 | exact (HPV.out _ (HU.out _ hb1a)).2.1.2.2) HSM.out.2.1 (by first | (have := hb1.size; omega) | (have := hb1a.size; omega)) ?_; rintro v w2 ⟨aa, ac, rfl, hv2, hgr2, hat2⟩; have hb2 : Below (w.heap.size + 2) W w2 := (by first | exact hb1.grown hgr2 (by omega) (fun k e => by cases e; omega) | exact hb1a.grown hgr2 (by have := hb1a.size; omega) (fun k e => by cases e; omega)); have hs2 := HS.out w2 hb2; have hz2 := hb2.size; have hw12 : w1.heap.size ≤ w2.heap.size := (by first | exact hgr2.size | exact Nat.le_trans (show w1.heap.size ≤ (w1.alloc (.cells #[] 3)).heap.size by simp) hgr2.size)
       have lt1 : ∀ g, (Value.slice va p.vars.length vc).ownBlock = some g → g < w1.heap.size := fun g hg => ((show w1.ownsRow (w.heap.size + 2) 3 1 (.slice va p.vars.length vc) p.vars.length (p.vars.map (Value.int .i64)) from hv1).lt g hg).2
       have lt2 : ∀ g, (Value.slice aa p.arrs.length ac).ownBlock = some g → g < w2.heap.size := fun g hg => ((show w2.ownsRow (w.heap.size + 2) 3 1 (.slice aa p.arrs.length ac) p.arrs.length (p.arrs.map (Value.int .i64)) from hv2).lt g hg).2
       have hap : ∀ g, (Value.slice va p.vars.length vc).ownBlock = some g → (Value.slice aa p.arrs.length ac).ownBlock ≠ some g := fun g hg e2 => (by
         have hlg := lt1 g hg
         rw [hg] at hat1
         rw [e2] at hat2
         rcases hat1 with h | h <;> rcases hat2 with h' | h' <;> (injection h with h; injection h' with h'; first | omega | (have := HZ1.out; omega) | (have := HZ2.out; omega) | (simp at h'; omega)))
       have hv12 : OwnI w2 (w.heap.size + 2) (.slice va p.vars.length vc) p.vars := (by first
         | exact hv1.far fun g hg => hgr2.block g (lt1 g hg) (fun e2 => (by rw [hg] at hat1; cases e2; rcases hat1 with h | h <;> (injection h with h; first | omega | (have := HZ1.out; omega) | (have := HZ2.out; omega))))
         | exact hv1.far fun g hg => (hgr2.block g (Nat.lt_of_lt_of_le (lt1 g hg) (show w1.heap.size ≤ (w1.alloc (.cells #[] 3)).heap.size by simp)) (fun e2 => (by have := lt1 g hg; cases e2; omega))).trans (Below.heap_alloc _ _ _ (lt1 g hg))))
    | (go_at_call 77; refine (cpBlock_row n p.body k.ba k.bc D _ (HPV.out _ (HU.out _ hb2)).2.2.1 (HPV.out _ (HU.out _ hb2)).2.2.2.1 (HPV.out _ (HU.out _ hb2)).2.2.2.2 (fun j hj => by have := hl j hj; omega) HSM.out.2.2.1 HSM.out.2.2.2).mono ?_; rintro f w3 ⟨ba, bc, rfl, hrow, hb3⟩
       have hb3' : Below (w.heap.size + 2) W w3 := hb2.trans (hb3.mono (by omega))
       have hs3 := HS.out w3 hb3'
       have hR3 := (hb3'.block (w.heap.size + 1) (by omega)).trans HE1.out
       obtain ⟨r0, hr0⟩ := cell_ex hR3 0 (by simp)
       obtain ⟨r1, hr1⟩ := cell_ex hR3 1 (by simp)
       obtain ⟨r2, hr2⟩ := cell_ex hR3 2 (by simp)
       have f0 := frozen_at hR3 0
       have f1 := frozen_at hR3 1
       have f2 := frozen_at hR3 2
       have hsP : (put w3 (w.heap.size + 1) 0 [.slice va p.vars.length vc, .slice aa p.arrs.length ac, .slice ba p.body.length bc]).cell? ⟨w.heap.size, 0, none⟩ = some (.slice k.va p.vars.length k.vc) ∧ (put w3 (w.heap.size + 1) 0 [.slice va p.vars.length vc, .slice aa p.arrs.length ac, .slice ba p.body.length bc]).cell? ⟨w.heap.size, 1, none⟩ = some (.slice k.aa p.arrs.length k.ac) ∧ (put w3 (w.heap.size + 1) 0 [.slice va p.vars.length vc, .slice aa p.arrs.length ac, .slice ba p.body.length bc]).cell? ⟨w.heap.size, 2, none⟩ = some (.slice k.ba p.body.length k.bc) := (by
         have ho := put_other [.slice va p.vars.length vc, .slice aa p.arrs.length ac, .slice ba p.body.length bc] w3 (w.heap.size + 1) 0 w.heap.size (by omega)
         exact ⟨(World.cell?_of_block (w := w3) ho).trans hs3.1, (World.cell?_of_block (w := w3) ho).trans hs3.2.1, (World.cell?_of_block (w := w3) ho).trans hs3.2.2⟩))
    | fail)
  all_goals
    have hw3 : w2.heap.size ≤ w3.heap.size := hb3.size
    have hpo : ∀ j, j ≠ w.heap.size + 1 → (put w3 (w.heap.size + 1) 0 [.slice va p.vars.length vc, .slice aa p.arrs.length ac, .slice ba p.body.length bc]).heap[j]? = w3.heap[j]? := fun j hj => put_other _ _ _ _ _ hj
    have HF : Hid (CopyPg n p w (.returned (.agg #[.slice va p.vars.length vc, .slice aa p.arrs.length ac, .slice ba p.body.length bc])) (put w3 (w.heap.size + 1) 0 [.slice va p.vars.length vc, .slice aa p.arrs.length ac, .slice ba p.body.length bc])) :=
      ⟨va, vc, aa, ac, ba, bc, w2.heap.size, rfl, by omega, by rw [put_size]; exact hw3, (hv12.later hb3).stand fun j hj _ => hpo j (by omega), (hv2.later hb3).stand fun j hj _ => hpo j (by omega), fun g hg => ⟨Nat.lt_of_lt_of_le (lt1 g hg) hw12, hap g hg⟩, lt2,
        hrow.oth (hRS n) (B := w.heap.size + 1) ⟨by rw [put_size]; exact Nat.le_refl _, fun j _ hne => hpo j hne⟩ (by omega), put_below _ _ _ w.heap.size _ 0 (HU.out w3 hb3') (by omega)⟩
    clear hap lt2 hw12 hpo hw3 hrow hb3 hb3' hs3 hsP hv12 hv2 hgr2 hat2 hb2 hs2 hv1 hgr1 hat1 hb1 hs1 hs1a hb1a k4 lt1 hR3 HB1 HB2 HZ1 HZ2 HU M1 M2 M3 HPV HSM HS HI HE1 p0 p1 p2
    go_wp2_with fail
    exact bodyPost_ret (v := .agg #[.slice va p.vars.length vc, .slice aa p.arrs.length ac, .slice ba p.body.length bc]) (by simp [results, Tryd.f49, go_sem, hr0, hr1, hr2]) rfl HF.out
end Go.Proofs.YtlhdgoindknpfaaDoor

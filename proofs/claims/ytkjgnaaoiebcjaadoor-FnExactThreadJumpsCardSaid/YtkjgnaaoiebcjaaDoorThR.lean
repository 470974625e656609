/- rewritten at threaded, and ThreadJumps of the program, walked. -/
import Derived.Test.YtkjgnaaoiebcjaaDoorPaN
import Derived.Test.YtkjgnaaoiebcjaaDoorThI
import Derived.Deep.RegionHeld3
namespace Go.Proofs.YtkjgnaaoiebcjaaDoor
open Go.RowKit
set_option linter.unusedVariables false

set_option maxRecDepth 100000 in
set_option maxHeartbeats 8000000 in
/-- **rewritten** at loop.example/constanttime/impl.threaded. -/
theorem rewTh_one (m : Cd) (k : CK) (w : World) (h : CL w m k) (hs : CSm m) (hT : TblF w)
    (hP : codeB m = true → ∀ v, Below w.heap.size w v → Calls Tryd.prog 46 #[.slice k.la m.list.length k.lc] v (CloneN (thrL m.list) (thrL m.list).length v)) :
    Calls Tryd.prog 45 #[aggC m k, .func (.func 46) #[] #[]] w (PassN thrL m w) := by
  obtain ⟨hs1, hs2, hs3⟩ := hs
  obtain ⟨W, hW⟩ : ∃ W, (w.alloc (.cells (arrC m k) 30)).alloc (.cells #[.slice none 0 0, .slice none 0 0, .slice none 0 0] 30) = W := ⟨_, rfl⟩
  have hB : Below w.heap.size w W := by rw [← hW]; exact ((Below.refl _ w).alloc (Nat.le_refl _) _).alloc (by simp) _
  have hX : BoxC W w.heap.size m k := by rw [← hW]; exact (BoxC.new w m k _).later (Below.heap_alloc _ _ _ (by simp))
  have hE : W.heap[w.heap.size + 1]? = some (.cells #[.slice none 0 0, .slice none 0 0, .slice none 0 0] 30 (0, 0)) := by
    have e1 := heap_alloc_new (w.alloc (.cells (arrC m k) 30)) (.cells #[.slice none 0 0, .slice none 0 0, .slice none 0 0] 30)
    rw [World.size_alloc] at e1
    rw [← hW]; exact e1
  have hlw : w.heap.size + 1 < W.heap.size := (Array.getElem?_eq_some_iff.1 hE).1
  have HS : Hid (∀ v, Below W.heap.size W v → (v.cell? ⟨w.heap.size, 0, none⟩ = some (.slice k.va m.vars.length k.vc) ∧ v.cell? ⟨w.heap.size, 1, none⟩ = some (.slice k.aa m.arrs.length k.ac) ∧ v.cell? ⟨w.heap.size, 2, none⟩ = some (.slice k.la m.list.length k.lc))) := fun v hv => by
    have b := hX.below hv hX.lt
    exact ⟨b.c0, b.c1, b.c2⟩
  have HE : Hid (∀ v, Below W.heap.size W v → v.heap[w.heap.size + 1]? = some (.cells #[.slice none 0 0, .slice none 0 0, .slice none 0 0] 30 (0, 0))) := fun v hv => (hv.block _ hlw).trans hE
  have HCL : Hid (∀ v, Below W.heap.size W v → CL v m k) := fun v hv => (h.below hB).below hv
  have HCV : Hid (∀ v, Below W.heap.size W v → IAt v (fun b => b < v.heap.size) m.vars k.va) := fun v hv => (HCL.out v hv).1
  have HCA : Hid (∀ v, Below W.heap.size W v → IAt v (fun b => b < v.heap.size) m.arrs k.aa) := fun v hv => (HCL.out v hv).2.1
  have HV := Lib.hid (iCV_one m k W (h.below hB) (hT.below hB hT.lt))
  have HP : Hid (codeB m = true → ∀ v, Below W.heap.size W v → Calls Tryd.prog 46 #[.slice k.la m.list.length k.lc] v (CloneN (thrL m.list) (thrL m.list).length v)) := fun e v hv => hP e v (hB.trans (hv.mono hB.size))
  have HB := Lib.hid hB
  have HW := Lib.hid hW
  unfold arrC at HW
  obtain ⟨x0, x1, x2⟩ := HS.out W (Below.refl _ _)
  clear h hT hP hW hB hX hE
  go_enter Tryd.func45, Tryd.ntmps45
  go_wp2_with (first | rw [HW.out] | fail)
  refine HV.out.mono ?_
  rintro e w1 ⟨rfl, hb1⟩
  obtain ⟨q, hq⟩ : ∃ q, codeB m = q := ⟨_, rfl⟩
  have HQ := Lib.hid hq
  have HB1 := Lib.hid hb1
  rw [hq]
  clear hq hb1 HV x0 x1 x2
  cases q
  case false =>
    have hE1 := HE.out w1 HB1.out
    obtain ⟨r0, hr0⟩ := cell_ex hE1 0 (by simp)
    obtain ⟨r1, hr1⟩ := cell_ex hE1 1 (by simp)
    obtain ⟨r2, hr2⟩ := cell_ex hE1 2 (by simp)
    have f0 := frozen_at hE1 0
    have f1 := frozen_at hE1 1
    have f2 := frozen_at hE1 2
    have HFIN : Hid (PassN thrL m w (.returned (.tuple #[.agg #[.slice none 0 0, .slice none 0 0, .slice none 0 0], .bool false])) (((w1.setCell ⟨w.heap.size + 1, 0, none⟩ (.slice none 0 0)).setCell ⟨w.heap.size + 1, 1, none⟩ (.slice none 0 0)).setCell ⟨w.heap.size + 1, 2, none⟩ (.slice none 0 0))) := by
      refine ⟨⟨[], [], []⟩, ⟨none, 0, none, 0, none, 0⟩, false, rfl, ⟨fun e => ?_, fun _ => ⟨rfl, rfl⟩⟩, OwnC.none _ _, ?_⟩
      · rw [HQ.out] at e; cases e
      · exact (((HB.out.trans (HB1.out.mono HB.out.size)).setCell (p := ⟨w.heap.size + 1, 0, none⟩) (by simp) _).setCell (p := ⟨w.heap.size + 1, 1, none⟩) (by simp) _).setCell (p := ⟨w.heap.size + 1, 2, none⟩) (by simp) _
    clear hE1
    go_wp2_with fail
    exact bodyPost_ret (v := .tuple #[.agg #[.slice none 0 0, .slice none 0 0, .slice none 0 0], .bool false]) (by simp [results, Tryd.f45, go_sem, hr0, hr1, hr2]) rfl HFIN.out
  case true =>
    have HP2 := Lib.hid (HP.out HQ.out)
    have HBD : Hid (Below W.heap.size W w1.drew) := HB1.out.drew
    have hS1 := HS.out w1 HB1.out
    have hS1d := HS.out w1.drew HBD.out
    go_wp2_with fail
    go_region_held3 (fun v => v.cell? ⟨w.heap.size, 0, none⟩ = some (.slice k.va m.vars.length k.vc) ∧ v.cell? ⟨w.heap.size, 1, none⟩ = some (.slice k.aa m.arrs.length k.ac) ∧ v.cell? ⟨w.heap.size, 2, none⟩ = some (.slice k.la m.list.length k.lc)) (first | (with_reducible assumption) | (with_reducible exact hS1) | (with_reducible exact hS1d))
      (first
      | (go_at_call 71; (with_reducible refine (cloneI_one m.vars k.va m.vars.length k.vc w1.drew (HCV.out _ HBD.out) rfl hs1).mono ?_)
         rintro f w2 ⟨va, vc, rfl, ho2, hb2⟩
         have hB2 : Below W.heap.size W w2 := HBD.out.trans (hb2.mono HBD.out.size)
         have hS2 := HS.out w2 hB2)
      | (go_at_call 71; (with_reducible refine (cloneI_one m.arrs k.aa m.arrs.length k.ac w2 (HCA.out _ hB2) rfl hs2).mono ?_)
         rintro f w3 ⟨aa, ac, rfl, ho3, hb3⟩
         have hB3 : Below W.heap.size W w3 := hB2.trans (hb3.mono hB2.size)
         have hS3 := HS.out w3 hB3)
      | (go_at_call 46; (with_reducible refine (HP2.out w3 hB3).mono ?_)
         rintro f w4 ⟨la, lc, rfl, ho4, hb4⟩
         have hB4 : Below W.heap.size W w4 := hB3.trans (hb4.mono hB3.size)
         have hS4 := HS.out w4 hB4
         have hR4 := HE.out w4 hB4
         obtain ⟨r0, hr0⟩ := cell_ex hR4 0 (by simp)
         obtain ⟨r1, hr1⟩ := cell_ex hR4 1 (by simp)
         obtain ⟨r2, hr2⟩ := cell_ex hR4 2 (by simp)
         have f0 := frozen_at hR4 0
         have f1 := frozen_at hR4 1
         have f2 := frozen_at hR4 2
         have hsP := facts_put3 (w := w4) (b := w.heap.size + 1) (.slice va m.vars.length vc) (.slice aa m.arrs.length ac) (.slice la (thrL m.list).length lc) (show w.heap.size ≠ w.heap.size + 1 by omega) hS4)
      | fail)
    all_goals
      have HF : Hid (PassN thrL m w (.returned (.tuple #[.agg #[.slice va m.vars.length vc, .slice aa m.arrs.length ac, .slice la (thrL m.list).length lc], .bool true])) (((w4.setCell ⟨w.heap.size + 1, 0, none⟩ (.slice va m.vars.length vc)).setCell ⟨w.heap.size + 1, 1, none⟩ (.slice aa m.arrs.length ac)).setCell ⟨w.heap.size + 1, 2, none⟩ (.slice la (thrL m.list).length lc))) := by
        have hoth : ∀ j, j ≠ w.heap.size + 1 → (((w4.setCell ⟨w.heap.size + 1, 0, none⟩ (.slice va m.vars.length vc)).setCell ⟨w.heap.size + 1, 1, none⟩ (.slice aa m.arrs.length ac)).setCell ⟨w.heap.size + 1, 2, none⟩ (.slice la (thrL m.list).length lc)).heap[j]? = w4.heap[j]? := fun j hj => by
          rw [Below.heap_setCell _ _ _ _ (by simpa using hj), Below.heap_setCell _ _ _ _ (by simpa using hj), Below.heap_setCell _ _ _ _ (by simpa using hj)]
        have z1 := HBD.out.size
        have z2 := hb2.size
        have z3 := hb3.size
        refine ⟨⟨m.vars, m.arrs, thrL m.list⟩, ⟨va, vc, aa, ac, la, lc⟩, true, rfl, ⟨fun _ => ⟨rfl, rfl⟩, fun e => by rw [HQ.out] at e; cases e⟩, ?_, ?_⟩
        · exact OwnC.three (w1 := w1.drew) (w2 := w2) (w3 := w3) (w4 := w4) (by omega) ho2 hb3 ho3 hb4 ho4 (fun j h1 => hoth j (by omega))
        · exact (((HB.out.trans (hB4.mono HB.out.size)).setCell (p := ⟨w.heap.size + 1, 0, none⟩) (by simp) _).setCell (p := ⟨w.heap.size + 1, 1, none⟩) (by simp) _).setCell (p := ⟨w.heap.size + 1, 2, none⟩) (by simp) _
      clear hS2 hS3 hS4 hsP ho2 ho3 ho4 hb2 hb3 hb4 hB2 hB3 hB4 hR4 hS1 hS1d HP HP2 HS HE HCL HCV HCA
      go_wp2_with fail
      exact bodyPost_ret (v := .tuple #[.agg #[.slice va m.vars.length vc, .slice aa m.arrs.length ac, .slice la (thrL m.list).length lc], .bool true]) (by simp [results, Tryd.f45, go_sem, hr0, hr1, hr2]) rfl HF.out

set_option maxRecDepth 100000 in
set_option maxHeartbeats 4000000 in
/-- **loop.example/constanttime/impl.ThreadJumps.** -/
theorem iTh_one (m : Cd) (k : CK) (w : World) (h : CL w m k) (hs : CSm m) (hT : TblF w)
    (hP : codeB m = true → ∀ v, Below w.heap.size w v → Calls Tryd.prog 46 #[.slice k.la m.list.length k.lc] v (CloneN (thrL m.list) (thrL m.list).length v)) :
    Calls Tryd.prog 20 #[aggC m k] w (PassN thrL m w) := by
  obtain ⟨W, hW⟩ : ∃ W, (w.alloc (.cells (arrC m k) 30)).alloc (.cells #[.slice none 0 0, .slice none 0 0, .slice none 0 0] 30) = W := ⟨_, rfl⟩
  have hB : Below w.heap.size w W := by rw [← hW]; exact ((Below.refl _ w).alloc (Nat.le_refl _) _).alloc (by simp) _
  have hX : BoxC W w.heap.size m k := by rw [← hW]; exact (BoxC.new w m k _).later (Below.heap_alloc _ _ _ (by simp))
  have hE : W.heap[w.heap.size + 1]? = some (.cells #[.slice none 0 0, .slice none 0 0, .slice none 0 0] 30 (0, 0)) := by
    have e1 := heap_alloc_new (w.alloc (.cells (arrC m k) 30)) (.cells #[.slice none 0 0, .slice none 0 0, .slice none 0 0] 30)
    rw [World.size_alloc] at e1
    rw [← hW]; exact e1
  have hlw : w.heap.size + 1 < W.heap.size := (Array.getElem?_eq_some_iff.1 hE).1
  have x0 := hX.c0
  have x1 := hX.c1
  have x2 := hX.c2
  have HR := Lib.hid (rewTh_one m k W (h.below hB) hs (hT.below hB hT.lt) fun e v hv => hP e v (hB.trans (hv.mono hB.size)))
  have HE := Lib.hid hE
  have HB := Lib.hid hB
  have HW := Lib.hid hW
  unfold arrC at HW
  clear h hs hT hP hW hB hX hE
  go_enter Tryd.func20, Tryd.ntmps20
  go_wp2_with (first | rw [HW.out] | fail)
  refine HR.out.mono ?_
  rintro e w1 ⟨m', k', b, rfl, hv, ho, hb1⟩
  have hE1 := (hb1.block _ hlw).trans HE.out
  obtain ⟨r0, hr0⟩ := cell_ex hE1 0 (by simp)
  obtain ⟨r1, hr1⟩ := cell_ex hE1 1 (by simp)
  obtain ⟨r2, hr2⟩ := cell_ex hE1 2 (by simp)
  have f0 := frozen_at hE1 0
  have f1 := frozen_at hE1 1
  have f2 := frozen_at hE1 2
  have HFIN : Hid (PassN thrL m w (.returned (.tuple #[aggC m' k', .bool b])) (((w1.setCell ⟨w.heap.size + 1, 0, none⟩ (.slice k'.va m'.vars.length k'.vc)).setCell ⟨w.heap.size + 1, 1, none⟩ (.slice k'.aa m'.arrs.length k'.ac)).setCell ⟨w.heap.size + 1, 2, none⟩ (.slice k'.la m'.list.length k'.lc))) := by
    have hoth : ∀ j, j ≠ w.heap.size + 1 → (((w1.setCell ⟨w.heap.size + 1, 0, none⟩ (.slice k'.va m'.vars.length k'.vc)).setCell ⟨w.heap.size + 1, 1, none⟩ (.slice k'.aa m'.arrs.length k'.ac)).setCell ⟨w.heap.size + 1, 2, none⟩ (.slice k'.la m'.list.length k'.lc)).heap[j]? = w1.heap[j]? := fun j hj => by
      rw [Below.heap_setCell _ _ _ _ (by simpa using hj), Below.heap_setCell _ _ _ _ (by simpa using hj), Below.heap_setCell _ _ _ _ (by simpa using hj)]
    refine ⟨m', k', b, rfl, hv, ((ho.stand fun g h1 _ => hoth g (by omega)).mono HB.out.size), ?_⟩
    exact (((HB.out.trans (hb1.mono HB.out.size)).setCell (p := ⟨w.heap.size + 1, 0, none⟩) (by simp) _).setCell (p := ⟨w.heap.size + 1, 1, none⟩) (by simp) _).setCell (p := ⟨w.heap.size + 1, 2, none⟩) (by simp) _
  clear hE1 hv ho hb1 HR
  go_wp2_with fail
  exact bodyPost_ret (v := .tuple #[aggC m' k', .bool b]) (by simp [results, Tryd.f20, go_sem, hr0, hr1, hr2, aggC]) rfl HFIN.out

end Go.Proofs.YtkjgnaaoiebcjaaDoor

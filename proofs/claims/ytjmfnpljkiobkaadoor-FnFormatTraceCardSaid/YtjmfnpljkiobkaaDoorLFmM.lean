/- The model's run of a drawn program at a drawn memory: MemoryValid answers true, RunProgram a memory and a list of events. -/
import Derived.Test.YtjmfnpljkiobkaaDoorCpM
import Derived.Test.YtjmfnpljkiobkaaDoorL3M
import Derived.Test.YtjmfnpljkiobkaaDoorL3N
import Derived.Test.YtjmfnpljkiobkaaDoorDrQM
import Derived.Test.YtjmfnpljkiobkaaDoorL3E
import Derived.Maps.AppendAt
import Derived.Laws.OwnMore
import Derived.Test.YtjmfnpljkiobkaaDoorProg
import Derived.WalkKit
import Derived.Below
import Derived.BigQuiet
import Derived.Deep.QuietTactic
import Derived.IntWalk
import Derived.Lib.Hide
import Derived.OwnWalk
import Derived.Outline
import Derived.KernelRfl
import Derived.Deep.Slices
import Derived.Deep.Fields
import Derived.Deep.RegionWith
import Derived.Laws.IdiomStrings
import Derived.Laws.Concat
import Derived.WalkSpells
import Derived.Lib.ItoaNum
import Derived.Lib.ItoaMem
import Derived.Lib.ItoaLen
import Derived.Deep.RegionHeld3
import Derived.Test.YtjmfnpljkiobkaaDoorL3D
import Derived.Test.YtjmfnpljkiobkaaDoorShelf
import Derived.Lib.FrozenHead2
import Derived.Lib.OthersKept
import Derived.Lib.FrozenHead
import Derived.Lib.AppendIntMem
import Derived.Lib.BufferOwn
namespace Go.Proofs.YtjmfnpljkiobkaaDoor
open Go.RowKit
set_option linter.unusedVariables false

set_option maxRecDepth 100000 in
set_option maxHeartbeats 1000000 in
theorem sMemoryValid_one (p : Pg) (k : PC) (n lo hi vc ac : Nat) (D : Nat → Prop) (va aa : Option Addr) (w : World) (hp : IsP w D n p k) (hl : ∀ k, D k → k < w.heap.size) (hv : progV p = true) (h : RM w lo hi p.vars.length p.arrs.length va aa) (hhi : hi ≤ w.heap.size) (hnv : p.vars.length ≤ 5) (hna : p.arrs.length ≤ 2) :
    Calls Tryd.prog 63 #[aggP p k, aggMm va aa p.vars.length p.arrs.length vc ac] w (AnsB true w) := by
  obtain ⟨W, hW⟩ : ∃ W, (w.alloc (.cells #[.slice k.va p.vars.length k.vc, .slice k.aa p.arrs.length k.ac, .slice k.ba p.body.length k.bc] 39)).alloc (.cells #[.slice va p.vars.length vc, .slice aa p.arrs.length ac] 90) = W := ⟨_, rfl⟩
  have hB : Below w.heap.size w W := by rw [← hW]; exact ((Below.refl _ w).alloc (Nat.le_refl _) _).alloc (by simp) _
  have hz : W.heap.size = w.heap.size + 2 := by rw [← hW]; simp
  have e0 : BoxP W w.heap.size p k := by
    rw [← hW]; exact (BoxP.new w p k _).later (Below.heap_alloc _ _ _ (by simp))
  have e1 : W.heap[w.heap.size + 1]? = some (.cells #[.slice va p.vars.length vc, .slice aa p.arrs.length ac] 90 (0, 0)) := by
    have e1 := heap_alloc_new (w.alloc (.cells #[.slice k.va p.vars.length k.vc, .slice k.aa p.arrs.length k.ac, .slice k.ba p.body.length k.bc] 39)) (.cells #[.slice va p.vars.length vc, .slice aa p.arrs.length ac] 90)
    rw [World.size_alloc] at e1
    rw [← hW]; exact e1
  have HF : Hid (∀ v, Below W.heap.size W v → v.cell? ⟨w.heap.size, 0, none⟩ = some (.slice k.va p.vars.length k.vc) ∧ v.cell? ⟨w.heap.size, 1, none⟩ = some (.slice k.aa p.arrs.length k.ac) ∧ v.cell? ⟨w.heap.size, 2, none⟩ = some (.slice k.ba p.body.length k.bc) ∧ v.cell? ⟨w.heap.size + 1, 0, none⟩ = some (.slice va p.vars.length vc) ∧ v.cell? ⟨w.heap.size + 1, 1, none⟩ = some (.slice aa p.arrs.length ac)) := fun v hv => by
    have bp := e0.below hv (by omega)
    have hm := (hv.block (w.heap.size + 1) (by omega)).trans e1
    exact ⟨bp.c0, bp.c1, bp.c2, by rw [cell_at hm]; rfl, by rw [cell_at hm]; rfl⟩
  have HP : Hid (IsP W D n p k) := hp.later (Stand.of_below hB hl)
  have HL : Hid (∀ j, D j → j < W.heap.size) := fun j hj => by have := hl j hj; omega
  have HM : Hid (∀ v, Below W.heap.size W v → RM v lo hi p.vars.length p.arrs.length va aa) := fun v hv => (h.stand fun b _ hb => hB.block b (by omega)).stand fun b _ hb => hv.block b (by omega)
  have HB := Lib.hid hB
  have HW := Lib.hid hW
  obtain ⟨f0, f1, f2, f3, f4⟩ := HF.out W (Below.refl _ _)
  clear hB e0 e1 hp h hW
  show Calls Tryd.prog 63 #[.agg #[.slice k.va p.vars.length k.vc, .slice k.aa p.arrs.length k.ac, .slice k.ba p.body.length k.bc], .agg #[.slice va p.vars.length vc, .slice aa p.arrs.length ac]] w _
  go_enter Tryd.func63, Tryd.ntmps63
  go_wp2_with fail
  rw [HW.out]
  refine (sProgramValid_one p k n D W HP.out HL.out).mono ?_
  rintro g w1 ⟨rfl, hb1⟩
  rw [hv]
  obtain ⟨g0, g1, g2, g3, g4⟩ := HF.out w1 hb1
  have HB1 := Lib.hid hb1
  have hz1 := hb1.size
  clear hb1
  go_wp2_with fail
  refine (l3Fits_one lo hi p.vars.length p.arrs.length p.body.length k.vc k.ac k.bc vc ac k.va k.aa k.ba va aa w1 (HM.out w1 HB1.out) (by omega) (by omega) hna).mono ?_
  rintro g w2 ⟨rfl, hb2⟩
  have HB2 := Lib.hid (HB.out.trans ((HB1.out.trans (hb2.mono hz1)).mono (by omega)))
  clear hb2
  go_wp2_with fail
  go_ret
  exact AnsB.of rfl HB2.out

/-- The answer of a run: a list of events in blocks of the call's own. -/
def RunP (w : World) (N : Nat) (f : Ending) (w' : World) : Prop := ∃ (ma mb : Option Addr) (mn mc on oc : Nat) (ta : Option Addr) (tc : Nat) (es : List (Int × Int)) (tb : Nat), f = .returned (.tuple #[.agg #[.slice ma mn mc, .slice mb on oc], .slice ta es.length tc, .bool true]) ∧ w.heap.size ≤ tb ∧ RowEv w' tb (.slice ta es.length tc) es ∧ es.length ≤ N ∧ Below w.heap.size w w'

set_option maxRecDepth 100000 in
set_option maxHeartbeats 1000000 in
theorem sRunProgram_one (p : Pg) (k : PC) (n lo hi vc ac : Nat) (D : Nat → Prop) (va aa : Option Addr) (w : World) (hp : IsP w D n p k) (hl : ∀ k, D k → k < w.heap.size) (hv : progV p = true) (h : RM w lo hi p.vars.length p.arrs.length va aa) (hhi : hi ≤ w.heap.size) (hnv : p.vars.length ≤ 5) (hna : p.arrs.length ≤ 2) (hcnt : cntSs p.body ≤ 84) :
    Calls Tryd.prog 46 #[aggP p k, aggMm va aa p.vars.length p.arrs.length vc ac] w (RunP w 22453200) := by
  obtain ⟨W, hW⟩ : ∃ W, ((w.alloc (.cells #[.slice k.va p.vars.length k.vc, .slice k.aa p.arrs.length k.ac, .slice k.ba p.body.length k.bc] 39)).alloc (.cells #[.slice va p.vars.length vc, .slice aa p.arrs.length ac] 90)).alloc (.cells #[.slice none 0 0, .slice none 0 0] 90) = W := ⟨_, rfl⟩
  have hB : Below w.heap.size w W := by rw [← hW]; exact (((Below.refl _ w).alloc (Nat.le_refl _) _).alloc (by simp) _).alloc (by simp; omega) _
  have hz : W.heap.size = w.heap.size + 3 := by rw [← hW]; simp
  have e0 : BoxP W w.heap.size p k := by
    rw [← hW]; exact ((BoxP.new w p k _).later (Below.heap_alloc _ _ _ (by simp))).later (Below.heap_alloc _ _ _ (by simp; omega))
  have e1 : W.heap[w.heap.size + 1]? = some (.cells #[.slice va p.vars.length vc, .slice aa p.arrs.length ac] 90 (0, 0)) := by
    have e1 := heap_alloc_new (w.alloc (.cells #[.slice k.va p.vars.length k.vc, .slice k.aa p.arrs.length k.ac, .slice k.ba p.body.length k.bc] 39)) (.cells #[.slice va p.vars.length vc, .slice aa p.arrs.length ac] 90)
    rw [World.size_alloc] at e1
    rw [← hW]; exact (Below.heap_alloc _ _ _ (by simp)).trans e1
  have HF : Hid (∀ v, Below W.heap.size W v → v.cell? ⟨w.heap.size, 0, none⟩ = some (.slice k.va p.vars.length k.vc) ∧ v.cell? ⟨w.heap.size, 1, none⟩ = some (.slice k.aa p.arrs.length k.ac) ∧ v.cell? ⟨w.heap.size, 2, none⟩ = some (.slice k.ba p.body.length k.bc) ∧ v.cell? ⟨w.heap.size + 1, 0, none⟩ = some (.slice va p.vars.length vc) ∧ v.cell? ⟨w.heap.size + 1, 1, none⟩ = some (.slice aa p.arrs.length ac)) := fun v hv => by
    have bp := e0.below hv (by omega)
    have hm := (hv.block (w.heap.size + 1) (by omega)).trans e1
    exact ⟨bp.c0, bp.c1, bp.c2, by rw [cell_at hm]; rfl, by rw [cell_at hm]; rfl⟩
  have e2 : W.heap[w.heap.size + 2]? = some (.cells #[.slice none 0 0, .slice none 0 0] 90 (0, 0)) := by
    have e2 := heap_alloc_new ((w.alloc (.cells #[.slice k.va p.vars.length k.vc, .slice k.aa p.arrs.length k.ac, .slice k.ba p.body.length k.bc] 39)).alloc (.cells #[.slice va p.vars.length vc, .slice aa p.arrs.length ac] 90)) (.cells #[.slice none 0 0, .slice none 0 0] 90)
    rw [World.size_alloc, World.size_alloc] at e2
    rw [← hW]; exact e2
  have HE2 := Lib.hid e2
  have HP : Hid (IsP W D n p k) := hp.later (Stand.of_below hB hl)
  have HL : Hid (∀ j, D j → j < W.heap.size) := fun j hj => by have := hl j hj; omega
  have HM : Hid (∀ v, Below W.heap.size W v → RM v lo hi p.vars.length p.arrs.length va aa) := fun v hv => (h.stand fun b _ hb => hB.block b (by omega)).stand fun b _ hb => hv.block b (by omega)
  have HB := Lib.hid hB
  have HW := Lib.hid hW
  obtain ⟨f0, f1, f2, f3, f4⟩ := HF.out W (Below.refl _ _)
  clear hB e0 e1 e2 hp h hW
  show Calls Tryd.prog 46 #[.agg #[.slice k.va p.vars.length k.vc, .slice k.aa p.arrs.length k.ac, .slice k.ba p.body.length k.bc], .agg #[.slice va p.vars.length vc, .slice aa p.arrs.length ac]] w _
  go_enter Tryd.func46, Tryd.ntmps46
  go_wp2_with fail
  rw [HW.out]
  refine (sMemoryValid_one p k n lo hi vc ac D va aa W HP.out HL.out hv (HM.out W (Below.refl _ _)) (by omega) hnv hna).mono ?_
  rintro g w1 ⟨rfl, hb1⟩
  obtain ⟨g0, g1, g2, g3, g4⟩ := HF.out w1 hb1
  have HB1 := Lib.hid hb1
  have hz1 := hb1.size
  clear hb1
  go_wp2_with fail
  refine (l3Copy_one lo hi p.vars.length p.arrs.length vc ac va aa w1 (HM.out w1 HB1.out) (by omega) (by omega) hna).mono ?_
  rintro g w2 ⟨va', aa', vc', ac', rfl, hb2, hrm⟩
  have hz2 := hb2.size
  obtain ⟨W3, hW3⟩ : ∃ W, w2.alloc (.cells #[.slice va' p.vars.length vc', .slice aa' p.arrs.length ac'] 90) = W := ⟨_, rfl⟩
  have hb3 : Below w2.heap.size w2 W3 := by rw [← hW3]; exact (Below.refl _ _).alloc (Nat.le_refl _) _
  have hb4 : Below W.heap.size W W3 := (HB1.out.trans (hb2.mono hz1)).trans (hb3.mono (by omega))
  have e3 : W3.heap[w2.heap.size]? = some (.cells #[.slice va' p.vars.length vc', .slice aa' p.arrs.length ac'] 90 (0, 0)) := by rw [← hW3]; exact heap_alloc_new w2 _
  have hz3 : W3.heap.size = w2.heap.size + 1 := by rw [← hW3]; simp
  obtain ⟨j0, j1, j2, j3, j4⟩ := HF.out W3 hb4
  have q0 : W3.cell? ⟨w2.heap.size, 0, none⟩ = some (.slice va' p.vars.length vc') := by rw [cell_at e3]; rfl
  have q1 : W3.cell? ⟨w2.heap.size, 1, none⟩ = some (.slice aa' p.arrs.length ac') := by rw [cell_at e3]; rfl
  have hrm3 := hrm.stand fun b _ hb => hb3.block b hb
  have HRM := Lib.hid hrm3
  have HB4 := Lib.hid hb4
  have HW3 := Lib.hid hW3
  have hP3 : IsP W3 D n p k := HP.out.later (Stand.of_below HB4.out HL.out)
  have hP3b := hP3.2.2
  have hall : p.body.all (stmtB p.vars.length p.arrs.length 5) = true := by
    unfold progV at hv
    simp only [Bool.and_eq_true] at hv
    exact hv.2.1
  have HP3 := Lib.hid hP3
  clear hb2 hrm hb3 hb4 e3 hrm3 hW3 hP3 hP3b
  go_wp2_with (first | rw [HW3.out] | fail)
  have hrun := l3Run_one p.vars.length p.arrs.length w1.heap.size w2.heap.size W3.heap.size va' aa' vc' ac' (by omega) (by omega) (by omega) hna 5 n p.body k.ba k.bc D none 0 [] W3 HP3.out.2.2.2.2 HP3.out.2.2.1 HP3.out.2.2.2.1 (fun j hj => by have := hl j hj; omega) HRM.out (rowEv_nil W3 W3.heap.size) (Nat.le_refl _) (by simp; omega) hall
  refine hrun.mono ?_
  rintro g w4 ⟨ta, tc, es, rfl, hre, hen, hrm4, htr⟩
  have x0 := htr.blk w2.heap.size (by omega) (by omega) (by simp [Value.ownBlock])
  have y0 := (World.cell?_of_block (w := W3) (w' := w4) (a := ⟨w2.heap.size, 0, none⟩) x0).trans q0
  have y1 := (World.cell?_of_block (w := W3) (w' := w4) (a := ⟨w2.heap.size, 1, none⟩) x0).trans q1
  have hlt := htr.bel.size
  have hb5 : Below w.heap.size w w4 := (HB.out.trans (HB4.out.mono (by omega))).trans (htr.bel.mono (by omega))
  have hen2 : es.length ≤ 22453200 := by
    simp at hen
    omega
  have x2 : w4.heap[w.heap.size + 1 + 1]? = some (.cells #[.slice none 0 0, .slice none 0 0] 90 (0, 0)) := ((htr.bel.block (w.heap.size + 2) (by omega)).trans (HB4.out.block (w.heap.size + 2) (by omega))).trans HE2.out
  have z0 : ∃ y, w4.cell? ⟨w.heap.size + 1 + 1, 0, none⟩ = some y := cell_ex x2 _ (by simp)
  have z1 : ∃ y, w4.cell? ⟨w.heap.size + 1 + 1, 1, none⟩ = some y := cell_ex x2 _ (by simp)
  have z2 : w4.frozen? ⟨w.heap.size + 1 + 1, 0, none⟩ = false := frozen_at x2 _
  have z3 : w4.frozen? ⟨w.heap.size + 1 + 1, 1, none⟩ = false := frozen_at x2 _
  have HX2 := Lib.hid x2
  obtain ⟨s0, z0⟩ := z0
  obtain ⟨s1, z1⟩ := z1
  have HEN := Lib.hid hen2
  have HB5 := Lib.hid hb5
  have HRE := Lib.hid hre
  clear hrun hre hen hrm4 htr x0 x2 hb5 hen2
  obtain ⟨en, hen⟩ : ∃ en, es.length = en := ⟨_, rfl⟩
  have HL := Lib.hid hen
  rw [hen]
  clear hen
  go_wp2_with fail
  obtain ⟨W5, hW5⟩ : ∃ u, put w4 (w.heap.size + 1 + 1) 0 [.slice va' p.vars.length vc', .slice aa' p.arrs.length ac'] = u := ⟨_, rfl⟩
  have r5 : W5.heap[w.heap.size + 1 + 1]? = some (.cells #[.slice va' p.vars.length vc', .slice aa' p.arrs.length ac'] 90 (0, 0)) := by
    rw [← hW5]; exact put_row _ _ _ _ _ _ HX2.out
  have d0 : W5.cell? ⟨w.heap.size + 1 + 1, 0, none⟩ = some (.slice va' p.vars.length vc') := by rw [cell_at r5]; rfl
  have d1 : W5.cell? ⟨w.heap.size + 1 + 1, 1, none⟩ = some (.slice aa' p.arrs.length ac') := by rw [cell_at r5]; rfl
  have hfin : RunP w 22453200 (.returned (.tuple #[.agg #[.slice va' p.vars.length vc', .slice aa' p.arrs.length ac'], .slice ta en tc, .bool true])) W5 := by
    obtain rfl := HL.out
    refine ⟨_, _, _, _, _, _, ta, tc, es, W3.heap.size, rfl, by omega, ?_, HEN.out, ?_⟩
    · refine HRE.out.stand fun g hg hg' => ?_
      have h9 := HRE.out.lt g hg
      rw [← hW5]; exact put_other _ _ _ _ _ (by omega)
    · rw [← hW5]; exact put_below _ _ _ _ _ _ HB5.out (by omega)
  have HFIN := Lib.hid hfin
  show bodyPost _ _ _ _ _ (put w4 (w.heap.size + 1 + 1) 0 [.slice va' p.vars.length vc', .slice aa' p.arrs.length ac'])
  rw [hW5]
  clear hfin hW5 r5 g0 g1 g2 g3 g4 q0 q1 y0 y1 z0 z1 z2 z3
  exact bodyPost_ret (v := .tuple #[.agg #[.slice va' p.vars.length vc', .slice aa' p.arrs.length ac'], .slice ta en tc, .bool true]) (by simp [results, Tryd.f46, go_sem, d0, d1]) rfl HFIN.out

end Go.Proofs.YtjmfnpljkiobkaaDoor

namespace Go.Proofs.YtjmfnpljkiobkaaDoor
open Go.RowKit
set_option linter.unusedVariables false

/-- The cells of a list of events. -/
def flatE (es : List (Int × Int)) : List Value := cellsL (fun (x : Int × Int) (_ : Unit) => [.int .i64 x.1, .int .i64 x.2]) es (List.replicate es.length ())
theorem flatE_cons (x : Int × Int) (es : List (Int × Int)) : flatE (x :: es) = .int .i64 x.1 :: .int .i64 x.2 :: flatE es := by simp [flatE, cellsL, List.replicate_succ]
theorem flatE_app : ∀ (es fs : List (Int × Int)), flatE (es ++ fs) = flatE es ++ flatE fs
  | [], fs => by simp [flatE, cellsL]
  | x :: es, fs => by rw [List.cons_append, flatE_cons, flatE_cons, flatE_app es fs]; rfl
theorem flatE_len : ∀ (es : List (Int × Int)), (flatE es).length = es.length * 2
  | [] => rfl
  | x :: es => by rw [flatE_cons, List.length_cons, List.length_cons, flatE_len es, List.length_cons]; omega
theorem flatE_one : ∀ (es : List (Int × Int)), ∀ u ∈ flatE es, u.oneCell' = true
  | [], u, h => by simp [flatE, cellsL] at h
  | x :: es, u, h => by
    rw [flatE_cons] at h
    rcases List.mem_cons.1 h with rfl | h
    · rfl
    rcases List.mem_cons.1 h with rfl | h
    · rfl
    exact flatE_one es u h
theorem flatE_at : ∀ (es : List (Int × Int)) (i : Nat) (x : Int × Int), es[i]? = some x → (flatE es)[i * 2]? = some (.int .i64 x.1) ∧ (flatE es)[i * 2 + 1]? = some (.int .i64 x.2)
  | [], i, x, h => by simp at h
  | y :: es, 0, x, h => by simp at h; subst h; rw [flatE_cons]; exact ⟨rfl, rfl⟩
  | y :: es, i + 1, x, h => by
    obtain ⟨h1, h2⟩ := flatE_at es i x (by simpa using h)
    rw [flatE_cons, show (i + 1) * 2 = i * 2 + 1 + 1 by omega]
    exact ⟨by simpa using h1, by simpa using h2⟩

theorem RowEv.flat {w : World} {base : Nat} {v : Value} {es : List (Int × Int)} (h : RowEv w base v es) : w.ownsRow base 59 2 v es.length (flatE es) := by
  obtain ⟨L, h1, h2, _⟩ := h
  have hL : L = List.replicate es.length () := by
    apply List.ext_getElem?
    intro i
    by_cases hi : i < es.length
    · rw [List.getElem?_replicate, if_pos hi, List.getElem?_eq_getElem (by rw [h1]; exact hi)]
    · rw [List.getElem?_replicate, if_neg hi, List.getElem?_eq_none (by rw [h1]; omega)]
  rw [hL] at h2
  exact h2
theorem RowEv.ofFlat {w : World} {base : Nat} {v : Value} {es : List (Int × Int)} (h : w.ownsRow base 59 2 v es.length (flatE es)) : RowEv w base v es :=
  ⟨List.replicate es.length (), by simp, h, fun _ _ _ _ _ => trivial⟩
theorem RowEv.made (w : World) (base : Nat) (hb : base ≤ w.heap.size) : RowEv (w.alloc (.cells #[] 59)) base (.slice (some ⟨w.heap.size, 0, none⟩) 0 0) [] :=
  RowEv.ofFlat (World.ownsRow_made w #[] 0 hb (by unfold maxLen; omega) rfl)
/-- Its cells, one by one. -/
theorem RowEv.at {w : World} {base : Nat} {a : Option Addr} {n c : Nat} {es : List (Int × Int)} (h : RowEv w base (.slice a n c) es) (i : Nat) (x : Int × Int) (hx : es[i]? = some x) : ∃ b, a = some ⟨b, 0, none⟩ ∧ base ≤ b ∧ b < w.heap.size ∧ w.cell? ⟨b, i * 2, none⟩ = some (.int .i64 x.1) ∧ w.cell? ⟨b, i * 2 + 1, none⟩ = some (.int .i64 x.2) := by
  have hf := h.flat
  obtain ⟨h1, h2⟩ := flatE_at es i x hx
  rcases hf.2 with ⟨_, h3⟩ | ⟨g, cp, cur, e1, e2, e3, e4⟩
  · have := (List.getElem?_eq_some_iff.1 hx).1; omega
  · cases e1
    have hc := hf.cells (g := g) rfl
    have k1 := hc _ _ h1
    have k2 := hc _ _ h2
    have hadd : ∀ j, (⟨g, 0, none⟩ : Addr).add j = ⟨g, j, none⟩ := fun j => by unfold Addr.add; split <;> simp_all
    rw [hadd] at k1 k2
    exact ⟨g, rfl, e2, (Array.getElem?_eq_some_iff.1 e3).1, k1, k2⟩

/-- What the append of a row of events onto a row of the call's own leaves. -/
def ApE (w : World) (base g : Nat) (es fs : List (Int × Int)) (v : Value) (w' : World) : Prop := ∃ a cap, v = .slice a (es ++ fs).length cap ∧ RowEv w' base (.slice a (es ++ fs).length cap) (es ++ fs) ∧ w.grownBy w' (some g) ∧ ((Value.slice a (es ++ fs).length cap).ownBlock = some g ∨ (Value.slice a (es ++ fs).length cap).ownBlock = some w.heap.size)

theorem run_appE (w : World) (ty base tb g n cap : Nat) (es fs : List (Int × Int)) (hn : es.length = n) (hown : RowEv w base (.slice (some ⟨g, 0, none⟩) n cap) es)
    (A : Option Addr) (m c : Nat) (hm : fs.length = m) (hr : RowEv w tb (.slice A m c) fs) (hl : n + m ≤ 2199023255552) (hb : base ≤ w.heap.size) :
    ∃ v w', (Builtin.append_ #[23, 23] ty #[.slice (some ⟨g, 0, none⟩) n cap, .slice A m c]).run Tryd.prog w = .ok v w' ∧ ApE w base g es fs v w' := by
  subst hn hm
  obtain ⟨i, hi, hz, hsz, hby⟩ := info_parts infoEv
  rcases A with _ | ad
  · have h0 : fs = [] := by
      rcases hr.flat.2 with ⟨_, h2⟩ | ⟨g', cp, cur, e1, _⟩
      · exact List.eq_nil_of_length_eq_zero h2
      · cases e1
    subst h0
    refine ⟨.slice (some ⟨g, 0, none⟩) es.length cap, w, ?_, some ⟨g, 0, none⟩, cap, by simp, by simpa using hown, World.grownBy.refl w _, .inl rfl⟩
    rcases hown.flat.2 with ⟨h1, _⟩ | ⟨g', cap', cur, h1, _, _, hnc, _⟩
    · cases h1
    · cases h1
      simp [Builtin.append_, run_underlying Tryd.underlying23, sizeOf, typeInfo, hi, Builtin.lenOf, Builtin.firstCells, storeCells, hnc, loadCells]
  · have hnews : ∀ j u, (flatE fs)[j]? = some u → w.cell? (ad.add j) = some u := by
      rcases hr.flat.2 with ⟨h1, _⟩ | ⟨g', cp, cur, e1, _⟩
      · cases h1
      · cases e1
        exact hr.flat.cells (g := g') rfl
    obtain ⟨v', w', h1, h2, h3, h4, h5⟩ := run_append_own_at (P := Tryd.prog) w base 23 ty 59 i _ 2 16 Tryd.underlying23 hi hz hsz hby rfl (by omega) (.slice (some ⟨g, 0, none⟩) es.length cap) es.length (flatE es) hown.flat ad fs.length c (flatE fs) (flatE_len fs) hnews (flatE_one fs) (by unfold maxLen; omega) (by omega) hb
    rw [← flatE_app, ← List.length_append] at h2
    have hv : ∃ a cap, v' = .slice a (es ++ fs).length cap := by
      rcases h2.2 with ⟨e1, e2⟩ | ⟨g', cap, cur, e1, _⟩
      · exact ⟨none, 0, by rw [e1, e2]⟩
      · exact ⟨_, _, e1⟩
    obtain ⟨a, cap, rfl⟩ := hv
    exact ⟨_, w', h1, a, cap, rfl, RowEv.ofFlat h2, h3, h5⟩

/-- At the list of a plain region's operations. -/
theorem wpList_appE {ops : Array Oper} {rest : List Oper} {o : Oper} {a : Act} {w : World} {Q : Exit → Act → World → Prop} (hgd : o.guard = none) (s x : Operand)
    (ho : o.op = .call { callee := .builtin .append, args := #[s, x], argTypes := #[23, 23] })
    (base tb g n cap : Nat) (es fs : List (Int × Int)) (hn : es.length = n) (hs : a.eval s = .slice (some ⟨g, 0, none⟩) n cap) (hown : RowEv w base (.slice (some ⟨g, 0, none⟩) n cap) es)
    (A : Option Addr) (m c : Nat) (hm : fs.length = m) (hx : a.eval x = .slice A m c) (hr : RowEv w tb (.slice A m c) fs) (hl : n + m ≤ 2199023255552) (hb : base ≤ w.heap.size)
    (h : ∀ v w', ApE w base g es fs v w' → wpList Tryd.prog ops Q rest (a.put o.dst v) w') : wpList Tryd.prog ops Q (o :: rest) a w :=
  wpList_plain hgd fun _ hK => by
    obtain ⟨v, w', hrun, hc⟩ := run_appE w o.type base tb g n cap es fs hn hown A m c hm hr hl hb
    unfold Oper.wp execOp
    simp only [ho, resolve, invoke, builtin, Sem.run_bind, Sem.run_pure, Result.andThen_ok, List.map_toArray, List.map_cons, List.map_nil, hs, hx, hrun]
    exact hK _ _ (h v w' hc)

/-- At a step of a region that draws. -/
theorem step_appE {ops : Array Oper} {o : Oper} {a : Act} {w : World} {K : Act → World → Prop} {Q : Exit → Act → World → Prop} {E : Prop} (hgd : o.guard = none) (s x : Operand)
    (ho : o.op = .call { callee := .builtin .append, args := #[s, x], argTypes := #[23, 23] })
    (base tb g n cap : Nat) (es fs : List (Int × Int)) (hn : es.length = n) (hs : a.eval s = .slice (some ⟨g, 0, none⟩) n cap) (hown : RowEv w base (.slice (some ⟨g, 0, none⟩) n cap) es)
    (A : Option Addr) (m c : Nat) (hm : fs.length = m) (hx : a.eval x = .slice A m c) (hr : RowEv w tb (.slice A m c) fs) (hl : n + m ≤ 2199023255552) (hb : base ≤ w.heap.size)
    (h : ∀ v w', ApE w base g es fs v w' → K (a.put o.dst v) w') :
    if Region.wanted o (yielded ops a.tmps) = true then Oper.wp Tryd.prog o a w K Q else E := by
  have hw : Region.wanted o (yielded ops a.tmps) = true := by simp [Region.wanted, hgd]
  rw [if_pos hw]
  obtain ⟨v, w', hrun, hc⟩ := run_appE w o.type base tb g n cap es fs hn hown A m c hm hr hl hb
  unfold Oper.wp execOp
  simp only [ho, resolve, invoke, builtin, Sem.run_bind, Sem.run_pure, Result.andThen_ok, List.map_toArray, List.map_cons, List.map_nil, hs, hx, hrun]
  exact h v w' hc

end Go.Proofs.YtjmfnpljkiobkaaDoor

namespace Go.Proofs.YtjmfnpljkiobkaaDoor
open Go.RowKit
set_option linter.unusedVariables false

/-- A draw that yields a list of events in a row of its own. -/
def DrT (N : Nat) (w : World) (B m : Nat) (f : Ending) (w' : World) : Prop := ∃ (ta : Option Addr) (tc : Nat) (es : List (Int × Int)), f = .returned (.slice ta es.length tc) ∧ RowEv w' w.heap.size (.slice ta es.length tc) es ∧ es.length ≤ N ∧ RdU w' B m ∧ Oth B w w' ∧ Below B w w'

theorem Oth.set {B : Nat} {w w' : World} (h : Oth B w w') {g : Nat} (hg : w.heap.size ≤ g) (o : Nat) (v : Value) : Oth B w (w'.setCell ⟨g, o, none⟩ v) := h.put hg o [v]
/-- Behind the run: the row of events, the reader, and what stands. -/
structure TrX (B m : Nat) (W1 : World) (tb : Nat) (es : List (Int × Int)) (t : Value) (X : World) : Prop where
  row : RowEv X tb t es
  oth : Oth B W1 X
  bel : Below B W1 X
  rd : RdU X B m
theorem TrX.alloc {B m tb : Nat} {W1 X : World} {es : List (Int × Int)} {t : Value} (h : TrX B m W1 tb es t X) (o : Obj) : TrX B m W1 tb es t (X.alloc o) :=
  ⟨h.row.stand fun g _ hg => Below.heap_alloc _ _ _ hg, h.oth.alloc _, h.bel.alloc (Nat.le_of_lt h.rd.lt) _, h.rd.alloc _⟩
theorem TrX.put {B m tb g : Nat} {W1 X : World} {es : List (Int × Int)} {t : Value} (h : TrX B m W1 tb es t X) (hg : g < tb) (hg1 : W1.heap.size ≤ g) (hB : B < g) (a b : Value) : TrX B m W1 tb es t ((X.setCell ⟨g, 0, none⟩ a).setCell ⟨g, 1, none⟩ b) :=
  ⟨h.row.stand fun j hj hj' => put_other [a, b] X g 0 j (by have := (h.row.lt j hj).1; omega), h.oth.put hg1 0 [a, b], put_below [a, b] _ _ _ _ _ h.bel (by omega), h.rd.below (put_below [a, b] _ _ g _ _ (Below.refl _ _) (Nat.le_refl _)) hB⟩

set_option maxRecDepth 100000 in
set_option maxHeartbeats 1000000 in
theorem l3Trace_one (B m : Nat) (w : World) (h : RdU w B m) (hm : m < 1098000000000) :
    Calls Tryd.prog 21 #[.pointer (some ⟨B, 0, none⟩)] w (DrT 22453200 w B (m + 6000100)) := by
  have hlt := h.lt
  have HR := Lib.hid h
  clear h
  go_enter Tryd.func21, Tryd.ntmps21
  go_wp2_with fail
  refine (drProgramC B m w HR.out (by omega)).mono ?_
  rintro f w1 ⟨p, k, rfl, hip, hsm, hv, hn0, hnv, hna, hrd, hot, hbl, hcnt⟩
  obtain ⟨W1, hW1⟩ : ∃ W, w1.alloc (.cells #[.slice k.va p.vars.length k.vc, .slice k.aa p.arrs.length k.ac, .slice k.ba p.body.length k.bc] 39) = W := ⟨_, rfl⟩
  have hz1 : W1.heap.size = w1.heap.size + 1 := by rw [← hW1]; simp
  have hB1 : Below w1.heap.size w1 W1 := by rw [← hW1]; exact (Below.refl _ _).alloc (Nat.le_refl _) _
  have hbp : BoxP W1 w1.heap.size p k := by rw [← hW1]; exact BoxP.new w1 p k _
  have hlt1 := hbl.size
  have HS : Hid (∀ v, Oth B W1 v → v.cell? ⟨w1.heap.size, 0, none⟩ = some (.slice k.va p.vars.length k.vc) ∧ v.cell? ⟨w1.heap.size, 1, none⟩ = some (.slice k.aa p.arrs.length k.ac) ∧ v.cell? ⟨w1.heap.size, 2, none⟩ = some (.slice k.ba p.body.length k.bc)) := fun v hv => by
    have hb := hbp.later (hv.2 _ (by omega) (by omega))
    exact ⟨hb.c0, hb.c1, hb.c2⟩
  obtain ⟨p0, p1, p2⟩ := HS.out W1 (Oth.refl _ _)
  have HSa := Lib.hid (HS.out W1 (Oth.refl _ _))
  have HSb := Lib.hid (HS.out W1.drew (Oth.refl _ _).drew)
  have HR1 : Hid (RdU W1 B (m + 6000000)) := hrd.below hB1 hrd.lt
  have HR2 : Hid (RdU W1.drew B (m + 6000000)) := HR1.out.drew
  have HIP : Hid (∀ v, Oth B W1 v → IsP v (New w w1) 10 p k ∧ ∀ j, New w w1 j → j < v.heap.size) := fun v hv => ⟨hip.later fun j hj => (hv.2 j (by have := hj.2; omega) (by have := hj.1; omega)).trans (hB1.block j hj.2), fun j hj => by have := hj.2; have := hv.1; omega⟩
  have HBL := Lib.hid hbl
  have HOT := Lib.hid hot
  have HB1 := Lib.hid hB1
  have HW1 := Lib.hid hW1
  clear hip hsm hrd hot hbl hbp hB1 hW1
  go_wp2_with (first | rw [HW1.out] | fail)
  go_region_held3 (fun v' => v'.cell? ⟨w1.heap.size, 0, none⟩ = some (.slice k.va p.vars.length k.vc) ∧ v'.cell? ⟨w1.heap.size, 1, none⟩ = some (.slice k.aa p.arrs.length k.ac) ∧ v'.cell? ⟨w1.heap.size, 2, none⟩ = some (.slice k.ba p.body.length k.bc)) (first | (with_reducible assumption) | (with_reducible exact HSa.out) | (with_reducible exact HSb.out) | (with_reducible exact HS.out _ (by repeat (first | (with_reducible assumption) | (with_reducible exact Oth.refl _ _) | (with_reducible refine Oth.drew ?_) | (with_reducible refine Oth.alloc ?_ _) | (with_reducible refine Oth.set ?_ (by omega) _ _)))))
    (first
      | (go_at_call 47
         (with_reducible refine (l3Memory_one B (m + 6000000) p.vars.length p.arrs.length p.body.length k.vc k.ac k.bc k.va k.aa k.ba _ (by first | exact HR1.out | exact HR2.out | exact HR1.out.alloc _ | exact HR2.out.alloc _ | exact (HR1.out.alloc _).drew) (by omega) (by omega) hna).mono ?_)
         rintro f v ⟨va', aa', vc', ac', rfl, hb5, ho5, hr5, hm5⟩
         have hO5 : Oth B W1 v := Oth.trans (by repeat (first | (with_reducible assumption) | (with_reducible exact Oth.refl _ _) | (with_reducible refine Oth.drew ?_) | (with_reducible refine Oth.alloc ?_ _) | (with_reducible refine Oth.set ?_ (by omega) _ _))) ho5
         obtain ⟨lo, hM5⟩ : ∃ lo, RM v lo v.heap.size p.vars.length p.arrs.length va' aa' := ⟨_, hm5⟩
         have hB5 : Below B W1 v := Below.trans (by first | (with_reducible exact Below.refl _ _) | exact (Below.refl _ _).drew | exact (Below.refl _ _).alloc (by omega) _ | exact ((Below.refl _ _).drew).alloc (by simp; omega) _ | exact ((Below.refl _ _).alloc (by omega) _).drew) hb5
         try have hqC : v.heap[w1.heap.size + 1]? = some (.cells #[.slice none 0 0, .slice none 0 0] 90 (0, 0)) := (ho5.2 (w1.heap.size + 1) (show w1.heap.size + 1 < (W1.alloc (.cells #[.slice none 0 0, .slice none 0 0] 90)).heap.size by rw [World.size_alloc]; omega) (by omega)).trans (by rw [← hz1]; exact heap_alloc_new W1 _)
         have hz5 := hB5.size)
      | (go_at_call 46
         (with_reducible refine (sRunProgram_one p k 10 lo v.heap.size vc' ac' (New w w1) va' aa' _ (HIP.out _ (by repeat (first | (with_reducible assumption) | (with_reducible exact Oth.refl _ _) | (with_reducible refine Oth.drew ?_) | (with_reducible refine Oth.alloc ?_ _) | (with_reducible refine Oth.set ?_ (by omega) _ _)))).1 (HIP.out _ (by repeat (first | (with_reducible assumption) | (with_reducible exact Oth.refl _ _) | (with_reducible refine Oth.drew ?_) | (with_reducible refine Oth.alloc ?_ _) | (with_reducible refine Oth.set ?_ (by omega) _ _)))).2 hv (by first | exact hM5 | exact hM5.stand fun b _ hb => Below.heap_alloc _ _ _ hb) (by first | exact Nat.le_refl _ | (rw [World.size_alloc]; omega)) hnv hna hcnt).mono ?_)
         rintro f v2 ⟨ma, mb, mn, mc, on, oc, ta, tc, es, tb, rfl, htb, hre, hen, hb6⟩
         have hO6 : Oth B W1 v2 := Oth.trans (by repeat (first | (with_reducible assumption) | (with_reducible exact Oth.refl _ _) | (with_reducible refine Oth.drew ?_) | (with_reducible refine Oth.alloc ?_ _) | (with_reducible refine Oth.set ?_ (by omega) _ _))) (Oth.below hb6)
         have hz6 : v.heap.size ≤ v2.heap.size := by first | exact hb6.size | exact Nat.le_trans (by simp) hb6.size
         have hB6 : Below v.heap.size v v2 := by first | exact hb6 | exact Below.trans ((Below.refl _ v).alloc (Nat.le_refl _) _) (hb6.mono (by simp))
         try have hqB : v2.heap[v.heap.size]? = some (.cells #[.slice none 0 0, .slice none 0 0] 90 (0, 0)) := (hb6.block v.heap.size (by simp)).trans (heap_alloc_new v _)
         try have hqB : v2.heap[w1.heap.size + 1]? = some (.cells #[.slice none 0 0, .slice none 0 0] 90 (0, 0)) := (hb6.block (w1.heap.size + 1) (by have := (Array.getElem?_eq_some_iff.1 hqC).1; omega)).trans hqC
         try have hr0 : v2.cell? ⟨v.heap.size, 0, none⟩ = some (.slice none 0 0) := (cell_at hqB _).trans rfl
         try have hr1 : v2.cell? ⟨v.heap.size, 1, none⟩ = some (.slice none 0 0) := (cell_at hqB _).trans rfl
         try have hr0 : v2.cell? ⟨w1.heap.size + 1, 0, none⟩ = some (.slice none 0 0) := (cell_at hqB _).trans rfl
         try have hr1 : v2.cell? ⟨w1.heap.size + 1, 1, none⟩ = some (.slice none 0 0) := (cell_at hqB _).trans rfl
         try have f0 := frozen_at hqB 0
         try have f1 := frozen_at hqB 1))
  all_goals
    have hrd2 : RdU v2 B (m + 6000050) := (hr5.below hB6 hr5.lt).mono (by omega)
    have hbel2 : Below B W1 v2 := hB5.trans (hB6.mono (by have := hr5.lt; omega))
    have hBl : B < v.heap.size := hr5.lt
    have hlo1 := HOT.out.1
    have htb0 : w.heap.size ≤ tb := by have := htb; first | omega | (rw [World.size_alloc] at this; omega)
    have HX := (⟨hre, hO6, hbel2, hrd2⟩ : TrX B (m + 6000050) W1 tb es (.slice ta es.length tc) v2)
    first
      | (obtain ⟨X, hX⟩ : ∃ X, v2.alloc (.cells #[.slice ma mn mc, .slice mb on oc] 90) = X := ⟨_, rfl⟩
         rw [hX]
         have HX2 : TrX B (m + 6000050) W1 tb es (.slice ta es.length tc) X := by rw [← hX]; exact HX.alloc _
         clear hX)
      | (obtain ⟨X, hX⟩ : ∃ X, (v2.setCell ⟨v.heap.size, 0, none⟩ (.slice ma mn mc)).setCell ⟨v.heap.size, 1, none⟩ (.slice mb on oc) = X := ⟨_, rfl⟩
         rw [hX]
         have HX2 : TrX B (m + 6000050) W1 tb es (.slice ta es.length tc) X := by rw [← hX]; exact HX.put (by have := htb; simp only [World.size_alloc] at this; omega) (by omega) (by omega) _ _
         clear hX)
      | (obtain ⟨X, hX⟩ : ∃ X, (v2.setCell ⟨w1.heap.size + 1, 0, none⟩ (.slice ma mn mc)).setCell ⟨w1.heap.size + 1, 1, none⟩ (.slice mb on oc) = X := ⟨_, rfl⟩
         rw [hX]
         have HX2 : TrX B (m + 6000050) W1 tb es (.slice ta es.length tc) X := by rw [← hX]; exact HX.put (by have := htb; have := (Array.getElem?_eq_some_iff.1 hqC).1; omega) (by omega) (by omega) _ _
         clear hX)
    clear HX hrd2 hbel2 hre hO6 hO5 hB5 hB6 hr5 hb5 ho5 hm5 hM5 hb6
    have HX := Lib.hid HX2
    clear HX2
    have hXz : W1.heap.size ≤ X.heap.size := HX.out.oth.1
    have HROW0 : Hid (RowEv (X.alloc (.cells #[] 59)) w.heap.size (.slice (some ⟨X.heap.size, 0, none⟩) 0 0) []) := RowEv.made X w.heap.size (by omega)
    have HX3 := Lib.hid (HX.out.alloc (.cells #[] 59))
    obtain ⟨en, henq⟩ : ∃ en, es.length = en := ⟨_, rfl⟩
    have HEN := Lib.hid henq
    rw [henq] at HX3 hen
    simp only [henq]
    clear henq htb
    go_wp2_with (at_builtin; refine wpList_appE (by rfl) _ _ (by rfl) w.heap.size tb X.heap.size 0 0 [] es (by rfl) (by rfl) HROW0.out ta en tc HEN.out (by rfl) HX3.out.row (by omega) (by simp; omega) ?_; rintro v w5 ⟨a5, c5, rfl, h5, hg5, ho5⟩)
    rw [List.nil_append] at h5
    have hb5 : Below X.heap.size (X.alloc (.cells #[] 59)) w5 := (Below.refl _ _).grown hg5 (by simp) (fun k e => by cases e; exact Nat.le_refl _)
    have hb5' : Below X.heap.size X w5 := Below.trans ((Below.refl _ X).alloc (Nat.le_refl _) _) hb5
    have hfin : DrT 22453200 w B (m + 6000100) (.returned (.slice a5 es.length c5)) w5 := by
      refine ⟨a5, c5, es, rfl, h5, by rw [HEN.out]; exact hen, (HX.out.rd.below hb5' HX.out.rd.lt).mono (by omega), ?_, ?_⟩
      · exact (HOT.out.trans (((Oth.refl B w1).alloc _).trans (by rw [HW1.out]; exact HX.out.oth))).trans (Oth.below hb5')
      · exact (HBL.out.trans (HB1.out.mono (by omega))).trans (HX.out.bel.trans (hb5'.mono (by have := HX.out.rd.lt; omega)))
    have HFIN := Lib.hid hfin
    clear h5 hg5 ho5 hb5 hb5' hfin HX HX3
    go_ret
    exact HFIN.out

end Go.Proofs.YtjmfnpljkiobkaaDoor

namespace Go.Proofs.YtjmfnpljkiobkaaDoor
open Go.RowKit
set_option linter.unusedVariables false

structure Ev where
  kind : Int
  value : Int
deriving DecidableEq

/-- The elements of a slice of events. -/
def EvAt (w : World) (D : Nat → Prop) (es : List Ev) (a : Option Addr) : Prop :=
  ∀ i x, es[i]? = some x → ∃ b o, a = some ⟨b, o, none⟩ ∧ D b ∧ w.cell? ⟨b, o + i * 2, none⟩ = some (.int .i64 x.kind) ∧ w.cell? ⟨b, o + i * 2 + 1, none⟩ = some (.int .i64 x.value)

/-- A list of events lies in the world. -/
def EvL (w : World) (es : List Ev) (a : Option Addr) (cap : Nat) : Prop := es.length ≤ cap ∧ cap ≤ maxLen ∧ EvAt w (fun k => k < w.heap.size) es a
theorem EvL.below {w w' : World} {es : List Ev} {a : Option Addr} {cap : Nat} (h : EvL w es a cap) (hb : Below w.heap.size w w') : EvL w' es a cap :=
  ⟨h.1, h.2.1, fun i x hx => by
    obtain ⟨b, o, ha, hl, h0, h1⟩ := h.2.2 i x hx
    exact ⟨b, o, ha, Nat.lt_of_lt_of_le hl hb.size, (hb.cell (p := ⟨b, o + i * 2, none⟩) hl).trans h0, (hb.cell (p := ⟨b, o + i * 2 + 1, none⟩) hl).trans h1⟩⟩

/-- The answer of a size function. -/
def EvSized (n : Nat) (left : Int) (w : World) (e : Ending) (w' : World) : Prop := ∃ v : Int, e = .returned (.int .i64 v) ∧ v ≤ left ∧ (0 ≤ v → (n : Int) + v ≤ left) ∧ w' = w

set_option maxHeartbeats 1000000 in
theorem szEv_one (a : Option Addr) (n cap : Nat) (left : Int) (w : World) (h0 : 0 ≤ left) (h1 : left ≤ 1048576) (hn : n ≤ maxLen) :
    Calls Tryd.prog 17 #[.slice a n cap, .int .i64 left] w (EvSized n left w) := by
  unfold maxLen at hn
  by_cases hneg : left < n
  · go_enter Tryd.func17, Tryd.ntmps17
    go_wp2_with fail
    go_ret
    exact ⟨-1, rfl, by omega, fun h => absurd h (by omega), rfl⟩
  · go_enter Tryd.func17, Tryd.ntmps17
    go_wp2_with fail
    go_ret
    exact ⟨left - n, rfl, by omega, fun _ => by omega, rfl⟩

/-- A bool; nothing that was there has changed. -/
def YN (b : Bool) (w : World) (e : Ending) (w' : World) : Prop := e = .returned (.bool b) ∧ Below w.heap.size w w'
theorem YN.of {b c : Bool} (h : b = c) {w w' : World} (hb : Below w.heap.size w w') : YN c w (.returned (.bool b)) w' := ⟨by rw [h], hb⟩

def SameUp {α : Type} (es fs : List α) (k : Nat) : Prop := ∀ j, j < k → es[j]? = fs[j]?
theorem SameUp.all {α : Type} {es fs : List α} {n : Nat} (h : SameUp es fs n) (h1 : es.length = n) (h2 : fs.length = n) : es = fs := by
  apply List.ext_getElem?
  intro i
  by_cases hi : i < n
  · exact h i hi
  · rw [List.getElem?_eq_none (by omega), List.getElem?_eq_none (by omega)]
theorem SameUp.succ {α : Type} {es fs : List α} {k : Nat} (h : SameUp es fs k) (e : es[k]? = fs[k]?) : SameUp es fs (k + 1) := fun j hj => by
  by_cases hk : j = k
  · rw [hk]; exact e
  · exact h j (by omega)

theorem Ev.ext' {x y : Ev} (h1 : x.kind = y.kind) (h2 : x.value = y.value) : x = y := by cases x; cases y; simp_all

set_option maxHeartbeats 1000000 in
theorem eqEv_one (x y : Ev) (w : World) :
    Calls Tryd.prog 44 #[.agg #[.int .i64 x.kind, .int .i64 x.value], .agg #[.int .i64 y.kind, .int .i64 y.value]] w (YN (decide (x = y)) w) := by
  have HB := Lib.hid ((((Below.refl w.heap.size w)).alloc (Nat.le_refl _) (.cells #[.int .i64 x.kind, .int .i64 x.value] 59)).alloc (by simp) (.cells #[.int .i64 y.kind, .int .i64 y.value] 59))
  by_cases h1 : x.kind = y.kind
  · by_cases h2 : x.value = y.value
    · have HE : Hid (true = decide (x = y)) := (decide_eq_true (Ev.ext' h1 h2)).symm
      have h1' : (x.kind != y.kind) = false := by simpa using h1
      have h2' : (x.value != y.value) = false := by simpa using h2
      clear h1 h2
      go_enter Tryd.func44, Tryd.ntmps44
      go_wp2_with fail
      go_ret
      exact YN.of HE.out HB.out
    · have HE : Hid (false = decide (x = y)) := (decide_eq_false fun e => h2 (by rw [e])).symm
      have h1' : (x.kind != y.kind) = false := by simpa using h1
      have h2' : (x.value != y.value) = true := by simpa using h2
      clear h1 h2
      go_enter Tryd.func44, Tryd.ntmps44
      go_wp2_with fail
      go_ret
      exact YN.of HE.out HB.out
  · have HE : Hid (false = decide (x = y)) := (decide_eq_false fun e => h1 (by rw [e])).symm
    have h1' : (x.kind != y.kind) = true := by simpa using h1
    clear h1
    go_enter Tryd.func44, Tryd.ntmps44
    go_wp2_with fail
    go_ret
    exact YN.of HE.out HB.out

set_option maxHeartbeats 2000000 in
/-- **eqEventS.** -/
theorem eqEvS_one (es fs : List Ev) (a a' : Option Addr) (cap cap' : Nat) (w : World) (h : EvL w es a cap) (h' : EvL w fs a' cap') :
    Calls Tryd.prog 19 #[.slice a es.length cap, .slice a' fs.length cap'] w (YN (decide (es = fs)) w) := by
  obtain ⟨hc, hm, h⟩ := h
  obtain ⟨hc', hm', h'⟩ := h'
  unfold maxLen at hm hm'
  obtain ⟨len, hlen⟩ : ∃ len, es.length = len := ⟨_, rfl⟩
  obtain ⟨len', hlen'⟩ : ∃ len', fs.length = len' := ⟨_, rfl⟩
  have HLEN := Lib.hid hlen
  have HLEN' := Lib.hid hlen'
  rw [hlen] at hc
  rw [hlen'] at hc'
  rw [hlen, hlen']
  have H := Lib.hid h
  have H' := Lib.hid h'
  clear h h' hlen hlen'
  by_cases hne : len = len'
  · subst hne
    go_enter Tryd.func19, Tryd.ntmps19
    go_wp2_with fail
    go_loopw [5] (fun i wr => ∃ k : Nat, k ≤ len ∧ i = .int .i64 k ∧ SameUp es fs k ∧ Below w.heap.size w wr) (fun i _ => len - (intOf i).toNat)
    case atStart => exact ⟨0, Nat.zero_le _, rfl, fun j hj => absurd hj (Nat.not_lt_zero _), Below.refl _ _⟩
    case round =>
      obtain ⟨k, hk, rfl, hS, hB⟩ := hrel
      have HS := Lib.hid hS
      have HB := Lib.hid hB
      clear hS hB
      by_cases hlt : k < len
      · obtain ⟨x, hx⟩ : ∃ x, es[k]? = some x := ⟨es[k]'(by rw [HLEN.out]; exact hlt), List.getElem?_eq_getElem _⟩
        obtain ⟨y, hy⟩ : ∃ y, fs[k]? = some y := ⟨fs[k]'(by rw [HLEN'.out]; exact hlt), List.getElem?_eq_getElem _⟩
        obtain ⟨b, o, rfl, hbl, e0, e1⟩ := H.out k x hx
        obtain ⟨b', o', rfl, hbl', g0, g1⟩ := H'.out k y hy
        have r0 := (HB.out.cell (p := ⟨b, o + k * 2, none⟩) hbl).trans e0
        have r1 := (HB.out.cell (p := ⟨b, o + k * 2 + 1, none⟩) hbl).trans e1
        have s0 := (HB.out.cell (p := ⟨b', o' + k * 2, none⟩) hbl').trans g0
        have s1 := (HB.out.cell (p := ⟨b', o' + k * 2 + 1, none⟩) hbl').trans g1
        clear e0 e1 g0 g1
        have hsz := HB.out.size
        have HX := Lib.hid hx
        have HY := Lib.hid hy
        clear hx hy H H'
        by_cases hxy : x = y
        · have HQ : Hid (decide (x = y) = true) := decide_eq_true hxy
          have HS2 : Hid (SameUp es fs (k + 1)) := HS.out.succ (by rw [HX.out, HY.out, hxy])
          clear hxy
          go_wp2_with fail
          go_region_with (go_at_call 44; refine (eqEv_one x y _).mono ?_; rintro e w2 ⟨rfl, hb2⟩; rw [HQ.out]; have HB2 : Hid (Below w.heap.size w w2) := (HB.out.drew.trans (hb2.mono hsz)); clear hb2)
          all_goals
            go_wp2_with fail
            go_roundw
            case rel => exact ⟨k + 1, by omega, by go_num, HS2.out, HB2.out⟩
            case measure => simp [intOf]; omega
        · have HQ : Hid (decide (x = y) = false) := decide_eq_false hxy
          have HN : Hid (false = decide (es = fs)) := (decide_eq_false fun e => hxy (by have h1 := HX.out; rw [e, HY.out] at h1; cases h1; rfl)).symm
          clear hxy
          go_wp2_with fail
          go_region_with (go_at_call 44; refine (eqEv_one x y _).mono ?_; rintro e w2 ⟨rfl, hb2⟩; rw [HQ.out]; have HB2 : Hid (Below w.heap.size w w2) := (HB.out.drew.trans (hb2.mono hsz)); clear hb2)
          all_goals
            go_wp2_with fail
            go_ret
            exact YN.of HN.out HB2.out
      · obtain rfl : k = len := by omega
        have HN : Hid (true = decide (es = fs)) := (decide_eq_true (HS.out.all HLEN.out HLEN'.out)).symm
        clear H H'
        go_wp2_with fail
        go_ret
        exact YN.of HN.out HB.out
  · have hne' : ((len : Int) != (len' : Int)) = true := by simp; omega
    have HN : Hid (false = decide (es = fs)) := (decide_eq_false fun e => hne (by rw [← HLEN.out, ← HLEN'.out, e])).symm
    go_enter Tryd.func19, Tryd.ntmps19
    go_wp2_with fail
    go_ret
    exact YN.of HN.out (Below.refl _ _)

/-- An event is handed back. -/
def CopyEv (x : Ev) (w : World) (f : Ending) (w' : World) : Prop := f = .returned (.agg #[.int .i64 x.kind, .int .i64 x.value]) ∧ Below w.heap.size w w'

set_option maxHeartbeats 1000000 in
theorem toEv_one (x : Ev) (w : World) :
    Calls Tryd.prog 43 #[.agg #[.int .i64 x.kind, .int .i64 x.value]] w (CopyEv x w) := by
  go_enter Tryd.func43, Tryd.ntmps43
  go_wp2_with fail
  refine bodyPost_ret (v := .agg #[.int .i64 x.kind, .int .i64 x.value]) (by simp [results, Tryd.f43, go_sem]) rfl ?_
  exact ⟨rfl, by repeat (first | exact Below.refl _ _ | refine Below.alloc ?_ (by simp <;> omega) _ | refine Below.setCell ?_ (by simp <;> omega) _)⟩

theorem Tryd.infoEv : (Tryd.prog.info? 59).map (fun i => (i.zero, i.size, i.bytes)) = some (some (.agg #[.int .i64 0, .int .i64 0]), 2, 16) := by kernel_rfl

/-- A list of events is handed back that reads alike. -/
def CopyEvs (es : List Ev) (w : World) (f : Ending) (w' : World) : Prop := ∃ a cap, f = .returned (.slice a es.length cap) ∧ EvL w' es a cap ∧ Below w.heap.size w w'

theorem ev_store2 {w : World} {g o : Nat} {cur : Array Value} {T : TypeId} (h : w.heap[g]? = some (.cells cur T (0, 0))) (n0 n1 : Value) :
    ((w.setCell ⟨g, o, none⟩ n0).setCell ⟨g, o + 1, none⟩ n1).heap[g]? = some (.cells ((cur.setIfInBounds o n0).setIfInBounds (o + 1) n1) T (0, 0)) :=
  heap_setCell_same _ g _ _ T n1 (heap_setCell_same w g o cur T n0 h)
theorem ev_cells2 {w : World} {g o : Nat} {cur : Array Value} {T : TypeId} (h : w.heap[g]? = some (.cells cur T (0, 0))) (ho : o + 1 < cur.size) :
    (∃ u0 u1, w.cell? ⟨g, o, none⟩ = some u0 ∧ w.cell? ⟨g, o + 1, none⟩ = some u1) ∧ w.frozen? ⟨g, o, none⟩ = false ∧ w.frozen? ⟨g, o + 1, none⟩ = false := by
  refine ⟨⟨cur[o], cur[o + 1], ?_, ?_⟩, frozen_of_row w g o cur T h, frozen_of_row w g (o + 1) cur T h⟩
  · rw [cell_of_row w g o cur T (0, 0) h]; exact Array.getElem?_eq_getElem _
  · rw [cell_of_row w g (o + 1) cur T (0, 0) h]; exact Array.getElem?_eq_getElem _
theorem ev_set2_same (cur : Array Value) (o : Nat) (n0 n1 : Value) (ho : o + 1 < cur.size) : ((cur.setIfInBounds o n0).setIfInBounds (o + 1) n1)[o]? = some n0 ∧ ((cur.setIfInBounds o n0).setIfInBounds (o + 1) n1)[o + 1]? = some n1 := by
  refine ⟨?_, ?_⟩ <;> simp [Array.getElem?_setIfInBounds] <;> omega
theorem ev_set2_other (cur : Array Value) (o j : Nat) (n0 n1 : Value) (h : j < o ∨ o + 1 < j) : ((cur.setIfInBounds o n0).setIfInBounds (o + 1) n1)[j]? = cur[j]? := by
  rw [Array.getElem?_setIfInBounds, if_neg (by omega), Array.getElem?_setIfInBounds, if_neg (by omega)]

set_option maxHeartbeats 2000000 in
/-- **toEventS.** -/
theorem toEvS_one (es : List Ev) (a : Option Addr) (cap : Nat) (w : World) (h : EvL w es a cap) (hs : es.length ≤ 1048576) :
    Calls Tryd.prog 18 #[.slice a es.length cap] w (CopyEvs es w) := by
  obtain ⟨i0, hi, hz0, hz1, hz2⟩ := info_parts Tryd.infoEv
  obtain ⟨hc, hm, h⟩ := h
  obtain ⟨len, hlen⟩ : ∃ len, es.length = len := ⟨_, rfl⟩
  have HLEN := Lib.hid hlen
  rw [hlen] at hc hs ⊢
  have H := Lib.hid h
  clear h hlen
  go_enter Tryd.func18, Tryd.ntmps18
  go_wp2_with (at_make; refine wpList_make_full _ rfl _ _ 23 rfl w.heap.size 59 i0 (.agg #[.int .i64 0, .int .i64 0]) 2 Tryd.underlying23 hi hz0 hz1 .i64 .i64 (len : Int) (len : Int) len rfl rfl rfl rfl (by rw [hz2]; omega) (by unfold maxLen; omega) (Nat.le_refl _) ?_; intro w1 hown1 hgrow1; clear hz0 hz1 hz2)
  have HB1 : Hid (Below w.heap.size w w1) := (Below.refl _ w).grown hgrow1 (Nat.le_refl _) (fun k e => by cases e)
  have HO1 : Hid (∃ cur : Array Value, cur.size = len * 2 ∧ w1.heap[w.heap.size]? = some (.cells cur 59 (0, 0))) := by
    rcases hown1.2 with ⟨h', _⟩ | ⟨g, cp, cur, h', _, hg, _, _, hcs, _⟩
    · cases h'
    · cases h'
      exact ⟨cur, hcs, hg⟩
  clear hown1 hgrow1
  go_loopw [4] (fun i wr => ∃ k : Nat, k ≤ len ∧ i = .int .i64 k ∧ Below w.heap.size w wr ∧ w.heap.size < wr.heap.size ∧ ∃ cur : Array Value, cur.size = len * 2 ∧ wr.heap[w.heap.size]? = some (.cells cur 59 (0, 0)) ∧
      ∀ (j : Nat) (x : Ev), j < k → es[j]? = some x → cur[j * 2]? = some (.int .i64 x.kind) ∧ cur[j * 2 + 1]? = some (.int .i64 x.value)) (fun i _ => len - (intOf i).toNat)
  case atStart =>
    obtain ⟨cur, h1, h2⟩ := HO1.out
    exact ⟨0, Nat.zero_le _, rfl, HB1.out, (Array.getElem?_eq_some_iff.1 h2).1, cur, h1, h2, fun j x hj => absurd hj (Nat.not_lt_zero _)⟩
  case round =>
    obtain ⟨k, hk, rfl, hB, hgt, cur, hcs, hblk, hdone⟩ := hrel
    have HB := Lib.hid hB
    have HCS := Lib.hid hcs
    have HBLK := Lib.hid hblk
    have HD := Lib.hid hdone
    clear hB hcs hblk hdone HO1 HB1
    by_cases hlt : k < len
    · obtain ⟨x, hx⟩ : ∃ x, es[k]? = some x := ⟨es[k]'(by rw [HLEN.out]; exact hlt), List.getElem?_eq_getElem _⟩
      obtain ⟨b, o, rfl, hbl, e0, e1⟩ := H.out k x hx
      have d0 := (HB.out.cell (p := ⟨b, o + k * 2, none⟩) hbl).trans e0
      have d1 := (HB.out.cell (p := ⟨b, o + k * 2 + 1, none⟩) hbl).trans e1
      clear e0 e1
      have hsz := HB.out.size
      have HX := Lib.hid hx
      clear hx
      go_wp2_with fail
      refine (toEv_one x _).mono ?_
      rintro f w2 ⟨rfl, hb2⟩
      have hsz2 := hb2.size
      have hblk2 : w2.heap[w.heap.size]? = some (.cells cur 59 (0, 0)) := (hb2.block _ hgt).trans HBLK.out
      have hb3 : k * 2 + 1 < cur.size := by rw [HCS.out]; omega
      obtain ⟨⟨u0, u1, hu0, hu1⟩, hf0, hf1⟩ := ev_cells2 (o := k * 2) hblk2 hb3
      have HST := Lib.hid (ev_store2 (o := k * 2) hblk2 (.int .i64 x.kind) (.int .i64 x.value))
      have HSM3 := Lib.hid (ev_set2_same cur (k * 2) (.int .i64 x.kind) (.int .i64 x.value) hb3)
      have HB3 : Hid (Below w.heap.size w ((w2.setCell ⟨w.heap.size, k * 2, none⟩ (.int .i64 x.kind)).setCell ⟨w.heap.size, k * 2 + 1, none⟩ (.int .i64 x.value))) :=
        ((HB.out.trans (hb2.mono hsz)).setCell (p := ⟨w.heap.size, k * 2, none⟩) (Nat.le_refl _) (.int .i64 x.kind)).setCell (p := ⟨w.heap.size, k * 2 + 1, none⟩) (Nat.le_refl _) (.int .i64 x.value)
      have HSZW : Hid (((w2.setCell ⟨w.heap.size, k * 2, none⟩ (.int .i64 x.kind)).setCell ⟨w.heap.size, k * 2 + 1, none⟩ (.int .i64 x.value)).heap.size = w2.heap.size) := by
        have : ((w2.setCell ⟨w.heap.size, k * 2, none⟩ (.int .i64 x.kind)).setCell ⟨w.heap.size, k * 2 + 1, none⟩ (.int .i64 x.value)).heap.size = w2.heap.size := by simp [World.setCell]
        exact this
      clear hb2 hblk2 HBLK HB d0 d1
      go_wp2_with fail
      go_roundw
      case rel =>
        refine ⟨k + 1, by omega, by go_num, HB3.out, by rw [HSZW.out]; omega, _, ?_, HST.out, ?_⟩
        · simp [HCS.out]
        · intro j y hj hy
          by_cases hjk : j = k
          · subst hjk
            rw [HX.out] at hy
            cases hy
            exact HSM3.out
          · obtain ⟨h0, h1⟩ := HD.out j y (by omega) hy
            exact ⟨by rw [ev_set2_other _ _ _ _ _ (by omega)]; exact h0, by rw [ev_set2_other _ _ _ _ _ (by omega)]; exact h1⟩
      case measure => simp [intOf]; omega
    · obtain rfl : k = len := by omega
      clear H
      go_wp2_with fail
      go_ret
      refine ⟨_, k, by rw [HLEN.out]; rfl, ⟨by rw [HLEN.out]; exact Nat.le_refl _, by unfold maxLen; omega, ?_⟩, HB.out⟩
      intro j y hy
      have hj : j < k := by have := (List.getElem?_eq_some_iff.1 hy).1; rw [HLEN.out] at this; exact this
      obtain ⟨h0, h1⟩ := HD.out j y hj hy
      refine ⟨w.heap.size, 0, rfl, hgt, ?_, ?_⟩
      · rw [Nat.zero_add, cell_of_row _ _ _ _ _ _ HBLK.out]; exact h0
      · rw [Nat.zero_add, cell_of_row _ _ _ _ _ _ HBLK.out]; exact h1

end Go.Proofs.YtjmfnpljkiobkaaDoor

namespace Go.Proofs.YtjmfnpljkiobkaaDoor
open Go.RowKit
set_option linter.unusedVariables false

/-- A text; nothing that was there has changed. -/
def Txt (l : List UInt8) (w : World) (e : Ending) (w' : World) : Prop := e = .returned (.string ⟨l.toArray⟩) ∧ Below w.heap.size w w'

theorem cat_arr (l m : List UInt8) : (⟨l.toArray⟩ : ByteArray) ++ ⟨m.toArray⟩ = ⟨(l ++ m).toArray⟩ := by
  apply ByteArray.ext
  simp

/-- One byte, made a text. -/
theorem conv_byte (w : World) (z : Int) (h0 : 0 ≤ z) (h1 : z < 256) :
    (convert 22 9 (.slice (some ⟨w.heap.size, 0, none⟩) 1 1)).run Tryd.prog (w.alloc (.cells #[.int .u8 z] 5)) = .ok (.string ⟨[UInt8.ofNat z.toNat].toArray⟩) (w.alloc (.cells #[.int .u8 z] 5)) := by
  refine run_convert_bytes_back (P := Tryd.prog) _ _ _ 5 ⟨w.heap.size, 0, none⟩ 1 [UInt8.ofNat z.toNat] Tryd.underlying22 Tryd.underlying5 Tryd.underlying9 fun j hj => ?_
  have hj0 : j = 0 := by simp at hj; omega
  subst hj0
  have e : ((UInt8.ofNat z.toNat).toNat : Int) = z := by
    rw [UInt8.toNat_ofNat_of_lt' (by simp [UInt8.size]; omega)]; omega
  show (w.alloc (.cells #[.int .u8 z] 5)).cell? ((⟨w.heap.size, 0, none⟩ : Addr).add 0) = _
  rw [show (⟨w.heap.size, 0, none⟩ : Addr).add 0 = ⟨w.heap.size, 0, none⟩ from by simp [Addr.add], cell_of_row _ _ _ _ _ _ (heap_alloc_new w _)]
  show some (Value.int .u8 z) = some (Value.int .u8 ((UInt8.ofNat z.toNat).toNat : Int))
  rw [e]

set_option maxRecDepth 100000 in
set_option maxHeartbeats 2000000 in
theorem l17Dec_one (n : Nat) (hn : n ≤ 4096) (w : World) : Calls Tryd.prog 29 #[.int .i64 n] w (Txt (Lib.decDigits n) w) := by
  go_enter Tryd.func29, Tryd.ntmps29
  go_wp2_with fail
  go_loopw [0, 3] (fun a o wr => ∃ m : Nat, ∃ out : List UInt8, m ≤ n ∧ a = .int .i64 m ∧ o = .string ⟨out.toArray⟩ ∧ out.length + m ≤ n ∧ Hid (Lib.decDigits n = Lib.decDigits m ++ out) ∧ Below w.heap.size w wr) (fun a _ _ => (intOf a).toNat)
  case atStart => exact ⟨n, [], Nat.le_refl _, rfl, rfl, by simp, by show Lib.decDigits n = Lib.decDigits n ++ []; simp, Below.refl _ _⟩
  case round =>
    obtain ⟨m, out, hm, rfl, rfl, hol, HD, hB⟩ := hrel
    have HB := Lib.hid hB
    clear hB
    by_cases h9 : m < 10
    · have hd : Lib.decDigits m = [UInt8.ofNat (48 + m)] := by rw [Lib.decDigits, dif_pos h9]
      have HE : Hid (Lib.decDigits n = UInt8.ofNat (48 + m) :: out) := by
        have : Lib.decDigits n = UInt8.ofNat (48 + m) :: out := by rw [HD.out, hd]; rfl
        exact this
      have HB2 : Hid (Below w.heap.size w (wr.alloc (.cells #[.int .u8 (48 + (m : Int))] 5))) := HB.out.alloc HB.out.size _
      have hcb := conv_byte wr (48 + (m : Int)) (by omega) (by omega)
      rw [show (48 + (m : Int)).toNat = 48 + m by omega] at hcb
      obtain ⟨c, hc⟩ : ∃ c, UInt8.ofNat (48 + m) = c := ⟨_, rfl⟩
      rw [hc] at hcb HE
      clear hd HD hc
      go_wp2_with fail
      go_ret
      refine ⟨?_, HB2.out⟩
      rw [HE.out, cat_arr]; rfl
    · obtain ⟨q, hq⟩ : ∃ q, m / 10 = q := ⟨_, rfl⟩
      obtain ⟨r, hr⟩ : ∃ r, m % 10 = r := ⟨_, rfl⟩
      have hr10 : r < 10 := by omega
      have hm10 : m = 10 * q + r := by omega
      have e1 : (m : Int) % 10 = (r : Int) := by omega
      have e2 : (m : Int) / 10 = (q : Int) := by omega
      have HM := Lib.hid hm10
      have hd : Lib.decDigits m = Lib.decDigits q ++ [UInt8.ofNat (48 + r)] := by rw [Lib.decDigits, dif_neg h9, hq, hr]
      have HE : Hid (Lib.decDigits n = Lib.decDigits q ++ (UInt8.ofNat (48 + r) :: out)) := by
        have : Lib.decDigits n = Lib.decDigits q ++ (UInt8.ofNat (48 + r) :: out) := by rw [HD.out, hd]; simp
        exact this
      have HB2 : Hid (Below w.heap.size w (wr.alloc (.cells #[.int .u8 (48 + (r : Int))] 5))) := HB.out.alloc HB.out.size _
      have hcb := conv_byte wr (48 + (r : Int)) (by omega) (by omega)
      rw [show (48 + (r : Int)).toNat = 48 + r by omega] at hcb
      have hgt : decide ((9 : Int) < (m : Int)) = true := by simp; omega
      obtain ⟨c, hc⟩ : ∃ c, UInt8.ofNat (48 + r) = c := ⟨_, rfl⟩
      rw [hc] at hcb HE
      clear hd HD hq hr hc hm10
      go_wp2_with fail
      go_roundw
      case rel => exact ⟨q, c :: out, by have := HM.out; omega, by go_num, by rw [cat_arr]; rfl, by have := HM.out; simp; omega, HE.out, HB2.out⟩
      case measure => have := HM.out; simp [intOf]; omega

end Go.Proofs.YtjmfnpljkiobkaaDoor

namespace Go.Proofs.YtjmfnpljkiobkaaDoor
open Go.RowKit
set_option linter.unusedVariables false

def okEv (x : Ev) : Bool := decide (1 ≤ x.kind) && decide (x.kind ≤ 4) && decide (0 ≤ x.value) && decide (x.value ≤ 255)
def evByte (k : Int) : UInt8 := if k = 1 then 98 else if k = 2 then 114 else if k = 3 then 119 else 111
def evTxt (x : Ev) : List UInt8 := evByte x.kind :: Lib.decDigits x.value.toNat
/-- The text of the first k events. -/
def ftT (es : List Ev) : Nat → List UInt8
  | 0 => []
  | k + 1 => ftT es k ++ (if k = 0 then [] else [32]) ++ evTxt (es.getD k ⟨0, 0⟩)
def ftA (es : List Ev) : List UInt8 := if es.all okEv then ftT es es.length else []
def GoodTo (es : List Ev) (k : Nat) : Prop := ∀ (j : Nat) (x : Ev), j < k → es[j]? = some x → okEv x = true
theorem GoodTo.succ {es : List Ev} {k : Nat} {x : Ev} (h : GoodTo es k) (hx : es[k]? = some x) (ho : okEv x = true) : GoodTo es (k + 1) := fun j y hj hy => by
  by_cases hjk : j = k
  · subst hjk; rw [hx] at hy; cases hy; exact ho
  · exact h j y (by omega) hy
theorem ftA_good {es : List Ev} (h : GoodTo es es.length) : ftA es = ftT es es.length := by
  unfold ftA
  rw [if_pos]
  rw [List.all_eq_true]
  intro x hx
  obtain ⟨j, hj, rfl⟩ := List.getElem_of_mem hx
  exact h j _ hj (List.getElem?_eq_getElem hj)
theorem ftA_bad {es : List Ev} {k : Nat} {x : Ev} (hx : es[k]? = some x) (ho : okEv x = false) : ftA es = [] := by
  unfold ftA
  rw [if_neg]
  intro h
  have := List.all_eq_true.1 h x (List.mem_of_getElem? hx)
  rw [ho] at this
  cases this
theorem okEv_cases {x : Ev} : (x.kind < 1 ∧ okEv x = false) ∨ (1 ≤ x.kind ∧ 4 < x.kind ∧ okEv x = false) ∨ (1 ≤ x.kind ∧ x.kind ≤ 4 ∧ x.value < 0 ∧ okEv x = false) ∨ (1 ≤ x.kind ∧ x.kind ≤ 4 ∧ 0 ≤ x.value ∧ 255 < x.value ∧ okEv x = false) ∨
    ((x.kind = 1 ∨ x.kind = 2 ∨ x.kind = 3 ∨ x.kind = 4) ∧ (∃ v : Nat, v ≤ 255 ∧ x.value = v) ∧ okEv x = true) := by
  by_cases h1 : x.kind < 1
  · exact .inl ⟨h1, by unfold okEv; simp; omega⟩
  by_cases h2 : 4 < x.kind
  · exact .inr (.inl ⟨by omega, h2, by unfold okEv; simp; omega⟩)
  by_cases h3 : x.value < 0
  · exact .inr (.inr (.inl ⟨by omega, by omega, h3, by unfold okEv; simp; omega⟩))
  by_cases h4 : 255 < x.value
  · exact .inr (.inr (.inr (.inl ⟨by omega, by omega, by omega, h4, by unfold okEv; simp; omega⟩)))
  exact .inr (.inr (.inr (.inr ⟨by omega, ⟨x.value.toNat, by omega, by omega⟩, by unfold okEv; simp; omega⟩)))
theorem dec_len (v : Nat) (h : v ≤ 255) : (Lib.decDigits v).length ≤ 20 := by
  rw [Lib.decDigits_length]
  exact Lib.nDigits_le20 v (by omega)
theorem ftT_len {es : List Ev} : ∀ k, k ≤ es.length → GoodTo es k → (ftT es k).length ≤ 22 * k
  | 0, _, _ => by simp [ftT]
  | k + 1, hk, hg => by
    have ih := ftT_len k (by omega) fun j x hj hx => hg j x (by omega) hx
    have e : es[k]? = some es[k] := List.getElem?_eq_getElem (by omega)
    have ho := hg k _ (Nat.lt_succ_self k) e
    have e2 : es.getD k ⟨0, 0⟩ = es[k] := by simp [List.getD, e]
    rw [ftT, e2]
    have hv : (Lib.decDigits es[k].value.toNat).length ≤ 20 := by
      refine dec_len _ ?_
      unfold okEv at ho
      simp at ho
      omega
    have hsep : (if k = 0 then ([] : List UInt8) else [32]).length ≤ 1 := by split <;> simp
    simp only [List.length_append, evTxt, List.length_cons]
    omega
theorem ftT_succ {es : List Ev} {k : Nat} {x : Ev} (hx : es[k]? = some x) : ftT es (k + 1) = ftT es k ++ (if k = 0 then [] else [32]) ++ evTxt x := by
  rw [ftT]
  have e2 : es.getD k ⟨0, 0⟩ = x := by simp [List.getD, hx]
  rw [e2]

theorem cut_brwo : (({ data := #[98, 114, 119, 111] } : ByteArray).extract 0 1 = ⟨[98].toArray⟩) ∧ (({ data := #[98, 114, 119, 111] } : ByteArray).extract 1 2 = ⟨[114].toArray⟩) ∧ (({ data := #[98, 114, 119, 111] } : ByteArray).extract 2 3 = ⟨[119].toArray⟩) ∧ (({ data := #[98, 114, 119, 111] } : ByteArray).extract 3 4 = ⟨[111].toArray⟩) := by decide

set_option maxRecDepth 100000 in
set_option maxHeartbeats 4000000 in
theorem sFT_one (es : List Ev) (a : Option Addr) (cap : Nat) (w : World) (h : EvL w es a cap) (hs : es.length ≤ 100000000) :
    Calls Tryd.prog 8 #[.slice a es.length cap] w (Txt (ftA es) w) := by
  obtain ⟨hc, hm, h⟩ := h
  obtain ⟨n, hn⟩ : ∃ n, es.length = n := ⟨_, rfl⟩
  have HN := Lib.hid hn
  rw [hn] at hc hs ⊢
  have H := Lib.hid h
  clear h hn hm hc
  go_enter Tryd.func8, Tryd.ntmps8
  go_wp2_with fail
  go_loopw [3, 4] (fun o i wr => ∃ k : Nat, k ≤ n ∧ i = .int .i64 k ∧ o = .string ⟨(ftT es k).toArray⟩ ∧ Hid (GoodTo es k) ∧ Below w.heap.size w wr) (fun _ i _ => n - (intOf i).toNat)
  case atStart => exact ⟨0, Nat.zero_le _, rfl, rfl, (fun j x hj => absurd hj (Nat.not_lt_zero _) : GoodTo es 0), Below.refl _ _⟩
  case round =>
    obtain ⟨k, hk, rfl, rfl, HG, hB⟩ := hrel
    have HB := Lib.hid hB
    have hlen := ftT_len k (by rw [HN.out]; exact hk) HG.out
    clear hB
    obtain ⟨t, ht⟩ : ∃ t, ftT es k = t := ⟨_, rfl⟩
    rw [ht] at hlen ⊢
    have HT := Lib.hid ht
    clear ht
    by_cases hlt : k < n
    · obtain ⟨x, hx⟩ : ∃ x, es[k]? = some x := ⟨es[k]'(by rw [HN.out]; exact hlt), List.getElem?_eq_getElem _⟩
      obtain ⟨b, o, rfl, hbl, e0, e1⟩ := H.out k x hx
      have r0 := (HB.out.cell (p := ⟨b, o + k * 2, none⟩) hbl).trans e0
      have r1 := (HB.out.cell (p := ⟨b, o + k * 2 + 1, none⟩) hbl).trans e1
      have HX := Lib.hid hx
      have HB2 : Hid (Below w.heap.size w (wr.alloc (.cells #[.int .i64 x.kind, .int .i64 x.value] 59))) := HB.out.alloc HB.out.size _
      clear e0 e1 hx H
      rcases okEv_cases (x := x) with ⟨h1, hb⟩ | ⟨h1, h2, hb⟩ | ⟨h1, h2, h3, hb⟩ | ⟨h1, h2, h3, h4, hb⟩ | ⟨hkd, ⟨v, hv, hxv⟩, hb⟩
      · have HA : Hid (ftA es = []) := ftA_bad HX.out hb
        clear hb
        go_wp2_with fail
        go_ret
        exact ⟨by rw [HA.out] <;> rfl, HB2.out⟩
      · have HA : Hid (ftA es = []) := ftA_bad HX.out hb
        clear hb
        go_wp2_with fail
        go_ret
        exact ⟨by rw [HA.out] <;> rfl, HB2.out⟩
      · have HA : Hid (ftA es = []) := ftA_bad HX.out hb
        clear hb
        go_wp2_with fail
        go_ret
        exact ⟨by rw [HA.out] <;> rfl, HB2.out⟩
      · have HA : Hid (ftA es = []) := ftA_bad HX.out hb
        clear hb
        go_wp2_with fail
        go_ret
        exact ⟨by rw [HA.out] <;> rfl, HB2.out⟩
      have HG2 : Hid (GoodTo es (k + 1)) := HG.out.succ HX.out hb
      have HFT := Lib.hid (ftT_succ HX.out)
      obtain ⟨kd, vl⟩ := x
      simp only at hxv hkd r0 r1 HB2
      subst hxv
      have hdl := dec_len v hv
      obtain ⟨dd, hdd⟩ : ∃ dd, Lib.decDigits v = dd := ⟨_, rfl⟩
      rw [hdd] at hdl
      have HDD := Lib.hid hdd
      clear hb hdd
      have qw0 : IntKind.i64.wrap 0 = 0 := by decide
      have qw1 : IntKind.i64.wrap 1 = 1 := by decide
      have qw2 : IntKind.i64.wrap 2 = 2 := by decide
      have qw3 : IntKind.i64.wrap 3 = 3 := by decide
      have qw4 : IntKind.i64.wrap 4 = 4 := by decide
      rcases hkd with rfl | rfl | rfl | rfl
      · go_wp2_with fail
        · have hk0 : ¬ k = 0 := by omega
          have HE : Hid (ftT es (k + 1) = t ++ ((32 : UInt8) :: 98 :: dd)) := by
            have : ftT es (k + 1) = t ++ ((32 : UInt8) :: 98 :: dd) := by
              rw [HFT.out, HT.out, if_neg hk0]
              unfold evTxt
              rw [show ((v : Int)).toNat = v from by simp, HDD.out]
              simp [evByte]
            exact this
          clear HFT
          obtain ⟨t2, ht2⟩ : ∃ t2, t ++ [(32 : UInt8)] = t2 := ⟨_, rfl⟩
          have hlen2 : t2.length ≤ 22 * k + 1 := by rw [← ht2]; simp; omega
          rw [show ({ data := t.toArray } : ByteArray) ++ { data := #[32] } = ⟨t2.toArray⟩ from by rw [← ht2]; exact cat_arr t [32]]
          have HT2 := Lib.hid ht2
          clear ht2
          have hl7 : ¬ 9223372036854775807 < t2.length + 1 := by omega
          have hl11 : ¬ 9223372036854775807 < t2.length + 1 + dd.length := by omega
          clear hk0 hlen
          obtain ⟨W1, hW1⟩ : ∃ W1, wr.alloc (.cells #[.int .i64 1, .int .i64 (v : Int)] 59) = W1 := ⟨_, rfl⟩
          have hz1 : wr.heap.size < W1.heap.size := by rw [← hW1]; simp
          have q0 : W1.cell? ⟨wr.heap.size, 0, none⟩ = some (.int .i64 1) := by rw [← hW1, cell_of_row _ _ _ _ _ _ (heap_alloc_new wr _)]; rfl
          have q1 : W1.cell? ⟨wr.heap.size, 1, none⟩ = some (.int .i64 (v : Int)) := by rw [← hW1, cell_of_row _ _ _ _ _ _ (heap_alloc_new wr _)]; rfl
          rw [hW1] at HB2 ⊢
          clear hW1
          have HS : Hid (∀ v', Below W1.heap.size W1 v' → v'.cell? ⟨wr.heap.size, 0, none⟩ = some (.int .i64 1) ∧ v'.cell? ⟨wr.heap.size, 1, none⟩ = some (.int .i64 (v : Int))) := fun v' hv' => ⟨(hv'.cell (p := ⟨wr.heap.size, 0, none⟩) hz1).trans q0, (hv'.cell (p := ⟨wr.heap.size, 1, none⟩) hz1).trans q1⟩
          have HBD : Hid (Below W1.heap.size W1 W1.drew) := (Below.refl _ _).drew
          go_region_held3 (fun v' => v'.cell? ⟨wr.heap.size, 0, none⟩ = some (.int .i64 1) ∧ v'.cell? ⟨wr.heap.size, 1, none⟩ = some (.int .i64 (v : Int))) (first | assumption | exact ⟨q0, q1⟩)
            (first
            | (go_at_call 29; (with_reducible refine (l17Dec_one v (by omega) W1.drew).mono ?_); rintro f w2 ⟨rfl, hA⟩; rw [HDD.out]; have hA2 := HBD.out.trans hA; have hS1 := HS.out _ hA2)
            | fail)
          all_goals
            have HB3 := Lib.hid (HB2.out.trans (hA2.mono HB2.out.size))
            clear hA hA2 hS1 q0 q1
            go_wp2_with fail
            go_roundw
            case rel => exact ⟨k + 1, by omega, by go_num, by rw [HE.out]; exact congrArg Value.string (by rw [← HT2.out]; rw [cut_brwo.1, cat_arr, cat_arr]; simp), HG2.out, HB3.out⟩
            case measure => simp [intOf]; omega
        · have hk0 : k = 0 := by omega
          have HE : Hid (ftT es (k + 1) = t ++ ((98 : UInt8) :: dd)) := by
            have : ftT es (k + 1) = t ++ ((98 : UInt8) :: dd) := by
              rw [HFT.out, HT.out, if_pos hk0]
              unfold evTxt
              rw [show ((v : Int)).toNat = v from by simp, HDD.out]
              simp [evByte]
            exact this
          clear HFT
          have hl7 : ¬ 9223372036854775807 < t.length + 1 := by omega
          have hl11 : ¬ 9223372036854775807 < t.length + 1 + dd.length := by omega
          clear hk0 hlen
          obtain ⟨W1, hW1⟩ : ∃ W1, wr.alloc (.cells #[.int .i64 1, .int .i64 (v : Int)] 59) = W1 := ⟨_, rfl⟩
          have hz1 : wr.heap.size < W1.heap.size := by rw [← hW1]; simp
          have q0 : W1.cell? ⟨wr.heap.size, 0, none⟩ = some (.int .i64 1) := by rw [← hW1, cell_of_row _ _ _ _ _ _ (heap_alloc_new wr _)]; rfl
          have q1 : W1.cell? ⟨wr.heap.size, 1, none⟩ = some (.int .i64 (v : Int)) := by rw [← hW1, cell_of_row _ _ _ _ _ _ (heap_alloc_new wr _)]; rfl
          rw [hW1] at HB2 ⊢
          clear hW1
          have HS : Hid (∀ v', Below W1.heap.size W1 v' → v'.cell? ⟨wr.heap.size, 0, none⟩ = some (.int .i64 1) ∧ v'.cell? ⟨wr.heap.size, 1, none⟩ = some (.int .i64 (v : Int))) := fun v' hv' => ⟨(hv'.cell (p := ⟨wr.heap.size, 0, none⟩) hz1).trans q0, (hv'.cell (p := ⟨wr.heap.size, 1, none⟩) hz1).trans q1⟩
          have HBD : Hid (Below W1.heap.size W1 W1.drew) := (Below.refl _ _).drew
          go_region_held3 (fun v' => v'.cell? ⟨wr.heap.size, 0, none⟩ = some (.int .i64 1) ∧ v'.cell? ⟨wr.heap.size, 1, none⟩ = some (.int .i64 (v : Int))) (first | assumption | exact ⟨q0, q1⟩)
            (first
            | (go_at_call 29; (with_reducible refine (l17Dec_one v (by omega) W1.drew).mono ?_); rintro f w2 ⟨rfl, hA⟩; rw [HDD.out]; have hA2 := HBD.out.trans hA; have hS1 := HS.out _ hA2)
            | fail)
          all_goals
            have HB3 := Lib.hid (HB2.out.trans (hA2.mono HB2.out.size))
            clear hA hA2 hS1 q0 q1
            go_wp2_with fail
            go_roundw
            case rel => exact ⟨k + 1, by omega, by go_num, by rw [HE.out]; exact congrArg Value.string (by rw [cut_brwo.1, cat_arr, cat_arr]; simp), HG2.out, HB3.out⟩
            case measure => simp [intOf]; omega
      · go_wp2_with fail
        · have hk0 : ¬ k = 0 := by omega
          have HE : Hid (ftT es (k + 1) = t ++ ((32 : UInt8) :: 114 :: dd)) := by
            have : ftT es (k + 1) = t ++ ((32 : UInt8) :: 114 :: dd) := by
              rw [HFT.out, HT.out, if_neg hk0]
              unfold evTxt
              rw [show ((v : Int)).toNat = v from by simp, HDD.out]
              simp [evByte]
            exact this
          clear HFT
          obtain ⟨t2, ht2⟩ : ∃ t2, t ++ [(32 : UInt8)] = t2 := ⟨_, rfl⟩
          have hlen2 : t2.length ≤ 22 * k + 1 := by rw [← ht2]; simp; omega
          rw [show ({ data := t.toArray } : ByteArray) ++ { data := #[32] } = ⟨t2.toArray⟩ from by rw [← ht2]; exact cat_arr t [32]]
          have HT2 := Lib.hid ht2
          clear ht2
          have hl7 : ¬ 9223372036854775807 < t2.length + 1 := by omega
          have hl11 : ¬ 9223372036854775807 < t2.length + 1 + dd.length := by omega
          clear hk0 hlen
          obtain ⟨W1, hW1⟩ : ∃ W1, wr.alloc (.cells #[.int .i64 2, .int .i64 (v : Int)] 59) = W1 := ⟨_, rfl⟩
          have hz1 : wr.heap.size < W1.heap.size := by rw [← hW1]; simp
          have q0 : W1.cell? ⟨wr.heap.size, 0, none⟩ = some (.int .i64 2) := by rw [← hW1, cell_of_row _ _ _ _ _ _ (heap_alloc_new wr _)]; rfl
          have q1 : W1.cell? ⟨wr.heap.size, 1, none⟩ = some (.int .i64 (v : Int)) := by rw [← hW1, cell_of_row _ _ _ _ _ _ (heap_alloc_new wr _)]; rfl
          rw [hW1] at HB2 ⊢
          clear hW1
          have HS : Hid (∀ v', Below W1.heap.size W1 v' → v'.cell? ⟨wr.heap.size, 0, none⟩ = some (.int .i64 2) ∧ v'.cell? ⟨wr.heap.size, 1, none⟩ = some (.int .i64 (v : Int))) := fun v' hv' => ⟨(hv'.cell (p := ⟨wr.heap.size, 0, none⟩) hz1).trans q0, (hv'.cell (p := ⟨wr.heap.size, 1, none⟩) hz1).trans q1⟩
          have HBD : Hid (Below W1.heap.size W1 W1.drew) := (Below.refl _ _).drew
          go_region_held3 (fun v' => v'.cell? ⟨wr.heap.size, 0, none⟩ = some (.int .i64 2) ∧ v'.cell? ⟨wr.heap.size, 1, none⟩ = some (.int .i64 (v : Int))) (first | assumption | exact ⟨q0, q1⟩)
            (first
            | (go_at_call 29; (with_reducible refine (l17Dec_one v (by omega) W1.drew).mono ?_); rintro f w2 ⟨rfl, hA⟩; rw [HDD.out]; have hA2 := HBD.out.trans hA; have hS1 := HS.out _ hA2)
            | fail)
          all_goals
            have HB3 := Lib.hid (HB2.out.trans (hA2.mono HB2.out.size))
            clear hA hA2 hS1 q0 q1
            go_wp2_with fail
            go_roundw
            case rel => exact ⟨k + 1, by omega, by go_num, by rw [HE.out]; exact congrArg Value.string (by rw [← HT2.out]; rw [cut_brwo.2.1, cat_arr, cat_arr]; simp), HG2.out, HB3.out⟩
            case measure => simp [intOf]; omega
        · have hk0 : k = 0 := by omega
          have HE : Hid (ftT es (k + 1) = t ++ ((114 : UInt8) :: dd)) := by
            have : ftT es (k + 1) = t ++ ((114 : UInt8) :: dd) := by
              rw [HFT.out, HT.out, if_pos hk0]
              unfold evTxt
              rw [show ((v : Int)).toNat = v from by simp, HDD.out]
              simp [evByte]
            exact this
          clear HFT
          have hl7 : ¬ 9223372036854775807 < t.length + 1 := by omega
          have hl11 : ¬ 9223372036854775807 < t.length + 1 + dd.length := by omega
          clear hk0 hlen
          obtain ⟨W1, hW1⟩ : ∃ W1, wr.alloc (.cells #[.int .i64 2, .int .i64 (v : Int)] 59) = W1 := ⟨_, rfl⟩
          have hz1 : wr.heap.size < W1.heap.size := by rw [← hW1]; simp
          have q0 : W1.cell? ⟨wr.heap.size, 0, none⟩ = some (.int .i64 2) := by rw [← hW1, cell_of_row _ _ _ _ _ _ (heap_alloc_new wr _)]; rfl
          have q1 : W1.cell? ⟨wr.heap.size, 1, none⟩ = some (.int .i64 (v : Int)) := by rw [← hW1, cell_of_row _ _ _ _ _ _ (heap_alloc_new wr _)]; rfl
          rw [hW1] at HB2 ⊢
          clear hW1
          have HS : Hid (∀ v', Below W1.heap.size W1 v' → v'.cell? ⟨wr.heap.size, 0, none⟩ = some (.int .i64 2) ∧ v'.cell? ⟨wr.heap.size, 1, none⟩ = some (.int .i64 (v : Int))) := fun v' hv' => ⟨(hv'.cell (p := ⟨wr.heap.size, 0, none⟩) hz1).trans q0, (hv'.cell (p := ⟨wr.heap.size, 1, none⟩) hz1).trans q1⟩
          have HBD : Hid (Below W1.heap.size W1 W1.drew) := (Below.refl _ _).drew
          go_region_held3 (fun v' => v'.cell? ⟨wr.heap.size, 0, none⟩ = some (.int .i64 2) ∧ v'.cell? ⟨wr.heap.size, 1, none⟩ = some (.int .i64 (v : Int))) (first | assumption | exact ⟨q0, q1⟩)
            (first
            | (go_at_call 29; (with_reducible refine (l17Dec_one v (by omega) W1.drew).mono ?_); rintro f w2 ⟨rfl, hA⟩; rw [HDD.out]; have hA2 := HBD.out.trans hA; have hS1 := HS.out _ hA2)
            | fail)
          all_goals
            have HB3 := Lib.hid (HB2.out.trans (hA2.mono HB2.out.size))
            clear hA hA2 hS1 q0 q1
            go_wp2_with fail
            go_roundw
            case rel => exact ⟨k + 1, by omega, by go_num, by rw [HE.out]; exact congrArg Value.string (by rw [cut_brwo.2.1, cat_arr, cat_arr]; simp), HG2.out, HB3.out⟩
            case measure => simp [intOf]; omega
      · go_wp2_with fail
        · have hk0 : ¬ k = 0 := by omega
          have HE : Hid (ftT es (k + 1) = t ++ ((32 : UInt8) :: 119 :: dd)) := by
            have : ftT es (k + 1) = t ++ ((32 : UInt8) :: 119 :: dd) := by
              rw [HFT.out, HT.out, if_neg hk0]
              unfold evTxt
              rw [show ((v : Int)).toNat = v from by simp, HDD.out]
              simp [evByte]
            exact this
          clear HFT
          obtain ⟨t2, ht2⟩ : ∃ t2, t ++ [(32 : UInt8)] = t2 := ⟨_, rfl⟩
          have hlen2 : t2.length ≤ 22 * k + 1 := by rw [← ht2]; simp; omega
          rw [show ({ data := t.toArray } : ByteArray) ++ { data := #[32] } = ⟨t2.toArray⟩ from by rw [← ht2]; exact cat_arr t [32]]
          have HT2 := Lib.hid ht2
          clear ht2
          have hl7 : ¬ 9223372036854775807 < t2.length + 1 := by omega
          have hl11 : ¬ 9223372036854775807 < t2.length + 1 + dd.length := by omega
          clear hk0 hlen
          obtain ⟨W1, hW1⟩ : ∃ W1, wr.alloc (.cells #[.int .i64 3, .int .i64 (v : Int)] 59) = W1 := ⟨_, rfl⟩
          have hz1 : wr.heap.size < W1.heap.size := by rw [← hW1]; simp
          have q0 : W1.cell? ⟨wr.heap.size, 0, none⟩ = some (.int .i64 3) := by rw [← hW1, cell_of_row _ _ _ _ _ _ (heap_alloc_new wr _)]; rfl
          have q1 : W1.cell? ⟨wr.heap.size, 1, none⟩ = some (.int .i64 (v : Int)) := by rw [← hW1, cell_of_row _ _ _ _ _ _ (heap_alloc_new wr _)]; rfl
          rw [hW1] at HB2 ⊢
          clear hW1
          have HS : Hid (∀ v', Below W1.heap.size W1 v' → v'.cell? ⟨wr.heap.size, 0, none⟩ = some (.int .i64 3) ∧ v'.cell? ⟨wr.heap.size, 1, none⟩ = some (.int .i64 (v : Int))) := fun v' hv' => ⟨(hv'.cell (p := ⟨wr.heap.size, 0, none⟩) hz1).trans q0, (hv'.cell (p := ⟨wr.heap.size, 1, none⟩) hz1).trans q1⟩
          have HBD : Hid (Below W1.heap.size W1 W1.drew) := (Below.refl _ _).drew
          go_region_held3 (fun v' => v'.cell? ⟨wr.heap.size, 0, none⟩ = some (.int .i64 3) ∧ v'.cell? ⟨wr.heap.size, 1, none⟩ = some (.int .i64 (v : Int))) (first | assumption | exact ⟨q0, q1⟩)
            (first
            | (go_at_call 29; (with_reducible refine (l17Dec_one v (by omega) W1.drew).mono ?_); rintro f w2 ⟨rfl, hA⟩; rw [HDD.out]; have hA2 := HBD.out.trans hA; have hS1 := HS.out _ hA2)
            | fail)
          all_goals
            have HB3 := Lib.hid (HB2.out.trans (hA2.mono HB2.out.size))
            clear hA hA2 hS1 q0 q1
            go_wp2_with fail
            go_roundw
            case rel => exact ⟨k + 1, by omega, by go_num, by rw [HE.out]; exact congrArg Value.string (by rw [← HT2.out]; rw [cut_brwo.2.2.1, cat_arr, cat_arr]; simp), HG2.out, HB3.out⟩
            case measure => simp [intOf]; omega
        · have hk0 : k = 0 := by omega
          have HE : Hid (ftT es (k + 1) = t ++ ((119 : UInt8) :: dd)) := by
            have : ftT es (k + 1) = t ++ ((119 : UInt8) :: dd) := by
              rw [HFT.out, HT.out, if_pos hk0]
              unfold evTxt
              rw [show ((v : Int)).toNat = v from by simp, HDD.out]
              simp [evByte]
            exact this
          clear HFT
          have hl7 : ¬ 9223372036854775807 < t.length + 1 := by omega
          have hl11 : ¬ 9223372036854775807 < t.length + 1 + dd.length := by omega
          clear hk0 hlen
          obtain ⟨W1, hW1⟩ : ∃ W1, wr.alloc (.cells #[.int .i64 3, .int .i64 (v : Int)] 59) = W1 := ⟨_, rfl⟩
          have hz1 : wr.heap.size < W1.heap.size := by rw [← hW1]; simp
          have q0 : W1.cell? ⟨wr.heap.size, 0, none⟩ = some (.int .i64 3) := by rw [← hW1, cell_of_row _ _ _ _ _ _ (heap_alloc_new wr _)]; rfl
          have q1 : W1.cell? ⟨wr.heap.size, 1, none⟩ = some (.int .i64 (v : Int)) := by rw [← hW1, cell_of_row _ _ _ _ _ _ (heap_alloc_new wr _)]; rfl
          rw [hW1] at HB2 ⊢
          clear hW1
          have HS : Hid (∀ v', Below W1.heap.size W1 v' → v'.cell? ⟨wr.heap.size, 0, none⟩ = some (.int .i64 3) ∧ v'.cell? ⟨wr.heap.size, 1, none⟩ = some (.int .i64 (v : Int))) := fun v' hv' => ⟨(hv'.cell (p := ⟨wr.heap.size, 0, none⟩) hz1).trans q0, (hv'.cell (p := ⟨wr.heap.size, 1, none⟩) hz1).trans q1⟩
          have HBD : Hid (Below W1.heap.size W1 W1.drew) := (Below.refl _ _).drew
          go_region_held3 (fun v' => v'.cell? ⟨wr.heap.size, 0, none⟩ = some (.int .i64 3) ∧ v'.cell? ⟨wr.heap.size, 1, none⟩ = some (.int .i64 (v : Int))) (first | assumption | exact ⟨q0, q1⟩)
            (first
            | (go_at_call 29; (with_reducible refine (l17Dec_one v (by omega) W1.drew).mono ?_); rintro f w2 ⟨rfl, hA⟩; rw [HDD.out]; have hA2 := HBD.out.trans hA; have hS1 := HS.out _ hA2)
            | fail)
          all_goals
            have HB3 := Lib.hid (HB2.out.trans (hA2.mono HB2.out.size))
            clear hA hA2 hS1 q0 q1
            go_wp2_with fail
            go_roundw
            case rel => exact ⟨k + 1, by omega, by go_num, by rw [HE.out]; exact congrArg Value.string (by rw [cut_brwo.2.2.1, cat_arr, cat_arr]; simp), HG2.out, HB3.out⟩
            case measure => simp [intOf]; omega
      · go_wp2_with fail
        · have hk0 : ¬ k = 0 := by omega
          have HE : Hid (ftT es (k + 1) = t ++ ((32 : UInt8) :: 111 :: dd)) := by
            have : ftT es (k + 1) = t ++ ((32 : UInt8) :: 111 :: dd) := by
              rw [HFT.out, HT.out, if_neg hk0]
              unfold evTxt
              rw [show ((v : Int)).toNat = v from by simp, HDD.out]
              simp [evByte]
            exact this
          clear HFT
          obtain ⟨t2, ht2⟩ : ∃ t2, t ++ [(32 : UInt8)] = t2 := ⟨_, rfl⟩
          have hlen2 : t2.length ≤ 22 * k + 1 := by rw [← ht2]; simp; omega
          rw [show ({ data := t.toArray } : ByteArray) ++ { data := #[32] } = ⟨t2.toArray⟩ from by rw [← ht2]; exact cat_arr t [32]]
          have HT2 := Lib.hid ht2
          clear ht2
          have hl7 : ¬ 9223372036854775807 < t2.length + 1 := by omega
          have hl11 : ¬ 9223372036854775807 < t2.length + 1 + dd.length := by omega
          clear hk0 hlen
          obtain ⟨W1, hW1⟩ : ∃ W1, wr.alloc (.cells #[.int .i64 4, .int .i64 (v : Int)] 59) = W1 := ⟨_, rfl⟩
          have hz1 : wr.heap.size < W1.heap.size := by rw [← hW1]; simp
          have q0 : W1.cell? ⟨wr.heap.size, 0, none⟩ = some (.int .i64 4) := by rw [← hW1, cell_of_row _ _ _ _ _ _ (heap_alloc_new wr _)]; rfl
          have q1 : W1.cell? ⟨wr.heap.size, 1, none⟩ = some (.int .i64 (v : Int)) := by rw [← hW1, cell_of_row _ _ _ _ _ _ (heap_alloc_new wr _)]; rfl
          rw [hW1] at HB2 ⊢
          clear hW1
          have HS : Hid (∀ v', Below W1.heap.size W1 v' → v'.cell? ⟨wr.heap.size, 0, none⟩ = some (.int .i64 4) ∧ v'.cell? ⟨wr.heap.size, 1, none⟩ = some (.int .i64 (v : Int))) := fun v' hv' => ⟨(hv'.cell (p := ⟨wr.heap.size, 0, none⟩) hz1).trans q0, (hv'.cell (p := ⟨wr.heap.size, 1, none⟩) hz1).trans q1⟩
          have HBD : Hid (Below W1.heap.size W1 W1.drew) := (Below.refl _ _).drew
          go_region_held3 (fun v' => v'.cell? ⟨wr.heap.size, 0, none⟩ = some (.int .i64 4) ∧ v'.cell? ⟨wr.heap.size, 1, none⟩ = some (.int .i64 (v : Int))) (first | assumption | exact ⟨q0, q1⟩)
            (first
            | (go_at_call 29; (with_reducible refine (l17Dec_one v (by omega) W1.drew).mono ?_); rintro f w2 ⟨rfl, hA⟩; rw [HDD.out]; have hA2 := HBD.out.trans hA; have hS1 := HS.out _ hA2)
            | fail)
          all_goals
            have HB3 := Lib.hid (HB2.out.trans (hA2.mono HB2.out.size))
            clear hA hA2 hS1 q0 q1
            go_wp2_with fail
            go_roundw
            case rel => exact ⟨k + 1, by omega, by go_num, by rw [HE.out]; exact congrArg Value.string (by rw [← HT2.out]; rw [cut_brwo.2.2.2, cat_arr, cat_arr]; simp), HG2.out, HB3.out⟩
            case measure => simp [intOf]; omega
        · have hk0 : k = 0 := by omega
          have HE : Hid (ftT es (k + 1) = t ++ ((111 : UInt8) :: dd)) := by
            have : ftT es (k + 1) = t ++ ((111 : UInt8) :: dd) := by
              rw [HFT.out, HT.out, if_pos hk0]
              unfold evTxt
              rw [show ((v : Int)).toNat = v from by simp, HDD.out]
              simp [evByte]
            exact this
          clear HFT
          have hl7 : ¬ 9223372036854775807 < t.length + 1 := by omega
          have hl11 : ¬ 9223372036854775807 < t.length + 1 + dd.length := by omega
          clear hk0 hlen
          obtain ⟨W1, hW1⟩ : ∃ W1, wr.alloc (.cells #[.int .i64 4, .int .i64 (v : Int)] 59) = W1 := ⟨_, rfl⟩
          have hz1 : wr.heap.size < W1.heap.size := by rw [← hW1]; simp
          have q0 : W1.cell? ⟨wr.heap.size, 0, none⟩ = some (.int .i64 4) := by rw [← hW1, cell_of_row _ _ _ _ _ _ (heap_alloc_new wr _)]; rfl
          have q1 : W1.cell? ⟨wr.heap.size, 1, none⟩ = some (.int .i64 (v : Int)) := by rw [← hW1, cell_of_row _ _ _ _ _ _ (heap_alloc_new wr _)]; rfl
          rw [hW1] at HB2 ⊢
          clear hW1
          have HS : Hid (∀ v', Below W1.heap.size W1 v' → v'.cell? ⟨wr.heap.size, 0, none⟩ = some (.int .i64 4) ∧ v'.cell? ⟨wr.heap.size, 1, none⟩ = some (.int .i64 (v : Int))) := fun v' hv' => ⟨(hv'.cell (p := ⟨wr.heap.size, 0, none⟩) hz1).trans q0, (hv'.cell (p := ⟨wr.heap.size, 1, none⟩) hz1).trans q1⟩
          have HBD : Hid (Below W1.heap.size W1 W1.drew) := (Below.refl _ _).drew
          go_region_held3 (fun v' => v'.cell? ⟨wr.heap.size, 0, none⟩ = some (.int .i64 4) ∧ v'.cell? ⟨wr.heap.size, 1, none⟩ = some (.int .i64 (v : Int))) (first | assumption | exact ⟨q0, q1⟩)
            (first
            | (go_at_call 29; (with_reducible refine (l17Dec_one v (by omega) W1.drew).mono ?_); rintro f w2 ⟨rfl, hA⟩; rw [HDD.out]; have hA2 := HBD.out.trans hA; have hS1 := HS.out _ hA2)
            | fail)
          all_goals
            have HB3 := Lib.hid (HB2.out.trans (hA2.mono HB2.out.size))
            clear hA hA2 hS1 q0 q1
            go_wp2_with fail
            go_roundw
            case rel => exact ⟨k + 1, by omega, by go_num, by rw [HE.out]; exact congrArg Value.string (by rw [cut_brwo.2.2.2, cat_arr, cat_arr]; simp), HG2.out, HB3.out⟩
            case measure => simp [intOf]; omega
    · obtain rfl : k = n := by omega
      have HA : Hid (ftA es = t) := by
        have : ftA es = t := by rw [ftA_good (by rw [HN.out]; exact HG.out), HN.out, HT.out]
        exact this
      clear H
      go_wp2_with fail
      go_ret
      exact ⟨by rw [HA.out] <;> rfl, HB.out⟩

end Go.Proofs.YtjmfnpljkiobkaaDoor

namespace Go.Proofs.YtjmfnpljkiobkaaDoor
open Go.RowKit
set_option linter.unusedVariables false

/-- A list of pairs as a list of events. -/
def evs (es : List (Int × Int)) : List Ev := es.map fun x => ⟨x.1, x.2⟩
theorem evs_len (es : List (Int × Int)) : (evs es).length = es.length := by simp [evs]
theorem evs_app (es fs : List (Int × Int)) : evs (es ++ fs) = evs es ++ evs fs := by simp [evs]
theorem RowEv.evl {w : World} {base : Nat} {a : Option Addr} {c : Nat} {es : List (Int × Int)} (h : RowEv w base (.slice a es.length c) es) : EvL w (evs es) a c := by
  refine ⟨?_, ?_, fun i x hx => ?_⟩
  · rw [evs_len]
    rcases h.flat.2 with ⟨e1, e2⟩ | ⟨g, cap, cur, e1, _, _, hn, hm, _⟩
    · injection e1 with _ _ e3; omega
    · injection e1 with _ _ e3; rw [e3]; exact hn
  · rcases h.flat.2 with ⟨e1, e2⟩ | ⟨g, cap, cur, e1, _, _, hn, hm, _⟩
    · injection e1 with _ _ e3; rw [e3]; unfold maxLen; omega
    · injection e1 with _ _ e3; rw [e3]; exact hm
  · obtain ⟨y, hy, rfl⟩ : ∃ y, es[i]? = some y ∧ (⟨y.1, y.2⟩ : Ev) = x := by
      unfold evs at hx
      rw [List.getElem?_map] at hx
      cases he : es[i]? with
      | none => rw [he] at hx; cases hx
      | some y => rw [he] at hx; exact ⟨y, rfl, by simpa using hx⟩
    obtain ⟨b, e, h1, h2, h3, h4⟩ := h.at i y hy
    exact ⟨b, 0, e, h2, by rw [Nat.zero_add]; exact h3, by rw [Nat.zero_add]; exact h4⟩

/-! The text of two traces. -/
theorem ftT_left (es fs : List Ev) : ∀ k, k ≤ es.length → ftT (es ++ fs) k = ftT es k
  | 0, _ => rfl
  | k + 1, h => by
    have e : (es ++ fs).getD k ⟨0, 0⟩ = es.getD k ⟨0, 0⟩ := by
      simp only [List.getD]
      rw [List.getElem?_append_left (by omega)]
    rw [ftT, ftT, ftT_left es fs k (by omega), e]
theorem ftT_right (es fs : List Ev) (hn : 0 < es.length) : ∀ m, ftT (es ++ fs) (es.length + (m + 1)) = ftT es es.length ++ [32] ++ ftT fs (m + 1)
  | 0 => by
    have e : (es ++ fs).getD es.length ⟨0, 0⟩ = fs.getD 0 ⟨0, 0⟩ := by
      simp only [List.getD]
      rw [List.getElem?_append_right (Nat.le_refl _), Nat.sub_self]
    show ftT (es ++ fs) (es.length + 1) = _
    rw [ftT, if_neg (by omega), e, ftT_left es fs _ (Nat.le_refl _), ftT, ftT, if_pos rfl]
    simp
  | m + 1 => by
    have e : (es ++ fs).getD (es.length + (m + 1)) ⟨0, 0⟩ = fs.getD (m + 1) ⟨0, 0⟩ := by
      simp only [List.getD]
      rw [List.getElem?_append_right (by omega), show es.length + (m + 1) - es.length = m + 1 by omega]
    rw [show es.length + (m + 1 + 1) = es.length + (m + 1) + 1 by omega, ftT, if_neg (by omega), e, ftT_right es fs hn m, ftT.eq_2 fs (m + 1), if_neg (by omega)]
    simp
theorem ftA_ne {es : List Ev} (h : ftA es ≠ []) : es.all okEv = true ∧ 0 < es.length ∧ ftA es = ftT es es.length := by
  unfold ftA at h ⊢
  by_cases ha : es.all okEv = true
  · rw [if_pos ha] at h ⊢
    refine ⟨ha, ?_, rfl⟩
    cases es with
    | nil => exact absurd rfl h
    | cons x xs => simp
  · rw [if_neg ha] at h; exact absurd rfl h
theorem ftA_app {es fs : List Ev} (h1 : ftA es ≠ []) (h2 : ftA fs ≠ []) : ftA (es ++ fs) = ftA es ++ [32] ++ ftA fs := by
  obtain ⟨a1, n1, e1⟩ := ftA_ne h1
  obtain ⟨a2, n2, e2⟩ := ftA_ne h2
  rw [e1, e2]
  unfold ftA
  rw [if_pos (by rw [List.all_append, a1, a2]; rfl), List.length_append]
  obtain ⟨m, hm⟩ : ∃ m, fs.length = m + 1 := ⟨fs.length - 1, by omega⟩
  rw [hm]
  exact ftT_right es fs n1 m

/-! The first event written anew. -/
theorem RowEv.set0 {u : World} {base g c n : Nat} {x : Int × Int} {es : List (Int × Int)} (h : RowEv u base (.slice (some ⟨g, 0, none⟩) n c) (x :: es)) (k z : Int) : RowEv ((u.setCell ⟨g, 0, none⟩ (.int .i64 k)).setCell ⟨g, 1, none⟩ (.int .i64 z)) base (.slice (some ⟨g, 0, none⟩) n c) ((k, z) :: es) := by
  refine RowEv.ofFlat ?_
  have hf := h.flat
  refine ⟨by rw [flatE_len], ?_⟩
  rcases hf.2 with ⟨e1, _⟩ | ⟨g', cap, cur, e1, h2, h3, h4, h5, h6, h7⟩
  · cases e1
  · cases e1
    refine .inr ⟨g, c, (cur.setIfInBounds 0 (.int .i64 k)).setIfInBounds 1 (.int .i64 z), rfl, h2, ?_, h4, h5, by simp [h6], ?_⟩
    · exact heap_setCell_same _ g 1 _ _ _ (heap_setCell_same _ g 0 _ _ _ h3)
    · obtain ⟨l⟩ := cur
      rw [flatE_cons] at h7 ⊢
      match l, h7 with
      | [], h7 => simp at h7
      | [y], h7 =>
        have h8 := congrArg List.length h7
        simp at h8
        omega
      | y0 :: y1 :: r, h7 =>
        have e : (x :: es).length * 2 = es.length * 2 + 1 + 1 := by simp; omega
        have e' : ((k, z) :: es).length * 2 = es.length * 2 + 1 + 1 := by simp; omega
        rw [e] at h7
        rw [e']
        simp only [List.take_succ_cons, List.cons.injEq] at h7
        simp [h7.2.2]

theorem RowEv.low {u : World} {base b' : Nat} {v : Value} {es : List (Int × Int)} (h : RowEv u base v es) (hb : b' ≤ base) : RowEv u b' v es := by
  refine RowEv.ofFlat ⟨h.flat.1, ?_⟩
  rcases h.flat.2 with h1 | ⟨g, cap, cur, e1, h2, h3⟩
  · exact .inl h1
  · exact .inr ⟨g, cap, cur, e1, Nat.le_trans hb h2, h3⟩

/-- A list of events has been drawn. -/
def DrTF (w : World) (f : Ending) (w' : World) : Prop := ∃ (es : List (Int × Int)) (a : Option Addr) (c : Nat), f = .returned (.slice a es.length c) ∧ RowEv w' w.heap.size (.slice a es.length c) es ∧ es.length ≤ 22453200 ∧ Below w.heap.size w w'

set_option maxRecDepth 100000 in
set_option maxHeartbeats 4000000 in
theorem drFormatTrace (a : Option Addr) (len cap : Nat) (zs : List Int) (w : World) (hrow : IsRow .u8 w a len cap zs) : Calls Tryd.prog 6 #[.slice a len cap] w (DrTF w) := by
  have HROW := Lib.hid hrow
  clear hrow
  go_enter Tryd.func6, Tryd.ntmps6
  go_wp2_with fail
  with_reducible refine (open_one a len cap zs w HROW.out).mono ?_
  rintro f u0 ⟨a', len', cap', rfl, hb0, hr0⟩
  have hr0' : RdU u0 w.heap.size 0 := ⟨a', len', cap', 0, hr0, Nat.le_refl _⟩
  have HR0 := Lib.hid hr0'
  have HB0 := Lib.hid hb0
  have hlt0 := hr0'.lt
  clear hr0 hr0' hb0
  go_wp2_with fail
  with_reducible refine (l3Trace_one w.heap.size 0 u0 HR0.out (by omega)).mono ?_
  rintro f u1 ⟨ta, tc, es, rfl, hre, hen, hr1, ho1, hb1⟩
  have hz1 := hb1.size
  have HB1 := Lib.hid (HB0.out.trans hb1)
  have HR1 := Lib.hid hr1
  have HO1 := Lib.hid ho1
  have HRE := Lib.hid hre
  clear hre hr1 ho1 hb1
  have HOLD : Hid (DrTF w (.returned (.slice ta es.length tc)) u1) := ⟨es, ta, tc, rfl, HRE.out.low (by omega), hen, HB1.out⟩
  by_cases hn : es.length = 0
  · rw [hn] at HOLD ⊢
    go_wp2_with fail
    go_ret
    exact HOLD.out
  obtain ⟨x, tl, rfl⟩ : ∃ x tl, es = x :: tl := by
    cases es with
    | nil => exact absurd rfl hn
    | cons x tl => exact ⟨x, tl, rfl⟩
  obtain ⟨en, henq⟩ : ∃ en, (x :: tl).length = en := ⟨_, rfl⟩
  obtain ⟨g, rfl, hgb, hcur⟩ : ∃ g, ta = some ⟨g, 0, none⟩ ∧ u0.heap.size ≤ g ∧ ∃ cur, u1.heap[g]? = some (.cells cur 59 (0, 0)) ∧ 2 ≤ cur.size := by
    rcases HRE.out.flat.2 with ⟨e1, e2⟩ | ⟨g, cp, cur, e1, h2, h3, h4, h5, h6, _⟩
    · exact absurd e2 hn
    · cases e1
      exact ⟨g, rfl, h2, cur, h3, by rw [h6]; have h4' : (x :: tl).length ≤ tc := h4; simp at h4'; omega⟩
  rw [henq] at hn hen HOLD HRE ⊢
  have HEN := Lib.hid henq
  have HCUR := Lib.hid hcur
  have hpos : 0 < en := by omega
  clear henq hcur
  go_wp2_with fail
  with_reducible refine (pickU w.heap.size 6000100 12 u1 (HR1.out.mono (by omega)) (by omega) (by omega) (by omega)).mono ?_
  rintro f u2 ⟨v, ⟨hv0, hv4⟩, rfl, hr2, ho2, hb2⟩
  have HR2 := Lib.hid hr2
  have HRE2 : Hid (RowEv u2 u0.heap.size (.slice (some ⟨g, 0, none⟩) en tc) (x :: tl)) := HRE.out.stand fun j hj hj' => ho2.2 j hj' (by have h9 : g = j := (by cases hj; rfl); omega)
  have hg1 : g < u1.heap.size := by obtain ⟨cur, h1, _⟩ := HCUR.out; exact (Array.getElem?_eq_some_iff.1 h1).1
  have HB2 := Lib.hid (HB1.out.trans hb2)
  have HBL2 : Hid (DrTF w (.returned (.slice (some ⟨g, 0, none⟩) en tc)) u2) := ⟨x :: tl, some ⟨g, 0, none⟩, tc, by rw [HEN.out], by rw [HEN.out]; exact HRE2.out.low (by omega), by rw [HEN.out]; exact hen, HB2.out⟩
  have HCUR2 : Hid (∃ cur, u2.heap[g]? = some (.cells cur 59 (0, 0)) ∧ 2 ≤ cur.size) := by
    obtain ⟨cur, h1, h2⟩ := HCUR.out
    exact ⟨cur, (ho2.2 g hg1 (by omega)).trans h1, h2⟩
  have hs2 := ho2.1
  clear hr2 ho2 hb2 HOLD HRE HCUR HR1 HB1
  by_cases h0 : v = 0
  · subst h0
    go_wp2_with fail
    with_reducible refine (pickU w.heap.size 6000101 6 u2 (HR2.out.mono (by omega)) (by omega) (by omega) (by omega)).mono ?_
    rintro f u3 ⟨kd, ⟨hk0, hk6⟩, rfl, hr3, ho3, hb3⟩
    obtain ⟨W, hW⟩ : ∃ W, u3.alloc (.cells #[.int .i64 (-1), .int .i64 256, .int .i64 0] 3) = W := ⟨_, rfl⟩
    have HL2 : Hid (∀ i, i < 3 → W.cell? ⟨u3.heap.size, 0 + i, none⟩ = some (.int .i64 (([-1, 256, 0] : List Int).getD i 0))) := by
      rw [← hW]; exact lit_cells u3 [-1, 256, 0] _
    have hO3 : Oth w.heap.size u2 W := by rw [← hW]; exact ho3.alloc _
    have hB3 : Below w.heap.size u2 W := by rw [← hW]; exact hb3.alloc (Nat.le_of_lt hr3.lt) _
    have HR3 : Hid (RdU W w.heap.size (6000101 + 1)) := by rw [← hW]; exact hr3.alloc _
    have HW := Lib.hid hW
    have HO3 := Lib.hid hO3
    have HB3 := Lib.hid hB3
    have hs3 := ho3.1
    clear hr3 ho3 hb3 hW hO3 hB3
    go_wp2_with (first | rw [HW.out] | fail)
    with_reducible refine (numU w.heap.size (6000101 + 1) u3.heap.size 0 3 3 [-1, 256, 0] W HR3.out (by omega) (by omega) rfl (by omega) (by omega) HL2.out).mono ?_
    rintro f u4 ⟨z, _, rfl, hr4, ho4, hb4⟩
    have hO4 : Oth w.heap.size u2 u4 := HO3.out.trans ho4
    have hre4 : RowEv u4 u0.heap.size (.slice (some ⟨g, 0, none⟩) en tc) (x :: tl) := HRE2.out.stand fun j hj hj' => hO4.2 j hj' (by have h9 : g = j := (by cases hj; rfl); omega)
    obtain ⟨cur, hc1, hc2⟩ : ∃ cur, u4.heap[g]? = some (.cells cur 59 (0, 0)) ∧ 2 ≤ cur.size := by
      obtain ⟨cur, h1, h2⟩ := HCUR2.out
      exact ⟨cur, (hO4.2 g (by omega) (by omega)).trans h1, h2⟩
    have f0 := frozen_at hc1 0
    have f1 := frozen_at hc1 1
    obtain ⟨y0, hy0⟩ := cell_ex hc1 0 (by omega)
    obtain ⟨y1, hy1⟩ := cell_ex hc1 1 (by omega)
    have HFIN : Hid (DrTF w (.returned (.slice (some ⟨g, 0, none⟩) en tc)) ((u4.setCell ⟨g, 0, none⟩ (.int .i64 kd)).setCell ⟨g, 1, none⟩ (.int .i64 z))) := by
      have h8 : ((kd, z) :: tl).length = en := by rw [← HEN.out]; rfl
      have hb5 : Below w.heap.size w ((u4.setCell ⟨g, 0, none⟩ (.int .i64 kd)).setCell ⟨g, 1, none⟩ (.int .i64 z)) := ((HB2.out.trans (HB3.out.trans hb4)).setCell (p := ⟨g, 0, none⟩) (by show _ ≤ g; omega) _).setCell (p := ⟨g, 1, none⟩) (by show _ ≤ g; omega) _
      exact ⟨(kd, z) :: tl, some ⟨g, 0, none⟩, tc, by rw [h8], by rw [h8]; exact (hre4.set0 kd z).low (by omega), by rw [h8]; exact hen, hb5⟩
    clear hr4 ho4 hb4 hO4 hre4 hc1 HRE2 HCUR2 HBL2 HB2 HB3 HO3 HW HL2
    go_wp2_with fail
    go_ret
    exact HFIN.out
  · go_wp2_with fail
    go_ret
    exact HBL2.out

end Go.Proofs.YtjmfnpljkiobkaaDoor

namespace Go.Proofs.YtjmfnpljkiobkaaDoor
open Go.RowKit Go.Shelf

theorem infoByte : (Tryd.prog.info? 5).map (fun i => (i.zero, i.size, i.bytes)) = some (some (.int .u8 0), 1, 1) := by kernel_rfl
abbrev xb := Tryd.Builder_Extra_169

set_option maxHeartbeats 1000000 in
set_option maxRecDepth 100000 in
theorem check_used (b : Nat) (w : World) (h0 : w.cell? ⟨b, 0, none⟩ = some (.pointer (some ⟨b, 0, none⟩))) :
    Calls Tryd.prog 48 #[.pointer (some ⟨b, 0, none⟩)] w fun e w' => e = .returned (.tuple #[]) ∧ w' = w := by
  obtain ⟨j, hj, _⟩ := Option.map_eq_some_iff.1 xb.sizeBuilder
  go_enter Tryd.func48, Tryd.ntmps48
  go_wp2
  rw [Lib.run_neq_ptr_same w _ Tryd.underlying60 hj]
  go_wp2
  go_end0
  exact ⟨rfl, rfl⟩

set_option maxHeartbeats 1000000 in
set_option maxRecDepth 100000 in
theorem check_fresh (b : Nat) (w : World) (h0 : w.cell? ⟨b, 0, none⟩ = some (.pointer none)) (hsh : w.shape? b = some (62, 2)) (hfz : w.frozen? ⟨b, 0, none⟩ = false) :
    Calls Tryd.prog 48 #[.pointer (some ⟨b, 0, none⟩)] w fun e w' => e = .returned (.tuple #[]) ∧ w' = w.setCell ⟨b, 0, none⟩ (.pointer (some ⟨b, 0, none⟩)) := by
  obtain ⟨j, hj, hjs⟩ := Option.map_eq_some_iff.1 xb.sizeBuilder
  go_enter Tryd.func48, Tryd.ntmps48
  go_wp2
  rw [Lib.run_to_unsafe w ⟨b, 0, none⟩ Tryd.underlying60 Tryd.underlying113 hj (by rw [hjs]; decide) hsh (Nat.zero_lt_succ 1)]
  simp only [Result.andThen]
  rw [Oper.upon_value]
  go_wp2
  rw [run_callFunc_extern Tryd.func67 (by kernel_rfl) (by kernel_rfl) (by kernel_rfl) (e := Extern.AbiNoEscape.same) (by kernel_rfl)]
  rw [Lib.run_noEscape]
  simp only [Result.andThen]
  rw [Oper.upon_value]
  go_wp2
  rw [Lib.run_from_unsafe w ⟨b, 0, none⟩ Tryd.underlying113 Tryd.underlying60 hj hsh xb.liesBuilder]
  simp only [Result.andThen]
  rw [Oper.upon_value]
  go_wp2
  go_end0
  exact ⟨rfl, rfl⟩

theorem check_k (B b : Nat) (bs : List Value) (w : World) (h : Lib.IsBuilderF 62 5 B b bs w) :
    Calls Tryd.prog 48 #[.pointer (some ⟨b, 0, none⟩)] w fun e w' => e = .returned (.tuple #[]) ∧ (Lib.BuilderAtF 62 5 B b (.pointer (some ⟨b, 0, none⟩)) bs w' ∧ Below B w w' ∧ Lib.OthersKept 5 (some b) w w') := by
  rcases h with h | h
  · refine (check_fresh b w h.cell0 h.shape h.frozen0).mono ?_
    rintro e w' ⟨rfl, rfl⟩
    exact ⟨rfl, h.used _, (Below.refl B w).setCell (p := ⟨b, 0, none⟩) h.1 _, (Lib.OthersKept.refl _ _ w).setCell ⟨b, 0, none⟩ rfl _⟩
  · refine (check_used b w h.cell0).mono ?_
    rintro e w' ⟨rfl, rfl⟩
    exact ⟨rfl, h, Below.refl B _, Lib.OthersKept.refl _ _ _⟩

set_option maxHeartbeats 2000000 in
set_option maxRecDepth 100000 in
theorem writeByte_k (B b : Nat) (bs : List Value) (c : Int) (w : World) (h : Lib.IsBuilderF 62 5 B b bs w) (hlen : bs.length + 1 ≤ 140737488355328) (hBw : B ≤ w.heap.size) :
    Calls Tryd.prog 25 #[.pointer (some ⟨b, 0, none⟩), .int .u8 c] w fun e w' => e = .returned .nilIface ∧ (Lib.BuilderAtF 62 5 B b (.pointer (some ⟨b, 0, none⟩)) (bs ++ [.int .u8 c]) w' ∧ Below B w w' ∧ Lib.OthersKept 5 (some b) w w') := by
  obtain ⟨i0, hi, hz0, hz1, hz2⟩ := info_parts infoByte
  go_enter Tryd.func25, Tryd.ntmps25
  go_wp2_with (go_at_call 48; refine (check_k B b bs _ h).mono ?_)
  rintro e w1 ⟨rfl, h1, hb1, hk1⟩
  obtain ⟨hB, v, hbk, hown, hne⟩ := h1
  have hs1 := hb1.size
  have c0 : w1.cell? ⟨b, 0, none⟩ = some (.pointer (some ⟨b, 0, none⟩)) := by rw [Lib.cell_of_heap hbk]; rfl
  have c1 : w1.cell? ⟨b, 1, none⟩ = some v := by rw [Lib.cell_of_heap hbk]; rfl
  go_wp2_with (at_builtin; refine wpList_append_ownF _ rfl _ _ 22 rfl B 5 i0 (.int .u8 0) 1 1 Tryd.underlying22 hi hz0 hz1 hz2 rfl (by decide) _ _ _ rfl (hown.alloc _) ⟨w1.heap.size, 0, none⟩ 1 1 [.int .u8 c] rfl rfl ?c1 ?c2 ?c3 ?c4 ?c5 ?_)
  case c1 =>
    intro j u hj
    match j, hj with
    | 0, hj => simp at hj; subst hj; simp [Addr.add]
  case c2 => intro u hu; simp at hu; subst hu; rfl
  case c3 => unfold maxLen; omega
  case c4 => omega
  case c5 => simp; omega
  intro v' w2 hown' hgrow _
  have hlt : b < w1.heap.size := by
    rcases Nat.lt_or_ge b w1.heap.size with h' | h'
    · exact h'
    · simp [Array.getElem?_eq_none h'] at hbk
  have hb2 : w2.heap[b]? = some (.cells #[.pointer (some ⟨b, 0, none⟩), v] 62 (0, 0)) := by
    rw [hgrow.block b (by simp; omega) (fun e => hne e.symm), Lib.alloc_old w1 _ b hlt]
    exact hbk
  have d0 : w2.cell? ⟨b, 0, none⟩ = some (.pointer (some ⟨b, 0, none⟩)) := by rw [Lib.cell_of_heap hb2]; rfl
  have d1 : w2.cell? ⟨b, 1, none⟩ = some v := by rw [Lib.cell_of_heap hb2]; rfl
  have f1 : w2.frozen? ⟨b, 1, none⟩ = false := Lib.frozen_of_heap hb2 1
  obtain ⟨g, cap, rfl⟩ : ∃ g cap, v' = .slice (some ⟨g, 0, none⟩) (bs.length + 1) cap := by
    rcases hown'.2 with ⟨_, h0⟩ | ⟨g, cap, cur, fz, hv, _⟩
    · omega
    · exact ⟨g, cap, hv⟩
  go_wp2
  go_ret
  refine ⟨rfl, ?_, ?_, ((hk1.alloc _).grown hgrow (Lib.ownsRowF_kind (hown.alloc _))).setCell ⟨b, 1, none⟩ rfl _⟩
  · exact Lib.BuilderAtF.put (T := 62) (e := 5) hB hb2 (bs' := bs ++ [.int .u8 c]) (by simpa using hown') (by decide)
  · exact ((hb1.alloc (by omega) _).grown hgrow (by simp; omega) (fun k hk => (hown.lt k hk).1)).setCell (p := ⟨b, 1, none⟩) hB _

end Go.Proofs.YtjmfnpljkiobkaaDoor

namespace Go.Proofs.YtjmfnpljkiobkaaDoor
open Go.RowKit Go.Shelf

set_option maxHeartbeats 2000000 in
set_option maxRecDepth 100000 in
theorem writeString_k (B b : Nat) (bs : List Value) (s : ByteArray) (w : World) (h : Lib.IsBuilderF 62 5 B b bs w) (hlen : bs.length + s.size ≤ 140737488355328) (hBw : B ≤ w.heap.size) :
    Calls Tryd.prog 26 #[.pointer (some ⟨b, 0, none⟩), .string s] w fun e w' => e = .returned (.tuple #[.int .i64 s.size, .nilIface]) ∧ (Lib.BuilderAtF 62 5 B b (.pointer (some ⟨b, 0, none⟩)) (bs ++ Lib.strCells s) w' ∧ Below B w w' ∧ Lib.OthersKept 5 (some b) w w') := by
  obtain ⟨i0, hi, hz0, hz1, hz2⟩ := info_parts infoByte
  go_enter Tryd.func26, Tryd.ntmps26
  go_wp2_with (go_at_call 48; refine (check_k B b bs _ h).mono ?_)
  rintro e w1 ⟨rfl, h1, hb1, hk1⟩
  obtain ⟨hB, v, hbk, hown, hne⟩ := h1
  have hs1 := hb1.size
  have c0 : w1.cell? ⟨b, 0, none⟩ = some (.pointer (some ⟨b, 0, none⟩)) := by rw [Lib.cell_of_heap hbk]; rfl
  have c1 : w1.cell? ⟨b, 1, none⟩ = some v := by rw [Lib.cell_of_heap hbk]; rfl
  go_wp2_with (at_builtin; refine Lib.wpList_append_own_stringF _ rfl _ _ 22 9 rfl B 5 i0 Tryd.underlying22 Tryd.underlying9 hi hz0 hz1 hz2 _ _ _ rfl hown s rfl ?c3 ?c4 ?c5 ?_)
  case c3 => unfold maxLen; omega
  case c4 => omega
  case c5 => omega
  intro v' w2 hown' hgrow _
  have hlt : b < w1.heap.size := by
    rcases Nat.lt_or_ge b w1.heap.size with h' | h'
    · exact h'
    · simp [Array.getElem?_eq_none h'] at hbk
  have hb2 : w2.heap[b]? = some (.cells #[.pointer (some ⟨b, 0, none⟩), v] 62 (0, 0)) := by
    rw [hgrow.block b hlt (fun e => hne e.symm)]
    exact hbk
  have d0 : w2.cell? ⟨b, 0, none⟩ = some (.pointer (some ⟨b, 0, none⟩)) := by rw [Lib.cell_of_heap hb2]; rfl
  have d1 : w2.cell? ⟨b, 1, none⟩ = some v := by rw [Lib.cell_of_heap hb2]; rfl
  have f1 : w2.frozen? ⟨b, 1, none⟩ = false := Lib.frozen_of_heap hb2 1
  obtain ⟨ao, n', cap, rfl⟩ : ∃ ao n' cap, v' = .slice ao n' cap := by
    rcases hown'.2 with ⟨hv, _⟩ | ⟨g, cap, cur, fz, hv, _⟩
    · exact ⟨_, _, _, hv⟩
    · exact ⟨_, _, _, hv⟩
  go_wp2
  go_ret2
  refine ⟨rfl, ?_, ?_, (hk1.grown hgrow (Lib.ownsRowF_kind hown)).setCell ⟨b, 1, none⟩ rfl _⟩
  · exact Lib.BuilderAtF.put (T := 62) (e := 5) hB hb2 (bs' := bs ++ Lib.strCells s) (by simpa [Lib.strCells_length] using hown') (by decide)
  · exact (hb1.grown hgrow (by omega) (fun k hk => (hown.lt k hk).1)).setCell (p := ⟨b, 1, none⟩) hB _

end Go.Proofs.YtjmfnpljkiobkaaDoor

namespace Go.Proofs.YtjmfnpljkiobkaaDoor
open Go.RowKit Go.Shelf
set_option linter.unusedVariables false

theorem bld_kept {W W' : World} {B b : Nat} {bs : List Value} (h : Lib.IsBuilderF 62 5 B b bs W) (hg : W.grownBy W' none) : Lib.IsBuilderF 62 5 B b bs W' := by
  have key : ∀ p, Lib.BuilderAtF 62 5 B b p bs W → Lib.BuilderAtF 62 5 B b p bs W' := by
    rintro p ⟨hB, v, hb, hown, hne⟩
    have hlt : b < W.heap.size := (Array.getElem?_eq_some_iff.1 hb).1
    refine ⟨hB, v, ?_, hown.kept hg ?_, hne⟩
    · exact (hg.block b hlt fun e => by cases e).trans hb
    · cases hv : v.ownBlock with
      | none => exact .inl rfl
      | some g => exact .inr fun e => by cases e
  exact h.elim (fun x => .inl (key _ x)) (fun x => .inr (key _ x))

/-- The tables, as the program's text lays them. -/
def TabsE (w : World) : Prop := Lib.TabIs Tryd.prog w "internal/strconv.uint64pow10" .u64 Lib.pow10Tab ∧
  (∀ kd : Int, (kd = 1 ∨ kd = 2 ∨ kd = 3 ∨ kd = 4) → w.cell? ⟨0, kd.toNat, none⟩ = some (.int .u8 (evByte kd).toNat)) ∧ 4 ≤ w.heap.size

theorem TabsE.below {w w' : World} (h : TabsE w) {B : Nat} (hb : Below B w w') (hB : 4 ≤ B) : TabsE w' := by
  refine ⟨?_, fun kd hk => (hb.cell (p := ⟨0, kd.toNat, none⟩) (show 0 < B by omega)).trans (h.2.1 kd hk), Nat.le_trans h.2.2 hb.size⟩
  have h1 := h.1
  have hg : Tryd.prog.globalNamed "internal/strconv.uint64pow10" = some 2 := by kernel_rfl
  unfold Lib.TabIs World.var? at h1 ⊢
  rw [hg] at h1 ⊢
  simp only [Option.bind_some] at h1 ⊢
  rw [hb.block 2 (by omega)]
  exact h1

theorem isVal_one (n : Int) (w : World) : Calls Tryd.prog 24 #[.int .i64 n] w fun e w' => e = .returned (.bool (decide (0 ≤ n) && decide (n ≤ 255))) ∧ w' = w := by
  by_cases h0 : 0 ≤ n
  · by_cases h1 : n ≤ 255
    · have e0 : decide (0 ≤ n) = true := decide_eq_true h0
      have e1 : decide (n ≤ 255) = true := decide_eq_true h1
      go_enter Tryd.func24, Tryd.ntmps24
      go_wp2
      go_ret
      exact ⟨by rw [e0, e1]; rfl, rfl⟩
    · have e0 : decide (0 ≤ n) = true := decide_eq_true h0
      have e1 : decide (n ≤ 255) = false := decide_eq_false h1
      go_enter Tryd.func24, Tryd.ntmps24
      go_wp2
      go_ret
      exact ⟨rfl, rfl⟩
  · have e0 : decide (0 ≤ n) = false := decide_eq_false h0
    go_enter Tryd.func24, Tryd.ntmps24
    go_wp2
    go_ret
    exact ⟨rfl, rfl⟩

/-- An event's box. -/
def BoxEv (w : World) (b : Nat) (x : Ev) : Prop := w.heap[b]? = some (.cells #[.int .i64 x.kind, .int .i64 x.value] 59 (0, 0))
theorem BoxEv.c0 {w : World} {b : Nat} {x : Ev} (h : BoxEv w b x) : w.cell? ⟨b, 0, none⟩ = some (.int .i64 x.kind) := by rw [cell_of_row _ _ _ _ _ _ h]; rfl
theorem BoxEv.c1 {w : World} {b : Nat} {x : Ev} (h : BoxEv w b x) : w.cell? ⟨b, 1, none⟩ = some (.int .i64 x.value) := by rw [cell_of_row _ _ _ _ _ _ h]; rfl
theorem BoxEv.kept {w w' : World} {b c : Nat} {x : Ev} (h : BoxEv w c x) (hk : Lib.OthersKept 5 (some b) w w') (hne : c ≠ b) : BoxEv w' c x :=
  hk c _ h (fun e => hne (by cases e; rfl)) (fun cs fz e => by cases e)

theorem byteCells_one1 (c : UInt8) : Lib.byteCells [c] = [.int .u8 (c.toNat : Int)] := rfl

set_option maxRecDepth 100000 in
set_option maxHeartbeats 8000000 in
theorem iFT_one (es : List Ev) (a : Option Addr) (cap : Nat) (w : World) (h : EvL w es a cap) (hs : es.length ≤ 100000000) (hT : TabsE w) :
    Calls Tryd.prog 7 #[.slice a es.length cap] w (Txt (ftA es) w) := by
  obtain ⟨hc, hm, h⟩ := h
  obtain ⟨n, hn⟩ : ∃ n, es.length = n := ⟨_, rfl⟩
  have HN := Lib.hid hn
  rw [hn] at hc hs ⊢
  have H := Lib.hid h
  have h4 := hT.2.2
  have HT := Lib.hid hT
  clear h hn hm hc hT
  have b1 : Hid (Lib.IsBuilderF 62 5 w.heap.size w.heap.size (Lib.byteCells (ftT es 0)) (w.alloc (.cells #[.pointer none, .slice none 0 0] 62))) := by
    have e := heap_alloc_new w (.cells #[.pointer none, .slice none 0 0] 62)
    exact .inl ⟨Nat.le_refl _, .slice none 0 0, e, World.ownsRowF_nil _ _ _ _, by simp [Value.ownBlock]⟩
  have HB0 : Hid (Below w.heap.size w (w.alloc (.cells #[.pointer none, .slice none 0 0] 62))) := (Below.refl _ w).alloc (Nat.le_refl _) _
  go_enter Tryd.func7, Tryd.ntmps7
  go_wp2_with fail
  go_loopw [8] (fun i wr => ∃ k : Nat, k ≤ n ∧ i = .int .i64 k ∧ Hid (GoodTo es k) ∧ Hid (Lib.IsBuilderF 62 5 w.heap.size w.heap.size (Lib.byteCells (ftT es k)) wr) ∧ Below w.heap.size w wr) (fun i _ => n - (intOf i).toNat)
  case atStart => exact ⟨0, Nat.zero_le _, rfl, (fun j x hj => absurd hj (Nat.not_lt_zero _) : GoodTo es 0), b1, HB0.out⟩
  case round =>
    obtain ⟨k, hk, rfl, HG, HBD, hB⟩ := hrel
    have HB := Lib.hid hB
    have hlen := ftT_len k (by rw [HN.out]; exact hk) HG.out
    clear hB b1 HB0
    obtain ⟨t, ht⟩ : ∃ t, ftT es k = t := ⟨_, rfl⟩
    rw [ht] at hlen HBD
    have HTT := Lib.hid ht
    clear ht
    by_cases hlt : k < n
    · obtain ⟨x, hx⟩ : ∃ x, es[k]? = some x := ⟨es[k]'(by rw [HN.out]; exact hlt), List.getElem?_eq_getElem _⟩
      obtain ⟨b, o, rfl, hbl, e0, e1⟩ := H.out k x hx
      have r0 := (HB.out.cell (p := ⟨b, o + k * 2, none⟩) hbl).trans e0
      have r1 := (HB.out.cell (p := ⟨b, o + k * 2 + 1, none⟩) hbl).trans e1
      have HX := Lib.hid hx
      have hsz := HB.out.size
      have HB2 : Hid (Below w.heap.size w (wr.alloc (.cells #[.int .i64 x.kind, .int .i64 x.value] 59))) := HB.out.alloc HB.out.size _
      have HBD2 := Lib.hid (HBD.out.alloc (.cells #[.int .i64 x.kind, .int .i64 x.value] 59))
      have HBX : Hid (BoxEv (wr.alloc (.cells #[.int .i64 x.kind, .int .i64 x.value] 59)) wr.heap.size x) := heap_alloc_new wr _
      have hgt : w.heap.size < wr.heap.size := by
        rcases HBD.out with ⟨_, v, hb, _⟩ | ⟨_, v, hb, _⟩ <;> exact (Array.getElem?_eq_some_iff.1 hb).1
      clear e0 e1 hx H
      rcases okEv_cases (x := x) with ⟨h1, hb⟩ | ⟨h1, h2, hb⟩ | ⟨h1, h2, h3, hb⟩ | ⟨h1, h2, h3, h4', hb⟩ | ⟨hkd, ⟨v, hv, hxv⟩, hb⟩
      · have HA : Hid (ftA es = []) := ftA_bad HX.out hb
        clear hb
        go_wp2_with fail
        go_ret
        exact ⟨by rw [HA.out] <;> rfl, HB2.out⟩
      · have HA : Hid (ftA es = []) := ftA_bad HX.out hb
        clear hb
        go_wp2_with fail
        go_ret
        exact ⟨by rw [HA.out] <;> rfl, HB2.out⟩
      · have HA : Hid (ftA es = []) := ftA_bad HX.out hb
        have hd : (decide (0 ≤ x.value) && decide (x.value ≤ 255)) = false := by simp; omega
        clear hb
        go_wp2_with fail
        refine (isVal_one x.value _).mono ?_
        rintro e w2 ⟨rfl, rfl⟩
        rw [hd]
        go_wp2_with fail
        go_ret
        exact ⟨by rw [HA.out] <;> rfl, HB2.out⟩
      · have HA : Hid (ftA es = []) := ftA_bad HX.out hb
        have hd : (decide (0 ≤ x.value) && decide (x.value ≤ 255)) = false := by simp; omega
        clear hb
        go_wp2_with fail
        refine (isVal_one x.value _).mono ?_
        rintro e w2 ⟨rfl, rfl⟩
        rw [hd]
        go_wp2_with fail
        go_ret
        exact ⟨by rw [HA.out] <;> rfl, HB2.out⟩
      · have HG2 : Hid (GoodTo es (k + 1)) := HG.out.succ HX.out hb
        have HFT := Lib.hid (ftT_succ HX.out)
        have h1 : 1 ≤ x.kind := by omega
        have h2 : x.kind ≤ 4 := by omega
        have hd : (decide (0 ≤ x.value) && decide (x.value ≤ 255)) = true := by simp; omega
        obtain ⟨kd, vl⟩ := x
        simp only at hxv hkd r0 r1 HB2 HBD2 HBX h1 h2 hd
        obtain ⟨kn, rfl⟩ : ∃ kn : Nat, kd = kn := ⟨kd.toNat, by omega⟩
        subst hxv
        have hkn4 : kn ≤ 4 := by omega
        have hdl := dec_len v hv
        obtain ⟨dd, hdd⟩ : ∃ dd, Lib.decDigits v = dd := ⟨_, rfl⟩
        rw [hdd] at hdl
        have HDD := Lib.hid hdd
        have HKD := Lib.hid hkd
        clear hb hkd hdd
        go_wp2_with fail
        obtain ⟨W1, hW1⟩ : ∃ W1, wr.alloc (.cells #[.int .i64 (kn : Int), .int .i64 (v : Int)] 59) = W1 := ⟨_, rfl⟩
        rw [hW1] at HB2 HBD2 HBX ⊢
        clear hW1
        refine (isVal_one (v : Int) _).mono ?_
        rintro e w2 ⟨rfl, rfl⟩
        rw [hd]
        have q0 := HBX.out.c0
        have hc := (HT.out.below HB2.out h4).2.1 (kn : Int) HKD.out
        rw [show ((kn : Int)).toNat = kn from by simp] at hc
        simp only at q0
        go_wp2_with fail
        · have hk0 : ¬ k = 0 := by omega
          clear q0 hc
          have hsz1 := HB2.out.size
          refine (writeByte_k w.heap.size w.heap.size (Lib.byteCells t) 32 w2 HBD2.out (by rw [Lib.byteCells_length]; omega) hsz1).mono ?_
          rintro e W2 ⟨rfl, hbd2, hb2, hk2⟩
          obtain ⟨t2, ht2⟩ : ∃ t2, t ++ [(32 : UInt8)] = t2 := ⟨_, rfl⟩
          have hlen2 : t2.length ≤ 22 * k + 1 := by rw [← ht2]; simp; omega
          have HBXb := Lib.hid (HBX.out.kept hk2 (by omega))
          have HBb := Lib.hid (HB2.out.trans hb2)
          have HBDb : Hid (Lib.IsBuilderF 62 5 w.heap.size w.heap.size (Lib.byteCells t2) W2) := by
            have : Lib.IsBuilderF 62 5 w.heap.size w.heap.size (Lib.byteCells t2) W2 := by
              rw [← ht2, Lib.byteCells_append]; exact .inr hbd2
            exact this
          have HT2 := Lib.hid ht2
          clear hbd2 hb2 hk2 ht2
          have HE : Hid (ftT es (k + 1) = t ++ ((32 : UInt8) :: evByte (kn : Int) :: dd)) := by
            have : ftT es (k + 1) = t ++ ((32 : UInt8) :: evByte (kn : Int) :: dd) := by
              rw [HFT.out, HTT.out, if_neg hk0]
              unfold evTxt
              rw [show ((v : Int)).toNat = v from by simp, HDD.out]
              simp
            exact this
          clear HFT hk0
          have q0 := HBXb.out.c0
          have hc := (HT.out.below HBb.out h4).2.1 (kn : Int) HKD.out
          rw [show ((kn : Int)).toNat = kn from by simp] at hc
          simp only at q0
          have hszb := HBb.out.size
          go_wp2_with fail
          refine (writeByte_k w.heap.size w.heap.size (Lib.byteCells t2) ((evByte (kn : Int)).toNat : Int) W2 HBDb.out (by rw [Lib.byteCells_length]; omega) hszb).mono ?_
          rintro e W3 ⟨rfl, hbd3, hb3, hk3⟩
          have HBX3 := Lib.hid (HBXb.out.kept hk3 (by omega))
          have HB3 := Lib.hid (HBb.out.trans (hb3.mono (Nat.le_refl _)))
          have HBD3 : Hid (Lib.IsBuilderF 62 5 w.heap.size w.heap.size (Lib.byteCells (t2 ++ [evByte (kn : Int)])) W3) := by
            have : Lib.IsBuilderF 62 5 w.heap.size w.heap.size (Lib.byteCells (t2 ++ [evByte (kn : Int)])) W3 := by
              rw [Lib.byteCells_append]; exact .inr hbd3
            exact this
          have q1 := HBX3.out.c1
          simp only at q1
          have hsz3 := HB3.out.size
          clear hbd3 hb3 hk3 q0 hc
          go_wp2_with fail
          refine (Tryd.strconv_Itoa (v : Int) (by omega) (by omega) W3 (HT.out.below HB3.out h4).1).mono ?_
          rintro e W4' ⟨rfl, kk, os, rfl⟩
          have hb4 := Lib.below_grow W3.heap.size W3 (Nat.le_refl _) kk os
          have hg4 := Lib.grownBy_below (show W3.grownBy W3 none from ⟨rfl, rfl, rfl, Nat.le_refl _, fun _ _ _ => rfl⟩) hb4
          obtain ⟨W4, hW4⟩ : ∃ W4, Sort.grow (W3.drewN kk) os = W4 := ⟨_, rfl⟩
          rw [hW4] at hb4 hg4 ⊢
          rw [Lib.itoa_nonneg v, HDD.out]
          have HBD4 := Lib.hid (bld_kept HBD3.out hg4)
          have HB4 := Lib.hid (HB3.out.trans (hb4.mono hsz3))
          have hsz4 := HB4.out.size
          clear hW4 hb4 hg4 q1
          go_wp2_with fail
          refine (writeString_k w.heap.size w.heap.size (Lib.byteCells (t2 ++ [evByte (kn : Int)])) ⟨dd.toArray⟩ W4 HBD4.out (by rw [Lib.byteCells_length]; simp [ByteArray.size]; omega) hsz4).mono ?_
          rintro e W5 ⟨rfl, hbd5, hb5, hk5⟩
          have HB5 := Lib.hid (HB4.out.trans hb5)
          have HBD5 : Hid (Lib.IsBuilderF 62 5 w.heap.size w.heap.size (Lib.byteCells (ftT es (k + 1))) W5) := by
            have : Lib.IsBuilderF 62 5 w.heap.size w.heap.size (Lib.byteCells (ftT es (k + 1))) W5 := by
              rw [Lib.strCells_toArray, ← Lib.byteCells_append] at hbd5
              rw [HE.out]
              have e : t ++ ((32 : UInt8) :: evByte (kn : Int) :: dd) = t2 ++ [evByte (kn : Int)] ++ dd := by rw [← HT2.out]; simp
              rw [e]
              exact .inr hbd5
            exact this
          clear hbd5 hb5 hk5
          go_wp2_with fail
          go_roundw
          case rel => exact ⟨k + 1, by omega, by go_num, HG2.out, HBD5.out, HB5.out⟩
          case measure => simp [intOf]; omega
        · have hk0 : k = 0 := by omega
          have HBXb := HBX
          have HBb := HB2
          have HBDb := HBD2
          have hlen' : t.length ≤ 22 * n := by omega
          have HE : Hid (ftT es (k + 1) = t ++ (evByte (kn : Int) :: dd)) := by
            have : ftT es (k + 1) = t ++ (evByte (kn : Int) :: dd) := by
              rw [HFT.out, HTT.out, if_pos hk0]
              unfold evTxt
              rw [show ((v : Int)).toNat = v from by simp, HDD.out]
              simp
            exact this
          clear HFT hk0 hlen
          have hszb := HBb.out.size
          refine (writeByte_k w.heap.size w.heap.size (Lib.byteCells t) ((evByte (kn : Int)).toNat : Int) w2 HBDb.out (by rw [Lib.byteCells_length]; omega) hszb).mono ?_
          rintro e W3 ⟨rfl, hbd3, hb3, hk3⟩
          have HBX3 := Lib.hid (HBXb.out.kept hk3 (by omega))
          have HB3 := Lib.hid (HBb.out.trans (hb3.mono (Nat.le_refl _)))
          have HBD3 : Hid (Lib.IsBuilderF 62 5 w.heap.size w.heap.size (Lib.byteCells (t ++ [evByte (kn : Int)])) W3) := by
            have : Lib.IsBuilderF 62 5 w.heap.size w.heap.size (Lib.byteCells (t ++ [evByte (kn : Int)])) W3 := by
              rw [Lib.byteCells_append]; exact .inr hbd3
            exact this
          have q1 := HBX3.out.c1
          simp only at q1
          have hsz3 := HB3.out.size
          clear hbd3 hb3 hk3 q0 hc
          go_wp2_with fail
          refine (Tryd.strconv_Itoa (v : Int) (by omega) (by omega) W3 (HT.out.below HB3.out h4).1).mono ?_
          rintro e W4' ⟨rfl, kk, os, rfl⟩
          have hb4 := Lib.below_grow W3.heap.size W3 (Nat.le_refl _) kk os
          have hg4 := Lib.grownBy_below (show W3.grownBy W3 none from ⟨rfl, rfl, rfl, Nat.le_refl _, fun _ _ _ => rfl⟩) hb4
          obtain ⟨W4, hW4⟩ : ∃ W4, Sort.grow (W3.drewN kk) os = W4 := ⟨_, rfl⟩
          rw [hW4] at hb4 hg4 ⊢
          rw [Lib.itoa_nonneg v, HDD.out]
          have HBD4 := Lib.hid (bld_kept HBD3.out hg4)
          have HB4 := Lib.hid (HB3.out.trans (hb4.mono hsz3))
          have hsz4 := HB4.out.size
          clear hW4 hb4 hg4 q1
          go_wp2_with fail
          refine (writeString_k w.heap.size w.heap.size (Lib.byteCells (t ++ [evByte (kn : Int)])) ⟨dd.toArray⟩ W4 HBD4.out (by rw [Lib.byteCells_length]; simp [ByteArray.size]; omega) hsz4).mono ?_
          rintro e W5 ⟨rfl, hbd5, hb5, hk5⟩
          have HB5 := Lib.hid (HB4.out.trans hb5)
          have HBD5 : Hid (Lib.IsBuilderF 62 5 w.heap.size w.heap.size (Lib.byteCells (ftT es (k + 1))) W5) := by
            have : Lib.IsBuilderF 62 5 w.heap.size w.heap.size (Lib.byteCells (ftT es (k + 1))) W5 := by
              rw [Lib.strCells_toArray, ← Lib.byteCells_append] at hbd5
              rw [HE.out]
              have e : t ++ (evByte (kn : Int) :: dd) = t ++ [evByte (kn : Int)] ++ dd := by simp
              rw [e]
              exact .inr hbd5
            exact this
          clear hbd5 hb5 hk5
          go_wp2_with fail
          go_roundw
          case rel => exact ⟨k + 1, by omega, by go_num, HG2.out, HBD5.out, HB5.out⟩
          case measure => simp [intOf]; omega
    · obtain rfl : k = n := by omega
      have HA : Hid (ftA es = t) := by
        have : ftA es = t := by rw [ftA_good (by rw [HN.out]; exact HG.out), HN.out, HTT.out]
        exact this
      clear H
      go_wp2_with fail
      refine (Tryd.Builder_String_any_k w.heap.size w.heap.size t _ HBD.out HB.out.size).mono ?_
      rintro e w2 ⟨rfl, hbd, hb2, hk2⟩
      have HB2 := Lib.hid (HB.out.trans hb2)
      clear hbd hb2 hk2
      go_wp2_with fail
      go_ret
      exact ⟨by rw [HA.out] <;> rfl, HB2.out⟩

end Go.Proofs.YtjmfnpljkiobkaaDoor

namespace Go.Proofs.YtjmfnpljkiobkaaDoor
open Go.RowKit
set_option linter.unusedVariables false

theorem IsRow.bel {k : IntKind} {w w' : World} {a : Option Addr} {len cap : Nat} {zs : List Int} (h : IsRow k w a len cap zs) (hb : Below w.heap.size w w') : IsRow k w' a len cap zs := by
  rcases h with h | ⟨x, rfl, hlen, hcap, hz, hc, hw⟩
  · exact .inl h
  · exact .inr ⟨x, rfl, hlen, hcap, hz, fun i hi => (World.cell?_of_block (w := w) (hb.block _ (World.block_lt_of_cell? w _ (hc i hi)))).trans (hc i hi), hw⟩

theorem RowEv.some {u : World} {base n c : Nat} {a : Option Addr} {es : List (Int × Int)} (h : RowEv u base (.slice a n c) es) (hn : es.length = n) (hp : 0 < n) : ∃ g, a = some ⟨g, 0, none⟩ ∧ base ≤ g ∧ g < u.heap.size := by
  rcases h.flat.2 with ⟨e1, e2⟩ | ⟨g, cp, cur, e1, h2, h3, _⟩
  · omega
  · cases e1; exact ⟨g, rfl, h2, (Array.getElem?_eq_some_iff.1 h3).1⟩

set_option maxRecDepth 100000 in
set_option maxHeartbeats 4000000 in
theorem law_FnFormatTrace (a : Option Addr) (len cap : Nat) (zs : List Int) (a' : Option Addr) (len' cap' : Nat) (zs' : List Int) (w : World) (hT : TabsE w) (hrow : IsRow .u8 w a len cap zs) (hrow' : IsRow .u8 w a' len' cap' zs') :
    Calls Tryd.prog 3 #[.slice a len cap, .slice a' len' cap'] w (YN true w) := by
  have h4 := hT.2.2
  have HT := Lib.hid hT
  have HROW := Lib.hid hrow
  have HROW' := Lib.hid hrow'
  clear hrow hrow' hT
  go_enter Tryd.func3, Tryd.ntmps3
  by_cases hlen : len > 1048576
  · go_wp2_with fail
    go_ret
    exact YN.of rfl (Below.refl _ _)
  by_cases hlen' : len' > 1048576
  · go_wp2_with fail
    go_ret
    exact YN.of rfl (Below.refl _ _)
  go_wp2_with fail
  with_reducible refine (drFormatTrace a len cap zs w HROW.out).mono ?_
  rintro f w1 ⟨es, ta, tc, rfl, hre, hen, hb1⟩
  have HB1 := Lib.hid hb1
  have HRE := Lib.hid hre
  have HROW2 := Lib.hid (HROW'.out.bel hb1)
  have hs1 := hb1.size
  obtain ⟨en, henq⟩ : ∃ en, es.length = en := ⟨_, rfl⟩
  rw [henq] at hen HRE ⊢
  have HEN := Lib.hid henq
  clear henq hre hb1 HROW HROW'
  go_wp2_with fail
  with_reducible refine (drFormatTrace a' len' cap' zs' w1 HROW2.out).mono ?_
  rintro f w2 ⟨fs, ua, uc, rfl, hrf, hfn, hb2⟩
  have HB2 := Lib.hid (HB1.out.trans (hb2.mono hs1))
  have HRE2 : Hid (RowEv w2 w.heap.size (.slice ta en tc) es) := HRE.out.stand fun g _ hg => hb2.block g hg
  have HRF := Lib.hid (hrf.low hs1)
  have hs2 := hb2.size
  obtain ⟨fn, hfnq⟩ : ∃ fn, fs.length = fn := ⟨_, rfl⟩
  rw [hfnq] at hfn HRF ⊢
  have HFN := Lib.hid hfnq
  clear hfnq hrf hb2 HROW2 HRE HB1
  have HIA : Hid (∀ v, Below w2.heap.size w2 v → Calls Tryd.prog 7 #[.slice ta en tc] v (Txt (ftA (evs es)) v)) := fun v hv => by
    have he : EvL w2 (evs es) ta tc := by have h := HRE2.out; rw [← HEN.out] at h; exact h.evl
    have h1 := iFT_one (evs es) ta tc v (he.below hv) (by rw [evs_len, HEN.out]; omega) (HT.out.below (HB2.out.trans (hv.mono (by omega))) h4)
    rw [evs_len, HEN.out] at h1
    exact h1
  have HSA : Hid (∀ v, Below w2.heap.size w2 v → Calls Tryd.prog 8 #[.slice ta en tc] v (Txt (ftA (evs es)) v)) := fun v hv => by
    have he : EvL w2 (evs es) ta tc := by have h := HRE2.out; rw [← HEN.out] at h; exact h.evl
    have h1 := sFT_one (evs es) ta tc v (he.below hv) (by rw [evs_len, HEN.out]; omega)
    rw [evs_len, HEN.out] at h1
    exact h1
  have HIB : Hid (∀ v, Below w2.heap.size w2 v → Calls Tryd.prog 7 #[.slice ua fn uc] v (Txt (ftA (evs fs)) v)) := fun v hv => by
    have he : EvL w2 (evs fs) ua uc := by have h := HRF.out; rw [← HFN.out] at h; exact h.evl
    have h1 := iFT_one (evs fs) ua uc v (he.below hv) (by rw [evs_len, HFN.out]; omega) (HT.out.below (HB2.out.trans (hv.mono (by omega))) h4)
    rw [evs_len, HFN.out] at h1
    exact h1
  obtain ⟨s, hs⟩ : ∃ s, ftA (evs es) = s := ⟨_, rfl⟩
  obtain ⟨t, ht⟩ : ∃ t, ftA (evs fs) = t := ⟨_, rfl⟩
  rw [hs] at HIA HSA
  rw [ht] at HIB
  have HS := Lib.hid hs
  have HTT := Lib.hid ht
  clear hs ht
  go_wp2_with fail
  refine (HIA.out w2 (Below.refl _ _)).mono ?_
  rintro f w3 ⟨rfl, hb3⟩
  have HB3 := Lib.hid hb3
  clear hb3
  go_wp2_with fail
  refine (HIB.out w3 HB3.out).mono ?_
  rintro f w4 ⟨rfl, hb4⟩
  have HB4 := Lib.hid (HB3.out.trans (hb4.mono HB3.out.size))
  clear hb4 HB3
  go_wp2_with fail
  refine (HSA.out w4 HB4.out).mono ?_
  rintro f w5 ⟨rfl, hb5⟩
  have HB5 := Lib.hid (HB4.out.trans (hb5.mono HB4.out.size))
  clear hb5 HB4
  by_cases hse : s = []
  · have hi : s.isEmpty = true := by simp [hse]
    clear hse
    go_wp2_with fail
    refine (HSA.out w5 HB5.out).mono ?_
    rintro f w6 ⟨rfl, hb6⟩
    have HB6 := Lib.hid (HB5.out.trans (hb6.mono HB5.out.size))
    clear hb6 HB5
    go_wp2_with fail
    go_ret
    exact YN.of (by simp) (HB2.out.trans (HB6.out.mono (by omega)))
  have hi : s.isEmpty = false := by cases s with | nil => exact absurd rfl hse | cons _ _ => rfl
  by_cases hte : t = []
  · have hi2 : t.isEmpty = true := by simp [hte]
    clear hse hte
    go_wp2_with fail
    refine (HSA.out w5 HB5.out).mono ?_
    rintro f w6 ⟨rfl, hb6⟩
    have HB6 := Lib.hid (HB5.out.trans (hb6.mono HB5.out.size))
    clear hb6 HB5
    go_wp2_with fail
    go_ret
    exact YN.of (by simp) (HB2.out.trans (HB6.out.mono (by omega)))
  have hi2 : t.isEmpty = false := by cases t with | nil => exact absurd rfl hte | cons _ _ => rfl
  have HAPP : Hid (ftA (evs (es ++ fs)) = s ++ [32] ++ t) := by
    have h1 : ftA (evs (es ++ fs)) = s ++ [32] ++ t := by
      rw [evs_app, ftA_app (by rw [HS.out]; exact hse) (by rw [HTT.out]; exact hte), HS.out, HTT.out]
    exact h1
  have hep : 0 < en := by
    have h1 := (ftA_ne (es := evs es) (by rw [HS.out]; exact hse)).2.1
    rw [evs_len, HEN.out] at h1
    exact h1
  have hsl : s.length ≤ 22 * en := by
    have h1 := ftA_ne (es := evs es) (by rw [HS.out]; exact hse)
    have h2 := ftT_len (es := evs es) (evs es).length (Nat.le_refl _) (fun j x hj hx => by
      have := List.all_eq_true.1 h1.1 x (List.mem_of_getElem? hx)
      exact this)
    rw [← h1.2.2, HS.out, evs_len, HEN.out] at h2
    exact h2
  have htl : t.length ≤ 22 * fn := by
    have h1 := ftA_ne (es := evs fs) (by rw [HTT.out]; exact hte)
    have h2 := ftT_len (es := evs fs) (evs fs).length (Nat.le_refl _) (fun j x hj hx => by
      have := List.all_eq_true.1 h1.1 x (List.mem_of_getElem? hx)
      exact this)
    rw [← h1.2.2, HTT.out, evs_len, HFN.out] at h2
    exact h2
  have HROW0 : Hid (RowEv (w5.alloc (.cells #[] 59)) w5.heap.size (.slice (some ⟨w5.heap.size, 0, none⟩) 0 0) []) := RowEv.made w5 w5.heap.size (Nat.le_refl _)
  have HBA : Hid (Below w2.heap.size w2 (w5.alloc (.cells #[] 59))) := HB5.out.alloc HB5.out.size _
  have HRE5 : Hid (RowEv (w5.alloc (.cells #[] 59)) w.heap.size (.slice ta en tc) es) := HRE2.out.stand fun g _ hg => HBA.out.block g hg
  have HRF5 : Hid (RowEv (w5.alloc (.cells #[] 59)) w.heap.size (.slice ua fn uc) fs) := HRF.out.stand fun g _ hg => HBA.out.block g hg
  clear hse hte
  have tok1 : True := trivial
  go_wp2_with (first
    | (at_builtin; have _t := tok1; refine wpList_appE (by rfl) _ _ (by rfl) w5.heap.size w.heap.size w5.heap.size 0 0 [] es (by rfl) (by rfl) HROW0.out ta en tc HEN.out (by rfl) HRE5.out (by omega) (by simp) ?_; rintro v w6 ⟨a6, c6, rfl, h6, hg6, ho6⟩; clear tok1 _t
       have h6' : RowEv w6 w5.heap.size (.slice a6 es.length c6) es := h6
       obtain ⟨g6, rfl, hg60, hg61⟩ := h6'.some rfl (by rw [HEN.out]; exact hep)
       have HRF6 : Hid (RowEv w6 w.heap.size (.slice ua fn uc) fs) := HRF5.out.stand fun j hj hj' => hg6.block j hj' fun e => (by have h9 := (HRF.out.lt j hj).2; have h8 := HB5.out.size; cases e; omega)
       have hb6 : Below w5.heap.size w5 w6 := Below.trans ((Below.refl _ w5).alloc (Nat.le_refl _) _) ((Below.refl _ _).grown hg6 (by simp) (fun k e => (by cases e; exact Nat.le_refl _)))
       have hz6 := hb6.size
       have H6 := Lib.hid h6'
       have HBL6 := Lib.hid hb6
       clear h6 h6' hg6 ho6 hb6)
    | (at_builtin; refine wpList_appE (by rfl) _ _ (by rfl) w5.heap.size w.heap.size g6 es.length c6 es fs rfl (by rfl) H6.out ua fn uc HFN.out (by rfl) HRF6.out (by rw [HEN.out]; omega) (by omega) ?_; rintro v w7 ⟨a7, c7, rfl, h7, hg7, ho7⟩)
    | fail)
  have hb7 : Below w5.heap.size w6 w7 := (Below.refl _ _).grown hg7 (by omega) (fun k e => by cases e; exact hg60)
  have HB7 : Hid (Below w2.heap.size w2 w7) := (HB5.out.trans (HBL6.out.mono HB5.out.size)).trans (hb7.mono HB5.out.size)
  have hl7 : (es ++ fs).length = es.length + fs.length := List.length_append
  have hi7 : Calls Tryd.prog 7 #[.slice a7 (es.length + fs.length) c7] w7 (Txt (s ++ [32] ++ t) w7) := by
    have h1 := iFT_one (evs (es ++ fs)) a7 c7 w7 h7.evl (by rw [evs_len, hl7, HEN.out, HFN.out]; omega) (HT.out.below (HB2.out.trans (HB7.out.mono (by omega))) h4)
    rw [evs_len, hl7, HAPP.out] at h1
    exact h1
  refine hi7.mono ?_
  clear h7 hg7 ho7 hb7 hl7 hi7 H6 HRF6 HBL6 HROW0 HRE5 HRF5
  rintro f w8 ⟨rfl, hb8⟩
  have HB8 := Lib.hid (HB7.out.trans (hb8.mono HB7.out.size))
  clear hb8 HB7
  go_wp2_with fail
  rw [show ({ data := #[32] } : ByteArray) = ⟨([32] : List UInt8).toArray⟩ from rfl, cat_arr, cat_arr]
  go_ret
  exact YN.of (by simp [go_sem]) (HB2.out.trans (HB8.out.mono (by omega)))

end Go.Proofs.YtjmfnpljkiobkaaDoor

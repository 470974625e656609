/- The model's run of a drawn program at a drawn memory: MemoryValid answers true, RunProgram a memory and a list of events. -/
import Derived.Test.YtjmfnpljkiobkaaCpM
import Derived.Test.YtjmfnpljkiobkaaL3M
import Derived.Test.YtjmfnpljkiobkaaL3N
import Derived.Test.YtjmfnpljkiobkaaDrQ
import Derived.Test.YtjmfnpljkiobkaaL3E
import Derived.Maps.AppendAt
import Derived.Laws.OwnMore
import Derived.Test.YtjmfnpljkiobkaaL3D
import Derived.Test.YtjmfnpljkiobkaaEv
import Derived.Test.YtjmfnpljkiobkaaFD
import Derived.Deep.QuietTactic
import Derived.BigQuiet
namespace Go.Proofs.Ytjmfnpljkiobkaa
open Go.RowKit
set_option linter.unusedVariables false

set_option maxRecDepth 100000 in
set_option maxHeartbeats 1000000 in
theorem sMemoryValid_one (p : Pg) (k : PC) (n lo hi vc ac : Nat) (D : Nat → Prop) (va aa : Option Addr) (w : World) (hp : IsP w D n p k) (hl : ∀ k, D k → k < w.heap.size) (hv : progV p = true) (h : RM w lo hi p.vars.length p.arrs.length va aa) (hhi : hi ≤ w.heap.size) (hnv : p.vars.length ≤ 5) (hna : p.arrs.length ≤ 2) :
    Calls Try.prog 65 #[aggP p k, aggMm va aa p.vars.length p.arrs.length vc ac] w (AnsB true w) := by
  obtain ⟨W, hW⟩ : ∃ W, (w.alloc (.cells #[.slice k.va p.vars.length k.vc, .slice k.aa p.arrs.length k.ac, .slice k.ba p.body.length k.bc] 49)).alloc (.cells #[.slice va p.vars.length vc, .slice aa p.arrs.length ac] 103) = W := ⟨_, rfl⟩
  have hB : Below w.heap.size w W := by rw [← hW]; exact ((Below.refl _ w).alloc (Nat.le_refl _) _).alloc (by simp) _
  have hz : W.heap.size = w.heap.size + 2 := by rw [← hW]; simp
  have e0 : BoxP W w.heap.size p k := by
    rw [← hW]; exact (BoxP.new w p k _).later (Below.heap_alloc _ _ _ (by simp))
  have e1 : W.heap[w.heap.size + 1]? = some (.cells #[.slice va p.vars.length vc, .slice aa p.arrs.length ac] 103 (0, 0)) := by
    have e1 := heap_alloc_new (w.alloc (.cells #[.slice k.va p.vars.length k.vc, .slice k.aa p.arrs.length k.ac, .slice k.ba p.body.length k.bc] 49)) (.cells #[.slice va p.vars.length vc, .slice aa p.arrs.length ac] 103)
    rw [World.size_alloc] at e1
    rw [← hW]; exact e1
  have HF : Hid (∀ v, Below W.heap.size W v → v.cell? ⟨w.heap.size, 0, none⟩ = some (.slice k.va p.vars.length k.vc) ∧ v.cell? ⟨w.heap.size, 1, none⟩ = some (.slice k.aa p.arrs.length k.ac) ∧ v.cell? ⟨w.heap.size, 2, none⟩ = some (.slice k.ba p.body.length k.bc) ∧ v.cell? ⟨w.heap.size + 1, 0, none⟩ = some (.slice va p.vars.length vc) ∧ v.cell? ⟨w.heap.size + 1, 1, none⟩ = some (.slice aa p.arrs.length ac)) := fun v hv => by
    have bp := e0.below hv (by omega)
    have hm := (hv.block (w.heap.size + 1) (by omega)).trans e1
    exact ⟨bp.c0, bp.c1, bp.c2, by rw [cell_at hm]; rfl, by rw [cell_at hm]; rfl⟩
  have HP : Hid (IsP W D n p k) := hp.later (Stand.of_below hB hl)
  have HL : Hid (∀ j, D j → j < W.heap.size) := fun j hj => by have := hl j hj; omega
  have HM : Hid (∀ v, Below W.heap.size W v → RM v lo hi p.vars.length p.arrs.length va aa) := fun v hv => (h.stand fun b _ hb => hB.block b (by omega)).stand fun b _ hb => hv.block b (by omega)
  have HB := Lib.hid hB
  have HW := Lib.hid hW
  obtain ⟨f0, f1, f2, f3, f4⟩ := HF.out W (Below.refl _ _)
  clear hB e0 e1 hp h hW
  show Calls Try.prog 65 #[.agg #[.slice k.va p.vars.length k.vc, .slice k.aa p.arrs.length k.ac, .slice k.ba p.body.length k.bc], .agg #[.slice va p.vars.length vc, .slice aa p.arrs.length ac]] w _
  go_enter Try.func65, Try.ntmps65
  go_wp2_with fail
  rw [HW.out]
  refine (sProgramValid_one p k n D W HP.out HL.out).mono ?_
  rintro g w1 ⟨rfl, hb1⟩
  rw [hv]
  obtain ⟨g0, g1, g2, g3, g4⟩ := HF.out w1 hb1
  have HB1 := Lib.hid hb1
  have hz1 := hb1.size
  clear hb1
  go_wp2_with fail
  refine (l3Fits_one lo hi p.vars.length p.arrs.length p.body.length k.vc k.ac k.bc vc ac k.va k.aa k.ba va aa w1 (HM.out w1 HB1.out) (by omega) (by omega) hna).mono ?_
  rintro g w2 ⟨rfl, hb2⟩
  have HB2 := Lib.hid (HB.out.trans ((HB1.out.trans (hb2.mono hz1)).mono (by omega)))
  clear hb2
  go_wp2_with fail
  go_ret
  exact AnsB.of rfl HB2.out

/-- The answer of a run: a list of events in blocks of the call's own. -/
def RunP (w : World) (N : Nat) (f : Ending) (w' : World) : Prop := ∃ (ma mb : Option Addr) (mn mc on oc : Nat) (ta : Option Addr) (tc : Nat) (es : List (Int × Int)) (tb : Nat), f = .returned (.tuple #[.agg #[.slice ma mn mc, .slice mb on oc], .slice ta es.length tc, .bool true]) ∧ w.heap.size ≤ tb ∧ RowEv w' tb (.slice ta es.length tc) es ∧ es.length ≤ N ∧ Below w.heap.size w w'

set_option maxRecDepth 100000 in
set_option maxHeartbeats 1000000 in
theorem sRunProgram_one (p : Pg) (k : PC) (n lo hi vc ac : Nat) (D : Nat → Prop) (va aa : Option Addr) (w : World) (hp : IsP w D n p k) (hl : ∀ k, D k → k < w.heap.size) (hv : progV p = true) (h : RM w lo hi p.vars.length p.arrs.length va aa) (hhi : hi ≤ w.heap.size) (hnv : p.vars.length ≤ 5) (hna : p.arrs.length ≤ 2) (hcnt : cntSs p.body ≤ 84) :
    Calls Try.prog 58 #[aggP p k, aggMm va aa p.vars.length p.arrs.length vc ac] w (RunP w 22453200) := by
  obtain ⟨W, hW⟩ : ∃ W, ((w.alloc (.cells #[.slice k.va p.vars.length k.vc, .slice k.aa p.arrs.length k.ac, .slice k.ba p.body.length k.bc] 49)).alloc (.cells #[.slice va p.vars.length vc, .slice aa p.arrs.length ac] 103)).alloc (.cells #[.slice none 0 0, .slice none 0 0] 103) = W := ⟨_, rfl⟩
  have hB : Below w.heap.size w W := by rw [← hW]; exact (((Below.refl _ w).alloc (Nat.le_refl _) _).alloc (by simp) _).alloc (by simp; omega) _
  have hz : W.heap.size = w.heap.size + 3 := by rw [← hW]; simp
  have e0 : BoxP W w.heap.size p k := by
    rw [← hW]; exact ((BoxP.new w p k _).later (Below.heap_alloc _ _ _ (by simp))).later (Below.heap_alloc _ _ _ (by simp; omega))
  have e1 : W.heap[w.heap.size + 1]? = some (.cells #[.slice va p.vars.length vc, .slice aa p.arrs.length ac] 103 (0, 0)) := by
    have e1 := heap_alloc_new (w.alloc (.cells #[.slice k.va p.vars.length k.vc, .slice k.aa p.arrs.length k.ac, .slice k.ba p.body.length k.bc] 49)) (.cells #[.slice va p.vars.length vc, .slice aa p.arrs.length ac] 103)
    rw [World.size_alloc] at e1
    rw [← hW]; exact (Below.heap_alloc _ _ _ (by simp)).trans e1
  have HF : Hid (∀ v, Below W.heap.size W v → v.cell? ⟨w.heap.size, 0, none⟩ = some (.slice k.va p.vars.length k.vc) ∧ v.cell? ⟨w.heap.size, 1, none⟩ = some (.slice k.aa p.arrs.length k.ac) ∧ v.cell? ⟨w.heap.size, 2, none⟩ = some (.slice k.ba p.body.length k.bc) ∧ v.cell? ⟨w.heap.size + 1, 0, none⟩ = some (.slice va p.vars.length vc) ∧ v.cell? ⟨w.heap.size + 1, 1, none⟩ = some (.slice aa p.arrs.length ac)) := fun v hv => by
    have bp := e0.below hv (by omega)
    have hm := (hv.block (w.heap.size + 1) (by omega)).trans e1
    exact ⟨bp.c0, bp.c1, bp.c2, by rw [cell_at hm]; rfl, by rw [cell_at hm]; rfl⟩
  have e2 : W.heap[w.heap.size + 2]? = some (.cells #[.slice none 0 0, .slice none 0 0] 103 (0, 0)) := by
    have e2 := heap_alloc_new ((w.alloc (.cells #[.slice k.va p.vars.length k.vc, .slice k.aa p.arrs.length k.ac, .slice k.ba p.body.length k.bc] 49)).alloc (.cells #[.slice va p.vars.length vc, .slice aa p.arrs.length ac] 103)) (.cells #[.slice none 0 0, .slice none 0 0] 103)
    rw [World.size_alloc, World.size_alloc] at e2
    rw [← hW]; exact e2
  have HE2 := Lib.hid e2
  have HP : Hid (IsP W D n p k) := hp.later (Stand.of_below hB hl)
  have HL : Hid (∀ j, D j → j < W.heap.size) := fun j hj => by have := hl j hj; omega
  have HM : Hid (∀ v, Below W.heap.size W v → RM v lo hi p.vars.length p.arrs.length va aa) := fun v hv => (h.stand fun b _ hb => hB.block b (by omega)).stand fun b _ hb => hv.block b (by omega)
  have HB := Lib.hid hB
  have HW := Lib.hid hW
  obtain ⟨f0, f1, f2, f3, f4⟩ := HF.out W (Below.refl _ _)
  clear hB e0 e1 e2 hp h hW
  show Calls Try.prog 58 #[.agg #[.slice k.va p.vars.length k.vc, .slice k.aa p.arrs.length k.ac, .slice k.ba p.body.length k.bc], .agg #[.slice va p.vars.length vc, .slice aa p.arrs.length ac]] w _
  go_enter Try.func58, Try.ntmps58
  go_wp2_with fail
  rw [HW.out]
  refine (sMemoryValid_one p k n lo hi vc ac D va aa W HP.out HL.out hv (HM.out W (Below.refl _ _)) (by omega) hnv hna).mono ?_
  rintro g w1 ⟨rfl, hb1⟩
  obtain ⟨g0, g1, g2, g3, g4⟩ := HF.out w1 hb1
  have HB1 := Lib.hid hb1
  have hz1 := hb1.size
  clear hb1
  go_wp2_with fail
  refine (l3Copy_one lo hi p.vars.length p.arrs.length vc ac va aa w1 (HM.out w1 HB1.out) (by omega) (by omega) hna).mono ?_
  rintro g w2 ⟨va', aa', vc', ac', rfl, hb2, hrm⟩
  have hz2 := hb2.size
  obtain ⟨W3, hW3⟩ : ∃ W, w2.alloc (.cells #[.slice va' p.vars.length vc', .slice aa' p.arrs.length ac'] 103) = W := ⟨_, rfl⟩
  have hb3 : Below w2.heap.size w2 W3 := by rw [← hW3]; exact (Below.refl _ _).alloc (Nat.le_refl _) _
  have hb4 : Below W.heap.size W W3 := (HB1.out.trans (hb2.mono hz1)).trans (hb3.mono (by omega))
  have e3 : W3.heap[w2.heap.size]? = some (.cells #[.slice va' p.vars.length vc', .slice aa' p.arrs.length ac'] 103 (0, 0)) := by rw [← hW3]; exact heap_alloc_new w2 _
  have hz3 : W3.heap.size = w2.heap.size + 1 := by rw [← hW3]; simp
  obtain ⟨j0, j1, j2, j3, j4⟩ := HF.out W3 hb4
  have q0 : W3.cell? ⟨w2.heap.size, 0, none⟩ = some (.slice va' p.vars.length vc') := by rw [cell_at e3]; rfl
  have q1 : W3.cell? ⟨w2.heap.size, 1, none⟩ = some (.slice aa' p.arrs.length ac') := by rw [cell_at e3]; rfl
  have hrm3 := hrm.stand fun b _ hb => hb3.block b hb
  have HRM := Lib.hid hrm3
  have HB4 := Lib.hid hb4
  have HW3 := Lib.hid hW3
  have hP3 : IsP W3 D n p k := HP.out.later (Stand.of_below HB4.out HL.out)
  have hP3b := hP3.2.2
  have hall : p.body.all (stmtB p.vars.length p.arrs.length 5) = true := by
    unfold progV at hv
    simp only [Bool.and_eq_true] at hv
    exact hv.2.1
  have HP3 := Lib.hid hP3
  clear hb2 hrm hb3 hb4 e3 hrm3 hW3 hP3 hP3b
  go_wp2_with (first | rw [HW3.out] | fail)
  have hrun := l3Run_one p.vars.length p.arrs.length w1.heap.size w2.heap.size W3.heap.size va' aa' vc' ac' (by omega) (by omega) (by omega) hna 5 n p.body k.ba k.bc D none 0 [] W3 HP3.out.2.2.2.2 HP3.out.2.2.1 HP3.out.2.2.2.1 (fun j hj => by have := hl j hj; omega) HRM.out (rowEv_nil W3 W3.heap.size) (Nat.le_refl _) (by simp; omega) hall
  refine hrun.mono ?_
  rintro g w4 ⟨ta, tc, es, rfl, hre, hen, hrm4, htr⟩
  have x0 := htr.blk w2.heap.size (by omega) (by omega) (by simp [Value.ownBlock])
  have y0 := (World.cell?_of_block (w := W3) (w' := w4) (a := ⟨w2.heap.size, 0, none⟩) x0).trans q0
  have y1 := (World.cell?_of_block (w := W3) (w' := w4) (a := ⟨w2.heap.size, 1, none⟩) x0).trans q1
  have hlt := htr.bel.size
  have hb5 : Below w.heap.size w w4 := (HB.out.trans (HB4.out.mono (by omega))).trans (htr.bel.mono (by omega))
  have hen2 : es.length ≤ 22453200 := by
    simp at hen
    omega
  have x2 : w4.heap[w.heap.size + 1 + 1]? = some (.cells #[.slice none 0 0, .slice none 0 0] 103 (0, 0)) := ((htr.bel.block (w.heap.size + 2) (by omega)).trans (HB4.out.block (w.heap.size + 2) (by omega))).trans HE2.out
  have z0 : ∃ y, w4.cell? ⟨w.heap.size + 1 + 1, 0, none⟩ = some y := cell_ex x2 _ (by simp)
  have z1 : ∃ y, w4.cell? ⟨w.heap.size + 1 + 1, 1, none⟩ = some y := cell_ex x2 _ (by simp)
  have z2 : w4.frozen? ⟨w.heap.size + 1 + 1, 0, none⟩ = false := frozen_at x2 _
  have z3 : w4.frozen? ⟨w.heap.size + 1 + 1, 1, none⟩ = false := frozen_at x2 _
  have HX2 := Lib.hid x2
  obtain ⟨s0, z0⟩ := z0
  obtain ⟨s1, z1⟩ := z1
  have HEN := Lib.hid hen2
  have HB5 := Lib.hid hb5
  have HRE := Lib.hid hre
  clear hrun hre hen hrm4 htr x0 x2 hb5 hen2
  obtain ⟨en, hen⟩ : ∃ en, es.length = en := ⟨_, rfl⟩
  have HL := Lib.hid hen
  rw [hen]
  clear hen
  go_wp2_with fail
  obtain ⟨W5, hW5⟩ : ∃ u, put w4 (w.heap.size + 1 + 1) 0 [.slice va' p.vars.length vc', .slice aa' p.arrs.length ac'] = u := ⟨_, rfl⟩
  have r5 : W5.heap[w.heap.size + 1 + 1]? = some (.cells #[.slice va' p.vars.length vc', .slice aa' p.arrs.length ac'] 103 (0, 0)) := by
    rw [← hW5]; exact put_row _ _ _ _ _ _ HX2.out
  have d0 : W5.cell? ⟨w.heap.size + 1 + 1, 0, none⟩ = some (.slice va' p.vars.length vc') := by rw [cell_at r5]; rfl
  have d1 : W5.cell? ⟨w.heap.size + 1 + 1, 1, none⟩ = some (.slice aa' p.arrs.length ac') := by rw [cell_at r5]; rfl
  have hfin : RunP w 22453200 (.returned (.tuple #[.agg #[.slice va' p.vars.length vc', .slice aa' p.arrs.length ac'], .slice ta en tc, .bool true])) W5 := by
    obtain rfl := HL.out
    refine ⟨_, _, _, _, _, _, ta, tc, es, W3.heap.size, rfl, by omega, ?_, HEN.out, ?_⟩
    · refine HRE.out.stand fun g hg hg' => ?_
      have h9 := HRE.out.lt g hg
      rw [← hW5]; exact put_other _ _ _ _ _ (by omega)
    · rw [← hW5]; exact put_below _ _ _ _ _ _ HB5.out (by omega)
  have HFIN := Lib.hid hfin
  show bodyPost _ _ _ _ _ (put w4 (w.heap.size + 1 + 1) 0 [.slice va' p.vars.length vc', .slice aa' p.arrs.length ac'])
  rw [hW5]
  clear hfin hW5 r5 g0 g1 g2 g3 g4 q0 q1 y0 y1 z0 z1 z2 z3
  exact bodyPost_ret (v := .tuple #[.agg #[.slice va' p.vars.length vc', .slice aa' p.arrs.length ac'], .slice ta en tc, .bool true]) (by simp [results, Try.f58, go_sem, d0, d1]) rfl HFIN.out

end Go.Proofs.Ytjmfnpljkiobkaa

namespace Go.Proofs.Ytjmfnpljkiobkaa
open Go.RowKit
set_option linter.unusedVariables false

/-- The cells of a list of events. -/
def flatE (es : List (Int × Int)) : List Value := cellsL (fun (x : Int × Int) (_ : Unit) => [.int .i64 x.1, .int .i64 x.2]) es (List.replicate es.length ())
theorem flatE_cons (x : Int × Int) (es : List (Int × Int)) : flatE (x :: es) = .int .i64 x.1 :: .int .i64 x.2 :: flatE es := by simp [flatE, cellsL, List.replicate_succ]
theorem flatE_app : ∀ (es fs : List (Int × Int)), flatE (es ++ fs) = flatE es ++ flatE fs
  | [], fs => by simp [flatE, cellsL]
  | x :: es, fs => by rw [List.cons_append, flatE_cons, flatE_cons, flatE_app es fs]; rfl
theorem flatE_len : ∀ (es : List (Int × Int)), (flatE es).length = es.length * 2
  | [] => rfl
  | x :: es => by rw [flatE_cons, List.length_cons, List.length_cons, flatE_len es, List.length_cons]; omega
theorem flatE_one : ∀ (es : List (Int × Int)), ∀ u ∈ flatE es, u.oneCell' = true
  | [], u, h => by simp [flatE, cellsL] at h
  | x :: es, u, h => by
    rw [flatE_cons] at h
    rcases List.mem_cons.1 h with rfl | h
    · rfl
    rcases List.mem_cons.1 h with rfl | h
    · rfl
    exact flatE_one es u h
theorem flatE_at : ∀ (es : List (Int × Int)) (i : Nat) (x : Int × Int), es[i]? = some x → (flatE es)[i * 2]? = some (.int .i64 x.1) ∧ (flatE es)[i * 2 + 1]? = some (.int .i64 x.2)
  | [], i, x, h => by simp at h
  | y :: es, 0, x, h => by simp at h; subst h; rw [flatE_cons]; exact ⟨rfl, rfl⟩
  | y :: es, i + 1, x, h => by
    obtain ⟨h1, h2⟩ := flatE_at es i x (by simpa using h)
    rw [flatE_cons, show (i + 1) * 2 = i * 2 + 1 + 1 by omega]
    exact ⟨by simpa using h1, by simpa using h2⟩

theorem RowEv.flat {w : World} {base : Nat} {v : Value} {es : List (Int × Int)} (h : RowEv w base v es) : w.ownsRow base 29 2 v es.length (flatE es) := by
  obtain ⟨L, h1, h2, _⟩ := h
  have hL : L = List.replicate es.length () := by
    apply List.ext_getElem?
    intro i
    by_cases hi : i < es.length
    · rw [List.getElem?_replicate, if_pos hi, List.getElem?_eq_getElem (by rw [h1]; exact hi)]
    · rw [List.getElem?_replicate, if_neg hi, List.getElem?_eq_none (by rw [h1]; omega)]
  rw [hL] at h2
  exact h2
theorem RowEv.ofFlat {w : World} {base : Nat} {v : Value} {es : List (Int × Int)} (h : w.ownsRow base 29 2 v es.length (flatE es)) : RowEv w base v es :=
  ⟨List.replicate es.length (), by simp, h, fun _ _ _ _ _ => trivial⟩
theorem RowEv.made (w : World) (base : Nat) (hb : base ≤ w.heap.size) : RowEv (w.alloc (.cells #[] 29)) base (.slice (some ⟨w.heap.size, 0, none⟩) 0 0) [] :=
  RowEv.ofFlat (World.ownsRow_made w #[] 0 hb (by unfold maxLen; omega) rfl)
/-- Its cells, one by one. -/
theorem RowEv.at {w : World} {base : Nat} {a : Option Addr} {n c : Nat} {es : List (Int × Int)} (h : RowEv w base (.slice a n c) es) (i : Nat) (x : Int × Int) (hx : es[i]? = some x) : ∃ b, a = some ⟨b, 0, none⟩ ∧ base ≤ b ∧ b < w.heap.size ∧ w.cell? ⟨b, i * 2, none⟩ = some (.int .i64 x.1) ∧ w.cell? ⟨b, i * 2 + 1, none⟩ = some (.int .i64 x.2) := by
  have hf := h.flat
  obtain ⟨h1, h2⟩ := flatE_at es i x hx
  rcases hf.2 with ⟨_, h3⟩ | ⟨g, cp, cur, e1, e2, e3, e4⟩
  · have := (List.getElem?_eq_some_iff.1 hx).1; omega
  · cases e1
    have hc := hf.cells (g := g) rfl
    have k1 := hc _ _ h1
    have k2 := hc _ _ h2
    have hadd : ∀ j, (⟨g, 0, none⟩ : Addr).add j = ⟨g, j, none⟩ := fun j => by unfold Addr.add; split <;> simp_all
    rw [hadd] at k1 k2
    exact ⟨g, rfl, e2, (Array.getElem?_eq_some_iff.1 e3).1, k1, k2⟩

/-- What the append of a row of events onto a row of the call's own leaves. -/
def ApE (w : World) (base g : Nat) (es fs : List (Int × Int)) (v : Value) (w' : World) : Prop := ∃ a cap, v = .slice a (es ++ fs).length cap ∧ RowEv w' base (.slice a (es ++ fs).length cap) (es ++ fs) ∧ w.grownBy w' (some g) ∧ ((Value.slice a (es ++ fs).length cap).ownBlock = some g ∨ (Value.slice a (es ++ fs).length cap).ownBlock = some w.heap.size)

theorem run_appE (w : World) (ty base tb g n cap : Nat) (es fs : List (Int × Int)) (hn : es.length = n) (hown : RowEv w base (.slice (some ⟨g, 0, none⟩) n cap) es)
    (A : Option Addr) (m c : Nat) (hm : fs.length = m) (hr : RowEv w tb (.slice A m c) fs) (hl : n + m ≤ 2199023255552) (hb : base ≤ w.heap.size) :
    ∃ v w', (Builtin.append_ #[23, 23] ty #[.slice (some ⟨g, 0, none⟩) n cap, .slice A m c]).run Try.prog w = .ok v w' ∧ ApE w base g es fs v w' := by
  subst hn hm
  obtain ⟨i, hi, hz, hsz, hby⟩ := info_parts infoEv
  rcases A with _ | ad
  · have h0 : fs = [] := by
      rcases hr.flat.2 with ⟨_, h2⟩ | ⟨g', cp, cur, e1, _⟩
      · exact List.eq_nil_of_length_eq_zero h2
      · cases e1
    subst h0
    refine ⟨.slice (some ⟨g, 0, none⟩) es.length cap, w, ?_, some ⟨g, 0, none⟩, cap, by simp, by simpa using hown, World.grownBy.refl w _, .inl rfl⟩
    rcases hown.flat.2 with ⟨h1, _⟩ | ⟨g', cap', cur, h1, _, _, hnc, _⟩
    · cases h1
    · cases h1
      simp [Builtin.append_, run_underlying Try.underlying23, sizeOf, typeInfo, hi, Builtin.lenOf, Builtin.firstCells, storeCells, hnc, loadCells]
  · have hnews : ∀ j u, (flatE fs)[j]? = some u → w.cell? (ad.add j) = some u := by
      rcases hr.flat.2 with ⟨h1, _⟩ | ⟨g', cp, cur, e1, _⟩
      · cases h1
      · cases e1
        exact hr.flat.cells (g := g') rfl
    obtain ⟨v', w', h1, h2, h3, h4, h5⟩ := run_append_own_at (P := Try.prog) w base 23 ty 29 i _ 2 16 Try.underlying23 hi hz hsz hby rfl (by omega) (.slice (some ⟨g, 0, none⟩) es.length cap) es.length (flatE es) hown.flat ad fs.length c (flatE fs) (flatE_len fs) hnews (flatE_one fs) (by unfold maxLen; omega) (by omega) hb
    rw [← flatE_app, ← List.length_append] at h2
    have hv : ∃ a cap, v' = .slice a (es ++ fs).length cap := by
      rcases h2.2 with ⟨e1, e2⟩ | ⟨g', cap, cur, e1, _⟩
      · exact ⟨none, 0, by rw [e1, e2]⟩
      · exact ⟨_, _, e1⟩
    obtain ⟨a, cap, rfl⟩ := hv
    exact ⟨_, w', h1, a, cap, rfl, RowEv.ofFlat h2, h3, h5⟩

/-- At the list of a plain region's operations. -/
theorem wpList_appE {ops : Array Oper} {rest : List Oper} {o : Oper} {a : Act} {w : World} {Q : Exit → Act → World → Prop} (hgd : o.guard = none) (s x : Operand)
    (ho : o.op = .call { callee := .builtin .append, args := #[s, x], argTypes := #[23, 23] })
    (base tb g n cap : Nat) (es fs : List (Int × Int)) (hn : es.length = n) (hs : a.eval s = .slice (some ⟨g, 0, none⟩) n cap) (hown : RowEv w base (.slice (some ⟨g, 0, none⟩) n cap) es)
    (A : Option Addr) (m c : Nat) (hm : fs.length = m) (hx : a.eval x = .slice A m c) (hr : RowEv w tb (.slice A m c) fs) (hl : n + m ≤ 2199023255552) (hb : base ≤ w.heap.size)
    (h : ∀ v w', ApE w base g es fs v w' → wpList Try.prog ops Q rest (a.put o.dst v) w') : wpList Try.prog ops Q (o :: rest) a w :=
  wpList_plain hgd fun _ hK => by
    obtain ⟨v, w', hrun, hc⟩ := run_appE w o.type base tb g n cap es fs hn hown A m c hm hr hl hb
    unfold Oper.wp execOp
    simp only [ho, resolve, invoke, builtin, Sem.run_bind, Sem.run_pure, Result.andThen_ok, List.map_toArray, List.map_cons, List.map_nil, hs, hx, hrun]
    exact hK _ _ (h v w' hc)

/-- At a step of a region that draws. -/
theorem step_appE {ops : Array Oper} {o : Oper} {a : Act} {w : World} {K : Act → World → Prop} {Q : Exit → Act → World → Prop} {E : Prop} (hgd : o.guard = none) (s x : Operand)
    (ho : o.op = .call { callee := .builtin .append, args := #[s, x], argTypes := #[23, 23] })
    (base tb g n cap : Nat) (es fs : List (Int × Int)) (hn : es.length = n) (hs : a.eval s = .slice (some ⟨g, 0, none⟩) n cap) (hown : RowEv w base (.slice (some ⟨g, 0, none⟩) n cap) es)
    (A : Option Addr) (m c : Nat) (hm : fs.length = m) (hx : a.eval x = .slice A m c) (hr : RowEv w tb (.slice A m c) fs) (hl : n + m ≤ 2199023255552) (hb : base ≤ w.heap.size)
    (h : ∀ v w', ApE w base g es fs v w' → K (a.put o.dst v) w') :
    if Region.wanted o (yielded ops a.tmps) = true then Oper.wp Try.prog o a w K Q else E := by
  have hw : Region.wanted o (yielded ops a.tmps) = true := by simp [Region.wanted, hgd]
  rw [if_pos hw]
  obtain ⟨v, w', hrun, hc⟩ := run_appE w o.type base tb g n cap es fs hn hown A m c hm hr hl hb
  unfold Oper.wp execOp
  simp only [ho, resolve, invoke, builtin, Sem.run_bind, Sem.run_pure, Result.andThen_ok, List.map_toArray, List.map_cons, List.map_nil, hs, hx, hrun]
  exact h v w' hc

end Go.Proofs.Ytjmfnpljkiobkaa

namespace Go.Proofs.Ytjmfnpljkiobkaa
open Go.RowKit
set_option linter.unusedVariables false

/-- A draw that yields a list of events in a row of its own. -/
def DrT (N : Nat) (w : World) (B m : Nat) (f : Ending) (w' : World) : Prop := ∃ (ta : Option Addr) (tc : Nat) (es : List (Int × Int)), f = .returned (.slice ta es.length tc) ∧ RowEv w' w.heap.size (.slice ta es.length tc) es ∧ es.length ≤ N ∧ RdU w' B m ∧ Oth B w w' ∧ Below B w w'

theorem Oth.set {B : Nat} {w w' : World} (h : Oth B w w') {g : Nat} (hg : w.heap.size ≤ g) (o : Nat) (v : Value) : Oth B w (w'.setCell ⟨g, o, none⟩ v) := h.put hg o [v]
/-- Behind the run: the row of events, the reader, and what stands. -/
structure TrX (B m : Nat) (W1 : World) (tb : Nat) (es : List (Int × Int)) (t : Value) (X : World) : Prop where
  row : RowEv X tb t es
  oth : Oth B W1 X
  bel : Below B W1 X
  rd : RdU X B m
theorem TrX.alloc {B m tb : Nat} {W1 X : World} {es : List (Int × Int)} {t : Value} (h : TrX B m W1 tb es t X) (o : Obj) : TrX B m W1 tb es t (X.alloc o) :=
  ⟨h.row.stand fun g _ hg => Below.heap_alloc _ _ _ hg, h.oth.alloc _, h.bel.alloc (Nat.le_of_lt h.rd.lt) _, h.rd.alloc _⟩
theorem TrX.put {B m tb g : Nat} {W1 X : World} {es : List (Int × Int)} {t : Value} (h : TrX B m W1 tb es t X) (hg : g < tb) (hg1 : W1.heap.size ≤ g) (hB : B < g) (a b : Value) : TrX B m W1 tb es t ((X.setCell ⟨g, 0, none⟩ a).setCell ⟨g, 1, none⟩ b) :=
  ⟨h.row.stand fun j hj hj' => put_other [a, b] X g 0 j (by have := (h.row.lt j hj).1; omega), h.oth.put hg1 0 [a, b], put_below [a, b] _ _ _ _ _ h.bel (by omega), h.rd.below (put_below [a, b] _ _ g _ _ (Below.refl _ _) (Nat.le_refl _)) hB⟩

set_option maxRecDepth 100000 in
set_option maxHeartbeats 1000000 in
theorem l3Trace_one (B m : Nat) (w : World) (h : RdU w B m) (hm : m < 1098000000000) :
    Calls Try.prog 46 #[.pointer (some ⟨B, 0, none⟩)] w (DrT 22453200 w B (m + 6000100)) := by
  have hlt := h.lt
  have HR := Lib.hid h
  clear h
  go_enter Try.func46, Try.ntmps46
  go_wp2_with fail
  refine (drProgramC B m w HR.out (by omega)).mono ?_
  rintro f w1 ⟨p, k, rfl, hip, hsm, hv, hn0, hnv, hna, hrd, hot, hbl, hcnt⟩
  obtain ⟨W1, hW1⟩ : ∃ W, w1.alloc (.cells #[.slice k.va p.vars.length k.vc, .slice k.aa p.arrs.length k.ac, .slice k.ba p.body.length k.bc] 49) = W := ⟨_, rfl⟩
  have hz1 : W1.heap.size = w1.heap.size + 1 := by rw [← hW1]; simp
  have hB1 : Below w1.heap.size w1 W1 := by rw [← hW1]; exact (Below.refl _ _).alloc (Nat.le_refl _) _
  have hbp : BoxP W1 w1.heap.size p k := by rw [← hW1]; exact BoxP.new w1 p k _
  have hlt1 := hbl.size
  have HS : Hid (∀ v, Oth B W1 v → v.cell? ⟨w1.heap.size, 0, none⟩ = some (.slice k.va p.vars.length k.vc) ∧ v.cell? ⟨w1.heap.size, 1, none⟩ = some (.slice k.aa p.arrs.length k.ac) ∧ v.cell? ⟨w1.heap.size, 2, none⟩ = some (.slice k.ba p.body.length k.bc)) := fun v hv => by
    have hb := hbp.later (hv.2 _ (by omega) (by omega))
    exact ⟨hb.c0, hb.c1, hb.c2⟩
  obtain ⟨p0, p1, p2⟩ := HS.out W1 (Oth.refl _ _)
  have HSa := Lib.hid (HS.out W1 (Oth.refl _ _))
  have HSb := Lib.hid (HS.out W1.drew (Oth.refl _ _).drew)
  have HR1 : Hid (RdU W1 B (m + 6000000)) := hrd.below hB1 hrd.lt
  have HR2 : Hid (RdU W1.drew B (m + 6000000)) := HR1.out.drew
  have HIP : Hid (∀ v, Oth B W1 v → IsP v (New w w1) 10 p k ∧ ∀ j, New w w1 j → j < v.heap.size) := fun v hv => ⟨hip.later fun j hj => (hv.2 j (by have := hj.2; omega) (by have := hj.1; omega)).trans (hB1.block j hj.2), fun j hj => by have := hj.2; have := hv.1; omega⟩
  have HBL := Lib.hid hbl
  have HOT := Lib.hid hot
  have HB1 := Lib.hid hB1
  have HW1 := Lib.hid hW1
  clear hip hsm hrd hot hbl hbp hB1 hW1
  go_wp2_with (first | rw [HW1.out] | fail)
  go_region_held3 (fun v' => v'.cell? ⟨w1.heap.size, 0, none⟩ = some (.slice k.va p.vars.length k.vc) ∧ v'.cell? ⟨w1.heap.size, 1, none⟩ = some (.slice k.aa p.arrs.length k.ac) ∧ v'.cell? ⟨w1.heap.size, 2, none⟩ = some (.slice k.ba p.body.length k.bc)) (first | (with_reducible assumption) | (with_reducible exact HSa.out) | (with_reducible exact HSb.out) | (with_reducible exact HS.out _ (by repeat (first | (with_reducible assumption) | (with_reducible exact Oth.refl _ _) | (with_reducible refine Oth.drew ?_) | (with_reducible refine Oth.alloc ?_ _) | (with_reducible refine Oth.set ?_ (by omega) _ _)))))
    (first
      | (go_at_call 59
         (with_reducible refine (l3Memory_one B (m + 6000000) p.vars.length p.arrs.length p.body.length k.vc k.ac k.bc k.va k.aa k.ba _ (by first | exact HR1.out | exact HR2.out | exact HR1.out.alloc _ | exact HR2.out.alloc _ | exact (HR1.out.alloc _).drew) (by omega) (by omega) hna).mono ?_)
         rintro f v ⟨va', aa', vc', ac', rfl, hb5, ho5, hr5, hm5⟩
         have hO5 : Oth B W1 v := Oth.trans (by repeat (first | (with_reducible assumption) | (with_reducible exact Oth.refl _ _) | (with_reducible refine Oth.drew ?_) | (with_reducible refine Oth.alloc ?_ _) | (with_reducible refine Oth.set ?_ (by omega) _ _))) ho5
         obtain ⟨lo, hM5⟩ : ∃ lo, RM v lo v.heap.size p.vars.length p.arrs.length va' aa' := ⟨_, hm5⟩
         have hB5 : Below B W1 v := Below.trans (by first | (with_reducible exact Below.refl _ _) | exact (Below.refl _ _).drew | exact (Below.refl _ _).alloc (by omega) _ | exact ((Below.refl _ _).drew).alloc (by simp; omega) _ | exact ((Below.refl _ _).alloc (by omega) _).drew) hb5
         try have hqC : v.heap[w1.heap.size + 1]? = some (.cells #[.slice none 0 0, .slice none 0 0] 103 (0, 0)) := (ho5.2 (w1.heap.size + 1) (show w1.heap.size + 1 < (W1.alloc (.cells #[.slice none 0 0, .slice none 0 0] 103)).heap.size by rw [World.size_alloc]; omega) (by omega)).trans (by rw [← hz1]; exact heap_alloc_new W1 _)
         have hz5 := hB5.size)
      | (go_at_call 58
         (with_reducible refine (sRunProgram_one p k 10 lo v.heap.size vc' ac' (New w w1) va' aa' _ (HIP.out _ (by repeat (first | (with_reducible assumption) | (with_reducible exact Oth.refl _ _) | (with_reducible refine Oth.drew ?_) | (with_reducible refine Oth.alloc ?_ _) | (with_reducible refine Oth.set ?_ (by omega) _ _)))).1 (HIP.out _ (by repeat (first | (with_reducible assumption) | (with_reducible exact Oth.refl _ _) | (with_reducible refine Oth.drew ?_) | (with_reducible refine Oth.alloc ?_ _) | (with_reducible refine Oth.set ?_ (by omega) _ _)))).2 hv (by first | exact hM5 | exact hM5.stand fun b _ hb => Below.heap_alloc _ _ _ hb) (by first | exact Nat.le_refl _ | (rw [World.size_alloc]; omega)) hnv hna hcnt).mono ?_)
         rintro f v2 ⟨ma, mb, mn, mc, on, oc, ta, tc, es, tb, rfl, htb, hre, hen, hb6⟩
         have hO6 : Oth B W1 v2 := Oth.trans (by repeat (first | (with_reducible assumption) | (with_reducible exact Oth.refl _ _) | (with_reducible refine Oth.drew ?_) | (with_reducible refine Oth.alloc ?_ _) | (with_reducible refine Oth.set ?_ (by omega) _ _))) (Oth.below hb6)
         have hz6 : v.heap.size ≤ v2.heap.size := by first | exact hb6.size | exact Nat.le_trans (by simp) hb6.size
         have hB6 : Below v.heap.size v v2 := by first | exact hb6 | exact Below.trans ((Below.refl _ v).alloc (Nat.le_refl _) _) (hb6.mono (by simp))
         try have hqB : v2.heap[v.heap.size]? = some (.cells #[.slice none 0 0, .slice none 0 0] 103 (0, 0)) := (hb6.block v.heap.size (by simp)).trans (heap_alloc_new v _)
         try have hqB : v2.heap[w1.heap.size + 1]? = some (.cells #[.slice none 0 0, .slice none 0 0] 103 (0, 0)) := (hb6.block (w1.heap.size + 1) (by have := (Array.getElem?_eq_some_iff.1 hqC).1; omega)).trans hqC
         try have hr0 : v2.cell? ⟨v.heap.size, 0, none⟩ = some (.slice none 0 0) := (cell_at hqB _).trans rfl
         try have hr1 : v2.cell? ⟨v.heap.size, 1, none⟩ = some (.slice none 0 0) := (cell_at hqB _).trans rfl
         try have hr0 : v2.cell? ⟨w1.heap.size + 1, 0, none⟩ = some (.slice none 0 0) := (cell_at hqB _).trans rfl
         try have hr1 : v2.cell? ⟨w1.heap.size + 1, 1, none⟩ = some (.slice none 0 0) := (cell_at hqB _).trans rfl
         try have f0 := frozen_at hqB 0
         try have f1 := frozen_at hqB 1))
  all_goals
    have hrd2 : RdU v2 B (m + 6000050) := (hr5.below hB6 hr5.lt).mono (by omega)
    have hbel2 : Below B W1 v2 := hB5.trans (hB6.mono (by have := hr5.lt; omega))
    have hBl : B < v.heap.size := hr5.lt
    have hlo1 := HOT.out.1
    have htb0 : w.heap.size ≤ tb := by have := htb; first | omega | (rw [World.size_alloc] at this; omega)
    have HX := (⟨hre, hO6, hbel2, hrd2⟩ : TrX B (m + 6000050) W1 tb es (.slice ta es.length tc) v2)
    first
      | (obtain ⟨X, hX⟩ : ∃ X, v2.alloc (.cells #[.slice ma mn mc, .slice mb on oc] 103) = X := ⟨_, rfl⟩
         rw [hX]
         have HX2 : TrX B (m + 6000050) W1 tb es (.slice ta es.length tc) X := by rw [← hX]; exact HX.alloc _
         clear hX)
      | (obtain ⟨X, hX⟩ : ∃ X, (v2.setCell ⟨v.heap.size, 0, none⟩ (.slice ma mn mc)).setCell ⟨v.heap.size, 1, none⟩ (.slice mb on oc) = X := ⟨_, rfl⟩
         rw [hX]
         have HX2 : TrX B (m + 6000050) W1 tb es (.slice ta es.length tc) X := by rw [← hX]; exact HX.put (by have := htb; simp only [World.size_alloc] at this; omega) (by omega) (by omega) _ _
         clear hX)
      | (obtain ⟨X, hX⟩ : ∃ X, (v2.setCell ⟨w1.heap.size + 1, 0, none⟩ (.slice ma mn mc)).setCell ⟨w1.heap.size + 1, 1, none⟩ (.slice mb on oc) = X := ⟨_, rfl⟩
         rw [hX]
         have HX2 : TrX B (m + 6000050) W1 tb es (.slice ta es.length tc) X := by rw [← hX]; exact HX.put (by have := htb; have := (Array.getElem?_eq_some_iff.1 hqC).1; omega) (by omega) (by omega) _ _
         clear hX)
    clear HX hrd2 hbel2 hre hO6 hO5 hB5 hB6 hr5 hb5 ho5 hm5 hM5 hb6
    have HX := Lib.hid HX2
    clear HX2
    have hXz : W1.heap.size ≤ X.heap.size := HX.out.oth.1
    have HROW0 : Hid (RowEv (X.alloc (.cells #[] 29)) w.heap.size (.slice (some ⟨X.heap.size, 0, none⟩) 0 0) []) := RowEv.made X w.heap.size (by omega)
    have HX3 := Lib.hid (HX.out.alloc (.cells #[] 29))
    obtain ⟨en, henq⟩ : ∃ en, es.length = en := ⟨_, rfl⟩
    have HEN := Lib.hid henq
    rw [henq] at HX3 hen
    simp only [henq]
    clear henq htb
    go_wp2_with (at_builtin; refine wpList_appE (by rfl) _ _ (by rfl) w.heap.size tb X.heap.size 0 0 [] es (by rfl) (by rfl) HROW0.out ta en tc HEN.out (by rfl) HX3.out.row (by omega) (by simp; omega) ?_; rintro v w5 ⟨a5, c5, rfl, h5, hg5, ho5⟩)
    rw [List.nil_append] at h5
    have hb5 : Below X.heap.size (X.alloc (.cells #[] 29)) w5 := (Below.refl _ _).grown hg5 (by simp) (fun k e => by cases e; exact Nat.le_refl _)
    have hb5' : Below X.heap.size X w5 := Below.trans ((Below.refl _ X).alloc (Nat.le_refl _) _) hb5
    have hfin : DrT 22453200 w B (m + 6000100) (.returned (.slice a5 es.length c5)) w5 := by
      refine ⟨a5, c5, es, rfl, h5, by rw [HEN.out]; exact hen, (HX.out.rd.below hb5' HX.out.rd.lt).mono (by omega), ?_, ?_⟩
      · exact (HOT.out.trans (((Oth.refl B w1).alloc _).trans (by rw [HW1.out]; exact HX.out.oth))).trans (Oth.below hb5')
      · exact (HBL.out.trans (HB1.out.mono (by omega))).trans (HX.out.bel.trans (hb5'.mono (by have := HX.out.rd.lt; omega)))
    have HFIN := Lib.hid hfin
    clear h5 hg5 ho5 hb5 hb5' hfin HX HX3
    go_ret
    exact HFIN.out

end Go.Proofs.Ytjmfnpljkiobkaa

namespace Go.Proofs.Ytjmfnpljkiobkaa
open Go.RowKit
set_option linter.unusedVariables false

/-- A list of pairs as a list of events. -/
def evs (es : List (Int × Int)) : List Ev := es.map fun x => ⟨x.1, x.2⟩
theorem evs_len (es : List (Int × Int)) : (evs es).length = es.length := by simp [evs]
theorem RowEv.evl {w : World} {base : Nat} {a : Option Addr} {c : Nat} {es : List (Int × Int)} (h : RowEv w base (.slice a es.length c) es) : EvL w (evs es) a c := by
  refine ⟨?_, ?_, fun i x hx => ?_⟩
  · rw [evs_len]
    rcases h.flat.2 with ⟨e1, e2⟩ | ⟨g, cap, cur, e1, _, _, hn, hm, _⟩
    · injection e1 with _ _ e3; omega
    · injection e1 with _ _ e3; rw [e3]; exact hn
  · rcases h.flat.2 with ⟨e1, e2⟩ | ⟨g, cap, cur, e1, _, _, hn, hm, _⟩
    · injection e1 with _ _ e3; rw [e3]; unfold maxLen; omega
    · injection e1 with _ _ e3; rw [e3]; exact hm
  · obtain ⟨y, hy, rfl⟩ : ∃ y, es[i]? = some y ∧ (⟨y.1, y.2⟩ : Ev) = x := by
      unfold evs at hx
      rw [List.getElem?_map] at hx
      cases he : es[i]? with
      | none => rw [he] at hx; cases hx
      | some y => rw [he] at hx; exact ⟨y, rfl, by simpa using hx⟩
    obtain ⟨b, e, h1, h2, h3, h4⟩ := h.at i y hy
    exact ⟨b, 0, e, h2, by rw [Nat.zero_add]; exact h3, by rw [Nat.zero_add]; exact h4⟩

/-- Two rows of events lie there, and the reader. -/
structure TS (w : World) (B m lo lo2 : Nat) (t t2 : Value) (es es2 : List (Int × Int)) (u : World) : Prop where
  rd : RdU u B m
  bel : Below B w u
  r1 : RowEv u lo t es
  r2 : RowEv u lo2 t2 es2
  l1 : B < lo
  l2 : lo ≤ lo2
  fr : t.ownBlock ≠ t2.ownBlock ∨ t.ownBlock = none
theorem TS.call {w u v : World} {B m m' lo lo2 : Nat} {t t2 : Value} {es es2 : List (Int × Int)} (h : TS w B m lo lo2 t t2 es es2 u) (hr : RdU v B m') (ho : Oth B u v) (hb : Below B u v) : TS w B m' lo lo2 t t2 es es2 v :=
  ⟨hr, h.bel.trans hb, h.r1.stand fun g hg hg' => ho.2 g hg' (by have := (h.r1.lt g hg).1; have := h.l1; omega), h.r2.stand fun g hg hg' => ho.2 g hg' (by have := (h.r2.lt g hg).1; have := h.l1; have := h.l2; omega), h.l1, h.l2, h.fr⟩

/-- Two lists of events have been drawn. -/
def DrTP (w : World) (f : Ending) (w' : World) : Prop := ∃ (es fs : List Ev) (a a' : Option Addr) (c c' : Nat), f = .returned (.tuple #[.slice a es.length c, .slice a' fs.length c']) ∧ EvL w' es a c ∧ EvL w' fs a' c' ∧ es.length ≤ 22453200 ∧ fs.length ≤ 22453200 ∧ Below w.heap.size w w'

theorem EvL.take {u : World} {es : List Ev} {a : Option Addr} {c : Nat} (h : EvL u es a c) (k : Nat) : EvL u (es.take k) a c := by
  refine ⟨by rw [List.length_take]; exact Nat.le_trans (Nat.min_le_right _ _) h.1, h.2.1, fun i x hx => h.2.2 i x ?_⟩
  rw [List.getElem?_take] at hx
  split at hx
  · exact hx
  · cases hx
theorem EvL.setVal {u : World} {g c : Nat} {es : List Ev} (h : EvL u es (some ⟨g, 0, none⟩) c) (k : Nat) (z : Int) (e : Ev) (he : es[k]? = some e) : EvL (u.setCell ⟨g, k * 2 + 1, none⟩ (.int .i64 z)) (es.set k ⟨e.kind, z⟩) (some ⟨g, 0, none⟩) c := by
  refine ⟨by rw [List.length_set]; exact h.1, h.2.1, fun i x hx => ?_⟩
  have hsz : (u.setCell ⟨g, k * 2 + 1, none⟩ (.int .i64 z)).heap.size = u.heap.size := by simp [World.setCell]
  by_cases hi : i = k
  · subst hi
    have hlt := (List.getElem?_eq_some_iff.1 he).1
    rw [List.getElem?_set_self hlt] at hx
    obtain rfl : (⟨e.kind, z⟩ : Ev) = x := by simpa using hx
    obtain ⟨b, o, e1, h2, h3, h4⟩ := h.2.2 i e he
    cases e1
    simp only [Nat.zero_add] at h3 h4
    refine ⟨g, 0, rfl, by rw [hsz]; exact h2, ?_, ?_⟩
    · rw [Nat.zero_add, cell_set h3, if_neg (by omega)]
    · rw [Nat.zero_add, cell_set h4, if_pos ⟨rfl, rfl⟩]
  · rw [List.getElem?_set_ne (fun e => hi e.symm)] at hx
    obtain ⟨b, o, e1, h2, h3, h4⟩ := h.2.2 i x hx
    cases e1
    simp only [Nat.zero_add] at h3 h4
    refine ⟨g, 0, rfl, by rw [hsz]; exact h2, ?_, ?_⟩
    · rw [Nat.zero_add, cell_set h3, if_neg (by omega)]
    · rw [Nat.zero_add, cell_set h4, if_neg (by omega)]
theorem EvL.keep {u u' : World} {es : List Ev} {a : Option Addr} {c : Nat} (h : EvL u es a c) (hz : u.heap.size ≤ u'.heap.size) (hs : ∀ b o, a = some ⟨b, o, none⟩ → u'.heap[b]? = u.heap[b]?) : EvL u' es a c :=
  ⟨h.1, h.2.1, fun i x hx => by
    obtain ⟨b, o, e1, h2, h3, h4⟩ := h.2.2 i x hx
    exact ⟨b, o, e1, by omega, (World.cell?_of_block (w := u) (hs b o e1)).trans h3, (World.cell?_of_block (w := u) (hs b o e1)).trans h4⟩⟩
theorem TS.two {w u : World} {B m lo lo2 n n' : Nat} {a a' : Option Addr} {c c' : Nat} {es es2 : List (Int × Int)} (h : TS w B m lo lo2 (.slice a n c) (.slice a' n' c') es es2 u) (h1 : es.length = n) (h2 : es2.length = n') : EvL u (evs es) a c ∧ EvL u (evs es2) a' c' := by
  subst h1 h2
  exact ⟨h.r1.evl, h.r2.evl⟩

set_option maxRecDepth 100000 in
set_option maxHeartbeats 4000000 in
theorem drTraceSame (a : Option Addr) (len cap : Nat) (zs : List Int) (w : World) (hrow : IsRow .u8 w a len cap zs) : Calls Try.prog 25 #[.slice a len cap] w (DrTP w) := by
  have HROW := Lib.hid hrow
  clear hrow
  go_enter Try.func25, Try.ntmps25
  go_wp2_with fail
  with_reducible refine (open_one a len cap zs w HROW.out).mono ?_
  rintro f u0 ⟨a', len', cap', rfl, hb0, hr0⟩
  have hr0' : RdU u0 w.heap.size 0 := ⟨a', len', cap', 0, hr0, Nat.le_refl _⟩
  have HR0 := Lib.hid hr0'
  have HB0 := Lib.hid hb0
  have hlt0 := hr0'.lt
  clear hr0 hr0' hb0
  go_wp2_with fail
  with_reducible refine (l3Trace_one w.heap.size 0 u0 HR0.out (by omega)).mono ?_
  rintro f u1 ⟨ta, tc, es, rfl, hre, hen, hr1, ho1, hb1⟩
  have hz1 := hb1.size
  obtain ⟨en, henq⟩ : ∃ en, es.length = en := ⟨_, rfl⟩
  rw [henq] at hre hen
  simp only [henq]
  have HEN := Lib.hid henq
  have HRE := Lib.hid (show RowEv u1 u0.heap.size (.slice ta en tc) es from hre)
  have HR1 := Lib.hid hr1
  have HB1 := Lib.hid (HB0.out.trans hb1)
  have HROW0 : Hid (RowEv (u1.alloc (.cells #[] 29)) u1.heap.size (.slice (some ⟨u1.heap.size, 0, none⟩) 0 0) []) := RowEv.made u1 u1.heap.size (Nat.le_refl _)
  have HRE1 : Hid (RowEv (u1.alloc (.cells #[] 29)) u0.heap.size (.slice ta en tc) es) := HRE.out.stand fun g _ hg => Below.heap_alloc _ _ _ hg
  clear hre hr1 ho1 hb1 henq
  go_wp2_with (at_builtin; refine wpList_appE (by rfl) _ _ (by rfl) u1.heap.size u0.heap.size u1.heap.size 0 0 [] es (by rfl) (by rfl) HROW0.out ta en tc HEN.out (by rfl) HRE1.out (by omega) (by simp) ?_; rintro v w5 ⟨a5, c5, rfl, h5, hg5, ho5⟩)
  rw [List.nil_append] at h5 ho5
  have hb5 : Below u1.heap.size (u1.alloc (.cells #[] 29)) w5 := (Below.refl _ _).grown hg5 (by simp) (fun k e => by cases e; exact Nat.le_refl _)
  have hb5' : Below u1.heap.size u1 w5 := Below.trans ((Below.refl _ u1).alloc (Nat.le_refl _) _) hb5
  have hBu : w.heap.size < u1.heap.size := by omega
  have HTS : Hid (TS w w.heap.size 6000100 u0.heap.size u1.heap.size (.slice ta en tc) (.slice a5 es.length c5) es es w5) := by
    refine ⟨(HR1.out.below hb5' HR1.out.lt).mono (by omega), HB1.out.trans (hb5'.mono (by omega)), HRE.out.stand fun g _ hg => hb5'.block g hg, h5, hlt0, hz1, ?_⟩
    cases hq : (Value.slice ta en tc).ownBlock with
    | none => exact .inr rfl
    | some g =>
      left
      have h9 := (HRE.out.lt g hq).2
      rcases ho5 with e | e <;> rw [e] <;> intro e2 <;> cases e2 <;> simp at h9 <;> omega
  clear h5 hg5 ho5 hb5 hb5' HRE HRE1 HROW0 HB1 HR1
  with_reducible refine (pickU w.heap.size 6000100 4 w5 HTS.out.rd (by omega) (by omega) (by omega)).mono ?_
  rintro f u2 ⟨v, ⟨hv0, hv4⟩, rfl, hr2, ho2, hb2⟩
  have HT2 := Lib.hid (HTS.out.call hr2 ho2 hb2)
  clear hr2 ho2 hb2 HTS
  simp only [HEN.out]
  have HT2' : Hid (TS w w.heap.size 6000101 u0.heap.size u1.heap.size (.slice ta en tc) (.slice a5 en c5) es es u2) := by have h := HT2.out; rw [HEN.out] at h; exact h
  clear HT2
  obtain ⟨hl1, hl2⟩ := HT2'.out.two HEN.out HEN.out
  have hc5 : en ≤ c5 := by have h := hl2.1; rw [evs_len, HEN.out] at h; exact h
  have hmc : c5 ≤ maxLen := hl2.2.1
  have HFIN : Hid (DrTP w (.returned (.tuple #[.slice ta en tc, .slice a5 en c5])) u2) :=
    ⟨evs es, evs es, ta, a5, tc, c5, by rw [evs_len, HEN.out], hl1, hl2, by rw [evs_len, HEN.out]; exact hen, by rw [evs_len, HEN.out]; exact hen, HT2'.out.bel⟩
  have HL1 := Lib.hid hl1
  have HL2 := Lib.hid hl2
  clear hl1 hl2
  by_cases h0 : v = 0
  · subst h0
    go_wp2_with fail
    with_reducible refine (l3Trace_one w.heap.size 6000101 u2 HT2'.out.rd (by omega)).mono ?_
    rintro f u3 ⟨ua, uc, fs, rfl, hre3, hfn3, hr3, ho3, hb3⟩
    have HF3 : Hid (DrTP w (.returned (.tuple #[.slice ta en tc, .slice ua fs.length uc])) u3) := by
      have ht3 := HT2'.out.call hr3 ho3 hb3
      have hl3 := (ht3.two HEN.out HEN.out).1
      exact ⟨evs es, evs fs, ta, ua, tc, uc, by rw [evs_len, HEN.out, evs_len], hl3, hre3.evl, by rw [evs_len, HEN.out]; exact hen, by rw [evs_len]; exact hfn3, ht3.bel⟩
    clear hre3 hr3 ho3 hb3
    go_wp2_with fail
    go_ret2
    exact HF3.out
  by_cases h1 : v = 1
  · subst h1
    by_cases hn : en = 0
    · subst hn
      go_wp2_with fail
      go_ret2
      exact HFIN.out
    · go_wp2_with fail
      with_reducible refine (pickU w.heap.size 6000101 en u2 HT2'.out.rd (by omega) (by omega) (by omega)).mono ?_
      rintro f u3 ⟨x, ⟨hx0, hxn⟩, rfl, hr3, ho3, hb3⟩
      have HT3 := Lib.hid (HT2'.out.call hr3 ho3 hb3)
      obtain ⟨xn, rfl⟩ := Int.eq_ofNat_of_zero_le hx0
      clear hr3 ho3 hb3 HT2' HL1 HL2 HFIN
      go_wp2_with fail
      with_reducible refine (l3Value_one w.heap.size 6000102 u3 HT3.out.rd (by omega)).mono ?_
      rintro f u4 ⟨z, hz, rfl, hr4, ho4, hb4⟩
      have HT4 := Lib.hid (HT3.out.call hr4 ho4 hb4)
      clear hr4 ho4 hb4 HT3
      obtain ⟨k1, k2⟩ := HT4.out.two HEN.out HEN.out
      have hxl : xn < (evs es).length := by rw [evs_len, HEN.out]; omega
      have hxe : (evs es)[xn]? = some (evs es)[xn] := List.getElem?_eq_getElem hxl
      obtain ⟨g, cur, rfl, hgb, hgl, hcs⟩ : ∃ g cur, a5 = some ⟨g, 0, none⟩ ∧ u4.heap[g]? = some (.cells cur 29 (0, 0)) ∧ u1.heap.size ≤ g ∧ cur.size = c5 * 2 := by
        rcases HT4.out.r2.flat.2 with ⟨e1, e2⟩ | ⟨g, cap, cur, e1, e2, e3, e4, e5, e6, _⟩
        · rw [HEN.out] at e2; exact absurd e2 hn
        · cases e1; exact ⟨g, cur, rfl, e3, e2, e6⟩
      have hfr := frozen_at hgb (xn * 2 + 1)
      obtain ⟨y1, hy1⟩ := cell_ex hgb (xn * 2 + 1) (by omega)
      have hF4 : Hid (DrTP w (.returned (.tuple #[.slice ta en tc, .slice (some ⟨g, 0, none⟩) en c5])) (u4.setCell ⟨g, xn * 2 + 1, none⟩ (.int .i64 z))) := by
        have hsz : (u4.setCell ⟨g, xn * 2 + 1, none⟩ (.int .i64 z)).heap.size = u4.heap.size := by simp [World.setCell]
        refine ⟨evs es, (evs es).set xn ⟨((evs es)[xn]).kind, z⟩, ta, some ⟨g, 0, none⟩, tc, c5, by rw [evs_len, HEN.out, List.length_set, evs_len, HEN.out], k1.keep (by rw [hsz]; exact Nat.le_refl _) fun b o e => ?_, k2.setVal xn z _ hxe, by rw [evs_len, HEN.out]; exact hen, by rw [List.length_set, evs_len, HEN.out]; exact hen, HT4.out.bel.setCell (p := ⟨g, xn * 2 + 1, none⟩) (by show _ ≤ g; omega) _⟩
        refine Below.heap_setCell _ _ _ _ ?_
        rcases HT4.out.fr with h | h
        · intro e3
          apply h
          have e3 : b = g := e3
          rw [e, e3]
          rfl
        · rw [e] at h; cases h
      have HF4 := Lib.hid hF4
      clear k1 k2 hxe hgb HT4 hF4
      go_wp2_with fail
      go_ret2
      exact HF4.out
  by_cases h2 : v = 2
  · subst h2
    by_cases hn : en = 0
    · subst hn
      go_wp2_with fail
      go_ret2
      exact HFIN.out
    · have hk : ((en : Int) - 1).toNat = en - 1 := by omega
      have hle : en - 1 ≤ c5 := by omega
      have HF3 : Hid (DrTP w (.returned (.tuple #[.slice ta en tc, .slice a5 (en - 1) c5])) u2) := by
        have h9 : ((evs es).take (en - 1)).length = en - 1 := by rw [List.length_take, evs_len, HEN.out]; omega
        exact ⟨evs es, (evs es).take (en - 1), ta, a5, tc, c5, by rw [evs_len, HEN.out, h9], HL1.out, HL2.out.take _, by rw [evs_len, HEN.out]; exact hen, by rw [h9]; omega, HT2'.out.bel⟩
      go_wp2_with fail
      go_ret2
      exact HF3.out
  go_wp2_with fail
  go_ret2
  exact HFIN.out

theorem drFirstDifference (a : Option Addr) (len cap : Nat) (zs : List Int) (w : World) (hrow : IsRow .u8 w a len cap zs) : Calls Try.prog 7 #[.slice a len cap] w (DrTP w) := by
  have HROW := Lib.hid hrow
  clear hrow
  go_enter Try.func7, Try.ntmps7
  go_wp2_with fail
  with_reducible refine (drTraceSame a len cap zs w HROW.out).mono ?_
  rintro f u ⟨es, fs, ta, ua, tc, uc, rfl, h⟩
  have HF : Hid (DrTP w (.returned (.tuple #[.slice ta es.length tc, .slice ua fs.length uc])) u) := ⟨es, fs, ta, ua, tc, uc, rfl, h⟩
  clear h
  go_wp2_with fail
  go_ret2
  exact HF.out

end Go.Proofs.Ytjmfnpljkiobkaa

namespace Go.Proofs.Ytjmfnpljkiobkaa
open Go.RowKit
set_option linter.unusedVariables false

/-- The answer, and nothing but draws. -/
def QN (b : Bool) (w : World) (e : Ending) (w' : World) : Prop := e = .returned (.bool b) ∧ ∃ m, w' = w.drewN m
theorem QN.of1 {b c : Bool} (h : b = c) (w : World) (m : Nat) : QN c w (.returned (.bool b)) (w.drewN m) := ⟨by rw [h], m, rfl⟩
theorem QN.of2 {b c : Bool} (h : b = c) (w : World) (m n : Nat) : QN c w (.returned (.bool b)) ((w.drewN m).drewN n) := ⟨by rw [h], m + n, by rw [World.drewN_drewN]⟩
theorem QN.of0 {b c : Bool} (h : b = c) (w : World) : QN c w (.returned (.bool b)) w := ⟨by rw [h], 0, rfl⟩

set_option maxHeartbeats 2000000 in
/-- slices.Equal at events. -/
theorem slEqEvQ (es fs : List Ev) (a a' : Option Addr) (cap cap' : Nat) (w : World) (h : EvL w es a cap) (h' : EvL w fs a' cap') :
    Calls Try.prog 26 #[.slice a es.length cap, .slice a' fs.length cap'] w (QN (decide (es = fs)) w) := by
  have hc := Nat.le_trans h.1 h.2.1
  have hc' := Nat.le_trans h'.1 h'.2.1
  unfold maxLen at hc hc'
  have H : Hid (∀ k, k < es.length → k < fs.length → ∃ x y b o b' o', es[k]? = some x ∧ fs[k]? = some y ∧ a = some ⟨b, o, none⟩ ∧ a' = some ⟨b', o', none⟩ ∧
      w.cell? ⟨b, o + k * 2, none⟩ = some (.int .i64 x.kind) ∧ w.cell? ⟨b, o + k * 2 + 1, none⟩ = some (.int .i64 x.value) ∧
      w.cell? ⟨b', o' + k * 2, none⟩ = some (.int .i64 y.kind) ∧ w.cell? ⟨b', o' + k * 2 + 1, none⟩ = some (.int .i64 y.value)) := fun k hk hk' => EvAt.two h h' hk hk'
  clear h h'
  obtain ⟨n, hn⟩ : ∃ n, es.length = n := ⟨_, rfl⟩
  obtain ⟨n', hn'⟩ : ∃ n', fs.length = n' := ⟨_, rfl⟩
  have HN := Lib.hid hn
  have HN' := Lib.hid hn'
  rw [hn] at hc H ⊢
  rw [hn'] at hc' H ⊢
  clear hn hn'
  by_cases hnn : n = n'
  · subst hnn
    go_enter Try.func26, Try.ntmps26
    go_wp2
    go_loopw [13] (fun i wr => ∃ k m : Nat, k ≤ n ∧ i = .int .i64 k ∧ SameUp es fs k ∧ wr = w.drewN m) (fun i _ => n - (intOf i).toNat)
    case atStart => exact ⟨0, 0, Nat.zero_le _, rfl, fun j hj => absurd hj (Nat.not_lt_zero _), rfl⟩
    case round =>
      obtain ⟨k, m, hk, rfl, hS, rfl⟩ := hrel
      have HS := Lib.hid hS
      clear hS
      by_cases hlt : k < n
      · obtain ⟨x, y, b, o, b', o', hx, hy, rfl, rfl, d0, d1, e0, e1⟩ := H.out k (by omega) (by omega)
        have HX := Lib.hid hx
        have HY := Lib.hid hy
        clear hx hy H
        by_cases hxy : x = y
        · subst hxy
          have HS2 : Hid (SameUp es fs (k + 1)) := HS.out.succ (by rw [HX.out, HY.out])
          go_wp2
          go_quiet (fail)
          go_wp2
          go_roundw
          case rel => exact ⟨k + 1, _, by omega, by go_num, HS2.out, rfl⟩
          case measure => simp [intOf]; omega
        · have HNE : Hid (false = decide (es = fs)) := (decide_eq_false fun e => hxy (by have h1 := HX.out; rw [e, HY.out] at h1; cases h1; rfl)).symm
          rcases ev_ne hxy with h1 | ⟨h1, h2⟩
          all_goals
            clear hxy
            go_wp2
            go_quiet (fail)
            go_wp2
            go_ret
            exact QN.of2 HNE.out w _ _
      · obtain rfl : k = n := by omega
        clear H
        have HE : Hid (true = decide (es = fs)) := (decide_eq_true (HS.out.all HN.out HN'.out)).symm
        go_wp2
        go_ret
        exact QN.of1 HE.out w _
  · have hne : ((n : Int) != (n' : Int)) = true := by simp; omega
    have HNE : Hid (false = decide (es = fs)) := (decide_eq_false fun e => hnn (by rw [← HN.out, ← HN'.out, e])).symm
    clear H
    go_enter Try.func26, Try.ntmps26
    go_wp2
    go_ret
    exact QN.of0 HNE.out w

set_option maxHeartbeats 2000000 in
/-- **impl.TraceSame.** -/
theorem iTSQ (es fs : List Ev) (a a' : Option Addr) (cap cap' : Nat) (w : World) (h : EvL w es a cap) (h' : EvL w fs a' cap') :
    Calls Try.prog 10 #[.slice a es.length cap, .slice a' fs.length cap'] w (QN (decide (es = fs)) w) := by
  have HH := Lib.hid h
  have HH' := Lib.hid h'
  clear h h'
  obtain ⟨q, hq⟩ : ∃ q, decide (es = fs) = q := ⟨_, rfl⟩
  go_enter Try.func10, Try.ntmps10
  go_wp2_with fail
  refine (slEqEvQ es fs a a' cap cap' _ HH.out HH'.out).mono ?_
  rintro e w1 ⟨rfl, m, rfl⟩
  rw [hq]
  go_wp2_with fail
  go_ret
  exact QN.of1 (b := q) hq.symm w _

end Go.Proofs.Ytjmfnpljkiobkaa

namespace Go.Proofs.Ytjmfnpljkiobkaa
open Go.RowKit
set_option linter.unusedVariables false

theorem IsFD.symm {es fs : List Ev} {v : Int} (h : IsFD es fs v) : IsFD fs es v := by
  rcases h with ⟨k, rfl, h1, h2⟩ | ⟨rfl, rfl⟩
  · exact .inl ⟨k, rfl, fun j hj => (h1 j hj).symm, fun e => h2 e.symm⟩
  · exact .inr ⟨rfl, rfl⟩
theorem IsFD.len {es fs : List Ev} {k : Nat} (h1 : SameUp es fs k) (h2 : es[k]? ≠ fs[k]?) : k ≤ es.length ∧ k ≤ fs.length := by
  constructor
  · apply Classical.byContradiction
    intro hc
    have h3 := h1 es.length (by omega)
    rw [List.getElem?_eq_none (Nat.le_refl _)] at h3
    have h4 : fs.length ≤ es.length := by
      apply Classical.byContradiction
      intro h5
      rw [List.getElem?_eq_getElem (by omega)] at h3
      cases h3
    exact h2 (by rw [List.getElem?_eq_none (by omega), List.getElem?_eq_none (by omega)])
  · apply Classical.byContradiction
    intro hc
    have h3 := h1 fs.length (by omega)
    rw [List.getElem?_eq_none (l := fs) (Nat.le_refl _)] at h3
    have h4 : es.length ≤ fs.length := by
      apply Classical.byContradiction
      intro h5
      rw [List.getElem?_eq_getElem (by omega)] at h3
      cases h3
    exact h2 (by rw [List.getElem?_eq_none (by omega), List.getElem?_eq_none (by omega)])
theorem SameUp.take {es fs : List Ev} {k : Nat} (h : SameUp es fs k) : es.take k = fs.take k := by
  apply List.ext_getElem?
  intro i
  rw [List.getElem?_take, List.getElem?_take]
  split
  · rename_i hi; exact h i hi
  · rfl

set_option maxRecDepth 100000 in
set_option maxHeartbeats 4000000 in
theorem law_FnFirstDifference (a : Option Addr) (len cap : Nat) (zs : List Int) (w : World) (hrow : IsRow .u8 w a len cap zs) :
    Calls Try.prog 3 #[.slice a len cap] w (YN true w) := by
  have HROW := Lib.hid hrow
  clear hrow
  go_enter Try.func3, Try.ntmps3
  by_cases hlen : len > 1048576
  · go_wp2_with fail
    go_ret
    exact YN.of rfl (Below.refl _ _)
  go_wp2_with fail
  with_reducible refine (drFirstDifference a len cap zs w HROW.out).mono ?_
  rintro f w1 ⟨es, fs, ta, ua, tc, uc, rfl, hl1, hl2, hn1, hn2, hb1⟩
  have HE : Hid (∀ v, Below w1.heap.size w1 v → EvL v es ta tc) := fun v hv => hl1.below hv
  have HF : Hid (∀ v, Below w1.heap.size w1 v → EvL v fs ua uc) := fun v hv => hl2.below hv
  have hm := Nat.le_trans hl1.1 hl1.2.1
  have hm' := Nat.le_trans hl2.1 hl2.2.1
  have hc1 := hl1.1
  have hc2 := hl2.1
  have HB := Lib.hid hb1
  clear hl1 hl2 hb1
  go_wp2_with fail
  refine (iFD_one es fs ta ua tc uc w1 (HE.out _ (Below.refl _ _)) (HF.out _ (Below.refl _ _))).mono ?_
  rintro f w2 ⟨v, rfl, hv, hb2⟩
  have HV := Lib.hid hv
  have HB2 := Lib.hid hb2
  clear hv hb2
  go_wp2_with fail
  refine (sFD_one es fs ta ua tc uc w2 (HE.out _ HB2.out) (HF.out _ HB2.out)).mono ?_
  rintro f w3 ⟨u, rfl, hu, hb3⟩
  obtain rfl := HV.out.one hu
  have HB3 := Lib.hid (HB2.out.trans (hb3.mono HB2.out.size))
  clear hu hb3 HB2
  go_wp2_with fail
  refine (iFD_one fs es ua ta uc tc w3 (HF.out _ HB3.out) (HE.out _ HB3.out)).mono ?_
  rintro f w4 ⟨u, rfl, hu, hb4⟩
  obtain rfl := HV.out.symm.one hu
  have HB4 := Lib.hid (HB3.out.trans (hb4.mono HB3.out.size))
  clear hu hb4 HB3
  go_wp2_with fail
  refine (iTS_one es fs ta ua tc uc w4 (HE.out _ HB4.out) (HF.out _ HB4.out)).mono ?_
  rintro f w5 ⟨rfl, hb5⟩
  have HB5 := Lib.hid (HB4.out.trans (hb5.mono HB4.out.size))
  clear hb5 HB4
  rcases HV.out with ⟨k, rfl, hs, hn⟩ | ⟨rfl, he⟩
  · have hq : decide (es = fs) = false := by rw [← HV.out.nil]; exact decide_eq_false (by omega)
    have hk1 : ((k : Int) == -1) = false := by simp
    obtain ⟨hk2, hk3⟩ := IsFD.len hs hn
    have HS := Lib.hid hs
    have HNE := Lib.hid hn
    rw [hq]
    clear hs hn
    go_wp2_with fail
    refine (iTS_one es fs ta ua tc uc w5 (HE.out _ HB5.out) (HF.out _ HB5.out)).mono ?_
    rintro f w6 ⟨rfl, hb6⟩
    have HB6 := Lib.hid (HB5.out.trans (hb6.mono HB5.out.size))
    clear hb6 HB5
    rw [hq]
    go_wp2_with fail
    refine (sTS_one es fs ta ua tc uc w6 (HE.out _ HB6.out) (HF.out _ HB6.out)).mono ?_
    rintro f w7 ⟨rfl, hb7⟩
    have HB7 := Lib.hid (HB6.out.trans (hb7.mono HB6.out.size))
    clear hb7 HB6
    rw [hq]
    have HTS : Hid (∀ m, Calls Try.prog 10 #[.slice ta k tc, .slice ua k uc] (w7.drewN m) (QN true (w7.drewN m))) := fun m => by
      have hv := below_drewNe HB7.out m
      have h1 := iTSQ (es.take k) (fs.take k) ta ua tc uc _ ((HE.out _ hv).take k) ((HF.out _ hv).take k)
      rw [List.length_take, List.length_take, Nat.min_eq_left hk2, Nat.min_eq_left hk3, HS.out.take, decide_eq_true rfl] at h1
      exact h1
    have HFIN : Hid (∀ v, Below w7.heap.size w7 v → YN true w (.returned (.bool true)) v) := fun v hv => YN.of rfl (HB.out.trans ((HB7.out.trans (hv.mono HB7.out.size)).mono HB.out.size))
    obtain ⟨n, hn⟩ : ∃ n, es.length = n := ⟨_, rfl⟩
    obtain ⟨n', hn'⟩ : ∃ n', fs.length = n' := ⟨_, rfl⟩
    have HN := Lib.hid hn
    have HN' := Lib.hid hn'
    rw [hn] at hn1 hm hc1 hk2
    rw [hn'] at hn2 hm' hc2 hk3
    simp only [hn, hn']
    clear hn hn' hq
    have hi0 : (0 : Int) ≤ (k : Int) := by omega
    have hi1 : (k : Int) ≤ (n : Int) := by omega
    have hi2 : (k : Int) ≤ (n' : Int) := by omega
    have hi3 : (k : Int) ≤ (tc : Int) := by omega
    have hi4 : (k : Int) ≤ (uc : Int) := by omega
    have hd1 : decide ((k : Int) ≤ (n : Int)) = true := decide_eq_true hi1
    have hd2 : decide ((k : Int) ≤ (n' : Int)) = true := decide_eq_true hi2
    have hqk : ¬ ((k : Int) < 0) := by omega
    by_cases hz1 : k = n
    · subst hz1
      go_wp2_with fail
      go_quiet ((go_at_call 10; exact Calls.quiet_of (HTS.out _)))
      go_wp2_with fail
      go_ret
      exact HFIN.out _ (below_drewNe (Below.refl _ _) _)
    have hc1' : ((k : Int) == (n : Int)) = false := by simp; omega
    by_cases hz2 : k = n'
    · subst hz2
      go_wp2_with fail
      go_quiet ((go_at_call 10; exact Calls.quiet_of (HTS.out _)))
      go_wp2_with fail
      go_ret
      exact HFIN.out _ (below_drewNe (Below.refl _ _) _)
    have hc2' : ((k : Int) == (n' : Int)) = false := by simp; omega
    obtain ⟨x, y, b, o, b', o', hx, hy, rfl, rfl, d0, d1, e0, e1⟩ := EvAt.two (HE.out w1 (Below.refl _ _)) (HF.out w1 (Below.refl _ _)) (k := k) (by rw [HN.out]; omega) (by rw [HN'.out]; omega)
    have hxy : x ≠ y := by
      intro e
      apply HNE.out
      rw [hx, hy, e]
    have hlx : b < w1.heap.size := World.block_lt_of_cell? w1 _ d0
    have hly : b' < w1.heap.size := World.block_lt_of_cell? w1 _ e0
    have HS : Hid (∀ v, Below w1.heap.size w1 v → v.cell? ⟨b, o + k * 2, none⟩ = some (.int .i64 x.kind) ∧ v.cell? ⟨b, o + k * 2 + 1, none⟩ = some (.int .i64 x.value) ∧ v.cell? ⟨b', o' + k * 2, none⟩ = some (.int .i64 y.kind) ∧ v.cell? ⟨b', o' + k * 2 + 1, none⟩ = some (.int .i64 y.value)) := fun v hv =>
      ⟨(hv.cell (p := ⟨b, o + k * 2, none⟩) hlx).trans d0, (hv.cell (p := ⟨b, o + k * 2 + 1, none⟩) hlx).trans d1, (hv.cell (p := ⟨b', o' + k * 2, none⟩) hly).trans e0, (hv.cell (p := ⟨b', o' + k * 2 + 1, none⟩) hly).trans e1⟩
    clear d0 d1 e0 e1 hx hy
    obtain ⟨d0, d1, e0, e1⟩ := HS.out w7 HB7.out
    have hj1 : (k : Int) < (n : Int) := by omega
    have hj2 : (k : Int) < (n' : Int) := by omega
    rcases ev_ne hxy with h1 | ⟨h1, h2⟩
    all_goals
      clear hxy hz1 hz2
      go_wp2_with fail
      go_quiet ((go_at_call 10; exact Calls.quiet_of (HTS.out _)))
      go_wp2_with fail
      go_ret
      exact HFIN.out _ (below_drewNe (Below.refl _ _) _)
  · have hq : decide (es = fs) = true := decide_eq_true he
    rw [hq]
    subst he
    go_wp2_with fail
    refine (iTS_one es es ta ua tc uc w5 (HE.out _ HB5.out) (HF.out _ HB5.out)).mono ?_
    rintro f w6 ⟨rfl, hb6⟩
    have HB6 := Lib.hid (HB5.out.trans (hb6.mono HB5.out.size))
    clear hb6 HB5
    rw [decide_eq_true rfl]
    go_wp2_with fail
    refine (sTS_one es es ta ua tc uc w6 (HE.out _ HB6.out) (HF.out _ HB6.out)).mono ?_
    rintro f w7 ⟨rfl, hb7⟩
    have HB7 := Lib.hid (HB6.out.trans (hb7.mono HB6.out.size))
    clear hb7 HB6
    rw [decide_eq_true rfl]
    go_wp2_with fail
    go_ret
    exact YN.of (by simp) (HB.out.trans (HB7.out.mono HB.out.size))

end Go.Proofs.Ytjmfnpljkiobkaa

/- The values of a memory are valid. -/
import Derived.Test.YtgfagdjadmpklaaL3N
import Derived.Test.YtgfagdjadmpklaaCpM
import Derived.Test.YtgfagdjadmpklaaL3M
import Derived.Test.YtgfagdjadmpklaaDrQ
import Derived.Test.YtgfagdjadmpklaaL3E
import Derived.Maps.AppendAt
import Derived.Laws.OwnMore
import Derived.Test.YtgfagdjadmpklaaEv
import Derived.Laws.StructEq
import Derived.Test.YtgfagdjadmpklaaRowB
import Derived.Deep.RegionLaw
namespace Go.Proofs.Ytgfagdjadmpklaa
open Go.RowKit
set_option linter.unusedVariables false

set_option maxRecDepth 100000 in
set_option maxHeartbeats 1000000 in
theorem l3Values_one (lo hi n c : Nat) (a : Option Addr) (w : World) (h : RI w lo hi a n) (hn : n ≤ 1048576) :
    Calls Try.prog 117 #[.slice a n c] w fun e w' => e = .returned (.bool true) ∧ w' = w := by
  have HRI := Lib.hid h
  clear h
  go_enter Try.func117, Try.ntmps117
  go_wp2_with fail
  go_loopw [3] (fun i wr => ∃ j : Nat, i = .int .i64 (j : Int) ∧ j ≤ n ∧ wr = w) (fun i _ => n - (intOf i).toNat)
  case atStart => exact ⟨0, rfl, by omega, rfl⟩
  case round =>
    obtain ⟨j, rfl, hj, rfl⟩ := hrel
    by_cases hlt : j < n
    · obtain ⟨b, o, z, rfl, _, _, hc, hz0, hz1, _⟩ := HRI.out j hlt
      have hd0 : ¬ z < 0 := by omega
      have hd1 : ¬ z > 255 := by omega
      go_wp2_with fail
      go_roundw
      case rel => exact ⟨j + 1, by go_num, by omega, by trivial⟩
      case measure => simp [intOf]; omega
    · have hjn : j = n := by omega
      subst hjn
      go_wp2_with fail
      go_ret
      exact ⟨rfl, rfl⟩


set_option maxRecDepth 100000 in
set_option maxHeartbeats 1000000 in
theorem l3Fits_one (lo hi nv na nb pvc pac pbc vc ac : Nat) (pv pa pb va aa : Option Addr) (w : World) (h : RM w lo hi nv na va aa) (hhi : hi ≤ w.heap.size) (hnv : nv ≤ 1048576) (hna : na ≤ 2) :
    Calls Try.prog 109 #[aggPr pv pa pb nv na nb pvc pac pbc, aggMm va aa nv na vc ac] w fun e w' => e = .returned (.bool true) ∧ Below w.heap.size w w' := by
  obtain ⟨W1, hW1⟩ : ∃ W, w.alloc (.cells #[.slice pv nv pvc, .slice pa na pac, .slice pb nb pbc] 55) = W := ⟨_, rfl⟩
  obtain ⟨W, hW⟩ : ∃ W, W1.alloc (.cells #[.slice va nv vc, .slice aa na ac] 26) = W := ⟨_, rfl⟩
  have hz1 : W1.heap.size = w.heap.size + 1 := by rw [← hW1]; simp
  have hB : Below w.heap.size w W := by rw [← hW, ← hW1]; exact ((Below.refl _ w).alloc (Nat.le_refl _) _).alloc (by simp) _
  have e1 : W.heap[w.heap.size + 1]? = some (.cells #[.slice va nv vc, .slice aa na ac] 26 (0, 0)) := by rw [← hW, ← hz1]; exact heap_alloc_new W1 _
  have hrm : RM W lo hi nv na va aa := h.stand fun b _ hb => hB.block b (by omega)
  have HRM := Lib.hid hrm
  have HB := Lib.hid hB
  have q0 : W.cell? ⟨w.heap.size + 1, 0, none⟩ = some (.slice va nv vc) := by rw [cell_at e1]; rfl
  have q1 : W.cell? ⟨w.heap.size + 1, 1, none⟩ = some (.slice aa na ac) := by rw [cell_at e1]; rfl
  have hWW : (w.alloc (.cells #[.slice pv nv pvc, .slice pa na pac, .slice pb nb pbc] 55)).alloc (.cells #[.slice va nv vc, .slice aa na ac] 26) = W := by rw [hW1, hW]
  have HW := Lib.hid hWW
  clear h hrm hB hW hW1 e1 hz1 hWW
  show Calls Try.prog 109 #[.agg #[.slice pv nv pvc, .slice pa na pac, .slice pb nb pbc], .agg #[.slice va nv vc, .slice aa na ac]] w fun e w' => e = .returned (.bool true) ∧ Below w.heap.size w w'
  go_enter Try.func109, Try.ntmps109
  go_wp2_with fail
  rw [HW.out]
  refine (l3Values_one lo hi nv vc va W HRM.out.vals hnv).mono ?_
  rintro f u ⟨rfl, hu⟩
  obtain rfl : W = u := hu.symm
  go_wp2_with fail
  go_loopw [5] (fun i wr => ∃ j : Nat, i = .int .i64 (j : Int) ∧ j ≤ na ∧ wr = W) (fun i _ => na - (intOf i).toNat)
  case atStart => exact ⟨0, rfl, by omega, rfl⟩
  case round =>
    obtain ⟨j, rfl, hj, hwr⟩ := hrel
    obtain rfl : W = wr := hwr.symm
    by_cases hlt : j < na
    · obtain ⟨ba, oa, av, c4, rfl, _, _, hca, hc4, hcm, hri⟩ := HRM.out.arrs j hlt
      go_wp2_with fail
      refine (l3Values_one lo hi 4 c4 av W hri (by omega)).mono ?_
      rintro f u ⟨rfl, hu⟩
      obtain rfl : W = u := hu.symm
      go_wp2_with fail
      go_roundw
      case rel => exact ⟨j + 1, by go_num, by omega, by trivial⟩
      case measure => simp [intOf]; omega
    · have hjn : j = na := by omega
      subst hjn
      go_wp2_with fail
      go_ret
      exact ⟨rfl, HB.out⟩

end Go.Proofs.Ytgfagdjadmpklaa

namespace Go.Proofs.Ytgfagdjadmpklaa
open Go.RowKit
set_option linter.unusedVariables false

set_option maxRecDepth 100000 in
set_option maxHeartbeats 1000000 in
theorem sMemoryValid_one (p : Pg) (k : PC) (n lo hi vc ac : Nat) (D : Nat → Prop) (va aa : Option Addr) (w : World) (hp : IsP w D n p k) (hl : ∀ k, D k → k < w.heap.size) (hv : progV p = true) (h : RM w lo hi p.vars.length p.arrs.length va aa) (hhi : hi ≤ w.heap.size) (hnv : p.vars.length ≤ 5) (hna : p.arrs.length ≤ 2) :
    Calls Try.prog 101 #[aggP p k, aggMm va aa p.vars.length p.arrs.length vc ac] w (AnsB true w) := by
  obtain ⟨W, hW⟩ : ∃ W, (w.alloc (.cells #[.slice k.va p.vars.length k.vc, .slice k.aa p.arrs.length k.ac, .slice k.ba p.body.length k.bc] 55)).alloc (.cells #[.slice va p.vars.length vc, .slice aa p.arrs.length ac] 26) = W := ⟨_, rfl⟩
  have hB : Below w.heap.size w W := by rw [← hW]; exact ((Below.refl _ w).alloc (Nat.le_refl _) _).alloc (by simp) _
  have hz : W.heap.size = w.heap.size + 2 := by rw [← hW]; simp
  have e0 : BoxP W w.heap.size p k := by
    rw [← hW]; exact (BoxP.new w p k _).later (Below.heap_alloc _ _ _ (by simp))
  have e1 : W.heap[w.heap.size + 1]? = some (.cells #[.slice va p.vars.length vc, .slice aa p.arrs.length ac] 26 (0, 0)) := by
    have e1 := heap_alloc_new (w.alloc (.cells #[.slice k.va p.vars.length k.vc, .slice k.aa p.arrs.length k.ac, .slice k.ba p.body.length k.bc] 55)) (.cells #[.slice va p.vars.length vc, .slice aa p.arrs.length ac] 26)
    rw [World.size_alloc] at e1
    rw [← hW]; exact e1
  have HF : Hid (∀ v, Below W.heap.size W v → v.cell? ⟨w.heap.size, 0, none⟩ = some (.slice k.va p.vars.length k.vc) ∧ v.cell? ⟨w.heap.size, 1, none⟩ = some (.slice k.aa p.arrs.length k.ac) ∧ v.cell? ⟨w.heap.size, 2, none⟩ = some (.slice k.ba p.body.length k.bc) ∧ v.cell? ⟨w.heap.size + 1, 0, none⟩ = some (.slice va p.vars.length vc) ∧ v.cell? ⟨w.heap.size + 1, 1, none⟩ = some (.slice aa p.arrs.length ac)) := fun v hv => by
    have bp := e0.below hv (by omega)
    have hm := (hv.block (w.heap.size + 1) (by omega)).trans e1
    exact ⟨bp.c0, bp.c1, bp.c2, by rw [cell_at hm]; rfl, by rw [cell_at hm]; rfl⟩
  have HP : Hid (IsP W D n p k) := hp.later (Stand.of_below hB hl)
  have HL : Hid (∀ j, D j → j < W.heap.size) := fun j hj => by have := hl j hj; omega
  have HM : Hid (∀ v, Below W.heap.size W v → RM v lo hi p.vars.length p.arrs.length va aa) := fun v hv => (h.stand fun b _ hb => hB.block b (by omega)).stand fun b _ hb => hv.block b (by omega)
  have HB := Lib.hid hB
  have HW := Lib.hid hW
  obtain ⟨f0, f1, f2, f3, f4⟩ := HF.out W (Below.refl _ _)
  clear hB e0 e1 hp h hW
  show Calls Try.prog 101 #[.agg #[.slice k.va p.vars.length k.vc, .slice k.aa p.arrs.length k.ac, .slice k.ba p.body.length k.bc], .agg #[.slice va p.vars.length vc, .slice aa p.arrs.length ac]] w _
  go_enter Try.func101, Try.ntmps101
  go_wp2_with fail
  rw [HW.out]
  refine (sProgramValid_one p k n D W HP.out HL.out).mono ?_
  rintro g w1 ⟨rfl, hb1⟩
  rw [hv]
  obtain ⟨g0, g1, g2, g3, g4⟩ := HF.out w1 hb1
  have HB1 := Lib.hid hb1
  have hz1 := hb1.size
  clear hb1
  go_wp2_with fail
  refine (l3Fits_one lo hi p.vars.length p.arrs.length p.body.length k.vc k.ac k.bc vc ac k.va k.aa k.ba va aa w1 (HM.out w1 HB1.out) (by omega) (by omega) hna).mono ?_
  rintro g w2 ⟨rfl, hb2⟩
  have HB2 := Lib.hid (HB.out.trans ((HB1.out.trans (hb2.mono hz1)).mono (by omega)))
  clear hb2
  go_wp2_with fail
  go_ret
  exact AnsB.of rfl HB2.out

/-- The answer of a run: a list of events in blocks of the call's own. -/
def RunP (w : World) (N : Nat) (f : Ending) (w' : World) : Prop := ∃ (ma mb : Option Addr) (mn mc on oc : Nat) (ta : Option Addr) (tc : Nat) (es : List (Int × Int)) (tb : Nat), f = .returned (.tuple #[.agg #[.slice ma mn mc, .slice mb on oc], .slice ta es.length tc, .bool true]) ∧ w.heap.size ≤ tb ∧ RowEv w' tb (.slice ta es.length tc) es ∧ es.length ≤ N ∧ Below w.heap.size w w'

set_option maxRecDepth 100000 in
set_option maxHeartbeats 1000000 in
theorem sRunProgram_one (p : Pg) (k : PC) (n lo hi vc ac : Nat) (D : Nat → Prop) (va aa : Option Addr) (w : World) (hp : IsP w D n p k) (hl : ∀ k, D k → k < w.heap.size) (hv : progV p = true) (h : RM w lo hi p.vars.length p.arrs.length va aa) (hhi : hi ≤ w.heap.size) (hnv : p.vars.length ≤ 5) (hna : p.arrs.length ≤ 2) (hcnt : cntSs p.body ≤ 84) :
    Calls Try.prog 87 #[aggP p k, aggMm va aa p.vars.length p.arrs.length vc ac] w (RunP w 22453200) := by
  obtain ⟨W, hW⟩ : ∃ W, ((w.alloc (.cells #[.slice k.va p.vars.length k.vc, .slice k.aa p.arrs.length k.ac, .slice k.ba p.body.length k.bc] 55)).alloc (.cells #[.slice va p.vars.length vc, .slice aa p.arrs.length ac] 26)).alloc (.cells #[.slice none 0 0, .slice none 0 0] 26) = W := ⟨_, rfl⟩
  have hB : Below w.heap.size w W := by rw [← hW]; exact (((Below.refl _ w).alloc (Nat.le_refl _) _).alloc (by simp) _).alloc (by simp; omega) _
  have hz : W.heap.size = w.heap.size + 3 := by rw [← hW]; simp
  have e0 : BoxP W w.heap.size p k := by
    rw [← hW]; exact ((BoxP.new w p k _).later (Below.heap_alloc _ _ _ (by simp))).later (Below.heap_alloc _ _ _ (by simp; omega))
  have e1 : W.heap[w.heap.size + 1]? = some (.cells #[.slice va p.vars.length vc, .slice aa p.arrs.length ac] 26 (0, 0)) := by
    have e1 := heap_alloc_new (w.alloc (.cells #[.slice k.va p.vars.length k.vc, .slice k.aa p.arrs.length k.ac, .slice k.ba p.body.length k.bc] 55)) (.cells #[.slice va p.vars.length vc, .slice aa p.arrs.length ac] 26)
    rw [World.size_alloc] at e1
    rw [← hW]; exact (Below.heap_alloc _ _ _ (by simp)).trans e1
  have HF : Hid (∀ v, Below W.heap.size W v → v.cell? ⟨w.heap.size, 0, none⟩ = some (.slice k.va p.vars.length k.vc) ∧ v.cell? ⟨w.heap.size, 1, none⟩ = some (.slice k.aa p.arrs.length k.ac) ∧ v.cell? ⟨w.heap.size, 2, none⟩ = some (.slice k.ba p.body.length k.bc) ∧ v.cell? ⟨w.heap.size + 1, 0, none⟩ = some (.slice va p.vars.length vc) ∧ v.cell? ⟨w.heap.size + 1, 1, none⟩ = some (.slice aa p.arrs.length ac)) := fun v hv => by
    have bp := e0.below hv (by omega)
    have hm := (hv.block (w.heap.size + 1) (by omega)).trans e1
    exact ⟨bp.c0, bp.c1, bp.c2, by rw [cell_at hm]; rfl, by rw [cell_at hm]; rfl⟩
  have e2 : W.heap[w.heap.size + 2]? = some (.cells #[.slice none 0 0, .slice none 0 0] 26 (0, 0)) := by
    have e2 := heap_alloc_new ((w.alloc (.cells #[.slice k.va p.vars.length k.vc, .slice k.aa p.arrs.length k.ac, .slice k.ba p.body.length k.bc] 55)).alloc (.cells #[.slice va p.vars.length vc, .slice aa p.arrs.length ac] 26)) (.cells #[.slice none 0 0, .slice none 0 0] 26)
    rw [World.size_alloc, World.size_alloc] at e2
    rw [← hW]; exact e2
  have HE2 := Lib.hid e2
  have HP : Hid (IsP W D n p k) := hp.later (Stand.of_below hB hl)
  have HL : Hid (∀ j, D j → j < W.heap.size) := fun j hj => by have := hl j hj; omega
  have HM : Hid (∀ v, Below W.heap.size W v → RM v lo hi p.vars.length p.arrs.length va aa) := fun v hv => (h.stand fun b _ hb => hB.block b (by omega)).stand fun b _ hb => hv.block b (by omega)
  have HB := Lib.hid hB
  have HW := Lib.hid hW
  obtain ⟨f0, f1, f2, f3, f4⟩ := HF.out W (Below.refl _ _)
  clear hB e0 e1 e2 hp h hW
  show Calls Try.prog 87 #[.agg #[.slice k.va p.vars.length k.vc, .slice k.aa p.arrs.length k.ac, .slice k.ba p.body.length k.bc], .agg #[.slice va p.vars.length vc, .slice aa p.arrs.length ac]] w _
  go_enter Try.func87, Try.ntmps87
  go_wp2_with fail
  rw [HW.out]
  refine (sMemoryValid_one p k n lo hi vc ac D va aa W HP.out HL.out hv (HM.out W (Below.refl _ _)) (by omega) hnv hna).mono ?_
  rintro g w1 ⟨rfl, hb1⟩
  obtain ⟨g0, g1, g2, g3, g4⟩ := HF.out w1 hb1
  have HB1 := Lib.hid hb1
  have hz1 := hb1.size
  clear hb1
  go_wp2_with fail
  refine (l3Copy_one lo hi p.vars.length p.arrs.length vc ac va aa w1 (HM.out w1 HB1.out) (by omega) (by omega) hna).mono ?_
  rintro g w2 ⟨va', aa', vc', ac', rfl, hb2, hrm⟩
  have hz2 := hb2.size
  obtain ⟨W3, hW3⟩ : ∃ W, w2.alloc (.cells #[.slice va' p.vars.length vc', .slice aa' p.arrs.length ac'] 26) = W := ⟨_, rfl⟩
  have hb3 : Below w2.heap.size w2 W3 := by rw [← hW3]; exact (Below.refl _ _).alloc (Nat.le_refl _) _
  have hb4 : Below W.heap.size W W3 := (HB1.out.trans (hb2.mono hz1)).trans (hb3.mono (by omega))
  have e3 : W3.heap[w2.heap.size]? = some (.cells #[.slice va' p.vars.length vc', .slice aa' p.arrs.length ac'] 26 (0, 0)) := by rw [← hW3]; exact heap_alloc_new w2 _
  have hz3 : W3.heap.size = w2.heap.size + 1 := by rw [← hW3]; simp
  obtain ⟨j0, j1, j2, j3, j4⟩ := HF.out W3 hb4
  have q0 : W3.cell? ⟨w2.heap.size, 0, none⟩ = some (.slice va' p.vars.length vc') := by rw [cell_at e3]; rfl
  have q1 : W3.cell? ⟨w2.heap.size, 1, none⟩ = some (.slice aa' p.arrs.length ac') := by rw [cell_at e3]; rfl
  have hrm3 := hrm.stand fun b _ hb => hb3.block b hb
  have HRM := Lib.hid hrm3
  have HB4 := Lib.hid hb4
  have HW3 := Lib.hid hW3
  have hP3 : IsP W3 D n p k := HP.out.later (Stand.of_below HB4.out HL.out)
  have hP3b := hP3.2.2
  have hall : p.body.all (stmtB p.vars.length p.arrs.length 5) = true := by
    unfold progV at hv
    simp only [Bool.and_eq_true] at hv
    exact hv.2.1
  have HP3 := Lib.hid hP3
  clear hb2 hrm hb3 hb4 e3 hrm3 hW3 hP3 hP3b
  go_wp2_with (first | rw [HW3.out] | fail)
  have hrun := l3Run_one p.vars.length p.arrs.length w1.heap.size w2.heap.size W3.heap.size va' aa' vc' ac' (by omega) (by omega) (by omega) hna 5 n p.body k.ba k.bc D none 0 [] W3 HP3.out.2.2.2.2 HP3.out.2.2.1 HP3.out.2.2.2.1 (fun j hj => by have := hl j hj; omega) HRM.out (rowEv_nil W3 W3.heap.size) (Nat.le_refl _) (by simp; omega) hall
  refine hrun.mono ?_
  rintro g w4 ⟨ta, tc, es, rfl, hre, hen, hrm4, htr⟩
  have x0 := htr.blk w2.heap.size (by omega) (by omega) (by simp [Value.ownBlock])
  have y0 := (World.cell?_of_block (w := W3) (w' := w4) (a := ⟨w2.heap.size, 0, none⟩) x0).trans q0
  have y1 := (World.cell?_of_block (w := W3) (w' := w4) (a := ⟨w2.heap.size, 1, none⟩) x0).trans q1
  have hlt := htr.bel.size
  have hb5 : Below w.heap.size w w4 := (HB.out.trans (HB4.out.mono (by omega))).trans (htr.bel.mono (by omega))
  have hen2 : es.length ≤ 22453200 := by
    simp at hen
    omega
  have x2 : w4.heap[w.heap.size + 1 + 1]? = some (.cells #[.slice none 0 0, .slice none 0 0] 26 (0, 0)) := ((htr.bel.block (w.heap.size + 2) (by omega)).trans (HB4.out.block (w.heap.size + 2) (by omega))).trans HE2.out
  have z0 : ∃ y, w4.cell? ⟨w.heap.size + 1 + 1, 0, none⟩ = some y := cell_ex x2 _ (by simp)
  have z1 : ∃ y, w4.cell? ⟨w.heap.size + 1 + 1, 1, none⟩ = some y := cell_ex x2 _ (by simp)
  have z2 : w4.frozen? ⟨w.heap.size + 1 + 1, 0, none⟩ = false := frozen_at x2 _
  have z3 : w4.frozen? ⟨w.heap.size + 1 + 1, 1, none⟩ = false := frozen_at x2 _
  have HX2 := Lib.hid x2
  obtain ⟨s0, z0⟩ := z0
  obtain ⟨s1, z1⟩ := z1
  have HEN := Lib.hid hen2
  have HB5 := Lib.hid hb5
  have HRE := Lib.hid hre
  clear hrun hre hen hrm4 htr x0 x2 hb5 hen2
  obtain ⟨en, hen⟩ : ∃ en, es.length = en := ⟨_, rfl⟩
  have HL := Lib.hid hen
  rw [hen]
  clear hen
  go_wp2_with fail
  obtain ⟨W5, hW5⟩ : ∃ u, put w4 (w.heap.size + 1 + 1) 0 [.slice va' p.vars.length vc', .slice aa' p.arrs.length ac'] = u := ⟨_, rfl⟩
  have r5 : W5.heap[w.heap.size + 1 + 1]? = some (.cells #[.slice va' p.vars.length vc', .slice aa' p.arrs.length ac'] 26 (0, 0)) := by
    rw [← hW5]; exact put_row _ _ _ _ _ _ HX2.out
  have d0 : W5.cell? ⟨w.heap.size + 1 + 1, 0, none⟩ = some (.slice va' p.vars.length vc') := by rw [cell_at r5]; rfl
  have d1 : W5.cell? ⟨w.heap.size + 1 + 1, 1, none⟩ = some (.slice aa' p.arrs.length ac') := by rw [cell_at r5]; rfl
  have hfin : RunP w 22453200 (.returned (.tuple #[.agg #[.slice va' p.vars.length vc', .slice aa' p.arrs.length ac'], .slice ta en tc, .bool true])) W5 := by
    obtain rfl := HL.out
    refine ⟨_, _, _, _, _, _, ta, tc, es, W3.heap.size, rfl, by omega, ?_, HEN.out, ?_⟩
    · refine HRE.out.stand fun g hg hg' => ?_
      have h9 := HRE.out.lt g hg
      rw [← hW5]; exact put_other _ _ _ _ _ (by omega)
    · rw [← hW5]; exact put_below _ _ _ _ _ _ HB5.out (by omega)
  have HFIN := Lib.hid hfin
  show bodyPost _ _ _ _ _ (put w4 (w.heap.size + 1 + 1) 0 [.slice va' p.vars.length vc', .slice aa' p.arrs.length ac'])
  rw [hW5]
  clear hfin hW5 r5 g0 g1 g2 g3 g4 q0 q1 y0 y1 z0 z1 z2 z3
  exact bodyPost_ret (v := .tuple #[.agg #[.slice va' p.vars.length vc', .slice aa' p.arrs.length ac'], .slice ta en tc, .bool true]) (by simp [results, Try.f87, go_sem, d0, d1]) rfl HFIN.out

end Go.Proofs.Ytgfagdjadmpklaa

namespace Go.Proofs.Ytgfagdjadmpklaa
open Go.RowKit
set_option linter.unusedVariables false

/-- The cells of a list of events. -/
def flatE (es : List (Int × Int)) : List Value := cellsL (fun (x : Int × Int) (_ : Unit) => [.int .i64 x.1, .int .i64 x.2]) es (List.replicate es.length ())
theorem flatE_cons (x : Int × Int) (es : List (Int × Int)) : flatE (x :: es) = .int .i64 x.1 :: .int .i64 x.2 :: flatE es := by simp [flatE, cellsL, List.replicate_succ]
theorem flatE_app : ∀ (es fs : List (Int × Int)), flatE (es ++ fs) = flatE es ++ flatE fs
  | [], fs => by simp [flatE, cellsL]
  | x :: es, fs => by rw [List.cons_append, flatE_cons, flatE_cons, flatE_app es fs]; rfl
theorem flatE_len : ∀ (es : List (Int × Int)), (flatE es).length = es.length * 2
  | [] => rfl
  | x :: es => by rw [flatE_cons, List.length_cons, List.length_cons, flatE_len es, List.length_cons]; omega
theorem flatE_one : ∀ (es : List (Int × Int)), ∀ u ∈ flatE es, u.oneCell' = true
  | [], u, h => by simp [flatE, cellsL] at h
  | x :: es, u, h => by
    rw [flatE_cons] at h
    rcases List.mem_cons.1 h with rfl | h
    · rfl
    rcases List.mem_cons.1 h with rfl | h
    · rfl
    exact flatE_one es u h
theorem flatE_at : ∀ (es : List (Int × Int)) (i : Nat) (x : Int × Int), es[i]? = some x → (flatE es)[i * 2]? = some (.int .i64 x.1) ∧ (flatE es)[i * 2 + 1]? = some (.int .i64 x.2)
  | [], i, x, h => by simp at h
  | y :: es, 0, x, h => by simp at h; subst h; rw [flatE_cons]; exact ⟨rfl, rfl⟩
  | y :: es, i + 1, x, h => by
    obtain ⟨h1, h2⟩ := flatE_at es i x (by simpa using h)
    rw [flatE_cons, show (i + 1) * 2 = i * 2 + 1 + 1 by omega]
    exact ⟨by simpa using h1, by simpa using h2⟩

theorem RowEv.flat {w : World} {base : Nat} {v : Value} {es : List (Int × Int)} (h : RowEv w base v es) : w.ownsRow base 92 2 v es.length (flatE es) := by
  obtain ⟨L, h1, h2, _⟩ := h
  have hL : L = List.replicate es.length () := by
    apply List.ext_getElem?
    intro i
    by_cases hi : i < es.length
    · rw [List.getElem?_replicate, if_pos hi, List.getElem?_eq_getElem (by rw [h1]; exact hi)]
    · rw [List.getElem?_replicate, if_neg hi, List.getElem?_eq_none (by rw [h1]; omega)]
  rw [hL] at h2
  exact h2
theorem RowEv.ofFlat {w : World} {base : Nat} {v : Value} {es : List (Int × Int)} (h : w.ownsRow base 92 2 v es.length (flatE es)) : RowEv w base v es :=
  ⟨List.replicate es.length (), by simp, h, fun _ _ _ _ _ => trivial⟩
theorem RowEv.made (w : World) (base : Nat) (hb : base ≤ w.heap.size) : RowEv (w.alloc (.cells #[] 92)) base (.slice (some ⟨w.heap.size, 0, none⟩) 0 0) [] :=
  RowEv.ofFlat (World.ownsRow_made w #[] 0 hb (by unfold maxLen; omega) rfl)
/-- Its cells, one by one. -/
theorem RowEv.at {w : World} {base : Nat} {a : Option Addr} {n c : Nat} {es : List (Int × Int)} (h : RowEv w base (.slice a n c) es) (i : Nat) (x : Int × Int) (hx : es[i]? = some x) : ∃ b, a = some ⟨b, 0, none⟩ ∧ base ≤ b ∧ b < w.heap.size ∧ w.cell? ⟨b, i * 2, none⟩ = some (.int .i64 x.1) ∧ w.cell? ⟨b, i * 2 + 1, none⟩ = some (.int .i64 x.2) := by
  have hf := h.flat
  obtain ⟨h1, h2⟩ := flatE_at es i x hx
  rcases hf.2 with ⟨_, h3⟩ | ⟨g, cp, cur, e1, e2, e3, e4⟩
  · have := (List.getElem?_eq_some_iff.1 hx).1; omega
  · cases e1
    have hc := hf.cells (g := g) rfl
    have k1 := hc _ _ h1
    have k2 := hc _ _ h2
    have hadd : ∀ j, (⟨g, 0, none⟩ : Addr).add j = ⟨g, j, none⟩ := fun j => by unfold Addr.add; split <;> simp_all
    rw [hadd] at k1 k2
    exact ⟨g, rfl, e2, (Array.getElem?_eq_some_iff.1 e3).1, k1, k2⟩

/-- What the append of a row of events onto a row of the call's own leaves. -/
def ApE (w : World) (base g : Nat) (es fs : List (Int × Int)) (v : Value) (w' : World) : Prop := ∃ a cap, v = .slice a (es ++ fs).length cap ∧ RowEv w' base (.slice a (es ++ fs).length cap) (es ++ fs) ∧ w.grownBy w' (some g) ∧ ((Value.slice a (es ++ fs).length cap).ownBlock = some g ∨ (Value.slice a (es ++ fs).length cap).ownBlock = some w.heap.size)

theorem run_appE (w : World) (ty base tb g n cap : Nat) (es fs : List (Int × Int)) (hn : es.length = n) (hown : RowEv w base (.slice (some ⟨g, 0, none⟩) n cap) es)
    (A : Option Addr) (m c : Nat) (hm : fs.length = m) (hr : RowEv w tb (.slice A m c) fs) (hl : n + m ≤ 2199023255552) (hb : base ≤ w.heap.size) :
    ∃ v w', (Builtin.append_ #[33, 33] ty #[.slice (some ⟨g, 0, none⟩) n cap, .slice A m c]).run Try.prog w = .ok v w' ∧ ApE w base g es fs v w' := by
  subst hn hm
  obtain ⟨i, hi, hz, hsz, hby⟩ := info_parts infoEv
  rcases A with _ | ad
  · have h0 : fs = [] := by
      rcases hr.flat.2 with ⟨_, h2⟩ | ⟨g', cp, cur, e1, _⟩
      · exact List.eq_nil_of_length_eq_zero h2
      · cases e1
    subst h0
    refine ⟨.slice (some ⟨g, 0, none⟩) es.length cap, w, ?_, some ⟨g, 0, none⟩, cap, by simp, by simpa using hown, World.grownBy.refl w _, .inl rfl⟩
    rcases hown.flat.2 with ⟨h1, _⟩ | ⟨g', cap', cur, h1, _, _, hnc, _⟩
    · cases h1
    · cases h1
      simp [Builtin.append_, run_underlying Try.underlying33, sizeOf, typeInfo, hi, Builtin.lenOf, Builtin.firstCells, storeCells, hnc, loadCells]
  · have hnews : ∀ j u, (flatE fs)[j]? = some u → w.cell? (ad.add j) = some u := by
      rcases hr.flat.2 with ⟨h1, _⟩ | ⟨g', cp, cur, e1, _⟩
      · cases h1
      · cases e1
        exact hr.flat.cells (g := g') rfl
    obtain ⟨v', w', h1, h2, h3, h4, h5⟩ := run_append_own_at (P := Try.prog) w base 33 ty 92 i _ 2 16 Try.underlying33 hi hz hsz hby rfl (by omega) (.slice (some ⟨g, 0, none⟩) es.length cap) es.length (flatE es) hown.flat ad fs.length c (flatE fs) (flatE_len fs) hnews (flatE_one fs) (by unfold maxLen; omega) (by omega) hb
    rw [← flatE_app, ← List.length_append] at h2
    have hv : ∃ a cap, v' = .slice a (es ++ fs).length cap := by
      rcases h2.2 with ⟨e1, e2⟩ | ⟨g', cap, cur, e1, _⟩
      · exact ⟨none, 0, by rw [e1, e2]⟩
      · exact ⟨_, _, e1⟩
    obtain ⟨a, cap, rfl⟩ := hv
    exact ⟨_, w', h1, a, cap, rfl, RowEv.ofFlat h2, h3, h5⟩

/-- At the list of a plain region's operations. -/
theorem wpList_appE {ops : Array Oper} {rest : List Oper} {o : Oper} {a : Act} {w : World} {Q : Exit → Act → World → Prop} (hgd : o.guard = none) (s x : Operand)
    (ho : o.op = .call { callee := .builtin .append, args := #[s, x], argTypes := #[33, 33] })
    (base tb g n cap : Nat) (es fs : List (Int × Int)) (hn : es.length = n) (hs : a.eval s = .slice (some ⟨g, 0, none⟩) n cap) (hown : RowEv w base (.slice (some ⟨g, 0, none⟩) n cap) es)
    (A : Option Addr) (m c : Nat) (hm : fs.length = m) (hx : a.eval x = .slice A m c) (hr : RowEv w tb (.slice A m c) fs) (hl : n + m ≤ 2199023255552) (hb : base ≤ w.heap.size)
    (h : ∀ v w', ApE w base g es fs v w' → wpList Try.prog ops Q rest (a.put o.dst v) w') : wpList Try.prog ops Q (o :: rest) a w :=
  wpList_plain hgd fun _ hK => by
    obtain ⟨v, w', hrun, hc⟩ := run_appE w o.type base tb g n cap es fs hn hown A m c hm hr hl hb
    unfold Oper.wp execOp
    simp only [ho, resolve, invoke, builtin, Sem.run_bind, Sem.run_pure, Result.andThen_ok, List.map_toArray, List.map_cons, List.map_nil, hs, hx, hrun]
    exact hK _ _ (h v w' hc)

/-- At a step of a region that draws. -/
theorem step_appE {ops : Array Oper} {o : Oper} {a : Act} {w : World} {K : Act → World → Prop} {Q : Exit → Act → World → Prop} {E : Prop} (hgd : o.guard = none) (s x : Operand)
    (ho : o.op = .call { callee := .builtin .append, args := #[s, x], argTypes := #[33, 33] })
    (base tb g n cap : Nat) (es fs : List (Int × Int)) (hn : es.length = n) (hs : a.eval s = .slice (some ⟨g, 0, none⟩) n cap) (hown : RowEv w base (.slice (some ⟨g, 0, none⟩) n cap) es)
    (A : Option Addr) (m c : Nat) (hm : fs.length = m) (hx : a.eval x = .slice A m c) (hr : RowEv w tb (.slice A m c) fs) (hl : n + m ≤ 2199023255552) (hb : base ≤ w.heap.size)
    (h : ∀ v w', ApE w base g es fs v w' → K (a.put o.dst v) w') :
    if Region.wanted o (yielded ops a.tmps) = true then Oper.wp Try.prog o a w K Q else E := by
  have hw : Region.wanted o (yielded ops a.tmps) = true := by simp [Region.wanted, hgd]
  rw [if_pos hw]
  obtain ⟨v, w', hrun, hc⟩ := run_appE w o.type base tb g n cap es fs hn hown A m c hm hr hl hb
  unfold Oper.wp execOp
  simp only [ho, resolve, invoke, builtin, Sem.run_bind, Sem.run_pure, Result.andThen_ok, List.map_toArray, List.map_cons, List.map_nil, hs, hx, hrun]
  exact h v w' hc

end Go.Proofs.Ytgfagdjadmpklaa

namespace Go.Proofs.Ytgfagdjadmpklaa
open Go.RowKit
set_option linter.unusedVariables false

/-- A draw that yields a list of events in a row of its own. -/
def DrT (N : Nat) (w : World) (B m : Nat) (f : Ending) (w' : World) : Prop := ∃ (ta : Option Addr) (tc : Nat) (es : List (Int × Int)), f = .returned (.slice ta es.length tc) ∧ RowEv w' w.heap.size (.slice ta es.length tc) es ∧ es.length ≤ N ∧ RdU w' B m ∧ Oth B w w' ∧ Below B w w'

theorem Oth.set {B : Nat} {w w' : World} (h : Oth B w w') {g : Nat} (hg : w.heap.size ≤ g) (o : Nat) (v : Value) : Oth B w (w'.setCell ⟨g, o, none⟩ v) := h.put hg o [v]
/-- Behind the run: the row of events, the reader, and what stands. -/
structure TrX (B m : Nat) (W1 : World) (tb : Nat) (es : List (Int × Int)) (t : Value) (X : World) : Prop where
  row : RowEv X tb t es
  oth : Oth B W1 X
  bel : Below B W1 X
  rd : RdU X B m
theorem TrX.alloc {B m tb : Nat} {W1 X : World} {es : List (Int × Int)} {t : Value} (h : TrX B m W1 tb es t X) (o : Obj) : TrX B m W1 tb es t (X.alloc o) :=
  ⟨h.row.stand fun g _ hg => Below.heap_alloc _ _ _ hg, h.oth.alloc _, h.bel.alloc (Nat.le_of_lt h.rd.lt) _, h.rd.alloc _⟩
theorem TrX.put {B m tb g : Nat} {W1 X : World} {es : List (Int × Int)} {t : Value} (h : TrX B m W1 tb es t X) (hg : g < tb) (hg1 : W1.heap.size ≤ g) (hB : B < g) (a b : Value) : TrX B m W1 tb es t ((X.setCell ⟨g, 0, none⟩ a).setCell ⟨g, 1, none⟩ b) :=
  ⟨h.row.stand fun j hj hj' => put_other [a, b] X g 0 j (by have := (h.row.lt j hj).1; omega), h.oth.put hg1 0 [a, b], put_below [a, b] _ _ _ _ _ h.bel (by omega), h.rd.below (put_below [a, b] _ _ g _ _ (Below.refl _ _) (Nat.le_refl _)) hB⟩

set_option maxRecDepth 100000 in
set_option maxHeartbeats 1000000 in
theorem l3Trace_one (B m : Nat) (w : World) (h : RdU w B m) (hm : m < 1098000000000) :
    Calls Try.prog 53 #[.pointer (some ⟨B, 0, none⟩)] w (DrT 22453200 w B (m + 6000100)) := by
  have hlt := h.lt
  have HR := Lib.hid h
  clear h
  go_enter Try.func53, Try.ntmps53
  go_wp2_with fail
  refine (drProgramC B m w HR.out (by omega)).mono ?_
  rintro f w1 ⟨p, k, rfl, hip, hsm, hv, hn0, hnv, hna, hrd, hot, hbl, hcnt⟩
  obtain ⟨W1, hW1⟩ : ∃ W, w1.alloc (.cells #[.slice k.va p.vars.length k.vc, .slice k.aa p.arrs.length k.ac, .slice k.ba p.body.length k.bc] 55) = W := ⟨_, rfl⟩
  have hz1 : W1.heap.size = w1.heap.size + 1 := by rw [← hW1]; simp
  have hB1 : Below w1.heap.size w1 W1 := by rw [← hW1]; exact (Below.refl _ _).alloc (Nat.le_refl _) _
  have hbp : BoxP W1 w1.heap.size p k := by rw [← hW1]; exact BoxP.new w1 p k _
  have hlt1 := hbl.size
  have HS : Hid (∀ v, Oth B W1 v → v.cell? ⟨w1.heap.size, 0, none⟩ = some (.slice k.va p.vars.length k.vc) ∧ v.cell? ⟨w1.heap.size, 1, none⟩ = some (.slice k.aa p.arrs.length k.ac) ∧ v.cell? ⟨w1.heap.size, 2, none⟩ = some (.slice k.ba p.body.length k.bc)) := fun v hv => by
    have hb := hbp.later (hv.2 _ (by omega) (by omega))
    exact ⟨hb.c0, hb.c1, hb.c2⟩
  obtain ⟨p0, p1, p2⟩ := HS.out W1 (Oth.refl _ _)
  have HSa := Lib.hid (HS.out W1 (Oth.refl _ _))
  have HSb := Lib.hid (HS.out W1.drew (Oth.refl _ _).drew)
  have HR1 : Hid (RdU W1 B (m + 6000000)) := hrd.below hB1 hrd.lt
  have HR2 : Hid (RdU W1.drew B (m + 6000000)) := HR1.out.drew
  have HIP : Hid (∀ v, Oth B W1 v → IsP v (New w w1) 10 p k ∧ ∀ j, New w w1 j → j < v.heap.size) := fun v hv => ⟨hip.later fun j hj => (hv.2 j (by have := hj.2; omega) (by have := hj.1; omega)).trans (hB1.block j hj.2), fun j hj => by have := hj.2; have := hv.1; omega⟩
  have HBL := Lib.hid hbl
  have HOT := Lib.hid hot
  have HB1 := Lib.hid hB1
  have HW1 := Lib.hid hW1
  clear hip hsm hrd hot hbl hbp hB1 hW1
  go_wp2_with (first | rw [HW1.out] | fail)
  go_region_held3 (fun v' => v'.cell? ⟨w1.heap.size, 0, none⟩ = some (.slice k.va p.vars.length k.vc) ∧ v'.cell? ⟨w1.heap.size, 1, none⟩ = some (.slice k.aa p.arrs.length k.ac) ∧ v'.cell? ⟨w1.heap.size, 2, none⟩ = some (.slice k.ba p.body.length k.bc)) (first | (with_reducible assumption) | (with_reducible exact HSa.out) | (with_reducible exact HSb.out) | (with_reducible exact HS.out _ (by repeat (first | (with_reducible assumption) | (with_reducible exact Oth.refl _ _) | (with_reducible refine Oth.drew ?_) | (with_reducible refine Oth.alloc ?_ _) | (with_reducible refine Oth.set ?_ (by omega) _ _)))))
    (first
      | (go_at_call 82
         (with_reducible refine (l3Memory_one B (m + 6000000) p.vars.length p.arrs.length p.body.length k.vc k.ac k.bc k.va k.aa k.ba _ (by first | exact HR1.out | exact HR2.out | exact HR1.out.alloc _ | exact HR2.out.alloc _ | exact (HR1.out.alloc _).drew) (by omega) (by omega) hna).mono ?_)
         rintro f v ⟨va', aa', vc', ac', rfl, hb5, ho5, hr5, hm5⟩
         have hO5 : Oth B W1 v := Oth.trans (by repeat (first | (with_reducible assumption) | (with_reducible exact Oth.refl _ _) | (with_reducible refine Oth.drew ?_) | (with_reducible refine Oth.alloc ?_ _) | (with_reducible refine Oth.set ?_ (by omega) _ _))) ho5
         obtain ⟨lo, hM5⟩ : ∃ lo, RM v lo v.heap.size p.vars.length p.arrs.length va' aa' := ⟨_, hm5⟩
         have hB5 : Below B W1 v := Below.trans (by first | (with_reducible exact Below.refl _ _) | exact (Below.refl _ _).drew | exact (Below.refl _ _).alloc (by omega) _ | exact ((Below.refl _ _).drew).alloc (by simp; omega) _ | exact ((Below.refl _ _).alloc (by omega) _).drew) hb5
         try have hqC : v.heap[w1.heap.size + 1]? = some (.cells #[.slice none 0 0, .slice none 0 0] 26 (0, 0)) := (ho5.2 (w1.heap.size + 1) (show w1.heap.size + 1 < (W1.alloc (.cells #[.slice none 0 0, .slice none 0 0] 26)).heap.size by rw [World.size_alloc]; omega) (by omega)).trans (by rw [← hz1]; exact heap_alloc_new W1 _)
         have hz5 := hB5.size)
      | (go_at_call 87
         (with_reducible refine (sRunProgram_one p k 10 lo v.heap.size vc' ac' (New w w1) va' aa' _ (HIP.out _ (by repeat (first | (with_reducible assumption) | (with_reducible exact Oth.refl _ _) | (with_reducible refine Oth.drew ?_) | (with_reducible refine Oth.alloc ?_ _) | (with_reducible refine Oth.set ?_ (by omega) _ _)))).1 (HIP.out _ (by repeat (first | (with_reducible assumption) | (with_reducible exact Oth.refl _ _) | (with_reducible refine Oth.drew ?_) | (with_reducible refine Oth.alloc ?_ _) | (with_reducible refine Oth.set ?_ (by omega) _ _)))).2 hv (by first | exact hM5 | exact hM5.stand fun b _ hb => Below.heap_alloc _ _ _ hb) (by first | exact Nat.le_refl _ | (rw [World.size_alloc]; omega)) hnv hna hcnt).mono ?_)
         rintro f v2 ⟨ma, mb, mn, mc, on, oc, ta, tc, es, tb, rfl, htb, hre, hen, hb6⟩
         have hO6 : Oth B W1 v2 := Oth.trans (by repeat (first | (with_reducible assumption) | (with_reducible exact Oth.refl _ _) | (with_reducible refine Oth.drew ?_) | (with_reducible refine Oth.alloc ?_ _) | (with_reducible refine Oth.set ?_ (by omega) _ _))) (Oth.below hb6)
         have hz6 : v.heap.size ≤ v2.heap.size := by first | exact hb6.size | exact Nat.le_trans (by simp) hb6.size
         have hB6 : Below v.heap.size v v2 := by first | exact hb6 | exact Below.trans ((Below.refl _ v).alloc (Nat.le_refl _) _) (hb6.mono (by simp))
         try have hqB : v2.heap[v.heap.size]? = some (.cells #[.slice none 0 0, .slice none 0 0] 26 (0, 0)) := (hb6.block v.heap.size (by simp)).trans (heap_alloc_new v _)
         try have hqB : v2.heap[w1.heap.size + 1]? = some (.cells #[.slice none 0 0, .slice none 0 0] 26 (0, 0)) := (hb6.block (w1.heap.size + 1) (by have := (Array.getElem?_eq_some_iff.1 hqC).1; omega)).trans hqC
         try have hr0 : v2.cell? ⟨v.heap.size, 0, none⟩ = some (.slice none 0 0) := (cell_at hqB _).trans rfl
         try have hr1 : v2.cell? ⟨v.heap.size, 1, none⟩ = some (.slice none 0 0) := (cell_at hqB _).trans rfl
         try have hr0 : v2.cell? ⟨w1.heap.size + 1, 0, none⟩ = some (.slice none 0 0) := (cell_at hqB _).trans rfl
         try have hr1 : v2.cell? ⟨w1.heap.size + 1, 1, none⟩ = some (.slice none 0 0) := (cell_at hqB _).trans rfl
         try have f0 := frozen_at hqB 0
         try have f1 := frozen_at hqB 1))
  all_goals
    have hrd2 : RdU v2 B (m + 6000050) := (hr5.below hB6 hr5.lt).mono (by omega)
    have hbel2 : Below B W1 v2 := hB5.trans (hB6.mono (by have := hr5.lt; omega))
    have hBl : B < v.heap.size := hr5.lt
    have hlo1 := HOT.out.1
    have htb0 : w.heap.size ≤ tb := by have := htb; first | omega | (rw [World.size_alloc] at this; omega)
    have HX := (⟨hre, hO6, hbel2, hrd2⟩ : TrX B (m + 6000050) W1 tb es (.slice ta es.length tc) v2)
    first
      | (obtain ⟨X, hX⟩ : ∃ X, v2.alloc (.cells #[.slice ma mn mc, .slice mb on oc] 26) = X := ⟨_, rfl⟩
         rw [hX]
         have HX2 : TrX B (m + 6000050) W1 tb es (.slice ta es.length tc) X := by rw [← hX]; exact HX.alloc _
         clear hX)
      | (obtain ⟨X, hX⟩ : ∃ X, (v2.setCell ⟨v.heap.size, 0, none⟩ (.slice ma mn mc)).setCell ⟨v.heap.size, 1, none⟩ (.slice mb on oc) = X := ⟨_, rfl⟩
         rw [hX]
         have HX2 : TrX B (m + 6000050) W1 tb es (.slice ta es.length tc) X := by rw [← hX]; exact HX.put (by have := htb; simp only [World.size_alloc] at this; omega) (by omega) (by omega) _ _
         clear hX)
      | (obtain ⟨X, hX⟩ : ∃ X, (v2.setCell ⟨w1.heap.size + 1, 0, none⟩ (.slice ma mn mc)).setCell ⟨w1.heap.size + 1, 1, none⟩ (.slice mb on oc) = X := ⟨_, rfl⟩
         rw [hX]
         have HX2 : TrX B (m + 6000050) W1 tb es (.slice ta es.length tc) X := by rw [← hX]; exact HX.put (by have := htb; have := (Array.getElem?_eq_some_iff.1 hqC).1; omega) (by omega) (by omega) _ _
         clear hX)
    clear HX hrd2 hbel2 hre hO6 hO5 hB5 hB6 hr5 hb5 ho5 hm5 hM5 hb6
    have HX := Lib.hid HX2
    clear HX2
    have hXz : W1.heap.size ≤ X.heap.size := HX.out.oth.1
    have HROW0 : Hid (RowEv (X.alloc (.cells #[] 92)) w.heap.size (.slice (some ⟨X.heap.size, 0, none⟩) 0 0) []) := RowEv.made X w.heap.size (by omega)
    have HX3 := Lib.hid (HX.out.alloc (.cells #[] 92))
    obtain ⟨en, henq⟩ : ∃ en, es.length = en := ⟨_, rfl⟩
    have HEN := Lib.hid henq
    rw [henq] at HX3 hen
    simp only [henq]
    clear henq htb
    go_wp2_with (at_builtin; refine wpList_appE (by rfl) _ _ (by rfl) w.heap.size tb X.heap.size 0 0 [] es (by rfl) (by rfl) HROW0.out ta en tc HEN.out (by rfl) HX3.out.row (by omega) (by simp; omega) ?_; rintro v w5 ⟨a5, c5, rfl, h5, hg5, ho5⟩)
    rw [List.nil_append] at h5
    have hb5 : Below X.heap.size (X.alloc (.cells #[] 92)) w5 := (Below.refl _ _).grown hg5 (by simp) (fun k e => by cases e; exact Nat.le_refl _)
    have hb5' : Below X.heap.size X w5 := Below.trans ((Below.refl _ X).alloc (Nat.le_refl _) _) hb5
    have hfin : DrT 22453200 w B (m + 6000100) (.returned (.slice a5 es.length c5)) w5 := by
      refine ⟨a5, c5, es, rfl, h5, by rw [HEN.out]; exact hen, (HX.out.rd.below hb5' HX.out.rd.lt).mono (by omega), ?_, ?_⟩
      · exact (HOT.out.trans (((Oth.refl B w1).alloc _).trans (by rw [HW1.out]; exact HX.out.oth))).trans (Oth.below hb5')
      · exact (HBL.out.trans (HB1.out.mono (by omega))).trans (HX.out.bel.trans (hb5'.mono (by have := HX.out.rd.lt; omega)))
    have HFIN := Lib.hid hfin
    clear h5 hg5 ho5 hb5 hb5' hfin HX HX3
    go_ret
    exact HFIN.out

end Go.Proofs.Ytgfagdjadmpklaa

namespace Go.Proofs.Ytgfagdjadmpklaa
open Go.RowKit
set_option linter.unusedVariables false

theorem below_drewNe {B : Nat} {a w : World} (h : Below B a w) (k : Nat) : Below B a (w.drewN k) := ⟨h.os, h.tape, h.output, h.size, h.block⟩
/-- What the walks need of two lists at index k. -/
theorem EvAt.two {w : World} {es fs : List Ev} {a a' : Option Addr} {c c' : Nat} (h : EvL w es a c) (h' : EvL w fs a' c') {k : Nat} (hk : k < es.length) (hk' : k < fs.length) :
    ∃ x y b o b' o', es[k]? = some x ∧ fs[k]? = some y ∧ a = some ⟨b, o, none⟩ ∧ a' = some ⟨b', o', none⟩ ∧
      w.cell? ⟨b, o + k * 2, none⟩ = some (.int .i64 x.kind) ∧ w.cell? ⟨b, o + k * 2 + 1, none⟩ = some (.int .i64 x.value) ∧
      w.cell? ⟨b', o' + k * 2, none⟩ = some (.int .i64 y.kind) ∧ w.cell? ⟨b', o' + k * 2 + 1, none⟩ = some (.int .i64 y.value) := by
  have hx : es[k]? = some es[k] := List.getElem?_eq_getElem _
  have hy : fs[k]? = some fs[k] := List.getElem?_eq_getElem _
  obtain ⟨b, o, rfl, _, e0, e1⟩ := h.2.2 k _ hx
  obtain ⟨b', o', rfl, _, g0, g1⟩ := h'.2.2 k _ hy
  exact ⟨_, _, b, o, b', o', hx, hy, rfl, rfl, e0, e1, g0, g1⟩

/-- Two values of events compare as events do. -/
theorem ev_ne {x y : Ev} (h : x ≠ y) : (x.kind == y.kind) = false ∨ ((x.kind == y.kind) = true ∧ (x.value == y.value) = false) := by
  by_cases h1 : x.kind = y.kind
  · exact .inr ⟨by simpa using h1, by simpa using fun e => h (Ev.ext' h1 e)⟩
  · exact .inl (by simpa using h1)

set_option maxHeartbeats 2000000 in
/-- slices.Equal at events. -/
theorem slEqEv_one (es fs : List Ev) (a a' : Option Addr) (cap cap' : Nat) (w : World) (h : EvL w es a cap) (h' : EvL w fs a' cap') :
    Calls Try.prog 54 #[.slice a es.length cap, .slice a' fs.length cap'] w (YN (decide (es = fs)) w) := by
  have hc := Nat.le_trans h.1 h.2.1
  have hc' := Nat.le_trans h'.1 h'.2.1
  unfold maxLen at hc hc'
  have H : Hid (∀ k, k < es.length → k < fs.length → ∃ x y b o b' o', es[k]? = some x ∧ fs[k]? = some y ∧ a = some ⟨b, o, none⟩ ∧ a' = some ⟨b', o', none⟩ ∧
      w.cell? ⟨b, o + k * 2, none⟩ = some (.int .i64 x.kind) ∧ w.cell? ⟨b, o + k * 2 + 1, none⟩ = some (.int .i64 x.value) ∧
      w.cell? ⟨b', o' + k * 2, none⟩ = some (.int .i64 y.kind) ∧ w.cell? ⟨b', o' + k * 2 + 1, none⟩ = some (.int .i64 y.value)) := fun k hk hk' => EvAt.two h h' hk hk'
  clear h h'
  have HB : Hid (∀ m, Below w.heap.size w (w.drewN m)) := fun m => below_drewNe (Below.refl _ w) m
  obtain ⟨n, hn⟩ : ∃ n, es.length = n := ⟨_, rfl⟩
  obtain ⟨n', hn'⟩ : ∃ n', fs.length = n' := ⟨_, rfl⟩
  have HN := Lib.hid hn
  have HN' := Lib.hid hn'
  rw [hn] at hc H ⊢
  rw [hn'] at hc' H ⊢
  clear hn hn'
  by_cases hnn : n = n'
  · subst hnn
    go_enter Try.func54, Try.ntmps54
    go_wp2
    go_loopw [13] (fun i wr => ∃ k m : Nat, k ≤ n ∧ i = .int .i64 k ∧ SameUp es fs k ∧ wr = w.drewN m) (fun i _ => n - (intOf i).toNat)
    case atStart => exact ⟨0, 0, Nat.zero_le _, rfl, fun j hj => absurd hj (Nat.not_lt_zero _), rfl⟩
    case round =>
      obtain ⟨k, m, hk, rfl, hS, rfl⟩ := hrel
      have HS := Lib.hid hS
      clear hS
      by_cases hlt : k < n
      · obtain ⟨x, y, b, o, b', o', hx, hy, rfl, rfl, d0, d1, e0, e1⟩ := H.out k (by omega) (by omega)
        have HX := Lib.hid hx
        have HY := Lib.hid hy
        clear hx hy H
        by_cases hxy : x = y
        · subst hxy
          have HS2 : Hid (SameUp es fs (k + 1)) := HS.out.succ (by rw [HX.out, HY.out])
          go_wp2
          go_quiet (fail)
          go_wp2
          go_roundw
          case rel => exact ⟨k + 1, _, by omega, by go_num, HS2.out, rfl⟩
          case measure => simp [intOf]; omega
        · have HNE : Hid (false = decide (es = fs)) := (decide_eq_false fun e => hxy (by have h1 := HX.out; rw [e, HY.out] at h1; cases h1; rfl)).symm
          rcases ev_ne hxy with h1 | ⟨h1, h2⟩
          all_goals
            clear hxy
            go_wp2
            go_quiet (fail)
            go_wp2
            go_ret
            exact YN.of HNE.out (below_drewNe (HB.out _) _)
      · obtain rfl : k = n := by omega
        clear H
        have HE : Hid (true = decide (es = fs)) := (decide_eq_true (HS.out.all HN.out HN'.out)).symm
        go_wp2
        go_ret
        exact YN.of HE.out (HB.out _)
  · have hne : ((n : Int) != (n' : Int)) = true := by simp; omega
    have HNE : Hid (false = decide (es = fs)) := (decide_eq_false fun e => hnn (by rw [← HN.out, ← HN'.out, e])).symm
    clear H
    go_enter Try.func54, Try.ntmps54
    go_wp2
    go_ret
    exact YN.of HNE.out (Below.refl _ _)

set_option maxHeartbeats 2000000 in
/-- **impl.TraceSame.** -/
theorem iTS_one (es fs : List Ev) (a a' : Option Addr) (cap cap' : Nat) (w : World) (h : EvL w es a cap) (h' : EvL w fs a' cap') :
    Calls Try.prog 16 #[.slice a es.length cap, .slice a' fs.length cap'] w (YN (decide (es = fs)) w) := by
  have HH := Lib.hid h
  have HH' := Lib.hid h'
  clear h h'
  obtain ⟨q, hq⟩ : ∃ q, decide (es = fs) = q := ⟨_, rfl⟩
  go_enter Try.func16, Try.ntmps16
  go_wp2_with fail
  refine (slEqEv_one es fs a a' cap cap' _ HH.out HH'.out).mono ?_
  rintro e w1 ⟨rfl, hb⟩
  have HB := Lib.hid hb
  rw [hq]
  go_wp2_with fail
  go_ret
  exact YN.of (b := q) hq.symm HB.out

end Go.Proofs.Ytgfagdjadmpklaa

namespace Go.Proofs.Ytgfagdjadmpklaa
open Go.RowKit
set_option linter.unusedVariables false

section
variable {α κ : Type} {T : TypeId} {sz : Nat} {C : α → κ → List Value} {R : World → (Nat → Prop) → α → κ → Prop}

theorem cellsL_set (hC : ∀ x k, (C x k).length = sz) (x' : α) (u : Value) : ∀ (es : List α) (L : List κ) (i j : Nat) (x : α) (k : κ), es[i]? = some x → L[i]? = some k → j < sz → (C x k).set j u = C x' k → (cellsL C es L).set (i * sz + j) u = cellsL C (es.set i x') L
  | y :: ys, l :: ls, 0, j, x, k, h1, h2, hj, hs => by
    simp at h1 h2; subst h1 h2
    rw [Nat.zero_mul, Nat.zero_add, cellsL, List.set_append_left _ _ (by rw [hC]; exact hj), hs, List.set_cons_zero, cellsL]
  | y :: ys, l :: ls, i + 1, j, x, k, h1, h2, hj, hs => by
    simp at h1 h2
    rw [cellsL, List.set_append_right _ _ (by rw [hC, Nat.succ_mul]; omega), hC, show (i + 1) * sz + j - sz = i * sz + j by rw [Nat.succ_mul]; omega, cellsL_set hC x' u ys ls i j x k h1 h2 hj hs, List.set_cons_succ, cellsL]
  | [], _, _, _, _, _, h, _, _, _ => by simp at h
  | _ :: _, [], _, _, _, _, _, h, _, _ => by simp at h

theorem RowG.set (hC : ∀ x k, (C x k).length = sz) (hR : ∀ (w w' : World) (D D' : Nat → Prop) (x : α) (k : κ), Stand D w w' → (∀ j, D j → D' j) → R w D x k → R w' D' x k) {w : World} {base g cap : Nat} {es : List α} (h : RowG T sz C R w base (.slice (some ⟨g, 0, none⟩) es.length cap) es)
    {i j : Nat} {x x' : α} {u : Value} (hx : es[i]? = some x) (hj : j < sz) (hs : ∀ k, (C x k).set j u = C x' k) (hx' : ∀ w D k, R w D x k → R w D x' k) :
    RowG T sz C R (w.setCell ⟨g, i * sz + j, none⟩ u) base (.slice (some ⟨g, 0, none⟩) es.length cap) (es.set i x') := by
  obtain ⟨L, h1, h2, h3⟩ := h
  have hi : i < es.length := (List.getElem?_eq_some_iff.1 hx).1
  obtain ⟨k, hk⟩ : ∃ k, L[i]? = some k := ⟨L[i]'(by omega), List.getElem?_eq_getElem _⟩
  have hset := cellsL_set hC x' u es L i j x k hx hk hj (hs k)
  have hst : ∀ b, b ≠ g → (w.setCell ⟨g, i * sz + j, none⟩ u).heap[b]? = w.heap[b]? := fun b hb => Below.heap_setCell _ _ _ _ (by simpa using hb)
  have hsz : (w.setCell ⟨g, i * sz + j, none⟩ u).heap.size = w.heap.size := by simp [World.setCell]
  have hD : Stand (Dv w base (.slice (some ⟨g, 0, none⟩) es.length cap)) w (w.setCell ⟨g, i * sz + j, none⟩ u) := fun b hb => hst b fun e => hb.2.2 (by rw [e]; rfl)
  have hDD : ∀ b, Dv w base (.slice (some ⟨g, 0, none⟩) es.length cap) b → Dv (w.setCell ⟨g, i * sz + j, none⟩ u) base (.slice (some ⟨g, 0, none⟩) es.length cap) b := fun b hb => ⟨hb.1, by rw [hsz]; exact hb.2.1, hb.2.2⟩
  refine ⟨L, by rw [h1]; simp, ?_, fun i' y q hy hq => ?_⟩
  · rw [List.length_set]
    rcases h2.2 with ⟨e, _⟩ | ⟨g', cap', cur, e, hb, hg, hn, hm, hc, ht⟩
    · cases e
    · cases e
      refine ⟨by rw [← hset, List.length_set]; exact h2.1, .inr ⟨g, cap, cur.setIfInBounds (i * sz + j) u, rfl, hb, heap_setCell_same w g _ cur T u hg, hn, hm, by rw [Array.size_setIfInBounds]; exact hc, ?_⟩⟩
      rw [Array.toList_setIfInBounds, List.take_set, ht, hset]
  · by_cases hii : i' = i
    · subst hii
      rw [List.getElem?_set_self hi] at hy
      cases hy
      exact hR _ _ _ _ _ _ hD hDD (hx' _ _ _ (h3 i' x q hx hq))
    · rw [List.getElem?_set_ne (by omega)] at hy
      exact hR _ _ _ _ _ _ hD hDD (h3 i' y q hy hq)
end

end Go.Proofs.Ytgfagdjadmpklaa

namespace Go.Proofs.Ytgfagdjadmpklaa
open Go.RowKit
set_option linter.unusedVariables false

/-- A list of pairs as a list of events. -/
def evs (es : List (Int × Int)) : List Ev := es.map fun x => ⟨x.1, x.2⟩
theorem evs_len (es : List (Int × Int)) : (evs es).length = es.length := by simp [evs]
theorem RowEv.evl {w : World} {base : Nat} {a : Option Addr} {c : Nat} {es : List (Int × Int)} (h : RowEv w base (.slice a es.length c) es) : EvL w (evs es) a c := by
  refine ⟨?_, ?_, fun i x hx => ?_⟩
  · rw [evs_len]
    rcases h.flat.2 with ⟨e1, e2⟩ | ⟨g, cap, cur, e1, _, _, hn, hm, _⟩
    · injection e1 with _ _ e3; omega
    · injection e1 with _ _ e3; rw [e3]; exact hn
  · rcases h.flat.2 with ⟨e1, e2⟩ | ⟨g, cap, cur, e1, _, _, hn, hm, _⟩
    · injection e1 with _ _ e3; rw [e3]; unfold maxLen; omega
    · injection e1 with _ _ e3; rw [e3]; exact hm
  · obtain ⟨y, hy, rfl⟩ : ∃ y, es[i]? = some y ∧ (⟨y.1, y.2⟩ : Ev) = x := by
      unfold evs at hx
      rw [List.getElem?_map] at hx
      cases he : es[i]? with
      | none => rw [he] at hx; cases hx
      | some y => rw [he] at hx; exact ⟨y, rfl, by simpa using hx⟩
    obtain ⟨b, e, h1, h2, h3, h4⟩ := h.at i y hy
    exact ⟨b, 0, e, h2, by rw [Nat.zero_add]; exact h3, by rw [Nat.zero_add]; exact h4⟩
theorem EvL.take {u : World} {es : List Ev} {a : Option Addr} {c : Nat} (h : EvL u es a c) (k : Nat) : EvL u (es.take k) a c := by
  refine ⟨by rw [List.length_take]; exact Nat.le_trans (Nat.min_le_right _ _) h.1, h.2.1, fun i x hx => h.2.2 i x ?_⟩
  rw [List.getElem?_take] at hx
  split at hx
  · exact hx
  · cases hx
theorem EvL.setVal {u : World} {g c : Nat} {es : List Ev} (h : EvL u es (some ⟨g, 0, none⟩) c) (k : Nat) (z : Int) (e : Ev) (he : es[k]? = some e) : EvL (u.setCell ⟨g, k * 2 + 1, none⟩ (.int .i64 z)) (es.set k ⟨e.kind, z⟩) (some ⟨g, 0, none⟩) c := by
  refine ⟨by rw [List.length_set]; exact h.1, h.2.1, fun i x hx => ?_⟩
  have hsz : (u.setCell ⟨g, k * 2 + 1, none⟩ (.int .i64 z)).heap.size = u.heap.size := by simp [World.setCell]
  by_cases hi : i = k
  · subst hi
    have hlt := (List.getElem?_eq_some_iff.1 he).1
    rw [List.getElem?_set_self hlt] at hx
    obtain rfl : (⟨e.kind, z⟩ : Ev) = x := by simpa using hx
    obtain ⟨b, o, e1, h2, h3, h4⟩ := h.2.2 i e he
    cases e1
    simp only [Nat.zero_add] at h3 h4
    refine ⟨g, 0, rfl, by rw [hsz]; exact h2, ?_, ?_⟩
    · rw [Nat.zero_add, cell_set h3, if_neg (by omega)]
    · rw [Nat.zero_add, cell_set h4, if_pos ⟨rfl, rfl⟩]
  · rw [List.getElem?_set_ne (fun e => hi e.symm)] at hx
    obtain ⟨b, o, e1, h2, h3, h4⟩ := h.2.2 i x hx
    cases e1
    simp only [Nat.zero_add] at h3 h4
    refine ⟨g, 0, rfl, by rw [hsz]; exact h2, ?_, ?_⟩
    · rw [Nat.zero_add, cell_set h3, if_neg (by omega)]
    · rw [Nat.zero_add, cell_set h4, if_neg (by omega)]
theorem EvL.keep {u u' : World} {es : List Ev} {a : Option Addr} {c : Nat} (h : EvL u es a c) (hz : u.heap.size ≤ u'.heap.size) (hs : ∀ b o, a = some ⟨b, o, none⟩ → u'.heap[b]? = u.heap[b]?) : EvL u' es a c :=
  ⟨h.1, h.2.1, fun i x hx => by
    obtain ⟨b, o, e1, h2, h3, h4⟩ := h.2.2 i x hx
    exact ⟨b, o, e1, by omega, (World.cell?_of_block (w := u) (hs b o e1)).trans h3, (World.cell?_of_block (w := u) (hs b o e1)).trans h4⟩⟩

/-- A list of events as a list of pairs. -/
def prs (es : List Ev) : List (Int × Int) := es.map fun x => (x.kind, x.value)
theorem prs_len (es : List Ev) : (prs es).length = es.length := by simp [prs]
theorem evs_prs : ∀ (es : List Ev), evs (prs es) = es
  | [] => rfl
  | x :: es => by show (⟨x.kind, x.value⟩ : Ev) :: evs (prs es) = _; rw [evs_prs es]
theorem prs_evs : ∀ (es : List (Int × Int)), prs (evs es) = es
  | [] => rfl
  | x :: es => by show (x.1, x.2) :: prs (evs es) = _; rw [prs_evs es]
theorem prs_at {es : List Ev} {i : Nat} {x : Ev} (h : es[i]? = some x) : (prs es)[i]? = some (x.kind, x.value) := by simp [prs, h]
theorem RowEv.evl' {w : World} {base n : Nat} {a : Option Addr} {c : Nat} {es : List Ev} (h : RowEv w base (.slice a n c) (prs es)) (hn : es.length = n) : EvL w es a c := by
  have h' : RowEv w base (.slice a (prs es).length c) (prs es) := by rw [prs_len, hn]; exact h
  have := h'.evl
  rwa [evs_prs] at this

theorem RowEv.evl2 {w : World} {base n : Nat} {a : Option Addr} {c : Nat} {ps : List (Int × Int)} (h : RowEv w base (.slice a n c) ps) (hn : (evs ps).length = n) : EvL w (evs ps) a c := by
  rw [← hn, evs_len] at h
  exact h.evl

/-- One cell of an own row written anew. -/
theorem RowEv.setK {w : World} {base g n cap : Nat} {es : List (Int × Int)} (h : RowEv w base (.slice (some ⟨g, 0, none⟩) n cap) es) (hn : es.length = n) {i : Nat} {x : Int × Int} (hx : es[i]? = some x) (z : Int) :
    RowEv (w.setCell ⟨g, i * 2, none⟩ (.int .i64 z)) base (.slice (some ⟨g, 0, none⟩) n cap) (es.set i (z, x.2)) := by
  subst hn
  have := RowG.set (T := 92) (sz := 2) (C := fun (x : Int × Int) (_ : Unit) => [.int .i64 x.1, .int .i64 x.2]) (R := fun _ _ _ _ => True) (j := 0) (u := .int .i64 z) (x' := (z, x.2)) (fun _ _ => rfl) hREv h hx (by decide) (fun _ => rfl) (fun _ _ _ _ => trivial)
  exact this
theorem RowEv.setV {w : World} {base g n cap : Nat} {es : List (Int × Int)} (h : RowEv w base (.slice (some ⟨g, 0, none⟩) n cap) es) (hn : es.length = n) {i : Nat} {x : Int × Int} (hx : es[i]? = some x) (z : Int) :
    RowEv (w.setCell ⟨g, i * 2 + 1, none⟩ (.int .i64 z)) base (.slice (some ⟨g, 0, none⟩) n cap) (es.set i (x.1, z)) := by
  subst hn
  have := RowG.set (T := 92) (sz := 2) (C := fun (x : Int × Int) (_ : Unit) => [.int .i64 x.1, .int .i64 x.2]) (R := fun _ _ _ _ => True) (j := 1) (u := .int .i64 z) (x' := (x.1, z)) (fun _ _ => rfl) hREv h hx (by decide) (fun _ => rfl) (fun _ _ _ _ => trivial)
  exact this
theorem RowEv.row {w : World} {base n cap : Nat} {a : Option Addr} {es : List (Int × Int)} (h : RowEv w base (.slice a n cap) es) : es.length = n := by
  rcases h.flat.2 with ⟨e1, e2⟩ | ⟨g, cap, cur, e1, _⟩
  · cases e1; exact e2
  · cases e1; rfl
theorem RowEv.ptr {w : World} {base n cap : Nat} {a : Option Addr} {es : List (Int × Int)} (h : RowEv w base (.slice a n cap) es) (hn : n ≠ 0) : ∃ g cur, a = some ⟨g, 0, none⟩ ∧ base ≤ g ∧ w.heap[g]? = some (.cells cur 92 (0, 0)) ∧ cur.size = cap * 2 ∧ n ≤ cap ∧ cap ≤ maxLen := by
  have hl := h.row
  rcases h.flat.2 with ⟨e1, e2⟩ | ⟨g, cap, cur, e1, e2, e3, e4, e5, e6, _⟩
  · omega
  · cases e1
    exact ⟨g, cur, rfl, e2, e3, e6, e4, e5⟩

end Go.Proofs.Ytgfagdjadmpklaa

namespace Go.Proofs.Ytgfagdjadmpklaa
open Go.RowKit
set_option linter.unusedVariables false

/-- The events that a projection keeps. -/
def kept (x : Ev) : Bool := decide (x.kind = 2 ∨ x.kind = 3 ∨ x.kind = 4)
/-- The projection of a list of events, as pairs. -/
def proj (es : List Ev) : List (Int × Int) := prs (es.filter kept)
theorem proj_app (es fs : List Ev) : proj (es ++ fs) = proj es ++ proj fs := by simp [proj, prs]
theorem proj_len (es : List Ev) : (proj es).length ≤ es.length := by simp [proj, prs_len, List.length_filter_le]
theorem proj_nil : proj [] = [] := rfl
theorem take_one {es : List Ev} {k : Nat} {x : Ev} (h : es[k]? = some x) : es.take (k + 1) = es.take k ++ [x] := by
  have hk := (List.getElem?_eq_some_iff.1 h).1
  have e : es[k] = x := by have := (List.getElem?_eq_some_iff.1 h).2; exact this
  rw [List.take_add_one, h]; rfl
theorem proj_yes {es : List Ev} {k : Nat} {x : Ev} (h : es[k]? = some x) (hk : kept x = true) : proj (es.take (k + 1)) = proj (es.take k) ++ [(x.kind, x.value)] := by
  rw [take_one h, proj_app]
  simp [proj, prs, hk]
theorem proj_no {es : List Ev} {k : Nat} {x : Ev} (h : es[k]? = some x) (hk : kept x = false) : proj (es.take (k + 1)) = proj (es.take k) := by
  rw [take_one h, proj_app]
  simp [proj, prs, hk]
theorem proj_all {es : List Ev} {n : Nat} (h : es.length = n) : proj (es.take n) = proj es := by rw [← h, List.take_length]
theorem proj_take_len (es : List Ev) (k : Nat) : (proj (es.take k)).length ≤ k := Nat.le_trans (proj_len _) (by rw [List.length_take]; exact Nat.min_le_left _ _)
/-- A projection is projected to itself. -/
theorem proj_twice (es : List Ev) : proj (evs (proj es)) = proj es := by
  unfold proj
  rw [evs_prs, List.filter_filter]
  simp
theorem proj_cut (es : List Ev) (k : Nat) : proj (es.take k) ++ proj (es.drop k) = proj es := by rw [← proj_app, List.take_append_drop]

/-- The marks from k on. -/
def mks (k : Int) (n : Nat) : List (Int × Int) := (List.range n).map fun (i : Nat) => (k + 2 * (i : Int), k + 2 * (i : Int) + 1)
theorem mks_len (k : Int) (n : Nat) : (mks k n).length = n := by simp [mks]
theorem mks_at (k : Int) {n i : Nat} (h : i < n) : (mks k n)[i]? = some (k + 2 * (i : Int), k + 2 * (i : Int) + 1) := by
  unfold mks
  rw [List.getElem?_map, List.getElem?_range h]; rfl
theorem mks_all {k : Int} {n : Nat} {ps : List (Int × Int)} (hl : ps.length = n) (h : ∀ i : Nat, i < n → ps[i]? = some (k + 2 * (i : Int), k + 2 * (i : Int) + 1)) : ps = mks k n := by
  apply List.ext_getElem?
  intro i
  by_cases hi : i < n
  · rw [h i hi, mks_at k hi]
  · rw [List.getElem?_eq_none (by omega), List.getElem?_eq_none (by rw [mks_len]; omega)]

end Go.Proofs.Ytgfagdjadmpklaa

namespace Go.Proofs.Ytgfagdjadmpklaa
open Go.RowKit
set_option linter.unusedVariables false

/-- A projection is handed back, in a row of the call's own. -/
def PjR (es : List Ev) (w : World) (f : Ending) (w' : World) : Prop := ∃ a n c, f = .returned (.slice a n c) ∧ (proj es).length = n ∧ RowEv w' w.heap.size (.slice a n c) (proj es) ∧ Below w.heap.size w w'

/-- The state of a projecting loop. -/
def PjL (es : List Ev) (n : Nat) (w : World) (out i : Value) (wr : World) : Prop := ∃ (k m c : Nat) (a : Option Addr), k ≤ n ∧ i = .int .i64 k ∧ out = .slice a m c ∧ (proj (es.take k)).length = m ∧ RowEv wr w.heap.size (.slice a m c) (proj (es.take k)) ∧ Below w.heap.size w wr

/-- One more event is kept. -/
theorem PjL.more {es : List Ev} {n k m c g cp : Nat} {a : Option Addr} {x : Ev} {w w1 w2 : World} (hk : k < n) (hx : es[k]? = some x) (hkp : kept x = true) (hm : (proj (es.take k)).length = m)
    (hb : Below w.heap.size w w1) (hg : ∀ g, (Value.slice a m c).ownBlock = some g → w.heap.size ≤ g) (hgrow : w1.grownBy w2 (Value.slice a m c).ownBlock)
    (hown : w2.ownsRow w.heap.size 92 2 (.slice (some ⟨g, 0, none⟩) (m + 1) cp) (m + 1) (flatE (proj (es.take k)) ++ [.int .i64 x.kind, .int .i64 x.value])) :
    PjL es n w (.slice (some ⟨g, 0, none⟩) (m + 1) cp) (.int .i64 ((k : Int) + 1)) w2 := by
  have hl : (proj (es.take (k + 1))).length = m + 1 := by rw [proj_yes hx hkp, List.length_append, hm]; rfl
  refine ⟨k + 1, m + 1, cp, some ⟨g, 0, none⟩, hk, by go_num, rfl, hl, ?_, hb.grown hgrow hb.size (fun q e => hg q e)⟩
  have h2 : RowEv w2 w.heap.size (.slice (some ⟨g, 0, none⟩) (proj (es.take (k + 1))).length cp) (proj (es.take (k + 1))) := by
    refine RowEv.ofFlat ?_
    rw [hl, proj_yes hx hkp, flatE_app]
    exact hown
  rw [hl] at h2
  exact h2

set_option maxHeartbeats 2000000 in
/-- **spec.ProjectTrace.** -/
theorem sPj_one (es : List Ev) (a : Option Addr) (n cap : Nat) (w : World) (h : EvL w es a cap) (hn : es.length = n) (hs : n ≤ 22453200) :
    Calls Try.prog 17 #[.slice a n cap] w (PjR es w) := by
  have HE : Hid (∀ v, Below w.heap.size w v → EvL v es a cap) := fun v hv => h.below hv
  have HN := Lib.hid hn
  have HB0 : Hid (Below w.heap.size w (w.alloc (.cells #[] 92))) := (Below.refl _ w).alloc (Nat.le_refl _) _
  have HL0 : Hid (PjL es n w (.slice (some ⟨w.heap.size, 0, none⟩) 0 0) (.int .i64 0) (w.alloc (.cells #[] 92))) := ⟨0, 0, 0, _, Nat.zero_le _, rfl, rfl, rfl, RowEv.made w w.heap.size (Nat.le_refl _), HB0.out⟩
  clear h hn
  go_enter Try.func17, Try.ntmps17
  go_wp2_with fail
  go_loopw [3, 4] (fun o i wr => PjL es n w o i wr) (fun _ i _ => n - (intOf i).toNat)
  case atStart => exact HL0.out
  case round =>
    obtain ⟨k, m, c, a1, hk, rfl, rfl, hm, hrow, hbel⟩ := hrel
    have HM := Lib.hid hm
    have HROW := Lib.hid hrow
    have HBEL := Lib.hid hbel
    have hmk : m ≤ k := by rw [← hm]; exact proj_take_len es k
    have hzr := hbel.size
    clear hm hrow hbel HL0 HB0
    by_cases hlt : k < n
    · obtain ⟨x, hx⟩ : ∃ x, es[k]? = some x := ⟨es[k]'(by rw [HN.out]; exact hlt), List.getElem?_eq_getElem _⟩
      obtain ⟨b, o, rfl, hbl, e0, e1⟩ := (HE.out wr HBEL.out).2.2 k x hx
      have HX := Lib.hid hx
      obtain ⟨kd, vl⟩ := x
      dsimp only at e0 e1
      clear hx
      by_cases hkp : kept ⟨kd, vl⟩ = true
      · have hk3 : kd = 2 ∨ kd = 3 ∨ kd = 4 := by unfold kept at hkp; exact of_decide_eq_true hkp
        obtain ⟨i0, hinf, hz0, hz1, hz2⟩ := info_parts infoEv
        have hL : (wr.alloc (.cells #[.int .i64 kd, .int .i64 vl] 92)).ownsRow w.heap.size 92 2 (.slice a1 m c) m (flatE (proj (es.take k))) := by
          have h2 := (HROW.out.stand (w' := wr.alloc (.cells #[.int .i64 kd, .int .i64 vl] 92)) fun g _ hg => Below.heap_alloc _ _ _ hg).flat
          rw [HM.out] at h2
          exact h2
        have hNB : (wr.alloc (.cells #[.int .i64 kd, .int .i64 vl] 92)).heap[wr.heap.size]? = some (.cells #[.int .i64 kd, .int .i64 vl] 92 (0, 0)) := heap_alloc_new wr _
        have HBA : Hid (Below w.heap.size w (wr.alloc (.cells #[.int .i64 kd, .int .i64 vl] 92))) := HBEL.out.alloc hzr _
        have HLT : Hid (∀ g, (Value.slice a1 m c).ownBlock = some g → w.heap.size ≤ g) := fun g hg => (HROW.out.lt g hg).1
        have HKP := Lib.hid hkp
        clear HROW HBEL hkp
        rcases hk3 with rfl | rfl | rfl
        all_goals
          go_wp2_with (at_builtin; refine wpList_append_lies _ (by rfl) _ _ 33 (by rfl) w.heap.size 92 i0 _ 2 16 Try.underlying33 hinf hz0 hz1 hz2 rfl (by omega) (.slice a1 m c) m _ (by rfl) hL ⟨wr.heap.size, 0, none⟩ 1 1 _ (by rfl) (by rfl) (World.news_of_block hNB) (by simp [Value.oneCell']) (by omega) (by unfold maxLen; omega) (by omega) (by simp; omega) (wr.heap.size + 1) (by simp) ?_; intro g cp w6 hown6 hgrow hat hlt6)
          have HREL := Lib.hid (PjL.more hlt HX.out HKP.out HM.out HBA.out HLT.out hgrow hown6)
          clear hown6 hgrow hat hlt6 hL hNB
          go_wp2_with fail
          go_roundw
          case rel => exact HREL.out
          case measure => simp [intOf]; omega
      · have hkf : kept ⟨kd, vl⟩ = false := by simpa using hkp
        have hkn : ¬ (kd = 2 ∨ kd = 3 ∨ kd = 4) := by unfold kept at hkf; exact of_decide_eq_false hkf
        have h2 : (kd == 2) = false := by simp; omega
        have h3 : (kd == 3) = false := by simp; omega
        have h4 : (kd == 4) = false := by simp; omega
        have HREL : Hid (PjL es n w (.slice a1 m c) (.int .i64 ((k : Int) + 1)) wr) := ⟨k + 1, m, c, a1, hlt, by go_num, rfl, by rw [proj_no HX.out hkf]; exact HM.out, by rw [proj_no HX.out hkf]; exact HROW.out, HBEL.out⟩
        clear hkp hkf hkn HROW HBEL
        go_wp2_with fail
        go_roundw
        case rel => exact HREL.out
        case measure => simp [intOf]; omega
    · obtain rfl : k = n := by omega
      have HFIN : Hid (PjR es w (.returned (.slice a1 m c)) wr) := by
        have e := proj_all HN.out
        have h1 := HM.out
        have h2 := HROW.out
        rw [e] at h1 h2
        exact ⟨a1, m, c, rfl, h1, h2, HBEL.out⟩
      clear HROW HBEL
      go_wp2_with fail
      go_ret
      exact HFIN.out

end Go.Proofs.Ytgfagdjadmpklaa

namespace Go.Proofs.Ytgfagdjadmpklaa
open Go.RowKit
set_option linter.unusedVariables false

set_option maxRecDepth 100000 in
set_option maxHeartbeats 2000000 in
/-- **impl.ProjectTrace.** -/
theorem iPj_one (es : List Ev) (a : Option Addr) (n cap : Nat) (w : World) (h : EvL w es a cap) (hn : es.length = n) (hs : n ≤ 22453200) :
    Calls Try.prog 15 #[.slice a n cap] w (PjR es w) := by
  have HE : Hid (∀ v, Below w.heap.size w v → EvL v es a cap) := fun v hv => h.below hv
  have HN := Lib.hid hn
  have HL0 : Hid (PjL es n w (.slice none 0 0) (.int .i64 0) w) := ⟨0, 0, 0, _, Nat.zero_le _, rfl, rfl, rfl, RowG.nil _ _, Below.refl _ _⟩
  clear h hn
  go_enter Try.func15, Try.ntmps15
  go_wp2_with fail
  go_loopw [3, 8] (fun o i wr => PjL es n w o i wr) (fun _ i _ => n - (intOf i).toNat)
  case atStart => exact HL0.out
  case round =>
    obtain ⟨k, m, c, a1, hk, rfl, rfl, hm, hrow, hbel⟩ := hrel
    have HM := Lib.hid hm
    have HROW := Lib.hid hrow
    have HBEL := Lib.hid hbel
    have hmk : m ≤ k := by rw [← hm]; exact proj_take_len es k
    have hzr := hbel.size
    clear hm hrow hbel HL0
    by_cases hlt : k < n
    · obtain ⟨x, hx⟩ : ∃ x, es[k]? = some x := ⟨es[k]'(by rw [HN.out]; exact hlt), List.getElem?_eq_getElem _⟩
      obtain ⟨b, o, rfl, hbl, e0, e1⟩ := (HE.out wr HBEL.out).2.2 k x hx
      have HX := Lib.hid hx
      obtain ⟨kd, vl⟩ := x
      dsimp only at e0 e1
      clear hx
      by_cases hkp : kept ⟨kd, vl⟩ = true
      · have hk3 : kd = 2 ∨ kd = 3 ∨ kd = 4 := by unfold kept at hkp; exact of_decide_eq_true hkp
        obtain ⟨wr0, hwr0⟩ : ∃ u, wr.alloc (.cells #[.int .i64 kd, .int .i64 vl] 92) = u := ⟨_, rfl⟩
        have hzw0 : wr0.heap.size = wr.heap.size + 1 := by rw [← hwr0]; simp
        obtain ⟨i0, hinf, hz0, hz1, hz2⟩ := info_parts infoEv
        have hL : (wr0.alloc (.cells #[.int .i64 kd, .int .i64 vl] 92)).ownsRow w.heap.size 92 2 (.slice a1 m c) m (flatE (proj (es.take k))) := by
          have h2 := ((HROW.out.stand (w' := wr0) fun g _ hg => by rw [← hwr0]; exact Below.heap_alloc _ _ _ hg).stand (w' := wr0.alloc (.cells #[.int .i64 kd, .int .i64 vl] 92)) fun g _ hg => Below.heap_alloc _ _ _ hg).flat
          rw [HM.out] at h2
          exact h2
        have hNB : (wr0.alloc (.cells #[.int .i64 kd, .int .i64 vl] 92)).heap[wr0.heap.size]? = some (.cells #[.int .i64 kd, .int .i64 vl] 92 (0, 0)) := heap_alloc_new wr0 _
        have HBA : Hid (Below w.heap.size w (wr0.alloc (.cells #[.int .i64 kd, .int .i64 vl] 92))) := (show Below w.heap.size w wr0 by rw [← hwr0]; exact HBEL.out.alloc hzr _).alloc (by omega) _
        have HLT : Hid (∀ g, (Value.slice a1 m c).ownBlock = some g → w.heap.size ≤ g) := fun g hg => (HROW.out.lt g hg).1
        have HKP := Lib.hid hkp
        have HWR0 := Lib.hid hwr0
        clear HROW HBEL hkp hwr0
        rcases hk3 with rfl | rfl | rfl
        all_goals
          go_wp2_with (at_builtin; rw [HWR0.out, show wr.heap.size + 1 = wr0.heap.size from hzw0.symm]; refine wpList_append_lies _ (by rfl) _ _ 33 (by rfl) w.heap.size 92 i0 _ 2 16 Try.underlying33 hinf hz0 hz1 hz2 rfl (by omega) (.slice a1 m c) m _ (by rfl) hL ⟨wr0.heap.size, 0, none⟩ 1 1 _ (by rfl) (by rfl) (World.news_of_block hNB) (by simp [Value.oneCell']) (by omega) (by unfold maxLen; omega) (by omega) (by simp; omega) (wr0.heap.size + 1) (by simp) ?_; intro g cp w6 hown6 hgrow hat hlt6)
          have HREL := Lib.hid (PjL.more hlt HX.out HKP.out HM.out HBA.out HLT.out hgrow hown6)
          clear hown6 hgrow hat hlt6 hL hNB
          go_wp2_with fail
          go_roundw
          case rel => exact HREL.out
          case measure => simp [intOf]; omega
      · have hkf : kept ⟨kd, vl⟩ = false := by simpa using hkp
        have hkn : ¬ (kd = 2 ∨ kd = 3 ∨ kd = 4) := by unfold kept at hkf; exact of_decide_eq_false hkf
        have h2 : (kd == 2) = false := by simp; omega
        have h3 : (kd == 3) = false := by simp; omega
        have h4 : (kd == 4) = false := by simp; omega
        have HREL : Hid (PjL es n w (.slice a1 m c) (.int .i64 ((k : Int) + 1)) (wr.alloc (.cells #[.int .i64 kd, .int .i64 vl] 92))) := ⟨k + 1, m, c, a1, hlt, by go_num, rfl, by rw [proj_no HX.out hkf]; exact HM.out, by rw [proj_no HX.out hkf]; exact HROW.out.stand fun g _ hg => Below.heap_alloc _ _ _ hg, HBEL.out.alloc hzr _⟩
        clear hkp hkf hkn HROW HBEL
        go_wp2_with fail
        go_roundw
        case rel => exact HREL.out
        case measure => simp [intOf]; omega
    · obtain rfl : k = n := by omega
      have HFIN : Hid (PjR es w (.returned (.slice a1 m c)) wr) := by
        have e := proj_all HN.out
        have h1 := HM.out
        have h2 := HROW.out
        rw [e] at h1 h2
        exact ⟨a1, m, c, rfl, h1, h2, HBEL.out⟩
      clear HROW HBEL
      go_wp2_with fail
      go_ret
      exact HFIN.out

end Go.Proofs.Ytgfagdjadmpklaa

namespace Go.Proofs.Ytgfagdjadmpklaa
open Go.RowKit
set_option linter.unusedVariables false

/-- A list of events has been drawn, in a row of its own. -/
def DrPj (w : World) (f : Ending) (w' : World) : Prop := ∃ (ps : List (Int × Int)) (a : Option Addr) (n c lo : Nat), f = .returned (.slice a n c) ∧ ps.length = n ∧ RowEv w' lo (.slice a n c) ps ∧ w.heap.size ≤ lo ∧ n ≤ 22453200 ∧ Below w.heap.size w w'

/-- The state of the loop over the events. -/
def DpL (w : World) (B lo n c : Nat) (a : Option Addr) (i : Value) (wr : World) : Prop := ∃ (k : Nat) (ps : List (Int × Int)), k ≤ n ∧ i = .int .i64 k ∧ ps.length = n ∧ RowEv wr lo (.slice a n c) ps ∧ RdU wr B (6000100 + 2 * k) ∧ Below B w wr

set_option maxRecDepth 100000 in
set_option maxHeartbeats 4000000 in
theorem drProjectTrace (a : Option Addr) (len cap : Nat) (zs : List Int) (w : World) (hrow : IsRow .u8 w a len cap zs) : Calls Try.prog 14 #[.slice a len cap] w (DrPj w) := by
  have HROW := Lib.hid hrow
  clear hrow
  go_enter Try.func14, Try.ntmps14
  go_wp2_with fail
  with_reducible refine (open_one a len cap zs w HROW.out).mono ?_
  rintro f u0 ⟨a', len', cap', rfl, hb0, hr0⟩
  have hr0' : RdU u0 w.heap.size 0 := ⟨a', len', cap', 0, hr0, Nat.le_refl _⟩
  have HR0 := Lib.hid hr0'
  have HB0 := Lib.hid hb0
  have hlt0 := hr0'.lt
  clear hr0 hr0' hb0
  go_wp2_with fail
  with_reducible refine (l3Trace_one w.heap.size 0 u0 HR0.out (by omega)).mono ?_
  rintro f u1 ⟨ta, tc, es, rfl, hre, hen, hr1, ho1, hb1⟩
  have hz1 := hb1.size
  obtain ⟨n, hn⟩ : ∃ n, es.length = n := ⟨_, rfl⟩
  rw [hn] at hre hen
  simp only [hn]
  have HL0 : Hid (DpL w w.heap.size u0.heap.size n tc ta (.int .i64 0) u1) := ⟨0, es, Nat.zero_le _, rfl, hn, hre, hr1.mono (by omega), HB0.out.trans hb1⟩
  clear hre hr1 ho1 hb1 hn
  go_wp2_with fail
  go_loopw [5] (fun i wr => DpL w w.heap.size u0.heap.size n tc ta i wr) (fun i _ => n - (intOf i).toNat)
  case atStart => exact HL0.out
  case round =>
    obtain ⟨k, ps, hk, rfl, hps, hrow, hrd, hbel⟩ := hrel
    have HPS := Lib.hid hps
    have HROW2 := Lib.hid hrow
    have HRD := Lib.hid hrd
    have HBEL := Lib.hid hbel
    clear hps hrow hrd hbel HL0
    by_cases hlt : k < n
    · go_wp2_with fail
      with_reducible refine (pickU w.heap.size (6000100 + 2 * k) 6 wr HRD.out (by omega) (by omega) (by omega)).mono ?_
      rintro f v1 ⟨z, ⟨hz0, hz6⟩, rfl, hrd1, ho1, hb1⟩
      have HRD1 := Lib.hid hrd1
      have hl1 : w.heap.size < u0.heap.size := hlt0
      have HROW3 : Hid (RowEv v1 u0.heap.size (.slice ta n tc) ps) := HROW2.out.stand fun g hg hg' => ho1.2 g hg' (by have := (HROW2.out.lt g hg).1; omega)
      have HBEL1 := Lib.hid (HBEL.out.trans hb1)
      clear hrd1 ho1 hb1
      by_cases h0 : z = 0
      · subst h0
        clear HROW2 HBEL HRD
        go_wp2_with fail
        with_reducible refine (pickU w.heap.size (6000100 + 2 * k + 1) 7 v1 HRD1.out (by omega) (by omega) (by omega)).mono ?_
        rintro f v2 ⟨y, ⟨hy0, hy7⟩, rfl, hrd2, ho2, hb2⟩
        have hrow4 : RowEv v2 u0.heap.size (.slice ta n tc) ps := HROW3.out.stand fun g hg hg' => ho2.2 g hg' (by have := (HROW3.out.lt g hg).1; omega)
        obtain ⟨g, cur, rfl, hg, hblk, hcs, hnc, hcm⟩ := hrow4.ptr (by omega)
        obtain ⟨x, hx⟩ : ∃ x, ps[k]? = some x := ⟨ps[k]'(by rw [HPS.out]; exact hlt), List.getElem?_eq_getElem _⟩
        obtain ⟨⟨q0, q1, hq0, hq1⟩, hf0, hf1⟩ := ev_cells2 (o := k * 2) hblk (by rw [hcs]; omega)
        have hset := hrow4.setK HPS.out hx y
        have hb3 : Below w.heap.size v2 (v2.setCell ⟨g, k * 2, none⟩ (.int .i64 y)) := (Below.refl _ _).setCell (p := ⟨g, k * 2, none⟩) (show w.heap.size ≤ g by omega) _
        have hr3 : RdU (v2.setCell ⟨g, k * 2, none⟩ (.int .i64 y)) w.heap.size (6000100 + 2 * k + 2) := by
          obtain ⟨q1, q2, q3, q4, hq, hq'⟩ := hrd2
          have hrr : RdU v2 w.heap.size (6000100 + 2 * k + 1 + 1) := ⟨q1, q2, q3, q4, hq, hq'⟩
          exact hrr.below ((Below.refl _ v2).setCell (p := ⟨g, k * 2, none⟩) (show w.heap.size + 1 ≤ g by omega) _) (Nat.lt_succ_self _)
        have HREL : Hid (DpL w w.heap.size u0.heap.size n tc (some ⟨g, 0, none⟩) (.int .i64 ((k : Int) + 1)) (v2.setCell ⟨g, k * 2, none⟩ (.int .i64 y))) := ⟨k + 1, _, hlt, by go_num, by rw [List.length_set]; exact HPS.out, hset, hr3.mono (by omega), (HBEL1.out.trans hb2).trans hb3⟩
        clear hrd2 ho2 hb2 hrow4 hblk hset hb3 hr3 HROW3 HRD1 HBEL1
        go_wp2_with fail
        go_roundw
        case rel => exact HREL.out
        case measure => simp [intOf]; omega
      · have hq : (z == 0) = false := by simpa using h0
        have HREL : Hid (DpL w w.heap.size u0.heap.size n tc ta (.int .i64 ((k : Int) + 1)) v1) := ⟨k + 1, ps, hlt, by go_num, HPS.out, HROW3.out, HRD1.out.mono (by omega), HBEL1.out⟩
        clear HROW2 HBEL HRD HROW3 HRD1 HBEL1
        go_wp2_with fail
        go_roundw
        case rel => exact HREL.out
        case measure => simp [intOf]; omega
    · obtain rfl : k = n := by omega
      have HFIN : Hid (DrPj w (.returned (.slice ta k tc)) wr) := ⟨ps, ta, k, tc, u0.heap.size, rfl, HPS.out, HROW2.out, by omega, hen, HBEL.out⟩
      clear HROW2 HBEL HRD
      go_wp2_with fail
      go_ret
      exact HFIN.out

end Go.Proofs.Ytgfagdjadmpklaa

namespace Go.Proofs.Ytgfagdjadmpklaa
open Go.RowKit
set_option linter.unusedVariables false

theorem ev_add' (b o k : Nat) : (⟨b, o, none⟩ : Addr).add k = ⟨b, o + k, none⟩ := by unfold Addr.add; split <;> simp_all
theorem EvL.drop {u : World} {es : List Ev} {b o : Nat} {c : Nat} (h : EvL u es (some ⟨b, o, none⟩) c) (k : Nat) (hk : k ≤ es.length) : EvL u (es.drop k) (some ⟨b, o + k * 2, none⟩) (c - k) := by
  refine ⟨by rw [List.length_drop]; have := h.1; omega, by have := h.2.1; omega, fun i x hx => ?_⟩
  rw [List.getElem?_drop] at hx
  obtain ⟨b', o', e, h1, h2, h3⟩ := h.2.2 (k + i) x hx
  cases e
  refine ⟨b, o + k * 2, rfl, h1, ?_, ?_⟩
  · rw [show o + k * 2 + i * 2 = o + (k + i) * 2 by omega]; exact h2
  · rw [show o + k * 2 + i * 2 = o + (k + i) * 2 by omega]; exact h3
theorem EvL.drop' {u : World} {es : List Ev} {a : Option Addr} {c : Nat} (h : EvL u es a c) (k : Nat) (hk : k ≤ es.length) : EvL u (es.drop k) (a.map fun x => x.add (k * 2)) (c - k) := by
  by_cases he : es.length = 0
  · have e : es.drop k = [] := List.eq_nil_of_length_eq_zero (by rw [List.length_drop]; omega)
    rw [e]
    exact ⟨Nat.zero_le _, by have := h.2.1; omega, fun i x hx => by simp at hx⟩
  · obtain ⟨b, o, rfl, _⟩ := h.2.2 0 es[0] (List.getElem?_eq_getElem (by omega))
    show EvL u (es.drop k) (some ((⟨b, o, none⟩ : Addr).add (k * 2))) (c - k)
    rw [ev_add']
    exact h.drop k hk
/-- What an append leaves, seen closer. -/
theorem ApE.view {w w' : World} {base g : Nat} {es fs : List (Int × Int)} {v : Value} (h : ApE w base g es fs v w') : ∃ g' cap n, v = .slice (some ⟨g', 0, none⟩) n cap ∧ (es ++ fs).length = n ∧ RowEv w' base (.slice (some ⟨g', 0, none⟩) n cap) (es ++ fs) ∧ w.grownBy w' (some g) ∧ (g' = g ∨ g' = w.heap.size) := by
  obtain ⟨a, cap, rfl, h1, h2, h3⟩ := h
  rcases h1.flat.2 with ⟨e1, e2⟩ | ⟨g', cap', cur, e1, _⟩
  · injection e1 with e3 _ _
    subst e3
    rcases h3 with h3 | h3 <;> cases h3
  · cases e1
    refine ⟨g', cap, _, rfl, rfl, h1, h2, ?_⟩
    rcases h3 with h3 | h3
    · cases h3; exact .inl rfl
    · cases h3; exact .inr rfl
theorem iTS_n (es fs : List Ev) (a a' : Option Addr) (n n' cap cap' : Nat) (w : World) (h : EvL w es a cap) (h' : EvL w fs a' cap') (hn : es.length = n) (hn' : fs.length = n') :
    Calls Try.prog 16 #[.slice a n cap, .slice a' n' cap'] w (YN (decide (es = fs)) w) := by
  subst hn hn'
  exact iTS_one es fs a a' cap cap' w h h'

set_option maxRecDepth 100000 in
set_option maxHeartbeats 4000000 in
theorem law_FnProjectTrace (a : Option Addr) (len cap : Nat) (zs : List Int) (a' : Option Addr) (len' cap' : Nat) (zs' : List Int) (w : World) (hrow : IsRow .u8 w a len cap zs) (hrow' : IsRow .u8 w a' len' cap' zs') :
    Calls Try.prog 4 #[.slice a len cap, .slice a' len' cap'] w (YN true w) := by
  have HROW := Lib.hid hrow
  clear hrow hrow'
  go_enter Try.func4, Try.ntmps4
  by_cases hlen : len > 1048576
  · go_wp2_with fail
    go_ret
    exact YN.of rfl (Below.refl _ _)
  by_cases hlen' : len' > 1048576
  · go_wp2_with fail
    go_ret
    exact YN.of rfl (Below.refl _ _)
  go_wp2_with fail
  with_reducible refine (drProjectTrace a len cap zs w HROW.out).mono ?_
  rintro f w1 ⟨ps, la, n, lc, lo, rfl, hps, hrw, hlo, hn, hb1⟩
  have HPN : Hid ((evs ps).length = n) := by rw [evs_len]; exact hps
  have HRW := Lib.hid hrw
  have HE : Hid (∀ v, Below w1.heap.size w1 v → EvL v (evs ps) la lc) := fun v hv => (hrw.evl2 HPN.out).below hv
  have HB := Lib.hid hb1
  have hz1 := hb1.size
  clear hrw hb1 hps
  go_wp2_with fail
  refine (iPj_one (evs ps) la n lc w1 (HE.out _ (Below.refl _ _)) HPN.out hn).mono ?_
  rintro f w2 ⟨xa, xn, xc, rfl, hxn, hrx, hb2⟩
  have HXN : Hid ((evs (proj (evs ps))).length = xn) := by rw [evs_len]; exact hxn
  have hxs : xn ≤ n := by rw [← hxn]; exact Nat.le_trans (proj_len _) (by rw [HPN.out]; exact Nat.le_refl _)
  have HX : Hid (∀ v, Below w2.heap.size w2 v → EvL v (evs (proj (evs ps))) xa xc) := fun v hv => (hrx.evl2 HXN.out).below hv
  have HB2 := Lib.hid hb2
  clear hrx hb2
  go_wp2_with fail
  refine (sPj_one (evs ps) la n lc w2 (HE.out _ HB2.out) HPN.out hn).mono ?_
  rintro f w3 ⟨ya, yn, yc, rfl, hyn, hry, hb3⟩
  obtain rfl : yn = xn := by rw [← hyn, ← evs_len]; exact HXN.out
  have HY : Hid (EvL w3 (evs (proj (evs ps))) ya yc) := hry.evl2 HXN.out
  have HB3 := Lib.hid hb3
  clear hry hb3 hyn
  go_wp2_with fail
  refine (iTS_n _ _ xa ya yn yn xc yc w3 (HX.out _ HB3.out) HY.out HXN.out HXN.out).mono ?_
  rintro f w4 ⟨rfl, hb4⟩
  rw [show decide (evs (proj (evs ps)) = evs (proj (evs ps))) = true from decide_eq_true rfl]
  have HB4 : Hid (Below w2.heap.size w2 w4) := HB3.out.trans (hb4.mono HB3.out.size)
  clear hb4 HB3 HY
  go_wp2_with fail
  refine (iPj_one (evs (proj (evs ps))) xa yn xc w4 (HX.out _ HB4.out) HXN.out (by omega)).mono ?_
  rintro f w5 ⟨za, zn, zc, rfl, hzn, hrz, hb5⟩
  rw [proj_twice] at hzn hrz
  obtain rfl : zn = yn := by rw [← hzn, ← evs_len]; exact HXN.out
  have HZ : Hid (EvL w5 (evs (proj (evs ps))) za zc) := hrz.evl2 HXN.out
  have HB5 : Hid (Below w2.heap.size w2 w5) := HB4.out.trans (hb5.mono HB4.out.size)
  clear hrz hb5 hzn HB4
  go_wp2_with fail
  refine (iTS_n _ _ za xa zn zn zc xc w5 HZ.out (HX.out _ HB5.out) HXN.out HXN.out).mono ?_
  rintro f w6 ⟨rfl, hb6⟩
  rw [show decide (evs (proj (evs ps)) = evs (proj (evs ps))) = true from decide_eq_true rfl]
  have HB6 : Hid (Below w2.heap.size w2 w6) := HB5.out.trans (hb6.mono HB5.out.size)
  clear hb6 HB5 HZ
  obtain ⟨k, hk⟩ : ∃ k, len' % (n + 1) = k := ⟨_, rfl⟩
  have hkn : k ≤ n := by rw [← hk]; exact Nat.lt_succ_iff.1 (Nat.mod_lt len' (Nat.succ_pos n))
  have hkm : ((len' : Int).tmod ((n : Int) + 1)) = (k : Int) := by
    rw [← hk]; exact (Int.ofNat_tmod len' (n + 1)).symm
  have hlc : n ≤ lc := by have := (HE.out w1 (Below.refl _ _)).1; rw [HPN.out] at this; exact this
  have hlm : lc ≤ maxLen := (HE.out w1 (Below.refl _ _)).2.1
  have HB6w : Hid (Below w1.heap.size w1 w6) := HB2.out.trans (HB6.out.mono HB2.out.size)
  have HB2a := Lib.hid HB2.out
  clear HB2
  have hlt : ((evs ps).take k).length = k := by rw [List.length_take, HPN.out]; omega
  have hld : ((evs ps).drop k).length = n - k := by rw [List.length_drop, HPN.out]
  have HLT := Lib.hid hlt
  have HLD := Lib.hid hld
  clear hlt hld hk
  go_wp2_with fail
  refine (iPj_one ((evs ps).take k) la k lc w6 ((HE.out _ HB6w.out).take k) HLT.out (by omega)).mono ?_
  rintro f w7 ⟨aa, an, ac, rfl, han, hra, hb7⟩
  have HRA := Lib.hid hra
  have HAN := Lib.hid han
  have HB7 := Lib.hid hb7
  clear hra hb7 han
  have hnk : ((n : Int) - (k : Int)) = ((n - k : Nat) : Int) := by omega
  have HB7w : Hid (Below w1.heap.size w1 w7) := HB6w.out.trans (HB7.out.mono HB6w.out.size)
  have HDG : Hid (EvL w7 ((evs ps).drop k) (la.map fun x => x.add (k * 2)) (lc - k)) := (HE.out _ HB7w.out).drop' k (by rw [HPN.out]; exact hkn)
  have HDS : Hid (k = lc → EvL w7 ((evs ps).drop k) la 0) := fun e => by
    have e2 : (evs ps).drop k = [] := List.eq_nil_of_length_eq_zero (by rw [HLD.out]; omega)
    rw [e2]
    exact ⟨Nat.zero_le _, by unfold maxLen; omega, fun i x hx => by simp at hx⟩
  have HCUT : Hid (proj ((evs ps).take k) ++ proj ((evs ps).drop k) = proj (evs ps)) := proj_cut _ _
  have han2 : an ≤ k := by rw [← HAN.out]; exact Nat.le_trans (proj_len _) (by rw [HLT.out]; exact Nat.le_refl _)
  go_wp2_with fail
  all_goals
    refine (iPj_one ((evs ps).drop k) _ (n - k) _ w7 (by first | exact HDG.out | exact HDS.out (by omega)) HLD.out (by omega)).mono ?_
    rintro f w8 ⟨ba, bn, bc, rfl, hbn, hrb, hb8⟩
    have hbn2 : bn ≤ n - k := by rw [← hbn]; exact Nat.le_trans (proj_len _) (by rw [HLD.out]; exact Nat.le_refl _)
    have HBN := Lib.hid hbn
    have HR0 : Hid (RowEv (w8.alloc (.cells #[] 92)) w8.heap.size (.slice (some ⟨w8.heap.size, 0, none⟩) 0 0) []) := RowEv.made w8 w8.heap.size (Nat.le_refl _)
    have HRA8 : Hid (RowEv (w8.alloc (.cells #[] 92)) w6.heap.size (.slice aa an ac) (proj ((evs ps).take k))) := (HRA.out.stand (w' := w8) fun g hg hg' => hb8.block g hg').stand fun g _ hg => Below.heap_alloc _ _ _ hg
    have HRB8 : Hid (RowEv w8 w7.heap.size (.slice ba bn bc) (proj ((evs ps).drop k))) := hrb
    have HB8 : Hid (Below w2.heap.size w2 w8) := (HB6.out.trans (HB7.out.mono HB6.out.size)).trans (hb8.mono (by have := HB6.out.size; have := HB7.out.size; omega))
    have HLTB : Hid (∀ g, (Value.slice ba bn bc).ownBlock = some g → g < w8.heap.size) := fun g hg => (hrb.lt g hg).2
    clear hrb hb8 hbn
    go_wp2_with (at_builtin; first
      | (refine wpList_appE (by rfl) _ _ (by rfl) w8.heap.size w6.heap.size w8.heap.size 0 0 [] (proj ((evs ps).take k)) (by rfl) (by rfl) HR0.out aa an ac HAN.out (by rfl) HRA8.out (by omega) (by simp) ?_
         rintro v w9 hap
         obtain ⟨g9, c9, n9, rfl, hn9, hr9, hgr9, hat9⟩ := hap.view
         rw [List.nil_append] at hn9 hr9
         have hb9 : Below w8.heap.size w8 w9 := ((Below.refl _ w8).alloc (Nat.le_refl _) _).grown hgr9 (by simp) (fun k e => by cases e; exact Nat.le_refl _)
         have hrb9 : RowEv w9 w7.heap.size (.slice ba bn bc) (proj ((evs ps).drop k)) := HRB8.out.stand fun g hg hg' => hb9.block g hg'
         have hn9' : n9 ≤ k := (by rw [← hn9]; rw [HAN.out]; exact han2)
         have hz9 := hb9.size
         clear hap)
      | (refine wpList_appE (by rfl) _ _ (by rfl) w8.heap.size w7.heap.size g9 n9 c9 (proj ((evs ps).take k)) (proj ((evs ps).drop k)) hn9 (by rfl) hr9 ba bn bc HBN.out (by rfl) hrb9 (by omega) hz9 ?_
         rintro v w10 hap
         obtain ⟨g10, c10, n10, rfl, hn10, hr10, hgr10, hat10⟩ := hap.view
         rw [HCUT.out] at hn10 hr10
         have hb10 : Below w8.heap.size w8 w10 := hb9.grown hgr10 hz9 (fun k e => by cases e; exact (hr9.lt g9 rfl).1)
         clear hap))
    have HN10 : Hid ((evs (proj (evs ps))).length = n10) := by rw [evs_len]; exact hn10
    have HR10 : Hid (EvL w10 (evs (proj (evs ps))) (some ⟨g10, 0, none⟩) c10) := hr10.evl2 HN10.out
    have HB10 : Hid (Below w2.heap.size w2 w10) := HB8.out.trans (hb10.mono HB8.out.size)
    clear hr9 hr10 hgr9 hgr10 hb9 hb10 hrb9 hat9 hat10 hn9 hn10 HR0 HRA8 HRB8 HB8 HDG HDS HCUT
    refine (iTS_n _ _ (some ⟨g10, 0, none⟩) xa n10 zn c10 xc w10 HR10.out (HX.out _ HB10.out) HN10.out HXN.out).mono ?_
    rintro f w11 ⟨rfl, hb11⟩
    rw [show decide (evs (proj (evs ps)) = evs (proj (evs ps))) = true from decide_eq_true rfl]
    have HB11 : Hid (Below w1.heap.size w1 w11) := HB2a.out.trans ((HB10.out.trans (hb11.mono HB10.out.size)).mono HB2a.out.size)
    clear hb11 HB10 HR10
    go_wp2_with fail
    go_ret
    exact YN.of rfl (HB.out.trans (HB11.out.mono hz1))

end Go.Proofs.Ytgfagdjadmpklaa

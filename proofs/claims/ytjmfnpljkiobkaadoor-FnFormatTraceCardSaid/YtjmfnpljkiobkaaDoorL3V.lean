/- The values of a memory are valid. -/
import Derived.Test.YtjmfnpljkiobkaaDoorL3N
namespace Go.Proofs.YtjmfnpljkiobkaaDoor
open Go.RowKit
set_option linter.unusedVariables false

set_option maxRecDepth 100000 in
set_option maxHeartbeats 1000000 in
theorem l3Values_one (lo hi n c : Nat) (a : Option Addr) (w : World) (h : RI w lo hi a n) (hn : n ≤ 1048576) :
    Calls Tryd.prog 92 #[.slice a n c] w fun e w' => e = .returned (.bool true) ∧ w' = w := by
  have HRI := Lib.hid h
  clear h
  go_enter Tryd.func92, Tryd.ntmps92
  go_wp2_with fail
  go_loopw [3] (fun i wr => ∃ j : Nat, i = .int .i64 (j : Int) ∧ j ≤ n ∧ wr = w) (fun i _ => n - (intOf i).toNat)
  case atStart => exact ⟨0, rfl, by omega, rfl⟩
  case round =>
    obtain ⟨j, rfl, hj, rfl⟩ := hrel
    by_cases hlt : j < n
    · obtain ⟨b, o, z, rfl, _, _, hc, hz0, hz1, _⟩ := HRI.out j hlt
      have hd0 : ¬ z < 0 := by omega
      have hd1 : ¬ z > 255 := by omega
      go_wp2_with fail
      go_roundw
      case rel => exact ⟨j + 1, by go_num, by omega, by trivial⟩
      case measure => simp [intOf]; omega
    · have hjn : j = n := by omega
      subst hjn
      go_wp2_with fail
      go_ret
      exact ⟨rfl, rfl⟩

/-- The aggregate of a program of nv variables and na arrays. -/
abbrev aggPr (pv pa pb : Option Addr) (nv na nb pvc pac pbc : Nat) : Value := .agg #[.slice pv nv pvc, .slice pa na pac, .slice pb nb pbc]

set_option maxRecDepth 100000 in
set_option maxHeartbeats 1000000 in
theorem l3Fits_one (lo hi nv na nb pvc pac pbc vc ac : Nat) (pv pa pb va aa : Option Addr) (w : World) (h : RM w lo hi nv na va aa) (hhi : hi ≤ w.heap.size) (hnv : nv ≤ 1048576) (hna : na ≤ 2) :
    Calls Tryd.prog 81 #[aggPr pv pa pb nv na nb pvc pac pbc, aggMm va aa nv na vc ac] w fun e w' => e = .returned (.bool true) ∧ Below w.heap.size w w' := by
  obtain ⟨W1, hW1⟩ : ∃ W, w.alloc (.cells #[.slice pv nv pvc, .slice pa na pac, .slice pb nb pbc] 39) = W := ⟨_, rfl⟩
  obtain ⟨W, hW⟩ : ∃ W, W1.alloc (.cells #[.slice va nv vc, .slice aa na ac] 90) = W := ⟨_, rfl⟩
  have hz1 : W1.heap.size = w.heap.size + 1 := by rw [← hW1]; simp
  have hB : Below w.heap.size w W := by rw [← hW, ← hW1]; exact ((Below.refl _ w).alloc (Nat.le_refl _) _).alloc (by simp) _
  have e1 : W.heap[w.heap.size + 1]? = some (.cells #[.slice va nv vc, .slice aa na ac] 90 (0, 0)) := by rw [← hW, ← hz1]; exact heap_alloc_new W1 _
  have hrm : RM W lo hi nv na va aa := h.stand fun b _ hb => hB.block b (by omega)
  have HRM := Lib.hid hrm
  have HB := Lib.hid hB
  have q0 : W.cell? ⟨w.heap.size + 1, 0, none⟩ = some (.slice va nv vc) := by rw [cell_at e1]; rfl
  have q1 : W.cell? ⟨w.heap.size + 1, 1, none⟩ = some (.slice aa na ac) := by rw [cell_at e1]; rfl
  have hWW : (w.alloc (.cells #[.slice pv nv pvc, .slice pa na pac, .slice pb nb pbc] 39)).alloc (.cells #[.slice va nv vc, .slice aa na ac] 90) = W := by rw [hW1, hW]
  have HW := Lib.hid hWW
  clear h hrm hB hW hW1 e1 hz1 hWW
  show Calls Tryd.prog 81 #[.agg #[.slice pv nv pvc, .slice pa na pac, .slice pb nb pbc], .agg #[.slice va nv vc, .slice aa na ac]] w fun e w' => e = .returned (.bool true) ∧ Below w.heap.size w w'
  go_enter Tryd.func81, Tryd.ntmps81
  go_wp2_with fail
  rw [HW.out]
  refine (l3Values_one lo hi nv vc va W HRM.out.vals hnv).mono ?_
  rintro f u ⟨rfl, hu⟩
  obtain rfl : W = u := hu.symm
  go_wp2_with fail
  go_loopw [5] (fun i wr => ∃ j : Nat, i = .int .i64 (j : Int) ∧ j ≤ na ∧ wr = W) (fun i _ => na - (intOf i).toNat)
  case atStart => exact ⟨0, rfl, by omega, rfl⟩
  case round =>
    obtain ⟨j, rfl, hj, hwr⟩ := hrel
    obtain rfl : W = wr := hwr.symm
    by_cases hlt : j < na
    · obtain ⟨ba, oa, av, c4, rfl, _, _, hca, hc4, hcm, hri⟩ := HRM.out.arrs j hlt
      go_wp2_with fail
      refine (l3Values_one lo hi 4 c4 av W hri (by omega)).mono ?_
      rintro f u ⟨rfl, hu⟩
      obtain rfl : W = u := hu.symm
      go_wp2_with fail
      go_roundw
      case rel => exact ⟨j + 1, by go_num, by omega, by trivial⟩
      case measure => simp [intOf]; omega
    · have hjn : j = na := by omega
      subst hjn
      go_wp2_with fail
      go_ret
      exact ⟨rfl, HB.out⟩

end Go.Proofs.YtjmfnpljkiobkaaDoor

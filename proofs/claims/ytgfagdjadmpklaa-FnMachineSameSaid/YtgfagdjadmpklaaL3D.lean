/- The draw of a value. -/
import Derived.Test.YtgfagdjadmpklaaDrUB
namespace Go.Proofs.Ytgfagdjadmpklaa
open Go.RowKit
set_option linter.unusedVariables false

set_option maxRecDepth 100000 in
set_option maxHeartbeats 1000000 in
theorem l3Value_one (B m : Nat) (w : World) (h : RdU w B m) (hm : m < 1099511627000) :
    Calls Try.prog 84 #[.pointer (some ⟨B, 0, none⟩)] w (DrI (fun v => 0 ≤ v ∧ v ≤ 255) w B (m + 1)) := by
  have hlt := h.lt
  obtain ⟨W, hW⟩ : ∃ W, w.alloc (.cells #[.int .i64 0, .int .i64 1, .int .i64 2, .int .i64 3, .int .i64 255, .int .i64 128, .int .i64 7, .int .i64 4, .int .i64 100] 3) = W := ⟨_, rfl⟩
  have hl2 : ∀ i, i < 9 → W.cell? ⟨w.heap.size, 0 + i, none⟩ = some (.int .i64 (([0, 1, 2, 3, 255, 128, 7, 4, 100] : List Int).getD i 0)) := by
    rw [← hW]; exact lit_cells w [0, 1, 2, 3, 255, 128, 7, 4, 100] _
  have ho2 : Oth B w W := by rw [← hW]; exact (Oth.refl _ _).alloc _
  have hb2 : Below B w W := by rw [← hW]; exact (Below.refl B w).alloc (Nat.le_of_lt hlt) _
  have hr2 : RdU W B m := by rw [← hW]; exact h.below ((Below.refl w.heap.size w).alloc (Nat.le_refl _) _) hlt
  have HW := Lib.hid hW
  have HL2 := Lib.hid hl2
  have HO2 := Lib.hid ho2
  have HB2 := Lib.hid hb2
  have HR2 := Lib.hid hr2
  clear hW hl2 ho2 hb2 hr2
  go_enter Try.func84, Try.ntmps84
  go_wp2_with (first | rw [HW.out] | fail)
  refine (numU B m w.heap.size 0 9 9 [0, 1, 2, 3, 255, 128, 7, 4, 100] W HR2.out (by omega) (by omega) rfl (by omega) (by omega) HL2.out).mono ?_
  rintro f w3 ⟨u, hu, rfl, hr3, ho3, hb3⟩
  have hu2 : 0 ≤ u ∧ u ≤ 255 := by
    simp only [List.mem_cons, List.not_mem_nil, or_false] at hu
    omega
  have HFIN : Hid (DrI (fun v => 0 ≤ v ∧ v ≤ 255) w B (m + 1) (.returned (.int .i64 u)) w3) := ⟨u, hu2, rfl, hr3, HO2.out.trans ho3, HB2.out.trans hb3⟩
  clear hr3 ho3 hb3 hu hu2
  go_wp2_with fail
  go_ret
  exact HFIN.out

end Go.Proofs.Ytgfagdjadmpklaa

/- impl.ProgramValid where the declarations are bad: false; nothing that was there has changed. -/
import Derived.Test.YtlhdgoindknpfaaDoorImD
import Derived.Test.YtlhdgoindknpfaaDoorPut
namespace Go.Proofs.YtlhdgoindknpfaaDoor
open Go.RowKit
set_option linter.unusedVariables false

set_option maxRecDepth 100000 in
set_option maxHeartbeats 2000000 in
theorem iProgramValid_no (p : Pg) (k : PC) (n : Nat) (D : Nat → Prop) (w : World) (hp : IsP w D n p k) (hl : ∀ k, D k → k < w.heap.size) (hq : headsB p = false) :
    Calls Tryd.prog 9 #[aggP p k] w (AnsB false w) := by
  have HP := Lib.hid hp
  have HQ := Lib.hid hq
  clear hp hq
  go_enter Tryd.func9, Tryd.ntmps9
  go_wp2_with fail
  obtain ⟨W, hW⟩ : ∃ W, (w.alloc (.cells (arrP p k) 26)).alloc (.cells #[.bool false] 4) = W := ⟨_, rfl⟩
  have hB : Below w.heap.size w W := by rw [← hW]; exact ((Below.refl _ w).alloc (Nat.le_refl _) _).alloc (by simp) _
  have hz : W.heap.size = w.heap.size + 2 := by rw [← hW]; simp
  have e1 : W.heap[w.heap.size + 1]? = some (.cells #[.bool false] 4 (0, 0)) := by
    have e1 := heap_alloc_new (w.alloc (.cells (arrP p k) 26)) (.cells #[.bool false] 4)
    rw [World.size_alloc] at e1
    rw [← hW]; exact e1
  unfold arrP at hW
  rw [hW]
  clear hW
  have HB := Lib.hid hB
  have HY := Lib.hid e1
  have HZ := Lib.hid hz
  clear hB e1 hz
  have hs0 := HB.out.size
  refine (iHeads_one p k n D W (HP.out.later (Stand.of_below HB.out hl)) (fun j hj => Nat.lt_of_lt_of_le (hl j hj) hs0)).mono ?_
  rintro g w1 ⟨rfl, hb1⟩
  have B1 := Lib.hid (HB.out.trans (hb1.mono hs0))
  have y1 := (hb1.block (w.heap.size + 1) (by have := HZ.out; omega)).trans HY.out
  obtain ⟨u0, hu0⟩ := cell_ex y1 0 (by simp)
  have hf0 := frozen_at y1 0
  have HFIN : Hid (AnsB false w (.returned (.bool false)) (put w1 (w.heap.size + 1) 0 [.bool false])) :=
    AnsB.of rfl (put_below _ _ _ w.heap.size (w.heap.size + 1) 0 B1.out (by omega))
  rw [HQ.out]
  clear hb1 HB HY y1
  go_wp2_with fail
  exact bodyPost_ret (v := .bool false) (by simp [results, Tryd.f9, go_sem, hu0]) rfl HFIN.out
end Go.Proofs.YtlhdgoindknpfaaDoor

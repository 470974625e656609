/- The declarations of a code as a program. -/
import Derived.Test.YtbifbmpflhdijaaDoorCd
import Derived.Test.YtbifbmpflhdijaaDoorTreeS
namespace Go.Proofs.YtbifbmpflhdijaaDoor
open Go.RowKit
set_option linter.unusedVariables false

set_option maxHeartbeats 2000000 in
theorem l6Heads_one (m : Cd) (k : CK) (w : World) :
    Calls Tryd.prog 79 #[aggC m k] w fun e w' => e = .returned (.agg #[.slice k.va m.vars.length k.vc, .slice k.aa m.arrs.length k.ac, .slice none 0 0]) ∧ Below w.heap.size w w' := by
  go_enter Tryd.func79, Tryd.ntmps79
  go_wp2_with fail
  have hx := heap_alloc_new (w.alloc (.cells (arrC m k) 29)) (.cells #[.slice k.va m.vars.length k.vc, .slice k.aa m.arrs.length k.ac, .slice none 0 0] 86)
  rw [World.size_alloc] at hx
  have h0 := cell_at hx (o := 0)
  have h1 := cell_at hx (o := 1)
  have h2 := cell_at hx (o := 2)
  unfold arrC at h0 h1 h2
  exact bodyPost_ret (v := .agg #[.slice k.va m.vars.length k.vc, .slice k.aa m.arrs.length k.ac, .slice none 0 0]) (by simp [results, Tryd.f79, go_sem, h0, h1, h2]) rfl ⟨rfl, ((Below.refl _ w).alloc (Nat.le_refl _) _).alloc (by simp) _⟩

end Go.Proofs.YtbifbmpflhdijaaDoor

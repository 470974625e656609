/- Contracts of LabelValid of package spec: for every two integers each call returns what the plain functions of namespace Lab give, and leaves memory alone. No condition. -/
import Derived.Test.YtbifbmpflhdijaaDoorProg
import Derived.WalkKit
namespace Go.Proofs.YtbifbmpflhdijaaDoor
open Go.RowKit

/-! The plain functions. -/
def Lab.ok (n : Int) : Bool := decide (0 ≤ n) && decide (n ≤ 3)
def Lab.jn (a b : Int) : Int := if Lab.ok a && Lab.ok b then ((a.toNat ||| b.toNat : Nat) : Int) else 3
def Lab.mt (a b : Int) : Int := if Lab.ok a && Lab.ok b then ((a.toNat &&& b.toNat : Nat) : Int) else 0
def Lab.fl (a b : Int) : Bool := Lab.ok a && Lab.ok b && decide (a.toNat ||| b.toNat = b.toNat)
def Lab.sec (a : Int) : Bool := Lab.ok a && decide (a.toNat % 2 = 1)
def Lab.tru (a : Int) : Bool := Lab.ok a && decide (a.toNat < 2)

theorem Lab.cases (n : Int) : n = 0 ∨ n = 1 ∨ n = 2 ∨ n = 3 ∨ n < 0 ∨ (0 ≤ n ∧ 3 < n) := by omega
theorem Lab.ok_lo {n : Int} (h : n < 0) : Lab.ok n = false := by unfold Lab.ok; simp; omega
theorem Lab.ok_hi {n : Int} (h : 3 < n) : Lab.ok n = false := by unfold Lab.ok; simp; omega

set_option maxHeartbeats 1000000 in
theorem sValid_any (a : Int) (w : World) :
    Calls Tryd.prog 107 #[.int .i64 a] w fun e w' => e = .returned (.bool (Lab.ok a)) ∧ w = w' := by
  rcases Lab.cases a with rfl | rfl | rfl | rfl | h | ⟨h0, h⟩
  all_goals
    try have hd := decide_eq_false (Int.not_le.2 h)
    go_enter Tryd.func107, Tryd.ntmps107
    go_wp2
    go_ret
    refine ⟨?_, rfl⟩
    first | rfl | (simp [Lab.ok_lo h]) | (simp [Lab.ok_hi h])

end Go.Proofs.YtbifbmpflhdijaaDoor

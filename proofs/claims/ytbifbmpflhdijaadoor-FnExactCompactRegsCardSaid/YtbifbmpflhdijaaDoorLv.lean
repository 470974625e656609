/- Contracts of labelOf and LabelValid of package impl. No condition. -/
import Derived.Test.YtbifbmpflhdijaaDoorLvS
namespace Go.Proofs.YtbifbmpflhdijaaDoor
open Go.RowKit

set_option maxHeartbeats 400000 in
theorem labelOf_any (n : Int) (w : World) :
    Calls Tryd.prog 128 #[.int .i64 n] w fun e w' => e = .returned (.tuple #[.int .i64 (if Lab.ok n then n else 0), .bool (Lab.ok n)]) ∧ w = w' := by
  rcases Lab.cases n with rfl | rfl | rfl | rfl | h | ⟨h0, h⟩
  case inr.inr.inr.inr.inl =>
    rw [Lab.ok_lo h]
    go_enter Tryd.func128, Tryd.ntmps128
    go_wp2
    go_ret2
    exact ⟨rfl, rfl⟩
  case inr.inr.inr.inr.inr =>
    rw [Lab.ok_hi h]
    go_enter Tryd.func128, Tryd.ntmps128
    go_wp2
    go_ret2
    exact ⟨rfl, rfl⟩
  all_goals
    go_enter Tryd.func128, Tryd.ntmps128
    go_wp2
    go_ret2
    exact ⟨rfl, rfl⟩

set_option maxHeartbeats 1000000 in
theorem iValid_any (a : Int) (w : World) :
    Calls Tryd.prog 111 #[.int .i64 a] w fun e w' => e = .returned (.bool (Lab.ok a)) ∧ w = w' := by
  rcases Lab.cases a with rfl | rfl | rfl | rfl | h | ⟨h0, h⟩
  all_goals
    try have hd := decide_eq_false (Int.not_le.2 h)
    go_enter Tryd.func111, Tryd.ntmps111
    go_wp2
    go_ret
    refine ⟨?_, rfl⟩
    first | rfl | (simp [Lab.ok_lo h]) | (simp [Lab.ok_hi h])

end Go.Proofs.YtbifbmpflhdijaaDoor

/- spec.LabelSecret, walked: at a valid label it answers whether it is secret; nothing that was there has changed. -/
import Derived.Test.YtmodonligaejhaaDoorLvS
import Derived.Test.YtmodonligaejhaaDoorTnP
namespace Go.Proofs.YtmodonligaejhaaDoor
open Go.RowKit
set_option linter.unusedVariables false

set_option maxHeartbeats 1000000 in
theorem sSecret_one (a : Int) (w : World) (h0 : 0 ≤ a) (h1 : a ≤ 3) :
    Calls Tryd.prog 70 #[.int .i64 a] w fun e w' => e = .returned (.bool (a % 2 == 1)) ∧ w' = w := by
  have ha : a = 0 ∨ a = 1 ∨ a = 2 ∨ a = 3 := by omega
  have hc := sValid_any
  rcases ha with rfl | rfl | rfl | rfl
  all_goals
    go_enter Tryd.func70, Tryd.ntmps70
    go_wp2_with fail
    refine (hc _ _).mono ?_
    rintro e w2 ⟨rfl, rfl⟩
    go_wp2_with fail
    go_ret
    exact ⟨rfl, rfl⟩

end Go.Proofs.YtmodonligaejhaaDoor

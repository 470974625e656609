/- Small posts that many contracts share: the answer of a size function, a bool, lists that agree up to an index. -/
import Derived.Test.YtbifbmpflhdijaaDoorProg
import Derived.WalkKit
import Derived.Below
import Derived.BigQuiet
import Derived.Deep.QuietTactic
import Derived.IntWalk
import Derived.Lib.Hide
import Derived.OwnWalk
import Derived.Outline
import Derived.KernelRfl
import Derived.Deep.Slices
import Derived.Deep.Fields
import Derived.Deep.RegionWith
import Derived.Laws.OwnMore
namespace Go.Proofs.YtbifbmpflhdijaaDoor
open Go.RowKit
set_option linter.unusedVariables false

/-- The answer of a size function. -/
def EvSized (n : Nat) (left : Int) (w : World) (e : Ending) (w' : World) : Prop := ∃ v : Int, e = .returned (.int .i64 v) ∧ v ≤ left ∧ (0 ≤ v → (n : Int) + v ≤ left) ∧ w' = w

/-- A bool; nothing that was there has changed. -/
def YN (b : Bool) (w : World) (e : Ending) (w' : World) : Prop := e = .returned (.bool b) ∧ Below w.heap.size w w'
theorem YN.of {b c : Bool} (h : b = c) {w w' : World} (hb : Below w.heap.size w w') : YN c w (.returned (.bool b)) w' := ⟨by rw [h], hb⟩

def SameUp {α : Type} (es fs : List α) (k : Nat) : Prop := ∀ j, j < k → es[j]? = fs[j]?
theorem SameUp.all {α : Type} {es fs : List α} {n : Nat} (h : SameUp es fs n) (h1 : es.length = n) (h2 : fs.length = n) : es = fs := by
  apply List.ext_getElem?
  intro i
  by_cases hi : i < n
  · exact h i hi
  · rw [List.getElem?_eq_none (by omega), List.getElem?_eq_none (by omega)]
theorem SameUp.succ {α : Type} {es fs : List α} {k : Nat} (h : SameUp es fs k) (e : es[k]? = fs[k]?) : SameUp es fs (k + 1) := fun j hj => by
  by_cases hk : j = k
  · rw [hk]; exact e
  · exact h j (by omega)

end Go.Proofs.YtbifbmpflhdijaaDoor

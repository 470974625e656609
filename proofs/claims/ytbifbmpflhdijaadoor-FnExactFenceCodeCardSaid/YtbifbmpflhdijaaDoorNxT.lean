/- Numbers under look, in a row of their own. -/
import Derived.Test.YtbifbmpflhdijaaDoorRcN
import Derived.Test.YtbifbmpflhdijaaDoorAppA
import Derived.Deep.RegionWith
import Derived.Deep.RegionHeld3
namespace Go.Proofs.YtbifbmpflhdijaaDoor
open Go.RowKit
set_option linter.unusedVariables false

/-- The numbers under look lie in a row of their own. -/
def NxT (w : World) (S : Nat) (na : Option Addr) (ns : List Int) (qv : Value) : Prop := ∀ (s : Nat) (z : Int), ns[s]? = some z → ∃ g, na = some ⟨g, 0, none⟩ ∧ g ≠ S ∧ g < w.heap.size ∧ qv.ownBlock ≠ some g ∧ w.cell? ⟨g, s, none⟩ = some (.int .i64 z)
theorem NxT.of_own {w3 : World} {base S nc : Nat} {na : Option Addr} {ns : List Int} {qv : Value} (h : OwnI w3 base (.slice na ns.length nc) ns) (hS : S < base) (hq : ∀ g, qv.ownBlock = some g → g < base) : NxT w3 S na ns qv := fun s z hz => by
  have hs := (List.getElem?_eq_some_iff.1 hz).1
  rcases h.2 with ⟨_, h2⟩ | ⟨g, cp, cur, e1, e2, e3, e4⟩
  · omega
  · cases e1
    refine ⟨g, rfl, by omega, (Array.getElem?_eq_some_iff.1 e3).1, fun e => by have := hq g e; omega, ?_⟩
    have h' : w3.ownsRow base 3 1 (.slice (some ⟨g, 0, none⟩) ns.length nc) ns.length (ns.map (Value.int .i64)) := h
    rw [h'.cellAt s (by omega)]
    simp [hz]

end Go.Proofs.YtbifbmpflhdijaaDoor

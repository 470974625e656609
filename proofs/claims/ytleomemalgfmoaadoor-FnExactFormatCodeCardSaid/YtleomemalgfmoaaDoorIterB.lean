/- What a round of an iterator keeps: whatever lies below a block, and one box. -/
import Derived.Test.YtleomemalgfmoaaDoorProg
import Derived.RangeFuncNested
import Derived.RangeFuncBound
import Derived.RangeFuncCalls
import Derived.RangeFuncLeaves
import Derived.RangeFuncBox
import Derived.Shelf.Abstract
import Derived.Shelf.RegionOpen
import Derived.OwnWalkIn
import Derived.TacticsInMore
import Derived.LoopNIn
import Derived.LoopIn
import Derived.Maps.AppendAt
namespace Go.Proofs.YtleomemalgfmoaaDoor
open Go.RowKit Go.Shelf

attribute [local go_sem] Oper.semAt_some

/-- What a round keeps: whatever lies below n₀, and the box of the text. -/
def KeepText (n₀ Bn : Nat) (t : TypeId) (v : Value) (A B : World) : Prop := Below n₀ A B ∧ (Boxed A Bn t v → Boxed B Bn t v)
theorem KeepText.tr {n₀ Bn : Nat} {t : TypeId} {v : Value} {A B C : World} (h : KeepText n₀ Bn t v A B) (k : KeepText n₀ Bn t v B C) : KeepText n₀ Bn t v A C := ⟨h.1.trans k.1, fun x => k.2 (h.2 x)⟩
theorem KeepText.book {n₀ Bn : Nat} {t : TypeId} {v : Value} {w : World} (hn : n₀ ≤ w.heap.size) (hB : Bn < w.heap.size) (W : World) (l : Nat) (o o' : Obj) (hl : w.heap.size ≤ l) (h : W.heap[l]? = some o) (hc : o.isCells = false) (hk : o.isWalk = false) : KeepText n₀ Bn t v W (W.putObj l o') :=
  ⟨belowK_b hn W l o o' hl h hc hk, fun x => x.kept (grownBy_putObj' W l o') (fun e => by cases e; omega)⟩

end Go.Proofs.YtleomemalgfmoaaDoor

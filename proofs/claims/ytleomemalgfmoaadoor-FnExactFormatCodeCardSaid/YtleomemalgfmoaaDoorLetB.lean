/- The table of letters, and the letter of a label. -/
import Derived.Test.YtleomemalgfmoaaDoorProg
import Derived.WalkKit
import Derived.Below
import Derived.BigQuiet
import Derived.Lib.Hide
import Derived.Laws.Rows
import Derived.OwnWalk
import Derived.Outline
namespace Go.Proofs.YtleomemalgfmoaaDoor
open Go.RowKit

/-- The table of letters lies in its variable. -/
def Tbl (w : World) : Prop := ∃ (t : TypeId) (fr : Nat × Nat), w.heap[(1 : Nat)]? = some (.cells #[.int .u8 76, .int .u8 72, .int .u8 85, .int .u8 88] t fr)

theorem Tbl.cell {w : World} (h : Tbl w) (i : Nat) (hi : i < 4) : w.cell? ⟨1, i, none⟩ = some (.int .u8 ([76, 72, 85, 88].getD i 0)) := by
  obtain ⟨_, fr, h⟩ := h
  obtain rfl | rfl | rfl | rfl : i = 0 ∨ i = 1 ∨ i = 2 ∨ i = 3 := by omega
  all_goals simp [World.cell?, h]

theorem Tbl.below {n : Nat} {A B : World} (h : Tbl A) (hb : Below n A B) (hn : 1 < n) : Tbl B := by
  obtain ⟨t, fr, hg⟩ := h
  exact ⟨t, fr, (hb.block _ hn).trans hg⟩

/-- The letter of a label. -/
def LetterOf (l : Int) : Int := if l = 0 then 76 else if l = 1 then 72 else if l = 2 then 85 else 88

set_option maxHeartbeats 1000000 in
theorem letter_one (l : Int) (w : World) (h : Tbl w) (h0 : 0 ≤ l) (h3 : l ≤ 3) : Calls Tryd.prog 62 #[.int .i64 l] w fun e w' => e = .returned (.int .u8 (LetterOf l)) ∧ w = w' := by
  have c0 := h.cell 0 (by decide)
  have c1 := h.cell 1 (by decide)
  have c2 := h.cell 2 (by decide)
  have c3 := h.cell 3 (by decide)
  clear h
  obtain rfl | rfl | rfl | rfl : l = 0 ∨ l = 1 ∨ l = 2 ∨ l = 3 := by omega
  all_goals
    go_enter Tryd.func62, Tryd.ntmps62
    go_wp2
    go_ret
    exact ⟨rfl, rfl⟩


end Go.Proofs.YtleomemalgfmoaaDoor

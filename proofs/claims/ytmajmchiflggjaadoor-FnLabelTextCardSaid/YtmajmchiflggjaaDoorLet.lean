/- Contracts of the letters of labels: the model's l1Label, and the program's letter and labelOfLetter, which read the package's table of letters. Condition for the latter two: the table lies as the program's text lays it. -/
import Derived.Test.YtmajmchiflggjaaDoorProg
import Derived.WalkKit
import Derived.Below
import Derived.BigQuiet
import Derived.Lib.Hide
import Derived.Laws.Rows
import Derived.OwnWalk
import Derived.Outline
namespace Go.Proofs.YtmajmchiflggjaaDoor
open Go.RowKit

/-- The table of letters lies in its variable. -/
def Tbl (w : World) : Prop := ∃ (t : TypeId) (fr : Nat × Nat), w.heap[(0 : Nat)]? = some (.cells #[.int .u8 76, .int .u8 72, .int .u8 85, .int .u8 88] t fr)

theorem Tbl.cell {w : World} (h : Tbl w) (i : Nat) (hi : i < 4) : w.cell? ⟨0, i, none⟩ = some (.int .u8 ([76, 72, 85, 88].getD i 0)) := by
  obtain ⟨_, fr, h⟩ := h
  obtain rfl | rfl | rfl | rfl : i = 0 ∨ i = 1 ∨ i = 2 ∨ i = 3 := by omega
  all_goals simp [World.cell?, h]

/-- The label of a letter, or -1. -/
def Lett (c : Int) : Int := if c = 76 then 0 else if c = 72 then 1 else if c = 85 then 2 else if c = 88 then 3 else -1

theorem Lett_no {c : Int} (h0 : c ≠ 76) (h1 : c ≠ 72) (h2 : c ≠ 85) (h3 : c ≠ 88) : Lett c = -1 := by
  unfold Lett; rw [if_neg h0, if_neg h1, if_neg h2, if_neg h3]

theorem bytes_lhux : (((({ data := #[76, 72, 85, 88] } : ByteArray)[0]'(by decide)).toNat : Int) = 76) ∧ (((({ data := #[76, 72, 85, 88] } : ByteArray)[1]'(by decide)).toNat : Int) = 72) ∧ (((({ data := #[76, 72, 85, 88] } : ByteArray)[2]'(by decide)).toNat : Int) = 85) ∧ (((({ data := #[76, 72, 85, 88] } : ByteArray)[3]'(by decide)).toNat : Int) = 88) := by decide

set_option maxHeartbeats 1000000 in
theorem sLabel_76 (w : World) : Calls Tryd.prog 28 #[.int .u8 76] w fun e w' => e = .returned (.int .i64 0) ∧ w = w' := by
  obtain ⟨e0, e1, e2, e3⟩ := bytes_lhux
  go_enter Tryd.func28, Tryd.ntmps28
  go_wp2
  refine wp_loop_rounds 1 ?_
  rw [rounds_succ]
  go_wp2
  go_ret
  exact ⟨rfl, rfl⟩

set_option maxHeartbeats 1000000 in
theorem sLabel_72 (w : World) : Calls Tryd.prog 28 #[.int .u8 72] w fun e w' => e = .returned (.int .i64 1) ∧ w = w' := by
  obtain ⟨e0, e1, e2, e3⟩ := bytes_lhux
  go_enter Tryd.func28, Tryd.ntmps28
  go_wp2
  refine wp_loop_rounds 2 ?_
  rw [rounds_succ]
  go_wp2
  rw [rounds_succ]
  go_wp2
  go_ret
  exact ⟨rfl, rfl⟩

set_option maxHeartbeats 1000000 in
theorem sLabel_85 (w : World) : Calls Tryd.prog 28 #[.int .u8 85] w fun e w' => e = .returned (.int .i64 2) ∧ w = w' := by
  obtain ⟨e0, e1, e2, e3⟩ := bytes_lhux
  go_enter Tryd.func28, Tryd.ntmps28
  go_wp2
  refine wp_loop_rounds 3 ?_
  rw [rounds_succ]
  go_wp2
  rw [rounds_succ]
  go_wp2
  rw [rounds_succ]
  go_wp2
  go_ret
  exact ⟨rfl, rfl⟩

set_option maxHeartbeats 1000000 in
theorem sLabel_88 (w : World) : Calls Tryd.prog 28 #[.int .u8 88] w fun e w' => e = .returned (.int .i64 3) ∧ w = w' := by
  obtain ⟨e0, e1, e2, e3⟩ := bytes_lhux
  go_enter Tryd.func28, Tryd.ntmps28
  go_wp2
  refine wp_loop_rounds 4 ?_
  rw [rounds_succ]
  go_wp2
  rw [rounds_succ]
  go_wp2
  rw [rounds_succ]
  go_wp2
  rw [rounds_succ]
  go_wp2
  go_ret
  exact ⟨rfl, rfl⟩

set_option maxHeartbeats 1000000 in
theorem sLabel_no (c : Int) (w : World) (h0 : c ≠ 76) (h1 : c ≠ 72) (h2 : c ≠ 85) (h3 : c ≠ 88) : Calls Tryd.prog 28 #[.int .u8 c] w fun e w' => e = .returned (.int .i64 (-1)) ∧ w = w' := by
  obtain ⟨e0, e1, e2, e3⟩ := bytes_lhux
  have t0 : ((76 : Int) == c) = false := by simpa using Ne.symm h0
  have t1 : ((72 : Int) == c) = false := by simpa using Ne.symm h1
  have t2 : ((85 : Int) == c) = false := by simpa using Ne.symm h2
  have t3 : ((88 : Int) == c) = false := by simpa using Ne.symm h3
  clear h0 h1 h2 h3
  go_enter Tryd.func28, Tryd.ntmps28
  go_wp2
  refine wp_loop_rounds 5 ?_
  rw [rounds_succ]
  go_wp2
  rw [rounds_succ]
  go_wp2
  rw [rounds_succ]
  go_wp2
  rw [rounds_succ]
  go_wp2
  rw [rounds_succ]
  go_wp2
  go_ret
  exact ⟨rfl, rfl⟩

/-- **l1Label answers Lett, at every byte.** -/
theorem sLabel_one (c : Int) (w : World) : Calls Tryd.prog 28 #[.int .u8 c] w fun e w' => e = .returned (.int .i64 (Lett c)) ∧ w = w' := by
  by_cases h0 : c = 76
  · subst h0
    exact sLabel_76 w
  by_cases h1 : c = 72
  · subst h1
    exact sLabel_72 w
  by_cases h2 : c = 85
  · subst h2
    exact sLabel_85 w
  by_cases h3 : c = 88
  · subst h3
    exact sLabel_88 w
  rw [Lett_no h0 h1 h2 h3]
  exact sLabel_no c w h0 h1 h2 h3

set_option maxHeartbeats 1000000 in
theorem iLetter_76 (w : World) (h : Tbl w) : Calls Tryd.prog 33 #[.int .u8 76] w fun e w' => e = .returned (.tuple #[.int .i64 0, .bool true]) ∧ w = w' := by
  obtain ⟨_, fr, hg⟩ := h
  have i0 : ∀ w : World, (Instr.index 62 (.agg #[.int .u8 76, .int .u8 72, .int .u8 85, .int .u8 88]) (.int .i64 0)).run Tryd.prog w = .ok (.int .u8 76) w := fun _ => by kernel_rfl
  have i1 : ∀ w : World, (Instr.index 62 (.agg #[.int .u8 76, .int .u8 72, .int .u8 85, .int .u8 88]) (.int .i64 1)).run Tryd.prog w = .ok (.int .u8 72) w := fun _ => by kernel_rfl
  have i2 : ∀ w : World, (Instr.index 62 (.agg #[.int .u8 76, .int .u8 72, .int .u8 85, .int .u8 88]) (.int .i64 2)).run Tryd.prog w = .ok (.int .u8 85) w := fun _ => by kernel_rfl
  have i3 : ∀ w : World, (Instr.index 62 (.agg #[.int .u8 76, .int .u8 72, .int .u8 85, .int .u8 88]) (.int .i64 3)).run Tryd.prog w = .ok (.int .u8 88) w := fun _ => by kernel_rfl
  go_enter Tryd.func33, Tryd.ntmps33
  go_wp2_with (refine wpList_load_row rfl 62 _ rfl 0 rfl _ _ _ _ hg Tryd.underlying62 rfl (by kernel_rfl) ?_)
  refine wp_loop_rounds 1 ?_
  rw [rounds_succ]
  go_wp2
  go_ret2
  exact ⟨rfl, rfl⟩

set_option maxHeartbeats 1000000 in
theorem iLetter_72 (w : World) (h : Tbl w) : Calls Tryd.prog 33 #[.int .u8 72] w fun e w' => e = .returned (.tuple #[.int .i64 1, .bool true]) ∧ w = w' := by
  obtain ⟨_, fr, hg⟩ := h
  have i0 : ∀ w : World, (Instr.index 62 (.agg #[.int .u8 76, .int .u8 72, .int .u8 85, .int .u8 88]) (.int .i64 0)).run Tryd.prog w = .ok (.int .u8 76) w := fun _ => by kernel_rfl
  have i1 : ∀ w : World, (Instr.index 62 (.agg #[.int .u8 76, .int .u8 72, .int .u8 85, .int .u8 88]) (.int .i64 1)).run Tryd.prog w = .ok (.int .u8 72) w := fun _ => by kernel_rfl
  have i2 : ∀ w : World, (Instr.index 62 (.agg #[.int .u8 76, .int .u8 72, .int .u8 85, .int .u8 88]) (.int .i64 2)).run Tryd.prog w = .ok (.int .u8 85) w := fun _ => by kernel_rfl
  have i3 : ∀ w : World, (Instr.index 62 (.agg #[.int .u8 76, .int .u8 72, .int .u8 85, .int .u8 88]) (.int .i64 3)).run Tryd.prog w = .ok (.int .u8 88) w := fun _ => by kernel_rfl
  go_enter Tryd.func33, Tryd.ntmps33
  go_wp2_with (refine wpList_load_row rfl 62 _ rfl 0 rfl _ _ _ _ hg Tryd.underlying62 rfl (by kernel_rfl) ?_)
  refine wp_loop_rounds 2 ?_
  rw [rounds_succ]
  go_wp2
  rw [rounds_succ]
  go_wp2
  go_ret2
  exact ⟨rfl, rfl⟩

set_option maxHeartbeats 1000000 in
theorem iLetter_85 (w : World) (h : Tbl w) : Calls Tryd.prog 33 #[.int .u8 85] w fun e w' => e = .returned (.tuple #[.int .i64 2, .bool true]) ∧ w = w' := by
  obtain ⟨_, fr, hg⟩ := h
  have i0 : ∀ w : World, (Instr.index 62 (.agg #[.int .u8 76, .int .u8 72, .int .u8 85, .int .u8 88]) (.int .i64 0)).run Tryd.prog w = .ok (.int .u8 76) w := fun _ => by kernel_rfl
  have i1 : ∀ w : World, (Instr.index 62 (.agg #[.int .u8 76, .int .u8 72, .int .u8 85, .int .u8 88]) (.int .i64 1)).run Tryd.prog w = .ok (.int .u8 72) w := fun _ => by kernel_rfl
  have i2 : ∀ w : World, (Instr.index 62 (.agg #[.int .u8 76, .int .u8 72, .int .u8 85, .int .u8 88]) (.int .i64 2)).run Tryd.prog w = .ok (.int .u8 85) w := fun _ => by kernel_rfl
  have i3 : ∀ w : World, (Instr.index 62 (.agg #[.int .u8 76, .int .u8 72, .int .u8 85, .int .u8 88]) (.int .i64 3)).run Tryd.prog w = .ok (.int .u8 88) w := fun _ => by kernel_rfl
  go_enter Tryd.func33, Tryd.ntmps33
  go_wp2_with (refine wpList_load_row rfl 62 _ rfl 0 rfl _ _ _ _ hg Tryd.underlying62 rfl (by kernel_rfl) ?_)
  refine wp_loop_rounds 3 ?_
  rw [rounds_succ]
  go_wp2
  rw [rounds_succ]
  go_wp2
  rw [rounds_succ]
  go_wp2
  go_ret2
  exact ⟨rfl, rfl⟩

set_option maxHeartbeats 1000000 in
theorem iLetter_88 (w : World) (h : Tbl w) : Calls Tryd.prog 33 #[.int .u8 88] w fun e w' => e = .returned (.tuple #[.int .i64 3, .bool true]) ∧ w = w' := by
  obtain ⟨_, fr, hg⟩ := h
  have i0 : ∀ w : World, (Instr.index 62 (.agg #[.int .u8 76, .int .u8 72, .int .u8 85, .int .u8 88]) (.int .i64 0)).run Tryd.prog w = .ok (.int .u8 76) w := fun _ => by kernel_rfl
  have i1 : ∀ w : World, (Instr.index 62 (.agg #[.int .u8 76, .int .u8 72, .int .u8 85, .int .u8 88]) (.int .i64 1)).run Tryd.prog w = .ok (.int .u8 72) w := fun _ => by kernel_rfl
  have i2 : ∀ w : World, (Instr.index 62 (.agg #[.int .u8 76, .int .u8 72, .int .u8 85, .int .u8 88]) (.int .i64 2)).run Tryd.prog w = .ok (.int .u8 85) w := fun _ => by kernel_rfl
  have i3 : ∀ w : World, (Instr.index 62 (.agg #[.int .u8 76, .int .u8 72, .int .u8 85, .int .u8 88]) (.int .i64 3)).run Tryd.prog w = .ok (.int .u8 88) w := fun _ => by kernel_rfl
  go_enter Tryd.func33, Tryd.ntmps33
  go_wp2_with (refine wpList_load_row rfl 62 _ rfl 0 rfl _ _ _ _ hg Tryd.underlying62 rfl (by kernel_rfl) ?_)
  refine wp_loop_rounds 4 ?_
  rw [rounds_succ]
  go_wp2
  rw [rounds_succ]
  go_wp2
  rw [rounds_succ]
  go_wp2
  rw [rounds_succ]
  go_wp2
  go_ret2
  exact ⟨rfl, rfl⟩

set_option maxHeartbeats 1000000 in
theorem iLetter_no (c : Int) (w : World) (h : Tbl w) (h0 : c ≠ 76) (h1 : c ≠ 72) (h2 : c ≠ 85) (h3 : c ≠ 88) : Calls Tryd.prog 33 #[.int .u8 c] w fun e w' => e = .returned (.tuple #[.int .i64 0, .bool false]) ∧ w = w' := by
  obtain ⟨_, fr, hg⟩ := h
  have t0 : ((76 : Int) == c) = false := by simpa using Ne.symm h0
  have t1 : ((72 : Int) == c) = false := by simpa using Ne.symm h1
  have t2 : ((85 : Int) == c) = false := by simpa using Ne.symm h2
  have t3 : ((88 : Int) == c) = false := by simpa using Ne.symm h3
  clear h0 h1 h2 h3
  have i0 : ∀ w : World, (Instr.index 62 (.agg #[.int .u8 76, .int .u8 72, .int .u8 85, .int .u8 88]) (.int .i64 0)).run Tryd.prog w = .ok (.int .u8 76) w := fun _ => by kernel_rfl
  have i1 : ∀ w : World, (Instr.index 62 (.agg #[.int .u8 76, .int .u8 72, .int .u8 85, .int .u8 88]) (.int .i64 1)).run Tryd.prog w = .ok (.int .u8 72) w := fun _ => by kernel_rfl
  have i2 : ∀ w : World, (Instr.index 62 (.agg #[.int .u8 76, .int .u8 72, .int .u8 85, .int .u8 88]) (.int .i64 2)).run Tryd.prog w = .ok (.int .u8 85) w := fun _ => by kernel_rfl
  have i3 : ∀ w : World, (Instr.index 62 (.agg #[.int .u8 76, .int .u8 72, .int .u8 85, .int .u8 88]) (.int .i64 3)).run Tryd.prog w = .ok (.int .u8 88) w := fun _ => by kernel_rfl
  go_enter Tryd.func33, Tryd.ntmps33
  go_wp2_with (refine wpList_load_row rfl 62 _ rfl 0 rfl _ _ _ _ hg Tryd.underlying62 rfl (by kernel_rfl) ?_)
  refine wp_loop_rounds 5 ?_
  rw [rounds_succ]
  go_wp2
  rw [rounds_succ]
  go_wp2
  rw [rounds_succ]
  go_wp2
  rw [rounds_succ]
  go_wp2
  rw [rounds_succ]
  go_wp2
  go_ret2
  exact ⟨rfl, rfl⟩

/-- **labelOfLetter answers Lett, at every byte.** -/
theorem iLetter_one (c : Int) (w : World) (h : Tbl w) : Calls Tryd.prog 33 #[.int .u8 c] w fun e w' => e = .returned (.tuple #[.int .i64 (if Lett c < 0 then 0 else Lett c), .bool (decide (0 ≤ Lett c))]) ∧ w = w' := by
  by_cases h0 : c = 76
  · subst h0
    exact iLetter_76 w h
  by_cases h1 : c = 72
  · subst h1
    exact iLetter_72 w h
  by_cases h2 : c = 85
  · subst h2
    exact iLetter_85 w h
  by_cases h3 : c = 88
  · subst h3
    exact iLetter_88 w h
  rw [Lett_no h0 h1 h2 h3]
  exact iLetter_no c w h h0 h1 h2 h3

/-- The letter of a label. -/
def LetterOf (l : Int) : Int := if l = 0 then 76 else if l = 1 then 72 else if l = 2 then 85 else 88

set_option maxHeartbeats 1000000 in
theorem letter_one (l : Int) (w : World) (h : Tbl w) (h0 : 0 ≤ l) (h3 : l ≤ 3) : Calls Tryd.prog 23 #[.int .i64 l] w fun e w' => e = .returned (.int .u8 (LetterOf l)) ∧ w = w' := by
  have c0 := h.cell 0 (by decide)
  have c1 := h.cell 1 (by decide)
  have c2 := h.cell 2 (by decide)
  have c3 := h.cell 3 (by decide)
  clear h
  obtain rfl | rfl | rfl | rfl : l = 0 ∨ l = 1 ∨ l = 2 ∨ l = 3 := by omega
  all_goals
    go_enter Tryd.func23, Tryd.ntmps23
    go_wp2
    go_ret
    exact ⟨rfl, rfl⟩

end Go.Proofs.YtmajmchiflggjaaDoor

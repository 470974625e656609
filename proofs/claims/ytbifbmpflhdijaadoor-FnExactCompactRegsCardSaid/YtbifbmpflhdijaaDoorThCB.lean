/- slices.Clone at lists of ints, walked: copies in rows of their own (split off ThC). -/
import Derived.Test.YtbifbmpflhdijaaDoorAppA
import Derived.Test.YtbifbmpflhdijaaDoorMmB
import Derived.Lib.SliceRun
namespace Go.Proofs.YtbifbmpflhdijaaDoor
open Go.RowKit
set_option linter.unusedVariables false

/-- A copy in a row of its own. -/
def CloneI (xs : List Int) (n : Nat) (w : World) (e : Ending) (w' : World) : Prop := ∃ a c, e = .returned (.slice a n c) ∧ w'.ownsRow w.heap.size 3 1 (.slice a n c) n (xs.map (Value.int .i64)) ∧ Below w.heap.size w w'

set_option maxRecDepth 100000 in
set_option maxHeartbeats 2000000 in
theorem cloneI_one (xs : List Int) (a : Option Addr) (n c : Nat) (w : World) (h : IAt w (fun b => b < w.heap.size) xs a) (hn : xs.length = n) (hm : n ≤ 1048576) :
    Calls Tryd.prog 98 #[.slice a n c] w (CloneI xs n w) := by
  obtain ⟨k0, kinf, kj0, kj1, kj2⟩ := info_parts Tryd.infoI
  have qT : ∀ W : World, (binOp .eql 22 (.slice a n c) (.slice none 0 0)).run Tryd.prog W = .ok (.bool a.isNone) W := fun W => Lib.run_eql_slice_nil W _ _ a n c 0 0 Tryd.underlying22
  have hnews : NewsAt (w.alloc (.cells #[] 3)) a n (xs.map (Value.int .i64)) := by
    have hs := (h.wide (w' := w.alloc (.cells #[] 3)) (D' := fun b => b < w.heap.size) (fun k hk => Below.heap_alloc _ _ _ hk) fun _ hk => hk).slice
    rw [hn] at hs
    exact NewsAt.ints hs
  have hlen : (xs.map (Value.int .i64)).length = n * 1 := by rw [← hn]; simp
  have hone : ∀ u ∈ xs.map (Value.int .i64), u.oneCell' = true := by simp [Value.oneCell']
  have hown : (w.alloc (.cells #[] 3)).ownsRow w.heap.size 3 1 (.slice (some ⟨w.heap.size, 0, none⟩) 0 0) 0 [] := World.ownsRow_made w #[] 0 (Nat.le_refl _) (by unfold maxLen; omega) rfl
  have HB : Hid (Below w.heap.size w (w.alloc (.cells #[] 3))) := (Below.refl _ w).alloc (Nat.le_refl _) _
  have HN0 : Hid (a = none → n = 0) := fun e => by
    subst e
    rcases hnews with ⟨_, h0⟩ | ⟨ad, h0, _⟩
    · exact h0
    · cases h0
  have HL := Lib.hid hlen
  clear h hn hlen
  rcases a with _ | ad
  · obtain rfl : n = 0 := HN0.out rfl
    have HFIN : Hid (CloneI xs 0 w (.returned (.slice none 0 0)) w) := ⟨none, 0, rfl, ⟨HL.out, .inl ⟨rfl, rfl⟩⟩, Below.refl _ _⟩
    simp only [Option.isNone_none] at qT
    clear hnews hone hown
    go_enter Tryd.func98, Tryd.ntmps98
    go_wp2_with fail
    go_ret
    exact HFIN.out
  · simp only [Option.isNone_some] at qT
    go_enter Tryd.func98, Tryd.ntmps98
    go_wp2_with (first
      | (at_builtin
         refine wpList_append_any _ (by rfl) _ _ 22 (by rfl) w.heap.size 3 k0 _ 1 8 Tryd.underlying22 kinf kj0 kj1 kj2 rfl (by omega) (.slice (some ⟨w.heap.size, 0, none⟩) 0 0) 0 _ (by rfl) hown (some ad) n c _ (by rfl) HL.out hnews hone (by unfold maxLen; omega) (by omega) (by simp) ?_
         intro v' w6 hap)
      | fail)
    obtain ⟨a', c', hv, h1, h2, _⟩ := hap
    have HFIN : Hid (CloneI xs n w (.returned v') w6) := by
      rw [Nat.zero_add, List.nil_append] at h1
      rw [Nat.zero_add] at hv
      exact ⟨a', c', by rw [hv], h1, HB.out.grown h2 (by simp) (fun k e => by cases e; exact Nat.le_refl _)⟩
    clear h1 h2 hnews hone hown
    go_wp2_with fail
    go_ret
    exact HFIN.out

end Go.Proofs.YtbifbmpflhdijaaDoor

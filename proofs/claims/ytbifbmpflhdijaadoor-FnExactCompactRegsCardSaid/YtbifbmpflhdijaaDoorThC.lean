/- slices.Clone at lists of ints and of instructions, walked: copies in rows of their own. -/
import Derived.Test.YtbifbmpflhdijaaDoorFlN
import Derived.Test.YtbifbmpflhdijaaDoorThCB
namespace Go.Proofs.YtbifbmpflhdijaaDoor
open Go.RowKit
set_option linter.unusedVariables false

theorem NewsAt.instrs {w : World} {D : Nat → Prop} {A : Option Addr} {m : Nat} {xs : List Ins} (h : NAt w D xs A) (hm : xs.length = m) : NewsAt w A m (flatN xs) := by
  rcases A with _ | ad
  · by_cases h0 : m = 0
    · exact .inl ⟨rfl, h0⟩
    · obtain ⟨b, o, e, _⟩ := h.2 0 xs[0] (List.getElem?_eq_getElem (by omega))
      cases e
  · refine .inr ⟨ad, rfl, fun j u hu => ?_⟩
    have hj : j < xs.length * 5 := by have := (List.getElem?_eq_some_iff.1 hu).1; rw [flatN_len] at this; exact this
    have hx : xs[j / 5]? = some (xs[j / 5]'(by omega)) := List.getElem?_eq_getElem _
    obtain ⟨b, o, e, _, e0, e1, e2, e3, e4⟩ := h.2 _ _ hx
    obtain ⟨k0, k1, k2, k3, k4⟩ := flatN_at xs (j / 5) _ hx
    cases e
    rw [add_none]
    have hm : j % 5 = 0 ∨ j % 5 = 1 ∨ j % 5 = 2 ∨ j % 5 = 3 ∨ j % 5 = 4 := by omega
    rcases hm with e | e | e | e | e
    · have ej : j = j / 5 * 5 := by omega
      rw [show o + j = o + j / 5 * 5 by omega, e0, ← k0, ← ej, hu]
    · have ej : j = j / 5 * 5 + 1 := by omega
      rw [show o + j = o + j / 5 * 5 + 1 by omega, e1, ← k1, ← ej, hu]
    · have ej : j = j / 5 * 5 + 2 := by omega
      rw [show o + j = o + j / 5 * 5 + 2 by omega, e2, ← k2, ← ej, hu]
    · have ej : j = j / 5 * 5 + 3 := by omega
      rw [show o + j = o + j / 5 * 5 + 3 by omega, e3, ← k3, ← ej, hu]
    · have ej : j = j / 5 * 5 + 4 := by omega
      rw [show o + j = o + j / 5 * 5 + 4 by omega, e4, ← k4, ← ej, hu]
theorem flatN_one : ∀ (xs : List Ins), ∀ u ∈ flatN xs, u.oneCell' = true
  | [], u, h => by simp [flatN] at h
  | x :: xs, u, h => by
    simp only [flatN, List.mem_cons] at h
    rcases h with rfl | rfl | rfl | rfl | rfl | h
    · rfl
    · rfl
    · rfl
    · rfl
    · rfl
    · exact flatN_one xs u h

/-- A copy in a row of its own. -/
def CloneN (xs : List Ins) (n : Nat) (w : World) (e : Ending) (w' : World) : Prop := ∃ a c, e = .returned (.slice a n c) ∧ w'.ownsRow w.heap.size 50 5 (.slice a n c) n (flatN xs) ∧ Below w.heap.size w w'

set_option maxRecDepth 100000 in
set_option maxHeartbeats 2000000 in
theorem cloneN_one (xs : List Ins) (a : Option Addr) (n c : Nat) (w : World) (h : NAt w (fun b => b < w.heap.size) xs a) (hn : xs.length = n) (hm : n ≤ 1048576) :
    Calls Tryd.prog 103 #[.slice a n c] w (CloneN xs n w) := by
  obtain ⟨k0, kinf, kj0, kj1, kj2⟩ := info_parts Tryd.infoN
  have qT : ∀ W : World, (binOp .eql 27 (.slice a n c) (.slice none 0 0)).run Tryd.prog W = .ok (.bool a.isNone) W := fun W => Lib.run_eql_slice_nil W _ _ a n c 0 0 Tryd.underlying27
  have hnews : NewsAt (w.alloc (.cells #[] 50)) a n (flatN xs) := NewsAt.instrs (h.wide (w' := w.alloc (.cells #[] 50)) (D' := fun b => b < w.heap.size) (fun k hk => Below.heap_alloc _ _ _ hk) fun _ hk => hk) hn
  have hlen : (flatN xs).length = n * 5 := by rw [← hn]; exact flatN_len xs
  have hone : ∀ u ∈ flatN xs, u.oneCell' = true := flatN_one xs
  have hown : (w.alloc (.cells #[] 50)).ownsRow w.heap.size 50 5 (.slice (some ⟨w.heap.size, 0, none⟩) 0 0) 0 [] := World.ownsRow_made w #[] 0 (Nat.le_refl _) (by unfold maxLen; omega) rfl
  have HB : Hid (Below w.heap.size w (w.alloc (.cells #[] 50))) := (Below.refl _ w).alloc (Nat.le_refl _) _
  have HN0 : Hid (a = none → n = 0) := fun e => by
    subst e
    rcases hnews with ⟨_, h0⟩ | ⟨ad, h0, _⟩
    · exact h0
    · cases h0
  have HL := Lib.hid hlen
  clear h hn hlen
  rcases a with _ | ad
  · obtain rfl : n = 0 := HN0.out rfl
    have HFIN : Hid (CloneN xs 0 w (.returned (.slice none 0 0)) w) := ⟨none, 0, rfl, ⟨HL.out, .inl ⟨rfl, rfl⟩⟩, Below.refl _ _⟩
    simp only [Option.isNone_none] at qT
    clear hnews hone hown
    go_enter Tryd.func103, Tryd.ntmps103
    go_wp2_with fail
    go_ret
    exact HFIN.out
  · simp only [Option.isNone_some] at qT
    go_enter Tryd.func103, Tryd.ntmps103
    go_wp2_with (first
      | (at_builtin
         refine wpList_append_any _ (by rfl) _ _ 27 (by rfl) w.heap.size 50 k0 _ 5 40 Tryd.underlying27 kinf kj0 kj1 kj2 rfl (by omega) (.slice (some ⟨w.heap.size, 0, none⟩) 0 0) 0 _ (by rfl) hown (some ad) n c _ (by rfl) HL.out hnews hone (by unfold maxLen; omega) (by omega) (by simp) ?_
         intro v' w6 hap)
      | fail)
    obtain ⟨a', c', hv, h1, h2, _⟩ := hap
    have HFIN : Hid (CloneN xs n w (.returned v') w6) := by
      rw [Nat.zero_add, List.nil_append] at h1
      rw [Nat.zero_add] at hv
      exact ⟨a', c', by rw [hv], h1, HB.out.grown h2 (by simp) (fun k e => by cases e; exact Nat.le_refl _)⟩
    clear h1 h2 hnews hone hown
    go_wp2_with fail
    go_ret
    exact HFIN.out

end Go.Proofs.YtbifbmpflhdijaaDoor

/- Cells and blocks of a world with one cell written. -/
import Derived.Test.YteoaecfjgbkefaaTreeS
namespace Go.Proofs.Yteoaecfjgbkefaa
open Go.RowKit
set_option linter.unusedVariables false

theorem blk_of_cell {w : World} {b j : Nat} {x : Value} (h : w.cell? ⟨b, j, none⟩ = some x) : ∃ cur T fr, w.heap[b]? = some (.cells cur T fr) ∧ cur[j]? = some x := by
  unfold World.cell? at h
  split at h
  · rename_i cur T fr hh
    exact ⟨cur, T, fr, hh, h⟩
  all_goals cases h
theorem blk_set {w : World} {b i : Nat} {cs : Array Value} {T : TypeId} {fr : Nat × Nat} (hb : w.heap[b]? = some (.cells cs T fr)) (v : Value) : (w.setCell ⟨b, i, none⟩ v).heap[b]? = some (.cells (cs.setIfInBounds i v) T fr) := by
  simp [World.setCell, Array.getElem?_modify, hb]
theorem cell_set {w : World} {b j b' o' : Nat} {x : Value} (h : w.cell? ⟨b, j, none⟩ = some x) (v : Value) : (w.setCell ⟨b', o', none⟩ v).cell? ⟨b, j, none⟩ = some (if b = b' ∧ j = o' then v else x) := by
  by_cases hb : b = b'
  · subst hb
    obtain ⟨cur, T, fr, hh, hx⟩ := blk_of_cell h
    have h2 := blk_set (i := o') hh v
    have h3 : (w.setCell ⟨b, o', none⟩ v).cell? ⟨b, j, none⟩ = (cur.setIfInBounds o' v)[j]? := by simp [World.cell?, h2]
    rw [h3, Array.getElem?_setIfInBounds]
    by_cases hj : j = o'
    · subst hj
      have hlt : j < cur.size := (Array.getElem?_eq_some_iff.1 hx).1
      simp [hlt]
    · rw [if_neg (fun e => hj e.symm), if_neg (fun e => hj e.2), hx]
  · rw [if_neg (fun e => hb e.1)]
    exact (World.cell?_of_block (w := w) (a := ⟨b, j, none⟩) (Below.heap_setCell w ⟨b', o', none⟩ v b (by simpa using hb))).trans h
theorem frozen_set {w : World} {b j b' o' : Nat} {x : Value} (h : w.cell? ⟨b, j, none⟩ = some x) (hf : w.frozen? ⟨b, j, none⟩ = false) (v : Value) : (w.setCell ⟨b', o', none⟩ v).frozen? ⟨b, j, none⟩ = false := by
  obtain ⟨cur, T, fr, hh, hx⟩ := blk_of_cell h
  have h0 : (w.setCell ⟨b', o', none⟩ v).heap[b]? = some (.cells (if b = b' then cur.setIfInBounds o' v else cur) T fr) := by
    by_cases hb : b = b'
    · subst hb; rw [if_pos rfl]; exact blk_set hh v
    · rw [if_neg hb]; exact (Below.heap_setCell w ⟨b', o', none⟩ v b (by simpa using hb)).trans hh
  have e1 : w.frozen? ⟨b, j, none⟩ = (w.setCell ⟨b', o', none⟩ v).frozen? ⟨b, j, none⟩ := by simp [World.frozen?, hh, h0]
  rw [← e1]; exact hf
theorem frozen_stand {w w' : World} {b j : Nat} (h : w'.heap[b]? = w.heap[b]?) : w'.frozen? ⟨b, j, none⟩ = w.frozen? ⟨b, j, none⟩ := by simp [World.frozen?, h]

end Go.Proofs.Yteoaecfjgbkefaa

/- A memory that a run may change: ints from 0 to 255 in blocks between two bounds; what a store of such an int, and what happens elsewhere, leaves of it. -/
import Derived.Test.YtgfagdjadmpklaaRowB
namespace Go.Proofs.Ytgfagdjadmpklaa
open Go.RowKit
set_option linter.unusedVariables false

theorem blk_of_cell {w : World} {b j : Nat} {x : Value} (h : w.cell? ⟨b, j, none⟩ = some x) : ∃ cur T fr, w.heap[b]? = some (.cells cur T fr) ∧ cur[j]? = some x := by
  unfold World.cell? at h
  split at h
  · rename_i cur T fr hh
    exact ⟨cur, T, fr, hh, h⟩
  all_goals cases h
theorem blk_set {w : World} {b i : Nat} {cs : Array Value} {T : TypeId} {fr : Nat × Nat} (hb : w.heap[b]? = some (.cells cs T fr)) (v : Value) : (w.setCell ⟨b, i, none⟩ v).heap[b]? = some (.cells (cs.setIfInBounds i v) T fr) := by
  simp [World.setCell, Array.getElem?_modify, hb]
theorem cell_set {w : World} {b j b' o' : Nat} {x : Value} (h : w.cell? ⟨b, j, none⟩ = some x) (v : Value) : (w.setCell ⟨b', o', none⟩ v).cell? ⟨b, j, none⟩ = some (if b = b' ∧ j = o' then v else x) := by
  by_cases hb : b = b'
  · subst hb
    obtain ⟨cur, T, fr, hh, hx⟩ := blk_of_cell h
    have h2 := blk_set (i := o') hh v
    have h3 : (w.setCell ⟨b, o', none⟩ v).cell? ⟨b, j, none⟩ = (cur.setIfInBounds o' v)[j]? := by simp [World.cell?, h2]
    rw [h3, Array.getElem?_setIfInBounds]
    by_cases hj : j = o'
    · subst hj
      have hlt : j < cur.size := (Array.getElem?_eq_some_iff.1 hx).1
      simp [hlt]
    · rw [if_neg (fun e => hj e.symm), if_neg (fun e => hj e.2), hx]
  · rw [if_neg (fun e => hb e.1)]
    exact (World.cell?_of_block (w := w) (a := ⟨b, j, none⟩) (Below.heap_setCell w ⟨b', o', none⟩ v b (by simpa using hb))).trans h
theorem frozen_set {w : World} {b j b' o' : Nat} {x : Value} (h : w.cell? ⟨b, j, none⟩ = some x) (hf : w.frozen? ⟨b, j, none⟩ = false) (v : Value) : (w.setCell ⟨b', o', none⟩ v).frozen? ⟨b, j, none⟩ = false := by
  obtain ⟨cur, T, fr, hh, hx⟩ := blk_of_cell h
  have h0 : (w.setCell ⟨b', o', none⟩ v).heap[b]? = some (.cells (if b = b' then cur.setIfInBounds o' v else cur) T fr) := by
    by_cases hb : b = b'
    · subst hb; rw [if_pos rfl]; exact blk_set hh v
    · rw [if_neg hb]; exact (Below.heap_setCell w ⟨b', o', none⟩ v b (by simpa using hb)).trans hh
  have e1 : w.frozen? ⟨b, j, none⟩ = (w.setCell ⟨b', o', none⟩ v).frozen? ⟨b, j, none⟩ := by simp [World.frozen?, hh, h0]
  rw [← e1]; exact hf
theorem frozen_stand {w w' : World} {b j : Nat} (h : w'.heap[b]? = w.heap[b]?) : w'.frozen? ⟨b, j, none⟩ = w.frozen? ⟨b, j, none⟩ := by simp [World.frozen?, h]

/-- n ints from 0 to 255 at a, in blocks from lo to hi that may be written. -/
def RI (u : World) (lo hi : Nat) (a : Option Addr) (n : Nat) : Prop := ∀ k, k < n → ∃ b o z, a = some ⟨b, o, none⟩ ∧ lo ≤ b ∧ b < hi ∧ u.cell? ⟨b, o + k, none⟩ = some (.int .i64 z) ∧ 0 ≤ z ∧ z ≤ 255 ∧ u.frozen? ⟨b, o + k, none⟩ = false
theorem RI.stand {u u' : World} {lo hi : Nat} {a : Option Addr} {n : Nat} (h : RI u lo hi a n) (hs : ∀ b, lo ≤ b → b < hi → u'.heap[b]? = u.heap[b]?) : RI u' lo hi a n := fun k hk => by
  obtain ⟨b, o, z, h1, h2, h3, h4, h5, h6, h7⟩ := h k hk
  exact ⟨b, o, z, h1, h2, h3, (World.cell?_of_block (w := u) (hs b h2 h3)).trans h4, h5, h6, (frozen_stand (hs b h2 h3)).trans h7⟩
theorem RI.set {u : World} {lo hi : Nat} {a : Option Addr} {n : Nat} (h : RI u lo hi a n) (b' o' : Nat) {z' : Int} (h0 : 0 ≤ z') (h1 : z' ≤ 255) : RI (u.setCell ⟨b', o', none⟩ (.int .i64 z')) lo hi a n := fun k hk => by
  obtain ⟨b, o, z, e1, e2, e3, e4, e5, e6, e7⟩ := h k hk
  have e8 := cell_set (b' := b') (o' := o') e4 (.int .i64 z')
  by_cases hq : b = b' ∧ o + k = o'
  · rw [if_pos hq] at e8
    exact ⟨b, o, z', e1, e2, e3, e8, h0, h1, frozen_set e4 e7 _⟩
  · rw [if_neg hq] at e8
    exact ⟨b, o, z, e1, e2, e3, e8, e5, e6, frozen_set e4 e7 _⟩

/-- The memory of a run. -/
structure RM (u : World) (lo hi nv na : Nat) (va aa : Option Addr) : Prop where
  vals : RI u lo hi va nv
  arrs : ∀ i, i < na → ∃ b o a c, aa = some ⟨b, o, none⟩ ∧ lo ≤ b ∧ b < hi ∧ u.cell? ⟨b, o + i, none⟩ = some (.slice a 4 c) ∧ 4 ≤ c ∧ c ≤ maxLen ∧ RI u lo hi a 4
theorem RM.stand {u u' : World} {lo hi nv na : Nat} {va aa : Option Addr} (h : RM u lo hi nv na va aa) (hs : ∀ b, lo ≤ b → b < hi → u'.heap[b]? = u.heap[b]?) : RM u' lo hi nv na va aa :=
  ⟨h.vals.stand hs, fun i hi' => by
    obtain ⟨b, o, a, c, e1, e2, e3, e4, e5, e6, e7⟩ := h.arrs i hi'
    exact ⟨b, o, a, c, e1, e2, e3, (World.cell?_of_block (w := u) (hs b e2 e3)).trans e4, e5, e6, e7.stand hs⟩⟩
/-- An int is stored where an int stood. -/
theorem RM.set {u : World} {lo hi nv na : Nat} {va aa : Option Addr} (h : RM u lo hi nv na va aa) {b' o' : Nat} {z : Int} (hz : u.cell? ⟨b', o', none⟩ = some (.int .i64 z)) {z' : Int} (h0 : 0 ≤ z') (h1 : z' ≤ 255) : RM (u.setCell ⟨b', o', none⟩ (.int .i64 z')) lo hi nv na va aa :=
  ⟨h.vals.set b' o' h0 h1, fun i hi' => by
    obtain ⟨b, o, a, c, e1, e2, e3, e4, e5, e6, e7⟩ := h.arrs i hi'
    have e8 := cell_set (b' := b') (o' := o') e4 (.int .i64 z')
    by_cases hq : b = b' ∧ o + i = o'
    · obtain ⟨rfl, rfl⟩ := hq
      rw [e4] at hz; cases hz
    · rw [if_neg hq] at e8
      exact ⟨b, o, a, c, e1, e2, e3, e8, e5, e6, e7.set b' o' h0 h1⟩⟩

/-- The aggregates of a memory and of a program of nv variables and na arrays. -/
abbrev aggMm (va aa : Option Addr) (nv na vc ac : Nat) : Value := .agg #[.slice va nv vc, .slice aa na ac]
abbrev aggPr (pv pa pb : Option Addr) (nv na nb pvc pac pbc : Nat) : Value := .agg #[.slice pv nv pvc, .slice pa na pac, .slice pb nb pbc]

end Go.Proofs.Ytgfagdjadmpklaa

/- The verifier's leastRows, walked: its worklist in a channel finds the least taint map of valid code. -/
import Derived.Test.YtjgmhncfijegmaaDoorChn
import Derived.Test.YtjgmhncfijegmaaDoorTnF
import Derived.Test.YtjgmhncfijegmaaDoorRcI
import Derived.Test.YtjgmhncfijegmaaDoorBb
namespace Go.Proofs.YtjgmhncfijegmaaDoor
open Go.RowKit Go.Conc
set_option linter.unusedVariables false

theorem Tryd.infoR : (Tryd.prog.info? 75).map (fun i => (i.zero, i.size, i.bytes)) = some (some (.int .u16 0), 1, 2) := by kernel_rfl
def v16 (m : Nat) : Value := .int .u16 (m : Int)
def vI (m : Nat) : Value := .int .i64 (m : Int)
theorem regs0 (n : Nat) : (madeCells (Value.int .u16 0).cells (n * 1)).toList = (List.replicate n 0).map v16 := by
  rw [Nat.mul_one, List.map_replicate]
  exact toList_madeCells_one _ _
/-- The rows and the channel. -/
structure RCh (W : World) (S C n : Nat) (rs ws : List Nat) (w : World) : Prop where
  row : w.ownsRow S 75 1 (.slice (some ⟨S, 0, none⟩) n n) n (rs.map v16)
  ch : ∃ s r, w.heap[C]? = some (.chan (15 * n) (ws.map vI).toArray false s r false)
  bel : Below S W w
  sc : S < C
theorem RCh.lt {W : World} {S C n : Nat} {rs ws : List Nat} {w : World} (h : RCh W S C n rs ws w) : C < w.heap.size := by
  obtain ⟨s, r, h⟩ := h.ch
  exact (Array.getElem?_eq_some_iff.1 h).1
theorem RCh.later {W : World} {S C n : Nat} {rs ws : List Nat} {w w' : World} (h : RCh W S C n rs ws w) (hb : Below w.heap.size w w') : RCh W S C n rs ws w' := by
  have hg : w.grownBy w' none := ⟨hb.os, hb.tape, hb.output, hb.size, fun k hk _ => hb.block k hk⟩
  have hl := h.lt
  have hs := h.sc
  obtain ⟨s, r, hc⟩ := h.ch
  exact ⟨h.row.kept hg (.inr (by simp [Value.ownBlock])), ⟨s, r, (hb.block _ hl).trans hc⟩, h.bel.trans (hb.mono (by omega)), h.sc⟩
theorem RCh.at {W : World} {S C n : Nat} {rs ws : List Nat} {w : World} (h : RCh W S C n rs ws w) {i m : Nat} (hm : rs[i]? = some m) (hi : i < n) : w.cell? ⟨S, i, none⟩ = some (.int .u16 (m : Int)) ∧ w.frozen? ⟨S, i, none⟩ = false := by
  refine ⟨?_, h.row.frozenAt i⟩
  rw [h.row.cellAt i (by omega), List.getElem?_map, hm]; rfl
theorem RCh.put {W : World} {S C n : Nat} {rs ws : List Nat} {w : World} (h : RCh W S C n rs ws w) (j m' : Nat) : RCh W S C n (rs.set j m') ws (w.setCell ⟨S, j, none⟩ (.int .u16 (m' : Int))) := by
  have hs := h.sc
  obtain ⟨s, r, hc⟩ := h.ch
  refine ⟨?_, ⟨s, r, (Below.heap_setCell _ _ _ _ (by simp; omega)).trans hc⟩, h.bel.setCell (p := ⟨S, j, none⟩) (Nat.le_refl _) _, h.sc⟩
  rw [List.map_set]
  exact (h.row.stored j _).1
theorem RCh.chan {W : World} {S C n : Nat} {rs ws ws' : List Nat} {w : World} (h : RCh W S C n rs ws w) (s r : Nat) {buf : Array Value} (hb : buf = (ws'.map vI).toArray) : RCh W S C n rs ws' (w.setChan C (15 * n) buf false s r false) := by
  have hl := h.lt
  have hs := h.sc
  refine ⟨ownsRow_far h.row fun g hg hgl => ?_, ⟨s, r, by rw [heap_setChan _ _ _ _ _ _ _ _ hl, hb]⟩, below_setChan h.bel (by omega) _ _ _ _ _ _, h.sc⟩
  cases hg
  simp only [World.setChan]
  rw [Array.getElem?_setIfInBounds_ne (by omega)]
theorem ch_cell {w : World} {c cap : Nat} {buf : Array Value} {cl : Bool} {s r : Nat} {tm : Bool} {b : Nat} (hb : b ≠ c) (o : Nat) : (w.setChan c cap buf cl s r tm).cell? ⟨b, o, none⟩ = w.cell? ⟨b, o, none⟩ := by
  have e : (w.setChan c cap buf cl s r tm).heap[b]? = w.heap[b]? := by
    simp only [World.setChan]
    rw [Array.getElem?_setIfInBounds_ne (fun e => hb e.symm)]
  exact World.cell?_of_block (w := w) (a := ⟨b, o, none⟩) e

/-- The least map in a row of its own. -/
def LeastN (sv sa : Nat → Bool) (l : List Ins) (n : Nat) (w : World) (e : Ending) (w' : World) : Prop := ∃ (rs : List Nat) (S : Nat), e = .returned (.slice (some ⟨S, 0, none⟩) n n) ∧ IsT sv sa l rs ∧ w'.ownsRow w.heap.size 75 1 (.slice (some ⟨S, 0, none⟩) n n) n (rs.map v16) ∧ Below w.heap.size w w'
/-- Followers under look. -/
def dnF (fs : List Nat) (s : Nat) : List Nat := fs.take s
theorem dnF_succ {fs : List Nat} {s j : Nat} (h : fs[s]? = some j) : dnF fs (s + 1) = dnF fs s ++ [j] := by
  unfold dnF; rw [List.take_add_one, h]; rfl
theorem grow_no {mj af : Nat} (hm : mj < 32768) (ha : af < 32768) (h : Sub af mj) : (bits .andNot .u16 (af : Int) (mj : Int) != 0) = false := by
  rw [u16_andNot_nat af mj (by omega) (by omega), (sub_iff hm ha).2 h]; rfl
theorem grow_yes {mj af : Nat} (hm : mj < 32768) (ha : af < 32768) (h : ¬ Sub af mj) : (bits .andNot .u16 (af : Int) (mj : Int) != 0) = true := by
  rw [u16_andNot_nat af mj (by omega) (by omega)]
  have h1 : af &&& (65535 - mj) ≠ 0 := fun e => h ((sub_iff hm ha).1 e)
  simp only [bne_iff_ne, ne_eq]
  omega
theorem then_exit {id : Nat} {K : Act → World → Prop} {Q : Exit → Act → World → Prop} {a : Act} {w : World} (h : Q (.exit id) a w) : Exit.then K Q (.exit id) a w := h
theorem inBlock_exit {id : Nat} {Q : Exit → Act → World → Prop} {a : Act} {w : World} (h : Q .normal a w) : Exit.inBlock id Q (.exit id) a w := by
  simp [Exit.inBlock, h]
/-- A frame of which some slots are known. -/
theorem frmA {a : Act} {v0 v1 v3 v4 : Value} (h : a.defers = [] ∧ a.tmps.size = 64 ∧ a.tmps[0]? = some v0 ∧ a.tmps[1]? = some v1 ∧ a.tmps[3]? = some v3 ∧ a.tmps[4]? = some v4) : ∃ u : Nat → Value, a = { tmps := #[v0, v1, (u 2), v3, v4, (u 5), (u 6), (u 7), (u 8), (u 9), (u 10), (u 11), (u 12), (u 13), (u 14), (u 15), (u 16), (u 17), (u 18), (u 19), (u 20), (u 21), (u 22), (u 23), (u 24), (u 25), (u 26), (u 27), (u 28), (u 29), (u 30), (u 31), (u 32), (u 33), (u 34), (u 35), (u 36), (u 37), (u 38), (u 39), (u 40), (u 41), (u 42), (u 43), (u 44), (u 45), (u 46), (u 47), (u 48), (u 49), (u 50), (u 51), (u 52), (u 53), (u 54), (u 55), (u 56), (u 57), (u 58), (u 59), (u 60), (u 61), (u 62), (u 63)], defers := [] } := by
  obtain ⟨hd, hs, h0, h1, h3, h4⟩ := h
  have gs : ∀ i, i < 64 → a.tmps[i]? = some (a.tmps.getD i undef) := fun i hi => by
    have hl : i < a.tmps.size := by omega
    rw [Array.getElem?_eq_getElem hl]
    simp [Array.getD, hl]
  refine ⟨fun i => a.tmps.getD i undef, ?_⟩
  obtain ⟨t, d⟩ := a
  simp only at hd hs h0 h1 h3 h4 gs
  subst hd
  congr 1
  apply Array.ext_getElem?
  intro i
  by_cases hi : i < 64
  · match i, hi with
    | 0, _ => exact (h0).trans rfl
    | 1, _ => exact (h1).trans rfl
    | 2, _ => exact (gs 2 (by omega)).trans rfl
    | 3, _ => exact (h3).trans rfl
    | 4, _ => exact (h4).trans rfl
    | 5, _ => exact (gs 5 (by omega)).trans rfl
    | 6, _ => exact (gs 6 (by omega)).trans rfl
    | 7, _ => exact (gs 7 (by omega)).trans rfl
    | 8, _ => exact (gs 8 (by omega)).trans rfl
    | 9, _ => exact (gs 9 (by omega)).trans rfl
    | 10, _ => exact (gs 10 (by omega)).trans rfl
    | 11, _ => exact (gs 11 (by omega)).trans rfl
    | 12, _ => exact (gs 12 (by omega)).trans rfl
    | 13, _ => exact (gs 13 (by omega)).trans rfl
    | 14, _ => exact (gs 14 (by omega)).trans rfl
    | 15, _ => exact (gs 15 (by omega)).trans rfl
    | 16, _ => exact (gs 16 (by omega)).trans rfl
    | 17, _ => exact (gs 17 (by omega)).trans rfl
    | 18, _ => exact (gs 18 (by omega)).trans rfl
    | 19, _ => exact (gs 19 (by omega)).trans rfl
    | 20, _ => exact (gs 20 (by omega)).trans rfl
    | 21, _ => exact (gs 21 (by omega)).trans rfl
    | 22, _ => exact (gs 22 (by omega)).trans rfl
    | 23, _ => exact (gs 23 (by omega)).trans rfl
    | 24, _ => exact (gs 24 (by omega)).trans rfl
    | 25, _ => exact (gs 25 (by omega)).trans rfl
    | 26, _ => exact (gs 26 (by omega)).trans rfl
    | 27, _ => exact (gs 27 (by omega)).trans rfl
    | 28, _ => exact (gs 28 (by omega)).trans rfl
    | 29, _ => exact (gs 29 (by omega)).trans rfl
    | 30, _ => exact (gs 30 (by omega)).trans rfl
    | 31, _ => exact (gs 31 (by omega)).trans rfl
    | 32, _ => exact (gs 32 (by omega)).trans rfl
    | 33, _ => exact (gs 33 (by omega)).trans rfl
    | 34, _ => exact (gs 34 (by omega)).trans rfl
    | 35, _ => exact (gs 35 (by omega)).trans rfl
    | 36, _ => exact (gs 36 (by omega)).trans rfl
    | 37, _ => exact (gs 37 (by omega)).trans rfl
    | 38, _ => exact (gs 38 (by omega)).trans rfl
    | 39, _ => exact (gs 39 (by omega)).trans rfl
    | 40, _ => exact (gs 40 (by omega)).trans rfl
    | 41, _ => exact (gs 41 (by omega)).trans rfl
    | 42, _ => exact (gs 42 (by omega)).trans rfl
    | 43, _ => exact (gs 43 (by omega)).trans rfl
    | 44, _ => exact (gs 44 (by omega)).trans rfl
    | 45, _ => exact (gs 45 (by omega)).trans rfl
    | 46, _ => exact (gs 46 (by omega)).trans rfl
    | 47, _ => exact (gs 47 (by omega)).trans rfl
    | 48, _ => exact (gs 48 (by omega)).trans rfl
    | 49, _ => exact (gs 49 (by omega)).trans rfl
    | 50, _ => exact (gs 50 (by omega)).trans rfl
    | 51, _ => exact (gs 51 (by omega)).trans rfl
    | 52, _ => exact (gs 52 (by omega)).trans rfl
    | 53, _ => exact (gs 53 (by omega)).trans rfl
    | 54, _ => exact (gs 54 (by omega)).trans rfl
    | 55, _ => exact (gs 55 (by omega)).trans rfl
    | 56, _ => exact (gs 56 (by omega)).trans rfl
    | 57, _ => exact (gs 57 (by omega)).trans rfl
    | 58, _ => exact (gs 58 (by omega)).trans rfl
    | 59, _ => exact (gs 59 (by omega)).trans rfl
    | 60, _ => exact (gs 60 (by omega)).trans rfl
    | 61, _ => exact (gs 61 (by omega)).trans rfl
    | 62, _ => exact (gs 62 (by omega)).trans rfl
    | 63, _ => exact (gs 63 (by omega)).trans rfl
    | q + 64, h => exact absurd h (by omega)
  · rw [Array.getElem?_eq_none (by omega), Array.getElem?_eq_none (by simp; omega)]
/-- A frame of which some slots are known. -/
theorem frmB {a : Act} {v0 v1 v3 v4 v5 v6 v41 v42 v43 : Value} (h : a.defers = [] ∧ a.tmps.size = 64 ∧ a.tmps[0]? = some v0 ∧ a.tmps[1]? = some v1 ∧ a.tmps[3]? = some v3 ∧ a.tmps[4]? = some v4 ∧ a.tmps[5]? = some v5 ∧ a.tmps[6]? = some v6 ∧ a.tmps[41]? = some v41 ∧ a.tmps[42]? = some v42 ∧ a.tmps[43]? = some v43) : ∃ u : Nat → Value, a = { tmps := #[v0, v1, (u 2), v3, v4, v5, v6, (u 7), (u 8), (u 9), (u 10), (u 11), (u 12), (u 13), (u 14), (u 15), (u 16), (u 17), (u 18), (u 19), (u 20), (u 21), (u 22), (u 23), (u 24), (u 25), (u 26), (u 27), (u 28), (u 29), (u 30), (u 31), (u 32), (u 33), (u 34), (u 35), (u 36), (u 37), (u 38), (u 39), (u 40), v41, v42, v43, (u 44), (u 45), (u 46), (u 47), (u 48), (u 49), (u 50), (u 51), (u 52), (u 53), (u 54), (u 55), (u 56), (u 57), (u 58), (u 59), (u 60), (u 61), (u 62), (u 63)], defers := [] } := by
  obtain ⟨hd, hs, h0, h1, h3, h4, h5, h6, h41, h42, h43⟩ := h
  have gs : ∀ i, i < 64 → a.tmps[i]? = some (a.tmps.getD i undef) := fun i hi => by
    have hl : i < a.tmps.size := by omega
    rw [Array.getElem?_eq_getElem hl]
    simp [Array.getD, hl]
  refine ⟨fun i => a.tmps.getD i undef, ?_⟩
  obtain ⟨t, d⟩ := a
  simp only at hd hs h0 h1 h3 h4 h5 h6 h41 h42 h43 gs
  subst hd
  congr 1
  apply Array.ext_getElem?
  intro i
  by_cases hi : i < 64
  · match i, hi with
    | 0, _ => exact (h0).trans rfl
    | 1, _ => exact (h1).trans rfl
    | 2, _ => exact (gs 2 (by omega)).trans rfl
    | 3, _ => exact (h3).trans rfl
    | 4, _ => exact (h4).trans rfl
    | 5, _ => exact (h5).trans rfl
    | 6, _ => exact (h6).trans rfl
    | 7, _ => exact (gs 7 (by omega)).trans rfl
    | 8, _ => exact (gs 8 (by omega)).trans rfl
    | 9, _ => exact (gs 9 (by omega)).trans rfl
    | 10, _ => exact (gs 10 (by omega)).trans rfl
    | 11, _ => exact (gs 11 (by omega)).trans rfl
    | 12, _ => exact (gs 12 (by omega)).trans rfl
    | 13, _ => exact (gs 13 (by omega)).trans rfl
    | 14, _ => exact (gs 14 (by omega)).trans rfl
    | 15, _ => exact (gs 15 (by omega)).trans rfl
    | 16, _ => exact (gs 16 (by omega)).trans rfl
    | 17, _ => exact (gs 17 (by omega)).trans rfl
    | 18, _ => exact (gs 18 (by omega)).trans rfl
    | 19, _ => exact (gs 19 (by omega)).trans rfl
    | 20, _ => exact (gs 20 (by omega)).trans rfl
    | 21, _ => exact (gs 21 (by omega)).trans rfl
    | 22, _ => exact (gs 22 (by omega)).trans rfl
    | 23, _ => exact (gs 23 (by omega)).trans rfl
    | 24, _ => exact (gs 24 (by omega)).trans rfl
    | 25, _ => exact (gs 25 (by omega)).trans rfl
    | 26, _ => exact (gs 26 (by omega)).trans rfl
    | 27, _ => exact (gs 27 (by omega)).trans rfl
    | 28, _ => exact (gs 28 (by omega)).trans rfl
    | 29, _ => exact (gs 29 (by omega)).trans rfl
    | 30, _ => exact (gs 30 (by omega)).trans rfl
    | 31, _ => exact (gs 31 (by omega)).trans rfl
    | 32, _ => exact (gs 32 (by omega)).trans rfl
    | 33, _ => exact (gs 33 (by omega)).trans rfl
    | 34, _ => exact (gs 34 (by omega)).trans rfl
    | 35, _ => exact (gs 35 (by omega)).trans rfl
    | 36, _ => exact (gs 36 (by omega)).trans rfl
    | 37, _ => exact (gs 37 (by omega)).trans rfl
    | 38, _ => exact (gs 38 (by omega)).trans rfl
    | 39, _ => exact (gs 39 (by omega)).trans rfl
    | 40, _ => exact (gs 40 (by omega)).trans rfl
    | 41, _ => exact (h41).trans rfl
    | 42, _ => exact (h42).trans rfl
    | 43, _ => exact (h43).trans rfl
    | 44, _ => exact (gs 44 (by omega)).trans rfl
    | 45, _ => exact (gs 45 (by omega)).trans rfl
    | 46, _ => exact (gs 46 (by omega)).trans rfl
    | 47, _ => exact (gs 47 (by omega)).trans rfl
    | 48, _ => exact (gs 48 (by omega)).trans rfl
    | 49, _ => exact (gs 49 (by omega)).trans rfl
    | 50, _ => exact (gs 50 (by omega)).trans rfl
    | 51, _ => exact (gs 51 (by omega)).trans rfl
    | 52, _ => exact (gs 52 (by omega)).trans rfl
    | 53, _ => exact (gs 53 (by omega)).trans rfl
    | 54, _ => exact (gs 54 (by omega)).trans rfl
    | 55, _ => exact (gs 55 (by omega)).trans rfl
    | 56, _ => exact (gs 56 (by omega)).trans rfl
    | 57, _ => exact (gs 57 (by omega)).trans rfl
    | 58, _ => exact (gs 58 (by omega)).trans rfl
    | 59, _ => exact (gs 59 (by omega)).trans rfl
    | 60, _ => exact (gs 60 (by omega)).trans rfl
    | 61, _ => exact (gs 61 (by omega)).trans rfl
    | 62, _ => exact (gs 62 (by omega)).trans rfl
    | 63, _ => exact (gs 63 (by omega)).trans rfl
    | q + 64, h => exact absurd h (by omega)
  · rw [Array.getElem?_eq_none (by omega), Array.getElem?_eq_none (by simp; omega)]

/-- The numbers of the followers lie in a row of their own. -/
def NxC (w : World) (S C : Nat) (na : Option Addr) (fs : List Nat) : Prop := ∀ (s j : Nat), fs[s]? = some j → ∃ g, na = some ⟨g, 0, none⟩ ∧ g ≠ S ∧ g ≠ C ∧ g < w.heap.size ∧ w.cell? ⟨g, s, none⟩ = some (.int .i64 (j : Int))
theorem NxC.of_own {w3 : World} {base S C n nc : Nat} {na : Option Addr} {fs : List Nat} (h : OwnI w3 base (.slice na n nc) (natI fs)) (hS : S < base) (hC : C < base) : NxC w3 S C na fs := fun s j hj => by
  have hs := (List.getElem?_eq_some_iff.1 hj).1
  rcases h.2 with ⟨_, h2⟩ | ⟨g, cp, cur, e1, e2, e3, e4⟩
  · rw [natI_len] at h2; omega
  · have hl := h.1
    cases e1
    refine ⟨g, rfl, by omega, by omega, (Array.getElem?_eq_some_iff.1 e3).1, ?_⟩
    have h' : w3.ownsRow base 3 1 (.slice (some ⟨g, 0, none⟩) (natI fs).length nc) (natI fs).length ((natI fs).map (Value.int .i64)) := h
    rw [h'.cellAt s (by rw [natI_len]; omega)]
    simp [natI, hj]
theorem NxC.put {w : World} {S C : Nat} {na : Option Addr} {fs : List Nat} (h : NxC w S C na fs) (j : Nat) (u : Value) : NxC (w.setCell ⟨S, j, none⟩ u) S C na fs := fun s z hz => by
  obtain ⟨g, h1, h2, h3, h4, h5⟩ := h s z hz
  exact ⟨g, h1, h2, h3, by simpa [World.setCell] using h4, (World.cell?_of_block (w := w) (a := ⟨g, s, none⟩) (Below.heap_setCell _ _ _ _ (by simpa using h2))).trans h5⟩
theorem NxC.chan {w : World} {S C : Nat} {na : Option Addr} {fs : List Nat} (h : NxC w S C na fs) (cap : Nat) (buf : Array Value) (s r : Nat) : NxC (w.setChan C cap buf false s r false) S C na fs := fun s' z hz => by
  obtain ⟨g, h1, h2, h3, h4, h5⟩ := h s' z hz
  exact ⟨g, h1, h2, h3, by rw [size_setChan]; exact h4, (ch_cell h3 s').trans h5⟩

set_option maxRecDepth 100000 in
set_option maxHeartbeats 8000000 in
/-- **leastRows.** -/
theorem least_one (m : Cd) (l : List Ins) (la : Option Addr) (n lc : Nat) (f : Nat → Nat) (w : World) (h : NAt w (fun b => b < w.heap.size) l la) (hn : l.length = n) (hok : Okc l) (hf : KnT m f) (hit : ∀ (i : Nat) (x : Ins), l[i]? = some x → InsT m.vars.length m.arrs.length x) :
    Calls Tryd.prog 45 #[.agg (arrV la n lc f)] w (LeastN (secN m.vars) (secN m.arrs) l n w) := by
  obtain ⟨i0, hi, hz0, hz1, hz2⟩ := info_parts Tryd.infoR
  obtain ⟨j0, hj, hj0, hj1, hj2⟩ := info_parts Tryd.infoI
  obtain ⟨W, hW⟩ : ∃ W, w.alloc (.cells (arrV la n lc f) 69) = W := ⟨_, rfl⟩
  have hB : Below w.heap.size w W := by rw [← hW]; exact (Below.refl _ w).alloc (Nat.le_refl _) _
  have hbx : W.heap[w.heap.size]? = some (.cells (arrV la n lc f) 69 (0, 0)) := by rw [← hW]; exact heap_alloc_new w _
  have hz : W.heap.size = w.heap.size + 1 := by rw [← hW]; simp
  have hp := hok.pos
  have hle := hok.le
  rw [hn] at hp hle
  have H : Hid (∀ v, Below W.heap.size W v → v.heap[w.heap.size]? = some (.cells (arrV la n lc f) 69 (0, 0)) ∧ NAt v (fun b => b < v.heap.size) l la ∧ NAt v (fun b => b < w.heap.size) l la) := fun v hv => by
    have hb := hB.trans (hv.mono hB.size)
    exact ⟨(hv.block _ (by omega)).trans hbx, h.below hb, h.wide (fun k hk => hb.block k hk) fun _ hk => hk⟩
  have HN := Lib.hid hn
  have HO := Lib.hid hok
  have HF := Lib.hid hf
  have HIT := Lib.hid hit
  have HW := Lib.hid hW
  have HB := Lib.hid hB
  have HZ : Hid (W.heap.size = w.heap.size + 1) := hz
  have hmul : (n : Int) * 15 = ((15 * n : Nat) : Int) := by omega
  have hmk : ∀ v : World, (Instr.makeChan 107 (.int .i64 ((n : Int) * 15))).run Tryd.prog v = .ok (.chan (some v.heap.size)) (v.alloc (.chan (15 * n) #[] false 0 0 false)) := fun v => by
    rw [hmul]
    exact run_makeChan (P := Tryd.prog) (w := v) Tryd.underlying107 hj .i64 (15 * n) (by omega) (by rw [hj2]; omega)
  have v0 : W.cell? ⟨w.heap.size, 0, none⟩ = some (.slice la n lc) := by rw [cell_at hbx]; rfl
  clear h hn hok hf hit hW hB hz hbx hmul
  unfold arrV at HW
  refine calls_of_cwN Tryd.func45 rfl ?_
  simp only [Tryd.ntmps45, List.size_toArray, List.length_cons, List.length_nil, Nat.reduceAdd, Nat.reduceSub, Array.replicate_succ, Array.replicate_zero, List.push_toArray, List.append_toArray, List.nil_append, List.cons_append]
  refine CwN.seqK (fun K hK => ?_)
  go_wp2_with (first | rw [HW.out] | fail)
  refine CwN.seqK (fun K hK => ?_)
  go_wp2_with (first
    | (at_make
       refine wpList_make_full _ rfl _ _ 72 rfl W.heap.size 75 i0 (.int .u16 0) 1 Tryd.underlying72 hi hz0 hz1 .i64 .i64 (n : Int) (n : Int) n rfl rfl rfl rfl (by rw [hz2]; omega) (by unfold maxLen; omega) (Nat.le_refl _) ?_
       intro w1 hown1 hgrow1
       rw [regs0] at hown1
       have hb1 : Below W.heap.size W w1 := (Below.refl _ W).grown hgrow1 (Nat.le_refl _) (fun k e => (by cases e)))
    | fail)
  have v1 : w1.cell? ⟨w.heap.size, 0, none⟩ = some (.slice la n lc) := by rw [cell_at (H.out w1 hb1).1]; rfl
  obtain ⟨C, hC⟩ : ∃ C, w1.heap.size = C := ⟨_, rfl⟩
  obtain ⟨w2, hw2⟩ : ∃ w2, w1.alloc (.chan (15 * n) #[] false 0 0 false) = w2 := ⟨_, rfl⟩
  have hS1 := (hown1.lt W.heap.size rfl).2
  have HR2 : Hid (RCh W W.heap.size C n (List.replicate n 0) [] w2) := by
    have hbk : w2.heap[C]? = some (.chan (15 * n) #[] false 0 0 false) := by rw [← hw2, ← hC]; exact heap_alloc_new w1 _
    exact ⟨by rw [← hw2]; exact hown1.alloc _, ⟨0, 0, hbk⟩, by rw [← hw2]; exact hb1.alloc (by omega) _, by omega⟩
  have HW2 := Lib.hid hw2
  have HC := Lib.hid hC
  refine CwN.seqK (fun K hK => ?_)
  clear hown1 hgrow1 hi hz0 hz1 hz2 v0 HW
  go_wp2_with (first | rw [HW2.out] | fail)
  clear hmk v1 HW2 hS1 hb1 hw2 hC
  have h0r : (List.replicate n 0)[0]? = some 0 := by rw [List.getElem?_replicate, if_pos (by omega)]
  obtain ⟨c0, f0⟩ := HR2.out.at h0r (by omega)
  have HR3 := Lib.hid (HR2.out.put 0 16384)
  obtain ⟨w3, hw3⟩ : ∃ w3, w2.setCell ⟨W.heap.size, 0, none⟩ (.int .u16 ((16384 : Nat) : Int)) = w3 := ⟨_, rfl⟩
  have hw3' : w2.setCell ⟨W.heap.size, 0, none⟩ (.int .u16 16384) = w3 := hw3
  rw [hw3] at HR3
  have HW3 := Lib.hid hw3'
  clear hw3 hw3' h0r HR2
  refine CwN.seqK (fun K hK => ?_)
  go_wp2_with fail
  rw [HW3.out]
  clear c0 f0 HW3 HC
  have hcb : ∃ s r, w3.heap[C]? = some (.chan (15 * n) #[] false s r false) := HR3.out.ch
  obtain ⟨s1, r1, hcb⟩ := hcb
  have HR4 := Lib.hid (HR3.out.chan (ws' := [0]) (s1 + 1) r1 (buf := (#[] : Array Value).push (.int .i64 0)) rfl)
  refine CwN.seq (CwN.region ?_)
  show OpN _ _ _ [0, 1] _ _
  refine OpN.val (v := .chan (some C)) (w' := w3) rfl rfl (by simp [go_sem, execOp, Act.eval]) ?_
  simp only [Act.put, List.setIfInBounds_toArray]
  refine OpN.send (c := C) (cap := 15 * n) (buf := #[]) (s := s1) (r := r1) (z := .tuple #[]) (v := .int .i64 0) (tm := false) rfl rfl (by simp [go_sem, execOp, scase, Act.eval]) hcb (by simp; omega) ?_
  simp only [Act.put]
  refine OpN.nil ?_
  show CwN _ _ _ _ _
  obtain ⟨w4, hw4⟩ : ∃ w4, w3.setChan C (15 * n) ((#[] : Array Value).push (.int .i64 0)) false (s1 + 1) r1 false = w4 := ⟨_, rfl⟩
  rw [hw4] at HR4 ⊢
  clear hw4 hcb HR3
  refine CwN.block ?_
  have hTL0 := TL.start (sv := secN m.vars) (sa := secN m.arrs) HO.out
  rw [HN.out] at hTL0
  refine CwN.loop (fun a wr N => ∃ (rs ws : List Nat) (kk : Nat), (a.defers = [] ∧ a.tmps.size = 64 ∧ a.tmps[0]? = some (.agg (arrV la n lc f)) ∧ a.tmps[1]? = some (.pointer (some ⟨w.heap.size, 0, none⟩)) ∧ a.tmps[3]? = some (.slice (some ⟨W.heap.size, 0, none⟩) n n) ∧ a.tmps[4]? = some (.chan (some C))) ∧ TL (secN m.vars) (secN m.arrs) l rs ws kk ∧ RCh W W.heap.size C n rs ws wr ∧ N = 15 * n - kk) (15 * n) ⟨_, [0], 0, ⟨rfl, rfl, rfl, rfl, rfl, rfl⟩, hTL0, HR4.out, by omega⟩ ?_
  clear hTL0 HR4
  rintro a wr N ⟨rs, ws, kk, hfr, htl, hrc, rfl⟩
  obtain ⟨u, rfl⟩ := frmA hfr
  clear hfr
  have HTL := Lib.hid htl
  have HRC := Lib.hid hrc
  have hfew := htl.few
  rw [HN.out] at hfew
  clear htl hrc
  refine CwN.block ?_
  refine CwN.seqK (fun K hK => ?_)
  go_wp2_with fail
  refine CwN.seq (CwN.region ?_)
  show OpN _ _ _ [0, 1, 2] _ _
  obtain ⟨s2, r2, hcb⟩ := HRC.out.ch
  cases ws with
  | nil =>
    have hcb0 : wr.heap[C]? = some (.chan (15 * n) #[] false s2 r2 false) := hcb
    have HFIN : Hid (LeastN (secN m.vars) (secN m.arrs) l n w (.returned (.slice (some ⟨W.heap.size, 0, none⟩) n n)) wr) := ⟨rs, W.heap.size, rfl, HTL.out.done, ownsRow_mono HRC.out.row HB.out.size, HB.out.trans (HRC.out.bel.mono HB.out.size)⟩
    clear hcb
    refine OpN.dflt (c := C) (cap := 15 * n) (s := s2) (r := r2) (z := .int .i64 0) (tm := false) (w₁ := wr) rfl rfl (by simp [go_sem, execOp, rcase, Act.eval]) hcb0 ?_
    simp only [Act.put, List.setIfInBounds_toArray]
    refine OpN.val (v := goInt (-1)) (w' := wr) rfl rfl (by simp [go_sem, execOp, Act.eval]) ?_
    simp only [Act.put]
    refine OpN.val (v := .bool false) (w' := wr) rfl rfl (by simp [go_sem, execOp, Act.eval, goInt]) ?_
    simp only [Act.put]
    refine OpN.nil ?_
    show CwN _ _ _ _ _
    refine CwN.block ?_
    refine CwN.cond_f rfl ?_
    refine CwN.seqK (fun K hK => ?_)
    clear hcb0
    go_wp2_with fail
    refine CwN.of_wp (wp_ret ?_)
    show bodyPost _ _ _ .ret _ _
    exact bodyPost_ret (v := .slice (some ⟨W.heap.size, 0, none⟩) n n) (by simp [results, Tryd.f45]) rfl HFIN.out
  | cons p ws =>
    have hex : ((p :: ws).map vI).toArray.extract 1 ((p :: ws).map vI).toArray.size = (ws.map vI).toArray := by
      simp
      exact List.take_of_length_le (by simp)
    have hgd : ((p :: ws).map vI).toArray.getD 0 undef = .int .i64 (p : Int) := rfl
    obtain ⟨x, m0, hx, hm0, hti⟩ := HTL.out.take
    have hpn : p < n := by rw [← HN.out]; exact (List.getElem?_eq_some_iff.1 hx).1
    have HR5 := Lib.hid (HRC.out.chan (ws' := ws) s2 (r2 + 1) rfl)
    refine OpN.recv (c := C) (cap := 15 * n) (buf := ((p :: ws).map vI).toArray) (closed := false) (s := s2) (r := r2) (z := .int .i64 0) (tm := false) (w₁ := wr) rfl rfl (by simp [go_sem, execOp, rcase, Act.eval]) hcb (by simp) ?_
    rw [hex, hgd]
    obtain ⟨w5, hw5⟩ : ∃ w5, wr.setChan C (15 * n) (ws.map vI).toArray false s2 (r2 + 1) false = w5 := ⟨_, rfl⟩
    rw [hw5] at HR5 ⊢
    clear hex hgd hcb hw5 HRC
    simp only [Act.put, List.setIfInBounds_toArray]
    refine OpN.val (v := goInt 0) (w' := w5) rfl rfl (by simp [go_sem, execOp, Act.eval]) ?_
    simp only [Act.put]
    refine OpN.val (v := .bool true) (w' := w5) rfl rfl (by simp [go_sem, execOp, Act.eval, goInt]) ?_
    simp only [Act.put]
    refine OpN.nil ?_
    show CwN _ _ _ _ _
    refine CwN.block ?_
    refine CwN.cond_t rfl ?_
    refine CwN.seqK (fun K hK => ?_)
    go_wp2_with fail
    obtain ⟨bi, oi, rfl, hbil, e0, e1, e2, e3, e4⟩ := (H.out w5 HR5.out.bel).2.2.2 p x hx
    have hbxv := (H.out w5 HR5.out.bel).1
    have HM0 := Lib.hid (HR5.out.at hm0 hpn).1
    have hS5 := HR5.out.lt
    have hSC := HR5.out.sc
    have HSB : Hid (∀ v, Below w5.heap.size w5 v → v.cell? ⟨w.heap.size, 0, none⟩ = some (.slice (some ⟨bi, oi, none⟩) n lc) ∧ v.cell? ⟨w.heap.size, 1, none⟩ = some (.int .i64 (f 0 : Int)) ∧ v.cell? ⟨w.heap.size, 2, none⟩ = some (.int .i64 (f 1 : Int)) ∧ v.cell? ⟨w.heap.size, 3, none⟩ = some (.int .i64 (f 2 : Int)) ∧ v.cell? ⟨w.heap.size, 4, none⟩ = some (.int .i64 (f 3 : Int)) ∧ v.cell? ⟨w.heap.size, 5, none⟩ = some (.int .i64 (f 4 : Int)) ∧ v.cell? ⟨w.heap.size, 6, none⟩ = some (.int .i64 (f 5 : Int)) ∧ v.cell? ⟨w.heap.size, 7, none⟩ = some (.int .i64 (f 6 : Int)) ∧ v.cell? ⟨w.heap.size, 8, none⟩ = some (.int .i64 (f 7 : Int)) ∧ v.cell? ⟨w.heap.size, 9, none⟩ = some (.int .i64 (f 8 : Int)) ∧ v.cell? ⟨w.heap.size, 10, none⟩ = some (.int .i64 (f 9 : Int)) ∧ v.cell? ⟨w.heap.size, 11, none⟩ = some (.int .i64 (f 10 : Int)) ∧ v.cell? ⟨w.heap.size, 12, none⟩ = some (.int .i64 (f 11 : Int)) ∧ v.cell? ⟨w.heap.size, 13, none⟩ = some (.int .i64 (f 12 : Int)) ∧ v.cell? ⟨w.heap.size, 14, none⟩ = some (.int .i64 (f 13 : Int)) ∧ v.cell? ⟨bi, oi + p * 5, none⟩ = some (.int .i64 x.op) ∧ v.cell? ⟨bi, oi + p * 5 + 1, none⟩ = some (.int .i64 x.fa) ∧ v.cell? ⟨bi, oi + p * 5 + 2, none⟩ = some (.int .i64 x.fb) ∧ v.cell? ⟨bi, oi + p * 5 + 3, none⟩ = some (.int .i64 x.fc) ∧ v.cell? ⟨bi, oi + p * 5 + 4, none⟩ = some (.int .i64 x.fd) ∧ v.cell? ⟨W.heap.size, p, none⟩ = some (.int .u16 (m0 : Int))) := fun v hv => by
      have hb := HR5.out.bel.trans (hv.mono (by omega))
      have hvx := (H.out v hb).1
      have hz := HZ.out
      have hw5 : w.heap.size < w5.heap.size := by omega
      exact ⟨(by rw [cell_at hvx]; rfl), (by rw [cell_at hvx]; rfl), (by rw [cell_at hvx]; rfl), (by rw [cell_at hvx]; rfl), (by rw [cell_at hvx]; rfl), (by rw [cell_at hvx]; rfl), (by rw [cell_at hvx]; rfl), (by rw [cell_at hvx]; rfl), (by rw [cell_at hvx]; rfl), (by rw [cell_at hvx]; rfl), (by rw [cell_at hvx]; rfl), (by rw [cell_at hvx]; rfl), (by rw [cell_at hvx]; rfl), (by rw [cell_at hvx]; rfl), (by rw [cell_at hvx]; rfl), (hv.cell (p := ⟨bi, _, none⟩) (by show bi < _; omega)).trans e0, (hv.cell (p := ⟨bi, _, none⟩) (by show bi < _; omega)).trans e1, (hv.cell (p := ⟨bi, _, none⟩) (by show bi < _; omega)).trans e2, (hv.cell (p := ⟨bi, _, none⟩) (by show bi < _; omega)).trans e3, (hv.cell (p := ⟨bi, _, none⟩) (by show bi < _; omega)).trans e4, (hv.cell (p := ⟨W.heap.size, p, none⟩) (by show W.heap.size < _; omega)).trans HM0.out⟩
    have HAFT := Lib.hid (after_one m (some ⟨bi, oi, none⟩) n lc f x m0 w5.drew HF.out (HIT.out p x hx) hti.g0.1)
    have HTI := Lib.hid hti
    have HX := Lib.hid hx
    have HIX := Lib.hid (HIT.out p x hx)
    have hfew2 := hti.few
    rw [HN.out] at hfew2
    obtain ⟨af, haf⟩ : ∃ af, aftM (secN m.vars) (secN m.arrs) x m0 = af := ⟨_, rfl⟩
    have HAF := Lib.hid haf
    have HAFL : Hid (af < 32768) := by show _ < _; rw [← haf]; exact aftM_lt HIX.out hti.g0.1
    rw [haf] at HAFT
    clear haf hti hx hm0 e0 e1 e2 e3 e4 hbil hbxv HM0 HTL hfew
    refine CwN.seqK (fun K hK => ?_)
    refine wp_region_held_drew (S := fun v => v.cell? ⟨w.heap.size, 0, none⟩ = some (.slice (some ⟨bi, oi, none⟩) n lc) ∧ v.cell? ⟨w.heap.size, 1, none⟩ = some (.int .i64 (f 0 : Int)) ∧ v.cell? ⟨w.heap.size, 2, none⟩ = some (.int .i64 (f 1 : Int)) ∧ v.cell? ⟨w.heap.size, 3, none⟩ = some (.int .i64 (f 2 : Int)) ∧ v.cell? ⟨w.heap.size, 4, none⟩ = some (.int .i64 (f 3 : Int)) ∧ v.cell? ⟨w.heap.size, 5, none⟩ = some (.int .i64 (f 4 : Int)) ∧ v.cell? ⟨w.heap.size, 6, none⟩ = some (.int .i64 (f 5 : Int)) ∧ v.cell? ⟨w.heap.size, 7, none⟩ = some (.int .i64 (f 6 : Int)) ∧ v.cell? ⟨w.heap.size, 8, none⟩ = some (.int .i64 (f 7 : Int)) ∧ v.cell? ⟨w.heap.size, 9, none⟩ = some (.int .i64 (f 8 : Int)) ∧ v.cell? ⟨w.heap.size, 10, none⟩ = some (.int .i64 (f 9 : Int)) ∧ v.cell? ⟨w.heap.size, 11, none⟩ = some (.int .i64 (f 10 : Int)) ∧ v.cell? ⟨w.heap.size, 12, none⟩ = some (.int .i64 (f 11 : Int)) ∧ v.cell? ⟨w.heap.size, 13, none⟩ = some (.int .i64 (f 12 : Int)) ∧ v.cell? ⟨w.heap.size, 14, none⟩ = some (.int .i64 (f 13 : Int)) ∧ v.cell? ⟨bi, oi + p * 5, none⟩ = some (.int .i64 x.op) ∧ v.cell? ⟨bi, oi + p * 5 + 1, none⟩ = some (.int .i64 x.fa) ∧ v.cell? ⟨bi, oi + p * 5 + 2, none⟩ = some (.int .i64 x.fb) ∧ v.cell? ⟨bi, oi + p * 5 + 3, none⟩ = some (.int .i64 x.fc) ∧ v.cell? ⟨bi, oi + p * 5 + 4, none⟩ = some (.int .i64 x.fd) ∧ v.cell? ⟨W.heap.size, p, none⟩ = some (.int .u16 (m0 : Int))) (by kernel_rfl) (HSB.out w5 (Below.refl _ _)) (fun hHeld => ?_)
    refine wpAnyH_take (i := 0) (oi := ⟨some 27, _, _, _, _, _⟩) (v := ?_) rfl (by kernel_rfl) (by kernel_rfl) (by kernel_rfl) (fun _ _ _ h => h) (Or.inl ⟨by rfl, ?_⟩) (by assumption) ?_
    rotate_left
    · intro w hSw; (try dsimp only at hSw); go_simp; (try with_reducible rfl)
    simp only [Act.put, List.setIfInBounds_toArray, List.set_cons_zero, List.set_cons_succ]
    refine wpAnyH_take (i := 1) (oi := ⟨some 28, _, _, _, _, _⟩) (v := ?_) rfl (by kernel_rfl) (by kernel_rfl) (by kernel_rfl) (fun _ _ _ h => h) (Or.inl ⟨by rfl, ?_⟩) (by assumption) ?_
    rotate_left
    · intro w hSw; (try dsimp only at hSw); go_simp; (try with_reducible rfl)
    simp only [Act.put, List.setIfInBounds_toArray, List.set_cons_zero, List.set_cons_succ]
    refine wpAnyH_take (i := 2) (oi := ⟨some 29, _, _, _, _, _⟩) (v := ?_) rfl (by kernel_rfl) (by kernel_rfl) (by kernel_rfl) (fun _ _ _ h => h) (Or.inl ⟨by rfl, ?_⟩) (by assumption) ?_
    rotate_left
    · intro w hSw; (try dsimp only at hSw); go_simp; (try with_reducible rfl)
    simp only [Act.put, List.setIfInBounds_toArray, List.set_cons_zero, List.set_cons_succ]
    refine wpAnyH_take (i := 3) (oi := ⟨some 30, _, _, _, _, _⟩) (v := ?_) rfl (by kernel_rfl) (by kernel_rfl) (by kernel_rfl) (fun _ _ _ h => h) (Or.inl ⟨by rfl, ?_⟩) (by assumption) ?_
    rotate_left
    · intro w hSw; (try dsimp only at hSw); go_simp; (try with_reducible rfl)
    simp only [Act.put, List.setIfInBounds_toArray, List.set_cons_zero, List.set_cons_succ]
    refine wpAnyH_take (i := 4) (oi := ⟨some 31, _, _, _, _, _⟩) (v := ?_) rfl (by kernel_rfl) (by kernel_rfl) (by kernel_rfl) (fun _ _ _ h => h) (Or.inl ⟨by rfl, ?_⟩) (by assumption) ?_
    rotate_left
    · intro w hSw; (try dsimp only at hSw); go_simp; (try with_reducible rfl)
    simp only [Act.put, List.setIfInBounds_toArray, List.set_cons_zero, List.set_cons_succ]
    refine wpAnyH_take (i := 5) (oi := ⟨some 32, _, _, _, _, _⟩) (v := ?_) rfl (by kernel_rfl) (by kernel_rfl) (by kernel_rfl) (fun _ _ _ h => h) (Or.inl ⟨by rfl, ?_⟩) (by assumption) ?_
    rotate_left
    · intro w hSw; (try dsimp only at hSw); go_simp; (try with_reducible rfl)
    simp only [Act.put, List.setIfInBounds_toArray, List.set_cons_zero, List.set_cons_succ]
    refine wpAnyH_take (i := 6) (oi := ⟨some 33, _, _, _, _, _⟩) (v := ?_) rfl (by kernel_rfl) (by kernel_rfl) (by kernel_rfl) (fun _ _ _ h => h) (Or.inl ⟨by rfl, ?_⟩) (by assumption) ?_
    rotate_left
    · intro w hSw; (try dsimp only at hSw); go_simp; (try with_reducible rfl)
    simp only [Act.put, List.setIfInBounds_toArray, List.set_cons_zero, List.set_cons_succ]
    refine wpAnyH_take (i := 7) (oi := ⟨some 34, _, _, _, _, _⟩) (v := ?_) rfl (by kernel_rfl) (by kernel_rfl) (by kernel_rfl) (fun _ _ _ h => h) (Or.inl ⟨by rfl, ?_⟩) (by assumption) ?_
    rotate_left
    · intro w hSw; (try dsimp only at hSw); go_simp; (try with_reducible rfl)
    simp only [Act.put, List.setIfInBounds_toArray, List.set_cons_zero, List.set_cons_succ]
    refine wpAnyH_take (i := 8) (oi := ⟨some 35, _, _, _, _, _⟩) (v := ?_) rfl (by kernel_rfl) (by kernel_rfl) (by kernel_rfl) (fun _ _ _ h => h) (Or.inl ⟨by rfl, ?_⟩) (by assumption) ?_
    rotate_left
    · intro w hSw; (try dsimp only at hSw); go_simp; (try with_reducible rfl)
    simp only [Act.put, List.setIfInBounds_toArray, List.set_cons_zero, List.set_cons_succ]
    refine wpAnyH_take (i := 9) (oi := ⟨some 36, _, _, _, _, _⟩) (v := ?_) rfl (by kernel_rfl) (by kernel_rfl) (by kernel_rfl) (fun _ _ _ h => h) (Or.inl ⟨by rfl, ?_⟩) (by assumption) ?_
    rotate_left
    · intro w hSw; (try dsimp only at hSw); go_simp; (try with_reducible rfl)
    simp only [Act.put, List.setIfInBounds_toArray, List.set_cons_zero, List.set_cons_succ]
    refine wpAnyH_ready (rs := [10]) (by kernel_rfl) (by simp) ?_
    refine AllReadyH.cons (o := ⟨some 37, _, _, _, _, _⟩) rfl (fun K2 hK2 => ?_) AllReadyH.nil
    go_simp
    refine (HAFT.out).mono ?_
    rintro e w6 ⟨rfl, hb6⟩
    have HB3 : Below w5.heap.size w5 w6 := (Below.refl _ w5).drew.trans hb6
    have hS3 := HSB.out w6 HB3
    go_wp2_with fail
    refine hK2.out _ _ hS3 (fun hHeld => ?_)
    clear hK2 K2 hb6
    try simp only [Act.put, List.setIfInBounds_toArray, List.set_cons_zero, List.set_cons_succ]
    refine wpAnyH_take (i := 11) (oi := ⟨some 6, _, _, _, _, _⟩) (v := ?_) rfl (by kernel_rfl) (by kernel_rfl) (by kernel_rfl) (fun _ _ _ h => h) (Or.inl ⟨by rfl, ?_⟩) (by assumption) ?_
    rotate_left
    · intro w hSw; (try dsimp only at hSw); go_simp; (try with_reducible rfl)
    simp only [Act.put, List.setIfInBounds_toArray, List.set_cons_zero, List.set_cons_succ]
    refine wpAnyH_done (by kernel_rfl) ?_ _
    go_wp2_with fail
    have HBL3 : Below w5.heap.size w5 w6 := HB3
    have HR6 := Lib.hid (HR5.out.later HBL3)
    have q0 := (HSB.out w6 HBL3).1
    have HFOL : Hid (Calls Tryd.prog 78 #[.slice (some ⟨bi, oi, none⟩) n lc, .int .i64 (p : Int)] w6 (IntsNew (natI (folN x p)) w6)) := fol_one l (some ⟨bi, oi, none⟩) n lc p x w6 (H.out w6 HR6.out.bel).2.1 HN.out HO.out HX.out
    clear HB3 HBL3 hS3 HSB HAFT HR5
    refine CwN.seqK (fun K hK => ?_)
    go_wp2_with fail
    refine HFOL.out.mono ?_
    rintro e w7 ⟨na, nc, rfl, hon, hb7⟩
    have HR7 := Lib.hid (HR6.out.later hb7)
    have hlS6 := HR6.out.lt
    have HNX7 : Hid (NxC w7 W.heap.size C na (folN x p)) := NxC.of_own hon (by omega) hlS6
    obtain ⟨nl, hnl⟩ : ∃ nl, (natI (folN x p)).length = nl := ⟨_, rfl⟩
    have HNL : Hid ((folN x p).length = nl) := by show _ = _; rw [← hnl, natI_len]
    have hnl2 : nl ≤ 2 := by rw [← hnl, natI_len]; exact folN_len x p
    rw [hnl]
    clear hon hb7 hnl HR6 q0 HFOL hlS6
    go_wp2_with fail
    refine CwN.block ?_
    refine CwN.loop (fun a wr N => ∃ (rs ws : List Nat) (s : Nat), (a.defers = [] ∧ a.tmps.size = 64 ∧ a.tmps[0]? = some (.agg (arrV (some ⟨bi, oi, none⟩) n lc f)) ∧ a.tmps[1]? = some (.pointer (some ⟨w.heap.size, 0, none⟩)) ∧ a.tmps[3]? = some (.slice (some ⟨W.heap.size, 0, none⟩) n n) ∧ a.tmps[4]? = some (.chan (some C)) ∧ a.tmps[5]? = some (.int .i64 (p : Int)) ∧ a.tmps[6]? = some (.int .u16 (af : Int)) ∧ a.tmps[41]? = some (.slice na nl nc) ∧ a.tmps[42]? = some (.int .i64 (nl : Int)) ∧ a.tmps[43]? = some (.int .i64 (s : Int))) ∧ TI (secN m.vars) (secN m.arrs) l rs ws kk p m0 x (dnF (folN x p) s) ∧ RCh W W.heap.size C n rs ws wr ∧ NxC wr W.heap.size C na (folN x p) ∧ s ≤ nl ∧ N = nl - s) nl ⟨rs, ws, 0, ⟨rfl, rfl, rfl, rfl, rfl, rfl, rfl, rfl, rfl, rfl, rfl⟩, HTI.out, HR7.out, HNX7.out, Nat.zero_le _, rfl⟩ ?_
    clear HTI HR7 HNX7
    clear u
    rintro a wi N ⟨rs, ws, s, hfr, hti, hrc, hnx, hsl, rfl⟩
    obtain ⟨u, rfl⟩ := frmB hfr
    clear hfr
    have HTI := Lib.hid hti
    have HRC := Lib.hid hrc
    have HNX := Lib.hid hnx
    have hfew3 := hti.few
    rw [HN.out] at hfew3
    clear hti hrc hnx
    by_cases hlt : s < nl
    · obtain ⟨j, hj'⟩ : ∃ j, (folN x p)[s]? = some j := ⟨(folN x p)[s]'(by rw [HNL.out]; exact hlt), List.getElem?_eq_getElem _⟩
      have hjf : j ∈ folN x p := List.mem_of_getElem? hj'
      have hjn : j < n := by rw [← HN.out]; exact HO.out.fol HX.out hjf
      obtain ⟨gn, rfl, hg1, hg2, hg3, hgc⟩ := HNX.out s j hj'
      obtain ⟨mj, hmj⟩ : ∃ mj, rs[j]? = some mj := ⟨rs[j]'(by rw [HTI.out.tb.len, HN.out]; exact hjn), List.getElem?_eq_getElem _⟩
      obtain ⟨cj, fj⟩ := HRC.out.at hmj hjn
      have hml := (HTI.out.tb.gm j mj hmj).1
      have HML := Lib.hid hml
      have hor : bits .or .u16 (mj : Int) (af : Int) = ((mj ||| af : Nat) : Int) := u16_or_nat mj af (by omega) (by have := HAFL.out; omega)
      have HJ := Lib.hid hj'
      have HJF := Lib.hid hjf
      have HMJ := Lib.hid hmj
      have HG1 : Hid (gn ≠ W.heap.size) := hg1
      have HG2 : Hid (gn ≠ C) := hg2
      clear hj' hjf hmj hml hg1 hg2
      refine CwN.seqK (fun K hK => ?_)
      go_wp2_with fail
      refine CwN.seq (CwN.cond_t rfl (CwN.of_wp (wp_skip ?_)))
      show CwN _ _ _ _ _
      refine CwN.seq (CwN.block ?_)
      refine CwN.seqK (fun K hK => ?_)
      go_wp2_with fail
      by_cases hs : Sub af mj
      · have hgr := grow_no HML.out HAFL.out hs
        have HTI2 : Hid (TI (secN m.vars) (secN m.arrs) l rs ws kk p m0 x (dnF (folN x p) (s + 1))) := by
          have h := HTI.out.skip HMJ.out (by rw [HAF.out]; exact hs)
          rw [← dnF_succ HJ.out] at h
          exact h
        clear hs hor fj HTI
        refine CwN.seqK (fun K hK => ?_)
        go_wp2_with fail
        clear hgr cj hgc
        refine CwN.cond_f rfl (CwN.of_wp (wp_skip ?_))
        show CwN _ _ _ _ _
        refine CwN.of_wp ?_
        go_wp2_with fail
        refine ⟨nl - (s + 1), ⟨rs, ws, s + 1, (by first | exact ⟨rfl, rfl, rfl, rfl, rfl, rfl, rfl, rfl, rfl, rfl, rfl⟩ | simp), HTI2.out, HRC.out, HNX.out, by omega, by first | rfl | trivial⟩, by omega⟩
      · have hgr := grow_yes HML.out HAFL.out hs
        have HTI2 : Hid (TI (secN m.vars) (secN m.arrs) l (rs.set j (mj ||| af)) (ws ++ [j]) kk p m0 x (dnF (folN x p) (s + 1))) := by
          have h := HTI.out.grow HIX.out HJF.out HMJ.out (by rw [HAF.out]; exact hs)
          rw [← dnF_succ HJ.out, HAF.out] at h
          exact h
        have HR8 := Lib.hid (HRC.out.put j (mj ||| af))
        have HNX8 := Lib.hid (HNX.out.put j (.int .u16 ((mj ||| af : Nat) : Int)))
        obtain ⟨w8, hw8⟩ : ∃ w8, wi.setCell ⟨W.heap.size, j, none⟩ (.int .u16 ((mj ||| af : Nat) : Int)) = w8 := ⟨_, rfl⟩
        rw [hw8] at HR8 HNX8
        have HW8 := Lib.hid hw8
        clear hs HTI hw8
        refine CwN.seqK (fun K hK => ?_)
        go_wp2_with fail
        refine CwN.cond_t rfl ?_
        refine CwN.seqK (fun K hK => ?_)
        clear hgr
        go_wp2_with fail
        rw [HW8.out]
        clear cj fj hgc hor HRC HNX HW8
        obtain ⟨s8, r8, hc8⟩ := HR8.out.ch
        have HR9 := Lib.hid (HR8.out.chan (ws' := ws ++ [j]) (s8 + 1) r8 (buf := (ws.map vI).toArray.push (vI j)) (by simp))
        have HNX9 := Lib.hid (HNX8.out.chan (15 * n) ((ws.map vI).toArray.push (vI j)) (s8 + 1) r8)
        refine CwN.region ?_
        show OpN _ _ _ [0, 1, 2] _ _
        refine OpN.val (v := .chan (some C)) (w' := w8) rfl rfl (by simp [go_sem, execOp, Act.eval]) ?_
        simp only [Act.put, List.setIfInBounds_toArray]
        refine OpN.val (v := .int .i64 (j : Int)) (w' := w8) rfl rfl (by simp [go_sem, execOp, Act.eval]) ?_
        simp only [Act.put]
        refine OpN.send (c := C) (cap := 15 * n) (buf := (ws.map vI).toArray) (s := s8) (r := r8) (z := .tuple #[]) (v := .int .i64 (j : Int)) (tm := false) rfl rfl (by simp [go_sem, execOp, scase, Act.eval]) hc8 (by simp; omega) ?_
        simp only [Act.put]
        refine OpN.nil ?_
        show CwN _ _ _ _ _
        obtain ⟨w9, hw9⟩ : ∃ w9, w8.setChan C (15 * n) ((ws.map vI).toArray.push (vI j)) false (s8 + 1) r8 false = w9 := ⟨_, rfl⟩
        show CwN _ _ _ _ (w8.setChan C (15 * n) ((ws.map vI).toArray.push (vI j)) false (s8 + 1) r8 false)
        rw [hw9] at HR9 HNX9 ⊢
        clear hw9 hc8 HR8 HNX8
        refine CwN.of_wp ?_
        go_wp2_with fail
        refine ⟨nl - (s + 1), ⟨_, _, s + 1, (by first | exact ⟨rfl, rfl, rfl, rfl, rfl, rfl, rfl, rfl, rfl, rfl, rfl⟩ | simp), HTI2.out, HR9.out, HNX9.out, by omega, by first | rfl | trivial⟩, by omega⟩
    · obtain rfl : s = nl := by omega
      have HTL2 : Hid (TL (secN m.vars) (secN m.arrs) l rs ws (kk + 1)) := HTI.out.done fun j hjf => by
        unfold dnF
        rw [← HNL.out, List.take_length]
        exact hjf
      refine CwN.seqK (fun K hK => ?_)
      go_wp2_with fail
      refine CwN.seq (CwN.cond_f rfl (CwN.of_wp (wp_exit ?_)))
      refine then_exit (then_exit (inBlock_exit ?_))
      show ∃ N', _ ∧ _
      exact ⟨15 * n - (kk + 1), ⟨rs, ws, kk + 1, ⟨rfl, rfl, rfl, rfl, rfl, rfl⟩, HTL2.out, HRC.out, rfl⟩, by omega⟩

end Go.Proofs.YtjgmhncfijegmaaDoor

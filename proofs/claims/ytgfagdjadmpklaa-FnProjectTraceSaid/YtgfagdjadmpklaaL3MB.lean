/- The state of the second loop of a memory's draw: a row of slices of the call's own, each of four ints in a block of its own. -/
import Derived.Test.YtgfagdjadmpklaaL3D
import Derived.Test.YtgfagdjadmpklaaRmB
import Derived.Test.YtgfagdjadmpklaaSlB
import Derived.Deep.AppendLies
import Derived.Laws.Rows
namespace Go.Proofs.Ytgfagdjadmpklaa
open Go.RowKit
set_option linter.unusedVariables false

theorem Try.infoSl : (Try.prog.info? 23).map (fun i => (i.zero, i.size, i.bytes)) = some (some (.slice none 0 0), 1, 24) := by kernel_rfl

theorem RI.wide {u : World} {lo hi lo' hi' : Nat} {a : Option Addr} {n : Nat} (h : RI u lo hi a n) (h1 : lo' ≤ lo) (h2 : hi ≤ hi') : RI u lo' hi' a n := fun k hk => by
  obtain ⟨b, o, z, e1, e2, e3, r⟩ := h k hk
  exact ⟨b, o, z, e1, by omega, by omega, r⟩
theorem RM.wide {u : World} {lo hi lo' hi' nv na : Nat} {va aa : Option Addr} (h : RM u lo hi nv na va aa) (h1 : lo' ≤ lo) (h2 : hi ≤ hi') : RM u lo' hi' nv na va aa :=
  ⟨h.vals.wide h1 h2, fun i hi' => by
    obtain ⟨b, o, a, c, e1, e2, e3, e4, e5, e6, e7⟩ := h.arrs i hi'
    exact ⟨b, o, a, c, e1, by omega, by omega, e4, e5, e6, e7.wide h1 h2⟩⟩

/-- An array of a memory: four ints in a block that is not the row's own. -/
def ArE (u : World) (Z : Nat) (t : Value) (q : Option Addr × Nat) : Prop := 4 ≤ q.2 ∧ q.2 ≤ maxLen ∧ ∃ b, q.1 = some ⟨b, 0, none⟩ ∧ Z ≤ b ∧ b < u.heap.size ∧ t.ownBlock ≠ some b ∧ ∀ k, k < 4 → ∃ z, u.cell? ⟨b, k, none⟩ = some (.int .i64 z) ∧ 0 ≤ z ∧ z ≤ 255 ∧ u.frozen? ⟨b, k, none⟩ = false

theorem ArE.keep {u u' : World} {Z : Nat} {t t' : Value} {q : Option Addr × Nat} (h : ArE u Z t q) (hz : u.heap.size ≤ u'.heap.size) (hs : ∀ j, Z ≤ j → j < u.heap.size → t.ownBlock ≠ some j → u'.heap[j]? = u.heap[j]?) (ht : t'.ownBlock = t.ownBlock ∨ ∃ g, t'.ownBlock = some g ∧ u.heap.size ≤ g) : ArE u' Z t' q := by
  obtain ⟨h1, h2, b, e, h3, h4, h5, h6⟩ := h
  have hb := hs b h3 h4 h5
  refine ⟨h1, h2, b, e, h3, by omega, ?_, fun k hk => ?_⟩
  · rcases ht with e1 | ⟨g, e1, hg⟩
    · rw [e1]; exact h5
    · rw [e1]; intro x; cases x; omega
  · obtain ⟨z, c1, c2, c3, c4⟩ := h6 k hk
    exact ⟨z, (World.cell?_of_block (w := u) hb).trans c1, c2, c3, (frozen_stand hb).trans c4⟩

theorem ArE.of_own {u : World} {base Z : Nat} {t : Value} {a : Option Addr} {c : Nat} {xs : List Int} (h : OwnI u base (.slice a 4 c) xs) (hx : xs.length = 4) (hv : ∀ x ∈ xs, 0 ≤ x ∧ x ≤ 255) (hZ : Z ≤ base) (ht : ∀ g, t.ownBlock = some g → g < base) : ArE u Z t (a, c) := by
  rcases h.2 with ⟨h1, h2⟩ | ⟨g, cap, cur, h1, h2, h3, h4, h5, _⟩
  · omega
  · injection h1 with e1 e2 e3
    subst e1 e3
    have h' : u.ownsRow base 3 1 (.slice (some ⟨g, 0, none⟩) 4 c) 4 (xs.map (Value.int .i64)) := by
      have := h
      unfold OwnI at this
      rw [hx] at this
      exact this
    refine ⟨by show 4 ≤ c; omega, h5, g, rfl, by omega, (Array.getElem?_eq_some_iff.1 h3).1, fun e => by have := ht g e; omega, fun k hk => ?_⟩
    obtain ⟨z, hz⟩ : ∃ z, xs[k]? = some z := ⟨xs[k]'(by omega), List.getElem?_eq_getElem _⟩
    refine ⟨z, ?_, (hv z (List.mem_of_getElem? hz)).1, (hv z (List.mem_of_getElem? hz)).2, frozen_of_row _ _ k _ _ h3⟩
    rw [World.ownsRow.cellAt h' k (by omega), List.getElem?_map, hz]; rfl

/-- The arrays so far: a row of the call's own from block Z on; the memory's box at X. -/
structure ArS (Z X : Nat) (vv : Value) (qs : List (Option Addr × Nat)) (aa : Option Addr) (j ac : Nat) (u : World) : Prop where
  len : qs.length = j
  own : u.ownsRow Z 23 1 (.slice aa j ac) j (qs.map fun q => .slice q.1 4 q.2)
  els : ∀ q ∈ qs, ArE u Z (.slice aa j ac) q
  bx : u.heap[X]? = some (.cells #[vv, .slice aa j ac] 26 (0, 0))

theorem ArS.nil {Z X : Nat} {vv : Value} {u : World} (h : u.heap[X]? = some (.cells #[vv, .slice none 0 0] 26 (0, 0))) : ArS Z X vv [] none 0 0 u := ⟨rfl, World.ownsRow_nil _ _ _ _, by simp, h⟩

theorem ArS.lt {Z X : Nat} {vv : Value} {qs : List (Option Addr × Nat)} {aa : Option Addr} {j ac : Nat} {u : World} (h : ArS Z X vv qs aa j ac u) : ∀ g, (Value.slice aa j ac).ownBlock = some g → Z ≤ g ∧ g < u.heap.size := fun g hg => h.own.lt g hg

/-- What stands from Z on, and the box, stands. -/
theorem ArS.stand {Z X : Nat} {vv : Value} {qs : List (Option Addr × Nat)} {aa : Option Addr} {j ac : Nat} {u u' : World} (h : ArS Z X vv qs aa j ac u) (hz : u.heap.size ≤ u'.heap.size) (hs : ∀ q, Z ≤ q → q < u.heap.size → u'.heap[q]? = u.heap[q]?) (hX : u'.heap[X]? = u.heap[X]?) : ArS Z X vv qs aa j ac u' := by
  refine ⟨h.len, ⟨h.own.1, ?_⟩, fun q hq => (h.els q hq).keep hz (fun j h1 h2 _ => hs j h1 h2) (.inl rfl), hX.trans h.bx⟩
  rcases h.own.2 with e | ⟨g, cp, cur, e1, e2, e3, e4⟩
  · exact .inl e
  · exact .inr ⟨g, cp, cur, e1, e2, (hs g e2 (Array.getElem?_eq_some_iff.1 e3).1).trans e3, e4⟩

/-- An array is appended. -/
theorem ArS.snoc {Z X : Nat} {vv : Value} {qs : List (Option Addr × Nat)} {aa a : Option Addr} {j ac c g cap : Nat} {u w5 : World} (h : ArS Z X vv qs aa j ac u) (hx : ArE u Z (.slice aa j ac) (a, c))
    (hown : w5.ownsRow Z 23 1 (.slice (some ⟨g, 0, none⟩) (j + 1) cap) (j + 1) ((qs.map fun q => .slice q.1 4 q.2) ++ [.slice a 4 c]))
    (hgrow : u.grownBy w5 (Value.slice aa j ac).ownBlock) (hat : (Value.slice aa j ac).ownBlock = some g ∨ u.heap.size ≤ g)
    (hX : X < Z) (hXu : X < u.heap.size) : ArS Z X vv (qs ++ [(a, c)]) (some ⟨g, 0, none⟩) (j + 1) cap (w5.setCell ⟨X, 1, none⟩ (.slice (some ⟨g, 0, none⟩) (j + 1) cap)) := by
  obtain ⟨w6, h6⟩ : ∃ w6, w5.setCell ⟨X, 1, none⟩ (.slice (some ⟨g, 0, none⟩) (j + 1) cap) = w6 := ⟨_, rfl⟩
  have hs6 : ∀ q, q ≠ X → w6.heap[q]? = w5.heap[q]? := fun q hq => by rw [← h6]; exact Below.heap_setCell _ _ _ _ (by simpa using hq)
  have hz6 : w6.heap.size = w5.heap.size := by rw [← h6]; simp
  have hsz := hgrow.size
  have hEl : ∀ q, ArE u Z (.slice aa j ac) q → ArE w6 Z (.slice (some ⟨g, 0, none⟩) (j + 1) cap) q := fun q hq =>
    hq.keep (by omega) (fun i h1 h2 h3 => (hs6 i (by omega)).trans (hgrow.block i h2 (fun e => h3 e.symm))) (by
      rcases hat with e | e
      · exact .inl (by rw [e]; rfl)
      · exact .inr ⟨g, rfl, e⟩)
  have hbx : w5.heap[X]? = some (.cells #[vv, .slice aa j ac] 26 (0, 0)) := (hgrow.block X hXu (fun e => by have := (h.lt X e.symm).1; omega)).trans h.bx
  rw [h6]
  refine ⟨by simp [h.len], ?_, ?_, ?_⟩
  · rw [List.map_append]
    refine ⟨hown.1, ?_⟩
    rcases hown.2 with e | ⟨g', cp, cur, e1, e2, e3, e4⟩
    · exact .inl e
    · exact .inr ⟨g', cp, cur, e1, e2, (hs6 g' (by omega)).trans e3, e4⟩
  · intro q hq
    rcases List.mem_append.1 hq with e | e
    · exact hEl q (h.els q e)
    · rw [List.mem_singleton] at e; subst e; exact hEl _ hx
  · rw [← h6, blk_set hbx]; rfl

/-- The memory, at the end. -/
theorem ArS.fin {Z X L : Nat} {vv : Value} {qs : List (Option Addr × Nat)} {aa : Option Addr} {j ac nv vc : Nat} {u : World} {va : Option Addr} {xs : List Int} (h : ArS Z X vv qs aa j ac u)
    (hv : OwnI u L (.slice va nv vc) xs) (hvn : xs.length = nv) (hvv : ∀ x ∈ xs, 0 ≤ x ∧ x ≤ 255) (hLZ : L ≤ Z) : RM u L u.heap.size nv j va aa := by
  have hl := h.len
  have hown := h.own
  subst hvn
  refine ⟨fun k hk => ?_, fun i hi => ?_⟩
  · rcases hv.2 with ⟨h1, h2⟩ | ⟨g, cap, cur, h1, h2, h3, h4, h5, _⟩
    · omega
    · cases h1
      obtain ⟨z, hz⟩ : ∃ z, xs[k]? = some z := ⟨xs[k]'(by omega), List.getElem?_eq_getElem _⟩
      refine ⟨g, 0, z, rfl, h2, (Array.getElem?_eq_some_iff.1 h3).1, ?_, (hvv z (List.mem_of_getElem? hz)).1, (hvv z (List.mem_of_getElem? hz)).2, frozen_of_row _ _ _ _ _ h3⟩
      rw [Nat.zero_add, World.ownsRow.cellAt hv k (by omega), List.getElem?_map, hz]; rfl
  · rcases hown.2 with ⟨h1, h2⟩ | ⟨g, cap, cur, h1, h2, h3, h4, h5, _⟩
    · omega
    · cases h1
      obtain ⟨q, hq⟩ : ∃ q, qs[i]? = some q := ⟨qs[i]'(by omega), List.getElem?_eq_getElem _⟩
      obtain ⟨a1, a2, b, e, b1, b2, b3, b4⟩ := h.els q (List.mem_of_getElem? hq)
      refine ⟨g, 0, q.1, q.2, rfl, by omega, (Array.getElem?_eq_some_iff.1 h3).1, ?_, a1, a2, fun k hk => ?_⟩
      · rw [Nat.zero_add, hown.cellAt i (by omega), List.getElem?_map, hq]; rfl
      · obtain ⟨z, c1, c2, c3, c4⟩ := b4 k hk
        exact ⟨b, 0, z, e, by omega, b2, by rw [Nat.zero_add]; exact c1, c2, c3, by rw [Nat.zero_add]; exact c4⟩

/-- The memory that was drawn so far. -/
def L3M2 (B m na X : Nat) (vv : Value) (V : World) (i : Value) (wr : World) : Prop := ∃ (qs : List (Option Addr × Nat)) (aa : Option Addr) (j ac : Nat),
  i = .int .i64 (j : Int) ∧ j ≤ na ∧ ArS V.heap.size X vv qs aa j ac wr ∧ RdU wr B (m + 4 * j) ∧ Below B V wr ∧ (∀ q, q < V.heap.size → q ≠ B → q ≠ X → wr.heap[q]? = V.heap[q]?)

/-- The array that was drawn so far. -/
def L3M3 (B m : Nat) (V : World) (a k : Value) (u : World) : Prop := ∃ (xs : List Int) (va : Option Addr) (vc : Nat),
  a = .slice va xs.length vc ∧ k = .int .i64 (xs.length : Int) ∧ xs.length ≤ 4 ∧ OwnI u V.heap.size (.slice va xs.length vc) xs ∧ (∀ x ∈ xs, 0 ≤ x ∧ x ≤ 255) ∧ RdU u B (m + xs.length) ∧ Below B V u ∧ (∀ j, j < V.heap.size → j ≠ B → u.heap[j]? = V.heap[j]?)

end Go.Proofs.Ytgfagdjadmpklaa

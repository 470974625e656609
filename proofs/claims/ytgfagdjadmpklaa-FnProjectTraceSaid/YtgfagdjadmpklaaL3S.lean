/- The state of a statement's run, and what an evaluation, a store, an event and a run of a block leave of it. -/
import Derived.Test.YtgfagdjadmpklaaL3E
namespace Go.Proofs.Ytgfagdjadmpklaa
open Go.RowKit
set_option linter.unusedVariables false

/-- A run has gone on: the memory from lo to hi and the trace's row aside, all stands. -/
structure TrM (lo hi : Nat) (w w' : World) (t t' : Value) : Prop where
  bel : Below lo w w'
  blk : ∀ j, j < w.heap.size → ¬ (lo ≤ j ∧ j < hi) → t.ownBlock ≠ some j → w'.heap[j]? = w.heap[j]?
  row : t'.ownBlock = t.ownBlock ∨ ∃ g, t'.ownBlock = some g ∧ w.heap.size ≤ g
theorem TrM.refl (lo hi : Nat) (w : World) (t : Value) : TrM lo hi w w t t := ⟨Below.refl _ _, fun _ _ _ _ => rfl, .inl rfl⟩
theorem TrM.trans {lo hi : Nat} {w w1 w2 : World} {t t1 t2 : Value} (h : TrM lo hi w w1 t t1) (k : TrM lo hi w1 w2 t1 t2) : TrM lo hi w w2 t t2 := by
  refine ⟨h.bel.trans k.bel, fun j hj hm hne => ?_, ?_⟩
  · have h1 : t1.ownBlock ≠ some j := by
      rcases h.row with e | ⟨g, e, hg⟩
      · rw [e]; exact hne
      · rw [e]; intro x; cases x; omega
    exact (k.blk j (Nat.lt_of_lt_of_le hj h.bel.size) hm h1).trans (h.blk j hj hm hne)
  · rcases k.row with e | ⟨g, e, hg⟩
    · rw [e]; exact h.row
    · exact .inr ⟨g, e, Nat.le_trans h.bel.size hg⟩
theorem Tra.trm {lo hi tb : Nat} {w w' : World} {t t' : Value} (h : Tra tb w w' t t') (hlo : lo ≤ tb) : TrM lo hi w w' t t' := ⟨h.bel.mono hlo, fun j hj _ hne => h.blk j hj hne, h.row⟩
theorem Below.trm {lo hi : Nat} {w w' : World} (h : Below w.heap.size w w') (hlo : lo ≤ w.heap.size) (t : Value) : TrM lo hi w w' t t := ⟨h.mono hlo, fun j hj _ _ => h.block j hj, .inl rfl⟩

/-- A run's answer. -/
def RunR (lo hi tb nv na : Nat) (va aa : Option Addr) (es : List (Int × Int)) (t : Value) (N : Nat) (w : World) (f : Ending) (w' : World) : Prop := ∃ (ta : Option Addr) (tc : Nat) (es' : List (Int × Int)), f = .returned (.slice ta es'.length tc) ∧ RowEv w' tb (.slice ta es'.length tc) es' ∧ es'.length ≤ es.length + N ∧ RM w' lo hi nv na va aa ∧ TrM lo hi w w' t (.slice ta es'.length tc)

/-- Within a statement: the memory, the trace, the two boxes. -/
structure RSt (lo hi tb nv na : Nat) (va aa : Option Addr) (vc ac mb sb : Nat) (s : S) (k : SC) (W : World) (t tr : Value) (es' : List (Int × Int)) (u : World) : Prop where
  rm : RM u lo hi nv na va aa
  row : RowEv u tb tr es'
  trm : TrM lo hi W u t tr
  mbx : u.heap[mb]? = some (.cells #[.slice va nv vc, .slice aa na ac] 26 (0, 0))
  sbx : BoxS u sb s k
  dm : tr.ownBlock ≠ some mb
  ds : tr.ownBlock ≠ some sb
  hhi : hi ≤ tb
  hmb : hi ≤ mb
  hsb : hi ≤ sb
  htb : tb ≤ u.heap.size
  hlo : lo ≤ hi

section
variable {lo hi tb nv na : Nat} {va aa : Option Addr} {vc ac mb sb : Nat} {s : S} {k : SC} {W : World} {t tr tr' : Value} {es' es'' : List (Int × Int)} {u v : World}
/-- Whatever goes on like a run. -/
theorem RSt.run (h : RSt lo hi tb nv na va aa vc ac mb sb s k W t tr es' u) (hm : RM v lo hi nv na va aa) (hr : RowEv v tb tr' es'') (ht : TrM lo hi u v tr tr') : RSt lo hi tb nv na va aa vc ac mb sb s k W t tr' es'' v := by
  have h1 : mb < u.heap.size := (Array.getElem?_eq_some_iff.1 h.mbx).1
  have h2 : sb < u.heap.size := h.sbx.lt
  have h3 := h.hmb
  have h4 := h.hsb
  refine ⟨hm, hr, h.trm.trans ht, (ht.blk mb h1 (by omega) h.dm).trans h.mbx, h.sbx.later (ht.blk sb h2 (by omega) h.ds), ?_, ?_, h.hhi, h3, h4, Nat.le_trans h.htb ht.bel.size, h.hlo⟩
  · rcases ht.row with e | ⟨g, e, hg⟩
    · rw [e]; exact h.dm
    · rw [e]; intro x; cases x; omega
  · rcases ht.row with e | ⟨g, e, hg⟩
    · rw [e]; exact h.ds
    · rw [e]; intro x; cases x; omega
/-- An evaluation. -/
theorem RSt.eval (h : RSt lo hi tb nv na va aa vc ac mb sb s k W t tr es' u) (hr : RowEv v tb tr' es'') (ht : Tra tb u v tr tr') : RSt lo hi tb nv na va aa vc ac mb sb s k W t tr' es'' v :=
  h.run (h.rm.stand fun b _ hb => ht.bel.block b (by have := h.hhi; omega)) hr (ht.trm (by have := h.hlo; have := h.hhi; omega))
/-- A store of an int into the memory. -/
theorem RSt.store (h : RSt lo hi tb nv na va aa vc ac mb sb s k W t tr es' u) {b o : Nat} {z z' : Int} (hb : lo ≤ b) (hb' : b < hi) (hz : u.cell? ⟨b, o, none⟩ = some (.int .i64 z)) (h0 : 0 ≤ z') (h1 : z' ≤ 255) : RSt lo hi tb nv na va aa vc ac mb sb s k W t tr es' (u.setCell ⟨b, o, none⟩ (.int .i64 z')) := by
  have hst : ∀ q, q ≠ b → (u.setCell ⟨b, o, none⟩ (.int .i64 z')).heap[q]? = u.heap[q]? := fun q hq => Below.heap_setCell _ _ _ _ (by simpa using hq)
  refine h.run (h.rm.set hz h0 h1) (h.row.stand fun g hg _ => hst g (by have := (h.row.lt g hg).1; have := h.hhi; omega)) ⟨(Below.refl lo u).setCell (p := ⟨b, o, none⟩) hb _, fun j hj hn _ => hst j (fun e => hn (by omega)), .inl rfl⟩
end

end Go.Proofs.Ytgfagdjadmpklaa

/- The model's search for the instructions that can be reached, walked. -/
import Derived.Test.YtbifbmpflhdijaaDoorNxT
import Derived.Test.YtbifbmpflhdijaaDoorBlSB
import Derived.Test.YtbifbmpflhdijaaDoorAppA
import Derived.Deep.RegionWith
import Derived.Deep.RegionHeld3
namespace Go.Proofs.YtbifbmpflhdijaaDoor
open Go.RowKit
set_option linter.unusedVariables false

/-- The rows of the search: what is seen, the queue. -/
structure RcS (W : World) (S n : Nat) (sn : List Bool) (q : List Nat) (qv : Value) (wr : World) : Prop where
  b : wr.ownsRow S 4 1 (.slice (some ⟨S, 0, none⟩) n n) n (sn.map Value.bool)
  q : wr.ownsRow (S + 1) 3 1 qv q.length ((natI q).map (Value.int .i64))
  bel : Below S W wr
  lt : S < wr.heap.size

theorem RcS.start {W w1 : World} {S n : Nat} (hst : (w1.setCell ⟨S, 0, none⟩ (.bool true)).ownsRow S 4 1 (.slice (some ⟨S, 0, none⟩) n n) n (((List.replicate n false).set 0 true).map Value.bool)) (hb1 : Below S W w1) (hlt : S < w1.heap.size) :
    RcS W S n ((List.replicate n false).set 0 true) [0] (.slice (some ⟨w1.heap.size, 0, none⟩) 1 1) ((w1.setCell ⟨S, 0, none⟩ (.bool true)).alloc (.cells #[.int .i64 0] 3)) := by
  have hz : (w1.setCell ⟨S, 0, none⟩ (.bool true)).heap.size = w1.heap.size := by simp [World.setCell]
  refine ⟨hst.alloc _, ⟨rfl, .inr ⟨w1.heap.size, 1, #[.int .i64 0], rfl, by omega, ?_, Nat.le_refl _, by unfold maxLen; omega, rfl, rfl⟩⟩, (hb1.setCell (p := ⟨S, 0, none⟩) (Nat.le_refl _) _).alloc (by rw [hz]; omega) _, by rw [World.size_alloc, hz]; omega⟩
  have h1 := heap_alloc_new (w1.setCell ⟨S, 0, none⟩ (.bool true)) (.cells #[.int .i64 0] 3)
  rw [hz] at h1
  exact h1
theorem RcS.later {W : World} {S n : Nat} {sn : List Bool} {q : List Nat} {qv : Value} {w w' : World} (h : RcS W S n sn q qv w) (hb : Below w.heap.size w w') : RcS W S n sn q qv w' := by
  have hg : w.grownBy w' none := ⟨hb.os, hb.tape, hb.output, hb.size, fun k hk _ => hb.block k hk⟩
  exact ⟨h.b.kept hg (.inr (by simp [Value.ownBlock])), h.q.kept hg (by cases e : qv.ownBlock <;> simp), h.bel.trans (hb.mono (Nat.le_of_lt h.lt)), Nat.lt_of_lt_of_le h.lt hb.size⟩
theorem RcS.qat {W : World} {S n : Nat} {sn : List Bool} {q : List Nat} {qa : Option Addr} {qn qc : Nat} {w : World} (h : RcS W S n sn q (.slice qa qn qc) w) {t p : Nat} (hp : q[t]? = some p) : ∃ g, qa = some ⟨g, 0, none⟩ ∧ S < g ∧ g < w.heap.size ∧ w.cell? ⟨g, t, none⟩ = some (.int .i64 (p : Int)) := by
  have ht := (List.getElem?_eq_some_iff.1 hp).1
  rcases h.q.2 with ⟨_, h2⟩ | ⟨g, cp, cur, e1, e2, e3, e4⟩
  · omega
  · cases e1
    refine ⟨g, rfl, e2, (Array.getElem?_eq_some_iff.1 e3).1, ?_⟩
    rw [h.q.cellAt t (by omega)]
    simp [natI, hp]
theorem RcS.bat {W : World} {S n : Nat} {sn : List Bool} {q : List Nat} {qv : Value} {w : World} (h : RcS W S n sn q qv w) {j : Nat} {b : Bool} (hj : sn[j]? = some b) (hn : j < n) : w.cell? ⟨S, j, none⟩ = some (.bool b) ∧ w.frozen? ⟨S, j, none⟩ = false := by
  refine ⟨?_, h.b.frozenAt j⟩
  rw [h.b.cellAt j (by omega)]
  simp [hj]

/-- The rows behind a push. -/
theorem RcS.push {W : World} {S n : Nat} {sn : List Bool} {q : List Nat} {qv : Value} {w w4 w5 : World} {j : Nat} {v' : Value} (h : RcS W S n sn q qv w) (hjn : j < n)
    (h4 : w4 = (w.setCell ⟨S, j, none⟩ (.bool true)).alloc (.cells #[.int .i64 (j : Int)] 3)) (hg : w4.grownBy w5 qv.ownBlock) (ho : w5.ownsRow (S + 1) 3 1 v' (q.length + 1) ((natI q).map (Value.int .i64) ++ [.int .i64 (j : Int)])) : RcS W S n (sn.set j true) (q ++ [j]) v' w5 := by
  have hz : (w.setCell ⟨S, j, none⟩ (.bool true)).heap.size = w.heap.size := by simp [World.setCell]
  have hz4 : w4.heap.size = w.heap.size + 1 := by rw [h4, World.size_alloc, hz]
  have hlt := h.lt
  have hq0 : ∀ g, qv.ownBlock = some g → S + 1 ≤ g := fun g hg => (h.q.lt g hg).1
  have hb4 : Below S W w4 := by rw [h4]; exact (h.bel.setCell (p := ⟨S, j, none⟩) (Nat.le_refl _) _).alloc (by rw [hz]; omega) _
  have hrow4 : w4.ownsRow S 4 1 (.slice (some ⟨S, 0, none⟩) n n) n ((sn.set j true).map Value.bool) := by
    rw [h4, List.map_set]
    exact ((h.b.stored j (.bool true)).1).alloc _
  refine ⟨hrow4.kept hg (.inr fun e => ?_), ?_, hb4.grown hg (by omega) fun k hk => ?_, by have := hg.size; omega⟩
  · have := hq0 S (by rw [← e]; rfl)
    omega
  · rw [natI_app, List.map_append, List.length_append]; exact ho
  · have := hq0 k hk; omega
theorem NxT.push {w w4 w5 : World} {S j : Nat} {na : Option Addr} {ns : List Int} {qv v' : Value} (h : NxT w S na ns qv)
    (h4 : w4 = (w.setCell ⟨S, j, none⟩ (.bool true)).alloc (.cells #[.int .i64 (j : Int)] 3)) (hg : w4.grownBy w5 qv.ownBlock) (hat : v'.ownBlock = qv.ownBlock ∨ ∃ g, v'.ownBlock = some g ∧ w.heap.size ≤ g) : NxT w5 S na ns v' := fun s z hz => by
  obtain ⟨g, h1, h2, h3, h5, h6⟩ := h s z hz
  have hzs : (w.setCell ⟨S, j, none⟩ (.bool true)).heap.size = w.heap.size := by simp [World.setCell]
  have hz4 : w4.heap.size = w.heap.size + 1 := by rw [h4, World.size_alloc, hzs]
  refine ⟨g, h1, h2, by have := hg.size; omega, ?_, ?_⟩
  · rcases hat with e | ⟨g', e, e2⟩
    · rw [e]; exact h5
    · rw [e]; intro e3; cases e3; omega
  · have hb : w5.heap[g]? = w.heap[g]? := by
      rw [hg.block g (by omega) (fun e => h5 e.symm), h4, Below.heap_alloc _ _ _ (by rw [hzs]; exact h3)]
      exact Below.heap_setCell _ _ _ _ (by simpa using h2)
    exact (World.cell?_of_block (w := w) (a := ⟨g, s, none⟩) hb).trans h6

/-- The state of the outer loop. -/
def RQ (l : List Ins) (W : World) (S n : Nat) (qv i : Value) (wr : World) : Prop := ∃ (sn : List Bool) (q : List Nat) (t : Nat) (qa : Option Addr) (qc : Nat), qv = .slice qa q.length qc ∧ i = .int .i64 (t : Int) ∧ QL l sn q t ∧ RcS W S n sn q (.slice qa q.length qc) wr
/-- The state of the inner loop. -/
def RN (l : List Ins) (W : World) (S n t p : Nat) (ns : List Int) (na : Option Addr) (qv i : Value) (wr : World) : Prop := ∃ (sn : List Bool) (q : List Nat) (t2 : Nat) (qa : Option Addr) (qc : Nat), qv = .slice qa q.length qc ∧ i = .int .i64 (t2 : Int) ∧ t2 ≤ ns.length ∧ QL l sn q t ∧ q[t]? = some p ∧ (∀ s j : Nat, s < t2 → ns[s]? = some (j : Int) → sn[j]? = some true) ∧ RcS W S n sn q (.slice qa q.length qc) wr ∧ NxT wr S na ns (.slice qa q.length qc)
end Go.Proofs.YtbifbmpflhdijaaDoor

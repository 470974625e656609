/- The state of the bend of a program: its box, the reader, the result's box; how it ends. -/
import Derived.Test.YtlhdgoindknpfaaDoorCpP
import Derived.Test.YtlhdgoindknpfaaDoorMut
import Derived.Test.YtlhdgoindknpfaaDoorDraw
namespace Go.Proofs.YtlhdgoindknpfaaDoor
open Go.RowKit
set_option linter.unusedVariables false

/-- A program has been bent: it lies in new blocks, short. -/
def MutPg (w : World) (B m : Nat) (f : Ending) (w' : World) : Prop := ∃ p k, f = .returned (aggP p k) ∧ IsP w' (New w w') 10 p k ∧ SmP 1048576 10 p ∧ p.vars.length ≤ 13 ∧ p.arrs.length ≤ 2 ∧ RdU w' B m ∧ Oth B w w' ∧ Below B w w'

/-- The program q stands in the box g, to be handed back. -/
structure MSt (w : World) (B m g : Nat) (q : Pg) (k : PC) (u : World) : Prop where
  rd : RdU u B m
  oth : Oth B w u
  bel : Below B w u
  bx : u.heap[g]? = some (.cells (arrP q k) 26 (0, 0))
  br : u.heap[w.heap.size + 1]? = some (.cells #[.slice none 0 0, .slice none 0 0, .slice none 0 0] 26 (0, 0))
  hB : B < w.heap.size
  gt : w.heap.size + 1 < g
  is : IsP u (fun j => w.heap.size + 1 < j ∧ j < u.heap.size) 10 q k
  sm : SmP 1048576 10 q
  lv : q.vars.length ≤ 13
  la : q.arrs.length ≤ 2

theorem MSt.call {w u v : World} {B m m' g : Nat} {q : Pg} {k : PC} (h : MSt w B m g q k u) (hr : RdU v B m') (ho : Oth B u v) (hb : Below B u v) : MSt w B m' g q k v := by
  have hlt := (Array.getElem?_eq_some_iff.1 h.bx).1
  have hB := h.hB
  have hgt := h.gt
  have hz := h.oth.1
  exact ⟨hr, h.oth.trans ho, h.bel.trans hb, (ho.2 _ hlt (by omega)).trans h.bx, (ho.2 _ (by omega) (by omega)).trans h.br, hB, hgt,
    h.is.mono (fun j hj => ho.2 j hj.2 (by have := hj.1; omega)) (fun j hj => ⟨hj.1, Nat.lt_of_lt_of_le hj.2 ho.1⟩), h.sm, h.lv, h.la⟩

/-- The program is handed back. -/
theorem MSt.fin {w u : World} {B m m' g : Nat} {q : Pg} {k : PC} (h : MSt w B m g q k u) (hm : m ≤ m') : MutPg w B m' (.returned (aggP q k)) (put u (w.heap.size + 1) 0 (arrP q k).toList) := by
  have hB := h.hB
  have hz := h.oth.1
  refine ⟨q, k, rfl, ?_, h.sm, h.lv, h.la, ?_, h.oth.put (by omega) 0 _, put_below _ _ _ B _ 0 h.bel (by omega)⟩
  · exact h.is.mono (fun j hj => put_other _ _ _ _ _ (by have := hj.1; omega)) fun j hj => ⟨by have := hj.1; omega, by rw [put_size]; exact hj.2⟩
  · exact (h.rd.below (put_below _ _ _ (w.heap.size + 1) (w.heap.size + 1) 0 (Below.refl _ u) (Nat.le_refl _)) (by omega)).mono hm

/-- The zero program is handed back. -/
theorem MSt.nil {w u : World} {B m m' g : Nat} {q : Pg} {k : PC} (h : MSt w B m g q k u) (hm : m ≤ m') : MutPg w B m' (.returned (aggP ⟨[], [], []⟩ ⟨none, 0, none, 0, none, 0⟩)) (put u (w.heap.size + 1) 0 [.slice none 0 0, .slice none 0 0, .slice none 0 0]) := by
  have hB := h.hB
  have hz := h.oth.1
  refine ⟨⟨[], [], []⟩, ⟨none, 0, none, 0, none, 0⟩, rfl, ?_, ⟨by simp, by simp, by simp, fun i x hx => by simp at hx⟩, by simp, by simp, ?_, h.oth.put (by omega) 0 _, put_below _ _ _ B _ 0 h.bel (by omega)⟩
  · exact ⟨⟨Nat.le_refl _, by unfold maxLen; simp, fun q hq => absurd hq (by simp)⟩, ⟨Nat.le_refl _, by unfold maxLen; simp, fun q hq => absurd hq (by simp)⟩, Nat.le_refl _, by unfold maxLen; simp, fun i x hx => by simp at hx⟩
  · exact (h.rd.below (put_below _ _ _ (w.heap.size + 1) (w.heap.size + 1) 0 (Below.refl _ u) (Nat.le_refl _)) (by omega)).mono hm

/-- A drawn label, with the reader's place as a bound. -/
theorem labelU (B m : Nat) (w : World) (h : RdU w B m) (hm : m < 1099511627000) :
    Calls Tryd.prog 50 #[.pointer (some ⟨B, 0, none⟩)] w (DrI (fun _ => True) w B (m + 2)) := by
  obtain ⟨a, len, cap, q, h, hq⟩ := h
  exact (l1Draw_one B q a len cap w h (by omega)).mono fun e w1 ⟨v, r, he, hb, hr, hr2, ho⟩ => ⟨v, trivial, he, ⟨a, len, cap, r, hr, by omega⟩, ho, hb⟩

end Go.Proofs.YtlhdgoindknpfaaDoor

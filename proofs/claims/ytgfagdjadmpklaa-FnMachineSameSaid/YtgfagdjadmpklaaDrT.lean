/- The state of the draw of a statement: the statement's own box, the reader, the program's box, and what a call and a store keep of it. -/
import Derived.Test.YtgfagdjadmpklaaDrB
import Derived.Test.YtgfagdjadmpklaaPut
namespace Go.Proofs.Ytgfagdjadmpklaa
open Go.RowKit
set_option linter.unusedVariables false

theorem SmE.deeper {w : World} {D : Nat → Prop} {M : Nat} : ∀ {n m : Nat} {e : E} {cs : List Value}, n ≤ m → IsE w D n e cs → SmE M n e → SmE M m e
  | 0, _, _, _, _, h, _ => h.elim
  | _ + 1, 0, _, _, hl, _, _ => absurd hl (by omega)
  | n + 1, m + 1, _, _, hl, ⟨a, cap, h0, h1, h2, h3⟩, hs => ⟨hs.1, hs.2.1, fun i x hx => by
      obtain ⟨b, o, c0, c1, c2, _, _, _, _, _, hr⟩ := h3 i x hx
      exact SmE.deeper (by omega) hr (hs.2.2 i x hx)⟩

abbrev zE : E := ⟨0, 0, []⟩
abbrev zS (kd : Int) : S := ⟨kd, 0, zE, zE, 0, [], []⟩
abbrev zK : SC := ⟨none, 0, none, 0, none, 0, none, 0⟩
theorem isE_zero (w : World) (D : Nat → Prop) (n : Nat) (hn : 1 ≤ n) : IsE w D n zE (cellsI zE none 0) := by
  obtain ⟨n, rfl⟩ : ∃ q, n = q + 1 := ⟨n - 1, by omega⟩
  exact ⟨none, 0, rfl, Nat.le_refl _, by unfold maxLen; omega, fun i x hx => by simp at hx⟩
theorem smE_zero (n : Nat) : SmE 1048576 n zE := by
  cases n with
  | zero => trivial
  | succ n => exact ⟨by simp, by simp [cntEs], fun i x hx => by simp at hx⟩
theorem isS_zero (w : World) (D : Nat → Prop) (n : Nat) (hn : 1 ≤ n) (kd : Int) : IsS w D (n + 1) (zS kd) zK :=
  ⟨isE_zero w D n hn, isE_zero w D n hn, Nat.le_refl _, by unfold maxLen; simp, fun i x hx => by simp at hx, Nat.le_refl _, by unfold maxLen; simp, fun i x hx => by simp at hx⟩
theorem smS_zero (n : Nat) (kd : Int) : SmS 1048576 (n + 1) (zS kd) := ⟨smE_zero n, smE_zero n, by simp, fun i x hx => by simp at hx, by simp, fun i x hx => by simp at hx⟩

/-- The blocks of what has been drawn: new ones, not the statement's box. -/
abbrev Dq (w u : World) (g : Nat) : Nat → Prop := fun j => w.heap.size + 1 < j ∧ j < u.heap.size ∧ j ≠ g
/-- The statement s has been drawn so far; its box is block g. -/
structure DSt (p : Pg) (k : PC) (w : World) (B m g n c : Nat) (s : S) (ks : SC) (u : World) : Prop where
  rd : RdU u B m
  oth : Oth B w u
  bel : Below B w u
  bp : BoxP u w.heap.size p k
  br : u.heap[w.heap.size + 1]? = some (.cells (arrS (zS 0) zK) 107 (0, 0))
  bs : u.heap[g]? = some (.cells (arrS s ks) 107 (0, 0))
  gt : w.heap.size + 1 < g
  hB : B < w.heap.size
  is : IsS u (Dq w u g) (n + 1) s ks
  sm : SmS 1048576 (n + 1) s
  ct : cntS s ≤ c

/-- A call has drawn on. -/
theorem DSt.call {p : Pg} {k : PC} {w u v : World} {B m m' g n c : Nat} {s : S} {ks : SC} (h : DSt p k w B m g n c s ks u) (hr : RdU v B m') (ho : Oth B u v) (hb : Below B u v) : DSt p k w B m' g n c s ks v := by
  have hgu := (Array.getElem?_eq_some_iff.1 h.bs).1
  have hgt := h.gt
  have hB := h.hB
  have hz := h.oth.1
  refine ⟨hr, h.oth.trans ho, h.bel.trans hb, h.bp.later (ho.2 _ (by omega) (by omega)), (ho.2 _ (by omega) (by omega)).trans h.br, (ho.2 _ hgu (by omega)).trans h.bs, h.gt, hB, ?_, h.sm, h.ct⟩
  exact h.is.mono (fun j hj => ho.2 j hj.2.1 (by have := hj.1; omega)) fun j hj => ⟨hj.1, Nat.lt_of_lt_of_le hj.2.1 ho.1, hj.2.2⟩

/-- New memory has been laid. -/
theorem DSt.alloc {p : Pg} {k : PC} {w u : World} {B m g n c : Nat} {s : S} {ks : SC} (h : DSt p k w B m g n c s ks u) (o : Obj) : DSt p k w B m g n c s ks (u.alloc o) :=
  h.call (h.rd.alloc o) ((Oth.refl _ _).alloc o) ((Below.refl _ _).alloc (by have := h.hB; have := h.oth.1; omega) o)
theorem DSt.drew {p : Pg} {k : PC} {w u : World} {B m g n c : Nat} {s : S} {ks : SC} (h : DSt p k w B m g n c s ks u) : DSt p k w B m g n c s ks u.drew :=
  h.call h.rd.drew (Oth.refl _ _).drew (Below.refl _ _).drew

/-- Fields of the statement have been stored. -/
theorem DSt.store {p : Pg} {k : PC} {w u : World} {B m g n c : Nat} {s s' : S} {ks ks' : SC} (h : DSt p k w B m g n c s ks u) (o : Nat) (vs : List Value) (he : setL (arrS s ks) o vs = arrS s' ks')
    (hi : IsS u (Dq w u g) (n + 1) s' ks') (hs : SmS 1048576 (n + 1) s') (hc : cntS s' ≤ c) : DSt p k w B m g n c s' ks' (put u g o vs) := by
  have hgt := h.gt
  have hB := h.hB
  have hz := h.oth.1
  refine ⟨h.rd.below (put_below vs _ _ g g o (Below.refl g u) (Nat.le_refl _)) (by omega), h.oth.put (by omega) o vs, put_below vs _ _ B g o h.bel (by omega), h.bp.later (put_other _ _ _ _ _ (by omega)), (put_other _ _ _ _ _ (by omega)).trans h.br, ?_, h.gt, hB, ?_, hs, hc⟩
  · rw [← he]; exact put_row _ _ _ _ _ _ h.bs
  · exact hi.mono (fun j hj => put_other _ _ _ _ _ hj.2.2) fun j hj => ⟨hj.1, by rw [put_size]; exact hj.2.1, hj.2.2⟩

/-- The statement is handed back. -/
theorem DSt.fin {p : Pg} {k : PC} {w u : World} {B m m' g n c : Nat} {s : S} {ks : SC} (h : DSt p k w B m g n c s ks u) (hm : m ≤ m') : DrSt (n + 1) c w B m' (.returned (aggS s ks)) (put u (w.heap.size + 1) 0 (arrS s ks).toList) := by
  have hgt := h.gt
  have hB := h.hB
  have hz := h.oth.1
  refine ⟨s, ks, rfl, ⟨h.is.mono (fun j hj => put_other _ _ _ _ _ (by have := hj.1; omega)) (fun j hj => ⟨by have := hj.1; omega, by rw [put_size]; exact hj.2.1⟩), h.sm, h.ct⟩, ?_, h.oth.put (by omega) 0 _, put_below _ _ _ B _ 0 h.bel (by omega)⟩
  exact (h.rd.below (put_below _ _ _ (w.heap.size + 1) (w.heap.size + 1) 0 (Below.refl _ u) (Nat.le_refl _)) (by omega)).mono hm

end Go.Proofs.Ytgfagdjadmpklaa

/- The state of the draw of a program: its box, the reader, the result's box, and what a call and a store keep of it. -/
import Derived.Test.YtgfagdjadmpklaaDrN
import Derived.Test.YtgfagdjadmpklaaSpZ
namespace Go.Proofs.Ytgfagdjadmpklaa
open Go.RowKit
set_option linter.unusedVariables false

/-- A drawn program: valid, it lies in new blocks, short. -/
def DrPg (w : World) (B m : Nat) (f : Ending) (w' : World) : Prop := ∃ p k, f = .returned (aggP p k) ∧ IsP w' (New w w') 10 p k ∧ SmP 1048576 10 p ∧ progV p = true ∧ 1 ≤ p.vars.length ∧ p.vars.length ≤ 5 ∧ p.arrs.length ≤ 2 ∧ RdU w' B m ∧ Oth B w w' ∧ Below B w w'

/-- And its statements are few. -/
def DrPgC (w : World) (B m : Nat) (f : Ending) (w' : World) : Prop := ∃ p k, f = .returned (aggP p k) ∧ IsP w' (New w w') 10 p k ∧ SmP 1048576 10 p ∧ progV p = true ∧ 1 ≤ p.vars.length ∧ p.vars.length ≤ 5 ∧ p.arrs.length ≤ 2 ∧ RdU w' B m ∧ Oth B w w' ∧ Below B w w' ∧ cntSs p.body ≤ 84
theorem DrPgC.to {w : World} {B m : Nat} {f : Ending} {w' : World} (h : DrPgC w B m f w') : DrPg w B m f w' := by
  obtain ⟨p, k, h1, h2, h3, h4, h5, h6, h7, h8, h9, h10, _⟩ := h
  exact ⟨p, k, h1, h2, h3, h4, h5, h6, h7, h8, h9, h10⟩
theorem cntSs_le : ∀ (ss : List S) (N : Nat), (∀ x ∈ ss, cntS x ≤ N) → cntSs ss ≤ N * ss.length
  | [], _, _ => by simp [cntSs]
  | x :: xs, N, h => by
    have h1 := h x (by simp)
    have h2 := cntSs_le xs N fun y hy => h y (by simp [hy])
    have e : N * (x :: xs).length = N * xs.length + N := by rw [List.length_cons, Nat.mul_add, Nat.mul_one]
    rw [e, cntSs]; omega

/-- The program p has been drawn so far. -/
structure PSt (w : World) (B m : Nat) (p : Pg) (k : PC) (u : World) : Prop where
  rd : RdU u B m
  oth : Oth B w u
  bel : Below B w u
  bx : u.heap[w.heap.size + 1]? = some (.cells (arrP p k) 55 (0, 0))
  br : u.heap[w.heap.size]? = some (.cells #[.slice none 0 0, .slice none 0 0, .slice none 0 0] 55 (0, 0))
  hB : B < w.heap.size
  is : IsP u (fun j => w.heap.size + 1 < j ∧ j < u.heap.size) 10 p k
  sm : SmP 1048576 10 p
  lv : 1 ≤ p.vars.length
  lv' : p.vars.length ≤ 5
  la : p.arrs.length ≤ 2
  cn : cntSs p.body ≤ 84

theorem PSt.lt {w u : World} {B m : Nat} {p : Pg} {k : PC} (h : PSt w B m p k u) : w.heap.size + 1 < u.heap.size := (Array.getElem?_eq_some_iff.1 h.bx).1

theorem PSt.call {w u v : World} {B m m' : Nat} {p : Pg} {k : PC} (h : PSt w B m p k u) (hr : RdU v B m') (ho : Oth B u v) (hb : Below B u v) : PSt w B m' p k v := by
  have hlt := h.lt
  have hB := h.hB
  have hz := h.oth.1
  exact ⟨hr, h.oth.trans ho, h.bel.trans hb, (ho.2 _ hlt (by omega)).trans h.bx, (ho.2 _ (by omega) (by omega)).trans h.br, hB,
    h.is.mono (fun j hj => ho.2 j hj.2 (by have := hj.1; omega)) (fun j hj => ⟨hj.1, Nat.lt_of_lt_of_le hj.2 ho.1⟩), h.sm, h.lv, h.lv', h.la, h.cn⟩
theorem PSt.alloc {w u : World} {B m : Nat} {p : Pg} {k : PC} (h : PSt w B m p k u) (o : Obj) : PSt w B m p k (u.alloc o) :=
  h.call (h.rd.alloc o) ((Oth.refl _ _).alloc o) ((Below.refl _ _).alloc (by have := h.hB; have := h.oth.1; omega) o)
theorem PSt.drew {w u : World} {B m : Nat} {p : Pg} {k : PC} (h : PSt w B m p k u) : PSt w B m p k u.drew :=
  h.call h.rd.drew (Oth.refl _ _).drew (Below.refl _ _).drew
theorem PSt.calm {w u v : World} {B m : Nat} {p : Pg} {k : PC} (h : PSt w B m p k u) (hb : Below u.heap.size u v) : PSt w B m p k v :=
  h.call (h.rd.below hb h.rd.lt) ⟨hb.size, fun j hj _ => hb.block j hj⟩ (hb.mono (by have := h.rd.lt; omega))

theorem PSt.body {w u v : World} {B m m' N : Nat} {p : Pg} {k : PC} (h : PSt w B m p k u) (hN : N ≤ 4) {ss : List S} {a : Option Addr} {cap : Nat} (hl : ss.length = N) (hrow : RowS 10 v u.heap.size (.slice a ss.length cap) ss) (hsm : ∀ x ∈ ss, SmS 1048576 10 x ∧ cntS x ≤ 21) (hr : RdU v B m') (ho : Oth B u v) (hb : Below B u v) :
    PSt w B m' { p with body := ss } { k with ba := a, bc := cap } (put v (w.heap.size + 1) 2 [.slice a ss.length cap]) := by
  have hv := h.call hr ho hb
  have hlt := h.lt
  have hB := h.hB
  have hz := h.oth.1
  obtain ⟨a', cap', he, h1, h2, h3⟩ := hrow.ss
  cases he
  have h3' : SsAt v (fun j => w.heap.size + 1 < j ∧ j < v.heap.size) (IsS v (fun j => w.heap.size + 1 < j ∧ j < v.heap.size) 10) ss a := h3.wide (fun _ _ => rfl) fun j hj => ⟨by have := hj.1; omega, hj.2⟩
  refine ⟨hr.below (put_below _ _ _ (w.heap.size + 1) (w.heap.size + 1) 2 (Below.refl _ v) (Nat.le_refl _)) (by omega), hv.oth.put (by omega) 2 _, put_below _ _ _ B _ 2 hv.bel (by omega), ?_, (put_other _ _ _ _ _ (by omega)).trans hv.br, hB, ?_, ?_, h.lv, h.lv', h.la, ?_⟩
  · rw [put_row _ _ _ _ _ _ hv.bx]; rfl
  · have hi : IsP v (fun j => w.heap.size + 1 < j ∧ j < v.heap.size) 10 { p with body := ss } { k with ba := a, bc := cap } := ⟨hv.is.1, hv.is.2.1, h1, h2, h3'⟩
    exact hi.mono (fun j hj => put_other _ _ _ _ _ (by have := hj.1; omega)) fun j hj => ⟨hj.1, by rw [put_size]; exact hj.2⟩
  · exact ⟨h.sm.1, h.sm.2.1, by show ss.length ≤ 1048576; omega, fun i x hx => (hsm x (List.mem_of_getElem? hx)).1⟩
  · have h9 := cntSs_le ss 21 fun x hx => (hsm x hx).2
    have h10 : 21 * ss.length ≤ 21 * 4 := Nat.mul_le_mul_left _ (by omega)
    show cntSs ss ≤ 84
    omega

theorem PSt.fin {w u : World} {B m m' : Nat} {p : Pg} {k : PC} (h : PSt w B m p k u) (hm : m ≤ m') (hv : progV p = true) : DrPgC w B m' (.returned (aggP p k)) (put u w.heap.size 0 (arrP p k).toList) := by
  have hlt := h.lt
  have hB := h.hB
  have hz := h.oth.1
  refine ⟨p, k, rfl, ?_, h.sm, hv, h.lv, h.lv', h.la, ?_, h.oth.put (Nat.le_refl _) 0 _, put_below _ _ _ B _ 0 h.bel (by omega), h.cn⟩
  · exact h.is.mono (fun j hj => put_other _ _ _ _ _ (by have := hj.1; omega)) fun j hj => ⟨by have := hj.1; omega, by rw [put_size]; exact hj.2⟩
  · exact (h.rd.below (put_below _ _ _ w.heap.size w.heap.size 0 (Below.refl _ u) (Nat.le_refl _)) hB).mono hm

/-- The program that is handed back in the place of an invalid one. -/
abbrev p0 : Pg := ⟨[0, 1], [], [⟨1, 1, zE, ⟨2, 0, []⟩, 0, [], []⟩]⟩
abbrev k0 (g : Nat) : PC := ⟨some ⟨g, 0, none⟩, 2, none, 0, some ⟨g + 1, 0, none⟩, 1⟩
abbrev lit1 : Obj := .cells #[.int .i64 0, .int .i64 1] 3
abbrev lit2 : Obj := .cells (arrS ⟨1, 1, zE, ⟨2, 0, []⟩, 0, [], []⟩ zK) 107
theorem p0V : progV p0 = true := by decide +kernel
theorem PSt.zero {w u : World} {B m m' : Nat} {p : Pg} {k : PC} (h : PSt w B m p k u) (hm : m ≤ m') : DrPgC w B m' (.returned (aggP p0 (k0 u.heap.size))) (put ((u.alloc lit1).alloc lit2) w.heap.size 0 (arrP p0 (k0 u.heap.size)).toList) := by
  have hlt := h.lt
  have hB := h.hB
  have hz := h.oth.1
  have h2 := (h.alloc lit1).alloc lit2
  obtain ⟨v, hv⟩ : ∃ v, (u.alloc lit1).alloc lit2 = v := ⟨_, rfl⟩
  have e1 : v.heap[u.heap.size]? = some (.cells #[.int .i64 0, .int .i64 1] 3 (0, 0)) := by
    rw [← hv]; exact (Below.heap_alloc _ _ _ (by simp)).trans (heap_alloc_new u _)
  have e2 : v.heap[u.heap.size + 1]? = some (.cells (arrS ⟨1, 1, zE, ⟨2, 0, []⟩, 0, [], []⟩ zK) 107 (0, 0)) := by
    have e := heap_alloc_new (u.alloc lit1) lit2
    rw [World.size_alloc] at e
    rw [← hv]; exact e
  have hzv : v.heap.size = u.heap.size + 2 := by rw [← hv]; simp
  rw [hv] at h2 ⊢
  refine ⟨p0, k0 u.heap.size, rfl, ?_, ?_, p0V, by decide, by decide, by decide, ?_, h2.oth.put (Nat.le_refl _) 0 _, put_below _ _ _ B _ 0 h2.bel (by omega), by decide⟩
  · have hi : IsP v (fun j => w.heap.size + 1 < j ∧ j < v.heap.size) 10 p0 (k0 u.heap.size) := by
      refine ⟨⟨Nat.le_refl _, by show 2 ≤ maxLen; unfold maxLen; decide, fun q hq => ⟨u.heap.size, 0, rfl, ⟨hlt, by omega⟩, ?_⟩⟩, ⟨Nat.le_refl _, by show 0 ≤ maxLen; exact Nat.zero_le _, fun q hq => absurd hq (by simp)⟩, Nat.le_refl _, by show 1 ≤ maxLen; unfold maxLen; decide, fun i x hx => ?_⟩
      · have hq' : q = 0 ∨ q = 1 := by simp at hq; omega
        rcases hq' with rfl | rfl <;> (rw [cell_at e1]; rfl)
      · have hi0 : i = 0 := by
          have := (List.getElem?_eq_some_iff.1 hx).1
          simp at this; omega
        subst hi0
        cases hx
        refine ⟨u.heap.size + 1, 0, zK, rfl, ⟨by omega, by omega⟩, ⟨?_, ?_, ?_, ?_, ?_, ?_, ?_, ?_, ?_, ?_, ?_⟩, ?_⟩
        all_goals first | (rw [cell_at e2]; rfl) | skip
        exact ⟨isE_zero v _ 9 (by omega), ⟨none, 0, rfl, Nat.le_refl _, by unfold maxLen; omega, fun i x hx => by simp at hx⟩, Nat.le_refl _, by unfold maxLen; simp, fun i x hx => by simp at hx, Nat.le_refl _, by unfold maxLen; simp, fun i x hx => by simp at hx⟩
    exact hi.mono (fun j hj => put_other _ _ _ _ _ (by have := hj.1; omega)) fun j hj => ⟨by have := hj.1; omega, by rw [put_size]; exact hj.2⟩
  · refine ⟨by decide, by decide, by decide, fun i x hx => ?_⟩
    have hi0 : i = 0 := by
      have := (List.getElem?_eq_some_iff.1 hx).1
      simp at this; omega
    subst hi0
    cases hx
    exact ⟨smE_zero 9, ⟨by simp, by simp [cntEs], fun i x hx => by simp at hx⟩, by simp, fun i x hx => by simp at hx, by simp, fun i x hx => by simp at hx⟩
  · exact (h2.rd.below (put_below _ _ _ w.heap.size w.heap.size 0 (Below.refl _ v) (Nat.le_refl _)) hB).mono hm

end Go.Proofs.Ytgfagdjadmpklaa

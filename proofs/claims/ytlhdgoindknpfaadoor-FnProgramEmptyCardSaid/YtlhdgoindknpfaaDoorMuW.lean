/- A cell of the copied body is written anew. -/
import Derived.Test.YtlhdgoindknpfaaDoorMuS
namespace Go.Proofs.YtlhdgoindknpfaaDoor
open Go.RowKit
set_option linter.unusedVariables false

theorem hCS : ∀ (x : S) (k : SC), ((fun (x : S) (k : SC) => (arrS x k).toList) x k).length = 11 := fun _ _ => rfl

/-- The three rows of the copied program. -/
structure MRow (lo b2 g : Nat) (q : Pg) (k : PC) (u : World) : Prop where
  ov : OwnI u lo (.slice k.va q.vars.length k.vc) q.vars
  oa : OwnI u lo (.slice k.aa q.arrs.length k.ac) q.arrs
  dv : ∀ j, (Value.slice k.va q.vars.length k.vc).ownBlock = some j → j < b2
  da : ∀ j, (Value.slice k.aa q.arrs.length k.ac).ownBlock = some j → j < b2
  ob : RowS 10 u b2 (.slice k.ba q.body.length k.bc) q.body
  db : ∀ j, (Value.slice k.ba q.body.length k.bc).ownBlock = some j → j < g

theorem MRow.oth {lo b2 g B : Nat} {q : Pg} {k : PC} {u v : World} (h : MRow lo b2 g q k u) (ho : Oth B u v) (h1 : B < lo) (h2 : B < b2) : MRow lo b2 g q k v :=
  ⟨h.ov.stand fun j hj hj' => ho.2 j hj' (by omega), h.oa.stand fun j hj hj' => ho.2 j hj' (by omega), h.dv, h.da, h.ob.oth (hRS 10) ho h2, h.db⟩

theorem MSt.write {w u : World} {B m g lo b2 : Nat} {q : Pg} {k : PC} (h : MSt w B m g q k u) (hr : MRow lo b2 g q k u) (hlo : w.heap.size + 2 ≤ lo) (hb2 : w.heap.size + 2 ≤ b2)
    {i j : Nat} {x x' : S} {v : Value} (hx : q.body[i]? = some x) (hj : j < 11) (hs : ∀ k, (arrS x k).toList.set j v = (arrS x' k).toList) (hx' : ∀ w D k, IsS w D 10 x k → IsS w D 10 x' k) (hsm : SmS 1048576 10 x → SmS 1048576 10 x') :
    ∃ gb, k.ba = some ⟨gb, 0, none⟩ ∧ w.heap.size + 1 < gb ∧ gb < u.heap.size ∧ gb ≠ g ∧ MSt w B m g { q with body := q.body.set i x' } k (put u gb (i * 11 + j) [v]) := by
  obtain ⟨va, vc, aa, ac, ba, bc⟩ := k
  have hi : i < q.body.length := (List.getElem?_eq_some_iff.1 hx).1
  have hB := h.hB
  have hgt := h.gt
  have hz := h.oth.1
  obtain ⟨L, hL, hown, hR⟩ := hr.ob
  obtain ⟨gb, cap, he, hg1, hg2⟩ := hown.form (by omega)
  cases he
  have hgb : gb ≠ g := by have := hr.db gb rfl; omega
  have hrow' : RowS 10 (put u gb (i * 11 + j) [v]) b2 (.slice (some ⟨gb, 0, none⟩) q.body.length bc) (q.body.set i x') := RowG.set hCS (hRS 10) hr.ob hx hj hs hx'
  have hpo : ∀ j', j' ≠ gb → (put u gb (i * 11 + j) [v]).heap[j']? = u.heap[j']? := fun j' hj' => put_other _ _ _ _ _ hj'
  refine ⟨gb, rfl, by omega, hg2, hgb, h.rd.below (put_below _ _ _ gb gb _ (Below.refl _ u) (Nat.le_refl _)) (by omega), h.oth.put (by omega) _ _, put_below _ _ _ B _ _ h.bel (by omega), ?_, (hpo _ (by omega)).trans h.br, hB, hgt, ?_, ?_, h.lv, h.la⟩
  · have hbx := (hpo g (by omega)).trans h.bx
    show (put u gb (i * 11 + j) [v]).heap[g]? = some (.cells #[.slice va q.vars.length vc, .slice aa q.arrs.length ac, .slice (some ⟨gb, 0, none⟩) (q.body.set i x').length bc] _ (0, 0))
    rw [List.length_set]
    exact hbx
  · obtain ⟨a1, c1, e1, i1, j1, k1⟩ := (hr.ov.far (w' := put u gb (i * 11 + j) [v]) fun j' hj' => hpo j' (by have := hr.dv j' hj'; omega)).ints
    cases e1
    obtain ⟨a2, c2, e2, i2, j2, k2⟩ := (hr.oa.far (w' := put u gb (i * 11 + j) [v]) fun j' hj' => hpo j' (by have := hr.da j' hj'; omega)).ints
    cases e2
    obtain ⟨a3, c3, e3, i3, j3, k3⟩ := hrow'.ss
    rw [List.length_set] at e3
    cases e3
    exact ⟨⟨i1, j1, k1.wide (fun _ _ => rfl) fun j hj => ⟨by have := hj.1; omega, hj.2⟩⟩, ⟨i2, j2, k2.wide (fun _ _ => rfl) fun j hj => ⟨by have := hj.1; omega, hj.2⟩⟩, i3, j3, k3.wide (fun _ _ => rfl) fun j hj => ⟨by have := hj.1; omega, hj.2⟩⟩
  · refine ⟨h.sm.1, h.sm.2.1, by rw [List.length_set]; exact h.sm.2.2.1, fun i' y hy => ?_⟩
    by_cases hii : i' = i
    · subst hii
      rw [List.getElem?_set_self hi] at hy
      cases hy
      exact hsm (h.sm.2.2.2 _ x hx)
    · rw [List.getElem?_set_ne (by omega)] at hy
      exact h.sm.2.2.2 i' y hy

/-- A cell of the body may be written. -/
theorem MRow.spot {lo b2 g : Nat} {q : Pg} {k : PC} {u : World} (h : MRow lo b2 g q k u) {i j : Nat} (hi : i < q.body.length) (hj : j < 11) :
    ∃ gb, k.ba = some ⟨gb, 0, none⟩ ∧ (∃ y, u.cell? ⟨gb, i * 11 + j, none⟩ = some y) ∧ u.frozen? ⟨gb, i * 11 + j, none⟩ = false := by
  obtain ⟨va, vc, aa, ac, ba, bc⟩ := k
  obtain ⟨L, hL, hown, hR⟩ := h.ob
  rcases hown.2 with ⟨e, e'⟩ | ⟨gb, cap, cur, e, hb, hg, hn, hm, hc, ht⟩
  · omega
  · cases e
    have hn' : q.body.length ≤ bc := hn
    exact ⟨gb, rfl, cell_ex hg _ (by rw [hc]; have := Nat.mul_le_mul_right 11 (show i + 1 ≤ bc by omega); rw [Nat.succ_mul] at this; omega), frozen_at hg _⟩

/-- The first of the copied variables is written anew. -/
theorem MSt.writeV {w u : World} {B m g lo b2 : Nat} {q : Pg} {k : PC} (h : MSt w B m g q k u) (hr : MRow lo b2 g q k u) (hap : ∀ j, (Value.slice k.va q.vars.length k.vc).ownBlock = some j → (Value.slice k.aa q.arrs.length k.ac).ownBlock ≠ some j) (hlo : w.heap.size + 2 ≤ lo) (hb2 : w.heap.size + 2 ≤ b2) (hbg : b2 ≤ g)
    (hl : 0 < q.vars.length) (l : Int) :
    ∃ gv, k.va = some ⟨gv, 0, none⟩ ∧ w.heap.size + 1 < gv ∧ gv < u.heap.size ∧ gv ≠ g ∧ (∃ y, u.cell? ⟨gv, 0, none⟩ = some y) ∧ u.frozen? ⟨gv, 0, none⟩ = false ∧ MSt w B m g { q with vars := q.vars.set 0 l } k (put u gv 0 [.int .i64 l]) := by
  obtain ⟨va, vc, aa, ac, ba, bc⟩ := k
  have hB := h.hB
  have hgt := h.gt
  have hz := h.oth.1
  rcases hr.ov.2 with ⟨e, e'⟩ | ⟨gv, cap, cur, e, hb, hg, hn, hm, hc, ht⟩
  · omega
  · cases e
    have hgu := (Array.getElem?_eq_some_iff.1 hg).1
    have hvb : gv < b2 := hr.dv gv rfl
    have hpo : ∀ j', j' ≠ gv → (put u gv 0 [.int .i64 l]).heap[j']? = u.heap[j']? := fun j' hj' => put_other _ _ _ _ _ hj'
    have hrow : (put u gv 0 [.int .i64 l]).heap[gv]? = some (.cells (setL cur 0 [.int .i64 l]) 3 (0, 0)) := put_row _ _ _ _ _ _ hg
    have hsz : 0 < cur.size := by rw [hc]; have : q.vars.length ≤ vc := hn; omega
    refine ⟨gv, rfl, by omega, hgu, by omega, cell_ex hg _ hsz, frozen_at hg _, h.rd.below (put_below _ _ _ gv gv _ (Below.refl _ u) (Nat.le_refl _)) (by omega), h.oth.put (by omega) _ _, put_below _ _ _ B _ _ h.bel (by omega), ?_, (hpo _ (by omega)).trans h.br, hB, hgt, ?_, ?_, by show (q.vars.set 0 l).length ≤ 13; rw [List.length_set]; exact h.lv, h.la⟩
    · have hbx := (hpo g (by omega)).trans h.bx
      show (put u gv 0 [.int .i64 l]).heap[g]? = some (.cells #[.slice (some ⟨gv, 0, none⟩) (q.vars.set 0 l).length vc, .slice aa q.arrs.length ac, .slice ba q.body.length bc] _ (0, 0))
      rw [List.length_set]
      exact hbx
    · obtain ⟨a1, c1, e1, i1, j1, k1⟩ := hr.ov.ints
      cases e1
      obtain ⟨a2, c2, e2, i2, j2, k2⟩ := (hr.oa.far (w' := put u gv 0 [.int .i64 l]) fun j' hj' => hpo j' (by intro e; subst e; exact hap j' rfl hj')).ints
      cases e2
      have hob : RowS 10 (put u gv 0 [.int .i64 l]) b2 (.slice ba q.body.length bc) q.body := hr.ob.oth (hRS 10) (B := gv) ⟨by rw [put_size]; exact Nat.le_refl _, fun j _ hne => hpo j hne⟩ hvb
      obtain ⟨a3, c3, e3, i3, j3, k3⟩ := hob.ss
      cases e3
      have hiv : IntsAt (put u gv 0 [.int .i64 l]) (fun j => w.heap.size + 1 < j ∧ j < (put u gv 0 [.int .i64 l]).heap.size) (q.vars.set 0 l) (some ⟨gv, 0, none⟩) := fun t ht' => by
        rw [List.length_set] at ht'
        refine ⟨gv, 0, rfl, ⟨by omega, by rw [put_size]; exact hgu⟩, ?_⟩
        rw [Nat.zero_add]
        rcases Nat.eq_zero_or_pos t with rfl | ht0
        · rw [cell_at hrow]
          simp [setL, hsz, hl]
        · obtain ⟨b, o, he, _, hcell⟩ := k1 t ht'
          cases he
          rw [Nat.zero_add, cell_at hg] at hcell
          rw [cell_at hrow]
          simp only [setL]
          rw [Array.getElem?_setIfInBounds_ne (by omega), hcell]
          simp [List.getD, List.getElem?_set_ne (show 0 ≠ t by omega)]
      exact ⟨⟨by show (q.vars.set 0 l).length ≤ vc; rw [List.length_set]; exact i1, j1, hiv⟩, ⟨i2, j2, k2.wide (fun _ _ => rfl) fun j hj => ⟨by have := hj.1; omega, hj.2⟩⟩, i3, j3, k3.wide (fun _ _ => rfl) fun j hj => ⟨by have := hj.1; omega, hj.2⟩⟩
    · exact ⟨by show (q.vars.set 0 l).length ≤ 1048576; rw [List.length_set]; exact h.sm.1, h.sm.2.1, h.sm.2.2.1, h.sm.2.2.2⟩

theorem SmS.nums {M n : Nat} {s : S} (h : SmS M (n + 1) s) (kind target count : Int) : SmS M (n + 1) { s with kind := kind, target := target, count := count } := h

end Go.Proofs.YtlhdgoindknpfaaDoor

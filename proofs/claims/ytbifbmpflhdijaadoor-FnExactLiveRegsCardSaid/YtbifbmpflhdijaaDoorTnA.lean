/- Rows of bools as masks; spec.l9After, walked: it hands back, in a new row, what an instruction makes of a row. -/
import Derived.Test.YtbifbmpflhdijaaDoorLsS
import Derived.Test.YtbifbmpflhdijaaDoorAgI
import Derived.Test.YtbifbmpflhdijaaDoorBlS
import Derived.Test.YtbifbmpflhdijaaDoorAppA
import Derived.Test.YtbifbmpflhdijaaDoorCvU
import Derived.StillTailTactics
import Derived.Deep.CutRange
namespace Go.Proofs.YtbifbmpflhdijaaDoor
open Go.RowKit
set_option linter.unusedVariables false


section
variable {P : Program} {ops : Array Oper} {w : World} {Q : Act → Prop} {a : Act} {o : Oper} {rest : List Oper}
/-- A region's head, kept shut: what it says is not looked into. -/
def WpS (P : Program) (ops : Array Oper) (w : World) (Q : Act → Prop) (l : List Oper) (a : Act) : Prop := True → wpStill P ops w Q l a
/-- A step of a region's head, without a guard. -/
theorem WpS.ng (hg : o.guard = none) (h : ∀ K : Act → Prop, (∀ a, WpS P ops w Q rest a → K a) → o.still P a w K) : WpS P ops w Q (o :: rest) a := fun _ => by
  unfold wpStill
  rw [if_pos (by unfold Region.wanted; rw [hg])]
  exact h _ fun _ h => h trivial
/-- A step whose guard says yes. -/
theorem WpS.on (hw : Region.wanted o (yielded ops a.tmps) = true) (h : ∀ K : Act → Prop, (∀ a, WpS P ops w Q rest a → K a) → o.still P a w K) : WpS P ops w Q (o :: rest) a := fun _ => by
  unfold wpStill
  rw [if_pos hw]
  exact h _ fun _ h => h trivial
/-- A step whose guard says no. -/
theorem WpS.off (hw : Region.wanted o (yielded ops a.tmps) = false) (h : ∀ K : Act → Prop, (∀ a, WpS P ops w Q rest a → K a) → K (a.put o.dst undef)) : WpS P ops w Q (o :: rest) a := fun _ => by
  unfold wpStill
  rw [if_neg (by rw [hw]; simp)]
  exact h _ fun _ h => h trivial
theorem WpS.nil (h : Q a) : WpS P ops w Q [] a := fun _ => h
/-- A region that draws its order: its head reads, its tail has one order. -/
theorem wp_head_tail {id : Nat} {Q : Exit → Act → World → Prop} {l : List Oper} (n : Nat) (hm : P.follows .mixedOrders = true) (hB : Region.lexTailB .any l.toArray n = true)
    (h : WpS P l.toArray { w with drawn := w.drawn + 1 } (fun a' => wpList P l.toArray Q (l.drop n) a' { w with drawn := w.drawn + 1 }) (l.take n) a) : (Code.region id l.toArray true).wp P Q a w :=
  wp_region_still_tail n hm hB (h trivial)
end
/-- The row of a mask. -/
def rowB (m : Nat) : List Bool := if m = 0 then [] else (List.range 14).map fun i => m.testBit i
theorem rowB_0 : rowB 0 = [] := rfl
theorem rowB_len {m : Nat} (h : m ≠ 0) : (rowB m).length = 14 := by unfold rowB; rw [if_neg h]; simp
theorem rowB_at {m i : Nat} (h : m ≠ 0) (hi : i < 14) : (rowB m)[i]? = some (m.testBit i) := by unfold rowB; rw [if_neg h, List.getElem?_map, List.getElem?_range hi]; rfl
theorem rowB_ext {m : Nat} {bs : List Bool} (h : m ≠ 0) (hl : bs.length = 14) (he : ∀ i, i < 14 → bs[i]? = some (m.testBit i)) : bs = rowB m := by
  apply List.ext_getElem?
  intro i
  by_cases hi : i < 14
  · rw [he i hi, rowB_at h hi]
  · rw [List.getElem?_eq_none (by omega), List.getElem?_eq_none (by rw [rowB_len h]; omega)]
theorem rowB_set {m r : Nat} {v : Bool} (hm : m < 32768) (h14 : m.testBit 14 = true) (hr : r < 14) : (rowB m).set r v = rowB (sb m r v) := by
  have h0 := bit_ne h14
  have h14' : (sb m r v).testBit 14 = true := by rw [sb_bit hm (by omega), if_neg (by omega)]; exact h14
  refine rowB_ext (bit_ne h14') (by rw [List.length_set, rowB_len h0]) fun i hi => ?_
  by_cases e : i = r
  · subst e
    rw [List.getElem?_set_self (by rw [rowB_len h0]; exact hr), sb_bit hm (by omega), if_pos rfl]
  · rw [List.getElem?_set_ne (fun e' => e e'.symm), rowB_at h0 hi, sb_bit hm (by omega), if_neg e]
theorem rowB_inj {m m' : Nat} (h : Gm m) (h' : Gm m') (e : rowB m = rowB m') : m = m' := by
  by_cases h0 : m = 0
  · subst h0
    by_cases h1 : m' = 0
    · exact h1.symm
    · have := rowB_len h1
      rw [← e, rowB_0] at this
      simp at this
  · have h1 : m' ≠ 0 := fun e1 => by
      have := rowB_len h0
      rw [e, e1, rowB_0] at this
      simp at this
    apply Nat.eq_of_testBit_eq
    intro b
    by_cases hb : b < 14
    · have h2 := rowB_at h0 hb
      rw [e, rowB_at h1 hb] at h2
      injection h2 with h2
      exact h2.symm
    · by_cases hb14 : b = 14
      · subst hb14; rw [h.pos h0, h'.pos h1]
      · rw [bit_lt h.1 (by omega), bit_lt h'.1 (by omega)]
theorem NewsAt.bools {w : World} {D : Nat → Prop} {A : Option Addr} {m : Nat} {xs : List Bool} (h : BAt w D xs A) (hm : xs.length = m) : NewsAt w A m (xs.map Value.bool) := by
  rcases A with _ | ad
  · by_cases h0 : m = 0
    · exact .inl ⟨rfl, h0⟩
    · obtain ⟨b, o, e, _⟩ := h.2 0 xs[0] (List.getElem?_eq_getElem (by omega))
      cases e
  · refine .inr ⟨ad, rfl, fun j u hu => ?_⟩
    rw [List.getElem?_map] at hu
    cases hx : xs[j]? with
    | none => rw [hx] at hu; cases hu
    | some x =>
      rw [hx] at hu
      cases hu
      obtain ⟨b, o, e, _, hc⟩ := h.2 j x hx
      cases e
      rw [add_none]
      exact hc
theorem one_bools (xs : List Bool) : ∀ u ∈ xs.map Value.bool, u.oneCell' = true := fun u hu => by
  obtain ⟨b, _, rfl⟩ := List.mem_map.1 hu
  rfl

/-- What the code's declarations say. -/
structure Decl (m : Cd) : Prop where
  nv : m.vars.length ≤ 12
  na : m.arrs.length ≤ 2
  lv : ∀ x ∈ m.vars, 0 ≤ x ∧ x ≤ 3
  la : ∀ x ∈ m.arrs, 0 ≤ x ∧ x ≤ 3
theorem codeB_decl {m : Cd} (h : codeB m = true) : Decl m := by
  unfold codeB at h
  simp only [Bool.and_eq_true] at h
  have hh := h.1.1
  unfold headsB at hh
  simp only [Bool.and_eq_true, decide_eq_true_iff, List.all_eq_true] at hh
  obtain ⟨⟨⟨⟨h1, h2⟩, _⟩, h3⟩, h4⟩ := hh
  have key : ∀ x, lokB x = true → 0 ≤ x ∧ x ≤ 3 := fun x hx => by unfold lokB at hx; simpa using hx
  exact ⟨h3, h4, fun x hx => key x (h1 x hx), fun x hx => key x (h2 x hx)⟩
theorem label_at {w : World} {xs : List Int} {a : Option Addr} (h : IAt w (fun b => b < w.heap.size) xs a) (hl : ∀ x ∈ xs, 0 ≤ x ∧ x ≤ 3) {n : Nat} (hn : n < xs.length) : ∃ z b o, a = some ⟨b, o, none⟩ ∧ b < w.heap.size ∧ w.cell? ⟨b, o + n, none⟩ = some (.int .i64 z) ∧ 0 ≤ z ∧ z ≤ 3 ∧ (z % 2 == 1) = secN xs n := by
  obtain ⟨b, o, ha, hb, hc⟩ := h.2 n hn
  have hx := hl (xs.getD n 0) (by rw [List.getD_eq_getElem?_getD, List.getElem?_eq_getElem hn]; exact List.getElem_mem _)
  exact ⟨_, b, o, ha, hb, hc, hx.1, hx.2, rfl⟩

/-- A row handed back in a new row. -/
def RowN (r : List Bool) (w : World) (e : Ending) (w' : World) : Prop := ∃ a c, e = .returned (.slice a 14 c) ∧ OwnB w' w.heap.size (.slice a 14 c) r ∧ r.length = 14 ∧ Below w.heap.size w w'

/-- Behind the copy of the row: the boxes, the copy, the arguments. -/
structure AfS (m : Cd) (k : CK) (x : Ins) (mk : Nat) (ra : Option Addr) (w w6 : World) (g c : Nat) : Prop where
  box : BoxC w6 w.heap.size m k
  ins : w6.heap[w.heap.size + 1]? = some (.cells (arrI x) 50 (0, 0))
  own : w6.ownsRow w.heap.size 4 1 (.slice (some ⟨g, 0, none⟩) 14 c) 14 ((rowB mk).map Value.bool)
  cl : CL w6 m k
  row : BAt w6 (fun b => b < w.heap.size) (rowB mk) ra
  bel : Below w.heap.size w w6
theorem AfS.drew {m : Cd} {k : CK} {x : Ins} {mk : Nat} {ra : Option Addr} {w w6 : World} {g c : Nat} (h : AfS m k x mk ra w w6 g c) : AfS m k x mk ra w w6.drew g c := ⟨h.box, h.ins, h.own, h.cl, h.row, h.bel.drew⟩
theorem AfS.fin {m : Cd} {k : CK} {x : Ins} {mk : Nat} {ra : Option Addr} {w w6 : World} {g c : Nat} (h : AfS m k x mk ra w w6 g c) (hm : mk < 32768) (h14 : mk.testBit 14 = true) {sv sa : Nat → Bool} (r : Nat) (v : Bool) (hr : r < 14) (hrx : x.fa.toNat = r) (hw : wrA x = true) (hv : newV sv sa x mk = v) : RowN (rowB (aftM sv sa x mk)) w (.returned (.slice (some ⟨g, 0, none⟩) 14 c)) (w6.setCell ⟨g, r, none⟩ (.bool v)) := by
  have e : rowB (aftM sv sa x mk) = (rowB mk).set r v := by unfold aftM; rw [if_pos hw, hrx, hv, rowB_set hm h14 hr]
  have hl : ((rowB mk).set r v).length = 14 := by rw [List.length_set, rowB_len (bit_ne h14)]
  have hg : w.heap.size ≤ g := (h.own.lt g rfl).1
  refine ⟨_, c, rfl, ?_, by rw [e, hl], h.bel.setCell (p := ⟨g, r, none⟩) hg _⟩
  rw [e]
  unfold OwnB
  rw [hl, List.map_set]
  exact (h.own.stored r (.bool v)).1
theorem AfS.same {m : Cd} {k : CK} {x : Ins} {mk : Nat} {ra : Option Addr} {w w6 : World} {g c : Nat} (h : AfS m k x mk ra w w6 g c) (h14 : mk.testBit 14 = true) {sv sa : Nat → Bool} (hw : wrA x = false) : RowN (rowB (aftM sv sa x mk)) w (.returned (.slice (some ⟨g, 0, none⟩) 14 c)) w6 := by
  have e : rowB (aftM sv sa x mk) = rowB mk := by unfold aftM; rw [if_neg (by rw [hw]; simp)]
  refine ⟨_, c, rfl, ?_, by rw [e, rowB_len (bit_ne h14)], h.bel⟩
  rw [e]
  unfold OwnB
  rw [rowB_len (bit_ne h14)]
  exact h.own
theorem AfS.cell {m : Cd} {k : CK} {x : Ins} {mk : Nat} {ra : Option Addr} {w w6 : World} {g c : Nat} (h : AfS m k x mk ra w w6 g c) (h14 : mk.testBit 14 = true) {r : Nat} (hr : r < 14) : (∃ u, w6.cell? ⟨g, r, none⟩ = some u) ∧ w6.frozen? ⟨g, r, none⟩ = false := by
  refine ⟨⟨.bool (mk.testBit r), ?_⟩, h.own.frozenAt r⟩
  rw [h.own.cellAt r (by omega), List.getElem?_map, rowB_at (bit_ne h14) hr]; rfl
theorem AfS.reg {m : Cd} {k : CK} {x : Ins} {mk : Nat} {ra : Option Addr} {w w6 : World} {g c : Nat} (h : AfS m k x mk ra w w6 g c) (h14 : mk.testBit 14 = true) : ∃ b o, ra = some ⟨b, o, none⟩ ∧ ∀ r, r < 14 → w6.cell? ⟨b, o + r, none⟩ = some (.bool (mk.testBit r)) := by
  obtain ⟨b, o, e, _, _⟩ := h.row.2 0 _ (rowB_at (bit_ne h14) (by omega))
  refine ⟨b, o, e, fun r hr => ?_⟩
  obtain ⟨b', o', e', _, hc⟩ := h.row.2 r _ (rowB_at (bit_ne h14) hr)
  rw [e] at e'
  cases e'
  exact hc
theorem ApA.some {w w6 : World} {base : Nat} {v : Value} {xs : List Value} {v' : Value} (h : ApA w base 4 1 v (0 + 14) xs v' w6) : ∃ g c, v' = .slice (some ⟨g, 0, none⟩) 14 c ∧ w6.ownsRow base 4 1 (.slice (some ⟨g, 0, none⟩) 14 c) 14 xs ∧ w.grownBy w6 v.ownBlock := by
  obtain ⟨a, cap, rfl, h1, h2, _⟩ := h
  rcases h1.2 with ⟨e, e2⟩ | ⟨g, cp, cur, e, _⟩
  · omega
  · cases e
    exact ⟨g, cap, rfl, h1, h2⟩

end Go.Proofs.YtbifbmpflhdijaaDoor

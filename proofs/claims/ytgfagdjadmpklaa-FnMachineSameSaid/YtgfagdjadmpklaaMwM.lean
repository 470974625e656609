/- The state of the second loop of a memory's draw: a row of slices of the call's own, each of four ints in a block of its own. -/
import Derived.Test.YtgfagdjadmpklaaL3D
import Derived.Test.YtgfagdjadmpklaaRmB
import Derived.Test.YtgfagdjadmpklaaSlB
import Derived.Deep.AppendLies
import Derived.Laws.Rows
import Derived.Test.YtgfagdjadmpklaaTreeP
import Derived.Maps.AppendAt
import Derived.Laws.OwnMore
import Derived.Test.YtgfagdjadmpklaaPut
import Derived.Deep.RegionHeld3
import Derived.Deep.RegionLaw
import Derived.Test.YtgfagdjadmpklaaMm
import Derived.Deep.CutRange
namespace Go.Proofs.Ytgfagdjadmpklaa
open Go.RowKit
set_option linter.unusedVariables false

theorem Try.infoSl : (Try.prog.info? 23).map (fun i => (i.zero, i.size, i.bytes)) = some (some (.slice none 0 0), 1, 24) := by kernel_rfl

theorem RI.wide {u : World} {lo hi lo' hi' : Nat} {a : Option Addr} {n : Nat} (h : RI u lo hi a n) (h1 : lo' ≤ lo) (h2 : hi ≤ hi') : RI u lo' hi' a n := fun k hk => by
  obtain ⟨b, o, z, e1, e2, e3, r⟩ := h k hk
  exact ⟨b, o, z, e1, by omega, by omega, r⟩
theorem RM.wide {u : World} {lo hi lo' hi' nv na : Nat} {va aa : Option Addr} (h : RM u lo hi nv na va aa) (h1 : lo' ≤ lo) (h2 : hi ≤ hi') : RM u lo' hi' nv na va aa :=
  ⟨h.vals.wide h1 h2, fun i hi' => by
    obtain ⟨b, o, a, c, e1, e2, e3, e4, e5, e6, e7⟩ := h.arrs i hi'
    exact ⟨b, o, a, c, e1, by omega, by omega, e4, e5, e6, e7.wide h1 h2⟩⟩

/-- An array of a memory: four ints in a block that is not the row's own. -/
def ArE (u : World) (Z : Nat) (t : Value) (q : Option Addr × Nat) : Prop := 4 ≤ q.2 ∧ q.2 ≤ maxLen ∧ ∃ b, q.1 = some ⟨b, 0, none⟩ ∧ Z ≤ b ∧ b < u.heap.size ∧ t.ownBlock ≠ some b ∧ ∀ k, k < 4 → ∃ z, u.cell? ⟨b, k, none⟩ = some (.int .i64 z) ∧ 0 ≤ z ∧ z ≤ 255 ∧ u.frozen? ⟨b, k, none⟩ = false

theorem ArE.keep {u u' : World} {Z : Nat} {t t' : Value} {q : Option Addr × Nat} (h : ArE u Z t q) (hz : u.heap.size ≤ u'.heap.size) (hs : ∀ j, Z ≤ j → j < u.heap.size → t.ownBlock ≠ some j → u'.heap[j]? = u.heap[j]?) (ht : t'.ownBlock = t.ownBlock ∨ ∃ g, t'.ownBlock = some g ∧ u.heap.size ≤ g) : ArE u' Z t' q := by
  obtain ⟨h1, h2, b, e, h3, h4, h5, h6⟩ := h
  have hb := hs b h3 h4 h5
  refine ⟨h1, h2, b, e, h3, by omega, ?_, fun k hk => ?_⟩
  · rcases ht with e1 | ⟨g, e1, hg⟩
    · rw [e1]; exact h5
    · rw [e1]; intro x; cases x; omega
  · obtain ⟨z, c1, c2, c3, c4⟩ := h6 k hk
    exact ⟨z, (World.cell?_of_block (w := u) hb).trans c1, c2, c3, (frozen_stand hb).trans c4⟩

theorem ArE.of_own {u : World} {base Z : Nat} {t : Value} {a : Option Addr} {c : Nat} {xs : List Int} (h : OwnI u base (.slice a 4 c) xs) (hx : xs.length = 4) (hv : ∀ x ∈ xs, 0 ≤ x ∧ x ≤ 255) (hZ : Z ≤ base) (ht : ∀ g, t.ownBlock = some g → g < base) : ArE u Z t (a, c) := by
  rcases h.2 with ⟨h1, h2⟩ | ⟨g, cap, cur, h1, h2, h3, h4, h5, _⟩
  · omega
  · injection h1 with e1 e2 e3
    subst e1 e3
    have h' : u.ownsRow base 3 1 (.slice (some ⟨g, 0, none⟩) 4 c) 4 (xs.map (Value.int .i64)) := by
      have := h
      unfold OwnI at this
      rw [hx] at this
      exact this
    refine ⟨by show 4 ≤ c; omega, h5, g, rfl, by omega, (Array.getElem?_eq_some_iff.1 h3).1, fun e => by have := ht g e; omega, fun k hk => ?_⟩
    obtain ⟨z, hz⟩ : ∃ z, xs[k]? = some z := ⟨xs[k]'(by omega), List.getElem?_eq_getElem _⟩
    refine ⟨z, ?_, (hv z (List.mem_of_getElem? hz)).1, (hv z (List.mem_of_getElem? hz)).2, frozen_of_row _ _ k _ _ h3⟩
    rw [World.ownsRow.cellAt h' k (by omega), List.getElem?_map, hz]; rfl

/-- The arrays so far: a row of the call's own from block Z on; the memory's box at X. -/
structure ArS (Z X : Nat) (vv : Value) (qs : List (Option Addr × Nat)) (aa : Option Addr) (j ac : Nat) (u : World) : Prop where
  len : qs.length = j
  own : u.ownsRow Z 23 1 (.slice aa j ac) j (qs.map fun q => .slice q.1 4 q.2)
  els : ∀ q ∈ qs, ArE u Z (.slice aa j ac) q
  bx : u.heap[X]? = some (.cells #[vv, .slice aa j ac] 26 (0, 0))

theorem ArS.nil {Z X : Nat} {vv : Value} {u : World} (h : u.heap[X]? = some (.cells #[vv, .slice none 0 0] 26 (0, 0))) : ArS Z X vv [] none 0 0 u := ⟨rfl, World.ownsRow_nil _ _ _ _, by simp, h⟩

theorem ArS.lt {Z X : Nat} {vv : Value} {qs : List (Option Addr × Nat)} {aa : Option Addr} {j ac : Nat} {u : World} (h : ArS Z X vv qs aa j ac u) : ∀ g, (Value.slice aa j ac).ownBlock = some g → Z ≤ g ∧ g < u.heap.size := fun g hg => h.own.lt g hg

/-- What stands from Z on, and the box, stands. -/
theorem ArS.stand {Z X : Nat} {vv : Value} {qs : List (Option Addr × Nat)} {aa : Option Addr} {j ac : Nat} {u u' : World} (h : ArS Z X vv qs aa j ac u) (hz : u.heap.size ≤ u'.heap.size) (hs : ∀ q, Z ≤ q → q < u.heap.size → u'.heap[q]? = u.heap[q]?) (hX : u'.heap[X]? = u.heap[X]?) : ArS Z X vv qs aa j ac u' := by
  refine ⟨h.len, ⟨h.own.1, ?_⟩, fun q hq => (h.els q hq).keep hz (fun j h1 h2 _ => hs j h1 h2) (.inl rfl), hX.trans h.bx⟩
  rcases h.own.2 with e | ⟨g, cp, cur, e1, e2, e3, e4⟩
  · exact .inl e
  · exact .inr ⟨g, cp, cur, e1, e2, (hs g e2 (Array.getElem?_eq_some_iff.1 e3).1).trans e3, e4⟩

/-- An array is appended. -/
theorem ArS.snoc {Z X : Nat} {vv : Value} {qs : List (Option Addr × Nat)} {aa a : Option Addr} {j ac c g cap : Nat} {u w5 : World} (h : ArS Z X vv qs aa j ac u) (hx : ArE u Z (.slice aa j ac) (a, c))
    (hown : w5.ownsRow Z 23 1 (.slice (some ⟨g, 0, none⟩) (j + 1) cap) (j + 1) ((qs.map fun q => .slice q.1 4 q.2) ++ [.slice a 4 c]))
    (hgrow : u.grownBy w5 (Value.slice aa j ac).ownBlock) (hat : (Value.slice aa j ac).ownBlock = some g ∨ u.heap.size ≤ g)
    (hX : X < Z) (hXu : X < u.heap.size) : ArS Z X vv (qs ++ [(a, c)]) (some ⟨g, 0, none⟩) (j + 1) cap (w5.setCell ⟨X, 1, none⟩ (.slice (some ⟨g, 0, none⟩) (j + 1) cap)) := by
  obtain ⟨w6, h6⟩ : ∃ w6, w5.setCell ⟨X, 1, none⟩ (.slice (some ⟨g, 0, none⟩) (j + 1) cap) = w6 := ⟨_, rfl⟩
  have hs6 : ∀ q, q ≠ X → w6.heap[q]? = w5.heap[q]? := fun q hq => by rw [← h6]; exact Below.heap_setCell _ _ _ _ (by simpa using hq)
  have hz6 : w6.heap.size = w5.heap.size := by rw [← h6]; simp
  have hsz := hgrow.size
  have hEl : ∀ q, ArE u Z (.slice aa j ac) q → ArE w6 Z (.slice (some ⟨g, 0, none⟩) (j + 1) cap) q := fun q hq =>
    hq.keep (by omega) (fun i h1 h2 h3 => (hs6 i (by omega)).trans (hgrow.block i h2 (fun e => h3 e.symm))) (by
      rcases hat with e | e
      · exact .inl (by rw [e]; rfl)
      · exact .inr ⟨g, rfl, e⟩)
  have hbx : w5.heap[X]? = some (.cells #[vv, .slice aa j ac] 26 (0, 0)) := (hgrow.block X hXu (fun e => by have := (h.lt X e.symm).1; omega)).trans h.bx
  rw [h6]
  refine ⟨by simp [h.len], ?_, ?_, ?_⟩
  · rw [List.map_append]
    refine ⟨hown.1, ?_⟩
    rcases hown.2 with e | ⟨g', cp, cur, e1, e2, e3, e4⟩
    · exact .inl e
    · exact .inr ⟨g', cp, cur, e1, e2, (hs6 g' (by omega)).trans e3, e4⟩
  · intro q hq
    rcases List.mem_append.1 hq with e | e
    · exact hEl q (h.els q e)
    · rw [List.mem_singleton] at e; subst e; exact hEl _ hx
  · rw [← h6, blk_set hbx]; rfl

/-- The memory, at the end. -/
theorem ArS.fin {Z X L : Nat} {vv : Value} {qs : List (Option Addr × Nat)} {aa : Option Addr} {j ac nv vc : Nat} {u : World} {va : Option Addr} {xs : List Int} (h : ArS Z X vv qs aa j ac u)
    (hv : OwnI u L (.slice va nv vc) xs) (hvn : xs.length = nv) (hvv : ∀ x ∈ xs, 0 ≤ x ∧ x ≤ 255) (hLZ : L ≤ Z) : RM u L u.heap.size nv j va aa := by
  have hl := h.len
  have hown := h.own
  subst hvn
  refine ⟨fun k hk => ?_, fun i hi => ?_⟩
  · rcases hv.2 with ⟨h1, h2⟩ | ⟨g, cap, cur, h1, h2, h3, h4, h5, _⟩
    · omega
    · cases h1
      obtain ⟨z, hz⟩ : ∃ z, xs[k]? = some z := ⟨xs[k]'(by omega), List.getElem?_eq_getElem _⟩
      refine ⟨g, 0, z, rfl, h2, (Array.getElem?_eq_some_iff.1 h3).1, ?_, (hvv z (List.mem_of_getElem? hz)).1, (hvv z (List.mem_of_getElem? hz)).2, frozen_of_row _ _ _ _ _ h3⟩
      rw [Nat.zero_add, World.ownsRow.cellAt hv k (by omega), List.getElem?_map, hz]; rfl
  · rcases hown.2 with ⟨h1, h2⟩ | ⟨g, cap, cur, h1, h2, h3, h4, h5, _⟩
    · omega
    · cases h1
      obtain ⟨q, hq⟩ : ∃ q, qs[i]? = some q := ⟨qs[i]'(by omega), List.getElem?_eq_getElem _⟩
      obtain ⟨a1, a2, b, e, b1, b2, b3, b4⟩ := h.els q (List.mem_of_getElem? hq)
      refine ⟨g, 0, q.1, q.2, rfl, by omega, (Array.getElem?_eq_some_iff.1 h3).1, ?_, a1, a2, fun k hk => ?_⟩
      · rw [Nat.zero_add, hown.cellAt i (by omega), List.getElem?_map, hq]; rfl
      · obtain ⟨z, c1, c2, c3, c4⟩ := b4 k hk
        exact ⟨b, 0, z, e, by omega, b2, by rw [Nat.zero_add]; exact c1, c2, c3, by rw [Nat.zero_add]; exact c4⟩

/-- The memory that was drawn so far. -/
def L3M2 (B m na X : Nat) (vv : Value) (V : World) (i : Value) (wr : World) : Prop := ∃ (qs : List (Option Addr × Nat)) (aa : Option Addr) (j ac : Nat),
  i = .int .i64 (j : Int) ∧ j ≤ na ∧ ArS V.heap.size X vv qs aa j ac wr ∧ RdU wr B (m + 4 * j) ∧ Below B V wr ∧ (∀ q, q < V.heap.size → q ≠ B → q ≠ X → wr.heap[q]? = V.heap[q]?)

/-- The array that was drawn so far. -/
def L3M3 (B m : Nat) (V : World) (a k : Value) (u : World) : Prop := ∃ (xs : List Int) (va : Option Addr) (vc : Nat),
  a = .slice va xs.length vc ∧ k = .int .i64 (xs.length : Int) ∧ xs.length ≤ 4 ∧ OwnI u V.heap.size (.slice va xs.length vc) xs ∧ (∀ x ∈ xs, 0 ≤ x ∧ x ≤ 255) ∧ RdU u B (m + xs.length) ∧ Below B V u ∧ (∀ j, j < V.heap.size → j ≠ B → u.heap[j]? = V.heap[j]?)

end Go.Proofs.Ytgfagdjadmpklaa

namespace Go.Proofs.Ytgfagdjadmpklaa
open Go.RowKit
set_option linter.unusedVariables false

/-- A row of ints stands where its own block stands. -/
theorem OwnI.far {w w' : World} {base : Nat} {v : Value} {xs : List Int} (h : OwnI w base v xs) (hs : ∀ g, v.ownBlock = some g → w'.heap[g]? = w.heap[g]?) : OwnI w' base v xs := by
  refine ⟨h.1, ?_⟩
  rcases h.2 with h1 | ⟨g, cap, cur, h1, h2, h3, r⟩
  · exact .inl h1
  · exact .inr ⟨g, cap, cur, h1, h2, (hs g (by rw [h1]; rfl)).trans h3, r⟩

theorem OwnI.drew' {w : World} {base : Nat} {v : Value} {xs : List Int} (h : OwnI w base v xs) : OwnI w.drew base v xs := h.far fun _ _ => rfl
theorem OwnI.made' (w : World) (base : Nat) (hb : base ≤ w.heap.size) : OwnI (w.alloc (.cells #[] 3)) base (.slice (some ⟨w.heap.size, 0, none⟩) 0 0) [] :=
  World.ownsRow_made w #[] 0 hb (by unfold maxLen; omega) rfl

theorem OwnI.by' {w w' : World} {base g0 g1 : Nat} (h : OwnI w base (.slice (some ⟨g0, 0, none⟩) 0 0) []) (hg : w.grownBy w' (some g1)) (hne : g0 ≠ g1) : OwnI w' base (.slice (some ⟨g0, 0, none⟩) 0 0) [] := h.far fun g e => by
  have hlt := ((show w.ownsRow base 3 1 (.slice (some ⟨g0, 0, none⟩) 0 0) 0 [] from h).lt g e).2
  cases e
  exact hg.block g0 hlt (fun e => hne (by injection e))

/-- What the append of a list of ints onto an empty row of the call's own leaves. -/
def CpI (w : World) (base g : Nat) (xs : List Int) (v : Value) (w' : World) : Prop := ∃ a cap, v = .slice a xs.length cap ∧ OwnI w' base (.slice a xs.length cap) xs ∧ w.grownBy w' (some g) ∧ ((Value.slice a xs.length cap).ownBlock = some g ∨ (Value.slice a xs.length cap).ownBlock = some w.heap.size)

theorem run_copyI (w : World) (ty base g : Nat) (hI : (Try.prog.info? 3).map (fun i => (i.zero, i.size, i.bytes)) = some (some (Value.int .i64 0), 1, 8)) (hown : OwnI w base (.slice (some ⟨g, 0, none⟩) 0 0) [])
    (xs : List Int) (A : Option Addr) (c : Nat) (D : Nat → Prop) (hr : IntsAt w D xs A) (hl : xs.length ≤ 1048576) (hb : base ≤ w.heap.size) :
    ∃ v w', (Builtin.append_ #[23, 23] ty #[.slice (some ⟨g, 0, none⟩) 0 0, .slice A xs.length c]).run Try.prog w = .ok v w' ∧ CpI w base g xs v w' := by
  obtain ⟨i, hi, hz, hsz, hby⟩ := info_parts hI
  rcases A with _ | ad
  · have h0 : xs = [] := by
      cases xs with
      | nil => rfl
      | cons x xs =>
        obtain ⟨b, o, h, _⟩ := hr 0 (by simp)
        cases h
    subst h0
    refine ⟨_, _, ?_, some ⟨g, 0, none⟩, 0, rfl, hown, World.grownBy.refl w _, .inl rfl⟩
    rcases hown.2 with ⟨h1, _⟩ | ⟨g', cap, cur, h1, _, _, hnc, _⟩
    · cases h1
    · cases h1
      simp [Builtin.append_, run_underlying Try.underlying23, sizeOf, typeInfo, hi, Builtin.lenOf, Builtin.firstCells, storeCells]
  · have hnews : ∀ j u, (xs.map (Value.int .i64))[j]? = some u → w.cell? (ad.add j) = some u := fun j u hu => by
      have hj : j < xs.length := by have := (List.getElem?_eq_some_iff.1 hu).1; simpa using this
      obtain ⟨b, o, he, _, hc⟩ := hr j hj
      cases he
      have hadd : (⟨b, o, none⟩ : Addr).add j = ⟨b, o + j, none⟩ := by unfold Addr.add; split <;> simp_all
      rw [hadd, hc]
      rw [List.getElem?_map, List.getElem?_eq_getElem hj] at hu
      simp only [Option.map_some, Option.some.injEq] at hu
      rw [← hu]
      simp [List.getD, List.getElem?_eq_getElem hj]
    obtain ⟨v', w', h1, h2, h3, h4, h5⟩ := run_append_own_at (P := Try.prog) w base 23 ty 3 i _ 1 8 Try.underlying23 hi hz hsz hby rfl (by omega) (.slice (some ⟨g, 0, none⟩) 0 0) 0 [] hown ad xs.length c (xs.map (Value.int .i64)) (by simp) hnews (by simp [Value.oneCell']) (by unfold maxLen; omega) (by omega) hb
    rw [Nat.zero_add, List.nil_append] at h2
    have hv : ∃ a cap, v' = .slice a xs.length cap := by
      rcases h2.2 with ⟨e1, e2⟩ | ⟨g', cap, cur, e1, _⟩
      · exact ⟨none, 0, by rw [e1, e2]⟩
      · exact ⟨_, _, e1⟩
    obtain ⟨a, cap, rfl⟩ := hv
    exact ⟨_, w', h1, a, cap, rfl, h2, h3, h5⟩

/-- At a step of a region that draws. -/
theorem step_copyI {ops : Array Oper} {o : Oper} {a : Act} {w : World} {K : Act → World → Prop} {Q : Exit → Act → World → Prop} {E : Prop} (hgd : o.guard = none) (s x : Operand)
    (ho : o.op = .call { callee := .builtin .append, args := #[s, x], argTypes := #[23, 23] }) (hI : (Try.prog.info? 3).map (fun i => (i.zero, i.size, i.bytes)) = some (some (Value.int .i64 0), 1, 8))
    (base g : Nat) (hs : a.eval s = .slice (some ⟨g, 0, none⟩) 0 0) (hown : OwnI w base (.slice (some ⟨g, 0, none⟩) 0 0) [])
    (xs : List Int) (A : Option Addr) (c : Nat) (hx : a.eval x = .slice A xs.length c) (D : Nat → Prop) (hr : IntsAt w D xs A) (hl : xs.length ≤ 1048576) (hb : base ≤ w.heap.size)
    (h : ∀ v w', CpI w base g xs v w' → K (a.put o.dst v) w') :
    if Region.wanted o (yielded ops a.tmps) = true then Oper.wp Try.prog o a w K Q else E := by
  have hw : Region.wanted o (yielded ops a.tmps) = true := by simp [Region.wanted, hgd]
  rw [if_pos hw]
  obtain ⟨v, w', hrun, hc⟩ := run_copyI w o.type base g hI hown xs A c D hr hl hb
  unfold Oper.wp execOp
  simp only [ho, resolve, invoke, builtin, Sem.run_bind, Sem.run_pure, Result.andThen_ok, List.map_toArray, List.map_cons, List.map_nil, hs, hx, hrun]
  exact h v w' hc

/-- At the list of a plain region's operations. -/
theorem wpList_copyI {ops : Array Oper} {rest : List Oper} {o : Oper} {a : Act} {w : World} {Q : Exit → Act → World → Prop} (hgd : o.guard = none) (s x : Operand)
    (ho : o.op = .call { callee := .builtin .append, args := #[s, x], argTypes := #[23, 23] }) (hI : (Try.prog.info? 3).map (fun i => (i.zero, i.size, i.bytes)) = some (some (Value.int .i64 0), 1, 8))
    (base g : Nat) (hs : a.eval s = .slice (some ⟨g, 0, none⟩) 0 0) (hown : OwnI w base (.slice (some ⟨g, 0, none⟩) 0 0) [])
    (xs : List Int) (A : Option Addr) (c : Nat) (hx : a.eval x = .slice A xs.length c) (D : Nat → Prop) (hr : IntsAt w D xs A) (hl : xs.length ≤ 1048576) (hb : base ≤ w.heap.size)
    (h : ∀ v w', CpI w base g xs v w' → wpList Try.prog ops Q rest (a.put o.dst v) w') : wpList Try.prog ops Q (o :: rest) a w :=
  wpList_plain hgd fun _ hK => by
    obtain ⟨v, w', hrun, hc⟩ := run_copyI w o.type base g hI hown xs A c D hr hl hb
    unfold Oper.wp execOp
    simp only [ho, resolve, invoke, builtin, Sem.run_bind, Sem.run_pure, Result.andThen_ok, List.map_toArray, List.map_cons, List.map_nil, hs, hx, hrun]
    exact hK _ _ (h v w' hc)

end Go.Proofs.Ytgfagdjadmpklaa

namespace Go.Proofs.Ytgfagdjadmpklaa
open Go.RowKit
set_option linter.unusedVariables false

theorem RI.ints {u : World} {lo hi : Nat} {a : Option Addr} : ∀ {n : Nat}, RI u lo hi a n → ∃ xs : List Int, xs.length = n ∧ (∀ x ∈ xs, 0 ≤ x ∧ x ≤ 255) ∧ IntsAt u (fun j => lo ≤ j ∧ j < hi) xs a
  | 0, _ => ⟨[], rfl, by simp, fun k hk => by simp at hk⟩
  | n + 1, h => by
    obtain ⟨xs, h1, h2, h3⟩ := RI.ints (n := n) fun k hk => h k (by omega)
    obtain ⟨b, o, z, e1, e2, e3, e4, e5, e6, _⟩ := h n (by omega)
    refine ⟨xs ++ [z], by simp [h1], fun x hx => ?_, fun k hk => ?_⟩
    · rcases List.mem_append.1 hx with e | e
      · exact h2 x e
      · rw [List.mem_singleton] at e; subst e; exact ⟨e5, e6⟩
    · by_cases hl : k < xs.length
      · obtain ⟨b', o', d1, d2, d3⟩ := h3 k hl
        refine ⟨b', o', d1, d2, ?_⟩
        rw [d3]
        simp [List.getD, List.getElem?_append_left hl]
      · have hk' : k = n := by simp at hk; omega
        subst hk'
        refine ⟨b, o, e1, ⟨e2, e3⟩, ?_⟩
        rw [e4]
        simp [List.getD, ← h1]

/-- The copy's state: what was copied so far. -/
def CpM2 (na X : Nat) (w : World) (vv : Value) (V : World) (i : Value) (wr : World) : Prop := ∃ (qs : List (Option Addr × Nat)) (aa : Option Addr) (j ac : Nat),
  i = .int .i64 (j : Int) ∧ j ≤ na ∧ ArS V.heap.size X vv qs aa j ac wr ∧ Below w.heap.size w wr ∧ V.heap.size ≤ wr.heap.size ∧ (∀ q, q < V.heap.size → q ≠ X → wr.heap[q]? = V.heap[q]?)

/-- The copy of a list of four. -/
def CpI4 (w : World) (base g : Nat) (xs : List Int) (v : Value) (w' : World) : Prop := ∃ a cap, v = .slice a 4 cap ∧ OwnI w' base (.slice a 4 cap) xs ∧ w.grownBy w' (some g) ∧ ((Value.slice a 4 cap).ownBlock = some g ∨ (Value.slice a 4 cap).ownBlock = some w.heap.size)
theorem step_copy4 {ops : Array Oper} {o : Oper} {a : Act} {w : World} {K : Act → World → Prop} {Q : Exit → Act → World → Prop} {E : Prop} (hgd : o.guard = none) (s x : Operand)
    (ho : o.op = .call { callee := .builtin .append, args := #[s, x], argTypes := #[23, 23] })
    (base g : Nat) (hs : a.eval s = .slice (some ⟨g, 0, none⟩) 0 0) (hown : OwnI w base (.slice (some ⟨g, 0, none⟩) 0 0) [])
    (xs : List Int) (hl : xs.length = 4) (A : Option Addr) (c : Nat) (hx : a.eval x = .slice A 4 c) (D : Nat → Prop) (hr : IntsAt w D xs A) (hb : base ≤ w.heap.size)
    (h : ∀ v w', CpI4 w base g xs v w' → K (a.put o.dst v) w') :
    if Region.wanted o (yielded ops a.tmps) = true then Oper.wp Try.prog o a w K Q else E :=
  step_copyI hgd s x ho Try.infoI base g hs hown xs A c (by rw [hl]; exact hx) D hr (by omega) hb fun v w' hc => h v w' (by
    obtain ⟨a, cap, e, r1, r2, r3⟩ := hc
    rw [hl] at e r1 r3
    exact ⟨a, cap, e, r1, r2, r3⟩)

set_option maxRecDepth 100000 in
set_option maxHeartbeats 2000000 in
theorem l3Copy_one (lo hi nv na vc ac : Nat) (va aa : Option Addr) (w : World) (h : RM w lo hi nv na va aa) (hhi : hi ≤ w.heap.size) (hnv : nv ≤ 12) (hna : na ≤ 2) :
    Calls Try.prog 86 #[aggMm va aa nv na vc ac] w fun e w' => ∃ (va' aa' : Option Addr) (vc' ac' : Nat), e = .returned (aggMm va' aa' nv na vc' ac') ∧ Below w.heap.size w w' ∧ RM w' w.heap.size w'.heap.size nv na va' aa' := by
  obtain ⟨xs, hxn, hxv, hxi⟩ := h.vals.ints
  subst hxn
  obtain ⟨W, hW⟩ : ∃ W, (w.alloc (.cells #[.slice va xs.length vc, .slice aa na ac] 26)).alloc (.cells #[.slice none 0 0, .slice none 0 0] 26) = W := ⟨_, rfl⟩
  have hz : W.heap.size = w.heap.size + 2 := by rw [← hW]; simp
  have hB : Below w.heap.size w W := by rw [← hW]; exact ((Below.refl _ w).alloc (Nat.le_refl _) _).alloc (by simp) _
  have e0 : W.heap[w.heap.size]? = some (.cells #[.slice va xs.length vc, .slice aa na ac] 26 (0, 0)) := by
    rw [← hW]; exact (Below.heap_alloc _ _ _ (by simp)).trans (heap_alloc_new w _)
  have e1 : W.heap[w.heap.size + 1]? = some (.cells #[.slice none 0 0, .slice none 0 0] 26 (0, 0)) := by
    have e1 := heap_alloc_new (w.alloc (.cells #[.slice va xs.length vc, .slice aa na ac] 26)) (.cells #[.slice none 0 0, .slice none 0 0] 26)
    rw [World.size_alloc] at e1
    rw [← hW]; exact e1
  have q0 : W.cell? ⟨w.heap.size, 0, none⟩ = some (.slice va xs.length vc) := by rw [cell_at e0]; rfl
  have hM : OwnI (W.alloc (.cells #[] 3)) (w.heap.size + 2) (.slice (some ⟨w.heap.size + 2, 0, none⟩) 0 0) [] := by have := OwnI.made' W (w.heap.size + 2) (by omega); rw [hz] at this; exact this
  have hI0 : IntsAt (W.alloc (.cells #[] 3)) (fun j => lo ≤ j ∧ j < hi) xs va := hxi.wide (fun j hj => (Below.heap_alloc _ _ _ (by omega)).trans (hB.block j (by omega))) (fun _ h => h)
  have H := Lib.hid h
  have HW := Lib.hid hW
  have HB := Lib.hid hB
  have HE0 := Lib.hid e0
  have HE1 := Lib.hid e1
  have HM := Lib.hid hM
  have HI0 := Lib.hid hI0
  clear h hxi hW hB e0 e1 hM hI0
  show Calls Try.prog 86 #[.agg #[.slice va xs.length vc, .slice aa na ac]] w _
  go_enter Try.func86, Try.ntmps86
  go_wp2_with (first | rw [HW.out] | (at_builtin; refine wpList_copyI (by rfl) _ _ (by rfl) Try.infoI (w.heap.size + 2) (w.heap.size + 2) (by rfl) HM.out xs _ _ (by rfl) _ HI0.out (by omega) (by simp; omega) ?_; rintro v w1 ⟨a1, c1, rfl, hv1, hgr1, hat1⟩))
  obtain ⟨n, hn⟩ : ∃ n, xs.length = n := ⟨_, rfl⟩
  obtain ⟨X, hX⟩ : ∃ X, w1.heap.size = X := ⟨_, rfl⟩
  obtain ⟨V, hV⟩ : ∃ V, w1.alloc (.cells #[.slice a1 n c1, .slice none 0 0] 26) = V := ⟨_, rfl⟩
  have hwl := hgr1.size
  rw [World.size_alloc, hz] at hwl
  have hVz : V.heap.size = X + 1 := by rw [← hV, World.size_alloc, hX]
  have hXw : w.heap.size + 3 ≤ X := by omega
  have hBV : Below w.heap.size w V := by
    rw [← hV]
    exact ((HB.out.alloc (by omega) _).grown hgr1 (by simp; omega) (fun k e => by cases e; omega)).alloc (by omega) _
  have hst1 : ∀ q, q < w.heap.size + 2 → V.heap[q]? = W.heap[q]? := fun q hq => by
    rw [← hV, Below.heap_alloc _ _ _ (by omega)]
    exact (hgr1.block q (by simp; omega) (fun e => by cases e; omega)).trans (Below.heap_alloc _ _ _ (by omega))
  have hbx : V.heap[X]? = some (.cells #[.slice a1 n c1, .slice none 0 0] 26 (0, 0)) := by rw [← hV, ← hX]; exact heap_alloc_new w1 _
  rw [hn] at hv1
  have hown : OwnI V (w.heap.size + 2) (.slice a1 n c1) xs := hv1.far fun g hg => by
    have hgl := ((show w1.ownsRow (w.heap.size + 2) 3 1 (.slice a1 n c1) xs.length (xs.map (Value.int .i64)) from hv1).lt g hg).2
    rw [← hV]; exact Below.heap_alloc _ _ _ hgl
  have hownlt : ∀ g, (Value.slice a1 n c1).ownBlock = some g → g < X := fun g hg => by
    have := ((show w1.ownsRow (w.heap.size + 2) 3 1 (.slice a1 n c1) xs.length (xs.map (Value.int .i64)) from hv1).lt g hg).2
    omega
  have HA0 : Hid (CpM2 na X w (.slice a1 n c1) V (.int .i64 0) V) := ⟨[], none, 0, 0, rfl, Nat.zero_le _, ArS.nil hbx, hBV, Nat.le_refl _, fun _ _ _ => rfl⟩
  have HOW := Lib.hid hown
  have HOL := Lib.hid hownlt
  have HBX0 : Hid (V.heap[w.heap.size]? = some (.cells #[.slice va n vc, .slice aa na ac] 26 (0, 0))) := by show _ = _; rw [hst1 _ (by omega), ← hn]; exact HE0.out
  have HBX1 : Hid (V.heap[w.heap.size + 1]? = some (.cells #[.slice none 0 0, .slice none 0 0] 26 (0, 0))) := by show _ = _; rw [hst1 _ (by omega)]; exact HE1.out
  have HN := Lib.hid hn
  have HXV := Lib.hid hxv
  have hww : w1.alloc (.cells #[.slice a1 xs.length c1, .slice none 0 0] 26) = V := by rw [hn]; exact hV
  rw [hww, hX, hn]
  rw [hn] at hnv
  have HRM := Lib.hid H.out
  rw [hn] at HRM
  clear hww hV hX hbx hown hownlt hv1 hgr1 hat1 hst1 hn hxv HM HI0 HE0 HE1 HW q0 H hwl
  go_loopw [4] (fun i wr => CpM2 na X w (.slice a1 n c1) V i wr) (fun i _ => na - (intOf i).toNat)
  case atStart => exact HA0.out
  case round =>
    obtain ⟨qs, ba, j, bc, rfl, hle2, hars, hbel2, hz2, hstd2⟩ := hrel
    have hb0 := (hstd2 w.heap.size (by omega) (by omega)).trans HBX0.out
    have p1 : wr.cell? ⟨w.heap.size, 1, none⟩ = some (.slice aa na ac) := by rw [cell_at hb0]; rfl
    have q1 : wr.cell? ⟨X, 1, none⟩ = some (.slice ba j bc) := by rw [cell_at hars.bx]; rfl
    have HARS := Lib.hid hars
    have HBEL2 := Lib.hid hbel2
    have HSTD2 := Lib.hid hstd2
    clear hars hbel2 hstd2
    by_cases hlt2 : j < na
    · obtain ⟨b, o, av, cv, rfl, hlb, hbh, hcb, hcv, hcm, hri⟩ := HRM.out.arrs j hlt2
      obtain ⟨ys, hyn, hyv, hyi⟩ := hri.ints
      have r1 : wr.cell? ⟨b, o + j, none⟩ = some (.slice av 4 cv) := (World.cell?_of_block (w := w) (a := ⟨b, o + j, none⟩) (HBEL2.out.block b (by omega))).trans hcb
      have HSA : Hid (∀ v : World, (∀ q, q < V.heap.size → v.heap[q]? = wr.heap[q]?) → v.cell? ⟨w.heap.size, 1, none⟩ = some (.slice (some ⟨b, o, none⟩) na ac) ∧ v.cell? ⟨X, 1, none⟩ = some (.slice ba j bc) ∧ v.cell? ⟨b, o + j, none⟩ = some (.slice av 4 cv)) := fun v hv =>
        ⟨(World.cell?_of_block (w := wr) (a := ⟨w.heap.size, 1, none⟩) (hv _ (by show w.heap.size < _; omega))).trans p1, (World.cell?_of_block (w := wr) (a := ⟨X, 1, none⟩) (hv _ (by show X < _; omega))).trans q1, (World.cell?_of_block (w := wr) (a := ⟨b, o + j, none⟩) (hv _ (by show b < _; omega))).trans r1⟩
      obtain ⟨d0, d1, d2⟩ := HSA.out wr.drew fun _ _ => rfl
      obtain ⟨e0, e1, e2⟩ := HSA.out (wr.alloc (.cells #[] 3)) fun q hq => Below.heap_alloc _ _ _ (by omega)
      obtain ⟨f0, f1, f2⟩ := HSA.out (wr.alloc (.cells #[] 3)).drew fun q hq => Below.heap_alloc _ _ _ (by omega)
      have M1 : Hid (OwnI (wr.alloc (.cells #[] 3)) wr.heap.size (.slice (some ⟨wr.heap.size, 0, none⟩) 0 0) []) := OwnI.made' wr wr.heap.size (Nat.le_refl _)
      have M1d : Hid (OwnI (wr.alloc (.cells #[] 3)).drew wr.heap.size (.slice (some ⟨wr.heap.size, 0, none⟩) 0 0) []) := M1.out.drew'
      have HY : Hid (∀ v : World, (∀ q, q < wr.heap.size → v.heap[q]? = wr.heap[q]?) → IntsAt v (fun j => lo ≤ j ∧ j < hi) ys av) := fun v hv => hyi.wide (fun q hq => (hv q (by omega)).trans (HBEL2.out.block q (by omega))) (fun _ h => h)
      have HY1 : Hid (IntsAt (wr.alloc (.cells #[] 3)) (fun j => lo ≤ j ∧ j < hi) ys av) := HY.out _ fun q hq => Below.heap_alloc _ _ _ hq
      have HY1d : Hid (IntsAt (wr.alloc (.cells #[] 3)).drew (fun j => lo ≤ j ∧ j < hi) ys av) := HY.out _ fun q hq => Below.heap_alloc _ _ _ hq
      obtain ⟨i0, hinf, hz0, hz1', hz2'⟩ := info_parts Try.infoSl
      clear hri hyi hcb
      go_wp2_with fail
      go_region_law (first
        | (refine step_copy4 (by rfl) _ _ (by rfl) wr.heap.size wr.heap.size (by rfl) (by first | exact M1.out | exact M1d.out) ys hyn av cv (by rfl) _ (by first | exact HY1.out | exact HY1d.out) (by simp) ?_; rintro v w2 ⟨a2, c2, rfl, hv2, hgr2, hat2⟩; have hs2 : ∀ q, q < wr.heap.size → w2.heap[q]? = wr.heap[q]? := fun q hq => (hgr2.block q (by first | (simp; omega) | (show q < (wr.alloc (.cells #[] 3)).heap.size; simp; omega)) (fun e => (by cases e; omega))).trans (Below.heap_alloc _ _ _ hq)
           have hz2w : wr.heap.size + 1 ≤ w2.heap.size := (by have h := hgr2.size; have h' : (wr.alloc (.cells #[] 3)).heap.size = wr.heap.size + 1 := World.size_alloc _ _; first | omega | exact Nat.le_trans (Nat.le_of_eq h'.symm) h)
           have hs2a : ∀ q, q < wr.heap.size → (w2.alloc (.cells #[.slice a2 4 c2] 23)).heap[q]? = wr.heap[q]? := fun q hq => (Below.heap_alloc _ _ _ (by omega)).trans (hs2 q hq)
           obtain ⟨x0, x1, x2⟩ := HSA.out w2 fun q hq => hs2 q (by omega)
           obtain ⟨y0, y1, y2⟩ := HSA.out (w2.alloc (.cells #[.slice a2 4 c2] 23)) fun q hq => hs2a q (by omega)
           have ha4 := HARS.out.stand (u' := w2.alloc (.cells #[.slice a2 4 c2] 23)) (by simp; omega) (fun q h1 h2 => hs2a q h2) (hs2a X (by omega))
           have hL4 := ha4.own)
        | (refine step_append_lies _ (by rfl) _ _ _ (by rfl) V.heap.size 23 i0 _ 1 24 Try.underlying24 hinf hz0 hz1' hz2' rfl (by omega) (.slice ba j bc) j _ (by rfl) hL4 ⟨w2.heap.size, 0, none⟩ 1 1 [.slice a2 4 c2] (by rfl) (by rfl) (World.news_of_block (cs := #[.slice a2 4 c2]) (t := 23) (fr := (0, 0)) (heap_alloc_new w2 _)) (by simp [Value.oneCell']) (by omega) (by unfold maxLen; omega) (by omega) (by simp; omega) (w2.heap.size + 1) (by simp) ?_; intro g cp w5 hown5 hgrow hat hlt5
           have hXr : some X ≠ (Value.slice ba j bc).ownBlock := fun e => (by have := (hL4.lt _ e.symm).1; omega)
           have hBX5 := (hgrow.block X (by simp; omega) hXr).trans ha4.bx
           have q25 : w5.cell? ⟨X, 1, none⟩ = some (.slice ba j bc) := (by rw [cell_at hBX5]; rfl)
           have f25 : w5.frozen? ⟨X, 1, none⟩ = false := frozen_of_row _ _ 1 _ _ hBX5))
      all_goals
        have HNEW : Hid (CpM2 na X w (.slice a1 n c1) V (.int .i64 ((j : Int) + 1)) (w5.setCell ⟨X, 1, none⟩ (.slice (some ⟨g, 0, none⟩) (j + 1) cp))) := by
          have hXu : X < w2.heap.size := by omega
          have hb5 : Below V.heap.size (w2.alloc (.cells #[.slice a2 4 c2] 23)) w5 := (Below.refl _ _).grown hgrow (by simp; omega) (fun q e => (hL4.lt q e).1)
          have hb2 : Below wr.heap.size wr w2 := by
            first
            | exact ((Below.refl _ wr).alloc (Nat.le_refl _) _).grown hgr2 (by simp) (fun k e => by cases e; omega)
            | exact ((Below.refl _ wr).alloc (Nat.le_refl _) _).drew.grown hgr2 (by show wr.heap.size ≤ (wr.alloc (.cells #[] 3)).heap.size; simp) (fun k e => by cases e; omega)
          have hb6 : Below w.heap.size wr (w5.setCell ⟨X, 1, none⟩ (.slice (some ⟨g, 0, none⟩) (j + 1) cp)) := by
            have hmid : Below w.heap.size wr w5 := ((hb2.mono (by omega)).alloc (by omega) _).trans (hb5.mono (by omega))
            exact hmid.setCell (p := ⟨X, 1, none⟩) (show w.heap.size ≤ X by omega) _
          have hat' : (Value.slice ba j bc).ownBlock = some g ∨ (w2.alloc (.cells #[.slice a2 4 c2] 23)).heap.size ≤ g := by
            rcases hat with h | h
            · exact .inl h
            · exact .inr (by simp; omega)
          have hel4 : ArE (w2.alloc (.cells #[.slice a2 4 c2] 23)) V.heap.size (.slice ba j bc) (a2, c2) := by
            have ho := hv2.stand (w' := w2.alloc (.cells #[.slice a2 4 c2] 23)) (fun q hq hq' => Below.heap_alloc _ _ _ hq')
            exact ArE.of_own ho hyn hyv hz2 fun g hg => (HARS.out.lt g hg).2
          refine ⟨qs ++ [(a2, c2)], some ⟨g, 0, none⟩, j + 1, cp, rfl, by omega, ha4.snoc hel4 hown5 hgrow hat' (by omega) (by simp; omega), HBEL2.out.trans hb6, ?_, ?_⟩
          · exact Nat.le_trans hz2 hb6.size
          · intro q hq hqX
            have hs : (w5.setCell ⟨X, 1, none⟩ (.slice (some ⟨g, 0, none⟩) (j + 1) cp)).heap[q]? = w5.heap[q]? := Below.heap_setCell _ _ _ _ (by simpa using hqX)
            rw [hs]
            exact (hb5.block q hq).trans ((hs2a q (by omega)).trans (HSTD2.out q hq hqX))
        clear x0 x1 x2 y0 y1 y2 d0 d1 d2 e0 e1 e2 f0 f1 f2 ha4 hL4 hs2 hs2a hv2 hgr2 hat2 hown5 hgrow hat hlt5 hXr hBX5 q25 f25 HARS HBEL2 HSTD2 HSA M1 M1d HY HY1 HY1d q1 p1 r1
        go_wp2_with fail
        go_roundw
        case rel => exact HNEW.out
        case measure => simp [intOf]; omega
    · have hjn : j = na := by omega
      subst hjn
      have hr1 : wr.heap[w.heap.size + 1]? = some (.cells #[.slice none 0 0, .slice none 0 0] 26 (0, 0)) := (HSTD2.out (w.heap.size + 1) (by omega) (by omega)).trans HBX1.out
      have g0 : wr.cell? ⟨X, 0, none⟩ = some (.slice a1 n c1) := by rw [cell_at HARS.out.bx]; rfl
      obtain ⟨r0, hr0⟩ := cell_ex hr1 0 (by simp)
      obtain ⟨r1', hr1'⟩ := cell_ex hr1 1 (by simp)
      have f0 := frozen_at hr1 0
      have f1 := frozen_at hr1 1
      have HFIN : Hid (Below w.heap.size w (put wr (w.heap.size + 1) 0 [.slice a1 n c1, .slice ba j bc]) ∧ RM (put wr (w.heap.size + 1) 0 [.slice a1 n c1, .slice ba j bc]) w.heap.size (put wr (w.heap.size + 1) 0 [.slice a1 n c1, .slice ba j bc]).heap.size n j a1 ba) := by
        have hpb : Below w.heap.size wr (put wr (w.heap.size + 1) 0 [.slice a1 n c1, .slice ba j bc]) := put_below _ _ _ w.heap.size (w.heap.size + 1) 0 (Below.refl _ wr) (by omega)
        refine ⟨HBEL2.out.trans hpb, ?_⟩
        have ho : OwnI wr (w.heap.size + 2) (.slice a1 n c1) xs := HOW.out.far fun g hg => HSTD2.out g (by have := HOL.out g hg; omega) (by have := HOL.out g hg; omega)
        have hrm := HARS.out.fin ho HN.out HXV.out (by omega)
        have hrm' := hrm.stand (u' := put wr (w.heap.size + 1) 0 [.slice a1 n c1, .slice ba j bc]) fun q h1 h2 => put_other _ _ _ _ _ (by omega)
        exact hrm'.wide (by omega) (by rw [put_size]; omega)
      clear hr1 HARS HBEL2 HSTD2
      go_wp2_with fail
      exact bodyPost_ret (v := aggMm a1 ba n j c1 bc) (by simp [results, Try.f86, go_sem, hr0, hr1']) rfl (by rw [HN.out]; exact ⟨a1, ba, c1, bc, rfl, HFIN.out⟩)

end Go.Proofs.Ytgfagdjadmpklaa

namespace Go.Proofs.Ytgfagdjadmpklaa
open Go.RowKit
set_option linter.unusedVariables false

/-- The state of the first loop. -/
def L3M1 (B m nv X : Nat) (W : World) (i : Value) (wr : World) : Prop := ∃ (xs : List Int) (va : Option Addr) (vc : Nat),
  i = .int .i64 (xs.length : Int) ∧ xs.length ≤ nv ∧ OwnI wr W.heap.size (.slice va xs.length vc) xs ∧ (∀ x ∈ xs, 0 ≤ x ∧ x ≤ 255) ∧ RdU wr B (m + xs.length) ∧ Below B W wr ∧ wr.heap[X]? = some (.cells #[.slice va xs.length vc, .slice none 0 0] 26 (0, 0)) ∧ (∀ j, j < W.heap.size → j ≠ B → j ≠ X → wr.heap[j]? = W.heap[j]?)

set_option maxRecDepth 100000 in
set_option maxHeartbeats 1000000 in
theorem l3Memory_one (B m nv na nb pvc pac pbc : Nat) (pv pa pb : Option Addr) (w : World) (h : RdU w B m) (hm : m < 1099511620000) (hnv : nv ≤ 12) (hna : na ≤ 2) :
    Calls Try.prog 82 #[.pointer (some ⟨B, 0, none⟩), aggPr pv pa pb nv na nb pvc pac pbc] w fun e w' => ∃ (va' aa' : Option Addr) (vc' ac' : Nat), e = .returned (aggMm va' aa' nv na vc' ac') ∧ Below B w w' ∧ Oth B w w' ∧ RdU w' B (m + nv + 4 * na) ∧ RM w' w.heap.size w'.heap.size nv na va' aa' := by
  have hlt := h.lt
  obtain ⟨W1, hW1⟩ : ∃ W, w.alloc (.cells #[.slice pv nv pvc, .slice pa na pac, .slice pb nb pbc] 55) = W := ⟨_, rfl⟩
  obtain ⟨W2, hW2⟩ : ∃ W, W1.alloc (.cells #[.slice none 0 0, .slice none 0 0] 26) = W := ⟨_, rfl⟩
  obtain ⟨W, hW⟩ : ∃ W, W2.alloc (.cells #[.slice none 0 0, .slice none 0 0] 26) = W := ⟨_, rfl⟩
  have hz1 : W1.heap.size = w.heap.size + 1 := by rw [← hW1]; simp
  have hz2 : W2.heap.size = w.heap.size + 2 := by rw [← hW2, World.size_alloc, hz1]
  have hz : W.heap.size = w.heap.size + 3 := by rw [← hW, World.size_alloc, hz2]
  have hB : Below w.heap.size w W := by rw [← hW, ← hW2, ← hW1]; exact (((Below.refl _ w).alloc (Nat.le_refl _) _).alloc (by simp) _).alloc (by simp; omega) _
  have e0 : W.heap[w.heap.size]? = some (.cells #[.slice pv nv pvc, .slice pa na pac, .slice pb nb pbc] 55 (0, 0)) := by
    rw [← hW, Below.heap_alloc _ _ _ (by omega), ← hW2, Below.heap_alloc _ _ _ (by omega), ← hW1]; exact heap_alloc_new w _
  have e2 : W.heap[w.heap.size + 2]? = some (.cells #[.slice none 0 0, .slice none 0 0] 26 (0, 0)) := by rw [← hW, ← hz2]; exact heap_alloc_new W2 _
  have e1 : W.heap[w.heap.size + 1]? = some (.cells #[.slice none 0 0, .slice none 0 0] 26 (0, 0)) := by
    rw [← hW, Below.heap_alloc _ _ _ (by omega), ← hW2, ← hz1]; exact heap_alloc_new W1 _
  have HE1 := Lib.hid e1
  have HM0 : Hid (L3M1 B m nv (w.heap.size + 2) W (.int .i64 0) W) := ⟨[], none, 0, rfl, Nat.zero_le _, World.ownsRow_nil _ _ _ _, by simp, h.below hB hlt, Below.refl _ _, e2, fun _ _ _ _ => rfl⟩
  have hWW : ((w.alloc (.cells #[.slice pv nv pvc, .slice pa na pac, .slice pb nb pbc] 55)).alloc (.cells #[.slice none 0 0, .slice none 0 0] 26)).alloc (.cells #[.slice none 0 0, .slice none 0 0] 26) = W := by rw [hW1, hW2, hW]
  have HW := Lib.hid hWW
  have HE0 := Lib.hid e0
  have HB := Lib.hid hB
  have HZ : Hid (w.heap.size + 3 ≤ W.heap.size) := by show _ ≤ _; omega
  clear h hB e0 e1 e2 hWW hW hW1 hW2 hz1 hz2
  show Calls Try.prog 82 #[.pointer (some ⟨B, 0, none⟩), .agg #[.slice pv nv pvc, .slice pa na pac, .slice pb nb pbc]] w _
  go_enter Try.func82, Try.ntmps82
  go_wp2_with fail
  rw [HW.out]
  have hx : w.heap.size + 1 + 1 = w.heap.size + 2 := rfl
  go_loopw [6] (fun i wr => L3M1 B m nv (w.heap.size + 2) W i wr) (fun i _ => nv - (intOf i).toNat)
  case atStart => exact HM0.out
  case round =>
    obtain ⟨xs, va, vc, rfl, hle, hrow, hval, hrd, hbel, hbx, hstd⟩ := hrel
    obtain ⟨n1, hn⟩ : ∃ n, xs.length = n := ⟨_, rfl⟩
    have HNN := Lib.hid hn
    have HROW := Lib.hid hrow
    have HVAL := Lib.hid hval
    have HBEL := Lib.hid hbel
    have HSTD := Lib.hid hstd
    have hz := hbel.size
    rw [hn] at hle hbx hrd
    have HRD := Lib.hid hrd
    have HBX := Lib.hid hbx
    have HRDd : Hid (RdU wr.drew B (m + n1)) := hrd.drew
    have hlX : w.heap.size + 2 < wr.heap.size := (Array.getElem?_eq_some_iff.1 hbx).1
    have hBr := hrd.lt
    have p0 : wr.cell? ⟨w.heap.size, 0, none⟩ = some (.slice pv nv pvc) := by
      rw [cell_at ((hstd w.heap.size (by have := (Array.getElem?_eq_some_iff.1 HE0.out).1; omega) (by omega) (by omega)).trans HE0.out)]; rfl
    have q2 : wr.cell? ⟨w.heap.size + 2, 0, none⟩ = some (.slice va n1 vc) := by rw [cell_at hbx]; rfl
    clear hrow hval hbel hstd hrd hbx
    rw [hn]
    clear hn
    obtain ⟨i0, hinf, hz0, hz1', hz2⟩ := info_parts Try.infoI
    have hWz : w.heap.size + 3 ≤ W.heap.size := HZ.out
    by_cases hlt1 : n1 < nv
    · go_wp2_with fail
      go_region_law (first
        | (go_simp; go_at_call 84; refine (l3Value_one B (m + n1) wr.drew HRDd.out (by omega)).mono ?_; rintro f u ⟨x, hx, rfl, hr5, ho5, hb5⟩; have hO5 : Oth B wr u := ((Oth.refl B wr).drew).trans ho5; have hs5 := hO5.1; have hBXu := (hO5.2 (w.heap.size + 2) (by omega) (by omega)).trans HBX.out; have q2u : u.cell? ⟨w.heap.size + 2, 0, none⟩ = some (.slice va n1 vc) := (by rw [cell_at hBXu]; rfl)
           have hBXa : (u.alloc (.cells #[.int .i64 x] 3)).heap[(w.heap.size + 2)]? = some (.cells #[.slice va n1 vc, .slice none 0 0] 26 (0, 0)) := (Below.heap_alloc _ _ _ (by omega)).trans hBXu
           have q2a : (u.alloc (.cells #[.int .i64 x] 3)).cell? ⟨w.heap.size + 2, 0, none⟩ = some (.slice va n1 vc) := (by rw [cell_at hBXa]; rfl)
           have hL2 : (u.alloc (.cells #[.int .i64 x] 3)).ownsRow W.heap.size 3 1 (.slice va n1 vc) n1 (xs.map (Value.int .i64)) := (by have := HROW.out.stand (w' := u.alloc (.cells #[.int .i64 x] 3)) (fun j hj hj' => (Below.heap_alloc _ _ _ (by omega)).trans (hO5.2 j hj' (by omega))); unfold OwnI at this; rw [HNN.out] at this; exact this))
        | (refine step_append_lies _ (by rfl) _ _ _ (by rfl) W.heap.size 3 i0 _ 1 8 Try.underlying23 hinf hz0 hz1' hz2 rfl (by omega) (.slice va n1 vc) n1 _ (by rfl) hL2 ⟨u.heap.size, 0, none⟩ 1 1 [.int .i64 x] (by rfl) (by rfl) (World.news_of_block (cs := #[.int .i64 x]) (t := 3) (fr := (0, 0)) (heap_alloc_new u _)) (by simp [Value.oneCell']) (by omega) (by unfold maxLen; omega) (by omega) (by simp; omega) (u.heap.size + 1) (by simp) ?_; intro g cap w5 hown5 hgrow hat hlt5
           have hXr : some (w.heap.size + 2) ≠ (Value.slice va n1 vc).ownBlock := fun e => (by have := (hL2.lt _ e.symm).1; omega)
           have hBX5 := (hgrow.block (w.heap.size + 2) (by simp; omega) hXr).trans hBXa
           have q25 : w5.cell? ⟨w.heap.size + 2, 0, none⟩ = some (.slice va n1 vc) := (by rw [cell_at hBX5]; rfl)
           have f25 := frozen_of_row _ _ 0 _ _ hBX5))
      all_goals
        have hlen : (xs ++ [x]).length = n1 + 1 := by rw [List.length_append, HNN.out]; rfl
        have HREL : Hid (L3M1 B m nv (w.heap.size + 2) W (.int .i64 ((n1 : Int) + 1)) (w5.setCell ⟨w.heap.size + 2, 0, none⟩ (.slice (some ⟨g, 0, none⟩) (n1 + 1) cap))) := by
          have hba : Below u.heap.size u (u.alloc (.cells #[.int .i64 x] 3)) := (Below.refl _ _).alloc (Nat.le_refl _) _
          have hb5' : Below W.heap.size (u.alloc (.cells #[.int .i64 x] 3)) w5 := (Below.refl _ _).grown hgrow (by simp; omega) (fun k e => (hL2.lt k e).1)
          have hst : ∀ q, q ≠ w.heap.size + 2 → ((w5.setCell ⟨w.heap.size + 2, 0, none⟩ (.slice (some ⟨g, 0, none⟩) (n1 + 1) cap))).heap[q]? = w5.heap[q]? := fun q hq => Below.heap_setCell _ _ _ _ (by simpa using hq)
          have hmid : Below (w.heap.size + 2) u w5 := (hba.mono (by omega)).trans (hb5'.mono (by omega))
          have hb6 : Below (w.heap.size + 2) u (w5.setCell ⟨w.heap.size + 2, 0, none⟩ (.slice (some ⟨g, 0, none⟩) (n1 + 1) cap)) := hmid.setCell (p := ⟨w.heap.size + 2, 0, none⟩) (Nat.le_refl _) _
          refine ⟨xs ++ [x], some ⟨g, 0, none⟩, cap, by rw [hlen]; rfl, by rw [hlen]; omega, ?_, ?_, ?_, ?_, ?_, ?_⟩
          · have ho : OwnI w5 W.heap.size (.slice (some ⟨g, 0, none⟩) (xs ++ [x]).length cap) (xs ++ [x]) := by
              unfold OwnI
              rw [hlen, List.map_append]
              exact hown5
            exact ho.stand fun j hj _ => hst j (by omega)
          · intro y hy
            rcases List.mem_append.1 hy with h | h
            · exact HVAL.out y h
            · rw [List.mem_singleton] at h; subst h; exact hx
          · rw [hlen]
            exact (hr5.below hb6 (by omega)).mono (by omega)
          · exact HBEL.out.trans (((Below.refl B wr).drew.trans hb5).trans (hb6.mono (by omega)))
          · rw [blk_set hBX5, hlen]; rfl
          · intro j hj hjB hjX
            rw [hst j hjX]
            exact (hb5'.block j hj).trans ((hba.block j (by omega)).trans ((hO5.2 j (by omega) hjB).trans (HSTD.out j hj hjB hjX)))
        clear hx hr5 ho5 hb5 hO5 hBXu q2u hBXa q2a hL2 hown5 hgrow hat hlt5 hXr hBX5 q25 f25 HROW HRD HBEL HSTD HBX HRDd HVAL q2
        go_wp2_with fail
        go_roundw
        case rel => exact HREL.out
        case measure => simp [intOf]; omega
    · have hnv1 : n1 = nv := by omega
      subst hnv1
      have p1 : wr.cell? ⟨w.heap.size, 1, none⟩ = some (.slice pa na pac) := by
        rw [cell_at ((HSTD.out w.heap.size (by omega) (by omega) (by omega)).trans HE0.out)]; rfl
      obtain ⟨V, hV⟩ : ∃ V, V = wr := ⟨_, rfl⟩
      subst hV
      have HP1 := Lib.hid p1
      have HA0 : Hid (L3M2 B (m + n1) na (w.heap.size + 2) (.slice va n1 vc) V (.int .i64 0) V) := ⟨[], none, 0, 0, rfl, Nat.zero_le _, ArS.nil HBX.out, HRD.out, Below.refl _ _, fun _ _ _ _ => rfl⟩
      go_wp2_with fail
      go_loopw [7] (fun i wr => L3M2 B (m + n1) na (w.heap.size + 2) (.slice va n1 vc) V i wr) (fun i _ => na - (intOf i).toNat)
      case atStart => exact HA0.out
      case round =>
        obtain ⟨qs, aa, j, ac, rfl, hle2, hars, hrd2, hbel2, hstd2⟩ := hrel
        obtain ⟨V2, hV2⟩ : ∃ V2, V2 = wr := ⟨_, rfl⟩
        subst hV2
        have hz2v := hbel2.size
        have p1 : V2.cell? ⟨w.heap.size, 1, none⟩ = some (.slice pa na pac) := (World.cell?_of_block (w := V) (hstd2 w.heap.size (by omega) (by omega) (by omega))).trans HP1.out
        have HARS := Lib.hid hars
        have HRD2 := Lib.hid hrd2
        have HBEL2 := Lib.hid hbel2
        have HSTD2 := Lib.hid hstd2
        have q2 : V2.cell? ⟨w.heap.size + 2, 1, none⟩ = some (.slice aa j ac) := by rw [cell_at hars.bx]; rfl
        have HQ2 := Lib.hid q2
        clear hars hrd2 hbel2 hstd2 q2
        have HC0 : Hid (L3M3 B (m + n1 + 4 * j) V2 (.slice (some ⟨V2.heap.size, 0, none⟩) 0 0) (.int .i64 0) (V2.alloc (.cells #[] 3))) :=
          ⟨[], some ⟨V2.heap.size, 0, none⟩, 0, rfl, rfl, by simp, World.ownsRow_made V2 #[] 0 (Nat.le_refl _) (by unfold maxLen; omega) rfl, by simp, HRD2.out.alloc _, (Below.refl B V2).alloc (by omega) _, fun _ h _ => Below.heap_alloc _ _ _ h⟩
        by_cases hlt2 : j < na
        · go_wp2_with fail
          go_loopw [8, 9] (fun a k u => L3M3 B (m + n1 + 4 * j) V2 a k u) (fun _ k _ => 4 - (intOf k).toNat)
          case atStart => exact HC0.out
          case round =>
            obtain ⟨ys, ya, yc, rfl, rfl, hle3, hown3, hval3, hrd3, hbel3, hstd3⟩ := hrel
            obtain ⟨k, hk⟩ : ∃ k, ys.length = k := ⟨_, rfl⟩
            have HK := Lib.hid hk
            have hz3 := hbel3.size
            rw [hk] at hle3 hrd3
            have HOWN3 := Lib.hid hown3
            have HVAL3 := Lib.hid hval3
            have HRD3 := Lib.hid hrd3
            have HRD3d : Hid (RdU wr.drew B (m + n1 + 4 * j + k)) := hrd3.drew
            have HBEL3 := Lib.hid hbel3
            have HSTD3 := Lib.hid hstd3
            have hBr3 := hrd3.lt
            clear hown3 hval3 hrd3 hbel3 hstd3
            rw [hk]
            clear hk
            by_cases hlt3 : k < 4
            · obtain ⟨i0, hinf, hz0, hz1', hz2⟩ := info_parts Try.infoI
              go_wp2_with fail
              refine (l3Value_one B (m + n1 + 4 * j + k) wr HRD3.out (by omega)).mono ?_
              rintro f u ⟨x, hx, rfl, hr5, ho5, hb5⟩
              have hs5 := ho5.1
              have hL3 : (u.alloc (.cells #[.int .i64 x] 3)).ownsRow V2.heap.size 3 1 (.slice ya k yc) k (ys.map (Value.int .i64)) := by
                have := HOWN3.out.stand (w' := u.alloc (.cells #[.int .i64 x] 3)) (fun q hq hq' => (Below.heap_alloc _ _ _ (by omega)).trans (ho5.2 q hq' (by omega)))
                unfold OwnI at this
                rw [HK.out] at this
                exact this
              have hNB : (u.alloc (.cells #[.int .i64 x] 3)).heap[u.heap.size]? = some (.cells #[.int .i64 x] 3 (0, 0)) := heap_alloc_new u _
              go_wp2_with (at_builtin; refine wpList_append_lies _ (by rfl) _ _ 23 (by rfl) V2.heap.size 3 i0 _ 1 8 Try.underlying23 hinf hz0 hz1' hz2 rfl (by omega) (.slice ya k yc) k _ (by rfl) hL3 ⟨u.heap.size, 0, none⟩ 1 1 _ (by rfl) (by rfl) (World.news_of_block hNB) (by simp [Value.oneCell']) (by omega) (by unfold maxLen; omega) (by omega) (by simp; omega) (u.heap.size + 1) (by simp) ?_; intro g cp w6 hown6 hgrow hat hlt6)
              have hlen : (ys ++ [x]).length = k + 1 := by rw [List.length_append, HK.out]; rfl
              have HNEW : Hid (L3M3 B (m + n1 + 4 * j) V2 (.slice (some ⟨g, 0, none⟩) (k + 1) cp) (.int .i64 ((k : Int) + 1)) w6) := by
                have hba : Below u.heap.size u (u.alloc (.cells #[.int .i64 x] 3)) := (Below.refl _ _).alloc (Nat.le_refl _) _
                have hb6 : Below V2.heap.size (u.alloc (.cells #[.int .i64 x] 3)) w6 := (Below.refl _ _).grown hgrow (by simp; omega) (fun q e => (hL3.lt q e).1)
                have hb7 : Below V2.heap.size u w6 := (hba.mono (by omega)).trans hb6
                refine ⟨ys ++ [x], some ⟨g, 0, none⟩, cp, by rw [hlen], by rw [hlen]; rfl, by omega, ?_, ?_, ?_, ?_, ?_⟩
                · unfold OwnI
                  rw [hlen, List.map_append]
                  exact hown6
                · intro y hy
                  rcases List.mem_append.1 hy with h | h
                  · exact HVAL3.out y h
                  · rw [List.mem_singleton] at h; subst h; exact hx
                · rw [hlen]
                  exact (hr5.below hb7 (by omega)).mono (by omega)
                · exact (HBEL3.out.trans hb5).trans (hb7.mono (by omega))
                · intro q hq hqB
                  exact (hb7.block q hq).trans ((ho5.2 q (by omega) hqB).trans (HSTD3.out q hq hqB))
              clear hx hr5 ho5 hb5 hs5 hL3 hNB hown6 hgrow hat hlt6 HOWN3 HVAL3 HRD3 HRD3d HBEL3 HSTD3 hlen
              go_wp2_with fail
              go_roundw
              case rel => exact HNEW.out
              case measure => simp [intOf]; omega
            · have hk4 : k = 4 := by omega
              subst hk4
              obtain ⟨i0, hinf, hz0, hz1', hz2⟩ := info_parts Try.infoSl
              have hBl : B < w.heap.size := hlt
              have ha3 := HARS.out.stand (u' := wr) hz3 (fun q h1 h2 => HSTD3.out q h2 (by omega)) (HSTD3.out (w.heap.size + 2) (by omega) (by omega))
              have ha4 := ha3.stand (u' := wr.alloc (.cells #[.slice ya 4 yc] 23)) (by simp) (fun q h1 h2 => Below.heap_alloc _ _ _ h2) (Below.heap_alloc _ _ _ (by omega))
              have HA4 := Lib.hid ha4
              have q2w : wr.cell? ⟨w.heap.size + 1 + 1, 1, none⟩ = some (.slice aa j ac) := by rw [show w.heap.size + 1 + 1 = w.heap.size + 2 from rfl, cell_at ha3.bx]; rfl
              have hL4 := ha4.own
              have hNB : (wr.alloc (.cells #[.slice ya 4 yc] 23)).heap[wr.heap.size]? = some (.cells #[.slice ya 4 yc] 23 (0, 0)) := heap_alloc_new wr _
              have hel4 : Hid (ArE (wr.alloc (.cells #[.slice ya 4 yc] 23)) V.heap.size (.slice aa j ac) (ya, yc)) := by
                have ho := HOWN3.out.stand (w' := wr.alloc (.cells #[.slice ya 4 yc] 23)) (fun q hq hq' => Below.heap_alloc _ _ _ hq')
                rw [HK.out] at ho
                exact ArE.of_own ho HK.out HVAL3.out hz2v fun g hg => (HARS.out.lt g hg).2
              clear ha3 ha4
              go_wp2_with (at_builtin; refine wpList_append_lies _ (by rfl) _ _ 24 (by rfl) V.heap.size 23 i0 _ 1 24 Try.underlying24 hinf hz0 hz1' hz2 rfl (by omega) (.slice aa j ac) j _ (by rfl) hL4 ⟨wr.heap.size, 0, none⟩ 1 1 _ (by rfl) (by rfl) (World.news_of_block hNB) (by simp [Value.oneCell']) (by omega) (by unfold maxLen; omega) (by omega) (by simp; omega) (wr.heap.size + 1) (by simp) ?_; intro g cp w5 hown5 hgrow hat hlt5; have hXr : some (w.heap.size + 2) ≠ (Value.slice aa j ac).ownBlock := fun e => (by have := (hL4.lt _ e.symm).1; omega); have hBX5 := (hgrow.block (w.heap.size + 2) (by simp; omega) hXr).trans HA4.out.bx; have q25 : w5.cell? ⟨w.heap.size + 1 + 1, 1, none⟩ = some (.slice aa j ac) := (by rw [show w.heap.size + 1 + 1 = w.heap.size + 2 from rfl, cell_at hBX5]; rfl); have f25 : w5.frozen? ⟨w.heap.size + 1 + 1, 1, none⟩ = false := frozen_of_row _ _ 1 _ _ hBX5)
              have HNEW : Hid (L3M2 B (m + n1) na (w.heap.size + 2) (.slice va n1 vc) V (.int .i64 ((j : Int) + 1)) (w5.setCell ⟨w.heap.size + 2, 1, none⟩ (.slice (some ⟨g, 0, none⟩) (j + 1) cp))) := by
                have hba : Below wr.heap.size wr (wr.alloc (.cells #[.slice ya 4 yc] 23)) := (Below.refl _ _).alloc (Nat.le_refl _) _
                have hb5 : Below V.heap.size (wr.alloc (.cells #[.slice ya 4 yc] 23)) w5 := (Below.refl _ _).grown hgrow (by simp; omega) (fun q e => (hL4.lt q e).1)
                have hmid : Below (w.heap.size + 2) wr w5 := (hba.mono (by omega)).trans (hb5.mono (by omega))
                have hb6 : Below (w.heap.size + 2) wr (w5.setCell ⟨w.heap.size + 2, 1, none⟩ (.slice (some ⟨g, 0, none⟩) (j + 1) cp)) := hmid.setCell (p := ⟨w.heap.size + 2, 1, none⟩) (Nat.le_refl _) _
                have hat' : (Value.slice aa j ac).ownBlock = some g ∨ (wr.alloc (.cells #[.slice ya 4 yc] 23)).heap.size ≤ g := by
                  rcases hat with h | h
                  · exact .inl h
                  · exact .inr (by simp; omega)
                refine ⟨qs ++ [(ya, yc)], some ⟨g, 0, none⟩, j + 1, cp, rfl, by omega, HA4.out.snoc hel4.out hown5 hgrow hat' (by omega) (by simp; omega), ?_, ?_, ?_⟩
                · exact (HRD3.out.below hb6 (by omega)).mono (by omega)
                · exact HBEL2.out.trans (HBEL3.out.trans (hb6.mono (by omega)))
                · intro q hq hqB hqX
                  have hs : (w5.setCell ⟨w.heap.size + 2, 1, none⟩ (.slice (some ⟨g, 0, none⟩) (j + 1) cp)).heap[q]? = w5.heap[q]? := Below.heap_setCell _ _ _ _ (by simpa using hqX)
                  rw [hs]
                  exact (hb5.block q hq).trans ((hba.block q (by omega)).trans ((HSTD3.out q (by omega) hqB).trans (HSTD2.out q hq hqB hqX)))
              clear hL4 hNB hel4 hown5 hgrow hat hlt5 hXr hBX5 HA4 HARS HRD2 HBEL2 HSTD2 HQ2 HOWN3 HVAL3 HRD3 HRD3d HBEL3 HSTD3 q2w
              go_wp2_with fail
              go_roundw
              case rel => exact HNEW.out
              case measure => simp [intOf]; omega
        · have hjn : j = na := by omega
          subst hjn
          have hBl : B < w.heap.size := hlt
          have hr1 : V2.heap[w.heap.size + 1]? = some (.cells #[.slice none 0 0, .slice none 0 0] 26 (0, 0)) := (HSTD2.out (w.heap.size + 1) (by omega) (by omega) (by omega)).trans ((HSTD.out (w.heap.size + 1) (by omega) (by omega) (by omega)).trans HE1.out)
          have g0 : V2.cell? ⟨w.heap.size + 1 + 1, 0, none⟩ = some (.slice va n1 vc) := by rw [show w.heap.size + 1 + 1 = w.heap.size + 2 from rfl, cell_at HARS.out.bx]; rfl
          have g1 : V2.cell? ⟨w.heap.size + 1 + 1, 1, none⟩ = some (.slice aa j ac) := by rw [show w.heap.size + 1 + 1 = w.heap.size + 2 from rfl, cell_at HARS.out.bx]; rfl
          obtain ⟨r0, hr0⟩ := cell_ex hr1 0 (by simp)
          obtain ⟨r1', hr1'⟩ := cell_ex hr1 1 (by simp)
          have f0 := frozen_at hr1 0
          have f1 := frozen_at hr1 1
          have HFIN : Hid (Below B w (put V2 (w.heap.size + 1) 0 [.slice va n1 vc, .slice aa j ac]) ∧ Oth B w (put V2 (w.heap.size + 1) 0 [.slice va n1 vc, .slice aa j ac]) ∧ RdU (put V2 (w.heap.size + 1) 0 [.slice va n1 vc, .slice aa j ac]) B (m + n1 + 4 * j) ∧ RM (put V2 (w.heap.size + 1) 0 [.slice va n1 vc, .slice aa j ac]) w.heap.size (put V2 (w.heap.size + 1) 0 [.slice va n1 vc, .slice aa j ac]).heap.size n1 j va aa) := by
            have hpb : Below (w.heap.size + 1) V2 (put V2 (w.heap.size + 1) 0 [.slice va n1 vc, .slice aa j ac]) := put_below _ _ _ (w.heap.size + 1) (w.heap.size + 1) 0 (Below.refl _ V2) (Nat.le_refl _)
            have hbw := HB.out
            refine ⟨?_, ?_, ?_, ?_⟩
            · exact (((hbw.mono (by omega)).trans HBEL.out).trans HBEL2.out).trans (hpb.mono (by omega))
            · refine ⟨by rw [put_size]; have := hbw.size; omega, fun q hq hqB => ?_⟩
              exact (put_other _ _ _ _ _ (by omega)).trans ((HSTD2.out q (by omega) hqB (by omega)).trans ((HSTD.out q (by omega) hqB (by omega)).trans (hbw.block q hq)))
            · exact HRD2.out.below hpb (by omega)
            · have ho : OwnI V2 W.heap.size (.slice va n1 vc) xs := by
                have := HROW.out.stand (w' := V2) fun q h1 h2 => HSTD2.out q h2 (by omega) (by omega)
                rw [HNN.out] at this
                exact this
              have hrm := HARS.out.fin ho HNN.out HVAL.out hz
              have hrm' := hrm.stand (u' := put V2 (w.heap.size + 1) 0 [.slice va n1 vc, .slice aa j ac]) fun q h1 h2 => put_other _ _ _ _ _ (by omega)
              exact hrm'.wide (by omega) (by rw [put_size]; omega)
          clear hr1 HARS HRD2 HBEL2 HSTD2 HQ2 HC0
          go_wp2_with fail
          exact bodyPost_ret (v := aggMm va aa n1 j vc ac) (by simp [results, Try.f82, go_sem, hr0, hr1']) rfl ⟨va, aa, vc, ac, rfl, HFIN.out⟩

end Go.Proofs.Ytgfagdjadmpklaa

namespace Go.Proofs.Ytgfagdjadmpklaa
open Go.RowKit
set_option linter.unusedVariables false

theorem Try.infoIs : (Try.prog.info? 23).map (fun i => (i.zero, i.size, i.bytes)) = some (some (.slice none 0 0), 1, 24) := by kernel_rfl

def CopyRs (xss : List (List Int)) (w : World) (f : Ending) (w' : World) : Prop := ∃ a cap, f = .returned (.slice a xss.length cap) ∧ RAt w' (fun b => w.heap.size ≤ b ∧ b < w'.heap.size) xss a ∧ Below w.heap.size w w'

theorem row_set {w : World} {g o : Nat} {cur : Array Value} {T : TypeId} (h : w.heap[g]? = some (.cells cur T (0, 0))) (ho : o < cur.size) :
    (∃ u, w.cell? ⟨g, o, none⟩ = some u) ∧ w.frozen? ⟨g, o, none⟩ = false :=
  ⟨⟨cur[o], by rw [cell_of_row w g o cur T (0, 0) h]; exact Array.getElem?_eq_getElem _⟩, frozen_of_row w g o cur T h⟩

set_option maxHeartbeats 2000000 in
theorem toRows_one (xss : List (List Int)) (a : Option Addr) (cap : Nat) (w : World) (h : RAt w (fun b => b < w.heap.size) xss a) (hs : xss.length ≤ 1048576) (hss : ∀ (i : Nat) (xs : List Int), xss[i]? = some xs → xs.length ≤ 1048576) :
    Calls Try.prog 70 #[.slice a xss.length cap] w (CopyRs xss w) := by
  obtain ⟨i0, hi, hz0, hz1, hz2⟩ := info_parts Try.infoIs
  obtain ⟨hm, h⟩ := h
  obtain ⟨len, hlen⟩ : ∃ len, xss.length = len := ⟨_, rfl⟩
  have HLEN := Lib.hid hlen
  rw [hlen] at hs ⊢
  have H := Lib.hid h
  have HSS := Lib.hid hss
  clear h hlen hss hm
  go_enter Try.func70, Try.ntmps70
  go_wp2_with (at_make; refine wpList_make_full _ rfl _ _ 24 rfl w.heap.size 23 i0 (.slice none 0 0) 1 Try.underlying24 hi hz0 hz1 .i64 .i64 (len : Int) (len : Int) len rfl rfl rfl rfl (by rw [hz2]; omega) (by unfold maxLen; omega) (Nat.le_refl _) ?_; intro w1 hown1 hgrow1; clear hz0 hz1 hz2)
  have HB1 : Hid (Below w.heap.size w w1) := (Below.refl _ w).grown hgrow1 (Nat.le_refl _) (fun k e => by cases e)
  have HO1 : Hid (∃ cur : Array Value, cur.size = len * 1 ∧ w1.heap[w.heap.size]? = some (.cells cur 23 (0, 0))) := by
    rcases hown1.2 with ⟨h', _⟩ | ⟨g, cp, cur, h', _, hg, _, _, hcs, _⟩
    · cases h'
    · cases h'
      exact ⟨cur, hcs, hg⟩
  clear hown1 hgrow1
  go_loopw [4] (fun i wr => ∃ k : Nat, k ≤ len ∧ i = .int .i64 k ∧ Below w.heap.size w wr ∧ w.heap.size < wr.heap.size ∧ ∃ cur : Array Value, cur.size = len * 1 ∧ wr.heap[w.heap.size]? = some (.cells cur 23 (0, 0)) ∧
      ∀ (j : Nat) (x : List Int), j < k → xss[j]? = some x → ∃ a' c', cur[j]? = some (.slice a' x.length c') ∧ IAt wr (fun b => w.heap.size < b ∧ b < wr.heap.size) x a') (fun i _ => len - (intOf i).toNat)
  case atStart =>
    obtain ⟨cur, h1, h2⟩ := HO1.out
    exact ⟨0, Nat.zero_le _, rfl, HB1.out, (Array.getElem?_eq_some_iff.1 h2).1, cur, h1, h2, fun j x hj => absurd hj (Nat.not_lt_zero _)⟩
  case round =>
    obtain ⟨k, hk, rfl, hB, hgt, cur, hcs, hblk, hdone⟩ := hrel
    have HB := Lib.hid hB
    have HCS := Lib.hid hcs
    have HBLK := Lib.hid hblk
    have HD := Lib.hid hdone
    clear hB hcs hblk hdone HO1 HB1
    by_cases hlt : k < len
    · obtain ⟨x, hx⟩ : ∃ x, xss[k]? = some x := ⟨xss[k]'(by rw [HLEN.out]; exact hlt), List.getElem?_eq_getElem _⟩
      obtain ⟨b, o, ax, cx, rfl, hbl, e0, hr⟩ := H.out k x hx
      have d0 := (HB.out.cell (p := ⟨b, o + k, none⟩) hbl).trans e0
      have HR : Hid (IAt wr (fun b => b < w.heap.size) x ax) := hr.wide (fun j hj => HB.out.block j hj) fun _ x => x
      have hxl := HSS.out k x hx
      have hsz := HB.out.size
      have HX := Lib.hid hx
      clear hx e0 hr
      go_wp2_with fail
      refine (toInts_one ax x.length cx x _ HR.out.slice (by omega)).mono ?_
      rintro f w2 ⟨v, rfl, hown, hb2⟩
      obtain ⟨a2, c2, rfl, hi2⟩ := hown.iat
      have HI2 := Lib.hid hi2
      have hsz2 := hb2.size
      have hblk2 : w2.heap[w.heap.size]? = some (.cells cur 23 (0, 0)) := (hb2.block _ hgt).trans HBLK.out
      have hb3 : k < cur.size := by rw [HCS.out]; omega
      obtain ⟨⟨u0, hu0⟩, hf0⟩ := row_set (o := k) hblk2 hb3
      have HST := Lib.hid (heap_setCell_same w2 w.heap.size k cur 23 (.slice a2 x.length c2) hblk2)
      have HB3 : Hid (Below w.heap.size w (w2.setCell ⟨w.heap.size, k, none⟩ (.slice a2 x.length c2))) :=
        (HB.out.trans (hb2.mono hsz)).setCell (p := ⟨w.heap.size, k, none⟩) (Nat.le_refl _) (.slice a2 x.length c2)
      have HSZW : Hid ((w2.setCell ⟨w.heap.size, k, none⟩ (.slice a2 x.length c2)).heap.size = w2.heap.size) := by
        have : (w2.setCell ⟨w.heap.size, k, none⟩ (.slice a2 x.length c2)).heap.size = w2.heap.size := by simp [World.setCell]
        exact this
      have HSW : Hid (∀ j, w.heap.size < j → (w2.setCell ⟨w.heap.size, k, none⟩ (.slice a2 x.length c2)).heap[j]? = w2.heap[j]?) := fun j hj => Below.heap_setCell _ _ _ _ (by simp; omega)
      have HK2 : Hid (∀ (j : Nat) (y : List Int), j < k → xss[j]? = some y → ∃ a' c', cur[j]? = some (.slice a' y.length c') ∧ IAt (w2.setCell ⟨w.heap.size, k, none⟩ (.slice a2 x.length c2)) (fun b => w.heap.size < b ∧ b < (w2.setCell ⟨w.heap.size, k, none⟩ (.slice a2 x.length c2)).heap.size) y a') := fun j y hj hy => by
        obtain ⟨a', c', h0, hr⟩ := HD.out j y hj hy
        exact ⟨a', c', h0, hr.wide (fun b hb => (HSW.out b hb.1).trans (hb2.block b hb.2)) fun b hb => ⟨hb.1, by rw [HSZW.out]; omega⟩⟩
      have HN2 : Hid (IAt (w2.setCell ⟨w.heap.size, k, none⟩ (.slice a2 x.length c2)) (fun b => w.heap.size < b ∧ b < (w2.setCell ⟨w.heap.size, k, none⟩ (.slice a2 x.length c2)).heap.size) x a2) :=
        hi2.wide (fun b hb => HSW.out b (by omega)) fun b hb => ⟨by omega, by rw [HSZW.out]; exact hb.2⟩
      clear hb2 hblk2 HBLK HB d0 hown hi2 HI2 HD HR
      go_wp2_with fail
      go_roundw
      case rel =>
        refine ⟨k + 1, by omega, by go_num, HB3.out, by rw [HSZW.out]; omega, _, ?_, HST.out, ?_⟩
        · simp [HCS.out]
        · intro j y hj hy
          by_cases hjk : j = k
          · subst hjk
            rw [HX.out] at hy
            cases hy
            exact ⟨a2, c2, by rw [Array.getElem?_setIfInBounds, if_pos rfl, if_pos hb3], HN2.out⟩
          · obtain ⟨a', c', h0, hr⟩ := HK2.out j y (by omega) hy
            exact ⟨a', c', by rw [Array.getElem?_setIfInBounds, if_neg (Ne.symm hjk)]; exact h0, hr⟩
      case measure => simp [intOf]; omega
    · obtain rfl : k = len := by omega
      clear H
      go_wp2_with fail
      go_ret
      refine ⟨_, k, by rw [HLEN.out]; rfl, ⟨by rw [HLEN.out]; unfold maxLen; omega, ?_⟩, HB.out⟩
      intro j y hy
      have hj : j < k := by have := (List.getElem?_eq_some_iff.1 hy).1; rw [HLEN.out] at this; exact this
      obtain ⟨a', c', h0, hr⟩ := HD.out j y hj hy
      refine ⟨w.heap.size, 0, a', c', rfl, ⟨Nat.le_refl _, hgt⟩, ?_, hr.wide (fun _ _ => rfl) fun b hb => ⟨Nat.le_of_lt hb.1, hb.2⟩⟩
      rw [Nat.zero_add, cell_of_row _ _ _ _ _ _ HBLK.out]; exact h0

/-- A memory is handed back that reads alike. -/
def CopyM (m : Mm) (w : World) (f : Ending) (w' : World) : Prop := ∃ k, f = .returned (aggM m k) ∧ ML w' m k ∧ Below w.heap.size w w'
/-- A memory in blocks of D. -/
def MLD (w : World) (D : Nat → Prop) (m : Mm) (k : MC) : Prop := IAt w D m.vals k.va ∧ RAt w D m.arrs k.aa
theorem MLD.wide {w w' : World} {D D' : Nat → Prop} {m : Mm} {k : MC} (h : MLD w D m k) (hb : ∀ k, D k → w'.heap[k]? = w.heap[k]?) (hl : ∀ k, D k → D' k) : MLD w' D' m k := ⟨h.1.wide hb hl, h.2.wide hb hl⟩
/-- A memory is handed back that reads alike, in new blocks. -/
def CopyMN (m : Mm) (w : World) (f : Ending) (w' : World) : Prop := ∃ k, f = .returned (aggM m k) ∧ MLD w' (fun b => w.heap.size ≤ b ∧ b < w'.heap.size) m k ∧ Below w.heap.size w w'

set_option maxHeartbeats 4000000 in
/-- **toMemory.** -/
theorem toM_new (m : Mm) (k : MC) (w : World) (h : ML w m k) (hs : MSm m) :
    Calls Try.prog 30 #[aggM m k] w (CopyMN m w) := by
  obtain ⟨hs1, hs2, hs3⟩ := hs
  have H : Hid (∀ v, Below w.heap.size w v → ML v m k) := fun v hv => h.below hv
  have HS3 := Lib.hid hs3
  clear h hs3
  go_enter Try.func30, Try.ntmps30
  go_wp2_with fail
  obtain ⟨W, hW⟩ : ∃ W, (((w.alloc (.cells (arrM m k) 58)).alloc (.cells #[.slice none 0 0, .slice none 0 0] 26)).alloc (.cells #[.slice none 0 0, .slice none 0 0] 26)) = W := ⟨_, rfl⟩
  have hz : W.heap.size = w.heap.size + 3 := by rw [← hW]; simp
  have hB : Below w.heap.size w W := by rw [← hW]; exact (((Below.refl _ w).alloc (Nat.le_refl _) _).alloc (by simp) _).alloc (by simp; omega) _
  have q0 : BoxM W w.heap.size m k := by
    rw [← hW]
    exact ((BoxM.new w m k 58).later (Below.heap_alloc _ _ _ (by simp))).later (Below.heap_alloc _ _ _ (by simp; omega))
  have q1 : W.heap[w.heap.size + 1]? = some (.cells #[.slice none 0 0, .slice none 0 0] 26 (0, 0)) := by
    have e1 := heap_alloc_new (w.alloc (.cells (arrM m k) 58)) (.cells #[.slice none 0 0, .slice none 0 0] 26)
    rw [World.size_alloc] at e1
    rw [← hW, Below.heap_alloc _ _ _ (by simp)]; exact e1
  have q2 : W.heap[w.heap.size + 1 + 1]? = some (.cells #[.slice none 0 0, .slice none 0 0] 26 (0, 0)) := by
    have e1 := heap_alloc_new ((w.alloc (.cells (arrM m k) 58)).alloc (.cells #[.slice none 0 0, .slice none 0 0] 26)) (.cells #[.slice none 0 0, .slice none 0 0] 26)
    rw [World.size_alloc, World.size_alloc] at e1
    rw [← hW]; exact e1
  unfold arrM at hW
  rw [hW]
  clear hW
  have HB := Lib.hid hB
  have HZ := Lib.hid hz
  have Q0 := Lib.hid q0
  have Q1 := Lib.hid q1
  have Q2 := Lib.hid q2
  clear hB hz q0 q1 q2
  refine (toInts_one k.va m.vals.length k.vc m.vals W (H.out W HB.out).1.slice (by omega)).mono ?_
  rintro f w1 ⟨v, rfl, hown, hb1⟩
  obtain ⟨a1, c1, rfl, hi1⟩ := hown.iat
  have z1 := hb1.size
  have zz := HZ.out
  have p0 := (Q0.out.below hb1 Q0.out.lt).c1
  have p1 := (hb1.block (w.heap.size + 1) (by omega)).trans Q1.out
  have p2 := (hb1.block (w.heap.size + 1 + 1) (by omega)).trans Q2.out
  obtain ⟨⟨u2, hu2⟩, hf2⟩ := row_set (o := 0) p2 (by simp)
  have hst2 := heap_setCell_same w1 (w.heap.size + 1 + 1) 0 _ _ (.slice a1 m.vals.length c1) p2
  obtain ⟨w2, hw2⟩ : ∃ w2, w1.setCell ⟨w.heap.size + 1 + 1, 0, none⟩ (.slice a1 m.vals.length c1) = w2 := ⟨_, rfl⟩
  have hoth : ∀ j, j ≠ w.heap.size + 1 + 1 → w2.heap[j]? = w1.heap[j]? := fun j hj => by rw [← hw2]; exact Below.heap_setCell _ _ _ _ (fun e => hj (by simpa using e))
  have hsz2 : w2.heap.size = w1.heap.size := by rw [← hw2]; simp [World.setCell]
  have hB2 : Below w.heap.size w w2 := by rw [← hw2]; exact (HB.out.trans (hb1.mono HB.out.size)).setCell (p := ⟨w.heap.size + 1 + 1, 0, none⟩) (by simp; omega) _
  rw [hw2] at hst2
  have y1 : w2.cell? ⟨w.heap.size, 1, none⟩ = some (.slice k.aa m.arrs.length k.ac) := (World.cell?_of_block (w := w1) (hoth w.heap.size (by omega))).trans p0
  have r1 : w2.heap[w.heap.size + 1]? = some (.cells #[.slice none 0 0, .slice none 0 0] 26 (0, 0)) := (hoth _ (by omega)).trans p1
  have hi2 : IAt w2 (fun b => W.heap.size ≤ b ∧ b < w2.heap.size) m.vals a1 := hi1.wide (fun b hb => hoth b (by omega)) fun b hb => ⟨hb.1, by rw [hsz2]; exact hb.2⟩
  have HI2 := Lib.hid hi2
  have HB2 := Lib.hid hB2
  have HST2 := Lib.hid hst2
  have R1 := Lib.hid r1
  have HZ2 : Hid (W.heap.size ≤ w2.heap.size) := by
    have : W.heap.size ≤ w2.heap.size := by rw [hsz2]; exact z1
    exact this
  clear hi1 hown hb1 p0 p1 p2 hst2 hoth hsz2 hB2 r1 hi2 HB Q0 Q1 Q2 z1 zz
  go_wp2_with fail
  clear hw2 hu2 hf2
  refine (toRows_one m.arrs k.aa k.ac w2 (H.out w2 HB2.out).2 hs2 HS3.out).mono ?_
  rintro f w3 ⟨a2, c2, rfl, hr3, hb3⟩
  have z3 := hb3.size
  have zz := HZ.out
  have z2 := HZ2.out
  have p1 := (hb3.block (w.heap.size + 1) (by omega)).trans R1.out
  have p2 := (hb3.block (w.heap.size + 1 + 1) (by omega)).trans HST2.out
  obtain ⟨⟨u3, hu3⟩, hf3⟩ := row_set (o := 1) p2 (by simp)
  obtain ⟨⟨u4, hu4⟩, hf4⟩ := row_set (o := 0) p1 (by simp)
  obtain ⟨⟨u5, hu5⟩, hf5⟩ := row_set (o := 1) p1 (by simp)
  have y0 : w3.cell? ⟨w.heap.size + 1 + 1, 0, none⟩ = some (.slice a1 m.vals.length c1) := by rw [cell_of_row _ _ _ _ _ _ p2]; rfl
  have HR3 := Lib.hid hr3
  have HI3 := Lib.hid (HI2.out.wide (D' := fun b => W.heap.size ≤ b ∧ b < w3.heap.size) (fun b hb => hb3.block b hb.2) fun b hb => ⟨hb.1, by omega⟩)
  have HB3 := Lib.hid (HB2.out.trans (hb3.mono HB2.out.size))
  clear hr3 hb3 HB2 HI2 HST2 R1 p1 p2 y1 H
  go_wp2_with fail
  have HOT : Hid (∀ j, W.heap.size ≤ j → ((((w3.setCell ⟨w.heap.size + 1 + 1, 1, none⟩ (.slice a2 m.arrs.length c2)).setCell ⟨w.heap.size + 1, 0, none⟩ (.slice a1 m.vals.length c1)).setCell ⟨w.heap.size + 1, 1, none⟩ (.slice a2 m.arrs.length c2))).heap[j]? = w3.heap[j]?) := fun j hj => by
    rw [Below.heap_setCell _ _ _ _ (by simp; omega), Below.heap_setCell _ _ _ _ (by simp; omega), Below.heap_setCell _ _ _ _ (by simp; omega)]
  have HSZ : Hid ((((w3.setCell ⟨w.heap.size + 1 + 1, 1, none⟩ (.slice a2 m.arrs.length c2)).setCell ⟨w.heap.size + 1, 0, none⟩ (.slice a1 m.vals.length c1)).setCell ⟨w.heap.size + 1, 1, none⟩ (.slice a2 m.arrs.length c2)).heap.size = w3.heap.size) := by
    have : (((w3.setCell ⟨w.heap.size + 1 + 1, 1, none⟩ (.slice a2 m.arrs.length c2)).setCell ⟨w.heap.size + 1, 0, none⟩ (.slice a1 m.vals.length c1)).setCell ⟨w.heap.size + 1, 1, none⟩ (.slice a2 m.arrs.length c2)).heap.size = w3.heap.size := by simp [World.setCell]
    exact this
  refine bodyPost_ret (v := .agg #[.slice a1 m.vals.length c1, .slice a2 m.arrs.length c2]) (by simp [results, Try.f30, go_sem, hu4, hu5]) rfl ?_
  refine ⟨⟨a1, c1, a2, c2⟩, rfl, ⟨HI3.out.wide (fun b hb => HOT.out b hb.1) fun b hb => ⟨by omega, by rw [HSZ.out]; exact hb.2⟩, HR3.out.wide (fun b hb => HOT.out b (by omega)) fun b hb => ⟨by omega, by rw [HSZ.out]; exact hb.2⟩⟩, ?_⟩
  exact ((HB3.out.setCell (p := ⟨w.heap.size + 1 + 1, 1, none⟩) (by simp; omega) _).setCell (p := ⟨w.heap.size + 1, 0, none⟩) (by simp) _).setCell (p := ⟨w.heap.size + 1, 1, none⟩) (by simp) _

theorem toM_one (m : Mm) (k : MC) (w : World) (h : ML w m k) (hs : MSm m) :
    Calls Try.prog 30 #[aggM m k] w (CopyM m w) :=
  (toM_new m k w h hs).mono fun _ _ ⟨k', e, h', hb⟩ => ⟨k', e, h'.wide (fun _ _ => rfl) fun _ x => x.2, hb⟩

end Go.Proofs.Ytgfagdjadmpklaa

namespace Go.Proofs.Ytgfagdjadmpklaa
open Go.RowKit
set_option linter.unusedVariables false

/-- A list of ints, its address and its room. -/
abbrev Qw := List Int × Option Addr × Nat
def Qw.cell (q : Qw) : Value := .slice q.2.1 q.1.length q.2.2
/-- An array of a memory: it lies in blocks from Z on that are not the row's own. -/
def ElW (u : World) (Z : Nat) (t : Value) (q : Qw) : Prop := IAt u (fun b => Z ≤ b ∧ b < u.heap.size ∧ t.ownBlock ≠ some b) q.1 q.2.1 ∧ q.1.length ≤ q.2.2 ∧ q.2.2 ≤ maxLen
theorem ElW.keep {u u' : World} {Z : Nat} {t t' : Value} {q : Qw} (h : ElW u Z t q) (hz : u.heap.size ≤ u'.heap.size) (hs : ∀ j, Z ≤ j → j < u.heap.size → t.ownBlock ≠ some j → u'.heap[j]? = u.heap[j]?) (ht : t'.ownBlock = t.ownBlock ∨ ∃ g, t'.ownBlock = some g ∧ u.heap.size ≤ g) : ElW u' Z t' q := by
  refine ⟨h.1.wide (fun b hb => hs b hb.1 hb.2.1 hb.2.2) (fun b hb => ⟨hb.1, by omega, ?_⟩), h.2⟩
  rcases ht with e | ⟨g, e, hg⟩
  · rw [e]; exact hb.2.2
  · rw [e]; intro x; cases x; omega
theorem ElW.of_own {u : World} {base Z n : Nat} {t : Value} {a : Option Addr} {c : Nat} {xs : List Int} (h : OwnI u base (.slice a n c) xs) (hZ : Z ≤ base) (ht : ∀ g, t.ownBlock = some g → g < base) : xs.length = n ∧ ElW u Z t (xs, a, c) := by
  obtain ⟨a', c', e, hi⟩ := h.iat
  cases e
  refine ⟨rfl, hi.wide (fun _ _ => rfl) (fun b hb => ⟨by omega, hb.2, fun e => by have := ht b e; omega⟩), ?_⟩
  rcases h.2 with ⟨e1, _⟩ | ⟨g, cap, cur, e1, _, _, h4, h5, _⟩
  · injection e1 with _ e2 e3
    exact ⟨by show xs.length ≤ c; omega, by show c ≤ maxLen; rw [e3]; unfold maxLen; omega⟩
  · injection e1 with _ _ e3
    exact ⟨by show xs.length ≤ c; omega, by show c ≤ maxLen; omega⟩

/-- The arrays so far: a row of the call's own from block Z on; the memory's box at X. -/
structure ArW (Z X : Nat) (vv : Value) (qs : List Qw) (aa : Option Addr) (j ac : Nat) (u : World) : Prop where
  len : qs.length = j
  own : u.ownsRow Z 23 1 (.slice aa j ac) j (qs.map Qw.cell)
  els : ∀ q ∈ qs, ElW u Z (.slice aa j ac) q
  bx : u.heap[X]? = some (.cells #[vv, .slice aa j ac] 26 (0, 0))
theorem ArW.nil {Z X : Nat} {vv : Value} {u : World} (h : u.heap[X]? = some (.cells #[vv, .slice none 0 0] 26 (0, 0))) : ArW Z X vv [] none 0 0 u := ⟨rfl, World.ownsRow_nil _ _ _ _, by simp, h⟩
theorem ArW.lt {Z X : Nat} {vv : Value} {qs : List Qw} {aa : Option Addr} {j ac : Nat} {u : World} (h : ArW Z X vv qs aa j ac u) : ∀ g, (Value.slice aa j ac).ownBlock = some g → Z ≤ g ∧ g < u.heap.size := fun g hg => h.own.lt g hg
theorem ArW.stand {Z X : Nat} {vv : Value} {qs : List Qw} {aa : Option Addr} {j ac : Nat} {u u' : World} (h : ArW Z X vv qs aa j ac u) (hz : u.heap.size ≤ u'.heap.size) (hs : ∀ q, Z ≤ q → q < u.heap.size → u'.heap[q]? = u.heap[q]?) (hX : u'.heap[X]? = u.heap[X]?) : ArW Z X vv qs aa j ac u' := by
  refine ⟨h.len, ⟨h.own.1, ?_⟩, fun q hq => (h.els q hq).keep hz (fun j h1 h2 _ => hs j h1 h2) (.inl rfl), hX.trans h.bx⟩
  rcases h.own.2 with e | ⟨g, cp, cur, e1, e2, e3, e4⟩
  · exact .inl e
  · exact .inr ⟨g, cp, cur, e1, e2, (hs g e2 (Array.getElem?_eq_some_iff.1 e3).1).trans e3, e4⟩
theorem ArW.snoc {Z X : Nat} {vv : Value} {qs : List Qw} {aa : Option Addr} {q0 : Qw} {j ac g cap : Nat} {u w5 : World} (h : ArW Z X vv qs aa j ac u) (hx : ElW u Z (.slice aa j ac) q0)
    (hown : w5.ownsRow Z 23 1 (.slice (some ⟨g, 0, none⟩) (j + 1) cap) (j + 1) ((qs.map Qw.cell) ++ [q0.cell]))
    (hgrow : u.grownBy w5 (Value.slice aa j ac).ownBlock) (hat : (Value.slice aa j ac).ownBlock = some g ∨ u.heap.size ≤ g)
    (hX : X < Z) (hXu : X < u.heap.size) : ArW Z X vv (qs ++ [q0]) (some ⟨g, 0, none⟩) (j + 1) cap (w5.setCell ⟨X, 1, none⟩ (.slice (some ⟨g, 0, none⟩) (j + 1) cap)) := by
  obtain ⟨w6, h6⟩ : ∃ w6, w5.setCell ⟨X, 1, none⟩ (.slice (some ⟨g, 0, none⟩) (j + 1) cap) = w6 := ⟨_, rfl⟩
  have hs6 : ∀ q, q ≠ X → w6.heap[q]? = w5.heap[q]? := fun q hq => by rw [← h6]; exact Below.heap_setCell _ _ _ _ (by simpa using hq)
  have hz6 : w6.heap.size = w5.heap.size := by rw [← h6]; simp
  have hsz := hgrow.size
  have hEl : ∀ q, ElW u Z (.slice aa j ac) q → ElW w6 Z (.slice (some ⟨g, 0, none⟩) (j + 1) cap) q := fun q hq =>
    hq.keep (by omega) (fun i h1 h2 h3 => (hs6 i (by omega)).trans (hgrow.block i h2 (fun e => h3 e.symm))) (by
      rcases hat with e | e
      · exact .inl (by rw [e]; rfl)
      · exact .inr ⟨g, rfl, e⟩)
  have hbx : w5.heap[X]? = some (.cells #[vv, .slice aa j ac] 26 (0, 0)) := (hgrow.block X hXu (fun e => by have := (h.lt X e.symm).1; omega)).trans h.bx
  rw [h6]
  refine ⟨by simp [h.len], ?_, ?_, ?_⟩
  · rw [List.map_append]
    refine ⟨hown.1, ?_⟩
    rcases hown.2 with e | ⟨g', cp, cur, e1, e2, e3, e4⟩
    · exact .inl e
    · exact .inr ⟨g', cp, cur, e1, e2, (hs6 g' (by omega)).trans e3, e4⟩
  · intro q hq
    rcases List.mem_append.1 hq with e | e
    · exact hEl q (h.els q e)
    · rw [List.mem_singleton] at e; subst e; exact hEl _ hx
  · rw [← h6, blk_set hbx]; rfl

/-- A memory whose lists are rows of the call's own: the values before block Z, the arrays from it on. -/
structure OMw (u : World) (base Z : Nat) (m : Mm) (k : MC) (qs : List Qw) : Prop where
  v : OwnI u base (.slice k.va m.vals.length k.vc) m.vals
  lt : ∀ g, (Value.slice k.va m.vals.length k.vc).ownBlock = some g → g < Z
  le : base ≤ Z
  own : u.ownsRow Z 23 1 (.slice k.aa m.arrs.length k.ac) m.arrs.length (qs.map Qw.cell)
  els : ∀ q ∈ qs, ElW u Z (.slice k.aa m.arrs.length k.ac) q
  eq : qs.map (·.1) = m.arrs
theorem OMw.arrs {u : World} {base Z : Nat} {m : Mm} {k : MC} {qs : List Qw} (h : OMw u base Z m k qs) : RAt u (fun b => base ≤ b ∧ b < u.heap.size) m.arrs k.aa := by
  have hle := h.le
  rcases h.own.2 with ⟨e1, e2⟩ | ⟨g, cap, cur, e1, e2, e3, e4, e5, _⟩
  · have e : m.arrs = [] := List.eq_nil_of_length_eq_zero e2
    rw [e]
    exact ⟨Nat.zero_le _, fun i x hx => by simp at hx⟩
  · injection e1 with a1 a2 a3
    refine ⟨by omega, fun i xs hx => ?_⟩
    have hi := (List.getElem?_eq_some_iff.1 hx).1
    have hx' := hx
    rw [← h.eq, List.getElem?_map] at hx'
    cases hq : qs[i]? with
    | none => rw [hq] at hx'; cases hx'
    | some q =>
      rw [hq] at hx'
      have hqx : q.1 = xs := by simpa using hx'
      have hel := h.els q (List.mem_of_getElem? hq)
      refine ⟨g, 0, q.2.1, q.2.2, a1, ⟨by omega, (Array.getElem?_eq_some_iff.1 e3).1⟩, ?_, ?_⟩
      · have ho := h.own
        rw [a1] at ho
        rw [Nat.zero_add, World.ownsRow.cellAt ho i (by omega), List.getElem?_map, hq, ← hqx]; rfl
      · rw [← hqx]
        exact hel.1.wide (fun _ _ => rfl) fun b hb => ⟨by omega, hb.2.1⟩
theorem OMw.mld {u : World} {base Z : Nat} {m : Mm} {k : MC} {qs : List Qw} (h : OMw u base Z m k qs) : MLD u (fun b => base ≤ b ∧ b < u.heap.size) m k := by
  refine ⟨?_, h.arrs⟩
  obtain ⟨a', c', e, hi⟩ := h.v.iat
  injection e with e1 _ _
  rw [e1]; exact hi

/-- The copy of a list of n. -/
def CpIN (w : World) (base g n : Nat) (xs : List Int) (v : Value) (w' : World) : Prop := ∃ a cap, v = .slice a n cap ∧ OwnI w' base (.slice a n cap) xs ∧ w.grownBy w' (some g) ∧ ((Value.slice a n cap).ownBlock = some g ∨ (Value.slice a n cap).ownBlock = some w.heap.size)
theorem step_copyN {ops : Array Oper} {o : Oper} {a : Act} {w : World} {K : Act → World → Prop} {Q : Exit → Act → World → Prop} {E : Prop} (hgd : o.guard = none) (s x : Operand)
    (ho : o.op = .call { callee := .builtin .append, args := #[s, x], argTypes := #[23, 23] })
    (base g : Nat) (hs : a.eval s = .slice (some ⟨g, 0, none⟩) 0 0) (hown : OwnI w base (.slice (some ⟨g, 0, none⟩) 0 0) [])
    (xs : List Int) (n : Nat) (hl : xs.length = n) (A : Option Addr) (c : Nat) (hx : a.eval x = .slice A n c) (D : Nat → Prop) (hr : IntsAt w D xs A) (hn : n ≤ 1048576) (hb : base ≤ w.heap.size)
    (h : ∀ v w', CpIN w base g n xs v w' → K (a.put o.dst v) w') :
    if Region.wanted o (yielded ops a.tmps) = true then Oper.wp Try.prog o a w K Q else E := by
  subst hl
  exact step_copyI hgd s x ho Try.infoI base g hs hown xs A c hx D hr hn hb fun v w' hc => h v w' hc

/-- The copy's state: what was copied so far. -/
def CpW2 (arrs : List (List Int)) (na X : Nat) (w : World) (vv : Value) (V : World) (i : Value) (wr : World) : Prop := ∃ (qs : List Qw) (aa : Option Addr) (j ac : Nat),
  i = .int .i64 (j : Int) ∧ j ≤ na ∧ qs.map (·.1) = arrs.take j ∧ ArW V.heap.size X vv qs aa j ac wr ∧ Below w.heap.size w wr ∧ V.heap.size ≤ wr.heap.size ∧ (∀ q, q < V.heap.size → q ≠ X → wr.heap[q]? = V.heap[q]?)

set_option maxRecDepth 100000 in
set_option maxHeartbeats 2000000 in
theorem l3CopyW (m : Mm) (k : MC) (w : World) (h : ML w m k) (hs : MSm m) :
    Calls Try.prog 86 #[aggM m k] w fun e w' => ∃ k' Z qs, e = .returned (aggM m k') ∧ Below w.heap.size w w' ∧ OMw w' w.heap.size Z m k' qs := by
  obtain ⟨xs, arrs⟩ := m
  obtain ⟨va, vc, aa, ac⟩ := k
  obtain ⟨na, hna⟩ : ∃ na, arrs.length = na := ⟨_, rfl⟩
  have hxs : xs.length ≤ 1048576 := hs.1
  have hns : na ≤ 1048576 := by rw [← hna]; exact hs.2.1
  have HSS : Hid (∀ (i : Nat) (ys : List Int), arrs[i]? = some ys → ys.length ≤ 1048576) := hs.2.2
  have HNA := Lib.hid hna
  have HAR : Hid (RAt w (fun b => b < w.heap.size) arrs aa) := h.2
  have hxi : IAt w (fun b => b < w.heap.size) xs va := h.1
  obtain ⟨W, hW⟩ : ∃ W, (w.alloc (.cells #[.slice va xs.length vc, .slice aa na ac] 26)).alloc (.cells #[.slice none 0 0, .slice none 0 0] 26) = W := ⟨_, rfl⟩
  have hz : W.heap.size = w.heap.size + 2 := by rw [← hW]; simp
  have hB : Below w.heap.size w W := by rw [← hW]; exact ((Below.refl _ w).alloc (Nat.le_refl _) _).alloc (by simp) _
  have e0 : W.heap[w.heap.size]? = some (.cells #[.slice va xs.length vc, .slice aa na ac] 26 (0, 0)) := by
    rw [← hW]; exact (Below.heap_alloc _ _ _ (by simp)).trans (heap_alloc_new w _)
  have e1 : W.heap[w.heap.size + 1]? = some (.cells #[.slice none 0 0, .slice none 0 0] 26 (0, 0)) := by
    have e1 := heap_alloc_new (w.alloc (.cells #[.slice va xs.length vc, .slice aa na ac] 26)) (.cells #[.slice none 0 0, .slice none 0 0] 26)
    rw [World.size_alloc] at e1
    rw [← hW]; exact e1
  have q0 : W.cell? ⟨w.heap.size, 0, none⟩ = some (.slice va xs.length vc) := by rw [cell_at e0]; rfl
  have hM : OwnI (W.alloc (.cells #[] 3)) (w.heap.size + 2) (.slice (some ⟨w.heap.size + 2, 0, none⟩) 0 0) [] := by have := OwnI.made' W (w.heap.size + 2) (by omega); rw [hz] at this; exact this
  have hI0 : IntsAt (W.alloc (.cells #[] 3)) (fun b => b < w.heap.size) xs va := (hxi.wide (w' := W.alloc (.cells #[] 3)) (D' := fun b => b < w.heap.size) (fun j hj => (Below.heap_alloc _ _ _ (by omega)).trans (hB.block j hj)) (fun _ h => h)).2
  have HW := Lib.hid hW
  have HB := Lib.hid hB
  have HE0 := Lib.hid e0
  have HE1 := Lib.hid e1
  have HM := Lib.hid hM
  have HI0 := Lib.hid hI0
  show Calls Try.prog 86 #[.agg #[.slice va xs.length vc, .slice aa arrs.length ac]] w _
  rw [hna]
  clear h hs hxi hW hB e0 e1 hM hI0 hna
  go_enter Try.func86, Try.ntmps86
  go_wp2_with (first | rw [HW.out] | (at_builtin; refine wpList_copyI (by rfl) _ _ (by rfl) Try.infoI (w.heap.size + 2) (w.heap.size + 2) (by rfl) HM.out xs _ _ (by rfl) _ HI0.out (by omega) (by simp; omega) ?_; rintro v w1 ⟨a1, c1, rfl, hv1, hgr1, hat1⟩))
  obtain ⟨n, hn⟩ : ∃ n, xs.length = n := ⟨_, rfl⟩
  obtain ⟨X, hX⟩ : ∃ X, w1.heap.size = X := ⟨_, rfl⟩
  obtain ⟨V, hV⟩ : ∃ V, w1.alloc (.cells #[.slice a1 n c1, .slice none 0 0] 26) = V := ⟨_, rfl⟩
  have hwl := hgr1.size
  rw [World.size_alloc, hz] at hwl
  have hVz : V.heap.size = X + 1 := by rw [← hV, World.size_alloc, hX]
  have hXw : w.heap.size + 3 ≤ X := by omega
  have hBV : Below w.heap.size w V := by
    rw [← hV]
    exact ((HB.out.alloc (by omega) _).grown hgr1 (by simp; omega) (fun k e => by cases e; omega)).alloc (by omega) _
  have hst1 : ∀ q, q < w.heap.size + 2 → V.heap[q]? = W.heap[q]? := fun q hq => by
    rw [← hV, Below.heap_alloc _ _ _ (by omega)]
    exact (hgr1.block q (by simp; omega) (fun e => by cases e; omega)).trans (Below.heap_alloc _ _ _ (by omega))
  have hbx : V.heap[X]? = some (.cells #[.slice a1 n c1, .slice none 0 0] 26 (0, 0)) := by rw [← hV, ← hX]; exact heap_alloc_new w1 _
  rw [hn] at hv1
  have hown : OwnI V (w.heap.size + 2) (.slice a1 n c1) xs := hv1.far fun g hg => by
    have hgl := ((show w1.ownsRow (w.heap.size + 2) 3 1 (.slice a1 n c1) xs.length (xs.map (Value.int .i64)) from hv1).lt g hg).2
    rw [← hV]; exact Below.heap_alloc _ _ _ hgl
  have hownlt : ∀ g, (Value.slice a1 n c1).ownBlock = some g → g < X := fun g hg => by
    have := ((show w1.ownsRow (w.heap.size + 2) 3 1 (.slice a1 n c1) xs.length (xs.map (Value.int .i64)) from hv1).lt g hg).2
    omega
  have HA0 : Hid (CpW2 arrs na X w (.slice a1 n c1) V (.int .i64 0) V) := ⟨[], none, 0, 0, rfl, Nat.zero_le _, rfl, ArW.nil hbx, hBV, Nat.le_refl _, fun _ _ _ => rfl⟩
  have HOW := Lib.hid hown
  have HOL := Lib.hid hownlt
  have HBX0 : Hid (V.heap[w.heap.size]? = some (.cells #[.slice va n vc, .slice aa na ac] 26 (0, 0))) := by show _ = _; rw [hst1 _ (by omega), ← hn]; exact HE0.out
  have HBX1 : Hid (V.heap[w.heap.size + 1]? = some (.cells #[.slice none 0 0, .slice none 0 0] 26 (0, 0))) := by show _ = _; rw [hst1 _ (by omega)]; exact HE1.out
  have HN := Lib.hid hn
  have hww : w1.alloc (.cells #[.slice a1 xs.length c1, .slice none 0 0] 26) = V := by rw [hn]; exact hV
  rw [hww, hX, hn]
  rw [hn] at hxs
  clear hww hV hX hbx hown hownlt hv1 hgr1 hat1 hst1 hn HM HI0 HE0 HE1 HW q0 hwl
  go_loopw [4] (fun i wr => CpW2 arrs na X w (.slice a1 n c1) V i wr) (fun i _ => na - (intOf i).toNat)
  case atStart => exact HA0.out
  case round =>
    obtain ⟨qs, ba, j, bc, rfl, hle2, hqs, hars, hbel2, hz2, hstd2⟩ := hrel
    have hb0 := (hstd2 w.heap.size (by omega) (by omega)).trans HBX0.out
    have p1 : wr.cell? ⟨w.heap.size, 1, none⟩ = some (.slice aa na ac) := by rw [cell_at hb0]; rfl
    have q1 : wr.cell? ⟨X, 1, none⟩ = some (.slice ba j bc) := by rw [cell_at hars.bx]; rfl
    have HQS := Lib.hid hqs
    have HARS := Lib.hid hars
    have HBEL2 := Lib.hid hbel2
    have HSTD2 := Lib.hid hstd2
    clear hars hbel2 hstd2 hqs
    by_cases hlt2 : j < na
    · obtain ⟨ys, hys⟩ : ∃ ys, arrs[j]? = some ys := ⟨arrs[j]'(by rw [HNA.out]; exact hlt2), List.getElem?_eq_getElem _⟩
      obtain ⟨b, o, av, cv, rfl, hlb, hcb, hri⟩ := HAR.out.2 j ys hys
      obtain ⟨yn, hyn⟩ : ∃ yn, ys.length = yn := ⟨_, rfl⟩
      have hyl : yn ≤ 1048576 := by rw [← hyn]; exact HSS.out j ys hys
      have hyi : IntsAt w (fun b => b < w.heap.size) ys av := hri.2
      have HYS := Lib.hid hys
      have HYN := Lib.hid hyn
      rw [hyn] at hcb
      clear hys hyn
      have r1 : wr.cell? ⟨b, o + j, none⟩ = some (.slice av yn cv) := (World.cell?_of_block (w := w) (a := ⟨b, o + j, none⟩) (HBEL2.out.block b (by omega))).trans hcb
      have HSA : Hid (∀ v : World, (∀ q, q < V.heap.size → v.heap[q]? = wr.heap[q]?) → v.cell? ⟨w.heap.size, 1, none⟩ = some (.slice (some ⟨b, o, none⟩) na ac) ∧ v.cell? ⟨X, 1, none⟩ = some (.slice ba j bc) ∧ v.cell? ⟨b, o + j, none⟩ = some (.slice av yn cv)) := fun v hv =>
        ⟨(World.cell?_of_block (w := wr) (a := ⟨w.heap.size, 1, none⟩) (hv _ (by show w.heap.size < _; omega))).trans p1, (World.cell?_of_block (w := wr) (a := ⟨X, 1, none⟩) (hv _ (by show X < _; omega))).trans q1, (World.cell?_of_block (w := wr) (a := ⟨b, o + j, none⟩) (hv _ (by show b < _; omega))).trans r1⟩
      obtain ⟨d0, d1, d2⟩ := HSA.out wr.drew fun _ _ => rfl
      obtain ⟨e0, e1, e2⟩ := HSA.out (wr.alloc (.cells #[] 3)) fun q hq => Below.heap_alloc _ _ _ (by omega)
      obtain ⟨f0, f1, f2⟩ := HSA.out (wr.alloc (.cells #[] 3)).drew fun q hq => Below.heap_alloc _ _ _ (by omega)
      have M1 : Hid (OwnI (wr.alloc (.cells #[] 3)) wr.heap.size (.slice (some ⟨wr.heap.size, 0, none⟩) 0 0) []) := OwnI.made' wr wr.heap.size (Nat.le_refl _)
      have M1d : Hid (OwnI (wr.alloc (.cells #[] 3)).drew wr.heap.size (.slice (some ⟨wr.heap.size, 0, none⟩) 0 0) []) := M1.out.drew'
      have HY : Hid (∀ v : World, (∀ q, q < wr.heap.size → v.heap[q]? = wr.heap[q]?) → IntsAt v (fun b => b < w.heap.size) ys av) := fun v hv => hyi.wide (fun q hq => (hv q (by omega)).trans (HBEL2.out.block q (by omega))) (fun _ h => h)
      have HY1 : Hid (IntsAt (wr.alloc (.cells #[] 3)) (fun b => b < w.heap.size) ys av) := HY.out _ fun q hq => Below.heap_alloc _ _ _ hq
      have HY1d : Hid (IntsAt (wr.alloc (.cells #[] 3)).drew (fun b => b < w.heap.size) ys av) := HY.out _ fun q hq => Below.heap_alloc _ _ _ hq
      obtain ⟨i0, hinf, hz0, hz1', hz2'⟩ := info_parts Try.infoSl
      clear hri hyi hcb
      go_wp2_with fail
      go_region_law (first
        | (refine step_copyN (by rfl) _ _ (by rfl) wr.heap.size wr.heap.size (by rfl) (by first | exact M1.out | exact M1d.out) ys yn HYN.out av cv (by rfl) _ (by first | exact HY1.out | exact HY1d.out) hyl (by simp) ?_; rintro v w2 ⟨a2, c2, rfl, hv2, hgr2, hat2⟩; have hs2 : ∀ q, q < wr.heap.size → w2.heap[q]? = wr.heap[q]? := fun q hq => (hgr2.block q (by first | (simp; omega) | (show q < (wr.alloc (.cells #[] 3)).heap.size; simp; omega)) (fun e => (by cases e; omega))).trans (Below.heap_alloc _ _ _ hq)
           have hz2w : wr.heap.size + 1 ≤ w2.heap.size := (by have h := hgr2.size; have h' : (wr.alloc (.cells #[] 3)).heap.size = wr.heap.size + 1 := World.size_alloc _ _; first | omega | exact Nat.le_trans (Nat.le_of_eq h'.symm) h)
           have hs2a : ∀ q, q < wr.heap.size → (w2.alloc (.cells #[.slice a2 yn c2] 23)).heap[q]? = wr.heap[q]? := fun q hq => (Below.heap_alloc _ _ _ (by omega)).trans (hs2 q hq)
           obtain ⟨x0, x1, x2⟩ := HSA.out w2 fun q hq => hs2 q (by omega)
           obtain ⟨y0, y1, y2⟩ := HSA.out (w2.alloc (.cells #[.slice a2 yn c2] 23)) fun q hq => hs2a q (by omega)
           have ha4 := HARS.out.stand (u' := w2.alloc (.cells #[.slice a2 yn c2] 23)) (by simp; omega) (fun q h1 h2 => hs2a q h2) (hs2a X (by omega))
           have hL4 := ha4.own)
        | (refine step_append_lies _ (by rfl) _ _ _ (by rfl) V.heap.size 23 i0 _ 1 24 Try.underlying24 hinf hz0 hz1' hz2' rfl (by omega) (.slice ba j bc) j _ (by rfl) hL4 ⟨w2.heap.size, 0, none⟩ 1 1 [.slice a2 yn c2] (by rfl) (by rfl) (World.news_of_block (cs := #[.slice a2 yn c2]) (t := 23) (fr := (0, 0)) (heap_alloc_new w2 _)) (by simp [Value.oneCell']) (by omega) (by unfold maxLen; omega) (by omega) (by simp; omega) (w2.heap.size + 1) (by simp) ?_; intro g cp w5 hown5 hgrow hat hlt5
           have hXr : some X ≠ (Value.slice ba j bc).ownBlock := fun e => (by have := (hL4.lt _ e.symm).1; omega)
           have hBX5 := (hgrow.block X (by simp; omega) hXr).trans ha4.bx
           have q25 : w5.cell? ⟨X, 1, none⟩ = some (.slice ba j bc) := (by rw [cell_at hBX5]; rfl)
           have f25 : w5.frozen? ⟨X, 1, none⟩ = false := frozen_of_row _ _ 1 _ _ hBX5))
      all_goals
        have HNEW : Hid (CpW2 arrs na X w (.slice a1 n c1) V (.int .i64 ((j : Int) + 1)) (w5.setCell ⟨X, 1, none⟩ (.slice (some ⟨g, 0, none⟩) (j + 1) cp))) := by
          have hXu : X < w2.heap.size := by omega
          have hb5 : Below V.heap.size (w2.alloc (.cells #[.slice a2 yn c2] 23)) w5 := (Below.refl _ _).grown hgrow (by simp; omega) (fun q e => (hL4.lt q e).1)
          have hb2 : Below wr.heap.size wr w2 := by
            first
            | exact ((Below.refl _ wr).alloc (Nat.le_refl _) _).grown hgr2 (by simp) (fun k e => by cases e; omega)
            | exact ((Below.refl _ wr).alloc (Nat.le_refl _) _).drew.grown hgr2 (by show wr.heap.size ≤ (wr.alloc (.cells #[] 3)).heap.size; simp) (fun k e => by cases e; omega)
          have hb6 : Below w.heap.size wr (w5.setCell ⟨X, 1, none⟩ (.slice (some ⟨g, 0, none⟩) (j + 1) cp)) := by
            have hmid : Below w.heap.size wr w5 := ((hb2.mono (by omega)).alloc (by omega) _).trans (hb5.mono (by omega))
            exact hmid.setCell (p := ⟨X, 1, none⟩) (show w.heap.size ≤ X by omega) _
          have hat' : (Value.slice ba j bc).ownBlock = some g ∨ (w2.alloc (.cells #[.slice a2 yn c2] 23)).heap.size ≤ g := by
            rcases hat with h | h
            · exact .inl h
            · exact .inr (by simp; omega)
          have hel4 : ElW (w2.alloc (.cells #[.slice a2 yn c2] 23)) V.heap.size (.slice ba j bc) (ys, a2, c2) := by
            have ho := hv2.stand (w' := w2.alloc (.cells #[.slice a2 yn c2] 23)) (fun q hq hq' => Below.heap_alloc _ _ _ hq')
            exact (ElW.of_own ho hz2 fun g hg => (HARS.out.lt g hg).2).2
          have hcell : Qw.cell (ys, a2, c2) = .slice a2 yn c2 := by unfold Qw.cell; rw [HYN.out]
          refine ⟨qs ++ [(ys, a2, c2)], some ⟨g, 0, none⟩, j + 1, cp, rfl, by omega, ?_, ha4.snoc hel4 (by rw [hcell]; exact hown5) hgrow hat' (by omega) (by simp; omega), HBEL2.out.trans hb6, ?_, ?_⟩
          · rw [List.map_append, HQS.out, List.take_add_one, HYS.out]; rfl
          · exact Nat.le_trans hz2 hb6.size
          · intro q hq hqX
            have hs : (w5.setCell ⟨X, 1, none⟩ (.slice (some ⟨g, 0, none⟩) (j + 1) cp)).heap[q]? = w5.heap[q]? := Below.heap_setCell _ _ _ _ (by simpa using hqX)
            rw [hs]
            exact (hb5.block q hq).trans ((hs2a q (by omega)).trans (HSTD2.out q hq hqX))
        clear x0 x1 x2 y0 y1 y2 d0 d1 d2 e0 e1 e2 f0 f1 f2 ha4 hL4 hs2 hs2a hv2 hgr2 hat2 hown5 hgrow hat hlt5 hXr hBX5 q25 f25 HARS HBEL2 HSTD2 HSA M1 M1d HY HY1 HY1d q1 p1 r1
        go_wp2_with fail
        go_roundw
        case rel => exact HNEW.out
        case measure => simp [intOf]; omega
    · have hjn : j = na := by omega
      subst hjn
      have hr1 : wr.heap[w.heap.size + 1]? = some (.cells #[.slice none 0 0, .slice none 0 0] 26 (0, 0)) := (HSTD2.out (w.heap.size + 1) (by omega) (by omega)).trans HBX1.out
      have g0 : wr.cell? ⟨X, 0, none⟩ = some (.slice a1 n c1) := by rw [cell_at HARS.out.bx]; rfl
      obtain ⟨r0, hr0⟩ := cell_ex hr1 0 (by simp)
      obtain ⟨r1', hr1'⟩ := cell_ex hr1 1 (by simp)
      have f0 := frozen_at hr1 0
      have f1 := frozen_at hr1 1
      have HFIN : Hid (Below w.heap.size w (put wr (w.heap.size + 1) 0 [.slice a1 n c1, .slice ba j bc]) ∧ OMw (put wr (w.heap.size + 1) 0 [.slice a1 n c1, .slice ba j bc]) w.heap.size V.heap.size ⟨xs, arrs⟩ ⟨a1, c1, ba, bc⟩ qs) := by
        have hpb : Below w.heap.size wr (put wr (w.heap.size + 1) 0 [.slice a1 n c1, .slice ba j bc]) := put_below _ _ _ w.heap.size (w.heap.size + 1) 0 (Below.refl _ wr) (by omega)
        have hsz := hpb.size
        refine ⟨HBEL2.out.trans hpb, ?_⟩
        have ho : OwnI wr (w.heap.size + 2) (.slice a1 n c1) xs := HOW.out.far fun g hg => HSTD2.out g (by have := HOL.out g hg; omega) (by have := HOL.out g hg; omega)
        have ho2 : OwnI (put wr (w.heap.size + 1) 0 [.slice a1 n c1, .slice ba j bc]) (w.heap.size + 2) (.slice a1 n c1) xs := ho.stand fun q h1 h2 => put_other _ _ _ _ _ (by omega)
        have ha2 : ArW V.heap.size X (.slice a1 n c1) qs ba j bc (put wr (w.heap.size + 1) 0 [.slice a1 n c1, .slice ba j bc]) := HARS.out.stand hsz (fun q h1 h2 => put_other _ _ _ _ _ (by omega)) (put_other _ _ _ _ _ (by omega))
        refine ⟨?_, ?_, by show w.heap.size ≤ V.heap.size; omega, ?_, ?_, ?_⟩
        · show OwnI _ _ (.slice a1 xs.length c1) xs
          rw [HN.out]; exact ho2.mono (by omega)
        · show ∀ g, (Value.slice a1 xs.length c1).ownBlock = some g → _
          rw [HN.out]; intro g hg; have := HOL.out g hg; omega
        · show World.ownsRow _ _ _ _ (.slice ba arrs.length bc) arrs.length _
          rw [HNA.out]; exact ha2.own
        · show ∀ q ∈ qs, ElW _ _ (.slice ba arrs.length bc) q
          rw [HNA.out]; exact ha2.els
        · rw [HQS.out, ← HNA.out, List.take_length]
      clear hr1 HARS HBEL2 HSTD2
      go_wp2_with fail
      exact bodyPost_ret (v := .agg #[.slice a1 n c1, .slice ba j bc]) (by simp [results, Try.f86, go_sem, hr0, hr1']) rfl ⟨⟨a1, c1, ba, bc⟩, V.heap.size, qs, by show _ = Ending.returned (.agg #[.slice a1 xs.length c1, .slice ba arrs.length bc]); rw [HN.out, HNA.out], HFIN.out⟩

end Go.Proofs.Ytgfagdjadmpklaa

namespace Go.Proofs.Ytgfagdjadmpklaa
open Go.RowKit
set_option linter.unusedVariables false

/-- A bent memory: it lies in new blocks. -/
def BdW (m : Mm) (B M : Nat) (w : World) (f : Ending) (w' : World) : Prop := ∃ (m' : Mm) (k' : MC), f = .returned (aggM m' k') ∧ MLD w' (fun b => w.heap.size ≤ b ∧ b < w'.heap.size) m' k' ∧ m'.vals.length ≤ m.vals.length + 1 ∧ m'.arrs.length ≤ m.arrs.length ∧ (∀ xs ∈ m'.arrs, 3 ≤ xs.length ∧ xs.length ≤ 4) ∧ RdU w' B (M + 2) ∧ Oth B w w' ∧ Below B w w'

theorem ArrZ {u : World} {base Z : Nat} {m : Mm} {k : MC} {qs : List Qw} (h : OMw u base Z m k qs) : RAt u (fun b => Z ≤ b ∧ b < u.heap.size) m.arrs k.aa :=
  OMw.arrs (base := Z) (Z := Z) (qs := qs) (m := ⟨[], m.arrs⟩) (k := ⟨none, 0, k.aa, k.ac⟩) ⟨OwnI.nil' u Z, (fun g hg => nomatch hg), Nat.le_refl _, h.own, h.els, h.eq⟩

/-- Behind the switch: the copy's box at O holds a memory in blocks that are not its result's. -/
def BdX (m : Mm) (B M R O : Nat) (w u : World) : Prop := ∃ (m' : Mm) (k' : MC), u.heap[O]? = some (.cells #[.slice k'.va m'.vals.length k'.vc, .slice k'.aa m'.arrs.length k'.ac] 26 (0, 0)) ∧ u.heap[R]? = some (.cells #[.slice none 0 0, .slice none 0 0] 26 (0, 0)) ∧ MLD u (fun b => R < b ∧ b < u.heap.size) m' k' ∧ m'.vals.length ≤ m.vals.length + 1 ∧ m'.arrs.length ≤ m.arrs.length ∧ (∀ xs ∈ m'.arrs, 3 ≤ xs.length ∧ xs.length ≤ 4) ∧ (B < R ∧ R = w.heap.size + 1 ∧ RdU u B (M + 2)) ∧ Oth B w u ∧ Below B w u
theorem BdW.drew {m : Mm} {B M : Nat} {w w' : World} {f : Ending} (h : BdW m B M w f w') : BdW m B M w f w'.drew := by
  obtain ⟨m', k', e, hm, h1, h2, h3, h4, h5, h6⟩ := h
  exact ⟨m', k', e, hm.wide (fun _ _ => rfl) (fun _ h => h), h1, h2, h3, h4.drew, h5.drew, h6.drew⟩
theorem BdX.rb {m : Mm} {B M R O : Nat} {w u : World} (h : BdX m B M R O w u) : u.heap[R]? = some (.cells #[.slice none 0 0, .slice none 0 0] 26 (0, 0)) := by
  obtain ⟨_, _, _, h, _⟩ := h
  exact h
theorem BdX.fin {m : Mm} {B M R O : Nat} {w u : World} (h : BdX m B M R O w u) {v0 v1 : Value} (y0 : u.cell? ⟨O, 0, none⟩ = some v0) (y1 : u.cell? ⟨O, 1, none⟩ = some v1) :
    BdW m B M w (.returned (.agg #[v0, v1])) ((u.setCell ⟨R, 0, none⟩ v0).setCell ⟨R, 1, none⟩ v1) := by
  obtain ⟨m2, k2, ob, rb, hm, h1, h2, h3, ⟨h4, h5, h6⟩, h7, h8⟩ := h
  rw [cell_at ob] at y0 y1
  have e0 : Value.slice k2.va m2.vals.length k2.vc = v0 := by simpa using y0
  have e1 : Value.slice k2.aa m2.arrs.length k2.ac = v1 := by simpa using y1
  have hsz : ((u.setCell ⟨R, 0, none⟩ v0).setCell ⟨R, 1, none⟩ v1).heap.size = u.heap.size := by simp [World.setCell]
  have hst : ∀ q, q ≠ R → ((u.setCell ⟨R, 0, none⟩ v0).setCell ⟨R, 1, none⟩ v1).heap[q]? = u.heap[q]? := fun q hq => by
    rw [Below.heap_setCell _ _ _ _ (by simpa using hq), Below.heap_setCell _ _ _ _ (by simpa using hq)]
  have hb : Below R u ((u.setCell ⟨R, 0, none⟩ v0).setCell ⟨R, 1, none⟩ v1) := ((Below.refl R u).setCell (p := ⟨R, 0, none⟩) (Nat.le_refl _) _).setCell (p := ⟨R, 1, none⟩) (Nat.le_refl _) _
  exact ⟨m2, k2, by unfold aggM; rw [← e0, ← e1], hm.wide (fun b hb => hst b (by omega)) (fun b hb => ⟨by omega, by rw [hsz]; exact hb.2⟩), h1, h2, h3, h6.below hb h4, ⟨by rw [hsz]; exact h7.1, fun q hq hqB => (hst q (by omega)).trans (h7.2 q hq hqB)⟩, h8.trans (hb.mono (by omega))⟩

set_option maxRecDepth 100000 in
set_option maxHeartbeats 2000000 in
theorem l3BendW (m : Mm) (k : MC) (B M : Nat) (w : World) (h : ML w m k) (hv : m.vals.length ≤ 1000) (ha : m.arrs.length ≤ 1000) (hel : ∀ xs ∈ m.arrs, 3 ≤ xs.length ∧ xs.length ≤ 4) (hr : RdU w B M) (hM : M < 1099511620000) :
    Calls Try.prog 85 #[.pointer (some ⟨B, 0, none⟩), aggM m k] w (BdW m B M w) := by
  have hlt := hr.lt
  have hsm : MSm m := ⟨by omega, by omega, fun i xs hx => by have := (hel xs (List.mem_of_getElem? hx)).2; omega⟩
  obtain ⟨W0, hW0⟩ : ∃ W0, (w.alloc (.cells #[.slice k.va m.vals.length k.vc, .slice k.aa m.arrs.length k.ac] 26)).alloc (.cells #[.slice none 0 0, .slice none 0 0] 26) = W0 := ⟨_, rfl⟩
  have hz0 : W0.heap.size = w.heap.size + 2 := by rw [← hW0]; simp
  have hb0 : Below w.heap.size w W0 := by rw [← hW0]; exact ((Below.refl _ w).alloc (Nat.le_refl _) _).alloc (by simp) _
  have hrb : W0.heap[w.heap.size + 1]? = some (.cells #[.slice none 0 0, .slice none 0 0] 26 (0, 0)) := by
    have e1 := heap_alloc_new (w.alloc (.cells #[.slice k.va m.vals.length k.vc, .slice k.aa m.arrs.length k.ac] 26)) (.cells #[.slice none 0 0, .slice none 0 0] 26)
    rw [World.size_alloc] at e1
    rw [← hW0]; exact e1
  have HM0 : Hid (ML W0 m k) := h.below hb0
  have HEL := Lib.hid hel
  have HR := Lib.hid hr
  have HSM := Lib.hid hsm
  have HW0 := Lib.hid hW0
  have HB0 := Lib.hid hb0
  have HRB := Lib.hid hrb
  clear h hel hr hsm hW0 hb0 hrb
  go_enter Try.func85, Try.ntmps85
  go_wp2_with fail
  rw [HW0.out]
  refine (l3CopyW m k W0 HM0.out HSM.out).mono ?_
  rintro f w1 ⟨k1, Z, qs, rfl, hb1, hom⟩
  have hz1 := hb1.size
  obtain ⟨W1, hW1⟩ : ∃ W1, w1.alloc (.cells #[.slice k1.va m.vals.length k1.vc, .slice k1.aa m.arrs.length k1.ac] 26) = W1 := ⟨_, rfl⟩
  have hzW : W1.heap.size = w1.heap.size + 1 := by rw [← hW1]; simp
  have hbW : Below w1.heap.size w1 W1 := by rw [← hW1]; exact (Below.refl _ w1).alloc (Nat.le_refl _) _
  have hob : W1.heap[w1.heap.size]? = some (.cells #[.slice k1.va m.vals.length k1.vc, .slice k1.aa m.arrs.length k1.ac] 26 (0, 0)) := by rw [← hW1]; exact heap_alloc_new w1 _
  have hww : Below w.heap.size w W1 := HB0.out.trans ((hb1.mono (by omega)).trans (hbW.mono (by omega)))
  have hrd1 : RdU W1 B M := HR.out.below hww hlt
  have HWW := Lib.hid hww
  have HRD1 := Lib.hid hrd1
  have HOB := Lib.hid hob
  have HRB1 : Hid (W1.heap[w.heap.size + 1]? = some (.cells #[.slice none 0 0, .slice none 0 0] 26 (0, 0))) := (hbW.block _ (by omega)).trans ((hb1.block _ (by omega)).trans HRB.out)
  have HOM := Lib.hid hom
  have HBW := Lib.hid hbW
  have HW1 := Lib.hid hW1
  clear hb1 hom hW1 hbW hob hww hrd1 HRB HB0 HM0 HR HW0
  go_wp2_with (first | rw [HW1.out] | fail)
  try rw [HW1.out]
  refine (pickU B M 60 W1 HRD1.out (by omega) (by omega) (by omega)).mono ?_
  rintro f u ⟨z, hzz, rfl, hr2, ho2, hb2⟩
  have hz2 := ho2.1
  have HST : Hid (∀ q, q < w1.heap.size → q ≠ B → u.heap[q]? = w1.heap[q]?) := fun q hq hqB => (ho2.2 q (by omega) hqB).trans (HBW.out.block q hq)
  have HOBu : Hid (u.heap[w1.heap.size]? = some (.cells #[.slice k1.va m.vals.length k1.vc, .slice k1.aa m.arrs.length k1.ac] 26 (0, 0))) := (ho2.2 _ (by omega) (by omega)).trans HOB.out
  have HRBu : Hid (u.heap[w.heap.size + 1]? = some (.cells #[.slice none 0 0, .slice none 0 0] 26 (0, 0))) := (ho2.2 _ (by omega) (by omega)).trans HRB1.out
  have HRDu := Lib.hid hr2
  have HOTu : Hid (Oth B w u) := ⟨by have := HWW.out.size; omega, fun q hq hqB => (ho2.2 q (by have := HWW.out.size; omega) hqB).trans (HWW.out.block q hq)⟩
  have HBEu : Hid (Below B w u) := (HWW.out.mono (by omega)).trans hb2
  have hlez : W0.heap.size ≤ Z := HOM.out.le
  obtain ⟨n, hn⟩ : ∃ n, m.vals.length = n := ⟨_, rfl⟩
  obtain ⟨na, hna⟩ : ∃ na, m.arrs.length = na := ⟨_, rfl⟩
  have HN := Lib.hid hn
  have HNA := Lib.hid hna
  have HVO : Hid (OwnI u W0.heap.size (.slice k1.va n k1.vc) m.vals) := by
    have h1 := HOM.out.v
    rw [hn] at h1
    exact h1.far fun g hg => HST.out g (by have h2 : w1.ownsRow W0.heap.size 3 1 (.slice k1.va n k1.vc) m.vals.length (m.vals.map (Value.int .i64)) := h1; exact (h2.lt g hg).2) (by have h2 : w1.ownsRow W0.heap.size 3 1 (.slice k1.va n k1.vc) m.vals.length (m.vals.map (Value.int .i64)) := h1; have := (h2.lt g hg).1; omega)
  have HVL : Hid (∀ g, (Value.slice k1.va n k1.vc).ownBlock = some g → W0.heap.size ≤ g ∧ g < Z ∧ g < w1.heap.size) := fun g hg => by
    have h1 := HOM.out.v
    have h2 : w1.ownsRow W0.heap.size 3 1 (.slice k1.va n k1.vc) m.vals.length (m.vals.map (Value.int .i64)) := by rw [hn] at h1; exact h1
    have h3 := h2.lt g hg
    have h4 := HOM.out.lt g (by rw [hn]; exact hg)
    exact ⟨h3.1, h4, h3.2⟩
  have HAo : Hid (u.ownsRow Z 23 1 (.slice k1.aa na k1.ac) na (qs.map Qw.cell)) := by
    have h1 := HOM.out.own
    rw [hna] at h1
    refine ⟨h1.1, ?_⟩
    rcases h1.2 with e | ⟨g, cp, cur, e1, e2, e3, e4⟩
    · exact .inl e
    · exact .inr ⟨g, cp, cur, e1, e2, (HST.out g (Array.getElem?_eq_some_iff.1 e3).1 (by omega)).trans e3, e4⟩
  have HAl : Hid (∀ g, (Value.slice k1.aa na k1.ac).ownBlock = some g → Z ≤ g ∧ g < w1.heap.size) := fun g hg => by
    have h1 := HOM.out.own
    rw [hna] at h1
    exact h1.lt g hg
  have HAe : Hid (∀ q ∈ qs, IAt u (fun b => Z ≤ b ∧ b < w1.heap.size ∧ (Value.slice k1.aa na k1.ac).ownBlock ≠ some b) q.1 q.2.1 ∧ q.1.length ≤ q.2.2 ∧ q.2.2 ≤ maxLen) := fun q hq => by
    have h1 := HOM.out.els q hq
    rw [hna] at h1
    exact ⟨h1.1.wide (fun b hb => HST.out b hb.2.1 (by omega)) fun b hb => hb, h1.2⟩
  have HQ := Lib.hid HOM.out.eq
  -- the arrays lie in any world in which the blocks of the arrays stand
  have HARR : Hid (∀ v : World, u.heap.size ≤ v.heap.size → (∀ q, Z ≤ q → q < w1.heap.size → v.heap[q]? = u.heap[q]?) → RAt v (fun b => w.heap.size + 1 < b ∧ b < v.heap.size) m.arrs k1.aa) := fun v hvz hvs => by
    have h1 : OMw w1 W0.heap.size Z m k1 qs := HOM.out
    have h2 := ArrZ h1
    exact h2.wide (fun b hb => (hvs b hb.1 hb.2).trans (HST.out b hb.2 (by omega))) fun b hb => ⟨by omega, by omega⟩
  have HVAL : Hid (∀ v : World, u.heap.size ≤ v.heap.size → (∀ g, (Value.slice k1.va n k1.vc).ownBlock = some g → v.heap[g]? = u.heap[g]?) → IAt v (fun b => w.heap.size + 1 < b ∧ b < v.heap.size) m.vals k1.va) := fun v hvz hvs => by
    have h1 := HVO.out
    obtain ⟨a', c', e, hi⟩ := (h1.far (w' := v) hvs).iat
    cases e
    exact hi.wide (fun _ _ => rfl) fun b hb => ⟨by omega, hb.2⟩
  simp only [hn, hna]
  rw [hn] at hv
  rw [hna] at ha
  clear hn hna hr2 ho2 hb2 HOM HBW HST HW1 HOB HRB1 HRD1 HWW
  have p0 : u.cell? ⟨w1.heap.size, 0, none⟩ = some (.slice k1.va n k1.vc) := by rw [cell_at HOBu.out, HN.out]; rfl
  have p1 : u.cell? ⟨w1.heap.size, 1, none⟩ = some (.slice k1.aa na k1.ac) := by rw [cell_at HOBu.out, HNA.out]; rfl
  have hOBl : u.heap[w1.heap.size]? = some (.cells #[.slice k1.va n k1.vc, .slice k1.aa na k1.ac] 26 (0, 0)) := by have h := HOBu.out; rw [HN.out, HNA.out] at h; exact h
  have fo0 := frozen_at HOBu.out 0
  have fo1 := frozen_at HOBu.out 1
  -- nothing was bent
  have HX0 : Hid (BdX m B M (w.heap.size + 1) w1.heap.size w u) := by
    refine ⟨m, k1, HOBu.out, HRBu.out, ⟨HVAL.out u (Nat.le_refl _) fun _ _ => rfl, HARR.out u (Nat.le_refl _) fun _ _ _ => rfl⟩, by omega, Nat.le_refl _, HEL.out, ⟨by omega, rfl, HRDu.out.mono (by omega)⟩, HOTu.out, HBEu.out⟩
  by_cases h0 : z = 0
  · subst h0
    obtain ⟨i0, hinf, hj0, hj1, hj2⟩ := info_parts Try.infoI
    have hL : (u.alloc (.cells #[.int .i64 0] 3)).ownsRow W0.heap.size 3 1 (.slice k1.va n k1.vc) n (m.vals.map (Value.int .i64)) := by
      have h1 := HVO.out.far (w' := u.alloc (.cells #[.int .i64 0] 3)) fun g hg => Below.heap_alloc _ _ _ (by have := HVL.out g hg; omega)
      unfold OwnI at h1
      rw [HN.out] at h1
      exact h1
    have hNB : (u.alloc (.cells #[.int .i64 0] 3)).heap[u.heap.size]? = some (.cells #[.int .i64 0] 3 (0, 0)) := heap_alloc_new u _
    have hnO : some w1.heap.size ≠ (Value.slice k1.va n k1.vc).ownBlock := fun e => by have := HVL.out _ e.symm; omega
    have hnR : some (w.heap.size + 1) ≠ (Value.slice k1.va n k1.vc).ownBlock := fun e => by have := HVL.out _ e.symm; omega
    go_wp2_with (at_builtin; refine wpList_append_lies _ (by rfl) _ _ 23 (by rfl) W0.heap.size 3 i0 _ 1 8 Try.underlying23 hinf hj0 hj1 hj2 rfl (by omega) (.slice k1.va n k1.vc) n _ (by rfl) hL ⟨u.heap.size, 0, none⟩ 1 1 _ (by rfl) (by rfl) (World.news_of_block hNB) (by simp [Value.oneCell']) (by omega) (by unfold maxLen; omega) (by omega) (by simp; omega) (u.heap.size + 1) (by simp) ?_; intro g cp w6 hown6 hgrow hat hlt6
                 have hB6 := (hgrow.block w1.heap.size (by simp; omega) hnO).trans ((Below.heap_alloc u (.cells #[.int .i64 0] 3) _ (by omega)).trans HOBu.out)
                 have q06 := cell_ex hB6 0 (by simp)
                 obtain ⟨c06, q06⟩ := q06
                 have f06 := frozen_at hB6 0
                 have q16 : w6.cell? ⟨w1.heap.size, 1, none⟩ = some (.slice k1.aa na k1.ac) := (by rw [cell_at hB6, HNA.out]; rfl)
                 have hR6 := (hgrow.block (w.heap.size + 1) (by simp; omega) hnR).trans ((Below.heap_alloc u (.cells #[.int .i64 0] 3) _ (by omega)).trans HRBu.out)
                 obtain ⟨s0, hs0⟩ := cell_ex hR6 0 (by simp)
                 obtain ⟨s1, hs1⟩ := cell_ex hR6 1 (by simp)
                 have fs0 := frozen_at hR6 0
                 have fs1 := frozen_at hR6 1)
    have hzu : (u.alloc (.cells #[.int .i64 0] 3)).heap.size = u.heap.size + 1 := by simp
    have hgz := hgrow.size
    have hst6 : ∀ q, q < u.heap.size → some q ≠ (Value.slice k1.va n k1.vc).ownBlock → q ≠ w1.heap.size → (w6.setCell ⟨w1.heap.size, 0, none⟩ (.slice (some ⟨g, 0, none⟩) (n + 1) cp)).heap[q]? = u.heap[q]? := fun q hq h1 h2 => by
      rw [Below.heap_setCell _ _ _ _ (by simpa using h2)]
      exact (hgrow.block q (by omega) h1).trans (Below.heap_alloc _ _ _ hq)
    have hb6 : Below W0.heap.size u (w6.setCell ⟨w1.heap.size, 0, none⟩ (.slice (some ⟨g, 0, none⟩) (n + 1) cp)) :=
      (((Below.refl _ u).alloc (by omega) _).grown hgrow (by omega) (fun q e => (HVL.out q e).1)).setCell (p := ⟨w1.heap.size, 0, none⟩) (show W0.heap.size ≤ w1.heap.size by omega) _
    have hs6 : (w6.setCell ⟨w1.heap.size, 0, none⟩ (.slice (some ⟨g, 0, none⟩) (n + 1) cp)).heap.size = w6.heap.size := by simp [World.setCell]
    have HX : Hid (BdX m B M (w.heap.size + 1) w1.heap.size w (w6.setCell ⟨w1.heap.size, 0, none⟩ (.slice (some ⟨g, 0, none⟩) (n + 1) cp))) := by
      have hl : (m.vals ++ [0]).length = n + 1 := by rw [List.length_append, HN.out]; rfl
      have ho6 : OwnI w6 W0.heap.size (.slice (some ⟨g, 0, none⟩) (n + 1) cp) (m.vals ++ [0]) := by
        unfold OwnI
        rw [hl, List.map_append]
        exact hown6
      have hg1 : W0.heap.size ≤ g ∧ g ≠ w1.heap.size := by
        rcases hat with e | e
        · have := HVL.out g e; omega
        · omega
      refine ⟨⟨m.vals ++ [0], m.arrs⟩, ⟨some ⟨g, 0, none⟩, cp, k1.aa, k1.ac⟩, ?_, ?_, ⟨?_, ?_⟩, by show (m.vals ++ [0]).length ≤ _; rw [hl, HN.out]; omega, by show m.arrs.length ≤ _; omega, HEL.out, ⟨by omega, rfl, ?_⟩, ?_, ?_⟩
      · show _ = some (Obj.cells #[.slice (some ⟨g, 0, none⟩) (m.vals ++ [0]).length cp, .slice k1.aa m.arrs.length k1.ac] 26 (0, 0))
        rw [blk_set hB6, hl]; rfl
      · exact (hst6 _ (by omega) hnR (by omega)).trans HRBu.out
      · obtain ⟨a', c', e, hi⟩ := (ho6.far (w' := w6.setCell ⟨w1.heap.size, 0, none⟩ (.slice (some ⟨g, 0, none⟩) (n + 1) cp)) fun g' hg' => by cases hg'; exact Below.heap_setCell _ _ _ _ (by simpa using hg1.2)).iat
        injection e with e1 _ _
        subst e1
        exact hi.wide (fun _ _ => rfl) fun b hb => ⟨by omega, hb.2⟩
      · exact HARR.out _ hb6.size fun q h1 h2 => hst6 q (by omega) (fun e => by have := HVL.out q e.symm; omega) (by omega)
      · exact (HRDu.out.below hb6 (by omega)).mono (by omega)
      · exact ⟨by have := HOTu.out.1; have := hb6.size; omega, fun q hq hqB => (hb6.block q (by omega)).trans (HOTu.out.2 q hq hqB)⟩
      · exact HBEu.out.trans (hb6.mono (by omega))
    have hOV : (w6.setCell ⟨w1.heap.size, 0, none⟩ (.slice (some ⟨g, 0, none⟩) (n + 1) cp)).heap[w1.heap.size]? = some (.cells #[.slice (some ⟨g, 0, none⟩) (n + 1) cp, .slice k1.aa na k1.ac] 26 (0, 0)) := by rw [blk_set hB6, HNA.out]; rfl
    have y0 : (w6.setCell ⟨w1.heap.size, 0, none⟩ (.slice (some ⟨g, 0, none⟩) (n + 1) cp)).cell? ⟨w1.heap.size, 0, none⟩ = some (.slice (some ⟨g, 0, none⟩) (n + 1) cp) := by rw [cell_at hOV]; rfl
    have y1 : (w6.setCell ⟨w1.heap.size, 0, none⟩ (.slice (some ⟨g, 0, none⟩) (n + 1) cp)).cell? ⟨w1.heap.size, 1, none⟩ = some (.slice k1.aa na k1.ac) := by rw [cell_at hOV]; rfl
    have HFIN := Lib.hid (BdX.fin HX.out y0 y1)
    exact bodyPost_ret (v := .agg #[.slice (some ⟨g, 0, none⟩) (n + 1) cp, .slice k1.aa na k1.ac]) (by simp [results, Try.f85, go_sem, hs0, hs1]) rfl HFIN.out
  by_cases h1 : z = 1
  · subst h1
    by_cases hn0 : n = 0
    · subst hn0
      have HX := HX0
      have y0 : u.cell? ⟨w1.heap.size, 0, none⟩ = some (.slice k1.va 0 k1.vc) := by rw [cell_at hOBl]; rfl
      have y1 : u.cell? ⟨w1.heap.size, 1, none⟩ = some (.slice k1.aa na k1.ac) := by rw [cell_at hOBl]; rfl
      have vrb := HX.out.rb
      obtain ⟨r0, hr0⟩ := cell_ex vrb 0 (by simp)
      obtain ⟨r1, hr1⟩ := cell_ex vrb 1 (by simp)
      have fr0 := frozen_at vrb 0
      have fr1 := frozen_at vrb 1
      have HFIN := Lib.hid (BdX.fin HX.out y0 y1)
      clear HX vrb
      go_wp2_with fail
      exact bodyPost_ret (v := .agg #[.slice k1.va 0 k1.vc, .slice k1.aa na k1.ac]) (by simp [results, Try.f85, go_sem, hr0, hr1]) rfl HFIN.out
    · have hnp : (0 : Int) < (n : Int) := by omega
      obtain ⟨g, hg⟩ : ∃ g, k1.va = some ⟨g, 0, none⟩ := by
        rcases HVO.out.2 with ⟨e1, e2⟩ | ⟨g, cap, cur, e1, _⟩
        · have := HN.out; omega
        · injection e1 with e1 _ _; exact ⟨g, e1⟩
      have hVO : u.ownsRow W0.heap.size 3 1 (.slice (some ⟨g, 0, none⟩) n k1.vc) n (m.vals.map (Value.int .i64)) := by
        have h1 := HVO.out
        unfold OwnI at h1
        rw [HN.out, hg] at h1
        exact h1
      have HVO2 := Lib.hid hVO
      have hgl := HVL.out g (by rw [hg]; rfl)
      have HG := Lib.hid hg
      rw [hg] at p0
      have HLT : Hid (∀ i, i < 3 → (u.alloc (.cells #[.int .i64 (-1), .int .i64 256, .int .i64 9223372036854775807] 3)).cell? ⟨u.heap.size, 0 + i, none⟩ = some (.int .i64 (([-1, 256, 9223372036854775807] : List Int).getD i 0))) := lit_cells u [-1, 256, 9223372036854775807] _
      have HLTd : Hid (∀ i, i < 3 → (u.alloc (.cells #[.int .i64 (-1), .int .i64 256, .int .i64 9223372036854775807] 3)).drew.cell? ⟨u.heap.size, 0 + i, none⟩ = some (.int .i64 (([-1, 256, 9223372036854775807] : List Int).getD i 0))) := HLT.out
      have HRa : Hid (RdU (u.alloc (.cells #[.int .i64 (-1), .int .i64 256, .int .i64 9223372036854775807] 3)) B (M + 1)) := HRDu.out.alloc _
      have HRad : Hid (RdU (u.alloc (.cells #[.int .i64 (-1), .int .i64 256, .int .i64 9223372036854775807] 3)).drew B (M + 1)) := HRa.out.drew
      have pd0 : u.drew.cell? ⟨w1.heap.size, 0, none⟩ = some (.slice (some ⟨g, 0, none⟩) n k1.vc) := p0
      have pa0 : (u.alloc (.cells #[.int .i64 (-1), .int .i64 256, .int .i64 9223372036854775807] 3)).cell? ⟨w1.heap.size, 0, none⟩ = some (.slice (some ⟨g, 0, none⟩) n k1.vc) := (World.cell?_of_block (w := u) (a := ⟨w1.heap.size, 0, none⟩) (Below.heap_alloc _ _ w1.heap.size (by omega))).trans p0
      have pad0 : (u.alloc (.cells #[.int .i64 (-1), .int .i64 256, .int .i64 9223372036854775807] 3)).drew.cell? ⟨w1.heap.size, 0, none⟩ = some (.slice (some ⟨g, 0, none⟩) n k1.vc) := pa0
      have HSTA : Hid (∀ v, Oth B (u.alloc (.cells #[.int .i64 (-1), .int .i64 256, .int .i64 9223372036854775807] 3)) v → ∀ q, q < u.heap.size → q ≠ B → v.heap[q]? = u.heap[q]?) := fun v hv q hq hqB => (hv.2 q (by simp; omega) hqB).trans (Below.heap_alloc _ _ _ hq)
      clear hVO hg
      go_wp2_with fail
      go_region_law (first
        | (go_simp; go_at_call 80
           with_reducible refine (numU B (M + 1) u.heap.size 0 3 3 [-1, 256, 9223372036854775807] _ (by first | exact HRa.out | exact HRad.out) (by omega) (by omega) rfl (by omega) (by omega) (by first | exact HLT.out | exact HLTd.out)).mono ?_
           rintro f v ⟨y, hy, rfl, hr5, ho5, hb5⟩
           have hO5 : Oth B (u.alloc (.cells #[.int .i64 (-1), .int .i64 256, .int .i64 9223372036854775807] 3)) v := (by first | exact ho5 | exact (Oth.refl _ _).drew.trans ho5)
           have hb5' : Below B (u.alloc (.cells #[.int .i64 (-1), .int .i64 256, .int .i64 9223372036854775807] 3)) v := (by first | exact hb5 | exact (Below.refl _ _).drew.trans hb5)
           have hz5 : u.heap.size + 1 ≤ v.heap.size := (by have h := hO5.1; rw [World.size_alloc] at h; exact h)
           have hs5 := HSTA.out v hO5
           have pv0 : v.cell? ⟨w1.heap.size, 0, none⟩ = some (.slice (some ⟨g, 0, none⟩) n k1.vc) := (World.cell?_of_block (w := u) (a := ⟨w1.heap.size, 0, none⟩) (hs5 w1.heap.size (by omega) (by omega))).trans p0
           obtain ⟨gc, hgc⟩ : ∃ c, u.cell? ⟨g, 0, none⟩ = some c := ⟨(m.vals.map (Value.int .i64))[0]'(by rw [List.length_map, HN.out]; omega), by rw [HVO2.out.cellAt 0 (by omega)]; exact List.getElem?_eq_getElem _⟩
           have pg0 : v.cell? ⟨g, 0, none⟩ = some gc := (World.cell?_of_block (w := u) (a := ⟨g, 0, none⟩) (hs5 g (by omega) (by omega))).trans hgc
           have fg0 : v.frozen? ⟨g, 0, none⟩ = false := (frozen_stand (hs5 g (by omega) (by omega))).trans (HVO2.out.frozenAt 0))
        | fail)
      all_goals
        have HX : Hid (BdX m B M (w.heap.size + 1) w1.heap.size w (v.setCell ⟨g, 0, none⟩ (.int .i64 y))) := by
          have hl : (m.vals.set 0 y).length = n := by rw [List.length_set, HN.out]
          have hbv : Below B u v := ((Below.refl B u).alloc (by omega) _).trans hb5'
          have hsv : ∀ q, q < u.heap.size → q ≠ B → q ≠ g → (v.setCell ⟨g, 0, none⟩ (.int .i64 y)).heap[q]? = u.heap[q]? := fun q hq hqB hqg => by
            rw [Below.heap_setCell _ _ _ _ (by simpa using hqg)]
            exact hs5 q hq hqB
          have hvz : (v.setCell ⟨g, 0, none⟩ (.int .i64 y)).heap.size = v.heap.size := by simp [World.setCell]
          have hov : v.ownsRow W0.heap.size 3 1 (.slice (some ⟨g, 0, none⟩) n k1.vc) n (m.vals.map (Value.int .i64)) := by
            refine ⟨HVO2.out.1, ?_⟩
            rcases HVO2.out.2 with e | ⟨g', cp, cur, e1, e2, e3, e4⟩
            · exact .inl e
            · cases e1
              exact .inr ⟨g, _, cur, rfl, e2, (hs5 g (by omega) (by omega)).trans e3, e4⟩
          have hos : OwnI (v.setCell ⟨g, 0, none⟩ (.int .i64 y)) W0.heap.size (.slice (some ⟨g, 0, none⟩) n k1.vc) (m.vals.set 0 y) := by
            unfold OwnI
            rw [hl, List.map_set]
            exact (hov.stored 0 (.int .i64 y)).1
          have hbs : Below w.heap.size v (v.setCell ⟨g, 0, none⟩ (.int .i64 y)) := (Below.refl _ v).setCell (p := ⟨g, 0, none⟩) (show w.heap.size ≤ g by omega) _
          refine ⟨⟨m.vals.set 0 y, m.arrs⟩, ⟨some ⟨g, 0, none⟩, k1.vc, k1.aa, k1.ac⟩, ?_, ?_, ⟨?_, ?_⟩, by show (m.vals.set 0 y).length ≤ _; rw [hl, HN.out]; omega, by show m.arrs.length ≤ _; omega, HEL.out, ⟨by omega, rfl, ?_⟩, ?_, ?_⟩
          · show _ = some (Obj.cells #[.slice (some ⟨g, 0, none⟩) (m.vals.set 0 y).length k1.vc, .slice k1.aa m.arrs.length k1.ac] 26 (0, 0))
            rw [hl, ← HG.out, ← HN.out]
            exact (hsv _ (by omega) (by omega) (by omega)).trans HOBu.out
          · exact (hsv _ (by omega) (by omega) (by omega)).trans HRBu.out
          · obtain ⟨a', c', e, hi⟩ := hos.iat
            injection e with e1 _ _
            subst e1
            exact hi.wide (fun _ _ => rfl) fun b hb => ⟨by omega, hb.2⟩
          · exact HARR.out _ (by rw [hvz]; omega) fun q h1 h2 => hsv q (by omega) (by omega) (by omega)
          · exact hr5.below hbs (by omega)
          · exact ⟨by have := HOTu.out.1; rw [hvz]; omega, fun q hq hqB => (hsv q (by have := HOTu.out.1; omega) hqB (by omega)).trans (HOTu.out.2 q hq hqB)⟩
          · exact HBEu.out.trans (hbv.trans (hbs.mono (by omega)))
        have hOV : (v.setCell ⟨g, 0, none⟩ (.int .i64 y)).heap[w1.heap.size]? = some (.cells #[.slice (some ⟨g, 0, none⟩) n k1.vc, .slice k1.aa na k1.ac] 26 (0, 0)) := by
          rw [Below.heap_setCell _ _ _ _ (by simp; omega), hs5 _ (by omega) (by omega), HOBu.out, HN.out, HNA.out, HG.out]
        clear hr5 ho5 hb5 hO5 hb5' hs5 pv0 pg0 fg0 hgc HRa HRad HLT HLTd HSTA pd0 pa0 pad0
        have y0 : (v.setCell ⟨g, 0, none⟩ (.int .i64 y)).cell? ⟨w1.heap.size, 0, none⟩ = some (.slice (some ⟨g, 0, none⟩) n k1.vc) := by rw [cell_at hOV]; rfl
        have y1 : (v.setCell ⟨g, 0, none⟩ (.int .i64 y)).cell? ⟨w1.heap.size, 1, none⟩ = some (.slice k1.aa na k1.ac) := by rw [cell_at hOV]; rfl
        have vrb := HX.out.rb
        obtain ⟨r0, hr0⟩ := cell_ex vrb 0 (by simp)
        obtain ⟨r1, hr1⟩ := cell_ex vrb 1 (by simp)
        have fr0 := frozen_at vrb 0
        have fr1 := frozen_at vrb 1
        have HFIN := Lib.hid (BdX.fin HX.out y0 y1)
        clear HX vrb
        go_wp2_with fail
        exact bodyPost_ret (v := .agg #[.slice (some ⟨g, 0, none⟩) n k1.vc, .slice k1.aa na k1.ac]) (by simp [results, Try.f85, go_sem, hr0, hr1]) rfl HFIN.out
  by_cases h2 : z = 2
  · subst h2
    by_cases hna0 : na = 0
    · subst hna0
      have HX := HX0
      have y0 : u.cell? ⟨w1.heap.size, 0, none⟩ = some (.slice k1.va n k1.vc) := by rw [cell_at hOBl]; rfl
      have y1 : u.cell? ⟨w1.heap.size, 1, none⟩ = some (.slice k1.aa 0 k1.ac) := by rw [cell_at hOBl]; rfl
      have vrb := HX.out.rb
      obtain ⟨r0, hr0⟩ := cell_ex vrb 0 (by simp)
      obtain ⟨r1, hr1⟩ := cell_ex vrb 1 (by simp)
      have fr0 := frozen_at vrb 0
      have fr1 := frozen_at vrb 1
      have HFIN := Lib.hid (BdX.fin HX.out y0 y1)
      clear HX vrb
      go_wp2_with fail
      exact bodyPost_ret (v := .agg #[.slice k1.va n k1.vc, .slice k1.aa 0 k1.ac]) (by simp [results, Try.f85, go_sem, hr0, hr1]) rfl HFIN.out
    · have hnp : (0 : Int) < (na : Int) := by omega
      obtain ⟨g, hg⟩ : ∃ g, k1.aa = some ⟨g, 0, none⟩ := by
        rcases HAo.out.2 with ⟨e1, e2⟩ | ⟨g, cap, cur, e1, _⟩
        · omega
        · injection e1 with e1 _ _; exact ⟨g, e1⟩
      have HG := Lib.hid hg
      have hAo := HAo.out
      rw [hg] at hAo p1
      have hgl := HAl.out g (by rw [hg]; rfl)
      have hql : qs.length = na := by have := congrArg List.length HQ.out; rw [List.length_map, HNA.out] at this; exact this
      obtain ⟨⟨ys, av, cv⟩, hq0⟩ : ∃ q, qs[0]? = some q := ⟨qs[0]'(by omega), List.getElem?_eq_getElem _⟩
      have hm0 : m.arrs[0]? = some ys := by rw [← HQ.out, List.getElem?_map, hq0]; rfl
      obtain ⟨hy3, hy4⟩ := HEL.out ys (List.mem_of_getElem? hm0)
      obtain ⟨hei, hec, hem⟩ := HAe.out _ (List.mem_of_getElem? hq0)
      have hec : ys.length ≤ cv := hec
      have hcell : u.cell? ⟨g, 0, none⟩ = some (.slice av ys.length cv) := by
        rw [hAo.cellAt 0 (by omega), List.getElem?_map, hq0]; rfl
      have hfz := hAo.frozenAt 0
      obtain ⟨yn, hyn⟩ : ∃ yn, ys.length = yn := ⟨_, rfl⟩
      rw [hyn] at hcell hy3 hy4 hec
      have hc3 : 3 ≤ cv := by omega
      have hi3 : (3 : Int) ≤ (cv : Int) := by omega
      have HYN := Lib.hid hyn
      have HM0 := Lib.hid hm0
      have HEI := Lib.hid hei
      have pd1 : u.drew.cell? ⟨w1.heap.size, 1, none⟩ = some (.slice (some ⟨g, 0, none⟩) na k1.ac) := p1
      have hcd : u.drew.cell? ⟨g, 0, none⟩ = some (.slice av yn cv) := hcell
      have hfd : u.drew.frozen? ⟨g, 0, none⟩ = false := hfz
      have HX : Hid (BdX m B M (w.heap.size + 1) w1.heap.size w (u.setCell ⟨g, 0, none⟩ (.slice av 3 cv))) := by
        have hsv : ∀ q, q ≠ g → (u.setCell ⟨g, 0, none⟩ (.slice av 3 cv)).heap[q]? = u.heap[q]? := fun q hqg => Below.heap_setCell u _ _ _ (by simpa using hqg)
        have hvz : (u.setCell ⟨g, 0, none⟩ (.slice av 3 cv)).heap.size = u.heap.size := by simp [World.setCell]
        have hbs : Below w.heap.size u (u.setCell ⟨g, 0, none⟩ (.slice av 3 cv)) := (Below.refl _ u).setCell (p := ⟨g, 0, none⟩) (show w.heap.size ≤ g by omega) _
        have hl3 : (ys.take 3).length = 3 := by rw [List.length_take, HYN.out]; omega
        have hvA : ∀ b, Z ≤ b ∧ b < w1.heap.size ∧ (Value.slice k1.aa na k1.ac).ownBlock ≠ some b → (u.setCell ⟨g, 0, none⟩ (.slice av 3 cv)).heap[b]? = u.heap[b]? := fun b hb => hsv b fun e => hb.2.2 (by rw [HG.out, e]; rfl)
        refine ⟨⟨m.vals, m.arrs.set 0 (ys.take 3)⟩, ⟨k1.va, k1.vc, some ⟨g, 0, none⟩, k1.ac⟩, ?_, ?_, ⟨?_, ?_⟩, by show m.vals.length ≤ _; omega, by show (m.arrs.set 0 (ys.take 3)).length ≤ _; rw [List.length_set]; exact Nat.le_refl _, ?_, ⟨by omega, rfl, ?_⟩, ?_, ?_⟩
        · show _ = some (Obj.cells #[.slice k1.va m.vals.length k1.vc, .slice (some ⟨g, 0, none⟩) (m.arrs.set 0 (ys.take 3)).length k1.ac] 26 (0, 0))
          rw [List.length_set, ← HG.out]
          exact (hsv _ (by omega)).trans HOBu.out
        · exact (hsv _ (by omega)).trans HRBu.out
        · exact HVAL.out _ (by rw [hvz]; exact Nat.le_refl _) fun g' hg' => hsv g' (by have := HVL.out g' hg'; omega)
        · refine ⟨by show (m.arrs.set 0 (ys.take 3)).length ≤ _; rw [List.length_set, HNA.out]; unfold maxLen; omega, fun i xs hx => ?_⟩
          have hx : (m.arrs.set 0 (ys.take 3))[i]? = some xs := hx
          by_cases hi : i = 0
          · subst hi
            rw [List.getElem?_set_self (by rw [HNA.out]; omega)] at hx
            cases hx
            refine ⟨g, 0, av, cv, rfl, ⟨by omega, by rw [hvz]; omega⟩, ?_, ?_⟩
            · rw [hl3]
              have := cell_set (w := u) (b := g) (j := 0) (b' := g) (o' := 0) (x := .slice av yn cv) hcell (.slice av 3 cv)
              rw [if_pos ⟨rfl, rfl⟩] at this
              exact this
            · have h1 := HEI.out.wide hvA (D' := fun b => w.heap.size + 1 < b ∧ b < (u.setCell ⟨g, 0, none⟩ (.slice av 3 cv)).heap.size) fun b hb => ⟨by omega, by rw [hvz]; omega⟩
              refine ⟨by have := h1.1; rw [List.length_take]; exact Nat.le_trans (Nat.min_le_right _ _) this, fun j hj => ?_⟩
              rw [hl3] at hj
              obtain ⟨b, o, ha1, hb1, hc1⟩ := h1.2 j (by show j < ys.length; rw [HYN.out]; omega)
              refine ⟨b, o, ha1, hb1, ?_⟩
              rw [hc1]
              simp [List.getD, hj]
          · rw [List.getElem?_set_ne (by omega)] at hx
            have hil := (List.getElem?_eq_some_iff.1 hx).1
            rw [HNA.out] at hil
            obtain ⟨⟨xs', a2, c2⟩, hq2⟩ : ∃ q, qs[i]? = some q := ⟨qs[i]'(by omega), List.getElem?_eq_getElem _⟩
            have hx2 : m.arrs[i]? = some xs' := by rw [← HQ.out, List.getElem?_map, hq2]; rfl
            rw [hx] at hx2
            cases hx2
            obtain ⟨he2, _, _⟩ := HAe.out _ (List.mem_of_getElem? hq2)
            refine ⟨g, 0, a2, c2, rfl, ⟨by omega, by rw [hvz]; omega⟩, ?_, he2.wide hvA fun b hb => ⟨by omega, by rw [hvz]; omega⟩⟩
            have hc2 : u.cell? ⟨g, 0 + i, none⟩ = some (.slice a2 xs.length c2) := by
              rw [Nat.zero_add, hAo.cellAt i (by omega), List.getElem?_map, hq2]; rfl
            have := cell_set (w := u) (b := g) (j := 0 + i) (b' := g) (o' := 0) (x := _) hc2 (.slice av 3 cv)
            rw [if_neg (by omega)] at this
            exact this
        · intro xs hx
          have hx : xs ∈ m.arrs.set 0 (ys.take 3) := hx
          rcases List.mem_or_eq_of_mem_set hx with h | rfl
          · exact HEL.out xs h
          · rw [hl3]; omega
        · exact (HRDu.out.below hbs (by omega)).mono (by omega)
        · exact ⟨by have := HOTu.out.1; rw [hvz]; omega, fun q hq hqB => (hbs.block q hq).trans (HOTu.out.2 q hq hqB)⟩
        · exact HBEu.out.trans (hbs.mono (by omega))
      have hOV : (u.setCell ⟨g, 0, none⟩ (.slice av 3 cv)).heap[w1.heap.size]? = some (.cells #[.slice k1.va n k1.vc, .slice (some ⟨g, 0, none⟩) na k1.ac] 26 (0, 0)) := by
        rw [Below.heap_setCell _ _ _ _ (by simp; omega)]
        show u.heap[w1.heap.size]? = _
        rw [HOBu.out, HN.out, HNA.out, HG.out]
      clear hAo hq0 hm0 hei hem HAe HAo HQ hyn
      go_wp2_with fail
      go_region_law (fail)
      all_goals
        have y0 : (u.setCell ⟨g, 0, none⟩ (.slice av 3 cv)).cell? ⟨w1.heap.size, 0, none⟩ = some (.slice k1.va n k1.vc) := by rw [cell_at hOV]; rfl
        have y1 : (u.setCell ⟨g, 0, none⟩ (.slice av 3 cv)).cell? ⟨w1.heap.size, 1, none⟩ = some (.slice (some ⟨g, 0, none⟩) na k1.ac) := by rw [cell_at hOV]; rfl
        have vrb := HX.out.rb
        obtain ⟨r0, hr0⟩ := cell_ex vrb 0 (by simp)
        obtain ⟨r1, hr1⟩ := cell_ex vrb 1 (by simp)
        have fr0 := frozen_at vrb 0
        have fr1 := frozen_at vrb 1
        have HFIN := Lib.hid (BdX.fin HX.out y0 y1)
        clear HX vrb
        go_wp2_with fail
        exact bodyPost_ret (v := .agg #[.slice k1.va n k1.vc, .slice (some ⟨g, 0, none⟩) na k1.ac]) (by simp [results, Try.f85, go_sem, hr0, hr1]) rfl HFIN.out.drew
  by_cases h3 : z = 3
  · subst h3
    obtain ⟨r0, hr0⟩ := cell_ex HRBu.out 0 (by simp)
    obtain ⟨r1, hr1⟩ := cell_ex HRBu.out 1 (by simp)
    have fr0 := frozen_at HRBu.out 0
    have fr1 := frozen_at HRBu.out 1
    have HFIN : Hid (BdW m B M w (.returned (.agg #[.slice none 0 0, .slice none 0 0])) ((u.setCell ⟨w.heap.size + 1, 0, none⟩ (.slice none 0 0)).setCell ⟨w.heap.size + 1, 1, none⟩ (.slice none 0 0))) := by
      have hb : Below w.heap.size u ((u.setCell ⟨w.heap.size + 1, 0, none⟩ (.slice none 0 0)).setCell ⟨w.heap.size + 1, 1, none⟩ (.slice none 0 0)) := ((Below.refl _ u).setCell (p := ⟨w.heap.size + 1, 0, none⟩) (show w.heap.size ≤ w.heap.size + 1 by omega) _).setCell (p := ⟨w.heap.size + 1, 1, none⟩) (show w.heap.size ≤ w.heap.size + 1 by omega) _
      refine ⟨⟨[], []⟩, ⟨none, 0, none, 0⟩, rfl, ⟨⟨Nat.zero_le _, fun j hj => absurd hj (Nat.not_lt_zero _)⟩, ⟨Nat.zero_le _, fun i xs hx => by simp at hx⟩⟩, Nat.zero_le _, Nat.zero_le _, fun xs hx => by simp at hx, (HRDu.out.below hb (by omega)).mono (by omega), ⟨by have := HOTu.out.1; have := hb.size; omega, fun q hq hqB => (hb.block q hq).trans (HOTu.out.2 q hq hqB)⟩, HBEu.out.trans (hb.mono (by omega))⟩
    go_wp2_with fail
    exact bodyPost_ret (v := .agg #[.slice none 0 0, .slice none 0 0]) (by simp [results, Try.f85, go_sem, hr0, hr1]) rfl HFIN.out
  have d0 : (z == 0) = false := by simpa using h0
  have d1 : (z == 1) = false := by simpa using h1
  have d2 : (z == 2) = false := by simpa using h2
  have d3 : (z == 3) = false := by simpa using h3
  have HX := HX0
  have y0 : u.cell? ⟨w1.heap.size, 0, none⟩ = some (.slice k1.va n k1.vc) := by rw [cell_at hOBl]; rfl
  have y1 : u.cell? ⟨w1.heap.size, 1, none⟩ = some (.slice k1.aa na k1.ac) := by rw [cell_at hOBl]; rfl
  have vrb := HX.out.rb
  obtain ⟨r0, hr0⟩ := cell_ex vrb 0 (by simp)
  obtain ⟨r1, hr1⟩ := cell_ex vrb 1 (by simp)
  have fr0 := frozen_at vrb 0
  have fr1 := frozen_at vrb 1
  have HFIN := Lib.hid (BdX.fin HX.out y0 y1)
  clear HX vrb
  go_wp2_with fail
  exact bodyPost_ret (v := .agg #[.slice k1.va n k1.vc, .slice k1.aa na k1.ac]) (by simp [results, Try.f85, go_sem, hr0, hr1]) rfl HFIN.out

end Go.Proofs.Ytgfagdjadmpklaa

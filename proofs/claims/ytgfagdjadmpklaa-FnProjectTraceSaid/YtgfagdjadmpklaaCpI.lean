/- The copy of a list of ints by append onto an empty literal, whatever the list: nil, empty or not. -/
import Derived.Test.YtgfagdjadmpklaaTreeP
import Derived.Test.YtgfagdjadmpklaaSlB
import Derived.Maps.AppendAt
import Derived.Deep.AppendLies
import Derived.Laws.OwnMore
namespace Go.Proofs.Ytgfagdjadmpklaa
open Go.RowKit
set_option linter.unusedVariables false

/-- A row of ints stands where its own block stands. -/
theorem OwnI.far {w w' : World} {base : Nat} {v : Value} {xs : List Int} (h : OwnI w base v xs) (hs : ∀ g, v.ownBlock = some g → w'.heap[g]? = w.heap[g]?) : OwnI w' base v xs := by
  refine ⟨h.1, ?_⟩
  rcases h.2 with h1 | ⟨g, cap, cur, h1, h2, h3, r⟩
  · exact .inl h1
  · exact .inr ⟨g, cap, cur, h1, h2, (hs g (by rw [h1]; rfl)).trans h3, r⟩

theorem OwnI.drew' {w : World} {base : Nat} {v : Value} {xs : List Int} (h : OwnI w base v xs) : OwnI w.drew base v xs := h.far fun _ _ => rfl
theorem OwnI.made' (w : World) (base : Nat) (hb : base ≤ w.heap.size) : OwnI (w.alloc (.cells #[] 3)) base (.slice (some ⟨w.heap.size, 0, none⟩) 0 0) [] :=
  World.ownsRow_made w #[] 0 hb (by unfold maxLen; omega) rfl

theorem OwnI.by' {w w' : World} {base g0 g1 : Nat} (h : OwnI w base (.slice (some ⟨g0, 0, none⟩) 0 0) []) (hg : w.grownBy w' (some g1)) (hne : g0 ≠ g1) : OwnI w' base (.slice (some ⟨g0, 0, none⟩) 0 0) [] := h.far fun g e => by
  have hlt := ((show w.ownsRow base 3 1 (.slice (some ⟨g0, 0, none⟩) 0 0) 0 [] from h).lt g e).2
  cases e
  exact hg.block g0 hlt (fun e => hne (by injection e))

/-- What the append of a list of ints onto an empty row of the call's own leaves. -/
def CpI (w : World) (base g : Nat) (xs : List Int) (v : Value) (w' : World) : Prop := ∃ a cap, v = .slice a xs.length cap ∧ OwnI w' base (.slice a xs.length cap) xs ∧ w.grownBy w' (some g) ∧ ((Value.slice a xs.length cap).ownBlock = some g ∨ (Value.slice a xs.length cap).ownBlock = some w.heap.size)

theorem run_copyI (w : World) (ty base g : Nat) (hI : (Try.prog.info? 3).map (fun i => (i.zero, i.size, i.bytes)) = some (some (Value.int .i64 0), 1, 8)) (hown : OwnI w base (.slice (some ⟨g, 0, none⟩) 0 0) [])
    (xs : List Int) (A : Option Addr) (c : Nat) (D : Nat → Prop) (hr : IntsAt w D xs A) (hl : xs.length ≤ 1048576) (hb : base ≤ w.heap.size) :
    ∃ v w', (Builtin.append_ #[23, 23] ty #[.slice (some ⟨g, 0, none⟩) 0 0, .slice A xs.length c]).run Try.prog w = .ok v w' ∧ CpI w base g xs v w' := by
  obtain ⟨i, hi, hz, hsz, hby⟩ := info_parts hI
  rcases A with _ | ad
  · have h0 : xs = [] := by
      cases xs with
      | nil => rfl
      | cons x xs =>
        obtain ⟨b, o, h, _⟩ := hr 0 (by simp)
        cases h
    subst h0
    refine ⟨_, _, ?_, some ⟨g, 0, none⟩, 0, rfl, hown, World.grownBy.refl w _, .inl rfl⟩
    rcases hown.2 with ⟨h1, _⟩ | ⟨g', cap, cur, h1, _, _, hnc, _⟩
    · cases h1
    · cases h1
      simp [Builtin.append_, run_underlying Try.underlying23, sizeOf, typeInfo, hi, Builtin.lenOf, Builtin.firstCells, storeCells]
  · have hnews : ∀ j u, (xs.map (Value.int .i64))[j]? = some u → w.cell? (ad.add j) = some u := fun j u hu => by
      have hj : j < xs.length := by have := (List.getElem?_eq_some_iff.1 hu).1; simpa using this
      obtain ⟨b, o, he, _, hc⟩ := hr j hj
      cases he
      have hadd : (⟨b, o, none⟩ : Addr).add j = ⟨b, o + j, none⟩ := by unfold Addr.add; split <;> simp_all
      rw [hadd, hc]
      rw [List.getElem?_map, List.getElem?_eq_getElem hj] at hu
      simp only [Option.map_some, Option.some.injEq] at hu
      rw [← hu]
      simp [List.getD, List.getElem?_eq_getElem hj]
    obtain ⟨v', w', h1, h2, h3, h4, h5⟩ := run_append_own_at (P := Try.prog) w base 23 ty 3 i _ 1 8 Try.underlying23 hi hz hsz hby rfl (by omega) (.slice (some ⟨g, 0, none⟩) 0 0) 0 [] hown ad xs.length c (xs.map (Value.int .i64)) (by simp) hnews (by simp [Value.oneCell']) (by unfold maxLen; omega) (by omega) hb
    rw [Nat.zero_add, List.nil_append] at h2
    have hv : ∃ a cap, v' = .slice a xs.length cap := by
      rcases h2.2 with ⟨e1, e2⟩ | ⟨g', cap, cur, e1, _⟩
      · exact ⟨none, 0, by rw [e1, e2]⟩
      · exact ⟨_, _, e1⟩
    obtain ⟨a, cap, rfl⟩ := hv
    exact ⟨_, w', h1, a, cap, rfl, h2, h3, h5⟩

/-- At a step of a region that draws. -/
theorem step_copyI {ops : Array Oper} {o : Oper} {a : Act} {w : World} {K : Act → World → Prop} {Q : Exit → Act → World → Prop} {E : Prop} (hgd : o.guard = none) (s x : Operand)
    (ho : o.op = .call { callee := .builtin .append, args := #[s, x], argTypes := #[23, 23] }) (hI : (Try.prog.info? 3).map (fun i => (i.zero, i.size, i.bytes)) = some (some (Value.int .i64 0), 1, 8))
    (base g : Nat) (hs : a.eval s = .slice (some ⟨g, 0, none⟩) 0 0) (hown : OwnI w base (.slice (some ⟨g, 0, none⟩) 0 0) [])
    (xs : List Int) (A : Option Addr) (c : Nat) (hx : a.eval x = .slice A xs.length c) (D : Nat → Prop) (hr : IntsAt w D xs A) (hl : xs.length ≤ 1048576) (hb : base ≤ w.heap.size)
    (h : ∀ v w', CpI w base g xs v w' → K (a.put o.dst v) w') :
    if Region.wanted o (yielded ops a.tmps) = true then Oper.wp Try.prog o a w K Q else E := by
  have hw : Region.wanted o (yielded ops a.tmps) = true := by simp [Region.wanted, hgd]
  rw [if_pos hw]
  obtain ⟨v, w', hrun, hc⟩ := run_copyI w o.type base g hI hown xs A c D hr hl hb
  unfold Oper.wp execOp
  simp only [ho, resolve, invoke, builtin, Sem.run_bind, Sem.run_pure, Result.andThen_ok, List.map_toArray, List.map_cons, List.map_nil, hs, hx, hrun]
  exact h v w' hc

/-- At the list of a plain region's operations. -/
theorem wpList_copyI {ops : Array Oper} {rest : List Oper} {o : Oper} {a : Act} {w : World} {Q : Exit → Act → World → Prop} (hgd : o.guard = none) (s x : Operand)
    (ho : o.op = .call { callee := .builtin .append, args := #[s, x], argTypes := #[23, 23] }) (hI : (Try.prog.info? 3).map (fun i => (i.zero, i.size, i.bytes)) = some (some (Value.int .i64 0), 1, 8))
    (base g : Nat) (hs : a.eval s = .slice (some ⟨g, 0, none⟩) 0 0) (hown : OwnI w base (.slice (some ⟨g, 0, none⟩) 0 0) [])
    (xs : List Int) (A : Option Addr) (c : Nat) (hx : a.eval x = .slice A xs.length c) (D : Nat → Prop) (hr : IntsAt w D xs A) (hl : xs.length ≤ 1048576) (hb : base ≤ w.heap.size)
    (h : ∀ v w', CpI w base g xs v w' → wpList Try.prog ops Q rest (a.put o.dst v) w') : wpList Try.prog ops Q (o :: rest) a w :=
  wpList_plain hgd fun _ hK => by
    obtain ⟨v, w', hrun, hc⟩ := run_copyI w o.type base g hI hown xs A c D hr hl hb
    unfold Oper.wp execOp
    simp only [ho, resolve, invoke, builtin, Sem.run_bind, Sem.run_pure, Result.andThen_ok, List.map_toArray, List.map_cons, List.map_nil, hs, hx, hrun]
    exact hK _ _ (h v w' hc)

end Go.Proofs.Ytgfagdjadmpklaa

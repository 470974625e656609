/- An own row of events, grown by all of another row of events, whatever that is: nil, empty or not. -/
import Derived.Test.YtgfagdjadmpklaaL3E
import Derived.Maps.AppendAt
import Derived.Laws.OwnMore
namespace Go.Proofs.Ytgfagdjadmpklaa
open Go.RowKit
set_option linter.unusedVariables false

/-- The cells of a list of events. -/
def flatE (es : List (Int × Int)) : List Value := cellsL (fun (x : Int × Int) (_ : Unit) => [.int .i64 x.1, .int .i64 x.2]) es (List.replicate es.length ())
theorem flatE_cons (x : Int × Int) (es : List (Int × Int)) : flatE (x :: es) = .int .i64 x.1 :: .int .i64 x.2 :: flatE es := by simp [flatE, cellsL, List.replicate_succ]
theorem flatE_app : ∀ (es fs : List (Int × Int)), flatE (es ++ fs) = flatE es ++ flatE fs
  | [], fs => by simp [flatE, cellsL]
  | x :: es, fs => by rw [List.cons_append, flatE_cons, flatE_cons, flatE_app es fs]; rfl
theorem flatE_len : ∀ (es : List (Int × Int)), (flatE es).length = es.length * 2
  | [] => rfl
  | x :: es => by rw [flatE_cons, List.length_cons, List.length_cons, flatE_len es, List.length_cons]; omega
theorem flatE_one : ∀ (es : List (Int × Int)), ∀ u ∈ flatE es, u.oneCell' = true
  | [], u, h => by simp [flatE, cellsL] at h
  | x :: es, u, h => by
    rw [flatE_cons] at h
    rcases List.mem_cons.1 h with rfl | h
    · rfl
    rcases List.mem_cons.1 h with rfl | h
    · rfl
    exact flatE_one es u h
theorem flatE_at : ∀ (es : List (Int × Int)) (i : Nat) (x : Int × Int), es[i]? = some x → (flatE es)[i * 2]? = some (.int .i64 x.1) ∧ (flatE es)[i * 2 + 1]? = some (.int .i64 x.2)
  | [], i, x, h => by simp at h
  | y :: es, 0, x, h => by simp at h; subst h; rw [flatE_cons]; exact ⟨rfl, rfl⟩
  | y :: es, i + 1, x, h => by
    obtain ⟨h1, h2⟩ := flatE_at es i x (by simpa using h)
    rw [flatE_cons, show (i + 1) * 2 = i * 2 + 1 + 1 by omega]
    exact ⟨by simpa using h1, by simpa using h2⟩

theorem RowEv.flat {w : World} {base : Nat} {v : Value} {es : List (Int × Int)} (h : RowEv w base v es) : w.ownsRow base 92 2 v es.length (flatE es) := by
  obtain ⟨L, h1, h2, _⟩ := h
  have hL : L = List.replicate es.length () := by
    apply List.ext_getElem?
    intro i
    by_cases hi : i < es.length
    · rw [List.getElem?_replicate, if_pos hi, List.getElem?_eq_getElem (by rw [h1]; exact hi)]
    · rw [List.getElem?_replicate, if_neg hi, List.getElem?_eq_none (by rw [h1]; omega)]
  rw [hL] at h2
  exact h2
theorem RowEv.ofFlat {w : World} {base : Nat} {v : Value} {es : List (Int × Int)} (h : w.ownsRow base 92 2 v es.length (flatE es)) : RowEv w base v es :=
  ⟨List.replicate es.length (), by simp, h, fun _ _ _ _ _ => trivial⟩
theorem RowEv.made (w : World) (base : Nat) (hb : base ≤ w.heap.size) : RowEv (w.alloc (.cells #[] 92)) base (.slice (some ⟨w.heap.size, 0, none⟩) 0 0) [] :=
  RowEv.ofFlat (World.ownsRow_made w #[] 0 hb (by unfold maxLen; omega) rfl)
/-- Its cells, one by one. -/
theorem RowEv.at {w : World} {base : Nat} {a : Option Addr} {n c : Nat} {es : List (Int × Int)} (h : RowEv w base (.slice a n c) es) (i : Nat) (x : Int × Int) (hx : es[i]? = some x) : ∃ b, a = some ⟨b, 0, none⟩ ∧ base ≤ b ∧ b < w.heap.size ∧ w.cell? ⟨b, i * 2, none⟩ = some (.int .i64 x.1) ∧ w.cell? ⟨b, i * 2 + 1, none⟩ = some (.int .i64 x.2) := by
  have hf := h.flat
  obtain ⟨h1, h2⟩ := flatE_at es i x hx
  rcases hf.2 with ⟨_, h3⟩ | ⟨g, cp, cur, e1, e2, e3, e4⟩
  · have := (List.getElem?_eq_some_iff.1 hx).1; omega
  · cases e1
    have hc := hf.cells (g := g) rfl
    have k1 := hc _ _ h1
    have k2 := hc _ _ h2
    have hadd : ∀ j, (⟨g, 0, none⟩ : Addr).add j = ⟨g, j, none⟩ := fun j => by unfold Addr.add; split <;> simp_all
    rw [hadd] at k1 k2
    exact ⟨g, rfl, e2, (Array.getElem?_eq_some_iff.1 e3).1, k1, k2⟩

/-- What the append of a row of events onto a row of the call's own leaves. -/
def ApE (w : World) (base g : Nat) (es fs : List (Int × Int)) (v : Value) (w' : World) : Prop := ∃ a cap, v = .slice a (es ++ fs).length cap ∧ RowEv w' base (.slice a (es ++ fs).length cap) (es ++ fs) ∧ w.grownBy w' (some g) ∧ ((Value.slice a (es ++ fs).length cap).ownBlock = some g ∨ (Value.slice a (es ++ fs).length cap).ownBlock = some w.heap.size)

theorem run_appE (w : World) (ty base tb g n cap : Nat) (es fs : List (Int × Int)) (hn : es.length = n) (hown : RowEv w base (.slice (some ⟨g, 0, none⟩) n cap) es)
    (A : Option Addr) (m c : Nat) (hm : fs.length = m) (hr : RowEv w tb (.slice A m c) fs) (hl : n + m ≤ 2199023255552) (hb : base ≤ w.heap.size) :
    ∃ v w', (Builtin.append_ #[33, 33] ty #[.slice (some ⟨g, 0, none⟩) n cap, .slice A m c]).run Try.prog w = .ok v w' ∧ ApE w base g es fs v w' := by
  subst hn hm
  obtain ⟨i, hi, hz, hsz, hby⟩ := info_parts infoEv
  rcases A with _ | ad
  · have h0 : fs = [] := by
      rcases hr.flat.2 with ⟨_, h2⟩ | ⟨g', cp, cur, e1, _⟩
      · exact List.eq_nil_of_length_eq_zero h2
      · cases e1
    subst h0
    refine ⟨.slice (some ⟨g, 0, none⟩) es.length cap, w, ?_, some ⟨g, 0, none⟩, cap, by simp, by simpa using hown, World.grownBy.refl w _, .inl rfl⟩
    rcases hown.flat.2 with ⟨h1, _⟩ | ⟨g', cap', cur, h1, _, _, hnc, _⟩
    · cases h1
    · cases h1
      simp [Builtin.append_, run_underlying Try.underlying33, sizeOf, typeInfo, hi, Builtin.lenOf, Builtin.firstCells, storeCells, hnc, loadCells]
  · have hnews : ∀ j u, (flatE fs)[j]? = some u → w.cell? (ad.add j) = some u := by
      rcases hr.flat.2 with ⟨h1, _⟩ | ⟨g', cp, cur, e1, _⟩
      · cases h1
      · cases e1
        exact hr.flat.cells (g := g') rfl
    obtain ⟨v', w', h1, h2, h3, h4, h5⟩ := run_append_own_at (P := Try.prog) w base 33 ty 92 i _ 2 16 Try.underlying33 hi hz hsz hby rfl (by omega) (.slice (some ⟨g, 0, none⟩) es.length cap) es.length (flatE es) hown.flat ad fs.length c (flatE fs) (flatE_len fs) hnews (flatE_one fs) (by unfold maxLen; omega) (by omega) hb
    rw [← flatE_app, ← List.length_append] at h2
    have hv : ∃ a cap, v' = .slice a (es ++ fs).length cap := by
      rcases h2.2 with ⟨e1, e2⟩ | ⟨g', cap, cur, e1, _⟩
      · exact ⟨none, 0, by rw [e1, e2]⟩
      · exact ⟨_, _, e1⟩
    obtain ⟨a, cap, rfl⟩ := hv
    exact ⟨_, w', h1, a, cap, rfl, RowEv.ofFlat h2, h3, h5⟩

/-- At the list of a plain region's operations. -/
theorem wpList_appE {ops : Array Oper} {rest : List Oper} {o : Oper} {a : Act} {w : World} {Q : Exit → Act → World → Prop} (hgd : o.guard = none) (s x : Operand)
    (ho : o.op = .call { callee := .builtin .append, args := #[s, x], argTypes := #[33, 33] })
    (base tb g n cap : Nat) (es fs : List (Int × Int)) (hn : es.length = n) (hs : a.eval s = .slice (some ⟨g, 0, none⟩) n cap) (hown : RowEv w base (.slice (some ⟨g, 0, none⟩) n cap) es)
    (A : Option Addr) (m c : Nat) (hm : fs.length = m) (hx : a.eval x = .slice A m c) (hr : RowEv w tb (.slice A m c) fs) (hl : n + m ≤ 2199023255552) (hb : base ≤ w.heap.size)
    (h : ∀ v w', ApE w base g es fs v w' → wpList Try.prog ops Q rest (a.put o.dst v) w') : wpList Try.prog ops Q (o :: rest) a w :=
  wpList_plain hgd fun _ hK => by
    obtain ⟨v, w', hrun, hc⟩ := run_appE w o.type base tb g n cap es fs hn hown A m c hm hr hl hb
    unfold Oper.wp execOp
    simp only [ho, resolve, invoke, builtin, Sem.run_bind, Sem.run_pure, Result.andThen_ok, List.map_toArray, List.map_cons, List.map_nil, hs, hx, hrun]
    exact hK _ _ (h v w' hc)

/-- At a step of a region that draws. -/
theorem step_appE {ops : Array Oper} {o : Oper} {a : Act} {w : World} {K : Act → World → Prop} {Q : Exit → Act → World → Prop} {E : Prop} (hgd : o.guard = none) (s x : Operand)
    (ho : o.op = .call { callee := .builtin .append, args := #[s, x], argTypes := #[33, 33] })
    (base tb g n cap : Nat) (es fs : List (Int × Int)) (hn : es.length = n) (hs : a.eval s = .slice (some ⟨g, 0, none⟩) n cap) (hown : RowEv w base (.slice (some ⟨g, 0, none⟩) n cap) es)
    (A : Option Addr) (m c : Nat) (hm : fs.length = m) (hx : a.eval x = .slice A m c) (hr : RowEv w tb (.slice A m c) fs) (hl : n + m ≤ 2199023255552) (hb : base ≤ w.heap.size)
    (h : ∀ v w', ApE w base g es fs v w' → K (a.put o.dst v) w') :
    if Region.wanted o (yielded ops a.tmps) = true then Oper.wp Try.prog o a w K Q else E := by
  have hw : Region.wanted o (yielded ops a.tmps) = true := by simp [Region.wanted, hgd]
  rw [if_pos hw]
  obtain ⟨v, w', hrun, hc⟩ := run_appE w o.type base tb g n cap es fs hn hown A m c hm hr hl hb
  unfold Oper.wp execOp
  simp only [ho, resolve, invoke, builtin, Sem.run_bind, Sem.run_pure, Result.andThen_ok, List.map_toArray, List.map_cons, List.map_nil, hs, hx, hrun]
  exact h v w' hc

end Go.Proofs.Ytgfagdjadmpklaa

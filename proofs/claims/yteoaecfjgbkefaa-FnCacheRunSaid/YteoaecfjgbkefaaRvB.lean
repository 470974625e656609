/- Rows of events of a call's own (split off Rm, L3E and TrA). -/
import Derived.Test.YteoaecfjgbkefaaRowA
import Derived.Maps.AppendAt
import Derived.Laws.OwnMore
namespace Go.Proofs.Yteoaecfjgbkefaa
open Go.RowKit
set_option linter.unusedVariables false

/-- Rows of events. -/
abbrev RowEv (w : World) (base : Nat) (v : Value) (es : List (Int × Int)) : Prop := RowG 43 2 (fun (x : Int × Int) (_ : Unit) => [.int .i64 x.1, .int .i64 x.2]) (fun _ _ _ _ => True) w base v es

theorem hREv : ∀ (w w' : World) (D D' : Nat → Prop) (x : Int × Int) (k : Unit), Stand D w w' → (∀ j, D j → D' j) → (fun (_ : World) (_ : Nat → Prop) (_ : Int × Int) (_ : Unit) => True) w D x k → (fun (_ : World) (_ : Nat → Prop) (_ : Int × Int) (_ : Unit) => True) w' D' x k := fun _ _ _ _ _ _ _ _ h => h
/-- A row lies on where its own block stands. -/
theorem RowEv.stand {w w' : World} {tb : Nat} {v : Value} {es : List (Int × Int)} (h : RowEv w tb v es) (hs : ∀ g, v.ownBlock = some g → g < w.heap.size → w'.heap[g]? = w.heap[g]?) : RowEv w' tb v es := by
  obtain ⟨L, h1, h2, h3⟩ := h
  refine ⟨L, h1, ⟨h2.1, ?_⟩, fun _ _ _ _ _ => trivial⟩
  rcases h2.2 with h | ⟨g, cap, cur, rfl, e2, e3, e4⟩
  · exact .inl h
  · exact .inr ⟨g, cap, cur, rfl, e2, (hs g rfl (Array.getElem?_eq_some_iff.1 e3).1).trans e3, e4⟩
theorem RowEv.lt {w : World} {tb : Nat} {v : Value} {es : List (Int × Int)} (h : RowEv w tb v es) (g : Nat) (hg : v.ownBlock = some g) : tb ≤ g ∧ g < w.heap.size := by
  obtain ⟨L, h1, h2, h3⟩ := h
  exact h2.lt g hg

theorem infoEv : (Try.prog.info? 43).map (fun i => (i.zero, i.size, i.bytes)) = some (some (.agg #[.int .i64 0, .int .i64 0]), 2, 16) := by kernel_rfl

/-- The cells of a list of events. -/
def flatE (es : List (Int × Int)) : List Value := cellsL (fun (x : Int × Int) (_ : Unit) => [.int .i64 x.1, .int .i64 x.2]) es (List.replicate es.length ())
theorem flatE_cons (x : Int × Int) (es : List (Int × Int)) : flatE (x :: es) = .int .i64 x.1 :: .int .i64 x.2 :: flatE es := by simp [flatE, cellsL, List.replicate_succ]
theorem flatE_app : ∀ (es fs : List (Int × Int)), flatE (es ++ fs) = flatE es ++ flatE fs
  | [], fs => by simp [flatE, cellsL]
  | x :: es, fs => by rw [List.cons_append, flatE_cons, flatE_cons, flatE_app es fs]; rfl
theorem flatE_len : ∀ (es : List (Int × Int)), (flatE es).length = es.length * 2
  | [] => rfl
  | x :: es => by rw [flatE_cons, List.length_cons, List.length_cons, flatE_len es, List.length_cons]; omega
theorem flatE_one : ∀ (es : List (Int × Int)), ∀ u ∈ flatE es, u.oneCell' = true
  | [], u, h => by simp [flatE, cellsL] at h
  | x :: es, u, h => by
    rw [flatE_cons] at h
    rcases List.mem_cons.1 h with rfl | h
    · rfl
    rcases List.mem_cons.1 h with rfl | h
    · rfl
    exact flatE_one es u h
theorem flatE_at : ∀ (es : List (Int × Int)) (i : Nat) (x : Int × Int), es[i]? = some x → (flatE es)[i * 2]? = some (.int .i64 x.1) ∧ (flatE es)[i * 2 + 1]? = some (.int .i64 x.2)
  | [], i, x, h => by simp at h
  | y :: es, 0, x, h => by simp at h; subst h; rw [flatE_cons]; exact ⟨rfl, rfl⟩
  | y :: es, i + 1, x, h => by
    obtain ⟨h1, h2⟩ := flatE_at es i x (by simpa using h)
    rw [flatE_cons, show (i + 1) * 2 = i * 2 + 1 + 1 by omega]
    exact ⟨by simpa using h1, by simpa using h2⟩

theorem RowEv.flat {w : World} {base : Nat} {v : Value} {es : List (Int × Int)} (h : RowEv w base v es) : w.ownsRow base 43 2 v es.length (flatE es) := by
  obtain ⟨L, h1, h2, _⟩ := h
  have hL : L = List.replicate es.length () := by
    apply List.ext_getElem?
    intro i
    by_cases hi : i < es.length
    · rw [List.getElem?_replicate, if_pos hi, List.getElem?_eq_getElem (by rw [h1]; exact hi)]
    · rw [List.getElem?_replicate, if_neg hi, List.getElem?_eq_none (by rw [h1]; omega)]
  rw [hL] at h2
  exact h2
theorem RowEv.ofFlat {w : World} {base : Nat} {v : Value} {es : List (Int × Int)} (h : w.ownsRow base 43 2 v es.length (flatE es)) : RowEv w base v es :=
  ⟨List.replicate es.length (), by simp, h, fun _ _ _ _ _ => trivial⟩
theorem RowEv.made (w : World) (base : Nat) (hb : base ≤ w.heap.size) : RowEv (w.alloc (.cells #[] 43)) base (.slice (some ⟨w.heap.size, 0, none⟩) 0 0) [] :=
  RowEv.ofFlat (World.ownsRow_made w #[] 0 hb (by unfold maxLen; omega) rfl)
/-- Its cells, one by one. -/
theorem RowEv.at {w : World} {base : Nat} {a : Option Addr} {n c : Nat} {es : List (Int × Int)} (h : RowEv w base (.slice a n c) es) (i : Nat) (x : Int × Int) (hx : es[i]? = some x) : ∃ b, a = some ⟨b, 0, none⟩ ∧ base ≤ b ∧ b < w.heap.size ∧ w.cell? ⟨b, i * 2, none⟩ = some (.int .i64 x.1) ∧ w.cell? ⟨b, i * 2 + 1, none⟩ = some (.int .i64 x.2) := by
  have hf := h.flat
  obtain ⟨h1, h2⟩ := flatE_at es i x hx
  rcases hf.2 with ⟨_, h3⟩ | ⟨g, cp, cur, e1, e2, e3, e4⟩
  · have := (List.getElem?_eq_some_iff.1 hx).1; omega
  · cases e1
    have hc := hf.cells (g := g) rfl
    have k1 := hc _ _ h1
    have k2 := hc _ _ h2
    have hadd : ∀ j, (⟨g, 0, none⟩ : Addr).add j = ⟨g, j, none⟩ := fun j => by unfold Addr.add; split <;> simp_all
    rw [hadd] at k1 k2
    exact ⟨g, rfl, e2, (Array.getElem?_eq_some_iff.1 e3).1, k1, k2⟩

end Go.Proofs.Yteoaecfjgbkefaa

/- Rows of events seen as lists of events, and lists of events cut and written anew. -/
import Derived.Test.YteoaecfjgbkefaaRvB
import Derived.Test.YteoaecfjgbkefaaCelB
import Derived.Test.YteoaecfjgbkefaaEv
import Derived.Test.YteoaecfjgbkefaaMutB
namespace Go.Proofs.Yteoaecfjgbkefaa
open Go.RowKit
set_option linter.unusedVariables false

/-- A list of pairs as a list of events. -/
def evs (es : List (Int × Int)) : List Ev := es.map fun x => ⟨x.1, x.2⟩
theorem evs_len (es : List (Int × Int)) : (evs es).length = es.length := by simp [evs]
theorem RowEv.evl {w : World} {base : Nat} {a : Option Addr} {c : Nat} {es : List (Int × Int)} (h : RowEv w base (.slice a es.length c) es) : EvL w (evs es) a c := by
  refine ⟨?_, ?_, fun i x hx => ?_⟩
  · rw [evs_len]
    rcases h.flat.2 with ⟨e1, e2⟩ | ⟨g, cap, cur, e1, _, _, hn, hm, _⟩
    · injection e1 with _ _ e3; omega
    · injection e1 with _ _ e3; rw [e3]; exact hn
  · rcases h.flat.2 with ⟨e1, e2⟩ | ⟨g, cap, cur, e1, _, _, hn, hm, _⟩
    · injection e1 with _ _ e3; rw [e3]; unfold maxLen; omega
    · injection e1 with _ _ e3; rw [e3]; exact hm
  · obtain ⟨y, hy, rfl⟩ : ∃ y, es[i]? = some y ∧ (⟨y.1, y.2⟩ : Ev) = x := by
      unfold evs at hx
      rw [List.getElem?_map] at hx
      cases he : es[i]? with
      | none => rw [he] at hx; cases hx
      | some y => rw [he] at hx; exact ⟨y, rfl, by simpa using hx⟩
    obtain ⟨b, e, h1, h2, h3, h4⟩ := h.at i y hy
    exact ⟨b, 0, e, h2, by rw [Nat.zero_add]; exact h3, by rw [Nat.zero_add]; exact h4⟩
theorem EvL.take {u : World} {es : List Ev} {a : Option Addr} {c : Nat} (h : EvL u es a c) (k : Nat) : EvL u (es.take k) a c := by
  refine ⟨by rw [List.length_take]; exact Nat.le_trans (Nat.min_le_right _ _) h.1, h.2.1, fun i x hx => h.2.2 i x ?_⟩
  rw [List.getElem?_take] at hx
  split at hx
  · exact hx
  · cases hx
theorem EvL.setVal {u : World} {g c : Nat} {es : List Ev} (h : EvL u es (some ⟨g, 0, none⟩) c) (k : Nat) (z : Int) (e : Ev) (he : es[k]? = some e) : EvL (u.setCell ⟨g, k * 2 + 1, none⟩ (.int .i64 z)) (es.set k ⟨e.kind, z⟩) (some ⟨g, 0, none⟩) c := by
  refine ⟨by rw [List.length_set]; exact h.1, h.2.1, fun i x hx => ?_⟩
  have hsz : (u.setCell ⟨g, k * 2 + 1, none⟩ (.int .i64 z)).heap.size = u.heap.size := by simp [World.setCell]
  by_cases hi : i = k
  · subst hi
    have hlt := (List.getElem?_eq_some_iff.1 he).1
    rw [List.getElem?_set_self hlt] at hx
    obtain rfl : (⟨e.kind, z⟩ : Ev) = x := by simpa using hx
    obtain ⟨b, o, e1, h2, h3, h4⟩ := h.2.2 i e he
    cases e1
    simp only [Nat.zero_add] at h3 h4
    refine ⟨g, 0, rfl, by rw [hsz]; exact h2, ?_, ?_⟩
    · rw [Nat.zero_add, cell_set h3, if_neg (by omega)]
    · rw [Nat.zero_add, cell_set h4, if_pos ⟨rfl, rfl⟩]
  · rw [List.getElem?_set_ne (fun e => hi e.symm)] at hx
    obtain ⟨b, o, e1, h2, h3, h4⟩ := h.2.2 i x hx
    cases e1
    simp only [Nat.zero_add] at h3 h4
    refine ⟨g, 0, rfl, by rw [hsz]; exact h2, ?_, ?_⟩
    · rw [Nat.zero_add, cell_set h3, if_neg (by omega)]
    · rw [Nat.zero_add, cell_set h4, if_neg (by omega)]
theorem EvL.keep {u u' : World} {es : List Ev} {a : Option Addr} {c : Nat} (h : EvL u es a c) (hz : u.heap.size ≤ u'.heap.size) (hs : ∀ b o, a = some ⟨b, o, none⟩ → u'.heap[b]? = u.heap[b]?) : EvL u' es a c :=
  ⟨h.1, h.2.1, fun i x hx => by
    obtain ⟨b, o, e1, h2, h3, h4⟩ := h.2.2 i x hx
    exact ⟨b, o, e1, by omega, (World.cell?_of_block (w := u) (hs b o e1)).trans h3, (World.cell?_of_block (w := u) (hs b o e1)).trans h4⟩⟩

/-- A list of events as a list of pairs. -/
def prs (es : List Ev) : List (Int × Int) := es.map fun x => (x.kind, x.value)
theorem prs_len (es : List Ev) : (prs es).length = es.length := by simp [prs]
theorem evs_prs : ∀ (es : List Ev), evs (prs es) = es
  | [] => rfl
  | x :: es => by show (⟨x.kind, x.value⟩ : Ev) :: evs (prs es) = _; rw [evs_prs es]
theorem prs_evs : ∀ (es : List (Int × Int)), prs (evs es) = es
  | [] => rfl
  | x :: es => by show (x.1, x.2) :: prs (evs es) = _; rw [prs_evs es]
theorem prs_at {es : List Ev} {i : Nat} {x : Ev} (h : es[i]? = some x) : (prs es)[i]? = some (x.kind, x.value) := by simp [prs, h]
theorem RowEv.evl' {w : World} {base n : Nat} {a : Option Addr} {c : Nat} {es : List Ev} (h : RowEv w base (.slice a n c) (prs es)) (hn : es.length = n) : EvL w es a c := by
  have h' : RowEv w base (.slice a (prs es).length c) (prs es) := by rw [prs_len, hn]; exact h
  have := h'.evl
  rwa [evs_prs] at this

theorem RowEv.evl2 {w : World} {base n : Nat} {a : Option Addr} {c : Nat} {ps : List (Int × Int)} (h : RowEv w base (.slice a n c) ps) (hn : (evs ps).length = n) : EvL w (evs ps) a c := by
  rw [← hn, evs_len] at h
  exact h.evl

/-- One cell of an own row written anew. -/
theorem RowEv.setK {w : World} {base g n cap : Nat} {es : List (Int × Int)} (h : RowEv w base (.slice (some ⟨g, 0, none⟩) n cap) es) (hn : es.length = n) {i : Nat} {x : Int × Int} (hx : es[i]? = some x) (z : Int) :
    RowEv (w.setCell ⟨g, i * 2, none⟩ (.int .i64 z)) base (.slice (some ⟨g, 0, none⟩) n cap) (es.set i (z, x.2)) := by
  subst hn
  have := RowG.set (T := 43) (sz := 2) (C := fun (x : Int × Int) (_ : Unit) => [.int .i64 x.1, .int .i64 x.2]) (R := fun _ _ _ _ => True) (j := 0) (u := .int .i64 z) (x' := (z, x.2)) (fun _ _ => rfl) hREv h hx (by decide) (fun _ => rfl) (fun _ _ _ _ => trivial)
  exact this
theorem RowEv.setV {w : World} {base g n cap : Nat} {es : List (Int × Int)} (h : RowEv w base (.slice (some ⟨g, 0, none⟩) n cap) es) (hn : es.length = n) {i : Nat} {x : Int × Int} (hx : es[i]? = some x) (z : Int) :
    RowEv (w.setCell ⟨g, i * 2 + 1, none⟩ (.int .i64 z)) base (.slice (some ⟨g, 0, none⟩) n cap) (es.set i (x.1, z)) := by
  subst hn
  have := RowG.set (T := 43) (sz := 2) (C := fun (x : Int × Int) (_ : Unit) => [.int .i64 x.1, .int .i64 x.2]) (R := fun _ _ _ _ => True) (j := 1) (u := .int .i64 z) (x' := (x.1, z)) (fun _ _ => rfl) hREv h hx (by decide) (fun _ => rfl) (fun _ _ _ _ => trivial)
  exact this
theorem RowEv.row {w : World} {base n cap : Nat} {a : Option Addr} {es : List (Int × Int)} (h : RowEv w base (.slice a n cap) es) : es.length = n := by
  rcases h.flat.2 with ⟨e1, e2⟩ | ⟨g, cap, cur, e1, _⟩
  · cases e1; exact e2
  · cases e1; rfl
theorem RowEv.ptr {w : World} {base n cap : Nat} {a : Option Addr} {es : List (Int × Int)} (h : RowEv w base (.slice a n cap) es) (hn : n ≠ 0) : ∃ g cur, a = some ⟨g, 0, none⟩ ∧ base ≤ g ∧ w.heap[g]? = some (.cells cur 43 (0, 0)) ∧ cur.size = cap * 2 ∧ n ≤ cap ∧ cap ≤ maxLen := by
  have hl := h.row
  rcases h.flat.2 with ⟨e1, e2⟩ | ⟨g, cap, cur, e1, e2, e3, e4, e5, e6, _⟩
  · omega
  · cases e1
    exact ⟨g, cur, rfl, e2, e3, e6, e4, e5⟩

end Go.Proofs.Yteoaecfjgbkefaa

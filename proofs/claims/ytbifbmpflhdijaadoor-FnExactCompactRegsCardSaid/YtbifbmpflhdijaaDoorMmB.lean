/- Lists of ints in memory: what it says that one lies there; szIntS measures. Nothing that was there changes. -/
import Derived.Test.YtbifbmpflhdijaaDoorEvB
import Derived.Test.YtbifbmpflhdijaaDoorSl
namespace Go.Proofs.YtbifbmpflhdijaaDoor
open Go.RowKit
set_option linter.unusedVariables false

/-- A list of ints in blocks of D. -/
def IAt (w : World) (D : Nat → Prop) (xs : List Int) (a : Option Addr) : Prop :=
  xs.length ≤ maxLen ∧ ∀ k, k < xs.length → ∃ b o, a = some ⟨b, o, none⟩ ∧ D b ∧ w.cell? ⟨b, o + k, none⟩ = some (.int .i64 (xs.getD k 0))
theorem IAt.wide {w w' : World} {D D' : Nat → Prop} {xs : List Int} {a : Option Addr} (h : IAt w D xs a) (hb : ∀ k, D k → w'.heap[k]? = w.heap[k]?) (hl : ∀ k, D k → D' k) : IAt w' D' xs a :=
  ⟨h.1, fun k hk => by
    obtain ⟨b, o, ha, hd, hc⟩ := h.2 k hk
    exact ⟨b, o, ha, hl b hd, (World.cell?_of_block (w := w) (hb b hd)).trans hc⟩⟩
theorem IAt.slice {w : World} {D : Nat → Prop} {xs : List Int} {a : Option Addr} (h : IAt w D xs a) : SliceI w a xs.length xs := ⟨h.1, rfl, fun k hk => by
  obtain ⟨b, o, ha, _, hc⟩ := h.2 k hk
  exact ⟨b, o, ha, hc⟩⟩
theorem OwnI.iat {w : World} {base : Nat} {v : Value} {xs : List Int} (h : OwnI w base v xs) : ∃ a cap, v = .slice a xs.length cap ∧ IAt w (fun k => base ≤ k ∧ k < w.heap.size) xs a := by
  have h' := h
  rcases h.2 with ⟨rfl, h2⟩ | ⟨g, cap, cur, rfl, hb, hg, hn, hm, _⟩
  · have : xs = [] := by simpa using h2
    subst this
    exact ⟨none, 0, rfl, by unfold maxLen; simp, fun k hk => by simp at hk⟩
  · refine ⟨_, cap, rfl, Nat.le_trans hn hm, fun k hk => ⟨g, 0, rfl, ⟨hb, (Array.getElem?_eq_some_iff.1 hg).1⟩, ?_⟩⟩
    have := World.ownsRow.cellAt h' k (by simpa using hk)
    rw [Nat.zero_add, this]
    simp [List.getD, hk]


/-! ### Measuring -/
def MSized (p : Prop) (left : Int) (w : World) (e : Ending) (w' : World) : Prop := ∃ v : Int, e = .returned (.int .i64 v) ∧ v ≤ left ∧ (0 ≤ v → p) ∧ Below w.heap.size w w'

set_option maxHeartbeats 1000000 in
theorem szI_one (a : Option Addr) (n cap : Nat) (left : Int) (w : World) (h0 : 0 ≤ left) (h1 : left ≤ 1048576) (hn : n ≤ maxLen) :
    Calls Tryd.prog 37 #[.slice a n cap, .int .i64 left] w (EvSized n left w) := by
  unfold maxLen at hn
  by_cases hneg : left < n
  · go_enter Tryd.func37, Tryd.ntmps37
    go_wp2_with fail
    go_ret
    exact ⟨-1, rfl, by omega, fun h => absurd h (by omega), rfl⟩
  · go_enter Tryd.func37, Tryd.ntmps37
    go_wp2_with fail
    go_ret
    exact ⟨left - n, rfl, by omega, fun _ => by omega, rfl⟩

theorem cellAtM {w : World} {b : Nat} {cs : Array Value} {T : TypeId} {fr : Nat × Nat} (h : w.heap[b]? = some (.cells cs T fr)) (o : Nat) : w.cell? ⟨b, o, none⟩ = cs[o]? := cell_of_row w b o cs T fr h
theorem row_set {w : World} {g o : Nat} {cur : Array Value} {T : TypeId} (h : w.heap[g]? = some (.cells cur T (0, 0))) (ho : o < cur.size) :
    (∃ u, w.cell? ⟨g, o, none⟩ = some u) ∧ w.frozen? ⟨g, o, none⟩ = false :=
  ⟨⟨cur[o], by rw [cell_of_row w g o cur T (0, 0) h]; exact Array.getElem?_eq_getElem _⟩, frozen_of_row w g o cur T h⟩


end Go.Proofs.YtbifbmpflhdijaaDoor

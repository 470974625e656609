/- Lists of bools in memory. -/
import Derived.Test.YtbifbmpflhdijaaDoorEvB
import Derived.Test.YtbifbmpflhdijaaDoorSlB
import Derived.Test.YtbifbmpflhdijaaDoorPut
namespace Go.Proofs.YtbifbmpflhdijaaDoor
open Go.RowKit
set_option linter.unusedVariables false

/-- A list of bools in blocks of D. -/
def BAt (w : World) (D : Nat → Prop) (bs : List Bool) (a : Option Addr) : Prop := bs.length ≤ maxLen ∧ ∀ (i : Nat) (x : Bool), bs[i]? = some x → ∃ b o, a = some ⟨b, o, none⟩ ∧ D b ∧ w.cell? ⟨b, o + i, none⟩ = some (.bool x)
theorem BAt.wide {w w' : World} {D D' : Nat → Prop} {bs : List Bool} {a : Option Addr} (h : BAt w D bs a) (hb : ∀ k, D k → w'.heap[k]? = w.heap[k]?) (hl : ∀ k, D k → D' k) : BAt w' D' bs a := ⟨h.1, fun i x hx => by
  obtain ⟨b, o, ha, hd, h0⟩ := h.2 i x hx
  exact ⟨b, o, ha, hl b hd, (World.cell?_of_block (w := w) (hb b hd)).trans h0⟩⟩
theorem BAt.below {w w' : World} {bs : List Bool} {a : Option Addr} (h : BAt w (fun k => k < w.heap.size) bs a) (hb : Below w.heap.size w w') : BAt w' (fun k => k < w'.heap.size) bs a := h.wide (fun k hk => hb.block k hk) fun k hk => Nat.lt_of_lt_of_le hk hb.size

/-- A row of bools of the call's own. -/
def OwnB (w : World) (base : Nat) (v : Value) (bs : List Bool) : Prop := w.ownsRow base 4 1 v bs.length (bs.map Value.bool)
theorem OwnB.far {w w' : World} {base : Nat} {v : Value} {bs : List Bool} (h : OwnB w base v bs) (hs : ∀ g, v.ownBlock = some g → g < w.heap.size → w'.heap[g]? = w.heap[g]?) : OwnB w' base v bs := by
  refine ⟨h.1, ?_⟩
  rcases h.2 with e | ⟨g, cp, cur, rfl, e2, e3, e4⟩
  · exact .inl e
  · exact .inr ⟨g, cp, cur, rfl, e2, (hs g rfl (Array.getElem?_eq_some_iff.1 e3).1).trans e3, e4⟩
theorem OwnB.lt {w : World} {base : Nat} {v : Value} {bs : List Bool} (h : OwnB w base v bs) : ∀ g, v.ownBlock = some g → base ≤ g ∧ g < w.heap.size := fun g hg => by
  have h1 : w.ownsRow base 4 1 v bs.length (bs.map Value.bool) := h
  exact h1.lt g hg
theorem OwnB.bat {v : World} {base n cap : Nat} {a : Option Addr} {bs : List Bool} (h : OwnB v base (.slice a n cap) bs) : bs.length = n ∧ n ≤ cap ∧ cap ≤ maxLen ∧ BAt v (fun j => base ≤ j ∧ j < v.heap.size) bs a := by
  rcases h.2 with ⟨e, e2⟩ | ⟨g, cap', cur, e, hb, hg, hn, hm, hc, ht⟩
  · cases e
    obtain rfl : bs = [] := List.eq_nil_of_length_eq_zero e2
    exact ⟨rfl, Nat.le_refl _, by unfold maxLen; omega, Nat.zero_le _, fun i x hx => by simp at hx⟩
  · injection e with e1 e2 e3
    subst e1 e2 e3
    refine ⟨rfl, hn, hm, Nat.le_trans hn hm, fun i x hx => ?_⟩
    have hi := (List.getElem?_eq_some_iff.1 hx).1
    refine ⟨g, 0, rfl, ⟨hb, (Array.getElem?_eq_some_iff.1 hg).1⟩, ?_⟩
    rw [Nat.zero_add, World.ownsRow.cellAt h i (by omega), List.getElem?_map, hx]; rfl

theorem Tryd.infoB : (Tryd.prog.info? 4).map (fun i => (i.zero, i.size, i.bytes)) = some (some (.bool false), 1, 1) := by kernel_rfl
theorem falses (n : Nat) : (madeCells (Value.bool false).cells (n * 1)).toList = (List.replicate n false).map Value.bool := by
  rw [Nat.mul_one, List.map_replicate]
  exact toList_madeCells_one _ _

end Go.Proofs.YtbifbmpflhdijaaDoor

/- A builder of the call's own that holds a text: what keeps it, and the contract of WriteByte at it. -/
import Derived.Test.YtjgmhncfijegmaaBld
import Derived.Lib.BufferOwn
import Derived.KernelRfl
namespace Go.Proofs.Ytjgmhncfijegmaa
open Go.RowKit Go.Shelf
set_option linter.unusedVariables false

abbrev IsB (B b : Nat) (l : List UInt8) (w : World) : Prop := Lib.IsBuilderF 37 5 B b (Lib.byteCells l) w

theorem isB_kept {W W' : World} {B b : Nat} {l : List UInt8} (h : IsB B b l W) (hg : W.grownBy W' none) : IsB B b l W' := by
  have key : ∀ p, Lib.BuilderAtF 37 5 B b p (Lib.byteCells l) W → Lib.BuilderAtF 37 5 B b p (Lib.byteCells l) W' := by
    rintro p ⟨hB, v, hb, hown, hne⟩
    have hlt : b < W.heap.size := (Array.getElem?_eq_some_iff.1 hb).1
    refine ⟨hB, v, ?_, hown.kept hg ?_, hne⟩
    · exact (hg.block b hlt fun e => by cases e).trans hb
    · cases hv : v.ownBlock with
      | none => exact .inl rfl
      | some g => exact .inr fun e => by cases e
  exact h.elim (fun x => .inl (key _ x)) (fun x => .inr (key _ x))
theorem isB_lt {W : World} {B b : Nat} {l : List UInt8} (h : IsB B b l W) : B ≤ b ∧ b < W.heap.size := by
  rcases h with ⟨h0, v, hb, _⟩ | ⟨h0, v, hb, _⟩ <;> exact ⟨h0, (Array.getElem?_eq_some_iff.1 hb).1⟩
theorem grown_refl (w : World) : w.grownBy w none := ⟨rfl, rfl, rfl, Nat.le_refl _, fun _ _ _ => rfl⟩
theorem kept_below {W W' : World} {b : Nat} (hb : Below W.heap.size W W') : Lib.OthersKept 5 (some b) W W' := fun k o hk _ _ => (hb.block k (Array.getElem?_eq_some_iff.1 hk).1).trans hk

/-- The text l has been added to the builder. -/
def Wr (B b : Nat) (bs l : List UInt8) (w : World) (e : Ending) (w' : World) : Prop := e = .returned (.tuple #[]) ∧ IsB B b (bs ++ l) w' ∧ Below B w w' ∧ Lib.OthersKept 5 (some b) w w'

theorem wByte (B b : Nat) (bs : List UInt8) (c : UInt8) (w : World) (h : IsB B b bs w) (hlen : bs.length ≤ 1000000) (hBw : B ≤ w.heap.size) :
    Calls Try.prog 17 #[.pointer (some ⟨b, 0, none⟩), .int .u8 (c.toNat : Int)] w fun e w' => e = .returned .nilIface ∧ IsB B b (bs ++ [c]) w' ∧ Below B w w' ∧ Lib.OthersKept 5 (some b) w w' :=
  (writeByte_k B b (Lib.byteCells bs) (c.toNat : Int) w h (by rw [Lib.byteCells_length]; omega) hBw).mono fun e w' ⟨h1, h2, h3, h4⟩ => ⟨h1, by unfold IsB; rw [Lib.byteCells_append]; exact .inr h2, h3, h4⟩

end Go.Proofs.Ytjgmhncfijegmaa

/- Stores of consecutive cells into one block. -/
import Derived.Test.YtbifbmpflhdijaaDoorTreeP
namespace Go.Proofs.YtbifbmpflhdijaaDoor
open Go.RowKit
set_option linter.unusedVariables false

def put (w : World) (g : Nat) : Nat → List Value → World
  | _, [] => w
  | o, v :: vs => put (w.setCell ⟨g, o, none⟩ v) g (o + 1) vs
def setL (cur : Array Value) : Nat → List Value → Array Value
  | _, [] => cur
  | o, v :: vs => setL (cur.setIfInBounds o v) (o + 1) vs

theorem put_row : ∀ (vs : List Value) (w : World) (g o : Nat) (cur : Array Value) (T : TypeId), w.heap[g]? = some (.cells cur T (0, 0)) → (put w g o vs).heap[g]? = some (.cells (setL cur o vs) T (0, 0))
  | [], _, _, _, _, _, h => h
  | v :: vs, w, g, o, cur, T, h => put_row vs _ g (o + 1) _ T (heap_setCell_same w g o cur T v h)
theorem put_other : ∀ (vs : List Value) (w : World) (g o b : Nat), b ≠ g → (put w g o vs).heap[b]? = w.heap[b]?
  | [], _, _, _, _, _ => rfl
  | v :: vs, w, g, o, b, h => (put_other vs _ g (o + 1) b h).trans (Below.heap_setCell _ _ _ _ (fun e => h (by simpa using e)))
theorem put_size : ∀ (vs : List Value) (w : World) (g o : Nat), (put w g o vs).heap.size = w.heap.size
  | [], _, _, _ => rfl
  | v :: vs, w, g, o => (put_size vs _ g (o + 1)).trans (by simp [World.setCell])
theorem put_below : ∀ (vs : List Value) (A w : World) (B g o : Nat), Below B A w → B ≤ g → Below B A (put w g o vs)
  | [], _, _, _, _, _, h, _ => h
  | v :: vs, A, w, B, g, o, h, hg => put_below vs A _ B g (o + 1) (h.setCell (p := ⟨g, o, none⟩) hg v) hg
theorem setL_size : ∀ (vs : List Value) (cur : Array Value) (o : Nat), (setL cur o vs).size = cur.size
  | [], _, _ => rfl
  | v :: vs, cur, o => (setL_size vs _ (o + 1)).trans (by simp)
theorem setL_out : ∀ (vs : List Value) (cur : Array Value) (o j : Nat), (j < o ∨ o + vs.length ≤ j) → (setL cur o vs)[j]? = cur[j]?
  | [], _, _, _, _ => rfl
  | v :: vs, cur, o, j, h => (setL_out vs _ (o + 1) j (by simp at h; omega)).trans (by rw [Array.getElem?_setIfInBounds, if_neg (by simp at h; omega)])
theorem setL_in : ∀ (vs : List Value) (cur : Array Value) (o j : Nat), o + vs.length ≤ cur.size → j < vs.length → (setL cur o vs)[o + j]? = vs[j]?
  | [], _, _, _, _, h => absurd h (Nat.not_lt_zero _)
  | v :: vs, cur, o, 0, h, _ => by
    show (setL (cur.setIfInBounds o v) (o + 1) vs)[o + 0]? = _
    simp at h
    rw [setL_out vs _ (o + 1) (o + 0) (by omega), Array.getElem?_setIfInBounds, if_pos (by omega), if_pos (by omega)]
    rfl
  | v :: vs, cur, o, j + 1, h, hj => by
    simp at h hj
    have := setL_in vs (cur.setIfInBounds o v) (o + 1) j (by simp; omega) (by omega)
    show (setL (cur.setIfInBounds o v) (o + 1) vs)[o + (j + 1)]? = _
    rw [show o + (j + 1) = o + 1 + j from by omega, this]
    rfl

theorem frozen_at {w : World} {b : Nat} {cs : Array Value} {T : TypeId} (h : w.heap[b]? = some (.cells cs T (0, 0))) (o : Nat) : w.frozen? ⟨b, o, none⟩ = false := frozen_of_row w b o cs T h
theorem cell_ex {w : World} {b : Nat} {cs : Array Value} {T : TypeId} (h : w.heap[b]? = some (.cells cs T (0, 0))) (o : Nat) (ho : o < cs.size) : ∃ u, w.cell? ⟨b, o, none⟩ = some u := ⟨cs[o], by rw [cell_at h]; exact Array.getElem?_eq_getElem _⟩

/-- A statement's cells stand in a row. -/
def RowIn (cur : Array Value) (o : Nat) (s : S) (k : SC) : Prop := ∀ j, j < 11 → cur[o + j]? = (arrS s k)[j]?
theorem RowIn.row {w : World} {b o : Nat} {cur : Array Value} {T : TypeId} {s : S} {k : SC} (h : RowIn cur o s k) (hb : w.heap[b]? = some (.cells cur T (0, 0))) : Row11 w b o s k :=
  ⟨(cell_at hb _).trans (h 0 (by omega)), (cell_at hb _).trans (h 1 (by omega)), (cell_at hb _).trans (h 2 (by omega)), (cell_at hb _).trans (h 3 (by omega)), (cell_at hb _).trans (h 4 (by omega)), (cell_at hb _).trans (h 5 (by omega)), (cell_at hb _).trans (h 6 (by omega)), (cell_at hb _).trans (h 7 (by omega)), (cell_at hb _).trans (h 8 (by omega)), (cell_at hb _).trans (h 9 (by omega)), (cell_at hb _).trans (h 10 (by omega))⟩
theorem RowIn.set {cur : Array Value} {o : Nat} {s : S} {k : SC} (h : o + 11 ≤ cur.size) : RowIn (setL cur o (arrS s k).toList) o s k := fun j hj => by
  rw [setL_in _ _ _ _ (by simpa [arrS] using h) (by simpa [arrS] using hj), Array.getElem?_toList]
theorem RowIn.other {cur : Array Value} {o o' : Nat} {s : S} {k : SC} {vs : List Value} (h : RowIn cur o s k) (ho : o + 11 ≤ o' ∨ o' + vs.length ≤ o) : RowIn (setL cur o' vs) o s k := fun j hj => by
  rw [setL_out _ _ _ _ (by omega)]; exact h j hj

end Go.Proofs.YtbifbmpflhdijaaDoor

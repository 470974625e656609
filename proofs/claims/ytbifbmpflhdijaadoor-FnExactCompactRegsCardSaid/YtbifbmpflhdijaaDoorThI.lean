/- The program's finalTarget and retargeted (at threaded's closure), walked. -/
import Derived.Test.YtbifbmpflhdijaaDoorThP
import Derived.Test.YtbifbmpflhdijaaDoorThC
import Derived.Test.YtbifbmpflhdijaaDoorRcI
namespace Go.Proofs.YtbifbmpflhdijaaDoor
open Go.RowKit
set_option linter.unusedVariables false

theorem flatN_set1 : ∀ (ys : List Ins) (i : Nat) (y : Ins) (v : Int), ys[i]? = some y → (flatN ys).set (i * 5 + 1) (.int .i64 v) = flatN (ys.set i ⟨y.op, v, y.fb, y.fc, y.fd⟩)
  | [], i, y, v, h => by simp at h
  | z :: zs, 0, y, v, h => by simp at h; subst h; simp [flatN]
  | z :: zs, i + 1, y, v, h => by
    have e : (i + 1) * 5 + 1 = i * 5 + 1 + 1 + 1 + 1 + 1 + 1 := by omega
    simp only [e, flatN, List.set_cons_succ]
    rw [flatN_set1 zs i y v (by simpa using h)]
theorem flatN_set2 : ∀ (ys : List Ins) (i : Nat) (y : Ins) (v : Int), ys[i]? = some y → (flatN ys).set (i * 5 + 2) (.int .i64 v) = flatN (ys.set i ⟨y.op, y.fa, v, y.fc, y.fd⟩)
  | [], i, y, v, h => by simp at h
  | z :: zs, 0, y, v, h => by simp at h; subst h; simp [flatN]
  | z :: zs, i + 1, y, v, h => by
    have e : (i + 1) * 5 + 2 = i * 5 + 2 + 1 + 1 + 1 + 1 + 1 := by omega
    simp only [e, flatN, List.set_cons_succ]
    rw [flatN_set2 zs i y v (by simpa using h)]
theorem ownsRow_cellx {w : World} {base : Nat} {e : TypeId} {size g n cap : Nat} {xs : List Value} (h : w.ownsRow base e size (.slice (some ⟨g, 0, none⟩) n cap) n xs) (j : Nat) (hj : j < n * size) : (∃ u, w.cell? ⟨g, j, none⟩ = some u) ∧ w.frozen? ⟨g, j, none⟩ = false := by
  refine ⟨?_, h.frozenAt j⟩
  rw [h.cellAt j hj]
  exact ⟨_, List.getElem?_eq_getElem (by rw [h.1]; exact hj)⟩
theorem _root_.Go.World.ownsRow.far5 {w w' : World} {base : Nat} {e : TypeId} {size n : Nat} {v : Value} {xs : List Value} (h : w.ownsRow base e size v n xs) (hs : ∀ g, v.ownBlock = some g → g < w.heap.size → w'.heap[g]? = w.heap[g]?) : w'.ownsRow base e size v n xs := by
  refine ⟨h.1, ?_⟩
  rcases h.2 with e | ⟨g, cp, cur, rfl, e2, e3, e4⟩
  · exact .inl e
  · exact .inr ⟨g, cp, cur, rfl, e2, (hs g rfl (Array.getElem?_eq_some_iff.1 e3).1).trans e3, e4⟩
/-- The state of the loop: the first instructions of the copy have been replaced. -/
def RTL (f : Nat → Nat) (l : List Ins) (w : World) (n : Nat) (ca : Option Addr) (cc : Nat) (i : Value) (wr : World) : Prop := ∃ (k : Nat) (ys : List Ins), k ≤ n ∧ i = .int .i64 (k : Int) ∧ ReTo f l ys k ∧ wr.ownsRow w.heap.size 50 5 (.slice ca n cc) n (flatN ys) ∧ Below w.heap.size w wr

end Go.Proofs.YtbifbmpflhdijaaDoor

/- Rows of a taint map as masks, and what CheckTaint answers: plain facts. -/
import Derived.Test.YtbifbmpflhdijaaDoorTnO
namespace Go.Proofs.YtbifbmpflhdijaaDoor
open Go.RowKit
set_option linter.unusedVariables false

/-- The mask of the first k flags. -/
def regN (r : List Bool) : Nat → Nat
  | 0 => 0
  | k + 1 => sb (regN r k) k (r.getD k false)
theorem regN_lt (r : List Bool) : ∀ k, k ≤ 14 → regN r k < 32768
  | 0, _ => by simp [regN]
  | k + 1, h => sb_lt (regN_lt r k (by omega)) (by omega)
theorem regN_bit (r : List Bool) : ∀ k b, k ≤ 14 → (regN r k).testBit b = (decide (b < k) && r.getD b false)
  | 0, b, _ => by simp [regN]
  | k + 1, b, h => by
    show (sb (regN r k) k (r.getD k false)).testBit b = _
    rw [sb_bit (regN_lt r k (by omega)) (by omega), regN_bit r k b (by omega)]
    by_cases e : b = k
    · subst e; simp
    · rw [if_neg e]
      by_cases h2 : b < k
      · simp [h2, Nat.lt_succ_of_lt h2]
      · simp [h2, show ¬ b < k + 1 by omega]
/-- A row's mask. -/
def mkR (r : List Bool) : Nat := if r.length = 0 then 0 else regN r 14 ||| 16384
theorem mkR_0 {r : List Bool} (h : r.length = 0) : mkR r = 0 := by unfold mkR; rw [if_pos h]
theorem mkR_14 {r : List Bool} (h : r.length = 14) : mkR r = regN r 14 ||| 16384 := by unfold mkR; rw [if_neg (by omega)]
theorem bit14 (b : Nat) : (16384 : Nat).testBit b = decide (b = 14) := by
  rw [show (16384 : Nat) = 2 ^ 14 by rfl, Nat.testBit_two_pow]
  by_cases h : b = 14
  · subst h; simp
  · simp [h, show ¬ 14 = b from fun e => h e.symm]
theorem mkR_has14 {r : List Bool} (h : r.length = 14) : (mkR r).testBit 14 = true := by rw [mkR_14 h, Nat.testBit_or, bit14]; simp
theorem mkR_ne {r : List Bool} (h : r.length = 14) : mkR r ≠ 0 := bit_ne (mkR_has14 h)
theorem mkR_lt (r : List Bool) : mkR r < 32768 := by
  unfold mkR; split
  · omega
  · exact Nat.or_lt_two_pow (n := 15) (regN_lt r 14 (by omega)) (by omega)
theorem mkR_gm {r : List Bool} (h : r.length = 0 ∨ r.length = 14) : Gm (mkR r) := ⟨mkR_lt r, h.elim (fun h => .inl (mkR_0 h)) fun h => .inr (mkR_has14 h)⟩
theorem mkR_row {r : List Bool} (h : r.length = 0 ∨ r.length = 14) : rowB (mkR r) = r := by
  rcases h with h | h
  · rw [mkR_0 h, rowB_0, List.eq_nil_of_length_eq_zero h]
  · refine (rowB_ext (mkR_ne h) h fun i hi => ?_).symm
    rw [mkR_14 h, Nat.testBit_or, bit14, regN_bit r 14 i (by omega)]
    simp [hi, show i ≠ 14 by omega, List.getD_eq_getElem?_getD, List.getElem?_eq_getElem (show i < r.length by omega)]
theorem mkR_zero {r : List Bool} (h : r.length = 0 ∨ r.length = 14) : mkR r = 0 ↔ r.length = 0 := ⟨fun e => by
  rcases h with h | h
  · exact h
  · exact absurd e (mkR_ne h), mkR_0⟩
def masks (rs : List (List Bool)) : List Nat := rs.map mkR
theorem masks_len (rs : List (List Bool)) : (masks rs).length = rs.length := by simp [masks]
theorem masks_at {rs : List (List Bool)} {i : Nat} {r : List Bool} (h : rs[i]? = some r) : (masks rs)[i]? = some (mkR r) := by simp [masks, h]
theorem masks_row {rs : List (List Bool)} (h : ∀ r ∈ rs, r.length = 0 ∨ r.length = 14) : (masks rs).map rowB = rs := by
  unfold masks
  rw [List.map_map]
  exact (List.map_congr_left fun r hr => mkR_row (h r hr)).trans (List.map_id _)
theorem masks_gm {rs : List (List Bool)} (h : ∀ r ∈ rs, r.length = 0 ∨ r.length = 14) (i q : Nat) (hq : (masks rs)[i]? = some q) : Gm q := by
  unfold masks at hq
  rw [List.getElem?_map] at hq
  obtain ⟨r, hr, rfl⟩ := Option.map_eq_some_iff.1 hq
  exact mkR_gm (h r (List.mem_of_getElem? hr))

/-- Rows that taint maps may have. -/
def RowsT (rs : List (List Bool)) : Prop := ∀ r ∈ rs, r.length = 0 ∨ r.length = 14
/-- The first j are such. -/
def RowsTo (rs : List (List Bool)) (j : Nat) : Prop := ∀ (i : Nat) (r : List Bool), i < j → rs[i]? = some r → r.length = 0 ∨ r.length = 14
theorem RowsTo.succ {rs : List (List Bool)} {j : Nat} {r : List Bool} (h : RowsTo rs j) (hr : rs[j]? = some r) (e : r.length = 0 ∨ r.length = 14) : RowsTo rs (j + 1) := fun i q hi hq => by
  by_cases hk : i = j
  · subst hk
    rw [hr] at hq
    cases hq
    exact e
  · exact h i q (by omega) hq
theorem RowsTo.all {rs : List (List Bool)} (h : RowsTo rs rs.length) : RowsT rs := fun r hr => by
  obtain ⟨i, hi, rfl⟩ := List.mem_iff_getElem.1 hr
  exact h i _ hi (List.getElem?_eq_getElem hi)
/-- The map covers the edges of the first j instructions. -/
def CovTo (sv sa : Nat → Bool) (l : List Ins) (ms : List Nat) (j : Nat) : Prop := ∀ (i : Nat) (x : Ins) (m t q : Nat), i < j → l[i]? = some x → ms[i]? = some m → m ≠ 0 → t ∈ folN x i → ms[t]? = some q → Sub (aftM sv sa x m) q
/-- The first row states something, no instruction leaks, and what holds after each holds before those that may follow. -/
structure CovM (sv sa : Nat → Bool) (l : List Ins) (ms : List Nat) : Prop where
  fst : ∀ q, ms[0]? = some q → q ≠ 0
  lk : NoLk sv sa l ms l.length
  cov : CovTo sv sa l ms l.length
/-- What CheckTaint answers. -/
structure CkT (m : Cd) (rs : List (List Bool)) : Prop where
  ok : codeB m = true
  len : rs.length = m.list.length
  rows : RowsT rs
  cov : CovM (secN m.vars) (secN m.arrs) m.list (masks rs)
def AnsC (m : Cd) (rs : List (List Bool)) (w : World) (e : Ending) (w' : World) : Prop := ∃ b, e = .returned (.bool b) ∧ (b = true ↔ CkT m rs) ∧ Below w.heap.size w w'
theorem AnsC.no {m : Cd} {rs : List (List Bool)} {w w' : World} (h : ¬ CkT m rs) (hb : Below w.heap.size w w') : AnsC m rs w (.returned (.bool false)) w' := ⟨false, rfl, ⟨fun e => (by cases e), fun e => absurd e h⟩, hb⟩
theorem AnsC.yes {m : Cd} {rs : List (List Bool)} {w w' : World} (h : CkT m rs) (hb : Below w.heap.size w w') : AnsC m rs w (.returned (.bool true)) w' := ⟨true, rfl, ⟨fun _ => h, fun _ => rfl⟩, hb⟩

end Go.Proofs.YtbifbmpflhdijaaDoor

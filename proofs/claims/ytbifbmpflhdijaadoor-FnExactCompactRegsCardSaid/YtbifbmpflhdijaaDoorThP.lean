/- Final targets of jumps and threaded code: plain facts on lists of instructions. -/
import Derived.Test.YtbifbmpflhdijaaDoorRcP
namespace Go.Proofs.YtbifbmpflhdijaaDoor
open Go.RowKit
set_option linter.unusedVariables false

/-- Instruction t is a jump. -/
def jB (l : List Ins) (t : Nat) : Bool := match l[t]? with | some x => x.op == 8 | none => false
theorem jB_at {l : List Ins} {t : Nat} {x : Ins} (h : l[t]? = some x) : jB l t = (x.op == 8) := by unfold jB; rw [h]
/-- Where a jump leads; elsewhere the execution stays. -/
def nxJ (l : List Ins) (t : Nat) : Nat := match l[t]? with | some x => if x.op = 8 then x.fa.toNat else t | none => t
theorem nxJ_at {l : List Ins} {t : Nat} {x : Ins} (h : l[t]? = some x) (h8 : x.op = 8) : nxJ l t = x.fa.toNat := by unfold nxJ; rw [h]; simp [h8]
theorem nxJ_no {l : List Ins} {t : Nat} (h : jB l t = false) : nxJ l t = t := by
  unfold jB at h
  unfold nxJ
  cases hx : l[t]? with
  | none => rfl
  | some x => rw [hx] at h; simp at h; simp [h]
/-- k jumps from t on. -/
def chase (l : List Ins) : Nat → Nat → Nat
  | 0, t => t
  | k + 1, t => nxJ l (chase l k t)
theorem chase_lt {l : List Ins} (h : Okc l) : ∀ (k : Nat) {t : Nat}, t < l.length → chase l k t < l.length
  | 0, _, ht => ht
  | k + 1, t, ht => by
    have hp := chase_lt h k ht
    have hx := List.getElem?_eq_getElem hp
    rw [chase]
    by_cases h8 : (l[chase l k t]).op = 8
    · rw [nxJ_at hx h8]
      have := h.ja _ _ hx h8
      omega
    · rw [nxJ_no (by rw [jB_at hx]; simpa using h8)]; exact hp
theorem chase_stay {l : List Ins} {k t : Nat} (h : jB l (chase l k t) = false) : ∀ i, chase l (k + i) t = chase l k t
  | 0 => rfl
  | i + 1 => by
    show nxJ l (chase l (k + i) t) = _
    rw [chase_stay h i, nxJ_no h]
theorem chase_add (l : List Ins) : ∀ (i k t : Nat), chase l (k + i) t = chase l i (chase l k t)
  | 0, _, _ => rfl
  | i + 1, k, t => by
    show nxJ l (chase l (k + i) t) = nxJ l (chase l i (chase l k t))
    rw [chase_add l i k t]
/-- The final target. -/
def finL (l : List Ins) (t : Nat) : Nat := if jB l (chase l l.length t) = true then t else chase l l.length t
theorem finL_stop {l : List Ins} {k t : Nat} (hk : k ≤ l.length) (h : jB l (chase l k t) = false) : finL l t = chase l k t := by
  have e : chase l l.length t = chase l k t := by
    have := chase_stay h (l.length - k)
    rwa [show k + (l.length - k) = l.length by omega] at this
  unfold finL
  rw [e, h]; simp
theorem finL_go {l : List Ins} {t : Nat} (h : jB l (chase l l.length t) = true) : finL l t = t := by unfold finL; rw [if_pos h]
/-- Of n + 1 numbers below n two are equal. -/
theorem pigeon : ∀ (n : Nat) (f : Nat → Nat), (∀ i, i ≤ n → f i < n) → ∃ i j, i < j ∧ j ≤ n ∧ f i = f j
  | 0, f, h => absurd (h 0 (Nat.le_refl _)) (Nat.not_lt_zero _)
  | n + 1, f, h => by
    by_cases hex : ∃ i, i ≤ n ∧ f i = f (n + 1)
    · obtain ⟨i, hi, e⟩ := hex
      exact ⟨i, n + 1, by omega, Nat.le_refl _, e⟩
    · have hne : ∀ i, i ≤ n → f i ≠ f (n + 1) := fun i hi e => hex ⟨i, hi, e⟩
      obtain ⟨i, j, h1, h2, h3⟩ := pigeon n (fun i => if f i = n then f (n + 1) else f i) (fun i hi => by
        have h1 := h i (by omega)
        have h2 := h (n + 1) (Nat.le_refl _)
        have h3 := hne i hi
        show (if f i = n then f (n + 1) else f i) < n
        split
        · rename_i e; omega
        · omega)
      refine ⟨i, j, h1, by omega, ?_⟩
      have hi := hne i (by omega)
      have hj := hne j h2
      split at h3 <;> split at h3 <;> omega
/-- As many jumps as there are instructions: they form a cycle. -/
theorem finL_cycle {l : List Ins} (h : Okc l) {t : Nat} (ht : t < l.length) (hall : ∀ i, i < l.length → jB l (chase l i t) = true) : finL l t = t := by
  refine finL_go ?_
  cases hq : jB l (chase l l.length t)
  · exfalso
    obtain ⟨i, j, h1, h2, h3⟩ := pigeon l.length (fun i => chase l i t) fun i _ => chase_lt h i ht
    have h4 : chase l (i + (l.length - j)) t = chase l (j + (l.length - j)) t := by rw [chase_add, chase_add, h3]
    rw [show j + (l.length - j) = l.length by omega] at h4
    have h5 := hall (i + (l.length - j)) (by omega)
    rw [h4, hq] at h5
    cases h5
  · rfl
theorem finL_lt {l : List Ins} (h : Okc l) {t : Nat} (ht : t < l.length) : finL l t < l.length := by
  unfold finL
  split
  · exact ht
  · exact chase_lt h _ ht

/-- An instruction with its target replaced. -/
def reT (f : Nat → Nat) (x : Ins) : Ins := if x.op = 8 then ⟨x.op, f x.fa.toNat, x.fb, x.fc, x.fd⟩ else if x.op = 9 ∨ x.op = 10 then ⟨x.op, x.fa, f x.fb.toNat, x.fc, x.fd⟩ else x
theorem reT_op (f : Nat → Nat) (x : Ins) : (reT f x).op = x.op := by
  unfold reT; split
  · rfl
  split <;> rfl
theorem reT_8 {f : Nat → Nat} {x : Ins} (h : x.op = 8) : reT f x = ⟨x.op, f x.fa.toNat, x.fb, x.fc, x.fd⟩ := by unfold reT; rw [if_pos h]
theorem reT_9 {f : Nat → Nat} {x : Ins} (h8 : x.op ≠ 8) (h : x.op = 9 ∨ x.op = 10) : reT f x = ⟨x.op, x.fa, f x.fb.toNat, x.fc, x.fd⟩ := by unfold reT; rw [if_neg h8, if_pos h]
theorem reT_n {f : Nat → Nat} {x : Ins} (h8 : x.op ≠ 8) (h : ¬ (x.op = 9 ∨ x.op = 10)) : reT f x = x := by unfold reT; rw [if_neg h8, if_neg h]
/-- Threaded code. -/
def thrL (l : List Ins) : List Ins := l.map (reT (finL l))
theorem thrL_len (l : List Ins) : (thrL l).length = l.length := by simp [thrL]
theorem thrL_at {l : List Ins} {i : Nat} {x : Ins} (h : l[i]? = some x) : (thrL l)[i]? = some (reT (finL l) x) := by simp [thrL, h]
/-- The first k instructions have been replaced. -/
def ReTo (f : Nat → Nat) (l ys : List Ins) (k : Nat) : Prop := ys.length = l.length ∧ (∀ (i : Nat) (x : Ins), i < k → l[i]? = some x → ys[i]? = some (reT f x)) ∧ (∀ i : Nat, k ≤ i → ys[i]? = l[i]?)
theorem ReTo.start (f : Nat → Nat) (l : List Ins) : ReTo f l l 0 := ⟨rfl, fun i x h => absurd h (Nat.not_lt_zero _), fun i _ => rfl⟩
theorem ReTo.same {f : Nat → Nat} {l ys : List Ins} {k : Nat} {x : Ins} (h : ReTo f l ys k) (hx : l[k]? = some x) (e : reT f x = x) : ReTo f l ys (k + 1) :=
  ⟨h.1, fun i y hi hy => by
    by_cases hk : i = k
    · subst hk
      rw [hx] at hy
      cases hy
      rw [e, h.2.2 i (Nat.le_refl _)]; exact hx
    · exact h.2.1 i y (by omega) hy, fun i hi => h.2.2 i (by omega)⟩
theorem ReTo.set {f : Nat → Nat} {l ys : List Ins} {k : Nat} {x : Ins} (h : ReTo f l ys k) (hx : l[k]? = some x) : ReTo f l (ys.set k (reT f x)) (k + 1) := by
  have hk := (List.getElem?_eq_some_iff.1 hx).1
  refine ⟨by rw [List.length_set]; exact h.1, fun i y hi hy => ?_, fun i hi => ?_⟩
  · by_cases e : i = k
    · subst e
      rw [hx] at hy
      cases hy
      exact List.getElem?_set_self (by rw [h.1]; exact hk)
    · rw [List.getElem?_set_ne (by omega)]
      exact h.2.1 i y (by omega) hy
  · rw [List.getElem?_set_ne (by omega)]
    exact h.2.2 i (by omega)
theorem ReTo.all {f : Nat → Nat} {l ys : List Ins} {k : Nat} (h : ReTo f l ys k) (hk : l.length ≤ k) : ys = l.map (reT f) := by
  apply List.ext_getElem?
  intro i
  by_cases hi : i < l.length
  · have hx := List.getElem?_eq_getElem hi
    rw [h.2.1 i _ (by omega) hx, List.getElem?_map, hx]; rfl
  · rw [List.getElem?_eq_none (by rw [h.1]; omega), List.getElem?_eq_none (by rw [List.length_map]; omega)]

end Go.Proofs.YtbifbmpflhdijaaDoor

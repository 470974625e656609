/- Trimmed code: plain facts on lists of instructions and lists of bools. -/
import Derived.Test.YtbifbmpflhdijaaDoorThP
namespace Go.Proofs.YtbifbmpflhdijaaDoor
open Go.RowKit
set_option linter.unusedVariables false

/-- A jump to the next instruction. -/
def skp (x : Ins) (i : Nat) : Bool := x.op == 8 && x.fa == (i : Int) + 1
def skAt (l : List Ins) (i : Nat) : Bool := match l[i]? with | some x => skp x i | none => false
theorem skAt_at {l : List Ins} {i : Nat} {x : Ins} (h : l[i]? = some x) : skAt l i = skp x i := by unfold skAt; rw [h]
/-- What is kept, of what can be reached. -/
def kpL (l : List Ins) (bs : List Bool) : List Bool := (List.range bs.length).map fun i => bs.getD i false && !skAt l i
theorem kpL_len (l : List Ins) (bs : List Bool) : (kpL l bs).length = bs.length := by simp [kpL]
/-- The first j have been looked at. -/
def KpTo (l : List Ins) (bs ks : List Bool) (j : Nat) : Prop := ks.length = bs.length ∧ (∀ i, i < j → i < bs.length → ks[i]? = some (bs.getD i false && !skAt l i)) ∧ (∀ i : Nat, j ≤ i → ks[i]? = bs[i]?)
theorem KpTo.start (l : List Ins) (bs : List Bool) : KpTo l bs bs 0 := ⟨rfl, fun i h => absurd h (Nat.not_lt_zero _), fun i _ => rfl⟩
theorem KpTo.keep {l : List Ins} {bs ks : List Bool} {j : Nat} {x : Ins} (h : KpTo l bs ks j) (hx : l[j]? = some x) (e : skp x j = false) : KpTo l bs ks (j + 1) :=
  ⟨h.1, fun i hi hl => by
    by_cases hk : i = j
    · subst hk
      rw [h.2.2 i (Nat.le_refl _), skAt_at hx, e, List.getD_eq_getElem?_getD, List.getElem?_eq_getElem hl]
      simp
    · exact h.2.1 i (by omega) hl, fun i hi => h.2.2 i (by omega)⟩
theorem KpTo.drop {l : List Ins} {bs ks : List Bool} {j : Nat} {x : Ins} (h : KpTo l bs ks j) (hx : l[j]? = some x) (e : skp x j = true) : KpTo l bs (ks.set j false) (j + 1) :=
  ⟨by rw [List.length_set]; exact h.1, fun i hi hl => by
    by_cases hk : i = j
    · subst hk
      rw [List.getElem?_set_self (by rw [h.1]; exact hl), skAt_at hx, e]
      simp
    · rw [List.getElem?_set_ne (by omega)]
      exact h.2.1 i (by omega) hl, fun i hi => by
    rw [List.getElem?_set_ne (by omega)]
    exact h.2.2 i (by omega)⟩
theorem KpTo.all {l : List Ins} {bs ks : List Bool} {j : Nat} (h : KpTo l bs ks j) (hj : bs.length ≤ j) : ks = kpL l bs := by
  apply List.ext_getElem?
  intro i
  by_cases hi : i < bs.length
  · rw [h.2.1 i (by omega) hi]
    unfold kpL
    rw [List.getElem?_map, List.getElem?_range hi]; rfl
  · rw [List.getElem?_eq_none (by rw [h.1]; omega), List.getElem?_eq_none (by rw [kpL_len]; omega)]

/-- How many are true. -/
def cntT : List Bool → Nat
  | [] => 0
  | true :: bs => cntT bs + 1
  | false :: bs => cntT bs
theorem cntT_le : ∀ bs : List Bool, cntT bs ≤ bs.length
  | [] => Nat.le_refl _
  | true :: bs => by simp only [cntT, List.length_cons]; have := cntT_le bs; omega
  | false :: bs => by simp only [cntT, List.length_cons]; have := cntT_le bs; omega
theorem cntT_app : ∀ ds bs : List Bool, cntT (ds ++ bs) = cntT ds + cntT bs
  | [], bs => by simp [cntT]
  | true :: ds, bs => by simp only [List.cons_append, cntT, cntT_app ds bs]; omega
  | false :: ds, bs => by simp only [List.cons_append, cntT, cntT_app ds bs]
theorem take_snoc {α : Type} {l : List α} {i : Nat} {x : α} (h : l[i]? = some x) : l.take (i + 1) = l.take i ++ [x] := by
  rw [List.take_add_one, h]; rfl
/-- The number that instruction i gets: how many are kept before it. -/
def numF (ks : List Bool) (i : Nat) : Nat := cntT (ks.take i)
theorem numF_t {ks : List Bool} {i : Nat} (h : ks[i]? = some true) : numF ks (i + 1) = numF ks i + 1 := by unfold numF; rw [take_snoc h, cntT_app]; rfl
theorem numF_f {ks : List Bool} {i : Nat} (h : ks[i]? = some false) : numF ks (i + 1) = numF ks i := by unfold numF; rw [take_snoc h, cntT_app]; rfl
theorem numF_le (ks : List Bool) (i : Nat) : numF ks i ≤ i := by
  unfold numF
  have h1 := cntT_le (ks.take i)
  rw [List.length_take] at h1
  omega
def numL (ks : List Bool) (i : Nat) : List Int := (List.range i).map fun j => (numF ks j : Int)
theorem numL_len (ks : List Bool) (i : Nat) : (numL ks i).length = i := by simp [numL]
theorem numL_succ (ks : List Bool) (i : Nat) : numL ks (i + 1) = numL ks i ++ [(numF ks i : Int)] := by simp [numL, List.range_succ]
theorem numL_at (ks : List Bool) {i j : Nat} (h : j < i) : (numL ks i)[j]? = some (numF ks j : Int) := by
  unfold numL
  rw [List.getElem?_map, List.getElem?_range h]; rfl

/-- The instructions that are kept. -/
def keptL : List Ins → List Bool → List Ins
  | x :: xs, true :: bs => x :: keptL xs bs
  | _ :: xs, false :: bs => keptL xs bs
  | _, _ => []
theorem keptL_app : ∀ (xs : List Ins) (bs : List Bool) (x : Ins) (b : Bool), xs.length = bs.length → keptL (xs ++ [x]) (bs ++ [b]) = keptL xs bs ++ (if b = true then [x] else [])
  | [], [], x, true, _ => rfl
  | [], [], x, false, _ => rfl
  | y :: xs, true :: bs, x, b, h => by simp only [List.cons_append, keptL, keptL_app xs bs x b (by simpa using h)]
  | y :: xs, false :: bs, x, b, h => by simp only [List.cons_append, keptL, keptL_app xs bs x b (by simpa using h)]
  | [], _ :: _, _, _, h => by simp at h
  | _ :: _, [], _, _, h => by simp at h
theorem keptL_mem : ∀ (xs : List Ins) (bs : List Bool) (x : Ins), x ∈ keptL xs bs → x ∈ xs
  | y :: xs, true :: bs, x, h => by
    simp only [keptL, List.mem_cons] at h
    rcases h with h | h
    · simp [h]
    · simp [keptL_mem xs bs x h]
  | y :: xs, false :: bs, x, h => by simp only [keptL] at h; simp [keptL_mem xs bs x h]
  | [], _, x, h => by simp [keptL] at h
  | _ :: _, [], x, h => by simp [keptL] at h
theorem keptL_len : ∀ (xs : List Ins) (bs : List Bool), xs.length = bs.length → (keptL xs bs).length = cntT bs
  | [], [], _ => rfl
  | y :: xs, true :: bs, h => by simp only [keptL, cntT, List.length_cons, keptL_len xs bs (by simpa using h)]
  | y :: xs, false :: bs, h => by simp only [keptL, cntT, keptL_len xs bs (by simpa using h)]
  | [], _ :: _, h => by simp at h
  | _ :: _, [], h => by simp at h
/-- Of the first i. -/
def kepN (l : List Ins) (ks : List Bool) (i : Nat) : List Ins := keptL (l.take i) (ks.take i)
theorem kepN_zero (l : List Ins) (ks : List Bool) : kepN l ks 0 = [] := by simp [kepN, keptL]
theorem kepN_len {l : List Ins} {ks : List Bool} (h : ks.length = l.length) (i : Nat) : (kepN l ks i).length = numF ks i := by
  unfold kepN numF
  exact keptL_len _ _ (by rw [List.length_take, List.length_take, h])
theorem kepN_t {l : List Ins} {ks : List Bool} {i : Nat} {x : Ins} (hl : ks.length = l.length) (hx : l[i]? = some x) (h : ks[i]? = some true) : kepN l ks (i + 1) = kepN l ks i ++ [x] := by
  unfold kepN
  rw [take_snoc hx, take_snoc h, keptL_app _ _ _ _ (by rw [List.length_take, List.length_take, hl])]; rfl
theorem kepN_f {l : List Ins} {ks : List Bool} {i : Nat} {x : Ins} (hl : ks.length = l.length) (hx : l[i]? = some x) (h : ks[i]? = some false) : kepN l ks (i + 1) = kepN l ks i := by
  unfold kepN
  rw [take_snoc hx, take_snoc h, keptL_app _ _ _ _ (by rw [List.length_take, List.length_take, hl])]; simp
theorem kepN_all {l : List Ins} {ks : List Bool} (h : ks.length = l.length) : kepN l ks l.length = keptL l ks := by
  unfold kepN
  rw [List.take_of_length_le (Nat.le_refl _), List.take_of_length_le (by omega)]
/-- The kept instructions, with new targets. -/
def trimK (l : List Ins) (ks : List Bool) : List Ins := (keptL l ks).map (reT (numF ks))
/-- Which instructions can be reached. -/
noncomputable def rchL (l : List Ins) : List Bool := @dite _ (∃ bs, IsR l bs) (Classical.propDecidable _) (fun h => Classical.choose h) (fun _ => [])
theorem rchL_eq {l : List Ins} {bs : List Bool} (h : IsR l bs) : rchL l = bs := by
  unfold rchL
  have hex : ∃ bs, IsR l bs := ⟨bs, h⟩
  rw [dif_pos hex]
  exact (Classical.choose_spec hex).uniq h
/-- Trimmed code. -/
noncomputable def trimL (l : List Ins) : List Ins := trimK l (kpL l (rchL l))
theorem trimL_len {l : List Ins} {bs : List Bool} (h : IsR l bs) : (trimL l).length ≤ l.length := by
  unfold trimL trimK
  rw [List.length_map, rchL_eq h, keptL_len _ _ (by rw [kpL_len, h.1])]
  have := cntT_le (kpL l bs)
  rw [kpL_len, h.1] at this
  exact this

end Go.Proofs.YtbifbmpflhdijaaDoor

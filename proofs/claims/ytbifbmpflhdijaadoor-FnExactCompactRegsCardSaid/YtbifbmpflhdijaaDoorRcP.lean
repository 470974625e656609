/- Which instructions can be reached: plain facts on lists of instructions and lists of bools. -/
import Derived.Test.YtbifbmpflhdijaaDoorCoB
namespace Go.Proofs.YtbifbmpflhdijaaDoor
open Go.RowKit
set_option linter.unusedVariables false

/-- Where the execution may go on behind instruction x, which is number i. -/
def folN (x : Ins) (i : Nat) : List Nat :=
  if x.op = 8 then [x.fa.toNat] else if x.op = 9 ∨ x.op = 10 then [x.fb.toNat, i + 1] else if x.op = 13 then [] else [i + 1]
theorem folN_len (x : Ins) (i : Nat) : (folN x i).length ≤ 2 := by
  unfold folN; split
  · simp
  split
  · simp
  split <;> simp

/-- Targets and next instructions are instructions. -/
structure Okc (l : List Ins) : Prop where
  pos : 1 ≤ l.length
  le : l.length ≤ 400
  ja : ∀ (i : Nat) (x : Ins), l[i]? = some x → x.op = 8 → 0 ≤ x.fa ∧ x.fa < (l.length : Int)
  jb : ∀ (i : Nat) (x : Ins), l[i]? = some x → (x.op = 9 ∨ x.op = 10) → 0 ≤ x.fb ∧ x.fb < (l.length : Int)
  nx : ∀ (i : Nat) (x : Ins), l[i]? = some x → x.op ≠ 8 → x.op ≠ 13 → i + 1 < l.length
theorem Okc.fol {l : List Ins} (h : Okc l) {i j : Nat} {x : Ins} (hx : l[i]? = some x) (hj : j ∈ folN x i) : j < l.length := by
  unfold folN at hj
  split at hj
  · rename_i e
    have := h.ja i x hx e
    simp at hj; omega
  split at hj
  · rename_i e1 e
    have := h.jb i x hx e
    have := h.nx i x hx e1 (by omega)
    simp at hj; omega
  split at hj
  · simp at hj
  · rename_i e1 e2 e3
    have := h.nx i x hx e1 e3
    simp at hj; omega
theorem kdAt_8 : kdAt 8 0 = 6 ∧ kdAt 9 1 = 6 ∧ kdAt 10 1 = 6 := by decide
theorem codeB_ok {c : Cd} (h : codeB c = true) : Okc c.list := by
  unfold codeB at h
  simp only [Bool.and_eq_true, decide_eq_true_eq] at h
  obtain ⟨⟨_, h1, h2⟩, h3, h4⟩ := h
  have hall : ∀ (i : Nat) (x : Ins), c.list[i]? = some x → insB c.vars.length c.arrs.length c.list.length x = true := fun i x hx => List.all_eq_true.1 h3 x (List.mem_of_getElem? hx)
  refine ⟨h1, h2, fun i x hx e => ?_, fun i x hx e => ?_, fun i x hx e1 e2 => ?_⟩
  · have hi := hall i x hx
    unfold insB at hi
    simp only [Bool.and_eq_true, decide_eq_true_eq] at hi
    have h0 := hi.2.1.1.1
    rw [e, show (8 : Int).toNat = 8 from rfl, kdAt_8.1] at h0
    simp [fldB] at h0
    exact h0
  · have hi := hall i x hx
    unfold insB at hi
    simp only [Bool.and_eq_true, decide_eq_true_eq] at hi
    have h0 := hi.2.1.1.2
    rcases e with e | e
    · rw [e, show (9 : Int).toNat = 9 from rfl, kdAt_8.2.1] at h0
      simp [fldB] at h0
      exact h0
    · rw [e, show (10 : Int).toNat = 10 from rfl, kdAt_8.2.2] at h0
      simp [fldB] at h0
      exact h0
  · have hlt := (List.getElem?_eq_some_iff.1 hx).1
    by_cases hl : i + 1 < c.list.length
    · exact hl
    · obtain rfl : i = c.list.length - 1 := by omega
      rw [lastB_at hx] at h4
      simp at h4
      omega

/-- Instruction i can be reached. -/
inductive Rch (l : List Ins) : Nat → Prop
  | zero : Rch l 0
  | step {i j : Nat} {x : Ins} : Rch l i → l[i]? = some x → j ∈ folN x i → Rch l j
theorem Rch.lt {l : List Ins} (h : Okc l) {i : Nat} (hr : Rch l i) : i < l.length := by
  induction hr with
  | zero => have := h.pos; omega
  | step _ hx hj _ => exact h.fol hx hj
/-- The list says which instructions can be reached. -/
def IsR (l : List Ins) (bs : List Bool) : Prop := bs.length = l.length ∧ ∀ i, bs[i]? = some true ↔ Rch l i
theorem bool_ext {ba bs : List Bool} (hl : ba.length = bs.length) (h : ∀ i : Nat, ba[i]? = some true ↔ bs[i]? = some true) : ba = bs := by
  apply List.ext_getElem?
  intro i
  by_cases hi : i < ba.length
  · have e1 : ba[i]? = some ba[i] := List.getElem?_eq_getElem hi
    have e2 : bs[i]? = some (bs[i]'(by omega)) := List.getElem?_eq_getElem _
    have := h i
    rw [e1, e2] at this
    rw [e1, e2]
    cases ha : ba[i] <;> cases hb : bs[i]'(by omega) <;> simp_all
  · rw [List.getElem?_eq_none (by omega), List.getElem?_eq_none (by omega)]
theorem IsR.uniq {l : List Ins} {ba bs : List Bool} (h : IsR l ba) (h' : IsR l bs) : ba = bs :=
  bool_ext (h.1.trans h'.1.symm) fun i => (h.2 i).trans (h'.2 i).symm

/-- How many are false. -/
def cntF : List Bool → Nat
  | [] => 0
  | true :: bs => cntF bs
  | false :: bs => cntF bs + 1
theorem cntF_set : ∀ (bs : List Bool) (i : Nat), bs[i]? = some false → cntF (bs.set i true) + 1 = cntF bs
  | [], i, h => by simp at h
  | b :: bs, 0, h => by simp at h; subst h; rfl
  | true :: bs, i + 1, h => by simp only [List.set_cons_succ, cntF]; exact cntF_set bs i (by simpa using h)
  | false :: bs, i + 1, h => by simp only [List.set_cons_succ, cntF]; rw [cntF_set bs i (by simpa using h)]
theorem cntF_rep : ∀ n, cntF (List.replicate n false) = n
  | 0 => rfl
  | n + 1 => by rw [List.replicate_succ, cntF, cntF_rep n]
theorem set_true {bs : List Bool} {i j : Nat} (hi : i < bs.length) : (bs.set i true)[j]? = some true ↔ j = i ∨ bs[j]? = some true := by
  by_cases h : j = i
  · subst h
    rw [List.getElem?_set_self hi]
    exact ⟨fun _ => .inl rfl, fun _ => rfl⟩
  · rw [List.getElem?_set_ne (by omega)]
    exact ⟨.inr, fun e => e.resolve_left h⟩

/-- The program's search: what is found, what is waiting (the last first). -/
structure WL (l : List Ins) (fd : List Bool) (ws : List Nat) : Prop where
  len : fd.length = l.length
  snd : ∀ i : Nat, fd[i]? = some true → Rch l i
  wt : ∀ i, i ∈ ws → Rch l i
  st : 0 ∈ ws ∨ fd[0]? = some true
  cl : ∀ (i j : Nat) (x : Ins), fd[i]? = some true → l[i]? = some x → j ∈ folN x i → j ∈ ws ∨ fd[j]? = some true
  bd : 3 * cntF fd + ws.length ≤ 3 * l.length + 1
theorem WL.start {l : List Ins} (h : Okc l) : WL l (List.replicate l.length false) [0] := by
  have hn : ∀ i : Nat, (List.replicate l.length false)[i]? ≠ some true := fun i => by
    rw [List.getElem?_replicate]; split <;> simp
  exact ⟨List.length_replicate, fun i hi => absurd hi (hn i), fun i hi => by simp at hi; subst hi; exact .zero, .inl (by simp), fun i j x hi => absurd hi (hn i), by rw [cntF_rep]; simp⟩
theorem WL.skip {l : List Ins} {fd : List Bool} {ws : List Nat} {p : Nat} (h : WL l fd (ws ++ [p])) (hp : fd[p]? = some true) : WL l fd ws := by
  have hm : ∀ j, j ∈ ws ++ [p] ∨ fd[j]? = some true → j ∈ ws ∨ fd[j]? = some true := fun j hj => by
    rcases hj with hj | hj
    · rcases List.mem_append.1 hj with hj | hj
      · exact .inl hj
      · simp at hj; subst hj; exact .inr hp
    · exact .inr hj
  exact ⟨h.len, h.snd, fun i hi => h.wt i (by simp [hi]), hm 0 h.st, fun i j x h1 h2 h3 => hm j (h.cl i j x h1 h2 h3), by have := h.bd; simp at this; omega⟩
theorem WL.take {l : List Ins} {fd : List Bool} {ws : List Nat} {p : Nat} {x : Ins} (h : WL l fd (ws ++ [p])) (hp : fd[p]? = some false) (hx : l[p]? = some x) : WL l (fd.set p true) (ws ++ folN x p) := by
  have hpl : p < fd.length := (List.getElem?_eq_some_iff.1 hp).1
  have hr : Rch l p := h.wt p (by simp)
  have hm : ∀ j, j ∈ ws ++ [p] ∨ fd[j]? = some true → j ∈ ws ++ folN x p ∨ (fd.set p true)[j]? = some true := fun j hj => by
    rw [set_true hpl]
    rcases hj with hj | hj
    · rcases List.mem_append.1 hj with hj | hj
      · exact .inl (by simp [hj])
      · simp at hj; exact .inr (.inl hj)
    · exact .inr (.inr hj)
  refine ⟨by rw [List.length_set]; exact h.len, fun i hi => ?_, fun i hi => ?_, hm 0 h.st, fun i j y h1 h2 h3 => ?_, ?_⟩
  · rcases (set_true hpl).1 hi with e | e
    · rw [e]; exact hr
    · exact h.snd i e
  · rcases List.mem_append.1 hi with e | e
    · exact h.wt i (by simp [e])
    · exact .step hr hx e
  · rcases (set_true hpl).1 h1 with e | e
    · subst e
      rw [hx] at h2
      cases h2
      exact .inl (by simp [h3])
    · exact hm j (h.cl i j y e h2 h3)
  · have h1 := h.bd
    have h2 := cntF_set fd p hp
    have h3 := folN_len x p
    simp at h1 ⊢
    omega
theorem WL.done {l : List Ins} {fd : List Bool} (h : WL l fd []) : IsR l fd := by
  refine ⟨h.len, fun i => ⟨h.snd i, fun hr => ?_⟩⟩
  induction hr with
  | zero => exact h.st.resolve_left (by simp)
  | step _ hx hj ih => exact (h.cl _ _ _ ih hx hj).resolve_left (by simp)

/-- The model's search: what is seen, the queue, of which the first t have been looked at. -/
structure QL (l : List Ins) (sn : List Bool) (q : List Nat) (t : Nat) : Prop where
  len : sn.length = l.length
  tq : t ≤ q.length
  mem : ∀ j : Nat, sn[j]? = some true ↔ j ∈ q
  snd : ∀ j, j ∈ q → Rch l j
  st : 0 ∈ q
  cl : ∀ (s p j : Nat) (x : Ins), s < t → q[s]? = some p → l[p]? = some x → j ∈ folN x p → sn[j]? = some true
  bd : q.length + cntF sn = l.length
theorem QL.start {l : List Ins} (h : Okc l) : QL l ((List.replicate l.length false).set 0 true) [0] 0 := by
  have hp := h.pos
  have hn : ∀ i : Nat, (List.replicate l.length false)[i]? ≠ some true := fun i => by
    rw [List.getElem?_replicate]; split <;> simp
  have h0 : (List.replicate l.length false)[0]? = some false := by rw [List.getElem?_replicate, if_pos (by omega)]
  refine ⟨by simp, by simp, fun j => ?_, fun j hj => by simp at hj; subst hj; exact .zero, by simp, fun s p j x hs => absurd hs (Nat.not_lt_zero _), ?_⟩
  · rw [set_true (by simp; omega)]
    simp [hn j]
  · have := cntF_set _ _ h0
    rw [cntF_rep] at this
    simp; omega
/-- One that follows the instruction under look, which is number p, is seen and put into the queue, if it is not seen. -/
theorem QL.push {l : List Ins} {sn : List Bool} {q : List Nat} {t p j : Nat} {x : Ins} (h : QL l sn q t) (hp : q[t]? = some p) (hx : l[p]? = some x) (hj : j ∈ folN x p) (hs : sn[j]? = some false) : QL l (sn.set j true) (q ++ [j]) t := by
  have hjl : j < sn.length := (List.getElem?_eq_some_iff.1 hs).1
  refine ⟨by rw [List.length_set]; exact h.len, by have := h.tq; simp; omega, fun i => ?_, fun i hi => ?_, by simp [h.st], fun s p' i y hst hq hy hi => ?_, ?_⟩
  · rw [set_true hjl, h.mem i]
    simp
    exact ⟨fun e => e.elim .inr .inl, fun e => e.elim .inr .inl⟩
  · rcases List.mem_append.1 hi with e | e
    · exact h.snd i e
    · simp at e; subst e; exact .step (h.snd p (List.mem_of_getElem? hp)) hx hj
  · have := h.tq
    rw [List.getElem?_append_left (by omega)] at hq
    rw [set_true hjl]
    exact .inr (h.cl s p' i y hst hq hy hi)
  · have h1 := h.bd
    have h2 := cntF_set sn j hs
    simp; omega
theorem QL.next {l : List Ins} {sn : List Bool} {q : List Nat} {t p : Nat} {x : Ins} (h : QL l sn q t) (hp : q[t]? = some p) (hx : l[p]? = some x) (hall : ∀ j, j ∈ folN x p → sn[j]? = some true) : QL l sn q (t + 1) := by
  have ht := (List.getElem?_eq_some_iff.1 hp).1
  refine ⟨h.len, ht, h.mem, h.snd, h.st, fun s p' j y hs hq hy hj => ?_, h.bd⟩
  by_cases e : s = t
  · subst e
    rw [hp] at hq
    cases hq
    rw [hx] at hy
    cases hy
    exact hall j hj
  · exact h.cl s p' j y (by omega) hq hy hj
theorem QL.done {l : List Ins} {sn : List Bool} {q : List Nat} (h : QL l sn q q.length) : IsR l sn := by
  refine ⟨h.len, fun i => ⟨fun hi => h.snd i ((h.mem i).1 hi), fun hr => ?_⟩⟩
  induction hr with
  | zero => exact (h.mem 0).2 h.st
  | step _ hx hj ih =>
    obtain ⟨s, hs⟩ := List.mem_iff_getElem?.1 ((h.mem _).1 ih)
    exact h.cl s _ _ _ (List.getElem?_eq_some_iff.1 hs).1 hs hx hj

end Go.Proofs.YtbifbmpflhdijaaDoor

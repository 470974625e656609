/- An instruction as a value and in a box; the instructions of valid code. -/
import Derived.Test.YtbifbmpflhdijaaDoorTnP
import Derived.Test.YtbifbmpflhdijaaDoorBlSB
import Derived.StillTailTactics
import Derived.Deep.CutRange
import Derived.Test.YtbifbmpflhdijaaDoorCvS
import Derived.Test.YtbifbmpflhdijaaDoorCmA
import Derived.Test.YtbifbmpflhdijaaDoorCpC
import Derived.Deep.RegionWith
import Derived.Test.YtbifbmpflhdijaaDoorPaN
import Derived.Deep.RegionHeld3
import Derived.Deep.AppendLies
import Derived.Test.YtbifbmpflhdijaaDoorCdE
import Derived.Test.YtbifbmpflhdijaaDoorCdT
import Derived.Test.YtbifbmpflhdijaaDoorMkC
import Derived.Test.YtbifbmpflhdijaaDoorHdP
namespace Go.Proofs.YtbifbmpflhdijaaDoor
open Go.RowKit
set_option linter.unusedVariables false

theorem codeB_ins {m : Cd} (h : codeB m = true) {i : Nat} {x : Ins} (hx : m.list[i]? = some x) : InsT m.vars.length m.arrs.length x := by
  unfold codeB at h
  simp only [Bool.and_eq_true] at h
  exact insB_T (List.all_eq_true.1 h.2.1 x (List.mem_of_getElem? hx))
/-- An instruction as a value, and in a box. -/
abbrev aggI (x : Ins) : Value := .agg #[.int .i64 x.op, .int .i64 x.fa, .int .i64 x.fb, .int .i64 x.fc, .int .i64 x.fd]
abbrev arrI (x : Ins) : Array Value := #[.int .i64 x.op, .int .i64 x.fa, .int .i64 x.fb, .int .i64 x.fc, .int .i64 x.fd]

end Go.Proofs.YtbifbmpflhdijaaDoor

namespace Go.Proofs.YtbifbmpflhdijaaDoor
set_option linter.unusedVariables false

/-- The registers that are read, in the order of the fields, and those that are written. -/
def rdL (x : Ins) : List Nat :=
  if x.op = 3 then [x.fb.toNat] else if x.op = 4 then [x.fc.toNat] else if x.op = 5 then [x.fb.toNat, x.fc.toNat] else if x.op = 6 then [x.fc.toNat, x.fd.toNat]
  else if x.op = 7 then [x.fb.toNat, x.fc.toNat, x.fd.toNat] else if x.op = 9 ∨ x.op = 10 ∨ x.op = 11 then [x.fa.toNat] else []
def wrL (x : Ins) : List Nat := if x.op = 1 ∨ x.op = 2 ∨ x.op = 4 ∨ x.op = 6 ∨ x.op = 7 ∨ x.op = 10 then [x.fa.toNat] else []
/-- The mask m with these registers. -/
def setM (m : Nat) : List Nat → Nat
  | [] => m
  | r :: rs => setM (sb m r true) rs
def rdM (x : Ins) : Nat := setM 0 (rdL x)
def wrM (x : Ins) : Nat := setM 0 (wrL x)
theorem rdL_lt {nv na : Nat} {x : Ins} (h : InsT nv na x) : ∀ r, r ∈ rdL x → r < 14 := by
  intro r hr
  unfold rdL at hr
  split at hr
  · rename_i e; have := h.rb (.inl e); simp at hr; omega
  split at hr
  · rename_i e; have := h.rc (.inl e); simp at hr; omega
  split at hr
  · rename_i e; have := h.rb (.inr (.inl e)); have := h.rc (.inr (.inl e)); simp at hr; omega
  split at hr
  · rename_i e; have := h.rc (.inr (.inr (.inl e))); have := h.rd (.inl e); simp at hr; omega
  split at hr
  · rename_i e; have := h.rb (.inr (.inr e)); have := h.rc (.inr (.inr (.inr e))); have := h.rd (.inr e); simp at hr; omega
  split at hr
  · rename_i e
    have h1 : wrA x = true ∨ x.op = 9 ∨ x.op = 10 := by
      rcases e with e | e | e
      · exact .inr (.inl e)
      · exact .inr (.inr e)
      · left; unfold wrA; rw [e]; rfl
    have := h.ra h1; simp at hr; omega
  · simp at hr
theorem wrL_lt {nv na : Nat} {x : Ins} (h : InsT nv na x) : ∀ r, r ∈ wrL x → r < 14 := by
  intro r hr
  unfold wrL at hr
  split at hr
  · rename_i e
    have h1 : wrA x = true ∨ x.op = 9 ∨ x.op = 10 := by
      rcases e with e | e | e | e | e | e
      · left; unfold wrA; rw [e]; rfl
      · left; unfold wrA; rw [e]; rfl
      · left; unfold wrA; rw [e]; rfl
      · left; unfold wrA; rw [e]; rfl
      · left; unfold wrA; rw [e]; rfl
      · exact .inr (.inr e)
    have := h.ra h1; simp at hr; omega
  · simp at hr
theorem or_lt14 {a b : Nat} (ha : a < 16384) (hb : b < 16384) : a ||| b < 16384 := Nat.or_lt_two_pow (n := 14) ha hb
theorem and_lt14 {a : Nat} (b : Nat) (ha : a < 16384) : a &&& b < 16384 := Nat.lt_of_le_of_lt Nat.and_le_left ha
theorem sb_lt14 {m r : Nat} (hm : m < 16384) (hr : r < 14) : sb m r true < 16384 := by
  unfold sb; rw [if_pos rfl]
  exact or_lt14 hm (Nat.pow_lt_pow_right (by omega) hr)
theorem setM_lt : ∀ (L : List Nat) (m : Nat), m < 16384 → (∀ r, r ∈ L → r < 14) → setM m L < 16384
  | [], m, hm, _ => hm
  | r :: L, m, hm, h => setM_lt L _ (sb_lt14 hm (h r (by simp))) fun q hq => h q (by simp [hq])
theorem setM_bit : ∀ (L : List Nat) (m b : Nat), m < 16384 → (∀ r, r ∈ L → r < 14) → ((setM m L).testBit b = true ↔ m.testBit b = true ∨ b ∈ L)
  | [], m, b, _, _ => by simp [setM]
  | r :: L, m, b, hm, h => by
    show (setM (sb m r true) L).testBit b = true ↔ _
    have hr := h r (by simp)
    rw [setM_bit L _ b (sb_lt14 hm hr) (fun q hq => h q (by simp [hq])), sb_bit (by omega) (by omega)]
    by_cases e : b = r
    · subst e; simp
    · rw [if_neg e]; simp [e]
theorem rdM_lt {nv na : Nat} {x : Ins} (h : InsT nv na x) : rdM x < 16384 := setM_lt _ _ (by omega) (rdL_lt h)
theorem wrM_lt {nv na : Nat} {x : Ins} (h : InsT nv na x) : wrM x < 16384 := setM_lt _ _ (by omega) (wrL_lt h)
theorem rdM_bit {nv na : Nat} {x : Ins} (h : InsT nv na x) (b : Nat) : (rdM x).testBit b = true ↔ b ∈ rdL x := by
  unfold rdM; rw [setM_bit _ _ _ (by omega) (rdL_lt h)]; simp
theorem wrM_bit {nv na : Nat} {x : Ins} (h : InsT nv na x) (b : Nat) : (wrM x).testBit b = true ↔ b ∈ wrL x := by
  unfold wrM; rw [setM_bit _ _ _ (by omega) (wrL_lt h)]; simp
theorem andn_bit {a m : Nat} (ha : a < 32768) (hm : m < 32768) (b : Nat) : (a &&& (65535 - m)).testBit b = (a.testBit b && !m.testBit b) := by
  have e : 65535 - m = 2 ^ 16 - (m + 1) := by omega
  rw [Nat.testBit_and, e, Nat.testBit_two_pow_sub_succ (by omega)]
  by_cases hb : b < 16
  · rw [decide_eq_true hb]; simp
  · rw [bit_lt ha (by omega)]; simp
theorem eq_of_sub {a b : Nat} (h : Sub a b) (h' : Sub b a) : a = b := by
  apply Nat.eq_of_testBit_eq
  intro i
  cases h1 : a.testBit i <;> cases h2 : b.testBit i
  · rfl
  · rw [h' i h2] at h1; cases h1
  · rw [h i h1] at h2; cases h2
  · rfl

/-- What must be live before an instruction, where a is live after it. -/
def bef (x : Ins) (a : Nat) : Nat := rdM x ||| (a &&& (65535 - wrM x))
theorem bef_lt {nv na : Nat} {x : Ins} (h : InsT nv na x) {a : Nat} (ha : a < 16384) : bef x a < 16384 := or_lt14 (rdM_lt h) (and_lt14 _ ha)
theorem bef_mono {x : Ins} {a a' : Nat} (h : Sub a a') : Sub (bef x a) (bef x a') := fun b hb => by
  unfold bef at hb ⊢
  rw [Nat.testBit_or, Bool.or_eq_true, Nat.testBit_and, Bool.and_eq_true] at hb ⊢
  exact hb.imp id fun ⟨h1, h2⟩ => ⟨h b h1, h2⟩
/-- All that is live before one of these. -/
def orT (T : Nat → Nat) (a : Nat) : List Nat → Nat
  | [] => a
  | t :: ts => orT T (a ||| T t) ts
theorem orT_bit (T : Nat → Nat) : ∀ (ts : List Nat) (a b : Nat), (orT T a ts).testBit b = true ↔ a.testBit b = true ∨ ∃ t, t ∈ ts ∧ (T t).testBit b = true
  | [], a, b => by simp [orT]
  | t :: ts, a, b => by
    show (orT T (a ||| T t) ts).testBit b = true ↔ _
    rw [orT_bit T ts, Nat.testBit_or, Bool.or_eq_true]
    constructor
    · rintro ((h | h) | ⟨q, h1, h2⟩)
      · exact .inl h
      · exact .inr ⟨t, by simp, h⟩
      · exact .inr ⟨q, by simp [h1], h2⟩
    · rintro (h | ⟨q, h1, h2⟩)
      · exact .inl (.inl h)
      · rcases List.mem_cons.1 h1 with e | e
        · subst e; exact .inl (.inr h2)
        · exact .inr ⟨q, e, h2⟩
theorem orT_lt (T : Nat → Nat) : ∀ (ts : List Nat) (a : Nat), a < 16384 → (∀ t, t ∈ ts → T t < 16384) → orT T a ts < 16384
  | [], a, ha, _ => ha
  | t :: ts, a, ha, h => orT_lt T ts _ (or_lt14 ha (h t (by simp))) fun q hq => h q (by simp [hq])
theorem orT_mono {T T' : Nat → Nat} {ts : List Nat} (h : ∀ t, t ∈ ts → Sub (T t) (T' t)) : Sub (orT T 0 ts) (orT T' 0 ts) := fun b hb => by
  rw [orT_bit] at hb ⊢
  rcases hb with hb | ⟨t, h1, h2⟩
  · exact .inl hb
  · exact .inr ⟨t, h1, h t h1 b h2⟩
/-- What must be live before instruction i, which is x, where T says what is live before each. -/
def ned (T : Nat → Nat) (i : Nat) (x : Ins) : Nat := bef x (orT T 0 (folN x i))
theorem ned_mono {T T' : Nat → Nat} {i : Nat} {x : Ins} (h : ∀ t, t ∈ folN x i → Sub (T t) (T' t)) : Sub (ned T i x) (ned T' i x) := bef_mono (orT_mono h)
theorem ned_eq {T T' : Nat → Nat} {i : Nat} {x : Ins} (h : ∀ t, t ∈ folN x i → T t = T' t) : ned T i x = ned T' i x :=
  eq_of_sub (ned_mono fun t ht => by rw [h t ht]; exact Sub.refl _) (ned_mono fun t ht => by rw [h t ht]; exact Sub.refl _)

/-- A live map is sufficient. -/
def ClosedL (l : List Ins) (T : Nat → Nat) : Prop := ∀ (i : Nat) (x : Ins), l[i]? = some x → Sub (ned T i x) (T i)
def fT (ms : List Nat) (t : Nat) : Nat := ms.getD t 0
theorem fT_at {ms : List Nat} {i m : Nat} (h : ms[i]? = some m) : fT ms i = m := by unfold fT; rw [List.getD_eq_getElem?_getD, h]; rfl
theorem fT_lt {ms : List Nat} (h : ∀ (i m : Nat), ms[i]? = some m → m < 16384) (t : Nat) : fT ms t < 16384 := by
  unfold fT
  rw [List.getD_eq_getElem?_getD]
  cases e : ms[t]? with
  | none => simp
  | some m => exact h t m e
theorem fT_set {ms : List Nat} {p : Nat} (hp : p < ms.length) (r i : Nat) : fT (ms.set p r) i = if i = p then r else fT ms i := by
  unfold fT
  rw [List.getD_eq_getElem?_getD, List.getD_eq_getElem?_getD]
  split
  · rename_i e; subst e; rw [List.getElem?_set_self hp]; rfl
  · rename_i e; rw [List.getElem?_set_ne (fun e' => e e'.symm)]
/-- The list is the least sufficient map. -/
structure IsL (l : List Ins) (ms : List Nat) : Prop where
  len : ms.length = l.length
  lt : ∀ (i m : Nat), ms[i]? = some m → m < 16384
  cl : ClosedL l (fT ms)
  le : ∀ T, ClosedL l T → ∀ i, i < l.length → Sub (fT ms i) (T i)
theorem IsL.uniq {l : List Ins} {ma mb : List Nat} (h : IsL l ma) (h' : IsL l mb) : ma = mb := by
  apply List.ext_getElem?
  intro i
  by_cases hi : i < l.length
  · have e1 : ma[i]? = some (ma[i]'(by rw [h.len]; exact hi)) := List.getElem?_eq_getElem _
    have e2 : mb[i]? = some (mb[i]'(by rw [h'.len]; exact hi)) := List.getElem?_eq_getElem _
    have h1 := h.le _ h'.cl i hi
    have h2 := h'.le _ h.cl i hi
    rw [fT_at e1, fT_at e2] at h1 h2
    rw [e1, e2, eq_of_sub h1 h2]
  · rw [List.getElem?_eq_none (by rw [h.len]; omega), List.getElem?_eq_none (by rw [h'.len]; omega)]

/-- What is known of all maps that the searches hold. -/
structure LB (l : List Ins) (ms : List Nat) : Prop where
  len : ms.length = l.length
  lt : ∀ (i m : Nat), ms[i]? = some m → m < 16384
  le : ∀ T, ClosedL l T → ∀ i, i < l.length → Sub (fT ms i) (T i)
  up : ∀ (i : Nat) (x : Ins), l[i]? = some x → Sub (fT ms i) (ned (fT ms) i x)
theorem fT_rep (n i : Nat) : fT (List.replicate n 0) i = 0 := by
  unfold fT
  rw [List.getD_eq_getElem?_getD, List.getElem?_replicate]
  split <;> rfl
theorem LB.start (l : List Ins) : LB l (List.replicate l.length 0) := by
  refine ⟨List.length_replicate, fun i m h => ?_, fun T _ i _ b hb => ?_, fun i x _ b hb => ?_⟩
  · rw [List.getElem?_replicate] at h
    split at h
    · have : 0 = m := by simpa using h
      omega
    · cases h
  · rw [fT_rep, Nat.zero_testBit] at hb; cases hb
  · rw [fT_rep, Nat.zero_testBit] at hb; cases hb
theorem LB.nlt {l : List Ins} {ms : List Nat} (h : LB l ms) {nv na : Nat} {x : Ins} (hx : InsT nv na x) (i : Nat) : ned (fT ms) i x < 16384 := bef_lt hx (orT_lt _ _ _ (by omega) fun t _ => fT_lt h.lt t)
theorem LB.set {l : List Ins} {ms : List Nat} (h : LB l ms) (hok : Okc l) {nv na : Nat} {p : Nat} {x : Ins} (hx : InsT nv na x) (hp : l[p]? = some x) : LB l (ms.set p (ned (fT ms) p x)) := by
  have hpl : p < l.length := (List.getElem?_eq_some_iff.1 hp).1
  have hpm : p < ms.length := by rw [h.len]; exact hpl
  have hgrow : ∀ t, Sub (fT ms t) (fT (ms.set p (ned (fT ms) p x)) t) := fun t => by
    rw [fT_set hpm]
    split
    · rename_i e; subst e; exact h.up _ x hp
    · exact Sub.refl _
  refine ⟨by rw [List.length_set]; exact h.len, fun i m hm => ?_, fun T hT i hi => ?_, fun i y hy => ?_⟩
  · by_cases e : i = p
    · subst e
      rw [List.getElem?_set_self hpm] at hm
      cases hm
      exact h.nlt hx _
    · rw [List.getElem?_set_ne (fun e' => e e'.symm)] at hm
      exact h.lt i m hm
  · rw [fT_set hpm]
    split
    · rename_i e; subst e
      exact (ned_mono fun t ht => h.le T hT t (hok.fol hp ht)).trans (hT _ x hp)
    · exact h.le T hT i hi
  · rw [fT_set hpm]
    split
    · rename_i e; subst e
      rw [hp] at hy
      cases hy
      exact ned_mono fun t _ => hgrow t
    · exact (h.up i y hy).trans (ned_mono fun t _ => hgrow t)
theorem LB.more {l : List Ins} {ms : List Nat} (h : LB l ms) {nv na : Nat} {p m : Nat} {x : Ins} (hx : InsT nv na x) (hp : l[p]? = some x) (hm : ms[p]? = some m) (hne : ned (fT ms) p x ≠ m) : pcS ms + 1 ≤ pcS (ms.set p (ned (fT ms) p x)) := by
  have hup := h.up p x hp
  rw [fT_at hm] at hup
  refine pcS_set ms p m _ hm ?_
  have h1 := pcM_grow (m := m) (a := ned (fT ms) p x) (by have := h.lt p m hm; omega) (by have := h.nlt hx p; omega) (fun hs => hne (eq_of_sub hs hup))
  rwa [show m ||| ned (fT ms) p x = ned (fT ms) p x by rw [Nat.or_comm]; exact Sub.or_eq hup] at h1
theorem LB.done {l : List Ins} {ms : List Nat} (h : LB l ms) (hc : ∀ (i : Nat) (x : Ins), l[i]? = some x → Sub (ned (fT ms) i x) (fT ms i)) : IsL l ms := ⟨h.len, h.lt, hc, h.le⟩
theorem pcS_bd {l : List Ins} {ms : List Nat} (h : LB l ms) : pcS ms ≤ 15 * l.length := by have := pcS_le ms; rw [h.len] at this; exact this

/-- For each instruction, those that it may follow. -/
structure PrB (l : List Ins) (bs : List (List Nat)) : Prop where
  len : bs.length = l.length
  lt : ∀ p i, i ∈ bs.getD p [] → i < l.length
  mem : ∀ (i : Nat) (x : Ins) (p : Nat), l[i]? = some x → p ∈ folN x i → i ∈ bs.getD p []
  bd : ∀ p, (bs.getD p []).length ≤ 800
/-- The program's search: the map so far, those that wait. -/
structure LW (l : List Ins) (ms ws : List Nat) : Prop where
  lb : LB l ms
  wt : ∀ i, i ∈ ws → i < l.length
  cl : ∀ (i : Nat) (x : Ins), l[i]? = some x → i ∉ ws → Sub (ned (fT ms) i x) (fT ms i)
  bd : ws.length ≤ l.length + 800 * pcS ms
theorem LW.start (l : List Ins) : LW l (List.replicate l.length 0) (List.range l.length) :=
  ⟨LB.start l, fun i hi => by simpa using hi, fun i x hx hi => absurd (by simpa using (List.getElem?_eq_some_iff.1 hx).1) hi, by simp⟩
theorem LW.skip {l : List Ins} {ms ws : List Nat} {p : Nat} {x : Ins} (h : LW l ms (ws ++ [p])) (hp : l[p]? = some x) (he : ned (fT ms) p x = fT ms p) : LW l ms ws :=
  ⟨h.lb, fun i hi => h.wt i (by simp [hi]), fun i y hy hi => by
    by_cases e : i = p
    · subst e
      rw [hp] at hy
      cases hy
      rw [he]; exact Sub.refl _
    · exact h.cl i y hy (by simp [hi, e]), by have := h.bd; simp at this; omega⟩
theorem LW.grow {l : List Ins} {ms ws : List Nat} {p m : Nat} {x : Ins} {bs : List (List Nat)} (h : LW l ms (ws ++ [p])) (hok : Okc l) (hb : PrB l bs) {nv na : Nat} (hx : InsT nv na x) (hp : l[p]? = some x) (hm : ms[p]? = some m) (hne : ned (fT ms) p x ≠ m) : LW l (ms.set p (ned (fT ms) p x)) (ws ++ bs.getD p []) := by
  have hpm : p < ms.length := (List.getElem?_eq_some_iff.1 hm).1
  refine ⟨h.lb.set hok hx hp, fun i hi => ?_, fun i y hy hi => ?_, ?_⟩
  · rcases List.mem_append.1 hi with hi | hi
    · exact h.wt i (by simp [hi])
    · exact hb.lt p i hi
  · have hnb : i ∉ bs.getD p [] := fun e => hi (List.mem_append_right _ e)
    have hnf : p ∉ folN y i := fun e => hnb (hb.mem i y p hy e)
    have he : ned (fT (ms.set p (ned (fT ms) p x))) i y = ned (fT ms) i y := ned_eq fun t ht => by
      rw [fT_set hpm, if_neg (fun e => hnf (by rw [← e]; exact ht))]
    rw [he, fT_set hpm]
    split
    · rename_i e; subst e
      rw [hp] at hy
      cases hy
      exact Sub.refl _
    · rename_i e
      exact h.cl i y hy (by simp [e]; intro e2; exact hi (by simp [e2]))
  · have h1 := h.bd
    have h2 := h.lb.more hx hp hm hne
    have h3 := hb.bd p
    rw [List.length_append] at h1 ⊢
    simp only [List.length_cons, List.length_nil] at h1
    omega
theorem LW.done {l : List Ins} {ms : List Nat} (h : LW l ms []) : IsL l ms := h.lb.done fun i x hx => h.cl i x hx (by simp)

/-- Within a round of the model's search: c: something has changed since the round began with ms0; those from k on are done. -/
structure LR (l : List Ins) (ms0 ms : List Nat) (c : Bool) (k : Nat) : Prop where
  lb : LB l ms
  mono : pcS ms0 ≤ pcS ms
  grew : c = true → pcS ms0 + 1 ≤ pcS ms
  same : c = false → ∀ (i : Nat) (x : Ins), k ≤ i → l[i]? = some x → Sub (ned (fT ms) i x) (fT ms i)
theorem LR.start {l : List Ins} {ms : List Nat} (h : LB l ms) : LR l ms ms false l.length := ⟨h, Nat.le_refl _, fun e => (by cases e), fun _ i x hi hx => absurd (List.getElem?_eq_some_iff.1 hx).1 (by omega)⟩
theorem LR.skip {l : List Ins} {ms0 ms : List Nat} {c : Bool} {k : Nat} {x : Ins} (h : LR l ms0 ms c (k + 1)) (hp : l[k]? = some x) (he : ned (fT ms) k x = fT ms k) : LR l ms0 ms c k :=
  ⟨h.lb, h.mono, h.grew, fun e i y hi hy => by
    by_cases e2 : i = k
    · subst e2
      rw [hp] at hy
      cases hy
      rw [he]; exact Sub.refl _
    · exact h.same e i y (by omega) hy⟩
theorem LR.grow {l : List Ins} {ms0 ms : List Nat} {c : Bool} {k m : Nat} {x : Ins} (h : LR l ms0 ms c (k + 1)) (hok : Okc l) {nv na : Nat} (hx : InsT nv na x) (hp : l[k]? = some x) (hm : ms[k]? = some m) (hne : ned (fT ms) k x ≠ m) : LR l ms0 (ms.set k (ned (fT ms) k x)) true k := by
  have h2 := h.lb.more hx hp hm hne
  have h3 := h.mono
  exact ⟨h.lb.set hok hx hp, by omega, fun _ => by omega, fun e => (by cases e)⟩
theorem LR.done {l : List Ins} {ms0 ms : List Nat} (h : LR l ms0 ms false 0) : IsL l ms := h.lb.done fun i x hx => h.same rfl i x (Nat.zero_le _) hx

/-- A row of flags. -/
def flB (m : Nat) : List Bool := (List.range 14).map m.testBit
theorem flB_len (m : Nat) : (flB m).length = 14 := by simp [flB]
theorem flB_at (m : Nat) {i : Nat} (hi : i < 14) : (flB m)[i]? = some (m.testBit i) := by unfold flB; rw [List.getElem?_map, List.getElem?_range hi]; rfl
theorem flB_ext {m : Nat} {r : List Bool} (h : r.length = 14) (hb : ∀ i, i < 14 → r[i]? = some (m.testBit i)) : r = flB m := by
  apply List.ext_getElem?
  intro i
  by_cases hi : i < 14
  · rw [hb i hi, flB_at m hi]
  · rw [List.getElem?_eq_none (by omega), List.getElem?_eq_none (by rw [flB_len]; omega)]
theorem bit_lt14 {m b : Nat} (hm : m < 16384) (hb : 14 ≤ b) : m.testBit b = false := Nat.testBit_lt_two_pow (Nat.lt_of_lt_of_le hm (by have := Nat.pow_le_pow_right (n := 2) (by omega) hb; omega))
theorem flB_inj {m m' : Nat} (hm : m < 16384) (hm' : m' < 16384) (h : flB m = flB m') : m = m' := by
  apply Nat.eq_of_testBit_eq
  intro b
  by_cases hb : b < 14
  · have h1 := flB_at m hb
    rw [h, flB_at m' hb] at h1
    exact (Option.some.inj h1).symm
  · rw [bit_lt14 hm (by omega), bit_lt14 hm' (by omega)]

end Go.Proofs.YtbifbmpflhdijaaDoor

namespace Go.Proofs.YtbifbmpflhdijaaDoor
open Go.RowKit
set_option linter.unusedVariables false

set_option maxHeartbeats 2000000 in
/-- **eqBoolS.** -/
theorem eqBS_one (bs cs : List Bool) (a a' : Option Addr) (n n' cap cap' : Nat) (w : World) {D D' : Nat → Prop} (h : BAt w D bs a) (h' : BAt w D' cs a') (hn : bs.length = n) (hn' : cs.length = n') :
    Calls Tryd.prog 55 #[.slice a n cap, .slice a' n' cap'] w (YN (decide (bs = cs)) w) := by
  have hm := h.1
  have hm' := h'.1
  unfold maxLen at hm hm'
  have HC : Hid (∀ k, k < n → ∃ x b o, bs[k]? = some x ∧ a = some ⟨b, o, none⟩ ∧ w.cell? ⟨b, o + k, none⟩ = some (.bool x)) := fun k hk => by
    have hx : bs[k]? = some (bs[k]'(by omega)) := List.getElem?_eq_getElem _
    obtain ⟨b, o, ha, _, hc⟩ := h.2 k _ hx
    exact ⟨_, b, o, hx, ha, hc⟩
  have HC' : Hid (∀ k, k < n' → ∃ x b o, cs[k]? = some x ∧ a' = some ⟨b, o, none⟩ ∧ w.cell? ⟨b, o + k, none⟩ = some (.bool x)) := fun k hk => by
    have hx : cs[k]? = some (cs[k]'(by omega)) := List.getElem?_eq_getElem _
    obtain ⟨b, o, ha, _, hc⟩ := h'.2 k _ hx
    exact ⟨_, b, o, hx, ha, hc⟩
  have HN := Lib.hid hn
  have HN' := Lib.hid hn'
  rw [hn] at hm
  rw [hn'] at hm'
  clear h h' hn hn'
  by_cases hne : n = n'
  · subst hne
    go_enter Tryd.func55, Tryd.ntmps55
    go_wp2
    go_loopw [5] (fun i wr => ∃ k m : Nat, k ≤ n ∧ i = .int .i64 k ∧ SameUp bs cs k ∧ wr = w.drewN m) (fun i _ => n - (intOf i).toNat)
    case atStart => exact ⟨0, 0, Nat.zero_le _, rfl, fun j hj => absurd hj (Nat.not_lt_zero _), rfl⟩
    case round =>
      obtain ⟨k, m, hk, rfl, heq, rfl⟩ := hrel
      have HE := Lib.hid heq
      clear heq
      by_cases hlt : k < n
      · obtain ⟨x, b, o, hx, rfl, hc⟩ := HC.out k hlt
        obtain ⟨y, b', o', hy, rfl, hc'⟩ := HC'.out k hlt
        have HX := Lib.hid hx
        have HY := Lib.hid hy
        clear hx hy HC HC'
        by_cases hxy : x = y
        · subst hxy
          have HE2 : Hid (SameUp bs cs (k + 1)) := HE.out.succ (HX.out.trans HY.out.symm)
          have hne : (x != x) = false := by simp
          go_wp2
          go_quiet (fail)
          go_wp2
          go_roundw
          case rel => exact ⟨k + 1, _, by omega, by go_num, HE2.out, rfl⟩
          case measure => simp [intOf]; omega
        · have hne : (x == y) = false := by simpa using hxy
          have HNO : Hid (false = decide (bs = cs)) := (decide_eq_false fun e => hxy (by have h1 := HX.out; rw [e, HY.out] at h1; cases h1; rfl)).symm
          clear hxy
          go_wp2
          go_quiet (fail)
          go_wp2
          go_ret
          exact YN.of HNO.out ⟨rfl, rfl, rfl, Nat.le_refl _, fun _ _ => rfl⟩
      · obtain rfl : k = n := by omega
        have HY : Hid (true = decide (bs = cs)) := (decide_eq_true (HE.out.all HN.out HN'.out)).symm
        clear HC HC'
        go_wp2
        go_ret
        exact YN.of HY.out ⟨rfl, rfl, rfl, Nat.le_refl _, fun _ _ => rfl⟩
  · have hne' : ((n : Int) != (n' : Int)) = true := by simp; omega
    have HNO : Hid (false = decide (bs = cs)) := (decide_eq_false fun e => hne (by rw [← HN.out, ← HN'.out, e])).symm
    clear HC HC'
    go_enter Tryd.func55, Tryd.ntmps55
    go_wp2
    go_ret
    exact YN.of HNO.out (Below.refl _ _)

/-- The marks from k on. -/
def mkBl (k : Int) (n : Nat) : List Bool := (List.range n).map fun (i : Nat) => (k + (i : Int)) % 3 == 0
theorem mkBl_len (k : Int) (n : Nat) : (mkBl k n).length = n := by simp [mkBl]
theorem mkBl_at (k : Int) {n i : Nat} (h : i < n) : (mkBl k n)[i]? = some ((k + (i : Int)) % 3 == 0) := by
  unfold mkBl
  rw [List.getElem?_map, List.getElem?_range h]; rfl
theorem mkBl_all {k : Int} {n : Nat} {ps : List Bool} (hl : ps.length = n) (h : ∀ i : Nat, i < n → ps[i]? = some ((k + (i : Int)) % 3 == 0)) : ps = mkBl k n := by
  apply List.ext_getElem?
  intro i
  by_cases hi : i < n
  · rw [h i hi, mkBl_at k hi]
  · rw [List.getElem?_eq_none (by omega), List.getElem?_eq_none (by rw [mkBl_len]; omega)]
/-- Behind markBoolS: the row holds the marks; nothing else has changed. -/
def WroteB (w : World) (base n cap : Nat) (a : Option Addr) (k : Int) (f : Ending) (w' : World) : Prop := f = .returned (.int .i64 (k + (n : Int))) ∧ OwnB w' base (.slice a n cap) (mkBl k n) ∧ w'.heap.size = w.heap.size ∧ Below base w w' ∧ ∀ j, (Value.slice a n cap).ownBlock ≠ some j → w'.heap[j]? = w.heap[j]?
/-- The state of the marking loop. -/
def MkBL (w : World) (base n cap : Nat) (a : Option Addr) (k0 : Int) (c i : Value) (wr : World) : Prop := ∃ (k : Nat) (ps : List Bool), k ≤ n ∧ i = .int .i64 k ∧ c = .int .i64 (k0 + (k : Int)) ∧ OwnB wr base (.slice a n cap) ps ∧ ps.length = n ∧ (∀ i : Nat, i < k → ps[i]? = some ((k0 + (i : Int)) % 3 == 0)) ∧ wr.heap.size = w.heap.size ∧ Below base w wr ∧ ∀ j, (Value.slice a n cap).ownBlock ≠ some j → wr.heap[j]? = w.heap[j]?

set_option maxRecDepth 100000 in
set_option maxHeartbeats 2000000 in
theorem markBS_one (base n cap : Nat) (a : Option Addr) (k0 : Int) (ps : List Bool) (w : World) (h : OwnB w base (.slice a n cap) ps) (hpl : ps.length = n) (hn : n ≤ 1048576) (h0 : 0 ≤ k0) (h1 : k0 ≤ 1000000000) :
    Calls Tryd.prog 56 #[.slice a n cap, .int .i64 k0] w (WroteB w base n cap a k0) := by
  have HL : Hid (MkBL w base n cap a k0 (.int .i64 k0) (.int .i64 0) w) := ⟨0, ps, Nat.zero_le _, rfl, by simp, h, hpl, fun i hi => absurd hi (Nat.not_lt_zero _), rfl, Below.refl _ _, fun _ _ => rfl⟩
  clear h hpl
  go_enter Tryd.func56, Tryd.ntmps56
  go_wp2_with fail
  go_loopw [1, 5] (fun c i wr => MkBL w base n cap a k0 c i wr) (fun _ i _ => n - (intOf i).toNat)
  case atStart => exact HL.out
  case round =>
    obtain ⟨k, ps', hk, rfl, rfl, hrow, hlen, hdone, hsz, hbel, hst⟩ := hrel
    have HROW := Lib.hid hrow
    have HLEN := Lib.hid hlen
    have HD := Lib.hid hdone
    have HSZ := Lib.hid hsz
    have HBEL := Lib.hid hbel
    have HST := Lib.hid hst
    clear hrow hlen hdone hsz hbel hst HL
    by_cases hlt : k < n
    · have hro : wr.ownsRow base 4 1 (.slice a n cap) n (ps'.map Value.bool) := by have h1 := HROW.out; unfold OwnB at h1; rw [HLEN.out] at h1; exact h1
      obtain ⟨g, rfl, hg, cur, hblk, hcs⟩ : ∃ g, a = some ⟨g, 0, none⟩ ∧ base ≤ g ∧ ∃ cur, wr.heap[g]? = some (.cells cur 4 (0, 0)) ∧ n ≤ cur.size := by
        rcases hro.2 with ⟨e, e2⟩ | ⟨g, cap', cur, e, hb, hg, hn', hm, hc, ht⟩
        · cases e; omega
        · injection e with e1 e2 e3
          exact ⟨g, e1, hb, cur, hg, by omega⟩
      obtain ⟨u0, hu0⟩ := cell_ex hblk k (by omega)
      have f0 := frozen_at hblk k
      have hr6 := (hro.stored k (.bool ((k0 + (k : Int)) % 3 == 0))).1
      have HREL : Hid (MkBL w base n cap (some ⟨g, 0, none⟩) k0 (.int .i64 (k0 + (k : Int) + 1)) (.int .i64 ((k : Int) + 1)) (wr.setCell ⟨g, k, none⟩ (.bool ((k0 + (k : Int)) % 3 == 0)))) := by
        have hl6 : (ps'.set k ((k0 + (k : Int)) % 3 == 0)).length = n := by rw [List.length_set]; exact HLEN.out
        refine ⟨k + 1, _, hlt, by go_num, by go_num, ?_, hl6, ?_, by simpa [World.setCell] using HSZ.out, HBEL.out.setCell (p := ⟨g, k, none⟩) hg _, fun j hj => ?_⟩
        · unfold OwnB
          rw [hl6, List.map_set]
          exact hr6
        · intro i hi
          by_cases hik : i = k
          · subst hik
            rw [List.getElem?_set_self (by rw [HLEN.out]; exact hlt)]
          · rw [List.getElem?_set_ne (by omega)]
            exact HD.out i (by omega)
        · have hjg : j ≠ g := fun e => hj (by rw [e]; rfl)
          rw [Below.heap_setCell _ _ _ _ (by simpa using hjg)]
          exact HST.out j hj
      clear HROW hro hblk hr6 HBEL HST HD HSZ
      go_wp2_with fail
      go_roundw
      case rel => exact HREL.out
      case measure => simp [intOf]; omega
    · obtain rfl : k = n := by omega
      have HFIN : Hid (WroteB w base k cap a k0 (.returned (.int .i64 (k0 + (k : Int)))) wr) := ⟨rfl, by rw [← mkBl_all HLEN.out HD.out]; exact HROW.out, HSZ.out, HBEL.out, HST.out⟩
      clear HROW HD
      go_wp2_with fail
      go_ret
      exact HFIN.out

/-- heldBoolS: the list holds the marks. -/
def HeldB (n : Nat) (k : Int) (w : World) (f : Ending) (w' : World) : Prop := f = .returned (.int .i64 (k + (n : Int))) ∧ Below w.heap.size w w'

set_option maxHeartbeats 2000000 in
theorem heldBS_one (n cap : Nat) (a : Option Addr) (k0 : Int) (w : World) {D : Nat → Prop} (h : BAt w D (mkBl k0 n) a) (hn : n ≤ 1048576) (h0 : 0 ≤ k0) (h1 : k0 ≤ 1000000000) :
    Calls Tryd.prog 57 #[.slice a n cap, .int .i64 k0] w (HeldB n k0 w) := by
  have HC : Hid (∀ k, k < n → ∃ b o, a = some ⟨b, o, none⟩ ∧ w.cell? ⟨b, o + k, none⟩ = some (.bool ((k0 + (k : Int)) % 3 == 0))) := fun k hk => by
    obtain ⟨b, o, ha, _, c0⟩ := h.2 k _ (mkBl_at k0 hk)
    exact ⟨b, o, ha, c0⟩
  clear h
  go_enter Tryd.func57, Tryd.ntmps57
  go_wp2
  go_loopw [1, 5] (fun c i wr => ∃ k m : Nat, k ≤ n ∧ i = .int .i64 k ∧ c = .int .i64 (k0 + (k : Int)) ∧ wr = w.drewN m) (fun _ i _ => n - (intOf i).toNat)
  case atStart => exact ⟨0, 0, Nat.zero_le _, rfl, by simp, rfl⟩
  case round =>
    obtain ⟨k, m, hk, rfl, rfl, rfl⟩ := hrel
    by_cases hlt : k < n
    · obtain ⟨b, o, rfl, c0⟩ := HC.out k hlt
      clear HC
      go_wp2
      go_roundw
      case rel => exact ⟨k + 1, m, by omega, by go_num, by go_num, rfl⟩
      case measure => simp [intOf]; omega
    · obtain rfl : k = n := by omega
      go_wp2
      go_ret
      exact ⟨rfl, ⟨rfl, rfl, rfl, Nat.le_refl _, fun _ _ => rfl⟩⟩

end Go.Proofs.YtbifbmpflhdijaaDoor

namespace Go.Proofs.YtbifbmpflhdijaaDoor
open Go.RowKit
set_option linter.unusedVariables false

/-- What the fields of each operation are: 0 no register, 1 read, 2 written, 3 both. -/
def kkL : List (List Nat) := [[], [2, 0], [2, 0], [0, 1], [2, 0, 1], [0, 1, 1], [2, 0, 1, 1], [2, 1, 1, 1], [0], [1, 0], [3, 0], [1], [], []]
def kkAt (op j : Nat) : Nat := (kkL.getD op []).getD j 0
def kkC (k : Nat) : UInt8 := if k = 1 then 49 else if k = 2 then 50 else if k = 3 then 51 else 48
def kbB (op : Nat) : ByteArray := ⟨((kkL.getD op []).map kkC).toArray⟩
theorem kbB_size (op : Nat) : (kbB op).size = (kkL.getD op []).length := by show ((kkL.getD op []).map kkC).toArray.size = _; simp
theorem kbB_at (op j : Nat) (h : j < (kbB op).size) : (kbB op)[j] = kkC (kkAt op j) := by
  have hj : j < (kkL.getD op []).length := by rw [← kbB_size]; exact h
  show ((kkL.getD op []).map kkC).toArray[j]'(by simpa using hj) = _
  have e : kkAt op j = (kkL.getD op [])[j] := by
    unfold kkAt
    rw [List.getD_eq_getElem?_getD (l := kkL.getD op []), List.getElem?_eq_getElem hj]; rfl
  rw [e]
  simp
theorem kkL_len (op : Nat) : (kkL.getD op []).length ≤ 4 := by
  have hall : ∀ l ∈ kkL, l.length ≤ 4 := by decide
  exact getD_all (fun l : List Nat => l.length ≤ 4) kkL [] (by simp) hall op
theorem kkAt_le (op j : Nat) : kkAt op j ≤ 3 := by
  have hall : ∀ l ∈ kkL, ∀ x ∈ l, x ≤ 3 := by decide
  exact getD_all (fun x => x ≤ 3) _ 0 (by omega) (getD_all (fun l => ∀ x ∈ l, x ≤ 3) kkL [] (by simp) hall op) j

set_option maxHeartbeats 4000000 in
theorem l12Kind_one (op : Nat) (h : op ≤ 13) (w : World) :
    Calls Tryd.prog 76 #[.int .i64 op] w fun e w' => e = .returned (.string (kbB op)) ∧ Below w.heap.size w w' := by
  obtain rfl | rfl | rfl | rfl | rfl | rfl | rfl | rfl | rfl | rfl | rfl | rfl | rfl | rfl : op = 0 ∨ op = 1 ∨ op = 2 ∨ op = 3 ∨ op = 4 ∨ op = 5 ∨ op = 6 ∨ op = 7 ∨ op = 8 ∨ op = 9 ∨ op = 10 ∨ op = 11 ∨ op = 12 ∨ op = 13 := by omega
  all_goals
    go_enter Tryd.func76, Tryd.ntmps76
    go_wp2_with fail
    go_ret
    exact ⟨rfl, (Below.refl _ _).alloc (Nat.le_refl _) _⟩

/-- The masks behind the first j fields. -/
def rK (x : Ins) : Nat → Nat
  | 0 => 0
  | j + 1 => if kkAt x.op.toNat j = 1 ∨ kkAt x.op.toNat j = 3 then sb (rK x j) (x.part j).toNat true else rK x j
def wK (x : Ins) : Nat → Nat
  | 0 => 0
  | j + 1 => if kkAt x.op.toNat j = 2 ∨ kkAt x.op.toNat j = 3 then sb (wK x j) (x.part j).toNat true else wK x j
theorem op_cases {x : Ins} (h1 : 1 ≤ x.op) (h2 : x.op ≤ 13) : x.op = 1 ∨ x.op = 2 ∨ x.op = 3 ∨ x.op = 4 ∨ x.op = 5 ∨ x.op = 6 ∨ x.op = 7 ∨ x.op = 8 ∨ x.op = 9 ∨ x.op = 10 ∨ x.op = 11 ∨ x.op = 12 ∨ x.op = 13 := by omega
theorem rK_all {x : Ins} (h1 : 1 ≤ x.op) (h2 : x.op ≤ 13) : rK x (kkL.getD x.op.toNat []).length = rdM x := by
  rcases op_cases h1 h2 with e | e | e | e | e | e | e | e | e | e | e | e | e <;>
    simp [e, rK, rdM, rdL, kkAt, kkL, setM, Ins.part]
theorem wK_all {x : Ins} (h1 : 1 ≤ x.op) (h2 : x.op ≤ 13) : wK x (kkL.getD x.op.toNat []).length = wrM x := by
  rcases op_cases h1 h2 with e | e | e | e | e | e | e | e | e | e | e | e | e <;>
    simp [e, wK, wrM, wrL, kkAt, kkL, setM, Ins.part]
theorem wrA_of {x : Ins} (h : x.op = 1 ∨ x.op = 11 ∨ x.op = 2 ∨ x.op = 4 ∨ x.op = 6 ∨ x.op = 7) : wrA x = true := by
  unfold wrA
  rcases h with e | e | e | e | e | e <;> rw [e] <;> rfl
theorem part_reg {nv na : Nat} {x : Ins} (h : InsT nv na x) (h1 : 1 ≤ x.op) (h2 : x.op ≤ 13) (j : Nat) (hk : kkAt x.op.toNat j ≠ 0) : 0 ≤ x.part j ∧ x.part j < 14 := by
  have hj : j < 4 := Classical.byContradiction fun hn => hk (by
    unfold kkAt
    rw [List.getD_eq_getElem?_getD (l := kkL.getD x.op.toNat []), List.getElem?_eq_none (by have := kkL_len x.op.toNat; omega)]; rfl)
  have ra := h.ra
  have rb := h.rb
  have rc := h.rc
  have rd := h.rd
  rcases op_cases h1 h2 with e | e | e | e | e | e | e | e | e | e | e | e | e
  all_goals
    have wa := @wrA_of x
    match j, hj with
    | 0, _ | 1, _ | 2, _ | 3, _ =>
      simp [e, kkAt, kkL] at hk <;> simp only [Ins.part] <;> first
        | exact ra (.inl (wa (by omega)))
        | exact ra (by omega)
        | exact rb (by omega)
        | exact rc (by omega)
        | exact rd (by omega)
theorem rK_lt {nv na : Nat} {x : Ins} (h : InsT nv na x) (h1 : 1 ≤ x.op) (h2 : x.op ≤ 13) : ∀ j, rK x j < 16384
  | 0 => by simp [rK]
  | j + 1 => by
    unfold rK
    split
    · rename_i e
      have := part_reg h h1 h2 j (by omega)
      exact sb_lt14 (rK_lt h h1 h2 j) (by omega)
    · exact rK_lt h h1 h2 j
theorem wK_lt {nv na : Nat} {x : Ins} (h : InsT nv na x) (h1 : 1 ≤ x.op) (h2 : x.op ≤ 13) : ∀ j, wK x j < 16384
  | 0 => by simp [wK]
  | j + 1 => by
    unfold wK
    split
    · rename_i e
      have := part_reg h h1 h2 j (by omega)
      exact sb_lt14 (wK_lt h h1 h2 j) (by omega)
    · exact wK_lt h h1 h2 j
theorem flB_set {m r : Nat} {v : Bool} (hm : m < 16384) (hr : r < 14) : (flB m).set r v = flB (sb m r v) := by
  refine flB_ext (by rw [List.length_set, flB_len]) fun i hi => ?_
  by_cases e : i = r
  · subst e
    rw [List.getElem?_set_self (by rw [flB_len]; exact hr), sb_bit (by omega) (by omega), if_pos rfl]
  · rw [List.getElem?_set_ne (fun e' => e e'.symm), flB_at m hi, sb_bit (by omega) (by omega), if_neg e]
theorem flB_0 : flB 0 = List.replicate 14 false := by decide

/-- A row of 14 flags of one's own at the block b. -/
def FlO (w : World) (b m : Nat) : Prop := w.ownsRow b 4 1 (.slice (some ⟨b, 0, none⟩) 14 14) 14 ((flB m).map Value.bool)
theorem FlO.get {w : World} {b m : Nat} (h : FlO w b m) {r : Nat} (hr : r < 14) : w.cell? ⟨b, r, none⟩ = some (.bool (m.testBit r)) := by
  rw [World.ownsRow.cellAt h r hr, List.getElem?_map, flB_at m hr]; rfl
theorem FlO.set {w : World} {b m : Nat} (h : FlO w b m) (hm : m < 16384) {r : Nat} (hr : r < 14) : FlO (w.setCell ⟨b, r, none⟩ (.bool true)) b (sb m r true) := by
  have h1 := (World.ownsRow.stored h r (.bool true)).1
  rw [← List.map_set, flB_set hm hr] at h1
  exact h1
theorem FlO.far {w w' : World} {b m : Nat} (h : FlO w b m) (hs : b < w.heap.size → w'.heap[b]? = w.heap[b]?) : FlO w' b m := by
  refine ⟨h.1, ?_⟩
  rcases h.2 with ⟨e, _⟩ | ⟨g, cp, cur, e, e2, e3, e4⟩
  · cases e
  · injection e with e5 e6 e7
    injection e5 with e5
    injection e5 with e5
    subst e5
    exact .inr ⟨_, cp, cur, by rw [e7], e2, (hs (Array.getElem?_eq_some_iff.1 e3).1).trans e3, e4⟩
theorem FlO.lt {w : World} {b m : Nat} (h : FlO w b m) : b < w.heap.size := (World.ownsRow.lt h b rfl).2
theorem FlO.bat {w : World} {b m : Nat} (h : FlO w b m) : BAt w (fun j => b ≤ j ∧ j < w.heap.size) (flB m) (some ⟨b, 0, none⟩) := by
  have h1 : OwnB w b (.slice (some ⟨b, 0, none⟩) 14 14) (flB m) := by unfold OwnB; rw [flB_len]; exact h
  exact h1.bat.2.2.2

/-- Two new rows: the registers that are read, and those that are written. -/
def RegN (x : Ins) (w : World) (e : Ending) (w' : World) : Prop := ∃ a b, e = .returned (.tuple #[.slice (some ⟨a, 0, none⟩) 14 14, .slice (some ⟨b, 0, none⟩) 14 14]) ∧ FlO w' a (rdM x) ∧ FlO w' b (wrM x) ∧ w.heap.size ≤ a ∧ w.heap.size ≤ b ∧ Below w.heap.size w w'

/-- The state of the loop. -/
def RgL (x : Ins) (W0 : World) (P R pb sl : Nat) (i : Value) (wr : World) : Prop := ∃ j : Nat, j ≤ sl ∧ i = .int .i64 (j : Int) ∧ FlO wr P (rK x j) ∧ FlO wr R (wK x j) ∧ RowP wr pb x ∧ Below P W0 wr

set_option maxRecDepth 100000 in
set_option maxHeartbeats 8000000 in
/-- **spec.l12Regs.** -/
theorem l12Regs_one {nv na : Nat} (x : Ins) (w : World) (hx : InsT nv na x) (h1 : 1 ≤ x.op) (h2 : x.op ≤ 13) :
    Calls Tryd.prog 71 #[aggI x] w (RegN x w) := by
  obtain ⟨b0, hbi, hbz0, hbz1, hbz2⟩ := info_parts Tryd.infoB
  obtain ⟨W, hW⟩ : ∃ W, w.alloc (.cells (arrI x) 50) = W := ⟨_, rfl⟩
  have hB : Below w.heap.size w W := by rw [← hW]; exact (Below.refl _ w).alloc (Nat.le_refl _) _
  have hbx : W.heap[w.heap.size]? = some (.cells (arrI x) 50 (0, 0)) := by rw [← hW]; exact heap_alloc_new w _
  have HX := Lib.hid hx
  have H1 := Lib.hid h1
  have H2 := Lib.hid h2
  have HW := Lib.hid hW
  have HB := Lib.hid hB
  have HBX := Lib.hid hbx
  clear hx hW hB hbx
  unfold arrI at HW
  obtain ⟨op, hop⟩ : ∃ op : Nat, x.op = op := ⟨x.op.toNat, by omega⟩
  have HOP := Lib.hid hop
  have HOPN : Hid (x.op.toNat = op) := by show _ = _; omega
  have hop13 : op ≤ 13 := by omega
  have HB0 : Hid (∀ v, Below W.heap.size W v → v.heap[w.heap.size]? = some (.cells (arrI x) 50 (0, 0))) := fun v hv => (hv.block _ (Array.getElem?_eq_some_iff.1 HBX.out).1).trans HBX.out
  clear h1 h2 hop
  go_enter Tryd.func71, Tryd.ntmps71
  go_upto_region 2 with (first
    | rw [HW.out]
    | (at_make
       refine wpList_make_full _ rfl _ _ 47 rfl W.heap.size 4 b0 (.bool false) 1 Tryd.underlying47 hbi hbz0 hbz1 .i64 .i64 14 14 14 rfl rfl rfl rfl (by rw [hbz2]; omega) (by unfold maxLen; omega) (Nat.le_refl _) ?_
       intro w1 hown1 hgrow1
       rw [falses, ← flB_0] at hown1)
    | fail)
  have HF1 : Hid (FlO w1 W.heap.size 0) := hown1
  have HB1 : Hid (Below W.heap.size W w1) := (Below.refl _ W).grown hgrow1 (Nat.le_refl _) (fun k e => (by cases e))
  clear hown1 hgrow1
  go_upto_region 3 with (first
    | (at_make
       refine wpList_make_full _ rfl _ _ 47 rfl w1.heap.size 4 b0 (.bool false) 1 Tryd.underlying47 hbi hbz0 hbz1 .i64 .i64 14 14 14 rfl rfl rfl rfl (by rw [hbz2]; omega) (by unfold maxLen; omega) (Nat.le_refl _) ?_
       intro w2 hown2 hgrow2
       rw [falses, ← flB_0] at hown2)
    | fail)
  have HF2 : Hid (FlO w2 w1.heap.size 0) := hown2
  have hb12 : Below w1.heap.size w1 w2 := (Below.refl _ w1).grown hgrow2 (Nat.le_refl _) (fun k e => (by cases e))
  have HF1' : Hid (FlO w2 W.heap.size 0) := HF1.out.far fun h => hb12.block _ h
  have hPR : W.heap.size < w1.heap.size := HF1.out.lt
  have HB2 : Hid (Below W.heap.size W w2) := HB1.out.trans (hb12.mono HB1.out.size)
  have HPR := Lib.hid hPR
  have HR2 : Hid (w1.heap.size < w2.heap.size) := HF2.out.lt
  obtain ⟨P, hP⟩ : ∃ P, W.heap.size = P := ⟨_, rfl⟩
  obtain ⟨R, hR⟩ : ∃ R, w1.heap.size = R := ⟨_, rfl⟩
  have HWP := Lib.hid hP
  rw [hP] at HF1' HPR ⊢
  rw [hR] at HF2 HPR HR2 ⊢
  have hi2 := HB0.out w2 HB2.out
  have x0 : w2.cell? ⟨w.heap.size, 0, none⟩ = some (.int .i64 (op : Int)) := by rw [cell_at hi2, ← HOP.out]; rfl
  clear hown2 hgrow2 hb12 HF1 HB1 hPR hP hR hi2
  go_wp2_with fail
  refine (l12Kind_one op hop13 w2).mono ?_
  rintro e w3 ⟨rfl, hb3⟩
  obtain ⟨s, hs⟩ : ∃ s, kbB op = s := ⟨_, rfl⟩
  have HS := Lib.hid hs
  have HB3 : Hid (Below W.heap.size W w3) := HB2.out.trans (hb3.mono HB2.out.size)
  have HF13 : Hid (FlO w3 P 0) := HF1'.out.far fun h => hb3.block _ h
  have HF23 : Hid (FlO w3 R 0) := HF2.out.far fun h => hb3.block _ h
  have hi3 := HB0.out w3 HB3.out
  have y0 : w3.cell? ⟨w.heap.size, 0, none⟩ = some (.int .i64 x.op) := by rw [cell_at hi3]; rfl
  have y1 : w3.cell? ⟨w.heap.size, 1, none⟩ = some (.int .i64 x.fa) := by rw [cell_at hi3]; rfl
  have y2 : w3.cell? ⟨w.heap.size, 2, none⟩ = some (.int .i64 x.fb) := by rw [cell_at hi3]; rfl
  have y3 : w3.cell? ⟨w.heap.size, 3, none⟩ = some (.int .i64 x.fc) := by rw [cell_at hi3]; rfl
  have y4 : w3.cell? ⟨w.heap.size, 4, none⟩ = some (.int .i64 x.fd) := by rw [cell_at hi3]; rfl
  have HR3 : Hid (R < w3.heap.size) := HF23.out.lt
  rw [hs]
  clear hs hb3 hi3 x0 HF1' HF2 HB2 HR2
  go_wp2_with fail
  refine (l6Parts_one x w3).mono ?_
  rintro e w4 ⟨pb, rfl, hrp, hpb, hb4⟩
  have HB4 : Hid (Below W.heap.size W w4) := HB3.out.trans (hb4.mono HB3.out.size)
  have HPB : Hid (R < pb) := by have := HR3.out; show R < pb; omega
  obtain ⟨sl, hsl⟩ : ∃ sl, s.size = sl := ⟨_, rfl⟩
  have HSL := Lib.hid hsl
  have HLEN : Hid ((kkL.getD op []).length = sl) := by rw [← hsl, ← HS.out]; exact (kbB_size op).symm
  have hsl4 : sl ≤ 4 := by rw [← HLEN.out]; exact kkL_len op
  have HL0 : Hid (RgL x w4 P R pb sl (.int .i64 0) w4) := ⟨0, Nat.zero_le _, rfl, HF13.out.far fun h => hb4.block _ h, HF23.out.far fun h => hb4.block _ h, hrp, Below.refl _ _⟩
  clear hrp hpb hb4 y0 y1 y2 y3 y4 HF13 HF23 HB3 HR3
  go_wp2_with fail
  go_loopw [8] (fun i wr => RgL x w4 P R pb sl i wr) (fun i _ => sl - (intOf i).toNat)
  case atStart => exact HL0.out
  case round =>
    obtain ⟨j, hj, rfl, hf1, hf2, hrp, hbr⟩ := hrel
    have HF1 := Lib.hid hf1
    have HF2 := Lib.hid hf2
    have HRP := Lib.hid hrp
    have HBR := Lib.hid hbr
    clear hf1 hf2 hrp hbr HL0
    by_cases hlt : j < sl
    · have hk : j < s.size := by rw [hsl]; exact hlt
      have hsj : s[j] = kkC (kkAt op j) := by
        have e := HS.out
        subst e
        exact kbB_at op j hk
      have hge1 : decide ((s.size : Int) ≤ (j : Int)) = false := by simp; omega
      have hge2 : decide (s.size ≤ j) = false := by simp; omega
      have hkk := kkAt_le op j
      obtain ⟨kk, hkkk⟩ : ∃ kk, kkAt op j = kk := ⟨_, rfl⟩
      rw [hkkk] at hsj hkk
      have HKK : Hid (kkAt x.op.toNat j = kk) := by rw [HOPN.out]; exact hkkk
      have c0 := HRP.out.at j (by omega)
      obtain ⟨z, hz⟩ : ∃ z, x.part j = z := ⟨_, rfl⟩
      rw [hz] at c0
      have HZ := Lib.hid hz
      clear hkkk hz
      have hc : kk = 0 ∨ kk = 1 ∨ kk = 2 ∨ kk = 3 := by omega
      rcases hc with rfl | rfl | rfl | rfl
      · have hsn : (s[j].toNat : Int) = 48 := by rw [hsj]; rfl
        have HREL : Hid (RgL x w4 P R pb sl (.int .i64 ((j : Int) + 1)) wr) := by
          refine ⟨j + 1, hlt, by go_num, ?_, ?_, HRP.out, HBR.out⟩
          · have e : rK x (j + 1) = rK x j := by
              show (if kkAt x.op.toNat j = 1 ∨ kkAt x.op.toNat j = 3 then _ else _) = _
              rw [HKK.out]; rfl
            rw [e]; exact HF1.out
          · have e : wK x (j + 1) = wK x j := by
              show (if kkAt x.op.toNat j = 2 ∨ kkAt x.op.toNat j = 3 then _ else _) = _
              rw [HKK.out]; rfl
            rw [e]; exact HF2.out
        clear hsj
        go_wp2_with fail
        go_roundw
        case rel => exact HREL.out
        case measure => simp [intOf]; omega
      · have hsn : (s[j].toNat : Int) = 49 := by rw [hsj]; rfl
        have hpr := part_reg HX.out H1.out H2.out j (by rw [HKK.out]; omega)
        rw [HZ.out] at hpr
        obtain ⟨q, rfl⟩ : ∃ q : Nat, z = q := ⟨z.toNat, by omega⟩
        have hq14 : q < 14 := by omega
        have hqI : (q : Int) < 14 := by omega
        have HRKL := Lib.hid (rK_lt HX.out H1.out H2.out j)
        have HWKL := Lib.hid (wK_lt HX.out H1.out H2.out j)
        have hPR := HPR.out
        have hRb := HPB.out
        have p0 := HF1.out.get hq14
        have pf := World.ownsRow.frozenAt HF1.out q
        have HW1 : Hid (∀ g, g ≠ P → (wr.setCell ⟨P, q, none⟩ (.bool true)).heap[g]? = wr.heap[g]?) := fun g hg => Below.heap_setCell _ _ _ _ (by simpa using hg)
        have HFA : Hid (FlO (wr.setCell ⟨P, q, none⟩ (.bool true)) P (sb (rK x j) q true)) := HF1.out.set HRKL.out hq14
        have HFB : Hid (FlO (wr.setCell ⟨P, q, none⟩ (.bool true)) R (wK x j)) := HF2.out.far fun _ => HW1.out R (by omega)
        have HRQ : Hid (RowP (wr.setCell ⟨P, q, none⟩ (.bool true)) pb x) := (HW1.out pb (by omega)).trans HRP.out
        have HBQ : Hid (Below P w4 (wr.setCell ⟨P, q, none⟩ (.bool true))) := HBR.out.setCell (p := ⟨P, q, none⟩) (Nat.le_refl _) _
        have c1 := HRQ.out.at j (by omega)
        rw [HZ.out] at c1
        have HREL : Hid (RgL x w4 P R pb sl (.int .i64 ((j : Int) + 1)) (wr.setCell ⟨P, q, none⟩ (.bool true))) := by
          refine ⟨j + 1, hlt, by go_num, ?_, ?_, HRQ.out, HBQ.out⟩
          · have e : rK x (j + 1) = sb (rK x j) (x.part j).toNat true := by
              show (if kkAt x.op.toNat j = 1 ∨ kkAt x.op.toNat j = 3 then _ else _) = _
              rw [HKK.out]; rfl
            rw [e, HZ.out]; exact HFA.out
          · have e : wK x (j + 1) = wK x j := by
              show (if kkAt x.op.toNat j = 2 ∨ kkAt x.op.toNat j = 3 then _ else _) = _
              rw [HKK.out]; rfl
            rw [e]; exact HFB.out
        clear hsj hpr
        go_wp2_with fail
        go_roundw
        case rel => exact HREL.out
        case measure => simp [intOf]; omega
      · have hsn : (s[j].toNat : Int) = 50 := by rw [hsj]; rfl
        have hpr := part_reg HX.out H1.out H2.out j (by rw [HKK.out]; omega)
        rw [HZ.out] at hpr
        obtain ⟨q, rfl⟩ : ∃ q : Nat, z = q := ⟨z.toNat, by omega⟩
        have hq14 : q < 14 := by omega
        have hqI : (q : Int) < 14 := by omega
        have HRKL := Lib.hid (rK_lt HX.out H1.out H2.out j)
        have HWKL := Lib.hid (wK_lt HX.out H1.out H2.out j)
        have hPR := HPR.out
        have hRb := HPB.out
        have HFA : Hid (FlO wr P (rK x j)) := HF1
        have HFB : Hid (FlO wr R (wK x j)) := HF2
        have HRQ : Hid (RowP wr pb x) := HRP
        have HBQ : Hid (Below P w4 wr) := HBR
        have r0 := HFB.out.get hq14
        have rf := World.ownsRow.frozenAt HFB.out q
        have HW2 : Hid (∀ g, g ≠ R → (wr.setCell ⟨R, q, none⟩ (.bool true)).heap[g]? = wr.heap[g]?) := fun g hg => Below.heap_setCell _ _ _ _ (by simpa using hg)
        have HFA2 : Hid (FlO (wr.setCell ⟨R, q, none⟩ (.bool true)) P _) := HFA.out.far fun _ => HW2.out P (by omega)
        have HFB2 : Hid (FlO (wr.setCell ⟨R, q, none⟩ (.bool true)) R (sb (wK x j) q true)) := HFB.out.set HWKL.out hq14
        have HRQ2 : Hid (RowP (wr.setCell ⟨R, q, none⟩ (.bool true)) pb x) := (HW2.out pb (by omega)).trans HRQ.out
        have HBQ2 : Hid (Below P w4 (wr.setCell ⟨R, q, none⟩ (.bool true))) := HBQ.out.setCell (p := ⟨R, q, none⟩) (by show P ≤ R; omega) _
        have HREL : Hid (RgL x w4 P R pb sl (.int .i64 ((j : Int) + 1)) (wr.setCell ⟨R, q, none⟩ (.bool true))) := by
          refine ⟨j + 1, hlt, by go_num, ?_, ?_, HRQ2.out, HBQ2.out⟩
          · have e : rK x (j + 1) = rK x j := by
              show (if kkAt x.op.toNat j = 1 ∨ kkAt x.op.toNat j = 3 then _ else _) = _
              rw [HKK.out]; rfl
            rw [e]; exact HFA2.out
          · have e : wK x (j + 1) = sb (wK x j) (x.part j).toNat true := by
              show (if kkAt x.op.toNat j = 2 ∨ kkAt x.op.toNat j = 3 then _ else _) = _
              rw [HKK.out]; rfl
            rw [e, HZ.out]; exact HFB2.out
        clear hsj hpr
        go_wp2_with fail
        go_roundw
        case rel => exact HREL.out
        case measure => simp [intOf]; omega
      · have hsn : (s[j].toNat : Int) = 51 := by rw [hsj]; rfl
        have hpr := part_reg HX.out H1.out H2.out j (by rw [HKK.out]; omega)
        rw [HZ.out] at hpr
        obtain ⟨q, rfl⟩ : ∃ q : Nat, z = q := ⟨z.toNat, by omega⟩
        have hq14 : q < 14 := by omega
        have hqI : (q : Int) < 14 := by omega
        have HRKL := Lib.hid (rK_lt HX.out H1.out H2.out j)
        have HWKL := Lib.hid (wK_lt HX.out H1.out H2.out j)
        have hPR := HPR.out
        have hRb := HPB.out
        have p0 := HF1.out.get hq14
        have pf := World.ownsRow.frozenAt HF1.out q
        have HW1 : Hid (∀ g, g ≠ P → (wr.setCell ⟨P, q, none⟩ (.bool true)).heap[g]? = wr.heap[g]?) := fun g hg => Below.heap_setCell _ _ _ _ (by simpa using hg)
        have HFA : Hid (FlO (wr.setCell ⟨P, q, none⟩ (.bool true)) P (sb (rK x j) q true)) := HF1.out.set HRKL.out hq14
        have HFB : Hid (FlO (wr.setCell ⟨P, q, none⟩ (.bool true)) R (wK x j)) := HF2.out.far fun _ => HW1.out R (by omega)
        have HRQ : Hid (RowP (wr.setCell ⟨P, q, none⟩ (.bool true)) pb x) := (HW1.out pb (by omega)).trans HRP.out
        have HBQ : Hid (Below P w4 (wr.setCell ⟨P, q, none⟩ (.bool true))) := HBR.out.setCell (p := ⟨P, q, none⟩) (Nat.le_refl _) _
        have c1 := HRQ.out.at j (by omega)
        rw [HZ.out] at c1
        have r0 := HFB.out.get hq14
        have rf := World.ownsRow.frozenAt HFB.out q
        have HW2 : Hid (∀ g, g ≠ R → ((wr.setCell ⟨P, q, none⟩ (.bool true)).setCell ⟨R, q, none⟩ (.bool true)).heap[g]? = (wr.setCell ⟨P, q, none⟩ (.bool true)).heap[g]?) := fun g hg => Below.heap_setCell _ _ _ _ (by simpa using hg)
        have HFA2 : Hid (FlO ((wr.setCell ⟨P, q, none⟩ (.bool true)).setCell ⟨R, q, none⟩ (.bool true)) P _) := HFA.out.far fun _ => HW2.out P (by omega)
        have HFB2 : Hid (FlO ((wr.setCell ⟨P, q, none⟩ (.bool true)).setCell ⟨R, q, none⟩ (.bool true)) R (sb (wK x j) q true)) := HFB.out.set HWKL.out hq14
        have HRQ2 : Hid (RowP ((wr.setCell ⟨P, q, none⟩ (.bool true)).setCell ⟨R, q, none⟩ (.bool true)) pb x) := (HW2.out pb (by omega)).trans HRQ.out
        have HBQ2 : Hid (Below P w4 ((wr.setCell ⟨P, q, none⟩ (.bool true)).setCell ⟨R, q, none⟩ (.bool true))) := HBQ.out.setCell (p := ⟨R, q, none⟩) (by show P ≤ R; omega) _
        have HREL : Hid (RgL x w4 P R pb sl (.int .i64 ((j : Int) + 1)) ((wr.setCell ⟨P, q, none⟩ (.bool true)).setCell ⟨R, q, none⟩ (.bool true))) := by
          refine ⟨j + 1, hlt, by go_num, ?_, ?_, HRQ2.out, HBQ2.out⟩
          · have e : rK x (j + 1) = sb (rK x j) (x.part j).toNat true := by
              show (if kkAt x.op.toNat j = 1 ∨ kkAt x.op.toNat j = 3 then _ else _) = _
              rw [HKK.out]; rfl
            rw [e, HZ.out]; exact HFA2.out
          · have e : wK x (j + 1) = sb (wK x j) (x.part j).toNat true := by
              show (if kkAt x.op.toNat j = 2 ∨ kkAt x.op.toNat j = 3 then _ else _) = _
              rw [HKK.out]; rfl
            rw [e, HZ.out]; exact HFB2.out
        clear hsj hpr
        go_wp2_with fail
        go_roundw
        case rel => exact HREL.out
        case measure => simp [intOf]; omega
    · obtain rfl : j = sl := by omega
      have HFIN : Hid (RegN x w (.returned (.tuple #[.slice (some ⟨P, 0, none⟩) 14 14, .slice (some ⟨R, 0, none⟩) 14 14])) wr) := by
        have hz := HB.out.size
        have hP := HWP.out
        have hPR := HPR.out
        have e1 := rK_all H1.out H2.out
        have e2 := wK_all H1.out H2.out
        rw [HOPN.out, HLEN.out] at e1 e2
        refine ⟨P, R, rfl, by rw [← e1]; exact HF1.out, by rw [← e2]; exact HF2.out, by omega, by omega, HB.out.trans ((HB4.out.mono hz).trans (HBR.out.mono (by omega)))⟩
      clear HF1 HF2 HRP HBR
      go_wp2_with fail
      go_ret2
      exact HFIN.out

end Go.Proofs.YtbifbmpflhdijaaDoor

namespace Go.Proofs.YtbifbmpflhdijaaDoor
open Go.RowKit
set_option linter.unusedVariables false

/-- A row of instructions with one written anew. -/
theorem flat5_setC {w : World} {base g n c k : Nat} {ys : List Ins} (hro : w.ownsRow base 50 5 (.slice (some ⟨g, 0, none⟩) n c) n (flatN ys)) (hl : ys.length = n) (hk : k < n) (y : Ins) :
    (((((w.setCell ⟨g, k * 5, none⟩ (.int .i64 y.op)).setCell ⟨g, k * 5 + 1, none⟩ (.int .i64 y.fa)).setCell ⟨g, k * 5 + 2, none⟩ (.int .i64 y.fb)).setCell ⟨g, k * 5 + 3, none⟩ (.int .i64 y.fc)).setCell ⟨g, k * 5 + 4, none⟩ (.int .i64 y.fd)).ownsRow base 50 5 (.slice (some ⟨g, 0, none⟩) n c) n (flatN (ys.set k y)) := by
  have h5 := (((((hro.stored (k * 5) (.int .i64 y.op)).1.stored (k * 5 + 1) (.int .i64 y.fa)).1.stored (k * 5 + 2) (.int .i64 y.fb)).1.stored (k * 5 + 3) (.int .i64 y.fc)).1.stored (k * 5 + 4) (.int .i64 y.fd)).1
  rw [flatN_set ys k y (by rw [hl]; exact hk)] at h5
  exact h5
theorem set5_othC (w : World) (g o j : Nat) (n0 n1 n2 n3 n4 : Value) (h : j ≠ g) : (((((w.setCell ⟨g, o, none⟩ n0).setCell ⟨g, o + 1, none⟩ n1).setCell ⟨g, o + 2, none⟩ n2).setCell ⟨g, o + 3, none⟩ n3).setCell ⟨g, o + 4, none⟩ n4).heap[j]? = w.heap[j]? := by
  rw [Below.heap_setCell _ _ _ _ (by simpa using h), Below.heap_setCell _ _ _ _ (by simpa using h), Below.heap_setCell _ _ _ _ (by simpa using h), Below.heap_setCell _ _ _ _ (by simpa using h), Below.heap_setCell _ _ _ _ (by simpa using h)]

theorem cell_othC {v X : World} {g o : Nat} {a : Value} (h1 : X.heap[g]? = v.heap[g]?) (hf : v.cell? ⟨g, o, none⟩ = some a) : X.cell? ⟨g, o, none⟩ = some a := (World.cell?_of_block (w := v) (a := ⟨g, o, none⟩) h1).trans hf
/-- A field is a register exactly where the model's kinds are not 0. -/
theorem kk_kd : ∀ (op : Fin 14) (j : Fin 4), (kkAt op.val j.val ≠ 0 ↔ kdAt op.val j.val = 1) := by decide
theorem kk_reg {op j : Nat} (h : op ≤ 13) (hj : j < 4) : kkAt op j ≠ 0 ↔ kdAt op j = 1 := kk_kd ⟨op, by omega⟩ ⟨j, hj⟩
theorem kk_out {op j : Nat} (h : (kkL.getD op []).length ≤ j) : kkAt op j = 0 := by
  unfold kkAt
  rw [List.getD_eq_getElem?_getD (l := kkL.getD op []), List.getElem?_eq_none h]; rfl
theorem stJ_len {op sl : Nat} (h : op ≤ 13) (hs : (kkL.getD op []).length = sl) (s : List Nat × Ins) : stJ op s sl = stJ op s 4 := by
  have h4 : sl ≤ 4 := by rw [← hs]; exact kkL_len op
  have := stJ_rest op s sl (4 - sl) fun k h1 h2 e => (kk_reg h (by omega)).2 e (kk_out (by omega))
  rw [show sl + (4 - sl) = 4 by omega] at this
  exact this.symm
/-- A box of four fields, one of them written. -/
theorem RowP.set {w : World} {b : Nat} {y : Ins} (h : RowP w b y) {j : Nat} (hj : j < 4) (v : Int) : RowP (w.setCell ⟨b, j, none⟩ (.int .i64 v)) b (setFd y v j) := by
  unfold RowP at h ⊢
  rw [heap_setCell_same _ _ _ _ _ _ h]
  obtain rfl | rfl | rfl | rfl : j = 0 ∨ j = 1 ∨ j = 2 ∨ j = 3 := by omega
  all_goals rfl
theorem RowP.far {w w' : World} {b : Nat} {y : Ins} (h : RowP w b y) (hb : w'.heap[b]? = w.heap[b]?) : RowP w' b y := hb.trans h
/-- The model's row of names. -/
def NamO (w : World) (base nb nc : Nat) (ns : List Nat) : Prop := w.ownsRow base 3 1 (.slice (some ⟨nb, 0, none⟩) 14 nc) 14 ((namR ns).map (Value.int .i64))
theorem NamO.far {w w' : World} {base nb nc : Nat} {ns : List Nat} (h : NamO w base nb nc ns) (hb : w'.heap[nb]? = w.heap[nb]?) : NamO w' base nb nc ns :=
  World.ownsRow.far5 h fun g hg _ => by cases hg; exact hb
theorem NamO.get {w : World} {base nb nc : Nat} {ns : List Nat} (h : NamO w base nb nc ns) {r : Nat} (hr : r < 14) : w.cell? ⟨nb, r, none⟩ = some (.int .i64 (if r ∈ ns then ((ns.idxOf r : Nat) : Int) else -1)) := by
  have h1 := World.ownsRow.cellAt h r (by omega)
  rw [List.getElem?_map, namR_at hr] at h1
  exact h1
theorem NamO.put {w : World} {base nb nc : Nat} {ns : List Nat} (h : NamO w base nb nc ns) {r : Nat} (hr : r < 14) (hm : r ∉ ns) : NamO (w.setCell ⟨nb, r, none⟩ (.int .i64 ((ns.length : Nat) : Int))) base nb nc (ns ++ [r]) := by
  have h1 := (World.ownsRow.stored h r (.int .i64 ((ns.length : Nat) : Int))).1
  rw [← List.map_set, namR_set hr hm] at h1
  exact h1
theorem NamO.blk {w : World} {base nb nc : Nat} {ns : List Nat} (h : NamO w base nb nc ns) : base ≤ nb ∧ nb < w.heap.size := World.ownsRow.lt h nb rfl

/-- The state of the loop over the instructions. -/
def CsL (m : Cd) (k' : CK) (nb nc base BL ob : Nat) (W : World) (nx i : Value) (wr : World) : Prop := ∃ j : Nat, j ≤ m.list.length ∧ i = .int .i64 (j : Int) ∧ nx = .int .i64 (((cmpS m.list j).1.length : Nat) : Int) ∧ OwnC wr BL ⟨m.vars, m.arrs, (cmpS m.list j).2⟩ k' ∧ BoxC wr ob m k' ∧ NamO wr base nb nc (cmpS m.list j).1 ∧ Below W.heap.size W wr
/-- The state of the loop over an instruction's fields. -/
def CsK (op : Nat) (s0 : List Nat × Ins) (nb nc base pb sl : Nat) (W V : World) (nx i : Value) (wr : World) : Prop := ∃ q : Nat, q ≤ sl ∧ i = .int .i64 (q : Int) ∧ nx = .int .i64 (((stJ op s0 q).1.length : Nat) : Int) ∧ NamO wr base nb nc (stJ op s0 q).1 ∧ RowP wr pb (stJ op s0 q).2 ∧ Stays (fun t => t ≠ nb ∧ t ≠ pb) V wr ∧ Below W.heap.size W wr

set_option maxRecDepth 100000 in
set_option maxHeartbeats 16000000 in
/-- **loop.example/constanttime/spec.CompactRegs.** -/
theorem sCm_one (m : Cd) (k : CK) (w : World) (h : CL w m k) (hs : CSm m) :
    Calls Tryd.prog 33 #[aggC m k] w (PassN cmpL m w) := by
  obtain ⟨W, hW⟩ : ∃ W, (w.alloc (.cells (arrC m k) 29)).alloc (.cells #[.slice none 0 0, .slice none 0 0, .slice none 0 0] 29) = W := ⟨_, rfl⟩
  have hB : Below w.heap.size w W := by rw [← hW]; exact ((Below.refl _ w).alloc (Nat.le_refl _) _).alloc (by simp) _
  have hX : BoxC W w.heap.size m k := by rw [← hW]; exact (BoxC.new w m k _).later (Below.heap_alloc _ _ _ (by simp))
  have hE : W.heap[w.heap.size + 1]? = some (.cells #[.slice none 0 0, .slice none 0 0, .slice none 0 0] 29 (0, 0)) := by
    have e1 := heap_alloc_new (w.alloc (.cells (arrC m k) 29)) (.cells #[.slice none 0 0, .slice none 0 0, .slice none 0 0] 29)
    rw [World.size_alloc] at e1
    rw [← hW]; exact e1
  have hlw : w.heap.size + 1 < W.heap.size := (Array.getElem?_eq_some_iff.1 hE).1
  have HS : Hid (∀ v, Below W.heap.size W v → (v.cell? ⟨w.heap.size, 0, none⟩ = some (.slice k.va m.vars.length k.vc) ∧ v.cell? ⟨w.heap.size, 1, none⟩ = some (.slice k.aa m.arrs.length k.ac) ∧ v.cell? ⟨w.heap.size, 2, none⟩ = some (.slice k.la m.list.length k.lc))) := fun v hv => by
    have b := hX.below hv hX.lt
    exact ⟨b.c0, b.c1, b.c2⟩
  have HE : Hid (∀ v, Below W.heap.size W v → v.heap[w.heap.size + 1]? = some (.cells #[.slice none 0 0, .slice none 0 0, .slice none 0 0] 29 (0, 0))) := fun v hv => (hv.block _ hlw).trans hE
  have HV := Lib.hid (sCV_one m k W (h.below hB))
  have HCL : Hid (∀ v, Below W.heap.size W v → CL v m k) := fun v hv => (h.below hB).below hv
  have HX : Hid (∀ v, Below W.heap.size W v → BoxC v w.heap.size m k) := fun v hv => hX.below hv hX.lt
  have HSM := Lib.hid hs
  have HCW := Lib.hid (h.below hB)
  have HB := Lib.hid hB
  have HW := Lib.hid hW
  unfold arrC at HW
  obtain ⟨x0, x1, x2⟩ := HS.out W (Below.refl _ _)
  clear h hs hW hB hX hE
  go_enter Tryd.func33, Tryd.ntmps33
  go_wp2_with (first | rw [HW.out] | fail)
  refine HV.out.mono ?_
  rintro e w1 ⟨rfl, hb1⟩
  obtain ⟨q, hq⟩ : ∃ q, codeB m = q := ⟨_, rfl⟩
  have HQ := Lib.hid hq
  have HB1 := Lib.hid hb1
  rw [hq]
  clear hq hb1 HV x0 x1 x2
  cases q
  case false =>
    have hE1 := HE.out w1 HB1.out
    obtain ⟨r0, hr0⟩ := cell_ex hE1 0 (by simp)
    obtain ⟨r1, hr1⟩ := cell_ex hE1 1 (by simp)
    obtain ⟨r2, hr2⟩ := cell_ex hE1 2 (by simp)
    have f0 := frozen_at hE1 0
    have f1 := frozen_at hE1 1
    have f2 := frozen_at hE1 2
    have HFIN : Hid (PassN cmpL m w (.returned (.tuple #[.agg #[.slice none 0 0, .slice none 0 0, .slice none 0 0], .bool false])) (((w1.setCell ⟨w.heap.size + 1, 0, none⟩ (.slice none 0 0)).setCell ⟨w.heap.size + 1, 1, none⟩ (.slice none 0 0)).setCell ⟨w.heap.size + 1, 2, none⟩ (.slice none 0 0))) := by
      refine ⟨⟨[], [], []⟩, ⟨none, 0, none, 0, none, 0⟩, false, rfl, ⟨fun e => ?_, fun _ => ⟨rfl, rfl⟩⟩, OwnC.none _ _, ?_⟩
      · rw [HQ.out] at e; cases e
      · exact (((HB.out.trans (HB1.out.mono HB.out.size)).setCell (p := ⟨w.heap.size + 1, 0, none⟩) (by simp) _).setCell (p := ⟨w.heap.size + 1, 1, none⟩) (by simp) _).setCell (p := ⟨w.heap.size + 1, 2, none⟩) (by simp) _
    clear hE1
    go_wp2_with fail
    exact bodyPost_ret (v := .tuple #[.agg #[.slice none 0 0, .slice none 0 0, .slice none 0 0], .bool false]) (by simp [results, Tryd.f33, go_sem, hr0, hr1, hr2]) rfl HFIN.out
  case true =>
    obtain ⟨i0, hinf, hj0, hj1, hj2⟩ := info_parts Tryd.infoI
    have hz1 := HB1.out.size
    have hb2 : Below w1.heap.size w1 (w1.alloc (.cells #[] 3)) := (Below.refl _ w1).alloc (Nat.le_refl _) _
    have HL0 : Hid (∃ (j : Nat) (a : Option Addr) (c : Nat), j ≤ 14 ∧ Value.int .i64 0 = .int .i64 (j : Int) ∧ Value.slice (some ⟨w1.heap.size, 0, none⟩) 0 0 = .slice a j c ∧ (w1.alloc (.cells #[] 3)).ownsRow w1.heap.size 3 1 (.slice a j c) j (List.replicate j (.int .i64 (-1))) ∧ Below w1.heap.size w1 (w1.alloc (.cells #[] 3))) :=
      ⟨0, _, 0, by omega, rfl, rfl, ownsRow_empty (Nat.le_refl _) (heap_alloc_new w1 _), hb2⟩
    clear hb2
    go_wp2_with fail
    go_loopw [4, 5] (fun a i wr => ∃ (j : Nat) (la : Option Addr) (c : Nat), j ≤ 14 ∧ i = .int .i64 (j : Int) ∧ a = .slice la j c ∧ wr.ownsRow w1.heap.size 3 1 (.slice la j c) j (List.replicate j (.int .i64 (-1))) ∧ Below w1.heap.size w1 wr) (fun _ i _ => 14 - (intOf i).toNat)
    case atStart => exact HL0.out
    case round =>
      obtain ⟨j, la, c, hj, rfl, rfl, hown, hb⟩ := hrel
      clear HL0
      have hzr := hb.size
      by_cases hlt : j < 14
      · have hL : (wr.alloc (.cells #[.int .i64 (-1)] 3)).ownsRow w1.heap.size 3 1 (.slice la j c) j (List.replicate j (.int .i64 (-1))) := hown.far5 fun g hg hl => Below.heap_alloc _ _ _ hl
        have hNB : (wr.alloc (.cells #[.int .i64 (-1)] 3)).heap[wr.heap.size]? = some (.cells #[.int .i64 (-1)] 3 (0, 0)) := heap_alloc_new wr _
        have hbA : Below w1.heap.size w1 (wr.alloc (.cells #[.int .i64 (-1)] 3)) := hb.alloc hzr _
        have hlo : ∀ q, (Value.slice la j c).ownBlock = some q → w1.heap.size ≤ q := fun q hq => (hown.lt q hq).1
        have HBA := Lib.hid hbA
        have HLO := Lib.hid hlo
        clear hown hb hbA hlo
        go_wp2_with (at_builtin; refine wpList_append_lies _ (by rfl) _ _ 22 (by rfl) w1.heap.size 3 i0 _ 1 8 Tryd.underlying22 hinf hj0 hj1 hj2 rfl (by omega) (.slice la j c) j _ (by rfl) hL ⟨wr.heap.size, 0, none⟩ 1 1 _ (by rfl) (by rfl) (World.news_of_block hNB) (by simp [Value.oneCell']) (by omega) (by unfold maxLen; omega) (by omega) (by simp; omega) (wr.heap.size + 1) (by simp) ?_; intro g cp w6 hown6 hgrow hat hlt6)
        have HREL : Hid (∃ (j' : Nat) (la : Option Addr) (c : Nat), j' ≤ 14 ∧ Value.int .i64 ((j : Int) + 1) = .int .i64 (j' : Int) ∧ Value.slice (some ⟨g, 0, none⟩) (j + 1) cp = .slice la j' c ∧ w6.ownsRow w1.heap.size 3 1 (.slice la j' c) j' (List.replicate j' (.int .i64 (-1))) ∧ Below w1.heap.size w1 w6) := by
          refine ⟨j + 1, _, cp, hlt, by go_num, rfl, ?_, HBA.out.grown hgrow (by simp; omega) HLO.out⟩
          rw [List.replicate_succ']
          exact hown6
        clear hown6 hgrow hat hlt6 hL hNB
        go_roundw
        case rel => exact HREL.out
        case measure => simp [intOf]; omega
      · obtain rfl : j = 14 := by omega
        obtain ⟨nb, rfl, hnb⟩ : ∃ nb, la = some ⟨nb, 0, none⟩ ∧ w1.heap.size ≤ nb := by
          rcases hown.2 with ⟨_, e⟩ | ⟨g, cp, cur, e, hg, _⟩
          · omega
          · injection e with e1 e2 e3
            exact ⟨g, e1, hg⟩
        have HNO : Hid (NamO wr w1.heap.size nb c []) := by
          have h1 : wr.ownsRow w1.heap.size 3 1 (.slice (some ⟨nb, 0, none⟩) 14 c) 14 (List.replicate 14 (.int .i64 (-1))) := hown
          show wr.ownsRow w1.heap.size 3 1 (.slice (some ⟨nb, 0, none⟩) 14 c) 14 ((namR []).map (Value.int .i64))
          rw [namR_nil, List.map_replicate]
          exact h1
        have HBR : Hid (Below W.heap.size W wr) := HB1.out.trans (hb.mono hz1)
        have hbx := HX.out wr HBR.out
        have x0 := hbx.c0
        have x1 := hbx.c1
        have x2 := hbx.c2
        have HCP := Lib.hid (cpCode m k wr (HCL.out wr HBR.out) HSM.out)
        unfold aggC at HCP
        clear hown hb hbx
        go_wp2_with fail
        refine HCP.out.mono ?_
        rintro e w3 ⟨k', rfl, ho3, hb3⟩
        obtain ⟨W4, hW4⟩ : ∃ W4, w3.alloc (.cells (arrC m k') 29) = W4 := ⟨_, rfl⟩
        have hb4 : Below w3.heap.size w3 W4 := by rw [← hW4]; exact (Below.refl _ w3).alloc (Nat.le_refl _) _
        have hX4 : BoxC W4 w3.heap.size m k' := by rw [← hW4]; exact BoxC.new _ _ _ _
        have hb34 : Below wr.heap.size wr W4 := hb3.trans (hb4.mono hb3.size)
        have hnbl := HNO.out.blk
        have hz3 := hb3.size
        have hzW := HBR.out.size
        have HNBL := Lib.hid hnbl
        have HZ3 := Lib.hid hz3
        have HZW := Lib.hid hzW
        have HL2 : Hid (CsL m k' nb c w1.heap.size wr.heap.size w3.heap.size W (.int .i64 0) (.int .i64 0) W4) :=
          ⟨0, Nat.zero_le _, rfl, rfl, ho3.stand fun g _ hg => hb4.block g hg, hX4, HNO.out.far (hb34.block _ hnbl.2), HBR.out.trans (hb34.mono hzW)⟩
        have HOL : Hid (∀ g, blk k'.la m.list.length = some g → wr.heap.size ≤ g ∧ g < w3.heap.size) := fun g hg => ho3.l.lt g hg
        have HW4 := Lib.hid hW4
        have HV5 := Lib.hid HQ.out
        have hle : m.list.length ≤ 400 := (codeB_ok HQ.out).le
        obtain ⟨n, hn⟩ : ∃ n, m.list.length = n := ⟨_, rfl⟩
        have HN := Lib.hid hn
        unfold arrC at HW4
        have g0 := hX4.c0
        have g1 := hX4.c1
        have g2 := hX4.c2
        obtain ⟨ob, hob⟩ : ∃ ob, w3.heap.size = ob := ⟨_, rfl⟩
        rw [hob] at HL2 HOL HZ3
        have HOB := Lib.hid hob
        rw [hn] at hle
        obtain ⟨BL, hBL⟩ : ∃ BL, wr.heap.size = BL := ⟨_, rfl⟩
        rw [hBL] at HL2 HOL HNBL HZ3 HZW
        clear ho3 hb3 hW4 hb4 hX4 hb34 hnbl hz3 hzW hn hob hBL x0 x1 x2 HNO HCP HB1 HBR HQ
        go_wp2_with (first | rw [HW4.out] | fail)
        try rw [HW4.out]
        try rw [HOB.out]
        clear HW4
        go_loopw [6, 8] (fun nx i wr' => CsL m k' nb c w1.heap.size BL ob W nx i wr') (fun _ i _ => n - (intOf i).toNat)
        case atStart => exact HL2.out
        case round =>
          obtain ⟨i, hi, rfl, rfl, how, hbx, hno, hb⟩ := hrel
          rw [HN.out] at hi
          have HOW := Lib.hid how
          have HBX := Lib.hid hbx
          have HNO := Lib.hid hno
          have HBR := Lib.hid hb
          have hwb := HX.out wr hb
          have b2 := hbx.c2
          have c2 := hwb.c2
          rw [HN.out] at b2 c2
          have hobr := hbx.lt
          have hnb := HNBL.out
          have hz3 := HZ3.out
          have hzW := HZW.out
          have hzr := hb.size
          clear how hbx hno hb hwb HL2
          by_cases hlt : i < n
          · obtain ⟨x, b, o, hx, ha, hbl, e0, e1, e2, e3, e4⟩ := HCW.out.at (i := i) (by rw [HN.out]; exact hlt)
            rw [ha] at c2
            have hib := codeB_ins5 HV5.out x (List.mem_of_getElem? hx)
            obtain ⟨op, hop⟩ : ∃ op : Nat, x.op = op := ⟨x.op.toNat, by have := insB_opM hib; omega⟩
            have hop13 : op ≤ 13 := by have := insB_opM hib; omega
            have hopn : x.op.toNat = op := by omega
            have HREG : Hid (∀ j, j < 4 → kdAt op j = 1 → 0 ≤ x.part j ∧ x.part j < 14) := fun j hj hp => insB_reg hib j hj (by rw [hopn]; exact hp)
            have HFB : Hid (∀ v, Below wr.heap.size wr v → v.cell? ⟨w.heap.size, 2, none⟩ = some (.slice (some ⟨b, o, none⟩) n k.lc) ∧ v.cell? ⟨ob, 2, none⟩ = some (.slice k'.la n k'.lc) ∧ v.cell? ⟨b, o + i * 5, none⟩ = some (.int .i64 x.op) ∧ v.cell? ⟨b, o + i * 5 + 1, none⟩ = some (.int .i64 x.fa) ∧ v.cell? ⟨b, o + i * 5 + 2, none⟩ = some (.int .i64 x.fb) ∧ v.cell? ⟨b, o + i * 5 + 3, none⟩ = some (.int .i64 x.fc) ∧ v.cell? ⟨b, o + i * 5 + 4, none⟩ = some (.int .i64 x.fd)) := fun v hv => by
              have q : ∀ {j : Nat} {u : Value}, W.cell? ⟨b, j, none⟩ = some u → v.cell? ⟨b, j, none⟩ = some u := fun e => (World.cell?_of_block (w := W) ((hv.block b (by omega)).trans (HBR.out.block b hbl))).trans e
              exact ⟨(World.cell?_of_block (w := wr) (hv.block w.heap.size (by omega))).trans c2, (World.cell?_of_block (w := wr) (hv.block ob hobr)).trans b2, q e0, q e1, q e2, q e3, q e4⟩
            obtain ⟨_, _, r0, r1, r2, r3, r4⟩ := HFB.out wr (Below.refl _ _)
            have HXX := Lib.hid hx
            have HOP := Lib.hid hop
            have HOPN := Lib.hid hopn
            have HP1 := Lib.hid (l6Parts_one x wr)
            clear e0 e1 e2 e3 e4 hx ha hib hop hopn
            go_wp2_with fail
            refine HP1.out.mono ?_
            rintro e w5 ⟨pb, rfl, hrp, hpb, hb5⟩
            obtain ⟨d2, _, s0, _, _, _, _⟩ := HFB.out w5 hb5
            rw [HOP.out] at s0
            have HRP := Lib.hid hrp
            have HB5 := Lib.hid hb5
            have hz5 := hb5.size
            clear r0 r1 r2 r3 r4 c2 b2 hrp hb5 HP1
            go_wp2_with fail
            refine (l12Kind_one op hop13 w5).mono ?_
            rintro e w6 ⟨rfl, hb6⟩
            have hpl : pb < w5.heap.size := (Array.getElem?_eq_some_iff.1 HRP.out).1
            have HB6 : Hid (Below wr.heap.size wr w6) := HB5.out.trans (hb6.mono hz5)
            have HBW6 : Hid (Below W.heap.size W w6) := HBR.out.trans (HB6.out.mono hzr)
            have hz6 := hb6.size
            obtain ⟨s, hs⟩ : ∃ s, kbB op = s := ⟨_, rfl⟩
            have HS := Lib.hid hs
            obtain ⟨sl, hsl⟩ : ∃ sl, s.size = sl := ⟨_, rfl⟩
            have HSL := Lib.hid hsl
            have HLEN : Hid ((kkL.getD op []).length = sl) := by rw [← hsl, ← HS.out]; exact (kbB_size op).symm
            have hsl4 : sl ≤ 4 := by rw [← HLEN.out]; exact kkL_len op
            obtain ⟨st0, hst0⟩ : ∃ st0, ((cmpS m.list i).1, x) = st0 := ⟨_, rfl⟩
            have HST0 := Lib.hid hst0
            have HL3 : Hid (CsK op st0 nb c w1.heap.size pb sl W w6 (.int .i64 (((cmpS m.list i).1.length : Nat) : Int)) (.int .i64 0) w6) := by
              rw [← hst0]
              exact ⟨0, Nat.zero_le _, rfl, rfl, HNO.out.far (HB6.out.block nb (by omega)), RowP.far HRP.out (hb6.block pb hpl), Stays.refl _ _, HBW6.out⟩
            have HOK : Hid (∀ q, q ≤ 4 → NsOk (stJ op st0 q).1) := fun q hq => by
              rw [← hst0]
              exact (cmpS_ok (codeB_ins5 HV5.out) i).stJ HREG.out q hq
            have HPT : Hid (∀ q, q < 4 → (stJ op st0 q).2.part q = x.part q) := fun q hq => by
              rw [stJ_part op st0 q q (Nat.le_refl _) hq, ← hst0]
            have HFC : Hid (∀ v, Stays (fun t => t ≠ nb ∧ t ≠ pb) w6 v → v.cell? ⟨w.heap.size, 2, none⟩ = some (.slice (some ⟨b, o, none⟩) n k.lc) ∧ v.cell? ⟨ob, 2, none⟩ = some (.slice k'.la n k'.lc) ∧ v.cell? ⟨b, o + i * 5, none⟩ = some (.int .i64 x.op)) := fun v hv => by
              obtain ⟨a0, a1, a2, _⟩ := HFB.out w6 HB6.out
              exact ⟨(World.cell?_of_block (w := w6) (hv.at (k := w.heap.size) ⟨by omega, by omega⟩ (by omega))).trans a0, (World.cell?_of_block (w := w6) (hv.at (k := ob) ⟨by omega, by omega⟩ (by omega))).trans a1, (World.cell?_of_block (w := w6) (hv.at (k := b) ⟨by omega, by omega⟩ (by omega))).trans a2⟩
            have HO6 : Hid (∀ v, Stays (fun t => t ≠ nb ∧ t ≠ pb) w6 v → OwnC v BL ⟨m.vars, m.arrs, (cmpS m.list i).2⟩ k' ∧ BoxC v ob m k') := fun v hv => by
              have hg : ∀ g, BL ≤ g → g < wr.heap.size → v.heap[g]? = wr.heap[g]? := fun g h1 h2 => (hv.at (k := g) ⟨by omega, by omega⟩ (by omega)).trans (HB6.out.block g h2)
              exact ⟨HOW.out.stand hg, HBX.out.later (hg ob (by omega) hobr)⟩
            have hnp : nb < pb := by omega
            have hWp : W.heap.size ≤ pb := by omega
            have hWn : W.heap.size ≤ nb := by omega
            have hopb : ob < pb := by omega
            have hbp : b < pb := by omega
            rw [hs]
            clear hs hb6 hst0 s0 d2 hpb hz3 hzW hzr hz5 hz6 hobr hpl HFB HB5 HB6 HOW HBX HNO HBR HRP
            go_wp2_with fail
            go_loopw [6, 11] (fun nx q v => CsK op st0 nb c w1.heap.size pb sl W w6 nx q v) (fun _ q _ => sl - (intOf q).toNat)
            case atStart => exact HL3.out
            case round =>
              obtain ⟨q, hq, rfl, rfl, hno, hrp, hst, hbw⟩ := hrel
              have HNO := Lib.hid hno
              have HRP := Lib.hid hrp
              have HST := Lib.hid hst
              have HBW := Lib.hid hbw
              clear hno hrp hst hbw HL3
              by_cases hlt2 : q < sl
              · have hq4 : q < 4 := by omega
                have hk : q < s.size := by rw [HSL.out]; exact hlt2
                have hsj : s[q] = kkC (kkAt op q) := by
                  have e := HS.out
                  subst e
                  exact kbB_at op q hk
                have hge1 : decide ((s.size : Int) ≤ (q : Int)) = false := by have := HSL.out; simp; omega
                have hge2 : decide (s.size ≤ q) = false := by have := HSL.out; simp; omega
                have hkv3 := kkAt_le op q
                have hkr := kk_reg hop13 hq4
                obtain ⟨kv, hkv⟩ : ∃ kv, kkAt op q = kv := ⟨_, rfl⟩
                rw [hkv] at hsj hkv3 hkr
                have c0 := HRP.out.at q hq4
                rw [HPT.out q hq4] at c0
                have f0 := frozen_at HRP.out q
                by_cases h0 : kv = 0
                · have hsn : (s[q].toNat : Int) = 48 := by rw [hsj, h0]; rfl
                  have e1 : stJ op st0 (q + 1) = stJ op st0 q := stK_f fun e => hkr.2 e h0
                  have HREL : Hid (CsK op st0 nb c w1.heap.size pb sl W w6 (.int .i64 (((stJ op st0 q).1.length : Nat) : Int)) (.int .i64 ((q : Int) + 1)) wr) := by
                    refine ⟨q + 1, hlt2, by go_num, ?_, ?_, ?_, HST.out, HBW.out⟩
                    · rw [e1]
                    · rw [e1]; exact HNO.out
                    · rw [e1]; exact HRP.out
                  clear hsj hkr hkv h0 e1
                  go_wp2_with fail
                  go_roundw
                  case rel => exact HREL.out
                  case measure => simp [intOf]; omega
                · have hd : kdAt op q = 1 := hkr.1 h0
                  have hsn : ((s[q].toNat : Int) == 48) = false := by
                    rw [hsj]
                    obtain rfl | rfl | rfl : kv = 1 ∨ kv = 2 ∨ kv = 3 := by omega
                    all_goals rfl
                  have hpr := HREG.out q hq4 hd
                  obtain ⟨r, hr⟩ : ∃ r : Nat, x.part q = (r : Int) := ⟨(x.part q).toNat, by omega⟩
                  rw [hr] at c0 hpr
                  have hr14 : r < 14 := by omega
                  have hrI : (r : Int) < 14 := by omega
                  have hpt := HPT.out q hq4
                  have e1 : stJ op st0 (q + 1) = (addN (stJ op st0 q).1 r, setFd (stJ op st0 q).2 (((addN (stJ op st0 q).1 r).idxOf r : Nat) : Int) q) := by
                    show stK op (stJ op st0 q) q = _
                    rw [stK_t hd, hpt, hr]; simp
                  obtain ⟨ns, hns⟩ : ∃ ns, (stJ op st0 q).1 = ns := ⟨_, rfl⟩
                  obtain ⟨yq, hyq⟩ : ∃ yq, (stJ op st0 q).2 = yq := ⟨_, rfl⟩
                  rw [hns] at HNO e1
                  rw [hyq] at HRP e1
                  have hlen : ns.length ≤ 14 := by rw [← hns]; exact (HOK.out q (by omega)).len
                  rw [hns]
                  have n0 := HNO.out.get hr14
                  have nf := World.ownsRow.frozenAt HNO.out r
                  by_cases hm : r ∈ ns
                  · rw [if_pos hm] at n0
                    rw [addN_in hm] at e1
                    obtain ⟨iv, hiv⟩ : ∃ iv, ns.idxOf r = iv := ⟨_, rfl⟩
                    rw [hiv] at n0 e1
                    have HREL : Hid (CsK op st0 nb c w1.heap.size pb sl W w6 (.int .i64 ((ns.length : Nat) : Int)) (.int .i64 ((q : Int) + 1)) (wr.setCell ⟨pb, q, none⟩ (.int .i64 (iv : Int)))) := by
                      refine ⟨q + 1, hlt2, by go_num, ?_, ?_, ?_, HST.out.setCell (p := ⟨pb, q, none⟩) (fun h => h.2 rfl) _, HBW.out.setCell (p := ⟨pb, q, none⟩) hWp _⟩
                      · rw [e1]
                      · rw [e1]; exact HNO.out.far (Below.heap_setCell _ _ _ _ (by simp; omega))
                      · rw [e1]; exact HRP.out.set hq4 _
                    clear hsj hkr hkv h0 hd hpr hr hpt e1 hns hyq hm hiv
                    go_wp2_with fail
                    go_roundw
                    case rel => exact HREL.out
                    case measure => simp [intOf]; omega
                  · rw [if_neg hm] at n0
                    rw [addN_new hm, idx_new hm] at e1
                    have hN1 := HNO.out.put hr14 hm
                    have hR1 : RowP (wr.setCell ⟨nb, r, none⟩ (.int .i64 ((ns.length : Nat) : Int))) pb yq := HRP.out.far (Below.heap_setCell _ _ _ _ (by simp; omega))
                    have c1 : (wr.setCell ⟨nb, r, none⟩ (.int .i64 ((ns.length : Nat) : Int))).cell? ⟨pb, q, none⟩ = some (.int .i64 (r : Int)) :=
                      cell_othC (Below.heap_setCell _ _ _ _ (by simp; omega)) c0
                    have f1 := frozen_at hR1 q
                    have n1 := hN1.get hr14
                    rw [if_pos (by simp), idx_new hm] at n1
                    obtain ⟨L, hL⟩ : ∃ L, ns.length = L := ⟨_, rfl⟩
                    have HREL : Hid (CsK op st0 nb c w1.heap.size pb sl W w6 (.int .i64 (((ns.length : Nat) : Int) + 1)) (.int .i64 ((q : Int) + 1)) ((wr.setCell ⟨nb, r, none⟩ (.int .i64 ((ns.length : Nat) : Int))).setCell ⟨pb, q, none⟩ (.int .i64 ((ns.length : Nat) : Int)))) := by
                      refine ⟨q + 1, hlt2, by go_num, ?_, ?_, ?_, (HST.out.setCell (p := ⟨nb, r, none⟩) (fun h => h.1 rfl) _).setCell (p := ⟨pb, q, none⟩) (fun h => h.2 rfl) _, (HBW.out.setCell (p := ⟨nb, r, none⟩) hWn _).setCell (p := ⟨pb, q, none⟩) hWp _⟩
                      · rw [e1]; simp
                      · rw [e1]; exact hN1.far (Below.heap_setCell _ _ _ _ (by simp; omega))
                      · rw [e1]; exact hR1.set hq4 _
                    rw [hL] at HREL n1 c1 f1 hlen ⊢
                    clear hsj hkr hkv h0 hd hpr hr hpt e1 hns hyq hm hN1 hR1 hL
                    go_wp2_with fail
                    go_roundw
                    case rel => exact HREL.out
                    case measure => simp [intOf]; omega
              · obtain rfl : q = sl := by omega
                have e4 := stJ_len hop13 HLEN.out st0
                have hcs := cmpS_one HXX.out
                rw [HOPN.out, HST0.out] at hcs
                obtain ⟨y, hy⟩ : ∃ y, (stJ op st0 4).2 = y := ⟨_, rfl⟩
                have hyop : y.op = x.op := by rw [← hy, stJ_op, ← HST0.out]
                have hN4 := HNO.out
                have hR4 := HRP.out
                rw [e4] at hN4 hR4 ⊢
                rw [hy] at hR4 hcs
                obtain ⟨ns, hns⟩ : ∃ ns, (stJ op st0 4).1 = ns := ⟨_, rfl⟩
                rw [hns] at hN4 hcs ⊢
                obtain ⟨c2, b2, r0⟩ := HFC.out wr HST.out
                rw [← hyop] at r0
                obtain ⟨hO, hBx⟩ := HO6.out wr HST.out
                have hyl : (cmpS m.list i).2.length = n := by rw [cmpS_len]; exact HN.out
                have hro : wr.ownsRow BL 50 5 (.slice k'.la n k'.lc) n (flatN (cmpS m.list i).2) := by
                  rcases hO.l with ⟨e, _⟩ | ⟨_, e⟩
                  · exact absurd (show (cmpS m.list i).2.length = 0 from e) (by omega)
                  · have e' : wr.ownsRow BL 50 5 (.slice k'.la (cmpS m.list i).2.length k'.lc) (cmpS m.list i).2.length (flatN (cmpS m.list i).2) := e
                    rw [hyl] at e'
                    exact e'
                obtain ⟨g, hag, hgB⟩ : ∃ g, k'.la = some ⟨g, 0, none⟩ ∧ BL ≤ g := by
                  rcases hro.2 with ⟨_, e⟩ | ⟨g, cp, cur, e, hg, _⟩
                  · omega
                  · injection e with e1 e2 e3
                    exact ⟨g, e1, hg⟩
                have hgob : g < ob := (HOL.out g (by rw [HN.out, blk_pos (c := k'.lc) (by omega), hag]; rfl)).2
                rw [hag] at b2 hro
                have HSD : Hid (∀ v : World, v.heap = wr.heap → v.cell? ⟨w.heap.size, 2, none⟩ = some (.slice (some ⟨b, o, none⟩) n k.lc) ∧ v.cell? ⟨ob, 2, none⟩ = some (.slice (some ⟨g, 0, none⟩) n k'.lc) ∧ v.cell? ⟨b, o + i * 5, none⟩ = some (.int .i64 y.op) ∧ v.cell? ⟨pb, 0, none⟩ = some (.int .i64 y.fa) ∧ v.cell? ⟨pb, 1, none⟩ = some (.int .i64 y.fb) ∧ v.cell? ⟨pb, 2, none⟩ = some (.int .i64 y.fc) ∧ v.cell? ⟨pb, 3, none⟩ = some (.int .i64 y.fd)) := fun v hv => by
                  have hq : ∀ (t j : Nat), v.cell? ⟨t, j, none⟩ = wr.cell? ⟨t, j, none⟩ := fun t j => World.cell?_of_block (w := wr) (a := ⟨t, j, none⟩) (by rw [hv])
                  exact ⟨(hq _ _).trans c2, (hq _ _).trans b2, (hq _ _).trans r0, (hq _ _).trans (by rw [cell_at hR4]; rfl), (hq _ _).trans (by rw [cell_at hR4]; rfl), (hq _ _).trans (by rw [cell_at hR4]; rfl), (hq _ _).trans (by rw [cell_at hR4]; rfl)⟩
                have hSd := HSD.out wr.drew rfl
                have hSw := HSD.out wr rfl
                have hrod : wr.drew.ownsRow BL 50 5 (.slice (some ⟨g, 0, none⟩) n k'.lc) n (flatN (cmpS m.list i).2) := hro
                obtain ⟨⟨s0, hs0⟩, f0⟩ := ownsRow_cellx hrod (i * 5) (by omega)
                obtain ⟨⟨s1, hs1⟩, f1⟩ := ownsRow_cellx hrod (i * 5 + 1) (by omega)
                obtain ⟨⟨s2, hs2⟩, f2⟩ := ownsRow_cellx hrod (i * 5 + 2) (by omega)
                obtain ⟨⟨s3, hs3⟩, f3⟩ := ownsRow_cellx hrod (i * 5 + 3) (by omega)
                obtain ⟨⟨s4, hs4⟩, f4⟩ := ownsRow_cellx hrod (i * 5 + 4) (by omega)
                have hs0w : wr.cell? ⟨g, i * 5, none⟩ = some s0 := hs0
                have hs1w : wr.cell? ⟨g, i * 5 + 1, none⟩ = some s1 := hs1
                have hs2w : wr.cell? ⟨g, i * 5 + 2, none⟩ = some s2 := hs2
                have hs3w : wr.cell? ⟨g, i * 5 + 3, none⟩ = some s3 := hs3
                have hs4w : wr.cell? ⟨g, i * 5 + 4, none⟩ = some s4 := hs4
                have f0w : wr.frozen? ⟨g, i * 5, none⟩ = false := f0
                have f1w : wr.frozen? ⟨g, i * 5 + 1, none⟩ = false := f1
                have f2w : wr.frozen? ⟨g, i * 5 + 2, none⟩ = false := f2
                have f3w : wr.frozen? ⟨g, i * 5 + 3, none⟩ = false := f3
                have f4w : wr.frozen? ⟨g, i * 5 + 4, none⟩ = false := f4
                have hoth : ∀ j, j ≠ g → (((((wr.setCell ⟨g, i * 5, none⟩ (.int .i64 y.op)).setCell ⟨g, i * 5 + 1, none⟩ (.int .i64 y.fa)).setCell ⟨g, i * 5 + 2, none⟩ (.int .i64 y.fb)).setCell ⟨g, i * 5 + 3, none⟩ (.int .i64 y.fc)).setCell ⟨g, i * 5 + 4, none⟩ (.int .i64 y.fd)).drew.heap[j]? = wr.heap[j]? := fun j hj => set5_othC wr g (i * 5) j (.int .i64 y.op) (.int .i64 y.fa) (.int .i64 y.fb) (.int .i64 y.fc) (.int .i64 y.fd) hj
                have hSP : (((((wr.setCell ⟨g, i * 5, none⟩ (.int .i64 y.op)).setCell ⟨g, i * 5 + 1, none⟩ (.int .i64 y.fa)).setCell ⟨g, i * 5 + 2, none⟩ (.int .i64 y.fb)).setCell ⟨g, i * 5 + 3, none⟩ (.int .i64 y.fc)).setCell ⟨g, i * 5 + 4, none⟩ (.int .i64 y.fd)).drew.cell? ⟨w.heap.size, 2, none⟩ = some (.slice (some ⟨b, o, none⟩) n k.lc) ∧ (((((wr.setCell ⟨g, i * 5, none⟩ (.int .i64 y.op)).setCell ⟨g, i * 5 + 1, none⟩ (.int .i64 y.fa)).setCell ⟨g, i * 5 + 2, none⟩ (.int .i64 y.fb)).setCell ⟨g, i * 5 + 3, none⟩ (.int .i64 y.fc)).setCell ⟨g, i * 5 + 4, none⟩ (.int .i64 y.fd)).drew.cell? ⟨ob, 2, none⟩ = some (.slice (some ⟨g, 0, none⟩) n k'.lc) ∧ (((((wr.setCell ⟨g, i * 5, none⟩ (.int .i64 y.op)).setCell ⟨g, i * 5 + 1, none⟩ (.int .i64 y.fa)).setCell ⟨g, i * 5 + 2, none⟩ (.int .i64 y.fb)).setCell ⟨g, i * 5 + 3, none⟩ (.int .i64 y.fc)).setCell ⟨g, i * 5 + 4, none⟩ (.int .i64 y.fd)).drew.cell? ⟨b, o + i * 5, none⟩ = some (.int .i64 y.op) ∧ (((((wr.setCell ⟨g, i * 5, none⟩ (.int .i64 y.op)).setCell ⟨g, i * 5 + 1, none⟩ (.int .i64 y.fa)).setCell ⟨g, i * 5 + 2, none⟩ (.int .i64 y.fb)).setCell ⟨g, i * 5 + 3, none⟩ (.int .i64 y.fc)).setCell ⟨g, i * 5 + 4, none⟩ (.int .i64 y.fd)).drew.cell? ⟨pb, 0, none⟩ = some (.int .i64 y.fa) ∧ (((((wr.setCell ⟨g, i * 5, none⟩ (.int .i64 y.op)).setCell ⟨g, i * 5 + 1, none⟩ (.int .i64 y.fa)).setCell ⟨g, i * 5 + 2, none⟩ (.int .i64 y.fb)).setCell ⟨g, i * 5 + 3, none⟩ (.int .i64 y.fc)).setCell ⟨g, i * 5 + 4, none⟩ (.int .i64 y.fd)).drew.cell? ⟨pb, 1, none⟩ = some (.int .i64 y.fb) ∧ (((((wr.setCell ⟨g, i * 5, none⟩ (.int .i64 y.op)).setCell ⟨g, i * 5 + 1, none⟩ (.int .i64 y.fa)).setCell ⟨g, i * 5 + 2, none⟩ (.int .i64 y.fb)).setCell ⟨g, i * 5 + 3, none⟩ (.int .i64 y.fc)).setCell ⟨g, i * 5 + 4, none⟩ (.int .i64 y.fd)).drew.cell? ⟨pb, 2, none⟩ = some (.int .i64 y.fc) ∧ (((((wr.setCell ⟨g, i * 5, none⟩ (.int .i64 y.op)).setCell ⟨g, i * 5 + 1, none⟩ (.int .i64 y.fa)).setCell ⟨g, i * 5 + 2, none⟩ (.int .i64 y.fb)).setCell ⟨g, i * 5 + 3, none⟩ (.int .i64 y.fc)).setCell ⟨g, i * 5 + 4, none⟩ (.int .i64 y.fd)).drew.cell? ⟨pb, 3, none⟩ = some (.int .i64 y.fd) := by
                  obtain ⟨a0, a1, a2, a3, a4, a5, a6⟩ := hSd
                  have q1 := hoth w.heap.size (by omega)
                  have q2 := hoth ob (by omega)
                  have q3 := hoth b (by omega)
                  have q4 := hoth pb (by omega)
                  exact ⟨cell_othC (v := wr.drew) q1 a0, cell_othC (v := wr.drew) q2 a1, cell_othC (v := wr.drew) q3 a2, cell_othC (v := wr.drew) q4 a3, cell_othC (v := wr.drew) q4 a4, cell_othC (v := wr.drew) q4 a5, cell_othC (v := wr.drew) q4 a6⟩
                have hgW : W.heap.size ≤ g := by omega
                have HREL : Hid (CsL m k' nb c w1.heap.size BL ob W (.int .i64 ((ns.length : Nat) : Int)) (.int .i64 ((i : Int) + 1)) (((((wr.setCell ⟨g, i * 5, none⟩ (.int .i64 y.op)).setCell ⟨g, i * 5 + 1, none⟩ (.int .i64 y.fa)).setCell ⟨g, i * 5 + 2, none⟩ (.int .i64 y.fb)).setCell ⟨g, i * 5 + 3, none⟩ (.int .i64 y.fc)).setCell ⟨g, i * 5 + 4, none⟩ (.int .i64 y.fd)).drew) := by
                  have hbl3 : blk k'.la (cmpS m.list i).2.length = some g := by rw [hyl, blk_pos (c := k'.lc) (by omega), hag]; rfl
                  have hl' : ((cmpS m.list i).2.set i y).length = n := by rw [List.length_set]; exact hyl
                  refine ⟨i + 1, by rw [HN.out]; omega, by go_num, by rw [hcs], ?_, hBx.later (hoth ob (by omega)), ?_, (((((HBW.out.setCell (p := ⟨g, i * 5, none⟩) hgW _).setCell (p := ⟨g, i * 5 + 1, none⟩) hgW _).setCell (p := ⟨g, i * 5 + 2, none⟩) hgW _).setCell (p := ⟨g, i * 5 + 3, none⟩) hgW _).setCell (p := ⟨g, i * 5 + 4, none⟩) hgW _).drew⟩
                  · rw [hcs]
                    refine ⟨?_, ?_, ?_, hO.va, ?_, ?_⟩
                    · exact hO.v.far fun g' hg' _ => hoth g' fun e => hO.vl g' hg' (by rw [e]; exact hbl3)
                    · exact hO.a.far fun g' hg' _ => hoth g' fun e => hO.al g' hg' (by rw [e]; exact hbl3)
                    · have h5 := flat5_setC hro hyl hlt y
                      have h6 := RowX.of h5
                      show RowX _ _ _ _ k'.la ((cmpS m.list i).2.set i y).length k'.lc (flatN ((cmpS m.list i).2.set i y))
                      rw [hl', hag]
                      exact h6
                    · show ∀ g', _ → blk k'.la ((cmpS m.list i).2.set i y).length ≠ some g'
                      rw [hl', ← hyl]; exact hO.vl
                    · show ∀ g', _ → blk k'.la ((cmpS m.list i).2.set i y).length ≠ some g'
                      rw [hl', ← hyl]; exact hO.al
                  · rw [hcs]; exact hN4.far (hoth nb (by omega))
                clear hO hBx hro hrod hN4 hR4 hcs e4 hy hyop hns hag c2 b2 r0 hoth HSD HFC HO6 HNO HRP HST HBW HREG HOK HPT
                go_wp2_with fail
                go_region_held3 (fun v => v.cell? ⟨w.heap.size, 2, none⟩ = some (.slice (some ⟨b, o, none⟩) n k.lc) ∧ v.cell? ⟨ob, 2, none⟩ = some (.slice (some ⟨g, 0, none⟩) n k'.lc) ∧ v.cell? ⟨b, o + i * 5, none⟩ = some (.int .i64 y.op) ∧ v.cell? ⟨pb, 0, none⟩ = some (.int .i64 y.fa) ∧ v.cell? ⟨pb, 1, none⟩ = some (.int .i64 y.fb) ∧ v.cell? ⟨pb, 2, none⟩ = some (.int .i64 y.fc) ∧ v.cell? ⟨pb, 3, none⟩ = some (.int .i64 y.fd)) (first | (with_reducible assumption) | (with_reducible exact hSd) | (with_reducible exact hSw) | fail) (fail)
                go_wp2_with fail
                go_roundw
                case rel => exact HREL.out
                case measure => simp [intOf]; omega
          · obtain rfl : i = n := by omega
            have hEr := HE.out wr HBR.out
            obtain ⟨t0, ht0⟩ := cell_ex hEr 0 (by simp)
            obtain ⟨t1, ht1⟩ := cell_ex hEr 1 (by simp)
            obtain ⟨t2, ht2⟩ := cell_ex hEr 2 (by simp)
            have f0 := frozen_at hEr 0
            have f1 := frozen_at hEr 1
            have f2 := frozen_at hEr 2
            have b0 := HBX.out.c0
            have b1 := HBX.out.c1
            have hcl : (cmpS m.list i).2 = cmpL m.list := by unfold cmpL; rw [HN.out]
            have HFIN : Hid (PassN cmpL m w (.returned (.tuple #[.agg #[.slice k'.va m.vars.length k'.vc, .slice k'.aa m.arrs.length k'.ac, .slice k'.la i k'.lc], .bool true])) (((wr.setCell ⟨w.heap.size + 1, 0, none⟩ (.slice k'.va m.vars.length k'.vc)).setCell ⟨w.heap.size + 1, 1, none⟩ (.slice k'.aa m.arrs.length k'.ac)).setCell ⟨w.heap.size + 1, 2, none⟩ (.slice k'.la i k'.lc))) := by
              have hoth : ∀ j, j ≠ w.heap.size + 1 → (((wr.setCell ⟨w.heap.size + 1, 0, none⟩ (.slice k'.va m.vars.length k'.vc)).setCell ⟨w.heap.size + 1, 1, none⟩ (.slice k'.aa m.arrs.length k'.ac)).setCell ⟨w.heap.size + 1, 2, none⟩ (.slice k'.la i k'.lc)).heap[j]? = wr.heap[j]? := fun j hj => by
                rw [Below.heap_setCell _ _ _ _ (by simpa using hj), Below.heap_setCell _ _ _ _ (by simpa using hj), Below.heap_setCell _ _ _ _ (by simpa using hj)]
              have hO := HOW.out
              rw [hcl] at hO
              have hBs := HB.out.size
              refine ⟨⟨m.vars, m.arrs, cmpL m.list⟩, k', true, ?_, ⟨fun _ => ⟨rfl, rfl⟩, fun e => by rw [HV5.out] at e; cases e⟩, (hO.stand fun g h1 _ => hoth g (by omega)).mono (by omega), ?_⟩
              · show _ = Ending.returned (.tuple #[.agg #[.slice k'.va m.vars.length k'.vc, .slice k'.aa m.arrs.length k'.ac, .slice k'.la (cmpL m.list).length k'.lc], .bool true])
                rw [cmpL_len, HN.out]
              · exact (((HB.out.trans (HBR.out.mono HB.out.size)).setCell (p := ⟨w.heap.size + 1, 0, none⟩) (by simp) _).setCell (p := ⟨w.heap.size + 1, 1, none⟩) (by simp) _).setCell (p := ⟨w.heap.size + 1, 2, none⟩) (by simp) _
            clear hEr HOW HNO hcl
            go_wp2_with fail
            exact bodyPost_ret (v := .tuple #[.agg #[.slice k'.va m.vars.length k'.vc, .slice k'.aa m.arrs.length k'.ac, .slice k'.la i k'.lc], .bool true]) (by simp [results, Tryd.f33, go_sem, ht0, ht1, ht2]) rfl HFIN.out

end Go.Proofs.YtbifbmpflhdijaaDoor

namespace Go.Proofs.YtbifbmpflhdijaaDoor
open Go.RowKit
set_option linter.unusedVariables false

set_option maxRecDepth 100000 in
set_option maxHeartbeats 16000000 in
theorem law_FnExactCompactRegs' (m : Cd) (k : CK) (w : World) (hT : TblF w) (hg : 0 < w.heap.size) (h : CL w m k)
    (hgl : codeB m = true → (cmpL m.list).length ≤ 1048576)
    (hSp : ∀ v k', CL v m k' → CSm m → Calls Tryd.prog 33 #[aggC m k'] v (PassN cmpL m v))
    (hIm : ∀ v k', CL v m k' → CSm m → TblF v → Calls Tryd.prog 34 #[aggC m k'] v (PassN cmpL m v)) :
    Calls Tryd.prog 9 #[aggC m k] w (YN true w) := by
  have HSP := Lib.hid hSp
  have HIM := Lib.hid hIm
  have HGL := Lib.hid hgl
  have HM : Hid (∀ v, Below w.heap.size w v → CL v m k) := fun v hv => h.below hv
  have HT : Hid (∀ v, Below w.heap.size w v → TblF v) := fun v hv => hT.below hv hg
  clear h hT hg hSp hIm hgl
  have HB := Lib.hid ((Below.refl w.heap.size w).alloc (Nat.le_refl _) (.cells (arrC m k) 25))
  have HX := Lib.hid (BoxC.new w m k 25)
  go_enter Tryd.func9, Tryd.ntmps9
  go_wp2_with fail
  obtain ⟨W, hW⟩ : ∃ W, (w.alloc (.cells (arrC m k) 25)) = W := ⟨_, rfl⟩
  unfold arrC at hW
  rw [hW] at HB HX ⊢
  clear hW
  refine (szC_one m k 1048576 W (HM.out _ HB.out) (by omega) (by omega)).mono ?_
  rintro f w1 ⟨v1, rfl, hv1, hs1, hb1⟩
  have HS1 := Lib.hid hs1
  have HB1 := Lib.hid (HB.out.trans (hb1.mono HB.out.size))
  have HX1 := Lib.hid (HX.out.below hb1 HX.out.lt)
  have hx1 := HX1.out.lt
  clear hs1 hb1 HX HB
  by_cases n1 : v1 < 0
  · go_wp2_with fail
    go_ret
    exact YN.of rfl HB1.out
  have HMS : Hid (CSm m) := HS1.out (by omega)
  have c0 := HX1.out.c0
  have c1 := HX1.out.c1
  have c2 := HX1.out.c2
  clear HS1
  -- the model's answer
  go_wp2_with fail
  refine (toC_one m k w1 (HM.out _ HB1.out) HMS.out).mono ?_
  rintro f u1 ⟨k1, rfl, hm1, hb1⟩
  have R1 := Lib.hid (HSP.out u1 k1 hm1 HMS.out)
  have HBu1 := Lib.hid hb1
  clear hm1 hb1 c0 c1 c2
  go_wp2_with fail
  refine R1.out.mono ?_
  rintro f u2' ⟨m0, kw, b0, rfl, hpv, hwo, hb2⟩
  have HPV := Lib.hid hpv
  have HMZ : Hid (CSm m0) := by
    have h1 := HMS.out
    cases hq : codeB m
    · rw [(hpv.2 hq).2]; exact ⟨Nat.zero_le _, Nat.zero_le _, Nat.zero_le _⟩
    · rw [(hpv.1 hq).2]; exact ⟨h1.1, h1.2.1, HGL.out hq⟩
  obtain ⟨u2, hu2⟩ : ∃ u2, u2'.alloc (.cells (arrC m0 kw) 29) = u2 := ⟨_, rfl⟩
  have hbu2 : Below u2'.heap.size u2' u2 := by rw [← hu2]; exact (Below.refl _ _).alloc (Nat.le_refl _) _
  have hXw : BoxC u2 u2'.heap.size m0 kw := by rw [← hu2]; exact BoxC.new _ _ _ _
  have hCw : CL u2 m0 kw := hwo.cl.below hbu2
  have hb12 : Below w1.heap.size w1 u2 := HBu1.out.trans ((hb2.trans (hbu2.mono hb2.size)).mono HBu1.out.size)
  have HBw : Hid (Below w.heap.size w u2) := HB1.out.trans (hb12.mono HB1.out.size)
  have HX2 : Hid (BoxC u2 w.heap.size m k) := HX1.out.below hb12 hx1
  obtain ⟨wb, hwb⟩ : ∃ wb, u2'.heap.size = wb := ⟨_, rfl⟩
  rw [hwb] at hXw
  have HS : Hid (∀ v, Below u2.heap.size u2 v → (v.cell? ⟨w.heap.size, 0, none⟩ = some (.slice k.va m.vars.length k.vc) ∧ v.cell? ⟨w.heap.size, 1, none⟩ = some (.slice k.aa m.arrs.length k.ac) ∧ v.cell? ⟨w.heap.size, 2, none⟩ = some (.slice k.la m.list.length k.lc)) ∧ (v.cell? ⟨wb, 0, none⟩ = some (.slice kw.va m0.vars.length kw.vc) ∧ v.cell? ⟨wb, 1, none⟩ = some (.slice kw.aa m0.arrs.length kw.ac) ∧ v.cell? ⟨wb, 2, none⟩ = some (.slice kw.la m0.list.length kw.lc)) ∧ CL v m k ∧ TblF v ∧ CL v m0 kw) := fun v hv => by
    have bx := HX2.out.below hv HX2.out.lt
    have bw := hXw.below hv hXw.lt
    have hb := HBw.out.trans (hv.mono HBw.out.size)
    exact ⟨⟨bx.c0, bx.c1, bx.c2⟩, ⟨bw.c0, bw.c1, bw.c2⟩, HM.out _ hb, HT.out _ hb, hCw.below hv⟩
  obtain ⟨⟨x0, x1, x2⟩, _⟩ := HS.out u2 (Below.refl _ _)
  have hs2 := HBw.out.size
  unfold arrC at hu2
  have HU2 := Lib.hid hu2
  have HWB := Lib.hid hwb
  clear R1 HBu1 HX1 hwo hpv hb2 HX2 HM HT HB1 hbu2 hXw hCw hb12 hu2 hwb
  -- the argument
  go_wp2_with (first | rw [HU2.out, HWB.out] | rw [HU2.out] | fail)
  try rw [HWB.out]
  refine (toCO_one m k u2 (HS.out _ (Below.refl _ _)).2.2.1 HMS.out).mono ?_
  rintro f u3 ⟨k2, rfl, ho3, hb3⟩
  obtain ⟨u4, hu4⟩ : ∃ u4, u3.alloc (.cells (arrC m k2) 29) = u4 := ⟨_, rfl⟩
  have hX4 : BoxC u4 u3.heap.size m k2 := by rw [← hu4]; exact BoxC.new _ _ _ _
  have hb34 : Below u3.heap.size u3 u4 := by rw [← hu4]; exact (Below.refl _ _).alloc (Nat.le_refl _) _
  have HO4 : Hid (OwnC u4 u2.heap.size m k2) := ho3.stand fun g _ hg => hb34.block g hg
  have hlt4 : u3.heap.size < u4.heap.size := hX4.lt
  have HB4 : Hid (Below u2.heap.size u2 u4) := hb3.trans (hb34.mono hb3.size)
  have LV := Lib.hid ho3.v.lt
  have LA := Lib.hid ho3.a.lt
  have LL := Lib.hid ho3.l.lt
  have g0 := hX4.c0
  have g1 := hX4.c1
  have g2 := hX4.c2
  have HX4 := Lib.hid hX4
  have hs3 := hb3.size
  have I4 := Lib.hid (HIM.out u4 k2 HO4.out.cl HMS.out (HS.out _ HB4.out).2.2.2.1)
  unfold arrC at hu4
  have HU4 := Lib.hid hu4
  clear ho3 hX4 hb34 hu4 hb3 x0 x1 x2
  go_wp2_with (first | rw [HU4.out] | fail)
  try rw [HU4.out]
  refine I4.out.mono ?_
  rintro f u5 ⟨m1, kg, b1, rfl, hpg, hgo, hb5⟩
  obtain ⟨e1, e2⟩ := hpg.uniq HPV.out
  subst e1 e2
  obtain ⟨u6, hu6⟩ : ∃ u6, u5.alloc (.cells (arrC m1 kg) 29) = u6 := ⟨_, rfl⟩
  have hX6 : BoxC u6 u5.heap.size m1 kg := by rw [← hu6]; exact BoxC.new _ _ _ _
  have hb56 : Below u5.heap.size u5 u6 := by rw [← hu6]; exact (Below.refl _ _).alloc (Nat.le_refl _) _
  have LGV := Lib.hid hgo.v.lt
  have LGA := Lib.hid hgo.a.lt
  have LGL := Lib.hid hgo.l.lt
  have HG6 : Hid (OwnC u6 u4.heap.size m1 kg) := hgo.stand fun g _ hg => hb56.block g hg
  have HB6 : Hid (Below u2.heap.size u2 u6) := HB4.out.trans ((hb5.trans (hb56.mono hb5.size)).mono HB4.out.size)
  have hb46 : Below u4.heap.size u4 u6 := hb5.trans (hb56.mono hb5.size)
  have HO6 : Hid (OwnC u6 u2.heap.size m k2) := HO4.out.stand fun g _ hg => hb46.block g hg
  have HX6 : Hid (BoxC u6 u3.heap.size m k2) := HX4.out.below hb46 hlt4
  have HXG6 := Lib.hid hX6
  have hs4 := HB4.out.size
  have hs5 := hb5.size
  have hlt6 : u5.heap.size < u6.heap.size := hX6.lt
  have y0 := hX6.c0
  have y1 := hX6.c1
  have y2 := hX6.c2
  obtain ⟨_, ⟨z0, z1, z2⟩, _⟩ := HS.out u6 HB6.out
  unfold arrC at hu6
  have HU6 := Lib.hid hu6
  have E6 := Lib.hid (eqC_same m1 kg kw u6 HG6.out.cl (HS.out _ HB6.out).2.2.2.2)
  clear hpg hgo hb5 g0 g1 g2 HX4 HO4 hX6 hb56 hb46 hu6 I4
  go_wp2_with (first | rw [HU6.out] | fail)
  try rw [HU6.out]
  refine E6.out.mono ?_
  rintro f u7 ⟨rfl, hb7⟩
  have HB7 : Hid (Below u2.heap.size u2 u7) := HB6.out.trans (hb7.mono HB6.out.size)
  have HG7 : Hid (OwnC u7 u4.heap.size m1 kg) := HG6.out.stand fun g _ hg => hb7.block g hg
  have HO7 : Hid (OwnC u7 u2.heap.size m k2) := HO6.out.stand fun g _ hg => hb7.block g hg
  have HX7 : Hid (BoxC u7 u3.heap.size m k2) := HX6.out.below hb7 HX6.out.lt
  have HXG7 : Hid (BoxC u7 u5.heap.size m1 kg) := HXG6.out.below hb7 hlt6
  have hs7 := hb7.size
  have HSQ : Hid (∀ v, Below u7.heap.size u7 v → v.cell? ⟨w.heap.size, 0, none⟩ = some (.slice k.va m.vars.length k.vc) ∧ v.cell? ⟨w.heap.size, 1, none⟩ = some (.slice k.aa m.arrs.length k.ac) ∧ v.cell? ⟨w.heap.size, 2, none⟩ = some (.slice k.la m.list.length k.lc) ∧ v.cell? ⟨u3.heap.size, 0, none⟩ = some (.slice k2.va m.vars.length k2.vc) ∧ v.cell? ⟨u3.heap.size, 1, none⟩ = some (.slice k2.aa m.arrs.length k2.ac) ∧ v.cell? ⟨u3.heap.size, 2, none⟩ = some (.slice k2.la m.list.length k2.lc)) := fun v hv => by
    obtain ⟨⟨f0, f1, f2⟩, _⟩ := HS.out v (HB7.out.trans (hv.mono HB7.out.size))
    have h := HX7.out.below hv HX7.out.lt
    exact ⟨f0, f1, f2, h.c0, h.c1, h.c2⟩
  obtain ⟨f0, f1, f2, q0, q1, q2⟩ := HSQ.out u7 (Below.refl _ _)
  have HWQ : Hid (∀ v, Below u7.heap.size u7 v → CL v m k) := fun v hv => (HS.out _ (HB7.out.trans (hv.mono HB7.out.size))).2.2.1
  have HC7 : Hid (CL u7 m k2) := HO7.out.cl
  have HBD7 : Hid (Below u7.heap.size u7 u7.drew) := (Below.refl _ _).drew
  clear hb7 HG6 HO6 HX6 HXG6 HB6 y0 y1 y2 z0 z1 z2 E6
  go_wp2_with fail
  go_region_held3 (fun v => v.cell? ⟨w.heap.size, 0, none⟩ = some (.slice k.va m.vars.length k.vc) ∧ v.cell? ⟨w.heap.size, 1, none⟩ = some (.slice k.aa m.arrs.length k.ac) ∧ v.cell? ⟨w.heap.size, 2, none⟩ = some (.slice k.la m.list.length k.lc) ∧ v.cell? ⟨u3.heap.size, 0, none⟩ = some (.slice k2.va m.vars.length k2.vc) ∧ v.cell? ⟨u3.heap.size, 1, none⟩ = some (.slice k2.aa m.arrs.length k2.ac) ∧ v.cell? ⟨u3.heap.size, 2, none⟩ = some (.slice k2.la m.list.length k2.lc)) (first | assumption | exact ⟨f0, f1, f2, q0, q1, q2⟩)
    (first
    | (go_at_call 13; (with_reducible refine (toC_one m k u7.drew (HWQ.out _ HBD7.out) HMS.out).mono ?_); rintro f u9 ⟨k3, rfl, hm3, hA⟩; have hA2 := HBD7.out.trans hA; have hS1 := HSQ.out _ hA2)
    | (go_at_call 15; (with_reducible refine (eqC_one m m k2 k3 u9 (HC7.out.below hA2) hm3).mono ?_); rintro f u8 ⟨rfl, hE⟩; rw [show decide (m = m) = true from decide_eq_true rfl]; have hB8 := hA2.trans (hE.mono hA2.size); have hS2 := HSQ.out _ hB8)
    | fail)
  have HB8 : Hid (Below u2.heap.size u2 u8) := HB7.out.trans (hB8.mono HB7.out.size)
  have HG8 : Hid (OwnC u8 u4.heap.size m1 kg) := HG7.out.stand fun g _ hg => hB8.block g hg
  have HO8 : Hid (OwnC u8 u2.heap.size m k2) := HO7.out.stand fun g _ hg => hB8.block g hg
  have HXG8 : Hid (BoxC u8 u5.heap.size m1 kg) := HXG7.out.below hB8 HXG7.out.lt
  obtain ⟨_, _, _, y0, y1, y2⟩ := hS2
  have hs8 := hB8.size
  clear hB8 hA hA2 hE hS1 q0 q1 q2 f0 f1 f2 HSQ HC7 HWQ HG7 HO7 HX7 HXG7 hm3 HBD7
  -- the marks of the argument
  have MC := Lib.hid (markC_one u2.heap.size m k2 1 u8 HO8.out HB8.out.size HMS.out (by omega) (by omega))
  go_wp2_with fail
  refine MC.out.mono ?_
  rintro f u9 ⟨rfl, _, hb9, hs9, hst9⟩
  have hout : ∀ g, u3.heap.size ≤ g → g < u8.heap.size → u9.heap[g]? = u8.heap[g]? := fun g hg hlt => hst9 g hlt (fun e => by have := LV.out g e; omega) (fun e => by have := LA.out g e; omega) (fun e => by have := LL.out g e; omega)
  have HG9 : Hid (OwnC u9 u4.heap.size m1 kg) := HG8.out.stand fun g hg hlt => hout g (by omega) hlt
  have HXG9 : Hid (BoxC u9 u5.heap.size m1 kg) := HXG8.out.later (hout _ (by omega) HXG8.out.lt)
  have HB9 : Hid (Below u2.heap.size u2 u9) := HB8.out.trans hb9
  obtain ⟨ke, hke⟩ : ∃ ke, mkEnd 1 m = ke := ⟨_, rfl⟩
  have hk1 : ¬ (ke < 0) := by rw [← hke]; unfold mkEnd; omega
  rw [hke]
  have E9 := Lib.hid (eqC_same m1 kg kw u9 HG9.out.cl (HS.out _ HB9.out).2.2.2.2)
  have v0 := HXG9.out.c0
  have v1' := HXG9.out.c1
  have v2 := HXG9.out.c2
  obtain ⟨_, ⟨z0, z1, z2⟩, _⟩ := HS.out u9 HB9.out
  clear hb9 hst9 hout MC HG8 HO8 HXG8 y0 y1 y2 hke
  go_wp2_with fail
  refine E9.out.mono ?_
  rintro f u10 ⟨rfl, hb10⟩
  have HG10 : Hid (OwnC u10 u4.heap.size m1 kg) := HG9.out.stand fun g _ hg => hb10.block g hg
  have HXG10 : Hid (BoxC u10 u5.heap.size m1 kg) := HXG9.out.below hb10 HXG9.out.lt
  have HB10 : Hid (Below u2.heap.size u2 u10) := HB9.out.trans (hb10.mono HB9.out.size)
  have hs10 := hb10.size
  have t0 := HXG10.out.c0
  have t1 := HXG10.out.c1
  have t2 := HXG10.out.c2
  clear hb10 E9 HG9 HXG9 v0 v1' v2 z0 z1 z2
  -- the marks of the answer
  have M10 := Lib.hid (markC_one u4.heap.size m1 kg 1 u10 HG10.out (by omega) HMZ.out (by omega) (by omega))
  go_wp2_with fail
  refine M10.out.mono ?_
  rintro f u11 ⟨rfl, hg11, hb11, hs11, hst11⟩
  have HG11 := Lib.hid hg11
  have HXG11 : Hid (BoxC u11 u5.heap.size m1 kg) := HXG10.out.later (hst11 _ HXG10.out.lt (fun e => by have := LGV.out _ e; omega) (fun e => by have := LGA.out _ e; omega) (fun e => by have := LGL.out _ e; omega))
  have HB11 : Hid (Below u2.heap.size u2 u11) := HB10.out.trans (hb11.mono hs4)
  have H11 := Lib.hid (heldC_one m1 kg 1 u11 HG11.out.cl HMZ.out (by omega) (by omega))
  obtain ⟨kf, hkf⟩ : ∃ kf, mkEnd 1 m1 = kf := ⟨_, rfl⟩
  have hk2 : ¬ (kf < 0) := by rw [← hkf]; unfold mkEnd; omega
  rw [hkf] at H11 ⊢
  have HKF := Lib.hid hkf
  have r0 := HXG11.out.c0
  have r1 := HXG11.out.c1
  have r2 := HXG11.out.c2
  clear hg11 hb11 hst11 M10 HG10 HXG10 t0 t1 t2 hkf
  go_wp2_with fail
  refine H11.out.mono ?_
  rintro f u12 ⟨rfl, hb12⟩
  have HG12 : Hid (OwnC u12 u4.heap.size (mkCd 1 m1) kg) := HG11.out.stand fun g _ hg => hb12.block g hg
  have HXG12 : Hid (BoxC u12 u5.heap.size m1 kg) := HXG11.out.below hb12 HXG11.out.lt
  have HB12 : Hid (Below u2.heap.size u2 u12) := HB11.out.trans (hb12.mono HB11.out.size)
  obtain ⟨⟨z0, z1, z2⟩, _⟩ := HS.out u12 HB12.out
  clear hb12 H11 HG11 HXG11 r0 r1 r2
  -- again
  have T12 := Lib.hid (toC_one m k u12 (HS.out _ HB12.out).2.2.1 HMS.out)
  go_wp2_with fail
  refine T12.out.mono ?_
  rintro f u13 ⟨k4, rfl, hm4, hb13⟩
  have HG13 : Hid (OwnC u13 u4.heap.size (mkCd 1 m1) kg) := HG12.out.stand fun g _ hg => hb13.block g hg
  have HXG13 : Hid (BoxC u13 u5.heap.size m1 kg) := HXG12.out.below hb13 HXG12.out.lt
  have HB13 : Hid (Below u2.heap.size u2 u13) := HB12.out.trans (hb13.mono HB12.out.size)
  have I13 := Lib.hid (HIM.out u13 k4 hm4 HMS.out (HS.out _ HB13.out).2.2.2.1)
  clear hm4 hb13 T12 HG12 HXG12 z0 z1 z2
  go_wp2_with fail
  refine I13.out.mono ?_
  rintro f u14 ⟨m2, kh, b2, rfl, hph, hho, hb14⟩
  obtain ⟨e1, e2⟩ := hph.uniq HPV.out
  subst e1 e2
  obtain ⟨u15, hu15⟩ : ∃ u15, u14.alloc (.cells (arrC m2 kh) 29) = u15 := ⟨_, rfl⟩
  have hXh : BoxC u15 u14.heap.size m2 kh := by rw [← hu15]; exact BoxC.new _ _ _ _
  have hb15 : Below u14.heap.size u14 u15 := by rw [← hu15]; exact (Below.refl _ _).alloc (Nat.le_refl _) _
  have hb135 : Below u13.heap.size u13 u15 := hb14.trans (hb15.mono hb14.size)
  have HG15 : Hid (OwnC u15 u4.heap.size (mkCd 1 m2) kg) := HG13.out.stand fun g _ hg => hb135.block g hg
  have HXG15 : Hid (BoxC u15 u5.heap.size m2 kg) := HXG13.out.below hb135 HXG13.out.lt
  have HB15 : Hid (Below u2.heap.size u2 u15) := HB13.out.trans (hb135.mono HB13.out.size)
  have E15 := Lib.hid (eqC_same m2 kh kw u15 (hho.cl.below hb15) (HS.out _ HB15.out).2.2.2.2)
  have y0 := hXh.c0
  have y1 := hXh.c1
  have y2 := hXh.c2
  obtain ⟨_, ⟨z0, z1, z2⟩, _⟩ := HS.out u15 HB15.out
  unfold arrC at hu15
  have HU15 := Lib.hid hu15
  clear hph hho hb14 hXh hb15 hb135 hu15 I13 HG13 HXG13
  go_wp2_with (first | rw [HU15.out] | fail)
  try rw [HU15.out]
  refine E15.out.mono ?_
  rintro f u16 ⟨rfl, hb16⟩
  have HG16 : Hid (OwnC u16 u4.heap.size (mkCd 1 m2) kg) := HG15.out.stand fun g _ hg => hb16.block g hg
  have HXG16 : Hid (BoxC u16 u5.heap.size m2 kg) := HXG15.out.below hb16 HXG15.out.lt
  have HB16 : Hid (Below u2.heap.size u2 u16) := HB15.out.trans (hb16.mono HB15.out.size)
  have H16 := heldC_one m2 kg 1 u16 HG16.out.cl HMZ.out (by omega) (by omega)
  rw [HKF.out] at H16
  have H16 := Lib.hid H16
  have r0 := HXG16.out.c0
  have r1 := HXG16.out.c1
  have r2 := HXG16.out.c2
  clear hb16 E15 HG15 HXG15 y0 y1 y2 z0 z1 z2
  go_wp2_with fail
  refine H16.out.mono ?_
  rintro f u17 ⟨rfl, hb17⟩
  have HFIN : Hid (Below w.heap.size w u17) := HBw.out.trans ((HB16.out.trans (hb17.mono HB16.out.size)).mono hs2)
  clear hb17 H16 r0 r1 r2
  go_wp2_with fail
  go_ret
  exact YN.of rfl HFIN.out


theorem law_FnExactCompactRegs (m : Cd) (k : CK) (w : World) (hT : TblF w) (hg : 0 < w.heap.size) (h : CL w m k) :
    Calls Tryd.prog 9 #[aggC m k] w (YN true w) :=
  law_FnExactCompactRegs' m k w hT hg h (fun e => by rw [cmpL_len]; have := (codeB_ok e).le; omega)
    (fun v k' hc hs => sCm_one m k' v hc hs)
    (fun v k' hc hs ht => iCm_one m k' v hc hs ht fun e v' hv' => compacted_one m k'.la k'.lc v' (hc.below hv').2.2 e (codeB_ok e).le (ht.below hv' ht.lt))

end Go.Proofs.YtbifbmpflhdijaaDoor

/- Live maps as lists of masks: what an instruction reads and writes, what must be live before it, the least map that is sufficient, the searches for it. Plain mathematics. -/
import Derived.Test.YtbifbmpflhdijaaDoorTnP
namespace Go.Proofs.YtbifbmpflhdijaaDoor
set_option linter.unusedVariables false

/-- The registers that are read, in the order of the fields, and those that are written. -/
def rdL (x : Ins) : List Nat :=
  if x.op = 3 then [x.fb.toNat] else if x.op = 4 then [x.fc.toNat] else if x.op = 5 then [x.fb.toNat, x.fc.toNat] else if x.op = 6 then [x.fc.toNat, x.fd.toNat]
  else if x.op = 7 then [x.fb.toNat, x.fc.toNat, x.fd.toNat] else if x.op = 9 ∨ x.op = 10 ∨ x.op = 11 then [x.fa.toNat] else []
def wrL (x : Ins) : List Nat := if x.op = 1 ∨ x.op = 2 ∨ x.op = 4 ∨ x.op = 6 ∨ x.op = 7 ∨ x.op = 10 then [x.fa.toNat] else []
/-- The mask m with these registers. -/
def setM (m : Nat) : List Nat → Nat
  | [] => m
  | r :: rs => setM (sb m r true) rs
def rdM (x : Ins) : Nat := setM 0 (rdL x)
def wrM (x : Ins) : Nat := setM 0 (wrL x)
theorem rdL_lt {nv na : Nat} {x : Ins} (h : InsT nv na x) : ∀ r, r ∈ rdL x → r < 14 := by
  intro r hr
  unfold rdL at hr
  split at hr
  · rename_i e; have := h.rb (.inl e); simp at hr; omega
  split at hr
  · rename_i e; have := h.rc (.inl e); simp at hr; omega
  split at hr
  · rename_i e; have := h.rb (.inr (.inl e)); have := h.rc (.inr (.inl e)); simp at hr; omega
  split at hr
  · rename_i e; have := h.rc (.inr (.inr (.inl e))); have := h.rd (.inl e); simp at hr; omega
  split at hr
  · rename_i e; have := h.rb (.inr (.inr e)); have := h.rc (.inr (.inr (.inr e))); have := h.rd (.inr e); simp at hr; omega
  split at hr
  · rename_i e
    have h1 : wrA x = true ∨ x.op = 9 ∨ x.op = 10 := by
      rcases e with e | e | e
      · exact .inr (.inl e)
      · exact .inr (.inr e)
      · left; unfold wrA; rw [e]; rfl
    have := h.ra h1; simp at hr; omega
  · simp at hr
theorem wrL_lt {nv na : Nat} {x : Ins} (h : InsT nv na x) : ∀ r, r ∈ wrL x → r < 14 := by
  intro r hr
  unfold wrL at hr
  split at hr
  · rename_i e
    have h1 : wrA x = true ∨ x.op = 9 ∨ x.op = 10 := by
      rcases e with e | e | e | e | e | e
      · left; unfold wrA; rw [e]; rfl
      · left; unfold wrA; rw [e]; rfl
      · left; unfold wrA; rw [e]; rfl
      · left; unfold wrA; rw [e]; rfl
      · left; unfold wrA; rw [e]; rfl
      · exact .inr (.inr e)
    have := h.ra h1; simp at hr; omega
  · simp at hr
theorem or_lt14 {a b : Nat} (ha : a < 16384) (hb : b < 16384) : a ||| b < 16384 := Nat.or_lt_two_pow (n := 14) ha hb
theorem and_lt14 {a : Nat} (b : Nat) (ha : a < 16384) : a &&& b < 16384 := Nat.lt_of_le_of_lt Nat.and_le_left ha
theorem sb_lt14 {m r : Nat} (hm : m < 16384) (hr : r < 14) : sb m r true < 16384 := by
  unfold sb; rw [if_pos rfl]
  exact or_lt14 hm (Nat.pow_lt_pow_right (by omega) hr)
theorem setM_lt : ∀ (L : List Nat) (m : Nat), m < 16384 → (∀ r, r ∈ L → r < 14) → setM m L < 16384
  | [], m, hm, _ => hm
  | r :: L, m, hm, h => setM_lt L _ (sb_lt14 hm (h r (by simp))) fun q hq => h q (by simp [hq])
theorem setM_bit : ∀ (L : List Nat) (m b : Nat), m < 16384 → (∀ r, r ∈ L → r < 14) → ((setM m L).testBit b = true ↔ m.testBit b = true ∨ b ∈ L)
  | [], m, b, _, _ => by simp [setM]
  | r :: L, m, b, hm, h => by
    show (setM (sb m r true) L).testBit b = true ↔ _
    have hr := h r (by simp)
    rw [setM_bit L _ b (sb_lt14 hm hr) (fun q hq => h q (by simp [hq])), sb_bit (by omega) (by omega)]
    by_cases e : b = r
    · subst e; simp
    · rw [if_neg e]; simp [e]
theorem rdM_lt {nv na : Nat} {x : Ins} (h : InsT nv na x) : rdM x < 16384 := setM_lt _ _ (by omega) (rdL_lt h)
theorem wrM_lt {nv na : Nat} {x : Ins} (h : InsT nv na x) : wrM x < 16384 := setM_lt _ _ (by omega) (wrL_lt h)
theorem rdM_bit {nv na : Nat} {x : Ins} (h : InsT nv na x) (b : Nat) : (rdM x).testBit b = true ↔ b ∈ rdL x := by
  unfold rdM; rw [setM_bit _ _ _ (by omega) (rdL_lt h)]; simp
theorem wrM_bit {nv na : Nat} {x : Ins} (h : InsT nv na x) (b : Nat) : (wrM x).testBit b = true ↔ b ∈ wrL x := by
  unfold wrM; rw [setM_bit _ _ _ (by omega) (wrL_lt h)]; simp
theorem andn_bit {a m : Nat} (ha : a < 32768) (hm : m < 32768) (b : Nat) : (a &&& (65535 - m)).testBit b = (a.testBit b && !m.testBit b) := by
  have e : 65535 - m = 2 ^ 16 - (m + 1) := by omega
  rw [Nat.testBit_and, e, Nat.testBit_two_pow_sub_succ (by omega)]
  by_cases hb : b < 16
  · rw [decide_eq_true hb]; simp
  · rw [bit_lt ha (by omega)]; simp
theorem eq_of_sub {a b : Nat} (h : Sub a b) (h' : Sub b a) : a = b := by
  apply Nat.eq_of_testBit_eq
  intro i
  cases h1 : a.testBit i <;> cases h2 : b.testBit i
  · rfl
  · rw [h' i h2] at h1; cases h1
  · rw [h i h1] at h2; cases h2
  · rfl

/-- What must be live before an instruction, where a is live after it. -/
def bef (x : Ins) (a : Nat) : Nat := rdM x ||| (a &&& (65535 - wrM x))
theorem bef_lt {nv na : Nat} {x : Ins} (h : InsT nv na x) {a : Nat} (ha : a < 16384) : bef x a < 16384 := or_lt14 (rdM_lt h) (and_lt14 _ ha)
theorem bef_mono {x : Ins} {a a' : Nat} (h : Sub a a') : Sub (bef x a) (bef x a') := fun b hb => by
  unfold bef at hb ⊢
  rw [Nat.testBit_or, Bool.or_eq_true, Nat.testBit_and, Bool.and_eq_true] at hb ⊢
  exact hb.imp id fun ⟨h1, h2⟩ => ⟨h b h1, h2⟩
/-- All that is live before one of these. -/
def orT (T : Nat → Nat) (a : Nat) : List Nat → Nat
  | [] => a
  | t :: ts => orT T (a ||| T t) ts
theorem orT_bit (T : Nat → Nat) : ∀ (ts : List Nat) (a b : Nat), (orT T a ts).testBit b = true ↔ a.testBit b = true ∨ ∃ t, t ∈ ts ∧ (T t).testBit b = true
  | [], a, b => by simp [orT]
  | t :: ts, a, b => by
    show (orT T (a ||| T t) ts).testBit b = true ↔ _
    rw [orT_bit T ts, Nat.testBit_or, Bool.or_eq_true]
    constructor
    · rintro ((h | h) | ⟨q, h1, h2⟩)
      · exact .inl h
      · exact .inr ⟨t, by simp, h⟩
      · exact .inr ⟨q, by simp [h1], h2⟩
    · rintro (h | ⟨q, h1, h2⟩)
      · exact .inl (.inl h)
      · rcases List.mem_cons.1 h1 with e | e
        · subst e; exact .inl (.inr h2)
        · exact .inr ⟨q, e, h2⟩
theorem orT_lt (T : Nat → Nat) : ∀ (ts : List Nat) (a : Nat), a < 16384 → (∀ t, t ∈ ts → T t < 16384) → orT T a ts < 16384
  | [], a, ha, _ => ha
  | t :: ts, a, ha, h => orT_lt T ts _ (or_lt14 ha (h t (by simp))) fun q hq => h q (by simp [hq])
theorem orT_mono {T T' : Nat → Nat} {ts : List Nat} (h : ∀ t, t ∈ ts → Sub (T t) (T' t)) : Sub (orT T 0 ts) (orT T' 0 ts) := fun b hb => by
  rw [orT_bit] at hb ⊢
  rcases hb with hb | ⟨t, h1, h2⟩
  · exact .inl hb
  · exact .inr ⟨t, h1, h t h1 b h2⟩
/-- What must be live before instruction i, which is x, where T says what is live before each. -/
def ned (T : Nat → Nat) (i : Nat) (x : Ins) : Nat := bef x (orT T 0 (folN x i))
theorem ned_mono {T T' : Nat → Nat} {i : Nat} {x : Ins} (h : ∀ t, t ∈ folN x i → Sub (T t) (T' t)) : Sub (ned T i x) (ned T' i x) := bef_mono (orT_mono h)
theorem ned_eq {T T' : Nat → Nat} {i : Nat} {x : Ins} (h : ∀ t, t ∈ folN x i → T t = T' t) : ned T i x = ned T' i x :=
  eq_of_sub (ned_mono fun t ht => by rw [h t ht]; exact Sub.refl _) (ned_mono fun t ht => by rw [h t ht]; exact Sub.refl _)

/-- A live map is sufficient. -/
def ClosedL (l : List Ins) (T : Nat → Nat) : Prop := ∀ (i : Nat) (x : Ins), l[i]? = some x → Sub (ned T i x) (T i)
def fT (ms : List Nat) (t : Nat) : Nat := ms.getD t 0
theorem fT_at {ms : List Nat} {i m : Nat} (h : ms[i]? = some m) : fT ms i = m := by unfold fT; rw [List.getD_eq_getElem?_getD, h]; rfl
theorem fT_lt {ms : List Nat} (h : ∀ (i m : Nat), ms[i]? = some m → m < 16384) (t : Nat) : fT ms t < 16384 := by
  unfold fT
  rw [List.getD_eq_getElem?_getD]
  cases e : ms[t]? with
  | none => simp
  | some m => exact h t m e
theorem fT_set {ms : List Nat} {p : Nat} (hp : p < ms.length) (r i : Nat) : fT (ms.set p r) i = if i = p then r else fT ms i := by
  unfold fT
  rw [List.getD_eq_getElem?_getD, List.getD_eq_getElem?_getD]
  split
  · rename_i e; subst e; rw [List.getElem?_set_self hp]; rfl
  · rename_i e; rw [List.getElem?_set_ne (fun e' => e e'.symm)]
/-- The list is the least sufficient map. -/
structure IsL (l : List Ins) (ms : List Nat) : Prop where
  len : ms.length = l.length
  lt : ∀ (i m : Nat), ms[i]? = some m → m < 16384
  cl : ClosedL l (fT ms)
  le : ∀ T, ClosedL l T → ∀ i, i < l.length → Sub (fT ms i) (T i)
theorem IsL.uniq {l : List Ins} {ma mb : List Nat} (h : IsL l ma) (h' : IsL l mb) : ma = mb := by
  apply List.ext_getElem?
  intro i
  by_cases hi : i < l.length
  · have e1 : ma[i]? = some (ma[i]'(by rw [h.len]; exact hi)) := List.getElem?_eq_getElem _
    have e2 : mb[i]? = some (mb[i]'(by rw [h'.len]; exact hi)) := List.getElem?_eq_getElem _
    have h1 := h.le _ h'.cl i hi
    have h2 := h'.le _ h.cl i hi
    rw [fT_at e1, fT_at e2] at h1 h2
    rw [e1, e2, eq_of_sub h1 h2]
  · rw [List.getElem?_eq_none (by rw [h.len]; omega), List.getElem?_eq_none (by rw [h'.len]; omega)]

/-- What is known of all maps that the searches hold. -/
structure LB (l : List Ins) (ms : List Nat) : Prop where
  len : ms.length = l.length
  lt : ∀ (i m : Nat), ms[i]? = some m → m < 16384
  le : ∀ T, ClosedL l T → ∀ i, i < l.length → Sub (fT ms i) (T i)
  up : ∀ (i : Nat) (x : Ins), l[i]? = some x → Sub (fT ms i) (ned (fT ms) i x)
theorem fT_rep (n i : Nat) : fT (List.replicate n 0) i = 0 := by
  unfold fT
  rw [List.getD_eq_getElem?_getD, List.getElem?_replicate]
  split <;> rfl
theorem LB.start (l : List Ins) : LB l (List.replicate l.length 0) := by
  refine ⟨List.length_replicate, fun i m h => ?_, fun T _ i _ b hb => ?_, fun i x _ b hb => ?_⟩
  · rw [List.getElem?_replicate] at h
    split at h
    · have : 0 = m := by simpa using h
      omega
    · cases h
  · rw [fT_rep, Nat.zero_testBit] at hb; cases hb
  · rw [fT_rep, Nat.zero_testBit] at hb; cases hb
theorem LB.nlt {l : List Ins} {ms : List Nat} (h : LB l ms) {nv na : Nat} {x : Ins} (hx : InsT nv na x) (i : Nat) : ned (fT ms) i x < 16384 := bef_lt hx (orT_lt _ _ _ (by omega) fun t _ => fT_lt h.lt t)
theorem LB.set {l : List Ins} {ms : List Nat} (h : LB l ms) (hok : Okc l) {nv na : Nat} {p : Nat} {x : Ins} (hx : InsT nv na x) (hp : l[p]? = some x) : LB l (ms.set p (ned (fT ms) p x)) := by
  have hpl : p < l.length := (List.getElem?_eq_some_iff.1 hp).1
  have hpm : p < ms.length := by rw [h.len]; exact hpl
  have hgrow : ∀ t, Sub (fT ms t) (fT (ms.set p (ned (fT ms) p x)) t) := fun t => by
    rw [fT_set hpm]
    split
    · rename_i e; subst e; exact h.up _ x hp
    · exact Sub.refl _
  refine ⟨by rw [List.length_set]; exact h.len, fun i m hm => ?_, fun T hT i hi => ?_, fun i y hy => ?_⟩
  · by_cases e : i = p
    · subst e
      rw [List.getElem?_set_self hpm] at hm
      cases hm
      exact h.nlt hx _
    · rw [List.getElem?_set_ne (fun e' => e e'.symm)] at hm
      exact h.lt i m hm
  · rw [fT_set hpm]
    split
    · rename_i e; subst e
      exact (ned_mono fun t ht => h.le T hT t (hok.fol hp ht)).trans (hT _ x hp)
    · exact h.le T hT i hi
  · rw [fT_set hpm]
    split
    · rename_i e; subst e
      rw [hp] at hy
      cases hy
      exact ned_mono fun t _ => hgrow t
    · exact (h.up i y hy).trans (ned_mono fun t _ => hgrow t)
theorem LB.more {l : List Ins} {ms : List Nat} (h : LB l ms) {nv na : Nat} {p m : Nat} {x : Ins} (hx : InsT nv na x) (hp : l[p]? = some x) (hm : ms[p]? = some m) (hne : ned (fT ms) p x ≠ m) : pcS ms + 1 ≤ pcS (ms.set p (ned (fT ms) p x)) := by
  have hup := h.up p x hp
  rw [fT_at hm] at hup
  refine pcS_set ms p m _ hm ?_
  have h1 := pcM_grow (m := m) (a := ned (fT ms) p x) (by have := h.lt p m hm; omega) (by have := h.nlt hx p; omega) (fun hs => hne (eq_of_sub hs hup))
  rwa [show m ||| ned (fT ms) p x = ned (fT ms) p x by rw [Nat.or_comm]; exact Sub.or_eq hup] at h1
theorem LB.done {l : List Ins} {ms : List Nat} (h : LB l ms) (hc : ∀ (i : Nat) (x : Ins), l[i]? = some x → Sub (ned (fT ms) i x) (fT ms i)) : IsL l ms := ⟨h.len, h.lt, hc, h.le⟩
theorem pcS_bd {l : List Ins} {ms : List Nat} (h : LB l ms) : pcS ms ≤ 15 * l.length := by have := pcS_le ms; rw [h.len] at this; exact this

/-- For each instruction, those that it may follow. -/
structure PrB (l : List Ins) (bs : List (List Nat)) : Prop where
  len : bs.length = l.length
  lt : ∀ p i, i ∈ bs.getD p [] → i < l.length
  mem : ∀ (i : Nat) (x : Ins) (p : Nat), l[i]? = some x → p ∈ folN x i → i ∈ bs.getD p []
  bd : ∀ p, (bs.getD p []).length ≤ 800
/-- The program's search: the map so far, those that wait. -/
structure LW (l : List Ins) (ms ws : List Nat) : Prop where
  lb : LB l ms
  wt : ∀ i, i ∈ ws → i < l.length
  cl : ∀ (i : Nat) (x : Ins), l[i]? = some x → i ∉ ws → Sub (ned (fT ms) i x) (fT ms i)
  bd : ws.length ≤ l.length + 800 * pcS ms
theorem LW.start (l : List Ins) : LW l (List.replicate l.length 0) (List.range l.length) :=
  ⟨LB.start l, fun i hi => by simpa using hi, fun i x hx hi => absurd (by simpa using (List.getElem?_eq_some_iff.1 hx).1) hi, by simp⟩
theorem LW.skip {l : List Ins} {ms ws : List Nat} {p : Nat} {x : Ins} (h : LW l ms (ws ++ [p])) (hp : l[p]? = some x) (he : ned (fT ms) p x = fT ms p) : LW l ms ws :=
  ⟨h.lb, fun i hi => h.wt i (by simp [hi]), fun i y hy hi => by
    by_cases e : i = p
    · subst e
      rw [hp] at hy
      cases hy
      rw [he]; exact Sub.refl _
    · exact h.cl i y hy (by simp [hi, e]), by have := h.bd; simp at this; omega⟩
theorem LW.grow {l : List Ins} {ms ws : List Nat} {p m : Nat} {x : Ins} {bs : List (List Nat)} (h : LW l ms (ws ++ [p])) (hok : Okc l) (hb : PrB l bs) {nv na : Nat} (hx : InsT nv na x) (hp : l[p]? = some x) (hm : ms[p]? = some m) (hne : ned (fT ms) p x ≠ m) : LW l (ms.set p (ned (fT ms) p x)) (ws ++ bs.getD p []) := by
  have hpm : p < ms.length := (List.getElem?_eq_some_iff.1 hm).1
  refine ⟨h.lb.set hok hx hp, fun i hi => ?_, fun i y hy hi => ?_, ?_⟩
  · rcases List.mem_append.1 hi with hi | hi
    · exact h.wt i (by simp [hi])
    · exact hb.lt p i hi
  · have hnb : i ∉ bs.getD p [] := fun e => hi (List.mem_append_right _ e)
    have hnf : p ∉ folN y i := fun e => hnb (hb.mem i y p hy e)
    have he : ned (fT (ms.set p (ned (fT ms) p x))) i y = ned (fT ms) i y := ned_eq fun t ht => by
      rw [fT_set hpm, if_neg (fun e => hnf (by rw [← e]; exact ht))]
    rw [he, fT_set hpm]
    split
    · rename_i e; subst e
      rw [hp] at hy
      cases hy
      exact Sub.refl _
    · rename_i e
      exact h.cl i y hy (by simp [e]; intro e2; exact hi (by simp [e2]))
  · have h1 := h.bd
    have h2 := h.lb.more hx hp hm hne
    have h3 := hb.bd p
    rw [List.length_append] at h1 ⊢
    simp only [List.length_cons, List.length_nil] at h1
    omega
theorem LW.done {l : List Ins} {ms : List Nat} (h : LW l ms []) : IsL l ms := h.lb.done fun i x hx => h.cl i x hx (by simp)

/-- Within a round of the model's search: c: something has changed since the round began with ms0; those from k on are done. -/
structure LR (l : List Ins) (ms0 ms : List Nat) (c : Bool) (k : Nat) : Prop where
  lb : LB l ms
  mono : pcS ms0 ≤ pcS ms
  grew : c = true → pcS ms0 + 1 ≤ pcS ms
  same : c = false → ∀ (i : Nat) (x : Ins), k ≤ i → l[i]? = some x → Sub (ned (fT ms) i x) (fT ms i)
theorem LR.start {l : List Ins} {ms : List Nat} (h : LB l ms) : LR l ms ms false l.length := ⟨h, Nat.le_refl _, fun e => (by cases e), fun _ i x hi hx => absurd (List.getElem?_eq_some_iff.1 hx).1 (by omega)⟩
theorem LR.skip {l : List Ins} {ms0 ms : List Nat} {c : Bool} {k : Nat} {x : Ins} (h : LR l ms0 ms c (k + 1)) (hp : l[k]? = some x) (he : ned (fT ms) k x = fT ms k) : LR l ms0 ms c k :=
  ⟨h.lb, h.mono, h.grew, fun e i y hi hy => by
    by_cases e2 : i = k
    · subst e2
      rw [hp] at hy
      cases hy
      rw [he]; exact Sub.refl _
    · exact h.same e i y (by omega) hy⟩
theorem LR.grow {l : List Ins} {ms0 ms : List Nat} {c : Bool} {k m : Nat} {x : Ins} (h : LR l ms0 ms c (k + 1)) (hok : Okc l) {nv na : Nat} (hx : InsT nv na x) (hp : l[k]? = some x) (hm : ms[k]? = some m) (hne : ned (fT ms) k x ≠ m) : LR l ms0 (ms.set k (ned (fT ms) k x)) true k := by
  have h2 := h.lb.more hx hp hm hne
  have h3 := h.mono
  exact ⟨h.lb.set hok hx hp, by omega, fun _ => by omega, fun e => (by cases e)⟩
theorem LR.done {l : List Ins} {ms0 ms : List Nat} (h : LR l ms0 ms false 0) : IsL l ms := h.lb.done fun i x hx => h.same rfl i x (Nat.zero_le _) hx

/-- A row of flags. -/
def flB (m : Nat) : List Bool := (List.range 14).map m.testBit
theorem flB_len (m : Nat) : (flB m).length = 14 := by simp [flB]
theorem flB_at (m : Nat) {i : Nat} (hi : i < 14) : (flB m)[i]? = some (m.testBit i) := by unfold flB; rw [List.getElem?_map, List.getElem?_range hi]; rfl
theorem flB_ext {m : Nat} {r : List Bool} (h : r.length = 14) (hb : ∀ i, i < 14 → r[i]? = some (m.testBit i)) : r = flB m := by
  apply List.ext_getElem?
  intro i
  by_cases hi : i < 14
  · rw [hb i hi, flB_at m hi]
  · rw [List.getElem?_eq_none (by omega), List.getElem?_eq_none (by rw [flB_len]; omega)]
theorem bit_lt14 {m b : Nat} (hm : m < 16384) (hb : 14 ≤ b) : m.testBit b = false := Nat.testBit_lt_two_pow (Nat.lt_of_lt_of_le hm (by have := Nat.pow_le_pow_right (n := 2) (by omega) hb; omega))
theorem flB_inj {m m' : Nat} (hm : m < 16384) (hm' : m' < 16384) (h : flB m = flB m') : m = m' := by
  apply Nat.eq_of_testBit_eq
  intro b
  by_cases hb : b < 14
  · have h1 := flB_at m hb
    rw [h, flB_at m' hb] at h1
    exact (Option.some.inj h1).symm
  · rw [bit_lt14 hm (by omega), bit_lt14 hm' (by omega)]

end Go.Proofs.YtbifbmpflhdijaaDoor

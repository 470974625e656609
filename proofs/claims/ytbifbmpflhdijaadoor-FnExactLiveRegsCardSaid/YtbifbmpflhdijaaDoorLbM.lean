/- Sets of places and joins of labels as plain numbers: what the places of an expression join to is the label of the expression. Plain mathematics. -/
import Derived.Test.YtbifbmpflhdijaaDoorDat
namespace Go.Proofs.YtbifbmpflhdijaaDoor
set_option linter.unusedVariables false

def placeE (e : E) : Option Nat := if e.kind = 2 then some e.value.toNat else if e.kind = 3 then some (12 + e.value.toNat) else none
def bitE (e : E) : Nat := match placeE e with | some i => 2 ^ i | none => 0
/-- The label at a place. -/
def knl (p : Pg) (i : Nat) : Nat := if i < 12 then (p.vars.getD i 0).toNat else (p.arrs.getD (i - 12) 0).toNat
def ownN (p : Pg) (e : E) : Nat := match placeE e with | some i => knl p i | none => 0
def orF {α : Type} (f : α → Nat) (L : List α) : Nat := L.foldl (fun s x => s ||| f x) 0
theorem orF_from {α : Type} (f : α → Nat) : ∀ (L : List α) (s : Nat), L.foldl (fun s x => s ||| f x) s = s ||| orF f L
  | [], s => by simp [orF]
  | x :: xs, s => by
    show xs.foldl _ (s ||| f x) = s ||| xs.foldl _ (0 ||| f x)
    rw [orF_from f xs (s ||| f x), orF_from f xs (0 ||| f x), Nat.zero_or, Nat.or_assoc]
theorem orF_nil {α : Type} (f : α → Nat) : orF f [] = 0 := rfl
theorem orF_cons {α : Type} (f : α → Nat) (x : α) (xs : List α) : orF f (x :: xs) = f x ||| orF f xs := by
  show xs.foldl _ (0 ||| f x) = _
  rw [orF_from, Nat.zero_or]
theorem orF_app {α : Type} (f : α → Nat) (a b : List α) : orF f (a ++ b) = orF f a ||| orF f b := by
  show (a ++ b).foldl _ 0 = _
  rw [List.foldl_append, orF_from]
  rfl
theorem orF_snoc {α : Type} (f : α → Nat) (a : List α) (x : α) : orF f (a ++ [x]) = orF f a ||| f x := by
  rw [orF_app, orF_cons, orF_nil, Nat.or_zero]
theorem orF_bit {α : Type} (f : α → Nat) (b : Nat) : ∀ (L : List α), (orF f L).testBit b = true ↔ ∃ x ∈ L, (f x).testBit b = true
  | [] => by simp [orF_nil]
  | x :: xs => by
    rw [orF_cons, Nat.testBit_or, Bool.or_eq_true, orF_bit f b xs]
    simp

mutual
def labE (p : Pg) : E → Nat
  | ⟨k, v, ks⟩ => ownN p ⟨k, v, ks⟩ ||| labEs p ks
def labEs (p : Pg) : List E → Nat
  | [] => 0
  | x :: xs => labE p x ||| labEs p xs
end
theorem labE_eq (p : Pg) (e : E) : labE p e = ownN p e ||| labEs p e.kids := by cases e; rw [labE]
theorem labEs_app (p : Pg) : ∀ (a b : List E), labEs p (a ++ b) = labEs p a ||| labEs p b
  | [], b => by simp [labEs]
  | x :: xs, b => by rw [List.cons_append, labEs, labEs, labEs_app p xs b, Nat.or_assoc]
theorem labEs_snoc (p : Pg) (es : List E) (k : Nat) (x : E) (h : es[k]? = some x) : labEs p (es.take (k + 1)) = labEs p (es.take k) ||| labE p x := by
  rw [take_snoc' h, labEs_app, labEs, labEs, Nat.or_zero]
mutual
theorem labL_pre (p : Pg) : ∀ (e : E) (l : Nat), orF (fun x => ownN p x.2) (preE e l) = labE p e
  | ⟨k, v, ks⟩, l => by rw [preE, orF_cons, labE, labL_pres p ks (l + 1)]
theorem labL_pres (p : Pg) : ∀ (es : List E) (l : Nat), orF (fun x => ownN p x.2) (preEs es l) = labEs p es
  | [], l => by rw [preEs, labEs]; rfl
  | x :: xs, l => by rw [preEs, orF_app, labL_pre p x l, labL_pres p xs l, labEs]
end

def bitsN (s : Nat) : List Nat := (List.range 14).filter fun i => s.testBit i
theorem mem_bitsN {s i : Nat} : i ∈ bitsN s ↔ i < 14 ∧ s.testBit i = true := by simp [bitsN]

theorem placeE_lt {nv na : Nat} (hv : nv ≤ 12) (ha : na ≤ 2) {e : E} (h : nodeB nv na e = true) {i : Nat} (hi : placeE e = some i) : i < 14 := by
  unfold nodeB at h
  simp only [Bool.and_eq_true, decide_eq_true_iff] at h
  obtain ⟨⟨⟨_, h0⟩, h1⟩, _⟩ := h
  unfold placeE at hi
  unfold limit at h1
  by_cases h2 : e.kind = 2
  · rw [if_pos h2] at hi
    rw [if_neg (by omega), if_pos h2] at h1
    cases hi
    omega
  · rw [if_neg h2] at hi
    by_cases h3 : e.kind = 3
    · rw [if_pos h3] at hi
      rw [if_neg (by omega), if_neg h2, if_pos h3] at h1
      cases hi
      omega
    · rw [if_neg h3] at hi; cases hi
theorem bitE_bit (e : E) (i : Nat) : (bitE e).testBit i = true ↔ placeE e = some i := by
  unfold bitE
  cases h : placeE e with
  | none => simp
  | some j => simp [Nat.testBit_two_pow]
/-- **What the places of valid nodes join to is the join of the nodes' own labels.** -/
theorem join_places (p : Pg) (L : List (Nat × E)) (hv : p.vars.length ≤ 12) (ha : p.arrs.length ≤ 2) (h : ∀ x ∈ L, nodeB p.vars.length p.arrs.length x.2 = true) :
    orF (knl p) (bitsN (orF (fun x => bitE x.2) L)) = orF (fun x => ownN p x.2) L := by
  apply Nat.eq_of_testBit_eq
  intro b
  have e1 := orF_bit (knl p) b (bitsN (orF (fun x => bitE x.2) L))
  have e2 := orF_bit (fun x : Nat × E => ownN p x.2) b L
  have : (orF (knl p) (bitsN (orF (fun x => bitE x.2) L))).testBit b = true ↔ (orF (fun x => ownN p x.2) L).testBit b = true := by
    rw [e1, e2]
    constructor
    · rintro ⟨i, hi, hb⟩
      obtain ⟨hi1, hi2⟩ := mem_bitsN.1 hi
      obtain ⟨x, hx, hxb⟩ := (orF_bit (fun x : Nat × E => bitE x.2) i L).1 hi2
      refine ⟨x, hx, ?_⟩
      have := (bitE_bit x.2 i).1 hxb
      show (ownN p x.2).testBit b = true
      unfold ownN
      rw [this]
      exact hb
    · rintro ⟨x, hx, hb⟩
      have hb' : (ownN p x.2).testBit b = true := hb
      unfold ownN at hb'
      cases hp : placeE x.2 with
      | none => rw [hp] at hb'; simp at hb'
      | some i =>
        rw [hp] at hb'
        exact ⟨i, mem_bitsN.2 ⟨placeE_lt hv ha (h x hx) hp, (orF_bit (fun x : Nat × E => bitE x.2) i L).2 ⟨x, hx, (bitE_bit x.2 i).2 hp⟩⟩, hb'⟩
  cases h1 : (orF (knl p) (bitsN (orF (fun x => bitE x.2) L))).testBit b <;> cases h2 : (orF (fun x => ownN p x.2) L).testBit b <;> simp_all

/-! The bits of a set, the lowest first. -/
def lowN (s : Nat) : Nat := Nat.log2 (s &&& (18446744073709551616 - s))
theorem low_split : ∀ (n s : Nat), s ≤ n → 0 < s → ∃ i m, s = 2 ^ i * (2 * m + 1)
  | 0, s, h, h0 => by omega
  | n + 1, s, h, h0 => by
    by_cases he : s % 2 = 1
    · exact ⟨0, s / 2, by simp; omega⟩
    · obtain ⟨i, m, hi⟩ := low_split n (s / 2) (by omega) (by omega)
      refine ⟨i + 1, m, ?_⟩
      have : s = 2 * (s / 2) := by omega
      rw [this, hi, Nat.pow_succ, Nat.mul_comm (2 ^ i) 2, Nat.mul_assoc]
theorem low_odd (m k : Nat) : (2 * m + 1).testBit (k + 1) = (2 * m).testBit (k + 1) := by
  rw [Nat.testBit_succ, Nat.testBit_succ]
  congr 1
  omega
theorem low_and {i m : Nat} (hi : i < 64) (hm : 2 * m + 1 < 2 ^ (64 - i)) : (2 ^ i * (2 * m + 1)) &&& (18446744073709551616 - 2 ^ i * (2 * m + 1)) = 2 ^ i := by
  have e : 18446744073709551616 - 2 ^ i * (2 * m + 1) = 2 ^ i * (2 ^ (64 - i) - (2 * m + 1)) := by
    rw [Nat.mul_sub, ← Nat.pow_add, show i + (64 - i) = 64 by omega]
  rw [e]
  apply Nat.eq_of_testBit_eq
  intro j
  rw [Nat.testBit_and, Nat.testBit_two_pow_mul, Nat.testBit_two_pow_mul, Nat.testBit_two_pow_sub_succ (by omega), Nat.testBit_two_pow]
  by_cases h1 : j < i
  · have : decide (j ≥ i) = false := by simp; omega
    rw [this]
    simp; omega
  · have : decide (j ≥ i) = true := by simp; omega
    rw [this]
    simp only [Bool.true_and]
    by_cases h2 : j = i
    · subst h2
      simp; omega
    · obtain ⟨k, hk⟩ : ∃ k, j - i = k + 1 := ⟨j - i - 1, by omega⟩
      rw [hk, low_odd]
      have : decide (i = j) = false := by simp; omega
      rw [this]
      cases (2 * m).testBit (k + 1) <;> simp
theorem low_pred {i m : Nat} (j : Nat) : ((2 ^ i * (2 * m + 1)) &&& (2 ^ i * (2 * m + 1) - 1)).testBit j = ((2 ^ i * (2 * m + 1)).testBit j && decide (i < j)) := by
  have hp : 0 < 2 ^ i := Nat.two_pow_pos i
  have e : 2 ^ i * (2 * m + 1) - 1 = 2 ^ i * (2 * m) + (2 ^ i - 1) := by rw [Nat.mul_add]; omega
  rw [e, Nat.testBit_and, Nat.testBit_two_pow_mul, Nat.testBit_two_pow_mul_add _ (by omega)]
  by_cases h1 : j < i
  · have : decide (j ≥ i) = false := by simp; omega
    rw [this]
    simp
  · have : decide (j ≥ i) = true := by simp; omega
    rw [this, if_neg h1]
    simp only [Bool.true_and]
    by_cases h2 : j = i
    · subst h2
      simp
    · obtain ⟨k, hk⟩ : ∃ k, j - i = k + 1 := ⟨j - i - 1, by omega⟩
      rw [hk, low_odd]
      have : decide (i < j) = true := by simp; omega
      rw [this]
      simp
theorem low_filter {s t i : Nat} (hi : i < 14) (h1 : ∀ j, j < i → s.testBit j = false) (h2 : s.testBit i = true) (h3 : ∀ j, t.testBit j = (s.testBit j && decide (i < j))) : bitsN s = i :: bitsN t := by
  have e : List.range 14 = [0, 1, 2, 3, 4, 5, 6, 7, 8, 9, 10, 11, 12, 13] := rfl
  unfold bitsN
  rw [e]
  simp only [List.filter, h3]
  have hc : i = 0 ∨ i = 1 ∨ i = 2 ∨ i = 3 ∨ i = 4 ∨ i = 5 ∨ i = 6 ∨ i = 7 ∨ i = 8 ∨ i = 9 ∨ i = 10 ∨ i = 11 ∨ i = 12 ∨ i = 13 := by omega
  rcases hc with rfl | rfl | rfl | rfl | rfl | rfl | rfl | rfl | rfl | rfl | rfl | rfl | rfl | rfl <;> simp [h1, h2]
theorem low_ok {s : Nat} (h0 : 0 < s) (h : s < 16384) : lowN s < 14 ∧ s &&& (18446744073709551616 - s) = 2 ^ lowN s ∧ bitsN s = lowN s :: bitsN (s &&& (s - 1)) ∧ (s &&& (s - 1)) < s := by
  obtain ⟨i, m, hs⟩ := low_split s s (Nat.le_refl _) h0
  have hp : 2 ^ i ≤ s := by rw [hs]; exact Nat.le_mul_of_pos_right _ (by omega)
  have hi : i < 14 := by
    apply Nat.lt_of_not_le
    intro hge
    have : 2 ^ 14 ≤ 2 ^ i := Nat.pow_le_pow_right (by omega) hge
    omega
  have hm : 2 * m + 1 ≤ s := by rw [hs]; exact Nat.le_mul_of_pos_left _ (Nat.two_pow_pos i)
  have hm2 : 2 * m + 1 < 2 ^ (64 - i) := by
    have : 2 ^ 14 ≤ 2 ^ (64 - i) := Nat.pow_le_pow_right (by omega) (by omega)
    omega
  have ha := low_and (by omega) hm2
  rw [← hs] at ha
  have hl : lowN s = i := by unfold lowN; rw [ha]; exact Nat.log2_two_pow
  rw [hl]
  refine ⟨hi, ha, low_filter hi (fun j hj => ?_) ?_ (fun j => ?_), ?_⟩
  · rw [hs, Nat.testBit_two_pow_mul]
    have : decide (j ≥ i) = false := by simp; omega
    rw [this]; rfl
  · rw [hs, Nat.testBit_two_pow_mul]
    simp
  · have := low_pred (i := i) (m := m) j
    rw [← hs] at this
    exact this
  · have : s &&& (s - 1) ≤ s - 1 := Nat.and_le_right
    omega
theorem bitsN_zero : bitsN 0 = [] := by decide +kernel
theorem set_lt {L : List (Nat × E)} {nv na : Nat} (hv : nv ≤ 12) (ha : na ≤ 2) (h : ∀ x ∈ L, nodeB nv na x.2 = true) : orF (fun x => bitE x.2) L < 16384 := by
  apply Nat.lt_pow_two_of_testBit (n := 14)
  intro i hi
  cases hb : (orF (fun x : Nat × E => bitE x.2) L).testBit i
  · rfl
  · obtain ⟨x, hx, hxb⟩ := (orF_bit (fun x : Nat × E => bitE x.2) i L).1 hb
    have := placeE_lt hv ha (h x hx) ((bitE_bit x.2 i).1 hxb)
    omega

end Go.Proofs.YtbifbmpflhdijaaDoor

/- Trees that are compared by a list of waiting pairs and a union-find: the pure facts. -/
import Derived.Test.YtjmfnpljkiobkaaTrS
namespace Go.Proofs.Ytjmfnpljkiobkaa
open Go.RowKit Go.ChangeMaps
set_option linter.unusedVariables false

section
variable {kd : Addr → List Addr} {kn : Addr → Int × Int}
/-- The trees at two addresses agree down to depth d. -/
def AgN (kd : Addr → List Addr) (kn : Addr → Int × Int) : Nat → Addr → Addr → Prop
  | 0 => fun _ _ => True
  | d + 1 => fun x y => kn x = kn y ∧ (kd x).length = (kd y).length ∧ ∀ (i : Nat) (a b : Addr), (kd x)[i]? = some a → (kd y)[i]? = some b → AgN kd kn d a b
theorem AgN.eqv : ∀ d, Eqv (AgN kd kn d)
  | 0 => ⟨fun _ => trivial, fun _ => trivial, fun _ _ => trivial⟩
  | d + 1 => by
    have ih : Eqv (AgN kd kn d) := AgN.eqv d
    refine ⟨fun a => ⟨rfl, rfl, fun i x y hx hy => ?_⟩, fun h => ⟨h.1.symm, h.2.1.symm, fun i x y hx hy => ih.symm (h.2.2 i y x hy hx)⟩, fun h k => ⟨h.1.trans k.1, h.2.1.trans k.2.1, fun i x z hx hz => ?_⟩⟩
    · rw [hx] at hy; cases hy; exact ih.refl _
    · rename_i a b c
      have hlt := (List.getElem?_eq_some_iff.1 hx).1
      have hb : i < (kd b).length := by rw [← h.2.1]; exact hlt
      exact ih.trans (h.2.2 i x _ hx (List.getElem?_eq_getElem hb)) (k.2.2 i _ z (List.getElem?_eq_getElem hb) hz)

/-- Two lists of trees agree. -/
def LAg (kd : Addr → List Addr) (kn : Addr → Int × Int) (l r : List Addr) : Prop := l.length = r.length ∧ ∀ (i : Nat) (a b : Addr), l[i]? = some a → r[i]? = some b → ∀ d, AgN kd kn d a b
theorem LAg.kids {l r : List Addr} (h : LAg kd kn l r) {i : Nat} {x y : Addr} (hx : l[i]? = some x) (hy : r[i]? = some y) : kn x = kn y ∧ LAg kd kn (kd x) (kd y) := by
  have h1 := h.2 i x y hx hy
  exact ⟨(h1 1).1, (h1 1).2.1, fun j a b ha hb d => (h1 (d + 1)).2.2 j a b ha hb⟩

/-- The pairs that were united: every equivalence that holds for them holds for what the map says. -/
def Gen (L : List (Addr × Addr)) (f : Addr → Option Addr) : Prop := ∀ Q, Eqv Q → (∀ z ∈ L, Q z.1 z.2) → HoldsF f Q
def Dn (kd : Addr → List Addr) (kn : Addr → Int × Int) (L : List (Addr × Addr)) (u v : Addr) : Prop := (kn u = kn v ∧ kd u = [] ∧ kd v = []) ∨ ∀ Q, Eqv Q → (∀ z ∈ L, Q z.1 z.2) → Q u v
theorem Dn.mono {L : List (Addr × Addr)} {u v : Addr} (h : Dn kd kn L u v) (z : Addr × Addr) : Dn kd kn (z :: L) u v := by
  rcases h with h | h
  · exact .inl h
  · exact .inr fun Q hQ hL => h Q hQ fun y hy => hL y (by simp [hy])
def DnL (kd : Addr → List Addr) (kn : Addr → Int × Int) (L : List (Addr × Addr)) (l r : List Addr) : Prop := l.length = r.length ∧ ∀ (i : Nat) (a b : Addr), l[i]? = some a → r[i]? = some b → Dn kd kn L a b
theorem DnL.mono {L : List (Addr × Addr)} {l r : List Addr} (h : DnL kd kn L l r) (z : Addr × Addr) : DnL kd kn (z :: L) l r := ⟨h.1, fun i a b ha hb => (h.2 i a b ha hb).mono z⟩
/-- What is still owed waits. -/
structure Owed (kd : Addr → List Addr) (kn : Addr → Int × Int) (L : List (Addr × Addr)) (A B : List Addr) (ws : List (List Addr × List Addr)) : Prop where
  mem : ∀ z ∈ L, kn z.1 = kn z.2 ∧ (DnL kd kn L (kd z.1) (kd z.2) ∨ (kd z.1, kd z.2) ∈ ws)
  root : DnL kd kn L A B ∨ (A, B) ∈ ws
  same : LAg kd kn A B → ∀ p ∈ ws, LAg kd kn p.1 p.2
theorem Owed.pay {L : List (Addr × Addr)} {A B l r : List Addr} {ws : List (List Addr × List Addr)} (h : Owed kd kn L A B ((l, r) :: ws)) (hd : DnL kd kn L l r) : Owed kd kn L A B ws := by
  refine ⟨fun z hz => ⟨(h.mem z hz).1, ?_⟩, ?_, fun hA p hp => h.same hA p (by simp [hp])⟩
  · rcases (h.mem z hz).2 with h1 | h1
    · exact .inl h1
    · rcases List.mem_cons.1 h1 with h2 | h2
      · left
        rw [Prod.mk.injEq] at h2
        rw [h2.1, h2.2]
        exact hd
      · exact .inr h2
  · rcases h.root with h1 | h1
    · exact .inl h1
    · rcases List.mem_cons.1 h1 with h2 | h2
      · left
        rw [Prod.mk.injEq] at h2
        rw [h2.1, h2.2]
        exact hd
      · exact .inr h2
theorem Owed.add {L : List (Addr × Addr)} {A B l r : List Addr} {ws : List (List Addr × List Addr)} (h : Owed kd kn L A B ((l, r) :: ws)) {i : Nat} {x y : Addr} (hx : l[i]? = some x) (hy : r[i]? = some y) (hk : kn x = kn y) :
    Owed kd kn ((x, y) :: L) A B ((l, r) :: (ws ++ [(kd x, kd y), ([], [])])) := by
  have hsub : ∀ p, p ∈ (l, r) :: ws → p ∈ (l, r) :: (ws ++ [(kd x, kd y), ([], [])]) := fun p hp => by
    rcases List.mem_cons.1 hp with h1 | h1
    · simp [h1]
    · simp [h1]
  refine ⟨fun z hz => ?_, ?_, fun hA p hp => ?_⟩
  · rcases List.mem_cons.1 hz with rfl | hz
    · exact ⟨hk, .inr (by simp)⟩
    · obtain ⟨h1, h2⟩ := h.mem z hz
      refine ⟨h1, ?_⟩
      rcases h2 with h2 | h2
      · exact .inl (h2.mono _)
      · exact .inr (hsub _ h2)
  · rcases h.root with h1 | h1
    · exact .inl (h1.mono _)
    · exact .inr (hsub _ h1)
  · rcases List.mem_cons.1 hp with rfl | hp
    · exact h.same hA _ (by simp)
    · rcases List.mem_append.1 hp with hp | hp
      · exact h.same hA _ (by simp [hp])
      · have h3 := ((h.same hA (l, r) (by simp)).kids hx hy).2
        simp at hp
        rcases hp with rfl | rfl
        · exact h3
        · exact ⟨rfl, fun i a b ha => by simp at ha⟩
/-- Nothing is owed: all that was united agrees, and so do the lists. -/
theorem Owed.done {L : List (Addr × Addr)} {A B : List Addr} (h : Owed kd kn L A B []) : LAg kd kn A B := by
  have hL : ∀ d, ∀ z ∈ L, AgN kd kn d z.1 z.2 := by
    intro d
    induction d with
    | zero => intro z _; trivial
    | succ d ih =>
      intro z hz
      obtain ⟨h1, h2⟩ := h.mem z hz
      rcases h2 with h2 | h2
      · refine ⟨h1, h2.1, fun i a b ha hb => ?_⟩
        rcases h2.2 i a b ha hb with h3 | h3
        · cases d with
          | zero => trivial
          | succ d => exact ⟨h3.1, by rw [h3.2.1, h3.2.2], fun j u v hu => by rw [h3.2.1] at hu; simp at hu⟩
        · exact h3 _ (AgN.eqv d) ih
      · simp at h2
  rcases h.root with h1 | h1
  · refine ⟨h1.1, fun i a b ha hb d => ?_⟩
    rcases h1.2 i a b ha hb with h3 | h3
    · cases d with
      | zero => trivial
      | succ d => exact ⟨h3.1, by rw [h3.2.1, h3.2.2], fun j u v hu => by rw [h3.2.1] at hu; simp at hu⟩
    · exact h3 _ (AgN.eqv d) (hL d)
  · simp at h1

/-- The size of a list of trees. -/
def sumS (sz : Addr → Nat) : List Addr → Nat
  | [] => 0
  | x :: xs => sz x + sumS sz xs
/-- What the waiting pairs weigh. -/
def wei (sz : Addr → Nat) : List (List Addr × List Addr) → Nat
  | [] => 0
  | p :: ps => 2 * sumS sz p.1 + 1 + wei sz ps
theorem wei_app (sz : Addr → Nat) : ∀ ps qs, wei sz (ps ++ qs) = wei sz ps + wei sz qs
  | [], qs => by simp [wei]
  | p :: ps, qs => by
    rw [List.cons_append, wei, wei, wei_app sz ps qs]; omega
theorem sumS_drop (sz : Addr → Nat) : ∀ (l : List Addr) (i : Nat) (x : Addr), l[i]? = some x → sumS sz (l.drop i) = sz x + sumS sz (l.drop (i + 1))
  | [], i, x, h => by simp at h
  | y :: l, 0, x, h => by simp at h; subst h; rfl
  | y :: l, i + 1, x, h => by simpa using sumS_drop sz l i x (by simpa using h)
end

/-- The least measure. -/
theorem least_ex {P : Nat → Prop} (h : ∃ m, P m) : ∃ m, P m ∧ ∀ k, P k → m ≤ k := by
  obtain ⟨m, hm⟩ := h
  induction m using Nat.strongRecOn with
  | ind m ih =>
    by_cases h1 : ∃ k, k < m ∧ P k
    · obtain ⟨k, hk, hp⟩ := h1
      exact ih k hk hp
    · exact ⟨m, hm, fun k hk => Nat.le_of_not_lt fun hlt => h1 ⟨k, hlt, hk⟩⟩
theorem mu_ex {σ : Type} (R : σ → Nat → Prop) : ∃ mu : σ → Nat, ∀ s, (∃ m, R s m) → R s (mu s) ∧ ∀ k, R s k → mu s ≤ k := by
  refine ⟨fun s => @dite _ (∃ m, R s m) (Classical.propDecidable _) (fun h => Classical.choose (least_ex h)) (fun _ => 0), fun s h => ?_⟩
  simp only [h, dite_true]
  exact Classical.choose_spec (least_ex h)

end Go.Proofs.Ytjmfnpljkiobkaa

/- A range over a function whose iterator is itself a loop over an iterator: the contract tells the iterator that a round leaves every block from the iterator's own world on as it was. -/
import Derived.RangeFuncNested
import Derived.RangeFuncBound
import Derived.RangeFuncCalls
import Derived.RangeFuncLeaves
import Derived.RangeFuncBox
import Derived.Shelf.Abstract
import Derived.Test.YtodihpnnajlkdaaDoorProg
namespace Go.Proofs.YtodihpnnajlkdaaDoor
open Go.RowKit Go.Shelf
set_option linter.unusedVariables false

/-- The blocks of D lie as they lay. -/
structure Stays (D : Nat → Prop) (W W' : World) : Prop where
  size : W.heap.size ≤ W'.heap.size
  same : ∀ (k : Nat) (o : Obj), D k → W.heap[k]? = some o → W'.heap[k]? = some o
theorem Stays.refl (D : Nat → Prop) (W : World) : Stays D W W := ⟨Nat.le_refl _, fun _ _ _ h => h⟩
theorem Stays.trans {D : Nat → Prop} {X Y Z : World} (h : Stays D X Y) (k : Stays D Y Z) : Stays D X Z := ⟨Nat.le_trans h.size k.size, fun i o hB hi => k.same i o hB (h.same i o hB hi)⟩
theorem Stays.mono {D E : Nat → Prop} {W W' : World} (h : Stays D W W') (hc : ∀ k, k < W.heap.size → E k → D k) : Stays E W W' := ⟨h.size, fun k o hB hk => h.same k o (hc k (Array.getElem?_eq_some_iff.1 hk).1 hB) hk⟩
theorem Stays.alloc {D : Nat → Prop} {W W' : World} (h : Stays D W W') (o : Obj) : Stays D W (W'.alloc o) := ⟨by have := h.size; simp; omega, fun k q hB hk => by
  have h1 := h.same k q hB hk
  rw [Below.heap_alloc _ _ _ (Array.getElem?_eq_some_iff.1 h1).1]; exact h1⟩
theorem Stays.setCell {D : Nat → Prop} {W W' : World} (h : Stays D W W') {p : Addr} (hp : ¬ D p.block) (v : Value) : Stays D W (W'.setCell p v) := ⟨by have := h.size; simpa [World.setCell] using this, fun k q hB hk => by
  rw [Below.heap_setCell _ _ _ _ (fun e => hp (by rw [← e]; exact hB))]; exact h.same k q hB hk⟩
theorem Stays.putObj {D : Nat → Prop} {W W' : World} (h : Stays D W W') {l : Nat} (hl : ¬ D l) (o : Obj) : Stays D W (W'.putObj l o) := ⟨by have := h.size; simpa [World.putObj] using this, fun k q hB hk => by
  rw [World.putObj_heap_other (fun e => hl (by rw [← e]; exact hB))]; exact h.same k q hB hk⟩
theorem Stays.drew {D : Nat → Prop} {W W' : World} (h : Stays D W W') : Stays D W W'.drew := ⟨h.size, h.same⟩
/-- What a callee leaves that writes new blocks alone. -/
theorem Stays.below {D : Nat → Prop} {W W' W2 : World} (h : Stays D W W') (hb : Below W'.heap.size W' W2) : Stays D W W2 := ⟨Nat.le_trans h.size hb.size, fun k q hB hk => by
  have h1 := h.same k q hB hk
  rw [hb.block k (Array.getElem?_eq_some_iff.1 h1).1]; exact h1⟩
theorem Stays.at {D : Nat → Prop} {W W' : World} (h : Stays D W W') {k : Nat} (hD : D k) (hk : k < W.heap.size) : W'.heap[k]? = W.heap[k]? := by
  obtain ⟨o, ho⟩ : ∃ o, W.heap[k]? = some o := ⟨_, Array.getElem?_eq_getElem hk⟩
  rw [ho]; exact h.same k o hD ho
/-- What speaks of cells alone abides new blocks. -/
theorem own_below {β : Type} {B : Nat} {I : β → World → Prop} (h : OwnFrom B I) {s : β} {W W' : World} (hs : I s W) (hb : Below W.heap.size W W') : I s W' :=
  h s W W' none hs ⟨hb.os, hb.tape, hb.output, hb.size, fun k hk _ => hb.block k hk⟩ fun r e => by cases e

theorem own_later {β : Type} {B C : Nat} {I : β → World → Prop} (h : OwnFrom B I) (hc : B ≤ C) : OwnFrom C I := fun s X Y row hs hg hr => h s X Y row hs hg fun r e => ⟨Nat.le_trans hc (hr r e).1, (hr r e).2⟩
theorem own_at {β : Type} {B k : Nat} (o : Obj) (hk : k < B) : OwnFrom B (fun (_ : β) W => W.heap[k]? = some o) := fun s X Y row hs hg hr =>
  (hg.block k (Array.getElem?_eq_some_iff.1 hs).1 fun e => by have := (hr k e.symm).1; omega).trans hs

variable {P : Program}

/-- What an iterator owes, and what a round owes it: the blocks of D, and whatever lay when the iterator began, stay, but for the record of the loop. -/
def SeqL {α : Type} (n : Nat) (P : Program) (g : Nat) (lb : Array Value) (encs : α → Array Value) (D : Nat → Prop) (S Sp : List α → Prop) (w : World) : Prop :=
  ∀ (l : Nat) (J Jx : List α → World → Prop) (W : World), Below w.heap.size w W → l < W.heap.size → OwnFrom W.heap.size J → OwnFrom W.heap.size Jx →
    (∀ pre x W1, J pre W1 → YieldAt Fence.wide (n - 1) P l (encs x) W1 fun e W' =>
      ((e = .returned (.bool true) ∧ J (pre ++ [x]) W') ∨ (e = .returned (.bool false) ∧ Jx (pre ++ [x]) W')) ∧ Stays (fun k => D k ∨ W.heap.size ≤ k) W1 W') →
    J [] W →
    CallsIn Fence.wide n P g (#[.func (.yield l) #[] #[]] ++ lb) W fun e W' => (∃ v, e = .returned v) ∧ ((∃ xs, S xs ∧ J xs W') ∨ (∃ pre, Sp pre ∧ Jx pre W'))

/-- How a round's body may be left. -/
def postL {α : Type} (B : Nat) (D : Nat → Prop) (I : List α → World → Prop) (Ix : Code → List α → World → Prop) (xs : List α) (W : World) : Exit → Act → World → Prop
  | .normal, _, W' => Stays (fun k => D k ∨ B ≤ k) W W' ∧ I xs W'
  | .ret, _, W' => Stays (fun k => D k ∨ B ≤ k) W W' ∧ Ix .ret xs W'
  | _, _, _ => False

set_option maxHeartbeats 2000000 in
/-- **The caller's side.** -/
theorem wpIn_rangeL {α : Type} {n : Nat} {g : Operand} {ps : Array Tmp} {assign body : Code} {Q : Exit → Act → World → Prop} {a : Act} {w : World} (h1 : 1 ≤ n) {gf : Nat} {lb : Array Value}
    (hg : a.eval g = .func (.func gf) #[] lb) (eg : ∀ args w, (callFunc gf args).run P w = .ok (.enter gf args) w)
    {encs : α → Array Value} {D : Nat → Prop} {S Sp : List α → Prop} {w0 : World} (hseq : SeqL (n - 1) P gf lb encs D S Sp w0) (hD : ∀ k, D k → k < w.heap.size) (hb0 : Below w0.heap.size w0 w) (hps : ∀ x, (encs x).size = ps.size)
    (I : List α → World → Prop) (Ix : Code → List α → World → Prop) (hI : OwnFrom w.heap.size I) (hIx : ∀ c, OwnFrom w.heap.size (Ix c)) (h0 : I [] w) (a1 : α → Act)
    (hassign : ∀ (l : Nat) (x : α) (W : World) (K : Act → World → Prop), K (a1 x) W →
      assign.wpIn (Fence.wide.inRound l) (n - 1 - 1) P (Exit.then K (fun _ _ _ => False)) { tmps := (ps.zip (encs x)).foldl (fun t (p, v) => t.setIfInBounds p v) a.tmps, defers := [] } W)
    (hbody : ∀ (l : Nat) (pre : List α) (x : α) (W : World), I pre W → body.wpIn (Fence.wide.inRound l) (n - 1 - 1) P (postL w.heap.size D I Ix (pre ++ [x]) W) (a1 x) W)
    (hdone : ∀ (d : Nat) (xs : List α) (W : World), w.heap.size ≤ d → S xs → I xs W → W.heap[d]? = some (.deferred (some [])) → Q .normal { a with defers := { target := .collected d, args := #[] } :: a.defers } W)
    (hstop : ∀ (d : Nat) (c : Code) (pre : List α) (W : World), w.heap.size ≤ d → Sp pre → Ix c pre W → W.heap[d]? = some (.deferred (some [])) → c.wpIn Fence.wide n P Q { a with defers := { target := .collected d, args := #[] } :: a.defers } W) :
    (Code.rangeFunc g ps assign body).wpIn Fence.wide n P Q a w := by
  refine wpIn_rangeFunc fun fn hfn => ?_
  -- the record, in each of its states
  obtain ⟨R, hR⟩ : ∃ R : LoopState → Option Code → Loop, R = fun s p => { state := s, pending := p, fn, tmps := a.tmps, params := ps, assign, body, defers := w.heap.size } := ⟨_, rfl⟩
  obtain ⟨V, hV⟩ : ∃ V, (w.alloc (.deferred (some []))).alloc (.loop (R .ready none)) = V := ⟨_, rfl⟩
  have hz : V.heap.size = w.heap.size + 2 := by rw [← hV]; simp
  have hl0 : V.heap[w.heap.size + 1]? = some (.loop (R .ready none)) := by
    have h := World.alloc_heap_new (w.alloc (.deferred (some []))) (.loop (R .ready none))
    rw [World.size_alloc] at h
    rw [← hV]; exact h
  have hd0 : V.heap[w.heap.size]? = some (.deferred (some [])) := by
    rw [← hV, Below.heap_alloc _ _ _ (by simp)]; exact World.alloc_heap_new w _
  have hI0 : I [] V := by rw [← hV]; exact hI.alloc _ (hI.alloc _ h0)
  have hbV : Below w0.heap.size w0 V := by
    have h2 : Below w.heap.size w V := by rw [← hV]; exact ((Below.refl _ w).alloc (Nat.le_refl _) _).alloc (by simp) _
    exact hb0.trans (h2.mono hb0.size)
  refine ⟨w.heap.size + 1, [{ target := .collected w.heap.size, args := #[] }], V, { target := .fn (.func gf) lb, args := #[.func (.yield (w.heap.size + 1)) #[] #[]] }, V, gf,
    #[.func (.yield (w.heap.size + 1)) #[] #[]] ++ lb, V, ?_, ?_, fun f' hf' => trivial, ?_, fun _ => h1, ?_⟩
  · rw [← hV, hR]; exact run_enterLoop_outer _ _ _ _ _
  · simp only [resolve, hg]
    simp [go_sem]
  · simp [invoke, go_sem, eg]
  refine (hseq (w.heap.size + 1) (fun pre W => I pre W ∧ W.heap[w.heap.size + 1]? = some (.loop (R .ready none)) ∧ W.heap[w.heap.size]? = some (.deferred (some [])))
    (fun pre W => Ix .ret pre W ∧ W.heap[w.heap.size + 1]? = some (.loop (R .done (some .ret))) ∧ W.heap[w.heap.size]? = some (.deferred (some []))) V hbV (by omega)
    ((own_later hI (by omega)).and ((own_at _ (by omega)).and (own_at _ (by omega)))) ((own_later (hIx _) (by omega)).and ((own_at _ (by omega)).and (own_at _ (by omega)))) ?_ ⟨hI0, hl0, hd0⟩).mono ?_
  · rintro pre x W ⟨hi, hl, hd⟩
    have hy := run_yield (P := P) (args := encs x) hl (by rw [hR]; exact hps x)
    rw [hR] at hy
    refine ⟨fn, _, assign, body, hy, roundIn_of_wpIn hfn (hassign _ x W _ ?_)⟩
    refine ⟨_, run_beginRound hl (by rw [hR]), ?_⟩
    have hnD : ¬ (D (w.heap.size + 1) ∨ V.heap.size ≤ w.heap.size + 1) := fun h => by
      rcases h with h | h
      · have := hD _ h; omega
      · omega
    obtain ⟨U, hU⟩ : ∃ U, W.putObj (w.heap.size + 1) (.loop { R .ready none with state := .busy }) = U := ⟨_, rfl⟩
    have hlU : U.heap[w.heap.size + 1]? = some (.loop { R .ready none with state := .busy }) := by rw [← hU]; exact World.putObj_heap_same (Array.getElem?_eq_some_iff.1 hl).1
    have hdU : U.heap[w.heap.size]? = some (.deferred (some [])) := by rw [← hU, World.putObj_heap_other (by omega)]; exact hd
    have hsU : Stays (fun k => D k ∨ V.heap.size ≤ k) W U := by rw [← hU]; exact (Stays.refl _ _).putObj hnD _
    have hiU : I pre U := by rw [← hU]; exact hI.putObj _ hi (by omega) hl rfl
    rw [hU]
    -- how the round ends
    have fin : ∀ (j : Option Code) (X : World), Stays (fun k => D k ∨ w.heap.size ≤ k) U X → ∃ Y, (Instr.endRound (w.heap.size + 1) j).run P X = .ok (.bool j.isNone) Y ∧ Y = X.putObj (w.heap.size + 1) (.loop (R (if j.isNone then .ready else .done) j)) ∧
        Y.heap[w.heap.size + 1]? = some (.loop (R (if j.isNone then .ready else .done) j)) ∧ Y.heap[w.heap.size]? = some (.deferred (some [])) ∧ Stays (fun k => D k ∨ V.heap.size ≤ k) W Y ∧ X.heap[w.heap.size + 1]? = some (.loop { R .ready none with state := .busy }) := fun j X hX => by
      have hlX := hX.same _ _ (.inr (by omega)) hlU
      have hdX := hX.same _ _ (.inr (Nat.le_refl _)) hdU
      have he := run_endRound (P := P) j hlX
      rw [hR] at he
      refine ⟨_, he, by rw [hR], ?_, ?_, ?_, hlX⟩
      · rw [World.putObj_heap_same (Array.getElem?_eq_some_iff.1 hlX).1, hR]
      · rw [World.putObj_heap_other (by omega)]; exact hdX
      · exact (hsU.trans (hX.mono fun k _ h => h.elim .inl fun h => .inr (by omega))).putObj hnD _
    refine wpIn_mono (hbody _ pre x U hiU) ?_
    rintro e a3 X hp
    cases e with
    | normal =>
      obtain ⟨h2, h4⟩ := hp
      obtain ⟨Y, he, hY, hlY, hdY, hsY, hlX⟩ := fin none X h2
      have hiY : I (pre ++ [x]) Y := by rw [hY]; exact hI.putObj _ h4 (by omega) hlX rfl
      exact ⟨_, _, he, .inl ⟨rfl, hiY, hlY, hdY⟩, hsY⟩
    | ret =>
      obtain ⟨h2, h3⟩ := hp
      obtain ⟨Y, he, hY, hlY, hdY, hsY, hlX⟩ := fin (some .ret) X h2
      have hiY : Ix .ret (pre ++ [x]) Y := by rw [hY]; exact (hIx _).putObj _ h3 (by omega) hlX rfl
      exact ⟨_, _, he, .inr ⟨rfl, hiY, hlY, hdY⟩, hsY⟩
    | exit id => exact hp.elim
    | goto t => exact hp.elim
    | panic ch => exact hp.elim
    | outgrown => exact hp.elim
  · rintro e X ⟨⟨v, rfl⟩, (⟨xs, hS, hi, hl, hd⟩ | ⟨pre, hS, hi, hl, hd⟩)⟩
    · have he := run_endLoop (P := P) hl (by rw [hR]; simp)
      rw [hR] at he
      exact ⟨none, _, he, hdone _ xs _ (Nat.le_refl _) hS (hI.putObj _ hi (by omega) hl rfl) ((World.putObj_heap_other (by omega)).trans hd)⟩
    · have he := run_endLoop (P := P) hl (by rw [hR]; simp)
      rw [hR] at he
      exact ⟨some .ret, _, he, hstop _ .ret pre _ (Nat.le_refl _) hS ((hIx _).putObj _ hi (by omega) hl rfl) ((World.putObj_heap_other (by omega)).trans hd)⟩

end Go.Proofs.YtodihpnnajlkdaaDoor

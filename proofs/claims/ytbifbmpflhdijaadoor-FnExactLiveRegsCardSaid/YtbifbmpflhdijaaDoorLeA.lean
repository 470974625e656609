/- A range over a function whose iterator is itself a loop over an iterator: the contract tells the iterator that a round leaves every block from the iterator's own world on as it was. -/
import Derived.RangeFuncNested
import Derived.RangeFuncBound
import Derived.RangeFuncCalls
import Derived.RangeFuncLeaves
import Derived.RangeFuncBox
import Derived.Shelf.Abstract
import Derived.Test.YtbifbmpflhdijaaDoorProg
import Derived.OwnWalkIn
import Derived.TacticsInMore
import Derived.LoopNIn
import Derived.LoopIn
import Derived.Shelf.RegionOpen
import Derived.WalkKit
import Derived.Test.YtbifbmpflhdijaaDoorRcI
import Derived.Test.YtbifbmpflhdijaaDoorLvP
import Derived.Test.YtbifbmpflhdijaaDoorBb
import Derived.Deep.RegionHeld
import Derived.OrdersIn
import Derived.TacticsIn
import Derived.Deep.AppendLies
import Derived.Deep.RegionHeld3
namespace Go.Proofs.YtbifbmpflhdijaaDoor
open Go.RowKit Go.Shelf
set_option linter.unusedVariables false

/-- The blocks of D lie as they lay. -/
structure Stays (D : Nat → Prop) (W W' : World) : Prop where
  size : W.heap.size ≤ W'.heap.size
  same : ∀ (k : Nat) (o : Obj), D k → W.heap[k]? = some o → W'.heap[k]? = some o
theorem Stays.refl (D : Nat → Prop) (W : World) : Stays D W W := ⟨Nat.le_refl _, fun _ _ _ h => h⟩
theorem Stays.trans {D : Nat → Prop} {X Y Z : World} (h : Stays D X Y) (k : Stays D Y Z) : Stays D X Z := ⟨Nat.le_trans h.size k.size, fun i o hB hi => k.same i o hB (h.same i o hB hi)⟩
theorem Stays.mono {D E : Nat → Prop} {W W' : World} (h : Stays D W W') (hc : ∀ k, k < W.heap.size → E k → D k) : Stays E W W' := ⟨h.size, fun k o hB hk => h.same k o (hc k (Array.getElem?_eq_some_iff.1 hk).1 hB) hk⟩
theorem Stays.alloc {D : Nat → Prop} {W W' : World} (h : Stays D W W') (o : Obj) : Stays D W (W'.alloc o) := ⟨by have := h.size; simp; omega, fun k q hB hk => by
  have h1 := h.same k q hB hk
  rw [Below.heap_alloc _ _ _ (Array.getElem?_eq_some_iff.1 h1).1]; exact h1⟩
theorem Stays.setCell {D : Nat → Prop} {W W' : World} (h : Stays D W W') {p : Addr} (hp : ¬ D p.block) (v : Value) : Stays D W (W'.setCell p v) := ⟨by have := h.size; simpa [World.setCell] using this, fun k q hB hk => by
  rw [Below.heap_setCell _ _ _ _ (fun e => hp (by rw [← e]; exact hB))]; exact h.same k q hB hk⟩
theorem Stays.putObj {D : Nat → Prop} {W W' : World} (h : Stays D W W') {l : Nat} (hl : ¬ D l) (o : Obj) : Stays D W (W'.putObj l o) := ⟨by have := h.size; simpa [World.putObj] using this, fun k q hB hk => by
  rw [World.putObj_heap_other (fun e => hl (by rw [← e]; exact hB))]; exact h.same k q hB hk⟩
theorem Stays.drew {D : Nat → Prop} {W W' : World} (h : Stays D W W') : Stays D W W'.drew := ⟨h.size, h.same⟩
/-- What a callee leaves that writes new blocks alone. -/
theorem Stays.below {D : Nat → Prop} {W W' W2 : World} (h : Stays D W W') (hb : Below W'.heap.size W' W2) : Stays D W W2 := ⟨Nat.le_trans h.size hb.size, fun k q hB hk => by
  have h1 := h.same k q hB hk
  rw [hb.block k (Array.getElem?_eq_some_iff.1 h1).1]; exact h1⟩
theorem Stays.at {D : Nat → Prop} {W W' : World} (h : Stays D W W') {k : Nat} (hD : D k) (hk : k < W.heap.size) : W'.heap[k]? = W.heap[k]? := by
  obtain ⟨o, ho⟩ : ∃ o, W.heap[k]? = some o := ⟨_, Array.getElem?_eq_getElem hk⟩
  rw [ho]; exact h.same k o hD ho
/-- What speaks of cells alone abides new blocks. -/
theorem own_below {β : Type} {B : Nat} {I : β → World → Prop} (h : OwnFrom B I) {s : β} {W W' : World} (hs : I s W) (hb : Below W.heap.size W W') : I s W' :=
  h s W W' none hs ⟨hb.os, hb.tape, hb.output, hb.size, fun k hk _ => hb.block k hk⟩ fun r e => by cases e

theorem own_later {β : Type} {B C : Nat} {I : β → World → Prop} (h : OwnFrom B I) (hc : B ≤ C) : OwnFrom C I := fun s X Y row hs hg hr => h s X Y row hs hg fun r e => ⟨Nat.le_trans hc (hr r e).1, (hr r e).2⟩
theorem own_at {β : Type} {B k : Nat} (o : Obj) (hk : k < B) : OwnFrom B (fun (_ : β) W => W.heap[k]? = some o) := fun s X Y row hs hg hr =>
  (hg.block k (Array.getElem?_eq_some_iff.1 hs).1 fun e => by have := (hr k e.symm).1; omega).trans hs

variable {P : Program}

/-- What an iterator owes, and what a round owes it: the blocks of D, and whatever lay when the iterator began, stay, but for the record of the loop. -/
def SeqL {α : Type} (n : Nat) (P : Program) (g : Nat) (lb : Array Value) (encs : α → Array Value) (D : Nat → Prop) (S Sp : List α → Prop) (w : World) : Prop :=
  ∀ (l : Nat) (J Jx : List α → World → Prop) (W : World), Below w.heap.size w W → l < W.heap.size → OwnFrom W.heap.size J → OwnFrom W.heap.size Jx →
    (∀ pre x W1, J pre W1 → YieldAt Fence.wide (n - 1) P l (encs x) W1 fun e W' =>
      ((e = .returned (.bool true) ∧ J (pre ++ [x]) W') ∨ (e = .returned (.bool false) ∧ Jx (pre ++ [x]) W')) ∧ Stays (fun k => D k ∨ W.heap.size ≤ k) W1 W') →
    J [] W →
    CallsIn Fence.wide n P g (#[.func (.yield l) #[] #[]] ++ lb) W fun e W' => (∃ v, e = .returned v) ∧ ((∃ xs, S xs ∧ J xs W') ∨ (∃ pre, Sp pre ∧ Jx pre W'))

/-- How a round's body may be left. -/
def postL {α : Type} (B : Nat) (D : Nat → Prop) (I : List α → World → Prop) (Ix : Code → List α → World → Prop) (xs : List α) (W : World) : Exit → Act → World → Prop
  | .normal, _, W' => Stays (fun k => D k ∨ B ≤ k) W W' ∧ I xs W'
  | .ret, _, W' => Stays (fun k => D k ∨ B ≤ k) W W' ∧ Ix .ret xs W'
  | _, _, _ => False

set_option maxHeartbeats 2000000 in
/-- **The caller's side.** -/
theorem wpIn_rangeL {α : Type} {n : Nat} {g : Operand} {ps : Array Tmp} {assign body : Code} {Q : Exit → Act → World → Prop} {a : Act} {w : World} (h1 : 1 ≤ n) {gf : Nat} {lb : Array Value}
    (hg : a.eval g = .func (.func gf) #[] lb) (eg : ∀ args w, (callFunc gf args).run P w = .ok (.enter gf args) w)
    {encs : α → Array Value} {D : Nat → Prop} {S Sp : List α → Prop} {w0 : World} (hseq : SeqL (n - 1) P gf lb encs D S Sp w0) (hD : ∀ k, D k → k < w.heap.size) (hb0 : Below w0.heap.size w0 w) (hps : ∀ x, (encs x).size = ps.size)
    (I : List α → World → Prop) (Ix : Code → List α → World → Prop) (hI : OwnFrom w.heap.size I) (hIx : ∀ c, OwnFrom w.heap.size (Ix c)) (h0 : I [] w) (a1 : α → Act)
    (hassign : ∀ (l : Nat) (x : α) (W : World) (K : Act → World → Prop), K (a1 x) W →
      assign.wpIn (Fence.wide.inRound l) (n - 1 - 1) P (Exit.then K (fun _ _ _ => False)) { tmps := (ps.zip (encs x)).foldl (fun t (p, v) => t.setIfInBounds p v) a.tmps, defers := [] } W)
    (hbody : ∀ (l : Nat) (pre : List α) (x : α) (W : World), I pre W → body.wpIn (Fence.wide.inRound l) (n - 1 - 1) P (postL w.heap.size D I Ix (pre ++ [x]) W) (a1 x) W)
    (hdone : ∀ (d : Nat) (xs : List α) (W : World), w.heap.size ≤ d → S xs → I xs W → W.heap[d]? = some (.deferred (some [])) → Q .normal { a with defers := { target := .collected d, args := #[] } :: a.defers } W)
    (hstop : ∀ (d : Nat) (c : Code) (pre : List α) (W : World), w.heap.size ≤ d → Sp pre → Ix c pre W → W.heap[d]? = some (.deferred (some [])) → c.wpIn Fence.wide n P Q { a with defers := { target := .collected d, args := #[] } :: a.defers } W) :
    (Code.rangeFunc g ps assign body).wpIn Fence.wide n P Q a w := by
  refine wpIn_rangeFunc fun fn hfn => ?_
  -- the record, in each of its states
  obtain ⟨R, hR⟩ : ∃ R : LoopState → Option Code → Loop, R = fun s p => { state := s, pending := p, fn, tmps := a.tmps, params := ps, assign, body, defers := w.heap.size } := ⟨_, rfl⟩
  obtain ⟨V, hV⟩ : ∃ V, (w.alloc (.deferred (some []))).alloc (.loop (R .ready none)) = V := ⟨_, rfl⟩
  have hz : V.heap.size = w.heap.size + 2 := by rw [← hV]; simp
  have hl0 : V.heap[w.heap.size + 1]? = some (.loop (R .ready none)) := by
    have h := World.alloc_heap_new (w.alloc (.deferred (some []))) (.loop (R .ready none))
    rw [World.size_alloc] at h
    rw [← hV]; exact h
  have hd0 : V.heap[w.heap.size]? = some (.deferred (some [])) := by
    rw [← hV, Below.heap_alloc _ _ _ (by simp)]; exact World.alloc_heap_new w _
  have hI0 : I [] V := by rw [← hV]; exact hI.alloc _ (hI.alloc _ h0)
  have hbV : Below w0.heap.size w0 V := by
    have h2 : Below w.heap.size w V := by rw [← hV]; exact ((Below.refl _ w).alloc (Nat.le_refl _) _).alloc (by simp) _
    exact hb0.trans (h2.mono hb0.size)
  refine ⟨w.heap.size + 1, [{ target := .collected w.heap.size, args := #[] }], V, { target := .fn (.func gf) lb, args := #[.func (.yield (w.heap.size + 1)) #[] #[]] }, V, gf,
    #[.func (.yield (w.heap.size + 1)) #[] #[]] ++ lb, V, ?_, ?_, fun f' hf' => trivial, ?_, fun _ => h1, ?_⟩
  · rw [← hV, hR]; exact run_enterLoop_outer _ _ _ _ _
  · simp only [resolve, hg]
    simp [go_sem]
  · simp [invoke, go_sem, eg]
  refine (hseq (w.heap.size + 1) (fun pre W => I pre W ∧ W.heap[w.heap.size + 1]? = some (.loop (R .ready none)) ∧ W.heap[w.heap.size]? = some (.deferred (some [])))
    (fun pre W => Ix .ret pre W ∧ W.heap[w.heap.size + 1]? = some (.loop (R .done (some .ret))) ∧ W.heap[w.heap.size]? = some (.deferred (some []))) V hbV (by omega)
    ((own_later hI (by omega)).and ((own_at _ (by omega)).and (own_at _ (by omega)))) ((own_later (hIx _) (by omega)).and ((own_at _ (by omega)).and (own_at _ (by omega)))) ?_ ⟨hI0, hl0, hd0⟩).mono ?_
  · rintro pre x W ⟨hi, hl, hd⟩
    have hy := run_yield (P := P) (args := encs x) hl (by rw [hR]; exact hps x)
    rw [hR] at hy
    refine ⟨fn, _, assign, body, hy, roundIn_of_wpIn hfn (hassign _ x W _ ?_)⟩
    refine ⟨_, run_beginRound hl (by rw [hR]), ?_⟩
    have hnD : ¬ (D (w.heap.size + 1) ∨ V.heap.size ≤ w.heap.size + 1) := fun h => by
      rcases h with h | h
      · have := hD _ h; omega
      · omega
    obtain ⟨U, hU⟩ : ∃ U, W.putObj (w.heap.size + 1) (.loop { R .ready none with state := .busy }) = U := ⟨_, rfl⟩
    have hlU : U.heap[w.heap.size + 1]? = some (.loop { R .ready none with state := .busy }) := by rw [← hU]; exact World.putObj_heap_same (Array.getElem?_eq_some_iff.1 hl).1
    have hdU : U.heap[w.heap.size]? = some (.deferred (some [])) := by rw [← hU, World.putObj_heap_other (by omega)]; exact hd
    have hsU : Stays (fun k => D k ∨ V.heap.size ≤ k) W U := by rw [← hU]; exact (Stays.refl _ _).putObj hnD _
    have hiU : I pre U := by rw [← hU]; exact hI.putObj _ hi (by omega) hl rfl
    rw [hU]
    -- how the round ends
    have fin : ∀ (j : Option Code) (X : World), Stays (fun k => D k ∨ w.heap.size ≤ k) U X → ∃ Y, (Instr.endRound (w.heap.size + 1) j).run P X = .ok (.bool j.isNone) Y ∧ Y = X.putObj (w.heap.size + 1) (.loop (R (if j.isNone then .ready else .done) j)) ∧
        Y.heap[w.heap.size + 1]? = some (.loop (R (if j.isNone then .ready else .done) j)) ∧ Y.heap[w.heap.size]? = some (.deferred (some [])) ∧ Stays (fun k => D k ∨ V.heap.size ≤ k) W Y ∧ X.heap[w.heap.size + 1]? = some (.loop { R .ready none with state := .busy }) := fun j X hX => by
      have hlX := hX.same _ _ (.inr (by omega)) hlU
      have hdX := hX.same _ _ (.inr (Nat.le_refl _)) hdU
      have he := run_endRound (P := P) j hlX
      rw [hR] at he
      refine ⟨_, he, by rw [hR], ?_, ?_, ?_, hlX⟩
      · rw [World.putObj_heap_same (Array.getElem?_eq_some_iff.1 hlX).1, hR]
      · rw [World.putObj_heap_other (by omega)]; exact hdX
      · exact (hsU.trans (hX.mono fun k _ h => h.elim .inl fun h => .inr (by omega))).putObj hnD _
    refine wpIn_mono (hbody _ pre x U hiU) ?_
    rintro e a3 X hp
    cases e with
    | normal =>
      obtain ⟨h2, h4⟩ := hp
      obtain ⟨Y, he, hY, hlY, hdY, hsY, hlX⟩ := fin none X h2
      have hiY : I (pre ++ [x]) Y := by rw [hY]; exact hI.putObj _ h4 (by omega) hlX rfl
      exact ⟨_, _, he, .inl ⟨rfl, hiY, hlY, hdY⟩, hsY⟩
    | ret =>
      obtain ⟨h2, h3⟩ := hp
      obtain ⟨Y, he, hY, hlY, hdY, hsY, hlX⟩ := fin (some .ret) X h2
      have hiY : Ix .ret (pre ++ [x]) Y := by rw [hY]; exact (hIx _).putObj _ h3 (by omega) hlX rfl
      exact ⟨_, _, he, .inr ⟨rfl, hiY, hlY, hdY⟩, hsY⟩
    | exit id => exact hp.elim
    | goto t => exact hp.elim
    | panic ch => exact hp.elim
    | outgrown => exact hp.elim
  · rintro e X ⟨⟨v, rfl⟩, (⟨xs, hS, hi, hl, hd⟩ | ⟨pre, hS, hi, hl, hd⟩)⟩
    · have he := run_endLoop (P := P) hl (by rw [hR]; simp)
      rw [hR] at he
      exact ⟨none, _, he, hdone _ xs _ (Nat.le_refl _) hS (hI.putObj _ hi (by omega) hl rfl) ((World.putObj_heap_other (by omega)).trans hd)⟩
    · have he := run_endLoop (P := P) hl (by rw [hR]; simp)
      rw [hR] at he
      exact ⟨some .ret, _, he, hstop _ .ret pre _ (Nat.le_refl _) hS ((hIx _).putObj _ hi (by omega) hl rfl) ((World.putObj_heap_other (by omega)).trans hd)⟩

end Go.Proofs.YtbifbmpflhdijaaDoor

namespace Go.Proofs.YtbifbmpflhdijaaDoor
open Go.RowKit Go.Shelf
set_option linter.unusedVariables false

attribute [local go_sem] Oper.semAt_some

abbrev encE {n : Nat} (x : Fin n × Fin n) : Array Value := #[.int .i64 (x.1.val : Int), .int .i64 (x.2.val : Int)]
def valE {n : Nat} (x : Fin n × Fin n) : Nat × Nat := (x.1.val, x.2.val)
/-- Where the execution may go on behind instruction k. -/
def folAt (l : List Ins) (k : Nat) : List Nat := match l[k]? with | some x => folN x k | none => []
theorem folAt_at {l : List Ins} {k : Nat} {x : Ins} (h : l[k]? = some x) : folAt l k = folN x k := by unfold folAt; rw [h]
/-- The edges of the first k instructions. -/
def edgN (l : List Ins) : Nat → List (Nat × Nat)
  | 0 => []
  | k + 1 => edgN l k ++ (folAt l k).map fun t => (k, t)
theorem edgN_pre (l : List Ins) {k n : Nat} (h : k ≤ n) : edgN l k <+: edgN l n := by
  induction n with
  | zero => obtain rfl : k = 0 := by omega
            exact List.prefix_refl _
  | succ n ih =>
    by_cases e : k = n + 1
    · subst e; exact List.prefix_refl _
    · exact (ih (by omega)).trans (List.prefix_append _ _)
theorem edgN_part {l : List Ins} {k n j : Nat} {x : Ins} (hx : l[k]? = some x) (h : k < n) : edgN l k ++ ((folN x k).take j).map (fun t => (k, t)) <+: edgN l n := by
  refine List.IsPrefix.trans ?_ (edgN_pre l (Nat.succ_le_of_lt h))
  show _ <+: edgN l k ++ _
  rw [folAt_at hx]
  exact (List.prefix_append_right_inj _).2 ((List.take_prefix j _).map _)

set_option maxRecDepth 100000 in
set_option maxHeartbeats 8000000 in
theorem edg1_in {n : Nat} (m : Nat) (hm : 1 ≤ m) (lp Bn B : Nat) (D : Nat → Prop) (l : List Ins) (a : Option Addr) (c : Nat) (J Jx : List (Fin n × Fin n) → World → Prop) (hn : l.length = n) (hok : Okc l) (hJ : OwnFrom B J)
    (hY : ∀ pre x W1, J pre W1 → YieldAt Fence.wide (m - 1) Tryd.prog lp (encE x) W1 fun e W' =>
      ((e = .returned (.bool true) ∧ J (pre ++ [x]) W') ∨ (e = .returned (.bool false) ∧ Jx (pre ++ [x]) W')) ∧ Stays (fun k => D k ∨ B ≤ k) W1 W')
    (W : World) (hB : W.heap.size = B) (hDB : ∀ k, D k → k < B) (hBn : W.heap[Bn]? = some (.cells #[.slice a n c] 27 (0, 0))) (hDn : D Bn) (hL : NAt W D l a) (h0 : J [] W) :
    CallsIn Fence.wide m Tryd.prog 132 #[.func (.yield lp) #[] #[], .pointer (some ⟨Bn, 0, none⟩)] W fun e W' => (∃ v, e = .returned v) ∧
      ((∃ ys : List (Fin n × Fin n), ys.map valE = edgN l n ∧ J ys W') ∨ (∃ pre : List (Fin n × Fin n), pre.map valE <+: edgN l n ∧ Jx pre W')) := by
  refine callsIn_of_wp Tryd.func132 rfl trivial ?_ rfl
  simp only [Tryd.ntmps132, List.size_toArray, List.length_cons, List.length_nil, Nat.reduceAdd, Nat.reduceSub, Array.replicate_succ, Array.replicate_zero, List.push_toArray, List.append_toArray, List.nil_append, List.cons_append]
  have HY := Lib.hid hY
  have HJ := Lib.hid hJ
  have HN := Lib.hid hn
  have HO := Lib.hid hok
  have hn400 : n ≤ 400 := by rw [← hn]; exact hok.le
  have hBlt : Bn < W.heap.size := by rw [hB]; exact hDB _ hDn
  -- what stands in every world that a round has left
  have HS : Hid (∀ v, Stays D W v → v.cell? ⟨Bn, 0, none⟩ = some (.slice a n c) ∧ NAt v (fun b => b < v.heap.size) l a) := fun v hv => by
    refine ⟨?_, hL.wide (fun k hk => hv.at hk (by rw [hB]; exact hDB k hk)) fun k hk => Nat.lt_of_lt_of_le (by rw [hB]; exact hDB k hk) hv.size⟩
    rw [cell_at ((hv.at hDn hBlt).trans hBn)]; rfl
  have x0 := (HS.out W (Stays.refl _ _)).1
  clear hY hJ hn hok hBn hL
  gi_wp2
  gi_loopw [8] (fun p wr => ∃ (k : Nat) (pre : List (Fin n × Fin n)), k ≤ n ∧ p = .int .i64 (k : Int) ∧ pre.map valE = edgN l k ∧ J pre wr ∧ Stays D W wr) (fun p _ => n - (intOf p).toNat)
  case atStart => exact ⟨0, [], Nat.zero_le _, rfl, rfl, h0, Stays.refl _ _⟩
  case round =>
    obtain ⟨k, pre, hk, rfl, hpre, hJ1, hS1⟩ := hrel
    have HPRE := Lib.hid hpre
    have HJ1 := Lib.hid hJ1
    have HS1 := Lib.hid hS1
    have hzr := hS1.size
    obtain ⟨y0, hNA⟩ := HS.out wr hS1
    clear hpre hJ1 hS1 h0 x0
    by_cases hlt : k < n
    · obtain ⟨x, hx⟩ : ∃ x, l[k]? = some x := ⟨l[k]'(by rw [HN.out]; exact hlt), List.getElem?_eq_getElem _⟩
      have HX := Lib.hid hx
      have HF := Lib.hid (fol_one l a n c k x wr hNA HN.out HO.out hx)
      clear hx hNA
      gi_wp2_with (refine ⟨trivial, ?_⟩; gi_at_call 133; refine (callsIn_wide.2 HF.out).mono ?_; rintro e w1 ⟨ra, rc, rfl, hown, hb1⟩)
      obtain ⟨rl, hrl⟩ : ∃ rl, (natI (folN x k)).length = rl := ⟨_, rfl⟩
      have hrl2 : (folN x k).length = rl := by rw [← hrl, natI_len]
      have hrle : rl ≤ 2 := by rw [← hrl2]; exact folN_len x k
      have HRL := Lib.hid hrl2
      have HOWN := Lib.hid hown
      have HB1 := Lib.hid hb1
      rw [hrl]
      have hz1 := hb1.size
      have hS0 : ∀ g, wr.heap.size ≤ g → B ≤ g := fun g h => by omega
      have HR0 : Hid (∃ (j : Nat) (pre : List (Fin n × Fin n)), j ≤ rl ∧ Value.int .i64 0 = .int .i64 (j : Int) ∧ pre.map valE = edgN l k ++ ((folN x k).take j).map (fun t => (k, t)) ∧ J pre w1 ∧ Stays D W w1 ∧ Stays (fun k => D k ∨ B ≤ k) w1 w1) :=
        ⟨0, pre, Nat.zero_le _, rfl, by rw [HPRE.out]; simp, own_below HJ.out HJ1.out hb1, HS1.out.below hb1, Stays.refl _ _⟩
      clear hown hb1 hrl hrl2 HF HJ1 HS1 HPRE y0
      gi_wp2
      gi_loopw [15] (fun p wr2 => ∃ (j : Nat) (pre : List (Fin n × Fin n)), j ≤ rl ∧ p = .int .i64 (j : Int) ∧ pre.map valE = edgN l k ++ ((folN x k).take j).map (fun t => (k, t)) ∧ J pre wr2 ∧ Stays D W wr2 ∧ Stays (fun k => D k ∨ B ≤ k) w1 wr2) (fun p _ => rl - (intOf p).toNat)
      case atStart => exact HR0.out
      case round =>
        obtain ⟨j, pre, hj, rfl, hpre, hJ2, hS2, hS3⟩ := hrel
        have HPRE := Lib.hid hpre
        have HJ2 := Lib.hid hJ2
        have HS2 := Lib.hid hS2
        have HS3 := Lib.hid hS3
        clear hpre hJ2 hS2 hS3 HR0
        by_cases hlj : j < rl
        · obtain ⟨t, ht⟩ : ∃ t, (folN x k)[j]? = some t := ⟨(folN x k)[j]'(by rw [HRL.out]; exact hlj), List.getElem?_eq_getElem _⟩
          have htn : t < n := by rw [← HN.out]; exact HO.out.fol HX.out (List.mem_of_getElem? ht)
          obtain ⟨g, rfl, cr⟩ : ∃ g, ra = some ⟨g, 0, none⟩ ∧ wr.cell? ⟨g, j, none⟩ = some (.int .i64 (t : Int)) := by
            rcases HOWN.out.2 with ⟨e, e2⟩ | ⟨g, cap', cur, e, hb, hg, hn', hm', hc, ht'⟩
            · exact absurd e2 (by rw [natI_len, HRL.out]; omega)
            · injection e with e1 e2 e3
              subst e1
              refine ⟨g, rfl, ?_⟩
              have h1 : w1.cell? ⟨g, j, none⟩ = some (.int .i64 (t : Int)) := by
                rw [HOWN.out.cellAt j (by rw [natI_len, HRL.out]; omega)]
                unfold natI
                rw [List.getElem?_map, List.getElem?_map, ht]; rfl
              exact (World.cell?_of_block (w := w1) (a := ⟨g, j, none⟩) (HS3.out.at (.inr (by have := hS0 g hb; omega)) (Array.getElem?_eq_some_iff.1 hg).1)).trans h1
          have HPRE2 : Hid ((pre ++ [((⟨k, hlt⟩ : Fin n), (⟨t, htn⟩ : Fin n))]).map valE = edgN l k ++ ((folN x k).take (j + 1)).map (fun t => (k, t))) := by
            show List.map valE (pre ++ [((⟨k, hlt⟩ : Fin n), (⟨t, htn⟩ : Fin n))]) = _
            rw [List.map_append, HPRE.out, List.take_add_one, ht, List.append_assoc]
            simp [valE]
          obtain ⟨fn, tmps, assign, body, hy, hR⟩ := HY.out pre ((⟨k, hlt⟩ : Fin n), (⟨t, htn⟩ : Fin n)) wr HJ2.out
          have HR := Lib.hid hR
          dsimp only [encE] at hy
          clear hR ht HOWN HJ2 HPRE
          gi_wp2
          refine HR.out.mono ?_
          clear HR hy
          rintro e W3 ⟨(⟨rfl, hJ3⟩ | ⟨rfl, hJ3⟩), hst⟩
          · have HREL : Hid (∃ (j' : Nat) (pre' : List (Fin n × Fin n)), j' ≤ rl ∧ Value.int .i64 ((j : Int) + 1) = .int .i64 (j' : Int) ∧ pre'.map valE = edgN l k ++ ((folN x k).take j').map (fun t => (k, t)) ∧ J pre' W3 ∧ Stays D W W3 ∧ Stays (fun k => D k ∨ B ≤ k) w1 W3) :=
              ⟨j + 1, _, hlj, by go_num, HPRE2.out, hJ3, HS2.out.trans (hst.mono fun q _ h => .inl h), HS3.out.trans hst⟩
            clear hJ3 hst HPRE2 HS2 HS3
            gi_wp2
            go_roundw
            case rel => exact HREL.out
            case measure => simp [intOf]; omega
          · have HFIN : Hid (∃ pre : List (Fin n × Fin n), pre.map valE <+: edgN l n ∧ Jx pre W3) := ⟨_, by rw [HPRE2.out]; exact edgN_part HX.out hlt, hJ3⟩
            clear hJ3 hst HPRE2 HS2 HS3
            gi_wp2
            refine bodyPost_ret (results_none rfl _ _ _) rfl ?_
            exact ⟨⟨_, rfl⟩, .inr HFIN.out⟩
        · obtain rfl : j = rl := by omega
          have HREL : Hid (∃ (k' : Nat) (pre' : List (Fin n × Fin n)), k' ≤ n ∧ Value.int .i64 ((k : Int) + 1) = .int .i64 (k' : Int) ∧ pre'.map valE = edgN l k' ∧ J pre' wr ∧ Stays D W wr) := by
            refine ⟨k + 1, pre, hlt, by go_num, ?_, HJ2.out, HS2.out⟩
            rw [HPRE.out, List.take_of_length_le (by rw [HRL.out]; exact Nat.le_refl _)]
            show _ = edgN l k ++ _
            rw [folAt_at HX.out]
          clear HJ2 HPRE HS2 HS3 HOWN
          gi_wp2
          go_roundw
          case rel => exact HREL.out
          case measure => simp [intOf]; omega
    · obtain rfl : k = n := by omega
      have HFIN : Hid (∃ ys : List (Fin k × Fin k), ys.map valE = edgN l k ∧ J ys wr) := ⟨pre, HPRE.out, HJ1.out⟩
      clear HJ1 HPRE HS1 y0 hNA
      gi_wp2
      go_end0
      exact ⟨⟨_, rfl⟩, .inl HFIN.out⟩

theorem edges_in (n : Nat) (a : Option Addr) (m c : Nat) (w : World) :
    CallsIn Fence.wide n Tryd.prog 117 #[.slice a m c] w fun e w' => e = .returned (.func (.func 132) #[] #[.pointer (some ⟨w.heap.size, 0, none⟩)]) ∧ w' = w.alloc (.cells #[.slice a m c] 27) := by
  refine callsIn_of_wp Tryd.func117 rfl trivial ?_ rfl
  simp only [Tryd.ntmps117, List.size_toArray, List.length_cons, List.length_nil, Nat.reduceAdd, Nat.reduceSub, Array.replicate_succ, Array.replicate_zero, List.push_toArray, List.append_toArray, List.nil_append, List.cons_append]
  gi_wp2
  go_ret
  exact ⟨rfl, rfl⟩

/-- **What edges hands back, for every loop body that keeps the list and its box.** -/
theorem edges_seq {n : Nat} (m : Nat) (hm : 1 ≤ m) (Bn : Nat) (D : Nat → Prop) (l : List Ins) (a : Option Addr) (c : Nat) (w : World) (hn : l.length = n) (hok : Okc l)
    (hDB : ∀ k, D k → k < w.heap.size) (hBn : w.heap[Bn]? = some (.cells #[.slice a n c] 27 (0, 0))) (hDn : D Bn) (hL : NAt w D l a) :
    SeqL m Tryd.prog 132 #[.pointer (some ⟨Bn, 0, none⟩)] (encE (n := n)) D (fun ys => ys.map valE = edgN l n) (fun pre => pre.map valE <+: edgN l n) w := fun lp J Jx W hW hl hJ _ hY h0 =>
  edg1_in m hm lp Bn W.heap.size D l a c J Jx hn hok hJ hY W rfl (fun k hk => Nat.lt_of_lt_of_le (hDB k hk) hW.size) ((hW.block Bn (hDB _ hDn)).trans hBn) hDn (hL.wide (fun k hk => hW.block k (hDB k hk)) fun _ h => h) h0

end Go.Proofs.YtbifbmpflhdijaaDoor

namespace Go.Proofs.YtbifbmpflhdijaaDoor
open Go.RowKit Go.Shelf
set_option linter.unusedVariables false

variable {P : Program}

/-- The set G with all blocks that lie between two worlds. -/
def Join (G : Nat → Prop) (X Y : World) (k : Nat) : Prop := G k ∨ (X.heap.size ≤ k ∧ k < Y.heap.size)
/-- What an iterator owes, and what a round owes it: the blocks of D and those of G stay. -/
def SeqG {α : Type} (n : Nat) (P : Program) (g : Nat) (lb : Array Value) (encs : α → Array Value) (D : Nat → Prop) (S Sp : List α → Prop) (w : World) : Prop :=
  ∀ (l : Nat) (J : (Nat → Prop) → List α → World → Prop) (Jx : List α → World → Prop) (W : World), Below w.heap.size w W → l < W.heap.size →
    (∀ (G : Nat → Prop) pre X Y, J G pre X → Below X.heap.size X Y → J (Join G X Y) pre Y) →
    (∀ (G G' : Nat → Prop) pre X, (∀ k, G' k → G k) → J G pre X → J G' pre X) →
    (∀ G pre x W1, Sp (pre ++ [x]) → J G pre W1 → YieldAt Fence.wide (n - 1) P l (encs x) W1 fun e W' =>
      ((e = .returned (.bool true) ∧ J G (pre ++ [x]) W') ∨ (e = .returned (.bool false) ∧ Jx (pre ++ [x]) W')) ∧ Stays (fun k => D k ∨ G k) W1 W') →
    J (fun _ => False) [] W →
    CallsIn Fence.wide n P g (#[.func (.yield l) #[] #[]] ++ lb) W fun e W' => (∃ v, e = .returned v) ∧ ((∃ xs, S xs ∧ J (fun _ => False) xs W') ∨ (∃ pre, Sp pre ∧ Jx pre W'))

/-- How a round's body may be left. -/
def postG {α : Type} (D G : Nat → Prop) (I : (Nat → Prop) → List α → World → Prop) (Ix : Code → List α → World → Prop) (xs : List α) (W : World) : Exit → Act → World → Prop
  | .normal, _, W' => Stays (fun k => D k ∨ G k) W W' ∧ I G xs W'
  | .ret, _, W' => Stays (fun k => D k ∨ G k) W W' ∧ Ix .ret xs W'
  | _, _, _ => False

set_option maxHeartbeats 2000000 in
/-- **The caller's side.** -/
theorem wpIn_rangeG {α : Type} {n : Nat} {g : Operand} {ps : Array Tmp} {assign body : Code} {Q : Exit → Act → World → Prop} {a : Act} {w : World} (h1 : 1 ≤ n) {gf : Nat} {lb : Array Value}
    (hg : a.eval g = .func (.func gf) #[] lb) (eg : ∀ args w, (callFunc gf args).run P w = .ok (.enter gf args) w)
    {encs : α → Array Value} {D : Nat → Prop} {S Sp : List α → Prop} {w0 : World} (hseq : SeqG (n - 1) P gf lb encs D S Sp w0) (hD : ∀ k, D k → k < w.heap.size) (hb0 : Below w0.heap.size w0 w) (hps : ∀ x, (encs x).size = ps.size)
    (I : (Nat → Prop) → List α → World → Prop) (Ix : Code → List α → World → Prop) (hI : OwnFrom w.heap.size (fun (p : (Nat → Prop) × List α) W => I p.1 p.2 W)) (hIx : ∀ c, OwnFrom w.heap.size (Ix c))
    (hgrow : ∀ (G : Nat → Prop) pre X Y, I G pre X → Below X.heap.size X Y → I (Join G X Y) pre Y) (hanti : ∀ (G G' : Nat → Prop) pre X, (∀ k, G' k → G k) → I G pre X → I G' pre X)
    (h0 : I (fun _ => False) [] w) (a1 : α → Act)
    (hassign : ∀ (l : Nat) (x : α) (W : World) (K : Act → World → Prop), K (a1 x) W →
      assign.wpIn (Fence.wide.inRound l) (n - 1 - 1) P (Exit.then K (fun _ _ _ => False)) { tmps := (ps.zip (encs x)).foldl (fun t (p, v) => t.setIfInBounds p v) a.tmps, defers := [] } W)
    (hbody : ∀ (l : Nat) (G : Nat → Prop) (pre : List α) (x : α) (W : World), Sp (pre ++ [x]) → I G pre W → body.wpIn (Fence.wide.inRound l) (n - 1 - 1) P (postG D G I Ix (pre ++ [x]) W) (a1 x) W)
    (hdone : ∀ (d : Nat) (xs : List α) (W : World), w.heap.size ≤ d → S xs → I (fun _ => False) xs W → W.heap[d]? = some (.deferred (some [])) → Q .normal { a with defers := { target := .collected d, args := #[] } :: a.defers } W)
    (hstop : ∀ (d : Nat) (c : Code) (pre : List α) (W : World), w.heap.size ≤ d → Sp pre → Ix c pre W → W.heap[d]? = some (.deferred (some [])) → c.wpIn Fence.wide n P Q { a with defers := { target := .collected d, args := #[] } :: a.defers } W) :
    (Code.rangeFunc g ps assign body).wpIn Fence.wide n P Q a w := by
  refine wpIn_rangeFunc fun fn hfn => ?_
  -- the record, in each of its states
  obtain ⟨R, hR⟩ : ∃ R : LoopState → Option Code → Loop, R = fun s p => { state := s, pending := p, fn, tmps := a.tmps, params := ps, assign, body, defers := w.heap.size } := ⟨_, rfl⟩
  obtain ⟨V, hV⟩ : ∃ V, (w.alloc (.deferred (some []))).alloc (.loop (R .ready none)) = V := ⟨_, rfl⟩
  have hz : V.heap.size = w.heap.size + 2 := by rw [← hV]; simp
  have hl0 : V.heap[w.heap.size + 1]? = some (.loop (R .ready none)) := by
    have h := World.alloc_heap_new (w.alloc (.deferred (some []))) (.loop (R .ready none))
    rw [World.size_alloc] at h
    rw [← hV]; exact h
  have hd0 : V.heap[w.heap.size]? = some (.deferred (some [])) := by
    rw [← hV, Below.heap_alloc _ _ _ (by simp)]; exact World.alloc_heap_new w _
  have hwV : Below w.heap.size w V := by rw [← hV]; exact ((Below.refl _ w).alloc (Nat.le_refl _) _).alloc (by simp) _
  obtain ⟨Z, hZ⟩ : ∃ Z : (Nat → Prop) → Nat → Prop, Z = fun G k => G k ∨ k = w.heap.size ∨ k = w.heap.size + 1 := ⟨_, rfl⟩
  have hZ0 : ∀ (G : Nat → Prop) k, Z G k ↔ G k ∨ k = w.heap.size ∨ k = w.heap.size + 1 := fun G k => by rw [hZ]
  have hI0 : I (Z fun _ => False) [] V := hanti _ _ _ _ (fun k hk => .inr (by
    rcases (hZ0 _ k).1 hk with h | h | h
    · exact h.elim
    · omega
    · omega)) (hgrow _ _ _ _ h0 hwV)
  have hbV : Below w0.heap.size w0 V := by
    have h2 : Below w.heap.size w V := by rw [← hV]; exact ((Below.refl _ w).alloc (Nat.le_refl _) _).alloc (by simp) _
    exact hb0.trans (h2.mono hb0.size)
  refine ⟨w.heap.size + 1, [{ target := .collected w.heap.size, args := #[] }], V, { target := .fn (.func gf) lb, args := #[.func (.yield (w.heap.size + 1)) #[] #[]] }, V, gf,
    #[.func (.yield (w.heap.size + 1)) #[] #[]] ++ lb, V, ?_, ?_, fun f' hf' => trivial, ?_, fun _ => h1, ?_⟩
  · rw [← hV, hR]; exact run_enterLoop_outer _ _ _ _ _
  · simp only [resolve, hg]
    simp [go_sem]
  · simp [invoke, go_sem, eg]
  refine (hseq (w.heap.size + 1) (fun G pre W => (I (Z G) pre W ∧ W.heap[w.heap.size + 1]? = some (.loop (R .ready none)) ∧ W.heap[w.heap.size]? = some (.deferred (some []))) ∧ (∀ k, G k → V.heap.size ≤ k) ∧ V.heap.size ≤ W.heap.size)
    (fun pre W => Ix .ret pre W ∧ W.heap[w.heap.size + 1]? = some (.loop (R .done (some .ret))) ∧ W.heap[w.heap.size]? = some (.deferred (some []))) V hbV (by omega)
    (fun G pre X Y h hb => ⟨⟨hanti _ _ _ _ (fun k hk => by
        rcases (hZ0 _ k).1 hk with (hk | hk) | hk
        · exact .inl ((hZ0 _ k).2 (.inl hk))
        · exact .inr hk
        · exact .inl ((hZ0 _ k).2 (.inr hk))) (hgrow _ _ _ _ h.1.1 hb), (hb.block _ (Array.getElem?_eq_some_iff.1 h.1.2.1).1).trans h.1.2.1, (hb.block _ (Array.getElem?_eq_some_iff.1 h.1.2.2).1).trans h.1.2.2⟩, fun k hk => hk.elim (h.2.1 k) (fun hk => Nat.le_trans h.2.2 hk.1), Nat.le_trans h.2.2 hb.size⟩)
    (fun G G' pre X hs h => ⟨⟨hanti _ _ _ _ (fun k hk => (hZ0 _ k).2 (((hZ0 _ k).1 hk).imp (hs k) id)) h.1.1, h.1.2⟩, fun k hk => h.2.1 k (hs k hk), h.2.2⟩) ?_ ⟨⟨hI0, hl0, hd0⟩, fun k hk => hk.elim, Nat.le_refl _⟩).mono ?_
  · rintro G pre x W hsp ⟨⟨hi, hl, hd⟩, hGV, hVW⟩
    have hy := run_yield (P := P) (args := encs x) hl (by rw [hR]; exact hps x)
    rw [hR] at hy
    refine ⟨fn, _, assign, body, hy, roundIn_of_wpIn hfn (hassign _ x W _ ?_)⟩
    refine ⟨_, run_beginRound hl (by rw [hR]), ?_⟩
    have hnD : ¬ (D (w.heap.size + 1) ∨ G (w.heap.size + 1)) := fun h => by
      rcases h with h | h
      · have := hD _ h; omega
      · have := hGV _ h; omega
    have hsZ : ∀ {X Y : World}, Stays (fun k => D k ∨ Z G k) X Y → Stays (fun k => D k ∨ G k) X Y := fun h => h.mono fun k _ hk => hk.imp id fun hk => (hZ0 _ k).2 (.inl hk)
    obtain ⟨U, hU⟩ : ∃ U, W.putObj (w.heap.size + 1) (.loop { R .ready none with state := .busy }) = U := ⟨_, rfl⟩
    have hlU : U.heap[w.heap.size + 1]? = some (.loop { R .ready none with state := .busy }) := by rw [← hU]; exact World.putObj_heap_same (Array.getElem?_eq_some_iff.1 hl).1
    have hdU : U.heap[w.heap.size]? = some (.deferred (some [])) := by rw [← hU, World.putObj_heap_other (by omega)]; exact hd
    have hsU : Stays (fun k => D k ∨ G k) W U := by rw [← hU]; exact (Stays.refl _ _).putObj hnD _
    have hiU : I (Z G) pre U := by rw [← hU]; exact hI.putObj (s := (Z G, pre)) _ hi (by omega) hl rfl
    rw [hU]
    -- how the round ends
    have fin : ∀ (j : Option Code) (X : World), Stays (fun k => D k ∨ Z G k) U X → ∃ Y, (Instr.endRound (w.heap.size + 1) j).run P X = .ok (.bool j.isNone) Y ∧ Y = X.putObj (w.heap.size + 1) (.loop (R (if j.isNone then .ready else .done) j)) ∧
        Y.heap[w.heap.size + 1]? = some (.loop (R (if j.isNone then .ready else .done) j)) ∧ Y.heap[w.heap.size]? = some (.deferred (some [])) ∧ Stays (fun k => D k ∨ G k) W Y ∧ X.heap[w.heap.size + 1]? = some (.loop { R .ready none with state := .busy }) := fun j X hX => by
      have hlX := hX.same _ _ (.inr ((hZ0 _ _).2 (.inr (.inr rfl)))) hlU
      have hdX := hX.same _ _ (.inr ((hZ0 _ _).2 (.inr (.inl rfl)))) hdU
      have he := run_endRound (P := P) j hlX
      rw [hR] at he
      refine ⟨_, he, by rw [hR], ?_, ?_, ?_, hlX⟩
      · rw [World.putObj_heap_same (Array.getElem?_eq_some_iff.1 hlX).1, hR]
      · rw [World.putObj_heap_other (by omega)]; exact hdX
      · exact (hsU.trans (hsZ hX)).putObj hnD _
    refine wpIn_mono (hbody _ _ pre x U hsp hiU) ?_
    rintro e a3 X hp
    cases e with
    | normal =>
      obtain ⟨h2, h4⟩ := hp
      obtain ⟨Y, he, hY, hlY, hdY, hsY, hlX⟩ := fin none X h2
      have hiY : I (Z G) (pre ++ [x]) Y := by rw [hY]; exact hI.putObj (s := (Z G, pre ++ [x])) _ h4 (by omega) hlX rfl
      exact ⟨_, _, he, .inl ⟨rfl, ⟨hiY, hlY, hdY⟩, hGV, Nat.le_trans hVW hsY.size⟩, hsY⟩
    | ret =>
      obtain ⟨h2, h3⟩ := hp
      obtain ⟨Y, he, hY, hlY, hdY, hsY, hlX⟩ := fin (some .ret) X h2
      have hiY : Ix .ret (pre ++ [x]) Y := by rw [hY]; exact (hIx _).putObj _ h3 (by omega) hlX rfl
      exact ⟨_, _, he, .inr ⟨rfl, hiY, hlY, hdY⟩, hsY⟩
    | exit id => exact hp.elim
    | goto t => exact hp.elim
    | panic ch => exact hp.elim
    | outgrown => exact hp.elim
  · rintro e X ⟨⟨v, rfl⟩, (⟨xs, hS, ⟨hi', hl, hd⟩, _, _⟩ | ⟨pre, hS, hi, hl, hd⟩)⟩
    · have he := run_endLoop (P := P) hl (by rw [hR]; simp)
      rw [hR] at he
      have hi : I (fun _ => False) xs X := hanti _ _ _ _ (fun k hk => hk.elim) hi'
      exact ⟨none, _, he, hdone _ xs _ (Nat.le_refl _) hS (hI.putObj (s := ((fun _ => False), xs)) _ hi (by omega) hl rfl) ((World.putObj_heap_other (by omega)).trans hd)⟩
    · have he := run_endLoop (P := P) hl (by rw [hR]; simp)
      rw [hR] at he
      exact ⟨some .ret, _, he, hstop _ .ret pre _ (Nat.le_refl _) hS ((hIx _).putObj _ hi (by omega) hl rfl) ((World.putObj_heap_other (by omega)).trans hd)⟩

end Go.Proofs.YtbifbmpflhdijaaDoor

namespace Go.Proofs.YtbifbmpflhdijaaDoor
open Go.RowKit Go.Shelf
set_option linter.unusedVariables false

attribute [local go_sem] Oper.semAt_some

set_option maxRecDepth 100000 in
set_option maxHeartbeats 8000000 in
theorem edg1G_in {n : Nat} (m : Nat) (hm : 1 ≤ m) (lp Bn B : Nat) (D : Nat → Prop) (l : List Ins) (a : Option Addr) (c : Nat) (J : (Nat → Prop) → List (Fin n × Fin n) → World → Prop) (Jx : List (Fin n × Fin n) → World → Prop) (hn : l.length = n) (hok : Okc l) (hgrow : ∀ (G : Nat → Prop) pre X Y, J G pre X → Below X.heap.size X Y → J (Join G X Y) pre Y) (hanti : ∀ (G G' : Nat → Prop) pre X, (∀ k, G' k → G k) → J G pre X → J G' pre X)
    (hY : ∀ G pre x W1, (pre ++ [x]).map valE <+: edgN l n → J G pre W1 → YieldAt Fence.wide (m - 1) Tryd.prog lp (encE x) W1 fun e W' =>
      ((e = .returned (.bool true) ∧ J G (pre ++ [x]) W') ∨ (e = .returned (.bool false) ∧ Jx (pre ++ [x]) W')) ∧ Stays (fun k => D k ∨ G k) W1 W')
    (W : World) (hB : W.heap.size = B) (hDB : ∀ k, D k → k < B) (hBn : W.heap[Bn]? = some (.cells #[.slice a n c] 27 (0, 0))) (hDn : D Bn) (hL : NAt W D l a) (h0 : J (fun _ => False) [] W) :
    CallsIn Fence.wide m Tryd.prog 132 #[.func (.yield lp) #[] #[], .pointer (some ⟨Bn, 0, none⟩)] W fun e W' => (∃ v, e = .returned v) ∧
      ((∃ ys : List (Fin n × Fin n), ys.map valE = edgN l n ∧ J (fun _ => False) ys W') ∨ (∃ pre : List (Fin n × Fin n), pre.map valE <+: edgN l n ∧ Jx pre W')) := by
  refine callsIn_of_wp Tryd.func132 rfl trivial ?_ rfl
  simp only [Tryd.ntmps132, List.size_toArray, List.length_cons, List.length_nil, Nat.reduceAdd, Nat.reduceSub, Array.replicate_succ, Array.replicate_zero, List.push_toArray, List.append_toArray, List.nil_append, List.cons_append]
  have HY := Lib.hid hY
  have HGR := Lib.hid hgrow
  have HAN := Lib.hid hanti
  have HN := Lib.hid hn
  have HO := Lib.hid hok
  have hn400 : n ≤ 400 := by rw [← hn]; exact hok.le
  have hBlt : Bn < W.heap.size := by rw [hB]; exact hDB _ hDn
  -- what stands in every world that a round has left
  have HS : Hid (∀ v, Stays D W v → v.cell? ⟨Bn, 0, none⟩ = some (.slice a n c) ∧ NAt v (fun b => b < v.heap.size) l a) := fun v hv => by
    refine ⟨?_, hL.wide (fun k hk => hv.at hk (by rw [hB]; exact hDB k hk)) fun k hk => Nat.lt_of_lt_of_le (by rw [hB]; exact hDB k hk) hv.size⟩
    rw [cell_at ((hv.at hDn hBlt).trans hBn)]; rfl
  have x0 := (HS.out W (Stays.refl _ _)).1
  clear hY hgrow hanti hn hok hBn hL
  gi_wp2
  gi_loopw [8] (fun p wr => ∃ (k : Nat) (pre : List (Fin n × Fin n)), k ≤ n ∧ p = .int .i64 (k : Int) ∧ pre.map valE = edgN l k ∧ J (fun _ => False) pre wr ∧ Stays D W wr) (fun p _ => n - (intOf p).toNat)
  case atStart => exact ⟨0, [], Nat.zero_le _, rfl, rfl, h0, Stays.refl _ _⟩
  case round =>
    obtain ⟨k, pre, hk, rfl, hpre, hJ1, hS1⟩ := hrel
    have HPRE := Lib.hid hpre
    have HJ1 := Lib.hid hJ1
    have HS1 := Lib.hid hS1
    have hzr := hS1.size
    obtain ⟨y0, hNA⟩ := HS.out wr hS1
    clear hpre hJ1 hS1 h0 x0
    by_cases hlt : k < n
    · obtain ⟨x, hx⟩ : ∃ x, l[k]? = some x := ⟨l[k]'(by rw [HN.out]; exact hlt), List.getElem?_eq_getElem _⟩
      have HX := Lib.hid hx
      have HF := Lib.hid (fol_one l a n c k x wr hNA HN.out HO.out hx)
      clear hx hNA
      gi_wp2_with (refine ⟨trivial, ?_⟩; gi_at_call 133; refine (callsIn_wide.2 HF.out).mono ?_; rintro e w1 ⟨ra, rc, rfl, hown, hb1⟩)
      obtain ⟨rl, hrl⟩ : ∃ rl, (natI (folN x k)).length = rl := ⟨_, rfl⟩
      have hrl2 : (folN x k).length = rl := by rw [← hrl, natI_len]
      have hrle : rl ≤ 2 := by rw [← hrl2]; exact folN_len x k
      have HRL := Lib.hid hrl2
      have HOWN := Lib.hid hown
      have HB1 := Lib.hid hb1
      rw [hrl]
      have hz1 := hb1.size
      obtain ⟨Gk, hGk⟩ : ∃ Gk, Join (fun _ => False) wr w1 = Gk := ⟨_, rfl⟩
      have hS0 : ∀ g, wr.heap.size ≤ g → g < w1.heap.size → Gk g := fun g h h2 => by rw [← hGk]; exact .inr ⟨h, h2⟩
      have hJG : J Gk pre w1 := by rw [← hGk]; exact HGR.out _ _ _ _ HJ1.out hb1
      have HR0 : Hid (∃ (j : Nat) (pre : List (Fin n × Fin n)), j ≤ rl ∧ Value.int .i64 0 = .int .i64 (j : Int) ∧ pre.map valE = edgN l k ++ ((folN x k).take j).map (fun t => (k, t)) ∧ J Gk pre w1 ∧ Stays D W w1 ∧ Stays (fun k => D k ∨ Gk k) w1 w1) :=
        ⟨0, pre, Nat.zero_le _, rfl, by rw [HPRE.out]; simp, hJG, HS1.out.below hb1, Stays.refl _ _⟩
      clear hown hb1 hrl hrl2 HF HJ1 HS1 HPRE y0 hGk hJG
      gi_wp2
      gi_loopw [15] (fun p wr2 => ∃ (j : Nat) (pre : List (Fin n × Fin n)), j ≤ rl ∧ p = .int .i64 (j : Int) ∧ pre.map valE = edgN l k ++ ((folN x k).take j).map (fun t => (k, t)) ∧ J Gk pre wr2 ∧ Stays D W wr2 ∧ Stays (fun k => D k ∨ Gk k) w1 wr2) (fun p _ => rl - (intOf p).toNat)
      case atStart => exact HR0.out
      case round =>
        obtain ⟨j, pre, hj, rfl, hpre, hJ2, hS2, hS3⟩ := hrel
        have HPRE := Lib.hid hpre
        have HJ2 := Lib.hid hJ2
        have HS2 := Lib.hid hS2
        have HS3 := Lib.hid hS3
        clear hpre hJ2 hS2 hS3 HR0
        by_cases hlj : j < rl
        · obtain ⟨t, ht⟩ : ∃ t, (folN x k)[j]? = some t := ⟨(folN x k)[j]'(by rw [HRL.out]; exact hlj), List.getElem?_eq_getElem _⟩
          have htn : t < n := by rw [← HN.out]; exact HO.out.fol HX.out (List.mem_of_getElem? ht)
          obtain ⟨g, rfl, cr⟩ : ∃ g, ra = some ⟨g, 0, none⟩ ∧ wr.cell? ⟨g, j, none⟩ = some (.int .i64 (t : Int)) := by
            rcases HOWN.out.2 with ⟨e, e2⟩ | ⟨g, cap', cur, e, hb, hg, hn', hm', hc, ht'⟩
            · exact absurd e2 (by rw [natI_len, HRL.out]; omega)
            · injection e with e1 e2 e3
              subst e1
              refine ⟨g, rfl, ?_⟩
              have h1 : w1.cell? ⟨g, j, none⟩ = some (.int .i64 (t : Int)) := by
                rw [HOWN.out.cellAt j (by rw [natI_len, HRL.out]; omega)]
                unfold natI
                rw [List.getElem?_map, List.getElem?_map, ht]; rfl
              exact (World.cell?_of_block (w := w1) (a := ⟨g, j, none⟩) (HS3.out.at (.inr (hS0 g hb (Array.getElem?_eq_some_iff.1 hg).1)) (Array.getElem?_eq_some_iff.1 hg).1)).trans h1
          have HPRE2 : Hid ((pre ++ [((⟨k, hlt⟩ : Fin n), (⟨t, htn⟩ : Fin n))]).map valE = edgN l k ++ ((folN x k).take (j + 1)).map (fun t => (k, t))) := by
            show List.map valE (pre ++ [((⟨k, hlt⟩ : Fin n), (⟨t, htn⟩ : Fin n))]) = _
            rw [List.map_append, HPRE.out, List.take_add_one, ht, List.append_assoc]
            simp [valE]
          obtain ⟨fn, tmps, assign, body, hy, hR⟩ := HY.out Gk pre ((⟨k, hlt⟩ : Fin n), (⟨t, htn⟩ : Fin n)) wr (by rw [HPRE2.out]; exact edgN_part HX.out hlt) HJ2.out
          have HR := Lib.hid hR
          dsimp only [encE] at hy
          clear hR ht HOWN HJ2 HPRE
          gi_wp2
          refine HR.out.mono ?_
          clear HR hy
          rintro e W3 ⟨(⟨rfl, hJ3⟩ | ⟨rfl, hJ3⟩), hst⟩
          · have HREL : Hid (∃ (j' : Nat) (pre' : List (Fin n × Fin n)), j' ≤ rl ∧ Value.int .i64 ((j : Int) + 1) = .int .i64 (j' : Int) ∧ pre'.map valE = edgN l k ++ ((folN x k).take j').map (fun t => (k, t)) ∧ J Gk pre' W3 ∧ Stays D W W3 ∧ Stays (fun k => D k ∨ Gk k) w1 W3) :=
              ⟨j + 1, _, hlj, by go_num, HPRE2.out, hJ3, HS2.out.trans (hst.mono fun q _ h => .inl h), HS3.out.trans hst⟩
            clear hJ3 hst HPRE2 HS2 HS3
            gi_wp2
            go_roundw
            case rel => exact HREL.out
            case measure => simp [intOf]; omega
          · have HFIN : Hid (∃ pre : List (Fin n × Fin n), pre.map valE <+: edgN l n ∧ Jx pre W3) := ⟨_, by rw [HPRE2.out]; exact edgN_part HX.out hlt, hJ3⟩
            clear hJ3 hst HPRE2 HS2 HS3
            gi_wp2
            refine bodyPost_ret (results_none rfl _ _ _) rfl ?_
            exact ⟨⟨_, rfl⟩, .inr HFIN.out⟩
        · obtain rfl : j = rl := by omega
          have HREL : Hid (∃ (k' : Nat) (pre' : List (Fin n × Fin n)), k' ≤ n ∧ Value.int .i64 ((k : Int) + 1) = .int .i64 (k' : Int) ∧ pre'.map valE = edgN l k' ∧ J (fun _ => False) pre' wr ∧ Stays D W wr) := by
            refine ⟨k + 1, pre, hlt, by go_num, ?_, HAN.out _ _ _ _ (fun _ h => h.elim) HJ2.out, HS2.out⟩
            rw [HPRE.out, List.take_of_length_le (by rw [HRL.out]; exact Nat.le_refl _)]
            show _ = edgN l k ++ _
            rw [folAt_at HX.out]
          clear HJ2 HPRE HS2 HS3 HOWN
          gi_wp2
          go_roundw
          case rel => exact HREL.out
          case measure => simp [intOf]; omega
    · obtain rfl : k = n := by omega
      have HFIN : Hid (∃ ys : List (Fin k × Fin k), ys.map valE = edgN l k ∧ J (fun _ => False) ys wr) := ⟨pre, HPRE.out, HJ1.out⟩
      clear HJ1 HPRE HS1 y0 hNA
      gi_wp2
      go_end0
      exact ⟨⟨_, rfl⟩, .inl HFIN.out⟩

/-- **What edges hands back, for every loop body that keeps the list and its box.** -/
theorem edges_seqG {n : Nat} (m : Nat) (hm : 1 ≤ m) (Bn : Nat) (D : Nat → Prop) (l : List Ins) (a : Option Addr) (c : Nat) (w : World) (hn : l.length = n) (hok : Okc l)
    (hDB : ∀ k, D k → k < w.heap.size) (hBn : w.heap[Bn]? = some (.cells #[.slice a n c] 27 (0, 0))) (hDn : D Bn) (hL : NAt w D l a) :
    SeqG m Tryd.prog 132 #[.pointer (some ⟨Bn, 0, none⟩)] (encE (n := n)) D (fun ys => ys.map valE = edgN l n) (fun pre => pre.map valE <+: edgN l n) w := fun lp J Jx W hW hl hgr han hY h0 =>
  edg1G_in m hm lp Bn W.heap.size D l a c J Jx hn hok hgr han hY W rfl (fun k hk => Nat.lt_of_lt_of_le (hDB k hk) hW.size) ((hW.block Bn (hDB _ hDn)).trans hBn) hDn (hL.wide (fun k hk => hW.block k (hDB k hk)) fun _ h => h) h0

end Go.Proofs.YtbifbmpflhdijaaDoor

namespace Go.Proofs.YtbifbmpflhdijaaDoor
open Go.RowKit
set_option linter.unusedVariables false

theorem mem_edgP {l : List Ins} : ∀ {n i t : Nat} {x : Ins}, i < n → l[i]? = some x → t ∈ folN x i → (i, t) ∈ edgN l n
  | n + 1, i, t, x, hi, hx, ht => by
    show (i, t) ∈ edgN l n ++ _
    by_cases e : i = n
    · subst e
      rw [folAt_at hx]
      exact List.mem_append_right _ (List.mem_map.2 ⟨t, ht, rfl⟩)
    · exact List.mem_append_left _ (mem_edgP (by omega) hx ht)
theorem edgP_mem {l : List Ins} : ∀ {n : Nat} {p : Nat × Nat}, p ∈ edgN l n → ∃ x, l[p.1]? = some x ∧ p.1 < n ∧ p.2 ∈ folN x p.1
  | n + 1, p, h => by
    rcases List.mem_append.1 (show p ∈ edgN l n ++ _ from h) with h | h
    · obtain ⟨x, h1, h2, h3⟩ := edgP_mem h
      exact ⟨x, h1, by omega, h3⟩
    · obtain ⟨t, ht, rfl⟩ := List.mem_map.1 h
      unfold folAt at ht
      split at ht
      · rename_i x hx
        exact ⟨x, hx, by simp, ht⟩
      · simp at ht
theorem edgN_len (l : List Ins) : ∀ n, (edgN l n).length ≤ 2 * n
  | 0 => by simp [edgN]
  | n + 1 => by
    show (edgN l n ++ _).length ≤ _
    have h1 := edgN_len l n
    have h2 : (folAt l n).length ≤ 2 := by
      unfold folAt
      split
      · exact folN_len _ _
      · simp
    rw [List.length_append, List.length_map]; omega
/-- Of these edges, where those begin that end at p. -/
def prB (ps : List (Nat × Nat)) (p : Nat) : List Nat := (ps.filter fun e => e.2 == p).map (·.1)
theorem prB_snoc (ps : List (Nat × Nat)) (a t p : Nat) : prB (ps ++ [(a, t)]) p = if p = t then prB ps p ++ [a] else prB ps p := by
  unfold prB
  rw [List.filter_append, List.map_append]
  by_cases e : p = t
  · subst e; simp
  · rw [if_neg e]
    have : (t == p) = false := by simp; exact fun e' => e e'.symm
    simp [this]
theorem prB_len (ps : List (Nat × Nat)) (p : Nat) : (prB ps p).length ≤ ps.length := by
  unfold prB
  rw [List.length_map]
  exact List.length_filter_le _ _
theorem prB_mem {ps : List (Nat × Nat)} {p i : Nat} : i ∈ prB ps p ↔ (i, p) ∈ ps := by
  unfold prB
  simp only [List.mem_map, List.mem_filter]
  constructor
  · rintro ⟨e, ⟨h1, h2⟩, rfl⟩
    have h3 : e.2 = p := by simpa using h2
    rw [← h3]; exact h1
  · intro h
    exact ⟨(i, p), ⟨h, by simp⟩, rfl⟩
def prF (ps : List (Nat × Nat)) (n : Nat) : List (List Nat) := (List.range n).map (prB ps)
theorem prF_len (ps : List (Nat × Nat)) (n : Nat) : (prF ps n).length = n := by simp [prF]
theorem prF_at (ps : List (Nat × Nat)) {n p : Nat} (h : p < n) : (prF ps n)[p]? = some (prB ps p) := by unfold prF; rw [List.getElem?_map, List.getElem?_range h]; rfl
theorem prF_snoc (ps : List (Nat × Nat)) (a t n : Nat) : prF (ps ++ [(a, t)]) n = (prF ps n).set t (prB ps t ++ [a]) := by
  apply List.ext_getElem?
  intro p
  by_cases hp : p < n
  · rw [prF_at _ hp, prB_snoc]
    by_cases e : p = t
    · subst e
      rw [List.getElem?_set_self (by rw [prF_len]; exact hp), if_pos rfl]
    · rw [List.getElem?_set_ne (fun e' => e e'.symm), prF_at _ hp, if_neg e]
  · rw [List.getElem?_eq_none (by rw [prF_len]; omega), List.getElem?_eq_none (by rw [List.length_set, prF_len]; omega)]
theorem prF_B {l : List Ins} (hok : Okc l) : PrB l (prF (edgN l l.length) l.length) := by
  have hd : ∀ p, (prF (edgN l l.length) l.length).getD p [] = if p < l.length then prB (edgN l l.length) p else [] := fun p => by
    rw [List.getD_eq_getElem?_getD]
    split
    · rename_i h; rw [prF_at _ h]; rfl
    · rename_i h; rw [List.getElem?_eq_none (by rw [prF_len]; omega)]; rfl
  refine ⟨prF_len _ _, fun p i hi => ?_, fun i x p hx hp => ?_, fun p => ?_⟩
  · rw [hd] at hi
    split at hi
    · obtain ⟨_, _, h, _⟩ := edgP_mem (prB_mem.1 hi)
      exact h
    · simp at hi
  · rw [hd, if_pos (hok.fol hx hp)]
    exact prB_mem.2 (mem_edgP (List.getElem?_eq_some_iff.1 hx).1 hx hp)
  · rw [hd]
    split
    · have h1 := prB_len (edgN l l.length) p
      have h2 := edgN_len l l.length
      have h3 := hok.le
      omega
    · simp

theorem Tryd.infoII : (Tryd.prog.info? 22).map (fun i => (i.zero, i.size, i.bytes)) = some (some (.slice none 0 0), 1, 24) := by kernel_rfl
/-- An outer row of slices at the block C, each an own row of ints, apart from one another. -/
structure OwII (w : World) (C base n : Nat) (bs : List (List Nat)) (vs : List Value) : Prop where
  len : bs.length = n
  row : w.ownsRow C 22 1 (.slice (some ⟨C, 0, none⟩) n n) n vs
  inn : ∀ (i : Nat) (r : List Nat), bs[i]? = some r → ∃ ai ci, vs[i]? = some (.slice ai r.length ci) ∧ w.ownsRow base 3 1 (.slice ai r.length ci) r.length ((natI r).map (Value.int .i64))
  ap : ∀ (i : Nat) (v : Value) (g : Nat), vs[i]? = some v → v.ownBlock = some g → g ≠ C
  dj : ∀ (i j : Nat) (v u : Value) (g : Nat), vs[i]? = some v → vs[j]? = some u → v.ownBlock = some g → u.ownBlock = some g → i = j
theorem OwII.ltC {w : World} {C base n : Nat} {bs : List (List Nat)} {vs : List Value} (h : OwII w C base n bs vs) : C < w.heap.size := (h.row.lt C rfl).2
theorem OwII.vlen {w : World} {C base n : Nat} {bs : List (List Nat)} {vs : List Value} (h : OwII w C base n bs vs) : vs.length = n := by have := h.row.1; omega
theorem OwII.old {w : World} {C base n : Nat} {bs : List (List Nat)} {vs : List Value} (h : OwII w C base n bs vs) {i g : Nat} {v : Value} (hv : vs[i]? = some v) (hg : v.ownBlock = some g) : base ≤ g ∧ g < w.heap.size := by
  have hi : i < n := by rw [← h.vlen]; exact (List.getElem?_eq_some_iff.1 hv).1
  obtain ⟨ai, ci, h1, h3⟩ := h.inn i _ (List.getElem?_eq_getElem (by rw [h.len]; exact hi))
  rw [hv] at h1
  cases h1
  exact h3.lt g hg
theorem OwII.far {w w' : World} {C base n : Nat} {bs : List (List Nat)} {vs : List Value} (h : OwII w C base n bs vs) (hC : w'.heap[C]? = w.heap[C]?) (hs : ∀ (i : Nat) (v : Value) (g : Nat), vs[i]? = some v → v.ownBlock = some g → w'.heap[g]? = w.heap[g]?) : OwII w' C base n bs vs :=
  ⟨h.len, ownsRow_far h.row (fun g hg _ => by cases hg; exact hC), fun i r hr => by
    obtain ⟨ai, ci, h1, h2⟩ := h.inn i r hr
    exact ⟨ai, ci, h1, ownsRow_far h2 fun g hg _ => hs i _ g h1 hg⟩, h.ap, h.dj⟩
theorem OwII.later {w w' : World} {C base n : Nat} {bs : List (List Nat)} {vs : List Value} (h : OwII w C base n bs vs) (hb : Below w.heap.size w w') : OwII w' C base n bs vs := h.far (hb.block C h.ltC) fun i v g hv hg => hb.block g (h.old hv hg).2
theorem OwII.start {w : World} {C base n : Nat} (h : w.ownsRow C 22 1 (.slice (some ⟨C, 0, none⟩) n n) n (List.replicate n (.slice none 0 0))) : OwII w C base n (List.replicate n []) (List.replicate n (.slice none 0 0)) := by
  refine ⟨by simp, h, fun i r hr => ?_, fun i v g hv hg => ?_, fun i j v u g hv hu hg => ?_⟩
  · rw [List.getElem?_replicate] at hr
    split at hr
    · rename_i hi
      cases hr
      exact ⟨none, 0, by rw [List.getElem?_replicate, if_pos hi]; rfl, World.ownsRow_nil _ _ _ _⟩
    · cases hr
  · rw [List.getElem?_replicate] at hv
    split at hv
    · cases hv; cases hg
    · cases hv
  · rw [List.getElem?_replicate] at hv
    split at hv
    · cases hv; cases hg
    · cases hv
/-- One row grows. -/
theorem OwII.push {w w4 w5 : World} {C base n p g5 cp : Nat} {bs : List (List Nat)} {vs : List Value} {r : List Nat} {a : Nat} {ai : Option Addr} {ci : Nat} (h : OwII w C base n bs vs) (hr : bs[p]? = some r) (hv : vs[p]? = some (.slice ai r.length ci))
    (h4 : ∀ g, g < w.heap.size → w4.heap[g]? = w.heap[g]?) (hz : w.heap.size ≤ w4.heap.size) (hown : w5.ownsRow base 3 1 (.slice (some ⟨g5, 0, none⟩) (r.length + 1) cp) (r.length + 1) ((natI r).map (Value.int .i64) ++ [.int .i64 (a : Int)]))
    (hgr : w4.grownBy w5 (Value.slice ai r.length ci).ownBlock) (hat : (Value.slice ai r.length ci).ownBlock = some g5 ∨ w4.heap.size ≤ g5) :
    OwII (w5.setCell ⟨C, p, none⟩ (.slice (some ⟨g5, 0, none⟩) (r.length + 1) cp)) C base n (bs.set p (r ++ [a])) (vs.set p (.slice (some ⟨g5, 0, none⟩) (r.length + 1) cp)) := by
  have hp : p < n := by rw [← h.len]; exact (List.getElem?_eq_some_iff.1 hr).1
  have hC := h.ltC
  have h5 : ∀ g, g < w.heap.size → (Value.slice ai r.length ci).ownBlock ≠ some g → w5.heap[g]? = w.heap[g]? := fun g hg hne => (hgr.block g (by omega) (fun e => hne e.symm)).trans (h4 g hg)
  have hC5 : w5.heap[C]? = w.heap[C]? := h5 C hC fun e => h.ap p _ C hv e rfl
  have hst : ∀ q, q ≠ C → (w5.setCell ⟨C, p, none⟩ (.slice (some ⟨g5, 0, none⟩) (r.length + 1) cp)).heap[q]? = w5.heap[q]? := fun q hq => Below.heap_setCell _ _ _ _ (by simpa using hq)
  have hg5C : g5 ≠ C := by
    rcases hat with e | e
    · exact h.ap p _ g5 hv e
    · omega
  have hrow5 : w5.ownsRow C 22 1 (.slice (some ⟨C, 0, none⟩) n n) n vs := ownsRow_far h.row fun g hg _ => by cases hg; exact hC5
  have hdis : ∀ (j : Nat) (v : Value) (q : Nat), j ≠ p → vs[j]? = some v → v.ownBlock = some q → q ≠ g5 ∧ w5.heap[q]? = w.heap[q]? := fun j v q hj hvj hq => by
    have hne : (Value.slice ai r.length ci).ownBlock ≠ some q := fun e => hj (h.dj j p _ _ q hvj hv hq e)
    have hlt := (h.old hvj hq).2
    refine ⟨fun e => ?_, h5 q hlt hne⟩
    rcases hat with e2 | e2
    · exact hne (by rw [e]; exact e2)
    · omega
  refine ⟨by rw [List.length_set]; exact h.len, (hrow5.stored p _).1, fun j s hj => ?_, fun j v q hvj hq => ?_, fun j j' v u q hvj hu hq hq' => ?_⟩
  · by_cases e : j = p
    · subst e
      rw [List.getElem?_set_self (by rw [h.len]; exact hp)] at hj
      cases hj
      refine ⟨some ⟨g5, 0, none⟩, cp, by rw [List.length_append]; exact List.getElem?_set_self (by rw [h.vlen]; exact hp), ?_⟩
      rw [List.length_append, natI_app, List.map_append]
      exact ownsRow_far hown fun q hq _ => hst q (by cases hq; exact hg5C)
    · rw [List.getElem?_set_ne (fun e2 => e e2.symm)] at hj
      obtain ⟨aj, cj, h1, h3⟩ := h.inn j s hj
      exact ⟨aj, cj, by rw [List.getElem?_set_ne (fun e2 => e e2.symm)]; exact h1, ownsRow_far h3 fun q hq _ => (hst q (h.ap j _ q h1 hq)).trans (hdis j _ q e h1 hq).2⟩
  · by_cases e : j = p
    · subst e
      rw [List.getElem?_set_self (by rw [h.vlen]; exact hp)] at hvj
      cases hvj
      cases hq
      exact hg5C
    · rw [List.getElem?_set_ne (fun e2 => e e2.symm)] at hvj
      exact h.ap j v q hvj hq
  · by_cases e : j = p
    · by_cases e' : j' = p
      · rw [e, e']
      · subst e
        rw [List.getElem?_set_self (by rw [h.vlen]; exact hp)] at hvj
        cases hvj
        rw [List.getElem?_set_ne (fun e2 => e' e2.symm)] at hu
        cases hq
        exact absurd rfl (hdis j' u _ e' hu hq').1
    · rw [List.getElem?_set_ne (fun e2 => e e2.symm)] at hvj
      by_cases e' : j' = p
      · subst e'
        rw [List.getElem?_set_self (by rw [h.vlen]; exact hp)] at hu
        cases hu
        cases hq'
        exact absurd rfl (hdis j v _ e hvj hq).1
      · rw [List.getElem?_set_ne (fun e2 => e' e2.symm)] at hu
        exact h.dj j j' v u q hvj hu hq hq'

end Go.Proofs.YtbifbmpflhdijaaDoor

namespace Go.Proofs.YtbifbmpflhdijaaDoor
open Go.RowKit
set_option linter.unusedVariables false

theorem oper_inRound {l n : Nat} {P : Program} {o : Oper} {a : Act} {w : World} {K : Act → World → Prop} {Q : Exit → Act → World → Prop} (hd : ∀ c, o.op ≠ .defer c) (h : o.wp P a w K Q) : o.wpIn (Fence.wide.inRound l) n P a w K Q := by
  unfold Oper.wp at h
  unfold Oper.wpIn
  refine ⟨fun _ _ => trivial, ?_⟩
  rw [show (Fence.wide.inRound l).round = some l from rfl, Oper.semAt_some l _ _ hd]
  generalize (execOp a.eval o).run P w = r at h ⊢
  have hdep : ∀ q : Nat, ((Fence.wide.inRound l).depth.isSome = true → 1 ≤ q) := fun q e => by cases e
  cases r with
  | ok x w' =>
    cases x
    case enter f args => exact ⟨hdep n, CallsIn.inRound l (callsIn_wide.2 h)⟩
    case row r args =>
      refine ⟨hdep n, fun c cs _ => ?_⟩
      obtain ⟨v, w2, hr, hs⟩ := h c cs
      exact ⟨v, w2, hr, stepsIn_wide.2 hs⟩
    all_goals first | exact h | exact h.elim
  | halt x w' => cases x <;> first | exact h | exact h.elim

/-- No operation is a defer statement. -/
def noDefer (ops : Array Oper) : Bool := ops.toList.all fun o => match o.op with | .defer _ => false | _ => true
theorem noDefer_at {ops : Array Oper} (h : noDefer ops = true) {i : Nat} {o : Oper} (ho : ops[i]? = some o) : ∀ c, o.op ≠ .defer c := fun c e => by
  unfold noDefer at h
  rw [List.all_eq_true] at h
  have h1 := h o (by rw [Array.mem_toList_iff]; exact Array.mem_of_getElem? ho)
  rw [e] at h1
  cases h1
theorem any_inRound {l n : Nat} {P : Program} {md : Region.Mode} {ops : Array Oper} {Q : Exit → Act → World → Prop} (hd : noDefer ops = true) (hQ : ¬ LetsOut Q) : ∀ (fuel : Nat) (listed : Array Bool) (a : Act) (w : World), wpAny P md ops Q fuel listed a w → wpAnyIn (Fence.wide.inRound l) n P md ops Q fuel listed a w
  | 0, _, _, _, h => h
  | fuel + 1, listed, a, w, h => by
    refine ⟨h.1, fun i hi => ?_⟩
    have h2 := h.2 i hi
    unfold wpOp at h2
    unfold wpOpIn
    cases ho : ops[i]? with
    | none =>
      rw [ho] at h2
      exact any_inRound hd hQ fuel _ a w h2
    | some o =>
      rw [ho] at h2
      simp only at h2 ⊢
      by_cases hw : Region.wanted o (yielded ops a.tmps) = true
      · rw [if_pos hw] at h2 ⊢
        rcases h2 with h2 | h2
        · exact Oper.wpIn_mono (fun a w h => any_inRound hd hQ fuel _ a w h) (oper_inRound (noDefer_at hd ho) h2)
        · exact absurd h2.2 hQ
      · rw [if_neg hw] at h2 ⊢
        exact ⟨fun _ _ => trivial, any_inRound hd hQ fuel _ _ w h2⟩

/-- **A drawn region within a round**: one condition on the world for the whole region, as outside of rounds. -/
theorem wpIn_region_held {l n id : Nat} {P : Program} {ops : Array Oper} {Q : Exit → Act → World → Prop} {a : Act} {w : World} {S : World → Prop} (hm : P.follows .mixedOrders = true) (hd : noDefer ops = true) (hQ : ¬ LetsOut Q) (hS : S w.drew)
    (h : S w.drew → wpAnyH P .any ops Q S ops.size (Array.replicate ops.size false) a w.drew) : (Code.region id ops true).wpIn (Fence.wide.inRound l) n P Q a w :=
  wpIn_region_any hm (any_inRound hd hQ _ _ _ _ (wpAny_of_held _ _ _ _ (h hS)))

end Go.Proofs.YtbifbmpflhdijaaDoor

namespace Go.Proofs.YtbifbmpflhdijaaDoor
open Go.RowKit Go.Shelf
set_option linter.unusedVariables false

attribute [local go_sem] Oper.semAt_some

theorem slicesLp (n : Nat) : (madeCells (Value.slice none 0 0).cells (n * 1)).toList = List.replicate n (.slice none 0 0) := by
  rw [Nat.mul_one]
  exact toList_madeCells_one _ _
theorem mixedLp : Tryd.prog.follows .mixedOrders = true := by kernel_rfl
theorem ownsRow_cells {w : World} {base : Nat} {e : TypeId} {size n : Nat} {v : Value} {xs : List Value} (h : w.ownsRow base e size v n xs) {g : Nat} (hg : v.ownBlock = some g) : ∃ o, w.heap[g]? = some o ∧ o.isCells = true := by
  rcases h.2 with ⟨rfl, _⟩ | ⟨g', cp, cur, rfl, e2, e3, e4⟩
  · cases hg
  · cases hg
    exact ⟨_, e3, rfl⟩
theorem OwII.mono {w : World} {C base base' n : Nat} {bs : List (List Nat)} {vs : List Value} (h : OwII w C base n bs vs) (hb : base' ≤ base) : OwII w C base' n bs vs :=
  ⟨h.len, h.row, fun i r hr => by
    obtain ⟨ai, ci, h1, h2⟩ := h.inn i r hr
    exact ⟨ai, ci, h1, ownsRow_mono h2 hb⟩, h.ap, h.dj⟩
theorem OwII.cellsC {w : World} {C base n : Nat} {bs : List (List Nat)} {vs : List Value} (h : OwII w C base n bs vs) : ∃ o, w.heap[C]? = some o ∧ o.isCells = true := ownsRow_cells h.row rfl
theorem OwII.cellsI {w : World} {C base n : Nat} {bs : List (List Nat)} {vs : List Value} (h : OwII w C base n bs vs) {i g : Nat} {v : Value} (hv : vs[i]? = some v) (hg : v.ownBlock = some g) : ∃ o, w.heap[g]? = some o ∧ o.isCells = true := by
  have hi : i < n := by rw [← h.vlen]; exact (List.getElem?_eq_some_iff.1 hv).1
  obtain ⟨ai, ci, h1, h3⟩ := h.inn i _ (List.getElem?_eq_getElem (by rw [h.len]; exact hi))
  rw [hv] at h1
  cases h1
  exact ownsRow_cells h3 hg
/-- A block of cells is no record. -/
theorem grown_cells {X Y : World} {row : Option Nat} {g : Nat} {o : Obj} (hg : X.grownBy Y row) (ho : X.heap[g]? = some o) (hc : o.isCells = true) (hr : ∀ r, row = some r → ∃ o : Obj, X.heap[r]? = some o ∧ o.isCells = false) : Y.heap[g]? = X.heap[g]? :=
  hg.block g (Array.getElem?_eq_some_iff.1 ho).1 fun e => by
    obtain ⟨o', h1, h2⟩ := hr g e.symm
    rw [ho] at h1
    cases h1
    rw [hc] at h2
    cases h2
/-- The state of the loop over the edges. -/
def LpS (n C C0 base : Nat) (D : Nat → Prop) (w V2 : World) (G : Nat → Prop) (pre : List (Fin n × Fin n)) (U : World) : Prop :=
  ∃ vs, OwII U C base n (prF (pre.map valE) n) vs ∧ U.heap[C0]? = some (.cells #[.slice (some ⟨C, 0, none⟩) n n] 100 (0, 0)) ∧ Stays D V2 U ∧ Below w.heap.size w U ∧ (∀ k, G k → k < U.heap.size ∧ k ≠ C ∧ ∀ (i : Nat) (v : Value), vs[i]? = some v → v.ownBlock ≠ some k)
/-- The rows of the predecessors are handed back. -/
def PreN (l : List Ins) (n : Nat) (w : World) (e : Ending) (w' : World) : Prop := ∃ C vs, e = .returned (.slice (some ⟨C, 0, none⟩) n n) ∧ OwII w' C w.heap.size n (prF (edgN l n) n) vs ∧ w.heap.size ≤ C ∧ Below w.heap.size w w'

set_option maxRecDepth 100000 in
set_option maxHeartbeats 8000000 in
/-- **predecessors.** -/
theorem pred_in (l : List Ins) (la : Option Addr) (n lc : Nat) (w : World) (h : NAt w (fun b => b < w.heap.size) l la) (hn : l.length = n) (hok : Okc l) :
    CallsIn Fence.wide 8 Tryd.prog 93 #[.slice la n lc] w (PreN l n w) := by
  obtain ⟨i0, hi, hz0, hz1, hz2⟩ := info_parts Tryd.infoII
  obtain ⟨j0, hj, hj0, hj1, hj2⟩ := info_parts Tryd.infoI
  have hle : n ≤ 400 := by rw [← hn]; exact hok.le
  obtain ⟨w1, hrun, hown1, hgrow1⟩ := run_make_full (P := Tryd.prog) w w.heap.size 100 22 i0 (.slice none 0 0) 1 Tryd.underlying100 hi hz0 hz1 .i64 .i64 n (by rw [hz2]; omega) (by unfold maxLen; omega) (Nat.le_refl _)
  rw [slicesLp] at hown1
  have hb1 : Below w.heap.size w w1 := (Below.refl _ w).grown hgrow1 (Nat.le_refl _) (fun k e => by cases e)
  have hlt1 := (hown1.lt w.heap.size rfl).2
  obtain ⟨V, hV⟩ : ∃ V, (w1.alloc (.cells #[.slice (some ⟨w.heap.size, 0, none⟩) n n] 100)).alloc (.cells #[.slice la n lc] 27) = V := ⟨_, rfl⟩
  have hz : V.heap.size = w1.heap.size + 2 := by rw [← hV]; simp
  have hb1V : Below w1.heap.size w1 V := by rw [← hV]; exact ((Below.refl _ _).alloc (Nat.le_refl _) _).alloc (by simp) _
  have hbV : Below w.heap.size w V := hb1.trans (hb1V.mono hb1.size)
  have hxC0 : V.heap[w1.heap.size]? = some (.cells #[.slice (some ⟨w.heap.size, 0, none⟩) n n] 100 (0, 0)) := by
    rw [← hV, Below.heap_alloc _ _ _ (by simp)]; exact heap_alloc_new w1 _
  have hxB : V.heap[w1.heap.size + 1]? = some (.cells #[.slice la n lc] 27 (0, 0)) := by
    have h1 := heap_alloc_new (w1.alloc (.cells #[.slice (some ⟨w.heap.size, 0, none⟩) n n] 100)) (.cells #[.slice la n lc] 27)
    rw [World.size_alloc] at h1
    rw [← hV]; exact h1
  obtain ⟨D, hD⟩ : ∃ D : Nat → Prop, D = fun j => j < w.heap.size ∨ j = w1.heap.size + 1 := ⟨_, rfl⟩
  have hDi : ∀ j, D j ↔ j < w.heap.size ∨ j = w1.heap.size + 1 := fun j => by rw [hD]
  have hDV : ∀ j, D j → j < V.heap.size := fun j hj => by have := (hDi j).1 hj; omega
  have hNV : NAt V D l la := h.wide (fun j hj => hbV.block j hj) fun j hj => (hDi j).2 (.inl hj)
  have HSEQ := Lib.hid (edges_seqG (n := n) 7 (by omega) (w1.heap.size + 1) D l la lc V hn hok hDV hxB ((hDi _).2 (.inr rfl)) hNV)
  have HDI := Lib.hid hDi
  have HDV := Lib.hid hDV
  have HS0 : Hid (LpS n w.heap.size w1.heap.size V.heap.size D w V (fun _ => False) [] V) := by
    refine ⟨List.replicate n (.slice none 0 0), ?_, hxC0, Stays.refl _ _, hbV, fun k hk => hk.elim⟩
    have e : prF (([] : List (Fin n × Fin n)).map valE) n = List.replicate n [] := by
      apply List.ext_getElem?
      intro p
      by_cases hp : p < n
      · rw [prF_at _ hp, List.getElem?_replicate, if_pos hp]; rfl
      · rw [List.getElem?_eq_none (by rw [prF_len]; omega), List.getElem?_eq_none (by simp; omega)]
    rw [e]
    exact (OwII.start hown1).later hb1V
  have HN := Lib.hid hn
  have HO := Lib.hid hok
  have HV := Lib.hid hV
  have HBV := Lib.hid hbV
  have hz1w := hb1.size
  clear h hn hok hV hbV hxC0 hxB hD hDi hDV hNV hown1 hgrow1 hb1 hb1V
  refine callsIn_of_wp_marks Tryd.func93 rfl trivial ?_ rfl
  simp only [Tryd.ntmps93, List.size_toArray, List.length_cons, List.length_nil, Nat.reduceAdd, Nat.reduceSub, Array.replicate_succ, Array.replicate_zero, List.push_toArray, List.append_toArray, List.nil_append, List.cons_append]
  gi_wp2_with (first | (refine ⟨trivial, ?_⟩; gi_at_call 117; refine (edges_in _ _ _ _ _).mono ?_; rintro e w2 ⟨rfl, rfl⟩) | fail)
  rw [HV.out]
  refine wpIn_rangeG (by omega) (gf := 132) (lb := #[.pointer (some ⟨w1.heap.size + 1, 0, none⟩)]) (by simp [go_sem]) (enters_of Tryd.func132 (by kernel_rfl) rfl)
    HSEQ.out (fun j hj => HDV.out j hj) (Below.refl _ _) (fun _ => rfl)
    (fun G pre U => LpS n w.heap.size w1.heap.size V.heap.size D w V G pre U) (fun _ _ _ => False) ?hI (fun c s X Y row hs _ _ => hs.elim) ?hgrow ?hanti HS0.out
    (fun x => { tmps := #[.slice la n lc, undef, .slice none 0 0, .pointer (some ⟨w1.heap.size, 0, none⟩), .int .i64 (x.1.val : Int), .int .i64 (x.2.val : Int), .slice la n lc, .int .i64 (n : Int), .slice (some ⟨w.heap.size, 0, none⟩) n n, .slice la n lc, .func (.func 132) #[] #[.pointer (some ⟨w1.heap.size + 1, 0, none⟩)], .int .i64 (x.1.val : Int), .int .i64 (x.2.val : Int), undef, undef, undef, undef, undef, undef, undef, undef, undef, undef, undef], defers := [] }) ?assign ?body ?done (fun d c pre U _ _ hs _ => hs.elim)
  case hI =>
    rintro ⟨G, pre⟩ X Y row ⟨vs, h1, h2, h3, h4, h5⟩ hg hr
    have hr' : ∀ r, row = some r → ∃ o : Obj, X.heap[r]? = some o ∧ o.isCells = false := fun r e => (hr r e).2
    have hst : ∀ k, k < V.heap.size → k < X.heap.size → Y.heap[k]? = X.heap[k]? := fun k hk hx => hg.block k hx fun e => by have := (hr k e.symm).1; omega
    have hzX := h3.size
    refine ⟨vs, h1.far ?_ fun i v g hv hq => ?_, ?_, ⟨Nat.le_trans h3.size hg.size, fun k o hk ho => ?_⟩, ?_, fun k hk => ?_⟩
    · obtain ⟨o, ho, hc⟩ := h1.cellsC
      exact grown_cells hg ho hc hr'
    · obtain ⟨o, ho, hc⟩ := h1.cellsI hv hq
      exact grown_cells hg ho hc hr'
    · exact (grown_cells hg h2 rfl hr').trans h2
    · have h6 := h3.same k o hk ho
      have hkV := HDV.out k hk
      exact (hst k hkV (by omega)).trans h6
    · exact h4.trans ⟨hg.os, hg.tape, hg.output, hg.size, fun k hk => hst k (by omega) (by have := h4.size; omega)⟩
    · obtain ⟨a1, a2, a3⟩ := h5 k hk
      exact ⟨Nat.lt_of_lt_of_le a1 hg.size, a2, a3⟩
  case hgrow =>
    rintro G pre X Y ⟨vs, h1, h2, h3, h4, h5⟩ hb
    refine ⟨vs, h1.later hb, (hb.block _ (Array.getElem?_eq_some_iff.1 h2).1).trans h2, h3.below hb, h4.trans (hb.mono h4.size), fun k hk => ?_⟩
    rcases hk with hk | ⟨hk, hk2⟩
    · obtain ⟨a1, a2, a3⟩ := h5 k hk
      exact ⟨Nat.lt_of_lt_of_le a1 hb.size, a2, a3⟩
    · refine ⟨hk2, fun e => ?_, fun i v hv e => ?_⟩
      · have := h1.ltC; omega
      · have := (h1.old hv e).2; omega
  case hanti =>
    rintro G G' pre X hs ⟨vs, h1, h2, h3, h4, h5⟩
    exact ⟨vs, h1, h2, h3, h4, fun k hk => h5 k (hs k hk)⟩
  case assign =>
    intro l2 x U K hK
    gi_wp2
    exact hK
  case body =>
    rintro l2 G pre ⟨⟨xa, hxa⟩, ⟨xt, hxt⟩⟩ U hsp ⟨vs, h1, h2, h3, h4, h5⟩
    dsimp only
    obtain ⟨ai, ci, hv, hri⟩ := h1.inn xt _ (prF_at (pre.map valE) hxt)
    obtain ⟨r, hr⟩ : ∃ r, prB (pre.map valE) xt = r := ⟨_, rfl⟩
    rw [hr] at hv hri
    obtain ⟨rl, hrl⟩ : ∃ rl, r.length = rl := ⟨_, rfl⟩
    have hC := h1.ltC
    have hzU := h3.size
    have hCc : U.cell? ⟨w.heap.size, xt, none⟩ = some (.slice ai r.length ci) := by rw [h1.row.cellAt xt (by omega)]; exact hv
    have hfz := h1.row.frozenAt xt
    have hs0 : U.cell? ⟨w1.heap.size, 0, none⟩ = some (.slice (some ⟨w.heap.size, 0, none⟩) n n) := by rw [cell_at h2]; rfl
    have hzA : ((U.alloc (.cells #[.int .i64 (xa : Int)] 3)).drew).heap.size = U.heap.size + 1 := World.size_alloc U _
    have hold : ∀ g, g < U.heap.size → ((U.alloc (.cells #[.int .i64 (xa : Int)] 3)).drew).heap[g]? = U.heap[g]? := fun g hg => Below.heap_alloc U _ _ hg
    have hblk : ((U.alloc (.cells #[.int .i64 (xa : Int)] 3)).drew).heap[U.heap.size]? = some (.cells #[.int .i64 (xa : Int)] 3 (0, 0)) := heap_alloc_new U _
    have hr4 : ((U.alloc (.cells #[.int .i64 (xa : Int)] 3)).drew).ownsRow V.heap.size 3 1 (.slice ai rl ci) rl ((natI r).map (Value.int .i64)) := by
      rw [← hrl]
      exact ownsRow_far hri fun g _ hl => hold g hl
    have hC0l := (Array.getElem?_eq_some_iff.1 h2).1
    have hS4 : ((U.alloc (.cells #[.int .i64 (xa : Int)] 3)).drew).cell? ⟨w1.heap.size, 0, none⟩ = some (.slice (some ⟨w.heap.size, 0, none⟩) n n) := (World.cell?_of_block (w := U) (a := ⟨w1.heap.size, 0, none⟩) (hold _ hC0l)).trans hs0
    have hc4 : ((U.alloc (.cells #[.int .i64 (xa : Int)] 3)).drew).cell? ⟨w.heap.size, xt, none⟩ = some (.slice ai rl ci) := by rw [← hrl]; exact (World.cell?_of_block (w := U) (a := ⟨w.heap.size, xt, none⟩) (hold _ hC)).trans hCc
    have hcd : U.drew.cell? ⟨w.heap.size, xt, none⟩ = some (.slice ai rl ci) := by rw [← hrl]; exact hCc
    have hsd : U.drew.cell? ⟨w1.heap.size, 0, none⟩ = some (.slice (some ⟨w.heap.size, 0, none⟩) n n) := hs0
    have hrl4 : rl ≤ 800 := by
      have a1 := hsp.length_le
      have a2 := edgN_len l n
      have a3 := prB_len (pre.map valE) xt
      rw [hr] at a3
      rw [List.map_append, List.length_append] at a1
      omega
    have HGO : Hid (∀ (g5 cp : Nat) (w5 : World), w5.ownsRow V.heap.size 3 1 (.slice (some ⟨g5, 0, none⟩) (rl + 1) cp) (rl + 1) ((natI r).map (Value.int .i64) ++ [.int .i64 (xa : Int)]) → ((U.alloc (.cells #[.int .i64 (xa : Int)] 3)).drew).grownBy w5 (Value.slice ai rl ci).ownBlock → ((Value.slice ai rl ci).ownBlock = some g5 ∨ ((U.alloc (.cells #[.int .i64 (xa : Int)] 3)).drew).heap.size ≤ g5) →
        (w5.cell? ⟨w1.heap.size, 0, none⟩ = some (.slice (some ⟨w.heap.size, 0, none⟩) n n) ∧ w5.cell? ⟨w.heap.size, xt, none⟩ = some (.slice ai rl ci) ∧ w5.frozen? ⟨w.heap.size, xt, none⟩ = false) ∧ (w5.setCell ⟨w.heap.size, xt, none⟩ (.slice (some ⟨g5, 0, none⟩) (rl + 1) cp)).cell? ⟨w1.heap.size, 0, none⟩ = some (.slice (some ⟨w.heap.size, 0, none⟩) n n) ∧
        (Stays (fun k => D k ∨ G k) U (w5.setCell ⟨w.heap.size, xt, none⟩ (.slice (some ⟨g5, 0, none⟩) (rl + 1) cp)) ∧ LpS n w.heap.size w1.heap.size V.heap.size D w V G (pre ++ [((⟨xa, hxa⟩ : Fin n), (⟨xt, hxt⟩ : Fin n))]) (w5.setCell ⟨w.heap.size, xt, none⟩ (.slice (some ⟨g5, 0, none⟩) (rl + 1) cp)))) := by
      subst hrl
      intro g5 cp w5 hown hgr hat
      have hb : ∀ k, k < U.heap.size → (Value.slice ai r.length ci).ownBlock ≠ some k → w5.heap[k]? = U.heap[k]? := fun k hk hne => (hgr.block k (by omega) (fun e => hne e.symm)).trans (hold k hk)
      have hneC0 : (Value.slice ai r.length ci).ownBlock ≠ some w1.heap.size := fun e => by
        have := (h1.old hv e).1
        omega
      have hneC : (Value.slice ai r.length ci).ownBlock ≠ some w.heap.size := fun e => h1.ap xt _ _ hv e rfl
      have c0 := hb _ hC0l hneC0
      have cC := hb _ hC hneC
      have hst : ∀ q, q ≠ w.heap.size → (w5.setCell ⟨w.heap.size, xt, none⟩ (.slice (some ⟨g5, 0, none⟩) (r.length + 1) cp)).heap[q]? = w5.heap[q]? := fun q hq => Below.heap_setCell _ _ _ _ (by simpa using hq)
      have hz5 : U.heap.size ≤ w5.heap.size := by have := hgr.size; omega
      have hpush := h1.push (w4 := ((U.alloc (.cells #[.int .i64 (xa : Int)] 3)).drew)) (a := xa) (by rw [prF_at _ hxt, hr]) hv hold (by omega) hown hgr hat
      refine ⟨⟨(World.cell?_of_block (w := U) (a := ⟨w1.heap.size, 0, none⟩) c0).trans hs0, (World.cell?_of_block (w := U) (a := ⟨w.heap.size, xt, none⟩) cC).trans hCc, ?_⟩, ?_, ⟨by simpa [World.setCell] using hz5, fun k o hk ho => ?_⟩, ?_⟩
      · exact (ownsRow_far h1.row fun g hg _ => by cases hg; exact cC).frozenAt xt
      · exact (World.cell?_of_block (w := U) (a := ⟨w1.heap.size, 0, none⟩) ((hst _ (show w1.heap.size ≠ w.heap.size by omega)).trans c0)).trans hs0
      · have hkU := (Array.getElem?_eq_some_iff.1 ho).1
        have hkC : k ≠ w.heap.size ∧ (Value.slice ai r.length ci).ownBlock ≠ some k := by
          rcases hk with hk | hk
          · have h6 := (HDI.out k).1 hk
            refine ⟨by omega, fun e => ?_⟩
            have := (h1.old hv e).1
            omega
          · obtain ⟨_, a2, a3⟩ := h5 k hk
            exact ⟨a2, a3 xt _ hv⟩
        rw [hst k hkC.1, hb k hkU hkC.2]; exact ho
      · have e : prF ((pre ++ [((⟨xa, hxa⟩ : Fin n), (⟨xt, hxt⟩ : Fin n))]).map valE) n = (prF (pre.map valE) n).set xt (r ++ [xa]) := by
          rw [List.map_append, ← hr]
          exact prF_snoc _ _ _ _
        have hs5 : Stays D U (w5.setCell ⟨w.heap.size, xt, none⟩ (.slice (some ⟨g5, 0, none⟩) (r.length + 1) cp)) := ⟨by simpa [World.setCell] using hz5, fun k o hk ho => by
          have hkU := (Array.getElem?_eq_some_iff.1 ho).1
          have h6 := (HDI.out k).1 hk
          rw [hst k (by omega), hb k hkU (fun e => by have := (h1.old hv e).1; omega)]; exact ho⟩
        refine ⟨_, by rw [e]; exact hpush, ?_, h3.trans hs5, ?_, fun k hk => ?_⟩
        · rw [hst _ (by omega), c0]; exact h2
        · refine Below.setCell (p := ⟨w.heap.size, xt, none⟩) ?_ (Nat.le_refl _) _
          exact (h4.alloc h4.size _).drew.grown hgr (by omega) (fun t ht => (by have := (h1.old hv ht).1; omega))
        · obtain ⟨a1, a2, a3⟩ := h5 k hk
          have hsz : (w5.setCell ⟨w.heap.size, xt, none⟩ (.slice (some ⟨g5, 0, none⟩) (r.length + 1) cp)).heap.size = w5.heap.size := by simp [World.setCell]
          refine ⟨by omega, a2, fun i v hvi => ?_⟩
          by_cases ei : i = xt
          · subst ei
            rw [List.getElem?_set_self (by rw [h1.vlen]; exact hxt)] at hvi
            cases hvi
            intro e6
            have e7 : g5 = k := Option.some.inj e6
            subst e7
            rcases hat with e8 | e8
            · exact a3 _ _ hv e8
            · omega
          · rw [List.getElem?_set_ne (fun e2 => ei e2.symm)] at hvi
            exact a3 i v hvi
    clear hC hCc hv hri h1 h2 h3 h4 h5 hold hrl hr
    gi_wp2
    refine wpIn_region_held (S := fun v => v.cell? ⟨w1.heap.size, 0, none⟩ = some (.slice (some ⟨w.heap.size, 0, none⟩) n n)) (by kernel_rfl) (by kernel_rfl) (fun h => by obtain ⟨_, _, h⟩ := h; exact h) hsd (fun hHeld => ?_)
    refine wpAnyH_take (i := 0) (oi := ⟨some 13, _, _, _, _, _⟩) (v := ?_) rfl (by kernel_rfl) (by kernel_rfl) (by kernel_rfl) (fun _ _ _ h => h) (Or.inl ⟨by rfl, ?_⟩) (by assumption) ?_
    rotate_left
    · intro w hSw; (try dsimp only at hSw); go_simp; (try with_reducible rfl)
    simp only [Act.put, List.setIfInBounds_toArray, List.set_cons_zero, List.set_cons_succ]
    refine wpAnyH_take (i := 1) (oi := ⟨some 14, _, _, _, _, _⟩) (v := ?_) rfl (by kernel_rfl) (by kernel_rfl) (by kernel_rfl) (fun _ _ _ h => h) (Or.inl ⟨by rfl, ?_⟩) (by assumption) ?_
    rotate_left
    · intro w hSw; (try dsimp only at hSw); go_simp; (try with_reducible rfl)
    simp only [Act.put, List.setIfInBounds_toArray, List.set_cons_zero, List.set_cons_succ]
    refine wpAnyH_take (i := 2) (oi := ⟨some 15, _, _, _, _, _⟩) (v := ?_) rfl (by kernel_rfl) (by kernel_rfl) (by kernel_rfl) (fun _ _ _ h => h) (Or.inl ⟨by rfl, ?_⟩) (by assumption) ?_
    rotate_left
    · intro w hSw; (try dsimp only at hSw); go_simp; (try with_reducible rfl)
    simp only [Act.put, List.setIfInBounds_toArray, List.set_cons_zero, List.set_cons_succ]
    refine wpAnyH_take (i := 3) (oi := ⟨some 16, _, _, _, _, _⟩) (v := ?_) rfl (by kernel_rfl) (by kernel_rfl) (by kernel_rfl) (fun _ _ _ h => h) (Or.inl ⟨by rfl, ?_⟩) (by assumption) ?_
    rotate_left
    · intro w hSw; (try dsimp only at hSw); go_simp; (try with_reducible rfl)
    simp only [Act.put, List.setIfInBounds_toArray, List.set_cons_zero, List.set_cons_succ]
    refine wpAnyH_take (i := 4) (oi := ⟨some 17, _, _, _, _, _⟩) (v := ?_) rfl (by kernel_rfl) (by kernel_rfl) (by kernel_rfl) (fun _ _ _ h => h) (Or.inl ⟨by rfl, ?_⟩) (by assumption) ?_
    rotate_left
    · intro w hSw; (try dsimp only at hSw); go_simp; (try with_reducible rfl)
    simp only [Act.put, List.setIfInBounds_toArray, List.set_cons_zero, List.set_cons_succ]
    refine wpAnyH_take (i := 6) (oi := ⟨some 19, _, _, _, _, _⟩) (v := ?_) rfl (by kernel_rfl) (by kernel_rfl) (by kernel_rfl) (fun _ _ _ h => h) (Or.inl ⟨by rfl, ?_⟩) (by assumption) ?_
    rotate_left
    · intro w hSw; (try dsimp only at hSw); go_simp; (try with_reducible rfl)
    simp only [Act.put, List.setIfInBounds_toArray, List.set_cons_zero, List.set_cons_succ]
    refine wpAnyH_ready (rs := [5, 7]) (by kernel_rfl) (by simp) ?_
    refine AllReadyH.cons (o := ⟨some 18, _, _, _, _, _⟩) rfl (fun K hK => ?_) (AllReadyH.cons (o := ⟨some 20, _, _, _, _, _⟩) rfl (fun K hK => ?_) AllReadyH.nil)
    · go_simp
      refine hK.out _ _ hsd (fun hHeld => ?_)
      clear hK K
      try simp only [Act.put, List.setIfInBounds_toArray, List.set_cons_zero, List.set_cons_succ]
      refine wpAnyH_ready (rs := [7]) (by kernel_rfl) (by simp) ?_
      refine AllReadyH.cons (o := ⟨some 20, _, _, _, _, _⟩) rfl (fun K hK => ?_) AllReadyH.nil
      go_simp
      refine hK.out _ _ hS4 (fun hHeld => ?_)
      clear hK K
      try simp only [Act.put, List.setIfInBounds_toArray, List.set_cons_zero, List.set_cons_succ]
      refine wpAnyH_ready (rs := [8]) (by kernel_rfl) (by simp) ?_
      refine AllReadyH.cons (o := ⟨some 21, _, _, _, _, _⟩) rfl (fun K hK => ?_) AllReadyH.nil
      refine step_append_lies _ (by rfl) _ _ _ (by rfl) V.heap.size 3 j0 _ 1 8 Tryd.underlying22 hj hj0 hj1 hj2 rfl (by omega) (.slice ai rl ci) rl _ (by rfl) hr4 ⟨U.heap.size, 0, none⟩ 1 1 [.int .i64 (xa : Int)] (by rfl) (by rfl) (World.news_of_block hblk) (by simp [Value.oneCell']) (by omega) (by unfold maxLen; omega) (by omega) (by omega) (U.heap.size + 1) (by omega) ?_
      intro g5 cp w5 hown5 hgrow hat hlt5
      obtain ⟨⟨k0, k1, k2⟩, HFIN⟩ := HGO.out g5 cp w5 hown5 hgrow (by rcases hat with h | h; exact .inl h; exact .inr (by omega))
      have HFIN := Lib.hid HFIN
      clear hown5 hgrow hat
      try simp only [Act.put, List.setIfInBounds_toArray, List.set_cons_zero, List.set_cons_succ]
      refine hK.out _ _ k0 (fun hHeld => ?_)
      clear hK K
      try simp only [Act.put, List.setIfInBounds_toArray, List.set_cons_zero, List.set_cons_succ]
      refine wpAnyH_take (i := 9) (oi := ⟨some 22, _, _, _, _, _⟩) (v := ?_) rfl (by kernel_rfl) (by kernel_rfl) (by kernel_rfl) (fun _ _ _ h => h) (Or.inl ⟨by rfl, ?_⟩) (by assumption) ?_
      rotate_left
      · intro w hSw; (try dsimp only at hSw); go_simp; (try with_reducible rfl)
      simp only [Act.put, List.setIfInBounds_toArray, List.set_cons_zero, List.set_cons_succ]
      refine wpAnyH_ready (rs := [10]) (by kernel_rfl) (by simp) ?_
      refine AllReadyH.cons (o := ⟨none, _, _, _, _, _⟩) rfl (fun K hK => ?_) AllReadyH.nil
      go_simp
      refine hK.out _ _ HFIN.out.1 (fun hHeld => ?_)
      clear hK K
      refine wpAnyH_done (by kernel_rfl) ?_ _
      gi_wp2
      exact HFIN.out.2
    · go_simp
      refine hK.out _ _ hS4 (fun hHeld => ?_)
      clear hK K
      try simp only [Act.put, List.setIfInBounds_toArray, List.set_cons_zero, List.set_cons_succ]
      refine wpAnyH_ready (rs := [5]) (by kernel_rfl) (by simp) ?_
      refine AllReadyH.cons (o := ⟨some 18, _, _, _, _, _⟩) rfl (fun K hK => ?_) AllReadyH.nil
      go_simp
      refine hK.out _ _ hS4 (fun hHeld => ?_)
      clear hK K
      try simp only [Act.put, List.setIfInBounds_toArray, List.set_cons_zero, List.set_cons_succ]
      refine wpAnyH_ready (rs := [8]) (by kernel_rfl) (by simp) ?_
      refine AllReadyH.cons (o := ⟨some 21, _, _, _, _, _⟩) rfl (fun K hK => ?_) AllReadyH.nil
      refine step_append_lies _ (by rfl) _ _ _ (by rfl) V.heap.size 3 j0 _ 1 8 Tryd.underlying22 hj hj0 hj1 hj2 rfl (by omega) (.slice ai rl ci) rl _ (by rfl) hr4 ⟨U.heap.size, 0, none⟩ 1 1 [.int .i64 (xa : Int)] (by rfl) (by rfl) (World.news_of_block hblk) (by simp [Value.oneCell']) (by omega) (by unfold maxLen; omega) (by omega) (by omega) (U.heap.size + 1) (by omega) ?_
      intro g5 cp w5 hown5 hgrow hat hlt5
      obtain ⟨⟨k0, k1, k2⟩, HFIN⟩ := HGO.out g5 cp w5 hown5 hgrow (by rcases hat with h | h; exact .inl h; exact .inr (by omega))
      have HFIN := Lib.hid HFIN
      clear hown5 hgrow hat
      try simp only [Act.put, List.setIfInBounds_toArray, List.set_cons_zero, List.set_cons_succ]
      refine hK.out _ _ k0 (fun hHeld => ?_)
      clear hK K
      try simp only [Act.put, List.setIfInBounds_toArray, List.set_cons_zero, List.set_cons_succ]
      refine wpAnyH_take (i := 9) (oi := ⟨some 22, _, _, _, _, _⟩) (v := ?_) rfl (by kernel_rfl) (by kernel_rfl) (by kernel_rfl) (fun _ _ _ h => h) (Or.inl ⟨by rfl, ?_⟩) (by assumption) ?_
      rotate_left
      · intro w hSw; (try dsimp only at hSw); go_simp; (try with_reducible rfl)
      simp only [Act.put, List.setIfInBounds_toArray, List.set_cons_zero, List.set_cons_succ]
      refine wpAnyH_ready (rs := [10]) (by kernel_rfl) (by simp) ?_
      refine AllReadyH.cons (o := ⟨none, _, _, _, _, _⟩) rfl (fun K hK => ?_) AllReadyH.nil
      go_simp
      refine hK.out _ _ HFIN.out.1 (fun hHeld => ?_)
      clear hK K
      refine wpAnyH_done (by kernel_rfl) ?_ _
      gi_wp2
      exact HFIN.out.2
  case done =>
    rintro d ys U hd hys ⟨vs, h1, h2, h3, h4, h5⟩ hKd
    have hnd : ∀ {g : Nat} {o : Obj}, U.heap[g]? = some o → o.isCells = true → g ≠ d := fun h6 h7 e => by
      subst e
      rw [hKd] at h6
      cases h6
      cases h7
    have hfar : ∀ g, g ≠ d → (U.putObj d (.deferred none)).heap[g]? = U.heap[g]? := fun g hg => World.putObj_heap_other hg
    have hzVw : w.heap.size ≤ V.heap.size := by omega
    have HFIN : Hid (PreN l n w (.returned (.slice (some ⟨w.heap.size, 0, none⟩) n n)) (U.putObj d (.deferred none))) := by
      rw [hys] at h1
      refine ⟨w.heap.size, vs, rfl, ?_, Nat.le_refl _, h4.trans (belowK_b (w := V) (by omega) _ d _ (.deferred none) hd hKd rfl rfl)⟩
      have h6 : OwII (U.putObj d (.deferred none)) w.heap.size V.heap.size n (prF (edgN l n) n) vs := h1.far (by
        obtain ⟨o, ho, hc⟩ := h1.cellsC
        exact hfar _ (hnd ho hc)) fun i v g hv hg => by
        obtain ⟨o, ho, hc⟩ := h1.cellsI hv hg
        exact hfar _ (hnd ho hc)
      exact h6.mono hzVw
    have c0 : U.cell? ⟨w1.heap.size, 0, none⟩ = some (.slice (some ⟨w.heap.size, 0, none⟩) n n) := by rw [cell_at h2]; rfl
    have HKD := Lib.hid hKd
    clear h1 h2 h3 h4 h5 hKd hys hnd hfar
    gi_wp2
    refine ⟨by simp, .inl ⟨_, _, rfl, run_takeDeferred HKD.out, ?_⟩⟩
    exact ⟨.slice (some ⟨w.heap.size, 0, none⟩) n n, by simp [results, Tryd.f93, go_sem], HFIN.out⟩

end Go.Proofs.YtbifbmpflhdijaaDoor

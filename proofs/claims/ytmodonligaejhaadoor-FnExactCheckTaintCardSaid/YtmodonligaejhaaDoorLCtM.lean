/- A range over a function whose iterator is itself a loop over an iterator: the contract tells the iterator that a round leaves every block from the iterator's own world on as it was. -/
import Derived.RangeFuncNested
import Derived.RangeFuncBound
import Derived.RangeFuncCalls
import Derived.RangeFuncLeaves
import Derived.RangeFuncBox
import Derived.Shelf.Abstract
import Derived.Test.YtmodonligaejhaaDoorProg
import Derived.OwnWalkIn
import Derived.TacticsInMore
import Derived.LoopNIn
import Derived.LoopIn
import Derived.Shelf.RegionOpen
import Derived.WalkKit
import Derived.Test.YtmodonligaejhaaDoorRcI
import Derived.Deep.RegionHeld
import Derived.OrdersIn
import Derived.TacticsIn
import Derived.Test.YtmodonligaejhaaDoorTnO
import Derived.Test.YtmodonligaejhaaDoorTnG
import Derived.Test.YtmodonligaejhaaDoorTnF
import Derived.Test.YtmodonligaejhaaDoorBb
import Derived.Test.YtmodonligaejhaaDoorNxT
import Derived.Test.YtmodonligaejhaaDoorCdE
import Derived.Test.YtmodonligaejhaaDoorCdT
import Derived.Deep.RegionWith
import Derived.Deep.RegionHeld3
namespace Go.Proofs.YtmodonligaejhaaDoor
open Go.RowKit Go.Shelf
set_option linter.unusedVariables false

/-- The blocks of D lie as they lay. -/
structure Stays (D : Nat → Prop) (W W' : World) : Prop where
  size : W.heap.size ≤ W'.heap.size
  same : ∀ (k : Nat) (o : Obj), D k → W.heap[k]? = some o → W'.heap[k]? = some o
theorem Stays.refl (D : Nat → Prop) (W : World) : Stays D W W := ⟨Nat.le_refl _, fun _ _ _ h => h⟩
theorem Stays.trans {D : Nat → Prop} {X Y Z : World} (h : Stays D X Y) (k : Stays D Y Z) : Stays D X Z := ⟨Nat.le_trans h.size k.size, fun i o hB hi => k.same i o hB (h.same i o hB hi)⟩
theorem Stays.mono {D E : Nat → Prop} {W W' : World} (h : Stays D W W') (hc : ∀ k, k < W.heap.size → E k → D k) : Stays E W W' := ⟨h.size, fun k o hB hk => h.same k o (hc k (Array.getElem?_eq_some_iff.1 hk).1 hB) hk⟩
theorem Stays.alloc {D : Nat → Prop} {W W' : World} (h : Stays D W W') (o : Obj) : Stays D W (W'.alloc o) := ⟨by have := h.size; simp; omega, fun k q hB hk => by
  have h1 := h.same k q hB hk
  rw [Below.heap_alloc _ _ _ (Array.getElem?_eq_some_iff.1 h1).1]; exact h1⟩
theorem Stays.setCell {D : Nat → Prop} {W W' : World} (h : Stays D W W') {p : Addr} (hp : ¬ D p.block) (v : Value) : Stays D W (W'.setCell p v) := ⟨by have := h.size; simpa [World.setCell] using this, fun k q hB hk => by
  rw [Below.heap_setCell _ _ _ _ (fun e => hp (by rw [← e]; exact hB))]; exact h.same k q hB hk⟩
theorem Stays.putObj {D : Nat → Prop} {W W' : World} (h : Stays D W W') {l : Nat} (hl : ¬ D l) (o : Obj) : Stays D W (W'.putObj l o) := ⟨by have := h.size; simpa [World.putObj] using this, fun k q hB hk => by
  rw [World.putObj_heap_other (fun e => hl (by rw [← e]; exact hB))]; exact h.same k q hB hk⟩
theorem Stays.drew {D : Nat → Prop} {W W' : World} (h : Stays D W W') : Stays D W W'.drew := ⟨h.size, h.same⟩
/-- What a callee leaves that writes new blocks alone. -/
theorem Stays.below {D : Nat → Prop} {W W' W2 : World} (h : Stays D W W') (hb : Below W'.heap.size W' W2) : Stays D W W2 := ⟨Nat.le_trans h.size hb.size, fun k q hB hk => by
  have h1 := h.same k q hB hk
  rw [hb.block k (Array.getElem?_eq_some_iff.1 h1).1]; exact h1⟩
theorem Stays.at {D : Nat → Prop} {W W' : World} (h : Stays D W W') {k : Nat} (hD : D k) (hk : k < W.heap.size) : W'.heap[k]? = W.heap[k]? := by
  obtain ⟨o, ho⟩ : ∃ o, W.heap[k]? = some o := ⟨_, Array.getElem?_eq_getElem hk⟩
  rw [ho]; exact h.same k o hD ho
/-- What speaks of cells alone abides new blocks. -/
theorem own_below {β : Type} {B : Nat} {I : β → World → Prop} (h : OwnFrom B I) {s : β} {W W' : World} (hs : I s W) (hb : Below W.heap.size W W') : I s W' :=
  h s W W' none hs ⟨hb.os, hb.tape, hb.output, hb.size, fun k hk _ => hb.block k hk⟩ fun r e => by cases e

theorem own_later {β : Type} {B C : Nat} {I : β → World → Prop} (h : OwnFrom B I) (hc : B ≤ C) : OwnFrom C I := fun s X Y row hs hg hr => h s X Y row hs hg fun r e => ⟨Nat.le_trans hc (hr r e).1, (hr r e).2⟩
theorem own_at {β : Type} {B k : Nat} (o : Obj) (hk : k < B) : OwnFrom B (fun (_ : β) W => W.heap[k]? = some o) := fun s X Y row hs hg hr =>
  (hg.block k (Array.getElem?_eq_some_iff.1 hs).1 fun e => by have := (hr k e.symm).1; omega).trans hs

variable {P : Program}

/-- What an iterator owes, and what a round owes it: the blocks of D, and whatever lay when the iterator began, stay, but for the record of the loop. -/
def SeqL {α : Type} (n : Nat) (P : Program) (g : Nat) (lb : Array Value) (encs : α → Array Value) (D : Nat → Prop) (S Sp : List α → Prop) (w : World) : Prop :=
  ∀ (l : Nat) (J Jx : List α → World → Prop) (W : World), Below w.heap.size w W → l < W.heap.size → OwnFrom W.heap.size J → OwnFrom W.heap.size Jx →
    (∀ pre x W1, J pre W1 → YieldAt Fence.wide (n - 1) P l (encs x) W1 fun e W' =>
      ((e = .returned (.bool true) ∧ J (pre ++ [x]) W') ∨ (e = .returned (.bool false) ∧ Jx (pre ++ [x]) W')) ∧ Stays (fun k => D k ∨ W.heap.size ≤ k) W1 W') →
    J [] W →
    CallsIn Fence.wide n P g (#[.func (.yield l) #[] #[]] ++ lb) W fun e W' => (∃ v, e = .returned v) ∧ ((∃ xs, S xs ∧ J xs W') ∨ (∃ pre, Sp pre ∧ Jx pre W'))

/-- How a round's body may be left. -/
def postL {α : Type} (B : Nat) (D : Nat → Prop) (I : List α → World → Prop) (Ix : Code → List α → World → Prop) (xs : List α) (W : World) : Exit → Act → World → Prop
  | .normal, _, W' => Stays (fun k => D k ∨ B ≤ k) W W' ∧ I xs W'
  | .ret, _, W' => Stays (fun k => D k ∨ B ≤ k) W W' ∧ Ix .ret xs W'
  | _, _, _ => False

set_option maxHeartbeats 2000000 in
/-- **The caller's side.** -/
theorem wpIn_rangeL {α : Type} {n : Nat} {g : Operand} {ps : Array Tmp} {assign body : Code} {Q : Exit → Act → World → Prop} {a : Act} {w : World} (h1 : 1 ≤ n) {gf : Nat} {lb : Array Value}
    (hg : a.eval g = .func (.func gf) #[] lb) (eg : ∀ args w, (callFunc gf args).run P w = .ok (.enter gf args) w)
    {encs : α → Array Value} {D : Nat → Prop} {S Sp : List α → Prop} {w0 : World} (hseq : SeqL (n - 1) P gf lb encs D S Sp w0) (hD : ∀ k, D k → k < w.heap.size) (hb0 : Below w0.heap.size w0 w) (hps : ∀ x, (encs x).size = ps.size)
    (I : List α → World → Prop) (Ix : Code → List α → World → Prop) (hI : OwnFrom w.heap.size I) (hIx : ∀ c, OwnFrom w.heap.size (Ix c)) (h0 : I [] w) (a1 : α → Act)
    (hassign : ∀ (l : Nat) (x : α) (W : World) (K : Act → World → Prop), K (a1 x) W →
      assign.wpIn (Fence.wide.inRound l) (n - 1 - 1) P (Exit.then K (fun _ _ _ => False)) { tmps := (ps.zip (encs x)).foldl (fun t (p, v) => t.setIfInBounds p v) a.tmps, defers := [] } W)
    (hbody : ∀ (l : Nat) (pre : List α) (x : α) (W : World), I pre W → body.wpIn (Fence.wide.inRound l) (n - 1 - 1) P (postL w.heap.size D I Ix (pre ++ [x]) W) (a1 x) W)
    (hdone : ∀ (d : Nat) (xs : List α) (W : World), w.heap.size ≤ d → S xs → I xs W → W.heap[d]? = some (.deferred (some [])) → Q .normal { a with defers := { target := .collected d, args := #[] } :: a.defers } W)
    (hstop : ∀ (d : Nat) (c : Code) (pre : List α) (W : World), w.heap.size ≤ d → Sp pre → Ix c pre W → W.heap[d]? = some (.deferred (some [])) → c.wpIn Fence.wide n P Q { a with defers := { target := .collected d, args := #[] } :: a.defers } W) :
    (Code.rangeFunc g ps assign body).wpIn Fence.wide n P Q a w := by
  refine wpIn_rangeFunc fun fn hfn => ?_
  -- the record, in each of its states
  obtain ⟨R, hR⟩ : ∃ R : LoopState → Option Code → Loop, R = fun s p => { state := s, pending := p, fn, tmps := a.tmps, params := ps, assign, body, defers := w.heap.size } := ⟨_, rfl⟩
  obtain ⟨V, hV⟩ : ∃ V, (w.alloc (.deferred (some []))).alloc (.loop (R .ready none)) = V := ⟨_, rfl⟩
  have hz : V.heap.size = w.heap.size + 2 := by rw [← hV]; simp
  have hl0 : V.heap[w.heap.size + 1]? = some (.loop (R .ready none)) := by
    have h := World.alloc_heap_new (w.alloc (.deferred (some []))) (.loop (R .ready none))
    rw [World.size_alloc] at h
    rw [← hV]; exact h
  have hd0 : V.heap[w.heap.size]? = some (.deferred (some [])) := by
    rw [← hV, Below.heap_alloc _ _ _ (by simp)]; exact World.alloc_heap_new w _
  have hI0 : I [] V := by rw [← hV]; exact hI.alloc _ (hI.alloc _ h0)
  have hbV : Below w0.heap.size w0 V := by
    have h2 : Below w.heap.size w V := by rw [← hV]; exact ((Below.refl _ w).alloc (Nat.le_refl _) _).alloc (by simp) _
    exact hb0.trans (h2.mono hb0.size)
  refine ⟨w.heap.size + 1, [{ target := .collected w.heap.size, args := #[] }], V, { target := .fn (.func gf) lb, args := #[.func (.yield (w.heap.size + 1)) #[] #[]] }, V, gf,
    #[.func (.yield (w.heap.size + 1)) #[] #[]] ++ lb, V, ?_, ?_, fun f' hf' => trivial, ?_, fun _ => h1, ?_⟩
  · rw [← hV, hR]; exact run_enterLoop_outer _ _ _ _ _
  · simp only [resolve, hg]
    simp [go_sem]
  · simp [invoke, go_sem, eg]
  refine (hseq (w.heap.size + 1) (fun pre W => I pre W ∧ W.heap[w.heap.size + 1]? = some (.loop (R .ready none)) ∧ W.heap[w.heap.size]? = some (.deferred (some [])))
    (fun pre W => Ix .ret pre W ∧ W.heap[w.heap.size + 1]? = some (.loop (R .done (some .ret))) ∧ W.heap[w.heap.size]? = some (.deferred (some []))) V hbV (by omega)
    ((own_later hI (by omega)).and ((own_at _ (by omega)).and (own_at _ (by omega)))) ((own_later (hIx _) (by omega)).and ((own_at _ (by omega)).and (own_at _ (by omega)))) ?_ ⟨hI0, hl0, hd0⟩).mono ?_
  · rintro pre x W ⟨hi, hl, hd⟩
    have hy := run_yield (P := P) (args := encs x) hl (by rw [hR]; exact hps x)
    rw [hR] at hy
    refine ⟨fn, _, assign, body, hy, roundIn_of_wpIn hfn (hassign _ x W _ ?_)⟩
    refine ⟨_, run_beginRound hl (by rw [hR]), ?_⟩
    have hnD : ¬ (D (w.heap.size + 1) ∨ V.heap.size ≤ w.heap.size + 1) := fun h => by
      rcases h with h | h
      · have := hD _ h; omega
      · omega
    obtain ⟨U, hU⟩ : ∃ U, W.putObj (w.heap.size + 1) (.loop { R .ready none with state := .busy }) = U := ⟨_, rfl⟩
    have hlU : U.heap[w.heap.size + 1]? = some (.loop { R .ready none with state := .busy }) := by rw [← hU]; exact World.putObj_heap_same (Array.getElem?_eq_some_iff.1 hl).1
    have hdU : U.heap[w.heap.size]? = some (.deferred (some [])) := by rw [← hU, World.putObj_heap_other (by omega)]; exact hd
    have hsU : Stays (fun k => D k ∨ V.heap.size ≤ k) W U := by rw [← hU]; exact (Stays.refl _ _).putObj hnD _
    have hiU : I pre U := by rw [← hU]; exact hI.putObj _ hi (by omega) hl rfl
    rw [hU]
    -- how the round ends
    have fin : ∀ (j : Option Code) (X : World), Stays (fun k => D k ∨ w.heap.size ≤ k) U X → ∃ Y, (Instr.endRound (w.heap.size + 1) j).run P X = .ok (.bool j.isNone) Y ∧ Y = X.putObj (w.heap.size + 1) (.loop (R (if j.isNone then .ready else .done) j)) ∧
        Y.heap[w.heap.size + 1]? = some (.loop (R (if j.isNone then .ready else .done) j)) ∧ Y.heap[w.heap.size]? = some (.deferred (some [])) ∧ Stays (fun k => D k ∨ V.heap.size ≤ k) W Y ∧ X.heap[w.heap.size + 1]? = some (.loop { R .ready none with state := .busy }) := fun j X hX => by
      have hlX := hX.same _ _ (.inr (by omega)) hlU
      have hdX := hX.same _ _ (.inr (Nat.le_refl _)) hdU
      have he := run_endRound (P := P) j hlX
      rw [hR] at he
      refine ⟨_, he, by rw [hR], ?_, ?_, ?_, hlX⟩
      · rw [World.putObj_heap_same (Array.getElem?_eq_some_iff.1 hlX).1, hR]
      · rw [World.putObj_heap_other (by omega)]; exact hdX
      · exact (hsU.trans (hX.mono fun k _ h => h.elim .inl fun h => .inr (by omega))).putObj hnD _
    refine wpIn_mono (hbody _ pre x U hiU) ?_
    rintro e a3 X hp
    cases e with
    | normal =>
      obtain ⟨h2, h4⟩ := hp
      obtain ⟨Y, he, hY, hlY, hdY, hsY, hlX⟩ := fin none X h2
      have hiY : I (pre ++ [x]) Y := by rw [hY]; exact hI.putObj _ h4 (by omega) hlX rfl
      exact ⟨_, _, he, .inl ⟨rfl, hiY, hlY, hdY⟩, hsY⟩
    | ret =>
      obtain ⟨h2, h3⟩ := hp
      obtain ⟨Y, he, hY, hlY, hdY, hsY, hlX⟩ := fin (some .ret) X h2
      have hiY : Ix .ret (pre ++ [x]) Y := by rw [hY]; exact (hIx _).putObj _ h3 (by omega) hlX rfl
      exact ⟨_, _, he, .inr ⟨rfl, hiY, hlY, hdY⟩, hsY⟩
    | exit id => exact hp.elim
    | goto t => exact hp.elim
    | panic ch => exact hp.elim
    | outgrown => exact hp.elim
  · rintro e X ⟨⟨v, rfl⟩, (⟨xs, hS, hi, hl, hd⟩ | ⟨pre, hS, hi, hl, hd⟩)⟩
    · have he := run_endLoop (P := P) hl (by rw [hR]; simp)
      rw [hR] at he
      exact ⟨none, _, he, hdone _ xs _ (Nat.le_refl _) hS (hI.putObj _ hi (by omega) hl rfl) ((World.putObj_heap_other (by omega)).trans hd)⟩
    · have he := run_endLoop (P := P) hl (by rw [hR]; simp)
      rw [hR] at he
      exact ⟨some .ret, _, he, hstop _ .ret pre _ (Nat.le_refl _) hS ((hIx _).putObj _ hi (by omega) hl rfl) ((World.putObj_heap_other (by omega)).trans hd)⟩

end Go.Proofs.YtmodonligaejhaaDoor

namespace Go.Proofs.YtmodonligaejhaaDoor
open Go.RowKit Go.Shelf
set_option linter.unusedVariables false

attribute [local go_sem] Oper.semAt_some

abbrev encE {n : Nat} (x : Fin n × Fin n) : Array Value := #[.int .i64 (x.1.val : Int), .int .i64 (x.2.val : Int)]
def valE {n : Nat} (x : Fin n × Fin n) : Nat × Nat := (x.1.val, x.2.val)
/-- Where the execution may go on behind instruction k. -/
def folAt (l : List Ins) (k : Nat) : List Nat := match l[k]? with | some x => folN x k | none => []
theorem folAt_at {l : List Ins} {k : Nat} {x : Ins} (h : l[k]? = some x) : folAt l k = folN x k := by unfold folAt; rw [h]
/-- The edges of the first k instructions. -/
def edgN (l : List Ins) : Nat → List (Nat × Nat)
  | 0 => []
  | k + 1 => edgN l k ++ (folAt l k).map fun t => (k, t)
theorem edgN_pre (l : List Ins) {k n : Nat} (h : k ≤ n) : edgN l k <+: edgN l n := by
  induction n with
  | zero => obtain rfl : k = 0 := by omega
            exact List.prefix_refl _
  | succ n ih =>
    by_cases e : k = n + 1
    · subst e; exact List.prefix_refl _
    · exact (ih (by omega)).trans (List.prefix_append _ _)
theorem edgN_part {l : List Ins} {k n j : Nat} {x : Ins} (hx : l[k]? = some x) (h : k < n) : edgN l k ++ ((folN x k).take j).map (fun t => (k, t)) <+: edgN l n := by
  refine List.IsPrefix.trans ?_ (edgN_pre l (Nat.succ_le_of_lt h))
  show _ <+: edgN l k ++ _
  rw [folAt_at hx]
  exact (List.prefix_append_right_inj _).2 ((List.take_prefix j _).map _)

set_option maxRecDepth 100000 in
set_option maxHeartbeats 8000000 in
theorem edg1_in {n : Nat} (m : Nat) (hm : 1 ≤ m) (lp Bn B : Nat) (D : Nat → Prop) (l : List Ins) (a : Option Addr) (c : Nat) (J Jx : List (Fin n × Fin n) → World → Prop) (hn : l.length = n) (hok : Okc l) (hJ : OwnFrom B J)
    (hY : ∀ pre x W1, J pre W1 → YieldAt Fence.wide (m - 1) Tryd.prog lp (encE x) W1 fun e W' =>
      ((e = .returned (.bool true) ∧ J (pre ++ [x]) W') ∨ (e = .returned (.bool false) ∧ Jx (pre ++ [x]) W')) ∧ Stays (fun k => D k ∨ B ≤ k) W1 W')
    (W : World) (hB : W.heap.size = B) (hDB : ∀ k, D k → k < B) (hBn : W.heap[Bn]? = some (.cells #[.slice a n c] 28 (0, 0))) (hDn : D Bn) (hL : NAt W D l a) (h0 : J [] W) :
    CallsIn Fence.wide m Tryd.prog 88 #[.func (.yield lp) #[] #[], .pointer (some ⟨Bn, 0, none⟩)] W fun e W' => (∃ v, e = .returned v) ∧
      ((∃ ys : List (Fin n × Fin n), ys.map valE = edgN l n ∧ J ys W') ∨ (∃ pre : List (Fin n × Fin n), pre.map valE <+: edgN l n ∧ Jx pre W')) := by
  refine callsIn_of_wp Tryd.func88 rfl trivial ?_ rfl
  simp only [Tryd.ntmps88, List.size_toArray, List.length_cons, List.length_nil, Nat.reduceAdd, Nat.reduceSub, Array.replicate_succ, Array.replicate_zero, List.push_toArray, List.append_toArray, List.nil_append, List.cons_append]
  have HY := Lib.hid hY
  have HJ := Lib.hid hJ
  have HN := Lib.hid hn
  have HO := Lib.hid hok
  have hn400 : n ≤ 400 := by rw [← hn]; exact hok.le
  have hBlt : Bn < W.heap.size := by rw [hB]; exact hDB _ hDn
  -- what stands in every world that a round has left
  have HS : Hid (∀ v, Stays D W v → v.cell? ⟨Bn, 0, none⟩ = some (.slice a n c) ∧ NAt v (fun b => b < v.heap.size) l a) := fun v hv => by
    refine ⟨?_, hL.wide (fun k hk => hv.at hk (by rw [hB]; exact hDB k hk)) fun k hk => Nat.lt_of_lt_of_le (by rw [hB]; exact hDB k hk) hv.size⟩
    rw [cell_at ((hv.at hDn hBlt).trans hBn)]; rfl
  have x0 := (HS.out W (Stays.refl _ _)).1
  clear hY hJ hn hok hBn hL
  gi_wp2
  gi_loopw [8] (fun p wr => ∃ (k : Nat) (pre : List (Fin n × Fin n)), k ≤ n ∧ p = .int .i64 (k : Int) ∧ pre.map valE = edgN l k ∧ J pre wr ∧ Stays D W wr) (fun p _ => n - (intOf p).toNat)
  case atStart => exact ⟨0, [], Nat.zero_le _, rfl, rfl, h0, Stays.refl _ _⟩
  case round =>
    obtain ⟨k, pre, hk, rfl, hpre, hJ1, hS1⟩ := hrel
    have HPRE := Lib.hid hpre
    have HJ1 := Lib.hid hJ1
    have HS1 := Lib.hid hS1
    have hzr := hS1.size
    obtain ⟨y0, hNA⟩ := HS.out wr hS1
    clear hpre hJ1 hS1 h0 x0
    by_cases hlt : k < n
    · obtain ⟨x, hx⟩ : ∃ x, l[k]? = some x := ⟨l[k]'(by rw [HN.out]; exact hlt), List.getElem?_eq_getElem _⟩
      have HX := Lib.hid hx
      have HF := Lib.hid (fol_one l a n c k x wr hNA HN.out HO.out hx)
      clear hx hNA
      gi_wp2_with (refine ⟨trivial, ?_⟩; gi_at_call 74; refine (callsIn_wide.2 HF.out).mono ?_; rintro e w1 ⟨ra, rc, rfl, hown, hb1⟩)
      obtain ⟨rl, hrl⟩ : ∃ rl, (natI (folN x k)).length = rl := ⟨_, rfl⟩
      have hrl2 : (folN x k).length = rl := by rw [← hrl, natI_len]
      have hrle : rl ≤ 2 := by rw [← hrl2]; exact folN_len x k
      have HRL := Lib.hid hrl2
      have HOWN := Lib.hid hown
      have HB1 := Lib.hid hb1
      rw [hrl]
      have hz1 := hb1.size
      have hS0 : ∀ g, wr.heap.size ≤ g → B ≤ g := fun g h => by omega
      have HR0 : Hid (∃ (j : Nat) (pre : List (Fin n × Fin n)), j ≤ rl ∧ Value.int .i64 0 = .int .i64 (j : Int) ∧ pre.map valE = edgN l k ++ ((folN x k).take j).map (fun t => (k, t)) ∧ J pre w1 ∧ Stays D W w1 ∧ Stays (fun k => D k ∨ B ≤ k) w1 w1) :=
        ⟨0, pre, Nat.zero_le _, rfl, by rw [HPRE.out]; simp, own_below HJ.out HJ1.out hb1, HS1.out.below hb1, Stays.refl _ _⟩
      clear hown hb1 hrl hrl2 HF HJ1 HS1 HPRE y0
      gi_wp2
      gi_loopw [15] (fun p wr2 => ∃ (j : Nat) (pre : List (Fin n × Fin n)), j ≤ rl ∧ p = .int .i64 (j : Int) ∧ pre.map valE = edgN l k ++ ((folN x k).take j).map (fun t => (k, t)) ∧ J pre wr2 ∧ Stays D W wr2 ∧ Stays (fun k => D k ∨ B ≤ k) w1 wr2) (fun p _ => rl - (intOf p).toNat)
      case atStart => exact HR0.out
      case round =>
        obtain ⟨j, pre, hj, rfl, hpre, hJ2, hS2, hS3⟩ := hrel
        have HPRE := Lib.hid hpre
        have HJ2 := Lib.hid hJ2
        have HS2 := Lib.hid hS2
        have HS3 := Lib.hid hS3
        clear hpre hJ2 hS2 hS3 HR0
        by_cases hlj : j < rl
        · obtain ⟨t, ht⟩ : ∃ t, (folN x k)[j]? = some t := ⟨(folN x k)[j]'(by rw [HRL.out]; exact hlj), List.getElem?_eq_getElem _⟩
          have htn : t < n := by rw [← HN.out]; exact HO.out.fol HX.out (List.mem_of_getElem? ht)
          obtain ⟨g, rfl, cr⟩ : ∃ g, ra = some ⟨g, 0, none⟩ ∧ wr.cell? ⟨g, j, none⟩ = some (.int .i64 (t : Int)) := by
            rcases HOWN.out.2 with ⟨e, e2⟩ | ⟨g, cap', cur, e, hb, hg, hn', hm', hc, ht'⟩
            · exact absurd e2 (by rw [natI_len, HRL.out]; omega)
            · injection e with e1 e2 e3
              subst e1
              refine ⟨g, rfl, ?_⟩
              have h1 : w1.cell? ⟨g, j, none⟩ = some (.int .i64 (t : Int)) := by
                rw [HOWN.out.cellAt j (by rw [natI_len, HRL.out]; omega)]
                unfold natI
                rw [List.getElem?_map, List.getElem?_map, ht]; rfl
              exact (World.cell?_of_block (w := w1) (a := ⟨g, j, none⟩) (HS3.out.at (.inr (by have := hS0 g hb; omega)) (Array.getElem?_eq_some_iff.1 hg).1)).trans h1
          have HPRE2 : Hid ((pre ++ [((⟨k, hlt⟩ : Fin n), (⟨t, htn⟩ : Fin n))]).map valE = edgN l k ++ ((folN x k).take (j + 1)).map (fun t => (k, t))) := by
            show List.map valE (pre ++ [((⟨k, hlt⟩ : Fin n), (⟨t, htn⟩ : Fin n))]) = _
            rw [List.map_append, HPRE.out, List.take_add_one, ht, List.append_assoc]
            simp [valE]
          obtain ⟨fn, tmps, assign, body, hy, hR⟩ := HY.out pre ((⟨k, hlt⟩ : Fin n), (⟨t, htn⟩ : Fin n)) wr HJ2.out
          have HR := Lib.hid hR
          dsimp only [encE] at hy
          clear hR ht HOWN HJ2 HPRE
          gi_wp2
          refine HR.out.mono ?_
          clear HR hy
          rintro e W3 ⟨(⟨rfl, hJ3⟩ | ⟨rfl, hJ3⟩), hst⟩
          · have HREL : Hid (∃ (j' : Nat) (pre' : List (Fin n × Fin n)), j' ≤ rl ∧ Value.int .i64 ((j : Int) + 1) = .int .i64 (j' : Int) ∧ pre'.map valE = edgN l k ++ ((folN x k).take j').map (fun t => (k, t)) ∧ J pre' W3 ∧ Stays D W W3 ∧ Stays (fun k => D k ∨ B ≤ k) w1 W3) :=
              ⟨j + 1, _, hlj, by go_num, HPRE2.out, hJ3, HS2.out.trans (hst.mono fun q _ h => .inl h), HS3.out.trans hst⟩
            clear hJ3 hst HPRE2 HS2 HS3
            gi_wp2
            go_roundw
            case rel => exact HREL.out
            case measure => simp [intOf]; omega
          · have HFIN : Hid (∃ pre : List (Fin n × Fin n), pre.map valE <+: edgN l n ∧ Jx pre W3) := ⟨_, by rw [HPRE2.out]; exact edgN_part HX.out hlt, hJ3⟩
            clear hJ3 hst HPRE2 HS2 HS3
            gi_wp2
            refine bodyPost_ret (results_none rfl _ _ _) rfl ?_
            exact ⟨⟨_, rfl⟩, .inr HFIN.out⟩
        · obtain rfl : j = rl := by omega
          have HREL : Hid (∃ (k' : Nat) (pre' : List (Fin n × Fin n)), k' ≤ n ∧ Value.int .i64 ((k : Int) + 1) = .int .i64 (k' : Int) ∧ pre'.map valE = edgN l k' ∧ J pre' wr ∧ Stays D W wr) := by
            refine ⟨k + 1, pre, hlt, by go_num, ?_, HJ2.out, HS2.out⟩
            rw [HPRE.out, List.take_of_length_le (by rw [HRL.out]; exact Nat.le_refl _)]
            show _ = edgN l k ++ _
            rw [folAt_at HX.out]
          clear HJ2 HPRE HS2 HS3 HOWN
          gi_wp2
          go_roundw
          case rel => exact HREL.out
          case measure => simp [intOf]; omega
    · obtain rfl : k = n := by omega
      have HFIN : Hid (∃ ys : List (Fin k × Fin k), ys.map valE = edgN l k ∧ J ys wr) := ⟨pre, HPRE.out, HJ1.out⟩
      clear HJ1 HPRE HS1 y0 hNA
      gi_wp2
      go_end0
      exact ⟨⟨_, rfl⟩, .inl HFIN.out⟩

theorem edges_in (n : Nat) (a : Option Addr) (m c : Nat) (w : World) :
    CallsIn Fence.wide n Tryd.prog 76 #[.slice a m c] w fun e w' => e = .returned (.func (.func 88) #[] #[.pointer (some ⟨w.heap.size, 0, none⟩)]) ∧ w' = w.alloc (.cells #[.slice a m c] 28) := by
  refine callsIn_of_wp Tryd.func76 rfl trivial ?_ rfl
  simp only [Tryd.ntmps76, List.size_toArray, List.length_cons, List.length_nil, Nat.reduceAdd, Nat.reduceSub, Array.replicate_succ, Array.replicate_zero, List.push_toArray, List.append_toArray, List.nil_append, List.cons_append]
  gi_wp2
  go_ret
  exact ⟨rfl, rfl⟩

/-- **What edges hands back, for every loop body that keeps the list and its box.** -/
theorem edges_seq {n : Nat} (m : Nat) (hm : 1 ≤ m) (Bn : Nat) (D : Nat → Prop) (l : List Ins) (a : Option Addr) (c : Nat) (w : World) (hn : l.length = n) (hok : Okc l)
    (hDB : ∀ k, D k → k < w.heap.size) (hBn : w.heap[Bn]? = some (.cells #[.slice a n c] 28 (0, 0))) (hDn : D Bn) (hL : NAt w D l a) :
    SeqL m Tryd.prog 88 #[.pointer (some ⟨Bn, 0, none⟩)] (encE (n := n)) D (fun ys => ys.map valE = edgN l n) (fun pre => pre.map valE <+: edgN l n) w := fun lp J Jx W hW hl hJ _ hY h0 =>
  edg1_in m hm lp Bn W.heap.size D l a c J Jx hn hok hJ hY W rfl (fun k hk => Nat.lt_of_lt_of_le (hDB k hk) hW.size) ((hW.block Bn (hDB _ hDn)).trans hBn) hDn (hL.wide (fun k hk => hW.block k (hDB k hk)) fun _ h => h) h0

end Go.Proofs.YtmodonligaejhaaDoor

namespace Go.Proofs.YtmodonligaejhaaDoor
open Go.RowKit
set_option linter.unusedVariables false

theorem oper_inRound {l n : Nat} {P : Program} {o : Oper} {a : Act} {w : World} {K : Act → World → Prop} {Q : Exit → Act → World → Prop} (hd : ∀ c, o.op ≠ .defer c) (h : o.wp P a w K Q) : o.wpIn (Fence.wide.inRound l) n P a w K Q := by
  unfold Oper.wp at h
  unfold Oper.wpIn
  refine ⟨fun _ _ => trivial, ?_⟩
  rw [show (Fence.wide.inRound l).round = some l from rfl, Oper.semAt_some l _ _ hd]
  generalize (execOp a.eval o).run P w = r at h ⊢
  have hdep : ∀ q : Nat, ((Fence.wide.inRound l).depth.isSome = true → 1 ≤ q) := fun q e => by cases e
  cases r with
  | ok x w' =>
    cases x
    case enter f args => exact ⟨hdep n, CallsIn.inRound l (callsIn_wide.2 h)⟩
    case row r args =>
      refine ⟨hdep n, fun c cs _ => ?_⟩
      obtain ⟨v, w2, hr, hs⟩ := h c cs
      exact ⟨v, w2, hr, stepsIn_wide.2 hs⟩
    all_goals first | exact h | exact h.elim
  | halt x w' => cases x <;> first | exact h | exact h.elim

/-- No operation is a defer statement. -/
def noDefer (ops : Array Oper) : Bool := ops.toList.all fun o => match o.op with | .defer _ => false | _ => true
theorem noDefer_at {ops : Array Oper} (h : noDefer ops = true) {i : Nat} {o : Oper} (ho : ops[i]? = some o) : ∀ c, o.op ≠ .defer c := fun c e => by
  unfold noDefer at h
  rw [List.all_eq_true] at h
  have h1 := h o (by rw [Array.mem_toList_iff]; exact Array.mem_of_getElem? ho)
  rw [e] at h1
  cases h1
theorem any_inRound {l n : Nat} {P : Program} {md : Region.Mode} {ops : Array Oper} {Q : Exit → Act → World → Prop} (hd : noDefer ops = true) (hQ : ¬ LetsOut Q) : ∀ (fuel : Nat) (listed : Array Bool) (a : Act) (w : World), wpAny P md ops Q fuel listed a w → wpAnyIn (Fence.wide.inRound l) n P md ops Q fuel listed a w
  | 0, _, _, _, h => h
  | fuel + 1, listed, a, w, h => by
    refine ⟨h.1, fun i hi => ?_⟩
    have h2 := h.2 i hi
    unfold wpOp at h2
    unfold wpOpIn
    cases ho : ops[i]? with
    | none =>
      rw [ho] at h2
      exact any_inRound hd hQ fuel _ a w h2
    | some o =>
      rw [ho] at h2
      simp only at h2 ⊢
      by_cases hw : Region.wanted o (yielded ops a.tmps) = true
      · rw [if_pos hw] at h2 ⊢
        rcases h2 with h2 | h2
        · exact Oper.wpIn_mono (fun a w h => any_inRound hd hQ fuel _ a w h) (oper_inRound (noDefer_at hd ho) h2)
        · exact absurd h2.2 hQ
      · rw [if_neg hw] at h2 ⊢
        exact ⟨fun _ _ => trivial, any_inRound hd hQ fuel _ _ w h2⟩

/-- **A drawn region within a round**: one condition on the world for the whole region, as outside of rounds. -/
theorem wpIn_region_held {l n id : Nat} {P : Program} {ops : Array Oper} {Q : Exit → Act → World → Prop} {a : Act} {w : World} {S : World → Prop} (hm : P.follows .mixedOrders = true) (hd : noDefer ops = true) (hQ : ¬ LetsOut Q) (hS : S w.drew)
    (h : S w.drew → wpAnyH P .any ops Q S ops.size (Array.replicate ops.size false) a w.drew) : (Code.region id ops true).wpIn (Fence.wide.inRound l) n P Q a w :=
  wpIn_region_any hm (any_inRound hd hQ _ _ _ _ (wpAny_of_held _ _ _ _ (h hS)))

end Go.Proofs.YtmodonligaejhaaDoor

namespace Go.Proofs.YtmodonligaejhaaDoor
open Go.RowKit
set_option linter.unusedVariables false

/-- The mask of the first k flags. -/
def regN (r : List Bool) : Nat → Nat
  | 0 => 0
  | k + 1 => sb (regN r k) k (r.getD k false)
theorem regN_lt (r : List Bool) : ∀ k, k ≤ 14 → regN r k < 32768
  | 0, _ => by simp [regN]
  | k + 1, h => sb_lt (regN_lt r k (by omega)) (by omega)
theorem regN_bit (r : List Bool) : ∀ k b, k ≤ 14 → (regN r k).testBit b = (decide (b < k) && r.getD b false)
  | 0, b, _ => by simp [regN]
  | k + 1, b, h => by
    show (sb (regN r k) k (r.getD k false)).testBit b = _
    rw [sb_bit (regN_lt r k (by omega)) (by omega), regN_bit r k b (by omega)]
    by_cases e : b = k
    · subst e; simp
    · rw [if_neg e]
      by_cases h2 : b < k
      · simp [h2, Nat.lt_succ_of_lt h2]
      · simp [h2, show ¬ b < k + 1 by omega]
/-- A row's mask. -/
def mkR (r : List Bool) : Nat := if r.length = 0 then 0 else regN r 14 ||| 16384
theorem mkR_0 {r : List Bool} (h : r.length = 0) : mkR r = 0 := by unfold mkR; rw [if_pos h]
theorem mkR_14 {r : List Bool} (h : r.length = 14) : mkR r = regN r 14 ||| 16384 := by unfold mkR; rw [if_neg (by omega)]
theorem bit14 (b : Nat) : (16384 : Nat).testBit b = decide (b = 14) := by
  rw [show (16384 : Nat) = 2 ^ 14 by rfl, Nat.testBit_two_pow]
  by_cases h : b = 14
  · subst h; simp
  · simp [h, show ¬ 14 = b from fun e => h e.symm]
theorem mkR_has14 {r : List Bool} (h : r.length = 14) : (mkR r).testBit 14 = true := by rw [mkR_14 h, Nat.testBit_or, bit14]; simp
theorem mkR_ne {r : List Bool} (h : r.length = 14) : mkR r ≠ 0 := bit_ne (mkR_has14 h)
theorem mkR_lt (r : List Bool) : mkR r < 32768 := by
  unfold mkR; split
  · omega
  · exact Nat.or_lt_two_pow (n := 15) (regN_lt r 14 (by omega)) (by omega)
theorem mkR_gm {r : List Bool} (h : r.length = 0 ∨ r.length = 14) : Gm (mkR r) := ⟨mkR_lt r, h.elim (fun h => .inl (mkR_0 h)) fun h => .inr (mkR_has14 h)⟩
theorem mkR_row {r : List Bool} (h : r.length = 0 ∨ r.length = 14) : rowB (mkR r) = r := by
  rcases h with h | h
  · rw [mkR_0 h, rowB_0, List.eq_nil_of_length_eq_zero h]
  · refine (rowB_ext (mkR_ne h) h fun i hi => ?_).symm
    rw [mkR_14 h, Nat.testBit_or, bit14, regN_bit r 14 i (by omega)]
    simp [hi, show i ≠ 14 by omega, List.getD_eq_getElem?_getD, List.getElem?_eq_getElem (show i < r.length by omega)]
theorem mkR_zero {r : List Bool} (h : r.length = 0 ∨ r.length = 14) : mkR r = 0 ↔ r.length = 0 := ⟨fun e => by
  rcases h with h | h
  · exact h
  · exact absurd e (mkR_ne h), mkR_0⟩
def masks (rs : List (List Bool)) : List Nat := rs.map mkR
theorem masks_len (rs : List (List Bool)) : (masks rs).length = rs.length := by simp [masks]
theorem masks_at {rs : List (List Bool)} {i : Nat} {r : List Bool} (h : rs[i]? = some r) : (masks rs)[i]? = some (mkR r) := by simp [masks, h]
theorem masks_row {rs : List (List Bool)} (h : ∀ r ∈ rs, r.length = 0 ∨ r.length = 14) : (masks rs).map rowB = rs := by
  unfold masks
  rw [List.map_map]
  exact (List.map_congr_left fun r hr => mkR_row (h r hr)).trans (List.map_id _)
theorem masks_gm {rs : List (List Bool)} (h : ∀ r ∈ rs, r.length = 0 ∨ r.length = 14) (i q : Nat) (hq : (masks rs)[i]? = some q) : Gm q := by
  unfold masks at hq
  rw [List.getElem?_map] at hq
  obtain ⟨r, hr, rfl⟩ := Option.map_eq_some_iff.1 hq
  exact mkR_gm (h r (List.mem_of_getElem? hr))

/-- Rows that taint maps may have. -/
def RowsT (rs : List (List Bool)) : Prop := ∀ r ∈ rs, r.length = 0 ∨ r.length = 14
/-- The first j are such. -/
def RowsTo (rs : List (List Bool)) (j : Nat) : Prop := ∀ (i : Nat) (r : List Bool), i < j → rs[i]? = some r → r.length = 0 ∨ r.length = 14
theorem RowsTo.succ {rs : List (List Bool)} {j : Nat} {r : List Bool} (h : RowsTo rs j) (hr : rs[j]? = some r) (e : r.length = 0 ∨ r.length = 14) : RowsTo rs (j + 1) := fun i q hi hq => by
  by_cases hk : i = j
  · subst hk
    rw [hr] at hq
    cases hq
    exact e
  · exact h i q (by omega) hq
theorem RowsTo.all {rs : List (List Bool)} (h : RowsTo rs rs.length) : RowsT rs := fun r hr => by
  obtain ⟨i, hi, rfl⟩ := List.mem_iff_getElem.1 hr
  exact h i _ hi (List.getElem?_eq_getElem hi)
/-- The map covers the edges of the first j instructions. -/
def CovTo (sv sa : Nat → Bool) (l : List Ins) (ms : List Nat) (j : Nat) : Prop := ∀ (i : Nat) (x : Ins) (m t q : Nat), i < j → l[i]? = some x → ms[i]? = some m → m ≠ 0 → t ∈ folN x i → ms[t]? = some q → Sub (aftM sv sa x m) q
/-- The first row states something, no instruction leaks, and what holds after each holds before those that may follow. -/
structure CovM (sv sa : Nat → Bool) (l : List Ins) (ms : List Nat) : Prop where
  fst : ∀ q, ms[0]? = some q → q ≠ 0
  lk : NoLk sv sa l ms l.length
  cov : CovTo sv sa l ms l.length
/-- What CheckTaint answers. -/
structure CkT (m : Cd) (rs : List (List Bool)) : Prop where
  ok : codeB m = true
  len : rs.length = m.list.length
  rows : RowsT rs
  cov : CovM (secN m.vars) (secN m.arrs) m.list (masks rs)
def AnsC (m : Cd) (rs : List (List Bool)) (w : World) (e : Ending) (w' : World) : Prop := ∃ b, e = .returned (.bool b) ∧ (b = true ↔ CkT m rs) ∧ Below w.heap.size w w'
theorem AnsC.no {m : Cd} {rs : List (List Bool)} {w w' : World} (h : ¬ CkT m rs) (hb : Below w.heap.size w w') : AnsC m rs w (.returned (.bool false)) w' := ⟨false, rfl, ⟨fun e => (by cases e), fun e => absurd e h⟩, hb⟩
theorem AnsC.yes {m : Cd} {rs : List (List Bool)} {w w' : World} (h : CkT m rs) (hb : Below w.heap.size w w') : AnsC m rs w (.returned (.bool true)) w' := ⟨true, rfl, ⟨fun _ => h, fun _ => rfl⟩, hb⟩

end Go.Proofs.YtmodonligaejhaaDoor

namespace Go.Proofs.YtmodonligaejhaaDoor
open Go.RowKit Go.Shelf
set_option linter.unusedVariables false

set_option maxRecDepth 100000 in
set_option maxHeartbeats 2000000 in
/-- **registersOf.** -/
theorem regOf_one (r : List Bool) (a : Option Addr) (c : Nat) (w : World) {D : Nat → Prop} (h : BAt w D r a) (hn : r.length = 14) :
    Calls Tryd.prog 75 #[.slice a 14 c] w (fun e w' => e = .returned (.int .u16 (regN r 14 : Int)) ∧ w' = w) := by
  have H := Lib.hid h
  have HN := Lib.hid hn
  clear h hn
  go_enter Tryd.func75, Tryd.ntmps75
  go_wp2_with fail
  go_loopw [3, 8] (fun s i wr => ∃ k : Nat, k ≤ 14 ∧ i = .int .i64 (k : Int) ∧ s = .int .u16 (regN r k : Int) ∧ wr = w) (fun _ i _ => 14 - (intOf i).toNat)
  case atStart => exact ⟨0, by omega, rfl, rfl, by first | rfl | trivial⟩
  case round =>
    obtain ⟨k, hk, rfl, rfl, rfl⟩ := hrel
    by_cases hlt : k < 14
    · obtain ⟨x, hx⟩ : ∃ x, r[k]? = some x := ⟨r[k]'(by rw [HN.out]; exact hlt), List.getElem?_eq_getElem _⟩
      obtain ⟨b, o, rfl, _, e0⟩ := H.out.2 k x hx
      have HS : Hid (regN r (k + 1) = sb (regN r k) k x) := by
        show sb (regN r k) k (r.getD k false) = _
        rw [List.getD_eq_getElem?_getD, hx]; rfl
      obtain ⟨m, hm⟩ : ∃ m, regN r k = m := ⟨_, rfl⟩
      have hlm : m < 32768 := by rw [← hm]; exact regN_lt r k (by omega)
      have HM := Lib.hid hm
      rw [hm] at HS ⊢
      have HW := Lib.hid (with_one m k x wr hlm hlt)
      clear hx hm H
      go_wp2_with fail
      refine HW.out.mono ?_
      rintro e w2 ⟨rfl, hw2⟩
      subst hw2
      rw [← HS.out]
      go_wp2_with fail
      go_roundw
      case rel => exact ⟨k + 1, by omega, by go_num, rfl, by first | rfl | trivial⟩
      case measure => simp [intOf]; omega
    · obtain rfl : k = 14 := by omega
      clear H
      go_wp2_with fail
      go_ret
      exact ⟨rfl, rfl⟩

set_option maxHeartbeats 2000000 in
/-- **isTaintRow.** -/
theorem isT_one (a : Option Addr) (n c : Nat) (w : World) :
    Calls Tryd.prog 48 #[.slice a n c] w (fun e w' => e = .returned (.bool (decide (n = 0 ∨ n = 14))) ∧ w' = w) := by
  by_cases hok : n = 0 ∨ n = 14
  · have HF : Hid (decide (n = 0 ∨ n = 14) = true) := decide_eq_true hok
    rcases hok with rfl | rfl
    all_goals
      go_enter Tryd.func48, Tryd.ntmps48
      go_wp2_with fail
      go_ret
      exact ⟨by first | rfl | (rw [HF.out]; rfl), rfl⟩
  · have HF : Hid (decide (n = 0 ∨ n = 14) = false) := decide_eq_false hok
    have h0 : ((n : Int) == 0) = false := by simp; omega
    have h1 : ((n : Int) == 14) = false := by simp; omega
    clear hok
    go_enter Tryd.func48, Tryd.ntmps48
    go_wp2_with fail
    go_ret
    exact ⟨by first | rfl | (rw [HF.out]; rfl), rfl⟩

set_option maxHeartbeats 2000000 in
/-- **taintRow.** -/
theorem tR_one (r : List Bool) (a : Option Addr) (n c : Nat) (w : World) {D : Nat → Prop} (h : BAt w D r a) (hn : r.length = n) (hok : n = 0 ∨ n = 14) :
    Calls Tryd.prog 49 #[.slice a n c] w (fun e w' => e = .returned (.int .u16 (mkR r : Int)) ∧ w' = w) := by
  rcases hok with rfl | rfl
  · have HF := Lib.hid (mkR_0 hn)
    rw [HF.out]
    clear h hn
    go_enter Tryd.func49, Tryd.ntmps49
    go_wp2_with fail
    go_ret
    exact ⟨rfl, rfl⟩
  · have HF := Lib.hid (mkR_14 hn)
    have hb : bits .or .u16 16384 (regN r 14 : Int) = ((16384 ||| regN r 14 : Nat) : Int) := u16_or_nat 16384 (regN r 14) (by omega) (by have := regN_lt r 14 (by omega); omega)
    rw [Nat.or_comm] at hb
    rw [HF.out]
    have HR := Lib.hid (regOf_one r a c w h hn)
    obtain ⟨z, hz⟩ : ∃ z, (regN r 14 ||| 16384) = z := ⟨_, rfl⟩
    rw [hz] at hb ⊢
    clear h hn HF hz
    go_enter Tryd.func49, Tryd.ntmps49
    go_wp2_with fail
    refine HR.out.mono ?_
    rintro e w2 ⟨rfl, hw2⟩
    subst hw2
    clear HR
    go_wp2_with fail
    go_ret
    exact ⟨rfl, rfl⟩

/-- An edge is covered. -/
def covE (sv sa : Nat → Bool) (l : List Ins) (ms : List Nat) (p : Nat × Nat) : Prop := ∀ (x : Ins) (m q : Nat), l[p.1]? = some x → ms[p.1]? = some m → ms[p.2]? = some q → m ≠ 0 → Sub (aftM sv sa x m) q
theorem covn_no {mj af : Nat} (hm : mj < 32768) (ha : af < 32768) (h : Sub af mj) : (bits .andNot .u16 (af : Int) (mj : Int) != 0) = false := by
  rw [u16_andNot_nat af mj (by omega) (by omega), (sub_iff hm ha).2 h]; rfl
theorem covn_yes {mj af : Nat} (hm : mj < 32768) (ha : af < 32768) (h : ¬ Sub af mj) : (bits .andNot .u16 (af : Int) (mj : Int) != 0) = true := by
  rw [u16_andNot_nat af mj (by omega) (by omega)]
  have h1 : af &&& (65535 - mj) ≠ 0 := fun e => h ((sub_iff hm ha).1 e)
  simp; omega
theorem mem_edgN {l : List Ins} : ∀ {n i t : Nat} {x : Ins}, i < n → l[i]? = some x → t ∈ folN x i → (i, t) ∈ edgN l n
  | n + 1, i, t, x, hi, hx, ht => by
    show (i, t) ∈ edgN l n ++ _
    by_cases e : i = n
    · subst e
      rw [folAt_at hx]
      exact List.mem_append_right _ (List.mem_map.2 ⟨t, ht, rfl⟩)
    · exact List.mem_append_left _ (mem_edgN (by omega) hx ht)
theorem edgN_mem {l : List Ins} : ∀ {n : Nat} {p : Nat × Nat}, p ∈ edgN l n → ∃ x, l[p.1]? = some x ∧ p.1 < n ∧ p.2 ∈ folN x p.1
  | n + 1, p, h => by
    rcases List.mem_append.1 (show p ∈ edgN l n ++ _ from h) with h | h
    · obtain ⟨x, h1, h2, h3⟩ := edgN_mem h
      exact ⟨x, h1, by omega, h3⟩
    · obtain ⟨t, ht, rfl⟩ := List.mem_map.1 h
      unfold folAt at ht
      split at ht
      · rename_i x hx
        exact ⟨x, hx, by simp, ht⟩
      · simp at ht
theorem cov_of {sv sa : Nat → Bool} {l : List Ins} {ms : List Nat} {n : Nat} (h : ∀ p ∈ edgN l n, covE sv sa l ms p) : CovTo sv sa l ms n := fun i x m t q hi hx hm h0 ht hq => h (i, t) (mem_edgN hi hx ht) x m q hx hm hq h0
theorem cov_off {sv sa : Nat → Bool} {l : List Ins} {ms : List Nat} {n : Nat} {p : Nat × Nat} (hp : p ∈ edgN l n) (h : ¬ covE sv sa l ms p) : ¬ CovTo sv sa l ms n := fun hc => h fun x m q hx hm hq h0 => by
  obtain ⟨x', h1, h2, h3⟩ := edgN_mem hp
  rw [hx] at h1
  cases h1
  exact hc p.1 x m p.2 q h2 hx hm h0 h3 hq

end Go.Proofs.YtmodonligaejhaaDoor

namespace Go.Proofs.YtmodonligaejhaaDoor
open Go.RowKit Go.Shelf
set_option linter.unusedVariables false

attribute [local go_sem] Oper.semAt_some

/-- What covered answers. -/
def CovA (sv sa : Nat → Bool) (l : List Ins) (ms : List Nat) (w : World) (e : Ending) (w' : World) : Prop := ∃ b, e = .returned (.bool b) ∧ (b = true ↔ (∀ q, ms[0]? = some q → q ≠ 0) ∧ CovTo sv sa l ms l.length) ∧ Below w.heap.size w w'

set_option maxRecDepth 100000 in
set_option maxHeartbeats 16000000 in
theorem cov_in (m : Cd) (l : List Ins) (la ra : Option Addr) (n lc rc : Nat) (f : Nat → Nat) (ms : List Nat) (w : World) (h : NAt w (fun b => b < w.heap.size) l la) (hn : l.length = n) (hmn : ms.length = n) (hok : Okc l) (hf : KnT m f) (hit : ∀ (i : Nat) (x : Ins), l[i]? = some x → InsT m.vars.length m.arrs.length x) (hr : RsAt w (fun b => b < w.heap.size) ms ra) (hlt : ∀ (i q : Nat), ms[i]? = some q → q < 32768) :
    CallsIn Fence.wide 8 Tryd.prog 50 #[.agg (arrV la n lc f), .slice ra n rc] w (CovA (secN m.vars) (secN m.arrs) l ms w) := by
  have hpos : 1 ≤ n := by rw [← hn]; exact hok.pos
  have hle : n ≤ 400 := by rw [← hn]; exact hok.le
  obtain ⟨W, hW⟩ : ∃ W, ((w.alloc (.cells (arrV la n lc f) 69)).alloc (.cells #[.slice ra n rc] 72)).alloc (.cells #[.bool false] 4) = W := ⟨_, rfl⟩
  have hB : Below w.heap.size w W := by rw [← hW]; exact (((Below.refl _ w).alloc (Nat.le_refl _) _).alloc (by simp) _).alloc (by simp; omega) _
  have hz : W.heap.size = w.heap.size + 3 := by rw [← hW]; simp
  have hx0 : W.heap[w.heap.size]? = some (.cells (arrV la n lc f) 69 (0, 0)) := by
    rw [← hW, Below.heap_alloc _ _ _ (by simp; omega), Below.heap_alloc _ _ _ (by simp)]; exact heap_alloc_new w _
  have hx1 : W.heap[w.heap.size + 1]? = some (.cells #[.slice ra n rc] 72 (0, 0)) := by
    have h1 := heap_alloc_new (w.alloc (.cells (arrV la n lc f) 69)) (.cells #[.slice ra n rc] 72)
    rw [World.size_alloc] at h1
    rw [← hW, Below.heap_alloc _ _ _ (by simp)]; exact h1
  have hx2 : W.heap[w.heap.size + 2]? = some (.cells #[.bool false] 4 (0, 0)) := by
    have h1 := heap_alloc_new ((w.alloc (.cells (arrV la n lc f) 69)).alloc (.cells #[.slice ra n rc] 72)) (.cells #[.bool false] 4)
    rw [World.size_alloc, World.size_alloc] at h1
    rw [← hW]; exact h1
  have v0 : W.cell? ⟨w.heap.size, 0, none⟩ = some (.slice la n lc) := by rw [cell_at hx0]; rfl
  obtain ⟨V, hV⟩ : ∃ V, W.alloc (.cells #[.slice la n lc] 28) = V := ⟨_, rfl⟩
  have hzV : V.heap.size = w.heap.size + 4 := by rw [← hV]; simp; omega
  have hbV : Below W.heap.size W V := by rw [← hV]; exact (Below.refl _ W).alloc (Nat.le_refl _) _
  have hx3 : V.heap[w.heap.size + 3]? = some (.cells #[.slice la n lc] 28 (0, 0)) := by rw [← hV, ← hz]; exact heap_alloc_new W _
  have hBV : Below w.heap.size w V := hB.trans (hbV.mono hB.size)
  have hv0 := (hbV.block w.heap.size (by omega)).trans hx0
  have hv1 := (hbV.block (w.heap.size + 1) (by omega)).trans hx1
  have hv2 := (hbV.block (w.heap.size + 2) (by omega)).trans hx2
  have hNV : NAt V (fun j => j ≠ w.heap.size + 2 ∧ j < V.heap.size) l la := h.wide (fun j hj => hBV.block j hj) fun j hj => ⟨by omega, by omega⟩
  have hRV : RsAt V (fun j => j ≠ w.heap.size + 2 ∧ j < V.heap.size) ms ra := hr.wide (fun j hj => hBV.block j hj) fun j hj => ⟨by omega, by omega⟩
  have HSEQ := Lib.hid (edges_seq (n := n) 7 (by omega) (w.heap.size + 3) (fun j => j ≠ w.heap.size + 2 ∧ j < V.heap.size) l la lc V hn hok (fun j hj => hj.2) hx3 ⟨by omega, by omega⟩ hNV)
  have HS : Hid (∀ v, Stays (fun j => j ≠ w.heap.size + 2 ∧ j < V.heap.size) V v → v.heap[w.heap.size]? = some (.cells (arrV la n lc f) 69 (0, 0)) ∧ v.heap[w.heap.size + 1]? = some (.cells #[.slice ra n rc] 72 (0, 0)) ∧ NAt v (fun b => b < v.heap.size) l la ∧ RsAt v (fun b => b < v.heap.size) ms ra) := fun v hv =>
    ⟨hv.same _ _ ⟨by omega, by omega⟩ hv0, hv.same _ _ ⟨by omega, by omega⟩ hv1, hNV.wide (fun j hj => hv.at hj hj.2) fun j hj => Nat.lt_of_lt_of_le hj.2 hv.size, hRV.wide (fun j hj => hv.at hj hj.2) fun j hj => Nat.lt_of_lt_of_le hj.2 hv.size⟩
  have HN := Lib.hid hn
  have HMN := Lib.hid hmn
  have HF := Lib.hid hf
  have HIT := Lib.hid hit
  have HLT := Lib.hid hlt
  have HW := Lib.hid hW
  have HV := Lib.hid hV
  have HZ := Lib.hid hz
  have HBV := Lib.hid hBV
  have HV2 := Lib.hid hv2
  unfold arrV at HW
  clear h hn hmn hok hf hit hr hlt hW hB hx0 hx1 hx2 hx3 hV hbV hBV hv0 hv1 hv2 hNV hRV hz
  refine callsIn_of_wp_marks Tryd.func50 rfl trivial ?_ rfl
  simp only [Tryd.ntmps50, List.size_toArray, List.length_cons, List.length_nil, Nat.reduceAdd, Nat.reduceSub, Array.replicate_succ, Array.replicate_zero, List.push_toArray, List.append_toArray, List.nil_append, List.cons_append]
  gi_wp2_with (first | (with_reducible rw [HW.out]) | (refine ⟨trivial, ?_⟩; gi_at_call 76; refine (edges_in _ _ _ _ _).mono ?_; rintro e w2 ⟨rfl, rfl⟩) | fail)
  rw [HV.out, HZ.out]
  refine wpIn_rangeL (by omega) (gf := 88) (lb := #[.pointer (some ⟨w.heap.size + 3, 0, none⟩)]) rfl (enters_of Tryd.func88 (by kernel_rfl) rfl)
    HSEQ.out (fun j hj => hj.2) (Below.refl _ _) (fun _ => rfl)
    (fun pre U => (∀ p ∈ pre, covE (secN m.vars) (secN m.arrs) l ms (valE p)) ∧ Stays (fun j => j ≠ w.heap.size + 2 ∧ j < V.heap.size) V U ∧ Below w.heap.size w U ∧ U.heap[w.heap.size + 2]? = some (.cells #[.bool false] 4 (0, 0)))
    (fun cc pre U => (cc = .ret ∧ ∃ p ∈ pre, ¬ covE (secN m.vars) (secN m.arrs) l ms (valE p)) ∧ Below w.heap.size w U ∧ U.heap[w.heap.size + 2]? = some (.cells #[.bool false] 4 (0, 0)))
    (fun pre X Y row hs hg hr => ⟨hs.1, hs.2.1.trans ⟨hg.size, fun j o hj ho => (hg.block j (Array.getElem?_eq_some_iff.1 ho).1 fun e => by have h1 := (hr j e.symm).1; have h2 := hj.2; omega).trans ho⟩,
      (ownFrom_below (β := List (Fin n × Fin n)) (Nat.le_refl _) (show w.heap.size ≤ V.heap.size by omega)) pre X Y row hs.2.2.1 hg hr, (hg.block _ (Array.getElem?_eq_some_iff.1 hs.2.2.2).1 fun e => by have := (hr _ e.symm).1; omega).trans hs.2.2.2⟩)
    (fun cc pre X Y row hs hg hr => ⟨hs.1, (ownFrom_below (β := List (Fin n × Fin n)) (Nat.le_refl _) (show w.heap.size ≤ V.heap.size by omega)) pre X Y row hs.2.1 hg hr, (hg.block _ (Array.getElem?_eq_some_iff.1 hs.2.2).1 fun e => by have := (hr _ e.symm).1; omega).trans hs.2.2⟩)
    ⟨fun t ht => by simp at ht, Stays.refl _ _, HBV.out, HV2.out⟩
    (fun x => { tmps := #[.agg (arrV la n lc f), .slice ra n rc, .pointer (some ⟨w.heap.size, 0, none⟩), .pointer (some ⟨w.heap.size + 1, 0, none⟩), .pointer (some ⟨w.heap.size + 2, 0, none⟩), .int .i64 (x.1.val : Int), .int .i64 (x.2.val : Int), .pointer (some ⟨w.heap.size, 0, none⟩), .slice la n lc, .func (.func 88) #[] #[.pointer (some ⟨w.heap.size + 3, 0, none⟩)], .int .i64 (x.1.val : Int), .int .i64 (x.2.val : Int), undef, undef, undef, undef, undef, undef, undef, undef, undef, undef, undef, undef, undef, undef, undef, undef, undef, undef, undef, undef, undef, undef, undef, undef, undef, undef, undef, undef], defers := [] }) ?assign ?body ?done ?stop
  case assign =>
    intro l2 x U K hK
    gi_wp2
    exact hK
  case body =>
    rintro l2 pre ⟨⟨xk, hxk⟩, ⟨xt, hxt⟩⟩ U ⟨hall, hS, hB, hR⟩
    dsimp only
    obtain ⟨hbv, hbr, hNA, hRS⟩ := HS.out U hS
    obtain ⟨y, hy⟩ : ∃ y, l[xk]? = some y := ⟨l[xk]'(by rw [HN.out]; exact hxk), List.getElem?_eq_getElem _⟩
    obtain ⟨mk, hmk⟩ : ∃ mk, ms[xk]? = some mk := ⟨ms[xk]'(by rw [HMN.out]; exact hxk), List.getElem?_eq_getElem _⟩
    obtain ⟨mq, hmq⟩ : ∃ mq, ms[xt]? = some mq := ⟨ms[xt]'(by rw [HMN.out]; exact hxt), List.getElem?_eq_getElem _⟩
    obtain ⟨b, o, hla, hbl, e0, e1, e2, e3, e4⟩ := hNA.2 xk y hy
    obtain ⟨rb, ro, hra, hrbl, g0⟩ := hRS xk mk hmk
    obtain ⟨rb', ro', hra', _, g1⟩ := hRS xt mq hmq
    rw [hra] at hra'
    cases hra'
    have HSB : Hid (∀ v, Below U.heap.size U v → v.cell? ⟨w.heap.size, 0, none⟩ = some (.slice (some ⟨b, o, none⟩) n lc) ∧ v.cell? ⟨w.heap.size, 1, none⟩ = some (.int .i64 (f 0 : Int)) ∧ v.cell? ⟨w.heap.size, 2, none⟩ = some (.int .i64 (f 1 : Int)) ∧ v.cell? ⟨w.heap.size, 3, none⟩ = some (.int .i64 (f 2 : Int)) ∧ v.cell? ⟨w.heap.size, 4, none⟩ = some (.int .i64 (f 3 : Int)) ∧ v.cell? ⟨w.heap.size, 5, none⟩ = some (.int .i64 (f 4 : Int)) ∧ v.cell? ⟨w.heap.size, 6, none⟩ = some (.int .i64 (f 5 : Int)) ∧ v.cell? ⟨w.heap.size, 7, none⟩ = some (.int .i64 (f 6 : Int)) ∧ v.cell? ⟨w.heap.size, 8, none⟩ = some (.int .i64 (f 7 : Int)) ∧ v.cell? ⟨w.heap.size, 9, none⟩ = some (.int .i64 (f 8 : Int)) ∧ v.cell? ⟨w.heap.size, 10, none⟩ = some (.int .i64 (f 9 : Int)) ∧ v.cell? ⟨w.heap.size, 11, none⟩ = some (.int .i64 (f 10 : Int)) ∧ v.cell? ⟨w.heap.size, 12, none⟩ = some (.int .i64 (f 11 : Int)) ∧ v.cell? ⟨w.heap.size, 13, none⟩ = some (.int .i64 (f 12 : Int)) ∧ v.cell? ⟨w.heap.size, 14, none⟩ = some (.int .i64 (f 13 : Int)) ∧ v.cell? ⟨w.heap.size + 1, 0, none⟩ = some (.slice (some ⟨rb, ro, none⟩) n rc) ∧ v.cell? ⟨b, o + xk * 5, none⟩ = some (.int .i64 y.op) ∧ v.cell? ⟨b, o + xk * 5 + 1, none⟩ = some (.int .i64 y.fa) ∧ v.cell? ⟨b, o + xk * 5 + 2, none⟩ = some (.int .i64 y.fb) ∧ v.cell? ⟨b, o + xk * 5 + 3, none⟩ = some (.int .i64 y.fc) ∧ v.cell? ⟨b, o + xk * 5 + 4, none⟩ = some (.int .i64 y.fd) ∧ v.cell? ⟨rb, ro + xk, none⟩ = some (.int .u16 (mk : Int)) ∧ v.cell? ⟨rb, ro + xt, none⟩ = some (.int .u16 (mq : Int))) := fun v hv => by
      have h1 := (hv.block _ (Array.getElem?_eq_some_iff.1 hbv).1).trans hbv
      have h2 := (hv.block _ (Array.getElem?_eq_some_iff.1 hbr).1).trans hbr
      rw [hla] at h1
      rw [hra] at h2
      exact ⟨(by rw [cell_at h1]; rfl), (by rw [cell_at h1]; rfl), (by rw [cell_at h1]; rfl), (by rw [cell_at h1]; rfl), (by rw [cell_at h1]; rfl), (by rw [cell_at h1]; rfl), (by rw [cell_at h1]; rfl), (by rw [cell_at h1]; rfl), (by rw [cell_at h1]; rfl), (by rw [cell_at h1]; rfl), (by rw [cell_at h1]; rfl), (by rw [cell_at h1]; rfl), (by rw [cell_at h1]; rfl), (by rw [cell_at h1]; rfl), (by rw [cell_at h1]; rfl), (by rw [cell_at h2]; rfl), (hv.cell (p := ⟨b, _, none⟩) hbl).trans e0, (hv.cell (p := ⟨b, _, none⟩) hbl).trans e1, (hv.cell (p := ⟨b, _, none⟩) hbl).trans e2, (hv.cell (p := ⟨b, _, none⟩) hbl).trans e3, (hv.cell (p := ⟨b, _, none⟩) hbl).trans e4, (hv.cell (p := ⟨rb, _, none⟩) hrbl).trans g0, (hv.cell (p := ⟨rb, _, none⟩) hrbl).trans g1⟩
    have HAF := Lib.hid (after_one m (some ⟨b, o, none⟩) n lc f y mk U.drew HF.out (HIT.out xk y hy) (HLT.out xk mk hmk))
    have r0 := cell_at hR 0
    have f0 := frozen_at hR 0
    have HALL := Lib.hid hall
    have HSU := Lib.hid hS
    have HBU := Lib.hid hB
    have HRU := Lib.hid hR
    have HY := Lib.hid hy
    have HMK := Lib.hid hmk
    have HMQ := Lib.hid hmq
    have hlq := HLT.out xt mq hmq
    have hla' := aftM_lt (HIT.out xk y hy) (sv := secN m.vars) (sa := secN m.arrs) (HLT.out xk mk hmk)
    have HGO : Hid (∀ X, Below U.heap.size U X → covE (secN m.vars) (secN m.arrs) l ms (xk, xt) → Stays (fun k => (k ≠ w.heap.size + 2 ∧ k < V.heap.size) ∨ V.heap.size ≤ k) U X ∧ (∀ p ∈ pre ++ [((⟨xk, hxk⟩ : Fin n), (⟨xt, hxt⟩ : Fin n))], covE (secN m.vars) (secN m.arrs) l ms (valE p)) ∧ Stays (fun j => j ≠ w.heap.size + 2 ∧ j < V.heap.size) V X ∧ Below w.heap.size w X ∧ X.heap[w.heap.size + 2]? = some (.cells #[.bool false] 4 (0, 0))) := fun X hX hc =>
      ⟨(Stays.refl _ _).below hX, fun p hp => by
        rcases List.mem_append.1 hp with hp | hp
        · exact HALL.out p hp
        · simp at hp
          subst hp
          exact hc, HSU.out.below hX, HBU.out.trans (hX.mono HBU.out.size), (hX.block _ (Array.getElem?_eq_some_iff.1 HRU.out).1).trans HRU.out⟩
    clear hall hS hB hR hy hmk hmq hbv hbr hNA hRS hbl e0 e1 e2 e3 e4 hrbl g0 g1
    rw [hla, hra]
    by_cases h0 : mk = 0
    · have b0 : ((mk : Int) != 0) = false := by simp [h0]
      have HFIN := Lib.hid (HGO.out U.drew (Below.refl _ U).drew (fun x q t hx hq _ hne => absurd (by rw [show ms[(xk, xt).1]? = _ from HMK.out] at hq; cases hq; exact h0) hne))
      clear h0
      gi_wp2
      refine wpIn_region_held (S := fun v => v.cell? ⟨w.heap.size, 0, none⟩ = some (.slice (some ⟨b, o, none⟩) n lc) ∧ v.cell? ⟨w.heap.size, 1, none⟩ = some (.int .i64 (f 0 : Int)) ∧ v.cell? ⟨w.heap.size, 2, none⟩ = some (.int .i64 (f 1 : Int)) ∧ v.cell? ⟨w.heap.size, 3, none⟩ = some (.int .i64 (f 2 : Int)) ∧ v.cell? ⟨w.heap.size, 4, none⟩ = some (.int .i64 (f 3 : Int)) ∧ v.cell? ⟨w.heap.size, 5, none⟩ = some (.int .i64 (f 4 : Int)) ∧ v.cell? ⟨w.heap.size, 6, none⟩ = some (.int .i64 (f 5 : Int)) ∧ v.cell? ⟨w.heap.size, 7, none⟩ = some (.int .i64 (f 6 : Int)) ∧ v.cell? ⟨w.heap.size, 8, none⟩ = some (.int .i64 (f 7 : Int)) ∧ v.cell? ⟨w.heap.size, 9, none⟩ = some (.int .i64 (f 8 : Int)) ∧ v.cell? ⟨w.heap.size, 10, none⟩ = some (.int .i64 (f 9 : Int)) ∧ v.cell? ⟨w.heap.size, 11, none⟩ = some (.int .i64 (f 10 : Int)) ∧ v.cell? ⟨w.heap.size, 12, none⟩ = some (.int .i64 (f 11 : Int)) ∧ v.cell? ⟨w.heap.size, 13, none⟩ = some (.int .i64 (f 12 : Int)) ∧ v.cell? ⟨w.heap.size, 14, none⟩ = some (.int .i64 (f 13 : Int)) ∧ v.cell? ⟨w.heap.size + 1, 0, none⟩ = some (.slice (some ⟨rb, ro, none⟩) n rc) ∧ v.cell? ⟨b, o + xk * 5, none⟩ = some (.int .i64 y.op) ∧ v.cell? ⟨b, o + xk * 5 + 1, none⟩ = some (.int .i64 y.fa) ∧ v.cell? ⟨b, o + xk * 5 + 2, none⟩ = some (.int .i64 y.fb) ∧ v.cell? ⟨b, o + xk * 5 + 3, none⟩ = some (.int .i64 y.fc) ∧ v.cell? ⟨b, o + xk * 5 + 4, none⟩ = some (.int .i64 y.fd) ∧ v.cell? ⟨rb, ro + xk, none⟩ = some (.int .u16 (mk : Int)) ∧ v.cell? ⟨rb, ro + xt, none⟩ = some (.int .u16 (mq : Int))) (by kernel_rfl) (by kernel_rfl) (fun h => by obtain ⟨_, _, h⟩ := h; exact h) (HSB.out U.drew (Below.refl _ U).drew) (fun hHeld => ?_)
      refine wpAnyH_take (i := 0) (oi := ⟨some 12, _, _, _, _, _⟩) (v := ?_) rfl (by kernel_rfl) (by kernel_rfl) (by kernel_rfl) (fun _ _ _ h => h) (Or.inl ⟨by rfl, ?_⟩) (by assumption) ?_
      rotate_left
      · intro w hSw; (try dsimp only at hSw); go_simp; (try with_reducible rfl)
      simp only [Act.put, List.setIfInBounds_toArray, List.set_cons_zero, List.set_cons_succ]
      refine wpAnyH_take (i := 1) (oi := ⟨some 13, _, _, _, _, _⟩) (v := ?_) rfl (by kernel_rfl) (by kernel_rfl) (by kernel_rfl) (fun _ _ _ h => h) (Or.inl ⟨by rfl, ?_⟩) (by assumption) ?_
      rotate_left
      · intro w hSw; (try dsimp only at hSw); go_simp; (try with_reducible rfl)
      simp only [Act.put, List.setIfInBounds_toArray, List.set_cons_zero, List.set_cons_succ]
      refine wpAnyH_take (i := 2) (oi := ⟨some 14, _, _, _, _, _⟩) (v := ?_) rfl (by kernel_rfl) (by kernel_rfl) (by kernel_rfl) (fun _ _ _ h => h) (Or.inl ⟨by rfl, ?_⟩) (by assumption) ?_
      rotate_left
      · intro w hSw; (try dsimp only at hSw); go_simp; (try with_reducible rfl)
      simp only [Act.put, List.setIfInBounds_toArray, List.set_cons_zero, List.set_cons_succ]
      refine wpAnyH_take (i := 3) (oi := ⟨some 15, _, _, _, _, _⟩) (v := ?_) rfl (by kernel_rfl) (by kernel_rfl) (by kernel_rfl) (fun _ _ _ h => h) (Or.inl ⟨by rfl, ?_⟩) (by assumption) ?_
      rotate_left
      · intro w hSw; (try dsimp only at hSw); go_simp; (try with_reducible rfl)
      simp only [Act.put, List.setIfInBounds_toArray, List.set_cons_zero, List.set_cons_succ]
      refine wpAnyH_take (i := 4) (oi := ⟨some 16, _, _, _, _, _⟩) (v := ?_) rfl (by kernel_rfl) (by kernel_rfl) (by kernel_rfl) (fun _ _ _ h => h) (Or.inl ⟨by rfl, ?_⟩) (by assumption) ?_
      rotate_left
      · intro w hSw; (try dsimp only at hSw); go_simp; (try with_reducible rfl)
      simp only [Act.put, List.setIfInBounds_toArray, List.set_cons_zero, List.set_cons_succ]
      refine wpAnyH_take (i := 5) (oi := ⟨some 17, _, _, _, _, _⟩) (v := ?_) rfl (by kernel_rfl) (by kernel_rfl) (by kernel_rfl) (fun _ _ _ h => h) (Or.inl ⟨by rfl, ?_⟩) (by assumption) ?_
      rotate_left
      · intro w hSw; (try dsimp only at hSw); go_simp; (try with_reducible rfl)
      simp only [Act.put, List.setIfInBounds_toArray, List.set_cons_zero, List.set_cons_succ]
      refine wpAnyH_take (i := 6) (oi := ⟨some 18, _, _, _, _, _⟩) (v := undef) rfl (by kernel_rfl) (by kernel_rfl) (by kernel_rfl) (fun _ _ _ h => h) (Or.inr ⟨by rfl, rfl⟩) (by assumption) ?_
      simp only [Act.put, List.setIfInBounds_toArray, List.set_cons_zero, List.set_cons_succ]
      refine wpAnyH_take (i := 7) (oi := ⟨some 19, _, _, _, _, _⟩) (v := undef) rfl (by kernel_rfl) (by kernel_rfl) (by kernel_rfl) (fun _ _ _ h => h) (Or.inr ⟨by rfl, rfl⟩) (by assumption) ?_
      simp only [Act.put, List.setIfInBounds_toArray, List.set_cons_zero, List.set_cons_succ]
      refine wpAnyH_take (i := 8) (oi := ⟨some 20, _, _, _, _, _⟩) (v := undef) rfl (by kernel_rfl) (by kernel_rfl) (by kernel_rfl) (fun _ _ _ h => h) (Or.inr ⟨by rfl, rfl⟩) (by assumption) ?_
      simp only [Act.put, List.setIfInBounds_toArray, List.set_cons_zero, List.set_cons_succ]
      refine wpAnyH_take (i := 9) (oi := ⟨some 21, _, _, _, _, _⟩) (v := undef) rfl (by kernel_rfl) (by kernel_rfl) (by kernel_rfl) (fun _ _ _ h => h) (Or.inr ⟨by rfl, rfl⟩) (by assumption) ?_
      simp only [Act.put, List.setIfInBounds_toArray, List.set_cons_zero, List.set_cons_succ]
      refine wpAnyH_take (i := 10) (oi := ⟨some 22, _, _, _, _, _⟩) (v := undef) rfl (by kernel_rfl) (by kernel_rfl) (by kernel_rfl) (fun _ _ _ h => h) (Or.inr ⟨by rfl, rfl⟩) (by assumption) ?_
      simp only [Act.put, List.setIfInBounds_toArray, List.set_cons_zero, List.set_cons_succ]
      refine wpAnyH_take (i := 11) (oi := ⟨some 23, _, _, _, _, _⟩) (v := undef) rfl (by kernel_rfl) (by kernel_rfl) (by kernel_rfl) (fun _ _ _ h => h) (Or.inr ⟨by rfl, rfl⟩) (by assumption) ?_
      simp only [Act.put, List.setIfInBounds_toArray, List.set_cons_zero, List.set_cons_succ]
      refine wpAnyH_take (i := 12) (oi := ⟨some 24, _, _, _, _, _⟩) (v := undef) rfl (by kernel_rfl) (by kernel_rfl) (by kernel_rfl) (fun _ _ _ h => h) (Or.inr ⟨by rfl, rfl⟩) (by assumption) ?_
      simp only [Act.put, List.setIfInBounds_toArray, List.set_cons_zero, List.set_cons_succ]
      refine wpAnyH_take (i := 13) (oi := ⟨some 25, _, _, _, _, _⟩) (v := undef) rfl (by kernel_rfl) (by kernel_rfl) (by kernel_rfl) (fun _ _ _ h => h) (Or.inr ⟨by rfl, rfl⟩) (by assumption) ?_
      simp only [Act.put, List.setIfInBounds_toArray, List.set_cons_zero, List.set_cons_succ]
      refine wpAnyH_take (i := 14) (oi := ⟨some 26, _, _, _, _, _⟩) (v := undef) rfl (by kernel_rfl) (by kernel_rfl) (by kernel_rfl) (fun _ _ _ h => h) (Or.inr ⟨by rfl, rfl⟩) (by assumption) ?_
      simp only [Act.put, List.setIfInBounds_toArray, List.set_cons_zero, List.set_cons_succ]
      refine wpAnyH_take (i := 15) (oi := ⟨some 27, _, _, _, _, _⟩) (v := undef) rfl (by kernel_rfl) (by kernel_rfl) (by kernel_rfl) (fun _ _ _ h => h) (Or.inr ⟨by rfl, rfl⟩) (by assumption) ?_
      simp only [Act.put, List.setIfInBounds_toArray, List.set_cons_zero, List.set_cons_succ]
      refine wpAnyH_take (i := 16) (oi := ⟨some 28, _, _, _, _, _⟩) (v := undef) rfl (by kernel_rfl) (by kernel_rfl) (by kernel_rfl) (fun _ _ _ h => h) (Or.inr ⟨by rfl, rfl⟩) (by assumption) ?_
      simp only [Act.put, List.setIfInBounds_toArray, List.set_cons_zero, List.set_cons_succ]
      refine wpAnyH_take (i := 17) (oi := ⟨some 29, _, _, _, _, _⟩) (v := undef) rfl (by kernel_rfl) (by kernel_rfl) (by kernel_rfl) (fun _ _ _ h => h) (Or.inr ⟨by rfl, rfl⟩) (by assumption) ?_
      simp only [Act.put, List.setIfInBounds_toArray, List.set_cons_zero, List.set_cons_succ]
      refine wpAnyH_take (i := 18) (oi := ⟨some 30, _, _, _, _, _⟩) (v := undef) rfl (by kernel_rfl) (by kernel_rfl) (by kernel_rfl) (fun _ _ _ h => h) (Or.inr ⟨by rfl, rfl⟩) (by assumption) ?_
      simp only [Act.put, List.setIfInBounds_toArray, List.set_cons_zero, List.set_cons_succ]
      refine wpAnyH_take (i := 19) (oi := ⟨some 31, _, _, _, _, _⟩) (v := undef) rfl (by kernel_rfl) (by kernel_rfl) (by kernel_rfl) (fun _ _ _ h => h) (Or.inr ⟨by rfl, rfl⟩) (by assumption) ?_
      simp only [Act.put, List.setIfInBounds_toArray, List.set_cons_zero, List.set_cons_succ]
      refine wpAnyH_take (i := 20) (oi := ⟨some 32, _, _, _, _, _⟩) (v := undef) rfl (by kernel_rfl) (by kernel_rfl) (by kernel_rfl) (fun _ _ _ h => h) (Or.inr ⟨by rfl, rfl⟩) (by assumption) ?_
      simp only [Act.put, List.setIfInBounds_toArray, List.set_cons_zero, List.set_cons_succ]
      refine wpAnyH_take (i := 21) (oi := ⟨some 33, _, _, _, _, _⟩) (v := undef) rfl (by kernel_rfl) (by kernel_rfl) (by kernel_rfl) (fun _ _ _ h => h) (Or.inr ⟨by rfl, rfl⟩) (by assumption) ?_
      simp only [Act.put, List.setIfInBounds_toArray, List.set_cons_zero, List.set_cons_succ]
      refine wpAnyH_take (i := 22) (oi := ⟨some 34, _, _, _, _, _⟩) (v := undef) rfl (by kernel_rfl) (by kernel_rfl) (by kernel_rfl) (fun _ _ _ h => h) (Or.inr ⟨by rfl, rfl⟩) (by assumption) ?_
      simp only [Act.put, List.setIfInBounds_toArray, List.set_cons_zero, List.set_cons_succ]
      refine wpAnyH_take (i := 23) (oi := ⟨some 35, _, _, _, _, _⟩) (v := ?_) rfl (by kernel_rfl) (by kernel_rfl) (by kernel_rfl) (fun _ _ _ h => h) (Or.inl ⟨by rfl, ?_⟩) (by assumption) ?_
      rotate_left
      · intro w hSw; (try dsimp only at hSw); go_simp; (try with_reducible rfl)
      simp only [Act.put, List.setIfInBounds_toArray, List.set_cons_zero, List.set_cons_succ]
      refine wpAnyH_done (by kernel_rfl) ?_ _
      gi_wp2
      exact HFIN.out
    · have b0 : ((mk : Int) != 0) = true := by simp; omega
      by_cases hsub : Sub (aftM (secN m.vars) (secN m.arrs) y mk) mq
      · have b1 := covn_no hlq hla' hsub
        have HC : Hid (covE (secN m.vars) (secN m.arrs) l ms (xk, xt)) := fun x a q hx ha hq _ => by
          rw [show l[(xk, xt).1]? = _ from HY.out] at hx
          rw [show ms[(xk, xt).1]? = _ from HMK.out] at ha
          rw [show ms[(xk, xt).2]? = _ from HMQ.out] at hq
          cases hx; cases ha; cases hq
          exact hsub
        clear h0 hsub
        gi_wp2
        refine wpIn_region_held (S := fun v => v.cell? ⟨w.heap.size, 0, none⟩ = some (.slice (some ⟨b, o, none⟩) n lc) ∧ v.cell? ⟨w.heap.size, 1, none⟩ = some (.int .i64 (f 0 : Int)) ∧ v.cell? ⟨w.heap.size, 2, none⟩ = some (.int .i64 (f 1 : Int)) ∧ v.cell? ⟨w.heap.size, 3, none⟩ = some (.int .i64 (f 2 : Int)) ∧ v.cell? ⟨w.heap.size, 4, none⟩ = some (.int .i64 (f 3 : Int)) ∧ v.cell? ⟨w.heap.size, 5, none⟩ = some (.int .i64 (f 4 : Int)) ∧ v.cell? ⟨w.heap.size, 6, none⟩ = some (.int .i64 (f 5 : Int)) ∧ v.cell? ⟨w.heap.size, 7, none⟩ = some (.int .i64 (f 6 : Int)) ∧ v.cell? ⟨w.heap.size, 8, none⟩ = some (.int .i64 (f 7 : Int)) ∧ v.cell? ⟨w.heap.size, 9, none⟩ = some (.int .i64 (f 8 : Int)) ∧ v.cell? ⟨w.heap.size, 10, none⟩ = some (.int .i64 (f 9 : Int)) ∧ v.cell? ⟨w.heap.size, 11, none⟩ = some (.int .i64 (f 10 : Int)) ∧ v.cell? ⟨w.heap.size, 12, none⟩ = some (.int .i64 (f 11 : Int)) ∧ v.cell? ⟨w.heap.size, 13, none⟩ = some (.int .i64 (f 12 : Int)) ∧ v.cell? ⟨w.heap.size, 14, none⟩ = some (.int .i64 (f 13 : Int)) ∧ v.cell? ⟨w.heap.size + 1, 0, none⟩ = some (.slice (some ⟨rb, ro, none⟩) n rc) ∧ v.cell? ⟨b, o + xk * 5, none⟩ = some (.int .i64 y.op) ∧ v.cell? ⟨b, o + xk * 5 + 1, none⟩ = some (.int .i64 y.fa) ∧ v.cell? ⟨b, o + xk * 5 + 2, none⟩ = some (.int .i64 y.fb) ∧ v.cell? ⟨b, o + xk * 5 + 3, none⟩ = some (.int .i64 y.fc) ∧ v.cell? ⟨b, o + xk * 5 + 4, none⟩ = some (.int .i64 y.fd) ∧ v.cell? ⟨rb, ro + xk, none⟩ = some (.int .u16 (mk : Int)) ∧ v.cell? ⟨rb, ro + xt, none⟩ = some (.int .u16 (mq : Int))) (by kernel_rfl) (by kernel_rfl) (fun h => by obtain ⟨_, _, h⟩ := h; exact h) (HSB.out U.drew (Below.refl _ U).drew) (fun hHeld => ?_)
        refine wpAnyH_take (i := 0) (oi := ⟨some 12, _, _, _, _, _⟩) (v := ?_) rfl (by kernel_rfl) (by kernel_rfl) (by kernel_rfl) (fun _ _ _ h => h) (Or.inl ⟨by rfl, ?_⟩) (by assumption) ?_
        rotate_left
        · intro w hSw; (try dsimp only at hSw); go_simp; (try with_reducible rfl)
        simp only [Act.put, List.setIfInBounds_toArray, List.set_cons_zero, List.set_cons_succ]
        refine wpAnyH_take (i := 1) (oi := ⟨some 13, _, _, _, _, _⟩) (v := ?_) rfl (by kernel_rfl) (by kernel_rfl) (by kernel_rfl) (fun _ _ _ h => h) (Or.inl ⟨by rfl, ?_⟩) (by assumption) ?_
        rotate_left
        · intro w hSw; (try dsimp only at hSw); go_simp; (try with_reducible rfl)
        simp only [Act.put, List.setIfInBounds_toArray, List.set_cons_zero, List.set_cons_succ]
        refine wpAnyH_take (i := 2) (oi := ⟨some 14, _, _, _, _, _⟩) (v := ?_) rfl (by kernel_rfl) (by kernel_rfl) (by kernel_rfl) (fun _ _ _ h => h) (Or.inl ⟨by rfl, ?_⟩) (by assumption) ?_
        rotate_left
        · intro w hSw; (try dsimp only at hSw); go_simp; (try with_reducible rfl)
        simp only [Act.put, List.setIfInBounds_toArray, List.set_cons_zero, List.set_cons_succ]
        refine wpAnyH_take (i := 3) (oi := ⟨some 15, _, _, _, _, _⟩) (v := ?_) rfl (by kernel_rfl) (by kernel_rfl) (by kernel_rfl) (fun _ _ _ h => h) (Or.inl ⟨by rfl, ?_⟩) (by assumption) ?_
        rotate_left
        · intro w hSw; (try dsimp only at hSw); go_simp; (try with_reducible rfl)
        simp only [Act.put, List.setIfInBounds_toArray, List.set_cons_zero, List.set_cons_succ]
        refine wpAnyH_take (i := 4) (oi := ⟨some 16, _, _, _, _, _⟩) (v := ?_) rfl (by kernel_rfl) (by kernel_rfl) (by kernel_rfl) (fun _ _ _ h => h) (Or.inl ⟨by rfl, ?_⟩) (by assumption) ?_
        rotate_left
        · intro w hSw; (try dsimp only at hSw); go_simp; (try with_reducible rfl)
        simp only [Act.put, List.setIfInBounds_toArray, List.set_cons_zero, List.set_cons_succ]
        refine wpAnyH_take (i := 5) (oi := ⟨some 17, _, _, _, _, _⟩) (v := ?_) rfl (by kernel_rfl) (by kernel_rfl) (by kernel_rfl) (fun _ _ _ h => h) (Or.inl ⟨by rfl, ?_⟩) (by assumption) ?_
        rotate_left
        · intro w hSw; (try dsimp only at hSw); go_simp; (try with_reducible rfl)
        simp only [Act.put, List.setIfInBounds_toArray, List.set_cons_zero, List.set_cons_succ]
        refine wpAnyH_take (i := 6) (oi := ⟨some 18, _, _, _, _, _⟩) (v := ?_) rfl (by kernel_rfl) (by kernel_rfl) (by kernel_rfl) (fun _ _ _ h => h) (Or.inl ⟨by rfl, ?_⟩) (by assumption) ?_
        rotate_left
        · intro w hSw; (try dsimp only at hSw); go_simp; (try with_reducible rfl)
        simp only [Act.put, List.setIfInBounds_toArray, List.set_cons_zero, List.set_cons_succ]
        refine wpAnyH_take (i := 7) (oi := ⟨some 19, _, _, _, _, _⟩) (v := ?_) rfl (by kernel_rfl) (by kernel_rfl) (by kernel_rfl) (fun _ _ _ h => h) (Or.inl ⟨by rfl, ?_⟩) (by assumption) ?_
        rotate_left
        · intro w hSw; (try dsimp only at hSw); go_simp; (try with_reducible rfl)
        simp only [Act.put, List.setIfInBounds_toArray, List.set_cons_zero, List.set_cons_succ]
        refine wpAnyH_take (i := 8) (oi := ⟨some 20, _, _, _, _, _⟩) (v := ?_) rfl (by kernel_rfl) (by kernel_rfl) (by kernel_rfl) (fun _ _ _ h => h) (Or.inl ⟨by rfl, ?_⟩) (by assumption) ?_
        rotate_left
        · intro w hSw; (try dsimp only at hSw); go_simp; (try with_reducible rfl)
        simp only [Act.put, List.setIfInBounds_toArray, List.set_cons_zero, List.set_cons_succ]
        refine wpAnyH_take (i := 9) (oi := ⟨some 21, _, _, _, _, _⟩) (v := ?_) rfl (by kernel_rfl) (by kernel_rfl) (by kernel_rfl) (fun _ _ _ h => h) (Or.inl ⟨by rfl, ?_⟩) (by assumption) ?_
        rotate_left
        · intro w hSw; (try dsimp only at hSw); go_simp; (try with_reducible rfl)
        simp only [Act.put, List.setIfInBounds_toArray, List.set_cons_zero, List.set_cons_succ]
        refine wpAnyH_take (i := 10) (oi := ⟨some 22, _, _, _, _, _⟩) (v := ?_) rfl (by kernel_rfl) (by kernel_rfl) (by kernel_rfl) (fun _ _ _ h => h) (Or.inl ⟨by rfl, ?_⟩) (by assumption) ?_
        rotate_left
        · intro w hSw; (try dsimp only at hSw); go_simp; (try with_reducible rfl)
        simp only [Act.put, List.setIfInBounds_toArray, List.set_cons_zero, List.set_cons_succ]
        refine wpAnyH_take (i := 11) (oi := ⟨some 23, _, _, _, _, _⟩) (v := ?_) rfl (by kernel_rfl) (by kernel_rfl) (by kernel_rfl) (fun _ _ _ h => h) (Or.inl ⟨by rfl, ?_⟩) (by assumption) ?_
        rotate_left
        · intro w hSw; (try dsimp only at hSw); go_simp; (try with_reducible rfl)
        simp only [Act.put, List.setIfInBounds_toArray, List.set_cons_zero, List.set_cons_succ]
        refine wpAnyH_take (i := 12) (oi := ⟨some 24, _, _, _, _, _⟩) (v := ?_) rfl (by kernel_rfl) (by kernel_rfl) (by kernel_rfl) (fun _ _ _ h => h) (Or.inl ⟨by rfl, ?_⟩) (by assumption) ?_
        rotate_left
        · intro w hSw; (try dsimp only at hSw); go_simp; (try with_reducible rfl)
        simp only [Act.put, List.setIfInBounds_toArray, List.set_cons_zero, List.set_cons_succ]
        refine wpAnyH_take (i := 13) (oi := ⟨some 25, _, _, _, _, _⟩) (v := ?_) rfl (by kernel_rfl) (by kernel_rfl) (by kernel_rfl) (fun _ _ _ h => h) (Or.inl ⟨by rfl, ?_⟩) (by assumption) ?_
        rotate_left
        · intro w hSw; (try dsimp only at hSw); go_simp; (try with_reducible rfl)
        simp only [Act.put, List.setIfInBounds_toArray, List.set_cons_zero, List.set_cons_succ]
        refine wpAnyH_take (i := 14) (oi := ⟨some 26, _, _, _, _, _⟩) (v := ?_) rfl (by kernel_rfl) (by kernel_rfl) (by kernel_rfl) (fun _ _ _ h => h) (Or.inl ⟨by rfl, ?_⟩) (by assumption) ?_
        rotate_left
        · intro w hSw; (try dsimp only at hSw); go_simp; (try with_reducible rfl)
        simp only [Act.put, List.setIfInBounds_toArray, List.set_cons_zero, List.set_cons_succ]
        refine wpAnyH_take (i := 15) (oi := ⟨some 27, _, _, _, _, _⟩) (v := ?_) rfl (by kernel_rfl) (by kernel_rfl) (by kernel_rfl) (fun _ _ _ h => h) (Or.inl ⟨by rfl, ?_⟩) (by assumption) ?_
        rotate_left
        · intro w hSw; (try dsimp only at hSw); go_simp; (try with_reducible rfl)
        simp only [Act.put, List.setIfInBounds_toArray, List.set_cons_zero, List.set_cons_succ]
        refine wpAnyH_take (i := 17) (oi := ⟨some 29, _, _, _, _, _⟩) (v := ?_) rfl (by kernel_rfl) (by kernel_rfl) (by kernel_rfl) (fun _ _ _ h => h) (Or.inl ⟨by rfl, ?_⟩) (by assumption) ?_
        rotate_left
        · intro w hSw; (try dsimp only at hSw); go_simp; (try with_reducible rfl)
        simp only [Act.put, List.setIfInBounds_toArray, List.set_cons_zero, List.set_cons_succ]
        refine wpAnyH_take (i := 18) (oi := ⟨some 30, _, _, _, _, _⟩) (v := ?_) rfl (by kernel_rfl) (by kernel_rfl) (by kernel_rfl) (fun _ _ _ h => h) (Or.inl ⟨by rfl, ?_⟩) (by assumption) ?_
        rotate_left
        · intro w hSw; (try dsimp only at hSw); go_simp; (try with_reducible rfl)
        simp only [Act.put, List.setIfInBounds_toArray, List.set_cons_zero, List.set_cons_succ]
        refine wpAnyH_take (i := 19) (oi := ⟨some 31, _, _, _, _, _⟩) (v := ?_) rfl (by kernel_rfl) (by kernel_rfl) (by kernel_rfl) (fun _ _ _ h => h) (Or.inl ⟨by rfl, ?_⟩) (by assumption) ?_
        rotate_left
        · intro w hSw; (try dsimp only at hSw); go_simp; (try with_reducible rfl)
        simp only [Act.put, List.setIfInBounds_toArray, List.set_cons_zero, List.set_cons_succ]
        refine wpAnyH_take (i := 20) (oi := ⟨some 32, _, _, _, _, _⟩) (v := ?_) rfl (by kernel_rfl) (by kernel_rfl) (by kernel_rfl) (fun _ _ _ h => h) (Or.inl ⟨by rfl, ?_⟩) (by assumption) ?_
        rotate_left
        · intro w hSw; (try dsimp only at hSw); go_simp; (try with_reducible rfl)
        simp only [Act.put, List.setIfInBounds_toArray, List.set_cons_zero, List.set_cons_succ]
        refine wpAnyH_ready (rs := [16]) (by kernel_rfl) (by simp) ?_
        refine AllReadyH.cons (o := ⟨some 28, _, _, _, _, _⟩) rfl (fun K hK => ?_) AllReadyH.nil
        go_simp
        refine (HAF.out).mono ?_
        rintro e w6 ⟨rfl, hb6⟩
        have HB6 : Below U.heap.size U w6 := (Below.refl _ U).drew.trans hb6
        have hS6 := HSB.out w6 HB6
        go_wp2_with fail
        refine hK.out _ _ hS6 (fun hHeld => ?_)
        clear hK K
        try simp only [Act.put, List.setIfInBounds_toArray, List.set_cons_zero, List.set_cons_succ]
        refine wpAnyH_take (i := 21) (oi := ⟨some 33, _, _, _, _, _⟩) (v := ?_) rfl (by kernel_rfl) (by kernel_rfl) (by kernel_rfl) (fun _ _ _ h => h) (Or.inl ⟨by rfl, ?_⟩) (by assumption) ?_
        rotate_left
        · intro w hSw; (try dsimp only at hSw); go_simp; (try with_reducible rfl)
        simp only [Act.put, List.setIfInBounds_toArray, List.set_cons_zero, List.set_cons_succ]
        refine wpAnyH_take (i := 22) (oi := ⟨some 34, _, _, _, _, _⟩) (v := ?_) rfl (by kernel_rfl) (by kernel_rfl) (by kernel_rfl) (fun _ _ _ h => h) (Or.inl ⟨by rfl, ?_⟩) (by assumption) ?_
        rotate_left
        · intro w hSw; (try dsimp only at hSw); go_simp; (try with_reducible rfl)
        simp only [Act.put, List.setIfInBounds_toArray, List.set_cons_zero, List.set_cons_succ]
        refine wpAnyH_take (i := 23) (oi := ⟨some 35, _, _, _, _, _⟩) (v := ?_) rfl (by kernel_rfl) (by kernel_rfl) (by kernel_rfl) (fun _ _ _ h => h) (Or.inl ⟨by rfl, ?_⟩) (by assumption) ?_
        rotate_left
        · intro w hSw; (try dsimp only at hSw); go_simp; (try with_reducible rfl)
        simp only [Act.put, List.setIfInBounds_toArray, List.set_cons_zero, List.set_cons_succ]
        refine wpAnyH_done (by kernel_rfl) ?_ _
        have HFIN := Lib.hid (HGO.out w6 HB6 HC.out)
        clear hS6 hb6 HB6
        gi_wp2
        exact HFIN.out
      · have b1 := covn_yes hlq hla' hsub
        have HC : Hid (¬ covE (secN m.vars) (secN m.arrs) l ms (xk, xt)) := fun hc => hsub (hc y mk mq HY.out HMK.out HMQ.out h0)
        clear h0 hsub
        gi_wp2
        refine wpIn_region_held (S := fun v => v.cell? ⟨w.heap.size, 0, none⟩ = some (.slice (some ⟨b, o, none⟩) n lc) ∧ v.cell? ⟨w.heap.size, 1, none⟩ = some (.int .i64 (f 0 : Int)) ∧ v.cell? ⟨w.heap.size, 2, none⟩ = some (.int .i64 (f 1 : Int)) ∧ v.cell? ⟨w.heap.size, 3, none⟩ = some (.int .i64 (f 2 : Int)) ∧ v.cell? ⟨w.heap.size, 4, none⟩ = some (.int .i64 (f 3 : Int)) ∧ v.cell? ⟨w.heap.size, 5, none⟩ = some (.int .i64 (f 4 : Int)) ∧ v.cell? ⟨w.heap.size, 6, none⟩ = some (.int .i64 (f 5 : Int)) ∧ v.cell? ⟨w.heap.size, 7, none⟩ = some (.int .i64 (f 6 : Int)) ∧ v.cell? ⟨w.heap.size, 8, none⟩ = some (.int .i64 (f 7 : Int)) ∧ v.cell? ⟨w.heap.size, 9, none⟩ = some (.int .i64 (f 8 : Int)) ∧ v.cell? ⟨w.heap.size, 10, none⟩ = some (.int .i64 (f 9 : Int)) ∧ v.cell? ⟨w.heap.size, 11, none⟩ = some (.int .i64 (f 10 : Int)) ∧ v.cell? ⟨w.heap.size, 12, none⟩ = some (.int .i64 (f 11 : Int)) ∧ v.cell? ⟨w.heap.size, 13, none⟩ = some (.int .i64 (f 12 : Int)) ∧ v.cell? ⟨w.heap.size, 14, none⟩ = some (.int .i64 (f 13 : Int)) ∧ v.cell? ⟨w.heap.size + 1, 0, none⟩ = some (.slice (some ⟨rb, ro, none⟩) n rc) ∧ v.cell? ⟨b, o + xk * 5, none⟩ = some (.int .i64 y.op) ∧ v.cell? ⟨b, o + xk * 5 + 1, none⟩ = some (.int .i64 y.fa) ∧ v.cell? ⟨b, o + xk * 5 + 2, none⟩ = some (.int .i64 y.fb) ∧ v.cell? ⟨b, o + xk * 5 + 3, none⟩ = some (.int .i64 y.fc) ∧ v.cell? ⟨b, o + xk * 5 + 4, none⟩ = some (.int .i64 y.fd) ∧ v.cell? ⟨rb, ro + xk, none⟩ = some (.int .u16 (mk : Int)) ∧ v.cell? ⟨rb, ro + xt, none⟩ = some (.int .u16 (mq : Int))) (by kernel_rfl) (by kernel_rfl) (fun h => by obtain ⟨_, _, h⟩ := h; exact h) (HSB.out U.drew (Below.refl _ U).drew) (fun hHeld => ?_)
        refine wpAnyH_take (i := 0) (oi := ⟨some 12, _, _, _, _, _⟩) (v := ?_) rfl (by kernel_rfl) (by kernel_rfl) (by kernel_rfl) (fun _ _ _ h => h) (Or.inl ⟨by rfl, ?_⟩) (by assumption) ?_
        rotate_left
        · intro w hSw; (try dsimp only at hSw); go_simp; (try with_reducible rfl)
        simp only [Act.put, List.setIfInBounds_toArray, List.set_cons_zero, List.set_cons_succ]
        refine wpAnyH_take (i := 1) (oi := ⟨some 13, _, _, _, _, _⟩) (v := ?_) rfl (by kernel_rfl) (by kernel_rfl) (by kernel_rfl) (fun _ _ _ h => h) (Or.inl ⟨by rfl, ?_⟩) (by assumption) ?_
        rotate_left
        · intro w hSw; (try dsimp only at hSw); go_simp; (try with_reducible rfl)
        simp only [Act.put, List.setIfInBounds_toArray, List.set_cons_zero, List.set_cons_succ]
        refine wpAnyH_take (i := 2) (oi := ⟨some 14, _, _, _, _, _⟩) (v := ?_) rfl (by kernel_rfl) (by kernel_rfl) (by kernel_rfl) (fun _ _ _ h => h) (Or.inl ⟨by rfl, ?_⟩) (by assumption) ?_
        rotate_left
        · intro w hSw; (try dsimp only at hSw); go_simp; (try with_reducible rfl)
        simp only [Act.put, List.setIfInBounds_toArray, List.set_cons_zero, List.set_cons_succ]
        refine wpAnyH_take (i := 3) (oi := ⟨some 15, _, _, _, _, _⟩) (v := ?_) rfl (by kernel_rfl) (by kernel_rfl) (by kernel_rfl) (fun _ _ _ h => h) (Or.inl ⟨by rfl, ?_⟩) (by assumption) ?_
        rotate_left
        · intro w hSw; (try dsimp only at hSw); go_simp; (try with_reducible rfl)
        simp only [Act.put, List.setIfInBounds_toArray, List.set_cons_zero, List.set_cons_succ]
        refine wpAnyH_take (i := 4) (oi := ⟨some 16, _, _, _, _, _⟩) (v := ?_) rfl (by kernel_rfl) (by kernel_rfl) (by kernel_rfl) (fun _ _ _ h => h) (Or.inl ⟨by rfl, ?_⟩) (by assumption) ?_
        rotate_left
        · intro w hSw; (try dsimp only at hSw); go_simp; (try with_reducible rfl)
        simp only [Act.put, List.setIfInBounds_toArray, List.set_cons_zero, List.set_cons_succ]
        refine wpAnyH_take (i := 5) (oi := ⟨some 17, _, _, _, _, _⟩) (v := ?_) rfl (by kernel_rfl) (by kernel_rfl) (by kernel_rfl) (fun _ _ _ h => h) (Or.inl ⟨by rfl, ?_⟩) (by assumption) ?_
        rotate_left
        · intro w hSw; (try dsimp only at hSw); go_simp; (try with_reducible rfl)
        simp only [Act.put, List.setIfInBounds_toArray, List.set_cons_zero, List.set_cons_succ]
        refine wpAnyH_take (i := 6) (oi := ⟨some 18, _, _, _, _, _⟩) (v := ?_) rfl (by kernel_rfl) (by kernel_rfl) (by kernel_rfl) (fun _ _ _ h => h) (Or.inl ⟨by rfl, ?_⟩) (by assumption) ?_
        rotate_left
        · intro w hSw; (try dsimp only at hSw); go_simp; (try with_reducible rfl)
        simp only [Act.put, List.setIfInBounds_toArray, List.set_cons_zero, List.set_cons_succ]
        refine wpAnyH_take (i := 7) (oi := ⟨some 19, _, _, _, _, _⟩) (v := ?_) rfl (by kernel_rfl) (by kernel_rfl) (by kernel_rfl) (fun _ _ _ h => h) (Or.inl ⟨by rfl, ?_⟩) (by assumption) ?_
        rotate_left
        · intro w hSw; (try dsimp only at hSw); go_simp; (try with_reducible rfl)
        simp only [Act.put, List.setIfInBounds_toArray, List.set_cons_zero, List.set_cons_succ]
        refine wpAnyH_take (i := 8) (oi := ⟨some 20, _, _, _, _, _⟩) (v := ?_) rfl (by kernel_rfl) (by kernel_rfl) (by kernel_rfl) (fun _ _ _ h => h) (Or.inl ⟨by rfl, ?_⟩) (by assumption) ?_
        rotate_left
        · intro w hSw; (try dsimp only at hSw); go_simp; (try with_reducible rfl)
        simp only [Act.put, List.setIfInBounds_toArray, List.set_cons_zero, List.set_cons_succ]
        refine wpAnyH_take (i := 9) (oi := ⟨some 21, _, _, _, _, _⟩) (v := ?_) rfl (by kernel_rfl) (by kernel_rfl) (by kernel_rfl) (fun _ _ _ h => h) (Or.inl ⟨by rfl, ?_⟩) (by assumption) ?_
        rotate_left
        · intro w hSw; (try dsimp only at hSw); go_simp; (try with_reducible rfl)
        simp only [Act.put, List.setIfInBounds_toArray, List.set_cons_zero, List.set_cons_succ]
        refine wpAnyH_take (i := 10) (oi := ⟨some 22, _, _, _, _, _⟩) (v := ?_) rfl (by kernel_rfl) (by kernel_rfl) (by kernel_rfl) (fun _ _ _ h => h) (Or.inl ⟨by rfl, ?_⟩) (by assumption) ?_
        rotate_left
        · intro w hSw; (try dsimp only at hSw); go_simp; (try with_reducible rfl)
        simp only [Act.put, List.setIfInBounds_toArray, List.set_cons_zero, List.set_cons_succ]
        refine wpAnyH_take (i := 11) (oi := ⟨some 23, _, _, _, _, _⟩) (v := ?_) rfl (by kernel_rfl) (by kernel_rfl) (by kernel_rfl) (fun _ _ _ h => h) (Or.inl ⟨by rfl, ?_⟩) (by assumption) ?_
        rotate_left
        · intro w hSw; (try dsimp only at hSw); go_simp; (try with_reducible rfl)
        simp only [Act.put, List.setIfInBounds_toArray, List.set_cons_zero, List.set_cons_succ]
        refine wpAnyH_take (i := 12) (oi := ⟨some 24, _, _, _, _, _⟩) (v := ?_) rfl (by kernel_rfl) (by kernel_rfl) (by kernel_rfl) (fun _ _ _ h => h) (Or.inl ⟨by rfl, ?_⟩) (by assumption) ?_
        rotate_left
        · intro w hSw; (try dsimp only at hSw); go_simp; (try with_reducible rfl)
        simp only [Act.put, List.setIfInBounds_toArray, List.set_cons_zero, List.set_cons_succ]
        refine wpAnyH_take (i := 13) (oi := ⟨some 25, _, _, _, _, _⟩) (v := ?_) rfl (by kernel_rfl) (by kernel_rfl) (by kernel_rfl) (fun _ _ _ h => h) (Or.inl ⟨by rfl, ?_⟩) (by assumption) ?_
        rotate_left
        · intro w hSw; (try dsimp only at hSw); go_simp; (try with_reducible rfl)
        simp only [Act.put, List.setIfInBounds_toArray, List.set_cons_zero, List.set_cons_succ]
        refine wpAnyH_take (i := 14) (oi := ⟨some 26, _, _, _, _, _⟩) (v := ?_) rfl (by kernel_rfl) (by kernel_rfl) (by kernel_rfl) (fun _ _ _ h => h) (Or.inl ⟨by rfl, ?_⟩) (by assumption) ?_
        rotate_left
        · intro w hSw; (try dsimp only at hSw); go_simp; (try with_reducible rfl)
        simp only [Act.put, List.setIfInBounds_toArray, List.set_cons_zero, List.set_cons_succ]
        refine wpAnyH_take (i := 15) (oi := ⟨some 27, _, _, _, _, _⟩) (v := ?_) rfl (by kernel_rfl) (by kernel_rfl) (by kernel_rfl) (fun _ _ _ h => h) (Or.inl ⟨by rfl, ?_⟩) (by assumption) ?_
        rotate_left
        · intro w hSw; (try dsimp only at hSw); go_simp; (try with_reducible rfl)
        simp only [Act.put, List.setIfInBounds_toArray, List.set_cons_zero, List.set_cons_succ]
        refine wpAnyH_take (i := 17) (oi := ⟨some 29, _, _, _, _, _⟩) (v := ?_) rfl (by kernel_rfl) (by kernel_rfl) (by kernel_rfl) (fun _ _ _ h => h) (Or.inl ⟨by rfl, ?_⟩) (by assumption) ?_
        rotate_left
        · intro w hSw; (try dsimp only at hSw); go_simp; (try with_reducible rfl)
        simp only [Act.put, List.setIfInBounds_toArray, List.set_cons_zero, List.set_cons_succ]
        refine wpAnyH_take (i := 18) (oi := ⟨some 30, _, _, _, _, _⟩) (v := ?_) rfl (by kernel_rfl) (by kernel_rfl) (by kernel_rfl) (fun _ _ _ h => h) (Or.inl ⟨by rfl, ?_⟩) (by assumption) ?_
        rotate_left
        · intro w hSw; (try dsimp only at hSw); go_simp; (try with_reducible rfl)
        simp only [Act.put, List.setIfInBounds_toArray, List.set_cons_zero, List.set_cons_succ]
        refine wpAnyH_take (i := 19) (oi := ⟨some 31, _, _, _, _, _⟩) (v := ?_) rfl (by kernel_rfl) (by kernel_rfl) (by kernel_rfl) (fun _ _ _ h => h) (Or.inl ⟨by rfl, ?_⟩) (by assumption) ?_
        rotate_left
        · intro w hSw; (try dsimp only at hSw); go_simp; (try with_reducible rfl)
        simp only [Act.put, List.setIfInBounds_toArray, List.set_cons_zero, List.set_cons_succ]
        refine wpAnyH_take (i := 20) (oi := ⟨some 32, _, _, _, _, _⟩) (v := ?_) rfl (by kernel_rfl) (by kernel_rfl) (by kernel_rfl) (fun _ _ _ h => h) (Or.inl ⟨by rfl, ?_⟩) (by assumption) ?_
        rotate_left
        · intro w hSw; (try dsimp only at hSw); go_simp; (try with_reducible rfl)
        simp only [Act.put, List.setIfInBounds_toArray, List.set_cons_zero, List.set_cons_succ]
        refine wpAnyH_ready (rs := [16]) (by kernel_rfl) (by simp) ?_
        refine AllReadyH.cons (o := ⟨some 28, _, _, _, _, _⟩) rfl (fun K hK => ?_) AllReadyH.nil
        go_simp
        refine (HAF.out).mono ?_
        rintro e w6 ⟨rfl, hb6⟩
        have HB6 : Below U.heap.size U w6 := (Below.refl _ U).drew.trans hb6
        have hS6 := HSB.out w6 HB6
        go_wp2_with fail
        refine hK.out _ _ hS6 (fun hHeld => ?_)
        clear hK K
        try simp only [Act.put, List.setIfInBounds_toArray, List.set_cons_zero, List.set_cons_succ]
        refine wpAnyH_take (i := 21) (oi := ⟨some 33, _, _, _, _, _⟩) (v := ?_) rfl (by kernel_rfl) (by kernel_rfl) (by kernel_rfl) (fun _ _ _ h => h) (Or.inl ⟨by rfl, ?_⟩) (by assumption) ?_
        rotate_left
        · intro w hSw; (try dsimp only at hSw); go_simp; (try with_reducible rfl)
        simp only [Act.put, List.setIfInBounds_toArray, List.set_cons_zero, List.set_cons_succ]
        refine wpAnyH_take (i := 22) (oi := ⟨some 34, _, _, _, _, _⟩) (v := ?_) rfl (by kernel_rfl) (by kernel_rfl) (by kernel_rfl) (fun _ _ _ h => h) (Or.inl ⟨by rfl, ?_⟩) (by assumption) ?_
        rotate_left
        · intro w hSw; (try dsimp only at hSw); go_simp; (try with_reducible rfl)
        simp only [Act.put, List.setIfInBounds_toArray, List.set_cons_zero, List.set_cons_succ]
        refine wpAnyH_take (i := 23) (oi := ⟨some 35, _, _, _, _, _⟩) (v := ?_) rfl (by kernel_rfl) (by kernel_rfl) (by kernel_rfl) (fun _ _ _ h => h) (Or.inl ⟨by rfl, ?_⟩) (by assumption) ?_
        rotate_left
        · intro w hSw; (try dsimp only at hSw); go_simp; (try with_reducible rfl)
        simp only [Act.put, List.setIfInBounds_toArray, List.set_cons_zero, List.set_cons_succ]
        refine wpAnyH_done (by kernel_rfl) ?_ _
        have hR6 := (HB6.block _ (Array.getElem?_eq_some_iff.1 HRU.out).1).trans HRU.out
        have q0 := cell_at hR6 0
        have q1 := frozen_at hR6 0
        have HB66 := Lib.hid HB6
        have HR6 := Lib.hid hR6
        clear hS6 hb6 HB6 hR6
        gi_wp2
        exact ⟨((Stays.refl _ U).below HB66.out).setCell (p := ⟨w.heap.size + 2, 0, none⟩) (fun h => h.elim (fun h => h.1 rfl) fun h => by simp at h; omega) _, ⟨rfl, ((⟨xk, hxk⟩ : Fin n), (⟨xt, hxt⟩ : Fin n)), by simp, HC.out⟩, (HBU.out.trans (HB66.out.mono HBU.out.size)).setCell (p := ⟨w.heap.size + 2, 0, none⟩) (by simp) _, heap_setCell_same _ _ _ _ _ _ HR6.out⟩
  case done =>
    rintro d ys U hd hys ⟨hall, hS, hB, hR⟩ hKd
    obtain ⟨m0, hm0⟩ : ∃ m0, ms[0]? = some m0 := ⟨ms[0]'(by rw [HMN.out]; omega), List.getElem?_eq_getElem _⟩
    obtain ⟨_, hbr, _, hRS⟩ := HS.out U hS
    obtain ⟨rb, ro, hra, _, g0⟩ := hRS 0 m0 hm0
    have c1 : U.cell? ⟨w.heap.size + 1, 0, none⟩ = some (.slice (some ⟨rb, ro, none⟩) n rc) := by rw [cell_at hbr, hra]; rfl
    have c2 : U.cell? ⟨rb, ro, none⟩ = some (.int .u16 (m0 : Int)) := g0
    have hr0 := cell_at hR 0
    have hf0 := frozen_at hR 0
    obtain ⟨q, hq⟩ : ∃ q, ((m0 : Int) != 0) = q := ⟨_, rfl⟩
    have hK' := (KeepsOthers.setCell U ⟨w.heap.size + 2, 0, none⟩ (.bool q)).same d _ hKd rfl
    have hne : d ≠ w.heap.size + 2 := by omega
    have R0 : Hid (((U.setCell ⟨w.heap.size + 2, 0, none⟩ (.bool q)).putObj d (.deferred none)).cell? ⟨w.heap.size + 2, 0, none⟩ = some (.bool q)) := by
      show _ = _
      rw [World.cell?_of_block (w := U.setCell ⟨w.heap.size + 2, 0, none⟩ (.bool q)) (a := ⟨w.heap.size + 2, 0, none⟩) (World.putObj_heap_other (fun e => hne e.symm))]
      exact World.cell?_setCell_same' _ _ _ (by rw [hr0]; rfl)
    have HFIN : Hid (CovA (secN m.vars) (secN m.arrs) l ms w (.returned (.bool q)) ((U.setCell ⟨w.heap.size + 2, 0, none⟩ (.bool q)).putObj d (.deferred none))) := by
      refine ⟨q, rfl, ⟨fun e => ⟨fun t ht => ?_, ?_⟩, fun hc => ?_⟩, (hB.setCell (p := ⟨w.heap.size + 2, 0, none⟩) (by simp) _).trans (belowK_b (w := V) (by omega) _ d _ (.deferred none) hd hK' rfl rfl)⟩
      · rw [hm0] at ht
        cases ht
        rw [← hq] at e
        intro h0
        rw [h0] at e
        simp at e
      · refine cov_of fun p hp => ?_
        rw [HN.out, ← hys] at hp
        obtain ⟨z, hz, rfl⟩ := List.mem_map.1 hp
        exact hall z hz
      · have h0 := hc.1 m0 hm0
        rw [← hq]
        simp; omega
    have HKD := Lib.hid hK'
    clear hall hS hB hR hKd hys hK' hbr hRS hm0 g0 hra
    gi_wp2
    refine ⟨by simp, .inl ⟨_, _, rfl, run_takeDeferred HKD.out, ?_⟩⟩
    have p0 := R0.out
    exact ⟨.bool q, by simp [results, Tryd.f50, go_sem, p0], HFIN.out⟩
  case stop =>
    rintro d cc pre U hd hys ⟨⟨rfl, p, hp, hno⟩, hB, hR⟩ hKd
    have hne : d ≠ w.heap.size + 2 := by omega
    have R0 : Hid ((U.putObj d (.deferred none)).cell? ⟨w.heap.size + 2, 0, none⟩ = some (.bool false)) := by
      show _ = _
      rw [World.cell?_of_block (w := U) (a := ⟨w.heap.size + 2, 0, none⟩) (World.putObj_heap_other (fun e => hne e.symm)), cell_at hR]; rfl
    have HFIN : Hid (CovA (secN m.vars) (secN m.arrs) l ms w (.returned (.bool false)) (U.putObj d (.deferred none))) := by
      refine ⟨false, rfl, ⟨fun e => (by cases e), fun hc => absurd hc.2 ?_⟩, hB.trans (belowK_b (w := V) (by omega) _ d _ (.deferred none) hd hKd rfl rfl)⟩
      rw [HN.out]
      exact cov_off (hys.subset (List.mem_map.2 ⟨p, hp, rfl⟩)) hno
    have HKD := Lib.hid hKd
    clear hB hR hKd hys hno
    gi_wp2
    refine ⟨by simp, .inl ⟨_, _, rfl, run_takeDeferred HKD.out, ?_⟩⟩
    have p0 := R0.out
    exact ⟨.bool false, by simp [results, Tryd.f50, go_sem, p0], HFIN.out⟩

end Go.Proofs.YtmodonligaejhaaDoor

namespace Go.Proofs.YtmodonligaejhaaDoor
open Go.RowKit
set_option linter.unusedVariables false

abbrev u16V (m : Nat) : Value := .int .u16 (m : Int)
theorem Tryd.infoRg : (Tryd.prog.info? 81).map (fun i => (i.zero, i.size, i.bytes)) = some (some (.int .u16 0), 1, 2) := by kernel_rfl
theorem rsAt_own {w : World} {base n cap : Nat} {a : Option Addr} {ms : List Nat} (h : w.ownsRow base 81 1 (.slice a n cap) n (ms.map u16V)) (hn : ms.length = n) : RsAt w (fun b => b < w.heap.size) ms a := fun i m hm => by
  have hi : i < ms.length := (List.getElem?_eq_some_iff.1 hm).1
  rcases h.2 with ⟨e, e2⟩ | ⟨g, cp, cur, e, hb, hg, _⟩
  · omega
  · injection e with e1 e2 e3
    subst e1
    refine ⟨g, 0, rfl, (Array.getElem?_eq_some_iff.1 hg).1, ?_⟩
    rw [Nat.zero_add, h.cellAt i (by omega), List.getElem?_map, hm]; rfl
theorem ownsRow_far1 {w w' : World} {base : Nat} {e : TypeId} {size n : Nat} {v : Value} {xs : List Value} (h : w.ownsRow base e size v n xs) (hs : ∀ g, v.ownBlock = some g → g < w.heap.size → w'.heap[g]? = w.heap[g]?) : w'.ownsRow base e size v n xs := by
  refine ⟨h.1, ?_⟩
  rcases h.2 with e | ⟨g, cp, cur, rfl, e2, e3, e4⟩
  · exact .inl e
  · exact .inr ⟨g, cp, cur, rfl, e2, (hs g rfl (Array.getElem?_eq_some_iff.1 e3).1).trans e3, e4⟩
/-- The state of the loop. -/
def CtL (rs : List (List Bool)) (n : Nat) (w : World) (rv i : Value) (wr : World) : Prop := ∃ (j : Nat) (ra : Option Addr) (rc : Nat), j ≤ n ∧ i = .int .i64 (j : Int) ∧ rv = .slice ra j rc ∧ RowsTo rs j ∧ wr.ownsRow w.heap.size 81 1 (.slice ra j rc) j (((masks rs).take j).map u16V) ∧ Below w.heap.size w wr

set_option maxRecDepth 100000 in
set_option maxHeartbeats 8000000 in
/-- **impl.CheckTaint.** -/
theorem iCt_one (m : Cd) (k : CK) (rs : List (List Bool)) (ta : Option Addr) (tn tc : Nat) (w : World) (h : CL w m k) (hT : TblF w) (hb : BBs w (fun b => b < w.heap.size) rs ta) (htn : rs.length = tn) :
    Calls Tryd.prog 17 #[aggC m k, .slice ta tn tc] w (AnsC m rs w) := by
  obtain ⟨i0, hi, hi0, hi1, hi2⟩ := info_parts Tryd.infoRg
  obtain ⟨W, hW⟩ : ∃ W, w.alloc (.cells (arrC m k) 30) = W := ⟨_, rfl⟩
  have hB : Below w.heap.size w W := by rw [← hW]; exact (Below.refl _ w).alloc (Nat.le_refl _) _
  have hX : BoxC W w.heap.size m k := by rw [← hW]; exact BoxC.new _ _ _ _
  have H : Hid (∀ v, Below W.heap.size W v → BoxC v w.heap.size m k ∧ CL v m k ∧ BBs v (fun b => b < v.heap.size) rs ta) := fun v hv => ⟨hX.below hv hX.lt, (h.below hB).below hv, (hb.below hB).below hv⟩
  have c0 := hX.c0
  have c1 := hX.c1
  have c2 := hX.c2
  have HW := Lib.hid hW
  have HB := Lib.hid hB
  have HTN := Lib.hid htn
  unfold arrC at HW
  have HV := Lib.hid (iCV_one m k W (h.below hB) (hT.below hB hT.lt))
  clear h hT hb hB hX hW htn
  go_enter Tryd.func17, Tryd.ntmps17
  go_wp2_with (first | rw [HW.out] | fail)
  refine HV.out.mono ?_
  rintro e w2 ⟨rfl, hb2⟩
  have HB2 : Hid (Below w.heap.size w w2) := HB.out.trans (hb2.mono HB.out.size)
  have HL2 : Hid (Below W.heap.size W w2) := hb2
  have hz2 := hb2.size
  have hz0 := HB.out.size
  obtain ⟨q, hq⟩ : ∃ q, codeB m = q := ⟨_, rfl⟩
  have HQ := Lib.hid hq
  rw [hq]
  clear hb2 hq HV c0 c1 c2
  cases q
  case false =>
    have HF : Hid (AnsC m rs w (.returned (.bool false)) w2) := AnsC.no (fun e => by have := e.ok; rw [HQ.out] at this; cases this) HB2.out
    go_wp2_with fail
    go_ret
    exact HF.out
  case true =>
    obtain ⟨n, hn⟩ : ∃ n, m.list.length = n := ⟨_, rfl⟩
    have HN := Lib.hid hn
    have HO := Lib.hid (codeB_ok HQ.out)
    have hle : n ≤ 400 := by rw [← hn]; exact HO.out.le
    have hpos : 1 ≤ n := by rw [← hn]; exact HO.out.pos
    have x2 : w2.cell? ⟨w.heap.size, 2, none⟩ = some (.slice k.la n k.lc) := by rw [← hn]; exact (H.out w2 HL2.out).1.c2
    clear hn
    by_cases hne : tn = n
    · subst hne
      have HL0 : Hid (CtL rs tn w2 (.slice none 0 0) (.int .i64 0) w2) := ⟨0, none, 0, Nat.zero_le _, rfl, rfl, (fun i r hi => absurd hi (Nat.not_lt_zero _)), by simpa using World.ownsRow_nil w2 w2.heap.size 81 1, Below.refl _ _⟩
      go_wp2_with fail
      clear x2
      go_loopw [5, 24] (fun rv i wr => CtL rs tn w2 rv i wr) (fun _ i _ => tn - (intOf i).toNat)
      case atStart => exact HL0.out
      case round =>
        obtain ⟨j, ra, rc, hj, rfl, rfl, hto, hrow, hb⟩ := hrel
        have HTO := Lib.hid hto
        have HROW := Lib.hid hrow
        have HBR := Lib.hid hb
        have hWr : Below W.heap.size W wr := HL2.out.trans (hb.mono hz2)
        have HWR := Lib.hid hWr
        obtain ⟨_, _, hbs⟩ := H.out wr hWr
        have hbsz := hb.size
        clear hto hrow hb HL0 hWr
        by_cases hlt : j < tn
        · obtain ⟨r, hr⟩ : ∃ r, rs[j]? = some r := ⟨rs[j]'(by rw [HTN.out]; exact hlt), List.getElem?_eq_getElem _⟩
          obtain ⟨tb, tO, pa, pc, rfl, htb, hpc, hpb⟩ := hbs.2 j r hr
          obtain ⟨rl, hrl⟩ : ∃ rl, r.length = rl := ⟨_, rfl⟩
          rw [hrl] at hpc
          have HR := Lib.hid hr
          have HRL := Lib.hid hrl
          have HI := Lib.hid (isT_one pa rl pc wr)
          have HPB := Lib.hid hpb
          clear hr hrl hbs hpb
          go_wp2_with fail
          refine HI.out.mono ?_
          rintro e w3 ⟨rfl, hw3⟩
          obtain rfl : wr = w3 := hw3.symm
          clear hw3
          by_cases hok : rl = 0 ∨ rl = 14
          · rw [show decide (rl = 0 ∨ rl = 14) = true from decide_eq_true hok]
            have HTR := Lib.hid (tR_one r pa rl pc wr HPB.out HRL.out hok)
            obtain ⟨q, hq⟩ : ∃ q, mkR r = q := ⟨_, rfl⟩
            have HQR := Lib.hid hq
            rw [hq] at HTR
            have HOK : Hid (r.length = 0 ∨ r.length = 14) := by rw [HRL.out]; exact hok
            clear hok HI HPB hq
            obtain ⟨V3, hV3⟩ : ∃ V3, wr.alloc (.cells #[.int .u16 (q : Int)] 81) = V3 := ⟨_, rfl⟩
            have hz3 : V3.heap.size = wr.heap.size + 1 := by rw [← hV3]; simp
            have hblk : V3.heap[wr.heap.size]? = some (.cells #[.int .u16 (q : Int)] 81 (0, 0)) := by rw [← hV3]; exact heap_alloc_new wr _
            have hr3 : V3.ownsRow w2.heap.size 81 1 (.slice ra j rc) j (((masks rs).take j).map u16V) := ownsRow_far1 HROW.out fun g _ hl => by rw [← hV3]; exact Below.heap_alloc _ _ _ hl
            have hB3 : Below w2.heap.size w2 V3 := by rw [← hV3]; exact HBR.out.alloc hbsz _
            have HV3 := Lib.hid hV3
            have HB3 := Lib.hid hB3
            clear hV3 hB3
            go_wp2_with fail
            refine HTR.out.mono ?_
            rintro e w4 ⟨rfl, hw4⟩
            obtain rfl : wr = w4 := hw4.symm
            clear hw4 HTR
            go_wp2_with (first
              | (at_builtin
                 rw [HV3.out]
                 refine wpList_append_lies _ (by rfl) _ _ 72 (by rfl) w2.heap.size 81 i0 _ 1 2 Tryd.underlying72 hi hi0 hi1 hi2 rfl (by omega) (.slice ra j rc) j _ (by rfl) hr3 ⟨wr.heap.size, 0, none⟩ 1 1 _ (by rfl) (by rfl) (World.news_of_block hblk) (by simp [Value.oneCell']) (by omega) (by unfold maxLen; omega) (by omega) (by omega) (wr.heap.size + 1) (by omega) ?_
                 intro g5 cp w5 hown5 hgrow hat hlt5
                 have HREL : Hid (CtL rs tn w2 (.slice (some ⟨g5, 0, none⟩) (j + 1) cp) (.int .i64 ((j : Int) + 1)) w5) := ⟨j + 1, some ⟨g5, 0, none⟩, cp, hlt, by go_num, rfl, HTO.out.succ HR.out HOK.out, (by
                   have e1 : (masks rs).take (j + 1) = (masks rs).take j ++ [q] := (by rw [List.take_add_one, masks_at HR.out, HQR.out]; rfl)
                   rw [e1, List.map_append]
                   exact hown5), HB3.out.grown hgrow HB3.out.size (fun t ht => (hr3.lt t ht).1)⟩
                 clear hown5 hgrow hat hblk hr3)
              | fail)
            go_roundw
            case rel => exact HREL.out
            case measure => simp [intOf]; omega
          · rw [show decide (rl = 0 ∨ rl = 14) = false from decide_eq_false hok]
            have HF : Hid (AnsC m rs w (.returned (.bool false)) wr) := AnsC.no (fun e => hok (by rw [← HRL.out]; exact e.rows r (List.mem_of_getElem? HR.out))) (HB2.out.trans (HBR.out.mono (by omega)))
            clear hok HI HPB HROW HTO
            go_wp2_with fail
            go_ret
            exact HF.out
        · obtain rfl : j = tn := by omega
          have hrows : RowsT rs := (show RowsTo rs rs.length by rw [HTN.out]; exact HTO.out).all
          have hml : (masks rs).length = j := by rw [masks_len]; exact HTN.out
          have hrow := HROW.out
          rw [List.take_of_length_le (by omega)] at hrow
          have HROWS := Lib.hid hrows
          have HML := Lib.hid hml
          have HRW := Lib.hid hrow
          obtain ⟨hbx0, hcl, _⟩ := H.out wr HWR.out
          have b0 := hbx0.c0
          have b1 := hbx0.c1
          have b2 := hbx0.c2
          have HVO := Lib.hid (vOf_one m k wr hcl HQ.out)
          clear hrows hml hrow HROW hbx0 hcl hbs
          go_wp2_with fail
          refine HVO.out.mono ?_
          rintro e w5 ⟨rfl, hb5⟩
          rw [HN.out]
          obtain ⟨W6, hW6⟩ : ∃ W6, w5.alloc (.cells (arrV k.la j k.lc (knl m.heads)) 69) = W6 := ⟨_, rfl⟩
          have hbx : W6.heap[w5.heap.size]? = some (.cells (arrV k.la j k.lc (knl m.heads)) 69 (0, 0)) := by rw [← hW6]; exact heap_alloc_new w5 _
          have hb6 : Below wr.heap.size wr W6 := hb5.trans (by rw [← hW6]; exact (Below.refl _ w5).alloc hb5.size _)
          have hWW : Below W.heap.size W W6 := HWR.out.trans (hb6.mono HWR.out.size)
          have hRS : RsAt W6 (fun b => b < W6.heap.size) (masks rs) ra := rsAt_own (ownsRow_far1 HRW.out fun g _ hl => hb6.block g hl) HML.out
          have HIT : Hid (∀ (i : Nat) (x : Ins), m.list[i]? = some x → InsT m.vars.length m.arrs.length x) := fun i x hx => codeB_ins HQ.out hx
          have HLT : Hid (∀ (i q : Nat), (masks rs)[i]? = some q → q < 32768) := fun i q hq => (masks_gm HROWS.out i q hq).1
          have HFL := Lib.hid (fstL_one m m.list k.la ra j k.lc rc (knl m.heads) (masks rs) W6 (H.out W6 hWW).2.1.2.2 HN.out HML.out hle (knl_T HQ.out) HIT.out hRS HLT.out)
          have HBX := Lib.hid hbx
          have HB6 : Hid (Below w.heap.size w W6) := HB2.out.trans ((HBR.out.trans (hb6.mono hbsz)).mono (by omega))
          have HWW := Lib.hid hWW
          have HRS := Lib.hid hRS
          have HW6 := Lib.hid hW6
          unfold arrV at HW6
          have z0 := cell_at hbx 0
          have z1 := cell_at hbx 1
          have z2 := cell_at hbx 2
          have z3 := cell_at hbx 3
          have z4 := cell_at hbx 4
          have z5 := cell_at hbx 5
          have z6 := cell_at hbx 6
          have z7 := cell_at hbx 7
          have z8 := cell_at hbx 8
          have z9 := cell_at hbx 9
          have z10 := cell_at hbx 10
          have z11 := cell_at hbx 11
          have z12 := cell_at hbx 12
          have z13 := cell_at hbx 13
          have z14 := cell_at hbx 14
          clear hW6 hbx hb5 hb6 hWW hRS HVO b0 b1 b2 HRW
          go_wp2_with (first | rw [HW6.out] | fail)
          refine HFL.out.mono ?_
          rintro e w7 ⟨c, i, rfl, hfst, hb7⟩
          have HFST := Lib.hid hfst
          have HB7 : Hid (Below w.heap.size w w7) := HB6.out.trans (hb7.mono HB6.out.size)
          have hbx7 := (hb7.block _ (Array.getElem?_eq_some_iff.1 HBX.out).1).trans HBX.out
          by_cases hc0 : c = 0
          · subst hc0
            have hRS7 : RsAt w7 (fun b => b < w7.heap.size) (masks rs) ra := HRS.out.wide (fun q hq => hb7.block q hq) fun q hq => Nat.lt_of_lt_of_le hq hb7.size
            have HCV := Lib.hid (callsIn_wide.1 (cov_in m m.list k.la ra j k.lc rc (knl m.heads) (masks rs) w7 (H.out w7 (HWW.out.trans (hb7.mono HWW.out.size))).2.1.2.2 HN.out HML.out HO.out (knl_T HQ.out) HIT.out hRS7 HLT.out))
            have HNL : Hid (NoLk (secN m.vars) (secN m.arrs) m.list (masks rs) m.list.length) := by
              rcases HFST.out with ⟨_, _, _, _, _, _, h0, _⟩ | ⟨h1, _⟩
              · exact absurd rfl h0
              · exact h1
            have y0 := cell_at hbx7 0
            have y1 := cell_at hbx7 1
            have y2 := cell_at hbx7 2
            have y3 := cell_at hbx7 3
            have y4 := cell_at hbx7 4
            have y5 := cell_at hbx7 5
            have y6 := cell_at hbx7 6
            have y7 := cell_at hbx7 7
            have y8 := cell_at hbx7 8
            have y9 := cell_at hbx7 9
            have y10 := cell_at hbx7 10
            have y11 := cell_at hbx7 11
            have y12 := cell_at hbx7 12
            have y13 := cell_at hbx7 13
            have y14 := cell_at hbx7 14
            clear z0 z1 z2 z3 z4 z5 z6 z7 z8 z9 z10 z11 z12 z13 z14 hfst hb7 hbx7 HFL hRS7
            go_wp2_with fail
            refine HCV.out.mono ?_
            rintro e w8 ⟨b, rfl, hcb, hb8⟩
            have HFIN : Hid (AnsC m rs w (.returned (.bool b)) w8) := by
              refine ⟨b, rfl, ⟨fun e => ?_, fun e => hcb.2 ⟨e.cov.fst, e.cov.cov⟩⟩, HB7.out.trans (hb8.mono HB7.out.size)⟩
              obtain ⟨h1, h2⟩ := hcb.1 e
              exact ⟨HQ.out, HTN.out.trans HN.out.symm, HROWS.out, ⟨h1, HNL.out, h2⟩⟩
            clear hcb hb8 HCV y0 y1 y2 y3 y4 y5 y6 y7 y8 y9 y10 y11 y12 y13 y14
            go_wp2_with fail
            go_ret
            exact HFIN.out
          · have hcb : (c == 0) = false := by simpa using hc0
            have HFIN : Hid (AnsC m rs w (.returned (.bool false)) w7) := AnsC.no (fun e => by
              rcases HFST.out with ⟨kk, x, q, h1, h2, h3, h0, _⟩ | ⟨_, h1, _⟩
              · exact h0 (h3.symm.trans (e.cov.lk kk x q (List.getElem?_eq_some_iff.1 h1).1 h1 h2))
              · exact hc0 h1) HB7.out
            clear hc0 z0 z1 z2 z3 z4 z5 z6 z7 z8 z9 z10 z11 z12 z13 z14 hfst hb7 hbx7 HFL
            go_wp2_with fail
            go_ret
            exact HFIN.out
    · have hneq : ((tn : Int) != (n : Int)) = true := by simp; omega
      have HF : Hid (AnsC m rs w (.returned (.bool false)) w2) := AnsC.no (fun e => hne (HTN.out.symm.trans (e.len.trans HN.out))) HB2.out
      clear hne
      go_wp2_with fail
      go_ret
      exact HF.out

end Go.Proofs.YtmodonligaejhaaDoor

namespace Go.Proofs.YtmodonligaejhaaDoor
open Go.RowKit
set_option linter.unusedVariables false

theorem CovTo.succ {sv sa : Nat → Bool} {l : List Ins} {ms : List Nat} {j : Nat} {x : Ins} {m : Nat} (h : CovTo sv sa l ms j) (hx : l[j]? = some x) (hm : ms[j]? = some m) (e : m ≠ 0 → ∀ t q, t ∈ folN x j → ms[t]? = some q → Sub (aftM sv sa x m) q) : CovTo sv sa l ms (j + 1) := fun i y a t q hi hy ha h0 ht hq => by
  by_cases hk : i = j
  · subst hk
    rw [hx] at hy
    rw [hm] at ha
    cases hy
    cases ha
    exact e h0 t q ht hq
  · exact h i y a t q (by omega) hy ha h0 ht hq
/-- The first s of the next cover. -/
def CvN (a : Nat) (ms : List Nat) (ns : List Int) (s : Nat) : Prop := ∀ (i t q : Nat), i < s → ns[i]? = some (t : Int) → ms[t]? = some q → Sub a q
theorem CvN.succ {a : Nat} {ms : List Nat} {ns : List Int} {s t q : Nat} (h : CvN a ms ns s) (ht : ns[s]? = some (t : Int)) (hq : ms[t]? = some q) (e : Sub a q) : CvN a ms ns (s + 1) := fun i t' q' hi ht' hq' => by
  by_cases hk : i = s
  · subst hk
    rw [ht] at ht'
    have := Int.ofNat.inj (Option.some.inj ht')
    subst this
    rw [hq] at hq'
    cases hq'
    exact e
  · exact h i t' q' (by omega) ht' hq'
def CsL (sv sa : Nat → Bool) (l : List Ins) (ms : List Nat) (n : Nat) (w : World) (i : Value) (wr : World) : Prop := ∃ j : Nat, j ≤ n ∧ i = .int .i64 (j : Int) ∧ NoLk sv sa l ms j ∧ CovTo sv sa l ms j ∧ Below w.heap.size w wr

set_option maxRecDepth 100000 in
set_option maxHeartbeats 16000000 in
/-- **spec.CheckTaint.** -/
theorem sCt_one (m : Cd) (k : CK) (rs : List (List Bool)) (ta : Option Addr) (tn tc : Nat) (w : World) (h : CL w m k) (hb : BBs w (fun b => b < w.heap.size) rs ta) (htn : rs.length = tn) :
    Calls Tryd.prog 15 #[aggC m k, .slice ta tn tc] w (AnsC m rs w) := by
  obtain ⟨W, hW⟩ : ∃ W, w.alloc (.cells (arrC m k) 30) = W := ⟨_, rfl⟩
  have hB : Below w.heap.size w W := by rw [← hW]; exact (Below.refl _ w).alloc (Nat.le_refl _) _
  have hX : BoxC W w.heap.size m k := by rw [← hW]; exact BoxC.new _ _ _ _
  have H : Hid (∀ v, Below W.heap.size W v → BoxC v w.heap.size m k ∧ CL v m k ∧ BBs v (fun b => b < v.heap.size) rs ta) := fun v hv => ⟨hX.below hv hX.lt, (h.below hB).below hv, (hb.below hB).below hv⟩
  have c0 := hX.c0
  have c1 := hX.c1
  have c2 := hX.c2
  have HW := Lib.hid hW
  have HB := Lib.hid hB
  have HTN := Lib.hid htn
  unfold arrC at HW
  have HV := Lib.hid (sCV_one m k W (h.below hB))
  clear h hb hB hX hW htn
  go_enter Tryd.func15, Tryd.ntmps15
  go_wp2_with (first | rw [HW.out] | fail)
  refine HV.out.mono ?_
  rintro e w2 ⟨rfl, hb2⟩
  have HB2 : Hid (Below w.heap.size w w2) := HB.out.trans (hb2.mono HB.out.size)
  have HL2 : Hid (Below W.heap.size W w2) := hb2
  have hz2 := hb2.size
  have hz0 := HB.out.size
  obtain ⟨q, hq⟩ : ∃ q, codeB m = q := ⟨_, rfl⟩
  have HQ := Lib.hid hq
  rw [hq]
  clear hb2 hq HV c0 c1 c2
  cases q
  case false =>
    have HF : Hid (AnsC m rs w (.returned (.bool false)) w2) := AnsC.no (fun e => by have := e.ok; rw [HQ.out] at this; cases this) HB2.out
    go_wp2_with fail
    go_ret
    exact HF.out
  case true =>
    obtain ⟨n, hn⟩ : ∃ n, m.list.length = n := ⟨_, rfl⟩
    have HN := Lib.hid hn
    have HO := Lib.hid (codeB_ok HQ.out)
    have HD := Lib.hid (codeB_decl HQ.out)
    have hle : n ≤ 400 := by rw [← hn]; exact HO.out.le
    have hpos : 1 ≤ n := by rw [← hn]; exact HO.out.pos
    have x2 : w2.cell? ⟨w.heap.size, 2, none⟩ = some (.slice k.la n k.lc) := by rw [← hn]; exact (H.out w2 HL2.out).1.c2
    clear hn
    by_cases hne : tn = n
    · subst hne
      obtain ⟨r, hr⟩ : ∃ r, rs[0]? = some r := ⟨rs[0]'(by rw [HTN.out]; omega), List.getElem?_eq_getElem _⟩
      obtain ⟨tb, tO, pa0, pc0, rfl, htb, hpc, hpb⟩ := (H.out w2 HL2.out).2.2.2 0 r hr
      obtain ⟨rl, hrl⟩ : ∃ rl, r.length = rl := ⟨_, rfl⟩
      rw [hrl] at hpc
      have y0 : w2.cell? ⟨tb, tO, none⟩ = some (.slice pa0 rl pc0) := hpc
      have HR := Lib.hid hr
      have HRL := Lib.hid hrl
      clear hr hrl hpb hpc
      by_cases hr0 : rl = 0
      · have HF : Hid (AnsC m rs w (.returned (.bool false)) w2) := AnsC.no (fun e => e.cov.fst _ (masks_at HR.out) (mkR_0 (HRL.out.trans hr0))) HB2.out
        subst hr0
        go_wp2_with fail
        go_ret
        exact HF.out
      · have b0 : ((rl : Int) == 0) = false := by simp; omega
        have HR0 : Hid (r.length ≠ 0) := by show r.length ≠ 0; rw [HRL.out]; exact hr0
        have hrlm : rl ≤ maxLen := by have := (H.out w2 HL2.out).2.2.2; rw [← HRL.out]; obtain ⟨_, _, _, _, _, _, _, hh⟩ := this 0 r HR.out; exact hh.1
        clear hr0
        go_wp2_with fail
        clear x2 y0
        go_loopw [5] (fun i wr => ∃ j : Nat, j ≤ tn ∧ i = .int .i64 (j : Int) ∧ Hid (RowsTo rs j) ∧ wr = w2) (fun i _ => tn - (intOf i).toNat)
        case atStart => exact ⟨0, Nat.zero_le _, rfl, (fun i r hi => absurd hi (Nat.not_lt_zero _) : RowsTo rs 0), by first | rfl | trivial⟩
        case round =>
          obtain ⟨j, hj, rfl, HTO, rfl⟩ := hrel
          by_cases hlt : j < tn
          · obtain ⟨r2, hr2⟩ : ∃ r, rs[j]? = some r := ⟨rs[j]'(by rw [HTN.out]; exact hlt), List.getElem?_eq_getElem _⟩
            obtain ⟨tb', tO', pa, pc, ha, htb2, hpc2, hpb2⟩ := (H.out _ HL2.out).2.2.2 j r2 hr2
            cases ha
            obtain ⟨r2l, hr2l⟩ : ∃ rl, r2.length = rl := ⟨_, rfl⟩
            rw [hr2l] at hpc2
            have HR2 := Lib.hid hr2
            have HR2L := Lib.hid hr2l
            clear hr2 hr2l hpb2
            by_cases hz : r2l = 0
            · have HT2 : Hid (RowsTo rs (j + 1)) := HTO.out.succ HR2.out (.inl (HR2L.out.trans hz))
              subst hz
              go_wp2_with fail
              go_roundw
              case rel => exact ⟨j + 1, by omega, by go_num, HT2, trivial⟩
              case measure => simp [intOf]; omega
            · have d0 : ((r2l : Int) != 0) = true := by simp; omega
              by_cases h14 : r2l = 14
              · have HT2 : Hid (RowsTo rs (j + 1)) := HTO.out.succ HR2.out (.inr (HR2L.out.trans h14))
                subst h14
                clear d0 hz
                go_wp2_with fail
                go_roundw
                case rel => exact ⟨j + 1, by omega, by go_num, HT2, trivial⟩
                case measure => simp [intOf]; omega
              · have d1 : ((r2l : Int) != 14) = true := by simp; omega
                have HF : Hid (AnsC m rs w (.returned (.bool false)) wr) := AnsC.no (fun e => by
                  have := e.rows r2 (List.mem_of_getElem? HR2.out)
                  rw [HR2L.out] at this
                  omega) HB2.out
                clear h14 hz
                go_wp2_with fail
                go_ret
                exact HF.out
          · obtain rfl : j = tn := by omega
            have hrows : RowsT rs := (show RowsTo rs rs.length by rw [HTN.out]; exact HTO.out).all
            have HROWS := Lib.hid hrows
            obtain ⟨ms, hms⟩ : ∃ ms, masks rs = ms := ⟨_, rfl⟩
            have HMS := Lib.hid hms
            have HGM : Hid (∀ (i q : Nat), ms[i]? = some q → Gm q) := by rw [← hms]; exact fun i q => masks_gm hrows i q
            have HML : Hid (ms.length = j) := by show ms.length = j; rw [← hms, masks_len]; exact HTN.out
            have HRB : Hid (ms.map rowB = rs) := by rw [← hms]; exact masks_row hrows
            have HIT : Hid (∀ (i : Nat) (x : Ins), m.list[i]? = some x → InsT m.vars.length m.arrs.length x) := fun i x hx => codeB_ins HQ.out hx
            have HL0 : Hid (CsL (secN m.vars) (secN m.arrs) m.list ms j wr (.int .i64 0) wr) := ⟨0, Nat.zero_le _, rfl, (fun q x mq hq => absurd hq (Nat.not_lt_zero _)), (fun i x a t q hi => absurd hi (Nat.not_lt_zero _)), Below.refl _ _⟩
            obtain ⟨n, hnn⟩ : ∃ n, n = j := ⟨_, rfl⟩
            subst hnn
            obtain ⟨w3, hw3⟩ : ∃ w3, wr = w3 := ⟨_, rfl⟩
            have HW3 := Lib.hid hw3
            rw [hw3] at HL0 HL2 HB2
            clear hrows hms HTO hw3
            go_wp2_with fail
            rw [HW3.out]
            clear HW3
            go_loopw [6] (fun i wr => CsL (secN m.vars) (secN m.arrs) m.list ms n w3 i wr) (fun i _ => n - (intOf i).toNat)
            case atStart => exact HL0.out
            case round =>
              obtain ⟨j, hj, rfl, hnl, hcv, hb⟩ := hrel
              have HNL := Lib.hid hnl
              have HCO := Lib.hid hcv
              have HBR := Lib.hid hb
              have HWR : Hid (Below W.heap.size W wr) := HL2.out.trans (hb.mono HL2.out.size)
              obtain ⟨hbx, hcl, hbs⟩ := H.out wr HWR.out
              rw [← HRB.out] at hbs
              have hbsz := hb.size
              clear hnl hcv hb HL0
              by_cases hjn : j < n
              · obtain ⟨x, hx⟩ : ∃ x, m.list[j]? = some x := ⟨m.list[j]'(by rw [HN.out]; exact hjn), List.getElem?_eq_getElem _⟩
                obtain ⟨mj, hmj⟩ : ∃ mj, ms[j]? = some mj := ⟨ms[j]'(by rw [HML.out]; exact hjn), List.getElem?_eq_getElem _⟩
                obtain ⟨tb', tO', pa, pc, ha, htb3, hpc, hpb⟩ := hbs.2 j (rowB mj) (by rw [List.getElem?_map, hmj]; rfl)
                cases ha
                obtain ⟨bi, oi, hla, hbil, e0, e1, e2, e3, e4⟩ := hcl.2.2.2 j x hx
                have HX := Lib.hid hx
                have HMJ := Lib.hid hmj
                have HGJ := Lib.hid (HGM.out j mj hmj)
                by_cases hm0 : mj = 0
                · have HREL : Hid (CsL (secN m.vars) (secN m.arrs) m.list ms n w3 (.int .i64 ((j : Int) + 1)) wr) := ⟨j + 1, hjn, by go_num, HNL.out.succ HX.out HMJ.out (by rw [hm0]; exact leakM_0 _ _ _), HCO.out.succ HX.out HMJ.out (fun e => absurd hm0 e), HBR.out⟩
                  rw [hm0] at hpc
                  have hpc' : wr.cell? ⟨tb, tO + j, none⟩ = some (.slice pa 0 pc) := hpc
                  clear hpc hm0 hx hmj hpb e0 e1 e2 e3 e4 hla hbil hbs hbx hcl
                  go_wp2_with fail
                  go_roundw
                  case rel => exact HREL.out
                  case measure => simp [intOf]; omega
                · rw [rowB_len hm0] at hpc
                  have x0 := hbx.c0
                  have x1 := hbx.c1
                  have x2 := hbx.c2
                  rw [HN.out, hla] at x2
                  have HOW : Hid (Calls Tryd.prog 39 #[.agg #[.slice k.va m.vars.length k.vc, .slice k.aa m.arrs.length k.ac, .slice (some ⟨bi, oi, none⟩) n k.lc], aggI x, .slice pa 14 pc] wr.drew (NumB (leakM (secN m.vars) (secN m.arrs) x mj) wr.drew)) := by
                    have h9 := sOwn_one m k x mj pa pc wr.drew (hcl.below (Below.refl _ wr).drew) HD.out (HIT.out j x hx) hm0 (hpb.wide (fun _ _ => rfl) fun _ hb => hb)
                    unfold aggC at h9
                    rw [HN.out, hla] at h9
                    exact h9
                  have HSB : Hid (∀ v, Below wr.heap.size wr v → v.cell? ⟨w.heap.size, 0, none⟩ = some (.slice k.va m.vars.length k.vc) ∧ v.cell? ⟨w.heap.size, 1, none⟩ = some (.slice k.aa m.arrs.length k.ac) ∧ v.cell? ⟨w.heap.size, 2, none⟩ = some (.slice (some ⟨bi, oi, none⟩) n k.lc) ∧ v.cell? ⟨bi, oi + j * 5, none⟩ = some (.int .i64 x.op) ∧ v.cell? ⟨bi, oi + j * 5 + 1, none⟩ = some (.int .i64 x.fa) ∧ v.cell? ⟨bi, oi + j * 5 + 2, none⟩ = some (.int .i64 x.fb) ∧ v.cell? ⟨bi, oi + j * 5 + 3, none⟩ = some (.int .i64 x.fc) ∧ v.cell? ⟨bi, oi + j * 5 + 4, none⟩ = some (.int .i64 x.fd) ∧ v.cell? ⟨tb, tO + j, none⟩ = some (.slice pa 14 pc)) := fun v hv => by
                    have b := hbx.below hv hbx.lt
                    have b2 := b.c2
                    rw [HN.out, hla] at b2
                    exact ⟨b.c0, b.c1, b2, (hv.cell (p := ⟨bi, _, none⟩) hbil).trans e0, (hv.cell (p := ⟨bi, _, none⟩) hbil).trans e1, (hv.cell (p := ⟨bi, _, none⟩) hbil).trans e2, (hv.cell (p := ⟨bi, _, none⟩) hbil).trans e3, (hv.cell (p := ⟨bi, _, none⟩) hbil).trans e4, (hv.cell (p := ⟨tb, _, none⟩) htb3).trans hpc⟩
                  obtain ⟨c, hc⟩ : ∃ c, leakM (secN m.vars) (secN m.arrs) x mj = c := ⟨_, rfl⟩
                  have HC := Lib.hid hc
                  rw [hc] at HOW
                  have h14 : mj.testBit 14 = true := HGJ.out.pos hm0
                  have HM0 := Lib.hid hm0
                  have H14 := Lib.hid h14
                  have HCL := Lib.hid hcl
                  have HPB := Lib.hid hpb
                  have HLA := Lib.hid hla
                  have HBX := Lib.hid hbx
                  have b14 : ((14 : Int) == 0) = false := by decide
                  clear hc hm0 hx hmj hpb e0 e1 e2 e3 e4 hla hbil hbs hbx hcl h14
                  by_cases hc0 : c = 0
                  · have hcb : (c != 0) = false := by simpa using hc0
                    have HC0 := Lib.hid hc0
                    clear hc0
                    go_wp2_with fail
                    refine wp_region_held_drew (S := fun v => v.cell? ⟨w.heap.size, 0, none⟩ = some (.slice k.va m.vars.length k.vc) ∧ v.cell? ⟨w.heap.size, 1, none⟩ = some (.slice k.aa m.arrs.length k.ac) ∧ v.cell? ⟨w.heap.size, 2, none⟩ = some (.slice (some ⟨bi, oi, none⟩) n k.lc) ∧ v.cell? ⟨bi, oi + j * 5, none⟩ = some (.int .i64 x.op) ∧ v.cell? ⟨bi, oi + j * 5 + 1, none⟩ = some (.int .i64 x.fa) ∧ v.cell? ⟨bi, oi + j * 5 + 2, none⟩ = some (.int .i64 x.fb) ∧ v.cell? ⟨bi, oi + j * 5 + 3, none⟩ = some (.int .i64 x.fc) ∧ v.cell? ⟨bi, oi + j * 5 + 4, none⟩ = some (.int .i64 x.fd) ∧ v.cell? ⟨tb, tO + j, none⟩ = some (.slice pa 14 pc)) (by kernel_rfl) (HSB.out wr.drew (Below.refl _ wr).drew) (fun hHeld => ?_)
                    refine wpAnyH_take (i := 0) (oi := ⟨some 60, _, _, _, _, _⟩) (v := ?_) rfl (by kernel_rfl) (by kernel_rfl) (by kernel_rfl) (fun _ _ _ h => h) (Or.inl ⟨by rfl, ?_⟩) (by assumption) ?_
                    rotate_left
                    · intro w hSw; (try dsimp only at hSw); go_simp; (try with_reducible rfl)
                    simp only [Act.put, List.setIfInBounds_toArray, List.set_cons_zero, List.set_cons_succ]
                    refine wpAnyH_take (i := 1) (oi := ⟨some 61, _, _, _, _, _⟩) (v := ?_) rfl (by kernel_rfl) (by kernel_rfl) (by kernel_rfl) (fun _ _ _ h => h) (Or.inl ⟨by rfl, ?_⟩) (by assumption) ?_
                    rotate_left
                    · intro w hSw; (try dsimp only at hSw); go_simp; (try with_reducible rfl)
                    simp only [Act.put, List.setIfInBounds_toArray, List.set_cons_zero, List.set_cons_succ]
                    refine wpAnyH_take (i := 2) (oi := ⟨some 62, _, _, _, _, _⟩) (v := ?_) rfl (by kernel_rfl) (by kernel_rfl) (by kernel_rfl) (fun _ _ _ h => h) (Or.inl ⟨by rfl, ?_⟩) (by assumption) ?_
                    rotate_left
                    · intro w hSw; (try dsimp only at hSw); go_simp; (try with_reducible rfl)
                    simp only [Act.put, List.setIfInBounds_toArray, List.set_cons_zero, List.set_cons_succ]
                    refine wpAnyH_take (i := 3) (oi := ⟨some 63, _, _, _, _, _⟩) (v := ?_) rfl (by kernel_rfl) (by kernel_rfl) (by kernel_rfl) (fun _ _ _ h => h) (Or.inl ⟨by rfl, ?_⟩) (by assumption) ?_
                    rotate_left
                    · intro w hSw; (try dsimp only at hSw); go_simp; (try with_reducible rfl)
                    simp only [Act.put, List.setIfInBounds_toArray, List.set_cons_zero, List.set_cons_succ]
                    refine wpAnyH_take (i := 4) (oi := ⟨some 64, _, _, _, _, _⟩) (v := ?_) rfl (by kernel_rfl) (by kernel_rfl) (by kernel_rfl) (fun _ _ _ h => h) (Or.inl ⟨by rfl, ?_⟩) (by assumption) ?_
                    rotate_left
                    · intro w hSw; (try dsimp only at hSw); go_simp; (try with_reducible rfl)
                    simp only [Act.put, List.setIfInBounds_toArray, List.set_cons_zero, List.set_cons_succ]
                    refine wpAnyH_take (i := 5) (oi := ⟨some 65, _, _, _, _, _⟩) (v := ?_) rfl (by kernel_rfl) (by kernel_rfl) (by kernel_rfl) (fun _ _ _ h => h) (Or.inl ⟨by rfl, ?_⟩) (by assumption) ?_
                    rotate_left
                    · intro w hSw; (try dsimp only at hSw); go_simp; (try with_reducible rfl)
                    simp only [Act.put, List.setIfInBounds_toArray, List.set_cons_zero, List.set_cons_succ]
                    refine wpAnyH_take (i := 6) (oi := ⟨some 66, _, _, _, _, _⟩) (v := ?_) rfl (by kernel_rfl) (by kernel_rfl) (by kernel_rfl) (fun _ _ _ h => h) (Or.inl ⟨by rfl, ?_⟩) (by assumption) ?_
                    rotate_left
                    · intro w hSw; (try dsimp only at hSw); go_simp; (try with_reducible rfl)
                    simp only [Act.put, List.setIfInBounds_toArray, List.set_cons_zero, List.set_cons_succ]
                    refine wpAnyH_take (i := 7) (oi := ⟨some 67, _, _, _, _, _⟩) (v := ?_) rfl (by kernel_rfl) (by kernel_rfl) (by kernel_rfl) (fun _ _ _ h => h) (Or.inl ⟨by rfl, ?_⟩) (by assumption) ?_
                    rotate_left
                    · intro w hSw; (try dsimp only at hSw); go_simp; (try with_reducible rfl)
                    simp only [Act.put, List.setIfInBounds_toArray, List.set_cons_zero, List.set_cons_succ]
                    refine wpAnyH_take (i := 8) (oi := ⟨some 68, _, _, _, _, _⟩) (v := ?_) rfl (by kernel_rfl) (by kernel_rfl) (by kernel_rfl) (fun _ _ _ h => h) (Or.inl ⟨by rfl, ?_⟩) (by assumption) ?_
                    rotate_left
                    · intro w hSw; (try dsimp only at hSw); go_simp; (try with_reducible rfl)
                    simp only [Act.put, List.setIfInBounds_toArray, List.set_cons_zero, List.set_cons_succ]
                    refine wpAnyH_take (i := 9) (oi := ⟨some 69, _, _, _, _, _⟩) (v := ?_) rfl (by kernel_rfl) (by kernel_rfl) (by kernel_rfl) (fun _ _ _ h => h) (Or.inl ⟨by rfl, ?_⟩) (by assumption) ?_
                    rotate_left
                    · intro w hSw; (try dsimp only at hSw); go_simp; (try with_reducible rfl)
                    simp only [Act.put, List.setIfInBounds_toArray, List.set_cons_zero, List.set_cons_succ]
                    refine wpAnyH_ready (rs := [10]) (by kernel_rfl) (by simp) ?_
                    refine AllReadyH.cons (o := ⟨some 70, _, _, _, _, _⟩) rfl (fun K hK => ?_) AllReadyH.nil
                    go_simp
                    refine (HOW.out).mono ?_
                    rintro e w6 ⟨rfl, hb6⟩
                    have HB6 : Below wr.heap.size wr w6 := (Below.refl _ wr).drew.trans hb6
                    have hS6 := HSB.out w6 HB6
                    go_wp2_with fail
                    refine hK.out _ _ hS6 (fun hHeld => ?_)
                    clear hK K
                    try simp only [Act.put, List.setIfInBounds_toArray, List.set_cons_zero, List.set_cons_succ]
                    refine wpAnyH_take (i := 11) (oi := ⟨some 71, _, _, _, _, _⟩) (v := ?_) rfl (by kernel_rfl) (by kernel_rfl) (by kernel_rfl) (fun _ _ _ h => h) (Or.inl ⟨by rfl, ?_⟩) (by assumption) ?_
                    rotate_left
                    · intro w hSw; (try dsimp only at hSw); go_simp; (try with_reducible rfl)
                    simp only [Act.put, List.setIfInBounds_toArray, List.set_cons_zero, List.set_cons_succ]
                    refine wpAnyH_done (by kernel_rfl) ?_ _
                    have HAFT : Hid (Calls Tryd.prog 44 #[.agg #[.slice k.va m.vars.length k.vc, .slice k.aa m.arrs.length k.ac, .slice (some ⟨bi, oi, none⟩) n k.lc], aggI x, .slice pa 14 pc] w6.drew (RowN (rowB (aftM (secN m.vars) (secN m.arrs) x mj)) w6.drew)) := by
                      have h9 := sAft_one m k x mj pa pc w6.drew (HCL.out.below HB6.drew) HD.out (HIT.out j x HX.out) HGJ.out.1 H14.out (HPB.out.wide (fun q hq => HB6.drew.block q hq) fun q hq => Nat.lt_of_lt_of_le hq HB6.size)
                      unfold aggC at h9
                      rw [HN.out, HLA.out] at h9
                      exact h9
                    clear hb6 hS6 x0 x1 x2
                    go_wp2_with fail
                    refine wp_region_held_drew (S := fun v => v.cell? ⟨w.heap.size, 0, none⟩ = some (.slice k.va m.vars.length k.vc) ∧ v.cell? ⟨w.heap.size, 1, none⟩ = some (.slice k.aa m.arrs.length k.ac) ∧ v.cell? ⟨w.heap.size, 2, none⟩ = some (.slice (some ⟨bi, oi, none⟩) n k.lc) ∧ v.cell? ⟨bi, oi + j * 5, none⟩ = some (.int .i64 x.op) ∧ v.cell? ⟨bi, oi + j * 5 + 1, none⟩ = some (.int .i64 x.fa) ∧ v.cell? ⟨bi, oi + j * 5 + 2, none⟩ = some (.int .i64 x.fb) ∧ v.cell? ⟨bi, oi + j * 5 + 3, none⟩ = some (.int .i64 x.fc) ∧ v.cell? ⟨bi, oi + j * 5 + 4, none⟩ = some (.int .i64 x.fd) ∧ v.cell? ⟨tb, tO + j, none⟩ = some (.slice pa 14 pc)) (by kernel_rfl) (HSB.out w6.drew HB6.drew) (fun hHeld => ?_)
                    refine wpAnyH_take (i := 0) (oi := ⟨some 72, _, _, _, _, _⟩) (v := ?_) rfl (by kernel_rfl) (by kernel_rfl) (by kernel_rfl) (fun _ _ _ h => h) (Or.inl ⟨by rfl, ?_⟩) (by assumption) ?_
                    rotate_left
                    · intro w hSw; (try dsimp only at hSw); go_simp; (try with_reducible rfl)
                    simp only [Act.put, List.setIfInBounds_toArray, List.set_cons_zero, List.set_cons_succ]
                    refine wpAnyH_take (i := 1) (oi := ⟨some 73, _, _, _, _, _⟩) (v := ?_) rfl (by kernel_rfl) (by kernel_rfl) (by kernel_rfl) (fun _ _ _ h => h) (Or.inl ⟨by rfl, ?_⟩) (by assumption) ?_
                    rotate_left
                    · intro w hSw; (try dsimp only at hSw); go_simp; (try with_reducible rfl)
                    simp only [Act.put, List.setIfInBounds_toArray, List.set_cons_zero, List.set_cons_succ]
                    refine wpAnyH_take (i := 2) (oi := ⟨some 74, _, _, _, _, _⟩) (v := ?_) rfl (by kernel_rfl) (by kernel_rfl) (by kernel_rfl) (fun _ _ _ h => h) (Or.inl ⟨by rfl, ?_⟩) (by assumption) ?_
                    rotate_left
                    · intro w hSw; (try dsimp only at hSw); go_simp; (try with_reducible rfl)
                    simp only [Act.put, List.setIfInBounds_toArray, List.set_cons_zero, List.set_cons_succ]
                    refine wpAnyH_take (i := 3) (oi := ⟨some 75, _, _, _, _, _⟩) (v := ?_) rfl (by kernel_rfl) (by kernel_rfl) (by kernel_rfl) (fun _ _ _ h => h) (Or.inl ⟨by rfl, ?_⟩) (by assumption) ?_
                    rotate_left
                    · intro w hSw; (try dsimp only at hSw); go_simp; (try with_reducible rfl)
                    simp only [Act.put, List.setIfInBounds_toArray, List.set_cons_zero, List.set_cons_succ]
                    refine wpAnyH_take (i := 4) (oi := ⟨some 76, _, _, _, _, _⟩) (v := ?_) rfl (by kernel_rfl) (by kernel_rfl) (by kernel_rfl) (fun _ _ _ h => h) (Or.inl ⟨by rfl, ?_⟩) (by assumption) ?_
                    rotate_left
                    · intro w hSw; (try dsimp only at hSw); go_simp; (try with_reducible rfl)
                    simp only [Act.put, List.setIfInBounds_toArray, List.set_cons_zero, List.set_cons_succ]
                    refine wpAnyH_take (i := 5) (oi := ⟨some 77, _, _, _, _, _⟩) (v := ?_) rfl (by kernel_rfl) (by kernel_rfl) (by kernel_rfl) (fun _ _ _ h => h) (Or.inl ⟨by rfl, ?_⟩) (by assumption) ?_
                    rotate_left
                    · intro w hSw; (try dsimp only at hSw); go_simp; (try with_reducible rfl)
                    simp only [Act.put, List.setIfInBounds_toArray, List.set_cons_zero, List.set_cons_succ]
                    refine wpAnyH_take (i := 6) (oi := ⟨some 78, _, _, _, _, _⟩) (v := ?_) rfl (by kernel_rfl) (by kernel_rfl) (by kernel_rfl) (fun _ _ _ h => h) (Or.inl ⟨by rfl, ?_⟩) (by assumption) ?_
                    rotate_left
                    · intro w hSw; (try dsimp only at hSw); go_simp; (try with_reducible rfl)
                    simp only [Act.put, List.setIfInBounds_toArray, List.set_cons_zero, List.set_cons_succ]
                    refine wpAnyH_take (i := 7) (oi := ⟨some 79, _, _, _, _, _⟩) (v := ?_) rfl (by kernel_rfl) (by kernel_rfl) (by kernel_rfl) (fun _ _ _ h => h) (Or.inl ⟨by rfl, ?_⟩) (by assumption) ?_
                    rotate_left
                    · intro w hSw; (try dsimp only at hSw); go_simp; (try with_reducible rfl)
                    simp only [Act.put, List.setIfInBounds_toArray, List.set_cons_zero, List.set_cons_succ]
                    refine wpAnyH_take (i := 8) (oi := ⟨some 80, _, _, _, _, _⟩) (v := ?_) rfl (by kernel_rfl) (by kernel_rfl) (by kernel_rfl) (fun _ _ _ h => h) (Or.inl ⟨by rfl, ?_⟩) (by assumption) ?_
                    rotate_left
                    · intro w hSw; (try dsimp only at hSw); go_simp; (try with_reducible rfl)
                    simp only [Act.put, List.setIfInBounds_toArray, List.set_cons_zero, List.set_cons_succ]
                    refine wpAnyH_take (i := 9) (oi := ⟨some 81, _, _, _, _, _⟩) (v := ?_) rfl (by kernel_rfl) (by kernel_rfl) (by kernel_rfl) (fun _ _ _ h => h) (Or.inl ⟨by rfl, ?_⟩) (by assumption) ?_
                    rotate_left
                    · intro w hSw; (try dsimp only at hSw); go_simp; (try with_reducible rfl)
                    simp only [Act.put, List.setIfInBounds_toArray, List.set_cons_zero, List.set_cons_succ]
                    refine wpAnyH_ready (rs := [10]) (by kernel_rfl) (by simp) ?_
                    refine AllReadyH.cons (o := ⟨some 82, _, _, _, _, _⟩) rfl (fun K hK => ?_) AllReadyH.nil
                    go_simp
                    refine (HAFT.out).mono ?_
                    rintro e w7 ⟨pt, pc7, rfl, hto, htl, hb7⟩
                    have HB7 : Below wr.heap.size wr w7 := HB6.drew.trans (hb7.mono HB6.drew.size)
                    have hS6 := HSB.out w7 HB7
                    go_wp2_with fail
                    refine hK.out _ _ hS6 (fun hHeld => ?_)
                    clear hK K
                    try simp only [Act.put, List.setIfInBounds_toArray, List.set_cons_zero, List.set_cons_succ]
                    refine wpAnyH_take (i := 11) (oi := ⟨some 7, _, _, _, _, _⟩) (v := ?_) rfl (by kernel_rfl) (by kernel_rfl) (by kernel_rfl) (fun _ _ _ h => h) (Or.inl ⟨by rfl, ?_⟩) (by assumption) ?_
                    rotate_left
                    · intro w hSw; (try dsimp only at hSw); go_simp; (try with_reducible rfl)
                    simp only [Act.put, List.setIfInBounds_toArray, List.set_cons_zero, List.set_cons_succ]
                    refine wpAnyH_done (by kernel_rfl) ?_ _
                    have y0 := hS6.1
                    have y1 := hS6.2.1
                    have y2 := hS6.2.2.1
                    have HL7 : Hid (Below W.heap.size W w7) := HWR.out.trans (HB7.mono HWR.out.size)
                    have HN7 : Hid (Calls Tryd.prog 45 #[.agg #[.slice k.va m.vars.length k.vc, .slice k.aa m.arrs.length k.ac, .slice (some ⟨bi, oi, none⟩) n k.lc], .int .i64 (j : Int)] w7 (IntsNew (folS x j) w7)) := by
                      have h9 := l8Next_one m k j x w7 (H.out w7 HL7.out).2.1 HX.out (by omega)
                      unfold aggC at h9
                      rw [HN.out, HLA.out] at h9
                      exact h9
                    have HTO := Lib.hid hto
                    have HTL := Lib.hid htl
                    have HB37 : Hid (Below w3.heap.size w3 w7) := HBR.out.trans (HB7.mono HBR.out.size)
                    clear hto htl hb7 hS6 hHeld HB7 HB6 HAFT HOW HSB
                    go_wp2_with fail
                    refine HN7.out.mono ?_
                    rintro e w8 ⟨na, nc, rfl, hon, hb8⟩
                    have HL8 : Hid (Below W.heap.size W w8) := HL7.out.trans (hb8.mono HL7.out.size)
                    have HB38 : Hid (Below w3.heap.size w3 w8) := HB37.out.trans (hb8.mono HB37.out.size)
                    obtain ⟨_, _, _, hbat⟩ := HTO.out.bat
                    have HBA : Hid (BAt w8 (fun b => b < w8.heap.size) (rowB (aftM (secN m.vars) (secN m.arrs) x mj)) pt) := hbat.wide (fun b hb => hb8.block b hb.2) fun b hb => Nat.lt_of_lt_of_le hb.2 hb8.size
                    have HNX : Hid (∀ (s : Nat) (z : Int), (folS x j)[s]? = some z → ∃ g, na = some ⟨g, 0, none⟩ ∧ w8.cell? ⟨g, s, none⟩ = some (.int .i64 z)) := fun s z hz => by
                      have hs := (List.getElem?_eq_some_iff.1 hz).1
                      rcases hon.2 with ⟨_, h2⟩ | ⟨g, cp, cur, e1, e2, e3, e4⟩
                      · omega
                      · cases e1
                        have h' : w8.ownsRow w7.heap.size 3 1 (.slice (some ⟨g, 0, none⟩) (folS x j).length nc) (folS x j).length ((folS x j).map (Value.int .i64)) := hon
                        refine ⟨g, rfl, ?_⟩
                        rw [h'.cellAt s (by omega)]
                        simp [hz]
                    have HBS : Hid (BBs w8 (fun b => b < w8.heap.size) (ms.map rowB) (some ⟨tb, tO, none⟩)) := by rw [HRB.out]; exact (H.out w8 HL8.out).2.2
                    obtain ⟨ns, hns⟩ : ∃ ns, folS x j = ns := ⟨_, rfl⟩
                    have HNS := Lib.hid hns
                    have hnl : ns.length ≤ 2 := by rw [← hns]; exact folS_len x j
                    rw [hns] at HNX ⊢
                    obtain ⟨nl, hnl'⟩ : ∃ nl, ns.length = nl := ⟨_, rfl⟩
                    have HNLN := Lib.hid hnl'
                    rw [hnl'] at hnl ⊢
                    clear hnl' hns hon hb8 hbat HN7 HTO HL7 HB37 y0 y1 y2 HCL HPB HBX
                    go_wp2_with fail
                    go_loopw [9] (fun i wr => ∃ s : Nat, s ≤ nl ∧ i = .int .i64 (s : Int) ∧ Hid (CvN (aftM (secN m.vars) (secN m.arrs) x mj) ms ns s) ∧ wr = w8) (fun i _ => nl - (intOf i).toNat)
                    case atStart => exact ⟨0, Nat.zero_le _, rfl, (fun i t q hi => absurd hi (Nat.not_lt_zero _) : CvN _ ms ns 0), by first | rfl | trivial⟩
                    case round =>
                      obtain ⟨s, hs, rfl, HST, rfl⟩ := hrel
                      by_cases hlt : s < nl
                      · obtain ⟨z, hz⟩ : ∃ z, ns[s]? = some z := ⟨ns[s]'(by rw [HNLN.out]; exact hlt), List.getElem?_eq_getElem _⟩
                        obtain ⟨t, hzt, htf⟩ := (folS_mem HO.out HX.out z).1 (by rw [HNS.out]; exact List.mem_of_getElem? hz)
                        subst hzt
                        have htn : t < n := by rw [← HN.out]; exact HO.out.fol HX.out htf
                        obtain ⟨gn, rfl, hgc⟩ := HNX.out s _ hz
                        obtain ⟨mq, hmq⟩ : ∃ mq, ms[t]? = some mq := ⟨ms[t]'(by rw [HML.out]; exact htn), List.getElem?_eq_getElem _⟩
                        obtain ⟨tb', tO', ja, jc, ha, htb4, hjc, hjb⟩ := HBS.out.2 t (rowB mq) (by rw [List.getElem?_map, hmq]; rfl)
                        cases ha
                        obtain ⟨lj, hlj⟩ : ∃ lj, (rowB mq).length = lj := ⟨_, rfl⟩
                        have hit := HIT.out j x HX.out
                        have HBE := Lib.hid (sBel_one (aftM (secN m.vars) (secN m.arrs) x mj) mq pt ja pc7 lj jc _ HBA.out hjb (aftM_lt hit HGJ.out.1) (aftM_14 hit HGJ.out.1 H14.out) (HGM.out t mq hmq) hlj)
                        rw [hlj] at hjc
                        have HZ := Lib.hid hz
                        have HTF := Lib.hid htf
                        have HMQ := Lib.hid hmq
                        clear hz htf hmq hjb hlj hit
                        go_wp2_with fail
                        refine HBE.out.mono ?_
                        rintro e w9 ⟨b, rfl, hbi, rfl⟩
                        cases b
                        case false =>
                          have HF : Hid (AnsC m rs w (.returned (.bool false)) w9) := AnsC.no (fun e => by
                            have h1 := e.cov.cov j x mj t mq (List.getElem?_eq_some_iff.1 HX.out).1 HX.out (by rw [HMS.out]; exact HMJ.out) HM0.out HTF.out (by rw [HMS.out]; exact HMQ.out)
                            have h2 := hbi.2 h1
                            cases h2) (HB.out.trans (HL8.out.mono hz0))
                          clear hbi
                          go_wp2_with fail
                          go_ret
                          exact HF.out
                        case true =>
                          have HST2 : Hid (CvN (aftM (secN m.vars) (secN m.arrs) x mj) ms ns (s + 1)) := HST.out.succ HZ.out HMQ.out (hbi.1 rfl)
                          clear hbi
                          go_wp2_with fail
                          go_roundw
                          case rel => exact ⟨s + 1, by omega, by go_num, HST2, trivial⟩
                          case measure => simp [intOf]; omega
                      · obtain rfl : nl = s := by omega
                        have HREL : Hid (CsL (secN m.vars) (secN m.arrs) m.list ms n w3 (.int .i64 ((j : Int) + 1)) wr) := ⟨j + 1, hjn, by go_num, HNL.out.succ HX.out HMJ.out (HC.out.trans HC0.out), HCO.out.succ HX.out HMJ.out (fun _ t q ht hq => by
                          obtain ⟨i, hi⟩ := List.mem_iff_getElem?.1 ((folS_mem HO.out HX.out (t : Int)).2 ⟨t, rfl, ht⟩)
                          rw [HNS.out] at hi
                          exact HST.out i t q (by rw [← HNLN.out]; exact (List.getElem?_eq_some_iff.1 hi).1) hi hq), HB38.out⟩
                        go_wp2_with fail
                        go_roundw
                        case rel => exact HREL.out
                        case measure => simp [intOf]; omega
                  · have hcb : (c != 0) = true := by simpa using hc0
                    have HF0 : Hid (¬ CkT m rs) := fun e => hc0 (HC.out.symm.trans (e.cov.lk j x mj (List.getElem?_eq_some_iff.1 HX.out).1 HX.out (by rw [HMS.out]; exact HMJ.out)))
                    clear hc0
                    go_wp2_with fail
                    refine wp_region_held_drew (S := fun v => v.cell? ⟨w.heap.size, 0, none⟩ = some (.slice k.va m.vars.length k.vc) ∧ v.cell? ⟨w.heap.size, 1, none⟩ = some (.slice k.aa m.arrs.length k.ac) ∧ v.cell? ⟨w.heap.size, 2, none⟩ = some (.slice (some ⟨bi, oi, none⟩) n k.lc) ∧ v.cell? ⟨bi, oi + j * 5, none⟩ = some (.int .i64 x.op) ∧ v.cell? ⟨bi, oi + j * 5 + 1, none⟩ = some (.int .i64 x.fa) ∧ v.cell? ⟨bi, oi + j * 5 + 2, none⟩ = some (.int .i64 x.fb) ∧ v.cell? ⟨bi, oi + j * 5 + 3, none⟩ = some (.int .i64 x.fc) ∧ v.cell? ⟨bi, oi + j * 5 + 4, none⟩ = some (.int .i64 x.fd) ∧ v.cell? ⟨tb, tO + j, none⟩ = some (.slice pa 14 pc)) (by kernel_rfl) (HSB.out wr.drew (Below.refl _ wr).drew) (fun hHeld => ?_)
                    refine wpAnyH_take (i := 0) (oi := ⟨some 60, _, _, _, _, _⟩) (v := ?_) rfl (by kernel_rfl) (by kernel_rfl) (by kernel_rfl) (fun _ _ _ h => h) (Or.inl ⟨by rfl, ?_⟩) (by assumption) ?_
                    rotate_left
                    · intro w hSw; (try dsimp only at hSw); go_simp; (try with_reducible rfl)
                    simp only [Act.put, List.setIfInBounds_toArray, List.set_cons_zero, List.set_cons_succ]
                    refine wpAnyH_take (i := 1) (oi := ⟨some 61, _, _, _, _, _⟩) (v := ?_) rfl (by kernel_rfl) (by kernel_rfl) (by kernel_rfl) (fun _ _ _ h => h) (Or.inl ⟨by rfl, ?_⟩) (by assumption) ?_
                    rotate_left
                    · intro w hSw; (try dsimp only at hSw); go_simp; (try with_reducible rfl)
                    simp only [Act.put, List.setIfInBounds_toArray, List.set_cons_zero, List.set_cons_succ]
                    refine wpAnyH_take (i := 2) (oi := ⟨some 62, _, _, _, _, _⟩) (v := ?_) rfl (by kernel_rfl) (by kernel_rfl) (by kernel_rfl) (fun _ _ _ h => h) (Or.inl ⟨by rfl, ?_⟩) (by assumption) ?_
                    rotate_left
                    · intro w hSw; (try dsimp only at hSw); go_simp; (try with_reducible rfl)
                    simp only [Act.put, List.setIfInBounds_toArray, List.set_cons_zero, List.set_cons_succ]
                    refine wpAnyH_take (i := 3) (oi := ⟨some 63, _, _, _, _, _⟩) (v := ?_) rfl (by kernel_rfl) (by kernel_rfl) (by kernel_rfl) (fun _ _ _ h => h) (Or.inl ⟨by rfl, ?_⟩) (by assumption) ?_
                    rotate_left
                    · intro w hSw; (try dsimp only at hSw); go_simp; (try with_reducible rfl)
                    simp only [Act.put, List.setIfInBounds_toArray, List.set_cons_zero, List.set_cons_succ]
                    refine wpAnyH_take (i := 4) (oi := ⟨some 64, _, _, _, _, _⟩) (v := ?_) rfl (by kernel_rfl) (by kernel_rfl) (by kernel_rfl) (fun _ _ _ h => h) (Or.inl ⟨by rfl, ?_⟩) (by assumption) ?_
                    rotate_left
                    · intro w hSw; (try dsimp only at hSw); go_simp; (try with_reducible rfl)
                    simp only [Act.put, List.setIfInBounds_toArray, List.set_cons_zero, List.set_cons_succ]
                    refine wpAnyH_take (i := 5) (oi := ⟨some 65, _, _, _, _, _⟩) (v := ?_) rfl (by kernel_rfl) (by kernel_rfl) (by kernel_rfl) (fun _ _ _ h => h) (Or.inl ⟨by rfl, ?_⟩) (by assumption) ?_
                    rotate_left
                    · intro w hSw; (try dsimp only at hSw); go_simp; (try with_reducible rfl)
                    simp only [Act.put, List.setIfInBounds_toArray, List.set_cons_zero, List.set_cons_succ]
                    refine wpAnyH_take (i := 6) (oi := ⟨some 66, _, _, _, _, _⟩) (v := ?_) rfl (by kernel_rfl) (by kernel_rfl) (by kernel_rfl) (fun _ _ _ h => h) (Or.inl ⟨by rfl, ?_⟩) (by assumption) ?_
                    rotate_left
                    · intro w hSw; (try dsimp only at hSw); go_simp; (try with_reducible rfl)
                    simp only [Act.put, List.setIfInBounds_toArray, List.set_cons_zero, List.set_cons_succ]
                    refine wpAnyH_take (i := 7) (oi := ⟨some 67, _, _, _, _, _⟩) (v := ?_) rfl (by kernel_rfl) (by kernel_rfl) (by kernel_rfl) (fun _ _ _ h => h) (Or.inl ⟨by rfl, ?_⟩) (by assumption) ?_
                    rotate_left
                    · intro w hSw; (try dsimp only at hSw); go_simp; (try with_reducible rfl)
                    simp only [Act.put, List.setIfInBounds_toArray, List.set_cons_zero, List.set_cons_succ]
                    refine wpAnyH_take (i := 8) (oi := ⟨some 68, _, _, _, _, _⟩) (v := ?_) rfl (by kernel_rfl) (by kernel_rfl) (by kernel_rfl) (fun _ _ _ h => h) (Or.inl ⟨by rfl, ?_⟩) (by assumption) ?_
                    rotate_left
                    · intro w hSw; (try dsimp only at hSw); go_simp; (try with_reducible rfl)
                    simp only [Act.put, List.setIfInBounds_toArray, List.set_cons_zero, List.set_cons_succ]
                    refine wpAnyH_take (i := 9) (oi := ⟨some 69, _, _, _, _, _⟩) (v := ?_) rfl (by kernel_rfl) (by kernel_rfl) (by kernel_rfl) (fun _ _ _ h => h) (Or.inl ⟨by rfl, ?_⟩) (by assumption) ?_
                    rotate_left
                    · intro w hSw; (try dsimp only at hSw); go_simp; (try with_reducible rfl)
                    simp only [Act.put, List.setIfInBounds_toArray, List.set_cons_zero, List.set_cons_succ]
                    refine wpAnyH_ready (rs := [10]) (by kernel_rfl) (by simp) ?_
                    refine AllReadyH.cons (o := ⟨some 70, _, _, _, _, _⟩) rfl (fun K hK => ?_) AllReadyH.nil
                    go_simp
                    refine (HOW.out).mono ?_
                    rintro e w6 ⟨rfl, hb6⟩
                    have HB6 : Below wr.heap.size wr w6 := (Below.refl _ wr).drew.trans hb6
                    have hS6 := HSB.out w6 HB6
                    go_wp2_with fail
                    refine hK.out _ _ hS6 (fun hHeld => ?_)
                    clear hK K
                    try simp only [Act.put, List.setIfInBounds_toArray, List.set_cons_zero, List.set_cons_succ]
                    refine wpAnyH_take (i := 11) (oi := ⟨some 71, _, _, _, _, _⟩) (v := ?_) rfl (by kernel_rfl) (by kernel_rfl) (by kernel_rfl) (fun _ _ _ h => h) (Or.inl ⟨by rfl, ?_⟩) (by assumption) ?_
                    rotate_left
                    · intro w hSw; (try dsimp only at hSw); go_simp; (try with_reducible rfl)
                    simp only [Act.put, List.setIfInBounds_toArray, List.set_cons_zero, List.set_cons_succ]
                    refine wpAnyH_done (by kernel_rfl) ?_ _
                    have HF : Hid (AnsC m rs w (.returned (.bool false)) w6) := AnsC.no HF0.out (HB.out.trans ((HWR.out.trans (HB6.mono HWR.out.size)).mono hz0))
                    clear HB6 hS6 hb6
                    go_wp2_with fail
                    go_ret
                    exact HF.out
              · obtain rfl : n = j := by omega
                have HF : Hid (AnsC m rs w (.returned (.bool true)) wr) := AnsC.yes ⟨HQ.out, HTN.out.trans HN.out.symm, HROWS.out, ⟨fun q hq => by
                  rw [masks_at HR.out] at hq
                  cases hq
                  exact fun e => HR0.out ((mkR_zero (HROWS.out r (List.mem_of_getElem? HR.out))).1 e), by rw [HMS.out, HN.out]; exact HNL.out, by rw [HMS.out, HN.out]; exact HCO.out⟩⟩ (HB.out.trans (HWR.out.mono hz0))
                clear HNL HCO hbs hbx hcl
                go_wp2_with fail
                go_ret
                exact HF.out
    · have hneq : ((tn : Int) != (n : Int)) = true := by simp; omega
      have HF : Hid (AnsC m rs w (.returned (.bool false)) w2) := AnsC.no (fun e => hne (HTN.out.symm.trans (e.len.trans HN.out))) HB2.out
      clear hne
      go_wp2_with fail
      go_ret
      exact HF.out

end Go.Proofs.YtmodonligaejhaaDoor

namespace Go.Proofs.YtmodonligaejhaaDoor
open Go.RowKit
set_option linter.unusedVariables false

set_option maxRecDepth 100000 in
set_option maxHeartbeats 8000000 in
theorem law_FnExactCheckTaint (m : Cd) (k : CK) (rs : List (List Bool)) (a : Option Addr) (c : Nat) (w : World) (hT : TblF w) (hg : 0 < w.heap.size) (h : CL w m k) (hr : BBs w (fun b => b < w.heap.size) rs a) :
    Calls Tryd.prog 5 #[aggC m k, .slice a rs.length c] w (YN true w) := by
  obtain ⟨n, hn⟩ : ∃ n, rs.length = n := ⟨_, rfl⟩
  have HN := Lib.hid hn
  have HM : Hid (∀ v, Below w.heap.size w v → CL v m k ∧ BBs v (fun b => b < v.heap.size) rs a) := fun v hv => ⟨h.below hv, hr.below hv⟩
  have HT : Hid (∀ v, Below w.heap.size w v → TblF v) := fun v hv => hT.below hv hg
  rw [hn]
  clear h hT hg hr hn
  have HB := Lib.hid ((Below.refl w.heap.size w).alloc (Nat.le_refl _) (.cells (arrC m k) 25))
  have HX := Lib.hid (BoxC.new w m k 25)
  go_enter Tryd.func5, Tryd.ntmps5
  go_wp2_with fail
  obtain ⟨W, hW⟩ : ∃ W, (w.alloc (.cells (arrC m k) 25)) = W := ⟨_, rfl⟩
  unfold arrC at hW
  rw [hW] at HB HX ⊢
  clear hW
  refine (szC_one m k 1048576 W (HM.out _ HB.out).1 (by omega) (by omega)).mono ?_
  rintro f w2 ⟨v1, rfl, hv1, hs1, hb1⟩
  have HS1 := Lib.hid hs1
  have HB2 := Lib.hid (HB.out.trans (hb1.mono HB.out.size))
  have HX2 := Lib.hid (HX.out.below hb1 HX.out.lt)
  clear hs1 hb1 HX
  by_cases n1 : v1 < 0
  · go_wp2_with fail
    go_ret
    exact YN.of rfl HB2.out
  have HMS : Hid (CSm m) := HS1.out (by omega)
  have HS : Hid (∀ v, Below w2.heap.size w2 v → v.cell? ⟨w.heap.size, 0, none⟩ = some (.slice k.va m.vars.length k.vc) ∧ v.cell? ⟨w.heap.size, 1, none⟩ = some (.slice k.aa m.arrs.length k.ac) ∧ v.cell? ⟨w.heap.size, 2, none⟩ = some (.slice k.la m.list.length k.lc)) := fun v hv => by
    have bx := HX2.out.below hv HX2.out.lt
    exact ⟨bx.c0, bx.c1, bx.c2⟩
  have HW : Hid (∀ v, Below w2.heap.size w2 v → CL v m k ∧ BBs v (fun b => b < v.heap.size) rs a ∧ TblF v) := fun v hv => by
    have hb := HB2.out.trans (hv.mono HB2.out.size)
    exact ⟨(HM.out _ hb).1, (HM.out _ hb).2, HT.out _ hb⟩
  clear HS1 HM HT
  go_wp2_with fail
  refine (szBB_one rs a n c v1 w2 (HW.out w2 (Below.refl _ _)).2.1 HN.out (by omega) (by omega)).mono ?_
  rintro f w2' ⟨v2, rfl, hv2, hs2, rfl⟩
  have HS2 := Lib.hid hs2
  clear hs2
  by_cases n2 : v2 < 0
  · go_wp2_with fail
    go_ret
    exact YN.of rfl HB2.out
  have HBM : Hid (BBm rs) := HS2.out (by omega)
  clear HS2
  obtain ⟨w2, hw2⟩ : ∃ w2, w2' = w2 := ⟨_, rfl⟩
  rw [hw2] at HB2 HX2 HS HW ⊢
  clear hw2
  obtain ⟨x0, x1, x2⟩ := HS.out w2 (Below.refl _ _)
  go_wp2_with fail
  refine (toC_one m k w2 (HW.out _ (Below.refl _ _)).1 HMS.out).mono ?_
  rintro f w3 ⟨k1, rfl, hm1, hb3⟩
  have HM1 := Lib.hid hm1
  have HB3 := Lib.hid hb3
  clear hm1 hb3 x0 x1 x2
  go_wp2_with fail
  refine (toBB_one rs a n c w3 (HW.out _ HB3.out).2.1 HN.out HBM.out).mono ?_
  rintro f w4 ⟨a4, c4, rfl, h4, hb4⟩
  have H4 := Lib.hid h4
  have HM4 := Lib.hid (HM1.out.below hb4)
  have HB4 := Lib.hid (HB3.out.trans (hb4.mono HB3.out.size))
  clear h4 hb4 HM1 HB3
  go_wp2_with fail
  refine (sCt_one m k1 rs a4 n c4 w4 HM4.out H4.out HN.out).mono ?_
  rintro f w5 ⟨q, rfl, hq, hb5⟩
  have HQ := Lib.hid hq
  have HB5 := Lib.hid (HB4.out.trans (hb5.mono HB4.out.size))
  obtain ⟨x0, x1, x2⟩ := HS.out w5 HB5.out
  clear hb5 HM4 H4 HB4 hq
  go_wp2_with fail
  refine (toC_one m k w5 (HW.out _ HB5.out).1 HMS.out).mono ?_
  rintro f w6 ⟨k2, rfl, hm2, hb6⟩
  have HX6 : Hid (BoxC (w6.alloc (.cells (arrC m k2) 30)) w6.heap.size m k2) := BoxC.new _ _ _ _
  have HB6 : Hid (Below w2.heap.size w2 (w6.alloc (.cells (arrC m k2) 30))) := (HB5.out.trans (hb6.mono HB5.out.size)).alloc (Nat.le_trans HB5.out.size hb6.size) _
  have HC6 : Hid (CL (w6.alloc (.cells (arrC m k2) 30)) m k2) := hm2.below ((Below.refl _ _).alloc (Nat.le_refl _) _)
  clear hm2 hb6 x0 x1 x2 HB5
  go_wp2_with fail
  obtain ⟨u6, hu6⟩ : ∃ u6, w6.alloc (.cells (arrC m k2) 30) = u6 := ⟨_, rfl⟩
  rw [hu6] at HX6 HB6 HC6
  unfold arrC at hu6
  rw [hu6]
  clear hu6
  refine (toBB_one rs a n c u6 (HW.out _ HB6.out).2.1 HN.out HBM.out).mono ?_
  rintro f w7 ⟨a7, c7, rfl, h7, hb7⟩
  have H7 := Lib.hid h7
  have HX7 := Lib.hid (HX6.out.below hb7 HX6.out.lt)
  have HC7 := Lib.hid (HC6.out.below hb7)
  have HB7 := Lib.hid (HB6.out.trans (hb7.mono HB6.out.size))
  have g0 := HX7.out.c0
  have g1 := HX7.out.c1
  have g2 := HX7.out.c2
  clear h7 hb7 HX6 HC6 HB6
  go_wp2_with fail
  refine (iCt_one m k2 rs a7 n c7 w7 HC7.out (HW.out _ HB7.out).2.2 H7.out HN.out).mono ?_
  rintro f u8 ⟨q', rfl, hq', hb8⟩
  obtain rfl : q = q' := Bool.eq_iff_iff.2 (HQ.out.trans hq'.symm)
  have HB8 := Lib.hid (HB7.out.trans (hb8.mono HB7.out.size))
  have HX8 := Lib.hid (HX7.out.below hb8 HX7.out.lt)
  have HC8 := Lib.hid (HC7.out.below hb8)
  have H8 := Lib.hid (H7.out.below hb8)
  obtain ⟨f0, f1, f2⟩ := HS.out u8 HB8.out
  have q0 := HX8.out.c0
  have q1 := HX8.out.c1
  have q2 := HX8.out.c2
  have HSQ : Hid (∀ v, Below u8.heap.size u8 v → v.cell? ⟨w.heap.size, 0, none⟩ = some (.slice k.va m.vars.length k.vc) ∧ v.cell? ⟨w.heap.size, 1, none⟩ = some (.slice k.aa m.arrs.length k.ac) ∧ v.cell? ⟨w.heap.size, 2, none⟩ = some (.slice k.la m.list.length k.lc) ∧ v.cell? ⟨w6.heap.size, 0, none⟩ = some (.slice k2.va m.vars.length k2.vc) ∧ v.cell? ⟨w6.heap.size, 1, none⟩ = some (.slice k2.aa m.arrs.length k2.ac) ∧ v.cell? ⟨w6.heap.size, 2, none⟩ = some (.slice k2.la m.list.length k2.lc)) := fun v hv => by
    obtain ⟨f0, f1, f2⟩ := HS.out v (HB8.out.trans (hv.mono HB8.out.size))
    have h := HX8.out.below hv HX8.out.lt
    exact ⟨f0, f1, f2, h.c0, h.c1, h.c2⟩
  have HWQ : Hid (∀ v, Below u8.heap.size u8 v → CL v m k) := fun v hv => (HW.out _ (HB8.out.trans (hv.mono HB8.out.size))).1
  have HBD8 : Hid (Below u8.heap.size u8 u8.drew) := (Below.refl _ _).drew
  clear hb8 HX7 HC7 HB7 H7 g0 g1 g2 HQ hq'
  cases q
  all_goals
    go_wp2_with fail
    go_region_held3 (fun v => v.cell? ⟨w.heap.size, 0, none⟩ = some (.slice k.va m.vars.length k.vc) ∧ v.cell? ⟨w.heap.size, 1, none⟩ = some (.slice k.aa m.arrs.length k.ac) ∧ v.cell? ⟨w.heap.size, 2, none⟩ = some (.slice k.la m.list.length k.lc) ∧ v.cell? ⟨w6.heap.size, 0, none⟩ = some (.slice k2.va m.vars.length k2.vc) ∧ v.cell? ⟨w6.heap.size, 1, none⟩ = some (.slice k2.aa m.arrs.length k2.ac) ∧ v.cell? ⟨w6.heap.size, 2, none⟩ = some (.slice k2.la m.list.length k2.lc)) (first | assumption | exact ⟨f0, f1, f2, q0, q1, q2⟩)
      (first
      | (go_at_call 9; (with_reducible refine (toC_one m k u8.drew (HWQ.out _ HBD8.out) HMS.out).mono ?_); rintro f u9 ⟨k3, rfl, hm3, hA⟩; have hA2 := HBD8.out.trans hA; have hS1 := HSQ.out _ hA2)
      | (go_at_call 11; (with_reducible refine (eqC_one m m k2 k3 u9 (HC8.out.below hA2) hm3).mono ?_); rintro f u10 ⟨rfl, hE⟩; rw [show decide (m = m) = true from decide_eq_true rfl]; have hB10 := hA2.trans (hE.mono hA2.size); have hS2 := HSQ.out _ hB10)
      | fail)
    have HB10 := Lib.hid (HB8.out.trans (hB10.mono HB8.out.size))
    have H10 := Lib.hid (H8.out.below hB10)
    clear hB10 hA hA2 hE hS1 hS2 q0 q1 q2 f0 f1 f2 HSQ HC8 HWQ H8
    go_wp2_with fail
    refine (toBB_one rs a n c u10 (HW.out _ HB10.out).2.1 HN.out HBM.out).mono ?_
    rintro f u11 ⟨a11, c11, rfl, h11, hb11⟩
    have H11 := Lib.hid h11
    have H711 := Lib.hid (H10.out.below hb11)
    have HB11 := Lib.hid (HB10.out.trans (hb11.mono HB10.out.size))
    clear h11 hb11 HB10 H10
    go_wp2_with fail
    refine (eqBB_one rs rs a7 a11 n n c7 c11 u11 H711.out H11.out HN.out HN.out).mono ?_
    rintro f u12 ⟨rfl, hb12⟩
    rw [show decide (rs = rs) = true from decide_eq_true rfl]
    have HB12 := Lib.hid (HB11.out.trans (hb12.mono HB11.out.size))
    clear hb12
    go_wp2_with fail
    go_ret
    exact YN.of rfl (HB2.out.trans (HB12.out.mono HB2.out.size))

end Go.Proofs.YtmodonligaejhaaDoor

/- Registers that are numbered by their first uses: plain functions. -/
import Derived.Test.YtbifbmpflhdijaaDoorCoB
import Derived.Test.YtbifbmpflhdijaaDoorTnP
import Derived.RangeFuncNested
import Derived.RangeFuncBound
import Derived.RangeFuncCalls
import Derived.RangeFuncLeaves
import Derived.RangeFuncBox
import Derived.Shelf.Abstract
import Derived.Test.YtbifbmpflhdijaaDoorProg
import Derived.OwnWalkIn
import Derived.TacticsInMore
import Derived.LoopNIn
import Derived.LoopIn
import Derived.Shelf.RegionOpen
import Derived.WalkKit
import Derived.Test.YtbifbmpflhdijaaDoorRcI
import Derived.Test.YtbifbmpflhdijaaDoorCvI
import Derived.Deep.RegionHeld3
import Derived.Maps.OwnOps
import Derived.Maps.OwnSet
import Derived.Deep.RegionHeld
import Derived.OrdersIn
import Derived.TacticsIn
import Derived.Test.YtbifbmpflhdijaaDoorThI
import Derived.Test.YtbifbmpflhdijaaDoorThC
import Derived.Laws.EntriesVeiled
import Derived.Test.YtbifbmpflhdijaaDoorPaN
namespace Go.Proofs.YtbifbmpflhdijaaDoor
open Go.RowKit
set_option linter.unusedVariables false

theorem idx_new {ns : List Nat} {r : Nat} (h : r ∉ ns) : (ns ++ [r]).idxOf r = ns.length := by rw [List.idxOf_append, if_neg h]; simp
theorem idx_old {ns : List Nat} {r q : Nat} (h : q ∈ ns) : (ns ++ [r]).idxOf q = ns.idxOf q := by rw [List.idxOf_append, if_pos h]
/-- The registers that have been named, with r. -/
def addN (ns : List Nat) (r : Nat) : List Nat := if r ∈ ns then ns else ns ++ [r]
theorem addN_in {ns : List Nat} {r : Nat} (h : r ∈ ns) : addN ns r = ns := if_pos h
theorem addN_new {ns : List Nat} {r : Nat} (h : r ∉ ns) : addN ns r = ns ++ [r] := if_neg h
theorem addN_mem (ns : List Nat) (r : Nat) : r ∈ addN ns r := by
  by_cases h : r ∈ ns
  · rw [addN_in h]; exact h
  · rw [addN_new h]; simp
def setFd (x : Ins) (v : Int) (k : Nat) : Ins :=
  if k = 0 then ⟨x.op, v, x.fb, x.fc, x.fd⟩ else if k = 1 then ⟨x.op, x.fa, v, x.fc, x.fd⟩ else if k = 2 then ⟨x.op, x.fa, x.fb, v, x.fd⟩ else ⟨x.op, x.fa, x.fb, x.fc, v⟩
theorem setFd_op (x : Ins) (v : Int) (k : Nat) : (setFd x v k).op = x.op := by
  unfold setFd; split; rfl; split; rfl; split <;> rfl
theorem setFd_part (x : Ins) (v : Int) (k j : Nat) (hk : k < 4) (hj : j < 4) : (setFd x v k).part j = if k = j then v else x.part j := by
  obtain rfl | rfl | rfl | rfl : k = 0 ∨ k = 1 ∨ k = 2 ∨ k = 3 := by omega
  all_goals (obtain rfl | rfl | rfl | rfl : j = 0 ∨ j = 1 ∨ j = 2 ∨ j = 3 := by omega) <;> rfl
/-- One field of an instruction of operation p is renumbered. -/
def stK (p : Nat) (s : List Nat × Ins) (k : Nat) : List Nat × Ins :=
  if kdAt p k = 1 then (addN s.1 (s.2.part k).toNat, setFd s.2 (((addN s.1 (s.2.part k).toNat).idxOf (s.2.part k).toNat : Nat) : Int) k) else s
theorem stK_f {p : Nat} {s : List Nat × Ins} {k : Nat} (h : kdAt p k ≠ 1) : stK p s k = s := if_neg h
theorem stK_t {p : Nat} {s : List Nat × Ins} {k : Nat} (h : kdAt p k = 1) : stK p s k = (addN s.1 (s.2.part k).toNat, setFd s.2 (((addN s.1 (s.2.part k).toNat).idxOf (s.2.part k).toNat : Nat) : Int) k) := if_pos h
/-- The first j fields are renumbered. -/
def stJ (p : Nat) (s : List Nat × Ins) : Nat → List Nat × Ins
  | 0 => s
  | j + 1 => stK p (stJ p s j) j
theorem stJ_op (p : Nat) (s : List Nat × Ins) : ∀ j, (stJ p s j).2.op = s.2.op
  | 0 => rfl
  | j + 1 => by
    show (stK p (stJ p s j) j).2.op = _
    by_cases h : kdAt p j = 1
    · rw [stK_t h]; exact (setFd_op _ _ _).trans (stJ_op p s j)
    · rw [stK_f h]; exact stJ_op p s j
theorem stJ_part (p : Nat) (s : List Nat × Ins) : ∀ j k, j ≤ k → k < 4 → (stJ p s j).2.part k = s.2.part k
  | 0, k, _, _ => rfl
  | j + 1, k, h, hk => by
    show (stK p (stJ p s j) j).2.part k = _
    by_cases hp : kdAt p j = 1
    · rw [stK_t hp]
      show (setFd _ _ j).part k = _
      rw [setFd_part _ _ _ _ (by omega) hk, if_neg (by omega)]
      exact stJ_part p s j k (by omega) hk
    · rw [stK_f hp]; exact stJ_part p s j k (by omega) hk
/-- Fields that are no registers change nothing. -/
theorem stJ_rest (p : Nat) (s : List Nat × Ins) (j : Nat) : ∀ i, (∀ k, j ≤ k → k < j + i → kdAt p k ≠ 1) → stJ p s (j + i) = stJ p s j
  | 0, _ => rfl
  | i + 1, h => by
    show stK p (stJ p s (j + i)) (j + i) = _
    rw [stK_f (h (j + i) (by omega) (by omega))]
    exact stJ_rest p s j i fun k h1 h2 => h k h1 (by omega)
/-- The fields of these numbers, one behind the other. -/
theorem stF (p : Nat) (s : List Nat × Ins) : ((List.range 4).filter fun k => kdAt p k == 1).foldl (stK p) s = stJ p s 4 := by
  have h : ∀ (ks : List Nat) (s : List Nat × Ins), (ks.filter fun k => kdAt p k == 1).foldl (stK p) s = ks.foldl (stK p) s := by
    intro ks
    induction ks with
    | nil => intro s; rfl
    | cons k ks ih =>
      intro s
      by_cases hk : kdAt p k = 1
      · rw [List.filter_cons_of_pos (by simpa using hk), List.foldl_cons, List.foldl_cons, ih]
      · rw [List.filter_cons_of_neg (by simpa using hk), List.foldl_cons, stK_f hk, ih]
  rw [h]; rfl
/-- The first k instructions are renumbered: the registers that have been named, and the list. -/
def cmpS (l : List Ins) : Nat → List Nat × List Ins
  | 0 => ([], l)
  | k + 1 => match l[k]? with
    | some x => ((stJ x.op.toNat ((cmpS l k).1, x) 4).1, (cmpS l k).2.set k (stJ x.op.toNat ((cmpS l k).1, x) 4).2)
    | none => cmpS l k
theorem cmpS_one {l : List Ins} {k : Nat} {x : Ins} (h : l[k]? = some x) : cmpS l (k + 1) = ((stJ x.op.toNat ((cmpS l k).1, x) 4).1, (cmpS l k).2.set k (stJ x.op.toNat ((cmpS l k).1, x) 4).2) := by
  show (match l[k]? with | some x => ((stJ x.op.toNat ((cmpS l k).1, x) 4).1, (cmpS l k).2.set k (stJ x.op.toNat ((cmpS l k).1, x) 4).2) | none => cmpS l k) = _
  rw [h]
theorem cmpS_len (l : List Ins) : ∀ k, (cmpS l k).2.length = l.length
  | 0 => rfl
  | k + 1 => by
    cases h : l[k]? with
    | none =>
      have : cmpS l (k + 1) = cmpS l k := by
        show (match l[k]? with | some x => ((stJ x.op.toNat ((cmpS l k).1, x) 4).1, (cmpS l k).2.set k (stJ x.op.toNat ((cmpS l k).1, x) 4).2) | none => cmpS l k) = _
        rw [h]
      rw [this]; exact cmpS_len l k
    | some x => rw [cmpS_one h, List.length_set]; exact cmpS_len l k
theorem cmpS_at (l : List Ins) : ∀ (k i : Nat), k ≤ i → (cmpS l k).2[i]? = l[i]?
  | 0, i, _ => rfl
  | k + 1, i, h => by
    cases hk : l[k]? with
    | none =>
      have : cmpS l (k + 1) = cmpS l k := by
        show (match l[k]? with | some x => ((stJ x.op.toNat ((cmpS l k).1, x) 4).1, (cmpS l k).2.set k (stJ x.op.toNat ((cmpS l k).1, x) 4).2) | none => cmpS l k) = _
        rw [hk]
      rw [this]; exact cmpS_at l k i (by omega)
    | some x => rw [cmpS_one hk, List.getElem?_set_ne (by omega)]; exact cmpS_at l k i (by omega)
theorem insB_opM {nv na nl : Nat} {x : Ins} (h : insB nv na nl x = true) : 1 ≤ x.op ∧ x.op ≤ 13 := by
  unfold insB at h
  simp only [Bool.and_eq_true, decide_eq_true_eq] at h
  exact h.1
/-- A register's field holds a register. -/
theorem insB_reg {nv na nl : Nat} {x : Ins} (h : insB nv na nl x = true) (k : Nat) (hk : k < 4) (hp : kdAt x.op.toNat k = 1) : 0 ≤ x.part k ∧ x.part k < 14 := by
  unfold insB at h
  simp only [Bool.and_eq_true] at h
  obtain ⟨_, ⟨⟨f0, f1⟩, f2⟩, f3⟩ := h
  have hf : ∀ n, fldB nv na nl 1 n = true → 0 ≤ n ∧ n < 14 := fun n h => by simpa [fldB] using h
  obtain rfl | rfl | rfl | rfl : k = 0 ∨ k = 1 ∨ k = 2 ∨ k = 3 := by omega
  · rw [hp] at f0; exact hf _ f0
  · rw [hp] at f1; exact hf _ f1
  · rw [hp] at f2; exact hf _ f2
  · rw [hp] at f3; exact hf _ f3
/-- The names are registers, each once. -/
def NsOk (ns : List Nat) : Prop := ns.Nodup ∧ ∀ r ∈ ns, r < 14
theorem NsOk.nil : NsOk [] := ⟨List.nodup_nil, fun r h => by simp at h⟩
theorem NsOk.len {ns : List Nat} (h : NsOk ns) : ns.length ≤ 14 := by
  have := h.1.length_le_of_subset (l₂ := List.range 14) fun r hr => List.mem_range.2 (h.2 r hr)
  simpa using this
theorem NsOk.add {ns : List Nat} (h : NsOk ns) {r : Nat} (hr : r < 14) : NsOk (addN ns r) := by
  by_cases hm : r ∈ ns
  · rw [addN_in hm]; exact h
  · rw [addN_new hm]
    refine ⟨List.nodup_append.2 ⟨h.1, by simp, fun a ha b hb => ?_⟩, fun q hq => ?_⟩
    · simp at hb; subst hb; exact fun e => hm (e ▸ ha)
    · rcases List.mem_append.1 hq with hq | hq
      · exact h.2 q hq
      · simp at hq; omega
theorem NsOk.stJ {p : Nat} {ns : List Nat} {x : Ins} (h : NsOk ns) (hx : ∀ k, k < 4 → kdAt p k = 1 → 0 ≤ x.part k ∧ x.part k < 14) : ∀ j, j ≤ 4 → NsOk (stJ p (ns, x) j).1
  | 0, _ => h
  | j + 1, hj => by
    show NsOk (stK p (Go.Proofs.YtbifbmpflhdijaaDoor.stJ p (ns, x) j) j).1
    by_cases hp : kdAt p j = 1
    · rw [stK_t hp]
      refine (NsOk.stJ h hx j (by omega)).add ?_
      rw [stJ_part p (ns, x) j j (Nat.le_refl _) (by omega)]
      have := hx j (by omega) hp
      show (x.part j).toNat < 14
      omega
    · rw [stK_f hp]; exact NsOk.stJ h hx j (by omega)
theorem cmpS_ok {nv na nl : Nat} {l : List Ins} (h : ∀ x ∈ l, insB nv na nl x = true) : ∀ k, NsOk (cmpS l k).1
  | 0 => NsOk.nil
  | k + 1 => by
    cases hk : l[k]? with
    | none =>
      have : cmpS l (k + 1) = cmpS l k := by
        show (match l[k]? with | some x => ((stJ x.op.toNat ((cmpS l k).1, x) 4).1, (cmpS l k).2.set k (stJ x.op.toNat ((cmpS l k).1, x) 4).2) | none => cmpS l k) = _
        rw [hk]
      rw [this]; exact cmpS_ok h k
    | some x =>
      rw [cmpS_one hk]
      exact (cmpS_ok h k).stJ (fun j hj hp => insB_reg (h x (List.mem_of_getElem? hk)) j hj hp) 4 (Nat.le_refl _)
/-- A field's number, of a field that is a register. -/
abbrev RgK (p : Nat) := {k : Nat // k < 4 ∧ kdAt p k = 1}
/-- The fields that are registers hold registers. -/
def OkS (p : Nat) (s : List Nat × Ins) : Prop := NsOk s.1 ∧ ∀ k, k < 4 → kdAt p k = 1 → 0 ≤ s.2.part k ∧ s.2.part k < 14
theorem OkS.st {p : Nat} {s : List Nat × Ins} (h : OkS p s) {k : Nat} (hk : k < 4) (hp : kdAt p k = 1) : OkS p (stK p s k) := by
  rw [stK_t hp]
  have hr := h.2 k hk hp
  have h1 := h.1.add (r := (s.2.part k).toNat) (by omega)
  refine ⟨h1, fun j hj hpj => ?_⟩
  show 0 ≤ (setFd s.2 _ k).part j ∧ (setFd s.2 _ k).part j < 14
  rw [setFd_part _ _ _ _ hk hj]
  have h2 := List.idxOf_lt_length_of_mem (addN_mem s.1 (s.2.part k).toNat)
  have h3 := h1.len
  split
  · omega
  · exact h.2 j hj hpj
theorem OkS.fold {p : Nat} : ∀ (pre : List (RgK p)) {s : List Nat × Ins}, OkS p s → OkS p ((pre.map Subtype.val).foldl (stK p) s)
  | [], _, h => h
  | x :: pre, _, h => OkS.fold pre (h.st x.2.1 x.2.2)
/-- The model's row of names. -/
def namR (ns : List Nat) : List Int := (List.range 14).map fun r => if r ∈ ns then ((ns.idxOf r : Nat) : Int) else -1
theorem namR_len (ns : List Nat) : (namR ns).length = 14 := by simp [namR]
theorem namR_at {ns : List Nat} {r : Nat} (h : r < 14) : (namR ns)[r]? = some (if r ∈ ns then ((ns.idxOf r : Nat) : Int) else -1) := by
  unfold namR
  rw [List.getElem?_map, List.getElem?_range h]; rfl
theorem namR_nil : namR [] = List.replicate 14 (-1) := by decide
theorem namR_set {ns : List Nat} {r : Nat} (hr : r < 14) (hm : r ∉ ns) : (namR ns).set r ((ns.length : Nat) : Int) = namR (ns ++ [r]) := by
  apply List.ext_getElem?
  intro q
  by_cases hq : q < 14
  · rw [namR_at hq]
    by_cases e : r = q
    · subst e
      rw [List.getElem?_set_self (by rw [namR_len]; exact hr), if_pos (by simp), idx_new hm]
    · rw [List.getElem?_set_ne e, namR_at hq]
      by_cases hin : q ∈ ns
      · rw [if_pos hin, if_pos (by simp [hin]), idx_old hin]
      · rw [if_neg hin, if_neg (by simp [hin]; exact fun e2 => e e2.symm)]
  · rw [List.getElem?_eq_none (by rw [List.length_set, namR_len]; omega), List.getElem?_eq_none (by rw [namR_len]; omega)]

end Go.Proofs.YtbifbmpflhdijaaDoor

namespace Go.Proofs.YtbifbmpflhdijaaDoor
open Go.RowKit Go.Shelf
set_option linter.unusedVariables false

/-- The blocks of D lie as they lay. -/
structure Stays (D : Nat → Prop) (W W' : World) : Prop where
  size : W.heap.size ≤ W'.heap.size
  same : ∀ (k : Nat) (o : Obj), D k → W.heap[k]? = some o → W'.heap[k]? = some o
theorem Stays.refl (D : Nat → Prop) (W : World) : Stays D W W := ⟨Nat.le_refl _, fun _ _ _ h => h⟩
theorem Stays.trans {D : Nat → Prop} {X Y Z : World} (h : Stays D X Y) (k : Stays D Y Z) : Stays D X Z := ⟨Nat.le_trans h.size k.size, fun i o hB hi => k.same i o hB (h.same i o hB hi)⟩
theorem Stays.mono {D E : Nat → Prop} {W W' : World} (h : Stays D W W') (hc : ∀ k, k < W.heap.size → E k → D k) : Stays E W W' := ⟨h.size, fun k o hB hk => h.same k o (hc k (Array.getElem?_eq_some_iff.1 hk).1 hB) hk⟩
theorem Stays.alloc {D : Nat → Prop} {W W' : World} (h : Stays D W W') (o : Obj) : Stays D W (W'.alloc o) := ⟨by have := h.size; simp; omega, fun k q hB hk => by
  have h1 := h.same k q hB hk
  rw [Below.heap_alloc _ _ _ (Array.getElem?_eq_some_iff.1 h1).1]; exact h1⟩
theorem Stays.setCell {D : Nat → Prop} {W W' : World} (h : Stays D W W') {p : Addr} (hp : ¬ D p.block) (v : Value) : Stays D W (W'.setCell p v) := ⟨by have := h.size; simpa [World.setCell] using this, fun k q hB hk => by
  rw [Below.heap_setCell _ _ _ _ (fun e => hp (by rw [← e]; exact hB))]; exact h.same k q hB hk⟩
theorem Stays.putObj {D : Nat → Prop} {W W' : World} (h : Stays D W W') {l : Nat} (hl : ¬ D l) (o : Obj) : Stays D W (W'.putObj l o) := ⟨by have := h.size; simpa [World.putObj] using this, fun k q hB hk => by
  rw [World.putObj_heap_other (fun e => hl (by rw [← e]; exact hB))]; exact h.same k q hB hk⟩
theorem Stays.drew {D : Nat → Prop} {W W' : World} (h : Stays D W W') : Stays D W W'.drew := ⟨h.size, h.same⟩
/-- What a callee leaves that writes new blocks alone. -/
theorem Stays.below {D : Nat → Prop} {W W' W2 : World} (h : Stays D W W') (hb : Below W'.heap.size W' W2) : Stays D W W2 := ⟨Nat.le_trans h.size hb.size, fun k q hB hk => by
  have h1 := h.same k q hB hk
  rw [hb.block k (Array.getElem?_eq_some_iff.1 h1).1]; exact h1⟩
theorem Stays.at {D : Nat → Prop} {W W' : World} (h : Stays D W W') {k : Nat} (hD : D k) (hk : k < W.heap.size) : W'.heap[k]? = W.heap[k]? := by
  obtain ⟨o, ho⟩ : ∃ o, W.heap[k]? = some o := ⟨_, Array.getElem?_eq_getElem hk⟩
  rw [ho]; exact h.same k o hD ho
/-- What speaks of cells alone abides new blocks. -/
theorem own_below {β : Type} {B : Nat} {I : β → World → Prop} (h : OwnFrom B I) {s : β} {W W' : World} (hs : I s W) (hb : Below W.heap.size W W') : I s W' :=
  h s W W' none hs ⟨hb.os, hb.tape, hb.output, hb.size, fun k hk _ => hb.block k hk⟩ fun r e => by cases e

theorem own_later {β : Type} {B C : Nat} {I : β → World → Prop} (h : OwnFrom B I) (hc : B ≤ C) : OwnFrom C I := fun s X Y row hs hg hr => h s X Y row hs hg fun r e => ⟨Nat.le_trans hc (hr r e).1, (hr r e).2⟩
theorem own_at {β : Type} {B k : Nat} (o : Obj) (hk : k < B) : OwnFrom B (fun (_ : β) W => W.heap[k]? = some o) := fun s X Y row hs hg hr =>
  (hg.block k (Array.getElem?_eq_some_iff.1 hs).1 fun e => by have := (hr k e.symm).1; omega).trans hs

variable {P : Program}

/-- What an iterator owes, and what a round owes it: the blocks of D, and whatever lay when the iterator began, stay, but for the record of the loop. -/
def SeqL {α : Type} (n : Nat) (P : Program) (g : Nat) (lb : Array Value) (encs : α → Array Value) (D : Nat → Prop) (S Sp : List α → Prop) (w : World) : Prop :=
  ∀ (l : Nat) (J Jx : List α → World → Prop) (W : World), Below w.heap.size w W → l < W.heap.size → OwnFrom W.heap.size J → OwnFrom W.heap.size Jx →
    (∀ pre x W1, J pre W1 → YieldAt Fence.wide (n - 1) P l (encs x) W1 fun e W' =>
      ((e = .returned (.bool true) ∧ J (pre ++ [x]) W') ∨ (e = .returned (.bool false) ∧ Jx (pre ++ [x]) W')) ∧ Stays (fun k => D k ∨ W.heap.size ≤ k) W1 W') →
    J [] W →
    CallsIn Fence.wide n P g (#[.func (.yield l) #[] #[]] ++ lb) W fun e W' => (∃ v, e = .returned v) ∧ ((∃ xs, S xs ∧ J xs W') ∨ (∃ pre, Sp pre ∧ Jx pre W'))

/-- How a round's body may be left. -/
def postL {α : Type} (B : Nat) (D : Nat → Prop) (I : List α → World → Prop) (Ix : Code → List α → World → Prop) (xs : List α) (W : World) : Exit → Act → World → Prop
  | .normal, _, W' => Stays (fun k => D k ∨ B ≤ k) W W' ∧ I xs W'
  | .ret, _, W' => Stays (fun k => D k ∨ B ≤ k) W W' ∧ Ix .ret xs W'
  | _, _, _ => False

set_option maxHeartbeats 2000000 in
/-- **The caller's side.** -/
theorem wpIn_rangeL {α : Type} {n : Nat} {g : Operand} {ps : Array Tmp} {assign body : Code} {Q : Exit → Act → World → Prop} {a : Act} {w : World} (h1 : 1 ≤ n) {gf : Nat} {lb : Array Value}
    (hg : a.eval g = .func (.func gf) #[] lb) (eg : ∀ args w, (callFunc gf args).run P w = .ok (.enter gf args) w)
    {encs : α → Array Value} {D : Nat → Prop} {S Sp : List α → Prop} {w0 : World} (hseq : SeqL (n - 1) P gf lb encs D S Sp w0) (hD : ∀ k, D k → k < w.heap.size) (hb0 : Below w0.heap.size w0 w) (hps : ∀ x, (encs x).size = ps.size)
    (I : List α → World → Prop) (Ix : Code → List α → World → Prop) (hI : OwnFrom w.heap.size I) (hIx : ∀ c, OwnFrom w.heap.size (Ix c)) (h0 : I [] w) (a1 : α → Act)
    (hassign : ∀ (l : Nat) (x : α) (W : World) (K : Act → World → Prop), K (a1 x) W →
      assign.wpIn (Fence.wide.inRound l) (n - 1 - 1) P (Exit.then K (fun _ _ _ => False)) { tmps := (ps.zip (encs x)).foldl (fun t (p, v) => t.setIfInBounds p v) a.tmps, defers := [] } W)
    (hbody : ∀ (l : Nat) (pre : List α) (x : α) (W : World), I pre W → body.wpIn (Fence.wide.inRound l) (n - 1 - 1) P (postL w.heap.size D I Ix (pre ++ [x]) W) (a1 x) W)
    (hdone : ∀ (d : Nat) (xs : List α) (W : World), w.heap.size ≤ d → S xs → I xs W → W.heap[d]? = some (.deferred (some [])) → Q .normal { a with defers := { target := .collected d, args := #[] } :: a.defers } W)
    (hstop : ∀ (d : Nat) (c : Code) (pre : List α) (W : World), w.heap.size ≤ d → Sp pre → Ix c pre W → W.heap[d]? = some (.deferred (some [])) → c.wpIn Fence.wide n P Q { a with defers := { target := .collected d, args := #[] } :: a.defers } W) :
    (Code.rangeFunc g ps assign body).wpIn Fence.wide n P Q a w := by
  refine wpIn_rangeFunc fun fn hfn => ?_
  -- the record, in each of its states
  obtain ⟨R, hR⟩ : ∃ R : LoopState → Option Code → Loop, R = fun s p => { state := s, pending := p, fn, tmps := a.tmps, params := ps, assign, body, defers := w.heap.size } := ⟨_, rfl⟩
  obtain ⟨V, hV⟩ : ∃ V, (w.alloc (.deferred (some []))).alloc (.loop (R .ready none)) = V := ⟨_, rfl⟩
  have hz : V.heap.size = w.heap.size + 2 := by rw [← hV]; simp
  have hl0 : V.heap[w.heap.size + 1]? = some (.loop (R .ready none)) := by
    have h := World.alloc_heap_new (w.alloc (.deferred (some []))) (.loop (R .ready none))
    rw [World.size_alloc] at h
    rw [← hV]; exact h
  have hd0 : V.heap[w.heap.size]? = some (.deferred (some [])) := by
    rw [← hV, Below.heap_alloc _ _ _ (by simp)]; exact World.alloc_heap_new w _
  have hI0 : I [] V := by rw [← hV]; exact hI.alloc _ (hI.alloc _ h0)
  have hbV : Below w0.heap.size w0 V := by
    have h2 : Below w.heap.size w V := by rw [← hV]; exact ((Below.refl _ w).alloc (Nat.le_refl _) _).alloc (by simp) _
    exact hb0.trans (h2.mono hb0.size)
  refine ⟨w.heap.size + 1, [{ target := .collected w.heap.size, args := #[] }], V, { target := .fn (.func gf) lb, args := #[.func (.yield (w.heap.size + 1)) #[] #[]] }, V, gf,
    #[.func (.yield (w.heap.size + 1)) #[] #[]] ++ lb, V, ?_, ?_, fun f' hf' => trivial, ?_, fun _ => h1, ?_⟩
  · rw [← hV, hR]; exact run_enterLoop_outer _ _ _ _ _
  · simp only [resolve, hg]
    simp [go_sem]
  · simp [invoke, go_sem, eg]
  refine (hseq (w.heap.size + 1) (fun pre W => I pre W ∧ W.heap[w.heap.size + 1]? = some (.loop (R .ready none)) ∧ W.heap[w.heap.size]? = some (.deferred (some [])))
    (fun pre W => Ix .ret pre W ∧ W.heap[w.heap.size + 1]? = some (.loop (R .done (some .ret))) ∧ W.heap[w.heap.size]? = some (.deferred (some []))) V hbV (by omega)
    ((own_later hI (by omega)).and ((own_at _ (by omega)).and (own_at _ (by omega)))) ((own_later (hIx _) (by omega)).and ((own_at _ (by omega)).and (own_at _ (by omega)))) ?_ ⟨hI0, hl0, hd0⟩).mono ?_
  · rintro pre x W ⟨hi, hl, hd⟩
    have hy := run_yield (P := P) (args := encs x) hl (by rw [hR]; exact hps x)
    rw [hR] at hy
    refine ⟨fn, _, assign, body, hy, roundIn_of_wpIn hfn (hassign _ x W _ ?_)⟩
    refine ⟨_, run_beginRound hl (by rw [hR]), ?_⟩
    have hnD : ¬ (D (w.heap.size + 1) ∨ V.heap.size ≤ w.heap.size + 1) := fun h => by
      rcases h with h | h
      · have := hD _ h; omega
      · omega
    obtain ⟨U, hU⟩ : ∃ U, W.putObj (w.heap.size + 1) (.loop { R .ready none with state := .busy }) = U := ⟨_, rfl⟩
    have hlU : U.heap[w.heap.size + 1]? = some (.loop { R .ready none with state := .busy }) := by rw [← hU]; exact World.putObj_heap_same (Array.getElem?_eq_some_iff.1 hl).1
    have hdU : U.heap[w.heap.size]? = some (.deferred (some [])) := by rw [← hU, World.putObj_heap_other (by omega)]; exact hd
    have hsU : Stays (fun k => D k ∨ V.heap.size ≤ k) W U := by rw [← hU]; exact (Stays.refl _ _).putObj hnD _
    have hiU : I pre U := by rw [← hU]; exact hI.putObj _ hi (by omega) hl rfl
    rw [hU]
    -- how the round ends
    have fin : ∀ (j : Option Code) (X : World), Stays (fun k => D k ∨ w.heap.size ≤ k) U X → ∃ Y, (Instr.endRound (w.heap.size + 1) j).run P X = .ok (.bool j.isNone) Y ∧ Y = X.putObj (w.heap.size + 1) (.loop (R (if j.isNone then .ready else .done) j)) ∧
        Y.heap[w.heap.size + 1]? = some (.loop (R (if j.isNone then .ready else .done) j)) ∧ Y.heap[w.heap.size]? = some (.deferred (some [])) ∧ Stays (fun k => D k ∨ V.heap.size ≤ k) W Y ∧ X.heap[w.heap.size + 1]? = some (.loop { R .ready none with state := .busy }) := fun j X hX => by
      have hlX := hX.same _ _ (.inr (by omega)) hlU
      have hdX := hX.same _ _ (.inr (Nat.le_refl _)) hdU
      have he := run_endRound (P := P) j hlX
      rw [hR] at he
      refine ⟨_, he, by rw [hR], ?_, ?_, ?_, hlX⟩
      · rw [World.putObj_heap_same (Array.getElem?_eq_some_iff.1 hlX).1, hR]
      · rw [World.putObj_heap_other (by omega)]; exact hdX
      · exact (hsU.trans (hX.mono fun k _ h => h.elim .inl fun h => .inr (by omega))).putObj hnD _
    refine wpIn_mono (hbody _ pre x U hiU) ?_
    rintro e a3 X hp
    cases e with
    | normal =>
      obtain ⟨h2, h4⟩ := hp
      obtain ⟨Y, he, hY, hlY, hdY, hsY, hlX⟩ := fin none X h2
      have hiY : I (pre ++ [x]) Y := by rw [hY]; exact hI.putObj _ h4 (by omega) hlX rfl
      exact ⟨_, _, he, .inl ⟨rfl, hiY, hlY, hdY⟩, hsY⟩
    | ret =>
      obtain ⟨h2, h3⟩ := hp
      obtain ⟨Y, he, hY, hlY, hdY, hsY, hlX⟩ := fin (some .ret) X h2
      have hiY : Ix .ret (pre ++ [x]) Y := by rw [hY]; exact (hIx _).putObj _ h3 (by omega) hlX rfl
      exact ⟨_, _, he, .inr ⟨rfl, hiY, hlY, hdY⟩, hsY⟩
    | exit id => exact hp.elim
    | goto t => exact hp.elim
    | panic ch => exact hp.elim
    | outgrown => exact hp.elim
  · rintro e X ⟨⟨v, rfl⟩, (⟨xs, hS, hi, hl, hd⟩ | ⟨pre, hS, hi, hl, hd⟩)⟩
    · have he := run_endLoop (P := P) hl (by rw [hR]; simp)
      rw [hR] at he
      exact ⟨none, _, he, hdone _ xs _ (Nat.le_refl _) hS (hI.putObj _ hi (by omega) hl rfl) ((World.putObj_heap_other (by omega)).trans hd)⟩
    · have he := run_endLoop (P := P) hl (by rw [hR]; simp)
      rw [hR] at he
      exact ⟨some .ret, _, he, hstop _ .ret pre _ (Nat.le_refl _) hS ((hIx _).putObj _ hi (by omega) hl rfl) ((World.putObj_heap_other (by omega)).trans hd)⟩

end Go.Proofs.YtbifbmpflhdijaaDoor

namespace Go.Proofs.YtbifbmpflhdijaaDoor
open Go.RowKit Go.Shelf
set_option linter.unusedVariables false

attribute [local go_sem] Oper.semAt_some

abbrev encE {n : Nat} (x : Fin n × Fin n) : Array Value := #[.int .i64 (x.1.val : Int), .int .i64 (x.2.val : Int)]
def valE {n : Nat} (x : Fin n × Fin n) : Nat × Nat := (x.1.val, x.2.val)
/-- Where the execution may go on behind instruction k. -/
def folAt (l : List Ins) (k : Nat) : List Nat := match l[k]? with | some x => folN x k | none => []
theorem folAt_at {l : List Ins} {k : Nat} {x : Ins} (h : l[k]? = some x) : folAt l k = folN x k := by unfold folAt; rw [h]
/-- The edges of the first k instructions. -/
def edgN (l : List Ins) : Nat → List (Nat × Nat)
  | 0 => []
  | k + 1 => edgN l k ++ (folAt l k).map fun t => (k, t)
theorem edgN_pre (l : List Ins) {k n : Nat} (h : k ≤ n) : edgN l k <+: edgN l n := by
  induction n with
  | zero => obtain rfl : k = 0 := by omega
            exact List.prefix_refl _
  | succ n ih =>
    by_cases e : k = n + 1
    · subst e; exact List.prefix_refl _
    · exact (ih (by omega)).trans (List.prefix_append _ _)
theorem edgN_part {l : List Ins} {k n j : Nat} {x : Ins} (hx : l[k]? = some x) (h : k < n) : edgN l k ++ ((folN x k).take j).map (fun t => (k, t)) <+: edgN l n := by
  refine List.IsPrefix.trans ?_ (edgN_pre l (Nat.succ_le_of_lt h))
  show _ <+: edgN l k ++ _
  rw [folAt_at hx]
  exact (List.prefix_append_right_inj _).2 ((List.take_prefix j _).map _)

set_option maxRecDepth 100000 in
set_option maxHeartbeats 8000000 in
theorem edg1_in {n : Nat} (m : Nat) (hm : 1 ≤ m) (lp Bn B : Nat) (D : Nat → Prop) (l : List Ins) (a : Option Addr) (c : Nat) (J Jx : List (Fin n × Fin n) → World → Prop) (hn : l.length = n) (hok : Okc l) (hJ : OwnFrom B J)
    (hY : ∀ pre x W1, J pre W1 → YieldAt Fence.wide (m - 1) Tryd.prog lp (encE x) W1 fun e W' =>
      ((e = .returned (.bool true) ∧ J (pre ++ [x]) W') ∨ (e = .returned (.bool false) ∧ Jx (pre ++ [x]) W')) ∧ Stays (fun k => D k ∨ B ≤ k) W1 W')
    (W : World) (hB : W.heap.size = B) (hDB : ∀ k, D k → k < B) (hBn : W.heap[Bn]? = some (.cells #[.slice a n c] 27 (0, 0))) (hDn : D Bn) (hL : NAt W D l a) (h0 : J [] W) :
    CallsIn Fence.wide m Tryd.prog 132 #[.func (.yield lp) #[] #[], .pointer (some ⟨Bn, 0, none⟩)] W fun e W' => (∃ v, e = .returned v) ∧
      ((∃ ys : List (Fin n × Fin n), ys.map valE = edgN l n ∧ J ys W') ∨ (∃ pre : List (Fin n × Fin n), pre.map valE <+: edgN l n ∧ Jx pre W')) := by
  refine callsIn_of_wp Tryd.func132 rfl trivial ?_ rfl
  simp only [Tryd.ntmps132, List.size_toArray, List.length_cons, List.length_nil, Nat.reduceAdd, Nat.reduceSub, Array.replicate_succ, Array.replicate_zero, List.push_toArray, List.append_toArray, List.nil_append, List.cons_append]
  have HY := Lib.hid hY
  have HJ := Lib.hid hJ
  have HN := Lib.hid hn
  have HO := Lib.hid hok
  have hn400 : n ≤ 400 := by rw [← hn]; exact hok.le
  have hBlt : Bn < W.heap.size := by rw [hB]; exact hDB _ hDn
  -- what stands in every world that a round has left
  have HS : Hid (∀ v, Stays D W v → v.cell? ⟨Bn, 0, none⟩ = some (.slice a n c) ∧ NAt v (fun b => b < v.heap.size) l a) := fun v hv => by
    refine ⟨?_, hL.wide (fun k hk => hv.at hk (by rw [hB]; exact hDB k hk)) fun k hk => Nat.lt_of_lt_of_le (by rw [hB]; exact hDB k hk) hv.size⟩
    rw [cell_at ((hv.at hDn hBlt).trans hBn)]; rfl
  have x0 := (HS.out W (Stays.refl _ _)).1
  clear hY hJ hn hok hBn hL
  gi_wp2
  gi_loopw [8] (fun p wr => ∃ (k : Nat) (pre : List (Fin n × Fin n)), k ≤ n ∧ p = .int .i64 (k : Int) ∧ pre.map valE = edgN l k ∧ J pre wr ∧ Stays D W wr) (fun p _ => n - (intOf p).toNat)
  case atStart => exact ⟨0, [], Nat.zero_le _, rfl, rfl, h0, Stays.refl _ _⟩
  case round =>
    obtain ⟨k, pre, hk, rfl, hpre, hJ1, hS1⟩ := hrel
    have HPRE := Lib.hid hpre
    have HJ1 := Lib.hid hJ1
    have HS1 := Lib.hid hS1
    have hzr := hS1.size
    obtain ⟨y0, hNA⟩ := HS.out wr hS1
    clear hpre hJ1 hS1 h0 x0
    by_cases hlt : k < n
    · obtain ⟨x, hx⟩ : ∃ x, l[k]? = some x := ⟨l[k]'(by rw [HN.out]; exact hlt), List.getElem?_eq_getElem _⟩
      have HX := Lib.hid hx
      have HF := Lib.hid (fol_one l a n c k x wr hNA HN.out HO.out hx)
      clear hx hNA
      gi_wp2_with (refine ⟨trivial, ?_⟩; gi_at_call 133; refine (callsIn_wide.2 HF.out).mono ?_; rintro e w1 ⟨ra, rc, rfl, hown, hb1⟩)
      obtain ⟨rl, hrl⟩ : ∃ rl, (natI (folN x k)).length = rl := ⟨_, rfl⟩
      have hrl2 : (folN x k).length = rl := by rw [← hrl, natI_len]
      have hrle : rl ≤ 2 := by rw [← hrl2]; exact folN_len x k
      have HRL := Lib.hid hrl2
      have HOWN := Lib.hid hown
      have HB1 := Lib.hid hb1
      rw [hrl]
      have hz1 := hb1.size
      have hS0 : ∀ g, wr.heap.size ≤ g → B ≤ g := fun g h => by omega
      have HR0 : Hid (∃ (j : Nat) (pre : List (Fin n × Fin n)), j ≤ rl ∧ Value.int .i64 0 = .int .i64 (j : Int) ∧ pre.map valE = edgN l k ++ ((folN x k).take j).map (fun t => (k, t)) ∧ J pre w1 ∧ Stays D W w1 ∧ Stays (fun k => D k ∨ B ≤ k) w1 w1) :=
        ⟨0, pre, Nat.zero_le _, rfl, by rw [HPRE.out]; simp, own_below HJ.out HJ1.out hb1, HS1.out.below hb1, Stays.refl _ _⟩
      clear hown hb1 hrl hrl2 HF HJ1 HS1 HPRE y0
      gi_wp2
      gi_loopw [15] (fun p wr2 => ∃ (j : Nat) (pre : List (Fin n × Fin n)), j ≤ rl ∧ p = .int .i64 (j : Int) ∧ pre.map valE = edgN l k ++ ((folN x k).take j).map (fun t => (k, t)) ∧ J pre wr2 ∧ Stays D W wr2 ∧ Stays (fun k => D k ∨ B ≤ k) w1 wr2) (fun p _ => rl - (intOf p).toNat)
      case atStart => exact HR0.out
      case round =>
        obtain ⟨j, pre, hj, rfl, hpre, hJ2, hS2, hS3⟩ := hrel
        have HPRE := Lib.hid hpre
        have HJ2 := Lib.hid hJ2
        have HS2 := Lib.hid hS2
        have HS3 := Lib.hid hS3
        clear hpre hJ2 hS2 hS3 HR0
        by_cases hlj : j < rl
        · obtain ⟨t, ht⟩ : ∃ t, (folN x k)[j]? = some t := ⟨(folN x k)[j]'(by rw [HRL.out]; exact hlj), List.getElem?_eq_getElem _⟩
          have htn : t < n := by rw [← HN.out]; exact HO.out.fol HX.out (List.mem_of_getElem? ht)
          obtain ⟨g, rfl, cr⟩ : ∃ g, ra = some ⟨g, 0, none⟩ ∧ wr.cell? ⟨g, j, none⟩ = some (.int .i64 (t : Int)) := by
            rcases HOWN.out.2 with ⟨e, e2⟩ | ⟨g, cap', cur, e, hb, hg, hn', hm', hc, ht'⟩
            · exact absurd e2 (by rw [natI_len, HRL.out]; omega)
            · injection e with e1 e2 e3
              subst e1
              refine ⟨g, rfl, ?_⟩
              have h1 : w1.cell? ⟨g, j, none⟩ = some (.int .i64 (t : Int)) := by
                rw [HOWN.out.cellAt j (by rw [natI_len, HRL.out]; omega)]
                unfold natI
                rw [List.getElem?_map, List.getElem?_map, ht]; rfl
              exact (World.cell?_of_block (w := w1) (a := ⟨g, j, none⟩) (HS3.out.at (.inr (by have := hS0 g hb; omega)) (Array.getElem?_eq_some_iff.1 hg).1)).trans h1
          have HPRE2 : Hid ((pre ++ [((⟨k, hlt⟩ : Fin n), (⟨t, htn⟩ : Fin n))]).map valE = edgN l k ++ ((folN x k).take (j + 1)).map (fun t => (k, t))) := by
            show List.map valE (pre ++ [((⟨k, hlt⟩ : Fin n), (⟨t, htn⟩ : Fin n))]) = _
            rw [List.map_append, HPRE.out, List.take_add_one, ht, List.append_assoc]
            simp [valE]
          obtain ⟨fn, tmps, assign, body, hy, hR⟩ := HY.out pre ((⟨k, hlt⟩ : Fin n), (⟨t, htn⟩ : Fin n)) wr HJ2.out
          have HR := Lib.hid hR
          dsimp only [encE] at hy
          clear hR ht HOWN HJ2 HPRE
          gi_wp2
          refine HR.out.mono ?_
          clear HR hy
          rintro e W3 ⟨(⟨rfl, hJ3⟩ | ⟨rfl, hJ3⟩), hst⟩
          · have HREL : Hid (∃ (j' : Nat) (pre' : List (Fin n × Fin n)), j' ≤ rl ∧ Value.int .i64 ((j : Int) + 1) = .int .i64 (j' : Int) ∧ pre'.map valE = edgN l k ++ ((folN x k).take j').map (fun t => (k, t)) ∧ J pre' W3 ∧ Stays D W W3 ∧ Stays (fun k => D k ∨ B ≤ k) w1 W3) :=
              ⟨j + 1, _, hlj, by go_num, HPRE2.out, hJ3, HS2.out.trans (hst.mono fun q _ h => .inl h), HS3.out.trans hst⟩
            clear hJ3 hst HPRE2 HS2 HS3
            gi_wp2
            go_roundw
            case rel => exact HREL.out
            case measure => simp [intOf]; omega
          · have HFIN : Hid (∃ pre : List (Fin n × Fin n), pre.map valE <+: edgN l n ∧ Jx pre W3) := ⟨_, by rw [HPRE2.out]; exact edgN_part HX.out hlt, hJ3⟩
            clear hJ3 hst HPRE2 HS2 HS3
            gi_wp2
            refine bodyPost_ret (results_none rfl _ _ _) rfl ?_
            exact ⟨⟨_, rfl⟩, .inr HFIN.out⟩
        · obtain rfl : j = rl := by omega
          have HREL : Hid (∃ (k' : Nat) (pre' : List (Fin n × Fin n)), k' ≤ n ∧ Value.int .i64 ((k : Int) + 1) = .int .i64 (k' : Int) ∧ pre'.map valE = edgN l k' ∧ J pre' wr ∧ Stays D W wr) := by
            refine ⟨k + 1, pre, hlt, by go_num, ?_, HJ2.out, HS2.out⟩
            rw [HPRE.out, List.take_of_length_le (by rw [HRL.out]; exact Nat.le_refl _)]
            show _ = edgN l k ++ _
            rw [folAt_at HX.out]
          clear HJ2 HPRE HS2 HS3 HOWN
          gi_wp2
          go_roundw
          case rel => exact HREL.out
          case measure => simp [intOf]; omega
    · obtain rfl : k = n := by omega
      have HFIN : Hid (∃ ys : List (Fin k × Fin k), ys.map valE = edgN l k ∧ J ys wr) := ⟨pre, HPRE.out, HJ1.out⟩
      clear HJ1 HPRE HS1 y0 hNA
      gi_wp2
      go_end0
      exact ⟨⟨_, rfl⟩, .inl HFIN.out⟩

theorem edges_in (n : Nat) (a : Option Addr) (m c : Nat) (w : World) :
    CallsIn Fence.wide n Tryd.prog 117 #[.slice a m c] w fun e w' => e = .returned (.func (.func 132) #[] #[.pointer (some ⟨w.heap.size, 0, none⟩)]) ∧ w' = w.alloc (.cells #[.slice a m c] 27) := by
  refine callsIn_of_wp Tryd.func117 rfl trivial ?_ rfl
  simp only [Tryd.ntmps117, List.size_toArray, List.length_cons, List.length_nil, Nat.reduceAdd, Nat.reduceSub, Array.replicate_succ, Array.replicate_zero, List.push_toArray, List.append_toArray, List.nil_append, List.cons_append]
  gi_wp2
  go_ret
  exact ⟨rfl, rfl⟩

/-- **What edges hands back, for every loop body that keeps the list and its box.** -/
theorem edges_seq {n : Nat} (m : Nat) (hm : 1 ≤ m) (Bn : Nat) (D : Nat → Prop) (l : List Ins) (a : Option Addr) (c : Nat) (w : World) (hn : l.length = n) (hok : Okc l)
    (hDB : ∀ k, D k → k < w.heap.size) (hBn : w.heap[Bn]? = some (.cells #[.slice a n c] 27 (0, 0))) (hDn : D Bn) (hL : NAt w D l a) :
    SeqL m Tryd.prog 132 #[.pointer (some ⟨Bn, 0, none⟩)] (encE (n := n)) D (fun ys => ys.map valE = edgN l n) (fun pre => pre.map valE <+: edgN l n) w := fun lp J Jx W hW hl hJ _ hY h0 =>
  edg1_in m hm lp Bn W.heap.size D l a c J Jx hn hok hJ hY W rfl (fun k hk => Nat.lt_of_lt_of_le (hDB k hk) hW.size) ((hW.block Bn (hDB _ hDn)).trans hBn) hDn (hL.wide (fun k hk => hW.block k (hDB k hk)) fun _ h => h) h0

end Go.Proofs.YtbifbmpflhdijaaDoor

namespace Go.Proofs.YtbifbmpflhdijaaDoor
open Go.RowKit Go.Shelf
set_option linter.unusedVariables false

/-- The numbers of the first k fields that are registers. -/
def rgF (p k : Nat) : List Nat := (List.range k).filter fun j => kdAt p j == 1
theorem rgF_t {p k : Nat} (h : kdAt p k = 1) : rgF p (k + 1) = rgF p k ++ [k] := by
  unfold rgF; rw [List.range_succ, List.filter_append, List.filter_cons_of_pos (by simpa using h)]; rfl
theorem rgF_f {p k : Nat} (h : kdAt p k ≠ 1) : rgF p (k + 1) = rgF p k := by
  unfold rgF; rw [List.range_succ, List.filter_append, List.filter_cons_of_neg (by simpa using h)]; simp
theorem rgF_pre (p : Nat) {k n : Nat} (h : k ≤ n) : rgF p k <+: rgF p n := by
  induction n with
  | zero => obtain rfl : k = 0 := by omega
            exact List.prefix_refl _
  | succ n ih =>
    by_cases e : k = n + 1
    · subst e; exact List.prefix_refl _
    · refine (ih (by omega)).trans ?_
      by_cases hk : kdAt p n = 1
      · rw [rgF_t hk]; exact List.prefix_append _ _
      · rw [rgF_f hk]; exact List.prefix_refl _
abbrev encG (g io p : Nat) (k : RgK p) : Array Value := #[.pointer (some ⟨g, io + (k.val + 1), none⟩)]

theorem regF_in (g io n : Nat) (w : World) :
    CallsIn Fence.wide n Tryd.prog 106 #[.pointer (some ⟨g, io, none⟩)] w fun e w' => e = .returned (.func (.func 127) #[] #[.pointer (some ⟨w.heap.size, 0, none⟩)]) ∧ w' = w.alloc (.cells #[.pointer (some ⟨g, io, none⟩)] 138) := by
  refine callsIn_of_wp Tryd.func106 rfl trivial ?_ rfl
  simp only [Tryd.ntmps106, List.size_toArray, List.length_cons, List.length_nil, Nat.reduceAdd, Nat.reduceSub, Array.replicate_succ, Array.replicate_zero, List.push_toArray, List.append_toArray, List.nil_append, List.cons_append]
  gi_wp2
  go_ret
  exact ⟨rfl, rfl⟩

set_option maxRecDepth 100000 in
set_option maxHeartbeats 8000000 in
theorem regF1_in (m : Nat) (hm : 1 ≤ m) (lp bx B g io p : Nat) (J Jx : List (RgK p) → World → Prop) (hJ : OwnFrom B J)
    (hY : ∀ pre x W1, J pre W1 → YieldAt Fence.wide (m - 1) Tryd.prog lp (encG g io p x) W1 fun e W' =>
      ((e = .returned (.bool true) ∧ J (pre ++ [x]) W') ∨ (e = .returned (.bool false) ∧ Jx (pre ++ [x]) W')) ∧ Stays (fun k => False ∨ B ≤ k) W1 W')
    (W : World) (hB : W.heap.size = B) (hbx : W.heap[bx]? = some (.cells #[.pointer (some ⟨g, io, none⟩)] 138 (0, 0))) (hg : W.cell? ⟨g, io, none⟩ = some (.int .i64 (p : Int))) (hgl : g < W.heap.size) (hp : p < 14) (hT : TblF W) (h0 : J [] W) :
    CallsIn Fence.wide m Tryd.prog 127 #[.func (.yield lp) #[] #[], .pointer (some ⟨bx, 0, none⟩)] W fun e W' => (∃ v, e = .returned v) ∧
      ((∃ ys : List (RgK p), ys.map Subtype.val = rgF p 4 ∧ J ys W') ∨ (∃ pre : List (RgK p), pre.map Subtype.val <+: rgF p 4 ∧ Jx pre W')) := by
  refine callsIn_of_wp Tryd.func127 rfl trivial ?_ rfl
  simp only [Tryd.ntmps127, List.size_toArray, List.length_cons, List.length_nil, Nat.reduceAdd, Nat.reduceSub, Array.replicate_succ, Array.replicate_zero, List.push_toArray, List.append_toArray, List.nil_append, List.cons_append]
  subst hB
  have HY := Lib.hid hY
  have HJ := Lib.hid hJ
  have HS : Hid (∀ v, Below W.heap.size W v → v.cell? ⟨bx, 0, none⟩ = some (.pointer (some ⟨g, io, none⟩)) ∧ v.cell? ⟨g, io, none⟩ = some (.int .i64 (p : Int)) ∧ TblF v) := fun v hv => by
    refine ⟨?_, (World.cell?_of_block (w := W) (a := ⟨g, io, none⟩) (hv.block g hgl)).trans hg, hT.below hv hT.lt⟩
    rw [cell_at ((hv.block bx (Array.getElem?_eq_some_iff.1 hbx).1).trans hbx)]; rfl
  have x0 := (HS.out W (Below.refl _ _)).1
  obtain ⟨V, hV⟩ : ∃ V, W.alloc (.cells #[.pointer (some ⟨g, io + 1, none⟩), .pointer (some ⟨g, io + 2, none⟩), .pointer (some ⟨g, io + 3, none⟩), .pointer (some ⟨g, io + 4, none⟩)] 140) = V := ⟨_, rfl⟩
  have hbV : Below W.heap.size W V := by rw [← hV]; exact (Below.refl _ W).alloc (Nat.le_refl _) _
  have hpV : V.heap[W.heap.size]? = some (.cells #[.pointer (some ⟨g, io + 1, none⟩), .pointer (some ⟨g, io + 2, none⟩), .pointer (some ⟨g, io + 3, none⟩), .pointer (some ⟨g, io + 4, none⟩)] 140 (0, 0)) := by rw [← hV]; exact heap_alloc_new W _
  have x2 : (W.alloc (.cells #[.pointer none, .pointer none, .pointer none, .pointer none] 140)).drew.cell? ⟨bx, 0, none⟩ = some (.pointer (some ⟨g, io, none⟩)) := (HS.out (W.alloc (.cells #[.pointer none, .pointer none, .pointer none, .pointer none] 140)) ((Below.refl _ W).alloc (Nat.le_refl _) _)).1
  have x3 : (W.alloc (.cells #[.pointer (some ⟨g, io + 1, none⟩), .pointer (some ⟨g, io + 2, none⟩), .pointer (some ⟨g, io + 3, none⟩), .pointer (some ⟨g, io + 4, none⟩)] 140)).drew.cell? ⟨bx, 0, none⟩ = some (.pointer (some ⟨g, io, none⟩)) := by rw [hV]; exact (HS.out V hbV).1
  have x1 : W.drew.cell? ⟨bx, 0, none⟩ = some (.pointer (some ⟨g, io, none⟩)) := x0
  -- what stands in every world that a round has left
  have HQ : Hid (∀ v, Stays (fun k => False ∨ W.heap.size ≤ k) V v → v.cell? ⟨W.heap.size, 0, none⟩ = some (.pointer (some ⟨g, io + 1, none⟩)) ∧ v.cell? ⟨W.heap.size, 1, none⟩ = some (.pointer (some ⟨g, io + 2, none⟩)) ∧ v.cell? ⟨W.heap.size, 2, none⟩ = some (.pointer (some ⟨g, io + 3, none⟩)) ∧ v.cell? ⟨W.heap.size, 3, none⟩ = some (.pointer (some ⟨g, io + 4, none⟩))) := fun v hv => by
    have h1 := hv.same _ _ (.inr (by omega)) hpV
    exact ⟨by rw [cell_at h1]; rfl, by rw [cell_at h1]; rfl, by rw [cell_at h1]; rfl, by rw [cell_at h1]; rfl⟩
  have HJ0 : Hid (J [] V.drew) := by
    have h1 : J [] V.drew := own_below hJ h0 hbV.drew
    exact h1
  have HV := Lib.hid hV
  have HBD := Lib.hid hbV
  clear hY hJ h0 hV hpV hbx hg hT
  gi_wp2
  refine wpIn_wide.2 ?_
  go_region_held3 (fun v => v.cell? ⟨bx, 0, none⟩ = some (.pointer (some ⟨g, io, none⟩))) (first | (with_reducible assumption) | fail) (fail)
  rw [HV.out]
  clear x0 x1 x2 x3
  obtain ⟨y0, y1, y2⟩ := HS.out V.drew HBD.out.drew
  obtain ⟨_, t0, t1, t2, t3⟩ := y2.at p hp
  have hp0 : (0 : Int) ≤ (p : Int) := by omega
  have hp1 : (p : Int) < 14 := by omega
  clear y2
  gi_wp2
  clear t0 t1 t2 t3 y0 y1 hp0 hp1
  have hix0 := fun v => ix4_0 (kdAt p 0) (kdAt p 1) (kdAt p 2) (kdAt p 3) v
  have hix1 := fun v => ix4_1 (kdAt p 0) (kdAt p 1) (kdAt p 2) (kdAt p 3) v
  have hix2 := fun v => ix4_2 (kdAt p 0) (kdAt p 1) (kdAt p 2) (kdAt p 3) v
  have hix3 := fun v => ix4_3 (kdAt p 0) (kdAt p 1) (kdAt p 2) (kdAt p 3) v
  gi_loopw [26] (fun q wr => ∃ (k : Nat) (pre : List (RgK p)), k ≤ 4 ∧ q = .int .i64 (k : Int) ∧ pre.map Subtype.val = rgF p k ∧ J pre wr ∧ Stays (fun k => False ∨ W.heap.size ≤ k) V wr) (fun q _ => 4 - (intOf q).toNat)
  case atStart => exact ⟨0, [], Nat.zero_le _, rfl, rfl, HJ0.out, (Stays.refl _ _).drew⟩
  case round =>
    obtain ⟨k, pre, hk, rfl, hpre, hJ1, hS1⟩ := hrel
    have HPRE := Lib.hid hpre
    have HJ1 := Lib.hid hJ1
    have HS1 := Lib.hid hS1
    obtain ⟨c0, c1, c2, c3⟩ := HQ.out wr hS1
    clear hpre hJ1 hS1
    by_cases hlt : k < 4
    · have HPT := Lib.hid (fun (h : kdAt p k = 1) => rgF_t (p := p) (k := k) h)
      have HPF := Lib.hid (fun (h : kdAt p k ≠ 1) => rgF_f (p := p) (k := k) h)
      have HPP := Lib.hid (rgF_pre p (k := k + 1) (n := 4) (by omega))
      obtain rfl | rfl | rfl | rfl : k = 0 ∨ k = 1 ∨ k = 2 ∨ k = 3 := by omega
      · by_cases hq : kdAt p 0 = 1
        · have hqe : (((kdAt p 0 : Nat) : Int) == 1) = true := by rw [hq]; rfl
          obtain ⟨xk, hxk⟩ : ∃ xk : RgK p, xk.val = 0 := ⟨⟨0, by omega, hq⟩, rfl⟩
          have HPRE2 : Hid ((pre ++ [xk]).map Subtype.val = rgF p (0 + 1)) := by
            show List.map Subtype.val (pre ++ [xk]) = _
            rw [List.map_append, HPRE.out, HPT.out hq, List.map_singleton, hxk]
          obtain ⟨fn, tmps, assign, body, hy, hR⟩ := HY.out pre xk wr HJ1.out
          have HR := Lib.hid hR
          simp only [encG, hxk, Nat.zero_add] at hy
          clear hR HJ1 HPRE HPT HPF hq hxk
          gi_wp2
          refine HR.out.mono ?_
          clear HR hy
          rintro e W3 ⟨(⟨rfl, hJ3⟩ | ⟨rfl, hJ3⟩), hst⟩
          · have HREL : Hid (∃ (k' : Nat) (pre' : List (RgK p)), k' ≤ 4 ∧ Value.int .i64 ((((0 : Nat) : Int)) + 1) = .int .i64 (k' : Int) ∧ pre'.map Subtype.val = rgF p k' ∧ J pre' W3 ∧ Stays (fun k => False ∨ W.heap.size ≤ k) V W3) :=
              ⟨0 + 1, _, by omega, by go_num, HPRE2.out, hJ3, HS1.out.trans hst⟩
            clear hJ3 hst HPRE2 HS1
            gi_wp2
            go_roundw
            case rel => exact HREL.out
            case measure => simp [intOf]
          · have HFIN : Hid (∃ pre : List (RgK p), pre.map Subtype.val <+: rgF p 4 ∧ Jx pre W3) := ⟨_, by rw [HPRE2.out]; exact HPP.out, hJ3⟩
            clear hJ3 hst HPRE2 HS1
            gi_wp2
            refine bodyPost_ret (results_none rfl _ _ _) rfl ?_
            exact ⟨⟨_, rfl⟩, .inr HFIN.out⟩
        · have hqe : (((kdAt p 0 : Nat) : Int) == 1) = false := by
            rw [beq_eq_false_iff_ne]; omega
          have HREL : Hid (∃ (k' : Nat) (pre' : List (RgK p)), k' ≤ 4 ∧ Value.int .i64 ((((0 : Nat) : Int)) + 1) = .int .i64 (k' : Int) ∧ pre'.map Subtype.val = rgF p k' ∧ J pre' wr ∧ Stays (fun k => False ∨ W.heap.size ≤ k) V wr) :=
            ⟨0 + 1, pre, by omega, by go_num, by rw [HPRE.out, HPF.out hq], HJ1.out, HS1.out⟩
          clear HJ1 HPRE HS1 hq HPT HPF HPP
          gi_wp2
          refine ⟨fun _ h => (by cases h), ?_⟩
          gi_wp2
          go_roundw
          case rel => exact HREL.out
          case measure => simp [intOf]
      · by_cases hq : kdAt p 1 = 1
        · have hqe : (((kdAt p 1 : Nat) : Int) == 1) = true := by rw [hq]; rfl
          obtain ⟨xk, hxk⟩ : ∃ xk : RgK p, xk.val = 1 := ⟨⟨1, by omega, hq⟩, rfl⟩
          have HPRE2 : Hid ((pre ++ [xk]).map Subtype.val = rgF p (1 + 1)) := by
            show List.map Subtype.val (pre ++ [xk]) = _
            rw [List.map_append, HPRE.out, HPT.out hq, List.map_singleton, hxk]
          obtain ⟨fn, tmps, assign, body, hy, hR⟩ := HY.out pre xk wr HJ1.out
          have HR := Lib.hid hR
          simp only [encG, hxk, Nat.reduceAdd] at hy
          clear hR HJ1 HPRE HPT HPF hq hxk
          gi_wp2
          refine HR.out.mono ?_
          clear HR hy
          rintro e W3 ⟨(⟨rfl, hJ3⟩ | ⟨rfl, hJ3⟩), hst⟩
          · have HREL : Hid (∃ (k' : Nat) (pre' : List (RgK p)), k' ≤ 4 ∧ Value.int .i64 ((((1 : Nat) : Int)) + 1) = .int .i64 (k' : Int) ∧ pre'.map Subtype.val = rgF p k' ∧ J pre' W3 ∧ Stays (fun k => False ∨ W.heap.size ≤ k) V W3) :=
              ⟨1 + 1, _, by omega, by go_num, HPRE2.out, hJ3, HS1.out.trans hst⟩
            clear hJ3 hst HPRE2 HS1
            gi_wp2
            go_roundw
            case rel => exact HREL.out
            case measure => simp [intOf]
          · have HFIN : Hid (∃ pre : List (RgK p), pre.map Subtype.val <+: rgF p 4 ∧ Jx pre W3) := ⟨_, by rw [HPRE2.out]; exact HPP.out, hJ3⟩
            clear hJ3 hst HPRE2 HS1
            gi_wp2
            refine bodyPost_ret (results_none rfl _ _ _) rfl ?_
            exact ⟨⟨_, rfl⟩, .inr HFIN.out⟩
        · have hqe : (((kdAt p 1 : Nat) : Int) == 1) = false := by
            rw [beq_eq_false_iff_ne]; omega
          have HREL : Hid (∃ (k' : Nat) (pre' : List (RgK p)), k' ≤ 4 ∧ Value.int .i64 ((((1 : Nat) : Int)) + 1) = .int .i64 (k' : Int) ∧ pre'.map Subtype.val = rgF p k' ∧ J pre' wr ∧ Stays (fun k => False ∨ W.heap.size ≤ k) V wr) :=
            ⟨1 + 1, pre, by omega, by go_num, by rw [HPRE.out, HPF.out hq], HJ1.out, HS1.out⟩
          clear HJ1 HPRE HS1 hq HPT HPF HPP
          gi_wp2
          refine ⟨fun _ h => (by cases h), ?_⟩
          gi_wp2
          go_roundw
          case rel => exact HREL.out
          case measure => simp [intOf]
      · by_cases hq : kdAt p 2 = 1
        · have hqe : (((kdAt p 2 : Nat) : Int) == 1) = true := by rw [hq]; rfl
          obtain ⟨xk, hxk⟩ : ∃ xk : RgK p, xk.val = 2 := ⟨⟨2, by omega, hq⟩, rfl⟩
          have HPRE2 : Hid ((pre ++ [xk]).map Subtype.val = rgF p (2 + 1)) := by
            show List.map Subtype.val (pre ++ [xk]) = _
            rw [List.map_append, HPRE.out, HPT.out hq, List.map_singleton, hxk]
          obtain ⟨fn, tmps, assign, body, hy, hR⟩ := HY.out pre xk wr HJ1.out
          have HR := Lib.hid hR
          simp only [encG, hxk, Nat.reduceAdd] at hy
          clear hR HJ1 HPRE HPT HPF hq hxk
          gi_wp2
          refine HR.out.mono ?_
          clear HR hy
          rintro e W3 ⟨(⟨rfl, hJ3⟩ | ⟨rfl, hJ3⟩), hst⟩
          · have HREL : Hid (∃ (k' : Nat) (pre' : List (RgK p)), k' ≤ 4 ∧ Value.int .i64 ((((2 : Nat) : Int)) + 1) = .int .i64 (k' : Int) ∧ pre'.map Subtype.val = rgF p k' ∧ J pre' W3 ∧ Stays (fun k => False ∨ W.heap.size ≤ k) V W3) :=
              ⟨2 + 1, _, by omega, by go_num, HPRE2.out, hJ3, HS1.out.trans hst⟩
            clear hJ3 hst HPRE2 HS1
            gi_wp2
            go_roundw
            case rel => exact HREL.out
            case measure => simp [intOf]
          · have HFIN : Hid (∃ pre : List (RgK p), pre.map Subtype.val <+: rgF p 4 ∧ Jx pre W3) := ⟨_, by rw [HPRE2.out]; exact HPP.out, hJ3⟩
            clear hJ3 hst HPRE2 HS1
            gi_wp2
            refine bodyPost_ret (results_none rfl _ _ _) rfl ?_
            exact ⟨⟨_, rfl⟩, .inr HFIN.out⟩
        · have hqe : (((kdAt p 2 : Nat) : Int) == 1) = false := by
            rw [beq_eq_false_iff_ne]; omega
          have HREL : Hid (∃ (k' : Nat) (pre' : List (RgK p)), k' ≤ 4 ∧ Value.int .i64 ((((2 : Nat) : Int)) + 1) = .int .i64 (k' : Int) ∧ pre'.map Subtype.val = rgF p k' ∧ J pre' wr ∧ Stays (fun k => False ∨ W.heap.size ≤ k) V wr) :=
            ⟨2 + 1, pre, by omega, by go_num, by rw [HPRE.out, HPF.out hq], HJ1.out, HS1.out⟩
          clear HJ1 HPRE HS1 hq HPT HPF HPP
          gi_wp2
          refine ⟨fun _ h => (by cases h), ?_⟩
          gi_wp2
          go_roundw
          case rel => exact HREL.out
          case measure => simp [intOf]
      · by_cases hq : kdAt p 3 = 1
        · have hqe : (((kdAt p 3 : Nat) : Int) == 1) = true := by rw [hq]; rfl
          obtain ⟨xk, hxk⟩ : ∃ xk : RgK p, xk.val = 3 := ⟨⟨3, by omega, hq⟩, rfl⟩
          have HPRE2 : Hid ((pre ++ [xk]).map Subtype.val = rgF p (3 + 1)) := by
            show List.map Subtype.val (pre ++ [xk]) = _
            rw [List.map_append, HPRE.out, HPT.out hq, List.map_singleton, hxk]
          obtain ⟨fn, tmps, assign, body, hy, hR⟩ := HY.out pre xk wr HJ1.out
          have HR := Lib.hid hR
          simp only [encG, hxk, Nat.reduceAdd] at hy
          clear hR HJ1 HPRE HPT HPF hq hxk
          gi_wp2
          refine HR.out.mono ?_
          clear HR hy
          rintro e W3 ⟨(⟨rfl, hJ3⟩ | ⟨rfl, hJ3⟩), hst⟩
          · have HREL : Hid (∃ (k' : Nat) (pre' : List (RgK p)), k' ≤ 4 ∧ Value.int .i64 ((((3 : Nat) : Int)) + 1) = .int .i64 (k' : Int) ∧ pre'.map Subtype.val = rgF p k' ∧ J pre' W3 ∧ Stays (fun k => False ∨ W.heap.size ≤ k) V W3) :=
              ⟨3 + 1, _, by omega, by go_num, HPRE2.out, hJ3, HS1.out.trans hst⟩
            clear hJ3 hst HPRE2 HS1
            gi_wp2
            go_roundw
            case rel => exact HREL.out
            case measure => simp [intOf]
          · have HFIN : Hid (∃ pre : List (RgK p), pre.map Subtype.val <+: rgF p 4 ∧ Jx pre W3) := ⟨_, by rw [HPRE2.out]; exact HPP.out, hJ3⟩
            clear hJ3 hst HPRE2 HS1
            gi_wp2
            refine bodyPost_ret (results_none rfl _ _ _) rfl ?_
            exact ⟨⟨_, rfl⟩, .inr HFIN.out⟩
        · have hqe : (((kdAt p 3 : Nat) : Int) == 1) = false := by
            rw [beq_eq_false_iff_ne]; omega
          have HREL : Hid (∃ (k' : Nat) (pre' : List (RgK p)), k' ≤ 4 ∧ Value.int .i64 ((((3 : Nat) : Int)) + 1) = .int .i64 (k' : Int) ∧ pre'.map Subtype.val = rgF p k' ∧ J pre' wr ∧ Stays (fun k => False ∨ W.heap.size ≤ k) V wr) :=
            ⟨3 + 1, pre, by omega, by go_num, by rw [HPRE.out, HPF.out hq], HJ1.out, HS1.out⟩
          clear HJ1 HPRE HS1 hq HPT HPF HPP
          gi_wp2
          refine ⟨fun _ h => (by cases h), ?_⟩
          gi_wp2
          go_roundw
          case rel => exact HREL.out
          case measure => simp [intOf]
    · obtain rfl : k = 4 := by omega
      have HFIN : Hid (∃ ys : List (RgK p), ys.map Subtype.val = rgF p 4 ∧ J ys wr) := ⟨pre, HPRE.out, HJ1.out⟩
      clear HJ1 HPRE HS1 c0 c1 c2 c3
      gi_wp2
      go_end0
      exact ⟨⟨_, rfl⟩, .inl HFIN.out⟩

/-- **What registerFields hands back, for every loop body.** -/
theorem regF_seq (m : Nat) (hm : 1 ≤ m) (bx g io p : Nat) (w : World) (hbx : w.heap[bx]? = some (.cells #[.pointer (some ⟨g, io, none⟩)] 138 (0, 0))) (hg : w.cell? ⟨g, io, none⟩ = some (.int .i64 (p : Int))) (hgl : g < w.heap.size) (hp : p < 14) (hT : TblF w) :
    SeqL m Tryd.prog 127 #[.pointer (some ⟨bx, 0, none⟩)] (encG g io p) (fun _ => False) (fun ys => ys.map Subtype.val = rgF p 4) (fun pre => pre.map Subtype.val <+: rgF p 4) w := fun lp J Jx W hW hl hJ _ hY h0 =>
  regF1_in m hm lp bx W.heap.size g io p J Jx hJ hY W rfl ((hW.block bx (Array.getElem?_eq_some_iff.1 hbx).1).trans hbx) ((World.cell?_of_block (w := w) (a := ⟨g, io, none⟩) (hW.block g hgl)).trans hg) (Nat.lt_of_lt_of_le hgl hW.size) hp (hT.below hW hT.lt) h0

end Go.Proofs.YtbifbmpflhdijaaDoor

namespace Go.Proofs.YtbifbmpflhdijaaDoor
open Go.RowKit Go.Maps
set_option linter.unusedVariables false

theorem lawM : Keyed Tryd.prog 3 := int_keyed Tryd.underlying3
theorem zeroM (w : World) : (zeroValue 3).run Tryd.prog w = .ok (.int .i64 0) w := by kernel_rfl
theorem wfM {n : Nat} (h : n < 400) : (Lit.int .i64 (n : Int)).wf = true := WalkArith.wf_i64 (by omega)
theorem keyM {n : Nat} (h : n < 400) : keyOf Tryd.prog 3 (.int .i64 (n : Int)) = some (.int .i64 (n : Int)) := keyOf_int_mk Tryd.underlying3 (wfM h)

/-- The map holds the names' places. -/
def MapD (D : DataW Unit) (ns : List Nat) : Prop := (∀ r : Nat, Maps.has D (.int .i64 (r : Int)) = decide (r ∈ ns)) ∧ (∀ r : Nat, r ∈ ns → ∀ z, D.atKey (.int .i64 (r : Int)) z = .lit (.int .i64 ((ns.idxOf r : Nat) : Int))) ∧ Maps.size D = ns.length
theorem MapD.nil : MapD (.map []) [] := ⟨fun r => by simp [Maps.has_eq], fun r h => by simp at h, rfl⟩
theorem MapD.put {D : DataW Unit} {ns : List Nat} (h : MapD D ns) (ht : Tidy D) {r : Nat} (hr : r < 400) (hm : r ∉ ns) : MapD (D.put (.int .i64 (r : Int)) (.lit (.int .i64 ((ns.length : Nat) : Int)))) (ns ++ [r]) := by
  have hk : WideAt.IsKeyLit (.int .i64 (r : Int)) := lawM.key (keyM hr)
  have hne : ∀ q : Nat, q ≠ r → (Lit.int .i64 (q : Int)) ≠ .int .i64 (r : Int) := fun q hq e => by injection e with _ e; exact hq (by omega)
  refine ⟨fun q => ?_, fun q hq z => ?_, ?_⟩
  · by_cases e : q = r
    · subst e
      rw [Maps.has_put_same ht.isMap hk]; simp
    · rw [Maps.has_put_other (hne q e), h.1 q]; simp [e]
  · by_cases e : q = r
    · subst e
      rw [Maps.atKey_put_same ht.isMap hk, idx_new hm]
    · have hq2 : q ∈ ns := by simpa [e] using hq
      rw [Maps.atKey_put_other (hne q e), h.2.1 q hq2, idx_old hq2]
  · rw [Maps.size_put ht, h.1 r, if_neg (by simpa using hm), h.2.2]; simp
/-- A map in block mb that holds the names' places. -/
def NumM (w : World) (mb : Nat) (ns : List Nat) : Prop := ∃ D : DataW Unit, w.ownsMap Tryd.prog 3 (plainElem Tryd.prog 3) mb ns.length D ∧ MapD D ns
theorem NumM.lt {w : World} {mb : Nat} {ns : List Nat} (h : NumM w mb ns) : mb < w.heap.size := by obtain ⟨D, h, _⟩ := h; exact h.lt
theorem NumM.keep {w w' : World} {mb : Nat} {ns : List Nat} (h : NumM w mb ns) (hb : w'.heap[mb]? = w.heap[mb]?) : NumM w' mb ns := by
  obtain ⟨D, ⟨es, clock, h1, r⟩, h2⟩ := h
  exact ⟨D, ⟨es, clock, hb.trans h1, r⟩, h2⟩
theorem NumM.noRow {w : World} {mb : Nat} {ns : List Nat} (h : NumM w mb ns) : ∃ o, w.heap[mb]? = some o ∧ (∃ es clock, o = .map es clock) := by
  obtain ⟨D, ⟨es, clock, h1, r⟩, h2⟩ := h
  exact ⟨_, h1, _, _, rfl⟩

/-- What a call of the closure leaves. -/
def NumA (mb : Nat) (ns : List Nat) (r : Nat) (w : World) (e : Ending) (w' : World) : Prop := e = .returned (.int .i64 (((addN ns r).idxOf r : Nat) : Int)) ∧ NumM w' mb (addN ns r) ∧ w.grownBy w' (some mb)

set_option maxRecDepth 100000 in
set_option maxHeartbeats 4000000 in
/-- **renumbering$1.** -/
theorem num_one (cb mb : Nat) (ns : List Nat) (r : Nat) (w : World) (h : NumM w mb ns) (hok : NsOk ns) (hr : r < 14) (hc : w.cell? ⟨cb, 0, none⟩ = some (.map (some mb))) (hcm : cb ≠ mb) (hcl : cb < w.heap.size) :
    Calls Tryd.prog 126 #[.int .i64 (r : Int), .pointer (some ⟨cb, 0, none⟩)] w (NumA mb ns r w) := by
  obtain ⟨D, hown, hD⟩ := h
  have hlen : ns.length < 400 := by have := hok.len; omega
  have hr4 : r < 400 := by omega
  have HD := Lib.hid hD
  have hkey := keyM hr4
  by_cases hm : r ∈ ns
  · have hh : Maps.has D (.int .i64 (r : Int)) = true := by rw [hD.1 r]; simpa using hm
    have hat0 := hD.2.1 r hm
    have HF : Hid (∀ c : Int, D.atKey (.int .i64 (r : Int)) (.lit (.int .i64 0)) = .lit (.int .i64 c) → NumA mb ns r w (.returned (.int .i64 c)) w) := fun c hc => by
      rw [hat0] at hc
      injection hc with hc
      injection hc with _ hc
      subst hc
      exact ⟨by rw [addN_in hm], by rw [addN_in hm]; exact ⟨D, hown, hD⟩, World.grownBy.refl _ _⟩
    clear hat0 hm hD
    go_enter Tryd.func126, Tryd.ntmps126
    go_wp2_with (first
      | (at_lookup; refine wpList_lookup_own_ok_int _ rfl _ _ 136 rfl 3 3 .i64 lawM Tryd.underlying136 Tryd.underlying3 (zeroM _) mb ns.length _ rfl hown _ _ rfl hkey ?_; intro c hat hwc)
      | (at_lookup; refine wpList_lookup_own_int _ rfl _ _ 136 rfl 3 3 .i64 lawM Tryd.underlying136 Tryd.underlying3 (zeroM _) mb ns.length _ rfl hown _ _ rfl hkey ?_; intro c2 hat2 hwc2)
      | fail)
    go_ret
    exact HF.out _ hat2
  · have hh : Maps.has D (.int .i64 (r : Int)) = false := by rw [hD.1 r]; simpa using hm
    have hsz := hD.2.2
    have HF : Hid (∀ (w' : World) (c : Int), w'.ownsMap Tryd.prog 3 (plainElem Tryd.prog 3) mb (ns.length + 1) (D.put (.int .i64 (r : Int)) (.lit (.int .i64 ((ns.length : Nat) : Int)))) → w.grownBy w' (some mb) →
        (D.put (.int .i64 (r : Int)) (.lit (.int .i64 ((ns.length : Nat) : Int)))).atKey (.int .i64 (r : Int)) (.lit (.int .i64 0)) = .lit (.int .i64 c) → NumA mb ns r w (.returned (.int .i64 c)) w') := fun w' c ho hg hc => by
      have hp := hD.put (hown.tidy lawM) hr4 hm
      rw [hp.2.1 r (by simp)] at hc
      injection hc with hc
      injection hc with _ hc
      subst hc
      refine ⟨by rw [addN_new hm], ?_, hg⟩
      rw [addN_new hm]
      exact ⟨_, by rw [List.length_append]; exact ho, hp⟩
    have HC : Hid (∀ w', w.grownBy w' (some mb) → w'.cell? ⟨cb, 0, none⟩ = some (.map (some mb))) := fun w' hg =>
      (World.cell?_of_block (w := w) (a := ⟨cb, 0, none⟩) (hg.block cb hcl fun e => hcm (Option.some.inj e))).trans hc
    clear hm hD hcm
    go_enter Tryd.func126, Tryd.ntmps126
    go_wp2_with (first
      | (at_lookup; refine wpList_lookup_own_ok_int _ rfl _ _ 136 rfl 3 3 .i64 lawM Tryd.underlying136 Tryd.underlying3 (zeroM _) mb ns.length _ rfl hown _ _ rfl hkey ?_; intro c hat hwc)
      | (at_len; refine wpList_len_own _ rfl _ 136 rfl 3 3 Tryd.underlying136 _ mb ns.length _ rfl hown ?_; rw [hsz])
      | (at_mapUpdate; refine wpList_mapUpdate_own _ rfl _ _ _ 136 rfl 3 3 lawM Tryd.underlying136 _ mb ns.length _ rfl hown (by unfold maxLen; omega) _ _ _ rfl rfl hkey _ [] (plainElem_int Tryd.underlying3 (wfM hlen)) ?_; intro w1 hown1 hgrow1; have hc1 := HC.out w1 hgrow1)
      | (at_lookup; refine wpList_lookup_own_int _ rfl _ _ 136 rfl 3 3 .i64 lawM Tryd.underlying136 Tryd.underlying3 (zeroM _) mb (ns.length + 1) _ rfl hown1 _ _ rfl hkey ?_; intro c2 hat2 hwc2)
      | fail)
    go_ret
    exact HF.out _ _ hown1 hgrow1 hat2

set_option maxHeartbeats 2000000 in
/-- **renumbering.** -/
theorem renum_one (w : World) :
    Calls Tryd.prog 105 #[] w fun e w' => e = .returned (.func (.func 126) #[] #[.pointer (some ⟨w.heap.size + 1, 0, none⟩)]) ∧ NumM w' w.heap.size [] ∧ w'.heap[w.heap.size + 1]? = some (.cells #[.map (some w.heap.size)] 136 (0, 0)) ∧ w'.heap.size = w.heap.size + 2 ∧ Below w.heap.size w w' := by
  have hmm := @run_makeMap Tryd.prog
  go_enter Tryd.func105, Tryd.ntmps105
  go_wp2
  go_ret
  have hx := heap_alloc_new (w.alloc (.map #[] 0)) (.cells #[.map (some w.heap.size)] 136)
  rw [World.size_alloc] at hx
  refine ⟨rfl, ⟨.map [], (World.ownsMap_made w _ _ _).alloc _, MapD.nil⟩, hx, by simp, ((Below.refl _ w).alloc (Nat.le_refl _) _).alloc (by simp) _⟩

end Go.Proofs.YtbifbmpflhdijaaDoor

namespace Go.Proofs.YtbifbmpflhdijaaDoor
open Go.RowKit
set_option linter.unusedVariables false

theorem oper_inRound {l n : Nat} {P : Program} {o : Oper} {a : Act} {w : World} {K : Act → World → Prop} {Q : Exit → Act → World → Prop} (hd : ∀ c, o.op ≠ .defer c) (h : o.wp P a w K Q) : o.wpIn (Fence.wide.inRound l) n P a w K Q := by
  unfold Oper.wp at h
  unfold Oper.wpIn
  refine ⟨fun _ _ => trivial, ?_⟩
  rw [show (Fence.wide.inRound l).round = some l from rfl, Oper.semAt_some l _ _ hd]
  generalize (execOp a.eval o).run P w = r at h ⊢
  have hdep : ∀ q : Nat, ((Fence.wide.inRound l).depth.isSome = true → 1 ≤ q) := fun q e => by cases e
  cases r with
  | ok x w' =>
    cases x
    case enter f args => exact ⟨hdep n, CallsIn.inRound l (callsIn_wide.2 h)⟩
    case row r args =>
      refine ⟨hdep n, fun c cs _ => ?_⟩
      obtain ⟨v, w2, hr, hs⟩ := h c cs
      exact ⟨v, w2, hr, stepsIn_wide.2 hs⟩
    all_goals first | exact h | exact h.elim
  | halt x w' => cases x <;> first | exact h | exact h.elim

/-- No operation is a defer statement. -/
def noDefer (ops : Array Oper) : Bool := ops.toList.all fun o => match o.op with | .defer _ => false | _ => true
theorem noDefer_at {ops : Array Oper} (h : noDefer ops = true) {i : Nat} {o : Oper} (ho : ops[i]? = some o) : ∀ c, o.op ≠ .defer c := fun c e => by
  unfold noDefer at h
  rw [List.all_eq_true] at h
  have h1 := h o (by rw [Array.mem_toList_iff]; exact Array.mem_of_getElem? ho)
  rw [e] at h1
  cases h1
theorem any_inRound {l n : Nat} {P : Program} {md : Region.Mode} {ops : Array Oper} {Q : Exit → Act → World → Prop} (hd : noDefer ops = true) (hQ : ¬ LetsOut Q) : ∀ (fuel : Nat) (listed : Array Bool) (a : Act) (w : World), wpAny P md ops Q fuel listed a w → wpAnyIn (Fence.wide.inRound l) n P md ops Q fuel listed a w
  | 0, _, _, _, h => h
  | fuel + 1, listed, a, w, h => by
    refine ⟨h.1, fun i hi => ?_⟩
    have h2 := h.2 i hi
    unfold wpOp at h2
    unfold wpOpIn
    cases ho : ops[i]? with
    | none =>
      rw [ho] at h2
      exact any_inRound hd hQ fuel _ a w h2
    | some o =>
      rw [ho] at h2
      simp only at h2 ⊢
      by_cases hw : Region.wanted o (yielded ops a.tmps) = true
      · rw [if_pos hw] at h2 ⊢
        rcases h2 with h2 | h2
        · exact Oper.wpIn_mono (fun a w h => any_inRound hd hQ fuel _ a w h) (oper_inRound (noDefer_at hd ho) h2)
        · exact absurd h2.2 hQ
      · rw [if_neg hw] at h2 ⊢
        exact ⟨fun _ _ => trivial, any_inRound hd hQ fuel _ _ w h2⟩

/-- **A drawn region within a round**: one condition on the world for the whole region, as outside of rounds. -/
theorem wpIn_region_held {l n id : Nat} {P : Program} {ops : Array Oper} {Q : Exit → Act → World → Prop} {a : Act} {w : World} {S : World → Prop} (hm : P.follows .mixedOrders = true) (hd : noDefer ops = true) (hQ : ¬ LetsOut Q) (hS : S w.drew)
    (h : S w.drew → wpAnyH P .any ops Q S ops.size (Array.replicate ops.size false) a w.drew) : (Code.region id ops true).wpIn (Fence.wide.inRound l) n P Q a w :=
  wpIn_region_any hm (any_inRound hd hQ _ _ _ _ (wpAny_of_held _ _ _ _ (h hS)))

end Go.Proofs.YtbifbmpflhdijaaDoor

namespace Go.Proofs.YtbifbmpflhdijaaDoor
open Go.RowKit Go.Shelf
set_option linter.unusedVariables false

attribute [local go_sem] Oper.semAt_some

/-- Marks among the deferred calls. -/
def markD (rs : List Nat) : List Deferred := rs.map fun r => { target := .collected r, args := #[] }
def MarksAt (base : Nat) (rs : List Nat) (w : World) : Prop := rs.Nodup ∧ ∀ r ∈ rs, base ≤ r ∧ w.heap[r]? = some (.deferred (some []))
theorem leaves_marks {P : Program} {F : Fence} {n : Nat} {fn : Func} {tmps : Array Value} {R : Ending → World → Prop} (base : Nat) : ∀ (rs : List Nat) (w : World), MarksAt base rs w → base ≤ w.heap.size →
    (∀ w', (∀ k, k < base → w'.heap[k]? = w.heap[k]?) → Below base w w' → LeavesInM F n P fn tmps R [] .returning w') → LeavesInM F n P fn tmps R (markD rs) .returning w
  | [], w, _, hb, h => h w (fun _ _ => rfl) (Below.refl _ _)
  | r :: rs, w, hm, hb, h => by
    obtain ⟨hr1, hr2⟩ := hm.2 r (List.mem_cons_self ..)
    have hnd := List.nodup_cons.1 hm.1
    have hbw : Below base w (w.putObj r (.deferred none)) := ⟨rfl, rfl, rfl, by simp [World.putObj], fun k hk => World.putObj_heap_other (by omega)⟩
    refine ⟨by simp, .inl ⟨r, _, rfl, run_takeDeferred hr2, ?_⟩⟩
    refine leaves_marks base rs _ ⟨hnd.2, fun q hq => ?_⟩ (by simpa [World.putObj] using hb) fun w' h1 h2 => h w' (fun k hk => (h1 k hk).trans (hbw.block k hk)) (hbw.trans h2)
    obtain ⟨a1, a2⟩ := hm.2 q (List.mem_cons_of_mem _ hq)
    exact ⟨a1, (World.putObj_heap_other (fun e => hnd.1 (by rw [← e]; exact hq))).trans a2⟩

/-- What stands between the rounds. -/
structure CmW (w : World) (ca : Option Addr) (n cc mb : Nat) (ys : List Ins) (ns : List Nat) (U : World) : Prop where
  row : U.ownsRow w.heap.size 50 5 (.slice ca n cc) n (flatN ys)
  blk : ∀ g, (Value.slice ca n cc).ownBlock = some g → g < mb
  num : NumM U mb ns
  cbx : U.heap[mb + 1]? = some (.cells #[.map (some mb)] 136 (0, 0))
  fbx : U.heap[mb + 2]? = some (.cells #[.func (.func 126) #[] #[.pointer (some ⟨mb + 1, 0, none⟩)]] 110 (0, 0))
  bel : Below w.heap.size w U
theorem CmW.later {w : World} {ca : Option Addr} {n cc mb : Nat} {ys : List Ins} {ns : List Nat} {U V : World} (h : CmW w ca n cc mb ys ns U) (hb : ∀ k, k < mb + 3 → V.heap[k]? = U.heap[k]?) (hw : Below w.heap.size w V) : CmW w ca n cc mb ys ns V :=
  ⟨h.row.far5 fun g hg _ => hb g (by have := h.blk g hg; omega), h.blk, h.num.keep (hb mb (by omega)), (hb _ (by omega)).trans h.cbx, (hb _ (by omega)).trans h.fbx, hw⟩
theorem CmW.lt {w : World} {ca : Option Addr} {n cc mb : Nat} {ys : List Ins} {ns : List Nat} {U : World} (h : CmW w ca n cc mb ys ns U) : mb + 2 < U.heap.size := (Array.getElem?_eq_some_iff.1 h.fbx).1

theorem flatN_set3 : ∀ (ys : List Ins) (i : Nat) (y : Ins) (v : Int), ys[i]? = some y → (flatN ys).set (i * 5 + 3) (.int .i64 v) = flatN (ys.set i ⟨y.op, y.fa, y.fb, v, y.fd⟩)
  | [], i, y, v, h => by simp at h
  | z :: zs, 0, y, v, h => by simp at h; subst h; simp [flatN]
  | z :: zs, i + 1, y, v, h => by
    have e : (i + 1) * 5 + 3 = i * 5 + 3 + 1 + 1 + 1 + 1 + 1 := by omega
    simp only [e, flatN, List.set_cons_succ]
    rw [flatN_set3 zs i y v (by simpa using h)]
theorem flatN_set4 : ∀ (ys : List Ins) (i : Nat) (y : Ins) (v : Int), ys[i]? = some y → (flatN ys).set (i * 5 + 4) (.int .i64 v) = flatN (ys.set i ⟨y.op, y.fa, y.fb, y.fc, v⟩)
  | [], i, y, v, h => by simp at h
  | z :: zs, 0, y, v, h => by simp at h; subst h; simp [flatN]
  | z :: zs, i + 1, y, v, h => by
    have e : (i + 1) * 5 + 4 = i * 5 + 4 + 1 + 1 + 1 + 1 + 1 := by omega
    simp only [e, flatN, List.set_cons_succ]
    rw [flatN_set4 zs i y v (by simpa using h)]
theorem flatN_fd {ys : List Ins} {i : Nat} {y : Ins} (v : Int) (h : ys[i]? = some y) {j : Nat} (hj : j < 4) : (flatN ys).set (i * 5 + (j + 1)) (.int .i64 v) = flatN (ys.set i (setFd y v j)) := by
  obtain rfl | rfl | rfl | rfl : j = 0 ∨ j = 1 ∨ j = 2 ∨ j = 3 := by omega
  · exact flatN_set1 ys i y v h
  · exact flatN_set2 ys i y v h
  · exact flatN_set3 ys i y v h
  · exact flatN_set4 ys i y v h
theorem flatN_pt {ys : List Ins} {i : Nat} {y : Ins} (h : ys[i]? = some y) {j : Nat} (hj : j < 4) : (flatN ys)[i * 5 + (j + 1)]? = some (.int .i64 (y.part j)) := by
  obtain ⟨_, h1, h2, h3, h4⟩ := flatN_at ys i y h
  obtain rfl | rfl | rfl | rfl : j = 0 ∨ j = 1 ∨ j = 2 ∨ j = 3 := by omega
  · exact h1
  · exact h2
  · exact h3
  · exact h4
/-- Between the fields of one instruction: the state behind those that have been yielded. -/
def stp (l : List Ins) (k p : Nat) (x : Ins) (pre : List (RgK p)) : List Nat × Ins := (pre.map Subtype.val).foldl (stK p) ((cmpS l k).1, x)
theorem stp_snoc {l : List Ins} {k p : Nat} {x : Ins} {pre : List (RgK p)} {j : RgK p} : stp l k p x (pre ++ [j]) = stK p (stp l k p x pre) j.val := by
  unfold stp; rw [List.map_append, List.foldl_append]; rfl
def CmI2 (l : List Ins) (w : World) (ca : Option Addr) (n cc mb k p : Nat) (x : Ins) (rs : List Nat) (pre : List (RgK p)) (U : World) : Prop :=
  CmW w ca n cc mb ((cmpS l k).2.set k (stp l k p x pre).2) (stp l k p x pre).1 U ∧ MarksAt (mb + 3) rs U

/-- What a round over one field leaves. -/
theorem cmI2_step {l : List Ins} {w : World} {g n cc mb k p : Nat} {x : Ins} {rs : List Nat} {pre : List (RgK p)} {U : World} {B : Nat} (h : CmI2 l w (some ⟨g, 0, none⟩) n cc mb k p x rs pre U) (hk : k < n) (hl : (cmpS l k).2.length = n) (hg : w.heap.size ≤ g) (hgm : g < mb) (hB : mb + 3 ≤ B) (hmw : w.heap.size ≤ mb)
    {j : RgK p} {r : Nat} (hr : (stp l k p x pre).2.part j.val = (r : Int)) {e : Ending} {w2 : World} (hA : NumA mb (stp l k p x pre).1 r U e w2) :
    CmI2 l w (some ⟨g, 0, none⟩) n cc mb k p x rs (pre ++ [j]) (w2.setCell ⟨g, k * 5 + (j.val + 1), none⟩ (.int .i64 (((addN (stp l k p x pre).1 r).idxOf r : Nat) : Int))) ∧ Stays (fun q => False ∨ B ≤ q) U (w2.setCell ⟨g, k * 5 + (j.val + 1), none⟩ (.int .i64 (((addN (stp l k p x pre).1 r).idxOf r : Nat) : Int))) ∧
      (∃ u, w2.cell? ⟨g, k * 5 + (j.val + 1), none⟩ = some u) ∧ w2.frozen? ⟨g, k * 5 + (j.val + 1), none⟩ = false ∧ w2.heap[mb + 2]? = U.heap[mb + 2]? := by
  obtain ⟨hc, hmk⟩ := h
  obtain ⟨_, hnum, hgr⟩ := hA
  have hlt := hc.lt
  have hoth : ∀ q, q ≠ mb → q < U.heap.size → w2.heap[q]? = U.heap[q]? := fun q hq hl => hgr.block q hl fun e => hq (Option.some.inj e)
  have hrow : w2.ownsRow w.heap.size 50 5 (.slice (some ⟨g, 0, none⟩) n cc) n (flatN ((cmpS l k).2.set k (stp l k p x pre).2)) := hc.row.far5 fun g' hg' hl' => hoth g' (by have := hc.blk g' hg'; omega) hl'
  have hyk : ((cmpS l k).2.set k (stp l k p x pre).2)[k]? = some (stp l k p x pre).2 := List.getElem?_set_self (by omega)
  have hj := j.2.1
  have hcx := ownsRow_cellx hrow (k * 5 + (j.val + 1)) (by omega)
  have hst := (hrow.stored (k * 5 + (j.val + 1)) (.int .i64 (((addN (stp l k p x pre).1 r).idxOf r : Nat) : Int))).1
  rw [flatN_fd _ hyk hj] at hst
  have hset : ∀ q, q ≠ g → (w2.setCell ⟨g, k * 5 + (j.val + 1), none⟩ (.int .i64 (((addN (stp l k p x pre).1 r).idxOf r : Nat) : Int))).heap[q]? = w2.heap[q]? := fun q hq => Below.heap_setCell _ _ _ _ (fun e => hq (by rw [e]))
  have hsz : (w2.setCell ⟨g, k * 5 + (j.val + 1), none⟩ (.int .i64 (((addN (stp l k p x pre).1 r).idxOf r : Nat) : Int))).heap.size = w2.heap.size := by simp [World.setCell]
  have e1 : stp l k p x (pre ++ [j]) = (addN (stp l k p x pre).1 r, setFd (stp l k p x pre).2 (((addN (stp l k p x pre).1 r).idxOf r : Nat) : Int) j.val) := by
    rw [stp_snoc, stK_t j.2.2, hr]; simp
  refine ⟨⟨?_, hmk.1, fun q hq => ?_⟩, ⟨by rw [hsz]; exact hgr.size, fun q o hq ho => ?_⟩, hcx.1, hcx.2, hoth _ (by omega) (by omega)⟩
  · rw [e1]
    refine ⟨?_, hc.blk, hnum.keep (hset _ (by omega)), (hset _ (by omega)).trans ((hoth _ (by omega) (by omega)).trans hc.cbx), (hset _ (by omega)).trans ((hoth _ (by omega) (by omega)).trans hc.fbx), ?_⟩
    · show World.ownsRow _ _ _ _ _ n (flatN ((cmpS l k).2.set k (setFd (stp l k p x pre).2 (((addN (stp l k p x pre).1 r).idxOf r : Nat) : Int) j.val)))
      rw [List.set_set] at hst
      exact hst
    · exact (hc.bel.grown hgr hc.bel.size (fun q hq => by have := Option.some.inj hq; omega)).setCell (p := ⟨g, k * 5 + (j.val + 1), none⟩) hg _
  · obtain ⟨a1, a2⟩ := hmk.2 q hq
    exact ⟨a1, (hset q (by omega)).trans ((hoth q (by omega) (Array.getElem?_eq_some_iff.1 a2).1).trans a2)⟩
  · have hq2 : B ≤ q := hq.resolve_left id
    exact (hset q (by omega)).trans ((hoth q (by omega) (Array.getElem?_eq_some_iff.1 ho).1).trans ho)

set_option maxRecDepth 100000 in
set_option maxHeartbeats 8000000 in
/-- **compacted.** -/
theorem compacted_in (l : List Ins) (la : Option Addr) (n lc nv na nl : Nat) (w : World) (h : NAt w (fun b => b < w.heap.size) l la) (hn : l.length = n) (hm : n ≤ 400) (hi : ∀ x ∈ l, insB nv na nl x = true) (hT : TblF w) :
    CallsIn Fence.wide 8 Tryd.prog 77 #[.slice la n lc] w (CloneN (cmpS l n).2 n w) := by
  have H1 := Lib.hid (cloneN_one l la n lc w h hn (by omega))
  have HN := Lib.hid hn
  have HI := Lib.hid hi
  have HT : Hid (∀ v, Below w.heap.size w v → TblF v) := fun v hv => hT.below hv hT.lt
  clear h hn hi hT
  refine callsIn_of_wp_marks Tryd.func77 rfl trivial ?_ rfl
  simp only [Tryd.ntmps77, List.size_toArray, List.length_cons, List.length_nil, Nat.reduceAdd, Nat.reduceSub, Array.replicate_succ, Array.replicate_zero, List.push_toArray, List.append_toArray, List.nil_append, List.cons_append]
  gi_wp2_with (first
    | (refine ⟨trivial, ?_⟩; gi_at_call 103; refine (callsIn_wide.2 H1.out).mono ?_; rintro e w1 ⟨ca, cc, rfl, hown, hb1⟩)
    | (refine ⟨trivial, ?_⟩; gi_at_call 105; refine (callsIn_wide.2 (renum_one _)).mono ?_; rintro e w2 ⟨rfl, hnum, hcb, hsz, hb2⟩; have HSZ := Lib.hid hsz; clear hsz)
    | fail)
  obtain ⟨V, hV⟩ : ∃ V, w2.alloc (.cells #[.func (.func 126) #[] #[.pointer (some ⟨w1.heap.size + 1, 0, none⟩)]] 110) = V := ⟨_, rfl⟩
  have hbV : Below w2.heap.size w2 V := by rw [← hV]; exact (Below.refl _ _).alloc (Nat.le_refl _) _
  have hb1V : Below w1.heap.size w1 V := hb2.trans (hbV.mono (by have := hb2.size; exact this))
  have hzV : V.heap.size = w1.heap.size + 3 := by rw [← hV, World.size_alloc, HSZ.out]
  have hfV : V.heap[w1.heap.size + 2]? = some (.cells #[.func (.func 126) #[] #[.pointer (some ⟨w1.heap.size + 1, 0, none⟩)]] 110 (0, 0)) := by
    rw [← hV, ← HSZ.out]; exact heap_alloc_new w2 _
  have hblk : ∀ g, (Value.slice ca n cc).ownBlock = some g → g < w1.heap.size := fun g hg => (hown.lt g hg).2
  have hC0 : CmW w ca n cc w1.heap.size (cmpS l 0).2 (cmpS l 0).1 V := by
    refine ⟨hown.far5 fun g hg hl => hb1V.block g hl, hblk, hnum.keep (hbV.block _ ?_), (hbV.block _ ?_).trans hcb, hfV, hb1.trans (hb1V.mono hb1.size)⟩
    · rw [HSZ.out]; omega
    · rw [HSZ.out]; omega
  have HC0 := Lib.hid hC0
  have HV := Lib.hid hV
  have HZV := Lib.hid hzV
  have HBB := Lib.hid (hb1.size)
  have HMB := Lib.hid (show w2.heap.size = w1.heap.size + 2 from HSZ.out)
  obtain ⟨mb, hmbe⟩ : ∃ mb, w1.heap.size = mb := ⟨_, rfl⟩
  rw [hmbe] at HC0 HZV HBB HMB HV ⊢
  clear hown hb1 hnum hcb hb2 hV hbV hb1V hzV hfV hblk hC0 HSZ hmbe
  gi_wp2
  rw [HV.out, HMB.out]
  clear HMB HV
  have HB3 := Lib.hid HZV.out
  refine wpIn_loop (fun a U => ∃ (k : Nat) (rs : List Nat) (u5 u6 u13 u14 u15 u16 u17 u18 u19 u20 u21 u22 u23 u24 u25 u26 u27 : Value), k ≤ n ∧ MarksAt (mb + 3) rs U ∧ CmW w ca n cc mb (cmpS l k).2 (cmpS l k).1 U ∧
    a = { tmps := #[.slice la n lc, undef, .slice none 0 0, .slice ca n cc, .pointer (some ⟨mb + 2, 0, none⟩), u5, u6, .slice la n lc, .slice ca n cc, .func (.func 126) #[] #[.pointer (some ⟨mb + 1, 0, none⟩)], .slice ca n cc, .int .i64 (n : Int), .int .i64 (k : Int), u13, u14, u15, u16, u17, u18, u19, u20, u21, u22, u23, u24, u25, u26, u27, undef], defers := markD rs })
    (fun a U => n - (intOf (a.tmps.getD 12 undef)).toNat) ⟨0, [], _, _, _, _, _, _, _, _, _, _, _, _, _, _, _, _, _, Nat.zero_le _, ⟨List.nodup_nil, fun r hr => by simp at hr⟩, HC0.out, rfl⟩ ?_
  rintro a U ⟨k, rs, u5, u6, u13, u14, u15, u16, u17, u18, u19, u20, u21, u22, u23, u24, u25, u26, u27, hk, hmk, hc, rfl⟩
  have HMK := Lib.hid hmk
  have HC := Lib.hid hc
  clear hmk hc HC0
  by_cases hlt : k < n
  · obtain ⟨x, hx⟩ : ∃ x, l[k]? = some x := ⟨l[k]'(by rw [HN.out]; exact hlt), List.getElem?_eq_getElem _⟩
    have hlen : (cmpS l k).2.length = n := by rw [cmpS_len]; exact HN.out
    have hyk : (cmpS l k).2[k]? = some x := (cmpS_at l k k (Nat.le_refl _)).trans hx
    obtain ⟨g, rfl, hg⟩ : ∃ g, ca = some ⟨g, 0, none⟩ ∧ w.heap.size ≤ g := by
      rcases HC.out.row.2 with ⟨e, e2⟩ | ⟨g, cap', cur, e, hb, hg, hn', hm', hc, ht⟩
      · omega
      · injection e with e1 e2 e3
        exact ⟨g, e1, hb⟩
    have hgm : g < mb := HC.out.blk g rfl
    have hmbU := HC.out.lt
    have hib := HI.out x (List.mem_of_getElem? hx)
    obtain ⟨p, hp⟩ : ∃ p : Nat, x.op = (p : Int) := ⟨x.op.toNat, by have := insB_opM hib; omega⟩
    have hp14 : p < 14 := by have := insB_opM hib; omega
    have hpt : x.op.toNat = p := by rw [hp]; rfl
    have hOK0 : OkS p ((cmpS l k).1, x) := ⟨cmpS_ok HI.out k, fun j hj hpj => insB_reg hib j hj (by rw [hpt]; exact hpj)⟩
    have hcell : U.cell? ⟨g, k * 5, none⟩ = some (.int .i64 (p : Int)) := by
      rw [← hp]
      exact (HC.out.row.cellAt (k * 5) (by omega)).trans (flatN_at _ k x hyk).1
    obtain ⟨U1, hU1⟩ : ∃ U1, U.alloc (.cells #[.pointer (some ⟨g, k * 5, none⟩)] 138) = U1 := ⟨_, rfl⟩
    have hz1 : U1.heap.size = U.heap.size + 1 := by rw [← hU1]; simp
    have hb1 : Below U.heap.size U U1 := by rw [← hU1]; exact (Below.refl _ _).alloc (Nat.le_refl _) _
    have hbx : U1.heap[U.heap.size]? = some (.cells #[.pointer (some ⟨g, k * 5, none⟩)] 138 (0, 0)) := by rw [← hU1]; exact heap_alloc_new U _
    have hcell1 : U1.cell? ⟨g, k * 5, none⟩ = some (.int .i64 (p : Int)) := (World.cell?_of_block (w := U) (a := ⟨g, k * 5, none⟩) (hb1.block g (by omega))).trans hcell
    have hT1 : TblF U1 := HT.out U1 (HC.out.bel.trans (hb1.mono HC.out.bel.size))
    have HSEQ := Lib.hid (regF_seq 7 (by omega) U.heap.size g (k * 5) p U1 hbx hcell1 (by omega) hp14 hT1)
    have hrsU : ∀ r ∈ rs, r < U.heap.size := fun r hr => (Array.getElem?_eq_some_iff.1 (HMK.out.2 r hr).2).1
    have HI0 : Hid (CmI2 l w (some ⟨g, 0, none⟩) n cc mb k p x rs [] U1) := by
      refine ⟨?_, HMK.out.1, fun r hr => ⟨(HMK.out.2 r hr).1, (hb1.block r (hrsU r hr)).trans (HMK.out.2 r hr).2⟩⟩
      have e : (cmpS l k).2.set k (stp l k p x []).2 = (cmpS l k).2 := by
        apply List.ext_getElem?
        intro q
        by_cases e : k = q
        · subst e; rw [List.getElem?_set_self (by omega)]; exact hyk.symm
        · rw [List.getElem?_set_ne e]
      rw [e]
      exact HC.out.later (fun q hq => hb1.block q (by omega)) (HC.out.bel.trans (hb1.mono HC.out.bel.size))
    have HU1 := Lib.hid hU1
    have HX := Lib.hid hx
    have HPT := Lib.hid hpt
    have HOK0 := Lib.hid hOK0
    have HRS := Lib.hid hrsU
    have HLEN := Lib.hid hlen
    clear hx hlen hyk hib hp hpt hOK0 hcell hU1 hb1 hbx hcell1 hT1 hrsU
    gi_wp2_with (first | (refine ⟨trivial, ?_⟩; gi_at_call 106; refine (regF_in _ _ _ _).mono ?_; rintro e w3 ⟨rfl, rfl⟩) | fail)
    rw [HU1.out]
    have HDF : Hid (∀ j, False → j < U1.heap.size) := fun _ h => h.elim
    refine wpIn_rangeL (by omega) (gf := 127) (lb := #[.pointer (some ⟨U.heap.size, 0, none⟩)]) (by simp [go_sem]) (enters_of Tryd.func127 (by kernel_rfl) rfl)
      HSEQ.out HDF.out (Below.refl _ _) (fun _ => rfl)
      (fun pre X => CmI2 l w (some ⟨g, 0, none⟩) n cc mb k p x rs pre X) (fun _ _ _ => False) ?hI (fun c s X Y row hs _ _ => hs.elim) HI0.out
      (fun y => { tmps := #[.slice la n lc, undef, .slice none 0 0, .slice (some ⟨g, 0, none⟩) n cc, .pointer (some ⟨mb + 2, 0, none⟩), .int .i64 (k : Int), .pointer (some ⟨g, k * 5 + (y.val + 1), none⟩), .slice la n lc, .slice (some ⟨g, 0, none⟩) n cc, .func (.func 126) #[] #[.pointer (some ⟨mb + 1, 0, none⟩)], .slice (some ⟨g, 0, none⟩) n cc, .int .i64 (n : Int), .int .i64 (k : Int), .bool true, .int .i64 (k : Int), .slice (some ⟨g, 0, none⟩) n cc, .int .i64 (k : Int), .pointer (some ⟨g, k * 5, none⟩), .func (.func 127) #[] #[.pointer (some ⟨U.heap.size, 0, none⟩)], .pointer (some ⟨g, k * 5 + (y.val + 1), none⟩), u20, u21, u22, u23, u24, u25, u26, u27, undef], defers := [] }) ?assign ?body ?done (fun d c pre X _ _ hs _ => hs.elim)
    case hI =>
      rintro pre X Y row ⟨hc, hmk⟩ hgr hrw
      have hst : ∀ q, q < U1.heap.size → q < X.heap.size → Y.heap[q]? = X.heap[q]? := fun q hq hx => hgr.block q hx fun e => by have := (hrw q e.symm).1; omega
      have hltX := hc.lt
      have hbs := hc.bel.size
      have hmw := HBB.out
      refine ⟨hc.later (fun q hq => hst q (by omega) (by omega)) (hc.bel.trans ⟨hgr.os, hgr.tape, hgr.output, hgr.size, fun q hq => hst q (by omega) (by omega)⟩), hmk.1, fun q hq => ⟨(hmk.2 q hq).1, (hst q (by have := HRS.out q hq; omega) (Array.getElem?_eq_some_iff.1 (hmk.2 q hq).2).1).trans (hmk.2 q hq).2⟩⟩
    case assign =>
      intro l2 y X K hK
      gi_wp2
      exact hK
    case body =>
      rintro l2 pre y X ⟨hc, hmk⟩
      try dsimp only
      have hok := HOK0.out.fold pre
      have hpr := hok.2 y.val y.2.1 y.2.2
      obtain ⟨r, hr⟩ : ∃ r : Nat, (stp l k p x pre).2.part y.val = (r : Int) := ⟨((stp l k p x pre).2.part y.val).toNat, by unfold stp; omega⟩
      have hr14 : r < 14 := by unfold stp at hr; omega
      have hyk : ((cmpS l k).2.set k (stp l k p x pre).2)[k]? = some (stp l k p x pre).2 := List.getElem?_set_self (by rw [HLEN.out]; exact hlt)
      have hy4 := y.2.1
      have hcd : X.drew.cell? ⟨g, k * 5 + (y.val + 1), none⟩ = some (.int .i64 (r : Int)) := by
        rw [← hr]
        exact (hc.row.cellAt (k * 5 + (y.val + 1)) (by omega)).trans (flatN_pt hyk y.2.1)
      have hfd : X.drew.cell? ⟨mb + 2, 0, none⟩ = some (.func (.func 126) #[] #[.pointer (some ⟨mb + 1, 0, none⟩)]) := by
        have h1 : X.cell? ⟨mb + 2, 0, none⟩ = some (.func (.func 126) #[] #[.pointer (some ⟨mb + 1, 0, none⟩)]) := by rw [cell_at hc.fbx]; rfl
        exact h1
      have hcmd : X.drew.cell? ⟨mb + 1, 0, none⟩ = some (.map (some mb)) := by
        have h1 : X.cell? ⟨mb + 1, 0, none⟩ = some (.map (some mb)) := by rw [cell_at hc.cbx]; rfl
        exact h1
      have hltX := hc.lt
      have hcX : CmI2 l w (some ⟨g, 0, none⟩) n cc mb k p x rs pre X.drew := ⟨hc.later (fun _ _ => rfl) hc.bel.drew, hmk⟩
      have HNUM := Lib.hid (num_one (mb + 1) mb (stp l k p x pre).1 r X.drew hcX.1.num hok.1 hr14 hcmd (by omega) (by show mb + 1 < X.heap.size; omega))
      have HSTEP : Hid (∀ (e : Ending) (w2 : World), NumA mb (stp l k p x pre).1 r X.drew e w2 → _) := fun e w2 hA => cmI2_step (B := U1.heap.size) hcX hlt HLEN.out hg hgm (by omega) HBB.out hr hA
      have hfb := hc.fbx
      have HFB := Lib.hid hfb
      obtain ⟨yv, hyv⟩ : ∃ yv, y.val = yv := ⟨_, rfl⟩
      rw [hyv] at hcd HSTEP ⊢
      have hyv4 : yv < 4 := by omega
      have HYV := Lib.hid hyv
      clear hc hmk hok hpr hr hr14 hyk hy4 hcmd hcX hfb hyv
      gi_wp2
      refine wpIn_region_held (S := fun v => v.cell? ⟨mb + 2, 0, none⟩ = some (.func (.func 126) #[] #[.pointer (some ⟨mb + 1, 0, none⟩)])) (by kernel_rfl) (by kernel_rfl) (fun h => by obtain ⟨_, _, h⟩ := h; exact h) hfd (fun hHeld => ?_)
      refine wpAnyH_take (i := 0) (oi := ⟨some 20, _, _, _, _, _⟩) (v := ?_) rfl (by kernel_rfl) (by kernel_rfl) (by kernel_rfl) (fun _ _ _ h => h) (Or.inl ⟨by rfl, ?_⟩) (by assumption) ?_
      rotate_left
      · intro w hSw; (try dsimp only at hSw); go_simp; (try with_reducible rfl)
      simp only [Act.put, List.setIfInBounds_toArray, List.set_cons_zero, List.set_cons_succ]
      refine wpAnyH_take (i := 1) (oi := ⟨some 21, _, _, _, _, _⟩) (v := ?_) rfl (by kernel_rfl) (by kernel_rfl) (by kernel_rfl) (fun _ _ _ h => h) (Or.inl ⟨by rfl, ?_⟩) (by assumption) ?_
      rotate_left
      · intro w hSw; (try dsimp only at hSw); go_simp; (try with_reducible rfl)
      simp only [Act.put, List.setIfInBounds_toArray, List.set_cons_zero, List.set_cons_succ]
      refine wpAnyH_take (i := 2) (oi := ⟨some 22, _, _, _, _, _⟩) (v := ?_) rfl (by kernel_rfl) (by kernel_rfl) (by kernel_rfl) (fun _ _ _ h => h) (Or.inl ⟨by rfl, ?_⟩) (by assumption) ?_
      rotate_left
      · intro w hSw; (try dsimp only at hSw); go_simp; (try with_reducible rfl)
      simp only [Act.put, List.setIfInBounds_toArray, List.set_cons_zero, List.set_cons_succ]
      refine wpAnyH_take (i := 3) (oi := ⟨some 23, _, _, _, _, _⟩) (v := ?_) rfl (by kernel_rfl) (by kernel_rfl) (by kernel_rfl) (fun _ _ _ h => h) (Or.inl ⟨by rfl, ?_⟩) (by assumption) ?_
      rotate_left
      · intro w hSw; (try dsimp only at hSw); go_simp; (try with_reducible rfl)
      simp only [Act.put, List.setIfInBounds_toArray, List.set_cons_zero, List.set_cons_succ]
      refine wpAnyH_ready (rs := [4]) (by kernel_rfl) (by simp) ?_
      refine AllReadyH.cons (o := ⟨some 24, _, _, _, _, _⟩) rfl (fun K hK => ?_) AllReadyH.nil
      go_simp
      refine hK.out _ _ hfd (fun hHeld => ?_)
      clear hK K
      try simp only [Act.put, List.setIfInBounds_toArray, List.set_cons_zero, List.set_cons_succ]
      refine wpAnyH_ready (rs := [5]) (by kernel_rfl) (by simp) ?_
      refine AllReadyH.cons (o := ⟨some 25, _, _, _, _, _⟩) rfl (fun K hK => ?_) AllReadyH.nil
      go_simp
      refine HNUM.out.mono ?_
      rintro e w4 hA
      obtain ⟨h1, h2, ⟨u, h3⟩, h4, h5⟩ := HSTEP.out e w4 hA
      obtain ⟨rfl, _, _⟩ := hA
      have hf4 : w4.cell? ⟨mb + 2, 0, none⟩ = some (.func (.func 126) #[] #[.pointer (some ⟨mb + 1, 0, none⟩)]) := by rw [cell_at (h5.trans HFB.out)]; rfl
      obtain ⟨iv, hiv⟩ : ∃ iv, (addN (stp l k p x pre).1 r).idxOf r = iv := ⟨_, rfl⟩
      rw [hiv] at h1 h2 ⊢
      have hfs : (w4.setCell ⟨g, k * 5 + (yv + 1), none⟩ (.int .i64 (iv : Int))).cell? ⟨mb + 2, 0, none⟩ = some (.func (.func 126) #[] #[.pointer (some ⟨mb + 1, 0, none⟩)]) := by rw [cell_at h1.1.fbx]; rfl
      have HFIN : Hid (Stays (fun q => False ∨ U1.heap.size ≤ q) X (w4.setCell ⟨g, k * 5 + (yv + 1), none⟩ (.int .i64 (iv : Int))) ∧ CmI2 l w (some ⟨g, 0, none⟩) n cc mb k p x rs (pre ++ [y]) (w4.setCell ⟨g, k * 5 + (yv + 1), none⟩ (.int .i64 (iv : Int)))) :=
        ⟨(Stays.refl _ X).drew.trans h2, h1⟩
      clear h1 h2 h5 hiv HSTEP HNUM HFB
      go_simp
      refine hK.out _ _ hf4 (fun hHeld => ?_)
      clear hK K
      try simp only [Act.put, List.setIfInBounds_toArray, List.set_cons_zero, List.set_cons_succ]
      refine wpAnyH_take (i := 6) (oi := ⟨some 26, _, _, _, _, _⟩) (v := ?_) rfl (by kernel_rfl) (by kernel_rfl) (by kernel_rfl) (fun _ _ _ h => h) (Or.inl ⟨by rfl, ?_⟩) (by assumption) ?_
      rotate_left
      · intro w hSw; (try dsimp only at hSw); go_simp; (try with_reducible rfl)
      simp only [Act.put, List.setIfInBounds_toArray, List.set_cons_zero, List.set_cons_succ]
      refine wpAnyH_ready (rs := [7]) (by kernel_rfl) (by simp) ?_
      refine AllReadyH.cons (o := ⟨none, _, _, _, _, _⟩) rfl (fun K hK => ?_) AllReadyH.nil
      go_simp
      refine hK.out _ _ hfs (fun hHeld => ?_)
      clear hK K
      refine wpAnyH_done (by kernel_rfl) ?_ _
      gi_wp2
      exact HFIN.out
    case done =>
      rintro d ys X hd hys ⟨hc, hmk⟩ hKd
      have e1 : stp l k p x ys = stJ p ((cmpS l k).1, x) 4 := by
        unfold stp; rw [hys]; exact stF p _
      have hx2 := cmpS_one HX.out
      rw [HPT.out] at hx2
      have HC2 : Hid (CmW w (some ⟨g, 0, none⟩) n cc mb (cmpS l (k + 1)).2 (cmpS l (k + 1)).1 X) := by
        have h1 : CmW w (some ⟨g, 0, none⟩) n cc mb (cmpS l (k + 1)).2 (cmpS l (k + 1)).1 X := by
          rw [hx2]; rw [e1] at hc; exact hc
        exact h1
      have HM2 : Hid (MarksAt (mb + 3) (d :: rs) X) := by
        refine ⟨List.nodup_cons.2 ⟨fun hq => ?_, hmk.1⟩, fun q hq => ?_⟩
        · have := HRS.out d hq; omega
        · rcases List.mem_cons.1 hq with e | hq
          · subst e; exact ⟨by omega, hKd⟩
          · exact hmk.2 q hq
      clear hc hmk hKd hys e1 hx2
      gi_wp2
      refine ⟨⟨k + 1, d :: rs, _, _, _, _, _, _, _, _, _, _, _, _, _, _, _, _, _, hlt, HM2.out, HC2.out, rfl⟩, ?_⟩
      simp [intOf]
      omega
  · obtain rfl : k = n := by omega
    gi_wp2
    refine leaves_marks (mb + 3) rs U HMK.out (by have := HC.out.lt; omega) fun w' h1 h2 => ?_
    have hc' := HC.out.later (fun q hq => h1 q hq) (HC.out.bel.trans (h2.mono (by have := HBB.out; omega)))
    exact ⟨.slice ca k cc, by simp [results, Tryd.f77, go_sem], ca, cc, rfl, hc'.row, hc'.bel⟩

end Go.Proofs.YtbifbmpflhdijaaDoor

namespace Go.Proofs.YtbifbmpflhdijaaDoor
open Go.RowKit
set_option linter.unusedVariables false

/-- The list with its registers renumbered. -/
def cmpL (l : List Ins) : List Ins := (cmpS l l.length).2
theorem cmpL_len (l : List Ins) : (cmpL l).length = l.length := cmpS_len l l.length
theorem codeB_ins5 {m : Cd} (h : codeB m = true) : ∀ x ∈ m.list, insB m.vars.length m.arrs.length m.list.length x = true := by
  intro x hx
  unfold codeB at h
  simp only [Bool.and_eq_true] at h
  exact List.all_eq_true.1 h.2.1 x hx
/-- **compacted**, as a contract of its own. -/
theorem compacted_one (m : Cd) (la : Option Addr) (lc : Nat) (w : World) (h : NAt w (fun b => b < w.heap.size) m.list la) (hv : codeB m = true) (hm : m.list.length ≤ 400) (hT : TblF w) :
    Calls Tryd.prog 77 #[.slice la m.list.length lc] w (CloneN (cmpL m.list) (cmpL m.list).length w) := by
  rw [cmpL_len]
  exact callsIn_wide.1 (compacted_in m.list la m.list.length lc m.vars.length m.arrs.length m.list.length w h rfl hm (codeB_ins5 hv) hT)

set_option maxRecDepth 100000 in
set_option maxHeartbeats 8000000 in
/-- **rewritten** at loop.example/constanttime/impl.compacted. -/
theorem rewCm_one (m : Cd) (k : CK) (w : World) (h : CL w m k) (hs : CSm m) (hT : TblF w)
    (hP : codeB m = true → ∀ v, Below w.heap.size w v → Calls Tryd.prog 77 #[.slice k.la m.list.length k.lc] v (CloneN (cmpL m.list) (cmpL m.list).length v)) :
    Calls Tryd.prog 68 #[aggC m k, .func (.func 77) #[] #[]] w (PassN cmpL m w) := by
  obtain ⟨hs1, hs2, hs3⟩ := hs
  obtain ⟨W, hW⟩ : ∃ W, (w.alloc (.cells (arrC m k) 29)).alloc (.cells #[.slice none 0 0, .slice none 0 0, .slice none 0 0] 29) = W := ⟨_, rfl⟩
  have hB : Below w.heap.size w W := by rw [← hW]; exact ((Below.refl _ w).alloc (Nat.le_refl _) _).alloc (by simp) _
  have hX : BoxC W w.heap.size m k := by rw [← hW]; exact (BoxC.new w m k _).later (Below.heap_alloc _ _ _ (by simp))
  have hE : W.heap[w.heap.size + 1]? = some (.cells #[.slice none 0 0, .slice none 0 0, .slice none 0 0] 29 (0, 0)) := by
    have e1 := heap_alloc_new (w.alloc (.cells (arrC m k) 29)) (.cells #[.slice none 0 0, .slice none 0 0, .slice none 0 0] 29)
    rw [World.size_alloc] at e1
    rw [← hW]; exact e1
  have hlw : w.heap.size + 1 < W.heap.size := (Array.getElem?_eq_some_iff.1 hE).1
  have HS : Hid (∀ v, Below W.heap.size W v → (v.cell? ⟨w.heap.size, 0, none⟩ = some (.slice k.va m.vars.length k.vc) ∧ v.cell? ⟨w.heap.size, 1, none⟩ = some (.slice k.aa m.arrs.length k.ac) ∧ v.cell? ⟨w.heap.size, 2, none⟩ = some (.slice k.la m.list.length k.lc))) := fun v hv => by
    have b := hX.below hv hX.lt
    exact ⟨b.c0, b.c1, b.c2⟩
  have HE : Hid (∀ v, Below W.heap.size W v → v.heap[w.heap.size + 1]? = some (.cells #[.slice none 0 0, .slice none 0 0, .slice none 0 0] 29 (0, 0))) := fun v hv => (hv.block _ hlw).trans hE
  have HCL : Hid (∀ v, Below W.heap.size W v → CL v m k) := fun v hv => (h.below hB).below hv
  have HCV : Hid (∀ v, Below W.heap.size W v → IAt v (fun b => b < v.heap.size) m.vars k.va) := fun v hv => (HCL.out v hv).1
  have HCA : Hid (∀ v, Below W.heap.size W v → IAt v (fun b => b < v.heap.size) m.arrs k.aa) := fun v hv => (HCL.out v hv).2.1
  have HV := Lib.hid (iCV_one m k W (h.below hB) (hT.below hB hT.lt))
  have HP : Hid (codeB m = true → ∀ v, Below W.heap.size W v → Calls Tryd.prog 77 #[.slice k.la m.list.length k.lc] v (CloneN (cmpL m.list) (cmpL m.list).length v)) := fun e v hv => hP e v (hB.trans (hv.mono hB.size))
  have HB := Lib.hid hB
  have HW := Lib.hid hW
  unfold arrC at HW
  obtain ⟨x0, x1, x2⟩ := HS.out W (Below.refl _ _)
  clear h hT hP hW hB hX hE
  go_enter Tryd.func68, Tryd.ntmps68
  go_wp2_with (first | rw [HW.out] | fail)
  refine HV.out.mono ?_
  rintro e w1 ⟨rfl, hb1⟩
  obtain ⟨q, hq⟩ : ∃ q, codeB m = q := ⟨_, rfl⟩
  have HQ := Lib.hid hq
  have HB1 := Lib.hid hb1
  rw [hq]
  clear hq hb1 HV x0 x1 x2
  cases q
  case false =>
    have hE1 := HE.out w1 HB1.out
    obtain ⟨r0, hr0⟩ := cell_ex hE1 0 (by simp)
    obtain ⟨r1, hr1⟩ := cell_ex hE1 1 (by simp)
    obtain ⟨r2, hr2⟩ := cell_ex hE1 2 (by simp)
    have f0 := frozen_at hE1 0
    have f1 := frozen_at hE1 1
    have f2 := frozen_at hE1 2
    have HFIN : Hid (PassN cmpL m w (.returned (.tuple #[.agg #[.slice none 0 0, .slice none 0 0, .slice none 0 0], .bool false])) (((w1.setCell ⟨w.heap.size + 1, 0, none⟩ (.slice none 0 0)).setCell ⟨w.heap.size + 1, 1, none⟩ (.slice none 0 0)).setCell ⟨w.heap.size + 1, 2, none⟩ (.slice none 0 0))) := by
      refine ⟨⟨[], [], []⟩, ⟨none, 0, none, 0, none, 0⟩, false, rfl, ⟨fun e => ?_, fun _ => ⟨rfl, rfl⟩⟩, OwnC.none _ _, ?_⟩
      · rw [HQ.out] at e; cases e
      · exact (((HB.out.trans (HB1.out.mono HB.out.size)).setCell (p := ⟨w.heap.size + 1, 0, none⟩) (by simp) _).setCell (p := ⟨w.heap.size + 1, 1, none⟩) (by simp) _).setCell (p := ⟨w.heap.size + 1, 2, none⟩) (by simp) _
    clear hE1
    go_wp2_with fail
    exact bodyPost_ret (v := .tuple #[.agg #[.slice none 0 0, .slice none 0 0, .slice none 0 0], .bool false]) (by simp [results, Tryd.f68, go_sem, hr0, hr1, hr2]) rfl HFIN.out
  case true =>
    have HP2 := Lib.hid (HP.out HQ.out)
    have HBD : Hid (Below W.heap.size W w1.drew) := HB1.out.drew
    have hS1 := HS.out w1 HB1.out
    have hS1d := HS.out w1.drew HBD.out
    go_wp2_with fail
    go_region_held3 (fun v => v.cell? ⟨w.heap.size, 0, none⟩ = some (.slice k.va m.vars.length k.vc) ∧ v.cell? ⟨w.heap.size, 1, none⟩ = some (.slice k.aa m.arrs.length k.ac) ∧ v.cell? ⟨w.heap.size, 2, none⟩ = some (.slice k.la m.list.length k.lc)) (first | (with_reducible assumption) | (with_reducible exact hS1) | (with_reducible exact hS1d))
      (first
      | (go_at_call 98; (with_reducible refine (cloneI_one m.vars k.va m.vars.length k.vc w1.drew (HCV.out _ HBD.out) rfl hs1).mono ?_)
         rintro f w2 ⟨va, vc, rfl, ho2, hb2⟩
         have hB2 : Below W.heap.size W w2 := HBD.out.trans (hb2.mono HBD.out.size)
         have hS2 := HS.out w2 hB2)
      | (go_at_call 98; (with_reducible refine (cloneI_one m.arrs k.aa m.arrs.length k.ac w2 (HCA.out _ hB2) rfl hs2).mono ?_)
         rintro f w3 ⟨aa, ac, rfl, ho3, hb3⟩
         have hB3 : Below W.heap.size W w3 := hB2.trans (hb3.mono hB2.size)
         have hS3 := HS.out w3 hB3)
      | (go_at_call 77; (with_reducible refine (HP2.out w3 hB3).mono ?_)
         rintro f w4 ⟨la, lc, rfl, ho4, hb4⟩
         have hB4 : Below W.heap.size W w4 := hB3.trans (hb4.mono hB3.size)
         have hS4 := HS.out w4 hB4
         have hR4 := HE.out w4 hB4
         obtain ⟨r0, hr0⟩ := cell_ex hR4 0 (by simp)
         obtain ⟨r1, hr1⟩ := cell_ex hR4 1 (by simp)
         obtain ⟨r2, hr2⟩ := cell_ex hR4 2 (by simp)
         have f0 := frozen_at hR4 0
         have f1 := frozen_at hR4 1
         have f2 := frozen_at hR4 2
         have hsP := facts_put3 (w := w4) (b := w.heap.size + 1) (.slice va m.vars.length vc) (.slice aa m.arrs.length ac) (.slice la (cmpL m.list).length lc) (show w.heap.size ≠ w.heap.size + 1 by omega) hS4)
      | fail)
    all_goals
      have HF : Hid (PassN cmpL m w (.returned (.tuple #[.agg #[.slice va m.vars.length vc, .slice aa m.arrs.length ac, .slice la (cmpL m.list).length lc], .bool true])) (((w4.setCell ⟨w.heap.size + 1, 0, none⟩ (.slice va m.vars.length vc)).setCell ⟨w.heap.size + 1, 1, none⟩ (.slice aa m.arrs.length ac)).setCell ⟨w.heap.size + 1, 2, none⟩ (.slice la (cmpL m.list).length lc))) := by
        have hoth : ∀ j, j ≠ w.heap.size + 1 → (((w4.setCell ⟨w.heap.size + 1, 0, none⟩ (.slice va m.vars.length vc)).setCell ⟨w.heap.size + 1, 1, none⟩ (.slice aa m.arrs.length ac)).setCell ⟨w.heap.size + 1, 2, none⟩ (.slice la (cmpL m.list).length lc)).heap[j]? = w4.heap[j]? := fun j hj => by
          rw [Below.heap_setCell _ _ _ _ (by simpa using hj), Below.heap_setCell _ _ _ _ (by simpa using hj), Below.heap_setCell _ _ _ _ (by simpa using hj)]
        have z1 := HBD.out.size
        have z2 := hb2.size
        have z3 := hb3.size
        refine ⟨⟨m.vars, m.arrs, cmpL m.list⟩, ⟨va, vc, aa, ac, la, lc⟩, true, rfl, ⟨fun _ => ⟨rfl, rfl⟩, fun e => by rw [HQ.out] at e; cases e⟩, ?_, ?_⟩
        · exact OwnC.three (w1 := w1.drew) (w2 := w2) (w3 := w3) (w4 := w4) (by omega) ho2 hb3 ho3 hb4 ho4 (fun j h1 => hoth j (by omega))
        · exact (((HB.out.trans (hB4.mono HB.out.size)).setCell (p := ⟨w.heap.size + 1, 0, none⟩) (by simp) _).setCell (p := ⟨w.heap.size + 1, 1, none⟩) (by simp) _).setCell (p := ⟨w.heap.size + 1, 2, none⟩) (by simp) _
      clear hS2 hS3 hS4 hsP ho2 ho3 ho4 hb2 hb3 hb4 hB2 hB3 hB4 hR4 hS1 hS1d HP HP2 HS HE HCL HCV HCA
      go_wp2_with fail
      exact bodyPost_ret (v := .tuple #[.agg #[.slice va m.vars.length vc, .slice aa m.arrs.length ac, .slice la (cmpL m.list).length lc], .bool true]) (by simp [results, Tryd.f68, go_sem, hr0, hr1, hr2]) rfl HF.out

set_option maxRecDepth 100000 in
set_option maxHeartbeats 4000000 in
/-- **loop.example/constanttime/impl.CompactRegs.** -/
theorem iCm_one (m : Cd) (k : CK) (w : World) (h : CL w m k) (hs : CSm m) (hT : TblF w)
    (hP : codeB m = true → ∀ v, Below w.heap.size w v → Calls Tryd.prog 77 #[.slice k.la m.list.length k.lc] v (CloneN (cmpL m.list) (cmpL m.list).length v)) :
    Calls Tryd.prog 34 #[aggC m k] w (PassN cmpL m w) := by
  obtain ⟨W, hW⟩ : ∃ W, (w.alloc (.cells (arrC m k) 29)).alloc (.cells #[.slice none 0 0, .slice none 0 0, .slice none 0 0] 29) = W := ⟨_, rfl⟩
  have hB : Below w.heap.size w W := by rw [← hW]; exact ((Below.refl _ w).alloc (Nat.le_refl _) _).alloc (by simp) _
  have hX : BoxC W w.heap.size m k := by rw [← hW]; exact (BoxC.new w m k _).later (Below.heap_alloc _ _ _ (by simp))
  have hE : W.heap[w.heap.size + 1]? = some (.cells #[.slice none 0 0, .slice none 0 0, .slice none 0 0] 29 (0, 0)) := by
    have e1 := heap_alloc_new (w.alloc (.cells (arrC m k) 29)) (.cells #[.slice none 0 0, .slice none 0 0, .slice none 0 0] 29)
    rw [World.size_alloc] at e1
    rw [← hW]; exact e1
  have hlw : w.heap.size + 1 < W.heap.size := (Array.getElem?_eq_some_iff.1 hE).1
  have x0 := hX.c0
  have x1 := hX.c1
  have x2 := hX.c2
  have HR := Lib.hid (rewCm_one m k W (h.below hB) hs (hT.below hB hT.lt) fun e v hv => hP e v (hB.trans (hv.mono hB.size)))
  have HE := Lib.hid hE
  have HB := Lib.hid hB
  have HW := Lib.hid hW
  unfold arrC at HW
  clear h hs hT hP hW hB hX hE
  go_enter Tryd.func34, Tryd.ntmps34
  go_wp2_with (first | rw [HW.out] | fail)
  refine HR.out.mono ?_
  rintro e w1 ⟨m', k', b, rfl, hv, ho, hb1⟩
  have hE1 := (hb1.block _ hlw).trans HE.out
  obtain ⟨r0, hr0⟩ := cell_ex hE1 0 (by simp)
  obtain ⟨r1, hr1⟩ := cell_ex hE1 1 (by simp)
  obtain ⟨r2, hr2⟩ := cell_ex hE1 2 (by simp)
  have f0 := frozen_at hE1 0
  have f1 := frozen_at hE1 1
  have f2 := frozen_at hE1 2
  have HFIN : Hid (PassN cmpL m w (.returned (.tuple #[aggC m' k', .bool b])) (((w1.setCell ⟨w.heap.size + 1, 0, none⟩ (.slice k'.va m'.vars.length k'.vc)).setCell ⟨w.heap.size + 1, 1, none⟩ (.slice k'.aa m'.arrs.length k'.ac)).setCell ⟨w.heap.size + 1, 2, none⟩ (.slice k'.la m'.list.length k'.lc))) := by
    have hoth : ∀ j, j ≠ w.heap.size + 1 → (((w1.setCell ⟨w.heap.size + 1, 0, none⟩ (.slice k'.va m'.vars.length k'.vc)).setCell ⟨w.heap.size + 1, 1, none⟩ (.slice k'.aa m'.arrs.length k'.ac)).setCell ⟨w.heap.size + 1, 2, none⟩ (.slice k'.la m'.list.length k'.lc)).heap[j]? = w1.heap[j]? := fun j hj => by
      rw [Below.heap_setCell _ _ _ _ (by simpa using hj), Below.heap_setCell _ _ _ _ (by simpa using hj), Below.heap_setCell _ _ _ _ (by simpa using hj)]
    refine ⟨m', k', b, rfl, hv, ((ho.stand fun g h1 _ => hoth g (by omega)).mono HB.out.size), ?_⟩
    exact (((HB.out.trans (hb1.mono HB.out.size)).setCell (p := ⟨w.heap.size + 1, 0, none⟩) (by simp) _).setCell (p := ⟨w.heap.size + 1, 1, none⟩) (by simp) _).setCell (p := ⟨w.heap.size + 1, 2, none⟩) (by simp) _
  clear hE1 hv ho hb1 HR
  go_wp2_with fail
  exact bodyPost_ret (v := .tuple #[aggC m' k', .bool b]) (by simp [results, Tryd.f34, go_sem, hr0, hr1, hr2, aggC]) rfl HFIN.out


end Go.Proofs.YtbifbmpflhdijaaDoor

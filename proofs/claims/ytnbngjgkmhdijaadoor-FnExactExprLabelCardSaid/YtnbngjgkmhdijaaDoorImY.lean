/- The iterator over the nodes of expressions: for every loop body that keeps the other blocks of cells, yieldNodes hands it each node with its level, each before its operands, until one round says no more. -/
import Derived.RangeFuncNested
import Derived.RangeFuncBound
import Derived.RangeFuncCalls
import Derived.RangeFuncLeaves
import Derived.RangeFuncBox
import Derived.Shelf.Abstract
import Derived.Shelf.RegionOpen
import Derived.OwnWalkIn
import Derived.TacticsInMore
import Derived.LoopNIn
import Derived.LoopIn
import Derived.Maps.AppendAt
import Derived.Test.YtnbngjgkmhdijaaDoorImN
namespace Go.Proofs.YtnbngjgkmhdijaaDoor
open Go.RowKit Go.Shelf
set_option linter.unusedVariables false

attribute [local go_sem] Oper.semAt_some

/-- What a round keeps: every block of cells but those of O. -/
structure Kps (O : Nat → Prop) (A B : World) : Prop where
  size : A.heap.size ≤ B.heap.size
  keep : ∀ k o, ¬ O k → A.heap[k]? = some o → o.isCells = true → B.heap[k]? = some o
theorem Kps.refl (O : Nat → Prop) (A : World) : Kps O A A := ⟨Nat.le_refl _, fun _ _ _ h _ => h⟩
theorem Kps.tr {O : Nat → Prop} {A B C : World} (h : Kps O A B) (k : Kps O B C) : Kps O A C := ⟨Nat.le_trans h.size k.size, fun i o hi ho hc => k.keep i o hi (h.keep i o hi ho hc) hc⟩
theorem Kps.book {O : Nat → Prop} (W : World) (l : Nat) (o o' : Obj) (h : W.heap[l]? = some o) (hc : o.isCells = false) : Kps O W (W.putObj l o') :=
  ⟨by simp, fun k q _ hk hq => by
    by_cases e : k = l
    · subst e; rw [h] at hk; cases hk; rw [hc] at hq; cases hq
    · rw [World.putObj_heap_other e]; exact hk⟩
theorem Kps.alloc {O : Nat → Prop} {A B : World} (h : Kps O A B) (o : Obj) : Kps O A (B.alloc o) :=
  h.tr ⟨by simp, fun k q _ hk _ => by rw [Below.heap_alloc _ _ _ (Array.getElem?_eq_some_iff.1 hk).1]; exact hk⟩
theorem Kps.below {O : Nat → Prop} {A B C : World} (h : Kps O A B) (hb : Below B.heap.size B C) : Kps O A C :=
  h.tr ⟨hb.size, fun k q _ hk _ => by rw [hb.block k (Array.getElem?_eq_some_iff.1 hk).1]; exact hk⟩

/-- A block of cells. -/
def CellsAt (w : World) (k : Nat) : Prop := ∃ o, w.heap[k]? = some o ∧ o.isCells = true
theorem cellsAt_of_cell {w : World} {b o : Nat} {v : Value} (h : w.cell? ⟨b, o, none⟩ = some v) : CellsAt w b := by
  unfold World.cell? at h
  split at h
  · rename_i hh; exact ⟨_, hh, rfl⟩
  all_goals cases h

set_option maxHeartbeats 1000000 in
theorem branchesE_any (e : E) (a : Option Addr) (c : Nat) (w : World) : Calls Tryd.prog 75 #[.agg #[.int .i64 e.kind, .int .i64 e.value, .slice a e.kids.length c]] w fun f w' => f = .returned (.agg #[.slice a e.kids.length c, .slice none 0 0]) ∧ w' = (w.alloc (.cells #[.int .i64 e.kind, .int .i64 e.value, .slice a e.kids.length c] 38)).alloc (.cells #[.slice a e.kids.length c, .slice none 0 0] 96) := by
  go_enter Tryd.func75, Tryd.ntmps75
  go_wp2_with fail
  exact bodyPost_ret (v := .agg #[.slice a e.kids.length c, .slice none 0 0]) (by simp [results, Tryd.f75, go_sem]) rfl ⟨rfl, rfl⟩

/-- A node as the iterator hands it on: its level, its tree, the address and the capacity of its operands. -/
structure YN where
  lvl : Nat
  e : E
  a : Option Addr
  c : Nat
def YN.strip (x : YN) : Nat × E := (x.lvl, x.e)
/-- The nodes that lie in the world w₀, in blocks of D. -/
def YE (w₀ : World) (D : Nat → Prop) : Type := { x : YN // ∃ n, IsE w₀ D n x.e (cellsI x.e x.a x.c) }
def encE {w₀ : World} {D : Nat → Prop} (x : YE w₀ D) : Array Value := #[.int .i64 (x.1.lvl : Int), .agg #[.int .i64 x.1.e.kind, .int .i64 x.1.e.value, .slice x.1.a x.1.e.kids.length x.1.c]]
def strips {w₀ : World} {D : Nat → Prop} (L : List (YE w₀ D)) : List (Nat × E) := L.map fun x => x.1.strip
theorem strips_app {w₀ : World} {D : Nat → Prop} (L M : List (YE w₀ D)) : strips (L ++ M) = strips L ++ strips M := by simp [strips]

/-- What the iterator asks of the rounds. -/
structure Rounds (w₀ : World) (D O : Nat → Prop) (l N : Nat) (J Jx : List (YE w₀ D) → World → Prop) : Prop where
  yield : ∀ m pre (x : YE w₀ D) W, J pre W → pre.length < N → YieldAt Fence.wide m Tryd.prog l (encE x) W fun e W' =>
    (e = .returned (.bool true) ∧ J (pre ++ [x]) W' ∧ Kps O W W') ∨ (e = .returned (.bool false) ∧ Jx (pre ++ [x]) W')
  alloc : ∀ pre W o, J pre W → J pre (W.alloc o)

theorem roomN {F : Fence} (hd : F.depth = none) (k : Nat) : F.room k := fun d h => by rw [hd] at h; cases h
theorem YieldAt.anyDepth' {F : Fence} (hd : F.depth = none) {m : Nat} (m' : Nat) {P : Program} {l : Nat} {args : Array Value} {W : World} {R : Ending → World → Prop} (h : YieldAt F m P l args W R) : YieldAt F m' P l args W R := by
  obtain ⟨fn, tmps, assign, body, hy, hR⟩ := h
  exact ⟨fn, tmps, assign, body, hy, hR.1, fun c cs _ => hR.2 c cs (roomN hd _)⟩

/-- How a walk over some nodes ends. -/
def Walked {w₀ : World} {D : Nat → Prop} (O : Nat → Prop) (J Jx : List (YE w₀ D) → World → Prop) (pre : List (YE w₀ D)) (es : List E) (lvl : Nat) (W : World) (e : Ending) (W' : World) : Prop :=
  (e = .returned (.bool true) ∧ (∃ ys, strips ys = preEs es lvl ∧ J (pre ++ ys) W') ∧ Kps O W W') ∨ (e = .returned (.bool false) ∧ ∃ ys, strips ys <+: preEs es lvl ∧ Jx (pre ++ ys) W')

set_option maxRecDepth 100000 in
set_option maxHeartbeats 4000000 in
theorem iYieldE_step {w₀ : World} {D O : Nat → Prop} {l N : Nat} {J Jx : List (YE w₀ D) → World → Prop} (R : Rounds w₀ D O l N J Jx) (hDO : ∀ k, D k → ¬ O k ∧ CellsAt w₀ k) (hDl : ∀ k, D k → k < w₀.heap.size) (hOl : ∀ k, O k → k < w₀.heap.size) (n : Nat)
    (hrec : ∀ (es : List E) (a : Option Addr) (cap lvl : Nat) (pre : List (YE w₀ D)) (W : World), EsAt w₀ D (IsE w₀ D n) es a → es.length ≤ cap → cap ≤ maxLen → Kps O w₀ W → J pre W → pre.length + cntEs es ≤ N → lvl + cntEs es ≤ 4398046511104 →
      ∀ (m : Nat) (L : Int), L = (lvl : Int) → CallsIn Fence.wide m Tryd.prog 50 #[.slice a es.length cap, .int .i64 L, .func (.yield l) #[] #[]] W (Walked O J Jx pre es lvl W))
    (es : List E) (a : Option Addr) (cap lvl : Nat) (pre : List (YE w₀ D)) (W : World) (hat : EsAt w₀ D (IsE w₀ D (n + 1)) es a) (hcap : es.length ≤ cap) (hm : cap ≤ maxLen) (hk : Kps O w₀ W) (hJ : J pre W) (hN : pre.length + cntEs es ≤ N) (hlv : lvl + cntEs es ≤ 4398046511104) (m : Nat) :
    CallsIn Fence.wide m Tryd.prog 50 #[.slice a es.length cap, .int .i64 (lvl : Int), .func (.yield l) #[] #[]] W (Walked O J Jx pre es lvl W) := by
  obtain ⟨len, hlen⟩ : ∃ len, es.length = len := ⟨_, rfl⟩
  have HLEN := Lib.hid hlen
  have HAT := Lib.hid hat
  have HREC := Lib.hid hrec
  have HR := Lib.hid R
  rw [hlen] at hcap ⊢
  unfold maxLen at hm
  clear hat hrec R hlen
  refine callsIn_of_wp Tryd.func50 rfl trivial ?_ rfl
  simp only [Tryd.ntmps50, List.size_toArray, List.length_cons, List.length_nil, Nat.reduceAdd, Nat.reduceSub, Array.replicate_succ, Array.replicate_zero, List.push_toArray, List.append_toArray, List.nil_append, List.cons_append]
  have HJ := Lib.hid hJ
  have HK := Lib.hid hk
  have HN := Lib.hid hN
  clear hJ hk hN
  gi_wp2
  gi_loopw [13] (fun p wr => ∃ (j : Nat) (ys : List (YE w₀ D)), j ≤ len ∧ p = .int .i64 j ∧ strips ys = preEs (es.take j) lvl ∧ J (pre ++ ys) wr ∧ Kps O W wr)
    (fun p _ => len - (intOf p).toNat)
  case atStart => exact ⟨0, [], Nat.zero_le _, rfl, by simp [strips, preEs], by simpa using HJ.out, Kps.refl _ _⟩
  case round =>
    obtain ⟨j, ys, hj, rfl, hys, hJs, hks⟩ := hrel
    have HYS := Lib.hid hys
    have HJ2 := Lib.hid hJs
    have HK2 := Lib.hid (HK.out.tr hks)
    have HKS := Lib.hid hks
    clear hys hJs hks
    by_cases hlt : j < len
    · obtain ⟨x, hx⟩ : ∃ x, es[j]? = some x := ⟨es[j]'(by rw [HLEN.out]; exact hlt), List.getElem?_eq_getElem _⟩
      obtain ⟨b, o, c0, c1, c2, rfl, hbl, e0, e1, e2, hE⟩ := HAT.out j x hx
      obtain ⟨xa, xc, rfl, rfl, rfl, _, _⟩ := hE.shape
      have hst : wr.heap[b]? = w₀.heap[b]? := by
        obtain ⟨q, hq, hc⟩ := (hDO b hbl).2
        rw [HK2.out.keep b q (hDO b hbl).1 hq hc, hq]
      have r0 := (World.cell?_of_block (w := w₀) (a := ⟨b, o + j * 3, none⟩) hst).trans e0
      have r1 := (World.cell?_of_block (w := w₀) (a := ⟨b, o + j * 3 + 1, none⟩) hst).trans e1
      have r2 := (World.cell?_of_block (w := w₀) (a := ⟨b, o + j * 3 + 2, none⟩) hst).trans e2
      obtain ⟨W1, hW1⟩ : ∃ W1, W1 = wr.alloc (.cells #[.int .i64 x.kind, .int .i64 x.value, .slice xa x.kids.length xc] 38) := ⟨_, rfl⟩
      have hyl : ys.length = cntEs (es.take j) := by
        have h := congrArg List.length HYS.out
        rw [len_preEs] at h
        simpa [strips] using h
      have hct : cntEs (es.take (j + 1)) = cntEs (es.take j) + (1 + cntEs x.kids) := by rw [cntEs_snoc es j x hx, cntE_eq]
      have hctl := cntEs_take es (j + 1)
      have hlenN : (pre ++ ys).length < N := by have := HN.out; rw [List.length_append]; omega
      have HKN : Hid (pre.length + ys.length + 1 + cntEs x.kids ≤ N) := by
        have := HN.out
        show pre.length + ys.length + 1 + cntEs x.kids ≤ N
        omega
      have HSN : Hid (preEs (es.take (j + 1)) lvl = strips ys ++ ((lvl, x) :: preEs x.kids (lvl + 1))) := by
        show preEs (es.take (j + 1)) lvl = _
        rw [preEs_snoc es j x lvl hx, HYS.out]
      have HPR : Hid (strips ys ++ ((lvl, x) :: preEs x.kids (lvl + 1)) <+: preEs es lvl) := by
        have := preEs_take_pre es (j + 1) lvl
        rw [HSN.out] at this
        exact this
      have HLV2 : Hid (lvl + 1 + cntEs x.kids ≤ 4398046511104) := by show lvl + 1 + cntEs x.kids ≤ 4398046511104; omega
      have hlvl : lvl ≤ 4398046511104 := by omega
      have HLV := Lib.hid hlv
      clear hyl hct hctl hlv
      obtain ⟨y, hyv⟩ : ∃ y : YE w₀ D, y.1 = ⟨lvl, x, xa, xc⟩ := ⟨⟨⟨lvl, x, xa, xc⟩, n + 1, hE⟩, rfl⟩
      have HYV := Lib.hid hyv
      obtain ⟨fn, tmps, assign, body, hy, hR⟩ := HR.out.yield (m - 1) (pre ++ ys) y W1 (by rw [hW1]; exact HR.out.alloc _ _ _ HJ2.out) hlenN
      obtain ⟨a', c', hcs, hk1, hk2, hkat⟩ := hE
      simp at hcs
      obtain ⟨rfl, rfl⟩ := hcs
      have HKAT := Lib.hid hkat
      rw [hW1] at hy hR
      rw [show encE y = #[.int .i64 (lvl : Int), .agg #[.int .i64 x.kind, .int .i64 x.value, .slice xa x.kids.length xc]] from by unfold encE; rw [hyv]] at hy
      have HRR := Lib.hid hR
      clear hR hst e0 e1 e2 hkat hyv
      have hsz := HK2.out.size
      have HBX : Hid (BoxE (wr.alloc (.cells #[.int .i64 x.kind, .int .i64 x.value, .slice xa x.kids.length xc] 38)) wr.heap.size x xa xc) := BoxE.new _ _ _ _ _
      have HOB : Hid (¬ O wr.heap.size) := fun h => by have := hOl _ h; omega
      clear hW1
      gi_wp2
      refine ⟨fun h => (by cases h), ?_⟩
      refine HRR.out.mono ?_
      clear HRR hy
      rintro e W3 (⟨rfl, hJ3, hk3⟩ | ⟨rfl, hJx3⟩)
      · have hbx3 : BoxE W3 wr.heap.size x xa xc := by
          obtain ⟨T, hT⟩ := HBX.out
          exact ⟨T, hk3.keep _ _ HOB.out hT rfl⟩
        have b0 := hbx3.c0
        have b1 := hbx3.c1
        have b2 := hbx3.c2
        have HJ3 := Lib.hid hJ3
        have HK3 := Lib.hid hk3
        clear hJ3 hk3 hbx3 HBX HOB
        have hmeth : ∀ w, (method 219 38 (.agg #[.int .i64 x.kind, .int .i64 x.value, .slice xa x.kids.length xc]) "loop.example/constanttime/impl.branches").run Tryd.prog w = .ok (75, .agg #[.int .i64 x.kind, .int .i64 x.value, .slice xa x.kids.length xc]) w := fun _ => by kernel_rfl
        have hl1 : lvl ≤ 4398046511104 := by omega
        have HYS1 : Hid (strips [y] = [(lvl, x)]) := by show strips [y] = _; simp [strips, YN.strip, HYV.out]
        have HKW3 : Hid (Kps O W W3) := (HKS.out.alloc _).tr HK3.out
        clear HJ2 HK2 HKS HYS HK3 r0 r1 r2 hlenN
        gi_wp2_with (refine ⟨trivial, fun h => (by cases h), ?_⟩; refine (callsIn_wide.2 (branchesE_any x xa xc W3)).mono ?_; rintro e w4 ⟨rfl, rfl⟩)
        obtain ⟨W4, hW4⟩ : ∃ W4, W4 = (W3.alloc (.cells #[.int .i64 x.kind, .int .i64 x.value, .slice xa x.kids.length xc] 38)).alloc (.cells #[.slice xa x.kids.length xc, .slice none 0 0] 96) := ⟨_, rfl⟩
        have HJ4 : Hid (J (pre ++ ys ++ [y]) W4) := by rw [hW4]; exact HR.out.alloc _ _ _ (HR.out.alloc _ _ _ HJ3.out)
        have HK4 : Hid (Kps O W W4) := by rw [hW4]; exact (HKW3.out.alloc _).alloc _
        rw [← hW4]
        clear hW4 HJ3 HKW3 b0 b1 b2 hmeth
        have hi0 : ∀ w, (Instr.index 96 (.agg #[.slice xa x.kids.length xc, .slice none 0 0]) (.int .i64 0)).run Tryd.prog w = .ok (.slice xa x.kids.length xc) w := fun _ => rfl
        have hi1 : ∀ w, (Instr.index 96 (.agg #[.slice xa x.kids.length xc, .slice none 0 0]) (.int .i64 1)).run Tryd.prog w = .ok (.slice none 0 0) w := fun _ => rfl
        gi_loopw [25] (fun p wr => ∃ (i : Nat) (zs : List (YE w₀ D)), i ≤ 2 ∧ p = .int .i64 i ∧ strips zs = (if i = 0 then [] else preEs x.kids (lvl + 1)) ∧ J (pre ++ ys ++ [y] ++ zs) wr ∧ Kps O W wr)
          (fun p _ => 2 - (intOf p).toNat)
        case atStart => exact ⟨0, [], by omega, rfl, by simp [strips], by simpa using HJ4.out, HK4.out⟩
        case round =>
          obtain ⟨i, zs, hi, rfl, hzs, hJs, hks⟩ := hrel
          have HZS := Lib.hid hzs
          have HJ5 := Lib.hid hJs
          have HK5 := Lib.hid hks
          clear hzs hJs hks HJ4 HK4
          have hi' : i = 0 ∨ i = 1 ∨ i = 2 := by omega
          rcases hi' with rfl | rfl | rfl
          · have hz0 : zs = [] := by
              have := HZS.out
              simp [strips] at this
              exact this
            subst hz0
            have HJ6 : Hid (J (pre ++ ys ++ [y]) _) := Lib.hid (by have := HJ5.out; rw [List.append_nil] at this; exact this)
            gi_wp2_with (refine ⟨trivial, fun h => (by cases h), ?_⟩; refine (HREC.out x.kids xa xc (lvl + 1) (pre ++ ys ++ [y]) _ HKAT.out hk1 hk2 (HK.out.tr HK5.out) HJ6.out (by have := HKN.out; simp; omega) HLV2.out _ _ (by simp)).mono ?_; rintro e w5 (⟨rfl, ⟨zs', hzs', hJ7⟩, hk7⟩ | ⟨rfl, zs', hzs', hJx7⟩))
            · have HZ' := Lib.hid hzs'
              have HJ7 := Lib.hid hJ7
              have HK7 := Lib.hid (HK5.out.tr hk7)
              clear hzs' hJ7 hk7 HJ5 HJ6 HK5
              gi_wp2
              go_roundw
              case rel => exact ⟨1, zs', by omega, rfl, by simpa using HZ'.out, HJ7.out, HK7.out⟩
              case measure => simp [intOf]
            · have HX : Hid (Walked O J Jx pre es lvl W (.returned (.bool false)) w5) := .inr ⟨rfl, ys ++ [y] ++ zs', by
                rw [strips_app, strips_app, HYS1.out]
                exact List.IsPrefix.trans (by obtain ⟨t, ht⟩ := hzs'; exact ⟨t, by simp [← ht]⟩) HPR.out, by simpa [List.append_assoc] using hJx7⟩
              clear hzs' hJx7 HJ5 HJ6 HK5
              gi_wp2
              go_ret
              exact HX.out
          · gi_wp2_with (refine ⟨trivial, fun h => (by cases h), ?_⟩; refine (HREC.out [] none 0 (lvl + 1) (pre ++ ys ++ [y] ++ zs) _ (fun i x hx => by simp at hx) (Nat.le_refl _) (by unfold maxLen; omega) (HK.out.tr HK5.out) HJ5.out (by have := HKN.out; have h := congrArg List.length HZS.out; simp [strips] at h; rw [len_preEs] at h; simp [cntEs]; omega) (by have := HLV2.out; simp [cntEs]; omega) _ _ (by simp)).mono ?_; rintro e w5 (⟨rfl, ⟨zs', hzs', hJ7⟩, hk7⟩ | ⟨rfl, zs', hzs', hJx7⟩))
            · have hz' : zs' = [] := by simpa [strips, preEs] using hzs'
              subst hz'
              have HJ7 : Hid (J (pre ++ ys ++ [y] ++ zs) w5) := Lib.hid (by rw [List.append_nil] at hJ7; exact hJ7)
              have HK7 := Lib.hid (HK5.out.tr hk7)
              clear hzs' hJ7 hk7 HJ5 HK5
              gi_wp2
              go_roundw
              case rel => exact ⟨2, zs, by omega, rfl, by simpa using HZS.out, HJ7.out, HK7.out⟩
              case measure => simp [intOf]
            · have hz' : zs' = [] := by simpa [strips, preEs] using hzs'
              subst hz'
              have HX : Hid (Walked O J Jx pre es lvl W (.returned (.bool false)) w5) := .inr ⟨rfl, ys ++ [y] ++ zs, by
                rw [strips_app, strips_app, HYS1.out]
                have := HZS.out
                simp at this
                rw [this]
                simpa using HPR.out, by simpa [List.append_assoc] using hJx7⟩
              clear hzs' hJx7 HJ5 HK5
              gi_wp2
              go_ret
              exact HX.out
          · have HFIN : Hid (strips (ys ++ [y] ++ zs) = preEs (es.take (j + 1)) lvl) := by
              show strips (ys ++ [y] ++ zs) = _
              rw [strips_app, strips_app, HYS1.out, HSN.out]
              have := HZS.out
              simp at this
              rw [this]
              simp
            have HJ7 : Hid (J (pre ++ (ys ++ [y] ++ zs)) _) := Lib.hid (by have := HJ5.out; rw [List.append_assoc, List.append_assoc] at this; rw [List.append_assoc]; exact this)
            clear HJ5
            gi_wp2
            go_roundw
            case rel => exact ⟨j + 1, ys ++ [y] ++ zs, by omega, by go_num, HFIN.out, HJ7.out, HK5.out⟩
            case measure => simp [intOf]; omega
      · have HX : Hid (Walked O J Jx pre es lvl W (.returned (.bool false)) W3) := .inr ⟨rfl, ys ++ [y], by
          have HYS1 : strips [y] = [(lvl, x)] := by simp [strips, YN.strip, HYV.out]
          rw [strips_app, HYS1]
          exact List.IsPrefix.trans ⟨preEs x.kids (lvl + 1), by simp⟩ HPR.out, by simpa [List.append_assoc] using hJx3⟩
        clear hJx3
        gi_wp2
        go_ret
        exact HX.out
    · obtain rfl : j = len := by omega
      have HX : Hid (Walked O J Jx pre es lvl W (.returned (.bool true)) _) := Lib.hid (.inl ⟨rfl, ⟨ys, by rw [HYS.out, List.take_of_length_le (by rw [HLEN.out]; exact Nat.le_refl _)], HJ2.out⟩, HKS.out⟩)
      clear HAT HREC
      gi_wp2
      go_ret
      exact HX.out

set_option maxRecDepth 100000 in
set_option maxHeartbeats 2000000 in
theorem iYieldE_nil {w₀ : World} {D O : Nat → Prop} {l : Nat} {J Jx : List (YE w₀ D) → World → Prop} (a : Option Addr) (cap lvl : Nat) (pre : List (YE w₀ D)) (W : World) (hm : cap ≤ maxLen) (hJ : J pre W) (m : Nat) (L : Int) :
    CallsIn Fence.wide m Tryd.prog 50 #[.slice a 0 cap, .int .i64 L, .func (.yield l) #[] #[]] W (Walked O J Jx pre [] lvl W) := by
  refine callsIn_of_wp Tryd.func50 rfl trivial ?_ rfl
  simp only [Tryd.ntmps50, List.size_toArray, List.length_cons, List.length_nil, Nat.reduceAdd, Nat.reduceSub, Array.replicate_succ, Array.replicate_zero, List.push_toArray, List.append_toArray, List.nil_append, List.cons_append]
  have HX : Hid (Walked O J Jx pre [] lvl W (.returned (.bool true)) W) := .inl ⟨rfl, ⟨[], by simp [strips, preEs], by simpa using hJ⟩, Kps.refl _ _⟩
  clear hJ
  gi_wp2
  gi_loopw [13] (fun p wr => p = .int .i64 0 ∧ wr = W) (fun p _ => 0)
  case atStart => exact ⟨rfl, rfl⟩
  case round =>
    obtain ⟨rfl, rfl⟩ := hrel
    gi_wp2
    go_ret
    exact HX.out

/-- **yieldNodes, AT EVERY LIST OF EXPRESSIONS.** -/
theorem iYieldE_all {w₀ : World} {D O : Nat → Prop} {l N : Nat} {J Jx : List (YE w₀ D) → World → Prop} (R : Rounds w₀ D O l N J Jx) (hDO : ∀ k, D k → ¬ O k ∧ CellsAt w₀ k) (hDl : ∀ k, D k → k < w₀.heap.size) (hOl : ∀ k, O k → k < w₀.heap.size) :
    ∀ (n : Nat) (es : List E) (a : Option Addr) (cap lvl : Nat) (pre : List (YE w₀ D)) (W : World), EsAt w₀ D (IsE w₀ D n) es a → es.length ≤ cap → cap ≤ maxLen → Kps O w₀ W → J pre W → pre.length + cntEs es ≤ N → lvl + cntEs es ≤ 4398046511104 →
      ∀ (m : Nat) (L : Int), L = (lvl : Int) → CallsIn Fence.wide m Tryd.prog 50 #[.slice a es.length cap, .int .i64 L, .func (.yield l) #[] #[]] W (Walked O J Jx pre es lvl W)
  | 0, es, a, cap, lvl, pre, W, hat, hcap, hm, hk, hJ, hN, hlv, m, L, hL => by
    have h0 : es = [] := by
      cases es with
      | nil => rfl
      | cons x xs => obtain ⟨_, _, _, _, _, _, _, _, _, _, h⟩ := hat 0 x rfl; exact h.elim
    subst h0
    exact iYieldE_nil a cap lvl pre W hm hJ m L
  | n + 1, es, a, cap, lvl, pre, W, hat, hcap, hm, hk, hJ, hN, hlv, m, L, hL => by
    subst hL
    exact iYieldE_step R hDO hDl hOl n (iYieldE_all R hDO hDl hOl n) es a cap lvl pre W hat hcap hm hk hJ hN hlv m

set_option maxHeartbeats 2000000 in
/-- What the iterator over a list of expressions hands on. -/
theorem nodesE_stops (d : Nat) (hd : 1 ≤ d) (Bn : Nat) (es : List E) (a : Option Addr) (cap n : Nat) (w₀ w : World) (D O : Nat → Prop) (hDO : ∀ k, D k → ¬ O k ∧ CellsAt w₀ k) (hDl : ∀ k, D k → k < w₀.heap.size) (hOl : ∀ k, O k → k < w₀.heap.size)
    (hat : EsAt w₀ D (IsE w₀ D n) es a) (hcap : es.length ≤ cap) (hm : cap ≤ maxLen) (hk : Kps O w₀ w) (hBl : Bn < w.heap.size) (hB : w.heap[Bn]? = some (.cells #[.slice a es.length cap] 36 (0, 0))) (hc : cntEs es ≤ 1099511627776) :
    SeqStopsK Fence.wide d Tryd.prog 49 #[.pointer (some ⟨Bn, 0, none⟩)] (encE (w₀ := w₀) (D := D)) (Kps O) (fun ys => strips ys = preEs es 1) (fun ys => strips ys <+: preEs es 1) (cntEs es) w := by
  intro l J Jx W hW hJ hJx hY h0
  have R : Rounds w₀ D O l (cntEs es) J Jx := ⟨fun m pre x W hJ hl => YieldAt.anyDepth' rfl m (hY pre x W hJ hl), fun pre W1 o h => hJ pre W1 _ none h (World.grownBy_alloc W1 o none) (fun r e => by cases e)⟩
  have hp := iYieldE_all R hDO hDl hOl n es a cap 1 [] W hat hcap hm (hk.below hW) h0 (by simp) (by omega)
  have hb : W.cell? ⟨Bn, 0, none⟩ = some (.slice a es.length cap) := by
    have e := (hW.block Bn hBl).trans hB
    rw [cell_at e]; rfl
  have HP := Lib.hid hp
  clear hp R hY hJ hJx hat
  refine callsIn_of_wp Tryd.func49 rfl trivial ?_ rfl
  simp only [Tryd.ntmps49, List.size_toArray, List.length_cons, List.length_nil, Nat.reduceAdd, Nat.reduceSub, Array.replicate_succ, Array.replicate_zero, List.push_toArray, List.append_toArray, List.nil_append, List.cons_append]
  gi_wp2_with (refine ⟨trivial, ?_⟩; refine (HP.out _ 1 rfl).mono ?_; rintro e w5 (⟨rfl, ⟨zs', hzs', hJ7⟩, hk7⟩ | ⟨rfl, zs', hzs', hJx7⟩))
  · go_end0
    exact ⟨⟨_, rfl⟩, .inl ⟨zs', hzs', by simpa using hJ7⟩⟩
  · go_end0
    exact ⟨⟨_, rfl⟩, .inr ⟨zs', hzs', by simpa using hJx7⟩⟩

theorem nodesE_in (n : Nat) (a : Option Addr) (k c : Nat) (w : World) :
    CallsIn Fence.wide n Tryd.prog 37 #[.slice a k c] w fun e w' => e = .returned (.func (.func 49) #[] #[.pointer (some ⟨w.heap.size, 0, none⟩)]) ∧ w' = w.alloc (.cells #[.slice a k c] 36) := by
  refine callsIn_of_wp Tryd.func37 rfl trivial ?_ rfl
  simp only [Tryd.ntmps37, List.size_toArray, List.length_cons, List.length_nil, Nat.reduceAdd, Nat.reduceSub, Array.replicate_succ, Array.replicate_zero, List.push_toArray, List.append_toArray, List.nil_append, List.cons_append]
  gi_wp2
  go_ret
  exact ⟨rfl, rfl⟩

end Go.Proofs.YtnbngjgkmhdijaaDoor

/- The iterator over the accesses of a trace, as a contract for whatever loop body that keeps what lies below block n₀: it yields the values of the events that access memory, in their order, until a round says no more. -/
import Derived.RangeFuncNested
import Derived.RangeFuncBound
import Derived.RangeFuncCalls
import Derived.RangeFuncLeaves
import Derived.RangeFuncBox
import Derived.Shelf.Abstract
import Derived.Shelf.RegionOpen
import Derived.OwnWalkIn
import Derived.TacticsInMore
import Derived.LoopNIn
import Derived.LoopIn
import Derived.Maps.AppendAt
import Derived.Test.YteoaecfjgbkefaaCaP
namespace Go.Proofs.Yteoaecfjgbkefaa
open Go.RowKit Go.Shelf
set_option linter.unusedVariables false

attribute [local go_sem] Oper.semAt_some

abbrev encV (x : Int) : Array Value := #[.int .i64 x]

theorem tch_cases (kd vl : Int) : (kd = 2 ∧ tch ⟨kd, vl⟩ = true) ∨ (kd = 3 ∧ tch ⟨kd, vl⟩ = true) ∨ (kd ≠ 2 ∧ kd ≠ 3 ∧ tch ⟨kd, vl⟩ = false) := by
  by_cases h2 : kd = 2
  · subst h2; exact .inl ⟨rfl, rfl⟩
  · by_cases h3 : kd = 3
    · subst h3; exact .inr (.inl ⟨rfl, rfl⟩)
    · exact .inr (.inr ⟨h2, h3, decide_eq_false (by intro h; rcases h with h | h; exact h2 h; exact h3 h)⟩)

set_option maxRecDepth 100000 in
set_option maxHeartbeats 4000000 in
theorem acc1_in (n : Nat) (hn : 1 ≤ n) (l Bn n₀ : Nat) (es : List Ev) (ea : Option Addr) (en ec : Nat) (J Jx : List Int → World → Prop) (hen : es.length = en) (hem : en ≤ 1048576)
    (hY : ∀ pre x W, J pre W → pre.length < en → YieldAt Fence.wide (n - 1) Try.prog l (encV x) W fun e W' =>
      (e = .returned (.bool true) ∧ J (pre ++ [x]) W' ∧ Below n₀ W W') ∨ (e = .returned (.bool false) ∧ Jx (pre ++ [x]) W'))
    (hJa : ∀ pre W o, J pre W → J pre (W.alloc o))
    (W : World) (hBn : W.cell? ⟨Bn, 0, none⟩ = some (.slice ea en ec)) (hE : EvAt W (fun b => b < n₀) es ea) (hn0 : n₀ ≤ W.heap.size) (h0 : J [] W) :
    CallsIn Fence.wide n Try.prog 79 #[.func (.yield l) #[] #[], .pointer (some ⟨Bn, 0, none⟩)] W fun e W' => (∃ v, e = .returned v) ∧
      ((∃ ys, ys = vls es ∧ J ys W') ∨ (∃ pre, pre <+: vls es ∧ Jx pre W')) := by
  refine callsIn_of_wp Try.func79 rfl trivial ?_ rfl
  simp only [Try.ntmps79, List.size_toArray, List.length_cons, List.length_nil, Nat.reduceAdd, Nat.reduceSub, Array.replicate_succ, Array.replicate_zero, List.push_toArray, List.append_toArray, List.nil_append, List.cons_append]
  have HY := Lib.hid hY
  have HJA := Lib.hid hJa
  have HN := Lib.hid hen
  have HE := Lib.hid hE
  clear hY hJa hen hE
  gi_wp2
  gi_loopw [7] (fun p wr => ∃ k : Nat, k ≤ en ∧ p = .int .i64 (k : Int) ∧ J (vls (es.take k)) wr ∧ Below n₀ W wr) (fun p _ => en - (intOf p).toNat)
  case atStart => exact ⟨0, Nat.zero_le _, rfl, h0, Below.refl _ _⟩
  case round =>
    obtain ⟨k, hk, rfl, hJ, hb⟩ := hrel
    have HJ := Lib.hid hJ
    have HB := Lib.hid hb
    have hsz := hb.size
    clear hJ hb h0
    by_cases hlt : k < en
    · obtain ⟨x, hx⟩ : ∃ x, es[k]? = some x := ⟨es[k]'(by rw [HN.out]; exact hlt), List.getElem?_eq_getElem _⟩
      obtain ⟨b, o, rfl, hbl, e0, e1⟩ := HE.out k x hx
      have HX := Lib.hid hx
      obtain ⟨kd, vl⟩ := x
      dsimp only at e0 e1
      have d0 : wr.cell? ⟨b, o + k * 2, none⟩ = some (.int .i64 kd) := (HB.out.cell (p := ⟨b, o + k * 2, none⟩) hbl).trans e0
      have d1 : wr.cell? ⟨b, o + k * 2 + 1, none⟩ = some (.int .i64 vl) := (HB.out.cell (p := ⟨b, o + k * 2 + 1, none⟩) hbl).trans e1
      have HJ1 : Hid (J (vls (es.take k)) (wr.alloc (.cells #[.int .i64 kd, .int .i64 vl] 43))) := HJA.out _ _ _ HJ.out
      have HB1 : Hid (Below n₀ W (wr.alloc (.cells #[.int .i64 kd, .int .i64 vl] 43))) := HB.out.alloc (by omega) _
      have hvl : (vls (es.take k)).length < en := Nat.lt_of_le_of_lt (vls_take_len es k) hlt
      clear hx e0 e1 HJ HB
      rcases tch_cases kd vl with ⟨h2, ht⟩ | ⟨h3, ht⟩ | ⟨h2, h3, ht⟩
      · subst h2
        have HV := Lib.hid (vls_yes HX.out ht)
        obtain ⟨fn, tmps, assign, body, hy, hR⟩ := HY.out _ vl _ HJ1.out hvl
        have HR := Lib.hid hR
        clear hR ht
        dsimp only [encV] at hy
        gi_wp2
        refine HR.out.mono ?_
        clear HR hy
        rintro e W3 (⟨rfl, hJ3, hk3⟩ | ⟨rfl, hJx3⟩)
        · have HJ3 : Hid (J (vls (es.take (k + 1))) W3) := by rw [HV.out]; exact hJ3
          have HB3 : Hid (Below n₀ W W3) := HB1.out.trans hk3
          clear hJ3 hk3
          gi_wp2
          go_roundw
          case rel => exact ⟨k + 1, by omega, by go_num, HJ3.out, HB3.out⟩
          case measure => simp [intOf]; omega
        · have HJ3 : Hid (Jx (vls (es.take (k + 1))) W3) := by rw [HV.out]; exact hJx3
          clear hJx3
          gi_wp2
          refine bodyPost_ret (results_none rfl _ _ _) rfl ?_
          exact ⟨⟨_, rfl⟩, .inr ⟨_, vls_take_pre es (k + 1), HJ3.out⟩⟩
      · subst h3
        have HV := Lib.hid (vls_yes HX.out ht)
        obtain ⟨fn, tmps, assign, body, hy, hR⟩ := HY.out _ vl _ HJ1.out hvl
        have HR := Lib.hid hR
        clear hR ht
        dsimp only [encV] at hy
        gi_wp2
        refine HR.out.mono ?_
        clear HR hy
        rintro e W3 (⟨rfl, hJ3, hk3⟩ | ⟨rfl, hJx3⟩)
        · have HJ3 : Hid (J (vls (es.take (k + 1))) W3) := by rw [HV.out]; exact hJ3
          have HB3 : Hid (Below n₀ W W3) := HB1.out.trans hk3
          clear hJ3 hk3
          gi_wp2
          go_roundw
          case rel => exact ⟨k + 1, by omega, by go_num, HJ3.out, HB3.out⟩
          case measure => simp [intOf]; omega
        · have HJ3 : Hid (Jx (vls (es.take (k + 1))) W3) := by rw [HV.out]; exact hJx3
          clear hJx3
          gi_wp2
          refine bodyPost_ret (results_none rfl _ _ _) rfl ?_
          exact ⟨⟨_, rfl⟩, .inr ⟨_, vls_take_pre es (k + 1), HJ3.out⟩⟩
      · have g2 : (kd == 2) = false := by simpa using h2
        have g3 : (kd == 3) = false := by simpa using h3
        have HV := Lib.hid (vls_no HX.out ht)
        have HJ3 : Hid (J (vls (es.take (k + 1))) (wr.alloc (.cells #[.int .i64 kd, .int .i64 vl] 43))) := by rw [HV.out]; exact HJ1.out
        clear h2 h3 ht HV HJ1
        gi_wp2
        refine ⟨fun _ h => (by cases h), ?_⟩
        gi_wp2
        go_roundw
        case rel => exact ⟨k + 1, by omega, by go_num, HJ3.out, HB1.out⟩
        case measure => simp [intOf]; omega
    · obtain rfl : k = en := by omega
      have HE2 : Hid (J (vls es) wr) := by
        have h := HJ.out
        rw [vls_all HN.out] at h
        exact h
      clear HJ
      gi_wp2
      go_end0
      exact ⟨⟨_, rfl⟩, .inl ⟨_, rfl, HE2.out⟩⟩

theorem accesses_in (n : Nat) (ea : Option Addr) (en ec : Nat) (w : World) :
    CallsIn Fence.wide n Try.prog 78 #[.slice ea en ec] w fun e w' => e = .returned (.func (.func 79) #[] #[.pointer (some ⟨w.heap.size, 0, none⟩)]) ∧ w' = w.alloc (.cells #[.slice ea en ec] 33) := by
  refine callsIn_of_wp Try.func78 rfl trivial ?_ rfl
  simp only [Try.ntmps78, List.size_toArray, List.length_cons, List.length_nil, Nat.reduceAdd, Nat.reduceSub, Array.replicate_succ, Array.replicate_zero, List.push_toArray, List.append_toArray, List.nil_append, List.cons_append]
  gi_wp2
  go_ret
  exact ⟨rfl, rfl⟩

/-- **WHAT accesses HANDS BACK, FOR EVERY LOOP BODY.** -/
theorem acc_stops (n : Nat) (hn : 1 ≤ n) (Bn n₀ : Nat) (es : List Ev) (ea : Option Addr) (en ec : Nat) (w : World) (hen : es.length = en) (hem : en ≤ 1048576) (hBn : Bn < w.heap.size) (hn0 : n₀ ≤ w.heap.size)
    (hb : w.heap[Bn]? = some (.cells #[.slice ea en ec] 33 (0, 0))) (hE : EvAt w (fun b => b < n₀) es ea) :
    SeqStopsK Fence.wide n Try.prog 79 #[.pointer (some ⟨Bn, 0, none⟩)] encV (Below n₀) (fun ys => ys = vls es) (fun pre => pre <+: vls es) en w := fun l J Jx W hW hJ _ hY h0 =>
  acc1_in n hn l Bn n₀ es ea en ec J Jx hen hem hY (fun pre W1 o h => hJ pre W1 _ none h (World.grownBy_alloc W1 o none) (fun r e => by cases e)) W
    (by rw [cell_at ((hW.block Bn hBn).trans hb)]; rfl)
    (fun i x hx => by
      obtain ⟨b, o, ha, hbl, h1, h2⟩ := hE i x hx
      exact ⟨b, o, ha, hbl, (hW.cell (p := ⟨b, o + i * 2, none⟩) (Nat.lt_of_lt_of_le hbl hn0)).trans h1, (hW.cell (p := ⟨b, o + i * 2 + 1, none⟩) (Nat.lt_of_lt_of_le hbl hn0)).trans h2⟩)
    (Nat.le_trans hn0 hW.size) h0

end Go.Proofs.Yteoaecfjgbkefaa

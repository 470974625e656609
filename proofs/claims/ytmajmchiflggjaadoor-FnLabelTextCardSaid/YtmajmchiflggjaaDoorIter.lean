/- The iterator letteredLabels of the program, as a contract for whatever loop body: it yields, byte by byte, the label of each letter and whether there is one. Condition: the table of letters lies as the program's text lays it. -/
import Derived.RangeFuncNested
import Derived.RangeFuncBound
import Derived.RangeFuncCalls
import Derived.RangeFuncLeaves
import Derived.RangeFuncBox
import Derived.Shelf.Abstract
import Derived.Shelf.RegionOpen
import Derived.OwnWalkIn
import Derived.TacticsInMore
import Derived.LoopNIn
import Derived.LoopIn
import Derived.Maps.AppendAt
import Derived.Test.YtmajmchiflggjaaDoorPar
namespace Go.Proofs.YtmajmchiflggjaaDoor
open Go.RowKit Go.Shelf

attribute [local go_sem] Oper.semAt_some

/-- The label of a letter as the program has it: 0 where there is none. -/
def L0 (c : UInt8) : Int := if Lett (c.toNat : Int) < 0 then 0 else Lett (c.toNat : Int)
def Lok (c : UInt8) : Bool := decide (0 ≤ Lett (c.toNat : Int))
abbrev encB (c : UInt8) : Array Value := #[.int .i64 (L0 c), .bool (Lok c)]

theorem iLetter_at (c : UInt8) (w : World) (h : Tbl w) : Calls Tryd.prog 33 #[.int .u8 (c.toNat : Int)] w fun e w' => e = .returned (.tuple #[.int .i64 (L0 c), .bool (Lok c)]) ∧ w = w' := iLetter_one _ w h

theorem Tbl.below {n : Nat} {A B : World} (h : Tbl A) (hb : Below n A B) (hn : 0 < n) : Tbl B := by
  obtain ⟨t, fr, hg⟩ := h
  exact ⟨t, fr, (hb.block _ hn).trans hg⟩

/-- What a round keeps: whatever lies below n₀, and the box of the text. -/
def KeepText (n₀ Bn : Nat) (t : TypeId) (v : Value) (A B : World) : Prop := Below n₀ A B ∧ (Boxed A Bn t v → Boxed B Bn t v)
theorem KeepText.tr {n₀ Bn : Nat} {t : TypeId} {v : Value} {A B C : World} (h : KeepText n₀ Bn t v A B) (k : KeepText n₀ Bn t v B C) : KeepText n₀ Bn t v A C := ⟨h.1.trans k.1, fun x => k.2 (h.2 x)⟩
theorem KeepText.book {n₀ Bn : Nat} {t : TypeId} {v : Value} {w : World} (hn : n₀ ≤ w.heap.size) (hB : Bn < w.heap.size) (W : World) (l : Nat) (o o' : Obj) (hl : w.heap.size ≤ l) (h : W.heap[l]? = some o) (hc : o.isCells = false) (hk : o.isWalk = false) : KeepText n₀ Bn t v W (W.putObj l o') :=
  ⟨belowK_b hn W l o o' hl h hc hk, fun x => x.kept (grownBy_putObj' W l o') (fun e => by cases e; omega)⟩

set_option maxRecDepth 100000 in
set_option maxHeartbeats 1000000 in
theorem lettered1_in (n : Nat) (hn : 1 ≤ n) (l Bn n₀ : Nat) (s : ByteArray) (J Jx : List UInt8 → World → Prop) (hs : s.size ≤ 1048576) (hn₀ : 0 < n₀)
    (hY : ∀ pre x W, J pre W → pre.length < s.data.toList.length → YieldAt Fence.wide (n - 1) Tryd.prog l (encB x) W fun e W' =>
      (e = .returned (.bool true) ∧ J (pre ++ [x]) W' ∧ KeepText n₀ Bn 9 (.string s) W W') ∨ (e = .returned (.bool false) ∧ Jx (pre ++ [x]) W'))
    (W : World) (hBn : Boxed W Bn 9 (.string s)) (hT : Tbl W) (h0 : J [] W) :
    CallsIn Fence.wide n Tryd.prog 32 #[.func (.yield l) #[] #[], .pointer (some ⟨Bn, 0, none⟩)] W fun e W' => (∃ v, e = .returned v) ∧
      ((∃ ys, ys = s.data.toList ∧ J ys W') ∨ (∃ pre, pre <+: s.data.toList ∧ Jx pre W')) := by
  refine callsIn_of_wp Tryd.func32 rfl trivial ?_ rfl
  simp only [Tryd.ntmps32, List.size_toArray, List.length_cons, List.length_nil, Nat.reduceAdd, Nat.reduceSub, Array.replicate_succ, Array.replicate_zero, List.push_toArray, List.append_toArray, List.nil_append, List.cons_append]
  have hc := hBn.cell
  have HY := Lib.hid hY
  have HB := Lib.hid hBn
  clear hY hBn
  gi_wp2
  gi_loopw [6] (fun p wr => ∃ k : Nat, k ≤ s.size ∧ p = .int .i64 k ∧ J (s.data.toList.take k) wr ∧ Boxed wr Bn 9 (.string s) ∧ Tbl wr)
    (fun p _ => s.size - (intOf p).toNat)
  case atStart =>
    exact ⟨0, Nat.zero_le _, rfl, h0, HB.out, hT⟩
  case round =>
    obtain ⟨k, hk, rfl, hJs, hbx, hTw⟩ := hrel
    have hc2 := hbx.cell
    have HX := Lib.hid hbx
    have HT := Lib.hid hTw
    have HJ := Lib.hid hJs
    clear hbx hTw hJs
    by_cases hlt : k < s.size
    · have HS : Hid (s.data.toList.take (k + 1) = s.data.toList.take k ++ [s[k]]) := take_snoc s k hlt
      obtain ⟨fn, tmps, assign, body, hy, hR⟩ := HY.out (s.data.toList.take k) s[k] wr HJ.out (by simp; omega)
      have HR := Lib.hid hR
      clear hR
      dsimp only [encB] at hy
      gi_wp2_with (refine ⟨trivial, ?_⟩; gi_at_call 33; refine (callsIn_wide.2 (iLetter_at s[k] _ HT.out)).mono ?_; rintro e w2 ⟨rfl, rfl⟩)
      refine HR.out.mono ?_
      clear HR hy
      rintro e W3 (⟨rfl, hJ3, hk3⟩ | ⟨rfl, hJx3⟩)
      · have hbx3 := hk3.2 HX.out
        have HT3 := Lib.hid (HT.out.below hk3.1 hn₀)
        have HJ3 : Hid (J (s.data.toList.take (k + 1)) W3) := by
          have := HS.out
          rw [show Hid (J (s.data.toList.take (k + 1)) W3) = J (s.data.toList.take (k + 1)) W3 from rfl, this]
          exact hJ3
        have HX3 := Lib.hid hbx3
        clear hJ3 hk3 hbx3 HX HT
        gi_wp2
        go_roundw
        case rel => exact ⟨k + 1, by omega, by go_num, HJ3.out, HX3.out, HT3.out⟩
        case measure => simp [intOf]; omega
      · have HJ3 := Lib.hid hJx3
        clear hJx3
        gi_wp2
        refine bodyPost_ret (results_none rfl _ _ _) rfl ?_
        exact ⟨⟨_, rfl⟩, .inr ⟨_, ⟨s.data.toList.drop (k + 1), by rw [← HS.out, List.take_append_drop]⟩, HJ3.out⟩⟩
    · obtain rfl : k = s.size := by omega
      have HE : Hid (J s.data.toList wr) := by
        have e : s.data.toList.take s.size = s.data.toList := List.take_of_length_le (by simp)
        have := HJ.out
        rw [e] at this
        exact this
      clear HJ
      gi_wp2
      go_end0
      exact ⟨⟨_, rfl⟩, .inl ⟨_, rfl, HE.out⟩⟩

/-- **letteredLabels(text)**: the text is boxed; the function value captures the box. -/
theorem lettered_in (n : Nat) (s : ByteArray) (w : World) :
    CallsIn Fence.wide n Tryd.prog 26 #[.string s] w fun e w' => e = .returned (.func (.func 32) #[] #[.pointer (some ⟨w.heap.size, 0, none⟩)]) ∧ w' = w.alloc (.cells #[.string s] 9) := by
  refine callsIn_of_wp Tryd.func26 rfl trivial ?_ rfl
  simp only [Tryd.ntmps26, List.size_toArray, List.length_cons, List.length_nil, Nat.reduceAdd, Nat.reduceSub, Array.replicate_succ, Array.replicate_zero, List.push_toArray, List.append_toArray, List.nil_append, List.cons_append]
  gi_wp2
  go_ret
  exact ⟨rfl, rfl⟩

/-- **WHAT letteredLabels HANDS BACK, FOR EVERY LOOP BODY.** -/
theorem lettered_stops (n : Nat) (hn : 1 ≤ n) (Bn n₀ : Nat) (s : ByteArray) (w : World) (hs : s.size ≤ 1048576) (hn₀ : 0 < n₀) (hBn : Bn < w.heap.size)
    (hb : Boxed w Bn 9 (.string s)) (hT : Tbl w) :
    SeqStopsK Fence.wide n Tryd.prog 32 #[.pointer (some ⟨Bn, 0, none⟩)] encB (KeepText n₀ Bn 9 (.string s)) (fun ys => ys = s.data.toList) (fun pre => pre <+: s.data.toList) s.data.toList.length w := fun l J Jx W hW _ _ hY h0 =>
  lettered1_in n hn l Bn n₀ s J Jx hs hn₀ hY W ((hW.block Bn hBn).trans hb) (hT.below hW (by omega)) h0

end Go.Proofs.YtmajmchiflggjaaDoor

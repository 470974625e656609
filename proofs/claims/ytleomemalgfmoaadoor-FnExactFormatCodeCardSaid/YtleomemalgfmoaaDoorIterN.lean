/- The iterator numberedLabels of the program, as a contract for whatever loop body that keeps what lay before: it yields, number by number, the label and whether it is one. -/
import Derived.Test.YtleomemalgfmoaaDoorIterB
import Derived.Test.YtleomemalgfmoaaDoorFmt
namespace Go.Proofs.YtleomemalgfmoaaDoor
open Go.RowKit Go.Shelf

attribute [local go_sem] Oper.semAt_some

def LI (n : Int) : Int := if Lok3 n then n else 0
abbrev encI (n : Int) : Array Value := #[.int .i64 (LI n), .bool (Lok3 n)]

set_option maxHeartbeats 400000 in
theorem labelOf_one (n : Int) (w : World) : Calls Tryd.prog 72 #[.int .i64 n] w fun e w' => e = .returned (.tuple #[.int .i64 (LI n), .bool (Lok3 n)]) ∧ w = w' := by
  rcases Lok3_cases n with rfl | rfl | rfl | rfl | h | ⟨h0, h⟩
  case inr.inr.inr.inr.inl =>
    have e : LI n = 0 := by unfold LI; rw [Lok3_lo h]; rfl
    rw [Lok3_lo h, e]
    clear e
    go_enter Tryd.func72, Tryd.ntmps72
    go_wp2
    go_ret2
    exact ⟨rfl, rfl⟩
  case inr.inr.inr.inr.inr =>
    have e : LI n = 0 := by unfold LI; rw [Lok3_hi h]; rfl
    rw [Lok3_hi h, e]
    clear e
    go_enter Tryd.func72, Tryd.ntmps72
    go_wp2
    go_ret2
    exact ⟨rfl, rfl⟩
  all_goals
    go_enter Tryd.func72, Tryd.ntmps72
    go_wp2
    go_ret2
    exact ⟨rfl, rfl⟩

/-- The list lies in cells below n₀. -/
def SliceB (n₀ : Nat) (w : World) (a : Option Addr) (n : Nat) (xs : List Int) : Prop :=
  xs.length = n ∧ ∀ k, k < n → ∃ b o, a = some ⟨b, o, none⟩ ∧ b < n₀ ∧ w.cell? ⟨b, o + k, none⟩ = some (.int .i64 (xs.getD k 0))
theorem SliceB.below {n₀ : Nat} {A B : World} {a : Option Addr} {n : Nat} {xs : List Int} (h : SliceB n₀ A a n xs) (hb : Below n₀ A B) : SliceB n₀ B a n xs :=
  ⟨h.1, fun k hk => by obtain ⟨b, o, e, hl, hc⟩ := h.2 k hk; exact ⟨b, o, e, hl, (hb.cell (p := ⟨b, o + k, none⟩) hl).trans hc⟩⟩
theorem SliceI.toB {w : World} {a : Option Addr} {n : Nat} {xs : List Int} (h : SliceI w a n xs) : SliceB w.heap.size w a n xs :=
  ⟨h.2.1, fun k hk => by obtain ⟨b, o, e, hc⟩ := h.2.2 k hk; exact ⟨b, o, e, World.block_lt_of_cell? w _ hc, hc⟩⟩
theorem takeI_snoc (xs : List Int) (k : Nat) (hk : k < xs.length) : xs.take (k + 1) = xs.take k ++ [xs.getD k 0] := by
  have e : xs.getD k 0 = xs[k] := by simp [List.getD, hk]
  rw [List.take_succ_eq_append_getElem hk, e]

set_option maxRecDepth 100000 in
set_option maxHeartbeats 1000000 in
theorem numbered1_in (m : Nat) (hm : 1 ≤ m) (l Bn n₀ : Nat) (a : Option Addr) (n cap : Nat) (xs : List Int) (J Jx : List Int → World → Prop) (hn : n ≤ 1099511627776)
    (hY : ∀ pre x W, J pre W → pre.length < xs.length → YieldAt Fence.wide (m - 1) Tryd.prog l (encI x) W fun e W' =>
      (e = .returned (.bool true) ∧ J (pre ++ [x]) W' ∧ Below n₀ W W') ∨ (e = .returned (.bool false) ∧ Jx (pre ++ [x]) W'))
    (W : World) (hBn : W.cell? ⟨Bn, 0, none⟩ = some (.slice a n cap)) (hS : SliceB n₀ W a n xs) (h0 : J [] W) :
    CallsIn Fence.wide m Tryd.prog 76 #[.func (.yield l) #[] #[], .pointer (some ⟨Bn, 0, none⟩)] W fun e W' => (∃ v, e = .returned v) ∧
      ((∃ ys, ys = xs ∧ J ys W') ∨ (∃ pre, pre <+: xs ∧ Jx pre W')) := by
  refine callsIn_of_wp Tryd.func76 rfl trivial ?_ rfl
  simp only [Tryd.ntmps76, List.size_toArray, List.length_cons, List.length_nil, Nat.reduceAdd, Nat.reduceSub, Array.replicate_succ, Array.replicate_zero, List.push_toArray, List.append_toArray, List.nil_append, List.cons_append]
  have HY := Lib.hid hY
  have HS := Lib.hid hS
  have HL := Lib.hid hS.1
  clear hY hS
  gi_wp2
  gi_loopw [7] (fun p wr => ∃ k : Nat, k ≤ n ∧ p = .int .i64 k ∧ J (xs.take k) wr ∧ SliceB n₀ wr a n xs)
    (fun p _ => n - (intOf p).toNat)
  case atStart =>
    exact ⟨0, Nat.zero_le _, rfl, h0, HS.out⟩
  case round =>
    obtain ⟨k, hk, rfl, hJs, hSw⟩ := hrel
    have HJ := Lib.hid hJs
    have HW := Lib.hid hSw
    clear hJs hSw HS
    by_cases hlt : k < n
    · have HT : Hid (xs.take (k + 1) = xs.take k ++ [xs.getD k 0]) := takeI_snoc xs k (by rw [HL.out]; exact hlt)
      obtain ⟨b, o, rfl, hbl, hcell⟩ := HW.out.2 k hlt
      obtain ⟨fn, tmps, assign, body, hy, hR⟩ := HY.out (xs.take k) (xs.getD k 0) wr HJ.out (by rw [List.length_take, HL.out]; omega)
      have HR := Lib.hid hR
      clear hR
      obtain ⟨x, hx⟩ : ∃ x, xs.getD k 0 = x := ⟨_, rfl⟩
      rw [hx] at hcell hy HR HT
      clear hx
      dsimp only [encI] at hy
      gi_wp2_with (refine ⟨trivial, ?_⟩; gi_at_call 72; refine (callsIn_wide.2 (labelOf_one x _)).mono ?_; rintro e w2 ⟨rfl, rfl⟩)
      refine HR.out.mono ?_
      clear HR hy
      rintro e W3 (⟨rfl, hJ3, hk3⟩ | ⟨rfl, hJx3⟩)
      · have HJ3 : Hid (J (xs.take (k + 1)) W3) := by
          have := HT.out
          rw [show Hid (J (xs.take (k + 1)) W3) = J (xs.take (k + 1)) W3 from rfl, this]
          exact hJ3
        have HW3 := Lib.hid (HW.out.below hk3)
        clear hJ3 hk3 HW
        gi_wp2
        go_roundw
        case rel => exact ⟨k + 1, by omega, by go_num, HJ3.out, HW3.out⟩
        case measure => simp [intOf]; omega
      · have HJ3 := Lib.hid hJx3
        clear hJx3
        gi_wp2
        refine bodyPost_ret (results_none rfl _ _ _) rfl ?_
        exact ⟨⟨_, rfl⟩, .inr ⟨_, ⟨xs.drop (k + 1), by rw [← HT.out, List.take_append_drop]⟩, HJ3.out⟩⟩
    · obtain rfl : k = n := by omega
      have HE : Hid (J xs wr) := by
        have e : xs.take k = xs := List.take_of_length_le (by rw [HL.out]; exact Nat.le_refl _)
        have := HJ.out
        rw [e] at this
        exact this
      clear HJ
      gi_wp2
      go_end0
      exact ⟨⟨_, rfl⟩, .inl ⟨_, rfl, HE.out⟩⟩

/-- **numberedLabels(list)**: the slice is boxed; the function value captures the box. -/
theorem numbered_in (m : Nat) (a : Option Addr) (n cap : Nat) (w : World) :
    CallsIn Fence.wide m Tryd.prog 61 #[.slice a n cap] w fun e w' => e = .returned (.func (.func 76) #[] #[.pointer (some ⟨w.heap.size, 0, none⟩)]) ∧ w' = w.alloc (.cells #[.slice a n cap] 22) := by
  refine callsIn_of_wp Tryd.func61 rfl trivial ?_ rfl
  simp only [Tryd.ntmps61, List.size_toArray, List.length_cons, List.length_nil, Nat.reduceAdd, Nat.reduceSub, Array.replicate_succ, Array.replicate_zero, List.push_toArray, List.append_toArray, List.nil_append, List.cons_append]
  gi_wp2
  go_ret
  exact ⟨rfl, rfl⟩

theorem numbered_stops (m : Nat) (hm : 1 ≤ m) (Bn n₀ : Nat) (a : Option Addr) (n cap : Nat) (xs : List Int) (w : World) (hn : n ≤ 1099511627776) (hBn : Bn < w.heap.size) (hn₀ : n₀ ≤ w.heap.size)
    (hb : w.cell? ⟨Bn, 0, none⟩ = some (.slice a n cap)) (hS : SliceB n₀ w a n xs) :
    SeqStopsK Fence.wide m Tryd.prog 76 #[.pointer (some ⟨Bn, 0, none⟩)] encI (Below n₀) (fun ys => ys = xs) (fun pre => pre <+: xs) xs.length w := fun l J Jx W hW _ _ hY h0 =>
  numbered1_in m hm l Bn n₀ a n cap xs J Jx hn hY W ((hW.cell (p := ⟨Bn, 0, none⟩) hBn).trans hb) (hS.below (hW.mono hn₀)) h0

end Go.Proofs.YtleomemalgfmoaaDoor

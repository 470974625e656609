/- The iterator over a set of places, as a contract for whatever loop body: it yields the numbers of the bits of the set, the lowest first. Condition: the table of the library lies as the program's text lays it. -/
import Derived.Test.YtnbngjgkmhdijaaDoorLbT
namespace Go.Proofs.YtnbngjgkmhdijaaDoor
open Go.RowKit Go.Shelf
set_option linter.unusedVariables false

attribute [local go_sem] Oper.semAt_some

/-- A place. -/
structure Pl where
  val : Nat
  lt : val < 14
abbrev encP (x : Pl) : Array Value := #[.int .i64 (x.1 : Int)]
def plN (L : List Pl) : List Nat := L.map fun x => x.1
theorem plN_snoc (L : List Pl) (x : Pl) : plN (L ++ [x]) = plN L ++ [x.1] := by simp [plN]
theorem TblB.kept {O : Nat → Prop} {A B : World} (h : TblB A) (hk : Kps O A B) (hO : ¬ O 2) : TblB B := by
  obtain ⟨t, fr, hg⟩ := h
  exact ⟨t, fr, hk.keep _ _ hO hg rfl⟩
theorem TblB.alloc {A : World} (h : TblB A) (o : Obj) : TblB (A.alloc o) := h.stand (Below.heap_alloc _ _ _ h.lt)

set_option maxRecDepth 100000 in
set_option maxHeartbeats 1000000 in
theorem places1_in (n : Nat) (hn : 1 ≤ n) (l Bn : Nat) (s : Nat) (O : Nat → Prop) (J Jx : List Pl → World → Prop) (hs : s < 16384) (hO : ¬ O 2)
    (hY : ∀ pre x W, J pre W → pre.length < 14 → YieldAt Fence.wide (n - 1) Tryd.prog l (encP x) W fun e W' =>
      (e = .returned (.bool true) ∧ J (pre ++ [x]) W' ∧ Kps O W W') ∨ (e = .returned (.bool false) ∧ Jx (pre ++ [x]) W'))
    (W : World) (hBn : W.cell? ⟨Bn, 0, none⟩ = some (.int .u64 (s : Int))) (hT : TblB W) (h0 : J [] W) :
    CallsIn Fence.wide n Tryd.prog 47 #[.func (.yield l) #[] #[], .pointer (some ⟨Bn, 0, none⟩)] W fun e W' => (∃ v, e = .returned v) ∧
      ((∃ ys, plN ys = bitsN s ∧ J ys W') ∨ (∃ pre, plN pre <+: bitsN s ∧ Jx pre W')) := by
  refine callsIn_of_wp Tryd.func47 rfl trivial ?_ rfl
  simp only [Tryd.ntmps47, List.size_toArray, List.length_cons, List.length_nil, Nat.reduceAdd, Nat.reduceSub, Array.replicate_succ, Array.replicate_zero, List.push_toArray, List.append_toArray, List.nil_append, List.cons_append]
  have HY := Lib.hid hY
  have hlen : (bitsN s).length ≤ 14 := by unfold bitsN; exact Nat.le_trans (List.length_filter_le _ _) (by simp)
  clear hY
  gi_wp2
  gi_loopw [3] (fun p wr => ∃ (r : Nat) (ys : List Pl), r < 16384 ∧ p = .int .u64 (r : Int) ∧ bitsN s = plN ys ++ bitsN r ∧ J ys wr ∧ TblB wr)
    (fun p _ => (intOf p).toNat)
  case atStart =>
    exact ⟨s, [], hs, rfl, rfl, h0, hT⟩
  case round =>
    obtain ⟨r, ys, hr, rfl, hbs, hJs, hTw⟩ := hrel
    have HT := Lib.hid hTw
    have HJ := Lib.hid hJs
    have HBS := Lib.hid hbs
    clear hTw hJs hbs
    by_cases hlt : 0 < r
    · obtain ⟨hl1, hl2, hl3, hl4⟩ := low_ok hlt hr
      have hne : ((r : Int) == 0) = false := by simp; omega
      have hnx : bits .and .u64 (r : Int) ((r : Int) - 1) = ((r &&& (r - 1) : Nat) : Int) := by
        rw [show ((r : Int) - 1) = ((r - 1 : Nat) : Int) by omega]
        exact u64_and_nat _ _ (by omega) (by omega)
      have HB2 : Hid (bitsN s = plN (ys ++ [⟨lowN r, hl1⟩]) ++ bitsN (r &&& (r - 1))) := by
        show bitsN s = _
        rw [HBS.out, hl3, plN_snoc]; simp
      have hyl : ys.length < 14 := by
        have := congrArg List.length HB2.out
        simp [plN_snoc] at this
        simp [plN] at this
        omega
      obtain ⟨fn, tmps, assign, body, hy, hR⟩ := HY.out ys ⟨lowN r, hl1⟩ wr HJ.out hyl
      have HR := Lib.hid hR
      clear hR hl2 hl3
      dsimp only [encP] at hy
      gi_wp2_with (refine ⟨trivial, ?_⟩; gi_at_call 48; refine (callsIn_wide.2 (tz_one r _ HT.out hlt hr)).mono ?_; rintro e w2 ⟨rfl, rfl⟩)
      refine HR.out.mono ?_
      clear HR hy
      rintro e W3 (⟨rfl, hJ3, hk3⟩ | ⟨rfl, hJx3⟩)
      · have HT3 := Lib.hid (HT.out.kept hk3 hO)
        have HJ3 := Lib.hid hJ3
        clear hJ3 hk3 HT HJ
        gi_wp2
        go_roundw
        case rel => exact ⟨r &&& (r - 1), ys ++ [⟨lowN r, hl1⟩], by omega, by first | rfl | rw [hnx], HB2.out, HJ3.out, HT3.out⟩
        case measure => simp [intOf]; omega
      · have HJ3 := Lib.hid hJx3
        clear hJx3
        gi_wp2
        refine bodyPost_ret (results_none rfl _ _ _) rfl ?_
        exact ⟨⟨_, rfl⟩, .inr ⟨_, ⟨bitsN (r &&& (r - 1)), HB2.out.symm⟩, HJ3.out⟩⟩
    · obtain rfl : r = 0 := by omega
      have HE := HJ
      have HBE : Hid (plN ys = bitsN s) := by
        have := HBS.out
        rw [bitsN_zero, List.append_nil] at this
        exact this.symm
      clear HJ
      gi_wp2
      go_end0
      exact ⟨⟨_, rfl⟩, .inl ⟨_, HBE.out, HE.out⟩⟩

theorem places_in (n : Nat) (s : Nat) (w : World) :
    CallsIn Fence.wide n Tryd.prog 35 #[.int .u64 (s : Int)] w fun e w' => e = .returned (.func (.func 47) #[] #[.pointer (some ⟨w.heap.size, 0, none⟩)]) ∧ w' = w.alloc (.cells #[.int .u64 (s : Int)] 56) := by
  refine callsIn_of_wp Tryd.func35 rfl trivial ?_ rfl
  simp only [Tryd.ntmps35, List.size_toArray, List.length_cons, List.length_nil, Nat.reduceAdd, Nat.reduceSub, Array.replicate_succ, Array.replicate_zero, List.push_toArray, List.append_toArray, List.nil_append, List.cons_append]
  gi_wp2
  go_ret
  exact ⟨rfl, rfl⟩

/-- **WHAT all HANDS BACK, FOR EVERY LOOP BODY.** -/
theorem places_stops (n : Nat) (hn : 1 ≤ n) (Bn : Nat) (s : Nat) (w : World) (O : Nat → Prop) (hs : s < 16384) (hO : ¬ O 2) (hBn : Bn < w.heap.size)
    (hb : w.heap[Bn]? = some (.cells #[.int .u64 (s : Int)] 56 (0, 0))) (hT : TblB w) :
    SeqStopsK Fence.wide n Tryd.prog 47 #[.pointer (some ⟨Bn, 0, none⟩)] encP (Kps O) (fun ys => plN ys = bitsN s) (fun pre => plN pre <+: bitsN s) 14 w := fun l J Jx W hW _ _ hY h0 =>
  places1_in n hn l Bn s O J Jx hs hO hY W (by rw [cell_at ((hW.block Bn hBn).trans hb)]; rfl) (hT.stand (hW.block _ hT.lt)) h0

end Go.Proofs.YtnbngjgkmhdijaaDoor

/- The iterator edges, as a contract for whatever loop body that keeps the list: it yields each instruction's number with each one that may follow it, in order. -/
import Derived.OwnWalkIn
import Derived.TacticsInMore
import Derived.LoopNIn
import Derived.LoopIn
import Derived.Shelf.RegionOpen
import Derived.WalkKit
import Derived.Test.YtodihpnnajlkdaaDoorRfL
import Derived.Test.YtodihpnnajlkdaaDoorRcI
namespace Go.Proofs.YtodihpnnajlkdaaDoor
open Go.RowKit Go.Shelf
set_option linter.unusedVariables false

attribute [local go_sem] Oper.semAt_some

abbrev encE {n : Nat} (x : Fin n × Fin n) : Array Value := #[.int .i64 (x.1.val : Int), .int .i64 (x.2.val : Int)]
def valE {n : Nat} (x : Fin n × Fin n) : Nat × Nat := (x.1.val, x.2.val)
/-- Where the execution may go on behind instruction k. -/
def folAt (l : List Ins) (k : Nat) : List Nat := match l[k]? with | some x => folN x k | none => []
theorem folAt_at {l : List Ins} {k : Nat} {x : Ins} (h : l[k]? = some x) : folAt l k = folN x k := by unfold folAt; rw [h]
/-- The edges of the first k instructions. -/
def edgN (l : List Ins) : Nat → List (Nat × Nat)
  | 0 => []
  | k + 1 => edgN l k ++ (folAt l k).map fun t => (k, t)
theorem edgN_pre (l : List Ins) {k n : Nat} (h : k ≤ n) : edgN l k <+: edgN l n := by
  induction n with
  | zero => obtain rfl : k = 0 := by omega
            exact List.prefix_refl _
  | succ n ih =>
    by_cases e : k = n + 1
    · subst e; exact List.prefix_refl _
    · exact (ih (by omega)).trans (List.prefix_append _ _)
theorem edgN_part {l : List Ins} {k n j : Nat} {x : Ins} (hx : l[k]? = some x) (h : k < n) : edgN l k ++ ((folN x k).take j).map (fun t => (k, t)) <+: edgN l n := by
  refine List.IsPrefix.trans ?_ (edgN_pre l (Nat.succ_le_of_lt h))
  show _ <+: edgN l k ++ _
  rw [folAt_at hx]
  exact (List.prefix_append_right_inj _).2 ((List.take_prefix j _).map _)

set_option maxRecDepth 100000 in
set_option maxHeartbeats 8000000 in
theorem edg1_in {n : Nat} (m : Nat) (hm : 1 ≤ m) (lp Bn B : Nat) (D : Nat → Prop) (l : List Ins) (a : Option Addr) (c : Nat) (J Jx : List (Fin n × Fin n) → World → Prop) (hn : l.length = n) (hok : Okc l) (hJ : OwnFrom B J)
    (hY : ∀ pre x W1, J pre W1 → YieldAt Fence.wide (m - 1) Tryd.prog lp (encE x) W1 fun e W' =>
      ((e = .returned (.bool true) ∧ J (pre ++ [x]) W') ∨ (e = .returned (.bool false) ∧ Jx (pre ++ [x]) W')) ∧ Stays (fun k => D k ∨ B ≤ k) W1 W')
    (W : World) (hB : W.heap.size = B) (hDB : ∀ k, D k → k < B) (hBn : W.heap[Bn]? = some (.cells #[.slice a n c] 28 (0, 0))) (hDn : D Bn) (hL : NAt W D l a) (h0 : J [] W) :
    CallsIn Fence.wide m Tryd.prog 85 #[.func (.yield lp) #[] #[], .pointer (some ⟨Bn, 0, none⟩)] W fun e W' => (∃ v, e = .returned v) ∧
      ((∃ ys : List (Fin n × Fin n), ys.map valE = edgN l n ∧ J ys W') ∨ (∃ pre : List (Fin n × Fin n), pre.map valE <+: edgN l n ∧ Jx pre W')) := by
  refine callsIn_of_wp Tryd.func85 rfl trivial ?_ rfl
  simp only [Tryd.ntmps85, List.size_toArray, List.length_cons, List.length_nil, Nat.reduceAdd, Nat.reduceSub, Array.replicate_succ, Array.replicate_zero, List.push_toArray, List.append_toArray, List.nil_append, List.cons_append]
  have HY := Lib.hid hY
  have HJ := Lib.hid hJ
  have HN := Lib.hid hn
  have HO := Lib.hid hok
  have hn400 : n ≤ 400 := by rw [← hn]; exact hok.le
  have hBlt : Bn < W.heap.size := by rw [hB]; exact hDB _ hDn
  -- what stands in every world that a round has left
  have HS : Hid (∀ v, Stays D W v → v.cell? ⟨Bn, 0, none⟩ = some (.slice a n c) ∧ NAt v (fun b => b < v.heap.size) l a) := fun v hv => by
    refine ⟨?_, hL.wide (fun k hk => hv.at hk (by rw [hB]; exact hDB k hk)) fun k hk => Nat.lt_of_lt_of_le (by rw [hB]; exact hDB k hk) hv.size⟩
    rw [cell_at ((hv.at hDn hBlt).trans hBn)]; rfl
  have x0 := (HS.out W (Stays.refl _ _)).1
  clear hY hJ hn hok hBn hL
  gi_wp2
  gi_loopw [8] (fun p wr => ∃ (k : Nat) (pre : List (Fin n × Fin n)), k ≤ n ∧ p = .int .i64 (k : Int) ∧ pre.map valE = edgN l k ∧ J pre wr ∧ Stays D W wr) (fun p _ => n - (intOf p).toNat)
  case atStart => exact ⟨0, [], Nat.zero_le _, rfl, rfl, h0, Stays.refl _ _⟩
  case round =>
    obtain ⟨k, pre, hk, rfl, hpre, hJ1, hS1⟩ := hrel
    have HPRE := Lib.hid hpre
    have HJ1 := Lib.hid hJ1
    have HS1 := Lib.hid hS1
    have hzr := hS1.size
    obtain ⟨y0, hNA⟩ := HS.out wr hS1
    clear hpre hJ1 hS1 h0 x0
    by_cases hlt : k < n
    · obtain ⟨x, hx⟩ : ∃ x, l[k]? = some x := ⟨l[k]'(by rw [HN.out]; exact hlt), List.getElem?_eq_getElem _⟩
      have HX := Lib.hid hx
      have HF := Lib.hid (fol_one l a n c k x wr hNA HN.out HO.out hx)
      clear hx hNA
      gi_wp2_with (refine ⟨trivial, ?_⟩; gi_at_call 86; refine (callsIn_wide.2 HF.out).mono ?_; rintro e w1 ⟨ra, rc, rfl, hown, hb1⟩)
      obtain ⟨rl, hrl⟩ : ∃ rl, (natI (folN x k)).length = rl := ⟨_, rfl⟩
      have hrl2 : (folN x k).length = rl := by rw [← hrl, natI_len]
      have hrle : rl ≤ 2 := by rw [← hrl2]; exact folN_len x k
      have HRL := Lib.hid hrl2
      have HOWN := Lib.hid hown
      have HB1 := Lib.hid hb1
      rw [hrl]
      have hz1 := hb1.size
      have hS0 : ∀ g, wr.heap.size ≤ g → B ≤ g := fun g h => by omega
      have HR0 : Hid (∃ (j : Nat) (pre : List (Fin n × Fin n)), j ≤ rl ∧ Value.int .i64 0 = .int .i64 (j : Int) ∧ pre.map valE = edgN l k ++ ((folN x k).take j).map (fun t => (k, t)) ∧ J pre w1 ∧ Stays D W w1 ∧ Stays (fun k => D k ∨ B ≤ k) w1 w1) :=
        ⟨0, pre, Nat.zero_le _, rfl, by rw [HPRE.out]; simp, own_below HJ.out HJ1.out hb1, HS1.out.below hb1, Stays.refl _ _⟩
      clear hown hb1 hrl hrl2 HF HJ1 HS1 HPRE y0
      gi_wp2
      gi_loopw [15] (fun p wr2 => ∃ (j : Nat) (pre : List (Fin n × Fin n)), j ≤ rl ∧ p = .int .i64 (j : Int) ∧ pre.map valE = edgN l k ++ ((folN x k).take j).map (fun t => (k, t)) ∧ J pre wr2 ∧ Stays D W wr2 ∧ Stays (fun k => D k ∨ B ≤ k) w1 wr2) (fun p _ => rl - (intOf p).toNat)
      case atStart => exact HR0.out
      case round =>
        obtain ⟨j, pre, hj, rfl, hpre, hJ2, hS2, hS3⟩ := hrel
        have HPRE := Lib.hid hpre
        have HJ2 := Lib.hid hJ2
        have HS2 := Lib.hid hS2
        have HS3 := Lib.hid hS3
        clear hpre hJ2 hS2 hS3 HR0
        by_cases hlj : j < rl
        · obtain ⟨t, ht⟩ : ∃ t, (folN x k)[j]? = some t := ⟨(folN x k)[j]'(by rw [HRL.out]; exact hlj), List.getElem?_eq_getElem _⟩
          have htn : t < n := by rw [← HN.out]; exact HO.out.fol HX.out (List.mem_of_getElem? ht)
          obtain ⟨g, rfl, cr⟩ : ∃ g, ra = some ⟨g, 0, none⟩ ∧ wr.cell? ⟨g, j, none⟩ = some (.int .i64 (t : Int)) := by
            rcases HOWN.out.2 with ⟨e, e2⟩ | ⟨g, cap', cur, e, hb, hg, hn', hm', hc, ht'⟩
            · exact absurd e2 (by rw [natI_len, HRL.out]; omega)
            · injection e with e1 e2 e3
              subst e1
              refine ⟨g, rfl, ?_⟩
              have h1 : w1.cell? ⟨g, j, none⟩ = some (.int .i64 (t : Int)) := by
                rw [HOWN.out.cellAt j (by rw [natI_len, HRL.out]; omega)]
                unfold natI
                rw [List.getElem?_map, List.getElem?_map, ht]; rfl
              exact (World.cell?_of_block (w := w1) (a := ⟨g, j, none⟩) (HS3.out.at (.inr (by have := hS0 g hb; omega)) (Array.getElem?_eq_some_iff.1 hg).1)).trans h1
          have HPRE2 : Hid ((pre ++ [((⟨k, hlt⟩ : Fin n), (⟨t, htn⟩ : Fin n))]).map valE = edgN l k ++ ((folN x k).take (j + 1)).map (fun t => (k, t))) := by
            show List.map valE (pre ++ [((⟨k, hlt⟩ : Fin n), (⟨t, htn⟩ : Fin n))]) = _
            rw [List.map_append, HPRE.out, List.take_add_one, ht, List.append_assoc]
            simp [valE]
          obtain ⟨fn, tmps, assign, body, hy, hR⟩ := HY.out pre ((⟨k, hlt⟩ : Fin n), (⟨t, htn⟩ : Fin n)) wr HJ2.out
          have HR := Lib.hid hR
          dsimp only [encE] at hy
          clear hR ht HOWN HJ2 HPRE
          gi_wp2
          refine HR.out.mono ?_
          clear HR hy
          rintro e W3 ⟨(⟨rfl, hJ3⟩ | ⟨rfl, hJ3⟩), hst⟩
          · have HREL : Hid (∃ (j' : Nat) (pre' : List (Fin n × Fin n)), j' ≤ rl ∧ Value.int .i64 ((j : Int) + 1) = .int .i64 (j' : Int) ∧ pre'.map valE = edgN l k ++ ((folN x k).take j').map (fun t => (k, t)) ∧ J pre' W3 ∧ Stays D W W3 ∧ Stays (fun k => D k ∨ B ≤ k) w1 W3) :=
              ⟨j + 1, _, hlj, by go_num, HPRE2.out, hJ3, HS2.out.trans (hst.mono fun q _ h => .inl h), HS3.out.trans hst⟩
            clear hJ3 hst HPRE2 HS2 HS3
            gi_wp2
            go_roundw
            case rel => exact HREL.out
            case measure => simp [intOf]; omega
          · have HFIN : Hid (∃ pre : List (Fin n × Fin n), pre.map valE <+: edgN l n ∧ Jx pre W3) := ⟨_, by rw [HPRE2.out]; exact edgN_part HX.out hlt, hJ3⟩
            clear hJ3 hst HPRE2 HS2 HS3
            gi_wp2
            refine bodyPost_ret (results_none rfl _ _ _) rfl ?_
            exact ⟨⟨_, rfl⟩, .inr HFIN.out⟩
        · obtain rfl : j = rl := by omega
          have HREL : Hid (∃ (k' : Nat) (pre' : List (Fin n × Fin n)), k' ≤ n ∧ Value.int .i64 ((k : Int) + 1) = .int .i64 (k' : Int) ∧ pre'.map valE = edgN l k' ∧ J pre' wr ∧ Stays D W wr) := by
            refine ⟨k + 1, pre, hlt, by go_num, ?_, HJ2.out, HS2.out⟩
            rw [HPRE.out, List.take_of_length_le (by rw [HRL.out]; exact Nat.le_refl _)]
            show _ = edgN l k ++ _
            rw [folAt_at HX.out]
          clear HJ2 HPRE HS2 HS3 HOWN
          gi_wp2
          go_roundw
          case rel => exact HREL.out
          case measure => simp [intOf]; omega
    · obtain rfl : k = n := by omega
      have HFIN : Hid (∃ ys : List (Fin k × Fin k), ys.map valE = edgN l k ∧ J ys wr) := ⟨pre, HPRE.out, HJ1.out⟩
      clear HJ1 HPRE HS1 y0 hNA
      gi_wp2
      go_end0
      exact ⟨⟨_, rfl⟩, .inl HFIN.out⟩

theorem edges_in (n : Nat) (a : Option Addr) (m c : Nat) (w : World) :
    CallsIn Fence.wide n Tryd.prog 66 #[.slice a m c] w fun e w' => e = .returned (.func (.func 85) #[] #[.pointer (some ⟨w.heap.size, 0, none⟩)]) ∧ w' = w.alloc (.cells #[.slice a m c] 28) := by
  refine callsIn_of_wp Tryd.func66 rfl trivial ?_ rfl
  simp only [Tryd.ntmps66, List.size_toArray, List.length_cons, List.length_nil, Nat.reduceAdd, Nat.reduceSub, Array.replicate_succ, Array.replicate_zero, List.push_toArray, List.append_toArray, List.nil_append, List.cons_append]
  gi_wp2
  go_ret
  exact ⟨rfl, rfl⟩

/-- **What edges hands back, for every loop body that keeps the list and its box.** -/
theorem edges_seq {n : Nat} (m : Nat) (hm : 1 ≤ m) (Bn : Nat) (D : Nat → Prop) (l : List Ins) (a : Option Addr) (c : Nat) (w : World) (hn : l.length = n) (hok : Okc l)
    (hDB : ∀ k, D k → k < w.heap.size) (hBn : w.heap[Bn]? = some (.cells #[.slice a n c] 28 (0, 0))) (hDn : D Bn) (hL : NAt w D l a) :
    SeqL m Tryd.prog 85 #[.pointer (some ⟨Bn, 0, none⟩)] (encE (n := n)) D (fun ys => ys.map valE = edgN l n) (fun pre => pre.map valE <+: edgN l n) w := fun lp J Jx W hW hl hJ _ hY h0 =>
  edg1_in m hm lp Bn W.heap.size D l a c J Jx hn hok hJ hY W rfl (fun k hk => Nat.lt_of_lt_of_le (hDB k hk) hW.size) ((hW.block Bn (hDB _ hDn)).trans hBn) hDn (hL.wide (fun k hk => hW.block k (hDB k hk)) fun _ h => h) h0

end Go.Proofs.YtodihpnnajlkdaaDoor

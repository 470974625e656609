/- The iterator over the nodes of no statements: it makes no round. -/
import Derived.Test.YtlhdgoindknpfaaDoorImF
namespace Go.Proofs.YtlhdgoindknpfaaDoor
open Go.RowKit Go.Shelf
set_option linter.unusedVariables false

attribute [local go_sem] Oper.semAt_some

set_option maxRecDepth 100000 in
set_option maxHeartbeats 2000000 in
theorem iYieldZ_nil {l : Nat} (a : Option Addr) (cap : Nat) (W : World) (hm : cap ≤ maxLen) (m : Nat) (L : Int) :
    CallsIn Fence.wide m Tryd.prog 60 #[.slice a 0 cap, .int .i64 L, .func (.yield l) #[] #[]] W (fun e W' => e = .returned (.bool true) ∧ W' = W) := by
  refine callsIn_of_wp Tryd.func60 rfl trivial ?_ rfl
  simp only [Tryd.ntmps60, List.size_toArray, List.length_cons, List.length_nil, Nat.reduceAdd, Nat.reduceSub, Array.replicate_succ, Array.replicate_zero, List.push_toArray, List.append_toArray, List.nil_append, List.cons_append]
  gi_wp2
  gi_loopw [13] (fun p wr => p = .int .i64 0 ∧ wr = W) (fun p _ => 0)
  case atStart => exact ⟨rfl, rfl⟩
  case round =>
    obtain ⟨rfl, rfl⟩ := hrel
    gi_wp2
    go_ret
    exact ⟨rfl, rfl⟩

def encZ (x : Empty) : Array Value := #[]

set_option maxHeartbeats 2000000 in
/-- What the iterator over no statements hands on: nothing. -/
theorem nodesZ_stops (d : Nat) (hd : 1 ≤ d) (Bn : Nat) (a : Option Addr) (cap : Nat) (w : World) (O : Nat → Prop) (hm : cap ≤ maxLen) (hBl : Bn < w.heap.size) (hB : w.heap[Bn]? = some (.cells #[.slice a 0 cap] 24 (0, 0))) :
    SeqStopsK Fence.wide d Tryd.prog 59 #[.pointer (some ⟨Bn, 0, none⟩)] encZ (Kps O) (fun ys => ys = []) (fun ys => ys = []) 0 w := by
  intro l J Jx W hW hJ hJx hY h0
  have hb : W.cell? ⟨Bn, 0, none⟩ = some (.slice a 0 cap) := by
    have e := (hW.block Bn hBl).trans hB
    rw [cell_at e]; rfl
  have H0 := Lib.hid h0
  clear hY hJ hJx h0
  refine callsIn_of_wp Tryd.func59 rfl trivial ?_ rfl
  simp only [Tryd.ntmps59, List.size_toArray, List.length_cons, List.length_nil, Nat.reduceAdd, Nat.reduceSub, Array.replicate_succ, Array.replicate_zero, List.push_toArray, List.append_toArray, List.nil_append, List.cons_append]
  gi_wp2_with (refine ⟨trivial, ?_⟩; refine (iYieldZ_nil a cap W hm _ 1).mono ?_; rintro e w5 ⟨rfl, rfl⟩)
  go_end0
  exact ⟨⟨_, rfl⟩, .inl ⟨[], rfl, H0.out⟩⟩

theorem nodesZ_in (n : Nat) (a : Option Addr) (k c : Nat) (w : World) :
    CallsIn Fence.wide n Tryd.prog 30 #[.slice a k c] w fun e w' => e = .returned (.func (.func 59) #[] #[.pointer (some ⟨w.heap.size, 0, none⟩)]) ∧ w' = w.alloc (.cells #[.slice a k c] 24) := by
  refine callsIn_of_wp Tryd.func30 rfl trivial ?_ rfl
  simp only [Tryd.ntmps30, List.size_toArray, List.length_cons, List.length_nil, Nat.reduceAdd, Nat.reduceSub, Array.replicate_succ, Array.replicate_zero, List.push_toArray, List.append_toArray, List.nil_append, List.cons_append]
  gi_wp2
  go_ret
  exact ⟨rfl, rfl⟩

end Go.Proofs.YtlhdgoindknpfaaDoor

/- The model's l10Fill, EmptyCache and PrimeCache: caches in rows of the call's own. -/
import Derived.Test.YteoaecfjgbkefaaCaS
namespace Go.Proofs.Yteoaecfjgbkefaa
open Go.RowKit
set_option linter.unusedVariables false

theorem news1 (w : World) (v : Value) (T : TypeId) : NewsAt (w.alloc (.cells #[v] T)) (some ⟨w.heap.size, 0, none⟩) 1 [v] := by
  refine .inr ⟨_, rfl, fun j u hu => ?_⟩
  have hj : j = 0 := by have := (List.getElem?_eq_some_iff.1 hu).1; simp at this; exact this
  subst hj
  simp at hu
  subst hu
  rw [add_none, cell_at (heap_alloc_new w _)]; rfl

/-- The state of the filling loop. -/
def FlR (x : Int) (w : World) (i : Value) (wr : World) : Prop := ∃ (k n c : Nat) (a : Option Addr), k ≤ 2 ∧ n = k ∧ i = .int .i64 (k : Int) ∧ wr.heap[w.heap.size]? = some (.cells #[.slice none 0 0] 25 (0, 0)) ∧ wr.heap[w.heap.size + 1]? = some (.cells #[.slice a n c] 25 (0, 0)) ∧ OwnI wr (w.heap.size + 2) (.slice a n c) (List.replicate k x) ∧ Below w.heap.size w wr

set_option maxRecDepth 100000 in
set_option maxHeartbeats 4000000 in
/-- **l10Fill.** -/
theorem sFill_one (x : Int) (w : World) :
    Calls Try.prog 67 #[.int .i64 x] w (OwnCa [x, x] w) := by
  obtain ⟨k0, kinf, kj0, kj1, kj2⟩ := info_parts Try.infoI
  obtain ⟨W2, hW2⟩ : ∃ W, (w.alloc (.cells #[.slice none 0 0] 25)).alloc (.cells #[.slice none 0 0] 25) = W := ⟨_, rfl⟩
  have HL0 : Hid (FlR x w (.int .i64 0) W2) := by
    refine ⟨0, 0, 0, none, by omega, rfl, rfl, ?_, ?_, OwnI.nil' _ _, ?_⟩
    · rw [← hW2, Below.heap_alloc _ _ _ (by simp)]
      exact heap_alloc_new w _
    · rw [← hW2]
      have := heap_alloc_new (w.alloc (.cells #[.slice none 0 0] 25)) (.cells #[.slice none 0 0] 25)
      simpa using this
    · rw [← hW2]; exact ((Below.refl _ w).alloc (Nat.le_refl _) _).alloc (by simp) _
  have HW := Lib.hid hW2
  clear hW2
  go_enter Try.func67, Try.ntmps67
  go_wp2_with fail
  go_loopw [4] (fun i wr => FlR x w i wr) (fun i _ => 2 - (intOf i).toNat)
  case atStart => first | exact HL0.out | (rw [HW.out]; exact HL0.out) | (have := HL0.out; rw [← HW.out] at this; simpa using this)
  case round =>
    obtain ⟨k, n, c, a, hk, rfl, rfl, h0, h1, hown, hbel⟩ := hrel
    have H0 := Lib.hid h0
    have H1 := Lib.hid h1
    have HOWN := Lib.hid hown
    have HBEL := Lib.hid hbel
    have hlt0 := (Array.getElem?_eq_some_iff.1 h0).1
    have hlt1 := (Array.getElem?_eq_some_iff.1 h1).1
    clear hown hbel h0 h1 HL0
    by_cases hlt : n < 2
    · have c1 := cell_at H1.out 0
      have hO : (wr.alloc (.cells #[.int .i64 x] 3)).ownsRow (w.heap.size + 2) 3 1 (.slice a n c) n ((List.replicate n x).map (Value.int .i64)) := by
        have h := HOWN.out
        unfold OwnI at h
        rw [List.length_replicate] at h
        exact h.alloc _
      have hN := news1 wr (.int .i64 x) 3
      have c1' : (wr.alloc (.cells #[.int .i64 x] 3)).heap[w.heap.size + 1]? = some (.cells #[.slice a n c] 25 (0, 0)) := (Below.heap_alloc _ _ _ hlt1).trans H1.out
      have C1 := Lib.hid c1'
      clear c1'
      replace c1 : wr.cell? ⟨w.heap.size + 1, 0, none⟩ = some (.slice a n c) := c1
      go_wp2_with (first
        | (at_builtin
           refine wpList_append_any _ (by rfl) _ _ 23 (by rfl) (w.heap.size + 2) 3 k0 _ 1 8 Try.underlying23 kinf kj0 kj1 kj2 rfl (by omega) (.slice a n c) n _ (by rfl) hO (some ⟨wr.heap.size, 0, none⟩) 1 1 _ (by rfl) (by rfl) hN (by simp [Value.oneCell']) (by unfold maxLen; omega) (by omega) (by simp; omega) ?_
           intro v' w6 hap
           obtain ⟨a', c', hv, h1, h2, _⟩ := hap
           subst hv
           have hO6 : OwnI w6 (w.heap.size + 2) (.slice a' (n + 1) c') (List.replicate (n + 1) x) := by
             unfold OwnI; rw [List.length_replicate, List.replicate_succ', List.map_append]; exact h1
           have hne : ∀ g, (Value.slice a n c).ownBlock = some g → w.heap.size + 2 ≤ g := fun g hg => (HOWN.out.lt g hg).1
           have hB6 : Below w.heap.size w w6 := (HBEL.out.alloc HBEL.out.size _).grown h2 (by simp; omega) (fun k e => by have e' := hne _ e; omega)
           have hR0 : w6.heap[w.heap.size]? = some (.cells #[.slice none 0 0] 25 (0, 0)) := (h2.block _ (by simp; omega) (fun e => by have e' := hne _ e.symm; omega)).trans ((Below.heap_alloc _ _ _ hlt0).trans H0.out)
           have hR1 : w6.heap[w.heap.size + 1]? = some (.cells #[.slice a n c] 25 (0, 0)) := (h2.block _ (by simp; omega) (fun e => by have e' := hne _ e.symm; omega)).trans C1.out
           have r0 := cell_at hR1 0
           have r1 := frozen_of_row _ _ 0 _ _ hR1
           have HREL : Hid (FlR x w (.int .i64 ((n : Int) + 1)) (w6.setCell ⟨w.heap.size + 1, 0, none⟩ (.slice a' (n + 1) c'))) := by
             refine ⟨n + 1, n + 1, c', a', by omega, rfl, by go_num, ?_, ?_, hO6.far fun g hg _ => ?_, hB6.setCell (p := ⟨w.heap.size + 1, 0, none⟩) (by simp) _⟩
             · rw [Below.heap_setCell _ _ _ _ (by simp)]; exact hR0
             · exact heap_setCell_same _ _ _ _ _ _ hR1
             · have := (hO6.lt g hg).1
               exact Below.heap_setCell _ _ _ _ (by simp; omega)
           clear h1 h2 hR0 hR1 hO6 hB6 hN hO hne)
        | fail)
      go_roundw
      case rel => exact HREL.out
      case measure => simp [intOf]; omega
    · obtain rfl : n = 2 := by omega
      have c1 := cell_at H1.out 0
      replace c1 : wr.cell? ⟨w.heap.size + 1, 0, none⟩ = some (.slice a 2 c) := c1
      have c0 := cell_at H0.out 0
      have f0 := frozen_of_row _ _ 0 _ _ H0.out
      have R2 : Hid ((wr.setCell ⟨w.heap.size, 0, none⟩ (.slice a 2 c)).cell? ⟨w.heap.size, 0, none⟩ = some (.slice a 2 c)) := World.cell?_setCell_same' _ _ _ (by rw [c0]; rfl)
      go_wp2_with fail
      have r2 := R2.out
      refine bodyPost_ret (v := aggCa a 2 c) (by simp [results, Try.f67, go_sem, r2]) rfl ?_
      refine ⟨a, 2, c, rfl, rfl, (HOWN.out.mono (by omega)).far fun g hg hlt => ?_, HBEL.out.setCell (p := ⟨w.heap.size, 0, none⟩) (by simp) _⟩
      have := (HOWN.out.lt g hg).1
      exact Below.heap_setCell _ _ _ _ (by simp; omega)

end Go.Proofs.Yteoaecfjgbkefaa

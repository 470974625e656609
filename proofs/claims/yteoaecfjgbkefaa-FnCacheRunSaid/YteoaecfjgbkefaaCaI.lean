/- EmptyCache and PrimeCache, the model's and the program's; the program's linesOf and cache. -/
import Derived.Test.YteoaecfjgbkefaaCaF
import Derived.Test.YteoaecfjgbkefaaCaW
namespace Go.Proofs.Yteoaecfjgbkefaa
open Go.RowKit
set_option linter.unusedVariables false

set_option maxHeartbeats 1000000 in
theorem sEmpty_one (w : World) :
    Calls Try.prog 36 #[] w (OwnCa [-1, -1] w) := by
  have HB := Lib.hid ((Below.refl _ w).alloc (Nat.le_refl _) (.cells #[.slice none 0 0] 25))
  have H0 := Lib.hid (heap_alloc_new w (.cells #[.slice none 0 0] 25))
  go_enter Try.func36, Try.ntmps36
  go_wp2_with fail
  refine (sFill_one (-1) _).mono ?_
  rintro e w2 ⟨a, n, c, rfl, hn, hown, hb⟩
  have h2 := (hb.block w.heap.size (by simp)).trans H0.out
  have r0 := cell_at h2 0
  have r1 := frozen_of_row _ _ 0 _ _ h2
  have R2 : Hid ((w2.setCell ⟨w.heap.size, 0, none⟩ (.slice a n c)).cell? ⟨w.heap.size, 0, none⟩ = some (.slice a n c)) := World.cell?_setCell_same' _ _ _ (by rw [r0]; rfl)
  have HO := Lib.hid hown
  have HN := Lib.hid hn
  have HB2 : Hid (Below w.heap.size w w2) := HB.out.trans (hb.mono (by simp))
  clear hb hown h2 hn
  go_wp2_with fail
  have r2 := R2.out
  refine bodyPost_ret (v := aggCa a n c) (by simp [results, Try.f36, go_sem, r2]) rfl ?_
  refine ⟨a, n, c, rfl, HN.out, (HO.out.mono (by simp)).far fun g hg hlt => ?_, HB2.out.setCell (p := ⟨w.heap.size, 0, none⟩) (by simp) _⟩
  have := (HO.out.lt g hg).1
  exact Below.heap_setCell _ _ _ _ (by simp at this ⊢; omega)

set_option maxHeartbeats 1000000 in
theorem sPrime_one (w : World) :
    Calls Try.prog 31 #[] w (OwnCa [-2, -2] w) := by
  have HB := Lib.hid ((Below.refl _ w).alloc (Nat.le_refl _) (.cells #[.slice none 0 0] 25))
  have H0 := Lib.hid (heap_alloc_new w (.cells #[.slice none 0 0] 25))
  go_enter Try.func31, Try.ntmps31
  go_wp2_with fail
  refine (sFill_one (-2) _).mono ?_
  rintro e w2 ⟨a, n, c, rfl, hn, hown, hb⟩
  have h2 := (hb.block w.heap.size (by simp)).trans H0.out
  have r0 := cell_at h2 0
  have r1 := frozen_of_row _ _ 0 _ _ h2
  have R2 : Hid ((w2.setCell ⟨w.heap.size, 0, none⟩ (.slice a n c)).cell? ⟨w.heap.size, 0, none⟩ = some (.slice a n c)) := World.cell?_setCell_same' _ _ _ (by rw [r0]; rfl)
  have HO := Lib.hid hown
  have HN := Lib.hid hn
  have HB2 : Hid (Below w.heap.size w w2) := HB.out.trans (hb.mono (by simp))
  clear hb hown h2 hn
  go_wp2_with fail
  have r2 := R2.out
  refine bodyPost_ret (v := aggCa a n c) (by simp [results, Try.f31, go_sem, r2]) rfl ?_
  refine ⟨a, n, c, rfl, HN.out, (HO.out.mono (by simp)).far fun g hg hlt => ?_, HB2.out.setCell (p := ⟨w.heap.size, 0, none⟩) (by simp) _⟩
  have := (HO.out.lt g hg).1
  exact Below.heap_setCell _ _ _ _ (by simp at this ⊢; omega)

/-- The aggregate of the lines. -/
abbrev aggLn (c : Ca) : Value := .agg #[.int .i64 c.c0, .int .i64 c.c1]

set_option maxRecDepth 100000 in
set_option maxHeartbeats 2000000 in
theorem iCache_one (c : Ca) (w : World) :
    Calls Try.prog 55 #[aggLn c] w (OwnCa c.l w) := by
  obtain ⟨W2, hW2⟩ : ∃ W, (w.alloc (.cells #[.int .i64 c.c0, .int .i64 c.c1] 67)).alloc (.cells #[.slice none 0 0] 25) = W := ⟨_, rfl⟩
  have hz2 : w.heap.size + 2 ≤ W2.heap.size := by rw [← hW2]; simp
  have hB2 : Below w.heap.size w W2 := by rw [← hW2]; exact ((Below.refl _ w).alloc (Nat.le_refl _) _).alloc (by simp) _
  have hR : W2.heap[w.heap.size + 1]? = some (.cells #[.slice none 0 0] 25 (0, 0)) := by
    rw [← hW2]
    have := heap_alloc_new (w.alloc (.cells #[.int .i64 c.c0, .int .i64 c.c1] 67)) (.cells #[.slice none 0 0] 25)
    simpa using this
  have hA : W2.heap[w.heap.size]? = some (.cells #[.int .i64 c.c0, .int .i64 c.c1] 67 (0, 0)) := by
    rw [← hW2, Below.heap_alloc _ _ _ (by simp)]
    exact heap_alloc_new w _
  have hI : IAt W2 (fun b => b < W2.heap.size) c.l (some ⟨w.heap.size, 0, none⟩) := ⟨by unfold maxLen; simp [Ca.l], fun k hk => ⟨w.heap.size, 0, rfl, by omega, by
    have hk2 : k = 0 ∨ k = 1 := by simp [Ca.l] at hk; omega
    rw [cell_at hA]
    rcases hk2 with rfl | rfl <;> rfl⟩⟩
  have HW := Lib.hid hW2
  have HR := Lib.hid hR
  have HB := Lib.hid hB2
  clear hW2 hR hA hB2
  go_enter Try.func55, Try.ntmps55
  go_wp2_with fail
  rw [HW.out]
  refine (cloneI_one c.l (some ⟨w.heap.size, 0, none⟩) 2 2 W2 hI rfl (by omega)).mono ?_
  rintro e w6 ⟨a', c', rfl, hown, hb⟩
  have hO : OwnI w6 W2.heap.size (.slice a' 2 c') c.l := hown
  have hR6 := (hb.block (w.heap.size + 1) (by omega)).trans HR.out
  have r0 := cell_at hR6 0
  have r1 := frozen_of_row _ _ 0 _ _ hR6
  have R2 : Hid ((w6.setCell ⟨w.heap.size + 1, 0, none⟩ (.slice a' 2 c')).cell? ⟨w.heap.size + 1, 0, none⟩ = some (.slice a' 2 c')) := World.cell?_setCell_same' _ _ _ (by rw [r0]; rfl)
  have hs1 : (#[Value.slice a' 2 c'] : Array Value).size = 1 := rfl
  have HO := Lib.hid hO
  have HB6 : Hid (Below w.heap.size w w6) := HB.out.trans (hb.mono (by omega))
  clear hown hO hR6 hb hI
  go_wp2_with fail
  have r2 := R2.out
  refine bodyPost_ret (v := aggCa a' 2 c') (by simp [results, Try.f55, go_sem, r2]) rfl ?_
  refine ⟨a', 2, c', rfl, rfl, (HO.out.mono (by omega)).far fun g hg hlt => ?_, HB6.out.setCell (p := ⟨w.heap.size + 1, 0, none⟩) (by simp) _⟩
  have := (HO.out.lt g hg).1
  exact Below.heap_setCell _ _ _ _ (by simp; omega)

/-- Lines of numbers are handed back. -/
def LnR (c : Ca) (w : World) (e : Ending) (w' : World) : Prop := e = .returned (aggLn c) ∧ Below w.heap.size w w'

set_option maxRecDepth 100000 in
set_option maxHeartbeats 4000000 in
theorem iFilled_one (x : Int) (w : World) :
    Calls Try.prog 66 #[.int .i64 x] w (LnR ⟨x, x⟩ w) := by
  obtain ⟨W2, hW2⟩ : ∃ W, (w.alloc (.cells #[.int .i64 0, .int .i64 0] 67)).alloc (.cells #[.int .i64 0, .int .i64 0] 67) = W := ⟨_, rfl⟩
  have HW := Lib.hid hW2
  have HL0 : Hid (∃ (k : Nat) (c : Ca), k ≤ 2 ∧ Value.int .i64 0 = .int .i64 (k : Int) ∧ W2.heap[w.heap.size]? = some (.cells #[.int .i64 0, .int .i64 0] 67 (0, 0)) ∧ W2.heap[w.heap.size + 1]? = some (.cells #[.int .i64 c.c0, .int .i64 c.c1] 67 (0, 0)) ∧ ((1 ≤ k → c.c0 = x) ∧ (2 ≤ k → c.c1 = x)) ∧ Below w.heap.size w W2) := by
    refine ⟨0, ⟨0, 0⟩, by omega, rfl, ?_, ?_, ⟨by omega, by omega⟩, ?_⟩
    · rw [← hW2, Below.heap_alloc _ _ _ (by simp)]
      exact heap_alloc_new w _
    · rw [← hW2]
      have := heap_alloc_new (w.alloc (.cells #[.int .i64 0, .int .i64 0] 67)) (.cells #[.int .i64 0, .int .i64 0] 67)
      simpa using this
    · rw [← hW2]; exact ((Below.refl _ w).alloc (Nat.le_refl _) _).alloc (by simp) _
  clear hW2
  go_enter Try.func66, Try.ntmps66
  go_wp2_with fail
  go_loopw [5] (fun i wr => ∃ (k : Nat) (c : Ca), k ≤ 2 ∧ i = .int .i64 (k : Int) ∧ wr.heap[w.heap.size]? = some (.cells #[.int .i64 0, .int .i64 0] 67 (0, 0)) ∧ wr.heap[w.heap.size + 1]? = some (.cells #[.int .i64 c.c0, .int .i64 c.c1] 67 (0, 0)) ∧ ((1 ≤ k → c.c0 = x) ∧ (2 ≤ k → c.c1 = x)) ∧ Below w.heap.size w wr) (fun i _ => 2 - (intOf i).toNat)
  case atStart => first | exact HL0.out | (rw [HW.out]; exact HL0.out)
  case round =>
    obtain ⟨k, ⟨x0, x1⟩, hk, rfl, h0, h1, ⟨e0, e1⟩, hbel⟩ := hrel
    have H0 := Lib.hid h0
    have H1 := Lib.hid h1
    have HE0 := Lib.hid e0
    have HE1 := Lib.hid e1
    have HBEL := Lib.hid hbel
    clear h0 h1 e0 e1 hbel HL0
    have hk3 : k = 0 ∨ k = 1 ∨ k = 2 := by omega
    have q0 : wr.cell? ⟨w.heap.size + 1, 0, none⟩ = some (.int .i64 x0) := by rw [cell_at H1.out]; rfl
    have q1 : wr.cell? ⟨w.heap.size + 1, 1, none⟩ = some (.int .i64 x1) := by rw [cell_at H1.out]; rfl
    have p0 := frozen_of_row _ _ 0 _ _ H1.out
    have p1 := frozen_of_row _ _ 1 _ _ H1.out
    rcases hk3 with rfl | rfl | rfl
    · have HREL : Hid (∃ (k : Nat) (c : Ca), k ≤ 2 ∧ Value.int .i64 1 = .int .i64 (k : Int) ∧ (wr.setCell ⟨w.heap.size + 1, 0, none⟩ (.int .i64 x)).heap[w.heap.size]? = some (.cells #[.int .i64 0, .int .i64 0] 67 (0, 0)) ∧ (wr.setCell ⟨w.heap.size + 1, 0, none⟩ (.int .i64 x)).heap[w.heap.size + 1]? = some (.cells #[.int .i64 c.c0, .int .i64 c.c1] 67 (0, 0)) ∧ ((1 ≤ k → c.c0 = x) ∧ (2 ≤ k → c.c1 = x)) ∧ Below w.heap.size w (wr.setCell ⟨w.heap.size + 1, 0, none⟩ (.int .i64 x))) := by
        refine ⟨1, ⟨x, x1⟩, by omega, rfl, ?_, ?_, ⟨fun _ => rfl, by omega⟩, HBEL.out.setCell (p := ⟨w.heap.size + 1, 0, none⟩) (by simp) _⟩
        · rw [Below.heap_setCell _ _ _ _ (by simp)]; exact H0.out
        · exact heap_setCell_same _ _ _ _ _ _ H1.out
      go_wp2_with fail
      go_roundw
      case rel => exact HREL.out
      case measure => simp [intOf]
    · have hx0 : x0 = x := HE0.out (by omega)
      have HREL : Hid (∃ (k : Nat) (c : Ca), k ≤ 2 ∧ Value.int .i64 2 = .int .i64 (k : Int) ∧ (wr.setCell ⟨w.heap.size + 1, 1, none⟩ (.int .i64 x)).heap[w.heap.size]? = some (.cells #[.int .i64 0, .int .i64 0] 67 (0, 0)) ∧ (wr.setCell ⟨w.heap.size + 1, 1, none⟩ (.int .i64 x)).heap[w.heap.size + 1]? = some (.cells #[.int .i64 c.c0, .int .i64 c.c1] 67 (0, 0)) ∧ ((1 ≤ k → c.c0 = x) ∧ (2 ≤ k → c.c1 = x)) ∧ Below w.heap.size w (wr.setCell ⟨w.heap.size + 1, 1, none⟩ (.int .i64 x))) := by
        refine ⟨2, ⟨x0, x⟩, by omega, rfl, ?_, ?_, ⟨fun _ => hx0, fun _ => rfl⟩, HBEL.out.setCell (p := ⟨w.heap.size + 1, 1, none⟩) (by simp) _⟩
        · rw [Below.heap_setCell _ _ _ _ (by simp)]; exact H0.out
        · exact heap_setCell_same _ _ _ _ _ _ H1.out
      clear hx0
      go_wp2_with fail
      go_roundw
      case rel => exact HREL.out
      case measure => simp [intOf]
    · obtain rfl : x0 = x := HE0.out (by omega)
      obtain rfl : x1 = x0 := HE1.out (by omega)
      have c0 : wr.cell? ⟨w.heap.size, 0, none⟩ = some (.int .i64 0) := by rw [cell_at H0.out]; rfl
      have c1 : wr.cell? ⟨w.heap.size, 1, none⟩ = some (.int .i64 0) := by rw [cell_at H0.out]; rfl
      have f0 := frozen_of_row _ _ 0 _ _ H0.out
      have f1 := frozen_of_row _ _ 1 _ _ H0.out
      have R2 : Hid ((wr.setCell ⟨w.heap.size, 0, none⟩ (.int .i64 x1)).cell? ⟨w.heap.size, 0, none⟩ = some (.int .i64 x1)) := World.cell?_setCell_same' _ _ _ (by rw [c0]; rfl)
      have R3 : Hid (((wr.setCell ⟨w.heap.size, 0, none⟩ (.int .i64 x1)).setCell ⟨w.heap.size, 1, none⟩ (.int .i64 x1)).cell? ⟨w.heap.size, 1, none⟩ = some (.int .i64 x1)) := World.cell?_setCell_same' _ _ _ (by rw [cell_set c1]; rfl)
      go_wp2_with fail
      have r2 := R2.out
      have r3 := R3.out
      refine bodyPost_ret (v := aggLn ⟨x1, x1⟩) (by simp [results, Try.f66, go_sem, r2, r3]) rfl ?_
      exact ⟨rfl, (HBEL.out.setCell (p := ⟨w.heap.size, 0, none⟩) (by simp) _).setCell (p := ⟨w.heap.size, 1, none⟩) (by simp) _⟩

end Go.Proofs.Yteoaecfjgbkefaa

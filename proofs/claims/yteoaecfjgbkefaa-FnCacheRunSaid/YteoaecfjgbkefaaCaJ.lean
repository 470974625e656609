/- The program's EmptyCache, PrimeCache, linesOf and access; AccessCache, the model's and the program's. -/
import Derived.Test.YteoaecfjgbkefaaCaI
import Derived.Laws.Cover3
namespace Go.Proofs.Yteoaecfjgbkefaa
open Go.RowKit
set_option linter.unusedVariables false

set_option maxHeartbeats 1000000 in
theorem iEmpty_one (w : World) :
    Calls Try.prog 35 #[] w (OwnCa [-1, -1] w) := by
  have HB := Lib.hid ((Below.refl _ w).alloc (Nat.le_refl _) (.cells #[.slice none 0 0] 25))
  have H0 := Lib.hid (heap_alloc_new w (.cells #[.slice none 0 0] 25))
  go_enter Try.func35, Try.ntmps35
  go_wp2_with fail
  refine (iFilled_one (-1) _).mono ?_
  rintro e w1 ⟨rfl, hb1⟩
  have H1 : Hid (w1.heap[w.heap.size]? = _) := (hb1.block w.heap.size (by simp)).trans H0.out
  have HB1 : Hid (Below w.heap.size w w1) := HB.out.trans (hb1.mono (by simp))
  have hz1 : w.heap.size + 1 ≤ w1.heap.size := by have := hb1.size; simp at this; exact this
  clear hb1
  go_wp2_with fail
  refine (iCache_one ⟨-1, -1⟩ w1).mono ?_
  rintro e w2 ⟨a, n, c, rfl, hn, hown, hb⟩
  have h2 := (hb.block w.heap.size (by omega)).trans H1.out
  have r0 := cell_at h2 0
  have r1 := frozen_of_row _ _ 0 _ _ h2
  have R2 : Hid ((w2.setCell ⟨w.heap.size, 0, none⟩ (.slice a n c)).cell? ⟨w.heap.size, 0, none⟩ = some (.slice a n c)) := World.cell?_setCell_same' _ _ _ (by rw [r0]; rfl)
  have HO := Lib.hid hown
  have HN := Lib.hid hn
  have HB2 : Hid (Below w.heap.size w w2) := HB1.out.trans (hb.mono (by omega))
  clear hb hown h2 hn
  go_wp2_with fail
  have r2 := R2.out
  refine bodyPost_ret (v := aggCa a n c) (by simp [results, Try.f35, go_sem, r2]) rfl ?_
  refine ⟨a, n, c, rfl, HN.out, (HO.out.mono (by omega)).far fun g hg hlt => ?_, HB2.out.setCell (p := ⟨w.heap.size, 0, none⟩) (by simp) _⟩
  have := (HO.out.lt g hg).1
  exact Below.heap_setCell _ _ _ _ (by simp; omega)

set_option maxHeartbeats 1000000 in
theorem iPrime_one (w : World) :
    Calls Try.prog 30 #[] w (OwnCa [-2, -2] w) := by
  have HB := Lib.hid ((Below.refl _ w).alloc (Nat.le_refl _) (.cells #[.slice none 0 0] 25))
  have H0 := Lib.hid (heap_alloc_new w (.cells #[.slice none 0 0] 25))
  go_enter Try.func30, Try.ntmps30
  go_wp2_with fail
  refine (iFilled_one (-2) _).mono ?_
  rintro e w1 ⟨rfl, hb1⟩
  have H1 : Hid (w1.heap[w.heap.size]? = _) := (hb1.block w.heap.size (by simp)).trans H0.out
  have HB1 : Hid (Below w.heap.size w w1) := HB.out.trans (hb1.mono (by simp))
  have hz1 : w.heap.size + 1 ≤ w1.heap.size := by have := hb1.size; simp at this; exact this
  clear hb1
  go_wp2_with fail
  refine (iCache_one ⟨-2, -2⟩ w1).mono ?_
  rintro e w2 ⟨a, n, c, rfl, hn, hown, hb⟩
  have h2 := (hb.block w.heap.size (by omega)).trans H1.out
  have r0 := cell_at h2 0
  have r1 := frozen_of_row _ _ 0 _ _ h2
  have R2 : Hid ((w2.setCell ⟨w.heap.size, 0, none⟩ (.slice a n c)).cell? ⟨w.heap.size, 0, none⟩ = some (.slice a n c)) := World.cell?_setCell_same' _ _ _ (by rw [r0]; rfl)
  have HO := Lib.hid hown
  have HN := Lib.hid hn
  have HB2 : Hid (Below w.heap.size w w2) := HB1.out.trans (hb.mono (by omega))
  clear hb hown h2 hn
  go_wp2_with fail
  have r2 := R2.out
  refine bodyPost_ret (v := aggCa a n c) (by simp [results, Try.f30, go_sem, r2]) rfl ?_
  refine ⟨a, n, c, rfl, HN.out, (HO.out.mono (by omega)).far fun g hg hlt => ?_, HB2.out.setCell (p := ⟨w.heap.size, 0, none⟩) (by simp) _⟩
  have := (HO.out.lt g hg).1
  exact Below.heap_setCell _ _ _ _ (by simp; omega)

/-- A box that holds lines. -/
def BoxLn (w : World) (b : Nat) (c : Ca) : Prop := w.heap[b]? = some (.cells #[.int .i64 c.c0, .int .i64 c.c1] 67 (0, 0))
theorem BoxLn.lt {w : World} {b : Nat} {c : Ca} (h : BoxLn w b c) : b < w.heap.size := (Array.getElem?_eq_some_iff.1 h).1
theorem BoxLn.new (w : World) (c : Ca) : BoxLn (w.alloc (.cells #[.int .i64 c.c0, .int .i64 c.c1] 67)) w.heap.size c := heap_alloc_new w _
theorem BoxLn.later {w w' : World} {b : Nat} {c : Ca} (h : BoxLn w b c) (hb : w'.heap[b]? = w.heap[b]?) : BoxLn w' b c := hb.trans h
theorem BoxLn.below {w w' : World} {b : Nat} {c : Ca} (h : BoxLn w b c) (hb : Below w.heap.size w w') : BoxLn w' b c := h.later (hb.block b h.lt)
theorem BoxLn.c0 {w : World} {b : Nat} {c : Ca} (h : BoxLn w b c) : w.cell? ⟨b, 0, none⟩ = some (.int .i64 c.c0) := by rw [cell_at h]; rfl
theorem BoxLn.c1 {w : World} {b : Nat} {c : Ca} (h : BoxLn w b c) : w.cell? ⟨b, 1, none⟩ = some (.int .i64 c.c1) := by rw [cell_at h]; rfl
theorem BoxLn.fz {w : World} {b : Nat} {c : Ca} (h : BoxLn w b c) (o : Nat) : w.frozen? ⟨b, o, none⟩ = false := frozen_of_row _ _ o _ _ h
theorem BoxLn.acc {w : World} {b : Nat} {c : Ca} (h : BoxLn w b c) (a : Nat) : BoxLn (accW w b a) b (c.acc a) := by
  have h1 : (accW w b a).heap[b]? = _ := heap_setCell_same w b (lnA a) _ _ (.int .i64 ((a / 2 : Nat) : Int)) h
  unfold BoxLn
  rw [h1]
  have : lnA a = 0 ∨ lnA a = 1 := by unfold lnA; omega
  unfold Ca.acc Ca.set
  rcases this with e | e <;> rw [e] <;> rfl

set_option maxHeartbeats 4000000 in
/-- **access.** -/
theorem iAcc_one (c : Ca) (a B : Nat) (w : World) (h : BoxLn w B c) (ha : a < 8) :
    Calls Try.prog 54 #[.pointer (some ⟨B, 0, none⟩), .int .i64 (a : Int)] w fun e w' => e = .returned (.bool (c.hit a)) ∧ w' = accW w B a := by
  obtain ⟨c0, c1⟩ := c
  have m0 := h.c0
  have m1 := h.c1
  have n0 := h.fz 0
  have n1 := h.fz 1
  dsimp only at m0 m1
  clear h
  obtain rfl | rfl | rfl | rfl | rfl | rfl | rfl | rfl : a = 0 ∨ a = 1 ∨ a = 2 ∨ a = 3 ∨ a = 4 ∨ a = 5 ∨ a = 6 ∨ a = 7 := by omega
  all_goals
    go_enter Try.func54, Try.ntmps54
    go_wp2_with (go_at_call 76; refine (lineOf_one _ _ (by omega)).mono ?_; rintro e w' ⟨rfl, rfl⟩)
    go_ret
    exact ⟨rfl, rfl⟩

/-- linesOf's answer. -/
def LoR (xs : List Int) (w : World) (e : Ending) (w' : World) : Prop := ∃ c : Ca, e = .returned (.tuple #[aggLn c, .bool (okL xs)]) ∧ (okL xs = true → xs = c.l ∧ okCa c = true) ∧ Below w.heap.size w w'

set_option maxRecDepth 100000 in
set_option maxHeartbeats 4000000 in
theorem iLinesOf_one (xs : List Int) (a : Option Addr) (n cp : Nat) (w : World) (h : SliceI w a n xs) :
    Calls Try.prog 52 #[aggCa a n cp] w (LoR xs w) := by
  obtain ⟨W2, hW2⟩ : ∃ W, (w.alloc (.cells #[.slice a n cp] 25)).alloc (.cells #[.int .i64 0, .int .i64 0] 67) = W := ⟨_, rfl⟩
  have hz2 : w.heap.size + 2 ≤ W2.heap.size := by rw [← hW2]; simp
  have hB2 : Below w.heap.size w W2 := by rw [← hW2]; exact ((Below.refl _ w).alloc (Nat.le_refl _) _).alloc (by simp) _
  have hR : BoxLn W2 (w.heap.size + 1) ⟨0, 0⟩ := by
    rw [← hW2]
    have := BoxLn.new (w.alloc (.cells #[.slice a n cp] 25)) ⟨0, 0⟩
    simpa using this
  have hA : BoxCa W2 w.heap.size a n cp := by
    rw [← hW2]
    exact (BoxCa.new w a n cp 25).below ((Below.refl _ _).alloc (Nat.le_refl _) _)
  have hS : SliceI W2 a n xs := h.below hB2
  have HS := Lib.hid hS
  have HW := Lib.hid hW2
  have HR := Lib.hid hR
  have HA := Lib.hid hA
  have HB := Lib.hid hB2
  clear hW2 hR hA hB2 hS h
  go_enter Try.func52, Try.ntmps52
  go_wp2_with fail
  rw [HW.out]
  refine (iCv_one a n cp xs W2 HS.out).mono ?_
  rintro e w3 ⟨rfl, hb3⟩
  have hR3 := HR.out.below hb3
  have m0 := hR3.c0
  have m1 := hR3.c1
  have n0 := hR3.fz 0
  have n1 := hR3.fz 1
  dsimp only at m0 m1
  have x0 := (HA.out.below hb3).c0
  have HS3 := Lib.hid (HS.out.below hb3)
  have HB3 : Hid (Below w.heap.size w w3) := HB.out.trans (hb3.mono (by omega))
  clear hR3 hb3
  cases hq : okL xs with
  | false =>
    have HQ := Lib.hid hq
    have R0 : Hid (((w3.setCell ⟨w.heap.size + 1, 0, none⟩ (.int .i64 0)).setCell ⟨w.heap.size + 1, 1, none⟩ (.int .i64 0)).cell? ⟨w.heap.size + 1, 0, none⟩ = some (.int .i64 0) ∧ ((w3.setCell ⟨w.heap.size + 1, 0, none⟩ (.int .i64 0)).setCell ⟨w.heap.size + 1, 1, none⟩ (.int .i64 0)).cell? ⟨w.heap.size + 1, 1, none⟩ = some (.int .i64 0)) := by
      have k0 := cell_set (b' := w.heap.size + 1) (o' := 0) m0 (.int .i64 0)
      have k1 := cell_set (b' := w.heap.size + 1) (o' := 0) m1 (.int .i64 0)
      have l0 := cell_set (b' := w.heap.size + 1) (o' := 1) k0 (.int .i64 0)
      have l1 := cell_set (b' := w.heap.size + 1) (o' := 1) k1 (.int .i64 0)
      exact ⟨by simpa using l0, by simpa using l1⟩
    clear hq
    go_wp2_with fail
    obtain ⟨r0, r1⟩ := R0.out
    refine bodyPost_ret (v := .tuple #[aggLn ⟨0, 0⟩, .bool false]) (by simp [results, Try.f52, go_sem, r0, r1]) rfl ?_
    exact ⟨⟨0, 0⟩, by rw [HQ.out], (fun h => by rw [HQ.out] at h; cases h), (HB3.out.setCell (p := ⟨w.heap.size + 1, 0, none⟩) (by simp) _).setCell (p := ⟨w.heap.size + 1, 1, none⟩) (by simp) _⟩
  | true =>
    obtain ⟨c, rfl, hok⟩ := okL_two hq
    have hn : n = 2 := HS3.out.2.1.symm
    subst hn
    obtain ⟨b, o, rfl, q0⟩ := HS3.out.2.2 0 (by omega)
    obtain ⟨b', o', e, q1⟩ := HS3.out.2.2 1 (by omega)
    cases e
    replace q0 : w3.cell? ⟨b, o, none⟩ = some (.int .i64 c.c0) := q0
    replace q1 : w3.cell? ⟨b, o + 1, none⟩ = some (.int .i64 c.c1) := q1
    have HOK := Lib.hid hok
    have R0 : Hid (((w3.setCell ⟨w.heap.size + 1, 0, none⟩ (.int .i64 c.c0)).setCell ⟨w.heap.size + 1, 1, none⟩ (.int .i64 c.c1)).cell? ⟨w.heap.size + 1, 0, none⟩ = some (.int .i64 c.c0) ∧ ((w3.setCell ⟨w.heap.size + 1, 0, none⟩ (.int .i64 c.c0)).setCell ⟨w.heap.size + 1, 1, none⟩ (.int .i64 c.c1)).cell? ⟨w.heap.size + 1, 1, none⟩ = some (.int .i64 c.c1)) := by
      have k0 := cell_set (b' := w.heap.size + 1) (o' := 0) m0 (.int .i64 c.c0)
      have k1 := cell_set (b' := w.heap.size + 1) (o' := 0) m1 (.int .i64 c.c0)
      have l0 := cell_set (b' := w.heap.size + 1) (o' := 1) k0 (.int .i64 c.c1)
      have l1 := cell_set (b' := w.heap.size + 1) (o' := 1) k1 (.int .i64 c.c1)
      exact ⟨by simpa using l0, by simpa using l1⟩
    have HQ : Hid (okL c.l = true) := hok
    clear hq hok HS3 HS
    have hat : ∀ w, (Instr.arrayAt 67 (.slice (some ⟨b, o, none⟩) 2 cp)).run Try.prog w = .ok (.pointer (some ⟨b, o, none⟩)) w := fun w => run_arrayAt w 67 _ 2 _ 2 cp Try.underlying67 (by omega)
    go_wp2_with fail
    obtain ⟨r0, r1⟩ := R0.out
    refine bodyPost_ret (v := .tuple #[aggLn c, .bool true]) (by simp [results, Try.f52, go_sem, r0, r1]) rfl ?_
    exact ⟨c, by rw [HQ.out], fun _ => ⟨rfl, HOK.out⟩, (HB3.out.setCell (p := ⟨w.heap.size + 1, 0, none⟩) (by simp) _).setCell (p := ⟨w.heap.size + 1, 1, none⟩) (by simp) _⟩

end Go.Proofs.Yteoaecfjgbkefaa

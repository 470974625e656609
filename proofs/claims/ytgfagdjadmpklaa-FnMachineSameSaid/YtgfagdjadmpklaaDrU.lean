/- The draws of an expression's atom; what is stored behind a draw. -/
import Derived.Test.YtgfagdjadmpklaaDrUB
import Derived.Test.YtgfagdjadmpklaaVal
import Derived.Test.YtgfagdjadmpklaaSpR
namespace Go.Proofs.Ytgfagdjadmpklaa
open Go.RowKit
set_option linter.unusedVariables false

theorem Oth.put {B : Nat} {w w' : World} (h : Oth B w w') {g : Nat} (hg : w.heap.size ≤ g) (o : Nat) (vs : List Value) : Oth B w (put w' g o vs) :=
  ⟨by rw [put_size]; exact h.1, fun k hk hB => by rw [put_other _ _ _ _ _ (by omega)]; exact h.2 k hk hB⟩
/-- Behind a draw a result's cells are stored. -/
theorem dr_end {w w' : World} {B m g : Nat} (hr : RdU w' B m) (ho : Oth B w w') (hb : Below B w w') (hB : B < w.heap.size) (hg : w.heap.size ≤ g) (o : Nat) (vs : List Value) : RdU (put w' g o vs) B m ∧ Oth B w (put w' g o vs) ∧ Below B w (put w' g o vs) :=
  ⟨hr.below (put_below vs _ _ g g o (Below.refl g w') (Nat.le_refl _)) (by omega), ho.put hg o vs, put_below vs _ _ B g o hb (by omega)⟩

/-- An expression that is drawn: it lies in new blocks, short; the reader has drawn at most m times. -/
def DrE (d : Nat) (w : World) (B m : Nat) (f : Ending) (w' : World) : Prop := ∃ e a c, f = .returned (.agg #[.int .i64 e.kind, .int .i64 e.value, .slice a e.kids.length c]) ∧ (IsE w' (New w w') (d + 1) e (cellsI e a c) ∧ SmE 1048576 (d + 1) e ∧ cntE e ≤ 4 ^ d) ∧ RdU w' B m ∧ Oth B w w' ∧ Below B w w'

theorem leafE (w : World) (D : Nat → Prop) (d : Nat) (k v : Int) : IsE w D (d + 1) ⟨k, v, []⟩ (cellsI ⟨k, v, []⟩ none 0) ∧ SmE 1048576 (d + 1) ⟨k, v, []⟩ ∧ cntE ⟨k, v, []⟩ ≤ 4 ^ d :=
  ⟨⟨none, 0, rfl, Nat.le_refl _, by unfold maxLen; omega, fun i x hx => by simp at hx⟩, ⟨by simp, by simp [cntEs], fun i x hx => by simp at hx⟩, by simp [cntE, cntEs]; exact Nat.one_le_pow _ _ (by omega)⟩

set_option maxHeartbeats 2000000 in
theorem drAtom (B m : Nat) (p : Pg) (k : PC) (w : World) (h : RdU w B m) (hm : m < 1099511627000) (hv : 1 ≤ p.vars.length) (hv' : p.vars.length ≤ 1048576) (d : Nat) :
    Calls Try.prog 113 #[.pointer (some ⟨B, 0, none⟩), aggP p k] w (DrE d w B (m + 2)) := by
  have hlt := h.lt
  obtain ⟨W, hW⟩ : ∃ W, W = ((w.alloc (.cells #[.slice k.va p.vars.length k.vc, .slice k.aa p.arrs.length k.ac, .slice k.ba p.body.length k.bc] 55)).alloc (.cells #[.int .i64 0, .int .i64 0, .slice none 0 0] 45)) := ⟨_, rfl⟩
  have hBW : Below w.heap.size w W := by rw [hW]; exact ((Below.refl _ w).alloc (Nat.le_refl _) _).alloc (by simp) _
  have hz : W.heap.size = w.heap.size + 2 := by rw [hW]; simp
  have e0 : BoxP W w.heap.size p k := by rw [hW]; exact (BoxP.new w p k _).later (Below.heap_alloc _ _ _ (by simp))
  have e1 : W.heap[w.heap.size + 1]? = some (.cells #[.int .i64 0, .int .i64 0, .slice none 0 0] 45 (0, 0)) := by
    have e1 := heap_alloc_new (w.alloc (.cells #[.slice k.va p.vars.length k.vc, .slice k.aa p.arrs.length k.ac, .slice k.ba p.body.length k.bc] 55)) (.cells #[.int .i64 0, .int .i64 0, .slice none 0 0] 45)
    rw [World.size_alloc] at e1
    rw [hW]; exact e1
  have HR := Lib.hid (h.below hBW hlt)
  have HBW := Lib.hid hBW
  have HP := Lib.hid e0
  have HX := Lib.hid e1
  clear h hBW e0 e1
  go_enter Try.func113, Try.ntmps113
  go_wp2_with fail
  rw [← hW]
  clear hW
  refine (pickU B m 3 W HR.out (by omega) (by omega) (by omega)).mono ?_
  rintro f w1 ⟨v, ⟨v0, v1⟩, rfl, hr1, ho1, hb1⟩
  have HR1 := Lib.hid hr1
  have HO1 := Lib.hid ho1
  have HB1 := Lib.hid hb1
  have hs1 := ho1.1
  have HP1 := Lib.hid (HP.out.later (ho1.2 _ (by omega) (by omega)))
  have HX1 := Lib.hid ((ho1.2 (w.heap.size + 1) (by omega) (by omega)).trans HX.out)
  have p0 := HP1.out.c0
  clear hr1 ho1 hb1 HR HP HX
  by_cases h0 : v = 0
  · subst h0
    go_wp2_with fail
    obtain ⟨W2, hW2⟩ : ∃ W2, w1.alloc (.cells #[.int .i64 1, .int .i64 0, .int .i64 2, .int .i64 3, .int .i64 255, .int .i64 7, .int .i64 128] 3) = W2 := ⟨_, rfl⟩
    have hl2 : ∀ i, i < 7 → W2.cell? ⟨w1.heap.size, 0 + i, none⟩ = some (.int .i64 (([1, 0, 2, 3, 255, 7, 128] : List Int).getD i 0)) := by
      rw [← hW2]; exact lit_cells w1 [1, 0, 2, 3, 255, 7, 128] _
    have ho2 : Oth B w1 W2 := by rw [← hW2]; exact (Oth.refl _ _).alloc _
    have hb2 : Below B w1 W2 := by rw [← hW2]; exact (Below.refl B w1).alloc (Nat.le_of_lt HR1.out.lt) _
    have hr2 : RdU W2 B (m + 1) := by rw [← hW2]; exact HR1.out.below ((Below.refl w1.heap.size w1).alloc (Nat.le_refl _) _) HR1.out.lt
    have hz2 : W2.heap.size = w1.heap.size + 1 := by rw [← hW2]; simp
    rw [hW2]
    have HL2 := Lib.hid hl2
    have HO2 := Lib.hid ho2
    have HB2 := Lib.hid hb2
    have HR2 := Lib.hid hr2
    clear hW2 hl2 ho2 hb2 hr2
    refine (numU B (m + 1) w1.heap.size 0 7 7 [1, 0, 2, 3, 255, 7, 128] W2 HR2.out (by omega) (by omega) rfl (by omega) (by omega) HL2.out).mono ?_
    rintro f w3 ⟨u, hu, rfl, hr3, ho3, hb3⟩
    have hx3 := (ho3.2 (w.heap.size + 1) (by omega) (by omega)).trans ((HO2.out.2 (w.heap.size + 1) (by omega) (by omega)).trans HX1.out)
    obtain ⟨u0, hu0⟩ := cell_ex hx3 0 (by simp)
    obtain ⟨u1, hu1⟩ := cell_ex hx3 1 (by simp)
    obtain ⟨u2, hu2⟩ := cell_ex hx3 2 (by simp)
    have hf0 := frozen_at hx3 0
    have hf1 := frozen_at hx3 1
    have hf2 := frozen_at hx3 2
    have hs3 := ho3.1
    have HR3 := Lib.hid hr3
    have HO3 := Lib.hid (HO1.out.trans (HO2.out.trans ho3))
    have HB3 := Lib.hid (HB1.out.trans (HB2.out.trans hb3))
    clear hr3 ho3 hb3 hu hx3 HX1 HP1 HO2 HO1 HB1 HB2 HL2 HR2 HR1
    go_wp2_with fail
    refine bodyPost_ret (v := .agg #[.int .i64 1, .int .i64 u, .slice none 0 0]) (by simp [results, Try.f113, go_sem, hu0, hu1, hu2]) rfl ?_
    exact ⟨⟨1, u, []⟩, none, 0, rfl, leafE _ _ d 1 u, dr_end HR3.out ((Oth.below HBW.out).trans HO3.out) ((HBW.out.mono (Nat.le_of_lt hlt)).trans HB3.out) hlt (by omega) 0 [.int .i64 1, .int .i64 u, .slice none 0 0]⟩
  · have h0' : (v == 0) = false := by simpa using h0
    clear h0
    go_wp2_with fail
    refine (pickU B (m + 1) (p.vars.length : Int) w1 HR1.out (by omega) (by omega) (by omega)).mono ?_
    rintro f w3 ⟨u, hu, rfl, hr3, ho3, hb3⟩
    have hx3 := (ho3.2 (w.heap.size + 1) (by omega) (by omega)).trans HX1.out
    obtain ⟨u0, hu0⟩ := cell_ex hx3 0 (by simp)
    obtain ⟨u1, hu1⟩ := cell_ex hx3 1 (by simp)
    obtain ⟨u2, hu2⟩ := cell_ex hx3 2 (by simp)
    have hf0 := frozen_at hx3 0
    have hf1 := frozen_at hx3 1
    have hf2 := frozen_at hx3 2
    have hs3 := ho3.1
    have HR3 := Lib.hid hr3
    have HO3 := Lib.hid (HO1.out.trans ho3)
    have HB3 := Lib.hid (HB1.out.trans hb3)
    clear hr3 ho3 hb3 hu hx3 HX1 HP1 HO1 HB1 HR1
    go_wp2_with fail
    refine bodyPost_ret (v := .agg #[.int .i64 2, .int .i64 u, .slice none 0 0]) (by simp [results, Try.f113, go_sem, hu0, hu1, hu2]) rfl ?_
    exact ⟨⟨2, u, []⟩, none, 0, rfl, leafE _ _ d 2 u, dr_end HR3.out ((Oth.below HBW.out).trans HO3.out) ((HBW.out.mono (Nat.le_of_lt hlt)).trans HB3.out) hlt (by omega) 0 [.int .i64 2, .int .i64 u, .slice none 0 0]⟩

end Go.Proofs.Ytgfagdjadmpklaa

/- The draw of a statement of the model's package, told the draw of a block one level less. -/
import Derived.Test.YtgfagdjadmpklaaDrW
import Derived.Deep.RegionHeld3
namespace Go.Proofs.Ytgfagdjadmpklaa
open Go.RowKit
set_option linter.unusedVariables false

set_option maxRecDepth 100000 in
set_option maxHeartbeats 16000000 in
theorem drStmt_of (p : Pg) (k : PC) (hv : 1 ≤ p.vars.length) (hv' : p.vars.length ≤ 1048576) (ha' : p.arrs.length ≤ 1048576) (n c Q M : Nat) (hn : 7 ≤ n) (hM : M ≤ 1099400000000) (d : Int)
    (hblk : 1 < d → ∀ (B m N : Nat) (w : World), RdU w B m → N ≤ 4 → m + 4 * Q < M → Calls Try.prog 98 #[.pointer (some ⟨B, 0, none⟩), aggP p k, .int .i64 (d - 1), .int .i64 (N : Int)] w (DrBl n c N w B (m + N * Q)))
    (hd0 : 0 ≤ d) (hd1 : d ≤ 100) (B m : Nat) (w : World) (h : RdU w B m) (hm : m + 20010 + 8 * Q < M) :
    Calls Try.prog 105 #[.pointer (some ⟨B, 0, none⟩), aggP p k, .int .i64 d] w (DrSt (n + 1) (1 + 4 * c) w B (m + (20010 + 8 * Q))) := by
  have hlt := h.lt
  obtain ⟨W, hW⟩ : ∃ W, (w.alloc (.cells #[.slice k.va p.vars.length k.vc, .slice k.aa p.arrs.length k.ac, .slice k.ba p.body.length k.bc] 55)).alloc (.cells #[.int .i64 0, .int .i64 0, .int .i64 0, .int .i64 0, .slice none 0 0, .int .i64 0, .int .i64 0, .slice none 0 0, .int .i64 0, .slice none 0 0, .slice none 0 0] 107) = W := ⟨_, rfl⟩
  have hBW : Below w.heap.size w W := by rw [← hW]; exact ((Below.refl _ w).alloc (Nat.le_refl _) _).alloc (by simp) _
  have hz : W.heap.size = w.heap.size + 2 := by rw [← hW]; simp
  have e0 : BoxP W w.heap.size p k := by rw [← hW]; exact (BoxP.new w p k _).later (Below.heap_alloc _ _ _ (by simp))
  have e1 : W.heap[w.heap.size + 1]? = some (.cells (arrS (zS 0) zK) 107 (0, 0)) := by
    have e1 := heap_alloc_new (w.alloc (.cells #[.slice k.va p.vars.length k.vc, .slice k.aa p.arrs.length k.ac, .slice k.ba p.body.length k.bc] 55)) (.cells #[.int .i64 0, .int .i64 0, .int .i64 0, .int .i64 0, .slice none 0 0, .int .i64 0, .int .i64 0, .slice none 0 0, .int .i64 0, .slice none 0 0, .slice none 0 0] 107)
    rw [World.size_alloc] at e1
    rw [← hW]; exact e1
  have hl2 : ∀ i, i < 8 → (W.alloc (.cells #[.int .i64 1, .int .i64 1, .int .i64 2, .int .i64 3, .int .i64 4, .int .i64 1, .int .i64 3, .int .i64 5] 3)).cell? ⟨w.heap.size + 2, 0 + i, none⟩ = some (.int .i64 (([1, 1, 2, 3, 4, 1, 3, 5] : List Int).getD i 0)) := by rw [← hz]; exact lit_cells W [1, 1, 2, 3, 4, 1, 3, 5] _
  have hRL : RdU (W.alloc (.cells #[.int .i64 1, .int .i64 1, .int .i64 2, .int .i64 3, .int .i64 4, .int .i64 1, .int .i64 3, .int .i64 5] 3)) B m := (h.below hBW hlt).alloc _
  have HBL := Lib.hid hBW
  have HP := Lib.hid e0
  have HR := Lib.hid e1
  have HL := Lib.hid hl2
  have HRL := Lib.hid hRL
  have HBLK := Lib.hid hblk
  clear h hBW e0 e1 hl2 hRL hblk
  go_enter Try.func105, Try.ntmps105
  go_wp2_with fail
  clear hW
  with_reducible refine (numU B m (w.heap.size + 2) 0 8 8 [1, 1, 2, 3, 4, 1, 3, 5] (W.alloc (.cells #[.int .i64 1, .int .i64 1, .int .i64 2, .int .i64 3, .int .i64 4, .int .i64 1, .int .i64 3, .int .i64 5] 3)) HRL.out (by omega) (by omega) rfl (by omega) (by omega) HL.out).mono ?_
  rintro f u1 ⟨kd, hkd, rfl, hr1, ho1, hb1⟩
  have hO1 : Oth B w u1 := (Oth.below HBL.out).trans (((Oth.refl B W).alloc (.cells #[.int .i64 1, .int .i64 1, .int .i64 2, .int .i64 3, .int .i64 4, .int .i64 1, .int .i64 3, .int .i64 5] 3)).trans ho1)
  have hB1 : Below B w u1 := (HBL.out.mono (Nat.le_of_lt hlt)).trans (((Below.refl B W).alloc (by omega) (.cells #[.int .i64 1, .int .i64 1, .int .i64 2, .int .i64 3, .int .i64 4, .int .i64 1, .int .i64 3, .int .i64 5] 3)).trans hb1)
  have hz1 : W.heap.size + 1 ≤ u1.heap.size := by have := ho1.1; simpa using this
  have hP1 := HP.out.later ((ho1.2 w.heap.size (by simp; omega) (by omega)).trans (Below.heap_alloc _ _ _ (by omega)))
  have hR1 := ((ho1.2 (w.heap.size + 1) (by simp; omega) (by omega)).trans (Below.heap_alloc _ _ _ (by omega))).trans HR.out
  have HDK : Hid (∀ kd, DSt p k w B (m + 1) u1.heap.size n (1 + 4 * c) (zS kd) zK (u1.alloc (.cells (arrS (zS kd) zK) 107))) := fun kd => DSt.start (n := n) (c := 1 + 4 * c) (by omega) (by omega) hlt hr1 hO1 hB1 hP1 hR1 kd
  have p0 := hP1.c0
  have p1 := hP1.c1
  have p2 := hP1.c2
  have hg1 : w.heap.size + 1 < u1.heap.size := by omega
  have hk5 : kd = 1 ∨ kd = 2 ∨ kd = 3 ∨ kd = 4 ∨ kd = 5 := by simp at hkd; omega
  clear hkd HP HR HL HRL hr1 hO1 hB1 hP1 hR1 ho1 hb1 hz1 HBL
  rcases hk5 with rfl | rfl | rfl | rfl | rfl
  · clear p0 p1 p2
    have p00 : (u1.alloc (.cells #[.int .i64 1, .int .i64 0, .int .i64 0, .int .i64 0, .slice none 0 0, .int .i64 0, .int .i64 0, .slice none 0 0, .int .i64 0, .slice none 0 0, .slice none 0 0] 107)).cell? ⟨w.heap.size, 0, none⟩ = some (.slice k.va p.vars.length k.vc) := (HDK.out 1).bp.c0
    have p10 : (u1.alloc (.cells #[.int .i64 1, .int .i64 0, .int .i64 0, .int .i64 0, .slice none 0 0, .int .i64 0, .int .i64 0, .slice none 0 0, .int .i64 0, .slice none 0 0, .slice none 0 0] 107)).cell? ⟨w.heap.size, 1, none⟩ = some (.slice k.aa p.arrs.length k.ac) := (HDK.out 1).bp.c1
    have p20 : (u1.alloc (.cells #[.int .i64 1, .int .i64 0, .int .i64 0, .int .i64 0, .slice none 0 0, .int .i64 0, .int .i64 0, .slice none 0 0, .int .i64 0, .slice none 0 0, .slice none 0 0] 107)).cell? ⟨w.heap.size, 2, none⟩ = some (.slice k.ba p.body.length k.bc) := (HDK.out 1).bp.c2
    go_wp2_with fail
    have HD0 := Lib.hid (HDK.out 1)
    obtain ⟨U0, hU0⟩ : ∃ U0, (u1.alloc (.cells (arrS (zS 1) zK) 107)) = U0 := ⟨_, rfl⟩
    rw [hU0] at HD0
    simp only [arrS, List.length_nil] at hU0
    rw [hU0]
    clear hU0 p00 p10 p20
    with_reducible refine (pickU B (m + 1) (p.vars.length : Int) U0 HD0.out.rd (by omega) (by omega) (by omega)).mono ?_
    rintro f u2 ⟨tv, htv, rfl, hr2, ho2, hb2⟩
    have HD2 := Lib.hid (HD0.out.call hr2 ho2 hb2)
    have hd3 : DSt p k w B (m + 1 + 1) u1.heap.size n (1 + 4 * c) { zS 1 with target := tv } zK (u2.setCell ⟨u1.heap.size, 1, none⟩ (.int .i64 tv)) := HD2.out.num 1 tv 0 1 tv rfl
    obtain ⟨y1, hy1⟩ := cell_ex HD2.out.bs 1 (by simp)
    have x1 := frozen_at HD2.out.bs 1
    obtain ⟨U3, hU3⟩ : ∃ U3, u2.setCell ⟨u1.heap.size, 1, none⟩ (.int .i64 tv) = U3 := ⟨_, rfl⟩
    rw [hU3] at hd3
    have HD3 := Lib.hid hd3
    have p0 := hd3.bp.c0
    have p1 := hd3.bp.c1
    have p2 := hd3.bp.c2
    have hgU : u1.heap.size < U3.heap.size := (Array.getElem?_eq_some_iff.1 hd3.bs).1
    clear hd3 hr2 ho2 hb2 htv
    go_wp2_with fail
    clear hU3 p0 p1 p2 hy1 x1
    with_reducible refine (drSmall p k hv hv' ha' B (m + 1 + 1) U3 HD3.out.rd (by omega)).mono ?_
    rintro f u4 ⟨e, a, cc, rfl, ⟨nx, hnx, hx, hsx⟩, hr4, ho4, hb4⟩
    have HD4 := Lib.hid (HD3.out.call hr4 ho4 hb4)
    have HF := Lib.hid ((HD3.out.val (d := nx) (by omega) hgU hx hsx hr4 ho4 hb4).fin (m' := m + (20010 + 8 * Q)) (by omega))
    have hbS : BoxS u4 u1.heap.size ({ zS 1 with target := tv }) (zK) := ⟨_, HD4.out.bs⟩
    have c0 := hbS.c0
    have c1 := hbS.c1
    have c2 := hbS.c2
    have c3 := hbS.c3
    have c4 := hbS.c4
    have c5 := hbS.c5
    have c6 := hbS.c6
    have c7 := hbS.c7
    have c8 := hbS.c8
    have c9 := hbS.c9
    have c10 := hbS.c10
    have z5 := frozen_at HD4.out.bs 5
    have z6 := frozen_at HD4.out.bs 6
    have z7 := frozen_at HD4.out.bs 7
    obtain ⟨v0, hu0⟩ := cell_ex HD4.out.br 0 (by simp)
    have f0 := frozen_at HD4.out.br 0
    obtain ⟨v1, hu1⟩ := cell_ex HD4.out.br 1 (by simp)
    have f1 := frozen_at HD4.out.br 1
    obtain ⟨v2, hu2⟩ := cell_ex HD4.out.br 2 (by simp)
    have f2 := frozen_at HD4.out.br 2
    obtain ⟨v3, hu3⟩ := cell_ex HD4.out.br 3 (by simp)
    have f3 := frozen_at HD4.out.br 3
    obtain ⟨v4, hu4⟩ := cell_ex HD4.out.br 4 (by simp)
    have f4 := frozen_at HD4.out.br 4
    obtain ⟨v5, hu5⟩ := cell_ex HD4.out.br 5 (by simp)
    have f5 := frozen_at HD4.out.br 5
    obtain ⟨v6, hu6⟩ := cell_ex HD4.out.br 6 (by simp)
    have f6 := frozen_at HD4.out.br 6
    obtain ⟨v7, hu7⟩ := cell_ex HD4.out.br 7 (by simp)
    have f7 := frozen_at HD4.out.br 7
    obtain ⟨v8, hu8⟩ := cell_ex HD4.out.br 8 (by simp)
    have f8 := frozen_at HD4.out.br 8
    obtain ⟨v9, hu9⟩ := cell_ex HD4.out.br 9 (by simp)
    have f9 := frozen_at HD4.out.br 9
    obtain ⟨v10, hu10⟩ := cell_ex HD4.out.br 10 (by simp)
    have f10 := frozen_at HD4.out.br 10
    clear hx hsx hr4 ho4 hb4 hbS HD2 HD3 HD4
    go_wp2_with fail
    exact bodyPost_ret (v := aggS { { zS 1 with target := tv } with value := e } { zK with va := a, vc := cc }) (by simp [results, Try.f105, go_sem, hu0, hu1, hu2, hu3, hu4, hu5, hu6, hu7, hu8, hu9, hu10]) rfl HF.out
  · by_cases ha0 : p.arrs.length = 0
    · have ha1 : decide (0 < p.arrs.length) = false := decide_eq_false (by omega)
      clear ha0
      clear p0 p1 p2
      have p00 : (u1.alloc (.cells #[.int .i64 2, .int .i64 0, .int .i64 0, .int .i64 0, .slice none 0 0, .int .i64 0, .int .i64 0, .slice none 0 0, .int .i64 0, .slice none 0 0, .slice none 0 0] 107)).cell? ⟨w.heap.size, 0, none⟩ = some (.slice k.va p.vars.length k.vc) := (HDK.out 2).bp.c0
      have p10 : (u1.alloc (.cells #[.int .i64 2, .int .i64 0, .int .i64 0, .int .i64 0, .slice none 0 0, .int .i64 0, .int .i64 0, .slice none 0 0, .int .i64 0, .slice none 0 0, .slice none 0 0] 107)).cell? ⟨w.heap.size, 1, none⟩ = some (.slice k.aa p.arrs.length k.ac) := (HDK.out 2).bp.c1
      have p20 : (u1.alloc (.cells #[.int .i64 2, .int .i64 0, .int .i64 0, .int .i64 0, .slice none 0 0, .int .i64 0, .int .i64 0, .slice none 0 0, .int .i64 0, .slice none 0 0, .slice none 0 0] 107)).cell? ⟨w.heap.size, 2, none⟩ = some (.slice k.ba p.body.length k.bc) := (HDK.out 2).bp.c2
      have p01 : (u1.alloc (.cells #[.int .i64 1, .int .i64 0, .int .i64 0, .int .i64 0, .slice none 0 0, .int .i64 0, .int .i64 0, .slice none 0 0, .int .i64 0, .slice none 0 0, .slice none 0 0] 107)).cell? ⟨w.heap.size, 0, none⟩ = some (.slice k.va p.vars.length k.vc) := (HDK.out 1).bp.c0
      have p11 : (u1.alloc (.cells #[.int .i64 1, .int .i64 0, .int .i64 0, .int .i64 0, .slice none 0 0, .int .i64 0, .int .i64 0, .slice none 0 0, .int .i64 0, .slice none 0 0, .slice none 0 0] 107)).cell? ⟨w.heap.size, 1, none⟩ = some (.slice k.aa p.arrs.length k.ac) := (HDK.out 1).bp.c1
      have p21 : (u1.alloc (.cells #[.int .i64 1, .int .i64 0, .int .i64 0, .int .i64 0, .slice none 0 0, .int .i64 0, .int .i64 0, .slice none 0 0, .int .i64 0, .slice none 0 0, .slice none 0 0] 107)).cell? ⟨w.heap.size, 2, none⟩ = some (.slice k.ba p.body.length k.bc) := (HDK.out 1).bp.c2
      go_wp2_with fail
      have HD0 := Lib.hid (HDK.out 1)
      obtain ⟨U0, hU0⟩ : ∃ U0, (u1.alloc (.cells (arrS (zS 1) zK) 107)) = U0 := ⟨_, rfl⟩
      rw [hU0] at HD0
      simp only [arrS, List.length_nil] at hU0
      rw [hU0]
      clear hU0 p00 p10 p20 p01 p11 p21
      with_reducible refine (pickU B (m + 1) (p.vars.length : Int) U0 HD0.out.rd (by omega) (by omega) (by omega)).mono ?_
      rintro f u2 ⟨tv, htv, rfl, hr2, ho2, hb2⟩
      have HD2 := Lib.hid (HD0.out.call hr2 ho2 hb2)
      have hd3 : DSt p k w B (m + 1 + 1) u1.heap.size n (1 + 4 * c) { zS 1 with target := tv } zK (u2.setCell ⟨u1.heap.size, 1, none⟩ (.int .i64 tv)) := HD2.out.num 1 tv 0 1 tv rfl
      obtain ⟨y1, hy1⟩ := cell_ex HD2.out.bs 1 (by simp)
      have x1 := frozen_at HD2.out.bs 1
      obtain ⟨U3, hU3⟩ : ∃ U3, u2.setCell ⟨u1.heap.size, 1, none⟩ (.int .i64 tv) = U3 := ⟨_, rfl⟩
      rw [hU3] at hd3
      have HD3 := Lib.hid hd3
      have p0 := hd3.bp.c0
      have p1 := hd3.bp.c1
      have p2 := hd3.bp.c2
      have hgU : u1.heap.size < U3.heap.size := (Array.getElem?_eq_some_iff.1 hd3.bs).1
      clear hd3 hr2 ho2 hb2 htv
      go_wp2_with fail
      clear hU3 p0 p1 p2 hy1 x1
      with_reducible refine (drSmall p k hv hv' ha' B (m + 1 + 1) U3 HD3.out.rd (by omega)).mono ?_
      rintro f u4 ⟨e, a, cc, rfl, ⟨nx, hnx, hx, hsx⟩, hr4, ho4, hb4⟩
      have HD4 := Lib.hid (HD3.out.call hr4 ho4 hb4)
      have HF := Lib.hid ((HD3.out.val (d := nx) (by omega) hgU hx hsx hr4 ho4 hb4).fin (m' := m + (20010 + 8 * Q)) (by omega))
      have hbS : BoxS u4 u1.heap.size ({ zS 1 with target := tv }) (zK) := ⟨_, HD4.out.bs⟩
      have c0 := hbS.c0
      have c1 := hbS.c1
      have c2 := hbS.c2
      have c3 := hbS.c3
      have c4 := hbS.c4
      have c5 := hbS.c5
      have c6 := hbS.c6
      have c7 := hbS.c7
      have c8 := hbS.c8
      have c9 := hbS.c9
      have c10 := hbS.c10
      have z5 := frozen_at HD4.out.bs 5
      have z6 := frozen_at HD4.out.bs 6
      have z7 := frozen_at HD4.out.bs 7
      obtain ⟨v0, hu0⟩ := cell_ex HD4.out.br 0 (by simp)
      have f0 := frozen_at HD4.out.br 0
      obtain ⟨v1, hu1⟩ := cell_ex HD4.out.br 1 (by simp)
      have f1 := frozen_at HD4.out.br 1
      obtain ⟨v2, hu2⟩ := cell_ex HD4.out.br 2 (by simp)
      have f2 := frozen_at HD4.out.br 2
      obtain ⟨v3, hu3⟩ := cell_ex HD4.out.br 3 (by simp)
      have f3 := frozen_at HD4.out.br 3
      obtain ⟨v4, hu4⟩ := cell_ex HD4.out.br 4 (by simp)
      have f4 := frozen_at HD4.out.br 4
      obtain ⟨v5, hu5⟩ := cell_ex HD4.out.br 5 (by simp)
      have f5 := frozen_at HD4.out.br 5
      obtain ⟨v6, hu6⟩ := cell_ex HD4.out.br 6 (by simp)
      have f6 := frozen_at HD4.out.br 6
      obtain ⟨v7, hu7⟩ := cell_ex HD4.out.br 7 (by simp)
      have f7 := frozen_at HD4.out.br 7
      obtain ⟨v8, hu8⟩ := cell_ex HD4.out.br 8 (by simp)
      have f8 := frozen_at HD4.out.br 8
      obtain ⟨v9, hu9⟩ := cell_ex HD4.out.br 9 (by simp)
      have f9 := frozen_at HD4.out.br 9
      obtain ⟨v10, hu10⟩ := cell_ex HD4.out.br 10 (by simp)
      have f10 := frozen_at HD4.out.br 10
      clear hx hsx hr4 ho4 hb4 hbS HD2 HD3 HD4
      go_wp2_with fail
      exact bodyPost_ret (v := aggS { { zS 1 with target := tv } with value := e } { zK with va := a, vc := cc }) (by simp [results, Try.f105, go_sem, hu0, hu1, hu2, hu3, hu4, hu5, hu6, hu7, hu8, hu9, hu10]) rfl HF.out
    · have ha1 : (0 : Int) < (p.arrs.length : Int) := by omega
      clear p0 p1 p2
      have p00 : (u1.alloc (.cells #[.int .i64 2, .int .i64 0, .int .i64 0, .int .i64 0, .slice none 0 0, .int .i64 0, .int .i64 0, .slice none 0 0, .int .i64 0, .slice none 0 0, .slice none 0 0] 107)).cell? ⟨w.heap.size, 0, none⟩ = some (.slice k.va p.vars.length k.vc) := (HDK.out 2).bp.c0
      have p10 : (u1.alloc (.cells #[.int .i64 2, .int .i64 0, .int .i64 0, .int .i64 0, .slice none 0 0, .int .i64 0, .int .i64 0, .slice none 0 0, .int .i64 0, .slice none 0 0, .slice none 0 0] 107)).cell? ⟨w.heap.size, 1, none⟩ = some (.slice k.aa p.arrs.length k.ac) := (HDK.out 2).bp.c1
      have p20 : (u1.alloc (.cells #[.int .i64 2, .int .i64 0, .int .i64 0, .int .i64 0, .slice none 0 0, .int .i64 0, .int .i64 0, .slice none 0 0, .int .i64 0, .slice none 0 0, .slice none 0 0] 107)).cell? ⟨w.heap.size, 2, none⟩ = some (.slice k.ba p.body.length k.bc) := (HDK.out 2).bp.c2
      go_wp2_with fail
      have HD0 := Lib.hid (HDK.out 2)
      obtain ⟨U0, hU0⟩ : ∃ U0, (u1.alloc (.cells (arrS (zS 2) zK) 107)) = U0 := ⟨_, rfl⟩
      rw [hU0] at HD0
      simp only [arrS, List.length_nil] at hU0
      rw [hU0]
      clear hU0 p00 p10 p20
      with_reducible refine (pickU B (m + 1) (p.arrs.length : Int) U0 HD0.out.rd (by omega) (by omega) (by omega)).mono ?_
      rintro f u2 ⟨tv, htv, rfl, hr2, ho2, hb2⟩
      have HD2 := Lib.hid (HD0.out.call hr2 ho2 hb2)
      have hd3 : DSt p k w B (m + 1 + 1) u1.heap.size n (1 + 4 * c) { zS 2 with target := tv } zK (u2.setCell ⟨u1.heap.size, 1, none⟩ (.int .i64 tv)) := HD2.out.num 2 tv 0 1 tv rfl
      obtain ⟨y1, hy1⟩ := cell_ex HD2.out.bs 1 (by simp)
      have x1 := frozen_at HD2.out.bs 1
      obtain ⟨U3, hU3⟩ : ∃ U3, u2.setCell ⟨u1.heap.size, 1, none⟩ (.int .i64 tv) = U3 := ⟨_, rfl⟩
      rw [hU3] at hd3
      have HD3 := Lib.hid hd3
      have p0 := hd3.bp.c0
      have p1 := hd3.bp.c1
      have p2 := hd3.bp.c2
      have hgU : u1.heap.size < U3.heap.size := (Array.getElem?_eq_some_iff.1 hd3.bs).1
      clear hd3 hr2 ho2 hb2 htv
      go_wp2_with fail
      clear hU3 p0 p1 p2 hy1 x1
      with_reducible refine (drAtom B (m + 1 + 1) p k U3 HD3.out.rd (by omega) hv hv' 0).mono ?_
      rintro f u4 ⟨ei, ai, ci, rfl, ⟨hxi, hsi, _⟩, hr4, ho4, hb4⟩
      have HD4 := Lib.hid (HD3.out.call hr4 ho4 hb4)
      have hd5 : DSt p k w B (m + 1 + 1 + 2) u1.heap.size n (1 + 4 * c) { { zS 2 with target := tv } with index := ei } { zK with ia := ai, ic := ci } (((u4.setCell ⟨u1.heap.size, 2, none⟩ (.int .i64 ei.kind)).setCell ⟨u1.heap.size, 3, none⟩ (.int .i64 ei.value)).setCell ⟨u1.heap.size, 4, none⟩ (.slice ai ei.kids.length ci)) := HD3.out.idx (d := 0 + 1) (by omega) hgU hxi hsi hr4 ho4 hb4
      obtain ⟨y2, hy2⟩ := cell_ex HD4.out.bs 2 (by simp)
      obtain ⟨y3, hy3⟩ := cell_ex HD4.out.bs 3 (by simp)
      obtain ⟨y4, hy4⟩ := cell_ex HD4.out.bs 4 (by simp)
      have x2 := frozen_at HD4.out.bs 2
      have x3 := frozen_at HD4.out.bs 3
      have x4 := frozen_at HD4.out.bs 4
      obtain ⟨U5, hU5⟩ : ∃ U5, ((u4.setCell ⟨u1.heap.size, 2, none⟩ (.int .i64 ei.kind)).setCell ⟨u1.heap.size, 3, none⟩ (.int .i64 ei.value)).setCell ⟨u1.heap.size, 4, none⟩ (.slice ai ei.kids.length ci) = U5 := ⟨_, rfl⟩
      rw [hU5] at hd5
      have HD5 := Lib.hid hd5
      have p0 := hd5.bp.c0
      have p1 := hd5.bp.c1
      have p2 := hd5.bp.c2
      have hgU5 : u1.heap.size < U5.heap.size := (Array.getElem?_eq_some_iff.1 hd5.bs).1
      clear hd5 hr4 ho4 hb4 hxi hsi hgU
      go_wp2_with fail
      clear hU5 p0 p1 p2 hy2 hy3 hy4 x2 x3 x4
      with_reducible refine (drSmall p k hv hv' ha' B (m + 1 + 1 + 2) U5 HD5.out.rd (by omega)).mono ?_
      rintro f u6 ⟨e, a, cc, rfl, ⟨nx, hnx, hx, hsx⟩, hr4, ho4, hb4⟩
      have HD6 := Lib.hid (HD5.out.call hr4 ho4 hb4)
      have HF := Lib.hid ((HD5.out.val (d := nx) (by omega) hgU5 hx hsx hr4 ho4 hb4).fin (m' := m + (20010 + 8 * Q)) (by omega))
      have hbS : BoxS u6 u1.heap.size ({ { zS 2 with target := tv } with index := ei }) ({ zK with ia := ai, ic := ci }) := ⟨_, HD6.out.bs⟩
      have c0 := hbS.c0
      have c1 := hbS.c1
      have c2 := hbS.c2
      have c3 := hbS.c3
      have c4 := hbS.c4
      have c5 := hbS.c5
      have c6 := hbS.c6
      have c7 := hbS.c7
      have c8 := hbS.c8
      have c9 := hbS.c9
      have c10 := hbS.c10
      have z5 := frozen_at HD6.out.bs 5
      have z6 := frozen_at HD6.out.bs 6
      have z7 := frozen_at HD6.out.bs 7
      obtain ⟨v0, hu0⟩ := cell_ex HD6.out.br 0 (by simp)
      have f0 := frozen_at HD6.out.br 0
      obtain ⟨v1, hu1⟩ := cell_ex HD6.out.br 1 (by simp)
      have f1 := frozen_at HD6.out.br 1
      obtain ⟨v2, hu2⟩ := cell_ex HD6.out.br 2 (by simp)
      have f2 := frozen_at HD6.out.br 2
      obtain ⟨v3, hu3⟩ := cell_ex HD6.out.br 3 (by simp)
      have f3 := frozen_at HD6.out.br 3
      obtain ⟨v4, hu4⟩ := cell_ex HD6.out.br 4 (by simp)
      have f4 := frozen_at HD6.out.br 4
      obtain ⟨v5, hu5⟩ := cell_ex HD6.out.br 5 (by simp)
      have f5 := frozen_at HD6.out.br 5
      obtain ⟨v6, hu6⟩ := cell_ex HD6.out.br 6 (by simp)
      have f6 := frozen_at HD6.out.br 6
      obtain ⟨v7, hu7⟩ := cell_ex HD6.out.br 7 (by simp)
      have f7 := frozen_at HD6.out.br 7
      obtain ⟨v8, hu8⟩ := cell_ex HD6.out.br 8 (by simp)
      have f8 := frozen_at HD6.out.br 8
      obtain ⟨v9, hu9⟩ := cell_ex HD6.out.br 9 (by simp)
      have f9 := frozen_at HD6.out.br 9
      obtain ⟨v10, hu10⟩ := cell_ex HD6.out.br 10 (by simp)
      have f10 := frozen_at HD6.out.br 10
      clear hx hsx hr4 ho4 hb4 hbS HD2 HD3 HD4 HD5 HD6
      go_wp2_with fail
      exact bodyPost_ret (v := aggS { { { zS 2 with target := tv } with index := ei } with value := e } { { zK with ia := ai, ic := ci } with va := a, vc := cc }) (by simp [results, Try.f105, go_sem, hu0, hu1, hu2, hu3, hu4, hu5, hu6, hu7, hu8, hu9, hu10]) rfl HF.out
  · by_cases hd : 1 < d
    · have hw : IntKind.i64.wrap (d - 1) = d - 1 := IntWalk.i64_in _ (by omega)
      clear p0 p1 p2
      have p00 : (u1.alloc (.cells #[.int .i64 3, .int .i64 0, .int .i64 0, .int .i64 0, .slice none 0 0, .int .i64 0, .int .i64 0, .slice none 0 0, .int .i64 0, .slice none 0 0, .slice none 0 0] 107)).cell? ⟨w.heap.size, 0, none⟩ = some (.slice k.va p.vars.length k.vc) := (HDK.out 3).bp.c0
      have p10 : (u1.alloc (.cells #[.int .i64 3, .int .i64 0, .int .i64 0, .int .i64 0, .slice none 0 0, .int .i64 0, .int .i64 0, .slice none 0 0, .int .i64 0, .slice none 0 0, .slice none 0 0] 107)).cell? ⟨w.heap.size, 1, none⟩ = some (.slice k.aa p.arrs.length k.ac) := (HDK.out 3).bp.c1
      have p20 : (u1.alloc (.cells #[.int .i64 3, .int .i64 0, .int .i64 0, .int .i64 0, .slice none 0 0, .int .i64 0, .int .i64 0, .slice none 0 0, .int .i64 0, .slice none 0 0, .slice none 0 0] 107)).cell? ⟨w.heap.size, 2, none⟩ = some (.slice k.ba p.body.length k.bc) := (HDK.out 3).bp.c2
      go_wp2_with fail
      have HD0 := Lib.hid (HDK.out 3)
      obtain ⟨U0, hU0⟩ : ∃ U0, (u1.alloc (.cells (arrS (zS 3) zK) 107)) = U0 := ⟨_, rfl⟩
      rw [hU0] at HD0
      simp only [arrS, List.length_nil] at hU0
      rw [hU0]
      clear hU0 p00 p10 p20
      with_reducible refine (drSmall p k hv hv' ha' B (m + 1) U0 HD0.out.rd (by omega)).mono ?_
      rintro f u2 ⟨e, a, cc, rfl, ⟨nx, hnx, hx, hsx⟩, hr4, ho4, hb4⟩
      have hgU : u1.heap.size < U0.heap.size := (Array.getElem?_eq_some_iff.1 HD0.out.bs).1
      have HD2 := Lib.hid (HD0.out.call hr4 ho4 hb4)
      have hd3 : DSt p k w B (m + 1 + 20000) u1.heap.size n (1 + 4 * c) { zS 3 with value := e } { zK with va := a, vc := cc } (((u2.setCell ⟨u1.heap.size, 5, none⟩ (.int .i64 e.kind)).setCell ⟨u1.heap.size, 6, none⟩ (.int .i64 e.value)).setCell ⟨u1.heap.size, 7, none⟩ (.slice a e.kids.length cc)) := HD0.out.val (d := nx) (by omega) hgU hx hsx hr4 ho4 hb4
      obtain ⟨y5, hy5⟩ := cell_ex HD2.out.bs 5 (by simp)
      obtain ⟨y6, hy6⟩ := cell_ex HD2.out.bs 6 (by simp)
      obtain ⟨y7, hy7⟩ := cell_ex HD2.out.bs 7 (by simp)
      have x5 := frozen_at HD2.out.bs 5
      have x6 := frozen_at HD2.out.bs 6
      have x7 := frozen_at HD2.out.bs 7
      obtain ⟨U3, hU3⟩ : ∃ U3, ((u2.setCell ⟨u1.heap.size, 5, none⟩ (.int .i64 e.kind)).setCell ⟨u1.heap.size, 6, none⟩ (.int .i64 e.value)).setCell ⟨u1.heap.size, 7, none⟩ (.slice a e.kids.length cc) = U3 := ⟨_, rfl⟩
      rw [hU3] at hd3
      have HD3 := Lib.hid hd3
      clear hd3 hr4 ho4 hb4 hx hsx hgU
      go_wp2_with fail
      clear hU3 hy5 hy6 hy7 x5 x6 x7
      have HCa : Hid (1 + 2 * c + cntSs ([] : List S) ≤ 1 + 4 * c) := by
        have : 1 + 2 * c + cntSs ([] : List S) ≤ 1 + 4 * c := by simp [cntSs]; omega
        exact this
      have hbpa := HD3.out.bp
      have HSa : Hid (∀ v', Oth B U3 v' → v'.cell? ⟨w.heap.size, 0, none⟩ = some (.slice k.va p.vars.length k.vc) ∧ v'.cell? ⟨w.heap.size, 1, none⟩ = some (.slice k.aa p.arrs.length k.ac) ∧ v'.cell? ⟨w.heap.size, 2, none⟩ = some (.slice k.ba p.body.length k.bc)) := fun v' hv' => by
        have hl := HD3.out.hB
        have h := hbpa.later (hv'.2 w.heap.size hbpa.lt (by omega))
        exact ⟨h.c0, h.c1, h.c2⟩
      obtain ⟨p0, p1, p2⟩ := HSa.out U3 (Oth.refl _ _)
      have HLa : Hid (∀ i, i < 4 → ((U3.alloc (.cells #[.int .i64 1, .int .i64 2, .int .i64 1, .int .i64 0] 3)).drew).cell? ⟨U3.heap.size, 0 + i, none⟩ = some (.int .i64 (([1, 2, 1, 0] : List Int).getD i 0))) := lit_cells U3 [1, 2, 1, 0] _
      have HDLa := Lib.hid ((HD3.out.alloc (.cells #[.int .i64 1, .int .i64 2, .int .i64 1, .int .i64 0] 3)).drew)
      have HOLa : Hid (Oth B U3 ((U3.alloc (.cells #[.int .i64 1, .int .i64 2, .int .i64 1, .int .i64 0] 3)).drew)) := ((Oth.refl B U3).alloc _).drew
      have HOAa : Hid (Oth B U3 (U3.alloc (.cells #[.int .i64 1, .int .i64 2, .int .i64 1, .int .i64 0] 3))) := (Oth.refl B U3).alloc _
      have hBUa : B < U3.heap.size := HD3.out.rd.lt
      have hgga : u1.heap.size < U3.heap.size := (Array.getElem?_eq_some_iff.1 HD3.out.bs).1
      clear hbpa
      go_region_held3 (fun v' => v'.cell? ⟨w.heap.size, 0, none⟩ = some (.slice k.va p.vars.length k.vc) ∧ v'.cell? ⟨w.heap.size, 1, none⟩ = some (.slice k.aa p.arrs.length k.ac) ∧ v'.cell? ⟨w.heap.size, 2, none⟩ = some (.slice k.ba p.body.length k.bc)) (first | assumption | exact ⟨p0, p1, p2⟩ | exact HSa.out _ HOLa.out | exact HSa.out _ HOAa.out | exact hSSa)
        (first
        | (go_at_call 80; (with_reducible refine (numU B (m + 1 + 20000) U3.heap.size 0 4 4 [1, 2, 1, 0] ((U3.alloc (.cells #[.int .i64 1, .int .i64 2, .int .i64 1, .int .i64 0] 3)).drew) HDLa.out.rd (by omega) (by omega) rfl (by omega) (by omega) HLa.out).mono ?_); rintro f v1a ⟨nv, hnva, rfl, hr7a, ho7a, hb7a⟩; have hD7a := HDLa.out.call hr7a ho7a hb7a; have hO7a := HOLa.out.trans ho7a; have hS7a := HSa.out _ hO7a; obtain ⟨Na, rfl, hNa⟩ : ∃ N : Nat, nv = (N : Int) ∧ N ≤ 2 := (by (simp at hnva); exact ⟨nv.toNat, by omega, by omega⟩))
        | (go_at_call 98; (with_reducible refine (HBLK.out hd B (m + 1 + 20000 + 1) Na v1a hr7a (by omega) (by omega)).mono ?_); rintro f v2a ⟨ssa, saa, sca, rfl, hsla, hrowa, hsma, hr8a, ho8a, hb8a⟩; have hg7a : u1.heap.size < v1a.heap.size := (Array.getElem?_eq_some_iff.1 hD7a.bs).1; have hD8a := hD7a.call hr8a ho8a hb8a; have hO8a := hO7a.trans ho8a; have hS8a := HSa.out _ hO8a; have hD9a := DSt.body (N := 2) (cb := c) hD7a hg7a (by omega) (by omega) hrowa hsma hr8a ho8a hb8a HCa.out; have hbqa := hD9a.bp; have hSSa : (v2a.setCell ⟨u1.heap.size, 9, none⟩ (.slice saa Na sca)).cell? ⟨w.heap.size, 0, none⟩ = some (.slice k.va p.vars.length k.vc) ∧ (v2a.setCell ⟨u1.heap.size, 9, none⟩ (.slice saa Na sca)).cell? ⟨w.heap.size, 1, none⟩ = some (.slice k.aa p.arrs.length k.ac) ∧ (v2a.setCell ⟨u1.heap.size, 9, none⟩ (.slice saa Na sca)).cell? ⟨w.heap.size, 2, none⟩ = some (.slice k.ba p.body.length k.bc) := (by rw [← hsla]; exact ⟨hbqa.c0, hbqa.c1, hbqa.c2⟩); obtain ⟨y9a, hy9a⟩ := cell_ex hD8a.bs 9 (by simp); have x9a := frozen_at hD8a.bs 9)
        | fail)
      all_goals
        subst hsla
        have hqa : ssa.length * Q ≤ 2 * Q := Nat.mul_le_mul_right _ hNa
        have HCN : Hid (cntSs ssa ≤ 2 * c) := by
          have h1 := cntSs_all ssa fun x hx => (hsma x hx).2
          have h2 : ssa.length * c ≤ 2 * c := Nat.mul_le_mul_right _ hNa
          have : cntSs ssa ≤ 2 * c := by omega
          exact this
        have hd9 : DSt p k w B (m + 1 + 20000 + 1 + ssa.length * Q) u1.heap.size n (1 + 4 * c) { { zS 3 with value := e } with body := ssa } { { zK with va := a, vc := cc } with ba := saa, bc := sca } (v2a.setCell ⟨u1.heap.size, 9, none⟩ (.slice saa ssa.length sca)) := hD9a
        obtain ⟨U9, hUU⟩ : ∃ U9, v2a.setCell ⟨u1.heap.size, 9, none⟩ (.slice saa ssa.length sca) = U9 := ⟨_, rfl⟩
        rw [hUU] at hd9 ⊢
        have HD9 := Lib.hid hd9
        clear hUU hd9 hD9a hD8a hD7a hO7a hO8a hS7a hS8a hSSa hbqa hy9a x9a hrowa hsma hr7a ho7a hb7a hr8a ho8a hb8a hnva hg7a HSa HLa HDLa HOLa HOAa p0 p1 p2
        go_wp2_with fail
        have HCb : Hid (1 + cntSs ssa + 2 * c ≤ 1 + 4 * c) := by
          have : 1 + cntSs ssa + 2 * c ≤ 1 + 4 * c := by have := HCN.out; omega
          exact this
        have hbpb := HD9.out.bp
        have HSb : Hid (∀ v', Oth B U9 v' → v'.cell? ⟨w.heap.size, 0, none⟩ = some (.slice k.va p.vars.length k.vc) ∧ v'.cell? ⟨w.heap.size, 1, none⟩ = some (.slice k.aa p.arrs.length k.ac) ∧ v'.cell? ⟨w.heap.size, 2, none⟩ = some (.slice k.ba p.body.length k.bc)) := fun v' hv' => by
          have hl := HD9.out.hB
          have h := hbpb.later (hv'.2 w.heap.size hbpb.lt (by omega))
          exact ⟨h.c0, h.c1, h.c2⟩
        obtain ⟨p0, p1, p2⟩ := HSb.out U9 (Oth.refl _ _)
        have HLb : Hid (∀ i, i < 4 → ((U9.alloc (.cells #[.int .i64 0, .int .i64 1, .int .i64 0, .int .i64 2] 3)).drew).cell? ⟨U9.heap.size, 0 + i, none⟩ = some (.int .i64 (([0, 1, 0, 2] : List Int).getD i 0))) := lit_cells U9 [0, 1, 0, 2] _
        have HDLb := Lib.hid ((HD9.out.alloc (.cells #[.int .i64 0, .int .i64 1, .int .i64 0, .int .i64 2] 3)).drew)
        have HOLb : Hid (Oth B U9 ((U9.alloc (.cells #[.int .i64 0, .int .i64 1, .int .i64 0, .int .i64 2] 3)).drew)) := ((Oth.refl B U9).alloc _).drew
        have HOAb : Hid (Oth B U9 (U9.alloc (.cells #[.int .i64 0, .int .i64 1, .int .i64 0, .int .i64 2] 3))) := (Oth.refl B U9).alloc _
        have hBUb : B < U9.heap.size := HD9.out.rd.lt
        have hggb : u1.heap.size < U9.heap.size := (Array.getElem?_eq_some_iff.1 HD9.out.bs).1
        clear hbpb
        go_region_held3 (fun v' => v'.cell? ⟨w.heap.size, 0, none⟩ = some (.slice k.va p.vars.length k.vc) ∧ v'.cell? ⟨w.heap.size, 1, none⟩ = some (.slice k.aa p.arrs.length k.ac) ∧ v'.cell? ⟨w.heap.size, 2, none⟩ = some (.slice k.ba p.body.length k.bc)) (first | assumption | exact ⟨p0, p1, p2⟩ | exact HSb.out _ HOLb.out | exact HSb.out _ HOAb.out | exact hSSb)
          (first
          | (go_at_call 80; (with_reducible refine (numU B (m + 1 + 20000 + 1 + ssa.length * Q) U9.heap.size 0 4 4 [0, 1, 0, 2] ((U9.alloc (.cells #[.int .i64 0, .int .i64 1, .int .i64 0, .int .i64 2] 3)).drew) HDLb.out.rd (by omega) (by omega) rfl (by omega) (by omega) HLb.out).mono ?_); rintro f v1b ⟨nv, hnvb, rfl, hr7b, ho7b, hb7b⟩; have hD7b := HDLb.out.call hr7b ho7b hb7b; have hO7b := HOLb.out.trans ho7b; have hS7b := HSb.out _ hO7b; obtain ⟨Nb, rfl, hNb⟩ : ∃ N : Nat, nv = (N : Int) ∧ N ≤ 2 := (by (simp at hnvb); exact ⟨nv.toNat, by omega, by omega⟩))
          | (go_at_call 98; (with_reducible refine (HBLK.out hd B (m + 1 + 20000 + 1 + ssa.length * Q + 1) Nb v1b hr7b (by omega) (by omega)).mono ?_); rintro f v2b ⟨ssb, sab, scb, rfl, hslb, hrowb, hsmb, hr8b, ho8b, hb8b⟩; have hg7b : u1.heap.size < v1b.heap.size := (Array.getElem?_eq_some_iff.1 hD7b.bs).1; have hD8b := hD7b.call hr8b ho8b hb8b; have hO8b := hO7b.trans ho8b; have hS8b := HSb.out _ hO8b; have hD9b := DSt.els (N := 2) (cb := c) hD7b hg7b (by omega) (by omega) hrowb hsmb hr8b ho8b hb8b HCb.out; have hbqb := hD9b.bp; have hSSb : (v2b.setCell ⟨u1.heap.size, 10, none⟩ (.slice sab Nb scb)).cell? ⟨w.heap.size, 0, none⟩ = some (.slice k.va p.vars.length k.vc) ∧ (v2b.setCell ⟨u1.heap.size, 10, none⟩ (.slice sab Nb scb)).cell? ⟨w.heap.size, 1, none⟩ = some (.slice k.aa p.arrs.length k.ac) ∧ (v2b.setCell ⟨u1.heap.size, 10, none⟩ (.slice sab Nb scb)).cell? ⟨w.heap.size, 2, none⟩ = some (.slice k.ba p.body.length k.bc) := (by rw [← hslb]; exact ⟨hbqb.c0, hbqb.c1, hbqb.c2⟩); obtain ⟨y9b, hy9b⟩ := cell_ex hD8b.bs 10 (by simp); have x9b := frozen_at hD8b.bs 10)
          | fail)
        all_goals
          subst hslb
          have hqb : ssb.length * Q ≤ 2 * Q := Nat.mul_le_mul_right _ hNb
          have HCN : Hid (cntSs ssb ≤ 2 * c) := by
            have h1 := cntSs_all ssb fun x hx => (hsmb x hx).2
            have h2 : ssb.length * c ≤ 2 * c := Nat.mul_le_mul_right _ hNb
            have : cntSs ssb ≤ 2 * c := by omega
            exact this
          have hd9 : DSt p k w B (m + 1 + 20000 + 1 + ssa.length * Q + 1 + ssb.length * Q) u1.heap.size n (1 + 4 * c) { { { zS 3 with value := e } with body := ssa } with els := ssb } { { { zK with va := a, vc := cc } with ba := saa, bc := sca } with ea := sab, ec := scb } (v2b.setCell ⟨u1.heap.size, 10, none⟩ (.slice sab ssb.length scb)) := hD9b
          obtain ⟨U10, hUU⟩ : ∃ U10, v2b.setCell ⟨u1.heap.size, 10, none⟩ (.slice sab ssb.length scb) = U10 := ⟨_, rfl⟩
          rw [hUU] at hd9 ⊢
          have HD10 := Lib.hid hd9
          clear hUU hd9 hD9b hD8b hD7b hO7b hO8b hS7b hS8b hSSb hbqb hy9b x9b hrowb hsmb hr7b ho7b hb7b hr8b ho8b hb8b hnvb hg7b HSb HLb HDLb HOLb HOAb p0 p1 p2
          have HF := Lib.hid (HD10.out.fin (m' := m + (20010 + 8 * Q)) (by omega))
          have hbS : BoxS U10 u1.heap.size ({ { { zS 3 with value := e } with body := ssa } with els := ssb }) ({ { { zK with va := a, vc := cc } with ba := saa, bc := sca } with ea := sab, ec := scb }) := ⟨_, HD10.out.bs⟩
          have c0 := hbS.c0
          have c1 := hbS.c1
          have c2 := hbS.c2
          have c3 := hbS.c3
          have c4 := hbS.c4
          have c5 := hbS.c5
          have c6 := hbS.c6
          have c7 := hbS.c7
          have c8 := hbS.c8
          have c9 := hbS.c9
          have c10 := hbS.c10
          obtain ⟨v0, hu0⟩ := cell_ex HD10.out.br 0 (by simp)
          have f0 := frozen_at HD10.out.br 0
          obtain ⟨v1, hu1⟩ := cell_ex HD10.out.br 1 (by simp)
          have f1 := frozen_at HD10.out.br 1
          obtain ⟨v2, hu2⟩ := cell_ex HD10.out.br 2 (by simp)
          have f2 := frozen_at HD10.out.br 2
          obtain ⟨v3, hu3⟩ := cell_ex HD10.out.br 3 (by simp)
          have f3 := frozen_at HD10.out.br 3
          obtain ⟨v4, hu4⟩ := cell_ex HD10.out.br 4 (by simp)
          have f4 := frozen_at HD10.out.br 4
          obtain ⟨v5, hu5⟩ := cell_ex HD10.out.br 5 (by simp)
          have f5 := frozen_at HD10.out.br 5
          obtain ⟨v6, hu6⟩ := cell_ex HD10.out.br 6 (by simp)
          have f6 := frozen_at HD10.out.br 6
          obtain ⟨v7, hu7⟩ := cell_ex HD10.out.br 7 (by simp)
          have f7 := frozen_at HD10.out.br 7
          obtain ⟨v8, hu8⟩ := cell_ex HD10.out.br 8 (by simp)
          have f8 := frozen_at HD10.out.br 8
          obtain ⟨v9, hu9⟩ := cell_ex HD10.out.br 9 (by simp)
          have f9 := frozen_at HD10.out.br 9
          obtain ⟨v10, hu10⟩ := cell_ex HD10.out.br 10 (by simp)
          have f10 := frozen_at HD10.out.br 10
          clear hbS
          go_wp2_with fail
          exact bodyPost_ret (v := aggS ({ { { zS 3 with value := e } with body := ssa } with els := ssb }) ({ { { zK with va := a, vc := cc } with ba := saa, bc := sca } with ea := sab, ec := scb })) (by simp [results, Try.f105, go_sem, hu0, hu1, hu2, hu3, hu4, hu5, hu6, hu7, hu8, hu9, hu10]) rfl HF.out
    · clear p0 p1 p2
      have p00 : (u1.alloc (.cells #[.int .i64 3, .int .i64 0, .int .i64 0, .int .i64 0, .slice none 0 0, .int .i64 0, .int .i64 0, .slice none 0 0, .int .i64 0, .slice none 0 0, .slice none 0 0] 107)).cell? ⟨w.heap.size, 0, none⟩ = some (.slice k.va p.vars.length k.vc) := (HDK.out 3).bp.c0
      have p10 : (u1.alloc (.cells #[.int .i64 3, .int .i64 0, .int .i64 0, .int .i64 0, .slice none 0 0, .int .i64 0, .int .i64 0, .slice none 0 0, .int .i64 0, .slice none 0 0, .slice none 0 0] 107)).cell? ⟨w.heap.size, 1, none⟩ = some (.slice k.aa p.arrs.length k.ac) := (HDK.out 3).bp.c1
      have p20 : (u1.alloc (.cells #[.int .i64 3, .int .i64 0, .int .i64 0, .int .i64 0, .slice none 0 0, .int .i64 0, .int .i64 0, .slice none 0 0, .int .i64 0, .slice none 0 0, .slice none 0 0] 107)).cell? ⟨w.heap.size, 2, none⟩ = some (.slice k.ba p.body.length k.bc) := (HDK.out 3).bp.c2
      have p01 : (u1.alloc (.cells #[.int .i64 1, .int .i64 0, .int .i64 0, .int .i64 0, .slice none 0 0, .int .i64 0, .int .i64 0, .slice none 0 0, .int .i64 0, .slice none 0 0, .slice none 0 0] 107)).cell? ⟨w.heap.size, 0, none⟩ = some (.slice k.va p.vars.length k.vc) := (HDK.out 1).bp.c0
      have p11 : (u1.alloc (.cells #[.int .i64 1, .int .i64 0, .int .i64 0, .int .i64 0, .slice none 0 0, .int .i64 0, .int .i64 0, .slice none 0 0, .int .i64 0, .slice none 0 0, .slice none 0 0] 107)).cell? ⟨w.heap.size, 1, none⟩ = some (.slice k.aa p.arrs.length k.ac) := (HDK.out 1).bp.c1
      have p21 : (u1.alloc (.cells #[.int .i64 1, .int .i64 0, .int .i64 0, .int .i64 0, .slice none 0 0, .int .i64 0, .int .i64 0, .slice none 0 0, .int .i64 0, .slice none 0 0, .slice none 0 0] 107)).cell? ⟨w.heap.size, 2, none⟩ = some (.slice k.ba p.body.length k.bc) := (HDK.out 1).bp.c2
      go_wp2_with fail
      have HD0 := Lib.hid (HDK.out 1)
      obtain ⟨U0, hU0⟩ : ∃ U0, (u1.alloc (.cells (arrS (zS 1) zK) 107)) = U0 := ⟨_, rfl⟩
      rw [hU0] at HD0
      simp only [arrS, List.length_nil] at hU0
      rw [hU0]
      clear hU0 p00 p10 p20 p01 p11 p21
      with_reducible refine (pickU B (m + 1) (p.vars.length : Int) U0 HD0.out.rd (by omega) (by omega) (by omega)).mono ?_
      rintro f u2 ⟨tv, htv, rfl, hr2, ho2, hb2⟩
      have HD2 := Lib.hid (HD0.out.call hr2 ho2 hb2)
      have hd3 : DSt p k w B (m + 1 + 1) u1.heap.size n (1 + 4 * c) { zS 1 with target := tv } zK (u2.setCell ⟨u1.heap.size, 1, none⟩ (.int .i64 tv)) := HD2.out.num 1 tv 0 1 tv rfl
      obtain ⟨y1, hy1⟩ := cell_ex HD2.out.bs 1 (by simp)
      have x1 := frozen_at HD2.out.bs 1
      obtain ⟨U3, hU3⟩ : ∃ U3, u2.setCell ⟨u1.heap.size, 1, none⟩ (.int .i64 tv) = U3 := ⟨_, rfl⟩
      rw [hU3] at hd3
      have HD3 := Lib.hid hd3
      have p0 := hd3.bp.c0
      have p1 := hd3.bp.c1
      have p2 := hd3.bp.c2
      have hgU : u1.heap.size < U3.heap.size := (Array.getElem?_eq_some_iff.1 hd3.bs).1
      clear hd3 hr2 ho2 hb2 htv
      go_wp2_with fail
      clear hU3 p0 p1 p2 hy1 x1
      with_reducible refine (drSmall p k hv hv' ha' B (m + 1 + 1) U3 HD3.out.rd (by omega)).mono ?_
      rintro f u4 ⟨e, a, cc, rfl, ⟨nx, hnx, hx, hsx⟩, hr4, ho4, hb4⟩
      have HD4 := Lib.hid (HD3.out.call hr4 ho4 hb4)
      have HF := Lib.hid ((HD3.out.val (d := nx) (by omega) hgU hx hsx hr4 ho4 hb4).fin (m' := m + (20010 + 8 * Q)) (by omega))
      have hbS : BoxS u4 u1.heap.size ({ zS 1 with target := tv }) (zK) := ⟨_, HD4.out.bs⟩
      have c0 := hbS.c0
      have c1 := hbS.c1
      have c2 := hbS.c2
      have c3 := hbS.c3
      have c4 := hbS.c4
      have c5 := hbS.c5
      have c6 := hbS.c6
      have c7 := hbS.c7
      have c8 := hbS.c8
      have c9 := hbS.c9
      have c10 := hbS.c10
      have z5 := frozen_at HD4.out.bs 5
      have z6 := frozen_at HD4.out.bs 6
      have z7 := frozen_at HD4.out.bs 7
      obtain ⟨v0, hu0⟩ := cell_ex HD4.out.br 0 (by simp)
      have f0 := frozen_at HD4.out.br 0
      obtain ⟨v1, hu1⟩ := cell_ex HD4.out.br 1 (by simp)
      have f1 := frozen_at HD4.out.br 1
      obtain ⟨v2, hu2⟩ := cell_ex HD4.out.br 2 (by simp)
      have f2 := frozen_at HD4.out.br 2
      obtain ⟨v3, hu3⟩ := cell_ex HD4.out.br 3 (by simp)
      have f3 := frozen_at HD4.out.br 3
      obtain ⟨v4, hu4⟩ := cell_ex HD4.out.br 4 (by simp)
      have f4 := frozen_at HD4.out.br 4
      obtain ⟨v5, hu5⟩ := cell_ex HD4.out.br 5 (by simp)
      have f5 := frozen_at HD4.out.br 5
      obtain ⟨v6, hu6⟩ := cell_ex HD4.out.br 6 (by simp)
      have f6 := frozen_at HD4.out.br 6
      obtain ⟨v7, hu7⟩ := cell_ex HD4.out.br 7 (by simp)
      have f7 := frozen_at HD4.out.br 7
      obtain ⟨v8, hu8⟩ := cell_ex HD4.out.br 8 (by simp)
      have f8 := frozen_at HD4.out.br 8
      obtain ⟨v9, hu9⟩ := cell_ex HD4.out.br 9 (by simp)
      have f9 := frozen_at HD4.out.br 9
      obtain ⟨v10, hu10⟩ := cell_ex HD4.out.br 10 (by simp)
      have f10 := frozen_at HD4.out.br 10
      clear hx hsx hr4 ho4 hb4 hbS HD2 HD3 HD4
      go_wp2_with fail
      exact bodyPost_ret (v := aggS { { zS 1 with target := tv } with value := e } { zK with va := a, vc := cc }) (by simp [results, Try.f105, go_sem, hu0, hu1, hu2, hu3, hu4, hu5, hu6, hu7, hu8, hu9, hu10]) rfl HF.out
  · by_cases hd : 1 < d
    · have hw : IntKind.i64.wrap (d - 1) = d - 1 := IntWalk.i64_in _ (by omega)
      have HL0' : Hid (∀ i, i < 3 → ((u1.alloc (.cells #[.int .i64 4, .int .i64 0, .int .i64 0, .int .i64 0, .slice none 0 0, .int .i64 0, .int .i64 0, .slice none 0 0, .int .i64 0, .slice none 0 0, .slice none 0 0] 107)).alloc (.cells #[.int .i64 2, .int .i64 1, .int .i64 3] 3)).cell? ⟨u1.heap.size + 1, 0 + i, none⟩ = some (.int .i64 (([2, 1, 3] : List Int).getD i 0))) := by
        have h := lit_cells (u1.alloc (.cells #[.int .i64 4, .int .i64 0, .int .i64 0, .int .i64 0, .slice none 0 0, .int .i64 0, .int .i64 0, .slice none 0 0, .int .i64 0, .slice none 0 0, .slice none 0 0] 107)) [2, 1, 3] 3
        rw [World.size_alloc] at h
        exact h
      clear p0 p1 p2
      have p00 : (u1.alloc (.cells #[.int .i64 4, .int .i64 0, .int .i64 0, .int .i64 0, .slice none 0 0, .int .i64 0, .int .i64 0, .slice none 0 0, .int .i64 0, .slice none 0 0, .slice none 0 0] 107)).cell? ⟨w.heap.size, 0, none⟩ = some (.slice k.va p.vars.length k.vc) := (HDK.out 4).bp.c0
      have p10 : (u1.alloc (.cells #[.int .i64 4, .int .i64 0, .int .i64 0, .int .i64 0, .slice none 0 0, .int .i64 0, .int .i64 0, .slice none 0 0, .int .i64 0, .slice none 0 0, .slice none 0 0] 107)).cell? ⟨w.heap.size, 1, none⟩ = some (.slice k.aa p.arrs.length k.ac) := (HDK.out 4).bp.c1
      have p20 : (u1.alloc (.cells #[.int .i64 4, .int .i64 0, .int .i64 0, .int .i64 0, .slice none 0 0, .int .i64 0, .int .i64 0, .slice none 0 0, .int .i64 0, .slice none 0 0, .slice none 0 0] 107)).cell? ⟨w.heap.size, 2, none⟩ = some (.slice k.ba p.body.length k.bc) := (HDK.out 4).bp.c2
      go_wp2_with fail
      have HD0 := Lib.hid (HDK.out 4)
      obtain ⟨U0, hU0⟩ : ∃ U0, (u1.alloc (.cells (arrS (zS 4) zK) 107)) = U0 := ⟨_, rfl⟩
      rw [hU0] at HD0
      simp only [arrS, List.length_nil] at hU0
      rw [hU0] at HL0' ⊢
      clear hU0 p00 p10 p20
      have HL0 := HL0'
      have HDL0 := Lib.hid (HD0.out.alloc (.cells #[.int .i64 2, .int .i64 1, .int .i64 3] 3))
      have hgB : B < u1.heap.size + 1 := by omega
      with_reducible refine (numU B (m + 1) (u1.heap.size + 1) 0 3 3 [2, 1, 3] (U0.alloc (.cells #[.int .i64 2, .int .i64 1, .int .i64 3] 3)) HDL0.out.rd (by omega) (by omega) rfl (by omega) (by omega) HL0.out).mono ?_
      rintro f u2 ⟨cv, hcv, rfl, hr2, ho2, hb2⟩
      have HD2 := Lib.hid (HDL0.out.call hr2 ho2 hb2)
      have hd3 : DSt p k w B (m + 1 + 1) u1.heap.size n (1 + 4 * c) { zS 4 with count := cv } zK (u2.setCell ⟨u1.heap.size, 8, none⟩ (.int .i64 cv)) := HD2.out.num 4 0 cv 8 cv rfl
      obtain ⟨y1, hy1⟩ := cell_ex HD2.out.bs 8 (by simp)
      have x1 := frozen_at HD2.out.bs 8
      obtain ⟨U3, hU3⟩ : ∃ U3, u2.setCell ⟨u1.heap.size, 8, none⟩ (.int .i64 cv) = U3 := ⟨_, rfl⟩
      rw [hU3] at hd3
      have HD3 := Lib.hid hd3
      clear hd3 hr2 ho2 hb2 hcv
      go_wp2_with fail
      clear hU3 hy1 x1
      have HCa : Hid (1 + 2 * c + cntSs ([] : List S) ≤ 1 + 4 * c) := by
        have : 1 + 2 * c + cntSs ([] : List S) ≤ 1 + 4 * c := by simp [cntSs]; omega
        exact this
      have hbpa := HD3.out.bp
      have HSa : Hid (∀ v', Oth B U3 v' → v'.cell? ⟨w.heap.size, 0, none⟩ = some (.slice k.va p.vars.length k.vc) ∧ v'.cell? ⟨w.heap.size, 1, none⟩ = some (.slice k.aa p.arrs.length k.ac) ∧ v'.cell? ⟨w.heap.size, 2, none⟩ = some (.slice k.ba p.body.length k.bc)) := fun v' hv' => by
        have hl := HD3.out.hB
        have h := hbpa.later (hv'.2 w.heap.size hbpa.lt (by omega))
        exact ⟨h.c0, h.c1, h.c2⟩
      obtain ⟨p0, p1, p2⟩ := HSa.out U3 (Oth.refl _ _)
      have HLa : Hid (∀ i, i < 3 → ((U3.alloc (.cells #[.int .i64 1, .int .i64 2, .int .i64 1] 3)).drew).cell? ⟨U3.heap.size, 0 + i, none⟩ = some (.int .i64 (([1, 2, 1] : List Int).getD i 0))) := lit_cells U3 [1, 2, 1] _
      have HDLa := Lib.hid ((HD3.out.alloc (.cells #[.int .i64 1, .int .i64 2, .int .i64 1] 3)).drew)
      have HOLa : Hid (Oth B U3 ((U3.alloc (.cells #[.int .i64 1, .int .i64 2, .int .i64 1] 3)).drew)) := ((Oth.refl B U3).alloc _).drew
      have HOAa : Hid (Oth B U3 (U3.alloc (.cells #[.int .i64 1, .int .i64 2, .int .i64 1] 3))) := (Oth.refl B U3).alloc _
      have hBUa : B < U3.heap.size := HD3.out.rd.lt
      have hgga : u1.heap.size < U3.heap.size := (Array.getElem?_eq_some_iff.1 HD3.out.bs).1
      clear hbpa
      go_region_held3 (fun v' => v'.cell? ⟨w.heap.size, 0, none⟩ = some (.slice k.va p.vars.length k.vc) ∧ v'.cell? ⟨w.heap.size, 1, none⟩ = some (.slice k.aa p.arrs.length k.ac) ∧ v'.cell? ⟨w.heap.size, 2, none⟩ = some (.slice k.ba p.body.length k.bc)) (first | assumption | exact ⟨p0, p1, p2⟩ | exact HSa.out _ HOLa.out | exact HSa.out _ HOAa.out | exact hSSa)
        (first
        | (go_at_call 80; (with_reducible refine (numU B (m + 1 + 1) U3.heap.size 0 3 3 [1, 2, 1] ((U3.alloc (.cells #[.int .i64 1, .int .i64 2, .int .i64 1] 3)).drew) HDLa.out.rd (by omega) (by omega) rfl (by omega) (by omega) HLa.out).mono ?_); rintro f v1a ⟨nv, hnva, rfl, hr7a, ho7a, hb7a⟩; have hD7a := HDLa.out.call hr7a ho7a hb7a; have hO7a := HOLa.out.trans ho7a; have hS7a := HSa.out _ hO7a; obtain ⟨Na, rfl, hNa⟩ : ∃ N : Nat, nv = (N : Int) ∧ N ≤ 2 := (by (simp at hnva); exact ⟨nv.toNat, by omega, by omega⟩))
        | (go_at_call 98; (with_reducible refine (HBLK.out hd B (m + 1 + 1 + 1) Na v1a hr7a (by omega) (by omega)).mono ?_); rintro f v2a ⟨ssa, saa, sca, rfl, hsla, hrowa, hsma, hr8a, ho8a, hb8a⟩; have hg7a : u1.heap.size < v1a.heap.size := (Array.getElem?_eq_some_iff.1 hD7a.bs).1; have hD8a := hD7a.call hr8a ho8a hb8a; have hO8a := hO7a.trans ho8a; have hS8a := HSa.out _ hO8a; have hD9a := DSt.body (N := 2) (cb := c) hD7a hg7a (by omega) (by omega) hrowa hsma hr8a ho8a hb8a HCa.out; have hbqa := hD9a.bp; have hSSa : (v2a.setCell ⟨u1.heap.size, 9, none⟩ (.slice saa Na sca)).cell? ⟨w.heap.size, 0, none⟩ = some (.slice k.va p.vars.length k.vc) ∧ (v2a.setCell ⟨u1.heap.size, 9, none⟩ (.slice saa Na sca)).cell? ⟨w.heap.size, 1, none⟩ = some (.slice k.aa p.arrs.length k.ac) ∧ (v2a.setCell ⟨u1.heap.size, 9, none⟩ (.slice saa Na sca)).cell? ⟨w.heap.size, 2, none⟩ = some (.slice k.ba p.body.length k.bc) := (by rw [← hsla]; exact ⟨hbqa.c0, hbqa.c1, hbqa.c2⟩); obtain ⟨y9a, hy9a⟩ := cell_ex hD8a.bs 9 (by simp); have x9a := frozen_at hD8a.bs 9)
        | fail)
      all_goals
        subst hsla
        have hqa : ssa.length * Q ≤ 2 * Q := Nat.mul_le_mul_right _ hNa
        have HCN : Hid (cntSs ssa ≤ 2 * c) := by
          have h1 := cntSs_all ssa fun x hx => (hsma x hx).2
          have h2 : ssa.length * c ≤ 2 * c := Nat.mul_le_mul_right _ hNa
          have : cntSs ssa ≤ 2 * c := by omega
          exact this
        have hd9 : DSt p k w B (m + 1 + 1 + 1 + ssa.length * Q) u1.heap.size n (1 + 4 * c) { { zS 4 with count := cv } with body := ssa } { zK with ba := saa, bc := sca } (v2a.setCell ⟨u1.heap.size, 9, none⟩ (.slice saa ssa.length sca)) := hD9a
        obtain ⟨U9, hUU⟩ : ∃ U9, v2a.setCell ⟨u1.heap.size, 9, none⟩ (.slice saa ssa.length sca) = U9 := ⟨_, rfl⟩
        rw [hUU] at hd9 ⊢
        have HD9 := Lib.hid hd9
        clear hUU hd9 hD9a hD8a hD7a hO7a hO8a hS7a hS8a hSSa hbqa hy9a x9a hrowa hsma hr7a ho7a hb7a hr8a ho8a hb8a hnva hg7a HSa HLa HDLa HOLa HOAa p0 p1 p2
        have HF := Lib.hid (HD9.out.fin (m' := m + (20010 + 8 * Q)) (by omega))
        have hbS : BoxS U9 u1.heap.size ({ { zS 4 with count := cv } with body := ssa }) ({ zK with ba := saa, bc := sca }) := ⟨_, HD9.out.bs⟩
        have c0 := hbS.c0
        have c1 := hbS.c1
        have c2 := hbS.c2
        have c3 := hbS.c3
        have c4 := hbS.c4
        have c5 := hbS.c5
        have c6 := hbS.c6
        have c7 := hbS.c7
        have c8 := hbS.c8
        have c9 := hbS.c9
        have c10 := hbS.c10
        obtain ⟨v0, hu0⟩ := cell_ex HD9.out.br 0 (by simp)
        have f0 := frozen_at HD9.out.br 0
        obtain ⟨v1, hu1⟩ := cell_ex HD9.out.br 1 (by simp)
        have f1 := frozen_at HD9.out.br 1
        obtain ⟨v2, hu2⟩ := cell_ex HD9.out.br 2 (by simp)
        have f2 := frozen_at HD9.out.br 2
        obtain ⟨v3, hu3⟩ := cell_ex HD9.out.br 3 (by simp)
        have f3 := frozen_at HD9.out.br 3
        obtain ⟨v4, hu4⟩ := cell_ex HD9.out.br 4 (by simp)
        have f4 := frozen_at HD9.out.br 4
        obtain ⟨v5, hu5⟩ := cell_ex HD9.out.br 5 (by simp)
        have f5 := frozen_at HD9.out.br 5
        obtain ⟨v6, hu6⟩ := cell_ex HD9.out.br 6 (by simp)
        have f6 := frozen_at HD9.out.br 6
        obtain ⟨v7, hu7⟩ := cell_ex HD9.out.br 7 (by simp)
        have f7 := frozen_at HD9.out.br 7
        obtain ⟨v8, hu8⟩ := cell_ex HD9.out.br 8 (by simp)
        have f8 := frozen_at HD9.out.br 8
        obtain ⟨v9, hu9⟩ := cell_ex HD9.out.br 9 (by simp)
        have f9 := frozen_at HD9.out.br 9
        obtain ⟨v10, hu10⟩ := cell_ex HD9.out.br 10 (by simp)
        have f10 := frozen_at HD9.out.br 10
        clear hbS
        go_wp2_with fail
        exact bodyPost_ret (v := aggS ({ { zS 4 with count := cv } with body := ssa }) ({ zK with ba := saa, bc := sca })) (by simp [results, Try.f105, go_sem, hu0, hu1, hu2, hu3, hu4, hu5, hu6, hu7, hu8, hu9, hu10]) rfl HF.out
    · clear p0 p1 p2
      have p00 : (u1.alloc (.cells #[.int .i64 4, .int .i64 0, .int .i64 0, .int .i64 0, .slice none 0 0, .int .i64 0, .int .i64 0, .slice none 0 0, .int .i64 0, .slice none 0 0, .slice none 0 0] 107)).cell? ⟨w.heap.size, 0, none⟩ = some (.slice k.va p.vars.length k.vc) := (HDK.out 4).bp.c0
      have p10 : (u1.alloc (.cells #[.int .i64 4, .int .i64 0, .int .i64 0, .int .i64 0, .slice none 0 0, .int .i64 0, .int .i64 0, .slice none 0 0, .int .i64 0, .slice none 0 0, .slice none 0 0] 107)).cell? ⟨w.heap.size, 1, none⟩ = some (.slice k.aa p.arrs.length k.ac) := (HDK.out 4).bp.c1
      have p20 : (u1.alloc (.cells #[.int .i64 4, .int .i64 0, .int .i64 0, .int .i64 0, .slice none 0 0, .int .i64 0, .int .i64 0, .slice none 0 0, .int .i64 0, .slice none 0 0, .slice none 0 0] 107)).cell? ⟨w.heap.size, 2, none⟩ = some (.slice k.ba p.body.length k.bc) := (HDK.out 4).bp.c2
      have p01 : (u1.alloc (.cells #[.int .i64 1, .int .i64 0, .int .i64 0, .int .i64 0, .slice none 0 0, .int .i64 0, .int .i64 0, .slice none 0 0, .int .i64 0, .slice none 0 0, .slice none 0 0] 107)).cell? ⟨w.heap.size, 0, none⟩ = some (.slice k.va p.vars.length k.vc) := (HDK.out 1).bp.c0
      have p11 : (u1.alloc (.cells #[.int .i64 1, .int .i64 0, .int .i64 0, .int .i64 0, .slice none 0 0, .int .i64 0, .int .i64 0, .slice none 0 0, .int .i64 0, .slice none 0 0, .slice none 0 0] 107)).cell? ⟨w.heap.size, 1, none⟩ = some (.slice k.aa p.arrs.length k.ac) := (HDK.out 1).bp.c1
      have p21 : (u1.alloc (.cells #[.int .i64 1, .int .i64 0, .int .i64 0, .int .i64 0, .slice none 0 0, .int .i64 0, .int .i64 0, .slice none 0 0, .int .i64 0, .slice none 0 0, .slice none 0 0] 107)).cell? ⟨w.heap.size, 2, none⟩ = some (.slice k.ba p.body.length k.bc) := (HDK.out 1).bp.c2
      go_wp2_with fail
      have HD0 := Lib.hid (HDK.out 1)
      obtain ⟨U0, hU0⟩ : ∃ U0, (u1.alloc (.cells (arrS (zS 1) zK) 107)) = U0 := ⟨_, rfl⟩
      rw [hU0] at HD0
      simp only [arrS, List.length_nil] at hU0
      rw [hU0]
      clear hU0 p00 p10 p20 p01 p11 p21
      with_reducible refine (pickU B (m + 1) (p.vars.length : Int) U0 HD0.out.rd (by omega) (by omega) (by omega)).mono ?_
      rintro f u2 ⟨tv, htv, rfl, hr2, ho2, hb2⟩
      have HD2 := Lib.hid (HD0.out.call hr2 ho2 hb2)
      have hd3 : DSt p k w B (m + 1 + 1) u1.heap.size n (1 + 4 * c) { zS 1 with target := tv } zK (u2.setCell ⟨u1.heap.size, 1, none⟩ (.int .i64 tv)) := HD2.out.num 1 tv 0 1 tv rfl
      obtain ⟨y1, hy1⟩ := cell_ex HD2.out.bs 1 (by simp)
      have x1 := frozen_at HD2.out.bs 1
      obtain ⟨U3, hU3⟩ : ∃ U3, u2.setCell ⟨u1.heap.size, 1, none⟩ (.int .i64 tv) = U3 := ⟨_, rfl⟩
      rw [hU3] at hd3
      have HD3 := Lib.hid hd3
      have p0 := hd3.bp.c0
      have p1 := hd3.bp.c1
      have p2 := hd3.bp.c2
      have hgU : u1.heap.size < U3.heap.size := (Array.getElem?_eq_some_iff.1 hd3.bs).1
      clear hd3 hr2 ho2 hb2 htv
      go_wp2_with fail
      clear hU3 p0 p1 p2 hy1 x1
      with_reducible refine (drSmall p k hv hv' ha' B (m + 1 + 1) U3 HD3.out.rd (by omega)).mono ?_
      rintro f u4 ⟨e, a, cc, rfl, ⟨nx, hnx, hx, hsx⟩, hr4, ho4, hb4⟩
      have HD4 := Lib.hid (HD3.out.call hr4 ho4 hb4)
      have HF := Lib.hid ((HD3.out.val (d := nx) (by omega) hgU hx hsx hr4 ho4 hb4).fin (m' := m + (20010 + 8 * Q)) (by omega))
      have hbS : BoxS u4 u1.heap.size ({ zS 1 with target := tv }) (zK) := ⟨_, HD4.out.bs⟩
      have c0 := hbS.c0
      have c1 := hbS.c1
      have c2 := hbS.c2
      have c3 := hbS.c3
      have c4 := hbS.c4
      have c5 := hbS.c5
      have c6 := hbS.c6
      have c7 := hbS.c7
      have c8 := hbS.c8
      have c9 := hbS.c9
      have c10 := hbS.c10
      have z5 := frozen_at HD4.out.bs 5
      have z6 := frozen_at HD4.out.bs 6
      have z7 := frozen_at HD4.out.bs 7
      obtain ⟨v0, hu0⟩ := cell_ex HD4.out.br 0 (by simp)
      have f0 := frozen_at HD4.out.br 0
      obtain ⟨v1, hu1⟩ := cell_ex HD4.out.br 1 (by simp)
      have f1 := frozen_at HD4.out.br 1
      obtain ⟨v2, hu2⟩ := cell_ex HD4.out.br 2 (by simp)
      have f2 := frozen_at HD4.out.br 2
      obtain ⟨v3, hu3⟩ := cell_ex HD4.out.br 3 (by simp)
      have f3 := frozen_at HD4.out.br 3
      obtain ⟨v4, hu4⟩ := cell_ex HD4.out.br 4 (by simp)
      have f4 := frozen_at HD4.out.br 4
      obtain ⟨v5, hu5⟩ := cell_ex HD4.out.br 5 (by simp)
      have f5 := frozen_at HD4.out.br 5
      obtain ⟨v6, hu6⟩ := cell_ex HD4.out.br 6 (by simp)
      have f6 := frozen_at HD4.out.br 6
      obtain ⟨v7, hu7⟩ := cell_ex HD4.out.br 7 (by simp)
      have f7 := frozen_at HD4.out.br 7
      obtain ⟨v8, hu8⟩ := cell_ex HD4.out.br 8 (by simp)
      have f8 := frozen_at HD4.out.br 8
      obtain ⟨v9, hu9⟩ := cell_ex HD4.out.br 9 (by simp)
      have f9 := frozen_at HD4.out.br 9
      obtain ⟨v10, hu10⟩ := cell_ex HD4.out.br 10 (by simp)
      have f10 := frozen_at HD4.out.br 10
      clear hx hsx hr4 ho4 hb4 hbS HD2 HD3 HD4
      go_wp2_with fail
      exact bodyPost_ret (v := aggS { { zS 1 with target := tv } with value := e } { zK with va := a, vc := cc }) (by simp [results, Try.f105, go_sem, hu0, hu1, hu2, hu3, hu4, hu5, hu6, hu7, hu8, hu9, hu10]) rfl HF.out
  · clear p0 p1 p2
    have p00 : (u1.alloc (.cells #[.int .i64 5, .int .i64 0, .int .i64 0, .int .i64 0, .slice none 0 0, .int .i64 0, .int .i64 0, .slice none 0 0, .int .i64 0, .slice none 0 0, .slice none 0 0] 107)).cell? ⟨w.heap.size, 0, none⟩ = some (.slice k.va p.vars.length k.vc) := (HDK.out 5).bp.c0
    have p10 : (u1.alloc (.cells #[.int .i64 5, .int .i64 0, .int .i64 0, .int .i64 0, .slice none 0 0, .int .i64 0, .int .i64 0, .slice none 0 0, .int .i64 0, .slice none 0 0, .slice none 0 0] 107)).cell? ⟨w.heap.size, 1, none⟩ = some (.slice k.aa p.arrs.length k.ac) := (HDK.out 5).bp.c1
    have p20 : (u1.alloc (.cells #[.int .i64 5, .int .i64 0, .int .i64 0, .int .i64 0, .slice none 0 0, .int .i64 0, .int .i64 0, .slice none 0 0, .int .i64 0, .slice none 0 0, .slice none 0 0] 107)).cell? ⟨w.heap.size, 2, none⟩ = some (.slice k.ba p.body.length k.bc) := (HDK.out 5).bp.c2
    go_wp2_with fail
    have HD0 := Lib.hid (HDK.out 5)
    obtain ⟨U0, hU0⟩ : ∃ U0, (u1.alloc (.cells (arrS (zS 5) zK) 107)) = U0 := ⟨_, rfl⟩
    rw [hU0] at HD0
    simp only [arrS, List.length_nil] at hU0
    rw [hU0]
    clear hU0 p00 p10 p20
    with_reducible refine (pickU B (m + 1) (p.vars.length : Int) U0 HD0.out.rd (by omega) (by omega) (by omega)).mono ?_
    rintro f u2 ⟨tv, htv, rfl, hr2, ho2, hb2⟩
    have HD2 := Lib.hid (HD0.out.call hr2 ho2 hb2)
    have hd3 : DSt p k w B (m + 1 + 1) u1.heap.size n (1 + 4 * c) { zS 5 with target := tv } zK (u2.setCell ⟨u1.heap.size, 1, none⟩ (.int .i64 tv)) := HD2.out.num 5 tv 0 1 tv rfl
    obtain ⟨y1, hy1⟩ := cell_ex HD2.out.bs 1 (by simp)
    have x1 := frozen_at HD2.out.bs 1
    obtain ⟨U3, hU3⟩ : ∃ U3, u2.setCell ⟨u1.heap.size, 1, none⟩ (.int .i64 tv) = U3 := ⟨_, rfl⟩
    rw [hU3] at hd3
    have HD3 := Lib.hid hd3
    have p0 := hd3.bp.c0
    have p1 := hd3.bp.c1
    have p2 := hd3.bp.c2
    have hgU : u1.heap.size < U3.heap.size := (Array.getElem?_eq_some_iff.1 hd3.bs).1
    clear hd3 hr2 ho2 hb2 htv
    go_wp2_with fail
    clear hU3 p0 p1 p2 hy1 x1
    with_reducible refine (drSmall p k hv hv' ha' B (m + 1 + 1) U3 HD3.out.rd (by omega)).mono ?_
    rintro f u4 ⟨e, a, cc, rfl, ⟨nx, hnx, hx, hsx⟩, hr4, ho4, hb4⟩
    have HD4 := Lib.hid (HD3.out.call hr4 ho4 hb4)
    have HF := Lib.hid ((HD3.out.val (d := nx) (by omega) hgU hx hsx hr4 ho4 hb4).fin (m' := m + (20010 + 8 * Q)) (by omega))
    have hbS : BoxS u4 u1.heap.size ({ zS 5 with target := tv }) (zK) := ⟨_, HD4.out.bs⟩
    have c0 := hbS.c0
    have c1 := hbS.c1
    have c2 := hbS.c2
    have c3 := hbS.c3
    have c4 := hbS.c4
    have c5 := hbS.c5
    have c6 := hbS.c6
    have c7 := hbS.c7
    have c8 := hbS.c8
    have c9 := hbS.c9
    have c10 := hbS.c10
    have z5 := frozen_at HD4.out.bs 5
    have z6 := frozen_at HD4.out.bs 6
    have z7 := frozen_at HD4.out.bs 7
    obtain ⟨v0, hu0⟩ := cell_ex HD4.out.br 0 (by simp)
    have f0 := frozen_at HD4.out.br 0
    obtain ⟨v1, hu1⟩ := cell_ex HD4.out.br 1 (by simp)
    have f1 := frozen_at HD4.out.br 1
    obtain ⟨v2, hu2⟩ := cell_ex HD4.out.br 2 (by simp)
    have f2 := frozen_at HD4.out.br 2
    obtain ⟨v3, hu3⟩ := cell_ex HD4.out.br 3 (by simp)
    have f3 := frozen_at HD4.out.br 3
    obtain ⟨v4, hu4⟩ := cell_ex HD4.out.br 4 (by simp)
    have f4 := frozen_at HD4.out.br 4
    obtain ⟨v5, hu5⟩ := cell_ex HD4.out.br 5 (by simp)
    have f5 := frozen_at HD4.out.br 5
    obtain ⟨v6, hu6⟩ := cell_ex HD4.out.br 6 (by simp)
    have f6 := frozen_at HD4.out.br 6
    obtain ⟨v7, hu7⟩ := cell_ex HD4.out.br 7 (by simp)
    have f7 := frozen_at HD4.out.br 7
    obtain ⟨v8, hu8⟩ := cell_ex HD4.out.br 8 (by simp)
    have f8 := frozen_at HD4.out.br 8
    obtain ⟨v9, hu9⟩ := cell_ex HD4.out.br 9 (by simp)
    have f9 := frozen_at HD4.out.br 9
    obtain ⟨v10, hu10⟩ := cell_ex HD4.out.br 10 (by simp)
    have f10 := frozen_at HD4.out.br 10
    clear hx hsx hr4 ho4 hb4 hbS HD2 HD3 HD4
    go_wp2_with fail
    exact bodyPost_ret (v := aggS { { zS 5 with target := tv } with value := e } { zK with va := a, vc := cc }) (by simp [results, Try.f105, go_sem, hu0, hu1, hu2, hu3, hu4, hu5, hu6, hu7, hu8, hu9, hu10]) rfl HF.out

end Go.Proofs.Ytgfagdjadmpklaa

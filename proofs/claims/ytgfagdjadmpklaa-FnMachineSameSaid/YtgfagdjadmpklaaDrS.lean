/- The draw of a valid expression of the model's package. -/
import Derived.Test.YtgfagdjadmpklaaDrE
namespace Go.Proofs.Ytgfagdjadmpklaa
open Go.RowKit
set_option linter.unusedVariables false

set_option maxRecDepth 100000 in
/-- **l2Draw, AT EVERY DEPTH UP TO FIVE.** -/
theorem drDraw (p : Pg) (k : PC) (hv : 1 ≤ p.vars.length) (hv' : p.vars.length ≤ 1048576) (ha' : p.arrs.length ≤ 1048576) : ∀ (d : Nat), d ≤ 5 → ∀ (B m : Nat) (w : World), RdU w B m → m + 20000 * d < 1099510000000 →
    Calls Try.prog 119 #[.pointer (some ⟨B, 0, none⟩), aggP p k, .int .i64 (d : Int)] w (DrE d w B (m + 5 ^ (d + 1)))
  | 0, _, B, m, w, h, hm => drDraw_lo p k hv hv' 0 (by omega) B m w h (by omega)
  | 1, _, B, m, w, h, hm => drDraw_lo p k hv hv' 1 (by omega) B m w h (by omega)
  | d + 2, hd, B, m, w, h, hm => by
    obtain ⟨M, hM⟩ : ∃ M : Nat, M + 20000 * (d + 2) = 1099510000000 := ⟨1099510000000 - 20000 * (d + 2), by omega⟩
    exact drDraw_hi p k hv hv' ha' (d + 1) (by omega) (by omega) M (by omega) (fun B m w h hm => drDraw p k hv hv' ha' (d + 1) (by omega) B m w h (by omega)) B m w h (by omega) _ (by omega)

/-- A drawn expression that lies in new blocks, short. -/
def DrX (w : World) (B m : Nat) (f : Ending) (w' : World) : Prop := ∃ e a c, f = .returned (.agg #[.int .i64 e.kind, .int .i64 e.value, .slice a e.kids.length c]) ∧ (∃ n, n ≤ 6 ∧ IsE w' (New w w') n e (cellsI e a c) ∧ SmE 1048576 n e) ∧ RdU w' B m ∧ Oth B w w' ∧ Below B w w'
theorem DrX.of {w w0 w' : World} {B m m' : Nat} (h : Below w.heap.size w w0) (hB : B < w.heap.size) {e : E} {a : Option Addr} {c : Nat} (hx : ∃ n, n ≤ 6 ∧ IsE w' (New w0 w') n e (cellsI e a c) ∧ SmE 1048576 n e) (hr : RdU w' B m) (ho : Oth B w0 w') (hb : Below B w0 w') (hm : m ≤ m')
    (g o : Nat) (hg : w.heap.size ≤ g) (hg' : g < w0.heap.size) (vs : List Value) :
    DrX w B m' (.returned (.agg #[.int .i64 e.kind, .int .i64 e.value, .slice a e.kids.length c])) (put w' g o vs) := by
  obtain ⟨h1, h2, h3⟩ := dr_end hr ((Oth.below h).trans ho) ((h.mono (Nat.le_of_lt hB)).trans hb) hB hg o vs
  obtain ⟨n, hn, hx1, hx2⟩ := hx
  exact ⟨e, a, c, rfl, ⟨n, hn, hx1.mono (fun j hj => put_other _ _ _ _ _ (by have := hj.1; omega)) fun j hj => ⟨by have := hj.1; have := h.size; omega, by rw [put_size]; exact hj.2⟩, hx2⟩, h1.mono hm, h2, h3⟩

set_option maxRecDepth 100000 in
set_option maxHeartbeats 8000000 in
theorem drSmall (p : Pg) (k : PC) (hv : 1 ≤ p.vars.length) (hv' : p.vars.length ≤ 1048576) (ha' : p.arrs.length ≤ 1048576) (B m : Nat) (w : World) (h : RdU w B m) (hm : m < 1099500000000) :
    Calls Try.prog 114 #[.pointer (some ⟨B, 0, none⟩), aggP p k] w (DrX w B (m + 20000)) := by
  have hlt := h.lt
  obtain ⟨W, hW⟩ : ∃ W, W = ((w.alloc (.cells #[.slice k.va p.vars.length k.vc, .slice k.aa p.arrs.length k.ac, .slice k.ba p.body.length k.bc] 55)).alloc (.cells #[.int .i64 0, .int .i64 0, .slice none 0 0] 45)) := ⟨_, rfl⟩
  have hBW : Below w.heap.size w W := by rw [hW]; exact ((Below.refl _ w).alloc (Nat.le_refl _) _).alloc (by simp) _
  have hz : W.heap.size = w.heap.size + 2 := by rw [hW]; simp
  have e0 : BoxP W w.heap.size p k := by rw [hW]; exact (BoxP.new w p k _).later (Below.heap_alloc _ _ _ (by simp))
  have e1 : W.heap[w.heap.size + 1]? = some (.cells #[.int .i64 0, .int .i64 0, .slice none 0 0] 45 (0, 0)) := by
    have e1 := heap_alloc_new (w.alloc (.cells #[.slice k.va p.vars.length k.vc, .slice k.aa p.arrs.length k.ac, .slice k.ba p.body.length k.bc] 55)) (.cells #[.int .i64 0, .int .i64 0, .slice none 0 0] 45)
    rw [World.size_alloc] at e1
    rw [hW]; exact e1
  have HR := Lib.hid (h.below hBW hlt)
  have HBW := Lib.hid hBW
  have HX := Lib.hid e1
  have HP := Lib.hid e0
  have p0 := e0.c0
  have p1 := e0.c1
  have p2 := e0.c2
  clear h hBW e0 e1
  have HS : Hid (∀ v, Oth B W v → v.cell? ⟨w.heap.size, 0, none⟩ = some (.slice k.va p.vars.length k.vc) ∧ v.cell? ⟨w.heap.size, 1, none⟩ = some (.slice k.aa p.arrs.length k.ac) ∧ v.cell? ⟨w.heap.size, 2, none⟩ = some (.slice k.ba p.body.length k.bc)) := fun v hv => by
    have h := HP.out.later (hv.2 w.heap.size (by omega) (by omega))
    exact ⟨h.c0, h.c1, h.c2⟩
  -- the literal of the depths and the variable's box, in whatever order they are laid
  have hLc : ∀ i, i < 5 → ((W.alloc (.cells #[.int .i64 2, .int .i64 3, .int .i64 2, .int .i64 1, .int .i64 4] 3)).drew).cell? ⟨w.heap.size + 2, 0 + i, none⟩ = some (.int .i64 (([2, 3, 2, 1, 4] : List Int).getD i 0)) := by
    rw [← hz]; exact lit_cells W [2, 3, 2, 1, 4] _
  have hLb : ∀ i, i < 5 → (((W.alloc (.cells #[.int .i64 2, .int .i64 3, .int .i64 2, .int .i64 1, .int .i64 4] 3)).alloc (.cells #[.int .i64 0, .int .i64 0, .slice none 0 0] 45)).drew).cell? ⟨w.heap.size + 2, 0 + i, none⟩ = some (.int .i64 (([2, 3, 2, 1, 4] : List Int).getD i 0)) := fun i hi =>
    (World.cell?_of_block (w := W.alloc (.cells #[.int .i64 2, .int .i64 3, .int .i64 2, .int .i64 1, .int .i64 4] 3)) (a := ⟨w.heap.size + 2, 0 + i, none⟩) (Below.heap_alloc _ _ _ (by simp; omega))).trans (hLc i hi)
  have hLa : ∀ i, i < 5 → (((W.alloc (.cells #[.int .i64 0, .int .i64 0, .slice none 0 0] 45)).alloc (.cells #[.int .i64 2, .int .i64 3, .int .i64 2, .int .i64 1, .int .i64 4] 3)).drew).cell? ⟨w.heap.size + 2 + 1, 0 + i, none⟩ = some (.int .i64 (([2, 3, 2, 1, 4] : List Int).getD i 0)) := by
    have h := lit_cells (W.alloc (.cells #[.int .i64 0, .int .i64 0, .slice none 0 0] 45)) [2, 3, 2, 1, 4] 3
    rw [World.size_alloc, hz] at h
    exact h
  have HLc := Lib.hid hLc
  have HLb := Lib.hid hLb
  have HLa := Lib.hid hLa
  have HRc : Hid (RdU ((W.alloc (.cells #[.int .i64 2, .int .i64 3, .int .i64 2, .int .i64 1, .int .i64 4] 3)).drew) B m) := (HR.out.alloc _).drew
  have HRb : Hid (RdU (((W.alloc (.cells #[.int .i64 2, .int .i64 3, .int .i64 2, .int .i64 1, .int .i64 4] 3)).alloc (.cells #[.int .i64 0, .int .i64 0, .slice none 0 0] 45)).drew) B m) := ((HR.out.alloc _).alloc _).drew
  have HRa : Hid (RdU (((W.alloc (.cells #[.int .i64 0, .int .i64 0, .slice none 0 0] 45)).alloc (.cells #[.int .i64 2, .int .i64 3, .int .i64 2, .int .i64 1, .int .i64 4] 3)).drew) B m) := ((HR.out.alloc _).alloc _).drew
  have HOc : Hid (Oth B W ((W.alloc (.cells #[.int .i64 2, .int .i64 3, .int .i64 2, .int .i64 1, .int .i64 4] 3)).drew)) := ((Oth.refl B W).alloc _).drew
  have HOb : Hid (Oth B W (((W.alloc (.cells #[.int .i64 2, .int .i64 3, .int .i64 2, .int .i64 1, .int .i64 4] 3)).alloc (.cells #[.int .i64 0, .int .i64 0, .slice none 0 0] 45)).drew)) := (((Oth.refl B W).alloc _).alloc _).drew
  have HOa : Hid (Oth B W (((W.alloc (.cells #[.int .i64 0, .int .i64 0, .slice none 0 0] 45)).alloc (.cells #[.int .i64 2, .int .i64 3, .int .i64 2, .int .i64 1, .int .i64 4] 3)).drew)) := (((Oth.refl B W).alloc _).alloc _).drew
  have HOe : Hid (Oth B W ((W.alloc (.cells #[.int .i64 0, .int .i64 0, .slice none 0 0] 45)).drew)) := ((Oth.refl B W).alloc _).drew
  have hBw : B ≤ W.heap.size := Nat.le_of_lt HR.out.lt
  have HBc : Hid (Below B W ((W.alloc (.cells #[.int .i64 2, .int .i64 3, .int .i64 2, .int .i64 1, .int .i64 4] 3)).drew)) := ((Below.refl B W).alloc hBw _).drew
  have HBb : Hid (Below B W (((W.alloc (.cells #[.int .i64 2, .int .i64 3, .int .i64 2, .int .i64 1, .int .i64 4] 3)).alloc (.cells #[.int .i64 0, .int .i64 0, .slice none 0 0] 45)).drew)) := (((Below.refl B W).alloc hBw _).alloc (by simp; omega) _).drew
  have HBa : Hid (Below B W (((W.alloc (.cells #[.int .i64 0, .int .i64 0, .slice none 0 0] 45)).alloc (.cells #[.int .i64 2, .int .i64 3, .int .i64 2, .int .i64 1, .int .i64 4] 3)).drew)) := (((Below.refl B W).alloc hBw _).alloc (by simp; omega) _).drew
  have HEa : Hid (((W.alloc (.cells #[.int .i64 0, .int .i64 0, .slice none 0 0] 45)).alloc (.cells #[.int .i64 2, .int .i64 3, .int .i64 2, .int .i64 1, .int .i64 4] 3)).drew.heap[w.heap.size + 2]? = some (.cells #[.int .i64 0, .int .i64 0, .slice none 0 0] 45 (0, 0))) := by
    have h := heap_alloc_new W (.cells #[.int .i64 0, .int .i64 0, .slice none 0 0] 45)
    rw [hz] at h
    exact (Below.heap_alloc _ _ _ (by simp; omega)).trans h
  have HEb : Hid (((W.alloc (.cells #[.int .i64 2, .int .i64 3, .int .i64 2, .int .i64 1, .int .i64 4] 3)).alloc (.cells #[.int .i64 0, .int .i64 0, .slice none 0 0] 45)).drew.heap[w.heap.size + 2 + 1]? = some (.cells #[.int .i64 0, .int .i64 0, .slice none 0 0] 45 (0, 0))) := by
    have h := heap_alloc_new (W.alloc (.cells #[.int .i64 2, .int .i64 3, .int .i64 2, .int .i64 1, .int .i64 4] 3)) (.cells #[.int .i64 0, .int .i64 0, .slice none 0 0] 45)
    rw [World.size_alloc, hz] at h
    exact h
  clear hLc hLb hLa
  go_enter Try.func114, Try.ntmps114
  go_wp2_with fail
  rw [← hW]
  clear hW
  go_region_held3 (fun v => v.cell? ⟨w.heap.size, 0, none⟩ = some (.slice k.va p.vars.length k.vc) ∧ v.cell? ⟨w.heap.size, 1, none⟩ = some (.slice k.aa p.arrs.length k.ac) ∧ v.cell? ⟨w.heap.size, 2, none⟩ = some (.slice k.ba p.body.length k.bc)) (first | assumption | exact ⟨p0, p1, p2⟩ | exact HS.out _ HOe.out | exact HS.out _ HOc.out | exact HS.out _ HOb.out | exact HS.out _ HOa.out | exact HS.out _ (hO1.alloc _) | exact HS.out _ (hO5.alloc _) | exact HS.out _ (hO5.put hXX 0 [.int .i64 e.kind, .int .i64 e.value, .slice a e.kids.length c]) | go_keep)
    (first
    | (go_at_call 80; (first | with_reducible refine (numU B m (w.heap.size + 2) 0 5 5 [2, 3, 2, 1, 4] _ HRc.out (by omega) (by omega) rfl (by omega) (by omega) HLc.out).mono ?_ | with_reducible refine (numU B m (w.heap.size + 2) 0 5 5 [2, 3, 2, 1, 4] _ HRb.out (by omega) (by omega) rfl (by omega) (by omega) HLb.out).mono ?_ | with_reducible refine (numU B m (w.heap.size + 2 + 1) 0 5 5 [2, 3, 2, 1, 4] _ HRa.out (by omega) (by omega) rfl (by omega) (by omega) HLa.out).mono ?_); rintro f u1 ⟨dv, hdv, rfl, hr4, ho4, hb4⟩; have hO1 : Oth B W u1 := (by first | exact HOc.out.trans ho4 | exact HOb.out.trans ho4 | exact HOa.out.trans ho4); have hB1 : Below B W u1 := (by first | exact HBc.out.trans hb4 | exact HBb.out.trans hb4 | exact HBa.out.trans hb4); have hS1 := HS.out _ hO1; obtain ⟨dn, rfl, hdn⟩ : ∃ dn : Nat, dv = (dn : Int) ∧ dn ≤ 4 := (by (simp at hdv); exact ⟨dv.toNat, by omega, by omega⟩); (first | (have hXX : W.heap.size ≤ w.heap.size + 2 := (by omega); have hE1 := (ho4.2 (w.heap.size + 2) (by simp [World.drew]; omega) (by omega)).trans HEa.out) | (have hXX : W.heap.size ≤ w.heap.size + 2 + 1 := (by omega); have hE1 := (ho4.2 (w.heap.size + 2 + 1) (by simp [World.drew]; omega) (by omega)).trans HEb.out) | have hE1 := True.intro))
    | (go_at_call 119; (with_reducible refine (drDraw p k hv hv' ha' dn (by omega) B (m + 1) u1 hr4 (by omega)).mono ?_); rintro f u2 ⟨e, a, c, rfl, hx, hr5, ho5, hb5⟩; have hO5 := hO1.trans ho5; have hB5 := hB1.trans hb5; have hx' : ∃ n, n ≤ 6 ∧ IsE u2 (New W u2) n e (cellsI e a c) ∧ SmE 1048576 n e := ⟨dn + 1, by omega, hx.1.mono (fun _ _ => rfl) (fun j hj => ⟨by have := hj.1; have := hO1.1; omega, hj.2⟩), hx.2.1⟩; have hS2 := HS.out _ hO5; (first | (have hE2 := (ho5.2 _ (Array.getElem?_eq_some_iff.1 hE1).1 (by omega)).trans hE1; obtain ⟨u0, hu0⟩ := cell_ex hE2 0 (by simp); obtain ⟨u1', hu1⟩ := cell_ex hE2 1 (by simp); obtain ⟨u2', hu2⟩ := cell_ex hE2 2 (by simp); have hf0 := frozen_at hE2 0; have hf1 := frozen_at hE2 1; have hf2 := frozen_at hE2 2) | have hE2 := True.intro))
    | (go_at_call 119; (with_reducible refine (drDraw p k hv hv' ha' dn (by omega) B (m + 1) (u1.alloc (.cells #[.int .i64 0, .int .i64 0, .slice none 0 0] 45)) (hr4.alloc _) (by omega)).mono ?_); rintro f u2 ⟨e, a, c, rfl, hx, hr5, ho5, hb5⟩; have hO5 := (hO1.alloc (.cells #[.int .i64 0, .int .i64 0, .slice none 0 0] 45)).trans ho5; have hB5 := (hB1.alloc (Nat.le_of_lt hr4.lt) (.cells #[.int .i64 0, .int .i64 0, .slice none 0 0] 45)).trans hb5; have hx' : ∃ n, n ≤ 6 ∧ IsE u2 (New W u2) n e (cellsI e a c) ∧ SmE 1048576 n e := ⟨dn + 1, by omega, hx.1.mono (fun _ _ => rfl) (fun j hj => ⟨by have := hj.1; have := hO1.1; simp only [World.size_alloc] at *; omega, hj.2⟩), hx.2.1⟩; have hS2 := HS.out _ hO5; have hXX : W.heap.size ≤ u1.heap.size := hO1.1; have hE2 := (ho5.2 u1.heap.size (by simp) (by have := hr4.lt; omega)).trans (heap_alloc_new u1 (.cells #[.int .i64 0, .int .i64 0, .slice none 0 0] 45)); obtain ⟨u0, hu0⟩ := cell_ex hE2 0 (by simp); obtain ⟨u1', hu1⟩ := cell_ex hE2 1 (by simp); obtain ⟨u2', hu2⟩ := cell_ex hE2 2 (by simp); have hf0 := frozen_at hE2 0; have hf1 := frozen_at hE2 1; have hf2 := frozen_at hE2 2))
  all_goals
    have hs1 := hO1.1
    have hs5 := hO5.1
    have hz1 := ho4.1
    simp [World.drew] at hz1
    first
      | (obtain ⟨U, hU⟩ : ∃ U, u2.alloc (.cells #[.int .i64 e.kind, .int .i64 e.value, .slice a e.kids.length c] 45) = U := ⟨_, rfl⟩
         rw [hU]
         have hbx : BoxE U u2.heap.size e a c := by rw [← hU]; exact BoxE.new _ _ _ _ _
         have hOU : Oth B W U := by rw [← hU]; exact hO5.alloc _
         have hBU : Below B W U := by rw [← hU]; exact hB5.alloc (Nat.le_of_lt hr5.lt) _
         have hRU : RdU U B (m + 1 + 5 ^ (dn + 1)) := by rw [← hU]; exact hr5.alloc _
         have hxU : ∃ n, n ≤ 6 ∧ IsE U (New W U) n e (cellsI e a c) ∧ SmE 1048576 n e := ⟨dn + 1, by omega, hx.1.mono (fun j hj => by rw [← hU]; exact Below.heap_alloc _ _ _ hj.2) (fun j hj => ⟨by have := hj.1; omega, by rw [← hU]; simp; have := hj.2; omega⟩), hx.2.1⟩)
      | (obtain ⟨U, hU⟩ : ∃ U, (((u2.setCell ⟨w.heap.size + 2, 0, none⟩ (.int .i64 e.kind)).setCell ⟨w.heap.size + 2, 1, none⟩ (.int .i64 e.value)).setCell ⟨w.heap.size + 2, 2, none⟩ (.slice a e.kids.length c)) = U := ⟨_, rfl⟩
         rw [hU]
         have hUp : put u2 (w.heap.size + 2) 0 [.int .i64 e.kind, .int .i64 e.value, .slice a e.kids.length c] = U := hU
         have hbx : BoxE U (w.heap.size + 2) e a c := ⟨_, by rw [← hUp]; exact put_row _ _ _ _ _ _ hE2⟩
         have hOU : Oth B W U := by rw [← hUp]; exact hO5.put hXX 0 _
         have hBU : Below B W U := by rw [← hUp]; exact put_below _ _ _ _ _ _ hB5 (by omega)
         have hRU : RdU U B (m + 1 + 5 ^ (dn + 1)) := by rw [← hUp]; exact hr5.below (put_below [.int .i64 e.kind, .int .i64 e.value, .slice a e.kids.length c] _ _ (w.heap.size + 2) (w.heap.size + 2) 0 (Below.refl _ u2) (Nat.le_refl _)) (by omega)
         have hxU : ∃ n, n ≤ 6 ∧ IsE U (New W U) n e (cellsI e a c) ∧ SmE 1048576 n e := ⟨dn + 1, by omega, hx.1.mono (fun j hj => by rw [← hUp]; exact put_other _ _ _ _ _ (by have := hj.1; omega)) (fun j hj => ⟨by have := hj.1; have := hO1.1; (try simp only [World.size_alloc] at *); omega, by rw [← hUp, put_size]; exact hj.2⟩), hx.2.1⟩)
      | (obtain ⟨U, hU⟩ : ∃ U, (((u2.setCell ⟨w.heap.size + 2 + 1, 0, none⟩ (.int .i64 e.kind)).setCell ⟨w.heap.size + 2 + 1, 1, none⟩ (.int .i64 e.value)).setCell ⟨w.heap.size + 2 + 1, 2, none⟩ (.slice a e.kids.length c)) = U := ⟨_, rfl⟩
         rw [hU]
         have hUp : put u2 (w.heap.size + 2 + 1) 0 [.int .i64 e.kind, .int .i64 e.value, .slice a e.kids.length c] = U := hU
         have hbx : BoxE U (w.heap.size + 2 + 1) e a c := ⟨_, by rw [← hUp]; exact put_row _ _ _ _ _ _ hE2⟩
         have hOU : Oth B W U := by rw [← hUp]; exact hO5.put hXX 0 _
         have hBU : Below B W U := by rw [← hUp]; exact put_below _ _ _ _ _ _ hB5 (by omega)
         have hRU : RdU U B (m + 1 + 5 ^ (dn + 1)) := by rw [← hUp]; exact hr5.below (put_below [.int .i64 e.kind, .int .i64 e.value, .slice a e.kids.length c] _ _ (w.heap.size + 2 + 1) (w.heap.size + 2 + 1) 0 (Below.refl _ u2) (Nat.le_refl _)) (by omega)
         have hxU : ∃ n, n ≤ 6 ∧ IsE U (New W U) n e (cellsI e a c) ∧ SmE 1048576 n e := ⟨dn + 1, by omega, hx.1.mono (fun j hj => by rw [← hUp]; exact put_other _ _ _ _ _ (by have := hj.1; omega)) (fun j hj => ⟨by have := hj.1; have := hO1.1; (try simp only [World.size_alloc] at *); omega, by rw [← hUp, put_size]; exact hj.2⟩), hx.2.1⟩)
      | (obtain ⟨U, hU⟩ : ∃ U, (((u2.setCell ⟨u1.heap.size, 0, none⟩ (.int .i64 e.kind)).setCell ⟨u1.heap.size, 1, none⟩ (.int .i64 e.value)).setCell ⟨u1.heap.size, 2, none⟩ (.slice a e.kids.length c)) = U := ⟨_, rfl⟩
         rw [hU]
         have hUp : put u2 (u1.heap.size) 0 [.int .i64 e.kind, .int .i64 e.value, .slice a e.kids.length c] = U := hU
         have hbx : BoxE U (u1.heap.size) e a c := ⟨_, by rw [← hUp]; exact put_row _ _ _ _ _ _ hE2⟩
         have hOU : Oth B W U := by rw [← hUp]; exact hO5.put hXX 0 _
         have hBU : Below B W U := by rw [← hUp]; exact put_below _ _ _ _ _ _ hB5 (by omega)
         have hRU : RdU U B (m + 1 + 5 ^ (dn + 1)) := by rw [← hUp]; exact hr5.below (put_below [.int .i64 e.kind, .int .i64 e.value, .slice a e.kids.length c] _ _ (u1.heap.size) (u1.heap.size) 0 (Below.refl _ u2) (Nat.le_refl _)) (by omega)
         have hxU : ∃ n, n ≤ 6 ∧ IsE U (New W U) n e (cellsI e a c) ∧ SmE 1048576 n e := ⟨dn + 1, by omega, hx.1.mono (fun j hj => by rw [← hUp]; exact put_other _ _ _ _ _ (by have := hj.1; simp at this; omega)) (fun j hj => ⟨by have := hj.1; have := hO1.1; (try simp only [World.size_alloc] at *); omega, by rw [← hUp, put_size]; exact hj.2⟩), hx.2.1⟩)
    have hq5 : 5 ^ (dn + 1) ≤ 3125 := by
      have : 5 ^ (dn + 1) ≤ 5 ^ 5 := Nat.pow_le_pow_right (by omega) (by omega)
      simpa using this
    obtain ⟨f0, f1, f2⟩ := HS.out U hOU
    have b0 := hbx.c0
    have b1 := hbx.c1
    have b2 := hbx.c2
    have hBB := hRU.lt
    have HBX := Lib.hid hbx
    have HOU := Lib.hid hOU
    have HBU := Lib.hid hBU
    have HRU := Lib.hid hRU
    have HXU := Lib.hid hxU
    have hUs := hOU.1
    clear hbx hOU hBU hRU hxU hx hx' hr5 ho5 hb5 hO5 hB5 hS1 hS2 hr4 ho4 hb4 hO1 hB1 hE1 hE2 HLa HLb HLc HRa HRb HRc HOa HOb HOc HOe HBa HBb HBc HEa HEb hdv hz1
    try clear hXX
    try clear hf0 hf1 hf2 hu0 hu1 hu2
    go_wp2_with fail
    obtain ⟨nx, hnx, hx1, hx2⟩ := HXU.out
    refine (sRight_one p k nx e a c (New W U) U hx1 (fun j hj => hj.2)).mono ?_
    rintro f w5 ⟨rfl, hb6⟩
    have hs6 := hb6.size
    have hO6 : Oth B W w5 := HOU.out.trans (Oth.below hb6)
    have hB6 : Below B W w5 := HBU.out.trans (hb6.mono (Nat.le_of_lt hBB))
    have hR6 : RdU w5 B (m + 1 + 5 ^ (dn + 1)) := HRU.out.below hb6 hBB
    have hx3 := (hO6.2 (w.heap.size + 1) (by omega) (by omega)).trans HX.out
    have hbx6 := HBX.out.below hb6 HBX.out.lt
    cases hq : rightB p.vars.length p.arrs.length e
    case true =>
      have b0 := hbx6.c0
      have b1 := hbx6.c1
      have b2 := hbx6.c2
      obtain ⟨u0, hu0⟩ := cell_ex hx3 0 (by simp)
      obtain ⟨u1', hu1⟩ := cell_ex hx3 1 (by simp)
      obtain ⟨u2', hu2⟩ := cell_ex hx3 2 (by simp)
      have hf0 := frozen_at hx3 0
      have hf1 := frozen_at hx3 1
      have hf2 := frozen_at hx3 2
      have HFIN : Hid (DrX w B (m + 20000) (.returned (.agg #[.int .i64 e.kind, .int .i64 e.value, .slice a e.kids.length c])) (put w5 (w.heap.size + 1) 0 [.int .i64 e.kind, .int .i64 e.value, .slice a e.kids.length c])) :=
        DrX.of HBW.out hlt ⟨nx, hnx, hx1.mono (fun j hj => hb6.block j hj.2) fun j hj => ⟨hj.1, Nat.lt_of_lt_of_le hj.2 hs6⟩, hx2⟩ hR6 hO6 hB6 (by omega) (w.heap.size + 1) 0 (by omega) (by omega) _
      clear hO6 hB6 hR6 hx3 hbx6 hb6 hx1 hx2 HBX HOU HBU HRU HXU HX HP HS HR HBW hq
      go_wp2_with fail
      exact bodyPost_ret (v := .agg #[.int .i64 e.kind, .int .i64 e.value, .slice a e.kids.length c]) (by simp [results, Try.f114, go_sem, hu0, hu1, hu2]) rfl HFIN.out
    case false =>
      obtain ⟨f0, f1, f2⟩ := HS.out w5 hO6
      have HO6 := Lib.hid hO6
      have HB6 := Lib.hid hB6
      have HR6 := Lib.hid hR6
      have HX3 := Lib.hid hx3
      clear hO6 hB6 hR6 hx3 hbx6 hb6 hx1 hx2 HBX HOU HBU HRU HXU HX HP HS HR hq b0 b1 b2
      go_wp2_with fail
      refine (drAtom B (m + 1 + 5 ^ (dn + 1)) p k w5 HR6.out (by omega) hv hv' 0).mono ?_
      rintro f w6 ⟨e', a', c', rfl, hx', hr7, ho7, hb7⟩
      have hx4 := (ho7.2 (w.heap.size + 1) (by omega) (by omega)).trans HX3.out
      obtain ⟨u0, hu0⟩ := cell_ex hx4 0 (by simp)
      obtain ⟨u1', hu1⟩ := cell_ex hx4 1 (by simp)
      obtain ⟨u2', hu2⟩ := cell_ex hx4 2 (by simp)
      have hf0 := frozen_at hx4 0
      have hf1 := frozen_at hx4 1
      have hf2 := frozen_at hx4 2
      have hO6s := HO6.out.1
      have HFIN : Hid (DrX w B (m + 20000) (.returned (.agg #[.int .i64 e'.kind, .int .i64 e'.value, .slice a' e'.kids.length c'])) (put w6 (w.heap.size + 1) 0 [.int .i64 e'.kind, .int .i64 e'.value, .slice a' e'.kids.length c'])) :=
        DrX.of HBW.out hlt ⟨0 + 1, by omega, hx'.1.mono (fun _ _ => rfl) (fun j hj => ⟨by have := hj.1; omega, hj.2⟩), hx'.2.1⟩ hr7 (HO6.out.trans ho7) (HB6.out.trans hb7) (by omega) (w.heap.size + 1) 0 (by omega) (by omega) _
      clear hx' hr7 ho7 hb7 hx4 HO6 HB6 HR6 HX3 HBW f0 f1 f2
      go_wp2_with fail
      exact bodyPost_ret (v := .agg #[.int .i64 e'.kind, .int .i64 e'.value, .slice a' e'.kids.length c']) (by simp [results, Try.f114, go_sem, hu0, hu1, hu2]) rfl HFIN.out

end Go.Proofs.Ytgfagdjadmpklaa

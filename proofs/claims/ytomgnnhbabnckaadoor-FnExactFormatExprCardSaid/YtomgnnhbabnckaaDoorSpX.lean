/- spec.l2Var and spec.l2Expr, walked: of every valid expression the text is returned; nothing that was there has changed. -/
import Derived.Test.YtomgnnhbabnckaaDoorDec
import Derived.Test.YtomgnnhbabnckaaDoorTxE
import Derived.Test.YtomgnnhbabnckaaDoorTree
import Derived.Deep.RegionHeld3
namespace Go.Proofs.YtomgnnhbabnckaaDoor
open Go.RowKit
set_option linter.unusedVariables false

theorem cut_var (v : Nat) (hv : v < 12) : ({ data := #[97, 98, 99, 100, 101, 102, 103, 104, 105, 106, 107, 108] } : ByteArray).extract v (v + 1) = ⟨[UInt8.ofNat (97 + v)].toArray⟩ := by
  have h : v = 0 ∨ v = 1 ∨ v = 2 ∨ v = 3 ∨ v = 4 ∨ v = 5 ∨ v = 6 ∨ v = 7 ∨ v = 8 ∨ v = 9 ∨ v = 10 ∨ v = 11 := by omega
  rcases h with rfl | rfl | rfl | rfl | rfl | rfl | rfl | rfl | rfl | rfl | rfl | rfl <;> decide

set_option maxHeartbeats 2000000 in
theorem l2Var_one (v : Nat) (hv : v < 12) (w : World) : Calls Tryd.prog 66 #[.int .i64 v] w (Txt [UInt8.ofNat (97 + v)] w) := by
  have HC := Lib.hid (cut_var v hv)
  have h : v = 0 ∨ v = 1 ∨ v = 2 ∨ v = 3 ∨ v = 4 ∨ v = 5 ∨ v = 6 ∨ v = 7 ∨ v = 8 ∨ v = 9 ∨ v = 10 ∨ v = 11 := by omega
  rcases h with rfl | rfl | rfl | rfl | rfl | rfl | rfl | rfl | rfl | rfl | rfl | rfl
  all_goals
    go_enter Tryd.func66, Tryd.ntmps66
    go_wp2
    try go_quiet (fail)
    try go_wp2
    go_ret
    exact ⟨congrArg (fun s => Ending.returned (Value.string s)) HC.out, by first | exact Below.refl _ _ | exact ⟨rfl, rfl, rfl, Nat.le_refl _, fun _ _ => rfl⟩⟩

/-- The kids of a node, by place. -/
theorem kid_at {w : World} {D : Nat → Prop} {n : Nat} {es : List E} {a : Option Addr} (h : EsAt w D (IsE w D n) es a) (i : Nat) (x : E) (hx : es[i]? = some x) :
    ∃ b o ax cx, a = some ⟨b, o, none⟩ ∧ D b ∧ w.cell? ⟨b, o + i * 3, none⟩ = some (.int .i64 x.kind) ∧ w.cell? ⟨b, o + i * 3 + 1, none⟩ = some (.int .i64 x.value) ∧ w.cell? ⟨b, o + i * 3 + 2, none⟩ = some (.slice ax x.kids.length cx) ∧
      IsE w D n x [.int .i64 x.kind, .int .i64 x.value, .slice ax x.kids.length cx] := by
  obtain ⟨b, o, c0, c1, c2, ha, hd, h0, h1, h2, hr⟩ := h i x hx
  obtain ⟨ax, cx, rfl, rfl, rfl, _, _⟩ := hr.shape
  exact ⟨b, o, ax, cx, ha, hd, h0, h1, h2, hr⟩
theorem cut_pq : (({ data := #[80, 81] } : ByteArray).extract 0 1 = ⟨#[80]⟩) ∧ (({ data := #[80, 81] } : ByteArray).extract 1 2 = ⟨#[81]⟩) := by decide
theorem cut_ops : (({ data := #[43, 45, 42, 38, 94, 61, 60] } : ByteArray).extract 0 1 = ⟨#[43]⟩) ∧ (({ data := #[43, 45, 42, 38, 94, 61, 60] } : ByteArray).extract 1 2 = ⟨#[45]⟩) ∧ (({ data := #[43, 45, 42, 38, 94, 61, 60] } : ByteArray).extract 2 3 = ⟨#[42]⟩) ∧
    (({ data := #[43, 45, 42, 38, 94, 61, 60] } : ByteArray).extract 3 4 = ⟨#[38]⟩) ∧ (({ data := #[43, 45, 42, 38, 94, 61, 60] } : ByteArray).extract 4 5 = ⟨#[94]⟩) ∧ (({ data := #[43, 45, 42, 38, 94, 61, 60] } : ByteArray).extract 5 6 = ⟨#[61]⟩) ∧ (({ data := #[43, 45, 42, 38, 94, 61, 60] } : ByteArray).extract 6 7 = ⟨#[60]⟩) := by decide

/-- What an expression's text is told of one level less. -/
abbrev SayX (nv na d : Nat) : Prop := ∀ (n : Nat) (e : E) (c0 c1 c2 : Value) (D : Nat → Prop) (w : World), IsE w D n e [c0, c1, c2] → (∀ k, D k → k < w.heap.size) → shapeB nv na d e = true →
  Calls Tryd.prog 37 #[.agg #[c0, c1, c2]] w (Txt (txE d e) w)

set_option maxRecDepth 100000 in
set_option maxHeartbeats 4000000 in
theorem l2Expr_sel (nv na d : Nat) (hd : d ≤ 4) (ih : SayX nv na d) (n : Nat) (x y z : E) (a : Option Addr) (cap : Nat) (D : Nat → Prop) (w : World) (hat : EsAt w D (IsE w D n) [x, y, z] a) (hl : ∀ k, D k → k < w.heap.size) (sx sy sz : List UInt8)
    (hx : shapeB nv na d x = true) (htx : txE d x = sx) (hy : shapeB nv na d y = true) (hty : txE d y = sy) (hz : shapeB nv na d z = true) (htz : txE d z = sz) :
    Calls Tryd.prog 37 #[.agg #[.int .i64 11, .int .i64 0, .slice a 3 cap]] w (Txt (40 :: (sx ++ 63 :: (sy ++ 58 :: (sz ++ [41])))) w) := by
  have hp : 4 ^ d ≤ 256 := Nat.le_trans (Nat.pow_le_pow_right (by omega) hd) (by decide)
  have hlex : sx.length ≤ 6144 := by have := txE_len nv na d x hx; rw [htx] at this; omega
  have hley : sy.length ≤ 6144 := by have := txE_len nv na d y hy; rw [hty] at this; omega
  have hlez : sz.length ≤ 6144 := by have := txE_len nv na d z hz; rw [htz] at this; omega
  obtain ⟨b, o, ax, cx, rfl, hDb, ex0, ex1, ex2, hEx⟩ := kid_at hat 0 x rfl
  obtain ⟨b', o', ay, cy, hab, _, ey0, ey1, ey2, hEy⟩ := kid_at hat 1 y rfl
  cases hab
  obtain ⟨b', o', az, cz, hab, _, ez0, ez1, ez2, hEz⟩ := kid_at hat 2 z rfl
  cases hab
  simp only [Nat.zero_mul, Nat.add_zero, Nat.one_mul, show 2 * 3 = 6 from rfl] at ex0 ex1 ex2 ey0 ey1 ey2 ez0 ez1 ez2
  have hbl := hl b hDb
  have hB0 : Below w.heap.size w (w.alloc (.cells #[.int .i64 11, .int .i64 0, .slice (some ⟨b, o, none⟩) 3 cap] 29)) := (Below.refl _ w).alloc (Nat.le_refl _) _
  have HB0 := Lib.hid hB0
  have IH := Lib.hid ih
  have HTx := Lib.hid htx
  have HTy := Lib.hid hty
  have HTz := Lib.hid htz
  have HE : Hid (∀ v', Below (w.alloc (.cells #[.int .i64 11, .int .i64 0, .slice (some ⟨b, o, none⟩) 3 cap] 29)).heap.size (w.alloc (.cells #[.int .i64 11, .int .i64 0, .slice (some ⟨b, o, none⟩) 3 cap] 29)) v' → IsE v' D n x [.int .i64 x.kind, .int .i64 x.value, .slice ax x.kids.length cx] ∧ IsE v' D n y [.int .i64 y.kind, .int .i64 y.value, .slice ay y.kids.length cy] ∧ IsE v' D n z [.int .i64 z.kind, .int .i64 z.value, .slice az z.kids.length cz]) := fun v' hv' =>
    have hst := Stand.of_below (hB0.trans (hv'.mono hB0.size)) hl
    ⟨hEx.later hst, hEy.later hst, hEz.later hst⟩
  have HDW : Hid (∀ v', Below (w.alloc (.cells #[.int .i64 11, .int .i64 0, .slice (some ⟨b, o, none⟩) 3 cap] 29)).heap.size (w.alloc (.cells #[.int .i64 11, .int .i64 0, .slice (some ⟨b, o, none⟩) 3 cap] 29)) v' → ∀ k, D k → k < v'.heap.size) := fun v' hv' k hk => Nat.lt_of_lt_of_le (hl k hk) (Nat.le_trans hB0.size hv'.size)
  have hrow := heap_alloc_new w (.cells #[.int .i64 11, .int .i64 0, .slice (some ⟨b, o, none⟩) 3 cap] 29)
  have HS : Hid (∀ v', Below (w.alloc (.cells #[.int .i64 11, .int .i64 0, .slice (some ⟨b, o, none⟩) 3 cap] 29)).heap.size (w.alloc (.cells #[.int .i64 11, .int .i64 0, .slice (some ⟨b, o, none⟩) 3 cap] 29)) v' → v'.cell? ⟨w.heap.size, 0, none⟩ = some (.int .i64 11) ∧ v'.cell? ⟨w.heap.size, 1, none⟩ = some (.int .i64 0) ∧ v'.cell? ⟨w.heap.size, 2, none⟩ = some (.slice (some ⟨b, o, none⟩) 3 cap) ∧ v'.cell? ⟨b, o, none⟩ = some (.int .i64 x.kind) ∧ v'.cell? ⟨b, o + 1, none⟩ = some (.int .i64 x.value) ∧ v'.cell? ⟨b, o + 2, none⟩ = some (.slice ax x.kids.length cx) ∧ v'.cell? ⟨b, o + 3, none⟩ = some (.int .i64 y.kind) ∧ v'.cell? ⟨b, o + 3 + 1, none⟩ = some (.int .i64 y.value) ∧ v'.cell? ⟨b, o + 3 + 2, none⟩ = some (.slice ay y.kids.length cy) ∧ v'.cell? ⟨b, o + 6, none⟩ = some (.int .i64 z.kind) ∧ v'.cell? ⟨b, o + 6 + 1, none⟩ = some (.int .i64 z.value) ∧ v'.cell? ⟨b, o + 6 + 2, none⟩ = some (.slice az z.kids.length cz)) := fun v' hv' => by
    have hlt : w.heap.size < (w.alloc (.cells #[.int .i64 11, .int .i64 0, .slice (some ⟨b, o, none⟩) 3 cap] 29)).heap.size := by simp
    have k0 : ∀ j, v'.cell? ⟨w.heap.size, j, none⟩ = (w.alloc (.cells #[.int .i64 11, .int .i64 0, .slice (some ⟨b, o, none⟩) 3 cap] 29)).cell? ⟨w.heap.size, j, none⟩ := fun j => hv'.cell (p := ⟨w.heap.size, j, none⟩) hlt
    have k1 : ∀ j, v'.cell? ⟨b, j, none⟩ = w.cell? ⟨b, j, none⟩ := fun j => (hB0.trans (hv'.mono hB0.size)).cell (p := ⟨b, j, none⟩) hbl
    refine ⟨by rw [k0, cell_of_row _ _ _ _ _ _ hrow]; rfl, by rw [k0, cell_of_row _ _ _ _ _ _ hrow]; rfl, by rw [k0, cell_of_row _ _ _ _ _ _ hrow]; rfl, by rw [k1]; exact ex0, by rw [k1]; exact ex1, by rw [k1]; exact ex2, by rw [k1]; exact ey0, by rw [k1]; exact ey1, by rw [k1]; exact ey2, by rw [k1]; exact ez0, by rw [k1]; exact ez1, by rw [k1]; exact ez2⟩
  obtain ⟨p0, p1, p2, qx0, qx1, qx2, qy0, qy1, qy2, qz0, qz1, qz2⟩ := HS.out _ (Below.refl _ _)
  have hg0 : ¬ 9223372036854775807 < 1 + sx.length := by omega
  have hg1 : ¬ 9223372036854775807 < 1 + sx.length + 1 := by omega
  have hg2 : ¬ 9223372036854775807 < 1 + sx.length + 1 + sy.length := by omega
  have hg3 : ¬ 9223372036854775807 < 1 + sx.length + 1 + sy.length + 1 := by omega
  have hg4 : ¬ 9223372036854775807 < 1 + sx.length + 1 + sy.length + 1 + sz.length := by omega
  have hg5 : ¬ 9223372036854775807 < 1 + sx.length + 1 + sy.length + 1 + sz.length + 1 := by omega
  have qw0 : IntKind.i64.wrap 0 = 0 := by decide
  have qw1 : IntKind.i64.wrap 1 = 1 := by decide
  have qw2 : IntKind.i64.wrap 2 = 2 := by decide
  have qw3 : IntKind.i64.wrap 3 = 3 := by decide
  have qw4 : IntKind.i64.wrap 4 = 4 := by decide
  have qw5 : IntKind.i64.wrap 5 = 5 := by decide
  have qw6 : IntKind.i64.wrap 6 = 6 := by decide
  have qw7 : IntKind.i64.wrap 7 = 7 := by decide
  clear hB0 hrow hat hl ih ex0 ex1 ex2 hEx htx ey0 ey1 ey2 hEy hty ez0 ez1 ez2 hEz htz
  go_enter Tryd.func37, Tryd.ntmps37
  go_wp2_with fail
  obtain ⟨W, hW⟩ : ∃ W, w.alloc (.cells #[.int .i64 11, .int .i64 0, .slice (some ⟨b, o, none⟩) 3 cap] 29) = W := ⟨_, rfl⟩
  rw [hW] at HB0 HE HDW HS p0 p1 p2 qx0 qx1 qx2 qy0 qy1 qy2 qz0 qz1 qz2 ⊢
  clear hW
  have HBD : Hid (Below W.heap.size W W.drew) := (Below.refl _ _).drew
  go_region_held3 (fun v' => v'.cell? ⟨w.heap.size, 0, none⟩ = some (.int .i64 11) ∧ v'.cell? ⟨w.heap.size, 1, none⟩ = some (.int .i64 0) ∧ v'.cell? ⟨w.heap.size, 2, none⟩ = some (.slice (some ⟨b, o, none⟩) 3 cap) ∧ v'.cell? ⟨b, o, none⟩ = some (.int .i64 x.kind) ∧ v'.cell? ⟨b, o + 1, none⟩ = some (.int .i64 x.value) ∧ v'.cell? ⟨b, o + 2, none⟩ = some (.slice ax x.kids.length cx) ∧ v'.cell? ⟨b, o + 3, none⟩ = some (.int .i64 y.kind) ∧ v'.cell? ⟨b, o + 3 + 1, none⟩ = some (.int .i64 y.value) ∧ v'.cell? ⟨b, o + 3 + 2, none⟩ = some (.slice ay y.kids.length cy) ∧ v'.cell? ⟨b, o + 6, none⟩ = some (.int .i64 z.kind) ∧ v'.cell? ⟨b, o + 6 + 1, none⟩ = some (.int .i64 z.value) ∧ v'.cell? ⟨b, o + 6 + 2, none⟩ = some (.slice az z.kids.length cz)) (first | assumption | exact ⟨p0, p1, p2, qx0, qx1, qx2, qy0, qy1, qy2, qz0, qz1, qz2⟩)
    (first
    | (go_at_call 37; (with_reducible refine (IH.out n x _ _ _ D W.drew (HE.out _ HBD.out).1 (HDW.out _ HBD.out) hx).mono ?_); rintro f u0 ⟨rfl, hA0⟩; have hC0 := (HBD.out).trans (hA0.mono (HBD.out).size); have hS0 := HS.out _ hC0; rw [HTx.out])
    | (go_at_call 37; (with_reducible refine (IH.out n y _ _ _ D u0 (HE.out _ hC0).2.1 (HDW.out _ hC0) hy).mono ?_); rintro f u1 ⟨rfl, hA1⟩; have hC1 := (hC0).trans (hA1.mono (hC0).size); have hS1 := HS.out _ hC1; rw [HTy.out])
    | (go_at_call 37; (with_reducible refine (IH.out n z _ _ _ D u1 (HE.out _ hC1).2.2 (HDW.out _ hC1) hz).mono ?_); rintro f u2 ⟨rfl, hA2⟩; have hC2 := (hC1).trans (hA2.mono (hC1).size); have hS2 := HS.out _ hC2; rw [HTz.out])
    | fail)
  all_goals
    have HBZ := Lib.hid (HB0.out.trans (hC2.mono HB0.out.size))
    go_wp2_with fail
    go_ret
    exact ⟨congrArg (fun s => Ending.returned (Value.string s)) (by apply ByteArray.ext; simp), HBZ.out⟩

set_option maxRecDepth 100000 in
set_option maxHeartbeats 4000000 in
theorem l2Expr_bin4 (nv na d : Nat) (hd : d ≤ 4) (ih : SayX nv na d) (n : Nat) (x y : E) (a : Option Addr) (cap : Nat) (D : Nat → Prop) (w : World) (hat : EsAt w D (IsE w D n) [x, y] a) (hl : ∀ k, D k → k < w.heap.size) (sx sy : List UInt8)
    (hx : shapeB nv na d x = true) (htx : txE d x = sx) (hy : shapeB nv na d y = true) (hty : txE d y = sy) :
    Calls Tryd.prog 37 #[.agg #[.int .i64 4, .int .i64 0, .slice a 2 cap]] w (Txt (40 :: (sx ++ 43 :: (sy ++ [41]))) w) := by
  have hp : 4 ^ d ≤ 256 := Nat.le_trans (Nat.pow_le_pow_right (by omega) hd) (by decide)
  have hlex : sx.length ≤ 6144 := by have := txE_len nv na d x hx; rw [htx] at this; omega
  have hley : sy.length ≤ 6144 := by have := txE_len nv na d y hy; rw [hty] at this; omega
  obtain ⟨b, o, ax, cx, rfl, hDb, ex0, ex1, ex2, hEx⟩ := kid_at hat 0 x rfl
  obtain ⟨b', o', ay, cy, hab, _, ey0, ey1, ey2, hEy⟩ := kid_at hat 1 y rfl
  cases hab
  simp only [Nat.zero_mul, Nat.add_zero, Nat.one_mul] at ex0 ex1 ex2 ey0 ey1 ey2
  have hbl := hl b hDb
  have hB0 : Below w.heap.size w (w.alloc (.cells #[.int .i64 4, .int .i64 0, .slice (some ⟨b, o, none⟩) 2 cap] 29)) := (Below.refl _ w).alloc (Nat.le_refl _) _
  have HB0 := Lib.hid hB0
  have IH := Lib.hid ih
  have HTx := Lib.hid htx
  have HTy := Lib.hid hty
  have HE : Hid (∀ v', Below (w.alloc (.cells #[.int .i64 4, .int .i64 0, .slice (some ⟨b, o, none⟩) 2 cap] 29)).heap.size (w.alloc (.cells #[.int .i64 4, .int .i64 0, .slice (some ⟨b, o, none⟩) 2 cap] 29)) v' → IsE v' D n x [.int .i64 x.kind, .int .i64 x.value, .slice ax x.kids.length cx] ∧ IsE v' D n y [.int .i64 y.kind, .int .i64 y.value, .slice ay y.kids.length cy]) := fun v' hv' =>
    have hst := Stand.of_below (hB0.trans (hv'.mono hB0.size)) hl
    ⟨hEx.later hst, hEy.later hst⟩
  have HDW : Hid (∀ v', Below (w.alloc (.cells #[.int .i64 4, .int .i64 0, .slice (some ⟨b, o, none⟩) 2 cap] 29)).heap.size (w.alloc (.cells #[.int .i64 4, .int .i64 0, .slice (some ⟨b, o, none⟩) 2 cap] 29)) v' → ∀ k, D k → k < v'.heap.size) := fun v' hv' k hk => Nat.lt_of_lt_of_le (hl k hk) (Nat.le_trans hB0.size hv'.size)
  have hrow := heap_alloc_new w (.cells #[.int .i64 4, .int .i64 0, .slice (some ⟨b, o, none⟩) 2 cap] 29)
  have HS : Hid (∀ v', Below (w.alloc (.cells #[.int .i64 4, .int .i64 0, .slice (some ⟨b, o, none⟩) 2 cap] 29)).heap.size (w.alloc (.cells #[.int .i64 4, .int .i64 0, .slice (some ⟨b, o, none⟩) 2 cap] 29)) v' → v'.cell? ⟨w.heap.size, 0, none⟩ = some (.int .i64 4) ∧ v'.cell? ⟨w.heap.size, 1, none⟩ = some (.int .i64 0) ∧ v'.cell? ⟨w.heap.size, 2, none⟩ = some (.slice (some ⟨b, o, none⟩) 2 cap) ∧ v'.cell? ⟨b, o, none⟩ = some (.int .i64 x.kind) ∧ v'.cell? ⟨b, o + 1, none⟩ = some (.int .i64 x.value) ∧ v'.cell? ⟨b, o + 2, none⟩ = some (.slice ax x.kids.length cx) ∧ v'.cell? ⟨b, o + 3, none⟩ = some (.int .i64 y.kind) ∧ v'.cell? ⟨b, o + 3 + 1, none⟩ = some (.int .i64 y.value) ∧ v'.cell? ⟨b, o + 3 + 2, none⟩ = some (.slice ay y.kids.length cy)) := fun v' hv' => by
    have hlt : w.heap.size < (w.alloc (.cells #[.int .i64 4, .int .i64 0, .slice (some ⟨b, o, none⟩) 2 cap] 29)).heap.size := by simp
    have k0 : ∀ j, v'.cell? ⟨w.heap.size, j, none⟩ = (w.alloc (.cells #[.int .i64 4, .int .i64 0, .slice (some ⟨b, o, none⟩) 2 cap] 29)).cell? ⟨w.heap.size, j, none⟩ := fun j => hv'.cell (p := ⟨w.heap.size, j, none⟩) hlt
    have k1 : ∀ j, v'.cell? ⟨b, j, none⟩ = w.cell? ⟨b, j, none⟩ := fun j => (hB0.trans (hv'.mono hB0.size)).cell (p := ⟨b, j, none⟩) hbl
    refine ⟨by rw [k0, cell_of_row _ _ _ _ _ _ hrow]; rfl, by rw [k0, cell_of_row _ _ _ _ _ _ hrow]; rfl, by rw [k0, cell_of_row _ _ _ _ _ _ hrow]; rfl, by rw [k1]; exact ex0, by rw [k1]; exact ex1, by rw [k1]; exact ex2, by rw [k1]; exact ey0, by rw [k1]; exact ey1, by rw [k1]; exact ey2⟩
  obtain ⟨p0, p1, p2, qx0, qx1, qx2, qy0, qy1, qy2⟩ := HS.out _ (Below.refl _ _)
  have hg0 : ¬ 9223372036854775807 < 1 + sx.length := by omega
  have hg1 : ¬ 9223372036854775807 < 1 + sx.length + 1 := by omega
  have hg2 : ¬ 9223372036854775807 < 1 + sx.length + 1 + sy.length := by omega
  have hg3 : ¬ 9223372036854775807 < 1 + sx.length + 1 + sy.length + 1 := by omega
  have qw0 : IntKind.i64.wrap 0 = 0 := by decide
  have qw1 : IntKind.i64.wrap 1 = 1 := by decide
  have qw2 : IntKind.i64.wrap 2 = 2 := by decide
  have qw3 : IntKind.i64.wrap 3 = 3 := by decide
  have qw4 : IntKind.i64.wrap 4 = 4 := by decide
  have qw5 : IntKind.i64.wrap 5 = 5 := by decide
  have qw6 : IntKind.i64.wrap 6 = 6 := by decide
  have qw7 : IntKind.i64.wrap 7 = 7 := by decide
  clear hB0 hrow hat hl ih ex0 ex1 ex2 hEx htx ey0 ey1 ey2 hEy hty
  go_enter Tryd.func37, Tryd.ntmps37
  go_wp2_with fail
  obtain ⟨W, hW⟩ : ∃ W, w.alloc (.cells #[.int .i64 4, .int .i64 0, .slice (some ⟨b, o, none⟩) 2 cap] 29) = W := ⟨_, rfl⟩
  rw [hW] at HB0 HE HDW HS p0 p1 p2 qx0 qx1 qx2 qy0 qy1 qy2 ⊢
  clear hW
  have HBD : Hid (Below W.heap.size W W.drew) := (Below.refl _ _).drew
  go_region_held3 (fun v' => v'.cell? ⟨w.heap.size, 0, none⟩ = some (.int .i64 4) ∧ v'.cell? ⟨w.heap.size, 1, none⟩ = some (.int .i64 0) ∧ v'.cell? ⟨w.heap.size, 2, none⟩ = some (.slice (some ⟨b, o, none⟩) 2 cap) ∧ v'.cell? ⟨b, o, none⟩ = some (.int .i64 x.kind) ∧ v'.cell? ⟨b, o + 1, none⟩ = some (.int .i64 x.value) ∧ v'.cell? ⟨b, o + 2, none⟩ = some (.slice ax x.kids.length cx) ∧ v'.cell? ⟨b, o + 3, none⟩ = some (.int .i64 y.kind) ∧ v'.cell? ⟨b, o + 3 + 1, none⟩ = some (.int .i64 y.value) ∧ v'.cell? ⟨b, o + 3 + 2, none⟩ = some (.slice ay y.kids.length cy)) (first | assumption | exact ⟨p0, p1, p2, qx0, qx1, qx2, qy0, qy1, qy2⟩)
    (first
    | (go_at_call 37; (with_reducible refine (IH.out n x _ _ _ D W.drew (HE.out _ HBD.out).1 (HDW.out _ HBD.out) hx).mono ?_); rintro f u0 ⟨rfl, hA0⟩; have hC0 := (HBD.out).trans (hA0.mono (HBD.out).size); have hS0 := HS.out _ hC0; rw [HTx.out])
    | (go_at_call 37; (with_reducible refine (IH.out n y _ _ _ D u0 (HE.out _ hC0).2 (HDW.out _ hC0) hy).mono ?_); rintro f u1 ⟨rfl, hA1⟩; have hC1 := (hC0).trans (hA1.mono (hC0).size); have hS1 := HS.out _ hC1; rw [HTy.out])
    | fail)
  all_goals
    have HBZ := Lib.hid (HB0.out.trans (hC1.mono HB0.out.size))
    go_wp2_with fail
    go_ret
    exact ⟨congrArg (fun s => Ending.returned (Value.string s)) (by rw [cut_ops.1]; apply ByteArray.ext; simp), HBZ.out⟩

set_option maxRecDepth 100000 in
set_option maxHeartbeats 4000000 in
theorem l2Expr_bin5 (nv na d : Nat) (hd : d ≤ 4) (ih : SayX nv na d) (n : Nat) (x y : E) (a : Option Addr) (cap : Nat) (D : Nat → Prop) (w : World) (hat : EsAt w D (IsE w D n) [x, y] a) (hl : ∀ k, D k → k < w.heap.size) (sx sy : List UInt8)
    (hx : shapeB nv na d x = true) (htx : txE d x = sx) (hy : shapeB nv na d y = true) (hty : txE d y = sy) :
    Calls Tryd.prog 37 #[.agg #[.int .i64 5, .int .i64 0, .slice a 2 cap]] w (Txt (40 :: (sx ++ 45 :: (sy ++ [41]))) w) := by
  have hp : 4 ^ d ≤ 256 := Nat.le_trans (Nat.pow_le_pow_right (by omega) hd) (by decide)
  have hlex : sx.length ≤ 6144 := by have := txE_len nv na d x hx; rw [htx] at this; omega
  have hley : sy.length ≤ 6144 := by have := txE_len nv na d y hy; rw [hty] at this; omega
  obtain ⟨b, o, ax, cx, rfl, hDb, ex0, ex1, ex2, hEx⟩ := kid_at hat 0 x rfl
  obtain ⟨b', o', ay, cy, hab, _, ey0, ey1, ey2, hEy⟩ := kid_at hat 1 y rfl
  cases hab
  simp only [Nat.zero_mul, Nat.add_zero, Nat.one_mul] at ex0 ex1 ex2 ey0 ey1 ey2
  have hbl := hl b hDb
  have hB0 : Below w.heap.size w (w.alloc (.cells #[.int .i64 5, .int .i64 0, .slice (some ⟨b, o, none⟩) 2 cap] 29)) := (Below.refl _ w).alloc (Nat.le_refl _) _
  have HB0 := Lib.hid hB0
  have IH := Lib.hid ih
  have HTx := Lib.hid htx
  have HTy := Lib.hid hty
  have HE : Hid (∀ v', Below (w.alloc (.cells #[.int .i64 5, .int .i64 0, .slice (some ⟨b, o, none⟩) 2 cap] 29)).heap.size (w.alloc (.cells #[.int .i64 5, .int .i64 0, .slice (some ⟨b, o, none⟩) 2 cap] 29)) v' → IsE v' D n x [.int .i64 x.kind, .int .i64 x.value, .slice ax x.kids.length cx] ∧ IsE v' D n y [.int .i64 y.kind, .int .i64 y.value, .slice ay y.kids.length cy]) := fun v' hv' =>
    have hst := Stand.of_below (hB0.trans (hv'.mono hB0.size)) hl
    ⟨hEx.later hst, hEy.later hst⟩
  have HDW : Hid (∀ v', Below (w.alloc (.cells #[.int .i64 5, .int .i64 0, .slice (some ⟨b, o, none⟩) 2 cap] 29)).heap.size (w.alloc (.cells #[.int .i64 5, .int .i64 0, .slice (some ⟨b, o, none⟩) 2 cap] 29)) v' → ∀ k, D k → k < v'.heap.size) := fun v' hv' k hk => Nat.lt_of_lt_of_le (hl k hk) (Nat.le_trans hB0.size hv'.size)
  have hrow := heap_alloc_new w (.cells #[.int .i64 5, .int .i64 0, .slice (some ⟨b, o, none⟩) 2 cap] 29)
  have HS : Hid (∀ v', Below (w.alloc (.cells #[.int .i64 5, .int .i64 0, .slice (some ⟨b, o, none⟩) 2 cap] 29)).heap.size (w.alloc (.cells #[.int .i64 5, .int .i64 0, .slice (some ⟨b, o, none⟩) 2 cap] 29)) v' → v'.cell? ⟨w.heap.size, 0, none⟩ = some (.int .i64 5) ∧ v'.cell? ⟨w.heap.size, 1, none⟩ = some (.int .i64 0) ∧ v'.cell? ⟨w.heap.size, 2, none⟩ = some (.slice (some ⟨b, o, none⟩) 2 cap) ∧ v'.cell? ⟨b, o, none⟩ = some (.int .i64 x.kind) ∧ v'.cell? ⟨b, o + 1, none⟩ = some (.int .i64 x.value) ∧ v'.cell? ⟨b, o + 2, none⟩ = some (.slice ax x.kids.length cx) ∧ v'.cell? ⟨b, o + 3, none⟩ = some (.int .i64 y.kind) ∧ v'.cell? ⟨b, o + 3 + 1, none⟩ = some (.int .i64 y.value) ∧ v'.cell? ⟨b, o + 3 + 2, none⟩ = some (.slice ay y.kids.length cy)) := fun v' hv' => by
    have hlt : w.heap.size < (w.alloc (.cells #[.int .i64 5, .int .i64 0, .slice (some ⟨b, o, none⟩) 2 cap] 29)).heap.size := by simp
    have k0 : ∀ j, v'.cell? ⟨w.heap.size, j, none⟩ = (w.alloc (.cells #[.int .i64 5, .int .i64 0, .slice (some ⟨b, o, none⟩) 2 cap] 29)).cell? ⟨w.heap.size, j, none⟩ := fun j => hv'.cell (p := ⟨w.heap.size, j, none⟩) hlt
    have k1 : ∀ j, v'.cell? ⟨b, j, none⟩ = w.cell? ⟨b, j, none⟩ := fun j => (hB0.trans (hv'.mono hB0.size)).cell (p := ⟨b, j, none⟩) hbl
    refine ⟨by rw [k0, cell_of_row _ _ _ _ _ _ hrow]; rfl, by rw [k0, cell_of_row _ _ _ _ _ _ hrow]; rfl, by rw [k0, cell_of_row _ _ _ _ _ _ hrow]; rfl, by rw [k1]; exact ex0, by rw [k1]; exact ex1, by rw [k1]; exact ex2, by rw [k1]; exact ey0, by rw [k1]; exact ey1, by rw [k1]; exact ey2⟩
  obtain ⟨p0, p1, p2, qx0, qx1, qx2, qy0, qy1, qy2⟩ := HS.out _ (Below.refl _ _)
  have hg0 : ¬ 9223372036854775807 < 1 + sx.length := by omega
  have hg1 : ¬ 9223372036854775807 < 1 + sx.length + 1 := by omega
  have hg2 : ¬ 9223372036854775807 < 1 + sx.length + 1 + sy.length := by omega
  have hg3 : ¬ 9223372036854775807 < 1 + sx.length + 1 + sy.length + 1 := by omega
  have qw0 : IntKind.i64.wrap 0 = 0 := by decide
  have qw1 : IntKind.i64.wrap 1 = 1 := by decide
  have qw2 : IntKind.i64.wrap 2 = 2 := by decide
  have qw3 : IntKind.i64.wrap 3 = 3 := by decide
  have qw4 : IntKind.i64.wrap 4 = 4 := by decide
  have qw5 : IntKind.i64.wrap 5 = 5 := by decide
  have qw6 : IntKind.i64.wrap 6 = 6 := by decide
  have qw7 : IntKind.i64.wrap 7 = 7 := by decide
  clear hB0 hrow hat hl ih ex0 ex1 ex2 hEx htx ey0 ey1 ey2 hEy hty
  go_enter Tryd.func37, Tryd.ntmps37
  go_wp2_with fail
  obtain ⟨W, hW⟩ : ∃ W, w.alloc (.cells #[.int .i64 5, .int .i64 0, .slice (some ⟨b, o, none⟩) 2 cap] 29) = W := ⟨_, rfl⟩
  rw [hW] at HB0 HE HDW HS p0 p1 p2 qx0 qx1 qx2 qy0 qy1 qy2 ⊢
  clear hW
  have HBD : Hid (Below W.heap.size W W.drew) := (Below.refl _ _).drew
  go_region_held3 (fun v' => v'.cell? ⟨w.heap.size, 0, none⟩ = some (.int .i64 5) ∧ v'.cell? ⟨w.heap.size, 1, none⟩ = some (.int .i64 0) ∧ v'.cell? ⟨w.heap.size, 2, none⟩ = some (.slice (some ⟨b, o, none⟩) 2 cap) ∧ v'.cell? ⟨b, o, none⟩ = some (.int .i64 x.kind) ∧ v'.cell? ⟨b, o + 1, none⟩ = some (.int .i64 x.value) ∧ v'.cell? ⟨b, o + 2, none⟩ = some (.slice ax x.kids.length cx) ∧ v'.cell? ⟨b, o + 3, none⟩ = some (.int .i64 y.kind) ∧ v'.cell? ⟨b, o + 3 + 1, none⟩ = some (.int .i64 y.value) ∧ v'.cell? ⟨b, o + 3 + 2, none⟩ = some (.slice ay y.kids.length cy)) (first | assumption | exact ⟨p0, p1, p2, qx0, qx1, qx2, qy0, qy1, qy2⟩)
    (first
    | (go_at_call 37; (with_reducible refine (IH.out n x _ _ _ D W.drew (HE.out _ HBD.out).1 (HDW.out _ HBD.out) hx).mono ?_); rintro f u0 ⟨rfl, hA0⟩; have hC0 := (HBD.out).trans (hA0.mono (HBD.out).size); have hS0 := HS.out _ hC0; rw [HTx.out])
    | (go_at_call 37; (with_reducible refine (IH.out n y _ _ _ D u0 (HE.out _ hC0).2 (HDW.out _ hC0) hy).mono ?_); rintro f u1 ⟨rfl, hA1⟩; have hC1 := (hC0).trans (hA1.mono (hC0).size); have hS1 := HS.out _ hC1; rw [HTy.out])
    | fail)
  all_goals
    have HBZ := Lib.hid (HB0.out.trans (hC1.mono HB0.out.size))
    go_wp2_with fail
    go_ret
    exact ⟨congrArg (fun s => Ending.returned (Value.string s)) (by rw [cut_ops.2.1]; apply ByteArray.ext; simp), HBZ.out⟩

set_option maxRecDepth 100000 in
set_option maxHeartbeats 4000000 in
theorem l2Expr_bin6 (nv na d : Nat) (hd : d ≤ 4) (ih : SayX nv na d) (n : Nat) (x y : E) (a : Option Addr) (cap : Nat) (D : Nat → Prop) (w : World) (hat : EsAt w D (IsE w D n) [x, y] a) (hl : ∀ k, D k → k < w.heap.size) (sx sy : List UInt8)
    (hx : shapeB nv na d x = true) (htx : txE d x = sx) (hy : shapeB nv na d y = true) (hty : txE d y = sy) :
    Calls Tryd.prog 37 #[.agg #[.int .i64 6, .int .i64 0, .slice a 2 cap]] w (Txt (40 :: (sx ++ 42 :: (sy ++ [41]))) w) := by
  have hp : 4 ^ d ≤ 256 := Nat.le_trans (Nat.pow_le_pow_right (by omega) hd) (by decide)
  have hlex : sx.length ≤ 6144 := by have := txE_len nv na d x hx; rw [htx] at this; omega
  have hley : sy.length ≤ 6144 := by have := txE_len nv na d y hy; rw [hty] at this; omega
  obtain ⟨b, o, ax, cx, rfl, hDb, ex0, ex1, ex2, hEx⟩ := kid_at hat 0 x rfl
  obtain ⟨b', o', ay, cy, hab, _, ey0, ey1, ey2, hEy⟩ := kid_at hat 1 y rfl
  cases hab
  simp only [Nat.zero_mul, Nat.add_zero, Nat.one_mul] at ex0 ex1 ex2 ey0 ey1 ey2
  have hbl := hl b hDb
  have hB0 : Below w.heap.size w (w.alloc (.cells #[.int .i64 6, .int .i64 0, .slice (some ⟨b, o, none⟩) 2 cap] 29)) := (Below.refl _ w).alloc (Nat.le_refl _) _
  have HB0 := Lib.hid hB0
  have IH := Lib.hid ih
  have HTx := Lib.hid htx
  have HTy := Lib.hid hty
  have HE : Hid (∀ v', Below (w.alloc (.cells #[.int .i64 6, .int .i64 0, .slice (some ⟨b, o, none⟩) 2 cap] 29)).heap.size (w.alloc (.cells #[.int .i64 6, .int .i64 0, .slice (some ⟨b, o, none⟩) 2 cap] 29)) v' → IsE v' D n x [.int .i64 x.kind, .int .i64 x.value, .slice ax x.kids.length cx] ∧ IsE v' D n y [.int .i64 y.kind, .int .i64 y.value, .slice ay y.kids.length cy]) := fun v' hv' =>
    have hst := Stand.of_below (hB0.trans (hv'.mono hB0.size)) hl
    ⟨hEx.later hst, hEy.later hst⟩
  have HDW : Hid (∀ v', Below (w.alloc (.cells #[.int .i64 6, .int .i64 0, .slice (some ⟨b, o, none⟩) 2 cap] 29)).heap.size (w.alloc (.cells #[.int .i64 6, .int .i64 0, .slice (some ⟨b, o, none⟩) 2 cap] 29)) v' → ∀ k, D k → k < v'.heap.size) := fun v' hv' k hk => Nat.lt_of_lt_of_le (hl k hk) (Nat.le_trans hB0.size hv'.size)
  have hrow := heap_alloc_new w (.cells #[.int .i64 6, .int .i64 0, .slice (some ⟨b, o, none⟩) 2 cap] 29)
  have HS : Hid (∀ v', Below (w.alloc (.cells #[.int .i64 6, .int .i64 0, .slice (some ⟨b, o, none⟩) 2 cap] 29)).heap.size (w.alloc (.cells #[.int .i64 6, .int .i64 0, .slice (some ⟨b, o, none⟩) 2 cap] 29)) v' → v'.cell? ⟨w.heap.size, 0, none⟩ = some (.int .i64 6) ∧ v'.cell? ⟨w.heap.size, 1, none⟩ = some (.int .i64 0) ∧ v'.cell? ⟨w.heap.size, 2, none⟩ = some (.slice (some ⟨b, o, none⟩) 2 cap) ∧ v'.cell? ⟨b, o, none⟩ = some (.int .i64 x.kind) ∧ v'.cell? ⟨b, o + 1, none⟩ = some (.int .i64 x.value) ∧ v'.cell? ⟨b, o + 2, none⟩ = some (.slice ax x.kids.length cx) ∧ v'.cell? ⟨b, o + 3, none⟩ = some (.int .i64 y.kind) ∧ v'.cell? ⟨b, o + 3 + 1, none⟩ = some (.int .i64 y.value) ∧ v'.cell? ⟨b, o + 3 + 2, none⟩ = some (.slice ay y.kids.length cy)) := fun v' hv' => by
    have hlt : w.heap.size < (w.alloc (.cells #[.int .i64 6, .int .i64 0, .slice (some ⟨b, o, none⟩) 2 cap] 29)).heap.size := by simp
    have k0 : ∀ j, v'.cell? ⟨w.heap.size, j, none⟩ = (w.alloc (.cells #[.int .i64 6, .int .i64 0, .slice (some ⟨b, o, none⟩) 2 cap] 29)).cell? ⟨w.heap.size, j, none⟩ := fun j => hv'.cell (p := ⟨w.heap.size, j, none⟩) hlt
    have k1 : ∀ j, v'.cell? ⟨b, j, none⟩ = w.cell? ⟨b, j, none⟩ := fun j => (hB0.trans (hv'.mono hB0.size)).cell (p := ⟨b, j, none⟩) hbl
    refine ⟨by rw [k0, cell_of_row _ _ _ _ _ _ hrow]; rfl, by rw [k0, cell_of_row _ _ _ _ _ _ hrow]; rfl, by rw [k0, cell_of_row _ _ _ _ _ _ hrow]; rfl, by rw [k1]; exact ex0, by rw [k1]; exact ex1, by rw [k1]; exact ex2, by rw [k1]; exact ey0, by rw [k1]; exact ey1, by rw [k1]; exact ey2⟩
  obtain ⟨p0, p1, p2, qx0, qx1, qx2, qy0, qy1, qy2⟩ := HS.out _ (Below.refl _ _)
  have hg0 : ¬ 9223372036854775807 < 1 + sx.length := by omega
  have hg1 : ¬ 9223372036854775807 < 1 + sx.length + 1 := by omega
  have hg2 : ¬ 9223372036854775807 < 1 + sx.length + 1 + sy.length := by omega
  have hg3 : ¬ 9223372036854775807 < 1 + sx.length + 1 + sy.length + 1 := by omega
  have qw0 : IntKind.i64.wrap 0 = 0 := by decide
  have qw1 : IntKind.i64.wrap 1 = 1 := by decide
  have qw2 : IntKind.i64.wrap 2 = 2 := by decide
  have qw3 : IntKind.i64.wrap 3 = 3 := by decide
  have qw4 : IntKind.i64.wrap 4 = 4 := by decide
  have qw5 : IntKind.i64.wrap 5 = 5 := by decide
  have qw6 : IntKind.i64.wrap 6 = 6 := by decide
  have qw7 : IntKind.i64.wrap 7 = 7 := by decide
  clear hB0 hrow hat hl ih ex0 ex1 ex2 hEx htx ey0 ey1 ey2 hEy hty
  go_enter Tryd.func37, Tryd.ntmps37
  go_wp2_with fail
  obtain ⟨W, hW⟩ : ∃ W, w.alloc (.cells #[.int .i64 6, .int .i64 0, .slice (some ⟨b, o, none⟩) 2 cap] 29) = W := ⟨_, rfl⟩
  rw [hW] at HB0 HE HDW HS p0 p1 p2 qx0 qx1 qx2 qy0 qy1 qy2 ⊢
  clear hW
  have HBD : Hid (Below W.heap.size W W.drew) := (Below.refl _ _).drew
  go_region_held3 (fun v' => v'.cell? ⟨w.heap.size, 0, none⟩ = some (.int .i64 6) ∧ v'.cell? ⟨w.heap.size, 1, none⟩ = some (.int .i64 0) ∧ v'.cell? ⟨w.heap.size, 2, none⟩ = some (.slice (some ⟨b, o, none⟩) 2 cap) ∧ v'.cell? ⟨b, o, none⟩ = some (.int .i64 x.kind) ∧ v'.cell? ⟨b, o + 1, none⟩ = some (.int .i64 x.value) ∧ v'.cell? ⟨b, o + 2, none⟩ = some (.slice ax x.kids.length cx) ∧ v'.cell? ⟨b, o + 3, none⟩ = some (.int .i64 y.kind) ∧ v'.cell? ⟨b, o + 3 + 1, none⟩ = some (.int .i64 y.value) ∧ v'.cell? ⟨b, o + 3 + 2, none⟩ = some (.slice ay y.kids.length cy)) (first | assumption | exact ⟨p0, p1, p2, qx0, qx1, qx2, qy0, qy1, qy2⟩)
    (first
    | (go_at_call 37; (with_reducible refine (IH.out n x _ _ _ D W.drew (HE.out _ HBD.out).1 (HDW.out _ HBD.out) hx).mono ?_); rintro f u0 ⟨rfl, hA0⟩; have hC0 := (HBD.out).trans (hA0.mono (HBD.out).size); have hS0 := HS.out _ hC0; rw [HTx.out])
    | (go_at_call 37; (with_reducible refine (IH.out n y _ _ _ D u0 (HE.out _ hC0).2 (HDW.out _ hC0) hy).mono ?_); rintro f u1 ⟨rfl, hA1⟩; have hC1 := (hC0).trans (hA1.mono (hC0).size); have hS1 := HS.out _ hC1; rw [HTy.out])
    | fail)
  all_goals
    have HBZ := Lib.hid (HB0.out.trans (hC1.mono HB0.out.size))
    go_wp2_with fail
    go_ret
    exact ⟨congrArg (fun s => Ending.returned (Value.string s)) (by rw [cut_ops.2.2.1]; apply ByteArray.ext; simp), HBZ.out⟩

set_option maxRecDepth 100000 in
set_option maxHeartbeats 4000000 in
theorem l2Expr_bin7 (nv na d : Nat) (hd : d ≤ 4) (ih : SayX nv na d) (n : Nat) (x y : E) (a : Option Addr) (cap : Nat) (D : Nat → Prop) (w : World) (hat : EsAt w D (IsE w D n) [x, y] a) (hl : ∀ k, D k → k < w.heap.size) (sx sy : List UInt8)
    (hx : shapeB nv na d x = true) (htx : txE d x = sx) (hy : shapeB nv na d y = true) (hty : txE d y = sy) :
    Calls Tryd.prog 37 #[.agg #[.int .i64 7, .int .i64 0, .slice a 2 cap]] w (Txt (40 :: (sx ++ 38 :: (sy ++ [41]))) w) := by
  have hp : 4 ^ d ≤ 256 := Nat.le_trans (Nat.pow_le_pow_right (by omega) hd) (by decide)
  have hlex : sx.length ≤ 6144 := by have := txE_len nv na d x hx; rw [htx] at this; omega
  have hley : sy.length ≤ 6144 := by have := txE_len nv na d y hy; rw [hty] at this; omega
  obtain ⟨b, o, ax, cx, rfl, hDb, ex0, ex1, ex2, hEx⟩ := kid_at hat 0 x rfl
  obtain ⟨b', o', ay, cy, hab, _, ey0, ey1, ey2, hEy⟩ := kid_at hat 1 y rfl
  cases hab
  simp only [Nat.zero_mul, Nat.add_zero, Nat.one_mul] at ex0 ex1 ex2 ey0 ey1 ey2
  have hbl := hl b hDb
  have hB0 : Below w.heap.size w (w.alloc (.cells #[.int .i64 7, .int .i64 0, .slice (some ⟨b, o, none⟩) 2 cap] 29)) := (Below.refl _ w).alloc (Nat.le_refl _) _
  have HB0 := Lib.hid hB0
  have IH := Lib.hid ih
  have HTx := Lib.hid htx
  have HTy := Lib.hid hty
  have HE : Hid (∀ v', Below (w.alloc (.cells #[.int .i64 7, .int .i64 0, .slice (some ⟨b, o, none⟩) 2 cap] 29)).heap.size (w.alloc (.cells #[.int .i64 7, .int .i64 0, .slice (some ⟨b, o, none⟩) 2 cap] 29)) v' → IsE v' D n x [.int .i64 x.kind, .int .i64 x.value, .slice ax x.kids.length cx] ∧ IsE v' D n y [.int .i64 y.kind, .int .i64 y.value, .slice ay y.kids.length cy]) := fun v' hv' =>
    have hst := Stand.of_below (hB0.trans (hv'.mono hB0.size)) hl
    ⟨hEx.later hst, hEy.later hst⟩
  have HDW : Hid (∀ v', Below (w.alloc (.cells #[.int .i64 7, .int .i64 0, .slice (some ⟨b, o, none⟩) 2 cap] 29)).heap.size (w.alloc (.cells #[.int .i64 7, .int .i64 0, .slice (some ⟨b, o, none⟩) 2 cap] 29)) v' → ∀ k, D k → k < v'.heap.size) := fun v' hv' k hk => Nat.lt_of_lt_of_le (hl k hk) (Nat.le_trans hB0.size hv'.size)
  have hrow := heap_alloc_new w (.cells #[.int .i64 7, .int .i64 0, .slice (some ⟨b, o, none⟩) 2 cap] 29)
  have HS : Hid (∀ v', Below (w.alloc (.cells #[.int .i64 7, .int .i64 0, .slice (some ⟨b, o, none⟩) 2 cap] 29)).heap.size (w.alloc (.cells #[.int .i64 7, .int .i64 0, .slice (some ⟨b, o, none⟩) 2 cap] 29)) v' → v'.cell? ⟨w.heap.size, 0, none⟩ = some (.int .i64 7) ∧ v'.cell? ⟨w.heap.size, 1, none⟩ = some (.int .i64 0) ∧ v'.cell? ⟨w.heap.size, 2, none⟩ = some (.slice (some ⟨b, o, none⟩) 2 cap) ∧ v'.cell? ⟨b, o, none⟩ = some (.int .i64 x.kind) ∧ v'.cell? ⟨b, o + 1, none⟩ = some (.int .i64 x.value) ∧ v'.cell? ⟨b, o + 2, none⟩ = some (.slice ax x.kids.length cx) ∧ v'.cell? ⟨b, o + 3, none⟩ = some (.int .i64 y.kind) ∧ v'.cell? ⟨b, o + 3 + 1, none⟩ = some (.int .i64 y.value) ∧ v'.cell? ⟨b, o + 3 + 2, none⟩ = some (.slice ay y.kids.length cy)) := fun v' hv' => by
    have hlt : w.heap.size < (w.alloc (.cells #[.int .i64 7, .int .i64 0, .slice (some ⟨b, o, none⟩) 2 cap] 29)).heap.size := by simp
    have k0 : ∀ j, v'.cell? ⟨w.heap.size, j, none⟩ = (w.alloc (.cells #[.int .i64 7, .int .i64 0, .slice (some ⟨b, o, none⟩) 2 cap] 29)).cell? ⟨w.heap.size, j, none⟩ := fun j => hv'.cell (p := ⟨w.heap.size, j, none⟩) hlt
    have k1 : ∀ j, v'.cell? ⟨b, j, none⟩ = w.cell? ⟨b, j, none⟩ := fun j => (hB0.trans (hv'.mono hB0.size)).cell (p := ⟨b, j, none⟩) hbl
    refine ⟨by rw [k0, cell_of_row _ _ _ _ _ _ hrow]; rfl, by rw [k0, cell_of_row _ _ _ _ _ _ hrow]; rfl, by rw [k0, cell_of_row _ _ _ _ _ _ hrow]; rfl, by rw [k1]; exact ex0, by rw [k1]; exact ex1, by rw [k1]; exact ex2, by rw [k1]; exact ey0, by rw [k1]; exact ey1, by rw [k1]; exact ey2⟩
  obtain ⟨p0, p1, p2, qx0, qx1, qx2, qy0, qy1, qy2⟩ := HS.out _ (Below.refl _ _)
  have hg0 : ¬ 9223372036854775807 < 1 + sx.length := by omega
  have hg1 : ¬ 9223372036854775807 < 1 + sx.length + 1 := by omega
  have hg2 : ¬ 9223372036854775807 < 1 + sx.length + 1 + sy.length := by omega
  have hg3 : ¬ 9223372036854775807 < 1 + sx.length + 1 + sy.length + 1 := by omega
  have qw0 : IntKind.i64.wrap 0 = 0 := by decide
  have qw1 : IntKind.i64.wrap 1 = 1 := by decide
  have qw2 : IntKind.i64.wrap 2 = 2 := by decide
  have qw3 : IntKind.i64.wrap 3 = 3 := by decide
  have qw4 : IntKind.i64.wrap 4 = 4 := by decide
  have qw5 : IntKind.i64.wrap 5 = 5 := by decide
  have qw6 : IntKind.i64.wrap 6 = 6 := by decide
  have qw7 : IntKind.i64.wrap 7 = 7 := by decide
  clear hB0 hrow hat hl ih ex0 ex1 ex2 hEx htx ey0 ey1 ey2 hEy hty
  go_enter Tryd.func37, Tryd.ntmps37
  go_wp2_with fail
  obtain ⟨W, hW⟩ : ∃ W, w.alloc (.cells #[.int .i64 7, .int .i64 0, .slice (some ⟨b, o, none⟩) 2 cap] 29) = W := ⟨_, rfl⟩
  rw [hW] at HB0 HE HDW HS p0 p1 p2 qx0 qx1 qx2 qy0 qy1 qy2 ⊢
  clear hW
  have HBD : Hid (Below W.heap.size W W.drew) := (Below.refl _ _).drew
  go_region_held3 (fun v' => v'.cell? ⟨w.heap.size, 0, none⟩ = some (.int .i64 7) ∧ v'.cell? ⟨w.heap.size, 1, none⟩ = some (.int .i64 0) ∧ v'.cell? ⟨w.heap.size, 2, none⟩ = some (.slice (some ⟨b, o, none⟩) 2 cap) ∧ v'.cell? ⟨b, o, none⟩ = some (.int .i64 x.kind) ∧ v'.cell? ⟨b, o + 1, none⟩ = some (.int .i64 x.value) ∧ v'.cell? ⟨b, o + 2, none⟩ = some (.slice ax x.kids.length cx) ∧ v'.cell? ⟨b, o + 3, none⟩ = some (.int .i64 y.kind) ∧ v'.cell? ⟨b, o + 3 + 1, none⟩ = some (.int .i64 y.value) ∧ v'.cell? ⟨b, o + 3 + 2, none⟩ = some (.slice ay y.kids.length cy)) (first | assumption | exact ⟨p0, p1, p2, qx0, qx1, qx2, qy0, qy1, qy2⟩)
    (first
    | (go_at_call 37; (with_reducible refine (IH.out n x _ _ _ D W.drew (HE.out _ HBD.out).1 (HDW.out _ HBD.out) hx).mono ?_); rintro f u0 ⟨rfl, hA0⟩; have hC0 := (HBD.out).trans (hA0.mono (HBD.out).size); have hS0 := HS.out _ hC0; rw [HTx.out])
    | (go_at_call 37; (with_reducible refine (IH.out n y _ _ _ D u0 (HE.out _ hC0).2 (HDW.out _ hC0) hy).mono ?_); rintro f u1 ⟨rfl, hA1⟩; have hC1 := (hC0).trans (hA1.mono (hC0).size); have hS1 := HS.out _ hC1; rw [HTy.out])
    | fail)
  all_goals
    have HBZ := Lib.hid (HB0.out.trans (hC1.mono HB0.out.size))
    go_wp2_with fail
    go_ret
    exact ⟨congrArg (fun s => Ending.returned (Value.string s)) (by rw [cut_ops.2.2.2.1]; apply ByteArray.ext; simp), HBZ.out⟩

set_option maxRecDepth 100000 in
set_option maxHeartbeats 4000000 in
theorem l2Expr_bin8 (nv na d : Nat) (hd : d ≤ 4) (ih : SayX nv na d) (n : Nat) (x y : E) (a : Option Addr) (cap : Nat) (D : Nat → Prop) (w : World) (hat : EsAt w D (IsE w D n) [x, y] a) (hl : ∀ k, D k → k < w.heap.size) (sx sy : List UInt8)
    (hx : shapeB nv na d x = true) (htx : txE d x = sx) (hy : shapeB nv na d y = true) (hty : txE d y = sy) :
    Calls Tryd.prog 37 #[.agg #[.int .i64 8, .int .i64 0, .slice a 2 cap]] w (Txt (40 :: (sx ++ 94 :: (sy ++ [41]))) w) := by
  have hp : 4 ^ d ≤ 256 := Nat.le_trans (Nat.pow_le_pow_right (by omega) hd) (by decide)
  have hlex : sx.length ≤ 6144 := by have := txE_len nv na d x hx; rw [htx] at this; omega
  have hley : sy.length ≤ 6144 := by have := txE_len nv na d y hy; rw [hty] at this; omega
  obtain ⟨b, o, ax, cx, rfl, hDb, ex0, ex1, ex2, hEx⟩ := kid_at hat 0 x rfl
  obtain ⟨b', o', ay, cy, hab, _, ey0, ey1, ey2, hEy⟩ := kid_at hat 1 y rfl
  cases hab
  simp only [Nat.zero_mul, Nat.add_zero, Nat.one_mul] at ex0 ex1 ex2 ey0 ey1 ey2
  have hbl := hl b hDb
  have hB0 : Below w.heap.size w (w.alloc (.cells #[.int .i64 8, .int .i64 0, .slice (some ⟨b, o, none⟩) 2 cap] 29)) := (Below.refl _ w).alloc (Nat.le_refl _) _
  have HB0 := Lib.hid hB0
  have IH := Lib.hid ih
  have HTx := Lib.hid htx
  have HTy := Lib.hid hty
  have HE : Hid (∀ v', Below (w.alloc (.cells #[.int .i64 8, .int .i64 0, .slice (some ⟨b, o, none⟩) 2 cap] 29)).heap.size (w.alloc (.cells #[.int .i64 8, .int .i64 0, .slice (some ⟨b, o, none⟩) 2 cap] 29)) v' → IsE v' D n x [.int .i64 x.kind, .int .i64 x.value, .slice ax x.kids.length cx] ∧ IsE v' D n y [.int .i64 y.kind, .int .i64 y.value, .slice ay y.kids.length cy]) := fun v' hv' =>
    have hst := Stand.of_below (hB0.trans (hv'.mono hB0.size)) hl
    ⟨hEx.later hst, hEy.later hst⟩
  have HDW : Hid (∀ v', Below (w.alloc (.cells #[.int .i64 8, .int .i64 0, .slice (some ⟨b, o, none⟩) 2 cap] 29)).heap.size (w.alloc (.cells #[.int .i64 8, .int .i64 0, .slice (some ⟨b, o, none⟩) 2 cap] 29)) v' → ∀ k, D k → k < v'.heap.size) := fun v' hv' k hk => Nat.lt_of_lt_of_le (hl k hk) (Nat.le_trans hB0.size hv'.size)
  have hrow := heap_alloc_new w (.cells #[.int .i64 8, .int .i64 0, .slice (some ⟨b, o, none⟩) 2 cap] 29)
  have HS : Hid (∀ v', Below (w.alloc (.cells #[.int .i64 8, .int .i64 0, .slice (some ⟨b, o, none⟩) 2 cap] 29)).heap.size (w.alloc (.cells #[.int .i64 8, .int .i64 0, .slice (some ⟨b, o, none⟩) 2 cap] 29)) v' → v'.cell? ⟨w.heap.size, 0, none⟩ = some (.int .i64 8) ∧ v'.cell? ⟨w.heap.size, 1, none⟩ = some (.int .i64 0) ∧ v'.cell? ⟨w.heap.size, 2, none⟩ = some (.slice (some ⟨b, o, none⟩) 2 cap) ∧ v'.cell? ⟨b, o, none⟩ = some (.int .i64 x.kind) ∧ v'.cell? ⟨b, o + 1, none⟩ = some (.int .i64 x.value) ∧ v'.cell? ⟨b, o + 2, none⟩ = some (.slice ax x.kids.length cx) ∧ v'.cell? ⟨b, o + 3, none⟩ = some (.int .i64 y.kind) ∧ v'.cell? ⟨b, o + 3 + 1, none⟩ = some (.int .i64 y.value) ∧ v'.cell? ⟨b, o + 3 + 2, none⟩ = some (.slice ay y.kids.length cy)) := fun v' hv' => by
    have hlt : w.heap.size < (w.alloc (.cells #[.int .i64 8, .int .i64 0, .slice (some ⟨b, o, none⟩) 2 cap] 29)).heap.size := by simp
    have k0 : ∀ j, v'.cell? ⟨w.heap.size, j, none⟩ = (w.alloc (.cells #[.int .i64 8, .int .i64 0, .slice (some ⟨b, o, none⟩) 2 cap] 29)).cell? ⟨w.heap.size, j, none⟩ := fun j => hv'.cell (p := ⟨w.heap.size, j, none⟩) hlt
    have k1 : ∀ j, v'.cell? ⟨b, j, none⟩ = w.cell? ⟨b, j, none⟩ := fun j => (hB0.trans (hv'.mono hB0.size)).cell (p := ⟨b, j, none⟩) hbl
    refine ⟨by rw [k0, cell_of_row _ _ _ _ _ _ hrow]; rfl, by rw [k0, cell_of_row _ _ _ _ _ _ hrow]; rfl, by rw [k0, cell_of_row _ _ _ _ _ _ hrow]; rfl, by rw [k1]; exact ex0, by rw [k1]; exact ex1, by rw [k1]; exact ex2, by rw [k1]; exact ey0, by rw [k1]; exact ey1, by rw [k1]; exact ey2⟩
  obtain ⟨p0, p1, p2, qx0, qx1, qx2, qy0, qy1, qy2⟩ := HS.out _ (Below.refl _ _)
  have hg0 : ¬ 9223372036854775807 < 1 + sx.length := by omega
  have hg1 : ¬ 9223372036854775807 < 1 + sx.length + 1 := by omega
  have hg2 : ¬ 9223372036854775807 < 1 + sx.length + 1 + sy.length := by omega
  have hg3 : ¬ 9223372036854775807 < 1 + sx.length + 1 + sy.length + 1 := by omega
  have qw0 : IntKind.i64.wrap 0 = 0 := by decide
  have qw1 : IntKind.i64.wrap 1 = 1 := by decide
  have qw2 : IntKind.i64.wrap 2 = 2 := by decide
  have qw3 : IntKind.i64.wrap 3 = 3 := by decide
  have qw4 : IntKind.i64.wrap 4 = 4 := by decide
  have qw5 : IntKind.i64.wrap 5 = 5 := by decide
  have qw6 : IntKind.i64.wrap 6 = 6 := by decide
  have qw7 : IntKind.i64.wrap 7 = 7 := by decide
  clear hB0 hrow hat hl ih ex0 ex1 ex2 hEx htx ey0 ey1 ey2 hEy hty
  go_enter Tryd.func37, Tryd.ntmps37
  go_wp2_with fail
  obtain ⟨W, hW⟩ : ∃ W, w.alloc (.cells #[.int .i64 8, .int .i64 0, .slice (some ⟨b, o, none⟩) 2 cap] 29) = W := ⟨_, rfl⟩
  rw [hW] at HB0 HE HDW HS p0 p1 p2 qx0 qx1 qx2 qy0 qy1 qy2 ⊢
  clear hW
  have HBD : Hid (Below W.heap.size W W.drew) := (Below.refl _ _).drew
  go_region_held3 (fun v' => v'.cell? ⟨w.heap.size, 0, none⟩ = some (.int .i64 8) ∧ v'.cell? ⟨w.heap.size, 1, none⟩ = some (.int .i64 0) ∧ v'.cell? ⟨w.heap.size, 2, none⟩ = some (.slice (some ⟨b, o, none⟩) 2 cap) ∧ v'.cell? ⟨b, o, none⟩ = some (.int .i64 x.kind) ∧ v'.cell? ⟨b, o + 1, none⟩ = some (.int .i64 x.value) ∧ v'.cell? ⟨b, o + 2, none⟩ = some (.slice ax x.kids.length cx) ∧ v'.cell? ⟨b, o + 3, none⟩ = some (.int .i64 y.kind) ∧ v'.cell? ⟨b, o + 3 + 1, none⟩ = some (.int .i64 y.value) ∧ v'.cell? ⟨b, o + 3 + 2, none⟩ = some (.slice ay y.kids.length cy)) (first | assumption | exact ⟨p0, p1, p2, qx0, qx1, qx2, qy0, qy1, qy2⟩)
    (first
    | (go_at_call 37; (with_reducible refine (IH.out n x _ _ _ D W.drew (HE.out _ HBD.out).1 (HDW.out _ HBD.out) hx).mono ?_); rintro f u0 ⟨rfl, hA0⟩; have hC0 := (HBD.out).trans (hA0.mono (HBD.out).size); have hS0 := HS.out _ hC0; rw [HTx.out])
    | (go_at_call 37; (with_reducible refine (IH.out n y _ _ _ D u0 (HE.out _ hC0).2 (HDW.out _ hC0) hy).mono ?_); rintro f u1 ⟨rfl, hA1⟩; have hC1 := (hC0).trans (hA1.mono (hC0).size); have hS1 := HS.out _ hC1; rw [HTy.out])
    | fail)
  all_goals
    have HBZ := Lib.hid (HB0.out.trans (hC1.mono HB0.out.size))
    go_wp2_with fail
    go_ret
    exact ⟨congrArg (fun s => Ending.returned (Value.string s)) (by rw [cut_ops.2.2.2.2.1]; apply ByteArray.ext; simp), HBZ.out⟩

set_option maxRecDepth 100000 in
set_option maxHeartbeats 4000000 in
theorem l2Expr_bin9 (nv na d : Nat) (hd : d ≤ 4) (ih : SayX nv na d) (n : Nat) (x y : E) (a : Option Addr) (cap : Nat) (D : Nat → Prop) (w : World) (hat : EsAt w D (IsE w D n) [x, y] a) (hl : ∀ k, D k → k < w.heap.size) (sx sy : List UInt8)
    (hx : shapeB nv na d x = true) (htx : txE d x = sx) (hy : shapeB nv na d y = true) (hty : txE d y = sy) :
    Calls Tryd.prog 37 #[.agg #[.int .i64 9, .int .i64 0, .slice a 2 cap]] w (Txt (40 :: (sx ++ 61 :: (sy ++ [41]))) w) := by
  have hp : 4 ^ d ≤ 256 := Nat.le_trans (Nat.pow_le_pow_right (by omega) hd) (by decide)
  have hlex : sx.length ≤ 6144 := by have := txE_len nv na d x hx; rw [htx] at this; omega
  have hley : sy.length ≤ 6144 := by have := txE_len nv na d y hy; rw [hty] at this; omega
  obtain ⟨b, o, ax, cx, rfl, hDb, ex0, ex1, ex2, hEx⟩ := kid_at hat 0 x rfl
  obtain ⟨b', o', ay, cy, hab, _, ey0, ey1, ey2, hEy⟩ := kid_at hat 1 y rfl
  cases hab
  simp only [Nat.zero_mul, Nat.add_zero, Nat.one_mul] at ex0 ex1 ex2 ey0 ey1 ey2
  have hbl := hl b hDb
  have hB0 : Below w.heap.size w (w.alloc (.cells #[.int .i64 9, .int .i64 0, .slice (some ⟨b, o, none⟩) 2 cap] 29)) := (Below.refl _ w).alloc (Nat.le_refl _) _
  have HB0 := Lib.hid hB0
  have IH := Lib.hid ih
  have HTx := Lib.hid htx
  have HTy := Lib.hid hty
  have HE : Hid (∀ v', Below (w.alloc (.cells #[.int .i64 9, .int .i64 0, .slice (some ⟨b, o, none⟩) 2 cap] 29)).heap.size (w.alloc (.cells #[.int .i64 9, .int .i64 0, .slice (some ⟨b, o, none⟩) 2 cap] 29)) v' → IsE v' D n x [.int .i64 x.kind, .int .i64 x.value, .slice ax x.kids.length cx] ∧ IsE v' D n y [.int .i64 y.kind, .int .i64 y.value, .slice ay y.kids.length cy]) := fun v' hv' =>
    have hst := Stand.of_below (hB0.trans (hv'.mono hB0.size)) hl
    ⟨hEx.later hst, hEy.later hst⟩
  have HDW : Hid (∀ v', Below (w.alloc (.cells #[.int .i64 9, .int .i64 0, .slice (some ⟨b, o, none⟩) 2 cap] 29)).heap.size (w.alloc (.cells #[.int .i64 9, .int .i64 0, .slice (some ⟨b, o, none⟩) 2 cap] 29)) v' → ∀ k, D k → k < v'.heap.size) := fun v' hv' k hk => Nat.lt_of_lt_of_le (hl k hk) (Nat.le_trans hB0.size hv'.size)
  have hrow := heap_alloc_new w (.cells #[.int .i64 9, .int .i64 0, .slice (some ⟨b, o, none⟩) 2 cap] 29)
  have HS : Hid (∀ v', Below (w.alloc (.cells #[.int .i64 9, .int .i64 0, .slice (some ⟨b, o, none⟩) 2 cap] 29)).heap.size (w.alloc (.cells #[.int .i64 9, .int .i64 0, .slice (some ⟨b, o, none⟩) 2 cap] 29)) v' → v'.cell? ⟨w.heap.size, 0, none⟩ = some (.int .i64 9) ∧ v'.cell? ⟨w.heap.size, 1, none⟩ = some (.int .i64 0) ∧ v'.cell? ⟨w.heap.size, 2, none⟩ = some (.slice (some ⟨b, o, none⟩) 2 cap) ∧ v'.cell? ⟨b, o, none⟩ = some (.int .i64 x.kind) ∧ v'.cell? ⟨b, o + 1, none⟩ = some (.int .i64 x.value) ∧ v'.cell? ⟨b, o + 2, none⟩ = some (.slice ax x.kids.length cx) ∧ v'.cell? ⟨b, o + 3, none⟩ = some (.int .i64 y.kind) ∧ v'.cell? ⟨b, o + 3 + 1, none⟩ = some (.int .i64 y.value) ∧ v'.cell? ⟨b, o + 3 + 2, none⟩ = some (.slice ay y.kids.length cy)) := fun v' hv' => by
    have hlt : w.heap.size < (w.alloc (.cells #[.int .i64 9, .int .i64 0, .slice (some ⟨b, o, none⟩) 2 cap] 29)).heap.size := by simp
    have k0 : ∀ j, v'.cell? ⟨w.heap.size, j, none⟩ = (w.alloc (.cells #[.int .i64 9, .int .i64 0, .slice (some ⟨b, o, none⟩) 2 cap] 29)).cell? ⟨w.heap.size, j, none⟩ := fun j => hv'.cell (p := ⟨w.heap.size, j, none⟩) hlt
    have k1 : ∀ j, v'.cell? ⟨b, j, none⟩ = w.cell? ⟨b, j, none⟩ := fun j => (hB0.trans (hv'.mono hB0.size)).cell (p := ⟨b, j, none⟩) hbl
    refine ⟨by rw [k0, cell_of_row _ _ _ _ _ _ hrow]; rfl, by rw [k0, cell_of_row _ _ _ _ _ _ hrow]; rfl, by rw [k0, cell_of_row _ _ _ _ _ _ hrow]; rfl, by rw [k1]; exact ex0, by rw [k1]; exact ex1, by rw [k1]; exact ex2, by rw [k1]; exact ey0, by rw [k1]; exact ey1, by rw [k1]; exact ey2⟩
  obtain ⟨p0, p1, p2, qx0, qx1, qx2, qy0, qy1, qy2⟩ := HS.out _ (Below.refl _ _)
  have hg0 : ¬ 9223372036854775807 < 1 + sx.length := by omega
  have hg1 : ¬ 9223372036854775807 < 1 + sx.length + 1 := by omega
  have hg2 : ¬ 9223372036854775807 < 1 + sx.length + 1 + sy.length := by omega
  have hg3 : ¬ 9223372036854775807 < 1 + sx.length + 1 + sy.length + 1 := by omega
  have qw0 : IntKind.i64.wrap 0 = 0 := by decide
  have qw1 : IntKind.i64.wrap 1 = 1 := by decide
  have qw2 : IntKind.i64.wrap 2 = 2 := by decide
  have qw3 : IntKind.i64.wrap 3 = 3 := by decide
  have qw4 : IntKind.i64.wrap 4 = 4 := by decide
  have qw5 : IntKind.i64.wrap 5 = 5 := by decide
  have qw6 : IntKind.i64.wrap 6 = 6 := by decide
  have qw7 : IntKind.i64.wrap 7 = 7 := by decide
  clear hB0 hrow hat hl ih ex0 ex1 ex2 hEx htx ey0 ey1 ey2 hEy hty
  go_enter Tryd.func37, Tryd.ntmps37
  go_wp2_with fail
  obtain ⟨W, hW⟩ : ∃ W, w.alloc (.cells #[.int .i64 9, .int .i64 0, .slice (some ⟨b, o, none⟩) 2 cap] 29) = W := ⟨_, rfl⟩
  rw [hW] at HB0 HE HDW HS p0 p1 p2 qx0 qx1 qx2 qy0 qy1 qy2 ⊢
  clear hW
  have HBD : Hid (Below W.heap.size W W.drew) := (Below.refl _ _).drew
  go_region_held3 (fun v' => v'.cell? ⟨w.heap.size, 0, none⟩ = some (.int .i64 9) ∧ v'.cell? ⟨w.heap.size, 1, none⟩ = some (.int .i64 0) ∧ v'.cell? ⟨w.heap.size, 2, none⟩ = some (.slice (some ⟨b, o, none⟩) 2 cap) ∧ v'.cell? ⟨b, o, none⟩ = some (.int .i64 x.kind) ∧ v'.cell? ⟨b, o + 1, none⟩ = some (.int .i64 x.value) ∧ v'.cell? ⟨b, o + 2, none⟩ = some (.slice ax x.kids.length cx) ∧ v'.cell? ⟨b, o + 3, none⟩ = some (.int .i64 y.kind) ∧ v'.cell? ⟨b, o + 3 + 1, none⟩ = some (.int .i64 y.value) ∧ v'.cell? ⟨b, o + 3 + 2, none⟩ = some (.slice ay y.kids.length cy)) (first | assumption | exact ⟨p0, p1, p2, qx0, qx1, qx2, qy0, qy1, qy2⟩)
    (first
    | (go_at_call 37; (with_reducible refine (IH.out n x _ _ _ D W.drew (HE.out _ HBD.out).1 (HDW.out _ HBD.out) hx).mono ?_); rintro f u0 ⟨rfl, hA0⟩; have hC0 := (HBD.out).trans (hA0.mono (HBD.out).size); have hS0 := HS.out _ hC0; rw [HTx.out])
    | (go_at_call 37; (with_reducible refine (IH.out n y _ _ _ D u0 (HE.out _ hC0).2 (HDW.out _ hC0) hy).mono ?_); rintro f u1 ⟨rfl, hA1⟩; have hC1 := (hC0).trans (hA1.mono (hC0).size); have hS1 := HS.out _ hC1; rw [HTy.out])
    | fail)
  all_goals
    have HBZ := Lib.hid (HB0.out.trans (hC1.mono HB0.out.size))
    go_wp2_with fail
    go_ret
    exact ⟨congrArg (fun s => Ending.returned (Value.string s)) (by rw [cut_ops.2.2.2.2.2.1]; apply ByteArray.ext; simp), HBZ.out⟩

set_option maxRecDepth 100000 in
set_option maxHeartbeats 4000000 in
theorem l2Expr_bin10 (nv na d : Nat) (hd : d ≤ 4) (ih : SayX nv na d) (n : Nat) (x y : E) (a : Option Addr) (cap : Nat) (D : Nat → Prop) (w : World) (hat : EsAt w D (IsE w D n) [x, y] a) (hl : ∀ k, D k → k < w.heap.size) (sx sy : List UInt8)
    (hx : shapeB nv na d x = true) (htx : txE d x = sx) (hy : shapeB nv na d y = true) (hty : txE d y = sy) :
    Calls Tryd.prog 37 #[.agg #[.int .i64 10, .int .i64 0, .slice a 2 cap]] w (Txt (40 :: (sx ++ 60 :: (sy ++ [41]))) w) := by
  have hp : 4 ^ d ≤ 256 := Nat.le_trans (Nat.pow_le_pow_right (by omega) hd) (by decide)
  have hlex : sx.length ≤ 6144 := by have := txE_len nv na d x hx; rw [htx] at this; omega
  have hley : sy.length ≤ 6144 := by have := txE_len nv na d y hy; rw [hty] at this; omega
  obtain ⟨b, o, ax, cx, rfl, hDb, ex0, ex1, ex2, hEx⟩ := kid_at hat 0 x rfl
  obtain ⟨b', o', ay, cy, hab, _, ey0, ey1, ey2, hEy⟩ := kid_at hat 1 y rfl
  cases hab
  simp only [Nat.zero_mul, Nat.add_zero, Nat.one_mul] at ex0 ex1 ex2 ey0 ey1 ey2
  have hbl := hl b hDb
  have hB0 : Below w.heap.size w (w.alloc (.cells #[.int .i64 10, .int .i64 0, .slice (some ⟨b, o, none⟩) 2 cap] 29)) := (Below.refl _ w).alloc (Nat.le_refl _) _
  have HB0 := Lib.hid hB0
  have IH := Lib.hid ih
  have HTx := Lib.hid htx
  have HTy := Lib.hid hty
  have HE : Hid (∀ v', Below (w.alloc (.cells #[.int .i64 10, .int .i64 0, .slice (some ⟨b, o, none⟩) 2 cap] 29)).heap.size (w.alloc (.cells #[.int .i64 10, .int .i64 0, .slice (some ⟨b, o, none⟩) 2 cap] 29)) v' → IsE v' D n x [.int .i64 x.kind, .int .i64 x.value, .slice ax x.kids.length cx] ∧ IsE v' D n y [.int .i64 y.kind, .int .i64 y.value, .slice ay y.kids.length cy]) := fun v' hv' =>
    have hst := Stand.of_below (hB0.trans (hv'.mono hB0.size)) hl
    ⟨hEx.later hst, hEy.later hst⟩
  have HDW : Hid (∀ v', Below (w.alloc (.cells #[.int .i64 10, .int .i64 0, .slice (some ⟨b, o, none⟩) 2 cap] 29)).heap.size (w.alloc (.cells #[.int .i64 10, .int .i64 0, .slice (some ⟨b, o, none⟩) 2 cap] 29)) v' → ∀ k, D k → k < v'.heap.size) := fun v' hv' k hk => Nat.lt_of_lt_of_le (hl k hk) (Nat.le_trans hB0.size hv'.size)
  have hrow := heap_alloc_new w (.cells #[.int .i64 10, .int .i64 0, .slice (some ⟨b, o, none⟩) 2 cap] 29)
  have HS : Hid (∀ v', Below (w.alloc (.cells #[.int .i64 10, .int .i64 0, .slice (some ⟨b, o, none⟩) 2 cap] 29)).heap.size (w.alloc (.cells #[.int .i64 10, .int .i64 0, .slice (some ⟨b, o, none⟩) 2 cap] 29)) v' → v'.cell? ⟨w.heap.size, 0, none⟩ = some (.int .i64 10) ∧ v'.cell? ⟨w.heap.size, 1, none⟩ = some (.int .i64 0) ∧ v'.cell? ⟨w.heap.size, 2, none⟩ = some (.slice (some ⟨b, o, none⟩) 2 cap) ∧ v'.cell? ⟨b, o, none⟩ = some (.int .i64 x.kind) ∧ v'.cell? ⟨b, o + 1, none⟩ = some (.int .i64 x.value) ∧ v'.cell? ⟨b, o + 2, none⟩ = some (.slice ax x.kids.length cx) ∧ v'.cell? ⟨b, o + 3, none⟩ = some (.int .i64 y.kind) ∧ v'.cell? ⟨b, o + 3 + 1, none⟩ = some (.int .i64 y.value) ∧ v'.cell? ⟨b, o + 3 + 2, none⟩ = some (.slice ay y.kids.length cy)) := fun v' hv' => by
    have hlt : w.heap.size < (w.alloc (.cells #[.int .i64 10, .int .i64 0, .slice (some ⟨b, o, none⟩) 2 cap] 29)).heap.size := by simp
    have k0 : ∀ j, v'.cell? ⟨w.heap.size, j, none⟩ = (w.alloc (.cells #[.int .i64 10, .int .i64 0, .slice (some ⟨b, o, none⟩) 2 cap] 29)).cell? ⟨w.heap.size, j, none⟩ := fun j => hv'.cell (p := ⟨w.heap.size, j, none⟩) hlt
    have k1 : ∀ j, v'.cell? ⟨b, j, none⟩ = w.cell? ⟨b, j, none⟩ := fun j => (hB0.trans (hv'.mono hB0.size)).cell (p := ⟨b, j, none⟩) hbl
    refine ⟨by rw [k0, cell_of_row _ _ _ _ _ _ hrow]; rfl, by rw [k0, cell_of_row _ _ _ _ _ _ hrow]; rfl, by rw [k0, cell_of_row _ _ _ _ _ _ hrow]; rfl, by rw [k1]; exact ex0, by rw [k1]; exact ex1, by rw [k1]; exact ex2, by rw [k1]; exact ey0, by rw [k1]; exact ey1, by rw [k1]; exact ey2⟩
  obtain ⟨p0, p1, p2, qx0, qx1, qx2, qy0, qy1, qy2⟩ := HS.out _ (Below.refl _ _)
  have hg0 : ¬ 9223372036854775807 < 1 + sx.length := by omega
  have hg1 : ¬ 9223372036854775807 < 1 + sx.length + 1 := by omega
  have hg2 : ¬ 9223372036854775807 < 1 + sx.length + 1 + sy.length := by omega
  have hg3 : ¬ 9223372036854775807 < 1 + sx.length + 1 + sy.length + 1 := by omega
  have qw0 : IntKind.i64.wrap 0 = 0 := by decide
  have qw1 : IntKind.i64.wrap 1 = 1 := by decide
  have qw2 : IntKind.i64.wrap 2 = 2 := by decide
  have qw3 : IntKind.i64.wrap 3 = 3 := by decide
  have qw4 : IntKind.i64.wrap 4 = 4 := by decide
  have qw5 : IntKind.i64.wrap 5 = 5 := by decide
  have qw6 : IntKind.i64.wrap 6 = 6 := by decide
  have qw7 : IntKind.i64.wrap 7 = 7 := by decide
  clear hB0 hrow hat hl ih ex0 ex1 ex2 hEx htx ey0 ey1 ey2 hEy hty
  go_enter Tryd.func37, Tryd.ntmps37
  go_wp2_with fail
  obtain ⟨W, hW⟩ : ∃ W, w.alloc (.cells #[.int .i64 10, .int .i64 0, .slice (some ⟨b, o, none⟩) 2 cap] 29) = W := ⟨_, rfl⟩
  rw [hW] at HB0 HE HDW HS p0 p1 p2 qx0 qx1 qx2 qy0 qy1 qy2 ⊢
  clear hW
  have HBD : Hid (Below W.heap.size W W.drew) := (Below.refl _ _).drew
  go_region_held3 (fun v' => v'.cell? ⟨w.heap.size, 0, none⟩ = some (.int .i64 10) ∧ v'.cell? ⟨w.heap.size, 1, none⟩ = some (.int .i64 0) ∧ v'.cell? ⟨w.heap.size, 2, none⟩ = some (.slice (some ⟨b, o, none⟩) 2 cap) ∧ v'.cell? ⟨b, o, none⟩ = some (.int .i64 x.kind) ∧ v'.cell? ⟨b, o + 1, none⟩ = some (.int .i64 x.value) ∧ v'.cell? ⟨b, o + 2, none⟩ = some (.slice ax x.kids.length cx) ∧ v'.cell? ⟨b, o + 3, none⟩ = some (.int .i64 y.kind) ∧ v'.cell? ⟨b, o + 3 + 1, none⟩ = some (.int .i64 y.value) ∧ v'.cell? ⟨b, o + 3 + 2, none⟩ = some (.slice ay y.kids.length cy)) (first | assumption | exact ⟨p0, p1, p2, qx0, qx1, qx2, qy0, qy1, qy2⟩)
    (first
    | (go_at_call 37; (with_reducible refine (IH.out n x _ _ _ D W.drew (HE.out _ HBD.out).1 (HDW.out _ HBD.out) hx).mono ?_); rintro f u0 ⟨rfl, hA0⟩; have hC0 := (HBD.out).trans (hA0.mono (HBD.out).size); have hS0 := HS.out _ hC0; rw [HTx.out])
    | (go_at_call 37; (with_reducible refine (IH.out n y _ _ _ D u0 (HE.out _ hC0).2 (HDW.out _ hC0) hy).mono ?_); rintro f u1 ⟨rfl, hA1⟩; have hC1 := (hC0).trans (hA1.mono (hC0).size); have hS1 := HS.out _ hC1; rw [HTy.out])
    | fail)
  all_goals
    have HBZ := Lib.hid (HB0.out.trans (hC1.mono HB0.out.size))
    go_wp2_with fail
    go_ret
    exact ⟨congrArg (fun s => Ending.returned (Value.string s)) (by rw [cut_ops.2.2.2.2.2.2]; apply ByteArray.ext; simp), HBZ.out⟩

set_option maxRecDepth 100000 in
set_option maxHeartbeats 4000000 in
theorem l2Expr_read0 (nv na d : Nat) (hd : d ≤ 4) (ih : SayX nv na d) (n : Nat) (x : E) (a : Option Addr) (cap : Nat) (D : Nat → Prop) (w : World) (hat : EsAt w D (IsE w D n) [x] a) (hl : ∀ k, D k → k < w.heap.size) (sx : List UInt8)
    (hx : shapeB nv na d x = true) (htx : txE d x = sx) :
    Calls Tryd.prog 37 #[.agg #[.int .i64 3, .int .i64 0, .slice a 1 cap]] w (Txt (80 :: 91 :: (sx ++ [93])) w) := by
  have hp : 4 ^ d ≤ 256 := Nat.le_trans (Nat.pow_le_pow_right (by omega) hd) (by decide)
  have hlex : sx.length ≤ 6144 := by have := txE_len nv na d x hx; rw [htx] at this; omega
  obtain ⟨b, o, ax, cx, rfl, hDb, ex0, ex1, ex2, hEx⟩ := kid_at hat 0 x rfl
  simp only [Nat.zero_mul, Nat.add_zero] at ex0 ex1 ex2
  have hbl := hl b hDb
  have hB0 : Below w.heap.size w (w.alloc (.cells #[.int .i64 3, .int .i64 0, .slice (some ⟨b, o, none⟩) 1 cap] 29)) := (Below.refl _ w).alloc (Nat.le_refl _) _
  have HB0 := Lib.hid hB0
  have IH := Lib.hid ih
  have HTx := Lib.hid htx
  have HE : Hid (∀ v', Below (w.alloc (.cells #[.int .i64 3, .int .i64 0, .slice (some ⟨b, o, none⟩) 1 cap] 29)).heap.size (w.alloc (.cells #[.int .i64 3, .int .i64 0, .slice (some ⟨b, o, none⟩) 1 cap] 29)) v' → IsE v' D n x [.int .i64 x.kind, .int .i64 x.value, .slice ax x.kids.length cx]) := fun v' hv' =>
    have hst := Stand.of_below (hB0.trans (hv'.mono hB0.size)) hl
    hEx.later hst
  have HDW : Hid (∀ v', Below (w.alloc (.cells #[.int .i64 3, .int .i64 0, .slice (some ⟨b, o, none⟩) 1 cap] 29)).heap.size (w.alloc (.cells #[.int .i64 3, .int .i64 0, .slice (some ⟨b, o, none⟩) 1 cap] 29)) v' → ∀ k, D k → k < v'.heap.size) := fun v' hv' k hk => Nat.lt_of_lt_of_le (hl k hk) (Nat.le_trans hB0.size hv'.size)
  have hrow := heap_alloc_new w (.cells #[.int .i64 3, .int .i64 0, .slice (some ⟨b, o, none⟩) 1 cap] 29)
  have HS : Hid (∀ v', Below (w.alloc (.cells #[.int .i64 3, .int .i64 0, .slice (some ⟨b, o, none⟩) 1 cap] 29)).heap.size (w.alloc (.cells #[.int .i64 3, .int .i64 0, .slice (some ⟨b, o, none⟩) 1 cap] 29)) v' → v'.cell? ⟨w.heap.size, 0, none⟩ = some (.int .i64 3) ∧ v'.cell? ⟨w.heap.size, 1, none⟩ = some (.int .i64 0) ∧ v'.cell? ⟨w.heap.size, 2, none⟩ = some (.slice (some ⟨b, o, none⟩) 1 cap) ∧ v'.cell? ⟨b, o, none⟩ = some (.int .i64 x.kind) ∧ v'.cell? ⟨b, o + 1, none⟩ = some (.int .i64 x.value) ∧ v'.cell? ⟨b, o + 2, none⟩ = some (.slice ax x.kids.length cx)) := fun v' hv' => by
    have hlt : w.heap.size < (w.alloc (.cells #[.int .i64 3, .int .i64 0, .slice (some ⟨b, o, none⟩) 1 cap] 29)).heap.size := by simp
    have k0 : ∀ j, v'.cell? ⟨w.heap.size, j, none⟩ = (w.alloc (.cells #[.int .i64 3, .int .i64 0, .slice (some ⟨b, o, none⟩) 1 cap] 29)).cell? ⟨w.heap.size, j, none⟩ := fun j => hv'.cell (p := ⟨w.heap.size, j, none⟩) hlt
    have k1 : ∀ j, v'.cell? ⟨b, j, none⟩ = w.cell? ⟨b, j, none⟩ := fun j => (hB0.trans (hv'.mono hB0.size)).cell (p := ⟨b, j, none⟩) hbl
    refine ⟨by rw [k0, cell_of_row _ _ _ _ _ _ hrow]; rfl, by rw [k0, cell_of_row _ _ _ _ _ _ hrow]; rfl, by rw [k0, cell_of_row _ _ _ _ _ _ hrow]; rfl, by rw [k1]; exact ex0, by rw [k1]; exact ex1, by rw [k1]; exact ex2⟩
  obtain ⟨p0, p1, p2, qx0, qx1, qx2⟩ := HS.out _ (Below.refl _ _)
  have hg0 : ¬ 9223372036854775807 < 1 + 1 + sx.length := by omega
  have hg1 : ¬ 9223372036854775807 < 1 + 1 + sx.length + 1 := by omega
  have hg2 : ¬ 9223372036854775807 < 2 + sx.length := by omega
  have hg3 : ¬ 9223372036854775807 < 2 + sx.length + 1 := by omega
  have qw0 : IntKind.i64.wrap 0 = 0 := by decide
  have qw1 : IntKind.i64.wrap 1 = 1 := by decide
  have qw2 : IntKind.i64.wrap 2 = 2 := by decide
  have qw3 : IntKind.i64.wrap 3 = 3 := by decide
  have qw4 : IntKind.i64.wrap 4 = 4 := by decide
  have qw5 : IntKind.i64.wrap 5 = 5 := by decide
  have qw6 : IntKind.i64.wrap 6 = 6 := by decide
  have qw7 : IntKind.i64.wrap 7 = 7 := by decide
  clear hB0 hrow hat hl ih ex0 ex1 ex2 hEx htx
  go_enter Tryd.func37, Tryd.ntmps37
  go_wp2_with fail
  obtain ⟨W, hW⟩ : ∃ W, w.alloc (.cells #[.int .i64 3, .int .i64 0, .slice (some ⟨b, o, none⟩) 1 cap] 29) = W := ⟨_, rfl⟩
  rw [hW] at HB0 HE HDW HS p0 p1 p2 qx0 qx1 qx2 ⊢
  clear hW
  have HBD : Hid (Below W.heap.size W W.drew) := (Below.refl _ _).drew
  go_region_held3 (fun v' => v'.cell? ⟨w.heap.size, 0, none⟩ = some (.int .i64 3) ∧ v'.cell? ⟨w.heap.size, 1, none⟩ = some (.int .i64 0) ∧ v'.cell? ⟨w.heap.size, 2, none⟩ = some (.slice (some ⟨b, o, none⟩) 1 cap) ∧ v'.cell? ⟨b, o, none⟩ = some (.int .i64 x.kind) ∧ v'.cell? ⟨b, o + 1, none⟩ = some (.int .i64 x.value) ∧ v'.cell? ⟨b, o + 2, none⟩ = some (.slice ax x.kids.length cx)) (first | assumption | exact ⟨p0, p1, p2, qx0, qx1, qx2⟩)
    (first
    | (go_at_call 37; (with_reducible refine (IH.out n x _ _ _ D W.drew (HE.out _ HBD.out) (HDW.out _ HBD.out) hx).mono ?_); rintro f u0 ⟨rfl, hA0⟩; have hC0 := (HBD.out).trans (hA0.mono (HBD.out).size); have hS0 := HS.out _ hC0; rw [HTx.out])
    | fail)
  all_goals
    have HBZ := Lib.hid (HB0.out.trans (hC0.mono HB0.out.size))
    go_wp2_with fail
    go_ret
    exact ⟨congrArg (fun s => Ending.returned (Value.string s)) (by rw [cut_pq.1]; apply ByteArray.ext; simp), HBZ.out⟩

set_option maxRecDepth 100000 in
set_option maxHeartbeats 4000000 in
theorem l2Expr_read1 (nv na d : Nat) (hd : d ≤ 4) (ih : SayX nv na d) (n : Nat) (x : E) (a : Option Addr) (cap : Nat) (D : Nat → Prop) (w : World) (hat : EsAt w D (IsE w D n) [x] a) (hl : ∀ k, D k → k < w.heap.size) (sx : List UInt8)
    (hx : shapeB nv na d x = true) (htx : txE d x = sx) :
    Calls Tryd.prog 37 #[.agg #[.int .i64 3, .int .i64 1, .slice a 1 cap]] w (Txt (81 :: 91 :: (sx ++ [93])) w) := by
  have hp : 4 ^ d ≤ 256 := Nat.le_trans (Nat.pow_le_pow_right (by omega) hd) (by decide)
  have hlex : sx.length ≤ 6144 := by have := txE_len nv na d x hx; rw [htx] at this; omega
  obtain ⟨b, o, ax, cx, rfl, hDb, ex0, ex1, ex2, hEx⟩ := kid_at hat 0 x rfl
  simp only [Nat.zero_mul, Nat.add_zero] at ex0 ex1 ex2
  have hbl := hl b hDb
  have hB0 : Below w.heap.size w (w.alloc (.cells #[.int .i64 3, .int .i64 1, .slice (some ⟨b, o, none⟩) 1 cap] 29)) := (Below.refl _ w).alloc (Nat.le_refl _) _
  have HB0 := Lib.hid hB0
  have IH := Lib.hid ih
  have HTx := Lib.hid htx
  have HE : Hid (∀ v', Below (w.alloc (.cells #[.int .i64 3, .int .i64 1, .slice (some ⟨b, o, none⟩) 1 cap] 29)).heap.size (w.alloc (.cells #[.int .i64 3, .int .i64 1, .slice (some ⟨b, o, none⟩) 1 cap] 29)) v' → IsE v' D n x [.int .i64 x.kind, .int .i64 x.value, .slice ax x.kids.length cx]) := fun v' hv' =>
    have hst := Stand.of_below (hB0.trans (hv'.mono hB0.size)) hl
    hEx.later hst
  have HDW : Hid (∀ v', Below (w.alloc (.cells #[.int .i64 3, .int .i64 1, .slice (some ⟨b, o, none⟩) 1 cap] 29)).heap.size (w.alloc (.cells #[.int .i64 3, .int .i64 1, .slice (some ⟨b, o, none⟩) 1 cap] 29)) v' → ∀ k, D k → k < v'.heap.size) := fun v' hv' k hk => Nat.lt_of_lt_of_le (hl k hk) (Nat.le_trans hB0.size hv'.size)
  have hrow := heap_alloc_new w (.cells #[.int .i64 3, .int .i64 1, .slice (some ⟨b, o, none⟩) 1 cap] 29)
  have HS : Hid (∀ v', Below (w.alloc (.cells #[.int .i64 3, .int .i64 1, .slice (some ⟨b, o, none⟩) 1 cap] 29)).heap.size (w.alloc (.cells #[.int .i64 3, .int .i64 1, .slice (some ⟨b, o, none⟩) 1 cap] 29)) v' → v'.cell? ⟨w.heap.size, 0, none⟩ = some (.int .i64 3) ∧ v'.cell? ⟨w.heap.size, 1, none⟩ = some (.int .i64 1) ∧ v'.cell? ⟨w.heap.size, 2, none⟩ = some (.slice (some ⟨b, o, none⟩) 1 cap) ∧ v'.cell? ⟨b, o, none⟩ = some (.int .i64 x.kind) ∧ v'.cell? ⟨b, o + 1, none⟩ = some (.int .i64 x.value) ∧ v'.cell? ⟨b, o + 2, none⟩ = some (.slice ax x.kids.length cx)) := fun v' hv' => by
    have hlt : w.heap.size < (w.alloc (.cells #[.int .i64 3, .int .i64 1, .slice (some ⟨b, o, none⟩) 1 cap] 29)).heap.size := by simp
    have k0 : ∀ j, v'.cell? ⟨w.heap.size, j, none⟩ = (w.alloc (.cells #[.int .i64 3, .int .i64 1, .slice (some ⟨b, o, none⟩) 1 cap] 29)).cell? ⟨w.heap.size, j, none⟩ := fun j => hv'.cell (p := ⟨w.heap.size, j, none⟩) hlt
    have k1 : ∀ j, v'.cell? ⟨b, j, none⟩ = w.cell? ⟨b, j, none⟩ := fun j => (hB0.trans (hv'.mono hB0.size)).cell (p := ⟨b, j, none⟩) hbl
    refine ⟨by rw [k0, cell_of_row _ _ _ _ _ _ hrow]; rfl, by rw [k0, cell_of_row _ _ _ _ _ _ hrow]; rfl, by rw [k0, cell_of_row _ _ _ _ _ _ hrow]; rfl, by rw [k1]; exact ex0, by rw [k1]; exact ex1, by rw [k1]; exact ex2⟩
  obtain ⟨p0, p1, p2, qx0, qx1, qx2⟩ := HS.out _ (Below.refl _ _)
  have hg0 : ¬ 9223372036854775807 < 1 + 1 + sx.length := by omega
  have hg1 : ¬ 9223372036854775807 < 1 + 1 + sx.length + 1 := by omega
  have hg2 : ¬ 9223372036854775807 < 2 + sx.length := by omega
  have hg3 : ¬ 9223372036854775807 < 2 + sx.length + 1 := by omega
  have qw0 : IntKind.i64.wrap 0 = 0 := by decide
  have qw1 : IntKind.i64.wrap 1 = 1 := by decide
  have qw2 : IntKind.i64.wrap 2 = 2 := by decide
  have qw3 : IntKind.i64.wrap 3 = 3 := by decide
  have qw4 : IntKind.i64.wrap 4 = 4 := by decide
  have qw5 : IntKind.i64.wrap 5 = 5 := by decide
  have qw6 : IntKind.i64.wrap 6 = 6 := by decide
  have qw7 : IntKind.i64.wrap 7 = 7 := by decide
  clear hB0 hrow hat hl ih ex0 ex1 ex2 hEx htx
  go_enter Tryd.func37, Tryd.ntmps37
  go_wp2_with fail
  obtain ⟨W, hW⟩ : ∃ W, w.alloc (.cells #[.int .i64 3, .int .i64 1, .slice (some ⟨b, o, none⟩) 1 cap] 29) = W := ⟨_, rfl⟩
  rw [hW] at HB0 HE HDW HS p0 p1 p2 qx0 qx1 qx2 ⊢
  clear hW
  have HBD : Hid (Below W.heap.size W W.drew) := (Below.refl _ _).drew
  go_region_held3 (fun v' => v'.cell? ⟨w.heap.size, 0, none⟩ = some (.int .i64 3) ∧ v'.cell? ⟨w.heap.size, 1, none⟩ = some (.int .i64 1) ∧ v'.cell? ⟨w.heap.size, 2, none⟩ = some (.slice (some ⟨b, o, none⟩) 1 cap) ∧ v'.cell? ⟨b, o, none⟩ = some (.int .i64 x.kind) ∧ v'.cell? ⟨b, o + 1, none⟩ = some (.int .i64 x.value) ∧ v'.cell? ⟨b, o + 2, none⟩ = some (.slice ax x.kids.length cx)) (first | assumption | exact ⟨p0, p1, p2, qx0, qx1, qx2⟩)
    (first
    | (go_at_call 37; (with_reducible refine (IH.out n x _ _ _ D W.drew (HE.out _ HBD.out) (HDW.out _ HBD.out) hx).mono ?_); rintro f u0 ⟨rfl, hA0⟩; have hC0 := (HBD.out).trans (hA0.mono (HBD.out).size); have hS0 := HS.out _ hC0; rw [HTx.out])
    | fail)
  all_goals
    have HBZ := Lib.hid (HB0.out.trans (hC0.mono HB0.out.size))
    go_wp2_with fail
    go_ret
    exact ⟨congrArg (fun s => Ending.returned (Value.string s)) (by rw [cut_pq.2]; apply ByteArray.ext; simp), HBZ.out⟩

end Go.Proofs.YtomgnnhbabnckaaDoor

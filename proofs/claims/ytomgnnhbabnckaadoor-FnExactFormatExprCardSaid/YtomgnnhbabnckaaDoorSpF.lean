/- spec.l2Expr at every valid expression, and spec.FormatExpr: the text is returned, or the empty text; nothing that was there has changed. -/
import Derived.Test.YtomgnnhbabnckaaDoorSpX
import Derived.Test.YtomgnnhbabnckaaDoorValC
namespace Go.Proofs.YtomgnnhbabnckaaDoor
open Go.RowKit
set_option linter.unusedVariables false

set_option maxRecDepth 100000 in
set_option maxHeartbeats 4000000 in
theorem l2Expr_const (v : Nat) (hv : v ≤ 255) (a : Option Addr) (cap : Nat) (w : World) :
    Calls Tryd.prog 37 #[.agg #[.int .i64 1, .int .i64 (v : Int), .slice a 0 cap]] w (Txt (Lib.decDigits v) w) := by
  have HB : Hid (Below w.heap.size w (w.alloc (.cells #[.int .i64 1, .int .i64 (v : Int), .slice a 0 cap] 29))) := (Below.refl _ w).alloc (Nat.le_refl _) _
  go_enter Tryd.func37, Tryd.ntmps37
  go_wp2_with fail
  refine (l17Dec_one v (by omega) _).mono ?_
  rintro f u ⟨rfl, hb⟩
  have HB2 := Lib.hid (HB.out.trans (hb.mono HB.out.size))
  clear hb
  obtain ⟨s, hs⟩ : ∃ s, Lib.decDigits v = s := ⟨_, rfl⟩
  rw [hs]
  have HSS := Lib.hid hs
  clear hs
  go_wp2_with fail
  go_ret
  exact ⟨by rw [← HSS.out]; rfl, HB2.out⟩

set_option maxRecDepth 100000 in
set_option maxHeartbeats 4000000 in
theorem l2Expr_var (v : Nat) (hv : v < 12) (a : Option Addr) (cap : Nat) (w : World) :
    Calls Tryd.prog 37 #[.agg #[.int .i64 2, .int .i64 (v : Int), .slice a 0 cap]] w (Txt [UInt8.ofNat (97 + v)] w) := by
  have HB : Hid (Below w.heap.size w (w.alloc (.cells #[.int .i64 2, .int .i64 (v : Int), .slice a 0 cap] 29))) := (Below.refl _ w).alloc (Nat.le_refl _) _
  go_enter Tryd.func37, Tryd.ntmps37
  go_wp2_with fail
  refine (l2Var_one v hv _).mono ?_
  rintro f u ⟨rfl, hb⟩
  have HB2 := Lib.hid (HB.out.trans (hb.mono HB.out.size))
  clear hb
  obtain ⟨s, hs⟩ : ∃ s, [UInt8.ofNat (97 + v)] = s := ⟨_, rfl⟩
  rw [hs]
  have HSS := Lib.hid hs
  clear hs
  go_wp2_with fail
  go_ret
  exact ⟨by rw [← HSS.out]; rfl, HB2.out⟩

theorem l2Expr_one (nv na : Nat) (hnv : nv ≤ 12) (hna : na ≤ 2) : ∀ (d : Nat), d ≤ 5 → SayX nv na d
  | 0, _ => fun n e c0 c1 c2 D w h hl hs => by simp [shapeB] at hs
  | d + 1, hd => fun n e c0 c1 c2 D w h hl hs => by
    have ih := l2Expr_one nv na hnv hna d (by omega)
    obtain ⟨hn, hk⟩ := shape_node hs
    obtain ⟨kd, vl, ks⟩ := e
    cases n with
    | zero => exact h.elim
    | succ n =>
      obtain ⟨a, cap, hcs, _, _, hat⟩ := h
      cases hcs
      rcases node_cases hn with ⟨h1, h2, v, hv, h3⟩ | ⟨h1, h2, v, hv, h3⟩ | ⟨h1, ⟨x, h2⟩, v, hv, h3⟩ | ⟨h1, h1', h3, x, y, h2⟩ | ⟨h1, h3, x, y, z, h2⟩
      all_goals simp only at h1 h2 h3 hk hat
      · subst h1 h2 h3
        refine (l2Expr_const v hv a cap w).mono fun f w' q => ?_
        rw [show txE (d + 1) ⟨1, (v : Int), []⟩ = Lib.decDigits v from by rw [txE]; simp]
        exact q
      · subst h1 h2 h3
        refine (l2Expr_var v (by omega) a cap w).mono fun f w' q => ?_
        rw [show txE (d + 1) ⟨2, (v : Int), []⟩ = [UInt8.ofNat (97 + v)] from by rw [txE]; simp]
        exact q
      · subst h1 h2 h3
        have hx := hk x (by simp)
        have hv2 : v = 0 ∨ v = 1 := by omega
        rcases hv2 with rfl | rfl
        · refine (l2Expr_read0 nv na d (by omega) ih n x a cap D w hat hl _ hx rfl).mono fun f w' q => ?_
          rw [show txE (d + 1) ⟨3, ((0 : Nat) : Int), [x]⟩ = 80 :: 91 :: (txE d x ++ [93]) from by rw [txE]; simp [kidD]]
          exact q
        · refine (l2Expr_read1 nv na d (by omega) ih n x a cap D w hat hl _ hx rfl).mono fun f w' q => ?_
          rw [show txE (d + 1) ⟨3, ((1 : Nat) : Int), [x]⟩ = 81 :: 91 :: (txE d x ++ [93]) from by rw [txE]; simp [kidD]]
          exact q
      · simp only at h1'
        subst h2 h3
        have hx := hk x (by simp)
        have hy := hk y (by simp)
        have h7 : kd = 4 ∨ kd = 5 ∨ kd = 6 ∨ kd = 7 ∨ kd = 8 ∨ kd = 9 ∨ kd = 10 := by omega
        clear hs hn h1 h1'
        rcases h7 with rfl | rfl | rfl | rfl | rfl | rfl | rfl
        · exact (l2Expr_bin4 nv na d (by omega) ih n x y a cap D w hat hl _ _ hx rfl hy rfl).mono fun f w' q => by rw [txE]; exact q
        · exact (l2Expr_bin5 nv na d (by omega) ih n x y a cap D w hat hl _ _ hx rfl hy rfl).mono fun f w' q => by rw [txE]; exact q
        · exact (l2Expr_bin6 nv na d (by omega) ih n x y a cap D w hat hl _ _ hx rfl hy rfl).mono fun f w' q => by rw [txE]; exact q
        · exact (l2Expr_bin7 nv na d (by omega) ih n x y a cap D w hat hl _ _ hx rfl hy rfl).mono fun f w' q => by rw [txE]; exact q
        · exact (l2Expr_bin8 nv na d (by omega) ih n x y a cap D w hat hl _ _ hx rfl hy rfl).mono fun f w' q => by rw [txE]; exact q
        · exact (l2Expr_bin9 nv na d (by omega) ih n x y a cap D w hat hl _ _ hx rfl hy rfl).mono fun f w' q => by rw [txE]; exact q
        · exact (l2Expr_bin10 nv na d (by omega) ih n x y a cap D w hat hl _ _ hx rfl hy rfl).mono fun f w' q => by rw [txE]; exact q
      · subst h1 h2 h3
        have hx := hk x (by simp)
        have hy := hk y (by simp)
        have hz := hk z (by simp)
        exact (l2Expr_sel nv na d (by omega) ih n x y z a cap D w hat hl _ _ _ hx rfl hy rfl hz rfl).mono fun f w' q => by rw [txE]; exact q

theorem exprB_parts {p : Pg} {e : E} (h : exprB p e = true) : p.vars.length ≤ 12 ∧ p.arrs.length ≤ 2 ∧ shapeB p.vars.length p.arrs.length 5 e = true := by
  unfold exprB headsB rightB at h
  simp only [Bool.and_eq_true, decide_eq_true_iff] at h
  exact ⟨h.1.1.2, h.1.2, h.2.1⟩

set_option maxRecDepth 100000 in
set_option maxHeartbeats 4000000 in
/-- **spec.FormatExpr.** -/
theorem sFmtE (p : Pg) (k : PC) (e : E) (a : Option Addr) (c : Nat) (w : World) (hp : CP w p k) (h : CE w e a c) :
    Calls Tryd.prog 14 #[aggP p k, .agg #[.int .i64 e.kind, .int .i64 e.value, .slice a e.kids.length c]] w (Txt (ansE p e) w) := by
  have HP : Hid (∀ v, Below w.heap.size w v → CP v p k) := fun v hv => hp.below hv
  have HE : Hid (∀ v, Below w.heap.size w v → CE v e a c) := fun v hv => h.below hv
  clear hp h
  have hB : Below w.heap.size w ((w.alloc (.cells (arrP p k) 26)).alloc (.cells #[.int .i64 e.kind, .int .i64 e.value, .slice a e.kids.length c] 29)) := ((Below.refl _ w).alloc (Nat.le_refl _) _).alloc (by simp) _
  have e1 : BoxE ((w.alloc (.cells (arrP p k) 26)).alloc (.cells #[.int .i64 e.kind, .int .i64 e.value, .slice a e.kids.length c] 29)) (w.heap.size + 1) e a c := by
    have e1 := BoxE.new (w.alloc (.cells (arrP p k) 26)) e a c 29
    rw [World.size_alloc] at e1
    exact e1
  have HB := Lib.hid hB
  have HX := Lib.hid e1
  clear hB e1
  go_enter Tryd.func14, Tryd.ntmps14
  go_wp2_with fail
  obtain ⟨W, hW⟩ : ∃ W, ((w.alloc (.cells (arrP p k) 26)).alloc (.cells #[.int .i64 e.kind, .int .i64 e.value, .slice a e.kids.length c] 29)) = W := ⟨_, rfl⟩
  unfold arrP at hW
  rw [hW] at HB HX ⊢
  clear hW
  refine (sExprValidC p k e a c W (HP.out _ HB.out) (HE.out _ HB.out)).mono ?_
  rintro f u ⟨rfl, hb⟩
  have HB2 := Lib.hid (HB.out.trans (hb.mono HB.out.size))
  have x2 := HX.out.below hb HX.out.lt
  have x0 := x2.c0
  have x1 := x2.c1
  have x3 := x2.c2
  clear hb x2
  cases hq : exprB p e
  · have HA : Hid (ansE p e = []) := by
      have : ansE p e = [] := by unfold ansE; rw [hq]; rfl
      exact this
    clear hq
    go_wp2_with fail
    go_ret
    exact ⟨by rw [HA.out] <;> rfl, HB2.out⟩
  · have HA : Hid (ansE p e = txE 5 e) := by
      have : ansE p e = txE 5 e := by unfold ansE; rw [hq]; rfl
      exact this
    obtain ⟨hnv, hna, hs⟩ := exprB_parts hq
    have HSH := Lib.hid hs
    clear hq hs
    go_wp2_with fail
    obtain ⟨D, n, hD, hE, _⟩ := HE.out _ HB2.out
    refine (l2Expr_one _ _ hnv hna 5 (Nat.le_refl _) n e _ _ _ D u hE hD HSH.out).mono ?_
    rintro f u2 ⟨rfl, hb2⟩
    have HB3 := Lib.hid (HB2.out.trans (hb2.mono HB2.out.size))
    clear hb2 hE hD
    obtain ⟨s, hs⟩ : ∃ s, txE 5 e = s := ⟨_, rfl⟩
    rw [hs] at HA ⊢
    clear hs
    go_wp2_with fail
    go_ret
    exact ⟨by rw [HA.out] <;> rfl, HB3.out⟩

end Go.Proofs.YtomgnnhbabnckaaDoor

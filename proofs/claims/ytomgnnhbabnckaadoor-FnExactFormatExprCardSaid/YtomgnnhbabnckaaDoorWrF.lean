/- writeExpr of the program at every valid expression, FormatExpr of the program, and the law FnExactFormatExpr, walked: at every program and expression the call returns true; nothing that was there has changed. Condition: the tables lie as the program's text lays them. -/
import Derived.Test.YtomgnnhbabnckaaDoorWrX
import Derived.Test.YtomgnnhbabnckaaDoorSpF
namespace Go.Proofs.YtomgnnhbabnckaaDoor
open Go.RowKit Go.Shelf
set_option linter.unusedVariables false

theorem writeExpr_one (nv na : Nat) (hnv : nv ≤ 12) (hna : na ≤ 2) : ∀ (d : Nat), d ≤ 5 → SayW nv na d
  | 0, _ => fun n e c0 c1 c2 D B b bs w h hl hs hI hlen hT hB => by simp [shapeB] at hs
  | d + 1, hd => fun n e c0 c1 c2 D B b bs w h hl hs hI hlen hT hB => by
    have ih := writeExpr_one nv na hnv hna d (by omega)
    have hp1 : 1 ≤ 4 ^ (d + 1) := Nat.one_le_pow _ _ (by omega)
    obtain ⟨hn, hk⟩ := shape_node hs
    obtain ⟨kd, vl, ks⟩ := e
    cases n with
    | zero => exact h.elim
    | succ n =>
      obtain ⟨a, cap, hcs, _, _, hat⟩ := h
      cases hcs
      rcases node_cases hn with ⟨h1, h2, v, hv, h3⟩ | ⟨h1, h2, v, hv, h3⟩ | ⟨h1, ⟨x, h2⟩, v, hv, h3⟩ | ⟨h1, h1', h3, x, y, h2⟩ | ⟨h1, h3, x, y, z, h2⟩
      all_goals simp only at h1 h2 h3 hk hat
      · subst h1 h2 h3
        refine (wr_const v hv a cap B b bs w hI (by omega) hT hB).mono fun f w' q => ?_
        rw [show txE (d + 1) ⟨1, (v : Int), []⟩ = Lib.decDigits v from by rw [txE]; simp]
        exact q
      · subst h1 h2 h3
        refine (wr_var v (by omega) a cap B b bs w hI (by omega)).mono fun f w' q => ?_
        rw [show txE (d + 1) ⟨2, (v : Int), []⟩ = [UInt8.ofNat (97 + v)] from by rw [txE]; simp]
        exact q
      · subst h1 h2 h3
        have hx := hk x (by simp)
        refine (wr_read nv na d ih n v (by omega) x a cap D B b bs w hat hl hx hI hlen hT hB).mono fun f w' q => ?_
        rw [show txE (d + 1) ⟨3, (v : Int), [x]⟩ = UInt8.ofNat (80 + v) :: 91 :: (txE d x ++ [93]) from by rw [txE]; simp [kidD]]
        exact q
      · simp only at h1'
        subst h2 h3
        have hx := hk x (by simp)
        have hy := hk y (by simp)
        have h7 : kd = 4 ∨ kd = 5 ∨ kd = 6 ∨ kd = 7 ∨ kd = 8 ∨ kd = 9 ∨ kd = 10 := by omega
        clear hs hn h1 h1'
        rcases h7 with rfl | rfl | rfl | rfl | rfl | rfl | rfl
        · exact (wr_bin4 nv na d ih n x y a cap D B b bs w hat hl hx hy hI hlen hT hB).mono fun f w' q => by rw [txE]; exact q
        · exact (wr_bin5 nv na d ih n x y a cap D B b bs w hat hl hx hy hI hlen hT hB).mono fun f w' q => by rw [txE]; exact q
        · exact (wr_bin6 nv na d ih n x y a cap D B b bs w hat hl hx hy hI hlen hT hB).mono fun f w' q => by rw [txE]; exact q
        · exact (wr_bin7 nv na d ih n x y a cap D B b bs w hat hl hx hy hI hlen hT hB).mono fun f w' q => by rw [txE]; exact q
        · exact (wr_bin8 nv na d ih n x y a cap D B b bs w hat hl hx hy hI hlen hT hB).mono fun f w' q => by rw [txE]; exact q
        · exact (wr_bin9 nv na d ih n x y a cap D B b bs w hat hl hx hy hI hlen hT hB).mono fun f w' q => by rw [txE]; exact q
        · exact (wr_bin10 nv na d ih n x y a cap D B b bs w hat hl hx hy hI hlen hT hB).mono fun f w' q => by rw [txE]; exact q
      · subst h1 h2 h3
        have hx := hk x (by simp)
        have hy := hk y (by simp)
        have hz := hk z (by simp)
        exact (wr_sel nv na d ih n x y z a cap D B b bs w hat hl hx hy hz hI hlen hT hB).mono fun f w' q => by rw [txE]; exact q

/-- All the tables that FormatExpr reads. -/
def TabF (w : World) : Prop := TabW w ∧ TblO w
theorem TabF.below {w w' : World} (h : TabF w) (hb : Below w.heap.size w w') : TabF w' := ⟨h.1.below hb h.1.2.2, h.2.below hb h.2.lt⟩

set_option maxRecDepth 100000 in
set_option maxHeartbeats 4000000 in
/-- **impl.FormatExpr.** -/
theorem iFmtE (p : Pg) (k : PC) (e : E) (a : Option Addr) (c : Nat) (w : World) (hT : TabF w) (hp : CP w p k) (h : CE w e a c) :
    Calls Tryd.prog 17 #[aggP p k, .agg #[.int .i64 e.kind, .int .i64 e.value, .slice a e.kids.length c]] w (Txt (ansE p e) w) := by
  have HP : Hid (∀ v, Below w.heap.size w v → CP v p k) := fun v hv => hp.below hv
  have HE : Hid (∀ v, Below w.heap.size w v → CE v e a c) := fun v hv => h.below hv
  have HT : Hid (∀ v, Below w.heap.size w v → TabF v) := fun v hv => hT.below hv
  have hw5 := hT.1.2.2
  clear hp h hT
  have hB : Below w.heap.size w ((w.alloc (.cells (arrP p k) 26)).alloc (.cells #[.int .i64 e.kind, .int .i64 e.value, .slice a e.kids.length c] 29)) := ((Below.refl _ w).alloc (Nat.le_refl _) _).alloc (by simp) _
  have e1 : BoxE ((w.alloc (.cells (arrP p k) 26)).alloc (.cells #[.int .i64 e.kind, .int .i64 e.value, .slice a e.kids.length c] 29)) (w.heap.size + 1) e a c := by
    have e1 := BoxE.new (w.alloc (.cells (arrP p k) 26)) e a c 29
    rw [World.size_alloc] at e1
    exact e1
  have HB := Lib.hid hB
  have HX := Lib.hid e1
  clear hB e1
  go_enter Tryd.func17, Tryd.ntmps17
  go_wp2_with fail
  obtain ⟨W, hW⟩ : ∃ W, ((w.alloc (.cells (arrP p k) 26)).alloc (.cells #[.int .i64 e.kind, .int .i64 e.value, .slice a e.kids.length c] 29)) = W := ⟨_, rfl⟩
  unfold arrP at hW
  rw [hW] at HB HX ⊢
  clear hW
  have hzW := HB.out.size
  refine (iExprValidC p k e a c W (HT.out _ HB.out).2 (by omega) (HP.out _ HB.out) (HE.out _ HB.out)).mono ?_
  rintro f u ⟨rfl, hb⟩
  have HB2 := Lib.hid (HB.out.trans (hb.mono HB.out.size))
  have HX2 := Lib.hid (HX.out.below hb HX.out.lt)
  clear hb
  have hzu := HB2.out.size
  cases hq : exprB p e
  · have HA : Hid (ansE p e = []) := by
      have : ansE p e = [] := by unfold ansE; rw [hq]; rfl
      exact this
    clear hq
    go_wp2_with fail
    go_ret
    exact ⟨by rw [HA.out] <;> rfl, HB2.out⟩
  · have HA : Hid (ansE p e = txE 5 e) := by
      have : ansE p e = txE 5 e := by unfold ansE; rw [hq]; rfl
      exact this
    obtain ⟨hnv, hna, hs⟩ := exprB_parts hq
    have htl := txE_len _ _ 5 e hs
    have HSH := Lib.hid hs
    have hB3 : Below u.heap.size u (u.alloc (.cells #[.pointer none, .slice none 0 0] 74)) := (Below.refl _ u).alloc (Nat.le_refl _) _
    have HB3 := Lib.hid hB3
    have hi3 : IsB u.heap.size u.heap.size [] (u.alloc (.cells #[.pointer none, .slice none 0 0] 74)) := by
      have e := heap_alloc_new u (.cells #[.pointer none, .slice none 0 0] 74)
      exact .inl ⟨Nat.le_refl _, .slice none 0 0, e, World.ownsRowF_nil _ _ _ _, by simp [Value.ownBlock]⟩
    have HI3 := Lib.hid hi3
    have hx3 := HX2.out.below hB3 HX2.out.lt
    have x0 := hx3.c0
    have x1 := hx3.c1
    have x2 := hx3.c2
    clear hq hs hB3 hi3 hx3
    go_wp2_with fail
    obtain ⟨W3, hW3⟩ : ∃ W3, u.alloc (.cells #[.pointer none, .slice none 0 0] 74) = W3 := ⟨_, rfl⟩
    rw [hW3] at HB3 HI3 x0 x1 x2 ⊢
    clear hW3
    obtain ⟨D, n, hD, hE, _⟩ := HE.out _ HB2.out
    have HB4 := Lib.hid (HB2.out.trans (HB3.out.mono HB2.out.size))
    refine (writeExpr_one _ _ hnv hna 5 (Nat.le_refl _) n e _ _ _ D u.heap.size u.heap.size [] W3 (hE.later (Stand.of_below HB3.out hD)) hD HSH.out HI3.out (by simp) (HT.out _ HB4.out).1 (by omega)).mono ?_
    rintro f u2 ⟨rfl, h2, hb2, hk2⟩
    rw [List.nil_append] at h2
    have H2 := Lib.hid h2
    have HB5 := Lib.hid (HB2.out.trans ((HB3.out.trans hb2).mono HB2.out.size))
    have hz3 := (HB3.out.trans hb2).size
    clear h2 hb2 hk2 hE hD x0 x1 x2
    obtain ⟨s, hs⟩ : ∃ s, txE 5 e = s := ⟨_, rfl⟩
    rw [hs] at HA H2 htl
    clear hs
    go_wp2_with fail
    refine (Tryd.Builder_String_any_k u.heap.size u.heap.size s _ H2.out hz3).mono ?_
    rintro f w6 ⟨rfl, hbd6, hb6, hk6⟩
    have HB6 := Lib.hid (HB5.out.trans (hb6.mono HB2.out.size))
    clear hbd6 hb6 hk6
    go_wp2_with fail
    go_ret
    exact ⟨by rw [HA.out] <;> rfl, HB6.out⟩

end Go.Proofs.YtomgnnhbabnckaaDoor

/- The program's ParseLabels, walked: for every string of at most 2^20 bytes it returns what the model's does: in a new row the labels of the letters, and whether all are letters of labels; nothing that was there has changed. Condition: the table of letters lies as the program's text lays it. -/
import Derived.Test.YtmajmchiflggjaaDoorIter
namespace Go.Proofs.YtmajmchiflggjaaDoor
open Go.RowKit Go.Shelf

attribute [local go_sem] Oper.semAt_some

def L0s (l : List UInt8) : List Int := l.map L0
theorem L0s_ok {l : List UInt8} (h : parseOk l = true) : L0s l = Labs l := by
  unfold L0s Labs
  refine List.map_congr_left fun c hc => ?_
  have := List.all_eq_true.1 h c hc
  simp at this
  unfold L0
  rw [if_neg (by omega)]

theorem L0s_snoc (pre : List UInt8) (x : UInt8) : L0s (pre ++ [x]) = L0s pre ++ [L0 x] := by simp [L0s]
theorem parseOk_app (pre : List UInt8) (x : UInt8) : parseOk (pre ++ [x]) = (parseOk pre && Lok x) := by simp [parseOk, Lok]
theorem parseOk_pre {pre l : List UInt8} (h : pre <+: l) (hp : parseOk pre = false) : parseOk l = false := by
  obtain ⟨t, rfl⟩ := h
  unfold parseOk at *
  rw [List.all_append, hp]; rfl

set_option maxRecDepth 100000 in
set_option maxHeartbeats 2000000 in
theorem iParse_in (s : ByteArray) (w : World) (hs : s.size ≤ 1048576) (hT : Tbl w) (hw : 0 < w.heap.size) :
    CallsIn Fence.wide 5 Tryd.prog 9 #[.string s] w (Parsed s.data.toList w) := by
  obtain ⟨i0, hi, hz0, hz1, hz2⟩ := info_parts Tryd.infoI
  refine callsIn_of_wp_marks Tryd.func9 rfl trivial ?_ rfl
  simp only [Tryd.ntmps9, List.size_toArray, List.length_cons, List.length_nil, Nat.reduceAdd, Nat.reduceSub, Array.replicate_succ, Array.replicate_zero, List.push_toArray, List.append_toArray, List.nil_append, List.cons_append]
  gi_wp2_with (refine ⟨trivial, ?_⟩; gi_at_call 26; refine (lettered_in _ s _).mono ?_; rintro e w2 ⟨rfl, rfl⟩)
  obtain ⟨W0, hW0⟩ : ∃ W0, ((((w.alloc (.cells #[.slice none 0 0] 23)).alloc (.cells #[.bool false] 4)).alloc (.cells #[.slice none 0 0] 23)).alloc (.cells #[.string s] 9)) = W0 := ⟨_, rfl⟩
  have hsz : W0.heap.size = w.heap.size + 4 := by rw [← hW0]; simp
  have b0 : Boxed W0 w.heap.size 23 (.slice none 0 0) := by rw [← hW0]; exact (((Boxed.new w _ _).alloc _).alloc _).alloc _
  have b1 : Boxed W0 (w.heap.size + 1) 4 (.bool false) := by
    have := Boxed.new (w.alloc (.cells #[.slice none 0 0] 23)) 4 (.bool false)
    rw [World.size_alloc] at this
    rw [← hW0]; exact (this.alloc _).alloc _
  have b2 : Boxed W0 (w.heap.size + 1 + 1) 23 (.slice none 0 0) := by
    have := Boxed.new ((w.alloc (.cells #[.slice none 0 0] 23)).alloc (.cells #[.bool false] 4)) 23 (.slice none 0 0)
    rw [World.size_alloc, World.size_alloc] at this
    rw [← hW0]; exact this.alloc _
  have b3 : Boxed W0 (w.heap.size + 1 + 1 + 1) 9 (.string s) := by
    have := Boxed.new (((w.alloc (.cells #[.slice none 0 0] 23)).alloc (.cells #[.bool false] 4)).alloc (.cells #[.slice none 0 0] 23)) 9 (.string s)
    rw [World.size_alloc, World.size_alloc, World.size_alloc] at this
    rw [← hW0]; exact this
  have hB0 : Below w.heap.size w W0 := by
    rw [← hW0]; exact ((((Below.refl _ w).alloc (Nat.le_refl _) _).alloc (by simp) _).alloc (by simp; omega) _).alloc (by simp; omega) _
  rw [hW0]
  clear hW0
  have HT := Lib.hid (hT.below hB0 hw)
  clear hT
  refine wpIn_rangeFunc_ownG rfl (by omega) (gf := 32) (lb := #[.pointer (some ⟨w.heap.size + 1 + 1 + 1, 0, none⟩)]) rfl trivial (enters_of Tryd.func32 (by kernel_rfl) rfl)
    (lettered_stops 4 (by omega) (w.heap.size + 1 + 1 + 1) w.heap.size s W0 hs hw (by omega) b3 HT.out) KeepText.tr (KeepText.book (by omega) (by omega)) (Below.refl _ _) (fun _ => rfl)
    (fun pre W => (∃ v, Boxed W (w.heap.size + 1 + 1) 23 v ∧ W.ownsRow w.heap.size 3 1 v (L0s pre).length ((L0s pre).map (Value.int .i64)) ∧ True) ∧ (Boxed W w.heap.size 23 (.slice none 0 0) ∧ Boxed W (w.heap.size + 1) 4 (.bool false)) ∧ parseOk pre = true ∧ Below w.heap.size w W)
    (fun c pre W => (c = .ret ∧ parseOk pre = false) ∧ (Boxed W w.heap.size 23 (.slice none 0 0) ∧ Boxed W (w.heap.size + 1) 4 (.bool false)) ∧ Below w.heap.size w W)
    (OwnFrom.and (Own.from (holdsRow_own w.heap.size (w.heap.size + 1 + 1) 23 3 1 (fun pre => (L0s pre).length) (fun pre => (L0s pre).map (Value.int .i64)) (fun _ _ => True)) _) (OwnFrom.and (OwnFrom.and (Own.from (boxed_own _ _ _) _) (Own.from (boxed_own _ _ _) _)) (OwnFrom.and (ownFrom_pure _ _) (ownFrom_below (Nat.le_refl _) (by omega)))))
    (fun c => OwnFrom.and (ownFrom_pure _ _) (OwnFrom.and (OwnFrom.and (Own.from (boxed_own _ _ _) _) (Own.from (boxed_own _ _ _) _)) (ownFrom_below (Nat.le_refl _) (by omega))))
    ⟨⟨_, b2, World.ownsRow_nil _ _ _ _, trivial⟩, ⟨b0, b1⟩, rfl, hB0⟩
    (fun x => { tmps := #[.string s, undef, .pointer (some ⟨w.heap.size, 0, none⟩), .pointer (some ⟨w.heap.size + 1, 0, none⟩), .pointer (some ⟨w.heap.size + 1 + 1, 0, none⟩), .int .i64 (L0 x), .bool (Lok x), .string s, .func (.func 32) #[] #[.pointer (some ⟨w.heap.size + 1 + 1 + 1, 0, none⟩)], .int .i64 (L0 x), .bool (Lok x), undef, undef, undef, undef, undef, undef, undef], defers := [] }) ?assign ?body ?done ?stop
  case assign =>
    intro l x W K hK
    gi_wp2
    exact hK
  case body =>
    rintro l pre x W ⟨⟨v, hv, hrow, _⟩, ⟨q0, q1⟩, hP, hB⟩ hlt
    have HA : Hid (parseOk (pre ++ [x]) = (parseOk pre && Lok x)) := parseOk_app pre x
    have HS : Hid (L0s (pre ++ [x]) = L0s pre ++ [L0 x]) := L0s_snoc pre x
    have HP := Lib.hid hP
    have HB := Lib.hid hB
    have hle : (L0s pre).length ≤ 1048576 := by simp [L0s]; simp at hlt; omega
    have hWs := hB.size
    have HLT := Lib.hid hlt
    clear hP hB hlt
    cases hx : Lok x
    case false =>
      have c0 := q0.cell
      have f0 := q0.frozen
      have c1 := q1.cell
      have f1 := q1.frozen
      have HQ0 := Lib.hid q0
      have HQ1 := Lib.hid q1
      clear q0 q1 hrow hv
      gi_wp2
      refine ⟨((KeepsOthers.setCell _ _ _).trans (KeepsOthers.setCell _ _ _)).from _, ⟨rfl, ?_⟩, ⟨(HQ0.out.set _).other (by omega) _, (HQ1.out.other (by omega) _).set _⟩, (HB.out.setCell (p := ⟨w.heap.size, 0, none⟩) (Nat.le_refl _) _).setCell (p := ⟨w.heap.size + 1, 0, none⟩) (by simp) _⟩
      rw [HA.out, hx]; simp
    case true =>
      have c2 := hv.cell
      have HQ0 := Lib.hid q0
      have HQ1 := Lib.hid q1
      clear q0 q1
      gi_wp2_with (gi_at_builtin; refine wpListIn_append_own _ rfl _ _ 23 rfl w.heap.size 3 i0 (.int .i64 0) 1 8 Tryd.underlying23 hi hz0 hz1 hz2 rfl (by decide) _ _ _ rfl (hrow.alloc _) ⟨W.heap.size, 0, none⟩ 1 1 [.int .i64 (L0 x)] rfl rfl (cell_one_new _ _ _) (by simp [Value.oneCell']) (by unfold maxLen; omega) (by omega) (by simp; omega) ?_; intro v' w1 hown' hgrow _; obtain ⟨g', cap', rfl⟩ := ownsRow_succ hown'; obtain ⟨hv1, hv2, hr2, hk2, hb2⟩ := hv.appended (by decide) hrow hWs (by omega) hown' hgrow; have hc1 := hv1.cell; have hf1 := hv1.frozen)
      have k0 := ((HQ0.out.alloc _).kept hgrow (HQ0.out.not_row (by decide) hrow)).other (B' := w.heap.size + 1 + 1) (by omega) (.slice (some ⟨g', 0, none⟩) ((L0s pre).length + 1) cap')
      have k1 := ((HQ1.out.alloc _).kept hgrow (HQ1.out.not_row (by decide) hrow)).other (B' := w.heap.size + 1 + 1) (by omega) (.slice (some ⟨g', 0, none⟩) ((L0s pre).length + 1) cap')
      refine ⟨hk2.from _, ⟨hb2, fun bx => ((bx.alloc _).kept hgrow (bx.not_row (by decide) hrow)).other (by omega) _⟩, ⟨_, hv2, ?_, trivial⟩, ⟨k0, k1⟩, ?_, HB.out.trans hb2⟩
      · rw [HS.out]; simpa using hr2
      · rw [HA.out, HP.out, hx]; rfl
  case done =>
    rintro D ys W hD rfl ⟨⟨v, hv, hrow, _⟩, ⟨q0, q1⟩, hP, hB⟩ hK
    obtain ⟨a, m, c, rfl⟩ : ∃ a m c, v = .slice a m c := by
      rcases hrow.2 with ⟨h, _⟩ | ⟨g, cap, cur, h, _⟩
      · exact ⟨_, _, _, h⟩
      · exact ⟨_, _, _, h⟩
    have c0 := q0.cell
    have f0 := q0.frozen
    have c1 := q1.cell
    have f1 := q1.frozen
    have c2 := hv.cell
    have HV := Lib.hid hv
    have HR := Lib.hid hrow
    have HQ0 := Lib.hid q0
    have HQ1 := Lib.hid q1
    have HP := Lib.hid hP
    have HB := Lib.hid hB
    have HK := Lib.hid hK
    clear hv hrow q0 q1 hP hB hK
    gi_wp2
    have hK' := ((KeepsOthers.setCell W ⟨w.heap.size, 0, none⟩ (.slice a m c)).trans (KeepsOthers.setCell _ ⟨w.heap.size + 1, 0, none⟩ (.bool true))).same D _ HK.out rfl
    refine ⟨by simp, .inl ⟨_, _, rfl, run_takeDeferred hK', ?_⟩⟩
    have B0 := (HQ0.out.set (.slice a m c)).other (B' := w.heap.size + 1) (by omega) (.bool true)
    have B1 := (HQ1.out.other (B' := w.heap.size) (by omega) (.slice a m c)).set (.bool true)
    have r1 := HR.out.kept (grownBy_setCell' W w.heap.size (.slice a m c)) (.inr (HQ0.out.not_row (by decide) HR.out).symm)
    have r2 := r1.kept (grownBy_setCell' (W.setCell ⟨w.heap.size, 0, none⟩ (.slice a m c)) (w.heap.size + 1) (.bool true)) (.inr ((HQ1.out.other (B' := w.heap.size) (by omega) (.slice a m c)).not_row (by decide) r1).symm)
    have r3 := ownsRow_putObj r2 (.deferred none) hK' rfl
    have p0 := cell_kept B0.cell (grownBy_putObj' _ D (.deferred none)) (fun r e => by cases e; exact ⟨_, hK', rfl⟩)
    have p1 := cell_kept B1.cell (grownBy_putObj' _ D (.deferred none)) (fun r e => by cases e; exact ⟨_, hK', rfl⟩)
    have hb := (((HB.out.setCell (p := ⟨w.heap.size, 0, none⟩) (Nat.le_refl _) (.slice a m c)).setCell (p := ⟨w.heap.size + 1, 0, none⟩) (by simp) (.bool true))).trans (belowK_b (w := w) (Nat.le_refl _) _ D _ (.deferred none) (by omega) hK' rfl rfl)
    refine ⟨.tuple #[.slice a m c, .bool true], ?_, ?_⟩
    · simp [results, Tryd.f9, go_sem, p0, p1]
    · refine ⟨_, ret_two HP.out.symm, ?_, hb⟩
      rw [parsed_ok HP.out, ← L0s_ok HP.out]
      exact r3
  case stop =>
    rintro D c pre W hD hSp ⟨⟨rfl, hP⟩, ⟨q0, q1⟩, hB⟩ hK
    have HQ0 := Lib.hid q0
    have HQ1 := Lib.hid q1
    have HP := Lib.hid (parseOk_pre hSp hP)
    have HB := Lib.hid hB
    have HK := Lib.hid hK
    clear q0 q1 hP hB hK
    gi_wp2
    refine ⟨by simp, .inl ⟨_, _, rfl, run_takeDeferred HK.out, ?_⟩⟩
    have p0 := cell_kept HQ0.out.cell (grownBy_putObj' _ D (.deferred none)) (fun r e => by cases e; exact ⟨_, HK.out, rfl⟩)
    have p1 := cell_kept HQ1.out.cell (grownBy_putObj' _ D (.deferred none)) (fun r e => by cases e; exact ⟨_, HK.out, rfl⟩)
    have hb := HB.out.trans (belowK_b (w := w) (Nat.le_refl _) _ D _ (.deferred none) (by omega) HK.out rfl rfl)
    refine ⟨.tuple #[.slice none 0 0, .bool false], ?_, ?_⟩
    · simp [results, Tryd.f9, go_sem, p0, p1]
    · refine ⟨_, ret_two HP.out.symm, ?_, hb⟩
      rw [parsed_no HP.out]
      exact World.ownsRow_nil _ _ _ _

/-- **ParseLabels OF THE PROGRAM ANSWERS AS ITS MODEL.** -/
theorem iParse_one (s : ByteArray) (w : World) (hs : s.size ≤ 1048576) (hT : Tbl w) (hw : 0 < w.heap.size) :
    Calls Tryd.prog 9 #[.string s] w (Parsed s.data.toList w) := callsIn_wide.1 (iParse_in s w hs hT hw)

end Go.Proofs.YtmajmchiflggjaaDoor

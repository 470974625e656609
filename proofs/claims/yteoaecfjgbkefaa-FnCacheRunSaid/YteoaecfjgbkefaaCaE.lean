/- Drawn traces: l10Trace hands back at most eight events in a row of its own. -/
import Derived.Test.YteoaecfjgbkefaaCaD
import Derived.Test.YteoaecfjgbkefaaTrE
import Derived.Deep.AppendLies
namespace Go.Proofs.Yteoaecfjgbkefaa
open Go.RowKit
set_option linter.unusedVariables false

/-- A drawn trace. -/
def DrTr (B m : Nat) (w : World) (e : Ending) (w' : World) : Prop := ∃ (ps : List (Int × Int)) (a : Option Addr) (n c : Nat), e = .returned (.slice a n c) ∧ ps.length = n ∧ n ≤ 8 ∧ RowEv w' w.heap.size (.slice a n c) ps ∧ RdU w' B m ∧ Oth B w w' ∧ Below B w w'
theorem RowEv.far {w w' : World} {base B : Nat} {v : Value} {ps : List (Int × Int)} (h : RowEv w base v ps) (ho : Oth B w w') (hB : B < base) : RowEv w' base v ps := h.stand fun g hg hg' => ho.2 g hg' (by have := (h.lt g hg).1; omega)

/-- The state of the drawing loop. -/
def TrL (B m : Nat) (w : World) (o i : Value) (wr : World) : Prop := ∃ (r n c : Nat) (a : Option Addr) (ps : List (Int × Int)), i = .int .i64 (r : Int) ∧ o = .slice a n c ∧ n + r ≤ 8 ∧ ps.length = n ∧ RowEv wr w.heap.size (.slice a n c) ps ∧ RdU wr B (m + 1 + 2 * n) ∧ Oth B w wr ∧ Below B w wr

set_option maxRecDepth 100000 in
set_option maxHeartbeats 8000000 in
/-- **l10Trace.** -/
theorem drTr_one (B m : Nat) (w : World) (h : RdU w B m) (hm : m ≤ 1000000) :
    Calls Try.prog 60 #[.pointer (some ⟨B, 0, none⟩)] w (DrTr B (m + 20) w) := by
  obtain ⟨i0, hinf, hj0, hj1, hj2⟩ := info_parts infoEv
  have hBw := h.lt
  obtain ⟨A2, hA2⟩ : ∃ A, (w.alloc (.cells #[] 43)).alloc (.cells #[.int .i64 4, .int .i64 6, .int .i64 3, .int .i64 8, .int .i64 0, .int .i64 1] 3) = A := ⟨_, rfl⟩
  have hge2 : w.heap.size + 2 ≤ A2.heap.size := by rw [← hA2]; simp
  have HR2 : Hid (RdU A2 B m) := by rw [← hA2]; exact (h.alloc _).alloc _
  have HO2 : Hid (Oth B w A2) := by rw [← hA2]; exact (oth_alloc B w _).alloc _
  have HB2 : Hid (Below B w A2) := by rw [← hA2]; exact ((Below.refl B w).alloc (by omega) _).alloc (by simp; omega) _
  have HW2 : Hid (RowEv A2 w.heap.size (.slice (some ⟨w.heap.size, 0, none⟩) 0 0) []) := by
    rw [← hA2]
    exact (RowEv.made w w.heap.size (Nat.le_refl _)).stand fun g _ hg => Below.heap_alloc _ _ _ hg
  have HC2 : Hid (∀ i, i < 6 → A2.cell? ⟨w.heap.size + 1, 0 + i, none⟩ = some (.int .i64 (([4, 6, 3, 8, 0, 1] : List Int).getD i 0))) := fun i hi => by
    rw [← hA2]
    have := lit_cells (w.alloc (.cells #[] 43)) [4, 6, 3, 8, 0, 1] 3 i hi
    simpa using this
  have HA2 := Lib.hid hA2
  clear h hA2
  go_enter Try.func60, Try.ntmps60
  go_wp2_with fail
  rw [HA2.out]
  refine (numU B m (w.heap.size + 1) 0 6 6 [4, 6, 3, 8, 0, 1] A2 HR2.out (by omega) (by omega) rfl (by omega) (by omega) HC2.out).mono ?_
  rintro e w1 ⟨v1, hv1, rfl, hr1, ho1, hb1⟩
  have hz1 := ho1.1
  obtain ⟨r1, rfl, hr8⟩ : ∃ r : Nat, v1 = (r : Int) ∧ r ≤ 8 := by
    simp only [List.mem_cons, List.mem_nil_iff, or_false] at hv1
    rcases hv1 with rfl | rfl | rfl | rfl | rfl | rfl
    · exact ⟨4, rfl, by omega⟩
    · exact ⟨6, rfl, by omega⟩
    · exact ⟨3, rfl, by omega⟩
    · exact ⟨8, rfl, by omega⟩
    · exact ⟨0, rfl, by omega⟩
    · exact ⟨1, rfl, by omega⟩
  have HL0 : Hid (TrL B m w (.slice (some ⟨w.heap.size, 0, none⟩) 0 0) (.int .i64 (r1 : Int)) w1) := ⟨r1, 0, 0, _, [], rfl, rfl, by omega, rfl, HW2.out.far ho1 hBw, hr1, HO2.out.trans ho1, HB2.out.trans hb1⟩
  clear hv1 hr1 ho1 hb1 hr8
  go_wp2_with fail
  go_loopw [3, 4] (fun o i wr => TrL B m w o i wr) (fun _ i _ => (intOf i).toNat)
  case atStart => exact HL0.out
  case round =>
    obtain ⟨r, n, c, a, ps, rfl, rfl, hnr, hlen, hrow, hrd, hoth, hbel⟩ := hrel
    have HLEN := Lib.hid hlen
    have HROW := Lib.hid hrow
    have HRD := Lib.hid hrd
    have HOTH := Lib.hid hoth
    have HBEL := Lib.hid hbel
    have hzr := hoth.1
    clear hlen hrow hrd hoth hbel HL0
    by_cases hlt : 0 < r
    · obtain ⟨A3, hA3⟩ : ∃ A, wr.alloc (.cells #[.int .i64 5, .int .i64 2, .int .i64 3, .int .i64 2, .int .i64 4] 3) = A := ⟨_, rfl⟩
      have hz3 : wr.heap.size + 1 ≤ A3.heap.size := by rw [← hA3]; simp
      have HR3 : Hid (RdU A3 B (m + 1 + 2 * n)) := by rw [← hA3]; exact HRD.out.alloc _
      have HO3 : Hid (Oth B wr A3) := by rw [← hA3]; exact oth_alloc B wr _
      have HB3 : Hid (Below B w A3) := by rw [← hA3]; exact HBEL.out.alloc (by omega) _
      have HC3 : Hid (∀ i, i < 5 → A3.cell? ⟨wr.heap.size, 0 + i, none⟩ = some (.int .i64 (([5, 2, 3, 2, 4] : List Int).getD i 0))) := fun i hi => by
        rw [← hA3]
        exact lit_cells wr [5, 2, 3, 2, 4] 3 i hi
      have HA3 := Lib.hid hA3
      clear hA3
      go_wp2_with fail
      rw [HA3.out]
      refine (numU B (m + 1 + 2 * n) wr.heap.size 0 5 5 [5, 2, 3, 2, 4] A3 HR3.out (by omega) (by omega) rfl (by omega) (by omega) HC3.out).mono ?_
      rintro e w3 ⟨kd, _, rfl, hr3, ho3, hb3⟩
      have HR4 := Lib.hid hr3
      have HO4 := Lib.hid (HO3.out.trans ho3)
      have HB4 := Lib.hid (HB3.out.trans hb3)
      have hz4 := ho3.1
      clear hr3 ho3 hb3
      go_wp2_with fail
      refine (pickU B (m + 1 + 2 * n + 1) 8 w3 HR4.out (by omega) (by omega) (by omega)).mono ?_
      rintro e w4 ⟨vl, _, rfl, hr4, ho4, hb4⟩
      have hz5 := ho4.1
      have hRow4 : RowEv w4 w.heap.size (.slice a n c) ps := HROW.out.far (HO4.out.trans ho4) hBw
      have HRow4 := Lib.hid hRow4
      have HR5 := Lib.hid hr4
      have HO5 : Hid (Oth B w w4) := HOTH.out.trans (HO4.out.trans ho4)
      have HB5 := Lib.hid (HB4.out.trans hb4)
      have hL : (w4.alloc (.cells #[.int .i64 kd, .int .i64 vl] 43)).ownsRow w.heap.size 43 2 (.slice a n c) n (flatE ps) := by
        have h2 := (hRow4.stand (w' := w4.alloc (.cells #[.int .i64 kd, .int .i64 vl] 43)) fun g _ hg => Below.heap_alloc _ _ _ hg).flat
        rw [HLEN.out] at h2
        exact h2
      have hNB : (w4.alloc (.cells #[.int .i64 kd, .int .i64 vl] 43)).heap[w4.heap.size]? = some (.cells #[.int .i64 kd, .int .i64 vl] 43 (0, 0)) := heap_alloc_new w4 _
      clear hRow4 hr4 ho4 hb4
      go_wp2_with (at_builtin; refine wpList_append_lies _ (by rfl) _ _ 33 (by rfl) w.heap.size 43 i0 _ 2 16 Try.underlying33 hinf hj0 hj1 hj2 rfl (by omega) (.slice a n c) n _ (by rfl) hL ⟨w4.heap.size, 0, none⟩ 1 1 _ (by rfl) (by rfl) (World.news_of_block hNB) (by simp [Value.oneCell']) (by omega) (by unfold maxLen; omega) (by omega) (by simp; omega) (w4.heap.size + 1) (by simp) ?_; intro g cp w6 hown6 hgrow hat hlt6)
      have HREL : Hid (TrL B m w (.slice (some ⟨g, 0, none⟩) (n + 1) cp) (.int .i64 ((r : Int) - 1)) w6) := by
        have hne : ∀ q, (Value.slice a n c).ownBlock = some q → w.heap.size ≤ q := fun q hq => (HRow4.out.lt q hq).1
        have hbf : Below w.heap.size w4 w6 := ((Below.refl w.heap.size w4).alloc (by omega) _).grown hgrow (by simp; omega) hne
        refine ⟨r - 1, n + 1, cp, some ⟨g, 0, none⟩, ps ++ [(kd, vl)], by congr 1; omega, rfl, by omega, by rw [List.length_append, HLEN.out]; rfl, ?_, (HR5.out.below hbf hBw).mono (by omega), HO5.out.far hbf, HB5.out.trans (hbf.mono (by omega))⟩
        have h2 : RowEv w6 w.heap.size (.slice (some ⟨g, 0, none⟩) (n + 1) cp) (ps ++ [(kd, vl)]) := by
          refine RowEv.ofFlat ?_
          rw [List.length_append, HLEN.out, flatE_app]
          exact hown6
        exact h2
      clear hown6 hgrow hat hlt6 hL hNB
      go_wp2_with fail
      go_roundw
      case rel => exact HREL.out
      case measure => simp [intOf]; omega
    · obtain rfl : r = 0 := by omega
      have HEND : Hid (∀ (u : World) (k : Nat), k ≤ m + 20 → RdU u B k → Oth B wr u → Below B wr u → DrTr B (m + 20) w (.returned (.slice a n c)) u) := fun u k hk h1 h2 h3 =>
        ⟨ps, a, n, c, rfl, HLEN.out, by omega, HROW.out.far h2 hBw, h1.mono hk, HOTH.out.trans h2, HBEL.out.trans h3⟩
      by_cases hn0 : n = 0
      · subst hn0
        have HFIN := Lib.hid (HEND.out wr _ (by omega) HRD.out (Oth.refl _ _) (Below.refl _ _))
        clear HEND HROW
        go_wp2_with fail
        go_ret
        exact HFIN.out
      · have hnp : 0 < n := by omega
        have hnp' : (0 : Int) < (n : Int) := by omega
        clear hn0
        go_wp2_with fail
        refine (pickU B (m + 1 + 2 * n) 20 wr HRD.out (by omega) (by omega) (by omega)).mono ?_
        rintro e w3 ⟨v3, _, rfl, hr3, ho3, hb3⟩
        have hz3 := ho3.1
        by_cases hv0 : v3 = 0
        · subst hv0
          have HROW3 := Lib.hid (HROW.out.far ho3 hBw)
          have HO3 : Hid (Oth B w w3) := HOTH.out.trans ho3
          have HB3 : Hid (Below B w w3) := HBEL.out.trans hb3
          obtain ⟨A6, hA6⟩ : ∃ A, w3.alloc (.cells #[.int .i64 8, .int .i64 (-1), .int .i64 9223372036854775807] 3) = A := ⟨_, rfl⟩
          have HR6 : Hid (RdU A6 B (m + 1 + 2 * n + 1)) := by rw [← hA6]; exact hr3.alloc _
          have HO6 : Hid (Oth B w3 A6) := by rw [← hA6]; exact oth_alloc B w3 _
          have HB6 : Hid (Below B w A6) := by rw [← hA6]; exact HB3.out.alloc (by omega) _
          have HC6 : Hid (∀ i, i < 3 → A6.cell? ⟨w3.heap.size, 0 + i, none⟩ = some (.int .i64 (([8, -1, 9223372036854775807] : List Int).getD i 0))) := fun i hi => by
            rw [← hA6]
            exact lit_cells w3 [8, -1, 9223372036854775807] 3 i hi
          have hz6 : w3.heap.size + 1 ≤ A6.heap.size := by rw [← hA6]; simp
          have HA6 := Lib.hid hA6
          clear hA6 hr3 ho3 hb3 HEND HROW HRD HOTH HBEL
          go_wp2_with fail
          rw [HA6.out]
          refine (numU B (m + 1 + 2 * n + 1) w3.heap.size 0 3 3 [8, -1, 9223372036854775807] A6 HR6.out (by omega) (by omega) rfl (by omega) (by omega) HC6.out).mono ?_
          rintro e w4 ⟨v4, _, rfl, hr4, ho4, hb4⟩
          have hz4 := ho4.1
          have hrow4 := HROW3.out.far (HO6.out.trans ho4) hBw
          obtain ⟨g, cur, rfl, hg, hblk, hcs, hnc, hcm⟩ := hrow4.ptr (by omega)
          obtain ⟨⟨x0, x1⟩, hx⟩ : ∃ x, ps[0]? = some x := ⟨ps[0]'(by rw [HLEN.out]; exact hnp), List.getElem?_eq_getElem _⟩
          obtain ⟨⟨u0, u1, hu0, hu1⟩, hf0, hf1⟩ := ev_cells2 (o := 0) hblk (by rw [hcs]; omega)
          have hr1' := hrow4.setK HLEN.out hx 2
          have hx1 : (ps.set 0 (2, x1))[0]? = some (2, x1) := List.getElem?_set_self (by rw [HLEN.out]; exact hnp)
          have hr2' := hr1'.setV (by rw [List.length_set]; exact HLEN.out) hx1 v4
          have hbf : Below w.heap.size w4 ((w4.setCell ⟨g, 0, none⟩ (.int .i64 2)).setCell ⟨g, 0 + 1, none⟩ (.int .i64 v4)) := ((Below.refl _ w4).setCell (p := ⟨g, 0, none⟩) hg _).setCell (p := ⟨g, 0 + 1, none⟩) hg _
          have HFIN : Hid (DrTr B (m + 20) w (.returned (.slice (some ⟨g, 0, none⟩) n c)) ((w4.setCell ⟨g, 0, none⟩ (.int .i64 2)).setCell ⟨g, 0 + 1, none⟩ (.int .i64 v4))) := by
            refine ⟨(ps.set 0 (2, x1)).set 0 (2, v4), _, n, c, rfl, ?_, by omega, hr2', (hr4.below hbf hBw).mono (by omega), ((HO3.out.trans HO6.out).trans ho4).far hbf, (HB6.out.trans hb4).trans (hbf.mono (by omega))⟩
            rw [List.length_set, List.length_set]; exact HLEN.out
          clear hrow4 hr1' hr2' hbf hr4 ho4 hb4 hx hx1 hblk
          simp only [Nat.zero_add] at hu1 hf1 HFIN
          go_wp2_with fail
          go_ret
          exact HFIN.out
        · have hv0' : (v3 == 0) = false := by simpa using hv0
          have HFIN := Lib.hid (HEND.out w3 _ (by omega) hr3 ho3 hb3)
          clear hr3 ho3 hb3 HEND HROW hv0
          go_wp2_with fail
          go_ret
          exact HFIN.out

end Go.Proofs.Yteoaecfjgbkefaa

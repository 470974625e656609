/- The program's CacheRun. -/
import Derived.Test.YteoaecfjgbkefaaCaZ
import Derived.Test.YteoaecfjgbkefaaCaT
import Derived.Test.YteoaecfjgbkefaaCaL
namespace Go.Proofs.Yteoaecfjgbkefaa
open Go.RowKit Go.Shelf
set_option linter.unusedVariables false

theorem crP_le {c : Ca} {es : List Ev} (h : okCa c = true) : (∃ d hs, runV (some (c, [])) (vls es) = some (d, hs) ∧ crP c.l es = (d.l, hs, true)) ∨ (runV (some (c, [])) (vls es) = none ∧ crP c.l es = ([], [], false)) := by
  cases hr : runV (some (c, [])) (vls es) with
  | none => exact .inr ⟨rfl, crP_none hr⟩
  | some x => obtain ⟨d, hs⟩ := x; exact .inl ⟨d, hs, rfl, crP_yes h hr⟩

set_option maxRecDepth 100000 in
set_option maxHeartbeats 8000000 in
/-- **impl.CacheRun.** -/
theorem iCR_one (xs : List Int) (es : List Ev) (a : Option Addr) (n cp : Nat) (ea : Option Addr) (en ec : Nat) (w : World) (h : SliceI w a n xs) (he : EvL w es ea ec) (hen : es.length = en) (hem : en ≤ 1048576) :
    Calls Try.prog 24 #[aggCa a n cp, .slice ea en ec] w (CrQ (crP xs es).1 (crP xs es).2.1 (crP xs es).2.2 w) := by
  obtain ⟨W2, hW2⟩ : ∃ W, (w.alloc (.cells #[.slice a n cp] 25)).alloc (.cells #[.slice none 0 0] 25) = W := ⟨_, rfl⟩
  have hz2 : w.heap.size + 2 ≤ W2.heap.size := by rw [← hW2]; simp
  have hB2 : Below w.heap.size w W2 := by rw [← hW2]; exact ((Below.refl _ w).alloc (Nat.le_refl _) _).alloc (by simp) _
  have hR : BoxCa W2 (w.heap.size + 1) none 0 0 := by
    rw [← hW2]
    have := BoxCa.new (w.alloc (.cells #[.slice a n cp] 25)) none 0 0 25
    simpa using this
  have HS := Lib.hid (h.below hB2)
  have HE : Hid (EvAt w (fun b => b < w.heap.size) es ea) := he.2.2
  have HN := Lib.hid hen
  have HW := Lib.hid hW2
  have HR := Lib.hid hR
  have HB := Lib.hid hB2
  clear hW2 hR hB2 h he hen
  go_enter Try.func24, Try.ntmps24
  go_wp2_with fail
  rw [HW.out]
  refine (iLinesOf_one xs a n cp W2 HS.out).mono ?_
  rintro e w3 ⟨c, rfl, hc, hb3⟩
  have HC := Lib.hid hc
  have HR3 := Lib.hid (HR.out.below hb3)
  have HB3 : Hid (Below w.heap.size w w3) := HB.out.trans (hb3.mono (by omega))
  have hz3 : w.heap.size + 2 ≤ w3.heap.size := by have := hb3.size; omega
  obtain ⟨w5, hw5⟩ : ∃ w5, (w3.alloc (.cells #[.int .i64 c.c0, .int .i64 c.c1] 67)).alloc (.cells #[.slice none 0 0] 36) = w5 := ⟨_, rfl⟩
  have h35 : Below w3.heap.size w3 w5 := by rw [← hw5]; exact ((Below.refl _ _).alloc (Nat.le_refl _) _).alloc (by simp) _
  have hx5 : BoxLn w5 w3.heap.size c := by rw [← hw5]; exact (BoxLn.new w3 c).below ((Below.refl _ _).alloc (Nat.le_refl _) _)
  have ht5 : Boxed w5 (w3.heap.size + 1) 36 (.slice none 0 0) := by
    rw [← hw5]
    have h := Boxed.new (w3.alloc (.cells #[.int .i64 c.c0, .int .i64 c.c1] 67)) 36 (.slice none 0 0)
    rw [World.size_alloc] at h
    exact h
  have hz5 : w3.heap.size + 2 ≤ w5.heap.size := by rw [← hw5]; simp
  have hR5 := HR3.out.below h35
  have HR5 := Lib.hid hR5
  have HB5 : Hid (Below w.heap.size w w5) := HB3.out.trans (h35.mono (by omega))
  have HX5 := Lib.hid hx5
  have HT5 := Lib.hid ht5
  have HW5 := Lib.hid hw5
  have HE5 : Hid (EvAt w5 (fun b => b < w3.heap.size) es ea) := fun i x hx => by
    obtain ⟨b, o, ha, hbl, h1, h2⟩ := HE.out i x hx
    exact ⟨b, o, ha, show b < w3.heap.size by omega, (HB5.out.cell (p := ⟨b, o + i * 2, none⟩) hbl).trans h1, (HB5.out.cell (p := ⟨b, o + i * 2 + 1, none⟩) hbl).trans h2⟩
  have hs1 : (#[Value.slice none 0 0] : Array Value).size = 1 := rfl
  have m5 : ((w3.alloc (.cells #[.int .i64 c.c0, .int .i64 c.c1] 67)).alloc (.cells #[.slice none 0 0] 36)).cell? ⟨w.heap.size + 1, 0, none⟩ = some (.slice none 0 0) := by rw [hw5]; exact hR5.c0
  have n5 : ((w3.alloc (.cells #[.int .i64 c.c0, .int .i64 c.c1] 67)).alloc (.cells #[.slice none 0 0] 36)).frozen? ⟨w.heap.size + 1, 0, none⟩ = false := by rw [hw5]; exact hR5.f0
  clear hc hb3 hw5 h35 hx5 ht5 hR5
  cases hq : okL xs with
  | false =>
    have HBAD := Lib.hid (crP_bad (es := es) hq)
    have R0 : Hid ((((w3.alloc (.cells #[.int .i64 c.c0, .int .i64 c.c1] 67)).alloc (.cells #[.slice none 0 0] 36)).setCell ⟨w.heap.size + 1, 0, none⟩ (.slice none 0 0)).cell? ⟨w.heap.size + 1, 0, none⟩ = some (.slice none 0 0)) := World.cell?_setCell_same' _ _ _ (by rw [m5]; rfl)
    have HFIN : Hid (CrQ (crP xs es).1 (crP xs es).2.1 (crP xs es).2.2 w (.returned (.tuple #[aggCa none 0 0, .slice none 0 0, .bool false])) (((w3.alloc (.cells #[.int .i64 c.c0, .int .i64 c.c1] 67)).alloc (.cells #[.slice none 0 0] 36)).setCell ⟨w.heap.size + 1, 0, none⟩ (.slice none 0 0))) := by
      rw [HBAD.out]
      exact ⟨none, 0, 0, none, 0, 0, rfl, rfl, rfl, OwnI.nil' _ _, OwnB.nil _ _, ((HB3.out.alloc (by omega) _).alloc (by simp; omega) _).setCell (p := ⟨w.heap.size + 1, 0, none⟩) (by simp) _⟩
    clear hq
    go_wp2_with fail
    have r0 := R0.out
    exact bodyPost_ret (v := .tuple #[aggCa none 0 0, .slice none 0 0, .bool false]) (by simp [results, Try.f24, go_sem, r0]) rfl HFIN.out
  | true =>
    obtain ⟨rfl, hok⟩ := HC.out hq
    have HCR := Lib.hid (crP_le (es := es) hok)
    clear hq hok m5 n5
    go_wp2_with fail
    rw [HW5.out]
    refine (callsIn_wide.1 (run1_in c w3.heap.size (w3.heap.size + 1) es ea en ec w5 HX5.out HT5.out (by omega) (by omega) HE5.out HN.out hem)).mono ?_
    rintro e w6 ⟨z, hz, hb6, hans⟩
    have hR6 : BoxCa w6 (w.heap.size + 1) none 0 0 := HR5.out.later (hb6.block _ (by omega))
    have HR6 := Lib.hid hR6
    have HB6 : Hid (Below w.heap.size w w6) := HB5.out.trans (hb6.mono (by omega))
    have hz6 := hb6.size
    have m6 := hR6.c0
    have n6 := hR6.f0
    clear hb6 hR6
    rcases hans with ⟨d, hs, hrun, rfl, hxd, htd⟩ | ⟨hno, rfl⟩
    · have hcr : crP c.l es = (d.l, hs, true) := by
        rcases HCR.out with ⟨d', hs', h1, h2⟩ | ⟨h1, _⟩
        · rw [hrun] at h1; cases h1; exact h2
        · rw [hrun] at h1; cases h1
      obtain ⟨b, m, cq, hm, hbx, hob⟩ := htd
      have HM := Lib.hid hm
      have HBX := Lib.hid hbx
      have HOB := Lib.hid hob
      have HXD := Lib.hid hxd
      have HCQ := Lib.hid hcr
      have x0 := hxd.c0
      have x1 := hxd.c1
      have y0 := hbx.cell
      have x0d : w6.drew.cell? ⟨w3.heap.size, 0, none⟩ = _ := x0
      have x1d : w6.drew.cell? ⟨w3.heap.size, 1, none⟩ = _ := x1
      have y0d : w6.drew.cell? ⟨w3.heap.size + 1, 0, none⟩ = _ := y0
      clear hrun hcr hm hbx hob hxd
      go_wp2_with fail
      go_region_with (go_at_call 55; refine (iCache_one d w6.drew).mono ?_; rintro e w7 ⟨a7, n7, c7, rfl, hn7, ho7, hb7⟩; obtain rfl : 2 = n7 := hn7; have hR7 := (show BoxCa w6.drew (w.heap.size + 1) none 0 0 from HR6.out).below hb7; have m7 := hR7.c0; have n7 := hR7.f0; have y7 : w7.cell? ⟨w3.heap.size + 1, 0, none⟩ = some (.slice b m cq) := (cell_at ((hb7.block _ (show w3.heap.size + 1 < w6.heap.size by omega)).trans HBX.out) 0); have hs2 : (#[Value.slice a7 2 c7] : Array Value).size = 1 := rfl; have HO7 := Lib.hid ho7; have HB7 := Lib.hid hb7; clear hR7 ho7 hb7)
      all_goals
        have hz67 : w6.heap.size ≤ w7.heap.size := HB7.out.size
        have HFIN : Hid (CrQ (crP c.l es).1 (crP c.l es).2.1 (crP c.l es).2.2 w (.returned (.tuple #[aggCa a7 2 c7, .slice b m cq, .bool true])) (w7.setCell ⟨w.heap.size + 1, 0, none⟩ (.slice a7 2 c7))) := by
          rw [HCQ.out]
          refine ⟨a7, 2, c7, b, m, cq, rfl, rfl, HM.out, (HO7.out.mono (show w.heap.size ≤ w6.heap.size by omega)).far (fun q hq _ => ?_), ?_, (HB6.out.drew.trans (HB7.out.mono (show w.heap.size ≤ w6.heap.size by omega))).setCell (p := ⟨w.heap.size + 1, 0, none⟩) (by simp) _⟩
          · have h1 := (HO7.out.lt q hq).1
            exact Below.heap_setCell _ _ _ _ (by have h2 : w6.heap.size ≤ q := h1; simp; omega)
          · refine (HOB.out.mono (by omega)).far fun q hq hq' => ?_
            have h1 := (HOB.out.lt q hq).1
            rw [Below.heap_setCell _ _ _ _ (by simp; omega)]
            exact HB7.out.block q hq'
        have R0 : Hid ((w7.setCell ⟨w.heap.size + 1, 0, none⟩ (.slice a7 2 c7)).cell? ⟨w.heap.size + 1, 0, none⟩ = some (.slice a7 2 c7)) := World.cell?_setCell_same' _ _ _ (by rw [m7]; rfl)
        go_wp2_with fail
        have r0 := R0.out
        exact bodyPost_ret (v := .tuple #[aggCa a7 2 c7, .slice b m cq, .bool true]) (by simp [results, Try.f24, go_sem, r0]) rfl HFIN.out
    · have hcr : crP c.l es = ([], [], false) := by
        rcases HCR.out with ⟨d', hs', h1, h2⟩ | ⟨_, h2⟩
        · rw [hno] at h1; cases h1
        · exact h2
      have R0 : Hid ((w6.setCell ⟨w.heap.size + 1, 0, none⟩ (.slice none 0 0)).cell? ⟨w.heap.size + 1, 0, none⟩ = some (.slice none 0 0)) := World.cell?_setCell_same' _ _ _ (by rw [m6]; rfl)
      have HFIN : Hid (CrQ (crP c.l es).1 (crP c.l es).2.1 (crP c.l es).2.2 w (.returned (.tuple #[aggCa none 0 0, .slice none 0 0, .bool false])) (w6.setCell ⟨w.heap.size + 1, 0, none⟩ (.slice none 0 0))) := by
        rw [hcr]
        exact ⟨none, 0, 0, none, 0, 0, rfl, rfl, rfl, OwnI.nil' _ _, OwnB.nil _ _, HB6.out.setCell (p := ⟨w.heap.size + 1, 0, none⟩) (by simp) _⟩
      clear hno hcr
      go_wp2_with fail
      have r0 := R0.out
      exact bodyPost_ret (v := .tuple #[aggCa none 0 0, .slice none 0 0, .bool false]) (by simp [results, Try.f24, go_sem, r0]) rfl HFIN.out

end Go.Proofs.Yteoaecfjgbkefaa

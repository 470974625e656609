/- ProbeCache, the model's and the program's: a row of bools of the call's own. -/
import Derived.Test.YteoaecfjgbkefaaCaW
import Derived.Test.YteoaecfjgbkefaaCaH
import Derived.Test.YteoaecfjgbkefaaBlS
import Derived.Test.YteoaecfjgbkefaaCaF
namespace Go.Proofs.Yteoaecfjgbkefaa
open Go.RowKit
set_option linter.unusedVariables false

/-- What a probe answers. -/
def prbP (xs : List Int) : List Bool := if okL xs then xs.map fun x => x != -2 else []
theorem prbP_no {xs : List Int} (h : okL xs = false) : prbP xs = [] := by unfold prbP; rw [h]; rfl
theorem prbP_yes {c : Ca} (h : okCa c = true) : prbP c.l = [c.c0 != -2, c.c1 != -2] := by
  have h' : okL c.l = true := h
  unfold prbP; rw [h']; rfl
/-- A list of bools is handed back in a row of the call's own. -/
def OwnBl (L : List Bool) (w : World) (e : Ending) (w' : World) : Prop := ∃ a n c, e = .returned (.slice a n c) ∧ L.length = n ∧ OwnB w' w.heap.size (.slice a n c) L ∧ Below w.heap.size w w'
theorem OwnB.nil (w : World) (base : Nat) : OwnB w base (.slice none 0 0) [] := World.ownsRow_nil _ _ _ _
theorem OwnB.later {w w' : World} {base : Nat} {v : Value} {bs : List Bool} (h : OwnB w base v bs) (hb : Below w.heap.size w w') : OwnB w' base v bs := h.far fun g hg hg' => hb.block g hg'
theorem OwnB.mono {w : World} {base base' : Nat} {v : Value} {bs : List Bool} (h : OwnB w base v bs) (hb : base' ≤ base) : OwnB w base' v bs := by
  refine ⟨h.1, ?_⟩
  rcases h.2 with h1 | ⟨g, cp, cur, h1, h2, r⟩
  · exact .inl h1
  · exact .inr ⟨g, cp, cur, h1, by omega, r⟩

/-- The state of a probing loop. -/
def PbR (c : Ca) (w : World) (o i : Value) (wr : World) : Prop := ∃ (k n cp : Nat) (a : Option Addr), k ≤ 2 ∧ n = k ∧ i = .int .i64 (k : Int) ∧ o = .slice a n cp ∧ OwnB wr w.heap.size (.slice a n cp) ((c.l.map fun x => x != -2).take k) ∧ Below w.heap.size w wr
theorem pb_snoc {c : Ca} {k : Nat} (h : k < 2) : (c.l.map fun x => x != -2).take (k + 1) = (c.l.map fun x => x != -2).take k ++ [c.l.getD k 0 != -2] := by
  have : k = 0 ∨ k = 1 := by omega
  rcases this with rfl | rfl <;> rfl

set_option maxRecDepth 100000 in
set_option maxHeartbeats 4000000 in
/-- **impl.ProbeCache.** -/
theorem iPb_one (xs : List Int) (a : Option Addr) (n cp : Nat) (w : World) (h : SliceI w a n xs) :
    Calls Try.prog 32 #[aggCa a n cp] w (OwnBl (prbP xs) w) := by
  obtain ⟨k0, kinf, kj0, kj1, kj2⟩ := info_parts Try.infoB
  obtain ⟨W1, hW1⟩ : ∃ W, w.alloc (.cells #[.slice a n cp] 25) = W := ⟨_, rfl⟩
  have hB1 : Below w.heap.size w W1 := by rw [← hW1]; exact (Below.refl _ w).alloc (Nat.le_refl _) _
  have hz1 : w.heap.size + 1 ≤ W1.heap.size := by rw [← hW1]; simp
  have hA : BoxCa W1 w.heap.size a n cp := by rw [← hW1]; exact BoxCa.new w a n cp 25
  have HA := Lib.hid hA
  have HS := Lib.hid (h.below hB1)
  have HB1 := Lib.hid hB1
  have HW := Lib.hid hW1
  clear h hB1 hW1 hA
  go_enter Try.func32, Try.ntmps32
  go_wp2_with fail
  rw [HW.out]
  refine (iCv_one a n cp xs W1 HS.out).mono ?_
  rintro e w3 ⟨rfl, hb3⟩
  have HA3 := Lib.hid (HA.out.below hb3)
  have HS3 := Lib.hid (HS.out.below hb3)
  have HB3 : Hid (Below w.heap.size w w3) := HB1.out.trans (hb3.mono (by omega))
  have hz3 := hb3.size
  clear hb3
  cases hq : okL xs with
  | false =>
    have HN := Lib.hid (prbP_no hq)
    clear hq
    go_wp2_with fail
    go_ret
    exact ⟨none, 0, 0, rfl, by rw [HN.out]; rfl, by rw [HN.out]; exact OwnB.nil _ _, HB3.out⟩
  | true =>
    obtain ⟨c, rfl, hok⟩ := okL_two hq
    have hn : n = 2 := HS3.out.2.1.symm
    subst hn
    have HY := Lib.hid (prbP_yes hok)
    have x0 := HA3.out.c0
    have HL0 : Hid (PbR c w3 (.slice none 0 0) (.int .i64 0) w3) := ⟨0, 0, 0, none, by omega, rfl, rfl, rfl, OwnB.nil _ _, Below.refl _ _⟩
    have HCELL : Hid (∀ k, k < 2 → ∃ b o, a = some ⟨b, o, none⟩ ∧ b < w3.heap.size ∧ w3.cell? ⟨b, o + k, none⟩ = some (.int .i64 (c.l.getD k 0))) := fun k hk => by
      obtain ⟨b, o, ha, hc⟩ := HS3.out.2.2 k hk
      exact ⟨b, o, ha, World.block_lt_of_cell? _ _ hc, hc⟩
    clear hq hok
    go_wp2_with fail
    go_loopw [3, 12] (fun o i wr => PbR c w3 o i wr) (fun _ i _ => 2 - (intOf i).toNat)
    case atStart => exact HL0.out
    case round =>
      obtain ⟨k, n, c1, a1, hk, rfl, rfl, rfl, hown, hbel⟩ := hrel
      have HOWN := Lib.hid hown
      have HBEL := Lib.hid hbel
      have hzr := hbel.size
      clear hown hbel HL0
      by_cases hlt : n < 2
      · obtain ⟨b, o, rfl, hbl, hcell⟩ := HCELL.out n hlt
        have hc2 : wr.cell? ⟨b, o + n, none⟩ = some (.int .i64 (c.l.getD n 0)) := (HBEL.out.cell (p := ⟨b, o + n, none⟩) hbl).trans hcell
        obtain ⟨x, hx⟩ : ∃ x, c.l.getD n 0 = x := ⟨_, rfl⟩
        rw [hx] at hc2
        have HSN := Lib.hid (pb_snoc (c := c) hlt)
        have HX := Lib.hid hx
        clear hcell hx HCELL
        have hO : (wr.alloc (.cells #[.bool (x != -2)] 4)).ownsRow w3.heap.size 4 1 (.slice a1 n c1) n (((c.l.map fun x => x != -2).take n).map Value.bool) := by
          have h := HOWN.out
          have hl := h.bat.1
          unfold OwnB at h
          rw [hl] at h
          exact h.alloc _
        have hN := news1 wr (.bool (x != -2)) 4
        go_wp2_with (first
          | (at_builtin
             refine wpList_append_any _ (by rfl) _ _ 36 (by rfl) w3.heap.size 4 k0 _ 1 1 Try.underlying36 kinf kj0 kj1 kj2 rfl (by omega) (.slice a1 n c1) n _ (by rfl) hO (some ⟨wr.heap.size, 0, none⟩) 1 1 _ (by rfl) (by rfl) hN (by simp [Value.oneCell']) (by unfold maxLen; omega) (by omega) (by simp; omega) ?_
             intro v' w6 hap
             obtain ⟨a', c', hv, h1, h2, _⟩ := hap
             subst hv
             have HREL : Hid (PbR c w3 (.slice a' (n + 1) c') (.int .i64 ((n : Int) + 1)) w6) := by
               have hne : ∀ g, (Value.slice a1 n c1).ownBlock = some g → w3.heap.size ≤ g := fun g hg => (HOWN.out.lt g hg).1
               refine ⟨n + 1, n + 1, c', a', by omega, rfl, by go_num, rfl, ?_, (HBEL.out.alloc hzr _).grown h2 (by simp; omega) (fun k e => hne _ e)⟩
               have hl2 : ((c.l.map fun x => x != -2).take (n + 1)).length = n + 1 := by rw [List.length_take]; simp [Ca.l]; omega
               unfold OwnB
               rw [hl2, HSN.out, List.map_append, HX.out]
               exact h1
             clear h1 h2 hN hO)
          | fail)
        go_roundw
        case rel => exact HREL.out
        case measure => simp [intOf]; omega
      · obtain rfl : n = 2 := by omega
        have HFIN : Hid (OwnBl (prbP c.l) w (.returned (.slice a1 2 c1)) wr) := by
          have h := HOWN.out
          have e : (c.l.map fun x => x != -2).take 2 = prbP c.l := by rw [HY.out]; rfl
          rw [e] at h
          exact ⟨a1, 2, c1, rfl, by rw [HY.out]; rfl, h.mono (by omega), HB3.out.trans (HBEL.out.mono (by omega))⟩
        go_wp2_with fail
        go_ret
        exact HFIN.out

set_option maxRecDepth 100000 in
set_option maxHeartbeats 4000000 in
/-- **spec.ProbeCache.** -/
theorem sPb_one (xs : List Int) (a : Option Addr) (n cp : Nat) (w : World) (h : SliceI w a n xs) :
    Calls Try.prog 34 #[aggCa a n cp] w (OwnBl (prbP xs) w) := by
  obtain ⟨k0, kinf, kj0, kj1, kj2⟩ := info_parts Try.infoB
  have hmx := h.1
  unfold maxLen at hmx
  obtain ⟨W1, hW1⟩ : ∃ W, w.alloc (.cells #[.slice a n cp] 25) = W := ⟨_, rfl⟩
  have hB1 : Below w.heap.size w W1 := by rw [← hW1]; exact (Below.refl _ w).alloc (Nat.le_refl _) _
  have hz1 : W1.heap.size = w.heap.size + 1 := by rw [← hW1]; simp
  have hA : BoxCa W1 w.heap.size a n cp := by rw [← hW1]; exact BoxCa.new w a n cp 25
  obtain ⟨W2, hW2⟩ : ∃ W, W1.alloc (.cells #[] 4) = W := ⟨_, rfl⟩
  have hB2 : Below W1.heap.size W1 W2 := by rw [← hW2]; exact (Below.refl _ _).alloc (Nat.le_refl _) _
  have hO2 : OwnB W2 W1.heap.size (.slice (some ⟨w.heap.size + 1, 0, none⟩) 0 0) [] := by
    rw [← hW2]
    have := World.ownsRow_made W1 (base := W1.heap.size) (e := 4) (size := 1) #[] 0 (Nat.le_refl _) (by unfold maxLen; omega) rfl
    rw [hz1] at this ⊢
    exact this
  have hW12 : (w.alloc (.cells #[.slice a n cp] 25)).alloc (.cells #[] 4) = W2 := by rw [hW1, hW2]
  have HZ : Hid (∀ u, Below W1.heap.size W1 u → u.cell? ⟨w.heap.size, 0, none⟩ = some (.slice a n cp) ∧ SliceI u a n xs) := fun u hu => ⟨(hA.below hu).c0, (h.below hB1).below hu⟩
  have HB1 := Lib.hid hB1
  have HW := Lib.hid hW12
  have HB2 := Lib.hid hB2
  have HO2 := Lib.hid hO2
  have hz2 : w.heap.size + 1 ≤ W1.heap.size := by omega
  have hz2' : W1.heap.size ≤ w.heap.size + 1 := by omega
  clear h hB1 hW1 hA hB2 hO2 hW2 hW12 hz1
  cases hq : okL xs with
  | false =>
    have HQ := Lib.hid hq
    have HN := Lib.hid (prbP_no hq)
    have HL0 : Hid (Value.slice (some ⟨w.heap.size + 1, 0, none⟩) 0 0 = .slice (some ⟨w.heap.size + 1, 0, none⟩) 0 0 ∧ Value.int .i64 0 = .int .i64 ((0 : Nat) : Int) ∧ OwnB W2 W1.heap.size (.slice (some ⟨w.heap.size + 1, 0, none⟩) 0 0) [] ∧ Below W1.heap.size W1 W2) := ⟨rfl, rfl, HO2.out, HB2.out⟩
    clear hq
    go_enter Try.func34, Try.ntmps34
    go_wp2_with fail
    rw [HW.out]
    go_loopw [3, 4] (fun o i wr => o = .slice (some ⟨w.heap.size + 1, 0, none⟩) 0 0 ∧ i = .int .i64 ((0 : Nat) : Int) ∧ OwnB wr W1.heap.size (.slice (some ⟨w.heap.size + 1, 0, none⟩) 0 0) [] ∧ Below W1.heap.size W1 wr) (fun _ i _ => 0)
    case atStart => exact ⟨rfl, HL0.out.2⟩
    case round =>
      obtain ⟨rfl, rfl, hown, hbel⟩ := hrel
      have HOWN := Lib.hid hown
      have HBEL := Lib.hid hbel
      have hzr := hbel.size
      clear hown hbel HL0
      obtain ⟨x0, hs⟩ := HZ.out wr HBEL.out
      have HS := Lib.hid hs
      clear hs
      have HEND : Hid (∀ u, Below wr.heap.size wr u → OwnBl (prbP xs) w (.returned (.slice (some ⟨w.heap.size + 1, 0, none⟩) 0 0)) u) := fun u hu =>
        ⟨_, 0, 0, rfl, by rw [HN.out]; rfl, by rw [HN.out]; exact (HOWN.out.later hu).mono (by omega), HB1.out.trans ((HBEL.out.trans (hu.mono hzr)).mono (by omega))⟩
      by_cases h0 : n = 0
      · subst h0
        have HE := HEND.out wr (Below.refl _ _)
        have HE2 := Lib.hid HE
        clear HE HEND
        go_wp2_with fail
        go_ret
        exact HE2.out
      · have hp : 0 < n := by omega
        have hp' : (0 : Int) < (n : Int) := by omega
        go_wp2_with fail
        refine (sCv_one a n cp xs wr HS.out).mono ?_
        rintro e w3 ⟨rfl, hb3⟩
        rw [HQ.out]
        have HE2 := Lib.hid (HEND.out w3 hb3)
        clear HEND hb3
        go_wp2_with fail
        go_ret
        exact HE2.out
  | true =>
    obtain ⟨c, rfl, hok⟩ := okL_two hq
    have hn : n = 2 := (HZ.out W1 (Below.refl _ _)).2.2.1.symm
    subst hn
    have HQ := Lib.hid hq
    have HY := Lib.hid (prbP_yes hok)
    have HL0 : Hid (PbR c W1 (.slice (some ⟨w.heap.size + 1, 0, none⟩) 0 0) (.int .i64 0) W2) := ⟨0, 0, 0, _, by omega, rfl, rfl, rfl, HO2.out, HB2.out⟩
    clear hq hok
    go_enter Try.func34, Try.ntmps34
    go_wp2_with fail
    rw [HW.out]
    go_loopw [3, 4] (fun o i wr => PbR c W1 o i wr) (fun _ i _ => 2 - (intOf i).toNat)
    case atStart => exact HL0.out
    case round =>
      obtain ⟨k, n, c1, a1, hk, rfl, rfl, rfl, hown, hbel⟩ := hrel
      have HOWN := Lib.hid hown
      have HBEL := Lib.hid hbel
      have hzr := hbel.size
      clear hown hbel HL0
      obtain ⟨x0, hs⟩ := HZ.out wr HBEL.out
      have HS := Lib.hid hs
      clear hs
      by_cases hlt : n < 2
      · go_wp2_with fail
        refine (sCv_one a 2 cp c.l wr HS.out).mono ?_
        rintro e w3 ⟨rfl, hb3⟩
        rw [HQ.out]
        have HB3 : Hid (Below W1.heap.size W1 w3) := HBEL.out.trans (hb3.mono hzr)
        have HO3 := Lib.hid (HOWN.out.later hb3)
        have hz3 := hb3.size
        obtain ⟨y0, hs3⟩ := HZ.out w3 HB3.out
        obtain ⟨b, o, rfl, hc2⟩ := hs3.2.2 n hlt
        obtain ⟨x, hx⟩ : ∃ x, c.l.getD n 0 = x := ⟨_, rfl⟩
        rw [hx] at hc2
        have HSN := Lib.hid (pb_snoc (c := c) hlt)
        have HX := Lib.hid hx
        clear hx hb3 hs3 x0
        have hO : (w3.alloc (.cells #[.bool (x != -2)] 4)).ownsRow W1.heap.size 4 1 (.slice a1 n c1) n (((c.l.map fun x => x != -2).take n).map Value.bool) := by
          have h := HO3.out
          have hl := h.bat.1
          unfold OwnB at h
          rw [hl] at h
          exact h.alloc _
        have hN := news1 w3 (.bool (x != -2)) 4
        go_wp2_with (first
          | (at_builtin
             refine wpList_append_any _ (by rfl) _ _ 36 (by rfl) W1.heap.size 4 k0 _ 1 1 Try.underlying36 kinf kj0 kj1 kj2 rfl (by omega) (.slice a1 n c1) n _ (by rfl) hO (some ⟨w3.heap.size, 0, none⟩) 1 1 _ (by rfl) (by rfl) hN (by simp [Value.oneCell']) (by unfold maxLen; omega) (by omega) (by simp; omega) ?_
             intro v' w6 hap
             obtain ⟨a', c', hv, h1, h2, _⟩ := hap
             subst hv
             have HREL : Hid (PbR c W1 (.slice a' (n + 1) c') (.int .i64 ((n : Int) + 1)) w6) := by
               have hne : ∀ g, (Value.slice a1 n c1).ownBlock = some g → W1.heap.size ≤ g := fun g hg => (HO3.out.lt g hg).1
               refine ⟨n + 1, n + 1, c', a', by omega, rfl, by go_num, rfl, ?_, (HB3.out.alloc (by omega) _).grown h2 (by simp; omega) (fun k e => hne _ e)⟩
               have hl2 : ((c.l.map fun x => x != -2).take (n + 1)).length = n + 1 := by rw [List.length_take]; simp [Ca.l]; omega
               unfold OwnB
               rw [hl2, HSN.out, List.map_append, HX.out]
               exact h1
             clear h1 h2 hN hO)
          | fail)
        go_roundw
        case rel => exact HREL.out
        case measure => simp [intOf]; omega
      · obtain rfl : n = 2 := by omega
        have HFIN : Hid (OwnBl (prbP c.l) w (.returned (.slice a1 2 c1)) wr) := by
          have h := HOWN.out
          have e : (c.l.map fun x => x != -2).take 2 = prbP c.l := by rw [HY.out]; rfl
          rw [e] at h
          exact ⟨a1, 2, c1, rfl, by rw [HY.out]; rfl, h.mono (by omega), HB1.out.trans (HBEL.out.mono (by omega))⟩
        go_wp2_with fail
        go_ret
        exact HFIN.out

end Go.Proofs.Yteoaecfjgbkefaa

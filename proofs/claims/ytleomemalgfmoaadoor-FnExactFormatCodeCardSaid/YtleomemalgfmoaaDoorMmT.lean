/- toMemory of the exact laws: a copy of a memory in new blocks; nothing that was there changes. Condition: no list of it has more than 2^20 elements. -/
import Derived.Test.YtleomemalgfmoaaDoorMm
namespace Go.Proofs.YtleomemalgfmoaaDoor
open Go.RowKit
set_option linter.unusedVariables false

theorem Tryd.infoIs : (Tryd.prog.info? 22).map (fun i => (i.zero, i.size, i.bytes)) = some (some (.slice none 0 0), 1, 24) := by kernel_rfl

def CopyRs (xss : List (List Int)) (w : World) (f : Ending) (w' : World) : Prop := ∃ a cap, f = .returned (.slice a xss.length cap) ∧ RAt w' (fun b => w.heap.size ≤ b ∧ b < w'.heap.size) xss a ∧ Below w.heap.size w w'

theorem row_set {w : World} {g o : Nat} {cur : Array Value} {T : TypeId} (h : w.heap[g]? = some (.cells cur T (0, 0))) (ho : o < cur.size) :
    (∃ u, w.cell? ⟨g, o, none⟩ = some u) ∧ w.frozen? ⟨g, o, none⟩ = false :=
  ⟨⟨cur[o], by rw [cell_of_row w g o cur T (0, 0) h]; exact Array.getElem?_eq_getElem _⟩, frozen_of_row w g o cur T h⟩

set_option maxHeartbeats 2000000 in
theorem toRows_one (xss : List (List Int)) (a : Option Addr) (cap : Nat) (w : World) (h : RAt w (fun b => b < w.heap.size) xss a) (hs : xss.length ≤ 1048576) (hss : ∀ (i : Nat) (xs : List Int), xss[i]? = some xs → xs.length ≤ 1048576) :
    Calls Tryd.prog 65 #[.slice a xss.length cap] w (CopyRs xss w) := by
  obtain ⟨i0, hi, hz0, hz1, hz2⟩ := info_parts Tryd.infoIs
  obtain ⟨hm, h⟩ := h
  obtain ⟨len, hlen⟩ : ∃ len, xss.length = len := ⟨_, rfl⟩
  have HLEN := Lib.hid hlen
  rw [hlen] at hs ⊢
  have H := Lib.hid h
  have HSS := Lib.hid hss
  clear h hlen hss hm
  go_enter Tryd.func65, Tryd.ntmps65
  go_wp2_with (at_make; refine wpList_make_full _ rfl _ _ 35 rfl w.heap.size 22 i0 (.slice none 0 0) 1 Tryd.underlying35 hi hz0 hz1 .i64 .i64 (len : Int) (len : Int) len rfl rfl rfl rfl (by rw [hz2]; omega) (by unfold maxLen; omega) (Nat.le_refl _) ?_; intro w1 hown1 hgrow1; clear hz0 hz1 hz2)
  have HB1 : Hid (Below w.heap.size w w1) := (Below.refl _ w).grown hgrow1 (Nat.le_refl _) (fun k e => by cases e)
  have HO1 : Hid (∃ cur : Array Value, cur.size = len * 1 ∧ w1.heap[w.heap.size]? = some (.cells cur 22 (0, 0))) := by
    rcases hown1.2 with ⟨h', _⟩ | ⟨g, cp, cur, h', _, hg, _, _, hcs, _⟩
    · cases h'
    · cases h'
      exact ⟨cur, hcs, hg⟩
  clear hown1 hgrow1
  go_loopw [4] (fun i wr => ∃ k : Nat, k ≤ len ∧ i = .int .i64 k ∧ Below w.heap.size w wr ∧ w.heap.size < wr.heap.size ∧ ∃ cur : Array Value, cur.size = len * 1 ∧ wr.heap[w.heap.size]? = some (.cells cur 22 (0, 0)) ∧
      ∀ (j : Nat) (x : List Int), j < k → xss[j]? = some x → ∃ a' c', cur[j]? = some (.slice a' x.length c') ∧ IAt wr (fun b => w.heap.size < b ∧ b < wr.heap.size) x a') (fun i _ => len - (intOf i).toNat)
  case atStart =>
    obtain ⟨cur, h1, h2⟩ := HO1.out
    exact ⟨0, Nat.zero_le _, rfl, HB1.out, (Array.getElem?_eq_some_iff.1 h2).1, cur, h1, h2, fun j x hj => absurd hj (Nat.not_lt_zero _)⟩
  case round =>
    obtain ⟨k, hk, rfl, hB, hgt, cur, hcs, hblk, hdone⟩ := hrel
    have HB := Lib.hid hB
    have HCS := Lib.hid hcs
    have HBLK := Lib.hid hblk
    have HD := Lib.hid hdone
    clear hB hcs hblk hdone HO1 HB1
    by_cases hlt : k < len
    · obtain ⟨x, hx⟩ : ∃ x, xss[k]? = some x := ⟨xss[k]'(by rw [HLEN.out]; exact hlt), List.getElem?_eq_getElem _⟩
      obtain ⟨b, o, ax, cx, rfl, hbl, e0, hr⟩ := H.out k x hx
      have d0 := (HB.out.cell (p := ⟨b, o + k, none⟩) hbl).trans e0
      have HR : Hid (IAt wr (fun b => b < w.heap.size) x ax) := hr.wide (fun j hj => HB.out.block j hj) fun _ x => x
      have hxl := HSS.out k x hx
      have hsz := HB.out.size
      have HX := Lib.hid hx
      clear hx e0 hr
      go_wp2_with fail
      refine (toInts_one ax x.length cx x _ HR.out.slice (by omega)).mono ?_
      rintro f w2 ⟨v, rfl, hown, hb2⟩
      obtain ⟨a2, c2, rfl, hi2⟩ := hown.iat
      have HI2 := Lib.hid hi2
      have hsz2 := hb2.size
      have hblk2 : w2.heap[w.heap.size]? = some (.cells cur 22 (0, 0)) := (hb2.block _ hgt).trans HBLK.out
      have hb3 : k < cur.size := by rw [HCS.out]; omega
      obtain ⟨⟨u0, hu0⟩, hf0⟩ := row_set (o := k) hblk2 hb3
      have HST := Lib.hid (heap_setCell_same w2 w.heap.size k cur 22 (.slice a2 x.length c2) hblk2)
      have HB3 : Hid (Below w.heap.size w (w2.setCell ⟨w.heap.size, k, none⟩ (.slice a2 x.length c2))) :=
        (HB.out.trans (hb2.mono hsz)).setCell (p := ⟨w.heap.size, k, none⟩) (Nat.le_refl _) (.slice a2 x.length c2)
      have HSZW : Hid ((w2.setCell ⟨w.heap.size, k, none⟩ (.slice a2 x.length c2)).heap.size = w2.heap.size) := by
        have : (w2.setCell ⟨w.heap.size, k, none⟩ (.slice a2 x.length c2)).heap.size = w2.heap.size := by simp [World.setCell]
        exact this
      have HSW : Hid (∀ j, w.heap.size < j → (w2.setCell ⟨w.heap.size, k, none⟩ (.slice a2 x.length c2)).heap[j]? = w2.heap[j]?) := fun j hj => Below.heap_setCell _ _ _ _ (by simp; omega)
      have HK2 : Hid (∀ (j : Nat) (y : List Int), j < k → xss[j]? = some y → ∃ a' c', cur[j]? = some (.slice a' y.length c') ∧ IAt (w2.setCell ⟨w.heap.size, k, none⟩ (.slice a2 x.length c2)) (fun b => w.heap.size < b ∧ b < (w2.setCell ⟨w.heap.size, k, none⟩ (.slice a2 x.length c2)).heap.size) y a') := fun j y hj hy => by
        obtain ⟨a', c', h0, hr⟩ := HD.out j y hj hy
        exact ⟨a', c', h0, hr.wide (fun b hb => (HSW.out b hb.1).trans (hb2.block b hb.2)) fun b hb => ⟨hb.1, by rw [HSZW.out]; omega⟩⟩
      have HN2 : Hid (IAt (w2.setCell ⟨w.heap.size, k, none⟩ (.slice a2 x.length c2)) (fun b => w.heap.size < b ∧ b < (w2.setCell ⟨w.heap.size, k, none⟩ (.slice a2 x.length c2)).heap.size) x a2) :=
        hi2.wide (fun b hb => HSW.out b (by omega)) fun b hb => ⟨by omega, by rw [HSZW.out]; exact hb.2⟩
      clear hb2 hblk2 HBLK HB d0 hown hi2 HI2 HD HR
      go_wp2_with fail
      go_roundw
      case rel =>
        refine ⟨k + 1, by omega, by go_num, HB3.out, by rw [HSZW.out]; omega, _, ?_, HST.out, ?_⟩
        · simp [HCS.out]
        · intro j y hj hy
          by_cases hjk : j = k
          · subst hjk
            rw [HX.out] at hy
            cases hy
            exact ⟨a2, c2, by rw [Array.getElem?_setIfInBounds, if_pos rfl, if_pos hb3], HN2.out⟩
          · obtain ⟨a', c', h0, hr⟩ := HK2.out j y (by omega) hy
            exact ⟨a', c', by rw [Array.getElem?_setIfInBounds, if_neg (Ne.symm hjk)]; exact h0, hr⟩
      case measure => simp [intOf]; omega
    · obtain rfl : k = len := by omega
      clear H
      go_wp2_with fail
      go_ret
      refine ⟨_, k, by rw [HLEN.out]; rfl, ⟨by rw [HLEN.out]; unfold maxLen; omega, ?_⟩, HB.out⟩
      intro j y hy
      have hj : j < k := by have := (List.getElem?_eq_some_iff.1 hy).1; rw [HLEN.out] at this; exact this
      obtain ⟨a', c', h0, hr⟩ := HD.out j y hj hy
      refine ⟨w.heap.size, 0, a', c', rfl, ⟨Nat.le_refl _, hgt⟩, ?_, hr.wide (fun _ _ => rfl) fun b hb => ⟨Nat.le_of_lt hb.1, hb.2⟩⟩
      rw [Nat.zero_add, cell_of_row _ _ _ _ _ _ HBLK.out]; exact h0

/-- A memory is handed back that reads alike. -/
def CopyM (m : Mm) (w : World) (f : Ending) (w' : World) : Prop := ∃ k, f = .returned (aggM m k) ∧ ML w' m k ∧ Below w.heap.size w w'
/-- A memory in blocks of D. -/
def MLD (w : World) (D : Nat → Prop) (m : Mm) (k : MC) : Prop := IAt w D m.vals k.va ∧ RAt w D m.arrs k.aa
theorem MLD.wide {w w' : World} {D D' : Nat → Prop} {m : Mm} {k : MC} (h : MLD w D m k) (hb : ∀ k, D k → w'.heap[k]? = w.heap[k]?) (hl : ∀ k, D k → D' k) : MLD w' D' m k := ⟨h.1.wide hb hl, h.2.wide hb hl⟩
/-- A memory is handed back that reads alike, in new blocks. -/
def CopyMN (m : Mm) (w : World) (f : Ending) (w' : World) : Prop := ∃ k, f = .returned (aggM m k) ∧ MLD w' (fun b => w.heap.size ≤ b ∧ b < w'.heap.size) m k ∧ Below w.heap.size w w'

set_option maxHeartbeats 4000000 in
/-- **toMemory.** -/
theorem toM_new (m : Mm) (k : MC) (w : World) (h : ML w m k) (hs : MSm m) :
    Calls Tryd.prog 42 #[aggM m k] w (CopyMN m w) := by
  obtain ⟨hs1, hs2, hs3⟩ := hs
  have H : Hid (∀ v, Below w.heap.size w v → ML v m k) := fun v hv => h.below hv
  have HS3 := Lib.hid hs3
  clear h hs3
  go_enter Tryd.func42, Tryd.ntmps42
  go_wp2_with fail
  obtain ⟨W, hW⟩ : ∃ W, (((w.alloc (.cells (arrM m k) 37)).alloc (.cells #[.slice none 0 0, .slice none 0 0] 42)).alloc (.cells #[.slice none 0 0, .slice none 0 0] 42)) = W := ⟨_, rfl⟩
  have hz : W.heap.size = w.heap.size + 3 := by rw [← hW]; simp
  have hB : Below w.heap.size w W := by rw [← hW]; exact (((Below.refl _ w).alloc (Nat.le_refl _) _).alloc (by simp) _).alloc (by simp; omega) _
  have q0 : BoxM W w.heap.size m k := by
    rw [← hW]
    exact ((BoxM.new w m k 37).later (Below.heap_alloc _ _ _ (by simp))).later (Below.heap_alloc _ _ _ (by simp; omega))
  have q1 : W.heap[w.heap.size + 1]? = some (.cells #[.slice none 0 0, .slice none 0 0] 42 (0, 0)) := by
    have e1 := heap_alloc_new (w.alloc (.cells (arrM m k) 37)) (.cells #[.slice none 0 0, .slice none 0 0] 42)
    rw [World.size_alloc] at e1
    rw [← hW, Below.heap_alloc _ _ _ (by simp)]; exact e1
  have q2 : W.heap[w.heap.size + 1 + 1]? = some (.cells #[.slice none 0 0, .slice none 0 0] 42 (0, 0)) := by
    have e1 := heap_alloc_new ((w.alloc (.cells (arrM m k) 37)).alloc (.cells #[.slice none 0 0, .slice none 0 0] 42)) (.cells #[.slice none 0 0, .slice none 0 0] 42)
    rw [World.size_alloc, World.size_alloc] at e1
    rw [← hW]; exact e1
  unfold arrM at hW
  rw [hW]
  clear hW
  have HB := Lib.hid hB
  have HZ := Lib.hid hz
  have Q0 := Lib.hid q0
  have Q1 := Lib.hid q1
  have Q2 := Lib.hid q2
  clear hB hz q0 q1 q2
  refine (toInts_one k.va m.vals.length k.vc m.vals W (H.out W HB.out).1.slice (by omega)).mono ?_
  rintro f w1 ⟨v, rfl, hown, hb1⟩
  obtain ⟨a1, c1, rfl, hi1⟩ := hown.iat
  have z1 := hb1.size
  have zz := HZ.out
  have p0 := (Q0.out.below hb1 Q0.out.lt).c1
  have p1 := (hb1.block (w.heap.size + 1) (by omega)).trans Q1.out
  have p2 := (hb1.block (w.heap.size + 1 + 1) (by omega)).trans Q2.out
  obtain ⟨⟨u2, hu2⟩, hf2⟩ := row_set (o := 0) p2 (by simp)
  have hst2 := heap_setCell_same w1 (w.heap.size + 1 + 1) 0 _ _ (.slice a1 m.vals.length c1) p2
  obtain ⟨w2, hw2⟩ : ∃ w2, w1.setCell ⟨w.heap.size + 1 + 1, 0, none⟩ (.slice a1 m.vals.length c1) = w2 := ⟨_, rfl⟩
  have hoth : ∀ j, j ≠ w.heap.size + 1 + 1 → w2.heap[j]? = w1.heap[j]? := fun j hj => by rw [← hw2]; exact Below.heap_setCell _ _ _ _ (fun e => hj (by simpa using e))
  have hsz2 : w2.heap.size = w1.heap.size := by rw [← hw2]; simp [World.setCell]
  have hB2 : Below w.heap.size w w2 := by rw [← hw2]; exact (HB.out.trans (hb1.mono HB.out.size)).setCell (p := ⟨w.heap.size + 1 + 1, 0, none⟩) (by simp; omega) _
  rw [hw2] at hst2
  have y1 : w2.cell? ⟨w.heap.size, 1, none⟩ = some (.slice k.aa m.arrs.length k.ac) := (World.cell?_of_block (w := w1) (hoth w.heap.size (by omega))).trans p0
  have r1 : w2.heap[w.heap.size + 1]? = some (.cells #[.slice none 0 0, .slice none 0 0] 42 (0, 0)) := (hoth _ (by omega)).trans p1
  have hi2 : IAt w2 (fun b => W.heap.size ≤ b ∧ b < w2.heap.size) m.vals a1 := hi1.wide (fun b hb => hoth b (by omega)) fun b hb => ⟨hb.1, by rw [hsz2]; exact hb.2⟩
  have HI2 := Lib.hid hi2
  have HB2 := Lib.hid hB2
  have HST2 := Lib.hid hst2
  have R1 := Lib.hid r1
  have HZ2 : Hid (W.heap.size ≤ w2.heap.size) := by
    have : W.heap.size ≤ w2.heap.size := by rw [hsz2]; exact z1
    exact this
  clear hi1 hown hb1 p0 p1 p2 hst2 hoth hsz2 hB2 r1 hi2 HB Q0 Q1 Q2 z1 zz
  go_wp2_with fail
  clear hw2 hu2 hf2
  refine (toRows_one m.arrs k.aa k.ac w2 (H.out w2 HB2.out).2 hs2 HS3.out).mono ?_
  rintro f w3 ⟨a2, c2, rfl, hr3, hb3⟩
  have z3 := hb3.size
  have zz := HZ.out
  have z2 := HZ2.out
  have p1 := (hb3.block (w.heap.size + 1) (by omega)).trans R1.out
  have p2 := (hb3.block (w.heap.size + 1 + 1) (by omega)).trans HST2.out
  obtain ⟨⟨u3, hu3⟩, hf3⟩ := row_set (o := 1) p2 (by simp)
  obtain ⟨⟨u4, hu4⟩, hf4⟩ := row_set (o := 0) p1 (by simp)
  obtain ⟨⟨u5, hu5⟩, hf5⟩ := row_set (o := 1) p1 (by simp)
  have y0 : w3.cell? ⟨w.heap.size + 1 + 1, 0, none⟩ = some (.slice a1 m.vals.length c1) := by rw [cell_of_row _ _ _ _ _ _ p2]; rfl
  have HR3 := Lib.hid hr3
  have HI3 := Lib.hid (HI2.out.wide (D' := fun b => W.heap.size ≤ b ∧ b < w3.heap.size) (fun b hb => hb3.block b hb.2) fun b hb => ⟨hb.1, by omega⟩)
  have HB3 := Lib.hid (HB2.out.trans (hb3.mono HB2.out.size))
  clear hr3 hb3 HB2 HI2 HST2 R1 p1 p2 y1 H
  go_wp2_with fail
  have HOT : Hid (∀ j, W.heap.size ≤ j → ((((w3.setCell ⟨w.heap.size + 1 + 1, 1, none⟩ (.slice a2 m.arrs.length c2)).setCell ⟨w.heap.size + 1, 0, none⟩ (.slice a1 m.vals.length c1)).setCell ⟨w.heap.size + 1, 1, none⟩ (.slice a2 m.arrs.length c2))).heap[j]? = w3.heap[j]?) := fun j hj => by
    rw [Below.heap_setCell _ _ _ _ (by simp; omega), Below.heap_setCell _ _ _ _ (by simp; omega), Below.heap_setCell _ _ _ _ (by simp; omega)]
  have HSZ : Hid ((((w3.setCell ⟨w.heap.size + 1 + 1, 1, none⟩ (.slice a2 m.arrs.length c2)).setCell ⟨w.heap.size + 1, 0, none⟩ (.slice a1 m.vals.length c1)).setCell ⟨w.heap.size + 1, 1, none⟩ (.slice a2 m.arrs.length c2)).heap.size = w3.heap.size) := by
    have : (((w3.setCell ⟨w.heap.size + 1 + 1, 1, none⟩ (.slice a2 m.arrs.length c2)).setCell ⟨w.heap.size + 1, 0, none⟩ (.slice a1 m.vals.length c1)).setCell ⟨w.heap.size + 1, 1, none⟩ (.slice a2 m.arrs.length c2)).heap.size = w3.heap.size := by simp [World.setCell]
    exact this
  refine bodyPost_ret (v := .agg #[.slice a1 m.vals.length c1, .slice a2 m.arrs.length c2]) (by simp [results, Tryd.f42, go_sem, hu4, hu5]) rfl ?_
  refine ⟨⟨a1, c1, a2, c2⟩, rfl, ⟨HI3.out.wide (fun b hb => HOT.out b hb.1) fun b hb => ⟨by omega, by rw [HSZ.out]; exact hb.2⟩, HR3.out.wide (fun b hb => HOT.out b (by omega)) fun b hb => ⟨by omega, by rw [HSZ.out]; exact hb.2⟩⟩, ?_⟩
  exact ((HB3.out.setCell (p := ⟨w.heap.size + 1 + 1, 1, none⟩) (by simp; omega) _).setCell (p := ⟨w.heap.size + 1, 0, none⟩) (by simp) _).setCell (p := ⟨w.heap.size + 1, 1, none⟩) (by simp) _

theorem toM_one (m : Mm) (k : MC) (w : World) (h : ML w m k) (hs : MSm m) :
    Calls Tryd.prog 42 #[aggM m k] w (CopyM m w) :=
  (toM_new m k w h hs).mono fun _ _ ⟨k', e, h', hb⟩ => ⟨k', e, h'.wide (fun _ _ => rfl) fun _ x => x.2, hb⟩

end Go.Proofs.YtleomemalgfmoaaDoor

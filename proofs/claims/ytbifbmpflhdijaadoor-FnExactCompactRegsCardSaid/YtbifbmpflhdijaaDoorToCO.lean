/- toCode of the exact laws, told of the copy as rows of its own that lie apart; the marks on such a code. -/
import Derived.Test.YtbifbmpflhdijaaDoorRwX
import Derived.Test.YtbifbmpflhdijaaDoorCd
import Derived.Test.YtbifbmpflhdijaaDoorIn
namespace Go.Proofs.YtbifbmpflhdijaaDoor
open Go.RowKit
set_option linter.unusedVariables false

theorem flatN_of {es : List Ins} {cur : Array Value} {n : Nat} (hn : es.length = n) (hc : cur.size = n * 5) (h : ∀ (j : Nat) (x : Ins), j < n → es[j]? = some x → cur[j * 5]? = some (.int .i64 x.op) ∧ cur[j * 5 + 1]? = some (.int .i64 x.fa) ∧ cur[j * 5 + 2]? = some (.int .i64 x.fb) ∧ cur[j * 5 + 3]? = some (.int .i64 x.fc) ∧ cur[j * 5 + 4]? = some (.int .i64 x.fd)) : cur.toList = flatN es := by
  have hfl : (flatN es).length = n * 5 := by rw [flatN_len, hn]
  apply List.ext_getElem?
  intro q
  by_cases hq : q < n * 5
  · have hj : q / 5 < n := by omega
    obtain ⟨x, hx⟩ : ∃ x, es[q / 5]? = some x := ⟨es[q / 5]'(by omega), List.getElem?_eq_getElem _⟩
    obtain ⟨h0, h1, h2, h3, h4⟩ := h (q / 5) x hj hx
    obtain ⟨k0, k1, k2, k3, k4⟩ := flatN_at es (q / 5) x hx
    rw [Array.getElem?_toList]
    have hm : q % 5 = 0 ∨ q % 5 = 1 ∨ q % 5 = 2 ∨ q % 5 = 3 ∨ q % 5 = 4 := by omega
    rcases hm with e | e | e | e | e
    · rw [show q = q / 5 * 5 by omega, h0, k0]
    · rw [show q = q / 5 * 5 + 1 by omega, h1, k1]
    · rw [show q = q / 5 * 5 + 2 by omega, h2, k2]
    · rw [show q = q / 5 * 5 + 3 by omega, h3, k3]
    · rw [show q = q / 5 * 5 + 4 by omega, h4, k4]
  · rw [List.getElem?_eq_none (by rw [Array.length_toList]; omega), List.getElem?_eq_none (by omega)]

/-- A list of instructions is handed back in a row of its own. -/
def CopyInO (es : List Ins) (w : World) (f : Ending) (w' : World) : Prop := ∃ a cap, f = .returned (.slice a es.length cap) ∧ OwnN w' w.heap.size (.slice a es.length cap) es ∧ Below w.heap.size w w'

set_option maxHeartbeats 4000000 in
/-- **toInstrS**, told of the copy as a row of its own. -/
theorem toInSO_one (es : List Ins) (a : Option Addr) (cap : Nat) (w : World) (h : NAt w (fun b => b < w.heap.size) es a) (hs : es.length ≤ 1048576) :
    Calls Tryd.prog 43 #[.slice a es.length cap] w (CopyInO es w) := by
  obtain ⟨i0, hi, hz0, hz1, hz2⟩ := info_parts Tryd.infoIn
  obtain ⟨hm, h⟩ := h
  obtain ⟨len, hlen⟩ : ∃ len, es.length = len := ⟨_, rfl⟩
  have HLEN := Lib.hid hlen
  rw [hlen] at hs ⊢
  have H := Lib.hid h
  clear h hlen hm
  go_enter Tryd.func43, Tryd.ntmps43
  go_wp2_with (at_make; refine wpList_make_full _ rfl _ _ 27 rfl w.heap.size 50 i0 (.agg #[.int .i64 0, .int .i64 0, .int .i64 0, .int .i64 0, .int .i64 0]) 5 Tryd.underlying27 hi hz0 hz1 .i64 .i64 (len : Int) (len : Int) len rfl rfl rfl rfl (by rw [hz2]; omega) (by unfold maxLen; omega) (Nat.le_refl _) ?_; intro w1 hown1 hgrow1; clear hz0 hz1 hz2)
  have HB1 : Hid (Below w.heap.size w w1) := (Below.refl _ w).grown hgrow1 (Nat.le_refl _) (fun k e => by cases e)
  have HO1 : Hid (∃ cur : Array Value, cur.size = len * 5 ∧ w1.heap[w.heap.size]? = some (.cells cur 50 (0, 0))) := by
    rcases hown1.2 with ⟨h', _⟩ | ⟨g, cp, cur, h', _, hg, _, _, hcs, _⟩
    · cases h'
    · cases h'
      exact ⟨cur, hcs, hg⟩
  clear hown1 hgrow1
  go_loopw [4] (fun i wr => ∃ k : Nat, k ≤ len ∧ i = .int .i64 k ∧ Below w.heap.size w wr ∧ w.heap.size < wr.heap.size ∧ ∃ cur : Array Value, cur.size = len * 5 ∧ wr.heap[w.heap.size]? = some (.cells cur 50 (0, 0)) ∧
      ∀ (j : Nat) (x : Ins), j < k → es[j]? = some x → cur[j * 5]? = some (.int .i64 x.op) ∧ cur[j * 5 + 1]? = some (.int .i64 x.fa) ∧ cur[j * 5 + 2]? = some (.int .i64 x.fb) ∧ cur[j * 5 + 3]? = some (.int .i64 x.fc) ∧ cur[j * 5 + 4]? = some (.int .i64 x.fd)) (fun i _ => len - (intOf i).toNat)
  case atStart =>
    obtain ⟨cur, h1, h2⟩ := HO1.out
    exact ⟨0, Nat.zero_le _, rfl, HB1.out, (Array.getElem?_eq_some_iff.1 h2).1, cur, h1, h2, fun j x hj => absurd hj (Nat.not_lt_zero _)⟩
  case round =>
    obtain ⟨k, hk, rfl, hB, hgt, cur, hcs, hblk, hdone⟩ := hrel
    have HB := Lib.hid hB
    have HCS := Lib.hid hcs
    have HBLK := Lib.hid hblk
    have HD := Lib.hid hdone
    clear hB hcs hblk hdone HO1 HB1
    by_cases hlt : k < len
    · obtain ⟨x, hx⟩ : ∃ x, es[k]? = some x := ⟨es[k]'(by rw [HLEN.out]; exact hlt), List.getElem?_eq_getElem _⟩
      obtain ⟨b, o, rfl, hbl, e0, e1, e2, e3, e4⟩ := H.out k x hx
      have d0 := (HB.out.cell (p := ⟨b, o + k * 5, none⟩) hbl).trans e0
      have d1 := (HB.out.cell (p := ⟨b, o + k * 5 + 1, none⟩) hbl).trans e1
      have d2 := (HB.out.cell (p := ⟨b, o + k * 5 + 2, none⟩) hbl).trans e2
      have d3 := (HB.out.cell (p := ⟨b, o + k * 5 + 3, none⟩) hbl).trans e3
      have d4 := (HB.out.cell (p := ⟨b, o + k * 5 + 4, none⟩) hbl).trans e4
      clear e0 e1 e2 e3 e4
      have hsz := HB.out.size
      have HX := Lib.hid hx
      clear hx
      go_wp2_with fail
      refine (toIn_one x _).mono ?_
      rintro f w2 ⟨rfl, hb2⟩
      have hsz2 := hb2.size
      have hblk2 : w2.heap[w.heap.size]? = some (.cells cur 50 (0, 0)) := (hb2.block _ hgt).trans HBLK.out
      have hb3 : k * 5 + 4 < cur.size := by rw [HCS.out]; omega
      obtain ⟨⟨u0, u1, u2, u3, u4, hu0, hu1, hu2, hu3, hu4⟩, hf0, hf1, hf2, hf3, hf4⟩ := in_cells (o := k * 5) hblk2 hb3
      have HST := Lib.hid (in_store (o := k * 5) hblk2 (.int .i64 x.op) (.int .i64 x.fa) (.int .i64 x.fb) (.int .i64 x.fc) (.int .i64 x.fd))
      have HSM3 := Lib.hid (in_set_same cur (k * 5) (.int .i64 x.op) (.int .i64 x.fa) (.int .i64 x.fb) (.int .i64 x.fc) (.int .i64 x.fd) hb3)
      have HB3 : Hid (Below w.heap.size w (((((w2.setCell ⟨w.heap.size, k * 5, none⟩ (.int .i64 x.op)).setCell ⟨w.heap.size, k * 5 + 1, none⟩ (.int .i64 x.fa)).setCell ⟨w.heap.size, k * 5 + 2, none⟩ (.int .i64 x.fb)).setCell ⟨w.heap.size, k * 5 + 3, none⟩ (.int .i64 x.fc)).setCell ⟨w.heap.size, k * 5 + 4, none⟩ (.int .i64 x.fd))) := ((((((HB.out.trans (hb2.mono hsz)).setCell (p := ⟨w.heap.size, k * 5, none⟩) (Nat.le_refl _) (.int .i64 x.op)).setCell (p := ⟨w.heap.size, k * 5 + 1, none⟩) (Nat.le_refl _) (.int .i64 x.fa)).setCell (p := ⟨w.heap.size, k * 5 + 2, none⟩) (Nat.le_refl _) (.int .i64 x.fb)).setCell (p := ⟨w.heap.size, k * 5 + 3, none⟩) (Nat.le_refl _) (.int .i64 x.fc)).setCell (p := ⟨w.heap.size, k * 5 + 4, none⟩) (Nat.le_refl _) (.int .i64 x.fd))
      have HSZW : Hid ((((((w2.setCell ⟨w.heap.size, k * 5, none⟩ (.int .i64 x.op)).setCell ⟨w.heap.size, k * 5 + 1, none⟩ (.int .i64 x.fa)).setCell ⟨w.heap.size, k * 5 + 2, none⟩ (.int .i64 x.fb)).setCell ⟨w.heap.size, k * 5 + 3, none⟩ (.int .i64 x.fc)).setCell ⟨w.heap.size, k * 5 + 4, none⟩ (.int .i64 x.fd)).heap.size = w2.heap.size) := by
        have : (((((w2.setCell ⟨w.heap.size, k * 5, none⟩ (.int .i64 x.op)).setCell ⟨w.heap.size, k * 5 + 1, none⟩ (.int .i64 x.fa)).setCell ⟨w.heap.size, k * 5 + 2, none⟩ (.int .i64 x.fb)).setCell ⟨w.heap.size, k * 5 + 3, none⟩ (.int .i64 x.fc)).setCell ⟨w.heap.size, k * 5 + 4, none⟩ (.int .i64 x.fd)).heap.size = w2.heap.size := by simp [World.setCell]
        exact this
      clear hb2 hblk2 HBLK HB d0 d1 d2 d3 d4
      go_wp2_with fail
      go_roundw
      case rel =>
        refine ⟨k + 1, by omega, by go_num, HB3.out, by rw [HSZW.out]; omega, _, ?_, HST.out, ?_⟩
        · simp [HCS.out]
        · intro j y hj hy
          by_cases hjk : j = k
          · subst hjk
            rw [HX.out] at hy
            cases hy
            exact HSM3.out
          · obtain ⟨h0, h1, h2, h3, h4⟩ := HD.out j y (by omega) hy
            exact ⟨by rw [in_set_other _ _ _ _ _ _ _ _ (by omega)]; exact h0, by rw [in_set_other _ _ _ _ _ _ _ _ (by omega)]; exact h1, by rw [in_set_other _ _ _ _ _ _ _ _ (by omega)]; exact h2, by rw [in_set_other _ _ _ _ _ _ _ _ (by omega)]; exact h3, by rw [in_set_other _ _ _ _ _ _ _ _ (by omega)]; exact h4⟩
      case measure => simp [intOf]; omega
    · obtain rfl : k = len := by omega
      clear H
      go_wp2_with fail
      go_ret
      refine ⟨some ⟨w.heap.size, 0, none⟩, k, by rw [HLEN.out]; rfl, ⟨by rw [flatN_len], .inr ⟨w.heap.size, k, cur, by rw [HLEN.out], Nat.le_refl _, HBLK.out, by rw [HLEN.out]; exact Nat.le_refl _, by unfold maxLen; omega, HCS.out, ?_⟩⟩, HB.out⟩
      rw [HLEN.out, flatN_of HLEN.out HCS.out HD.out]
      exact List.take_of_length_le (by rw [flatN_len, HLEN.out]; exact Nat.le_refl _)

/-- The rows of a code are of the call's own, and lie apart. -/
structure OwnC (w : World) (base : Nat) (m : Cd) (k : CK) : Prop where
  v : RowX w base 3 1 k.va m.vars.length k.vc (m.vars.map (Value.int .i64))
  a : RowX w base 3 1 k.aa m.arrs.length k.ac (m.arrs.map (Value.int .i64))
  l : RowX w base 50 5 k.la m.list.length k.lc (flatN m.list)
  va : ∀ g, blk k.va m.vars.length = some g → blk k.aa m.arrs.length ≠ some g
  vl : ∀ g, blk k.va m.vars.length = some g → blk k.la m.list.length ≠ some g
  al : ∀ g, blk k.aa m.arrs.length = some g → blk k.la m.list.length ≠ some g
theorem OwnC.cl {w : World} {base : Nat} {m : Cd} {k : CK} (h : OwnC w base m k) : CL w m k :=
  ⟨(h.v.iat rfl).wide (fun _ _ => rfl) fun b hb => hb.2, (h.a.iat rfl).wide (fun _ _ => rfl) fun b hb => hb.2, (h.l.nat rfl).wide (fun _ _ => rfl) fun b hb => hb.2⟩
/-- It stands where its blocks stand. -/
theorem OwnC.stand {w w' : World} {base : Nat} {m : Cd} {k : CK} (h : OwnC w base m k) (hs : ∀ g, base ≤ g → g < w.heap.size → w'.heap[g]? = w.heap[g]?) : OwnC w' base m k :=
  ⟨h.v.far fun g hg hl => hs g (h.v.lt g hg).1 hl, h.a.far fun g hg hl => hs g (h.a.lt g hg).1 hl, h.l.far fun g hg hl => hs g (h.l.lt g hg).1 hl, h.va, h.vl, h.al⟩
theorem OwnC.mono {w : World} {base base' : Nat} {m : Cd} {k : CK} (h : OwnC w base m k) (hb : base' ≤ base) : OwnC w base' m k := ⟨h.v.mono hb, h.a.mono hb, h.l.mono hb, h.va, h.vl, h.al⟩
/-- Code is handed back in rows of its own. -/
def CopyCO (m : Cd) (w : World) (f : Ending) (w' : World) : Prop := ∃ k, f = .returned (aggC m k) ∧ OwnC w' w.heap.size m k ∧ Below w.heap.size w w'

set_option maxHeartbeats 8000000 in
/-- **toCode**, told of its rows. -/
theorem toCO_one (m : Cd) (k : CK) (w : World) (h : CL w m k) (hs : CSm m) :
    Calls Tryd.prog 13 #[aggC m k] w (CopyCO m w) := by
  obtain ⟨hs1, hs2, hs3⟩ := hs
  have H : Hid (∀ v, Below w.heap.size w v → CL v m k) := fun v hv => h.below hv
  clear h
  go_enter Tryd.func13, Tryd.ntmps13
  go_wp2_with fail
  obtain ⟨W, hW⟩ : ∃ W, (((w.alloc (.cells (arrC m k) 25)).alloc (.cells #[.slice none 0 0, .slice none 0 0, .slice none 0 0] 29)).alloc (.cells #[.slice none 0 0, .slice none 0 0, .slice none 0 0] 29)) = W := ⟨_, rfl⟩
  have hB : Below w.heap.size w W := by rw [← hW]; exact (((Below.refl w.heap.size w).alloc (Nat.le_refl _) _).alloc (by simp) _).alloc (by simp; omega) _
  have hz : W.heap.size = w.heap.size + 3 := by rw [← hW]; simp
  have q0 : BoxC W w.heap.size m k := by
    rw [← hW]
    exact ((BoxC.new w m k 25).later (Below.heap_alloc _ _ _ (by simp))).later (Below.heap_alloc _ _ _ (by simp; omega))
  have q1 : W.heap[w.heap.size + 1]? = some (.cells #[.slice none 0 0, .slice none 0 0, .slice none 0 0] 29 (0, 0)) := by
    rw [← hW, Below.heap_alloc _ _ _ (by simp)]
    have := heap_alloc_new (w.alloc (.cells (arrC m k) 25)) (.cells #[.slice none 0 0, .slice none 0 0, .slice none 0 0] 29)
    rw [World.size_alloc] at this
    exact this
  have q2 : W.heap[w.heap.size + 1 + 1]? = some (.cells #[.slice none 0 0, .slice none 0 0, .slice none 0 0] 29 (0, 0)) := by
    rw [← hW]
    have := heap_alloc_new ((w.alloc (.cells (arrC m k) 25)).alloc (.cells #[.slice none 0 0, .slice none 0 0, .slice none 0 0] 29)) (.cells #[.slice none 0 0, .slice none 0 0, .slice none 0 0] 29)
    rw [World.size_alloc, World.size_alloc] at this
    exact this
  unfold arrC at hW
  rw [hW]
  clear hW
  have HB := Lib.hid hB
  have HZ := Lib.hid hz
  have Q0 := Lib.hid q0
  have Q1 := Lib.hid q1
  have Q2 := Lib.hid q2
  clear hB hz q0 q1 q2
  refine (toInts_one k.va m.vars.length k.vc m.vars W (H.out W HB.out).1.slice (by omega)).mono ?_
  rintro f v0 ⟨v, rfl, hown, hb⟩
  obtain ⟨a0, c0, rfl, _⟩ := hown.iat
  have hi := RowX.of hown
  have hil := hi.lt
  have z1 := hb.size
  have zz := HZ.out
  have p0 := Q0.out.below hb (by omega)
  have p1 := (hb.block (w.heap.size + 1) (by omega)).trans Q1.out
  have p2 := (hb.block (w.heap.size + 1 + 1) (by omega)).trans Q2.out
  obtain ⟨⟨u, hu⟩, hf⟩ := row_set (o := 0) p2 (by simp)
  have hst := heap_setCell_same v0 (w.heap.size + 1 + 1) 0 _ _ (.slice a0 m.vars.length c0) p2
  have hB2 : Below w.heap.size w (v0.setCell ⟨w.heap.size + 1 + 1, 0, none⟩ (.slice a0 m.vars.length c0)) := (HB.out.trans (hb.mono HB.out.size)).setCell (p := ⟨w.heap.size + 1 + 1, 0, none⟩) (by simp; omega) _
  have hoth : ∀ j, j ≠ w.heap.size + 1 + 1 → (v0.setCell ⟨w.heap.size + 1 + 1, 0, none⟩ (.slice a0 m.vars.length c0)).heap[j]? = v0.heap[j]? := fun j hj => Below.heap_setCell _ _ _ _ (fun e => hj (by simpa using e))
  have hsz : (v0.setCell ⟨w.heap.size + 1 + 1, 0, none⟩ (.slice a0 m.vars.length c0)).heap.size = v0.heap.size := by simp [World.setCell]
  obtain ⟨u1, hw⟩ : ∃ u, v0.setCell ⟨w.heap.size + 1 + 1, 0, none⟩ (.slice a0 m.vars.length c0) = u := ⟨_, rfl⟩
  rw [hw] at hst hB2 hoth hsz
  have BX1 : Hid (BoxC u1 w.heap.size m k) := p0.later (hoth _ (by omega))
  have R1 : Hid (u1.heap[w.heap.size + 1]? = some (.cells #[.slice none 0 0, .slice none 0 0, .slice none 0 0] 29 (0, 0))) := (hoth _ (by omega)).trans p1
  have ST1 := Lib.hid hst
  have HB1 := Lib.hid hB2
  have HZ1 : Hid (W.heap.size ≤ u1.heap.size ∧ W.heap.size = w.heap.size + 3) := ⟨by rw [hsz]; exact z1, zz⟩
  have I0_1 := Lib.hid (hi.far (w' := u1) fun g hg _ => hoth g (by have := hil g hg; omega))
  have L0_1 : Hid (∀ g, blk a0 m.vars.length = some g → W.heap.size ≤ g ∧ g < u1.heap.size) := fun g hg => by have := hil g hg; omega
  have y1 := BX1.out.c1
  clear hi hil hown hb p0 p1 p2 hst hoth hsz hB2 HB Q1 Q2 Q0 HZ z1 zz
  go_wp2_with fail
  clear hw hu hf y1
  refine (toInts_one k.aa m.arrs.length k.ac m.arrs u1 (H.out u1 HB1.out).2.1.slice (by omega)).mono ?_
  rintro f v1 ⟨v, rfl, hown, hb⟩
  obtain ⟨a1, c1, rfl, _⟩ := hown.iat
  have hi := RowX.of hown
  have hil := hi.lt
  have z1 := hb.size
  have zz := HZ1.out
  have p0 := BX1.out.below hb (by omega)
  have p1 := (hb.block (w.heap.size + 1) (by omega)).trans R1.out
  have p2 := (hb.block (w.heap.size + 1 + 1) (by omega)).trans ST1.out
  have hk0 := I0_1.out.far (w' := v1) fun g hg hlt => hb.block g hlt
  obtain ⟨⟨u, hu⟩, hf⟩ := row_set (o := 1) p2 (by simp)
  have hst := heap_setCell_same v1 (w.heap.size + 1 + 1) 1 _ _ (.slice a1 m.arrs.length c1) p2
  have hB2 : Below w.heap.size w (v1.setCell ⟨w.heap.size + 1 + 1, 1, none⟩ (.slice a1 m.arrs.length c1)) := (HB1.out.trans (hb.mono HB1.out.size)).setCell (p := ⟨w.heap.size + 1 + 1, 1, none⟩) (by simp; omega) _
  have hoth : ∀ j, j ≠ w.heap.size + 1 + 1 → (v1.setCell ⟨w.heap.size + 1 + 1, 1, none⟩ (.slice a1 m.arrs.length c1)).heap[j]? = v1.heap[j]? := fun j hj => Below.heap_setCell _ _ _ _ (fun e => hj (by simpa using e))
  have hsz : (v1.setCell ⟨w.heap.size + 1 + 1, 1, none⟩ (.slice a1 m.arrs.length c1)).heap.size = v1.heap.size := by simp [World.setCell]
  obtain ⟨u2, hw⟩ : ∃ u, v1.setCell ⟨w.heap.size + 1 + 1, 1, none⟩ (.slice a1 m.arrs.length c1) = u := ⟨_, rfl⟩
  rw [hw] at hst hB2 hoth hsz
  have BX2 : Hid (BoxC u2 w.heap.size m k) := p0.later (hoth _ (by omega))
  have R2 : Hid (u2.heap[w.heap.size + 1]? = some (.cells #[.slice none 0 0, .slice none 0 0, .slice none 0 0] 29 (0, 0))) := (hoth _ (by omega)).trans p1
  have ST2 := Lib.hid hst
  have HB2 := Lib.hid hB2
  have HZ2 : Hid (W.heap.size ≤ u2.heap.size ∧ W.heap.size = w.heap.size + 3) := ⟨by rw [hsz]; omega, zz.2⟩
  have I0_2 := Lib.hid (hk0.far (w' := u2) fun g hg _ => hoth g (by have := L0_1.out g hg; omega))
  have I1_2 := Lib.hid (hi.far (w' := u2) fun g hg _ => hoth g (by have := hil g hg; omega))
  have L1_2 : Hid (∀ g, blk a1 m.arrs.length = some g → u1.heap.size ≤ g ∧ g < u2.heap.size) := fun g hg => by have := hil g hg; omega
  have HZ12 : Hid (W.heap.size ≤ u1.heap.size ∧ u1.heap.size ≤ u2.heap.size) := ⟨zz.1, by omega⟩
  have y2 := BX2.out.c2
  clear hi hil hown hb p0 p1 p2 hst hoth hsz hB2 HB1 R1 ST1 BX1 HZ1 z1 zz hk0 I0_1
  go_wp2_with fail
  clear hw hu hf y2
  refine (toInSO_one m.list k.la k.lc u2 (H.out u2 HB2.out).2.2 hs3).mono ?_
  rintro f v2 ⟨a2, c2, rfl, hown, hb⟩
  have hi := RowX.of hown
  have hil := hi.lt
  have z1 := hb.size
  have zz := HZ2.out
  have p0 := BX2.out.below hb (by omega)
  have p1 := (hb.block (w.heap.size + 1) (by omega)).trans R2.out
  have p2 := (hb.block (w.heap.size + 1 + 1) (by omega)).trans ST2.out
  have hk0 := I0_2.out.far (w' := v2) fun g hg hlt => hb.block g hlt
  have hk1 := I1_2.out.far (w' := v2) fun g hg hlt => hb.block g hlt
  obtain ⟨⟨u, hu⟩, hf⟩ := row_set (o := 2) p2 (by simp)
  have hst := heap_setCell_same v2 (w.heap.size + 1 + 1) 2 _ _ (.slice a2 m.list.length c2) p2
  have hB2 : Below w.heap.size w (v2.setCell ⟨w.heap.size + 1 + 1, 2, none⟩ (.slice a2 m.list.length c2)) := (HB2.out.trans (hb.mono HB2.out.size)).setCell (p := ⟨w.heap.size + 1 + 1, 2, none⟩) (by simp; omega) _
  have hoth : ∀ j, j ≠ w.heap.size + 1 + 1 → (v2.setCell ⟨w.heap.size + 1 + 1, 2, none⟩ (.slice a2 m.list.length c2)).heap[j]? = v2.heap[j]? := fun j hj => Below.heap_setCell _ _ _ _ (fun e => hj (by simpa using e))
  have hsz : (v2.setCell ⟨w.heap.size + 1 + 1, 2, none⟩ (.slice a2 m.list.length c2)).heap.size = v2.heap.size := by simp [World.setCell]
  obtain ⟨u3, hw⟩ : ∃ u, v2.setCell ⟨w.heap.size + 1 + 1, 2, none⟩ (.slice a2 m.list.length c2) = u := ⟨_, rfl⟩
  rw [hw] at hst hB2 hoth hsz
  have BX3 : Hid (BoxC u3 w.heap.size m k) := p0.later (hoth _ (by omega))
  have R3 : Hid (u3.heap[w.heap.size + 1]? = some (.cells #[.slice none 0 0, .slice none 0 0, .slice none 0 0] 29 (0, 0))) := (hoth _ (by omega)).trans p1
  have ST3 := Lib.hid hst
  have HB3 := Lib.hid hB2
  have HZ3 : Hid (W.heap.size ≤ u3.heap.size ∧ W.heap.size = w.heap.size + 3) := ⟨by rw [hsz]; omega, zz.2⟩
  have I0_3 := Lib.hid (hk0.far (w' := u3) fun g hg _ => hoth g (by have := L0_1.out g hg; have := HZ12.out; omega))
  have I1_3 := Lib.hid (hk1.far (w' := u3) fun g hg _ => hoth g (by have := L1_2.out g hg; have := HZ12.out; omega))
  have I2_3 := Lib.hid (hi.far (w' := u3) fun g hg _ => hoth g (by have := hil g hg; omega))
  have L2_3 : Hid (∀ g, blk a2 m.list.length = some g → u2.heap.size ≤ g) := fun g hg => (hil g hg).1
  clear hi hil hown hb p0 p1 p2 hst hoth hsz hB2 HB2 R2 ST2 BX2 HZ2 z1 zz hk0 I0_2 hk1 I1_2
  have hst := ST3.out
  have hr := R3.out
  have zz := HZ3.out
  obtain ⟨⟨s0, hs0'⟩, hg0⟩ := row_set (o := 0) hr (by simp)
  obtain ⟨⟨s1, hs1'⟩, hg1⟩ := row_set (o := 1) hr (by simp)
  obtain ⟨⟨s2, hs2'⟩, hg2⟩ := row_set (o := 2) hr (by simp)
  have t0 : u3.cell? ⟨w.heap.size + 1 + 1, 0, none⟩ = some (.slice a0 m.vars.length c0) := by rw [cell_of_row _ _ _ _ _ _ hst]; rfl
  have t1 : u3.cell? ⟨w.heap.size + 1 + 1, 1, none⟩ = some (.slice a1 m.arrs.length c1) := by rw [cell_of_row _ _ _ _ _ _ hst]; rfl
  have t2 : u3.cell? ⟨w.heap.size + 1 + 1, 2, none⟩ = some (.slice a2 m.list.length c2) := by rw [cell_of_row _ _ _ _ _ _ hst]; rfl
  clear hst hr
  go_wp2_with fail
  have HOT : Hid (∀ j, W.heap.size ≤ j → (((u3.setCell ⟨w.heap.size + 1, 0, none⟩ (.slice a0 m.vars.length c0)).setCell ⟨w.heap.size + 1, 1, none⟩ (.slice a1 m.arrs.length c1)).setCell ⟨w.heap.size + 1, 2, none⟩ (.slice a2 m.list.length c2)).heap[j]? = u3.heap[j]?) := fun j hj => by
    rw [Below.heap_setCell _ _ _ _ (by simp; omega), Below.heap_setCell _ _ _ _ (by simp; omega), Below.heap_setCell _ _ _ _ (by simp; omega)]
  have HSZ : Hid ((((u3.setCell ⟨w.heap.size + 1, 0, none⟩ (.slice a0 m.vars.length c0)).setCell ⟨w.heap.size + 1, 1, none⟩ (.slice a1 m.arrs.length c1)).setCell ⟨w.heap.size + 1, 2, none⟩ (.slice a2 m.list.length c2)).heap.size = u3.heap.size) := by
    have : (((u3.setCell ⟨w.heap.size + 1, 0, none⟩ (.slice a0 m.vars.length c0)).setCell ⟨w.heap.size + 1, 1, none⟩ (.slice a1 m.arrs.length c1)).setCell ⟨w.heap.size + 1, 2, none⟩ (.slice a2 m.list.length c2)).heap.size = u3.heap.size := by simp [World.setCell]
    exact this
  clear hw
  refine bodyPost_ret (v := .agg #[.slice a0 m.vars.length c0, .slice a1 m.arrs.length c1, .slice a2 m.list.length c2]) (by simp [results, Tryd.f13, go_sem, hs0', hs1', hs2']) rfl ?_
  have hz12 := HZ12.out
  refine ⟨⟨a0, c0, a1, c1, a2, c2⟩, rfl, ⟨?_, ?_, ?_, fun g h1 h2 => ?_, fun g h1 h2 => ?_, fun g h1 h2 => ?_⟩, ?_⟩
  · exact (I0_3.out.far fun g hg _ => HOT.out g (L0_1.out g hg).1).mono (by omega)
  · exact (I1_3.out.far fun g hg _ => HOT.out g (by have := L1_2.out g hg; omega)).mono (by omega)
  · exact (I2_3.out.far fun g hg _ => HOT.out g (by have := L2_3.out g hg; omega)).mono (by omega)
  · have := L0_1.out g h1
    have := L1_2.out g h2
    omega
  · have := L0_1.out g h1
    have := L2_3.out g h2
    omega
  · have := L1_2.out g h1
    have := L2_3.out g h2
    omega
  exact ((HB3.out.setCell (p := ⟨w.heap.size + 1, 0, none⟩) (by simp) _).setCell (p := ⟨w.heap.size + 1, 1, none⟩) (by simp) _).setCell (p := ⟨w.heap.size + 1, 2, none⟩) (by simp) _

end Go.Proofs.YtbifbmpflhdijaaDoor

/- Lists of instructions in memory: what it says that one lies there; the exact laws' helpers on them: szInstrS measures, toInstrS makes a copy, eqInstrS answers whether two are equal. Nothing that was there changes. -/
import Derived.Test.YtbifbmpflhdijaaDoorInB
namespace Go.Proofs.YtbifbmpflhdijaaDoor
open Go.RowKit
set_option linter.unusedVariables false

set_option maxHeartbeats 1000000 in
theorem szIn_one (a : Option Addr) (n cap : Nat) (left : Int) (w : World) (h0 : 0 ≤ left) (h1 : left ≤ 1048576) (hn : n ≤ maxLen) :
    Calls Tryd.prog 38 #[.slice a n cap, .int .i64 left] w (EvSized n left w) := by
  unfold maxLen at hn
  by_cases hneg : left < n
  · go_enter Tryd.func38, Tryd.ntmps38
    go_wp2_with fail
    go_ret
    exact ⟨-1, rfl, by omega, fun h => absurd h (by omega), rfl⟩
  · go_enter Tryd.func38, Tryd.ntmps38
    go_wp2_with fail
    go_ret
    exact ⟨left - n, rfl, by omega, fun _ => by omega, rfl⟩

/-- An instruction is handed back. -/
def CopyIn (x : Ins) (w : World) (f : Ending) (w' : World) : Prop := f = .returned (.agg #[.int .i64 x.op, .int .i64 x.fa, .int .i64 x.fb, .int .i64 x.fc, .int .i64 x.fd]) ∧ Below w.heap.size w w'

set_option maxHeartbeats 2000000 in
theorem toIn_one (x : Ins) (w : World) :
    Calls Tryd.prog 87 #[.agg #[.int .i64 x.op, .int .i64 x.fa, .int .i64 x.fb, .int .i64 x.fc, .int .i64 x.fd]] w (CopyIn x w) := by
  go_enter Tryd.func87, Tryd.ntmps87
  go_wp2_with fail
  refine bodyPost_ret (v := .agg #[.int .i64 x.op, .int .i64 x.fa, .int .i64 x.fb, .int .i64 x.fc, .int .i64 x.fd]) (by simp [results, Tryd.f87, go_sem]) rfl ?_
  exact ⟨rfl, by repeat (first | exact Below.refl _ _ | refine Below.alloc ?_ (by simp <;> omega) _ | refine Below.setCell ?_ (by simp <;> omega) _)⟩

theorem Tryd.infoIn : (Tryd.prog.info? 50).map (fun i => (i.zero, i.size, i.bytes)) = some (some (.agg #[.int .i64 0, .int .i64 0, .int .i64 0, .int .i64 0, .int .i64 0]), 5, 40) := by kernel_rfl

/-- A list of instructions is handed back that reads alike, in new blocks. -/
def CopyIns (es : List Ins) (w : World) (f : Ending) (w' : World) : Prop := ∃ a cap, f = .returned (.slice a es.length cap) ∧ NAt w' (fun b => w.heap.size ≤ b ∧ b < w'.heap.size) es a ∧ Below w.heap.size w w'

theorem in_store {w : World} {g o : Nat} {cur : Array Value} {T : TypeId} (h : w.heap[g]? = some (.cells cur T (0, 0))) (n0 n1 n2 n3 n4 : Value) :
    (((((w.setCell ⟨g, o, none⟩ n0).setCell ⟨g, o + 1, none⟩ n1).setCell ⟨g, o + 2, none⟩ n2).setCell ⟨g, o + 3, none⟩ n3).setCell ⟨g, o + 4, none⟩ n4).heap[g]? = some (.cells (((((cur.setIfInBounds (o) n0).setIfInBounds (o + 1) n1).setIfInBounds (o + 2) n2).setIfInBounds (o + 3) n3).setIfInBounds (o + 4) n4) T (0, 0)) :=
  (heap_setCell_same _ g _ _ T n4 (heap_setCell_same _ g _ _ T n3 (heap_setCell_same _ g _ _ T n2 (heap_setCell_same _ g _ _ T n1 (heap_setCell_same _ g _ _ T n0 h)))))
theorem in_cells {w : World} {g o : Nat} {cur : Array Value} {T : TypeId} (h : w.heap[g]? = some (.cells cur T (0, 0))) (ho : o + 4 < cur.size) :
    (∃ u0 u1 u2 u3 u4, w.cell? ⟨g, o, none⟩ = some u0 ∧ w.cell? ⟨g, o + 1, none⟩ = some u1 ∧ w.cell? ⟨g, o + 2, none⟩ = some u2 ∧ w.cell? ⟨g, o + 3, none⟩ = some u3 ∧ w.cell? ⟨g, o + 4, none⟩ = some u4) ∧ w.frozen? ⟨g, o, none⟩ = false ∧ w.frozen? ⟨g, o + 1, none⟩ = false ∧ w.frozen? ⟨g, o + 2, none⟩ = false ∧ w.frozen? ⟨g, o + 3, none⟩ = false ∧ w.frozen? ⟨g, o + 4, none⟩ = false := by
  refine ⟨⟨cur[o], cur[o + 1], cur[o + 2], cur[o + 3], cur[o + 4], ?_, ?_, ?_, ?_, ?_⟩, frozen_of_row w g (o) cur T h, frozen_of_row w g (o + 1) cur T h, frozen_of_row w g (o + 2) cur T h, frozen_of_row w g (o + 3) cur T h, frozen_of_row w g (o + 4) cur T h⟩
  · rw [cell_of_row w g (o) cur T (0, 0) h]; exact Array.getElem?_eq_getElem _
  · rw [cell_of_row w g (o + 1) cur T (0, 0) h]; exact Array.getElem?_eq_getElem _
  · rw [cell_of_row w g (o + 2) cur T (0, 0) h]; exact Array.getElem?_eq_getElem _
  · rw [cell_of_row w g (o + 3) cur T (0, 0) h]; exact Array.getElem?_eq_getElem _
  · rw [cell_of_row w g (o + 4) cur T (0, 0) h]; exact Array.getElem?_eq_getElem _

theorem in_set_same (cur : Array Value) (o : Nat) (n0 n1 n2 n3 n4 : Value) (ho : o + 4 < cur.size) : (((((cur.setIfInBounds (o) n0).setIfInBounds (o + 1) n1).setIfInBounds (o + 2) n2).setIfInBounds (o + 3) n3).setIfInBounds (o + 4) n4)[o]? = some n0 ∧ (((((cur.setIfInBounds (o) n0).setIfInBounds (o + 1) n1).setIfInBounds (o + 2) n2).setIfInBounds (o + 3) n3).setIfInBounds (o + 4) n4)[o + 1]? = some n1 ∧ (((((cur.setIfInBounds (o) n0).setIfInBounds (o + 1) n1).setIfInBounds (o + 2) n2).setIfInBounds (o + 3) n3).setIfInBounds (o + 4) n4)[o + 2]? = some n2 ∧ (((((cur.setIfInBounds (o) n0).setIfInBounds (o + 1) n1).setIfInBounds (o + 2) n2).setIfInBounds (o + 3) n3).setIfInBounds (o + 4) n4)[o + 3]? = some n3 ∧ (((((cur.setIfInBounds (o) n0).setIfInBounds (o + 1) n1).setIfInBounds (o + 2) n2).setIfInBounds (o + 3) n3).setIfInBounds (o + 4) n4)[o + 4]? = some n4 := by
  refine ⟨?_, ?_, ?_, ?_, ?_⟩ <;> simp [Array.getElem?_setIfInBounds] <;> omega
theorem in_set_other (cur : Array Value) (o j : Nat) (n0 n1 n2 n3 n4 : Value) (h : j < o ∨ o + 4 < j) : (((((cur.setIfInBounds (o) n0).setIfInBounds (o + 1) n1).setIfInBounds (o + 2) n2).setIfInBounds (o + 3) n3).setIfInBounds (o + 4) n4)[j]? = cur[j]? := by
  rw [Array.getElem?_setIfInBounds, if_neg (by omega), Array.getElem?_setIfInBounds, if_neg (by omega), Array.getElem?_setIfInBounds, if_neg (by omega), Array.getElem?_setIfInBounds, if_neg (by omega), Array.getElem?_setIfInBounds, if_neg (by omega)]
theorem in_size (cur : Array Value) (o : Nat) (n0 n1 n2 n3 n4 : Value) : (((((cur.setIfInBounds (o) n0).setIfInBounds (o + 1) n1).setIfInBounds (o + 2) n2).setIfInBounds (o + 3) n3).setIfInBounds (o + 4) n4).size = cur.size := by simp

set_option maxHeartbeats 4000000 in
/-- **toInstrS.** -/
theorem toInS_one (es : List Ins) (a : Option Addr) (cap : Nat) (w : World) (h : NAt w (fun b => b < w.heap.size) es a) (hs : es.length ≤ 1048576) :
    Calls Tryd.prog 43 #[.slice a es.length cap] w (CopyIns es w) := by
  obtain ⟨i0, hi, hz0, hz1, hz2⟩ := info_parts Tryd.infoIn
  obtain ⟨hm, h⟩ := h
  obtain ⟨len, hlen⟩ : ∃ len, es.length = len := ⟨_, rfl⟩
  have HLEN := Lib.hid hlen
  rw [hlen] at hs ⊢
  have H := Lib.hid h
  clear h hlen hm
  go_enter Tryd.func43, Tryd.ntmps43
  go_wp2_with (at_make; refine wpList_make_full _ rfl _ _ 27 rfl w.heap.size 50 i0 (.agg #[.int .i64 0, .int .i64 0, .int .i64 0, .int .i64 0, .int .i64 0]) 5 Tryd.underlying27 hi hz0 hz1 .i64 .i64 (len : Int) (len : Int) len rfl rfl rfl rfl (by rw [hz2]; omega) (by unfold maxLen; omega) (Nat.le_refl _) ?_; intro w1 hown1 hgrow1; clear hz0 hz1 hz2)
  have HB1 : Hid (Below w.heap.size w w1) := (Below.refl _ w).grown hgrow1 (Nat.le_refl _) (fun k e => by cases e)
  have HO1 : Hid (∃ cur : Array Value, cur.size = len * 5 ∧ w1.heap[w.heap.size]? = some (.cells cur 50 (0, 0))) := by
    rcases hown1.2 with ⟨h', _⟩ | ⟨g, cp, cur, h', _, hg, _, _, hcs, _⟩
    · cases h'
    · cases h'
      exact ⟨cur, hcs, hg⟩
  clear hown1 hgrow1
  go_loopw [4] (fun i wr => ∃ k : Nat, k ≤ len ∧ i = .int .i64 k ∧ Below w.heap.size w wr ∧ w.heap.size < wr.heap.size ∧ ∃ cur : Array Value, cur.size = len * 5 ∧ wr.heap[w.heap.size]? = some (.cells cur 50 (0, 0)) ∧
      ∀ (j : Nat) (x : Ins), j < k → es[j]? = some x → cur[j * 5]? = some (.int .i64 x.op) ∧ cur[j * 5 + 1]? = some (.int .i64 x.fa) ∧ cur[j * 5 + 2]? = some (.int .i64 x.fb) ∧ cur[j * 5 + 3]? = some (.int .i64 x.fc) ∧ cur[j * 5 + 4]? = some (.int .i64 x.fd)) (fun i _ => len - (intOf i).toNat)
  case atStart =>
    obtain ⟨cur, h1, h2⟩ := HO1.out
    exact ⟨0, Nat.zero_le _, rfl, HB1.out, (Array.getElem?_eq_some_iff.1 h2).1, cur, h1, h2, fun j x hj => absurd hj (Nat.not_lt_zero _)⟩
  case round =>
    obtain ⟨k, hk, rfl, hB, hgt, cur, hcs, hblk, hdone⟩ := hrel
    have HB := Lib.hid hB
    have HCS := Lib.hid hcs
    have HBLK := Lib.hid hblk
    have HD := Lib.hid hdone
    clear hB hcs hblk hdone HO1 HB1
    by_cases hlt : k < len
    · obtain ⟨x, hx⟩ : ∃ x, es[k]? = some x := ⟨es[k]'(by rw [HLEN.out]; exact hlt), List.getElem?_eq_getElem _⟩
      obtain ⟨b, o, rfl, hbl, e0, e1, e2, e3, e4⟩ := H.out k x hx
      have d0 := (HB.out.cell (p := ⟨b, o + k * 5, none⟩) hbl).trans e0
      have d1 := (HB.out.cell (p := ⟨b, o + k * 5 + 1, none⟩) hbl).trans e1
      have d2 := (HB.out.cell (p := ⟨b, o + k * 5 + 2, none⟩) hbl).trans e2
      have d3 := (HB.out.cell (p := ⟨b, o + k * 5 + 3, none⟩) hbl).trans e3
      have d4 := (HB.out.cell (p := ⟨b, o + k * 5 + 4, none⟩) hbl).trans e4
      clear e0 e1 e2 e3 e4
      have hsz := HB.out.size
      have HX := Lib.hid hx
      clear hx
      go_wp2_with fail
      refine (toIn_one x _).mono ?_
      rintro f w2 ⟨rfl, hb2⟩
      have hsz2 := hb2.size
      have hblk2 : w2.heap[w.heap.size]? = some (.cells cur 50 (0, 0)) := (hb2.block _ hgt).trans HBLK.out
      have hb3 : k * 5 + 4 < cur.size := by rw [HCS.out]; omega
      obtain ⟨⟨u0, u1, u2, u3, u4, hu0, hu1, hu2, hu3, hu4⟩, hf0, hf1, hf2, hf3, hf4⟩ := in_cells (o := k * 5) hblk2 hb3
      have HST := Lib.hid (in_store (o := k * 5) hblk2 (.int .i64 x.op) (.int .i64 x.fa) (.int .i64 x.fb) (.int .i64 x.fc) (.int .i64 x.fd))
      have HSM3 := Lib.hid (in_set_same cur (k * 5) (.int .i64 x.op) (.int .i64 x.fa) (.int .i64 x.fb) (.int .i64 x.fc) (.int .i64 x.fd) hb3)
      have HB3 : Hid (Below w.heap.size w (((((w2.setCell ⟨w.heap.size, k * 5, none⟩ (.int .i64 x.op)).setCell ⟨w.heap.size, k * 5 + 1, none⟩ (.int .i64 x.fa)).setCell ⟨w.heap.size, k * 5 + 2, none⟩ (.int .i64 x.fb)).setCell ⟨w.heap.size, k * 5 + 3, none⟩ (.int .i64 x.fc)).setCell ⟨w.heap.size, k * 5 + 4, none⟩ (.int .i64 x.fd))) := ((((((HB.out.trans (hb2.mono hsz)).setCell (p := ⟨w.heap.size, k * 5, none⟩) (Nat.le_refl _) (.int .i64 x.op)).setCell (p := ⟨w.heap.size, k * 5 + 1, none⟩) (Nat.le_refl _) (.int .i64 x.fa)).setCell (p := ⟨w.heap.size, k * 5 + 2, none⟩) (Nat.le_refl _) (.int .i64 x.fb)).setCell (p := ⟨w.heap.size, k * 5 + 3, none⟩) (Nat.le_refl _) (.int .i64 x.fc)).setCell (p := ⟨w.heap.size, k * 5 + 4, none⟩) (Nat.le_refl _) (.int .i64 x.fd))
      have HSZW : Hid ((((((w2.setCell ⟨w.heap.size, k * 5, none⟩ (.int .i64 x.op)).setCell ⟨w.heap.size, k * 5 + 1, none⟩ (.int .i64 x.fa)).setCell ⟨w.heap.size, k * 5 + 2, none⟩ (.int .i64 x.fb)).setCell ⟨w.heap.size, k * 5 + 3, none⟩ (.int .i64 x.fc)).setCell ⟨w.heap.size, k * 5 + 4, none⟩ (.int .i64 x.fd)).heap.size = w2.heap.size) := by
        have : (((((w2.setCell ⟨w.heap.size, k * 5, none⟩ (.int .i64 x.op)).setCell ⟨w.heap.size, k * 5 + 1, none⟩ (.int .i64 x.fa)).setCell ⟨w.heap.size, k * 5 + 2, none⟩ (.int .i64 x.fb)).setCell ⟨w.heap.size, k * 5 + 3, none⟩ (.int .i64 x.fc)).setCell ⟨w.heap.size, k * 5 + 4, none⟩ (.int .i64 x.fd)).heap.size = w2.heap.size := by simp [World.setCell]
        exact this
      clear hb2 hblk2 HBLK HB d0 d1 d2 d3 d4
      go_wp2_with fail
      go_roundw
      case rel =>
        refine ⟨k + 1, by omega, by go_num, HB3.out, by rw [HSZW.out]; omega, _, ?_, HST.out, ?_⟩
        · simp [HCS.out]
        · intro j y hj hy
          by_cases hjk : j = k
          · subst hjk
            rw [HX.out] at hy
            cases hy
            exact HSM3.out
          · obtain ⟨h0, h1, h2, h3, h4⟩ := HD.out j y (by omega) hy
            exact ⟨by rw [in_set_other _ _ _ _ _ _ _ _ (by omega)]; exact h0, by rw [in_set_other _ _ _ _ _ _ _ _ (by omega)]; exact h1, by rw [in_set_other _ _ _ _ _ _ _ _ (by omega)]; exact h2, by rw [in_set_other _ _ _ _ _ _ _ _ (by omega)]; exact h3, by rw [in_set_other _ _ _ _ _ _ _ _ (by omega)]; exact h4⟩
      case measure => simp [intOf]; omega
    · obtain rfl : k = len := by omega
      clear H
      go_wp2_with fail
      go_ret
      refine ⟨_, k, by rw [HLEN.out]; rfl, ⟨by rw [HLEN.out]; unfold maxLen; omega, ?_⟩, HB.out⟩
      intro j y hy
      have hj : j < k := by have := (List.getElem?_eq_some_iff.1 hy).1; rw [HLEN.out] at this; exact this
      obtain ⟨h0, h1, h2, h3, h4⟩ := HD.out j y hj hy
      refine ⟨w.heap.size, 0, rfl, ⟨Nat.le_refl _, hgt⟩, ?_, ?_, ?_, ?_, ?_⟩
      · rw [Nat.zero_add, cell_of_row _ _ _ _ _ _ HBLK.out]; exact h0
      · rw [Nat.zero_add, cell_of_row _ _ _ _ _ _ HBLK.out]; exact h1
      · rw [Nat.zero_add, cell_of_row _ _ _ _ _ _ HBLK.out]; exact h2
      · rw [Nat.zero_add, cell_of_row _ _ _ _ _ _ HBLK.out]; exact h3
      · rw [Nat.zero_add, cell_of_row _ _ _ _ _ _ HBLK.out]; exact h4

end Go.Proofs.YtbifbmpflhdijaaDoor

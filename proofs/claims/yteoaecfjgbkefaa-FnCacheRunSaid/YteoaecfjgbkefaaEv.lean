/- Lists of events in memory: what it says that one lies there; the exact laws' helpers on them: szEventS measures, toEventS makes a copy, eqEventS answers whether two are equal. Nothing that was there changes. -/
import Derived.Test.YteoaecfjgbkefaaEvB
import Derived.WalkKit
import Derived.Below
import Derived.BigQuiet
import Derived.Deep.QuietTactic
import Derived.IntWalk
import Derived.Lib.Hide
import Derived.OwnWalk
import Derived.Outline
import Derived.KernelRfl
import Derived.Deep.Slices
import Derived.Deep.Fields
import Derived.Deep.RegionWith
import Derived.Laws.OwnMore
namespace Go.Proofs.Yteoaecfjgbkefaa
open Go.RowKit
set_option linter.unusedVariables false

structure Ev where
  kind : Int
  value : Int
deriving DecidableEq

/-- The elements of a slice of events. -/
def EvAt (w : World) (D : Nat → Prop) (es : List Ev) (a : Option Addr) : Prop :=
  ∀ i x, es[i]? = some x → ∃ b o, a = some ⟨b, o, none⟩ ∧ D b ∧ w.cell? ⟨b, o + i * 2, none⟩ = some (.int .i64 x.kind) ∧ w.cell? ⟨b, o + i * 2 + 1, none⟩ = some (.int .i64 x.value)

/-- A list of events lies in the world. -/
def EvL (w : World) (es : List Ev) (a : Option Addr) (cap : Nat) : Prop := es.length ≤ cap ∧ cap ≤ maxLen ∧ EvAt w (fun k => k < w.heap.size) es a
theorem EvL.below {w w' : World} {es : List Ev} {a : Option Addr} {cap : Nat} (h : EvL w es a cap) (hb : Below w.heap.size w w') : EvL w' es a cap :=
  ⟨h.1, h.2.1, fun i x hx => by
    obtain ⟨b, o, ha, hl, h0, h1⟩ := h.2.2 i x hx
    exact ⟨b, o, ha, Nat.lt_of_lt_of_le hl hb.size, (hb.cell (p := ⟨b, o + i * 2, none⟩) hl).trans h0, (hb.cell (p := ⟨b, o + i * 2 + 1, none⟩) hl).trans h1⟩⟩

set_option maxHeartbeats 1000000 in
theorem szEv_one (a : Option Addr) (n cap : Nat) (left : Int) (w : World) (h0 : 0 ≤ left) (h1 : left ≤ 1048576) (hn : n ≤ maxLen) :
    Calls Try.prog 42 #[.slice a n cap, .int .i64 left] w (EvSized n left w) := by
  unfold maxLen at hn
  by_cases hneg : left < n
  · go_enter Try.func42, Try.ntmps42
    go_wp2_with fail
    go_ret
    exact ⟨-1, rfl, by omega, fun h => absurd h (by omega), rfl⟩
  · go_enter Try.func42, Try.ntmps42
    go_wp2_with fail
    go_ret
    exact ⟨left - n, rfl, by omega, fun _ => by omega, rfl⟩

theorem Ev.ext' {x y : Ev} (h1 : x.kind = y.kind) (h2 : x.value = y.value) : x = y := by cases x; cases y; simp_all

set_option maxHeartbeats 1000000 in
theorem eqEv_one (x y : Ev) (w : World) :
    Calls Try.prog 74 #[.agg #[.int .i64 x.kind, .int .i64 x.value], .agg #[.int .i64 y.kind, .int .i64 y.value]] w (YN (decide (x = y)) w) := by
  have HB := Lib.hid ((((Below.refl w.heap.size w)).alloc (Nat.le_refl _) (.cells #[.int .i64 x.kind, .int .i64 x.value] 43)).alloc (by simp) (.cells #[.int .i64 y.kind, .int .i64 y.value] 43))
  by_cases h1 : x.kind = y.kind
  · by_cases h2 : x.value = y.value
    · have HE : Hid (true = decide (x = y)) := (decide_eq_true (Ev.ext' h1 h2)).symm
      have h1' : (x.kind != y.kind) = false := by simpa using h1
      have h2' : (x.value != y.value) = false := by simpa using h2
      clear h1 h2
      go_enter Try.func74, Try.ntmps74
      go_wp2_with fail
      go_ret
      exact YN.of HE.out HB.out
    · have HE : Hid (false = decide (x = y)) := (decide_eq_false fun e => h2 (by rw [e])).symm
      have h1' : (x.kind != y.kind) = false := by simpa using h1
      have h2' : (x.value != y.value) = true := by simpa using h2
      clear h1 h2
      go_enter Try.func74, Try.ntmps74
      go_wp2_with fail
      go_ret
      exact YN.of HE.out HB.out
  · have HE : Hid (false = decide (x = y)) := (decide_eq_false fun e => h1 (by rw [e])).symm
    have h1' : (x.kind != y.kind) = true := by simpa using h1
    clear h1
    go_enter Try.func74, Try.ntmps74
    go_wp2_with fail
    go_ret
    exact YN.of HE.out HB.out

set_option maxHeartbeats 2000000 in
/-- **eqEventS.** -/
theorem eqEvS_one (es fs : List Ev) (a a' : Option Addr) (cap cap' : Nat) (w : World) (h : EvL w es a cap) (h' : EvL w fs a' cap') :
    Calls Try.prog 45 #[.slice a es.length cap, .slice a' fs.length cap'] w (YN (decide (es = fs)) w) := by
  obtain ⟨hc, hm, h⟩ := h
  obtain ⟨hc', hm', h'⟩ := h'
  unfold maxLen at hm hm'
  obtain ⟨len, hlen⟩ : ∃ len, es.length = len := ⟨_, rfl⟩
  obtain ⟨len', hlen'⟩ : ∃ len', fs.length = len' := ⟨_, rfl⟩
  have HLEN := Lib.hid hlen
  have HLEN' := Lib.hid hlen'
  rw [hlen] at hc
  rw [hlen'] at hc'
  rw [hlen, hlen']
  have H := Lib.hid h
  have H' := Lib.hid h'
  clear h h' hlen hlen'
  by_cases hne : len = len'
  · subst hne
    go_enter Try.func45, Try.ntmps45
    go_wp2_with fail
    go_loopw [5] (fun i wr => ∃ k : Nat, k ≤ len ∧ i = .int .i64 k ∧ SameUp es fs k ∧ Below w.heap.size w wr) (fun i _ => len - (intOf i).toNat)
    case atStart => exact ⟨0, Nat.zero_le _, rfl, fun j hj => absurd hj (Nat.not_lt_zero _), Below.refl _ _⟩
    case round =>
      obtain ⟨k, hk, rfl, hS, hB⟩ := hrel
      have HS := Lib.hid hS
      have HB := Lib.hid hB
      clear hS hB
      by_cases hlt : k < len
      · obtain ⟨x, hx⟩ : ∃ x, es[k]? = some x := ⟨es[k]'(by rw [HLEN.out]; exact hlt), List.getElem?_eq_getElem _⟩
        obtain ⟨y, hy⟩ : ∃ y, fs[k]? = some y := ⟨fs[k]'(by rw [HLEN'.out]; exact hlt), List.getElem?_eq_getElem _⟩
        obtain ⟨b, o, rfl, hbl, e0, e1⟩ := H.out k x hx
        obtain ⟨b', o', rfl, hbl', g0, g1⟩ := H'.out k y hy
        have r0 := (HB.out.cell (p := ⟨b, o + k * 2, none⟩) hbl).trans e0
        have r1 := (HB.out.cell (p := ⟨b, o + k * 2 + 1, none⟩) hbl).trans e1
        have s0 := (HB.out.cell (p := ⟨b', o' + k * 2, none⟩) hbl').trans g0
        have s1 := (HB.out.cell (p := ⟨b', o' + k * 2 + 1, none⟩) hbl').trans g1
        clear e0 e1 g0 g1
        have hsz := HB.out.size
        have HX := Lib.hid hx
        have HY := Lib.hid hy
        clear hx hy H H'
        by_cases hxy : x = y
        · have HQ : Hid (decide (x = y) = true) := decide_eq_true hxy
          have HS2 : Hid (SameUp es fs (k + 1)) := HS.out.succ (by rw [HX.out, HY.out, hxy])
          clear hxy
          go_wp2_with fail
          go_region_with (go_at_call 74; refine (eqEv_one x y _).mono ?_; rintro e w2 ⟨rfl, hb2⟩; rw [HQ.out]; have HB2 : Hid (Below w.heap.size w w2) := (HB.out.drew.trans (hb2.mono hsz)); clear hb2)
          all_goals
            go_wp2_with fail
            go_roundw
            case rel => exact ⟨k + 1, by omega, by go_num, HS2.out, HB2.out⟩
            case measure => simp [intOf]; omega
        · have HQ : Hid (decide (x = y) = false) := decide_eq_false hxy
          have HN : Hid (false = decide (es = fs)) := (decide_eq_false fun e => hxy (by have h1 := HX.out; rw [e, HY.out] at h1; cases h1; rfl)).symm
          clear hxy
          go_wp2_with fail
          go_region_with (go_at_call 74; refine (eqEv_one x y _).mono ?_; rintro e w2 ⟨rfl, hb2⟩; rw [HQ.out]; have HB2 : Hid (Below w.heap.size w w2) := (HB.out.drew.trans (hb2.mono hsz)); clear hb2)
          all_goals
            go_wp2_with fail
            go_ret
            exact YN.of HN.out HB2.out
      · obtain rfl : k = len := by omega
        have HN : Hid (true = decide (es = fs)) := (decide_eq_true (HS.out.all HLEN.out HLEN'.out)).symm
        clear H H'
        go_wp2_with fail
        go_ret
        exact YN.of HN.out HB.out
  · have hne' : ((len : Int) != (len' : Int)) = true := by simp; omega
    have HN : Hid (false = decide (es = fs)) := (decide_eq_false fun e => hne (by rw [← HLEN.out, ← HLEN'.out, e])).symm
    go_enter Try.func45, Try.ntmps45
    go_wp2_with fail
    go_ret
    exact YN.of HN.out (Below.refl _ _)

/-- An event is handed back. -/
def CopyEv (x : Ev) (w : World) (f : Ending) (w' : World) : Prop := f = .returned (.agg #[.int .i64 x.kind, .int .i64 x.value]) ∧ Below w.heap.size w w'

set_option maxHeartbeats 1000000 in
theorem toEv_one (x : Ev) (w : World) :
    Calls Try.prog 73 #[.agg #[.int .i64 x.kind, .int .i64 x.value]] w (CopyEv x w) := by
  go_enter Try.func73, Try.ntmps73
  go_wp2_with fail
  refine bodyPost_ret (v := .agg #[.int .i64 x.kind, .int .i64 x.value]) (by simp [results, Try.f73, go_sem]) rfl ?_
  exact ⟨rfl, by repeat (first | exact Below.refl _ _ | refine Below.alloc ?_ (by simp <;> omega) _ | refine Below.setCell ?_ (by simp <;> omega) _)⟩

theorem Try.infoEv : (Try.prog.info? 43).map (fun i => (i.zero, i.size, i.bytes)) = some (some (.agg #[.int .i64 0, .int .i64 0]), 2, 16) := by kernel_rfl

/-- A list of events is handed back that reads alike. -/
def CopyEvs (es : List Ev) (w : World) (f : Ending) (w' : World) : Prop := ∃ a cap, f = .returned (.slice a es.length cap) ∧ EvL w' es a cap ∧ Below w.heap.size w w'

theorem ev_store2 {w : World} {g o : Nat} {cur : Array Value} {T : TypeId} (h : w.heap[g]? = some (.cells cur T (0, 0))) (n0 n1 : Value) :
    ((w.setCell ⟨g, o, none⟩ n0).setCell ⟨g, o + 1, none⟩ n1).heap[g]? = some (.cells ((cur.setIfInBounds o n0).setIfInBounds (o + 1) n1) T (0, 0)) :=
  heap_setCell_same _ g _ _ T n1 (heap_setCell_same w g o cur T n0 h)
theorem ev_cells2 {w : World} {g o : Nat} {cur : Array Value} {T : TypeId} (h : w.heap[g]? = some (.cells cur T (0, 0))) (ho : o + 1 < cur.size) :
    (∃ u0 u1, w.cell? ⟨g, o, none⟩ = some u0 ∧ w.cell? ⟨g, o + 1, none⟩ = some u1) ∧ w.frozen? ⟨g, o, none⟩ = false ∧ w.frozen? ⟨g, o + 1, none⟩ = false := by
  refine ⟨⟨cur[o], cur[o + 1], ?_, ?_⟩, frozen_of_row w g o cur T h, frozen_of_row w g (o + 1) cur T h⟩
  · rw [cell_of_row w g o cur T (0, 0) h]; exact Array.getElem?_eq_getElem _
  · rw [cell_of_row w g (o + 1) cur T (0, 0) h]; exact Array.getElem?_eq_getElem _
theorem ev_set2_same (cur : Array Value) (o : Nat) (n0 n1 : Value) (ho : o + 1 < cur.size) : ((cur.setIfInBounds o n0).setIfInBounds (o + 1) n1)[o]? = some n0 ∧ ((cur.setIfInBounds o n0).setIfInBounds (o + 1) n1)[o + 1]? = some n1 := by
  refine ⟨?_, ?_⟩ <;> simp [Array.getElem?_setIfInBounds] <;> omega
theorem ev_set2_other (cur : Array Value) (o j : Nat) (n0 n1 : Value) (h : j < o ∨ o + 1 < j) : ((cur.setIfInBounds o n0).setIfInBounds (o + 1) n1)[j]? = cur[j]? := by
  rw [Array.getElem?_setIfInBounds, if_neg (by omega), Array.getElem?_setIfInBounds, if_neg (by omega)]

set_option maxHeartbeats 2000000 in
/-- **toEventS.** -/
theorem toEvS_one (es : List Ev) (a : Option Addr) (cap : Nat) (w : World) (h : EvL w es a cap) (hs : es.length ≤ 1048576) :
    Calls Try.prog 43 #[.slice a es.length cap] w (CopyEvs es w) := by
  obtain ⟨i0, hi, hz0, hz1, hz2⟩ := info_parts Try.infoEv
  obtain ⟨hc, hm, h⟩ := h
  obtain ⟨len, hlen⟩ : ∃ len, es.length = len := ⟨_, rfl⟩
  have HLEN := Lib.hid hlen
  rw [hlen] at hc hs ⊢
  have H := Lib.hid h
  clear h hlen
  go_enter Try.func43, Try.ntmps43
  go_wp2_with (at_make; refine wpList_make_full _ rfl _ _ 33 rfl w.heap.size 43 i0 (.agg #[.int .i64 0, .int .i64 0]) 2 Try.underlying33 hi hz0 hz1 .i64 .i64 (len : Int) (len : Int) len rfl rfl rfl rfl (by rw [hz2]; omega) (by unfold maxLen; omega) (Nat.le_refl _) ?_; intro w1 hown1 hgrow1; clear hz0 hz1 hz2)
  have HB1 : Hid (Below w.heap.size w w1) := (Below.refl _ w).grown hgrow1 (Nat.le_refl _) (fun k e => by cases e)
  have HO1 : Hid (∃ cur : Array Value, cur.size = len * 2 ∧ w1.heap[w.heap.size]? = some (.cells cur 43 (0, 0))) := by
    rcases hown1.2 with ⟨h', _⟩ | ⟨g, cp, cur, h', _, hg, _, _, hcs, _⟩
    · cases h'
    · cases h'
      exact ⟨cur, hcs, hg⟩
  clear hown1 hgrow1
  go_loopw [4] (fun i wr => ∃ k : Nat, k ≤ len ∧ i = .int .i64 k ∧ Below w.heap.size w wr ∧ w.heap.size < wr.heap.size ∧ ∃ cur : Array Value, cur.size = len * 2 ∧ wr.heap[w.heap.size]? = some (.cells cur 43 (0, 0)) ∧
      ∀ (j : Nat) (x : Ev), j < k → es[j]? = some x → cur[j * 2]? = some (.int .i64 x.kind) ∧ cur[j * 2 + 1]? = some (.int .i64 x.value)) (fun i _ => len - (intOf i).toNat)
  case atStart =>
    obtain ⟨cur, h1, h2⟩ := HO1.out
    exact ⟨0, Nat.zero_le _, rfl, HB1.out, (Array.getElem?_eq_some_iff.1 h2).1, cur, h1, h2, fun j x hj => absurd hj (Nat.not_lt_zero _)⟩
  case round =>
    obtain ⟨k, hk, rfl, hB, hgt, cur, hcs, hblk, hdone⟩ := hrel
    have HB := Lib.hid hB
    have HCS := Lib.hid hcs
    have HBLK := Lib.hid hblk
    have HD := Lib.hid hdone
    clear hB hcs hblk hdone HO1 HB1
    by_cases hlt : k < len
    · obtain ⟨x, hx⟩ : ∃ x, es[k]? = some x := ⟨es[k]'(by rw [HLEN.out]; exact hlt), List.getElem?_eq_getElem _⟩
      obtain ⟨b, o, rfl, hbl, e0, e1⟩ := H.out k x hx
      have d0 := (HB.out.cell (p := ⟨b, o + k * 2, none⟩) hbl).trans e0
      have d1 := (HB.out.cell (p := ⟨b, o + k * 2 + 1, none⟩) hbl).trans e1
      clear e0 e1
      have hsz := HB.out.size
      have HX := Lib.hid hx
      clear hx
      go_wp2_with fail
      refine (toEv_one x _).mono ?_
      rintro f w2 ⟨rfl, hb2⟩
      have hsz2 := hb2.size
      have hblk2 : w2.heap[w.heap.size]? = some (.cells cur 43 (0, 0)) := (hb2.block _ hgt).trans HBLK.out
      have hb3 : k * 2 + 1 < cur.size := by rw [HCS.out]; omega
      obtain ⟨⟨u0, u1, hu0, hu1⟩, hf0, hf1⟩ := ev_cells2 (o := k * 2) hblk2 hb3
      have HST := Lib.hid (ev_store2 (o := k * 2) hblk2 (.int .i64 x.kind) (.int .i64 x.value))
      have HSM3 := Lib.hid (ev_set2_same cur (k * 2) (.int .i64 x.kind) (.int .i64 x.value) hb3)
      have HB3 : Hid (Below w.heap.size w ((w2.setCell ⟨w.heap.size, k * 2, none⟩ (.int .i64 x.kind)).setCell ⟨w.heap.size, k * 2 + 1, none⟩ (.int .i64 x.value))) :=
        ((HB.out.trans (hb2.mono hsz)).setCell (p := ⟨w.heap.size, k * 2, none⟩) (Nat.le_refl _) (.int .i64 x.kind)).setCell (p := ⟨w.heap.size, k * 2 + 1, none⟩) (Nat.le_refl _) (.int .i64 x.value)
      have HSZW : Hid (((w2.setCell ⟨w.heap.size, k * 2, none⟩ (.int .i64 x.kind)).setCell ⟨w.heap.size, k * 2 + 1, none⟩ (.int .i64 x.value)).heap.size = w2.heap.size) := by
        have : ((w2.setCell ⟨w.heap.size, k * 2, none⟩ (.int .i64 x.kind)).setCell ⟨w.heap.size, k * 2 + 1, none⟩ (.int .i64 x.value)).heap.size = w2.heap.size := by simp [World.setCell]
        exact this
      clear hb2 hblk2 HBLK HB d0 d1
      go_wp2_with fail
      go_roundw
      case rel =>
        refine ⟨k + 1, by omega, by go_num, HB3.out, by rw [HSZW.out]; omega, _, ?_, HST.out, ?_⟩
        · simp [HCS.out]
        · intro j y hj hy
          by_cases hjk : j = k
          · subst hjk
            rw [HX.out] at hy
            cases hy
            exact HSM3.out
          · obtain ⟨h0, h1⟩ := HD.out j y (by omega) hy
            exact ⟨by rw [ev_set2_other _ _ _ _ _ (by omega)]; exact h0, by rw [ev_set2_other _ _ _ _ _ (by omega)]; exact h1⟩
      case measure => simp [intOf]; omega
    · obtain rfl : k = len := by omega
      clear H
      go_wp2_with fail
      go_ret
      refine ⟨_, k, by rw [HLEN.out]; rfl, ⟨by rw [HLEN.out]; exact Nat.le_refl _, by unfold maxLen; omega, ?_⟩, HB.out⟩
      intro j y hy
      have hj : j < k := by have := (List.getElem?_eq_some_iff.1 hy).1; rw [HLEN.out] at this; exact this
      obtain ⟨h0, h1⟩ := HD.out j y hj hy
      refine ⟨w.heap.size, 0, rfl, hgt, ?_, ?_⟩
      · rw [Nat.zero_add, cell_of_row _ _ _ _ _ _ HBLK.out]; exact h0
      · rw [Nat.zero_add, cell_of_row _ _ _ _ _ _ HBLK.out]; exact h1

end Go.Proofs.Yteoaecfjgbkefaa

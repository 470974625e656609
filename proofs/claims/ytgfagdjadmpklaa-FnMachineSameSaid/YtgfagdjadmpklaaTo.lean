/- The copying functions of the exact laws on expressions: whatever tree lies in memory, the call returns a copy of it in new blocks, and nothing that was there has changed. Condition: no list of the tree has more than 2^20 elements. -/
import Derived.Test.YtgfagdjadmpklaaSz
import Derived.Laws.OwnMore
import Derived.KernelRfl
namespace Go.Proofs.Ytgfagdjadmpklaa
open Go.RowKit

theorem Try.infoE : (Try.prog.info? 45).map (fun i => (i.zero, i.size, i.bytes)) = some (some (.agg #[.int .i64 0, .int .i64 0, .slice none 0 0]), 3, 40) := by kernel_rfl

/-- Three stores into a block of structs. -/
theorem store3 {w : World} {g o : Nat} {cur : Array Value} {T : TypeId} (h : w.heap[g]? = some (.cells cur T (0, 0))) (n0 n1 n2 : Value) :
    (((w.setCell ⟨g, o, none⟩ n0).setCell ⟨g, o + 1, none⟩ n1).setCell ⟨g, o + 2, none⟩ n2).heap[g]? = some (.cells (((cur.setIfInBounds o n0).setIfInBounds (o + 1) n1).setIfInBounds (o + 2) n2) T (0, 0)) :=
  heap_setCell_same _ g _ _ T n2 (heap_setCell_same _ g _ _ T n1 (heap_setCell_same w g o cur T n0 h))
theorem cells3 {w : World} {g o : Nat} {cur : Array Value} {T : TypeId} (h : w.heap[g]? = some (.cells cur T (0, 0))) (ho : o + 2 < cur.size) :
    (∃ u0 u1 u2, w.cell? ⟨g, o, none⟩ = some u0 ∧ w.cell? ⟨g, o + 1, none⟩ = some u1 ∧ w.cell? ⟨g, o + 2, none⟩ = some u2) ∧ w.frozen? ⟨g, o, none⟩ = false ∧ w.frozen? ⟨g, o + 1, none⟩ = false ∧ w.frozen? ⟨g, o + 2, none⟩ = false := by
  refine ⟨⟨cur[o], cur[o + 1], cur[o + 2], ?_, ?_, ?_⟩, frozen_of_row w g o cur T h, frozen_of_row w g (o + 1) cur T h, frozen_of_row w g (o + 2) cur T h⟩
  · rw [cell_of_row w g o cur T (0, 0) h]; exact Array.getElem?_eq_getElem _
  · rw [cell_of_row w g (o + 1) cur T (0, 0) h]; exact Array.getElem?_eq_getElem _
  · rw [cell_of_row w g (o + 2) cur T (0, 0) h]; exact Array.getElem?_eq_getElem _
theorem set3_same (cur : Array Value) (o : Nat) (n0 n1 n2 : Value) (ho : o + 2 < cur.size) : (((cur.setIfInBounds o n0).setIfInBounds (o + 1) n1).setIfInBounds (o + 2) n2)[o]? = some n0 ∧ (((cur.setIfInBounds o n0).setIfInBounds (o + 1) n1).setIfInBounds (o + 2) n2)[o + 1]? = some n1 ∧ (((cur.setIfInBounds o n0).setIfInBounds (o + 1) n1).setIfInBounds (o + 2) n2)[o + 2]? = some n2 := by
  refine ⟨?_, ?_, ?_⟩ <;> simp [Array.getElem?_setIfInBounds] <;> omega
theorem set3_other (cur : Array Value) (o j : Nat) (n0 n1 n2 : Value) (h : j < o ∨ o + 2 < j) : (((cur.setIfInBounds o n0).setIfInBounds (o + 1) n1).setIfInBounds (o + 2) n2)[j]? = cur[j]? := by
  rw [Array.getElem?_setIfInBounds, if_neg (by omega), Array.getElem?_setIfInBounds, if_neg (by omega), Array.getElem?_setIfInBounds, if_neg (by omega)]

/-- The new blocks of a call. -/
def New (w w' : World) : Nat → Prop := fun k => w.heap.size ≤ k ∧ k < w'.heap.size

/-- A copy of a tree. -/
def CopyE (n : Nat) (e : E) (w : World) (f : Ending) (w' : World) : Prop := ∃ c0 c1 c2, f = .returned (.agg #[c0, c1, c2]) ∧ IsE w' (New w w') n e [c0, c1, c2] ∧ Below w.heap.size w w'
/-- A copy of a list of trees. -/
def CopyEs (n : Nat) (es : List E) (w : World) (f : Ending) (w' : World) : Prop := ∃ a cap, f = .returned (.slice a es.length cap) ∧ es.length ≤ cap ∧ cap ≤ maxLen ∧ EsAt w' (New w w') (IsE w' (New w w') n) es a ∧ Below w.heap.size w w'

set_option maxHeartbeats 1000000 in
theorem toExprS_of (n : Nat) (ih : ∀ (e : E) (c0 c1 c2 : Value) (D : Nat → Prop) (w : World), IsE w D n e [c0, c1, c2] → (∀ k, D k → k < w.heap.size) → SmE 1048576 n e →
      Calls Try.prog 20 #[.agg #[c0, c1, c2]] w (CopyE n e w))
    (es : List E) (a : Option Addr) (cap : Nat) (D : Nat → Prop) (w : World) (hc : es.length ≤ cap) (h : EsAt w D (IsE w D n) es a) (hl : ∀ k, D k → k < w.heap.size) (hs : es.length ≤ 1048576) (hsm : ∀ (i : Nat) (x : E), es[i]? = some x → SmE 1048576 n x) :
    Calls Try.prog 56 #[.slice a es.length cap] w (CopyEs n es w) := by
  obtain ⟨i0, hi, hz0, hz1, hz2⟩ := info_parts Try.infoE
  obtain ⟨len, hlen⟩ : ∃ len, es.length = len := ⟨_, rfl⟩
  have HLEN := Lib.hid hlen
  rw [hlen] at hc hs ⊢
  have H := Lib.hid h
  have IH := Lib.hid ih
  have HSM := Lib.hid hsm
  clear h ih hlen hsm
  go_enter Try.func56, Try.ntmps56
  go_wp2_with (at_make; refine wpList_make_full _ rfl _ _ 43 rfl w.heap.size 45 i0 (.agg #[.int .i64 0, .int .i64 0, .slice none 0 0]) 3 Try.underlying43 hi hz0 hz1 .i64 .i64 (len : Int) (len : Int) len rfl rfl rfl rfl (by rw [hz2]; omega) (by unfold maxLen; omega) (Nat.le_refl _) ?_; intro w1 hown1 hgrow1; clear hz0 hz1 hz2)
  have HB1 : Hid (Below w.heap.size w w1) := (Below.refl _ w).grown hgrow1 (Nat.le_refl _) (fun k e => by cases e)
  have HO1 : Hid (∃ cur : Array Value, cur.size = len * 3 ∧ w1.heap[w.heap.size]? = some (.cells cur 45 (0, 0))) := by
    rcases hown1.2 with ⟨h', _⟩ | ⟨g, cp, cur, h', _, hg, _, _, hcs, _⟩
    · cases h'
    · cases h'
      exact ⟨cur, hcs, hg⟩
  clear hown1 hgrow1
  go_loopw [4] (fun i wr => ∃ k : Nat, k ≤ len ∧ i = .int .i64 k ∧ Below w.heap.size w wr ∧ w.heap.size < wr.heap.size ∧ ∃ cur : Array Value, cur.size = len * 3 ∧ wr.heap[w.heap.size]? = some (.cells cur 45 (0, 0)) ∧
      ∀ (j : Nat) (x : E), j < k → es[j]? = some x → ∃ c0 c1 c2, cur[j * 3]? = some c0 ∧ cur[j * 3 + 1]? = some c1 ∧ cur[j * 3 + 2]? = some c2 ∧ IsE wr (fun b => w.heap.size < b ∧ b < wr.heap.size) n x [c0, c1, c2]) (fun i _ => len - (intOf i).toNat)
  case atStart =>
    obtain ⟨cur, h1, h2⟩ := HO1.out
    exact ⟨0, Nat.zero_le _, rfl, HB1.out, (Array.getElem?_eq_some_iff.1 h2).1, cur, h1, h2, fun j x hj => absurd hj (Nat.not_lt_zero _)⟩
  case round =>
    obtain ⟨k, hk, rfl, hB, hgt, cur, hcs, hblk, hdone⟩ := hrel
    have HB := Lib.hid hB
    have HCS := Lib.hid hcs
    have HBLK := Lib.hid hblk
    have HD := Lib.hid hdone
    clear hB hcs hblk hdone HO1 HB1
    by_cases hlt : k < len
    · obtain ⟨x, hx⟩ : ∃ x, es[k]? = some x := ⟨es[k]'(by rw [HLEN.out]; exact hlt), List.getElem?_eq_getElem _⟩
      obtain ⟨b, o, c0, c1, c2, rfl, hbl, e0, e1, e2, hE⟩ := H.out k x hx
      have hbl' := hl _ hbl
      have d0 := (HB.out.cell (p := ⟨b, o + k * 3, none⟩) hbl').trans e0
      have d1 := (HB.out.cell (p := ⟨b, o + k * 3 + 1, none⟩) hbl').trans e1
      have d2 := (HB.out.cell (p := ⟨b, o + k * 3 + 2, none⟩) hbl').trans e2
      clear e0 e1 e2
      have HE : Hid (IsE wr D n x [c0, c1, c2]) := hE.later (Stand.of_below HB.out hl)
      have hsz := HB.out.size
      have HX := Lib.hid hx
      have HSX := Lib.hid (HSM.out k x hx)
      clear hE hx
      go_wp2_with fail
      refine (IH.out x c0 c1 c2 D _ HE.out (fun j hj => Nat.lt_of_lt_of_le (hl j hj) hsz) HSX.out).mono ?_
      rintro f w2 ⟨m0, m1, m2, rfl, hE2, hb2⟩
      obtain ⟨ax, capx, rfl, rfl, rfl, _, _⟩ := hE2.shape
      have HE2 := Lib.hid hE2
      have HB2 := Lib.hid hb2
      have hsz2 := hb2.size
      have hblk2 : w2.heap[w.heap.size]? = some (.cells cur 45 (0, 0)) := (hb2.block _ hgt).trans HBLK.out
      have hb3 : k * 3 + 2 < cur.size := by rw [HCS.out]; omega
      obtain ⟨⟨u0, u1, u2, hu0, hu1, hu2⟩, hf0, hf1, hf2⟩ := cells3 (o := k * 3) hblk2 hb3
      have HST := Lib.hid (store3 (o := k * 3) hblk2 (.int .i64 x.kind) (.int .i64 x.value) (.slice ax x.kids.length capx))
      have HSM3 := Lib.hid (set3_same cur (k * 3) (.int .i64 x.kind) (.int .i64 x.value) (.slice ax x.kids.length capx) hb3)
      have HSW : Hid (Stand (fun b => w.heap.size < b) w2 (((w2.setCell ⟨w.heap.size, k * 3, none⟩ (.int .i64 x.kind)).setCell ⟨w.heap.size, k * 3 + 1, none⟩ (.int .i64 x.value)).setCell ⟨w.heap.size, k * 3 + 2, none⟩ (.slice ax x.kids.length capx))) := fun j hj => by
        rw [Below.heap_setCell _ _ _ _ (by simp; omega), Below.heap_setCell _ _ _ _ (by simp; omega), Below.heap_setCell _ _ _ _ (by simp; omega)]
      have HB3 : Hid (Below w.heap.size w (((w2.setCell ⟨w.heap.size, k * 3, none⟩ (.int .i64 x.kind)).setCell ⟨w.heap.size, k * 3 + 1, none⟩ (.int .i64 x.value)).setCell ⟨w.heap.size, k * 3 + 2, none⟩ (.slice ax x.kids.length capx))) :=
        (((HB.out.trans (hb2.mono hsz)).setCell (p := ⟨w.heap.size, k * 3, none⟩) (Nat.le_refl _) (.int .i64 x.kind)).setCell (p := ⟨w.heap.size, k * 3 + 1, none⟩) (Nat.le_refl _) (.int .i64 x.value)).setCell (p := ⟨w.heap.size, k * 3 + 2, none⟩) (Nat.le_refl _) (.slice ax x.kids.length capx)
      have hszW : (((w2.setCell ⟨w.heap.size, k * 3, none⟩ (.int .i64 x.kind)).setCell ⟨w.heap.size, k * 3 + 1, none⟩ (.int .i64 x.value)).setCell ⟨w.heap.size, k * 3 + 2, none⟩ (.slice ax x.kids.length capx)).heap.size = w2.heap.size := by simp [World.setCell]
      have HSZW := Lib.hid hszW
      have HK2 : Hid (∀ (j : Nat) (y : E), j < k → es[j]? = some y → ∃ c0 c1 c2, cur[j * 3]? = some c0 ∧ cur[j * 3 + 1]? = some c1 ∧ cur[j * 3 + 2]? = some c2 ∧ IsE w2 (fun b => w.heap.size < b ∧ b < w2.heap.size) n y [c0, c1, c2]) := fun j y hj hy => by
        obtain ⟨c0, c1, c2, h0, h1, h2, hr⟩ := HD.out j y hj hy
        exact ⟨c0, c1, c2, h0, h1, h2, hr.mono (Stand.of_below hb2 fun b hb => hb.2) fun b hb => ⟨hb.1, by omega⟩⟩
      have HN2 : Hid (IsE w2 (fun b => w.heap.size < b ∧ b < w2.heap.size) n x [.int .i64 x.kind, .int .i64 x.value, .slice ax x.kids.length capx]) := hE2.mono (fun _ _ => rfl) fun b hb => ⟨by have := hb.1; omega, hb.2⟩
      clear hE2 hb2 HE2 HB2 hblk2 HD HBLK HB HE d0 d1 d2 hszW
      go_wp2_with fail
      go_roundw
      case rel =>
        refine ⟨k + 1, by omega, by go_num, HB3.out, by rw [HSZW.out]; omega, _, ?_, HST.out, ?_⟩
        · simp [HCS.out]
        · intro j y hj hy
          by_cases hjk : j = k
          · subst hjk
            rw [HX.out] at hy
            cases hy
            exact ⟨_, _, _, HSM3.out.1, HSM3.out.2.1, HSM3.out.2.2, HN2.out.mono (fun b hb => HSW.out b hb.1) fun b hb => ⟨hb.1, by rw [HSZW.out]; exact hb.2⟩⟩
          · obtain ⟨c0, c1, c2, h0, h1, h2, hr⟩ := HK2.out j y (by omega) hy
            exact ⟨c0, c1, c2, by rw [set3_other _ _ _ _ _ _ (by omega)]; exact h0, by rw [set3_other _ _ _ _ _ _ (by omega)]; exact h1, by rw [set3_other _ _ _ _ _ _ (by omega)]; exact h2, hr.mono (fun b hb => HSW.out b hb.1) fun b hb => ⟨hb.1, by rw [HSZW.out]; exact hb.2⟩⟩
      case measure => simp [intOf]; omega
    · obtain rfl : k = len := by omega
      clear H
      go_wp2_with fail
      go_ret
      refine ⟨_, k, by rw [HLEN.out]; rfl, by rw [HLEN.out]; exact Nat.le_refl _, by unfold maxLen; omega, ?_, HB.out⟩
      intro j y hy
      have hj : j < k := by have := (List.getElem?_eq_some_iff.1 hy).1; rw [HLEN.out] at this; exact this
      obtain ⟨c0, c1, c2, h0, h1, h2, hr⟩ := HD.out j y hj hy
      refine ⟨w.heap.size, 0, c0, c1, c2, rfl, ⟨Nat.le_refl _, hgt⟩, ?_, ?_, ?_, hr.mono (fun _ _ => rfl) fun b hb => ⟨Nat.le_of_lt hb.1, hb.2⟩⟩
      · rw [Nat.zero_add, cell_of_row _ _ _ _ _ _ HBLK.out]; exact h0
      · rw [Nat.zero_add, cell_of_row _ _ _ _ _ _ HBLK.out]; exact h1
      · rw [Nat.zero_add, cell_of_row _ _ _ _ _ _ HBLK.out]; exact h2

set_option maxHeartbeats 1000000 in
theorem toExpr_succ (n : Nat) (hS : ∀ (es : List E) (a : Option Addr) (cap : Nat) (D : Nat → Prop) (w : World), es.length ≤ cap → EsAt w D (IsE w D n) es a → (∀ k, D k → k < w.heap.size) → es.length ≤ 1048576 → (∀ (i : Nat) (x : E), es[i]? = some x → SmE 1048576 n x) →
      Calls Try.prog 56 #[.slice a es.length cap] w (CopyEs n es w))
    (e : E) (c0 c1 c2 : Value) (D : Nat → Prop) (w : World) (h : IsE w D (n + 1) e [c0, c1, c2]) (hl : ∀ k, D k → k < w.heap.size) (hs : SmE 1048576 (n + 1) e) :
    Calls Try.prog 20 #[.agg #[c0, c1, c2]] w (CopyE (n + 1) e w) := by
  obtain ⟨a, cap, hcs, hcap, hm, hat⟩ := h
  cases hcs
  have HAT := Lib.hid hat
  have HS := Lib.hid hS
  have HSM := Lib.hid hs
  clear hS hat hs
  go_enter Try.func20, Try.ntmps20
  go_wp2_with fail
  obtain ⟨W, hW⟩ : ∃ W, (((w.alloc (.cells #[.int .i64 e.kind, .int .i64 e.value, .slice a e.kids.length cap] 40)).alloc (.cells #[.int .i64 0, .int .i64 0, .slice none 0 0] 45)).alloc (.cells #[.int .i64 e.kind, .int .i64 e.value, .slice none 0 0] 45)) = W := ⟨_, rfl⟩
  have hz : W.heap.size = w.heap.size + 3 := by rw [← hW]; simp
  have hB : Below w.heap.size w W := by rw [← hW]; exact (((Below.refl _ w).alloc (Nat.le_refl _) _).alloc (by simp) _).alloc (by simp; omega) _
  have q1 : W.heap[w.heap.size + 1]? = some (.cells #[.int .i64 0, .int .i64 0, .slice none 0 0] 45 (0, 0)) := by
    have e1 := heap_alloc_new (w.alloc (.cells #[.int .i64 e.kind, .int .i64 e.value, .slice a e.kids.length cap] 40)) (.cells #[.int .i64 0, .int .i64 0, .slice none 0 0] 45)
    rw [World.size_alloc] at e1
    rw [← hW, Below.heap_alloc _ _ _ (by simp)]; exact e1
  have q2 : W.heap[w.heap.size + 1 + 1]? = some (.cells #[.int .i64 e.kind, .int .i64 e.value, .slice none 0 0] 45 (0, 0)) := by
    have e1 := heap_alloc_new ((w.alloc (.cells #[.int .i64 e.kind, .int .i64 e.value, .slice a e.kids.length cap] 40)).alloc (.cells #[.int .i64 0, .int .i64 0, .slice none 0 0] 45)) (.cells #[.int .i64 e.kind, .int .i64 e.value, .slice none 0 0] 45)
    rw [World.size_alloc, World.size_alloc] at e1
    rw [← hW]; exact e1
  rw [hW]
  clear hW
  have HB := Lib.hid hB
  refine (HS.out e.kids a cap D _ hcap (HAT.out.later (Stand.of_below hB hl)) (fun k hk => Nat.lt_of_lt_of_le (hl k hk) hB.size) HSM.out.1 HSM.out.2.2).mono ?_
  rintro f W2 ⟨a2, cap2, rfl, hc2, hm2, hat2, hb2⟩
  have p1 := (hb2.block (w.heap.size + 1) (by omega)).trans q1
  have p2 := (hb2.block (w.heap.size + 1 + 1) (by omega)).trans q2
  have hz2 := hb2.size
  obtain ⟨⟨u0, u1, u2, hu0, hu1, hu2⟩, hf0, hf1, hf2⟩ := cells3 (o := 0) p1 (by simp)
  have y0 : W2.cell? ⟨w.heap.size + 1 + 1, 0, none⟩ = some (.int .i64 e.kind) := by rw [cell_of_row _ _ _ _ _ _ p2]; rfl
  have y1 : W2.cell? ⟨w.heap.size + 1 + 1, 1, none⟩ = some (.int .i64 e.value) := by rw [cell_of_row _ _ _ _ _ _ p2]; rfl
  have y2 : W2.cell? ⟨w.heap.size + 1 + 1, 2, none⟩ = some (.slice none 0 0) := by rw [cell_of_row _ _ _ _ _ _ p2]; rfl
  have g2 : W2.frozen? ⟨w.heap.size + 1 + 1, 2, none⟩ = false := frozen_of_row _ _ _ _ _ p2
  have HAT2 := Lib.hid hat2
  have HB2 := Lib.hid (hB.trans (hb2.mono hB.size))
  have HZ := Lib.hid hz
  clear hat2 hb2 p1 p2 q1 q2 hB HAT HS HB hz
  simp only [Nat.zero_add] at hu0 hu1 hu2 hf0 hf1 hf2
  go_wp2_with fail
  have HST : Hid (Stand (New W W2) W2 ((((W2.setCell ⟨w.heap.size + 1 + 1, 2, none⟩ (.slice a2 e.kids.length cap2)).setCell ⟨w.heap.size + 1, 0, none⟩ (.int .i64 e.kind)).setCell ⟨w.heap.size + 1, 1, none⟩ (.int .i64 e.value)).setCell ⟨w.heap.size + 1, 2, none⟩ (.slice a2 e.kids.length cap2))) := fun j hj => by
    have h1 := hj.1
    have h2 := HZ.out
    rw [Below.heap_setCell _ _ _ _ (by simp; omega), Below.heap_setCell _ _ _ _ (by simp; omega), Below.heap_setCell _ _ _ _ (by simp; omega), Below.heap_setCell _ _ _ _ (by simp; omega)]
  refine bodyPost_ret (v := .agg #[.int .i64 e.kind, .int .i64 e.value, .slice a2 e.kids.length cap2]) (by simp [results, Try.f20, go_sem, hu0, hu1, hu2]) rfl ?_
  refine ⟨_, _, _, rfl, ⟨a2, cap2, rfl, hc2, hm2, HAT2.out.wide HST.out fun k hk => ⟨?_, ?_⟩⟩, (((HB2.out.setCell (p := ⟨w.heap.size + 1 + 1, 2, none⟩) (by simp; omega) _).setCell (p := ⟨w.heap.size + 1, 0, none⟩) (by simp) _).setCell (p := ⟨w.heap.size + 1, 1, none⟩) (by simp) _).setCell (p := ⟨w.heap.size + 1, 2, none⟩) (by simp) _⟩
  · have := hk.1; have := HZ.out; omega
  · simpa [World.setCell] using hk.2

/-- **toExpr, AT EVERY TREE.** -/
theorem toExpr_one : ∀ (n : Nat) (e : E) (c0 c1 c2 : Value) (D : Nat → Prop) (w : World), IsE w D n e [c0, c1, c2] → (∀ k, D k → k < w.heap.size) → SmE 1048576 n e →
      Calls Try.prog 20 #[.agg #[c0, c1, c2]] w (CopyE n e w)
  | 0, _, _, _, _, _, _, h, _, _ => h.elim
  | n + 1, e, c0, c1, c2, D, w, h, hl, hs => toExpr_succ n (fun es a cap D w hc hat hl hs hsm => toExprS_of n (toExpr_one n) es a cap D w hc hat hl hs hsm) e c0 c1 c2 D w h hl hs

end Go.Proofs.Ytgfagdjadmpklaa

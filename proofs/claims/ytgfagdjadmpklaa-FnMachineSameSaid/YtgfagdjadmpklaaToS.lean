/- The copying functions of the exact laws on statements: whatever lies in memory, the call returns a copy of it in new blocks, and nothing that was there has changed. Condition: no list has more than 2^20 elements. -/
import Derived.Test.YtgfagdjadmpklaaTo
import Derived.Test.YtgfagdjadmpklaaPut
namespace Go.Proofs.Ytgfagdjadmpklaa
open Go.RowKit
set_option linter.unusedVariables false

abbrev zeroArrS : Array Value := #[.int .i64 0, .int .i64 0, .int .i64 0, .int .i64 0, .slice none 0 0, .int .i64 0, .int .i64 0, .slice none 0 0, .int .i64 0, .slice none 0 0, .slice none 0 0]
theorem Try.infoS : (Try.prog.info? 107).map (fun i => (i.zero, i.size, i.bytes)) = some (some (.agg zeroArrS), 11, 152) := by kernel_rfl

/-- A copy of a statement. -/
def CopyS (n : Nat) (s : S) (w : World) (f : Ending) (w' : World) : Prop := ∃ k, f = .returned (aggS s k) ∧ IsS w' (New w w') n s k ∧ Below w.heap.size w w'
/-- A copy of a list of statements. -/
def CopySs (n : Nat) (ss : List S) (w : World) (f : Ending) (w' : World) : Prop := ∃ a cap, f = .returned (.slice a ss.length cap) ∧ ss.length ≤ cap ∧ cap ≤ maxLen ∧ SsAt w' (New w w') (IsS w' (New w w') n) ss a ∧ Below w.heap.size w w'

set_option maxHeartbeats 4000000 in
theorem toStmtS_of (n : Nat) (ih : ∀ (s : S) (k : SC) (D : Nat → Prop) (w : World), IsS w D n s k → (∀ k, D k → k < w.heap.size) → SmS 1048576 n s →
      Calls Try.prog 92 #[aggS s k] w (CopyS n s w))
    (ss : List S) (a : Option Addr) (cap : Nat) (D : Nat → Prop) (w : World) (hc : ss.length ≤ cap) (h : SsAt w D (IsS w D n) ss a) (hl : ∀ k, D k → k < w.heap.size) (hs : ss.length ≤ 1048576) (hsm : ∀ (i : Nat) (x : S), ss[i]? = some x → SmS 1048576 n x) :
    Calls Try.prog 64 #[.slice a ss.length cap] w (CopySs n ss w) := by
  obtain ⟨i0, hi, hz0, hz1, hz2⟩ := info_parts Try.infoS
  obtain ⟨len, hlen⟩ : ∃ len, ss.length = len := ⟨_, rfl⟩
  have HLEN := Lib.hid hlen
  rw [hlen] at hc hs ⊢
  have H := Lib.hid h
  have IH := Lib.hid ih
  have HSM := Lib.hid hsm
  clear h ih hlen hsm
  go_enter Try.func64, Try.ntmps64
  go_wp2_with (at_make; refine wpList_make_full _ rfl _ _ 53 rfl w.heap.size 107 i0 (.agg zeroArrS) 11 Try.underlying53 hi hz0 hz1 .i64 .i64 (len : Int) (len : Int) len rfl rfl rfl rfl (by rw [hz2]; omega) (by unfold maxLen; omega) (Nat.le_refl _) ?_; intro w1 hown1 hgrow1; clear hz0 hz1 hz2)
  have HB1 : Hid (Below w.heap.size w w1) := (Below.refl _ w).grown hgrow1 (Nat.le_refl _) (fun k e => by cases e)
  have HO1 : Hid (∃ cur : Array Value, cur.size = len * 11 ∧ w1.heap[w.heap.size]? = some (.cells cur 107 (0, 0))) := by
    rcases hown1.2 with ⟨h', _⟩ | ⟨g, cp, cur, h', _, hg, _, _, hcs, _⟩
    · cases h'
    · cases h'
      exact ⟨cur, hcs, hg⟩
  clear hown1 hgrow1
  go_loopw [4] (fun i wr => ∃ k : Nat, k ≤ len ∧ i = .int .i64 k ∧ Below w.heap.size w wr ∧ w.heap.size < wr.heap.size ∧ ∃ cur : Array Value, cur.size = len * 11 ∧ wr.heap[w.heap.size]? = some (.cells cur 107 (0, 0)) ∧
      ∀ (j : Nat) (x : S), j < k → ss[j]? = some x → ∃ kk, RowIn cur (j * 11) x kk ∧ IsS wr (fun b => w.heap.size < b ∧ b < wr.heap.size) n x kk) (fun i _ => len - (intOf i).toNat)
  case atStart =>
    obtain ⟨cur, h1, h2⟩ := HO1.out
    exact ⟨0, Nat.zero_le _, rfl, HB1.out, (Array.getElem?_eq_some_iff.1 h2).1, cur, h1, h2, fun j x hj => absurd hj (Nat.not_lt_zero _)⟩
  case round =>
    obtain ⟨k, hk, rfl, hB, hgt, cur, hcs, hblk, hdone⟩ := hrel
    have HB := Lib.hid hB
    have HCS := Lib.hid hcs
    have HBLK := Lib.hid hblk
    have HD := Lib.hid hdone
    clear hB hcs hblk hdone HO1 HB1
    by_cases hlt : k < len
    · obtain ⟨x, hx⟩ : ∃ x, ss[k]? = some x := ⟨ss[k]'(by rw [HLEN.out]; exact hlt), List.getElem?_eq_getElem _⟩
      obtain ⟨b, o, kk, rfl, hbl, hrow, hE⟩ := H.out k x hx
      obtain ⟨d0, d1, d2, d3, d4, d5, d6, d7, d8, d9, d10⟩ := hrow.stand (HB.out.block b (hl _ hbl))
      have HE : Hid (IsS wr D n x kk) := hE.later (Stand.of_below HB.out hl)
      have hsz := HB.out.size
      have HX := Lib.hid hx
      have HSX := Lib.hid (HSM.out k x hx)
      clear hE hx hrow
      go_wp2_with fail
      refine (IH.out x kk D _ HE.out (fun j hj => Nat.lt_of_lt_of_le (hl j hj) hsz) HSX.out).mono ?_
      rintro f w2 ⟨k2, rfl, hE2, hb2⟩
      have hsz2 := hb2.size
      have hblk2 : w2.heap[w.heap.size]? = some (.cells cur 107 (0, 0)) := (hb2.block _ hgt).trans HBLK.out
      have hb3 : k * 11 + 10 < cur.size := by rw [HCS.out]; omega
      obtain ⟨u0, hu0⟩ := cell_ex hblk2 (k * 11) (by omega)
      obtain ⟨u1, hu1⟩ := cell_ex hblk2 (k * 11 + 1) (by omega)
      obtain ⟨u2, hu2⟩ := cell_ex hblk2 (k * 11 + 2) (by omega)
      obtain ⟨u3, hu3⟩ := cell_ex hblk2 (k * 11 + 3) (by omega)
      obtain ⟨u4, hu4⟩ := cell_ex hblk2 (k * 11 + 4) (by omega)
      obtain ⟨u5, hu5⟩ := cell_ex hblk2 (k * 11 + 5) (by omega)
      obtain ⟨u6, hu6⟩ := cell_ex hblk2 (k * 11 + 6) (by omega)
      obtain ⟨u7, hu7⟩ := cell_ex hblk2 (k * 11 + 7) (by omega)
      obtain ⟨u8, hu8⟩ := cell_ex hblk2 (k * 11 + 8) (by omega)
      obtain ⟨u9, hu9⟩ := cell_ex hblk2 (k * 11 + 9) (by omega)
      obtain ⟨u10, hu10⟩ := cell_ex hblk2 (k * 11 + 10) (by omega)
      have hf0 := frozen_at hblk2 (k * 11)
      have hf1 := frozen_at hblk2 (k * 11 + 1)
      have hf2 := frozen_at hblk2 (k * 11 + 2)
      have hf3 := frozen_at hblk2 (k * 11 + 3)
      have hf4 := frozen_at hblk2 (k * 11 + 4)
      have hf5 := frozen_at hblk2 (k * 11 + 5)
      have hf6 := frozen_at hblk2 (k * 11 + 6)
      have hf7 := frozen_at hblk2 (k * 11 + 7)
      have hf8 := frozen_at hblk2 (k * 11 + 8)
      have hf9 := frozen_at hblk2 (k * 11 + 9)
      have hf10 := frozen_at hblk2 (k * 11 + 10)
      have HSTAND : Hid (Stand (fun b => w.heap.size < b) w2 (put w2 w.heap.size (k * 11) (arrS x k2).toList)) := fun j hj => put_other _ _ _ _ _ (by omega)
      have HFIN : Hid (Below w.heap.size w (put w2 w.heap.size (k * 11) (arrS x k2).toList) ∧ w.heap.size < (put w2 w.heap.size (k * 11) (arrS x k2).toList).heap.size ∧ ∃ cur : Array Value, cur.size = len * 11 ∧ (put w2 w.heap.size (k * 11) (arrS x k2).toList).heap[w.heap.size]? = some (.cells cur 107 (0, 0)) ∧
          ∀ (j : Nat) (y : S), j < k + 1 → ss[j]? = some y → ∃ kk, RowIn cur (j * 11) y kk ∧ IsS (put w2 w.heap.size (k * 11) (arrS x k2).toList) (fun b => w.heap.size < b ∧ b < (put w2 w.heap.size (k * 11) (arrS x k2).toList).heap.size) n y kk) := by
        refine ⟨put_below _ _ _ _ _ _ (HB.out.trans (hb2.mono hsz)) (Nat.le_refl _), by rw [put_size]; omega, _, ?_, put_row _ _ _ _ _ _ hblk2, ?_⟩
        · rw [setL_size]; exact HCS.out
        · intro j y hj hy
          by_cases hjk : j = k
          · subst hjk
            rw [HX.out] at hy
            cases hy
            exact ⟨k2, RowIn.set (by omega), (hE2.mono (fun b hb => HSTAND.out b (by have := hb.1; omega)) fun b hb => ⟨by have := hb.1; omega, by rw [put_size]; exact hb.2⟩)⟩
          · obtain ⟨kk, h0, hr⟩ := HD.out j y (by omega) hy
            refine ⟨kk, h0.other (.inl (by omega)), (hr.mono (D' := fun b => w.heap.size < b ∧ b < w2.heap.size) (Stand.of_below hb2 fun b hb => hb.2) fun b hb => ⟨hb.1, by omega⟩).mono (fun b hb => HSTAND.out b hb.1) fun b hb => ⟨hb.1, by rw [put_size]; exact hb.2⟩⟩
      clear hE2 hb2 hblk2 HD HBLK HB HE HSTAND hb3 HSX d0 d1 d2 d3 d4 d5 d6 d7 d8 d9 d10
      go_wp2_with fail
      go_roundw
      case rel => exact ⟨k + 1, by omega, by go_num, HFIN.out⟩
      case measure => simp [intOf]; omega
    · obtain rfl : k = len := by omega
      clear H
      go_wp2_with fail
      go_ret
      refine ⟨_, k, by rw [HLEN.out]; rfl, by rw [HLEN.out]; exact Nat.le_refl _, by unfold maxLen; omega, ?_, HB.out⟩
      intro j y hy
      have hj : j < k := by have := (List.getElem?_eq_some_iff.1 hy).1; rw [HLEN.out] at this; exact this
      obtain ⟨kk, h0, hr⟩ := HD.out j y hj hy
      exact ⟨w.heap.size, 0, kk, rfl, ⟨Nat.le_refl _, hgt⟩, by rw [Nat.zero_add]; exact h0.row HBLK.out, hr.mono (fun _ _ => rfl) fun b hb => ⟨Nat.le_of_lt hb.1, hb.2⟩⟩

set_option maxHeartbeats 4000000 in
theorem toStmt_succ (n : Nat) (hS : ∀ (ss : List S) (a : Option Addr) (cap : Nat) (D : Nat → Prop) (w : World), ss.length ≤ cap → SsAt w D (IsS w D n) ss a → (∀ k, D k → k < w.heap.size) → ss.length ≤ 1048576 → (∀ (i : Nat) (x : S), ss[i]? = some x → SmS 1048576 n x) →
      Calls Try.prog 64 #[.slice a ss.length cap] w (CopySs n ss w))
    (s : S) (k : SC) (D : Nat → Prop) (w : World) (h : IsS w D (n + 1) s k) (hl : ∀ k, D k → k < w.heap.size) (hs : SmS 1048576 (n + 1) s) :
    Calls Try.prog 92 #[aggS s k] w (CopyS (n + 1) s w) := by
  obtain ⟨hi, hv, hbc, hbm, hbat, hec, hem, heat⟩ := h
  have HI := Lib.hid hi
  have HV := Lib.hid hv
  have HBA := Lib.hid hbat
  have HEA := Lib.hid heat
  have HS := Lib.hid hS
  have HSM := Lib.hid hs
  clear hi hv hbat heat hS hs
  go_enter Try.func92, Try.ntmps92
  go_wp2_with fail
  obtain ⟨W, hW⟩ : ∃ W, (((w.alloc (.cells (arrS s k) 143)).alloc (.cells zeroArrS 107)).alloc (.cells #[.int .i64 s.kind, .int .i64 s.target, .int .i64 0, .int .i64 0, .slice none 0 0, .int .i64 0, .int .i64 0, .slice none 0 0, .int .i64 0, .slice none 0 0, .slice none 0 0] 107)) = W := ⟨_, rfl⟩
  have hz : W.heap.size = w.heap.size + 3 := by rw [← hW]; simp
  have hB : Below w.heap.size w W := by rw [← hW]; exact (((Below.refl _ w).alloc (Nat.le_refl _) _).alloc (by simp) _).alloc (by simp; omega) _
  have q0 : BoxS W w.heap.size s k := by
    rw [← hW]
    exact ((BoxS.new w s k 143).later (Below.heap_alloc _ _ _ (by simp))).later (Below.heap_alloc _ _ _ (by simp; omega))
  have q1 : W.heap[w.heap.size + 1]? = some (.cells zeroArrS 107 (0, 0)) := by
    have e1 := heap_alloc_new (w.alloc (.cells (arrS s k) 143)) (.cells zeroArrS 107)
    rw [World.size_alloc] at e1
    rw [← hW, Below.heap_alloc _ _ _ (by simp)]; exact e1
  have q2 : W.heap[w.heap.size + 1 + 1]? = some (.cells #[.int .i64 s.kind, .int .i64 s.target, .int .i64 0, .int .i64 0, .slice none 0 0, .int .i64 0, .int .i64 0, .slice none 0 0, .int .i64 0, .slice none 0 0, .slice none 0 0] 107 (0, 0)) := by
    have e1 := heap_alloc_new ((w.alloc (.cells (arrS s k) 143)).alloc (.cells zeroArrS 107)) (.cells #[.int .i64 s.kind, .int .i64 s.target, .int .i64 0, .int .i64 0, .slice none 0 0, .int .i64 0, .int .i64 0, .slice none 0 0, .int .i64 0, .slice none 0 0, .slice none 0 0] 107)
    rw [World.size_alloc, World.size_alloc] at e1
    rw [← hW]; exact e1
  unfold arrS at hW
  rw [hW]
  clear hW
  have HB := Lib.hid hB
  have HZ := Lib.hid hz
  have Q0 := Lib.hid q0
  have Q1 := Lib.hid q1
  have Q2 := Lib.hid q2
  clear hB hz q0 q1 q2
  have hlt0 : ∀ j, D j → j < W.heap.size := fun j hj => Nat.lt_of_lt_of_le (hl j hj) HB.out.size
  have HL0 := Lib.hid hlt0
  clear hlt0
  -- the index
  refine (toExpr_one n s.index _ _ _ D _ (HI.out.later (Stand.of_below HB.out hl)) HL0.out HSM.out.1).mono ?_
  rintro f w1 ⟨c0, c1, c2, rfl, hE1, hb1⟩
  obtain ⟨ia, ic, rfl, rfl, rfl, _, _⟩ := hE1.shape
  have z1 := hb1.size
  have hzz := HZ.out
  have r2 := (hb1.block (w.heap.size + 1 + 1) (by omega)).trans Q2.out
  have r1 := (hb1.block (w.heap.size + 1) (by omega)).trans Q1.out
  have r0 := Q0.out.below hb1 (by omega)
  obtain ⟨u2, hu2⟩ := cell_ex r2 2 (by simp)
  obtain ⟨u3, hu3⟩ := cell_ex r2 3 (by simp)
  obtain ⟨u4, hu4⟩ := cell_ex r2 4 (by simp)
  have hf2 := frozen_at r2 2
  have hf3 := frozen_at r2 3
  have hf4 := frozen_at r2 4
  have q5 := r0.c5
  have q6 := r0.c6
  have q7 := r0.c7
  have R0 := Lib.hid r0
  have R1 := Lib.hid r1
  have R2 := Lib.hid r2
  have HE1 := Lib.hid hE1
  have HB1 := Lib.hid (HB.out.trans (hb1.mono HB.out.size))
  clear r0 r1 r2 hE1 hb1 HI HL0 HB Q0 Q1 Q2
  go_wp2_with fail
  obtain ⟨W1, hW1⟩ : ∃ W1, put w1 (w.heap.size + 1 + 1) 2 [.int .i64 s.index.kind, .int .i64 s.index.value, .slice ia s.index.kids.length ic] = W1 := ⟨_, rfl⟩
  have hp1 : (((w1.setCell ⟨w.heap.size + 1 + 1, 2, none⟩ (.int .i64 s.index.kind)).setCell ⟨w.heap.size + 1 + 1, 3, none⟩ (.int .i64 s.index.value)).setCell ⟨w.heap.size + 1 + 1, 4, none⟩ (.slice ia s.index.kids.length ic)) = W1 := hW1
  have p2 : W1.heap[w.heap.size + 1 + 1]? = some (.cells #[.int .i64 s.kind, .int .i64 s.target, .int .i64 s.index.kind, .int .i64 s.index.value, .slice ia s.index.kids.length ic, .int .i64 0, .int .i64 0, .slice none 0 0, .int .i64 0, .slice none 0 0, .slice none 0 0] 107 (0, 0)) := by
    rw [← hW1]; exact put_row _ _ _ _ _ _ R2.out
  have p1 : W1.heap[w.heap.size + 1]? = some (.cells zeroArrS 107 (0, 0)) := by
    rw [← hW1, put_other _ _ _ _ _ (by omega)]; exact R1.out
  have p0 : BoxS W1 w.heap.size s k := R0.out.later (by rw [← hW1, put_other _ _ _ _ _ (by omega)])
  have zW1 : W1.heap.size = w1.heap.size := by rw [← hW1, put_size]
  have pE1 : IsE W1 (New W w1) n s.index (cellsI s.index ia ic) := HE1.out.later fun j hj => by rw [← hW1, put_other _ _ _ _ _ (by have := hj.1; omega)]
  have pB1 : Below w.heap.size w W1 := by rw [← hW1]; exact put_below _ _ _ _ _ _ HB1.out (by omega)
  rw [hp1]
  clear hp1 hW1 hu2 hu3 hu4 hf2 hf3 hf4 q5 q6 q7 R0 R1 R2 HE1 HB1 u2 u3 u4
  have P0 := Lib.hid p0
  have P1 := Lib.hid p1
  have P2 := Lib.hid p2
  have PE1 := Lib.hid pE1
  have PB1 := Lib.hid pB1
  clear p0 p1 p2 pE1 pB1
  -- the value
  refine (toExpr_one n s.value _ _ _ D _ (HV.out.later (Stand.of_below PB1.out hl)) (fun j hj => Nat.lt_of_lt_of_le (hl j hj) PB1.out.size) HSM.out.2.1).mono ?_
  rintro f w2 ⟨c0, c1, c2, rfl, hE2, hb2⟩
  obtain ⟨va, vc, rfl, rfl, rfl, _, _⟩ := hE2.shape
  have z2 := hb2.size
  have r2 := (hb2.block (w.heap.size + 1 + 1) (by omega)).trans P2.out
  have r1 := (hb2.block (w.heap.size + 1) (by omega)).trans P1.out
  have r0 := P0.out.below hb2 (by omega)
  obtain ⟨u5, hu5⟩ := cell_ex r2 5 (by simp)
  obtain ⟨u6, hu6⟩ := cell_ex r2 6 (by simp)
  obtain ⟨u7, hu7⟩ := cell_ex r2 7 (by simp)
  obtain ⟨u8, hu8⟩ := cell_ex r2 8 (by simp)
  have hf5 := frozen_at r2 5
  have hf6 := frozen_at r2 6
  have hf7 := frozen_at r2 7
  have hf8 := frozen_at r2 8
  have q8 := r0.c8
  have q9 := r0.c9
  have R0 := Lib.hid r0
  have R1 := Lib.hid r1
  have R2 := Lib.hid r2
  have HE2 := Lib.hid hE2
  have HE1 : Hid (IsE w2 (New W w1) n s.index (cellsI s.index ia ic)) := PE1.out.later fun j hj => hb2.block j (by have := hj.2; omega)
  have HB2 := Lib.hid (PB1.out.trans (hb2.mono PB1.out.size))
  clear r0 r1 r2 hE2 hb2 HV PB1 P0 P1 P2 PE1
  go_wp2_with fail
  obtain ⟨W2, hW2⟩ : ∃ W2, put w2 (w.heap.size + 1 + 1) 5 [.int .i64 s.value.kind, .int .i64 s.value.value, .slice va s.value.kids.length vc, .int .i64 s.count] = W2 := ⟨_, rfl⟩
  have hp2 : ((((w2.setCell ⟨w.heap.size + 1 + 1, 5, none⟩ (.int .i64 s.value.kind)).setCell ⟨w.heap.size + 1 + 1, 6, none⟩ (.int .i64 s.value.value)).setCell ⟨w.heap.size + 1 + 1, 7, none⟩ (.slice va s.value.kids.length vc)).setCell ⟨w.heap.size + 1 + 1, 8, none⟩ (.int .i64 s.count)) = W2 := hW2
  have p2 : W2.heap[w.heap.size + 1 + 1]? = some (.cells #[.int .i64 s.kind, .int .i64 s.target, .int .i64 s.index.kind, .int .i64 s.index.value, .slice ia s.index.kids.length ic, .int .i64 s.value.kind, .int .i64 s.value.value, .slice va s.value.kids.length vc, .int .i64 s.count, .slice none 0 0, .slice none 0 0] 107 (0, 0)) := by
    rw [← hW2]; exact put_row _ _ _ _ _ _ R2.out
  have p1 : W2.heap[w.heap.size + 1]? = some (.cells zeroArrS 107 (0, 0)) := by
    rw [← hW2, put_other _ _ _ _ _ (by omega)]; exact R1.out
  have p0 : BoxS W2 w.heap.size s k := R0.out.later (by rw [← hW2, put_other _ _ _ _ _ (by omega)])
  have zW2 : W2.heap.size = w2.heap.size := by rw [← hW2, put_size]
  have pE1 : IsE W2 (New W w1) n s.index (cellsI s.index ia ic) := HE1.out.later fun j hj => by rw [← hW2, put_other _ _ _ _ _ (by have := hj.1; omega)]
  have pE2 : IsE W2 (New W1 w2) n s.value (cellsI s.value va vc) := HE2.out.later fun j hj => by rw [← hW2, put_other _ _ _ _ _ (by have := hj.1; omega)]
  have pB2 : Below w.heap.size w W2 := by rw [← hW2]; exact put_below _ _ _ _ _ _ HB2.out (by omega)
  rw [hp2]
  clear hp2 hW2 hu5 hu6 hu7 hu8 hf5 hf6 hf7 hf8 q8 q9 R0 R1 R2 HE1 HE2 HB2 u5 u6 u7 u8
  have P0 := Lib.hid p0
  have P1 := Lib.hid p1
  have P2 := Lib.hid p2
  have PE1 := Lib.hid pE1
  have PE2 := Lib.hid pE2
  have PB2 := Lib.hid pB2
  clear p0 p1 p2 pE1 pE2 pB2
  -- the body
  refine (HS.out s.body k.ba k.bc D _ hbc (HBA.out.later (Stand.of_below PB2.out hl)) (fun j hj => Nat.lt_of_lt_of_le (hl j hj) PB2.out.size) HSM.out.2.2.1 HSM.out.2.2.2.1).mono ?_
  rintro f w3 ⟨ba, bc, rfl, hbc', hbm', hE3, hb3⟩
  have z3 := hb3.size
  have r2 := (hb3.block (w.heap.size + 1 + 1) (by omega)).trans P2.out
  have r1 := (hb3.block (w.heap.size + 1) (by omega)).trans P1.out
  have r0 := P0.out.below hb3 (by omega)
  obtain ⟨u9, hu9⟩ := cell_ex r2 9 (by simp)
  have hf9 := frozen_at r2 9
  have q10 := r0.c10
  have R1 := Lib.hid r1
  have R2 := Lib.hid r2
  have HE3 := Lib.hid hE3
  have HE1 : Hid (IsE w3 (New W w1) n s.index (cellsI s.index ia ic)) := PE1.out.later fun j hj => hb3.block j (by have := hj.2; omega)
  have HE2 : Hid (IsE w3 (New W1 w2) n s.value (cellsI s.value va vc)) := PE2.out.later fun j hj => hb3.block j (by have := hj.2; omega)
  have HB3 := Lib.hid (PB2.out.trans (hb3.mono PB2.out.size))
  clear r0 r1 r2 hE3 hb3 HBA PB2 P0 P1 P2 PE1 PE2
  go_wp2_with fail
  obtain ⟨W3, hW3⟩ : ∃ W3, put w3 (w.heap.size + 1 + 1) 9 [.slice ba s.body.length bc] = W3 := ⟨_, rfl⟩
  have hp3 : (w3.setCell ⟨w.heap.size + 1 + 1, 9, none⟩ (.slice ba s.body.length bc)) = W3 := hW3
  have p2 : W3.heap[w.heap.size + 1 + 1]? = some (.cells #[.int .i64 s.kind, .int .i64 s.target, .int .i64 s.index.kind, .int .i64 s.index.value, .slice ia s.index.kids.length ic, .int .i64 s.value.kind, .int .i64 s.value.value, .slice va s.value.kids.length vc, .int .i64 s.count, .slice ba s.body.length bc, .slice none 0 0] 107 (0, 0)) := by
    rw [← hW3]; exact put_row _ _ _ _ _ _ R2.out
  have p1 : W3.heap[w.heap.size + 1]? = some (.cells zeroArrS 107 (0, 0)) := by
    rw [← hW3, put_other _ _ _ _ _ (by omega)]; exact R1.out
  have zW3 : W3.heap.size = w3.heap.size := by rw [← hW3, put_size]
  have pE1 : IsE W3 (New W w1) n s.index (cellsI s.index ia ic) := HE1.out.later fun j hj => by rw [← hW3, put_other _ _ _ _ _ (by have := hj.1; omega)]
  have pE2 : IsE W3 (New W1 w2) n s.value (cellsI s.value va vc) := HE2.out.later fun j hj => by rw [← hW3, put_other _ _ _ _ _ (by have := hj.1; omega)]
  have pE3 : SsAt W3 (New W2 w3) (IsS W3 (New W2 w3) n) s.body ba := HE3.out.later fun j hj => by rw [← hW3, put_other _ _ _ _ _ (by have := hj.1; omega)]
  have pB3 : Below w.heap.size w W3 := by rw [← hW3]; exact put_below _ _ _ _ _ _ HB3.out (by omega)
  rw [hp3]
  clear hp3 hW3 hu9 hf9 q10 R1 R2 HE1 HE2 HE3 HB3 u9
  have P1 := Lib.hid p1
  have P2 := Lib.hid p2
  have PE1 := Lib.hid pE1
  have PE2 := Lib.hid pE2
  have PE3 := Lib.hid pE3
  have PB3 := Lib.hid pB3
  clear p1 p2 pE1 pE2 pE3 pB3
  -- the other block
  refine (HS.out s.els k.ea k.ec D _ hec (HEA.out.later (Stand.of_below PB3.out hl)) (fun j hj => Nat.lt_of_lt_of_le (hl j hj) PB3.out.size) HSM.out.2.2.2.2.1 HSM.out.2.2.2.2.2).mono ?_
  rintro f w4 ⟨ea, ec, rfl, hec', hem', hE4, hb4⟩
  have z4 := hb4.size
  have r2 := (hb4.block (w.heap.size + 1 + 1) (by omega)).trans P2.out
  have r1 := (hb4.block (w.heap.size + 1) (by omega)).trans P1.out
  have v0 : w4.cell? ⟨w.heap.size + 1 + 1, 0, none⟩ = some (.int .i64 s.kind) := by rw [cell_at r2]; rfl
  have v1 : w4.cell? ⟨w.heap.size + 1 + 1, 1, none⟩ = some (.int .i64 s.target) := by rw [cell_at r2]; rfl
  have v2 : w4.cell? ⟨w.heap.size + 1 + 1, 2, none⟩ = some (.int .i64 s.index.kind) := by rw [cell_at r2]; rfl
  have v3 : w4.cell? ⟨w.heap.size + 1 + 1, 3, none⟩ = some (.int .i64 s.index.value) := by rw [cell_at r2]; rfl
  have v4 : w4.cell? ⟨w.heap.size + 1 + 1, 4, none⟩ = some (.slice ia s.index.kids.length ic) := by rw [cell_at r2]; rfl
  have v5 : w4.cell? ⟨w.heap.size + 1 + 1, 5, none⟩ = some (.int .i64 s.value.kind) := by rw [cell_at r2]; rfl
  have v6 : w4.cell? ⟨w.heap.size + 1 + 1, 6, none⟩ = some (.int .i64 s.value.value) := by rw [cell_at r2]; rfl
  have v7 : w4.cell? ⟨w.heap.size + 1 + 1, 7, none⟩ = some (.slice va s.value.kids.length vc) := by rw [cell_at r2]; rfl
  have v8 : w4.cell? ⟨w.heap.size + 1 + 1, 8, none⟩ = some (.int .i64 s.count) := by rw [cell_at r2]; rfl
  have v9 : w4.cell? ⟨w.heap.size + 1 + 1, 9, none⟩ = some (.slice ba s.body.length bc) := by rw [cell_at r2]; rfl
  have v10 : w4.cell? ⟨w.heap.size + 1 + 1, 10, none⟩ = some (.slice none 0 0) := by rw [cell_at r2]; rfl
  have hg10 := frozen_at r2 10
  obtain ⟨u0, hu0⟩ := cell_ex r1 0 (by simp)
  obtain ⟨u1, hu1⟩ := cell_ex r1 1 (by simp)
  obtain ⟨u2, hu2⟩ := cell_ex r1 2 (by simp)
  obtain ⟨u3, hu3⟩ := cell_ex r1 3 (by simp)
  obtain ⟨u4, hu4⟩ := cell_ex r1 4 (by simp)
  obtain ⟨u5, hu5⟩ := cell_ex r1 5 (by simp)
  obtain ⟨u6, hu6⟩ := cell_ex r1 6 (by simp)
  obtain ⟨u7, hu7⟩ := cell_ex r1 7 (by simp)
  obtain ⟨u8, hu8⟩ := cell_ex r1 8 (by simp)
  obtain ⟨u9, hu9⟩ := cell_ex r1 9 (by simp)
  obtain ⟨u10, hu10⟩ := cell_ex r1 10 (by simp)
  have hf0 := frozen_at r1 0
  have hf1 := frozen_at r1 1
  have hf2 := frozen_at r1 2
  have hf3 := frozen_at r1 3
  have hf4 := frozen_at r1 4
  have hf5 := frozen_at r1 5
  have hf6 := frozen_at r1 6
  have hf7 := frozen_at r1 7
  have hf8 := frozen_at r1 8
  have hf9 := frozen_at r1 9
  have hf10 := frozen_at r1 10
  obtain ⟨WF, hWF⟩ : ∃ WF, put (put w4 (w.heap.size + 1 + 1) 10 [.slice ea s.els.length ec]) (w.heap.size + 1) 0 (arrS s ⟨ia, ic, va, vc, ba, bc, ea, ec⟩).toList = WF := ⟨_, rfl⟩
  have zF : WF.heap.size = w4.heap.size := by rw [← hWF, put_size, put_size]
  have oF : ∀ j, j ≠ w.heap.size + 1 → j ≠ w.heap.size + 1 + 1 → WF.heap[j]? = w4.heap[j]? := fun j h1 h2 => by rw [← hWF, put_other _ _ _ _ _ h1, put_other _ _ _ _ _ h2]
  have bF : Below w.heap.size w WF := by rw [← hWF]; exact put_below _ _ _ _ _ _ (put_below _ _ _ _ _ _ (PB3.out.trans (hb4.mono PB3.out.size)) (by omega)) (by omega)
  have dF : ∀ {a b : World}, W.heap.size ≤ a.heap.size → b.heap.size ≤ w4.heap.size → ∀ j, New a b j → New w WF j := fun h1 h2 j hj => ⟨by have := hj.1; omega, by have := hj.2; omega⟩
  have sF : ∀ {a b : World}, W.heap.size ≤ a.heap.size → Stand (New a b) w4 WF := fun h1 j hj => oF j (by have := hj.1; omega) (by have := hj.1; omega)
  have HFIN : Hid (CopyS (n + 1) s w (.returned (aggS s ⟨ia, ic, va, vc, ba, bc, ea, ec⟩)) WF) := by
    refine ⟨_, rfl, ⟨?_, ?_, hbc', hbm', ?_, hec', hem', ?_⟩, bF⟩
    · exact (PE1.out.later (w' := w4) fun j hj => hb4.block j (by have := hj.2; omega)).mono (sF (Nat.le_refl _)) (dF (Nat.le_refl _) (by omega))
    · exact (PE2.out.later (w' := w4) fun j hj => hb4.block j (by have := hj.2; omega)).mono (sF (by omega)) (dF (by omega) (by omega))
    · exact (PE3.out.later (w' := w4) fun j hj => hb4.block j (by have := hj.2; omega)).wide (sF (by omega)) (dF (by omega) (by omega))
    · exact hE4.wide (sF (by omega)) (dF (by omega) (Nat.le_refl _))
  have HWF : Hid (put (put w4 (w.heap.size + 1 + 1) 10 [.slice ea s.els.length ec]) (w.heap.size + 1) 0 (arrS s ⟨ia, ic, va, vc, ba, bc, ea, ec⟩).toList = WF) := hWF
  clear r1 r2 hE4 hb4 HEA PB3 P1 P2 PE1 PE2 PE3 hWF oF bF dF sF zF
  go_wp2_with fail
  refine bodyPost_ret (v := aggS s ⟨ia, ic, va, vc, ba, bc, ea, ec⟩) (by simp [results, Try.f92, go_sem, hu0, hu1, hu2, hu3, hu4, hu5, hu6, hu7, hu8, hu9, hu10]) rfl ?_
  have e := HWF.out
  have := HFIN.out
  rw [← e] at this
  exact this

/-- **toStmt, AT EVERY STATEMENT.** -/
theorem toStmt_one : ∀ (n : Nat) (s : S) (k : SC) (D : Nat → Prop) (w : World), IsS w D n s k → (∀ k, D k → k < w.heap.size) → SmS 1048576 n s →
      Calls Try.prog 92 #[aggS s k] w (CopyS n s w)
  | 0, _, _, _, _, h, _, _ => h.elim
  | n + 1, s, k, D, w, h, hl, hs => toStmt_succ n (fun ss a cap D w hc hat hl hs hsm => toStmtS_of n (toStmt_one n) ss a cap D w hc hat hl hs hsm) s k D w h hl hs

end Go.Proofs.Ytgfagdjadmpklaa

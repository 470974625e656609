/- The program's FormatTrace, walked: for every list of at most 2^20 events it answers as its model; nothing that was there has changed. Condition: the table of letters and the library's table of powers lie as the program's text lays them. -/
import Derived.Test.YtkjppfocdkpnpaaDoorSpT
import Derived.Test.YtkjppfocdkpnpaaDoorBldS
import Derived.Lib.AppendIntMem
import Derived.Lib.BufferOwn
namespace Go.Proofs.YtkjppfocdkpnpaaDoor
open Go.RowKit Go.Shelf
set_option linter.unusedVariables false

theorem bld_kept {W W' : World} {B b : Nat} {bs : List Value} (h : Lib.IsBuilderF 42 5 B b bs W) (hg : W.grownBy W' none) : Lib.IsBuilderF 42 5 B b bs W' := by
  have key : ∀ p, Lib.BuilderAtF 42 5 B b p bs W → Lib.BuilderAtF 42 5 B b p bs W' := by
    rintro p ⟨hB, v, hb, hown, hne⟩
    have hlt : b < W.heap.size := (Array.getElem?_eq_some_iff.1 hb).1
    refine ⟨hB, v, ?_, hown.kept hg ?_, hne⟩
    · exact (hg.block b hlt fun e => by cases e).trans hb
    · cases hv : v.ownBlock with
      | none => exact .inl rfl
      | some g => exact .inr fun e => by cases e
  exact h.elim (fun x => .inl (key _ x)) (fun x => .inr (key _ x))

/-- The tables, as the program's text lays them. -/
def TabsE (w : World) : Prop := Lib.TabIs Tryd.prog w "internal/strconv.uint64pow10" .u64 Lib.pow10Tab ∧
  (∀ kd : Int, (kd = 1 ∨ kd = 2 ∨ kd = 3 ∨ kd = 4) → w.cell? ⟨0, kd.toNat, none⟩ = some (.int .u8 (evByte kd).toNat)) ∧ 4 ≤ w.heap.size

theorem TabsE.below {w w' : World} (h : TabsE w) {B : Nat} (hb : Below B w w') (hB : 4 ≤ B) : TabsE w' := by
  refine ⟨?_, fun kd hk => (hb.cell (p := ⟨0, kd.toNat, none⟩) (show 0 < B by omega)).trans (h.2.1 kd hk), Nat.le_trans h.2.2 hb.size⟩
  have h1 := h.1
  have hg : Tryd.prog.globalNamed "internal/strconv.uint64pow10" = some 1 := by kernel_rfl
  unfold Lib.TabIs World.var? at h1 ⊢
  rw [hg] at h1 ⊢
  simp only [Option.bind_some] at h1 ⊢
  rw [hb.block 1 (by omega)]
  exact h1

theorem isVal_one (n : Int) (w : World) : Calls Tryd.prog 15 #[.int .i64 n] w fun e w' => e = .returned (.bool (decide (0 ≤ n) && decide (n ≤ 255))) ∧ w' = w := by
  by_cases h0 : 0 ≤ n
  · by_cases h1 : n ≤ 255
    · have e0 : decide (0 ≤ n) = true := decide_eq_true h0
      have e1 : decide (n ≤ 255) = true := decide_eq_true h1
      go_enter Tryd.func15, Tryd.ntmps15
      go_wp2
      go_ret
      exact ⟨by rw [e0, e1]; rfl, rfl⟩
    · have e0 : decide (0 ≤ n) = true := decide_eq_true h0
      have e1 : decide (n ≤ 255) = false := decide_eq_false h1
      go_enter Tryd.func15, Tryd.ntmps15
      go_wp2
      go_ret
      exact ⟨rfl, rfl⟩
  · have e0 : decide (0 ≤ n) = false := decide_eq_false h0
    go_enter Tryd.func15, Tryd.ntmps15
    go_wp2
    go_ret
    exact ⟨rfl, rfl⟩

/-- An event's box. -/
def BoxEv (w : World) (b : Nat) (x : Ev) : Prop := w.heap[b]? = some (.cells #[.int .i64 x.kind, .int .i64 x.value] 39 (0, 0))
theorem BoxEv.c0 {w : World} {b : Nat} {x : Ev} (h : BoxEv w b x) : w.cell? ⟨b, 0, none⟩ = some (.int .i64 x.kind) := by rw [cell_of_row _ _ _ _ _ _ h]; rfl
theorem BoxEv.c1 {w : World} {b : Nat} {x : Ev} (h : BoxEv w b x) : w.cell? ⟨b, 1, none⟩ = some (.int .i64 x.value) := by rw [cell_of_row _ _ _ _ _ _ h]; rfl
theorem BoxEv.kept {w w' : World} {b c : Nat} {x : Ev} (h : BoxEv w c x) (hk : Lib.OthersKept 5 (some b) w w') (hne : c ≠ b) : BoxEv w' c x :=
  hk c _ h (fun e => hne (by cases e; rfl)) (fun cs fz e => by cases e)

theorem byteCells_one1 (c : UInt8) : Lib.byteCells [c] = [.int .u8 (c.toNat : Int)] := rfl

set_option maxRecDepth 100000 in
set_option maxHeartbeats 8000000 in
theorem iFT_one (es : List Ev) (a : Option Addr) (cap : Nat) (w : World) (h : EvL w es a cap) (hs : es.length ≤ 1048576) (hT : TabsE w) :
    Calls Tryd.prog 6 #[.slice a es.length cap] w (Txt (ftA es) w) := by
  obtain ⟨hc, hm, h⟩ := h
  obtain ⟨n, hn⟩ : ∃ n, es.length = n := ⟨_, rfl⟩
  have HN := Lib.hid hn
  rw [hn] at hc hs ⊢
  have H := Lib.hid h
  have h4 := hT.2.2
  have HT := Lib.hid hT
  clear h hn hm hc hT
  have b1 : Hid (Lib.IsBuilderF 42 5 w.heap.size w.heap.size (Lib.byteCells (ftT es 0)) (w.alloc (.cells #[.pointer none, .slice none 0 0] 42))) := by
    have e := heap_alloc_new w (.cells #[.pointer none, .slice none 0 0] 42)
    exact .inl ⟨Nat.le_refl _, .slice none 0 0, e, World.ownsRowF_nil _ _ _ _, by simp [Value.ownBlock]⟩
  have HB0 : Hid (Below w.heap.size w (w.alloc (.cells #[.pointer none, .slice none 0 0] 42))) := (Below.refl _ w).alloc (Nat.le_refl _) _
  go_enter Tryd.func6, Tryd.ntmps6
  go_wp2_with fail
  go_loopw [8] (fun i wr => ∃ k : Nat, k ≤ n ∧ i = .int .i64 k ∧ Hid (GoodTo es k) ∧ Hid (Lib.IsBuilderF 42 5 w.heap.size w.heap.size (Lib.byteCells (ftT es k)) wr) ∧ Below w.heap.size w wr) (fun i _ => n - (intOf i).toNat)
  case atStart => exact ⟨0, Nat.zero_le _, rfl, (fun j x hj => absurd hj (Nat.not_lt_zero _) : GoodTo es 0), b1, HB0.out⟩
  case round =>
    obtain ⟨k, hk, rfl, HG, HBD, hB⟩ := hrel
    have HB := Lib.hid hB
    have hlen := ftT_len k (by rw [HN.out]; exact hk) HG.out
    clear hB b1 HB0
    obtain ⟨t, ht⟩ : ∃ t, ftT es k = t := ⟨_, rfl⟩
    rw [ht] at hlen HBD
    have HTT := Lib.hid ht
    clear ht
    by_cases hlt : k < n
    · obtain ⟨x, hx⟩ : ∃ x, es[k]? = some x := ⟨es[k]'(by rw [HN.out]; exact hlt), List.getElem?_eq_getElem _⟩
      obtain ⟨b, o, rfl, hbl, e0, e1⟩ := H.out k x hx
      have r0 := (HB.out.cell (p := ⟨b, o + k * 2, none⟩) hbl).trans e0
      have r1 := (HB.out.cell (p := ⟨b, o + k * 2 + 1, none⟩) hbl).trans e1
      have HX := Lib.hid hx
      have hsz := HB.out.size
      have HB2 : Hid (Below w.heap.size w (wr.alloc (.cells #[.int .i64 x.kind, .int .i64 x.value] 39))) := HB.out.alloc HB.out.size _
      have HBD2 := Lib.hid (HBD.out.alloc (.cells #[.int .i64 x.kind, .int .i64 x.value] 39))
      have HBX : Hid (BoxEv (wr.alloc (.cells #[.int .i64 x.kind, .int .i64 x.value] 39)) wr.heap.size x) := heap_alloc_new wr _
      have hgt : w.heap.size < wr.heap.size := by
        rcases HBD.out with ⟨_, v, hb, _⟩ | ⟨_, v, hb, _⟩ <;> exact (Array.getElem?_eq_some_iff.1 hb).1
      clear e0 e1 hx H
      rcases okEv_cases (x := x) with ⟨h1, hb⟩ | ⟨h1, h2, hb⟩ | ⟨h1, h2, h3, hb⟩ | ⟨h1, h2, h3, h4', hb⟩ | ⟨hkd, ⟨v, hv, hxv⟩, hb⟩
      · have HA : Hid (ftA es = []) := ftA_bad HX.out hb
        clear hb
        go_wp2_with fail
        go_ret
        exact ⟨by rw [HA.out] <;> rfl, HB2.out⟩
      · have HA : Hid (ftA es = []) := ftA_bad HX.out hb
        clear hb
        go_wp2_with fail
        go_ret
        exact ⟨by rw [HA.out] <;> rfl, HB2.out⟩
      · have HA : Hid (ftA es = []) := ftA_bad HX.out hb
        have hd : (decide (0 ≤ x.value) && decide (x.value ≤ 255)) = false := by simp; omega
        clear hb
        go_wp2_with fail
        refine (isVal_one x.value _).mono ?_
        rintro e w2 ⟨rfl, rfl⟩
        rw [hd]
        go_wp2_with fail
        go_ret
        exact ⟨by rw [HA.out] <;> rfl, HB2.out⟩
      · have HA : Hid (ftA es = []) := ftA_bad HX.out hb
        have hd : (decide (0 ≤ x.value) && decide (x.value ≤ 255)) = false := by simp; omega
        clear hb
        go_wp2_with fail
        refine (isVal_one x.value _).mono ?_
        rintro e w2 ⟨rfl, rfl⟩
        rw [hd]
        go_wp2_with fail
        go_ret
        exact ⟨by rw [HA.out] <;> rfl, HB2.out⟩
      · have HG2 : Hid (GoodTo es (k + 1)) := HG.out.succ HX.out hb
        have HFT := Lib.hid (ftT_succ HX.out)
        have h1 : 1 ≤ x.kind := by omega
        have h2 : x.kind ≤ 4 := by omega
        have hd : (decide (0 ≤ x.value) && decide (x.value ≤ 255)) = true := by simp; omega
        obtain ⟨kd, vl⟩ := x
        simp only at hxv hkd r0 r1 HB2 HBD2 HBX h1 h2 hd
        obtain ⟨kn, rfl⟩ : ∃ kn : Nat, kd = kn := ⟨kd.toNat, by omega⟩
        subst hxv
        have hkn4 : kn ≤ 4 := by omega
        have hdl := dec_len v hv
        obtain ⟨dd, hdd⟩ : ∃ dd, Lib.decDigits v = dd := ⟨_, rfl⟩
        rw [hdd] at hdl
        have HDD := Lib.hid hdd
        have HKD := Lib.hid hkd
        clear hb hkd hdd
        go_wp2_with fail
        obtain ⟨W1, hW1⟩ : ∃ W1, wr.alloc (.cells #[.int .i64 (kn : Int), .int .i64 (v : Int)] 39) = W1 := ⟨_, rfl⟩
        rw [hW1] at HB2 HBD2 HBX ⊢
        clear hW1
        refine (isVal_one (v : Int) _).mono ?_
        rintro e w2 ⟨rfl, rfl⟩
        rw [hd]
        have q0 := HBX.out.c0
        have hc := (HT.out.below HB2.out h4).2.1 (kn : Int) HKD.out
        rw [show ((kn : Int)).toNat = kn from by simp] at hc
        simp only at q0
        go_wp2_with fail
        · have hk0 : ¬ k = 0 := by omega
          clear q0 hc
          have hsz1 := HB2.out.size
          refine (writeByte_k w.heap.size w.heap.size (Lib.byteCells t) 32 w2 HBD2.out (by rw [Lib.byteCells_length]; omega) hsz1).mono ?_
          rintro e W2 ⟨rfl, hbd2, hb2, hk2⟩
          obtain ⟨t2, ht2⟩ : ∃ t2, t ++ [(32 : UInt8)] = t2 := ⟨_, rfl⟩
          have hlen2 : t2.length ≤ 22 * k + 1 := by rw [← ht2]; simp; omega
          have HBXb := Lib.hid (HBX.out.kept hk2 (by omega))
          have HBb := Lib.hid (HB2.out.trans hb2)
          have HBDb : Hid (Lib.IsBuilderF 42 5 w.heap.size w.heap.size (Lib.byteCells t2) W2) := by
            have : Lib.IsBuilderF 42 5 w.heap.size w.heap.size (Lib.byteCells t2) W2 := by
              rw [← ht2, Lib.byteCells_append]; exact .inr hbd2
            exact this
          have HT2 := Lib.hid ht2
          clear hbd2 hb2 hk2 ht2
          have HE : Hid (ftT es (k + 1) = t ++ ((32 : UInt8) :: evByte (kn : Int) :: dd)) := by
            have : ftT es (k + 1) = t ++ ((32 : UInt8) :: evByte (kn : Int) :: dd) := by
              rw [HFT.out, HTT.out, if_neg hk0]
              unfold evTxt
              rw [show ((v : Int)).toNat = v from by simp, HDD.out]
              simp
            exact this
          clear HFT hk0
          have q0 := HBXb.out.c0
          have hc := (HT.out.below HBb.out h4).2.1 (kn : Int) HKD.out
          rw [show ((kn : Int)).toNat = kn from by simp] at hc
          simp only at q0
          have hszb := HBb.out.size
          go_wp2_with fail
          refine (writeByte_k w.heap.size w.heap.size (Lib.byteCells t2) ((evByte (kn : Int)).toNat : Int) W2 HBDb.out (by rw [Lib.byteCells_length]; omega) hszb).mono ?_
          rintro e W3 ⟨rfl, hbd3, hb3, hk3⟩
          have HBX3 := Lib.hid (HBXb.out.kept hk3 (by omega))
          have HB3 := Lib.hid (HBb.out.trans (hb3.mono (Nat.le_refl _)))
          have HBD3 : Hid (Lib.IsBuilderF 42 5 w.heap.size w.heap.size (Lib.byteCells (t2 ++ [evByte (kn : Int)])) W3) := by
            have : Lib.IsBuilderF 42 5 w.heap.size w.heap.size (Lib.byteCells (t2 ++ [evByte (kn : Int)])) W3 := by
              rw [Lib.byteCells_append]; exact .inr hbd3
            exact this
          have q1 := HBX3.out.c1
          simp only at q1
          have hsz3 := HB3.out.size
          clear hbd3 hb3 hk3 q0 hc
          go_wp2_with fail
          refine (Tryd.strconv_Itoa (v : Int) (by omega) (by omega) W3 (HT.out.below HB3.out h4).1).mono ?_
          rintro e W4' ⟨rfl, kk, os, rfl⟩
          have hb4 := Lib.below_grow W3.heap.size W3 (Nat.le_refl _) kk os
          have hg4 := Lib.grownBy_below (show W3.grownBy W3 none from ⟨rfl, rfl, rfl, Nat.le_refl _, fun _ _ _ => rfl⟩) hb4
          obtain ⟨W4, hW4⟩ : ∃ W4, Sort.grow (W3.drewN kk) os = W4 := ⟨_, rfl⟩
          rw [hW4] at hb4 hg4 ⊢
          rw [Lib.itoa_nonneg v, HDD.out]
          have HBD4 := Lib.hid (bld_kept HBD3.out hg4)
          have HB4 := Lib.hid (HB3.out.trans (hb4.mono hsz3))
          have hsz4 := HB4.out.size
          clear hW4 hb4 hg4 q1
          go_wp2_with fail
          refine (writeString_k w.heap.size w.heap.size (Lib.byteCells (t2 ++ [evByte (kn : Int)])) ⟨dd.toArray⟩ W4 HBD4.out (by rw [Lib.byteCells_length]; simp [ByteArray.size]; omega) hsz4).mono ?_
          rintro e W5 ⟨rfl, hbd5, hb5, hk5⟩
          have HB5 := Lib.hid (HB4.out.trans hb5)
          have HBD5 : Hid (Lib.IsBuilderF 42 5 w.heap.size w.heap.size (Lib.byteCells (ftT es (k + 1))) W5) := by
            have : Lib.IsBuilderF 42 5 w.heap.size w.heap.size (Lib.byteCells (ftT es (k + 1))) W5 := by
              rw [Lib.strCells_toArray, ← Lib.byteCells_append] at hbd5
              rw [HE.out]
              have e : t ++ ((32 : UInt8) :: evByte (kn : Int) :: dd) = t2 ++ [evByte (kn : Int)] ++ dd := by rw [← HT2.out]; simp
              rw [e]
              exact .inr hbd5
            exact this
          clear hbd5 hb5 hk5
          go_wp2_with fail
          go_roundw
          case rel => exact ⟨k + 1, by omega, by go_num, HG2.out, HBD5.out, HB5.out⟩
          case measure => simp [intOf]; omega
        · have hk0 : k = 0 := by omega
          have HBXb := HBX
          have HBb := HB2
          have HBDb := HBD2
          have hlen' : t.length ≤ 22 * n := by omega
          have HE : Hid (ftT es (k + 1) = t ++ (evByte (kn : Int) :: dd)) := by
            have : ftT es (k + 1) = t ++ (evByte (kn : Int) :: dd) := by
              rw [HFT.out, HTT.out, if_pos hk0]
              unfold evTxt
              rw [show ((v : Int)).toNat = v from by simp, HDD.out]
              simp
            exact this
          clear HFT hk0 hlen
          have hszb := HBb.out.size
          refine (writeByte_k w.heap.size w.heap.size (Lib.byteCells t) ((evByte (kn : Int)).toNat : Int) w2 HBDb.out (by rw [Lib.byteCells_length]; omega) hszb).mono ?_
          rintro e W3 ⟨rfl, hbd3, hb3, hk3⟩
          have HBX3 := Lib.hid (HBXb.out.kept hk3 (by omega))
          have HB3 := Lib.hid (HBb.out.trans (hb3.mono (Nat.le_refl _)))
          have HBD3 : Hid (Lib.IsBuilderF 42 5 w.heap.size w.heap.size (Lib.byteCells (t ++ [evByte (kn : Int)])) W3) := by
            have : Lib.IsBuilderF 42 5 w.heap.size w.heap.size (Lib.byteCells (t ++ [evByte (kn : Int)])) W3 := by
              rw [Lib.byteCells_append]; exact .inr hbd3
            exact this
          have q1 := HBX3.out.c1
          simp only at q1
          have hsz3 := HB3.out.size
          clear hbd3 hb3 hk3 q0 hc
          go_wp2_with fail
          refine (Tryd.strconv_Itoa (v : Int) (by omega) (by omega) W3 (HT.out.below HB3.out h4).1).mono ?_
          rintro e W4' ⟨rfl, kk, os, rfl⟩
          have hb4 := Lib.below_grow W3.heap.size W3 (Nat.le_refl _) kk os
          have hg4 := Lib.grownBy_below (show W3.grownBy W3 none from ⟨rfl, rfl, rfl, Nat.le_refl _, fun _ _ _ => rfl⟩) hb4
          obtain ⟨W4, hW4⟩ : ∃ W4, Sort.grow (W3.drewN kk) os = W4 := ⟨_, rfl⟩
          rw [hW4] at hb4 hg4 ⊢
          rw [Lib.itoa_nonneg v, HDD.out]
          have HBD4 := Lib.hid (bld_kept HBD3.out hg4)
          have HB4 := Lib.hid (HB3.out.trans (hb4.mono hsz3))
          have hsz4 := HB4.out.size
          clear hW4 hb4 hg4 q1
          go_wp2_with fail
          refine (writeString_k w.heap.size w.heap.size (Lib.byteCells (t ++ [evByte (kn : Int)])) ⟨dd.toArray⟩ W4 HBD4.out (by rw [Lib.byteCells_length]; simp [ByteArray.size]; omega) hsz4).mono ?_
          rintro e W5 ⟨rfl, hbd5, hb5, hk5⟩
          have HB5 := Lib.hid (HB4.out.trans hb5)
          have HBD5 : Hid (Lib.IsBuilderF 42 5 w.heap.size w.heap.size (Lib.byteCells (ftT es (k + 1))) W5) := by
            have : Lib.IsBuilderF 42 5 w.heap.size w.heap.size (Lib.byteCells (ftT es (k + 1))) W5 := by
              rw [Lib.strCells_toArray, ← Lib.byteCells_append] at hbd5
              rw [HE.out]
              have e : t ++ (evByte (kn : Int) :: dd) = t ++ [evByte (kn : Int)] ++ dd := by simp
              rw [e]
              exact .inr hbd5
            exact this
          clear hbd5 hb5 hk5
          go_wp2_with fail
          go_roundw
          case rel => exact ⟨k + 1, by omega, by go_num, HG2.out, HBD5.out, HB5.out⟩
          case measure => simp [intOf]; omega
    · obtain rfl : k = n := by omega
      have HA : Hid (ftA es = t) := by
        have : ftA es = t := by rw [ftA_good (by rw [HN.out]; exact HG.out), HN.out, HTT.out]
        exact this
      clear H
      go_wp2_with fail
      refine (Tryd.Builder_String_any_k w.heap.size w.heap.size t _ HBD.out HB.out.size).mono ?_
      rintro e w2 ⟨rfl, hbd, hb2, hk2⟩
      have HB2 := Lib.hid (HB.out.trans hb2)
      clear hbd hb2 hk2
      go_wp2_with fail
      go_ret
      exact ⟨by rw [HA.out] <;> rfl, HB2.out⟩

end Go.Proofs.YtkjppfocdkpnpaaDoor

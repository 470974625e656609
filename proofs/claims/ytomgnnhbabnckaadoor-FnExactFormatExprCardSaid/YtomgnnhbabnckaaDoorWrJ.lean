/- writeElement and writeJoined of the program, told writeExpr one level less. -/
import Derived.Test.YtomgnnhbabnckaaDoorWrE
namespace Go.Proofs.YtomgnnhbabnckaaDoor
open Go.RowKit Go.Shelf
set_option linter.unusedVariables false

/-- A row of texts. -/
def RowT (w : World) (c : Nat) (ss : List (List UInt8)) : Prop := ∃ fz, w.heap[c]? = some (.cells (ss.map fun l => Value.string ⟨l.toArray⟩).toArray 9 fz)
theorem RowT.kept {w w' : World} {b c : Nat} {ss : List (List UInt8)} (h : RowT w c ss) (hk : Lib.OthersKept 5 (some b) w w') (hne : c ≠ b) : RowT w' c ss := by
  obtain ⟨fz, h⟩ := h
  exact ⟨fz, hk c _ h (fun e => hne (by cases e; rfl)) (fun cs fz e => by cases e)⟩
theorem RowT.cell {w : World} {c : Nat} {ss : List (List UInt8)} (h : RowT w c ss) (j : Nat) (l : List UInt8) (hj : ss[j]? = some l) : w.cell? ⟨c, j, none⟩ = some (.string ⟨l.toArray⟩) := by
  obtain ⟨fz, h⟩ := h
  rw [cell_of_row _ _ _ _ _ _ h]
  simp [hj]

/-- The joined texts of the first k operands, the separators behind each. -/
def joinT (d : Nat) (es : List E) (ss : List (List UInt8)) : Nat → List UInt8
  | 0 => [40]
  | k + 1 => joinT d es ss k ++ txE d (kidD es k) ++ ss.getD k []
theorem joinT_len (nv na d : Nat) (es : List E) (ss : List (List UInt8)) (hs : ∀ l ∈ ss, l.length ≤ 1) (he : ∀ x ∈ es, shapeB nv na d x = true) : ∀ k, k ≤ es.length → (joinT d es ss k).length ≤ 1 + (24 * 4 ^ d + 1) * k
  | 0, _ => by simp [joinT]
  | k + 1, hk => by
    have ih := joinT_len nv na d es ss hs he k (by omega)
    have h1 : (txE d (kidD es k)).length ≤ 24 * 4 ^ d := by
      refine txE_len nv na d _ (he _ ?_)
      unfold kidD
      have : es.getD k ⟨0, 0, []⟩ = es[k] := by simp [List.getD, show k < es.length by omega]
      rw [this]
      exact List.getElem_mem _
    have h2 : (ss.getD k []).length ≤ 1 := by
      by_cases hks : k < ss.length
      · have : ss.getD k [] = ss[k] := by simp [List.getD, hks]
        rw [this]
        exact hs _ (List.getElem_mem _)
      · have : ss.getD k [] = [] := by simp [List.getD, List.getElem?_eq_none (Nat.le_of_not_lt hks)]
        rw [this]; simp
    rw [joinT]
    simp only [List.length_append]
    have : (24 * 4 ^ d + 1) * (k + 1) = (24 * 4 ^ d + 1) * k + (24 * 4 ^ d + 1) := Nat.mul_succ _ _
    omega

set_option maxRecDepth 100000 in
set_option maxHeartbeats 8000000 in
theorem wJoined (nv na d : Nat) (ih : SayW nv na d) (n : Nat) (es : List E) (ss : List (List UInt8)) (a : Option Addr) (cap c : Nat) (D : Nat → Prop) (B b : Nat) (bs : List UInt8) (w : World)
    (hat : EsAt w D (IsE w D n) es a) (hl : ∀ k, D k → k < B) (he : ∀ x ∈ es, shapeB nv na d x = true) (hs : ∀ l ∈ ss, l.length ≤ 1) (hm : es.length ≤ 3) (hm2 : ss.length ≤ 2) (hR : RowT w c ss) (hcb : c ≠ b) (h : IsB B b bs w)
    (hlen : bs.length + 24 * 4 ^ (d + 1) ≤ 1000000) (hT : TabW w) (hB : 5 ≤ B) :
    Calls Tryd.prog 73 #[.pointer (some ⟨b, 0, none⟩), .slice a es.length cap, .slice (some ⟨c, 0, none⟩) ss.length ss.length] w (Wr B b bs (joinT d es ss es.length ++ [41]) w) := by
  obtain ⟨hBb, hbw⟩ := isB_lt h
  have hjl := joinT_len nv na d es ss hs he
  have hp1 : 1 ≤ 4 ^ d := Nat.one_le_pow _ _ (by omega)
  have hp4 : 4 ^ (d + 1) = 4 * 4 ^ d := by rw [Nat.pow_succ, Nat.mul_comm]
  obtain ⟨P, hP⟩ : ∃ P, 4 ^ d = P := ⟨_, rfl⟩
  rw [hp4, hP] at hlen
  rw [hP] at hjl hp1
  obtain ⟨m, hmm⟩ : ∃ m, es.length = m := ⟨_, rfl⟩
  obtain ⟨m2, hmm2⟩ : ∃ m2, ss.length = m2 := ⟨_, rfl⟩
  have HM := Lib.hid hmm
  have HM2 := Lib.hid hmm2
  rw [hmm] at hm hjl ⊢
  rw [hmm2] at hm2 ⊢
  have HJ : Hid (∀ k, k ≤ m → (joinT d es ss k).length ≤ 1 + (24 * P + 1) * k) := hjl
  have HAT := Lib.hid hat
  have HE := Lib.hid he
  have HR := Lib.hid hR
  have HI := Lib.hid h
  have HT := Lib.hid hT
  have IH := Lib.hid ih
  have HPP := Lib.hid hP
  have HS1 := Lib.hid hs
  clear hmm hmm2 hjl hat he hR h hT ih hp4 hP hs
  go_enter Tryd.func73, Tryd.ntmps73
  go_wp2_with fail
  refine (wByte B b bs 40 w HI.out (by omega) (by omega)).mono ?_
  rintro e w1 ⟨rfl, h1, hb1, hk1⟩
  have H1 := Lib.hid h1
  have HB1 := Lib.hid hb1
  have HK1 := Lib.hid hk1
  clear h1 hb1 hk1
  go_wp2_with fail
  go_loopw [12] (fun i wr => ∃ k : Nat, k ≤ m ∧ i = .int .i64 k ∧ Hid (IsB B b (bs ++ joinT d es ss k) wr) ∧ Hid (Below B w wr) ∧ Hid (Lib.OthersKept 5 (some b) w wr)) (fun i _ => m - (intOf i).toNat)
  case atStart => exact ⟨0, Nat.zero_le _, rfl, H1, HB1, HK1⟩
  case round =>
    obtain ⟨k, hk, rfl, HI2, HB2, HK2⟩ := hrel
    clear H1 HB1 HK1
    have hjk := HJ.out k hk
    have hmul : (24 * P + 1) * k ≤ (24 * P + 1) * 3 := Nat.mul_le_mul_left _ (by omega)
    by_cases hlt : k < m
    · have hmul2 : (24 * P + 1) * k ≤ (24 * P + 1) * 2 := Nat.mul_le_mul_left _ (by omega)
      obtain ⟨x, hx⟩ : ∃ x, es[k]? = some x := ⟨es[k]'(by rw [HM.out]; exact hlt), List.getElem?_eq_getElem _⟩
      obtain ⟨bk, o, ax, cx, rfl, hDb, e0, e1, e2, hEx⟩ := kid_at HAT.out k x hx
      have hlb := hl bk hDb
      have r0 := (HB2.out.cell (p := ⟨bk, o + k * 3, none⟩) hlb).trans e0
      have r1 := (HB2.out.cell (p := ⟨bk, o + k * 3 + 1, none⟩) hlb).trans e1
      have r2 := (HB2.out.cell (p := ⟨bk, o + k * 3 + 2, none⟩) hlb).trans e2
      have hxs : shapeB nv na d x = true := HE.out x (List.mem_of_getElem? hx)
      have hkd : kidD es k = x := by unfold kidD; simp [List.getD, hx]
      have HKD := Lib.hid hkd
      obtain ⟨hBb2, hbw2⟩ := isB_lt HI2.out
      have hB3 : Below wr.heap.size wr (wr.alloc (.cells #[.int .i64 x.kind, .int .i64 x.value, .slice ax x.kids.length cx] 29)) := (Below.refl _ _).alloc (Nat.le_refl _) _
      have HB3 : Hid (Below B w (wr.alloc (.cells #[.int .i64 x.kind, .int .i64 x.value, .slice ax x.kids.length cx] 29))) := HB2.out.trans (hB3.mono (by omega))
      have HK3 : Hid (Lib.OthersKept 5 (some b) w (wr.alloc (.cells #[.int .i64 x.kind, .int .i64 x.value, .slice ax x.kids.length cx] 29))) := HK2.out.trans (kept_below hB3)
      have HI3 := Lib.hid (isB_kept HI2.out (World.grownBy_alloc wr (.cells #[.int .i64 x.kind, .int .i64 x.value, .slice ax x.kids.length cx] 29) none))
      have HE3 := Lib.hid (hEx.later (Stand.of_below HB3.out hl))
      have HT3 := Lib.hid (HT.out.below HB3.out hB)
      obtain ⟨J, hJ⟩ : ∃ J, joinT d es ss k = J := ⟨_, rfl⟩
      rw [hJ] at hjk HI3
      have HJJ := Lib.hid hJ
      have htl := txE_len nv na d x hxs
      rw [HPP.out] at htl
      have HXS := Lib.hid hxs
      clear e0 e1 e2 hEx hx hkd hB3 hJ hxs
      go_wp2_with fail
      obtain ⟨W, hW⟩ : ∃ W, wr.alloc (.cells #[.int .i64 x.kind, .int .i64 x.value, .slice ax x.kids.length cx] 29) = W := ⟨_, rfl⟩
      rw [hW] at HB3 HK3 HI3 HE3 HT3 ⊢
      clear hW r0 r1 r2
      refine (IH.out n x _ _ _ D B b (bs ++ J) W HE3.out hl HXS.out HI3.out (by rw [HPP.out]; simp only [List.length_append]; omega) HT3.out hB).mono ?_
      rintro e w4 ⟨rfl, h4, hb4, hk4⟩
      have H4 := Lib.hid h4
      have HB4 := Lib.hid (HB3.out.trans hb4)
      have HK4 := Lib.hid (HK3.out.trans hk4)
      obtain ⟨hBb4, hbw4⟩ := isB_lt h4
      have HTX : Hid (∃ t, txE d x = t) := ⟨_, rfl⟩
      obtain ⟨t, ht⟩ := HTX.out
      rw [ht] at H4 htl
      have HTT := Lib.hid ht
      clear h4 hb4 hk4 HTX ht HB3 HK3 HI3 HE3 HT3
      by_cases hk2 : k < m2
      · obtain ⟨l, hlk⟩ : ∃ l, ss[k]? = some l := ⟨ss[k]'(by rw [HM2.out]; exact hk2), List.getElem?_eq_getElem _⟩
        have q0 := (HR.out.kept HK4.out hcb).cell k l hlk
        have hll := HS1.out l (List.mem_of_getElem? hlk)
        have hgd : ss.getD k [] = l := by simp [List.getD, hlk]
        have HJ2 : Hid (bs ++ J ++ t ++ l = bs ++ joinT d es ss (k + 1)) := by
          have : bs ++ J ++ t ++ l = bs ++ joinT d es ss (k + 1) := by rw [joinT, HJJ.out, HKD.out, HTT.out, hgd]; simp
          exact this
        clear hlk hgd
        go_wp2_with fail
        refine (wStr B b (bs ++ J ++ t) l w4 H4.out (by simp only [List.length_append]; omega) (by omega) (by omega)).mono ?_
        rintro e w5 ⟨rfl, h5, hb5, hk5⟩
        rw [HJ2.out] at h5
        have H5 := Lib.hid h5
        have HB5 := Lib.hid (HB4.out.trans hb5)
        have HK5 := Lib.hid (HK4.out.trans hk5)
        clear h5 hb5 hk5 q0
        go_wp2_with fail
        go_roundw
        case rel => exact ⟨k + 1, by omega, by go_num, H5, HB5, HK5⟩
        case measure => simp [intOf]; omega
      · have hgd : ss.getD k [] = [] := by simp [List.getD, List.getElem?_eq_none (show ss.length ≤ k by rw [HM2.out]; omega)]
        have HJ2 : Hid (bs ++ J ++ t = bs ++ joinT d es ss (k + 1)) := by
          have : bs ++ J ++ t = bs ++ joinT d es ss (k + 1) := by rw [joinT, HJJ.out, HKD.out, HTT.out, hgd]; simp
          exact this
        have H5 : Hid (IsB B b (bs ++ joinT d es ss (k + 1)) w4) := by
          have := H4.out
          rw [HJ2.out] at this
          exact this
        clear hgd
        go_wp2_with fail
        go_roundw
        case rel => exact ⟨k + 1, by omega, by go_num, H5, HB4, HK4⟩
        case measure => simp [intOf]; omega
    · obtain rfl : k = m := by omega
      obtain ⟨hBb4, hbw4⟩ := isB_lt HI2.out
      obtain ⟨J, hJ⟩ : ∃ J, joinT d es ss k = J := ⟨_, rfl⟩
      rw [hJ] at hjk HI2
      have hz := HB2.out.size
      have HJJ := Lib.hid hJ
      clear hJ
      go_wp2_with fail
      refine (wByte B b (bs ++ J) 41 wr HI2.out (by simp only [List.length_append]; omega) (by omega)).mono ?_
      rintro e w5 ⟨rfl, h5, hb5, hk5⟩
      have H5 := Lib.hid h5
      have HB5 := Lib.hid (HB2.out.trans hb5)
      have HK5 := Lib.hid (HK2.out.trans hk5)
      clear h5 hb5 hk5
      go_wp2_with fail
      go_end0
      refine ⟨rfl, ?_, HB5.out, HK5.out⟩
      rw [← List.append_assoc, HJJ.out]
      exact H5.out

set_option maxRecDepth 100000 in
set_option maxHeartbeats 4000000 in
theorem wElement (nv na d : Nat) (ih : SayW nv na d) (n v : Nat) (hv : v < 12) (x : E) (ax : Option Addr) (cx : Nat) (D : Nat → Prop) (B b : Nat) (bs : List UInt8) (w : World)
    (hE : IsE w D n x [.int .i64 x.kind, .int .i64 x.value, .slice ax x.kids.length cx]) (hl : ∀ k, D k → k < B) (hs : shapeB nv na d x = true) (h : IsB B b bs w) (hlen : bs.length + 24 * 4 ^ (d + 1) ≤ 1000000) (hT : TabW w) (hB : 5 ≤ B) :
    Calls Tryd.prog 72 #[.pointer (some ⟨b, 0, none⟩), .int .i64 v, .agg #[.int .i64 x.kind, .int .i64 x.value, .slice ax x.kids.length cx]] w (Wr B b bs (UInt8.ofNat (80 + v) :: 91 :: (txE d x ++ [93])) w) := by
  obtain ⟨hBb, hbw⟩ := isB_lt h
  have hp1 : 1 ≤ 4 ^ d := Nat.one_le_pow _ _ (by omega)
  have hp4 : 4 ^ (d + 1) = 4 * 4 ^ d := by rw [Nat.pow_succ, Nat.mul_comm]
  have htl := txE_len nv na d x hs
  obtain ⟨P, hP⟩ : ∃ P, 4 ^ d = P := ⟨_, rfl⟩
  rw [hp4, hP] at hlen
  rw [hP] at hp1 htl
  have HPP := Lib.hid hP
  have hB0 : Below w.heap.size w (w.alloc (.cells #[.int .i64 x.kind, .int .i64 x.value, .slice ax x.kids.length cx] 29)) := (Below.refl _ w).alloc (Nat.le_refl _) _
  have hrow := heap_alloc_new w (.cells #[.int .i64 x.kind, .int .i64 x.value, .slice ax x.kids.length cx] 29)
  have HB0 := Lib.hid hB0
  have HK0 := Lib.hid (kept_below (b := b) hB0)
  have HI := Lib.hid (isB_kept h (World.grownBy_alloc w (.cells #[.int .i64 x.kind, .int .i64 x.value, .slice ax x.kids.length cx] 29) none))
  have HXB : Hid (BoxE (w.alloc (.cells #[.int .i64 x.kind, .int .i64 x.value, .slice ax x.kids.length cx] 29)) w.heap.size x ax cx) := ⟨_, hrow⟩
  have HBXK : Hid (∀ v' : World, Lib.OthersKept 5 (some b) (w.alloc (.cells #[.int .i64 x.kind, .int .i64 x.value, .slice ax x.kids.length cx] 29)) v' → BoxE v' w.heap.size x ax cx) := fun v' hk => ⟨29, hk _ _ hrow (fun e => by cases e; omega) (fun cs fz e => by cases e)⟩
  have HT := Lib.hid hT
  have HE := Lib.hid hE
  have IH := Lib.hid ih
  obtain ⟨c, hc⟩ : ∃ c, UInt8.ofNat (80 + v) = c := ⟨_, rfl⟩
  have HC := Lib.hid hc
  rw [hc]
  obtain ⟨t, ht⟩ : ∃ t, txE d x = t := ⟨_, rfl⟩
  rw [ht] at htl ⊢
  have HTT := Lib.hid ht
  have HSX := Lib.hid hs
  clear h hB0 hrow hT hE ih hc hp4 hP ht hs
  go_enter Tryd.func72, Tryd.ntmps72
  go_wp2_with fail
  obtain ⟨W, hW⟩ : ∃ W, w.alloc (.cells #[.int .i64 x.kind, .int .i64 x.value, .slice ax x.kids.length cx] 29) = W := ⟨_, rfl⟩
  rw [hW] at HB0 HK0 HI HXB HBXK ⊢
  clear hW
  have hz := HB0.out.size
  refine (letter_a v hv W).mono ?_
  rintro e W2 ⟨rfl, rfl⟩
  rw [HC.out]
  go_wp2_with fail
  refine (wByte B b bs c W2 HI.out (by omega) (by omega)).mono ?_
  rintro e w1 ⟨rfl, h1, hb1, hk1⟩
  have H1 := Lib.hid h1
  have HB1 := Lib.hid ((HB0.out.mono (show B ≤ w.heap.size by omega)).trans hb1)
  have HK1 := Lib.hid hk1
  have hz1 := HB1.out.size
  obtain ⟨_, hbw1⟩ := isB_lt h1
  clear h1 hb1 hk1
  go_wp2_with fail
  refine (wByte B b (bs ++ [c]) 91 w1 H1.out (by simp only [List.length_append, List.length_singleton]; omega) (by omega)).mono ?_
  rintro e w2 ⟨rfl, h2, hb2, hk2⟩
  have H2 := Lib.hid h2
  have HB2 := Lib.hid (HB1.out.trans hb2)
  have HK2 := Lib.hid (HK1.out.trans hk2)
  have hx := HBXK.out _ HK2.out
  have x0 := hx.c0
  have x1 := hx.c1
  have x2 := hx.c2
  obtain ⟨_, hbw2⟩ := isB_lt h2
  clear h2 hb2 hk2 hx
  go_wp2_with fail
  refine (IH.out n x _ _ _ D B b (bs ++ [c] ++ [91]) w2 (HE.out.later (Stand.of_below HB2.out hl)) hl HSX.out H2.out (by rw [HPP.out]; simp only [List.length_append, List.length_singleton]; omega) (HT.out.below HB2.out hB) hB).mono ?_
  rintro e w3 ⟨rfl, h3, hb3, hk3⟩
  rw [HTT.out] at h3
  have H3 := Lib.hid h3
  have HB3 := Lib.hid (HB2.out.trans hb3)
  have HK3 := Lib.hid (HK2.out.trans hk3)
  obtain ⟨_, hbw3⟩ := isB_lt h3
  clear h3 hb3 hk3 x0 x1 x2
  go_wp2_with fail
  refine (wByte B b (bs ++ [c] ++ [91] ++ t) 93 w3 H3.out (by simp only [List.length_append, List.length_singleton]; omega) (by omega)).mono ?_
  rintro e w4 ⟨rfl, h4, hb4, hk4⟩
  have H4 := Lib.hid h4
  have HB4 := Lib.hid (HB3.out.trans hb4)
  have HK4 := Lib.hid (HK0.out.trans (HK3.out.trans hk4))
  clear h4 hb4 hk4
  go_wp2_with fail
  go_end0
  refine ⟨rfl, ?_, HB4.out, HK4.out⟩
  have e : bs ++ c :: 91 :: (t ++ [93]) = bs ++ [c] ++ [91] ++ t ++ [93] := by simp
  rw [e]
  exact H4.out

end Go.Proofs.YtomgnnhbabnckaaDoor

/- The size functions of the exact laws on statements and programs: whatever lies in memory, the answer is not above what was left, and where it is not negative every list is short and the statements are few. -/
import Derived.Test.YtgfagdjadmpklaaSz
import Derived.Test.YtgfagdjadmpklaaTreeS
namespace Go.Proofs.Ytgfagdjadmpklaa
open Go.RowKit
set_option linter.unusedVariables false

theorem cntSs_snoc (ss : List S) (k : Nat) (x : S) (h : ss[k]? = some x) : cntSs (ss.take (k + 1)) = cntSs (ss.take k) + cntS x := by
  induction ss generalizing k with
  | nil => simp at h
  | cons y ys ih =>
    cases k with
    | zero => simp at h; subst h; simp [cntSs]
    | succ k => simp at h; simp only [List.take_succ_cons, cntSs]; rw [ih k h]; omega

set_option maxHeartbeats 1000000 in
theorem szStmtS_of (n : Nat) (ih : ∀ (s : S) (k : SC) (D : Nat → Prop) (left : Int) (w : World), IsS w D n s k → (∀ k, D k → k < w.heap.size) → 0 ≤ left → left ≤ 1048576 →
      Calls Try.prog 90 #[aggS s k, .int .i64 left] w (SizedS (cntSs s.body + cntSs s.els) (SmS 1048576 n s) left w))
    (ss : List S) (a : Option Addr) (cap : Nat) (D : Nat → Prop) (left : Int) (w : World) (hc : ss.length ≤ cap) (hm : cap ≤ maxLen) (h : SsAt w D (IsS w D n) ss a) (hl : ∀ k, D k → k < w.heap.size) (h0 : 0 ≤ left) (h1 : left ≤ 1048576) :
    Calls Try.prog 61 #[.slice a ss.length cap, .int .i64 left] w (SizedS (cntSs ss) (ss.length ≤ 1048576 ∧ ∀ (i : Nat) (x : S), ss[i]? = some x → SmS 1048576 n x) left w) := by
  unfold maxLen at hm
  obtain ⟨len, hlen⟩ : ∃ len, ss.length = len := ⟨_, rfl⟩
  have HLEN := Lib.hid hlen
  rw [hlen] at hc ⊢
  have H := Lib.hid h
  have IH := Lib.hid ih
  clear h ih hlen
  by_cases hneg : left < len
  · go_enter Try.func61, Try.ntmps61
    go_wp2_with fail
    go_ret
    exact SizedS.no h0 (Below.refl _ _)
  · go_enter Try.func61, Try.ntmps61
    go_wp2_with fail
    go_loopw [1, 5] (fun c i wr => ∃ (k : Nat) (v : Int), k ≤ len ∧ i = .int .i64 k ∧ c = .int .i64 v ∧ 0 ≤ v ∧ v + (cntSs (ss.take k) : Nat) ≤ left - len + k ∧ v ≤ left - len ∧ (∀ (j : Nat) (x : S), j < k → ss[j]? = some x → SmS 1048576 n x) ∧ Below w.heap.size w wr) (fun _ i _ => len - (intOf i).toNat)
    case atStart => exact ⟨0, _, Nat.zero_le _, rfl, rfl, by omega, by simp [cntSs], by omega, fun j x hj => absurd hj (Nat.not_lt_zero _), Below.refl _ _⟩
    case round =>
      obtain ⟨k, v, hk, rfl, rfl, hv0, hv1, hv2, hS, hB⟩ := hrel
      have HV := Lib.hid hv1
      have HS := Lib.hid hS
      have HB := Lib.hid hB
      clear hS hB hv1
      by_cases hlt : k < len
      · obtain ⟨x, hx⟩ : ∃ x, ss[k]? = some x := ⟨ss[k]'(by rw [HLEN.out]; exact hlt), List.getElem?_eq_getElem _⟩
        obtain ⟨b, o, kk, rfl, hbl, hrow, hE⟩ := H.out k x hx
        obtain ⟨d0, d1, d2, d3, d4, d5, d6, d7, d8, d9, d10⟩ := hrow.stand (HB.out.block b (hl _ hbl))
        have HE : Hid (IsS wr D n x kk) := hE.later (Stand.of_below HB.out hl)
        have hsz := HB.out.size
        have HX := Lib.hid hx
        clear hE hx H hrow
        go_wp2_with fail
        refine (IH.out x kk D v _ HE.out (fun k hk => Nat.lt_of_lt_of_le (hl k hk) hsz) hv0 (by omega)).mono ?_
        rintro e w2 ⟨v2, rfl, hv3, hs2, hb2⟩
        have HB2 := Lib.hid (HB.out.trans (hb2.mono hsz))
        have HS2 := Lib.hid hs2
        clear hb2 hs2 HB HE d0 d1 d2 d3 d4 d5 d6 d7 d8 d9 d10
        by_cases hneg2 : v2 < 0
        · go_wp2_with fail
          go_ret
          exact SizedS.no h0 HB2.out
        · have HS3 : Hid (∀ (j : Nat) (x : S), j < k + 1 → ss[j]? = some x → SmS 1048576 n x) := fun j y hj hy => by
            by_cases hjk : j = k
            · subst hjk
              rw [HX.out] at hy
              cases hy
              exact (HS2.out (by omega)).1
            · exact HS.out j y (by omega) hy
          have HC : Hid (v2 + (cntSs (ss.take (k + 1)) : Nat) ≤ left - len + (k + 1 : Nat)) := by
            have h1 := (HS2.out (by omega)).2
            have h2 := HV.out
            have h3 := cntSs_snoc ss k x HX.out
            have h4 := cntS_eq x
            show v2 + (cntSs (ss.take (k + 1)) : Nat) ≤ left - len + (k + 1 : Nat)
            rw [h3]
            omega
          clear HS HS2 HX HV
          go_wp2_with fail
          go_roundw
          case rel => exact ⟨k + 1, v2, by omega, by go_num, rfl, by omega, HC.out, by omega, HS3.out, HB2.out⟩
          case measure => simp [intOf]; omega
      · obtain rfl : k = len := by omega
        have HV2 : Hid (v + (cntSs ss : Nat) ≤ left) := by
          have h1 := HV.out
          rw [List.take_of_length_le (by rw [HLEN.out]; exact Nat.le_refl _)] at h1
          show v + (cntSs ss : Nat) ≤ left
          omega
        clear H HV
        go_wp2_with fail
        go_ret
        exact ⟨v, rfl, by omega, fun _ => ⟨⟨by omega, fun j y hy => HS.out j y (by have := (List.getElem?_eq_some_iff.1 hy).1; rw [HLEN.out] at this; exact this) hy⟩, HV2.out⟩, HB.out⟩

set_option maxHeartbeats 2000000 in
theorem szStmt_succ (n : Nat) (hS : ∀ (ss : List S) (a : Option Addr) (cap : Nat) (D : Nat → Prop) (left : Int) (w : World), ss.length ≤ cap → cap ≤ maxLen → SsAt w D (IsS w D n) ss a → (∀ k, D k → k < w.heap.size) → 0 ≤ left → left ≤ 1048576 →
      Calls Try.prog 61 #[.slice a ss.length cap, .int .i64 left] w (SizedS (cntSs ss) (ss.length ≤ 1048576 ∧ ∀ (i : Nat) (x : S), ss[i]? = some x → SmS 1048576 n x) left w))
    (s : S) (k : SC) (D : Nat → Prop) (left : Int) (w : World) (h : IsS w D (n + 1) s k) (hl : ∀ k, D k → k < w.heap.size) (h0 : 0 ≤ left) (h1 : left ≤ 1048576) :
    Calls Try.prog 90 #[aggS s k, .int .i64 left] w (SizedS (cntSs s.body + cntSs s.els) (SmS 1048576 (n + 1) s) left w) := by
  obtain ⟨hi, hv, hbc, hbm, hbat, hec, hem, heat⟩ := h
  have HI := Lib.hid hi
  have HV := Lib.hid hv
  have HBA := Lib.hid hbat
  have HEA := Lib.hid heat
  have HS := Lib.hid hS
  clear hi hv hbat heat hS
  have HBX := Lib.hid (BoxS.new w s k 143)
  have HW := Lib.hid ((Below.refl w.heap.size w).alloc (Nat.le_refl _) (.cells (arrS s k) 143))
  go_enter Try.func90, Try.ntmps90
  go_wp2_with fail
  obtain ⟨W, hW⟩ : ∃ W, w.alloc (.cells (arrS s k) 143) = W := ⟨_, rfl⟩
  have hzW : W.heap.size = w.heap.size + 1 := by rw [← hW]; simp
  unfold arrS at hW
  rw [hW] at HBX HW ⊢
  clear hW
  have hlW : ∀ k, D k → k < W.heap.size := fun j hj => Nat.lt_of_lt_of_le (hl j hj) HW.out.size
  have HLW := Lib.hid hlW
  have HZ := Lib.hid hzW
  clear hlW hzW
  refine (szExpr_one n s.index _ _ _ D left _ (HI.out.later (Stand.of_below HW.out hl)) HLW.out h0 h1).mono ?_
  rintro f w1 ⟨v1, rfl, hv1, hs1, hb1⟩
  have HB1 := Lib.hid (HW.out.trans (hb1.mono HW.out.size))
  have HP1 := Lib.hid hs1
  have b1 := HBX.out.below hb1 HBX.out.lt
  have q5 := b1.c5
  have q6 := b1.c6
  have q7 := b1.c7
  have BX1 := Lib.hid b1
  clear hb1 hs1 b1 HW HBX HI HZ HLW
  by_cases hn1 : v1 < 0
  · go_wp2_with fail
    go_ret
    exact SizedS.no h0 HB1.out
  go_wp2_with fail
  refine (szExpr_one n s.value _ _ _ D v1 _ (HV.out.later (Stand.of_below HB1.out hl)) (fun j hj => Nat.lt_of_lt_of_le (hl j hj) HB1.out.size) (by omega) (by omega)).mono ?_
  rintro f w2 ⟨v2, rfl, hv2, hs2, hb2⟩
  have HB2 := Lib.hid (HB1.out.trans (hb2.mono HB1.out.size))
  have HP2 := Lib.hid hs2
  have b2 := BX1.out.below hb2 BX1.out.lt
  have q9 := b2.c9
  have BX2 := Lib.hid b2
  clear hb2 hs2 b2 BX1 HB1 HV q5 q6 q7
  by_cases hn2 : v2 < 0
  · go_wp2_with fail
    go_ret
    exact SizedS.no h0 HB2.out
  go_wp2_with fail
  refine (HS.out s.body k.ba k.bc D v2 _ hbc hbm (HBA.out.later (Stand.of_below HB2.out hl)) (fun j hj => Nat.lt_of_lt_of_le (hl j hj) HB2.out.size) (by omega) (by omega)).mono ?_
  rintro f w3 ⟨v3, rfl, hv3, hs3, hb3⟩
  have HB3 := Lib.hid (HB2.out.trans (hb3.mono HB2.out.size))
  have HP3 := Lib.hid hs3
  have b3 := BX2.out.below hb3 BX2.out.lt
  have q10 := b3.c10
  clear hb3 hs3 b3 BX2 HB2 HBA q9
  by_cases hn3 : v3 < 0
  · go_wp2_with fail
    go_ret
    exact SizedS.no h0 HB3.out
  go_wp2_with fail
  refine (HS.out s.els k.ea k.ec D v3 _ hec hem (HEA.out.later (Stand.of_below HB3.out hl)) (fun j hj => Nat.lt_of_lt_of_le (hl j hj) HB3.out.size) (by omega) (by omega)).mono ?_
  rintro f w4 ⟨v4, rfl, hv4, hs4, hb4⟩
  have HB4 := Lib.hid (HB3.out.trans (hb4.mono HB3.out.size))
  have HP4 := Lib.hid hs4
  clear hb4 hs4 HB3 HEA q10
  by_cases hn4 : v4 < 0
  · go_wp2_with fail
    go_ret
    exact SizedS.no h0 HB4.out
  have HF : Hid (SmS 1048576 (n + 1) s ∧ v4 + (cntSs s.body + cntSs s.els : Nat) ≤ left) := by
    have e3 := (HP3.out (by omega)).2
    have e4 := (HP4.out (by omega)).2
    have e1 := (HP1.out (by omega)).2
    have e2 := (HP2.out (by omega)).2
    exact ⟨⟨(HP1.out (by omega)).1, (HP2.out (by omega)).1, (HP3.out (by omega)).1.1, (HP3.out (by omega)).1.2, (HP4.out (by omega)).1.1, (HP4.out (by omega)).1.2⟩, by omega⟩
  go_wp2_with fail
  go_ret
  exact ⟨v4, rfl, by omega, fun _ => HF.out, HB4.out⟩

/-- **szStmt, AT EVERY STATEMENT.** -/
theorem szStmt_one : ∀ (n : Nat) (s : S) (k : SC) (D : Nat → Prop) (left : Int) (w : World), IsS w D n s k → (∀ k, D k → k < w.heap.size) → 0 ≤ left → left ≤ 1048576 →
      Calls Try.prog 90 #[aggS s k, .int .i64 left] w (SizedS (cntSs s.body + cntSs s.els) (SmS 1048576 n s) left w)
  | 0, _, _, _, _, _, h, _, _, _ => h.elim
  | n + 1, s, k, D, left, w, h, hl, h0, h1 => szStmt_succ n (fun ss a cap D left w hc hm hat hl h0 h1 => szStmtS_of n (szStmt_one n) ss a cap D left w hc hm hat hl h0 h1) s k D left w h hl h0 h1

end Go.Proofs.Ytgfagdjadmpklaa

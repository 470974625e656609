/- The comparing functions of the exact laws on statements and programs: of two that read alike the call answers true, and nothing that was there has changed. -/
import Derived.Test.YtgfagdjadmpklaaEq
import Derived.Test.YtgfagdjadmpklaaTreeP
namespace Go.Proofs.Ytgfagdjadmpklaa
open Go.RowKit
set_option linter.unusedVariables false

theorem below_drewN'' {B : Nat} {a w : World} (h : Below B a w) (k : Nat) : Below B a (w.drewN k) := ⟨h.os, h.tape, h.output, h.size, h.block⟩

/-- True; nothing that was there has changed. -/
def Yes (w : World) (e : Ending) (w' : World) : Prop := e = .returned (.bool true) ∧ Below w.heap.size w w'
theorem eqExpr_same (n : Nat) (e : E) (a a' : Option Addr) (c c' : Nat) (D : Nat → Prop) (w : World) (h : IsE w D n e (cellsI e a c)) (h' : IsE w D n e (cellsI e a' c')) (hl : ∀ k, D k → k < w.heap.size) :
    Calls Try.prog 22 #[.agg #[.int .i64 e.kind, .int .i64 e.value, .slice a e.kids.length c], .agg #[.int .i64 e.kind, .int .i64 e.value, .slice a' e.kids.length c']] w (Yes w) :=
  (eqExpr_one n e e _ _ _ _ _ _ D w h h' hl).mono fun _ _ ⟨h1, h2⟩ => ⟨by rw [h1, eqB_yes rfl], h2⟩

set_option maxHeartbeats 2000000 in
theorem eqStmtS_of (n : Nat) (ih : ∀ (e : S) (ke kf : SC) (D : Nat → Prop) (w : World), IsS w D n e ke → IsS w D n e kf → (∀ k, D k → k < w.heap.size) →
      Calls Try.prog 95 #[aggS e ke, aggS e kf] w (Yes w))
    (es : List S) (a a' : Option Addr) (cap cap' : Nat) (D : Nat → Prop) (w : World) (hc : es.length ≤ cap) (hc' : es.length ≤ cap') (hm : cap ≤ maxLen) (hm' : cap' ≤ maxLen) (h : SsAt w D (IsS w D n) es a) (h' : SsAt w D (IsS w D n) es a') (hl : ∀ k, D k → k < w.heap.size) :
    Calls Try.prog 68 #[.slice a es.length cap, .slice a' es.length cap'] w (Yes w) := by
  unfold maxLen at hm hm'
  obtain ⟨len, hlen⟩ : ∃ len, es.length = len := ⟨_, rfl⟩
  have HLEN := Lib.hid hlen
  rw [hlen] at hc hc'
  rw [hlen]
  have H := Lib.hid h
  have H' := Lib.hid h'
  have IH := Lib.hid ih
  clear h h' ih hlen
  go_enter Try.func68, Try.ntmps68
  go_wp2_with fail
  go_loopw [5] (fun i wr => ∃ k : Nat, k ≤ len ∧ i = .int .i64 k ∧ Below w.heap.size w wr) (fun i _ => len - (intOf i).toNat)
  case atStart => exact ⟨0, Nat.zero_le _, rfl, Below.refl _ _⟩
  case round =>
    obtain ⟨k, hk, rfl, hB⟩ := hrel
    have HB := Lib.hid hB
    clear hB
    by_cases hlt : k < len
    · obtain ⟨x, hx⟩ : ∃ x, es[k]? = some x := ⟨es[k]'(by rw [HLEN.out]; exact hlt), List.getElem?_eq_getElem _⟩
      obtain ⟨b, o, kx, rfl, hbl, hrow, hE⟩ := H.out k x hx
      obtain ⟨b', o', ky, rfl, hbl', hrow', hF⟩ := H'.out k x hx
      obtain ⟨d0, d1, d2, d3, d4, d5, d6, d7, d8, d9, d10⟩ := hrow.stand (HB.out.block b (hl _ hbl))
      obtain ⟨g0, g1, g2, g3, g4, g5, g6, g7, g8, g9, g10⟩ := hrow'.stand (HB.out.block b' (hl _ hbl'))
      have HE : Hid (IsS wr.drew D n x kx) := hE.later (Stand.trans (Stand.of_below HB.out hl) fun _ _ => rfl)
      have HF : Hid (IsS wr.drew D n x ky) := hF.later (Stand.trans (Stand.of_below HB.out hl) fun _ _ => rfl)
      have hsz := HB.out.size
      have HDW : Hid (∀ k, D k → k < wr.drew.heap.size) := fun j hj => Nat.lt_of_lt_of_le (hl j hj) hsz
      clear hE hF hx H H' hrow hrow'
      go_wp2_with fail
      go_region_with (go_at_call 95; refine (IH.out x kx ky D _ HE.out HF.out HDW.out).mono ?_; rintro e w2 ⟨rfl, hb2⟩; have HB2 : Hid (Below w.heap.size w w2) := (HB.out.drew.trans (hb2.mono hsz)); clear hb2)
      all_goals
        go_wp2_with fail
        go_roundw
        case rel => exact ⟨k + 1, by omega, by go_num, HB2.out⟩
        case measure => simp [intOf]; omega
    · obtain rfl : k = len := by omega
      clear H H'
      go_wp2_with fail
      go_ret
      exact ⟨rfl, HB.out⟩

set_option maxHeartbeats 4000000 in
theorem eqStmt_succ (n : Nat) (hS : ∀ (es : List S) (a a' : Option Addr) (cap cap' : Nat) (D : Nat → Prop) (w : World), es.length ≤ cap → es.length ≤ cap' → cap ≤ maxLen → cap' ≤ maxLen → SsAt w D (IsS w D n) es a → SsAt w D (IsS w D n) es a' → (∀ k, D k → k < w.heap.size) →
      Calls Try.prog 68 #[.slice a es.length cap, .slice a' es.length cap'] w (Yes w))
    (s : S) (k k' : SC) (D : Nat → Prop) (w : World) (h : IsS w D (n + 1) s k) (h' : IsS w D (n + 1) s k') (hl : ∀ k, D k → k < w.heap.size) :
    Calls Try.prog 95 #[aggS s k, aggS s k'] w (Yes w) := by
  obtain ⟨hi, hv, hbc, hbm, hbat, hec, hem, heat⟩ := h
  obtain ⟨hi', hv', hbc', hbm', hbat', hec', hem', heat'⟩ := h'
  have HI := Lib.hid hi
  have HV := Lib.hid hv
  have HBA := Lib.hid hbat
  have HEA := Lib.hid heat
  have HI' := Lib.hid hi'
  have HV' := Lib.hid hv'
  have HBA' := Lib.hid hbat'
  have HEA' := Lib.hid heat'
  have HS := Lib.hid hS
  clear hi hv hbat heat hi' hv' hbat' heat' hS
  go_enter Try.func95, Try.ntmps95
  go_wp2_with fail
  obtain ⟨W, hW⟩ : ∃ W, ((w.alloc (.cells (arrS s k) 107)).alloc (.cells (arrS s k') 107)) = W := ⟨_, rfl⟩
  have hz : W.heap.size = w.heap.size + 2 := by rw [← hW]; simp
  have hB : Below w.heap.size w W := by rw [← hW]; exact ((Below.refl _ w).alloc (Nat.le_refl _) _).alloc (by simp) _
  have q0 : BoxS W w.heap.size s k := by
    rw [← hW]
    exact ((BoxS.new w s k 107).later (Below.heap_alloc _ _ _ (by simp)))
  have q1 : BoxS W (w.heap.size + 1) s k' := by
    have e1 := BoxS.new (w.alloc (.cells (arrS s k) 107)) s k' 107
    rw [World.size_alloc] at e1
    rw [← hW]; exact e1
  unfold arrS at hW
  rw [hW]
  clear hW
  have HB := Lib.hid hB
  have Q0 := Lib.hid q0
  have Q1 := Lib.hid q1
  clear hB q0 q1
  have hs0 := HB.out.size
  refine (eqExpr_same n s.index k.ia k'.ia k.ic k'.ic D W (HI.out.later (Stand.of_below HB.out hl)) (HI'.out.later (Stand.of_below HB.out hl)) (fun j hj => Nat.lt_of_lt_of_le (hl j hj) hs0)).mono ?_
  rintro f w1 ⟨rfl, hb1⟩
  have B1 := Lib.hid (HB.out.trans (hb1.mono hs0))
  have r0 := Q0.out.below hb1 (by omega)
  have r1 := Q1.out.below hb1 (by omega)
  have a5 := r0.c5
  have a6 := r0.c6
  have a7 := r0.c7
  have b5 := r1.c5
  have b6 := r1.c6
  have b7 := r1.c7
  have R0 := Lib.hid r0
  have R1 := Lib.hid r1
  have z1 := hb1.size
  clear r0 r1 hb1 Q0 Q1 HI HI' HB
  go_wp2_with fail
  have hs1 := B1.out.size
  refine (eqExpr_same n s.value k.va k'.va k.vc k'.vc D w1 (HV.out.later (Stand.of_below B1.out hl)) (HV'.out.later (Stand.of_below B1.out hl)) (fun j hj => Nat.lt_of_lt_of_le (hl j hj) hs1)).mono ?_
  rintro f w2 ⟨rfl, hb2⟩
  have B2 := Lib.hid (B1.out.trans (hb2.mono hs1))
  have r0 := R0.out.below hb2 (by omega)
  have r1 := R1.out.below hb2 (by omega)
  have a8 := r0.c8
  have a9 := r0.c9
  have b8 := r1.c8
  have b9 := r1.c9
  have S0 := Lib.hid r0
  have S1 := Lib.hid r1
  have z2 := hb2.size
  clear r0 r1 hb2 R0 R1 HV HV' B1 a5 a6 a7 b5 b6 b7
  go_wp2_with fail
  have hs2 := B2.out.size
  refine (HS.out s.body k.ba k'.ba k.bc k'.bc D w2 hbc hbc' hbm hbm' (HBA.out.later (Stand.of_below B2.out hl)) (HBA'.out.later (Stand.of_below B2.out hl)) (fun j hj => Nat.lt_of_lt_of_le (hl j hj) hs2)).mono ?_
  rintro f w3 ⟨rfl, hb3⟩
  have B3 := Lib.hid (B2.out.trans (hb3.mono hs2))
  have r0 := S0.out.below hb3 (by omega)
  have r1 := S1.out.below hb3 (by omega)
  have a10 := r0.c10
  have b10 := r1.c10
  clear r0 r1 hb3 S0 S1 HBA HBA' B2 a8 a9 b8 b9
  go_wp2_with fail
  have hs3 := B3.out.size
  refine (HS.out s.els k.ea k'.ea k.ec k'.ec D w3 hec hec' hem hem' (HEA.out.later (Stand.of_below B3.out hl)) (HEA'.out.later (Stand.of_below B3.out hl)) (fun j hj => Nat.lt_of_lt_of_le (hl j hj) hs3)).mono ?_
  rintro f w4 ⟨rfl, hb4⟩
  have B4 := Lib.hid (B3.out.trans (hb4.mono hs3))
  clear hb4 HEA HEA' B3 a10 b10
  go_wp2_with fail
  go_ret
  exact ⟨rfl, B4.out⟩

/-- **eqStmt, AT EVERY TWO STATEMENTS THAT READ ALIKE.** -/
theorem eqStmt_one : ∀ (n : Nat) (s : S) (k k' : SC) (D : Nat → Prop) (w : World), IsS w D n s k → IsS w D n s k' → (∀ k, D k → k < w.heap.size) →
      Calls Try.prog 95 #[aggS s k, aggS s k'] w (Yes w)
  | 0, _, _, _, _, _, h, _, _ => h.elim
  | n + 1, s, k, k', D, w, h, h', hl => eqStmt_succ n (fun es a a' cap cap' D w hc hc' hm hm' hat hat' hl => eqStmtS_of n (eqStmt_one n) es a a' cap cap' D w hc hc' hm hm' hat hat' hl) s k k' D w h h' hl

set_option maxHeartbeats 2000000 in
/-- **eqProgram, AT EVERY TWO PROGRAMS THAT READ ALIKE.** -/
theorem eqProg_one (n : Nat) (p : Pg) (k k' : PC) (D : Nat → Prop) (w : World) (h : IsP w D n p k) (h' : IsP w D n p k') (hl : ∀ k, D k → k < w.heap.size) :
    Calls Try.prog 27 #[aggP p k, aggP p k'] w (Yes w) := by
  obtain ⟨⟨hv0, hv1, hvat⟩, ⟨ha0, ha1, haat⟩, hb0, hb1, hbat⟩ := h
  obtain ⟨⟨hv0', hv1', hvat'⟩, ⟨ha0', ha1', haat'⟩, hb0', hb1', hbat'⟩ := h'
  have HV := Lib.hid hvat
  have HA := Lib.hid haat
  have HBA := Lib.hid hbat
  have HV' := Lib.hid hvat'
  have HA' := Lib.hid haat'
  have HBA' := Lib.hid hbat'
  clear hvat haat hbat hvat' haat' hbat'
  have HVT : Hid (eqL p.vars p.vars = true) := decide_eq_true rfl
  have HAT : Hid (eqL p.arrs p.arrs = true) := decide_eq_true rfl
  go_enter Try.func27, Try.ntmps27
  go_wp2_with fail
  obtain ⟨W, hW⟩ : ∃ W, ((w.alloc (.cells (arrP p k) 55)).alloc (.cells (arrP p k') 55)) = W := ⟨_, rfl⟩
  have hz : W.heap.size = w.heap.size + 2 := by rw [← hW]; simp
  have hB : Below w.heap.size w W := by rw [← hW]; exact ((Below.refl _ w).alloc (Nat.le_refl _) _).alloc (by simp) _
  have q0 : BoxP W w.heap.size p k := by
    rw [← hW]
    exact ((BoxP.new w p k 55).later (Below.heap_alloc _ _ _ (by simp)))
  have q1 : BoxP W (w.heap.size + 1) p k' := by
    have e1 := BoxP.new (w.alloc (.cells (arrP p k) 55)) p k' 55
    rw [World.size_alloc] at e1
    rw [← hW]; exact e1
  unfold arrP at hW
  rw [hW]
  clear hW
  have HB := Lib.hid hB
  have Q0 := Lib.hid q0
  have Q1 := Lib.hid q1
  clear hB q0 q1
  have hs0 := HB.out.size
  refine (eqInts_one k.va k'.va _ k.vc _ k'.vc p.vars p.vars W ((HV.out.wide (D' := D) (Stand.of_below HB.out hl) (fun _ x => x)).slice (Nat.le_trans hv0 hv1)) ((HV'.out.wide (D' := D) (Stand.of_below HB.out hl) (fun _ x => x)).slice (Nat.le_trans hv0 hv1))).mono ?_
  rintro f w1 ⟨rfl, m1, hw1⟩
  rw [HVT.out]
  have B1 : Hid (Below w.heap.size w w1) := by rw [hw1]; exact below_drewN'' HB.out m1
  have r0 : BoxP w1 w.heap.size p k := Q0.out.later (by rw [hw1]; rfl)
  have r1 : BoxP w1 (w.heap.size + 1) p k' := Q1.out.later (by rw [hw1]; rfl)
  have a1 := r0.c1
  have b1 := r1.c1
  have R0 := Lib.hid r0
  have R1 := Lib.hid r1
  have hs1 := B1.out.size
  have z1 : W.heap.size = w1.heap.size := by rw [hw1]; rfl
  clear r0 r1 Q0 Q1 HV HV' HB hw1
  go_wp2_with fail
  refine (eqInts_one k.aa k'.aa _ k.ac _ k'.ac p.arrs p.arrs w1 ((HA.out.wide (D' := D) (Stand.of_below B1.out hl) (fun _ x => x)).slice (Nat.le_trans ha0 ha1)) ((HA'.out.wide (D' := D) (Stand.of_below B1.out hl) (fun _ x => x)).slice (Nat.le_trans ha0 ha1))).mono ?_
  rintro f w2 ⟨rfl, m2, hw2⟩
  rw [HAT.out]
  have B2 : Hid (Below w.heap.size w w2) := by rw [hw2]; exact below_drewN'' B1.out m2
  have r0 : BoxP w2 w.heap.size p k := R0.out.later (by rw [hw2]; rfl)
  have r1 : BoxP w2 (w.heap.size + 1) p k' := R1.out.later (by rw [hw2]; rfl)
  have a2 := r0.c2
  have b2 := r1.c2
  have hs2 := B2.out.size
  clear r0 r1 R0 R1 HA HA' B1 hw2 a1 b1
  go_wp2_with fail
  refine (eqStmtS_of n (eqStmt_one n) p.body k.ba k'.ba k.bc k'.bc D w2 hb0 hb0' hb1 hb1' (HBA.out.later (Stand.of_below B2.out hl)) (HBA'.out.later (Stand.of_below B2.out hl)) (fun j hj => Nat.lt_of_lt_of_le (hl j hj) hs2)).mono ?_
  rintro f w3 ⟨rfl, hb3⟩
  have B3 := Lib.hid (B2.out.trans (hb3.mono hs2))
  clear hb3 HBA HBA' B2 a2 b2
  go_wp2_with fail
  go_ret
  exact ⟨rfl, B3.out⟩

end Go.Proofs.Ytgfagdjadmpklaa

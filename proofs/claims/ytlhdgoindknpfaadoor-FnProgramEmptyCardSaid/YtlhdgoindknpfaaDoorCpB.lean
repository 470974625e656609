/- The model's copy of a block: l2CopyBlock returns a copy in new blocks; nothing that was there has changed. Condition: no list of the tree has more than 2^20 elements. -/
import Derived.Test.YtlhdgoindknpfaaDoorCpE
import Derived.Test.YtlhdgoindknpfaaDoorToS
namespace Go.Proofs.YtlhdgoindknpfaaDoor
open Go.RowKit
set_option linter.unusedVariables false

abbrev RowS (n : Nat) (w : World) (base : Nat) (v : Value) (ss : List S) : Prop := RowG 61 11 (fun (x : S) (k : SC) => (arrS x k).toList) (fun w D x k => IsS w D n x k) w base v ss
theorem hRS (n : Nat) : ∀ (w w' : World) (D D' : Nat → Prop) (x : S) (k : SC), Stand D w w' → (∀ j, D j → D' j) → IsS w D n x k → IsS w' D' n x k := fun _ _ _ _ _ _ h1 h2 h3 => h3.mono h1 h2
theorem RowS.below {n : Nat} {w w' : World} {base : Nat} {v : Value} {es : List S} (h : RowS n w base v es) (hb : Below w.heap.size w w') : RowS n w' base v es := by
  obtain ⟨L, h1, h2, h3⟩ := h
  refine ⟨L, h1, ?_, fun i x k hx hk => hRS n _ _ _ _ _ _ (fun j hj => hb.block j hj.2.1) (fun j hj => ⟨hj.1, Nat.lt_of_lt_of_le hj.2.1 hb.size, hj.2.2⟩) (h3 i x k hx hk)⟩
  refine ⟨h2.1, ?_⟩
  rcases h2.2 with h | ⟨g, cap, cur, e1, e2, e3, e4⟩
  · exact .inl h
  · exact .inr ⟨g, cap, cur, e1, e2, (hb.block g (Array.getElem?_eq_some_iff.1 e3).1).trans e3, e4⟩
theorem RowS.ss {n : Nat} {w : World} {base : Nat} {v : Value} {es : List S} (h : RowS n w base v es) : ∃ a cap, v = .slice a es.length cap ∧ es.length ≤ cap ∧ cap ≤ maxLen ∧ SsAt w (fun j => base ≤ j ∧ j < w.heap.size) (IsS w (fun j => base ≤ j ∧ j < w.heap.size) n) es a := by
  obtain ⟨L, h1, h2, h3⟩ := h
  rcases h2.2 with ⟨e1, e2⟩ | ⟨g, cap, cur, rfl, e2, e3, e4, e5, _⟩
  · have : es = [] := by simpa using e2
    subst this
    exact ⟨none, 0, by rw [e1]; rfl, by simp, by unfold maxLen; omega, fun i x hx => by simp at hx⟩
  · refine ⟨_, cap, rfl, e4, e5, fun i x hx => ?_⟩
    have hi : i < es.length := (List.getElem?_eq_some_iff.1 hx).1
    obtain ⟨k, hk⟩ : ∃ k, L[i]? = some k := ⟨L[i]'(by omega), List.getElem?_eq_getElem _⟩
    have hat : ∀ j, j < 11 → w.cell? ⟨g, 0 + i * 11 + j, none⟩ = (arrS x k).toList[j]? := fun j hj => by
      rw [Nat.zero_add, h2.cellAt _ (by omega), cellsL_at (sz := 11) (fun x k => rfl) es L i j x k hx hk hj]
    exact ⟨g, 0, k, rfl, ⟨e2, (Array.getElem?_eq_some_iff.1 e3).1⟩, ⟨hat 0 (by omega), hat 1 (by omega), hat 2 (by omega), hat 3 (by omega), hat 4 (by omega), hat 5 (by omega), hat 6 (by omega), hat 7 (by omega), hat 8 (by omega), hat 9 (by omega), hat 10 (by omega)⟩, (h3 i x k hx hk).mono (fun _ _ => rfl) fun j hj => ⟨hj.1, hj.2.1⟩⟩

/-- A copy of a block, a row of the call's own. -/
def CopyRs (n : Nat) (ss : List S) (w : World) (f : Ending) (w' : World) : Prop := ∃ a cap, f = .returned (.slice a ss.length cap) ∧ RowS n w' w.heap.size (.slice a ss.length cap) ss ∧ Below w.heap.size w w'
theorem CopyRs.to {n : Nat} {ss : List S} {w : World} {f : Ending} {w' : World} (h : CopyRs n ss w f w') : CopySs n ss w f w' := by
  obtain ⟨a, cap, rfl, h1, h2⟩ := h
  obtain ⟨ra, rc, e1, e2, e3, e4⟩ := RowS.ss h1
  cases e1
  exact ⟨a, cap, rfl, e2, e3, e4, h2⟩

set_option maxRecDepth 100000 in
set_option maxHeartbeats 8000000 in
theorem cpBlock_of (n : Nat) (ih : ∀ m, n = m + 1 → ∀ (ss : List S) (a : Option Addr) (cap : Nat) (D : Nat → Prop) (w : World), ss.length ≤ cap → cap ≤ maxLen → SsAt w D (IsS w D m) ss a → (∀ k, D k → k < w.heap.size) → ss.length ≤ 1048576 → (∀ (i : Nat) (x : S), ss[i]? = some x → SmS 1048576 m x) →
      Calls Tryd.prog 77 #[.slice a ss.length cap] w (CopySs m ss w))
    (ss : List S) (a : Option Addr) (cap : Nat) (D : Nat → Prop) (w : World) (hc : ss.length ≤ cap) (hm : cap ≤ maxLen) (h : SsAt w D (IsS w D n) ss a) (hl : ∀ k, D k → k < w.heap.size) (hs : ss.length ≤ 1048576) (hsm : ∀ (i : Nat) (x : S), ss[i]? = some x → SmS 1048576 n x) :
    Calls Tryd.prog 77 #[.slice a ss.length cap] w (CopyRs n ss w) := by
  obtain ⟨N, hN⟩ : ∃ N, ss.length = N := ⟨_, rfl⟩
  have HN := Lib.hid hN
  rw [hN] at hc hs ⊢
  have H := Lib.hid h
  have IH := Lib.hid ih
  have HSM := Lib.hid hsm
  have HI := Lib.hid Tryd.infoS
  unfold maxLen at hm
  clear h ih hsm hN
  go_enter Tryd.func77, Tryd.ntmps77
  go_wp2_with fail
  have HBW : Hid (Below w.heap.size w (w.alloc (.cells #[] 61))) := (Below.refl _ w).alloc (Nat.le_refl _) _
  have hz : (w.alloc (.cells #[] 61)).heap.size = w.heap.size + 1 := by simp
  have HR0 : Hid (RowS n (w.alloc (.cells #[] 61)) w.heap.size (.slice (some ⟨w.heap.size, 0, none⟩) 0 0) []) :=
    ⟨[], rfl, World.ownsRow_made w #[] 0 (Nat.le_refl _) (by unfold maxLen; omega) (by simp), fun i x k h => by simp at h⟩
  obtain ⟨W, hW⟩ : ∃ W, w.alloc (.cells #[] 61) = W := ⟨_, rfl⟩
  rw [hW] at HBW HR0 hz ⊢
  clear hW
  go_loopw [3, 4] (fun v c wr => ∃ (i : Nat) (es : List S) (va : Option Addr) (vc : Nat), i ≤ N ∧ c = .int .i64 i ∧ v = .slice va i vc ∧ es.length = i ∧ es = ss.take i ∧ RowS n wr w.heap.size (.slice va i vc) es ∧ Below w.heap.size w wr ∧ w.heap.size < wr.heap.size) (fun _ c _ => N - (intOf c).toNat)
  case atStart => exact ⟨0, [], some ⟨w.heap.size, 0, none⟩, 0, Nat.zero_le _, rfl, rfl, rfl, by simp, HR0.out, HBW.out, by omega⟩
  case round =>
    obtain ⟨i, es, va, vc, hi, rfl, rfl, hel, het, hrow, hbel, hXs⟩ := hrel
    have HROW := Lib.hid hrow
    have HBEL := Lib.hid hbel
    have HET := Lib.hid het
    have HNN := Lib.hid hel
    clear hrow hbel hel het HR0 HBW
    by_cases hlt : i < N
    · obtain ⟨x, hx⟩ : ∃ x, ss[i]? = some x := ⟨ss[i]'(by rw [HN.out]; exact hlt), List.getElem?_eq_getElem _⟩
      obtain ⟨b, o, kx, rfl, hbl, hrow, hE⟩ := H.out i x hx
      have hst : Stand D w wr := Stand.of_below HBEL.out hl
      obtain ⟨r0, r1, r2, r3, r4, r5, r6, r7, r8, r9, r10⟩ := hrow.stand (hst b hbl)
      have HE : Hid (IsS wr D n x kx) := hE.later hst
      have hDW : ∀ k, D k → k < wr.heap.size := fun k hk => by have := hl k hk; omega
      have HDW := Lib.hid hDW
      have HSX : Hid (SmS 1048576 n x) := HSM.out i x hx
      have HTK : Hid (ss.take (i + 1) = es ++ [x]) := by
        show ss.take (i + 1) = es ++ [x]
        obtain ⟨hj, hx'⟩ := List.getElem?_eq_some_iff.1 hx
        rw [List.take_succ_eq_append_getElem hj, HET.out, hx']
      have j0 : (0 : Int) ≤ (i : Int) := by omega
      have j1 : (i : Int) < (N : Int) := by omega
      clear hE hx hst hrow H HSM hDW
      cases n with
      | zero => exact HE.out.elim
      | succ n =>
      obtain ⟨hi', hv', hbc, hbm, hbat, hec, hem, heat⟩ := HE.out
      have HI1 := Lib.hid hi'
      have HV1 := Lib.hid hv'
      have HBC := Lib.hid hbc
      have HBM := Lib.hid hbm
      have HBA := Lib.hid hbat
      have HEC := Lib.hid hec
      have HEM := Lib.hid hem
      have HEA := Lib.hid heat
      have IH1 := Lib.hid (IH.out n rfl)
      clear hi' hv' hbc hbm hbat hec hem heat HE IH
      go_wp2_with fail
      obtain ⟨W0, hW0⟩ : ∃ W0, wr.alloc (.cells (arrS x kx) 61) = W0 := ⟨_, rfl⟩
      have z0 : W0.heap.size = wr.heap.size + 1 := by rw [← hW0]; simp
      have b0 : Below wr.heap.size wr W0 := by rw [← hW0]; exact (Below.refl _ wr).alloc (Nat.le_refl _) _
      have y0 : W0.heap[wr.heap.size]? = some (.cells (arrS x kx) 61 (0, 0)) := by rw [← hW0]; exact heap_alloc_new wr _
      unfold arrS at hW0
      rw [hW0]
      have B0 := Lib.hid b0
      have Y0 := Lib.hid y0
      clear hW0 b0 y0 r0 r1 r2 r3 r4 r5 r6 r7 r8 r9 r10
      refine (cpExpr_one n x.index _ _ _ D _ (HI1.out.later (Stand.of_below B0.out HDW.out)) (fun j hj => by have := HDW.out j hj; have := B0.out.size; omega) HSX.out.1).mono ?_
      rintro f w1 ⟨c0, c1, c2, rfl, hE1, hb1⟩
      obtain ⟨ia, ic, rfl, rfl, rfl, _, _⟩ := hE1.shape
      have z1 := hb1.size
      have y1 := (hb1.block wr.heap.size (by omega)).trans Y0.out
      have q0 := cell_at y1 0
      have g0 := frozen_at y1 0
      have q1 := cell_at y1 1
      have g1 := frozen_at y1 1
      have q2 := cell_at y1 2
      have g2 := frozen_at y1 2
      have q3 := cell_at y1 3
      have g3 := frozen_at y1 3
      have q4 := cell_at y1 4
      have g4 := frozen_at y1 4
      have q5 := cell_at y1 5
      have g5 := frozen_at y1 5
      have q6 := cell_at y1 6
      have g6 := frozen_at y1 6
      have q7 := cell_at y1 7
      have g7 := frozen_at y1 7
      have q8 := cell_at y1 8
      have g8 := frozen_at y1 8
      have q9 := cell_at y1 9
      have g9 := frozen_at y1 9
      have q10 := cell_at y1 10
      have g10 := frozen_at y1 10
      simp only [arrS, List.getElem?_toArray, List.getElem?_cons_zero, List.getElem?_cons_succ] at q0 q1 q2 q3 q4 q5 q6 q7 q8 q9 q10
      have HE1 := Lib.hid hE1
      have HY1 := Lib.hid y1
      have C1 := Lib.hid (B0.out.trans (hb1.mono B0.out.size))
      clear hE1 hb1 y1 B0 Y0
      obtain ⟨W1, hW1⟩ : ∃ W1, put w1 wr.heap.size 2 [.int .i64 x.index.kind, .int .i64 x.index.value, .slice ia x.index.kids.length ic] = W1 := ⟨_, rfl⟩
      have hp1 : (((w1.setCell ⟨wr.heap.size, 2, none⟩ (.int .i64 x.index.kind)).setCell ⟨wr.heap.size, 3, none⟩ (.int .i64 x.index.value)).setCell ⟨wr.heap.size, 4, none⟩ (.slice ia x.index.kids.length ic)) = W1 := hW1
      have y1 : W1.heap[wr.heap.size]? = some (.cells (arrS x ⟨ia, ic, kx.va, kx.vc, kx.ba, kx.bc, kx.ea, kx.ec⟩) 61 (0, 0)) := by
        rw [← hW1]; exact put_row _ _ _ _ _ _ HY1.out
      have zW1 : W1.heap.size = w1.heap.size := by rw [← hW1, put_size]
      have oW1 : ∀ j, j ≠ wr.heap.size → W1.heap[j]? = w1.heap[j]? := fun j h1 => by rw [← hW1, put_other _ _ _ _ _ h1]
      have B1 : Hid (Below wr.heap.size wr W1) := by show Below _ _ _; rw [← hW1]; exact put_below _ _ _ _ _ _ C1.out (Nat.le_refl _)
      have Y1 := Lib.hid y1
      have HE1n := Lib.hid (HE1.out.later fun j hj => oW1 j (by have := hj.1; omega))
      clear y1 oW1 hW1 HY1 C1 HE1
      have HP1 := Lib.hid hp1
      clear hp1
      go_wp2_with fail
      rw [HP1.out]
      clear HP1 q0 q1 q2 q3 q4 q5 q6 q7 q8 q9 q10 g0 g1 g2 g3 g4 g5 g6 g7 g8 g9 g10
      refine (cpExpr_one n x.value _ _ _ D _ (HV1.out.later (Stand.of_below B1.out HDW.out)) (fun j hj => by have := HDW.out j hj; have := B1.out.size; omega) HSX.out.2.1).mono ?_
      rintro f w2 ⟨c0, c1, c2, rfl, hE2, hb2⟩
      obtain ⟨va1, vc1, rfl, rfl, rfl, _, _⟩ := hE2.shape
      have z2 := hb2.size
      have y2 := (hb2.block wr.heap.size (by omega)).trans Y1.out
      have q0 := cell_at y2 0
      have g0 := frozen_at y2 0
      have q1 := cell_at y2 1
      have g1 := frozen_at y2 1
      have q2 := cell_at y2 2
      have g2 := frozen_at y2 2
      have q3 := cell_at y2 3
      have g3 := frozen_at y2 3
      have q4 := cell_at y2 4
      have g4 := frozen_at y2 4
      have q5 := cell_at y2 5
      have g5 := frozen_at y2 5
      have q6 := cell_at y2 6
      have g6 := frozen_at y2 6
      have q7 := cell_at y2 7
      have g7 := frozen_at y2 7
      have q8 := cell_at y2 8
      have g8 := frozen_at y2 8
      have q9 := cell_at y2 9
      have g9 := frozen_at y2 9
      have q10 := cell_at y2 10
      have g10 := frozen_at y2 10
      simp only [arrS, List.getElem?_toArray, List.getElem?_cons_zero, List.getElem?_cons_succ] at q0 q1 q2 q3 q4 q5 q6 q7 q8 q9 q10
      have HE2 := Lib.hid hE2
      have HY2 := Lib.hid y2
      have C2 := Lib.hid (B1.out.trans (hb2.mono B1.out.size))
      have HE1nn := Lib.hid (HE1n.out.later fun j hj => hb2.block j (by have := hj.2; omega))
      clear hE2 hb2 y2 B1 Y1 HE1n
      obtain ⟨W2, hW2⟩ : ∃ W2, put w2 wr.heap.size 5 [.int .i64 x.value.kind, .int .i64 x.value.value, .slice va1 x.value.kids.length vc1] = W2 := ⟨_, rfl⟩
      have hp2 : (((w2.setCell ⟨wr.heap.size, 5, none⟩ (.int .i64 x.value.kind)).setCell ⟨wr.heap.size, 6, none⟩ (.int .i64 x.value.value)).setCell ⟨wr.heap.size, 7, none⟩ (.slice va1 x.value.kids.length vc1)) = W2 := hW2
      have y2 : W2.heap[wr.heap.size]? = some (.cells (arrS x ⟨ia, ic, va1, vc1, kx.ba, kx.bc, kx.ea, kx.ec⟩) 61 (0, 0)) := by
        rw [← hW2]; exact put_row _ _ _ _ _ _ HY2.out
      have zW2 : W2.heap.size = w2.heap.size := by rw [← hW2, put_size]
      have oW2 : ∀ j, j ≠ wr.heap.size → W2.heap[j]? = w2.heap[j]? := fun j h1 => by rw [← hW2, put_other _ _ _ _ _ h1]
      have B2 : Hid (Below wr.heap.size wr W2) := by show Below _ _ _; rw [← hW2]; exact put_below _ _ _ _ _ _ C2.out (Nat.le_refl _)
      have Y2 := Lib.hid y2
      have HE1n := Lib.hid (HE1nn.out.later fun j hj => oW2 j (by have := hj.1; omega))
      have HE2n := Lib.hid (HE2.out.later fun j hj => oW2 j (by have := hj.1; omega))
      clear y2 oW2 hW2 HY2 C2 HE2 HE1nn
      have HP2 := Lib.hid hp2
      clear hp2
      go_wp2_with fail
      rw [HP2.out]
      clear HP2 q0 q1 q2 q3 q4 q5 q6 q7 q8 q9 q10 g0 g1 g2 g3 g4 g5 g6 g7 g8 g9 g10
      refine (IH1.out x.body kx.ba kx.bc D _ HBC.out HBM.out (HBA.out.later (Stand.of_below B2.out HDW.out)) (fun j hj => by have := HDW.out j hj; have := B2.out.size; omega) HSX.out.2.2.1 HSX.out.2.2.2.1).mono ?_
      rintro f w3 ⟨ba, bc, rfl, hba, hbc, hE3, hb3⟩
      have BA1 := Lib.hid hba
      have BC1 := Lib.hid hbc
      clear hba hbc
      have z3 := hb3.size
      have y3 := (hb3.block wr.heap.size (by omega)).trans Y2.out
      have q0 := cell_at y3 0
      have g0 := frozen_at y3 0
      have q1 := cell_at y3 1
      have g1 := frozen_at y3 1
      have q2 := cell_at y3 2
      have g2 := frozen_at y3 2
      have q3 := cell_at y3 3
      have g3 := frozen_at y3 3
      have q4 := cell_at y3 4
      have g4 := frozen_at y3 4
      have q5 := cell_at y3 5
      have g5 := frozen_at y3 5
      have q6 := cell_at y3 6
      have g6 := frozen_at y3 6
      have q7 := cell_at y3 7
      have g7 := frozen_at y3 7
      have q8 := cell_at y3 8
      have g8 := frozen_at y3 8
      have q9 := cell_at y3 9
      have g9 := frozen_at y3 9
      have q10 := cell_at y3 10
      have g10 := frozen_at y3 10
      simp only [arrS, List.getElem?_toArray, List.getElem?_cons_zero, List.getElem?_cons_succ] at q0 q1 q2 q3 q4 q5 q6 q7 q8 q9 q10
      have HE3 := Lib.hid hE3
      have HY3 := Lib.hid y3
      have C3 := Lib.hid (B2.out.trans (hb3.mono B2.out.size))
      have HE1nn := Lib.hid (HE1n.out.later fun j hj => hb3.block j (by have := hj.2; omega))
      have HE2nn := Lib.hid (HE2n.out.later fun j hj => hb3.block j (by have := hj.2; omega))
      clear hE3 hb3 y3 B2 Y2 HE1n HE2n
      obtain ⟨W3, hW3⟩ : ∃ W3, put w3 wr.heap.size 9 [.slice ba x.body.length bc] = W3 := ⟨_, rfl⟩
      have hp3 : (w3.setCell ⟨wr.heap.size, 9, none⟩ (.slice ba x.body.length bc)) = W3 := hW3
      have y3 : W3.heap[wr.heap.size]? = some (.cells (arrS x ⟨ia, ic, va1, vc1, ba, bc, kx.ea, kx.ec⟩) 61 (0, 0)) := by
        rw [← hW3]; exact put_row _ _ _ _ _ _ HY3.out
      have zW3 : W3.heap.size = w3.heap.size := by rw [← hW3, put_size]
      have oW3 : ∀ j, j ≠ wr.heap.size → W3.heap[j]? = w3.heap[j]? := fun j h1 => by rw [← hW3, put_other _ _ _ _ _ h1]
      have B3 : Hid (Below wr.heap.size wr W3) := by show Below _ _ _; rw [← hW3]; exact put_below _ _ _ _ _ _ C3.out (Nat.le_refl _)
      have Y3 := Lib.hid y3
      have HE1n := Lib.hid (HE1nn.out.later fun j hj => oW3 j (by have := hj.1; omega))
      have HE2n := Lib.hid (HE2nn.out.later fun j hj => oW3 j (by have := hj.1; omega))
      have HE3n := Lib.hid (HE3.out.later fun j hj => oW3 j (by have := hj.1; omega))
      clear y3 oW3 hW3 HY3 C3 HE3 HE1nn HE2nn
      have HP3 := Lib.hid hp3
      clear hp3
      go_wp2_with fail
      rw [HP3.out]
      clear HP3 q0 q1 q2 q3 q4 q5 q6 q7 q8 q9 q10 g0 g1 g2 g3 g4 g5 g6 g7 g8 g9 g10
      refine (IH1.out x.els kx.ea kx.ec D _ HEC.out HEM.out (HEA.out.later (Stand.of_below B3.out HDW.out)) (fun j hj => by have := HDW.out j hj; have := B3.out.size; omega) HSX.out.2.2.2.2.1 HSX.out.2.2.2.2.2).mono ?_
      rintro f w4 ⟨ea, ec, rfl, hea, hec, hE4, hb4⟩
      have EA1 := Lib.hid hea
      have EC1 := Lib.hid hec
      clear hea hec
      have z4 := hb4.size
      have y4 := (hb4.block wr.heap.size (by omega)).trans Y3.out
      have q0 := cell_at y4 0
      have g0 := frozen_at y4 0
      have q1 := cell_at y4 1
      have g1 := frozen_at y4 1
      have q2 := cell_at y4 2
      have g2 := frozen_at y4 2
      have q3 := cell_at y4 3
      have g3 := frozen_at y4 3
      have q4 := cell_at y4 4
      have g4 := frozen_at y4 4
      have q5 := cell_at y4 5
      have g5 := frozen_at y4 5
      have q6 := cell_at y4 6
      have g6 := frozen_at y4 6
      have q7 := cell_at y4 7
      have g7 := frozen_at y4 7
      have q8 := cell_at y4 8
      have g8 := frozen_at y4 8
      have q9 := cell_at y4 9
      have g9 := frozen_at y4 9
      have q10 := cell_at y4 10
      have g10 := frozen_at y4 10
      simp only [arrS, List.getElem?_toArray, List.getElem?_cons_zero, List.getElem?_cons_succ] at q0 q1 q2 q3 q4 q5 q6 q7 q8 q9 q10
      have HE4 := Lib.hid hE4
      have HY4 := Lib.hid y4
      have C4 := Lib.hid (B3.out.trans (hb4.mono B3.out.size))
      have HE1nn := Lib.hid (HE1n.out.later fun j hj => hb4.block j (by have := hj.2; omega))
      have HE2nn := Lib.hid (HE2n.out.later fun j hj => hb4.block j (by have := hj.2; omega))
      have HE3nn := Lib.hid (HE3n.out.later fun j hj => hb4.block j (by have := hj.2; omega))
      clear hE4 hb4 y4 B3 Y3 HE1n HE2n HE3n
      obtain ⟨W4, hW4⟩ : ∃ W4, put w4 wr.heap.size 10 [.slice ea x.els.length ec] = W4 := ⟨_, rfl⟩
      have hp4 : (w4.setCell ⟨wr.heap.size, 10, none⟩ (.slice ea x.els.length ec)) = W4 := hW4
      have y4 : W4.heap[wr.heap.size]? = some (.cells (arrS x ⟨ia, ic, va1, vc1, ba, bc, ea, ec⟩) 61 (0, 0)) := by
        rw [← hW4]; exact put_row _ _ _ _ _ _ HY4.out
      have zW4 : W4.heap.size = w4.heap.size := by rw [← hW4, put_size]
      have oW4 : ∀ j, j ≠ wr.heap.size → W4.heap[j]? = w4.heap[j]? := fun j h1 => by rw [← hW4, put_other _ _ _ _ _ h1]
      have B4 : Hid (Below wr.heap.size wr W4) := by show Below _ _ _; rw [← hW4]; exact put_below _ _ _ _ _ _ C4.out (Nat.le_refl _)
      have Y4 := Lib.hid y4
      have HE1n := Lib.hid (HE1nn.out.later fun j hj => oW4 j (by have := hj.1; omega))
      have HE2n := Lib.hid (HE2nn.out.later fun j hj => oW4 j (by have := hj.1; omega))
      have HE3n := Lib.hid (HE3nn.out.later fun j hj => oW4 j (by have := hj.1; omega))
      have HE4n := Lib.hid (HE4.out.later fun j hj => oW4 j (by have := hj.1; omega))
      clear y4 oW4 hW4 HY4 C4
      have hsz4 : (w4.setCell ⟨wr.heap.size, 10, none⟩ (.slice ea x.els.length ec)).heap.size = w4.heap.size := by rw [hp4]; exact zW4
      have hAW : Below w4.heap.size W4 ((w4.setCell ⟨wr.heap.size, 10, none⟩ (.slice ea x.els.length ec)).alloc (.cells (arrS x ⟨ia, ic, va1, vc1, ba, bc, ea, ec⟩) 61)) := by rw [hp4]; exact (Below.refl _ _).alloc (by rw [zW4]; exact Nat.le_refl _) _
      have hNB : ((w4.setCell ⟨wr.heap.size, 10, none⟩ (.slice ea x.els.length ec)).alloc (.cells (arrS x ⟨ia, ic, va1, vc1, ba, bc, ea, ec⟩) 61)).heap[w4.heap.size]? = some (.cells (arrS x ⟨ia, ic, va1, vc1, ba, bc, ea, ec⟩) 61 (0, 0)) := by
        have := heap_alloc_new (w4.setCell ⟨wr.heap.size, 10, none⟩ (.slice ea x.els.length ec)) (.cells (arrS x ⟨ia, ic, va1, vc1, ba, bc, ea, ec⟩) 61)
        rwa [hsz4] at this
      have hzA : ((w4.setCell ⟨wr.heap.size, 10, none⟩ (.slice ea x.els.length ec)).alloc (.cells (arrS x ⟨ia, ic, va1, vc1, ba, bc, ea, ec⟩) 61)).heap.size = w4.heap.size + 1 := by rw [World.size_alloc, hsz4]
      have hBA : Below wr.heap.size wr ((w4.setCell ⟨wr.heap.size, 10, none⟩ (.slice ea x.els.length ec)).alloc (.cells (arrS x ⟨ia, ic, va1, vc1, ba, bc, ea, ec⟩) 61)) := B4.out.trans (hAW.mono (by omega))
      obtain ⟨L, hL1, hL2, hL3⟩ := HROW.out.below hBA
      have hrowlt : ∀ j, (Value.slice va i vc).ownBlock = some j → j < wr.heap.size := fun j hj => by
        obtain ⟨L', _, h2, _⟩ := HROW.out
        have h2' : wr.ownsRow _ _ _ _ _ _ := h2
        exact (h2'.lt j hj).2
      have hin : ∀ {a b : World}, wr.heap.size < a.heap.size → b.heap.size ≤ w4.heap.size → ∀ j, New a b j → Dv ((w4.setCell ⟨wr.heap.size, 10, none⟩ (.slice ea x.els.length ec)).alloc (.cells (arrS x ⟨ia, ic, va1, vc1, ba, bc, ea, ec⟩) 61)) w.heap.size (.slice va i vc) j := fun h1 h2 j hj => ⟨by have := hj.1; omega, by rw [hzA]; have := hj.2; omega, fun e => by have := hrowlt j e; have := hj.1; omega⟩
      have hsd : ∀ {a b : World}, b.heap.size ≤ w4.heap.size → Stand (New a b) W4 ((w4.setCell ⟨wr.heap.size, 10, none⟩ (.slice ea x.els.length ec)).alloc (.cells (arrS x ⟨ia, ic, va1, vc1, ba, bc, ea, ec⟩) 61)) := fun h2 j hj => hAW.block j (by have := hj.2; omega)
      have hxx : IsS ((w4.setCell ⟨wr.heap.size, 10, none⟩ (.slice ea x.els.length ec)).alloc (.cells (arrS x ⟨ia, ic, va1, vc1, ba, bc, ea, ec⟩) 61)) (Dv ((w4.setCell ⟨wr.heap.size, 10, none⟩ (.slice ea x.els.length ec)).alloc (.cells (arrS x ⟨ia, ic, va1, vc1, ba, bc, ea, ec⟩) 61)) w.heap.size (.slice va i vc)) (n + 1) x ⟨ia, ic, va1, vc1, ba, bc, ea, ec⟩ :=
        ⟨HE1n.out.mono (hsd (by omega)) (hin (by omega) (by omega)), HE2n.out.mono (hsd (by omega)) (hin (by omega) (by omega)), BA1.out, BC1.out, HE3n.out.wide (hsd (by omega)) (hin (by omega) (by omega)), EA1.out, EC1.out, HE4n.out.wide (hsd (by omega)) (hin (by omega) (by omega))⟩
      have HXX := Lib.hid hxx
      have HBA2 := Lib.hid hBA
      have HL3 := Lib.hid hL3
      have HHP4 := Lib.hid hp4
      rw [HNN.out] at hL2
      obtain ⟨i0, hinf, hz0, hz1, hz2⟩ := info_parts HI.out
      clear hxx hin hsd hrowlt hBA hAW hL3 hp4 HE1n HE2n HE3n HE4n HE1nn HE2nn HE3nn HE4 B4 Y4
      unfold arrS at hL2 hNB
      go_wp2_with (at_builtin; refine wpList_append_lies _ (by rfl) _ _ 24 (by rfl) w.heap.size 61 i0 _ 11 152 Tryd.underlying24 hinf hz0 hz1 hz2 rfl (by omega) (.slice va i vc) i _ (by rfl) hL2 ⟨w4.heap.size, 0, none⟩ 1 1 _ (by rfl) (by rfl) (World.news_of_block hNB) (by simp [Value.oneCell']) (by omega) (by unfold maxLen; omega) (by omega) (by simp; omega) (w4.heap.size + 1) (by simp) ?_; intro g cp w5 hown5 hgrow hat hlt5)
      have hb5 : Below w.heap.size w w5 := (HBEL.out.trans (HBA2.out.mono (by omega))).trans ((Below.refl w.heap.size _).grown hgrow (by rw [hzA]; omega) (fun k e => (hL2.lt k e).1))
      have HREL : Hid (RowS (n + 1) w5 w.heap.size (.slice (some ⟨g, 0, none⟩) (i + 1) cp) (es ++ [x])) := by
        have hs := RowG.snoc (hRS (n + 1)) (es := es) (v := .slice va i vc) (base := w.heap.size) (x := x) (k := ⟨ia, ic, va1, vc1, ba, bc, ea, ec⟩) hL1 HL3.out HXX.out (by rw [HNN.out]; exact hown5) hgrow (by rcases hat with h | h; exact .inl h; exact .inr (by rw [h, hzA]))
        rw [HNN.out] at hs
        exact hs
      have hlt6 : w.heap.size < w5.heap.size := by have := hgrow.size; rw [hzA] at this; omega
      have HB5 := Lib.hid hb5
      clear hb5 hown5 hgrow hat hL1 hL2 HL3 HXX hNB
      go_wp2_with fail
      go_roundw
      case rel => exact ⟨i + 1, es ++ [x], some ⟨g, 0, none⟩, cp, by omega, by go_num, rfl, by simp; exact HNN.out, HTK.out.symm, HREL.out, HB5.out, hlt6⟩
      case measure => simp [intOf]; omega
    · obtain rfl : i = N := by omega
      have HFIN : Hid (CopyRs n ss w (.returned (.slice va i vc)) wr) := by
        have hek : es = ss := by rw [HET.out]; exact List.take_of_length_le (by rw [HN.out]; exact Nat.le_refl _)
        have hr := HROW.out
        rw [hek] at hr
        exact ⟨va, vc, by rw [HN.out], by rw [HN.out]; exact hr, HBEL.out⟩
      clear H HSM IH
      go_wp2_with fail
      go_ret
      exact HFIN.out

/-- **l2CopyBlock, AT EVERY BLOCK THAT IS NOT TOO BROAD.** -/
theorem cpBlock_one : ∀ (n : Nat) (ss : List S) (a : Option Addr) (cap : Nat) (D : Nat → Prop) (w : World), ss.length ≤ cap → cap ≤ maxLen → SsAt w D (IsS w D n) ss a → (∀ k, D k → k < w.heap.size) → ss.length ≤ 1048576 → (∀ (i : Nat) (x : S), ss[i]? = some x → SmS 1048576 n x) →
      Calls Tryd.prog 77 #[.slice a ss.length cap] w (CopySs n ss w)
  | 0, ss, a, cap, D, w, hc, hm, h, hl, hs, hsm => (cpBlock_of 0 (fun m e => absurd e (by omega)) ss a cap D w hc hm h hl hs hsm).mono fun _ _ h => h.to
  | n + 1, ss, a, cap, D, w, hc, hm, h, hl, hs, hsm => (cpBlock_of (n + 1) (fun m e => by obtain rfl : n = m := (by omega); exact cpBlock_one n) ss a cap D w hc hm h hl hs hsm).mono fun _ _ h => h.to
/-- The same, and the copy is a row of the call's own. -/
theorem cpBlock_row (n : Nat) (ss : List S) (a : Option Addr) (cap : Nat) (D : Nat → Prop) (w : World) (hc : ss.length ≤ cap) (hm : cap ≤ maxLen) (h : SsAt w D (IsS w D n) ss a) (hl : ∀ k, D k → k < w.heap.size) (hs : ss.length ≤ 1048576) (hsm : ∀ (i : Nat) (x : S), ss[i]? = some x → SmS 1048576 n x) :
    Calls Tryd.prog 77 #[.slice a ss.length cap] w (CopyRs n ss w) :=
  cpBlock_of n (fun m _ => cpBlock_one m) ss a cap D w hc hm h hl hs hsm

end Go.Proofs.YtlhdgoindknpfaaDoor

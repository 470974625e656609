/- The model's evaluation of a valid expression on a run's memory: a value from 0 to 255, and a trace that has grown. -/
import Derived.Test.YtgfagdjadmpklaaL3A
import Derived.Deep.RegionHeld3
namespace Go.Proofs.Ytgfagdjadmpklaa
open Go.RowKit
set_option linter.unusedVariables false

/-- A row's value t has become t': nothing else that was there has changed. -/
structure Tra (tb : Nat) (w w' : World) (t t' : Value) : Prop where
  bel : Below tb w w'
  blk : ∀ j, j < w.heap.size → t.ownBlock ≠ some j → w'.heap[j]? = w.heap[j]?
  row : t'.ownBlock = t.ownBlock ∨ ∃ g, t'.ownBlock = some g ∧ w.heap.size ≤ g
theorem Tra.refl (tb : Nat) (w : World) (t : Value) : Tra tb w w t t := ⟨Below.refl _ _, fun _ _ _ => rfl, .inl rfl⟩
theorem Tra.trans {tb : Nat} {w w1 w2 : World} {t t1 t2 : Value} (h : Tra tb w w1 t t1) (k : Tra tb w1 w2 t1 t2) : Tra tb w w2 t t2 := by
  refine ⟨h.bel.trans k.bel, fun j hj hne => ?_, ?_⟩
  · have h1 : t1.ownBlock ≠ some j := by
      rcases h.row with e | ⟨g, e, hg⟩
      · rw [e]; exact hne
      · rw [e]; intro x; cases x; omega
    exact (k.blk j (Nat.lt_of_lt_of_le hj h.bel.size) h1).trans (h.blk j hj hne)
  · rcases k.row with e | ⟨g, e, hg⟩
    · rw [e]; exact h.row
    · exact .inr ⟨g, e, Nat.le_trans h.bel.size hg⟩
theorem Tra.calm {tb : Nat} {w w1 w2 : World} {t t1 : Value} (h : Tra tb w w1 t t1) (k : Below w1.heap.size w1 w2) (htb : tb ≤ w.heap.size) : Tra tb w w2 t t1 :=
  h.trans ⟨k.mono (Nat.le_trans htb h.bel.size), fun j hj _ => k.block j hj, .inl rfl⟩

/-- An evaluation's answer. -/
def EvlR (tb : Nat) (es : List (Int × Int)) (t : Value) (N : Nat) (w : World) (f : Ending) (w' : World) : Prop := ∃ (v : Nat) (ta : Option Addr) (tc : Nat) (es' : List (Int × Int)), f = .returned (.tuple #[.int .i64 (v : Int), .slice ta es'.length tc]) ∧ v ≤ 255 ∧ RowEv w' tb (.slice ta es'.length tc) es' ∧ es'.length ≤ es.length + N ∧ Tra tb w w' t (.slice ta es'.length tc)
theorem hREv : ∀ (w w' : World) (D D' : Nat → Prop) (x : Int × Int) (k : Unit), Stand D w w' → (∀ j, D j → D' j) → (fun (_ : World) (_ : Nat → Prop) (_ : Int × Int) (_ : Unit) => True) w D x k → (fun (_ : World) (_ : Nat → Prop) (_ : Int × Int) (_ : Unit) => True) w' D' x k := fun _ _ _ _ _ _ _ _ h => h
/-- A row lies on where its own block stands. -/
theorem RowEv.stand {w w' : World} {tb : Nat} {v : Value} {es : List (Int × Int)} (h : RowEv w tb v es) (hs : ∀ g, v.ownBlock = some g → g < w.heap.size → w'.heap[g]? = w.heap[g]?) : RowEv w' tb v es := by
  obtain ⟨L, h1, h2, h3⟩ := h
  refine ⟨L, h1, ⟨h2.1, ?_⟩, fun _ _ _ _ _ => trivial⟩
  rcases h2.2 with h | ⟨g, cap, cur, rfl, e2, e3, e4⟩
  · exact .inl h
  · exact .inr ⟨g, cap, cur, rfl, e2, (hs g rfl (Array.getElem?_eq_some_iff.1 e3).1).trans e3, e4⟩
theorem RowEv.lt {w : World} {tb : Nat} {v : Value} {es : List (Int × Int)} (h : RowEv w tb v es) (g : Nat) (hg : v.ownBlock = some g) : tb ≤ g ∧ g < w.heap.size := by
  obtain ⟨L, h1, h2, h3⟩ := h
  exact h2.lt g hg

theorem infoL3I : (Try.prog.info? 3).map (fun i => (i.zero, i.size, i.bytes)) = some (some (.int .i64 0), 1, 8) := by kernel_rfl

theorem infoEv : (Try.prog.info? 92).map (fun i => (i.zero, i.size, i.bytes)) = some (some (.agg #[.int .i64 0, .int .i64 0]), 2, 16) := by kernel_rfl

/-- The state of the loop over the operands. -/
def L3L (w W : World) (tb tn P len : Nat) (t : Value) (tr vs i : Value) (wr : World) : Prop := ∃ (j : Nat) (xs : List Nat) (ta' : Option Addr) (tc' : Nat) (es' : List (Int × Int)) (xa : Option Addr) (xc : Nat),
  tr = .slice ta' es'.length tc' ∧ vs = .slice xa j xc ∧ i = .int .i64 (j : Int) ∧ j ≤ len ∧ xs.length = j ∧ (∀ x ∈ xs, x ≤ 255) ∧ wr.ownsRow (w.heap.size + 2) 3 1 (.slice xa j xc) j (xs.map fun (x : Nat) => Value.int .i64 (x : Int)) ∧ RowEv wr tb (.slice ta' es'.length tc') es' ∧ es'.length ≤ tn + j * P ∧ Tra tb W wr t (.slice ta' es'.length tc') ∧
  (∀ g, (Value.slice xa j xc).ownBlock = some g → (Value.slice ta' es'.length tc').ownBlock ≠ some g)

set_option maxRecDepth 100000 in
set_option maxHeartbeats 8000000 in
theorem l3Eval_succ (nv na d lo hi tb : Nat) (va aa : Option Addr) (vc ac : Nat) (hd : d ≤ 5) (hlo : lo ≤ hi) (hhi : hi ≤ tb) (hnv : nv ≤ 1048576) (hna : na ≤ 2)
    (ih : ∀ (n : Nat) (e : E) (c0 c1 c2 : Value) (D : Nat → Prop) (ta : Option Addr) (tc : Nat) (es : List (Int × Int)) (w : World), IsE w D n e [c0, c1, c2] → (∀ k, D k → k < lo) → RM w lo hi nv na va aa → RowEv w tb (.slice ta es.length tc) es → tb ≤ w.heap.size → es.length ≤ 4398046511104 - 4 ^ d → shapeB nv na d e = true →
      Calls Try.prog 110 #[aggMm va aa nv na vc ac, .agg #[c0, c1, c2], .slice ta es.length tc] w (EvlR tb es (.slice ta es.length tc) (4 ^ d) w))
    (n : Nat) (e : E) (c0 c1 c2 : Value) (D : Nat → Prop) (ta : Option Addr) (tc : Nat) (es : List (Int × Int)) (w : World) (h : IsE w D n e [c0, c1, c2]) (hl : ∀ k, D k → k < lo) (hm : RM w lo hi nv na va aa) (ht : RowEv w tb (.slice ta es.length tc) es) (htb : tb ≤ w.heap.size) (hsz : es.length ≤ 4398046511104 - 4 ^ (d + 1)) (hs : shapeB nv na (d + 1) e = true) :
    Calls Try.prog 110 #[aggMm va aa nv na vc ac, .agg #[c0, c1, c2], .slice ta es.length tc] w (EvlR tb es (.slice ta es.length tc) (4 ^ (d + 1)) w) := by
  cases n with
  | zero => exact h.elim
  | succ n =>
  obtain ⟨a, cap, hcs, hcap, hmx, hat⟩ := h
  cases hcs
  obtain ⟨kd, vv, ks⟩ := e
  dsimp only at hat hcap
  unfold maxLen at hmx
  have hp4 : 4 ^ (d + 1) ≤ 4 ^ 6 := Nat.pow_le_pow_right (by omega) (by omega)
  have hp4' : 4 ^ (d + 1) ≤ 4096 := by simpa using hp4
  have hp1 : 1 ≤ 4 ^ d := Nat.one_le_pow _ _ (by omega)
  have hp5 : 4 ^ (d + 1) = 4 * 4 ^ d := by rw [Nat.pow_succ, Nat.mul_comm]
  obtain ⟨P, hP⟩ : ∃ P, 4 ^ d = P := ⟨_, rfl⟩
  rw [hP] at hp1 hp5 ih
  rw [hp5] at hp4' hsz ⊢
  clear hp4 hp5
  obtain ⟨len, hlen⟩ : ∃ len, ks.length = len := ⟨_, rfl⟩
  obtain ⟨tn, htn⟩ : ∃ tn, es.length = tn := ⟨_, rfl⟩
  have HTN := Lib.hid htn
  have HAT := Lib.hid hat
  have IH := Lib.hid ih
  rw [shapeB, Bool.and_eq_true] at hs
  have HSH : Hid (∀ x ∈ ks, shapeB nv na d x = true) := List.all_eq_true.1 hs.2
  have hnb := hs.1
  unfold nodeB at hnb
  simp only [Bool.and_eq_true, decide_eq_true_iff] at hnb
  obtain ⟨⟨⟨har, hv0⟩, hv1⟩, _⟩ := hnb
  have hle : len ≤ 3 := by have := arity_le kd; omega
  have HLEN := Lib.hid hlen
  rw [hlen] at hcap har
  rw [htn] at hsz
  obtain ⟨W, hW⟩ : ∃ W, (w.alloc (.cells #[.slice va nv vc, .slice aa na ac] 26)).alloc (.cells #[.int .i64 kd, .int .i64 vv, .slice a len cap] 45) = W := ⟨_, rfl⟩
  have hB : Below w.heap.size w W := by rw [← hW]; exact ((Below.refl _ w).alloc (Nat.le_refl _) _).alloc (by simp) _
  have hz : W.heap.size = w.heap.size + 2 := by rw [← hW]; simp
  have e0 : W.heap[w.heap.size]? = some (.cells #[.slice va nv vc, .slice aa na ac] 26 (0, 0)) := by
    rw [← hW]; exact (Below.heap_alloc _ _ _ (by simp)).trans (heap_alloc_new w _)
  have e1 : W.heap[w.heap.size + 1]? = some (.cells #[.int .i64 kd, .int .i64 vv, .slice a len cap] 45 (0, 0)) := by
    have e1 := heap_alloc_new (w.alloc (.cells #[.slice va nv vc, .slice aa na ac] 26)) (.cells #[.int .i64 kd, .int .i64 vv, .slice a len cap] 45)
    rw [World.size_alloc] at e1
    rw [← hW]; exact e1
  have HM : Hid (RM W lo hi nv na va aa) := hm.stand fun b _ hb => hB.block b (by omega)
  have HT : Hid (RowEv W tb (.slice ta tn tc) es) := by
    have := ht.stand (w' := W) fun g _ hg' => hB.block g hg'
    rw [htn] at this; exact this
  have hrw : ∀ g, (Value.slice ta tn tc).ownBlock = some g → g < w.heap.size := fun g hg => by
    have := ht.lt g (by rw [htn]; exact hg)
    exact this.2
  have HTR : Hid (Tra tb w W (.slice ta tn tc) (.slice ta tn tc)) := (Tra.refl tb w _).calm hB htb
  have HRW := Lib.hid hrw
  have HB := Lib.hid hB
  have HW := Lib.hid hW
  have HE0 := Lib.hid e0
  have HE1 := Lib.hid e1
  clear hat ih hs hlen hB hW e0 e1 hm ht hrw htn hP
  show Calls Try.prog 110 #[.agg #[.slice va nv vc, .slice aa na ac], .agg #[.int .i64 kd, .int .i64 vv, .slice a ks.length cap], .slice ta es.length tc] w (EvlR tb es (.slice ta es.length tc) (4 * P) w)
  rw [HTN.out, HLEN.out]
  by_cases h1 : kd = 1
  case pos =>
    subst h1
    obtain ⟨i, rfl⟩ := Int.eq_ofNat_of_zero_le hv0
    have hi : i < 256 := by unfold limit at hv1; simp at hv1; omega
    go_enter Try.func110, Try.ntmps110
    go_wp2_with fail
    rw [HW.out]
    go_ret2
    exact ⟨i, ta, tc, es, by rw [HTN.out]; rfl, by omega, by rw [HTN.out]; exact HT.out, by omega, by rw [HTN.out]; exact HTR.out⟩
  by_cases h2 : kd = 2
  case pos =>
    subst h2
    obtain ⟨i, rfl⟩ := Int.eq_ofNat_of_zero_le hv0
    have hi : i < nv := by unfold limit at hv1; simp at hv1; omega
    obtain ⟨b, o, z, rfl, hb1, hb2, hc, z0, z1, _⟩ := HM.out.vals i hi
    obtain ⟨y, rfl⟩ := Int.eq_ofNat_of_zero_le z0
    rw [← HW.out] at hc
    go_enter Try.func110, Try.ntmps110
    go_wp2_with fail
    rw [HW.out]
    go_ret2
    exact ⟨y, ta, tc, es, by rw [HTN.out]; rfl, by omega, by rw [HTN.out]; exact HT.out, by omega, by rw [HTN.out]; exact HTR.out⟩
  have d1 : (kd == 1) = false := by simpa using h1
  have d2 : (kd == 2) = false := by simpa using h2
  have hk3 : 3 ≤ kd ∧ kd ≤ 11 := by
    unfold arity at har
    by_cases h : 3 ≤ kd ∧ kd ≤ 11
    · exact h
    · rw [if_neg (by omega), if_neg (by omega), if_neg (by omega), if_neg (by omega)] at har; omega
  have HAR := Lib.hid har
  clear har
  go_enter Try.func110, Try.ntmps110
  go_wp2_with fail
  rw [HW.out]
  obtain ⟨W1, hW1⟩ : ∃ W1, W.alloc (.cells #[] 3) = W1 := ⟨_, rfl⟩
  have hB1 : Below W.heap.size W W1 := by rw [← hW1]; exact (Below.refl _ _).alloc (Nat.le_refl _) _
  have hL0 : L3L w W tb tn P len (.slice ta tn tc) (.slice ta tn tc) (.slice (some ⟨w.heap.size + 1 + 1, 0, none⟩) 0 0) (.int .i64 0) W1 := by
    have hmd : W1.ownsRow (w.heap.size + 2) 3 1 (.slice (some ⟨w.heap.size + 1 + 1, 0, none⟩) 0 0) 0 [] := by
      have : (W.alloc (.cells #[] 3)).ownsRow (w.heap.size + 2) 3 1 (.slice (some ⟨W.heap.size, 0, none⟩) 0 0) 0 [] := World.ownsRow_made W #[] 0 (by omega) (by unfold maxLen; omega) rfl
      rw [hz] at this
      rw [← hW1]; exact this
    refine ⟨0, [], ta, tc, es, some ⟨w.heap.size + 1 + 1, 0, none⟩, 0, by rw [HTN.out], rfl, rfl, Nat.zero_le _, rfl, fun x hx => by simp at hx, hmd, ?_, by rw [HTN.out]; omega, ?_, fun g hg e => ?_⟩
    · rw [HTN.out]; exact HT.out.stand fun g _ hg => hB1.block g hg
    · rw [HTN.out]; exact (Tra.refl tb W _).calm hB1 (by omega)
    · cases hg
      have := HRW.out (w.heap.size + 1 + 1) (by rw [← HTN.out]; exact e)
      omega
  have HL0 := Lib.hid hL0
  have HI := Lib.hid infoL3I
  rw [hW1]
  clear hL0 hB1 hW1
  go_loopw [2, 8, 9] (fun tr vs i wr => L3L w W tb tn P len (.slice ta tn tc) tr vs i wr) (fun _ _ i _ => len - (intOf i).toNat)
  case atStart => exact HL0.out
  case round =>
    obtain ⟨j, xs, ta', tc', es', xa, xc, rfl, rfl, rfl, hj, hxl, hxs, hown, hrow, hel, htra, hdis⟩ := hrel
    obtain ⟨tn', htn'⟩ : ∃ n, es'.length = n := ⟨_, rfl⟩
    have HTN' := Lib.hid htn'
    have hsW : W.heap.size ≤ wr.heap.size := htra.bel.size
    have hne : ∀ j, w.heap.size ≤ j → j < W.heap.size → (Value.slice ta tn tc).ownBlock ≠ some j := fun j h1 h2 e => by have := HRW.out j e; omega
    have b0 := (htra.blk w.heap.size (by omega) (hne _ (by omega) (by omega))).trans HE0.out
    have b1 := (htra.blk (w.heap.size + 1) (by omega) (hne _ (by omega) (by omega))).trans HE1.out
    have m0 : wr.cell? ⟨w.heap.size, 0, none⟩ = some (.slice va nv vc) := by rw [cell_at b0]; rfl
    have m1 : wr.cell? ⟨w.heap.size, 1, none⟩ = some (.slice aa na ac) := by rw [cell_at b0]; rfl
    have k0 : wr.cell? ⟨w.heap.size + 1, 0, none⟩ = some (.int .i64 kd) := by rw [cell_at b1]; rfl
    have k1 : wr.cell? ⟨w.heap.size + 1, 1, none⟩ = some (.int .i64 vv) := by rw [cell_at b1]; rfl
    have k2 : wr.cell? ⟨w.heap.size + 1, 2, none⟩ = some (.slice a len cap) := by rw [cell_at b1]; rfl
    have HRMr : Hid (RM wr lo hi nv na va aa) := HM.out.stand fun b _ hb => htra.bel.block b (by omega)
    have HOWN := Lib.hid hown
    have HROW := Lib.hid hrow
    have HTRA := Lib.hid htra
    have HDIS := Lib.hid hdis
    have HEL := Lib.hid hel
    have HXS := Lib.hid hxs
    clear b0 b1 hown hrow htra hdis hel hxs htn'
    rw [HTN'.out]
    by_cases hlt : j < len
    · obtain ⟨x, hx⟩ : ∃ x, ks[j]? = some x := ⟨ks[j]'(by rw [HLEN.out]; exact hlt), List.getElem?_eq_getElem _⟩
      obtain ⟨b, o, c0, c1, c2, rfl, hbl, e0, e1, e2, hE⟩ := HAT.out j x hx
      obtain ⟨xka, xkc, rfl, rfl, rfl, _, _⟩ := hE.shape
      have hst : Stand D w wr := fun i hi => (HTRA.out.bel.block i (by have := hl i hi; omega)).trans (HB.out.block i (by have := hl i hi; omega))
      have r0 := (World.cell?_of_block (w := w) (a := ⟨b, o + j * 3, none⟩) (hst b hbl)).trans e0
      have r1 := (World.cell?_of_block (w := w) (a := ⟨b, o + j * 3 + 1, none⟩) (hst b hbl)).trans e1
      have r2 := (World.cell?_of_block (w := w) (a := ⟨b, o + j * 3 + 2, none⟩) (hst b hbl)).trans e2
      have HE : Hid (IsE wr D n x [.int .i64 x.kind, .int .i64 x.value, .slice xka x.kids.length xkc]) := hE.later hst
      have HSa : Hid (wr.cell? ⟨w.heap.size, 0, none⟩ = some (.slice va nv vc) ∧ wr.cell? ⟨w.heap.size, 1, none⟩ = some (.slice aa na ac) ∧ wr.cell? ⟨w.heap.size + 1, 2, none⟩ = some (.slice (some ⟨b, o, none⟩) len cap) ∧ wr.cell? ⟨b, o + j * 3, none⟩ = some (.int .i64 x.kind) ∧ wr.cell? ⟨b, o + j * 3 + 1, none⟩ = some (.int .i64 x.value) ∧ wr.cell? ⟨b, o + j * 3 + 2, none⟩ = some (.slice xka x.kids.length xkc)) := ⟨m0, m1, k2, r0, r1, r2⟩
      have hjP : j * P ≤ 3 * P := Nat.mul_le_mul_right _ (by omega)
      have HIH : Hid (Calls Try.prog 110 #[aggMm va aa nv na vc ac, .agg #[.int .i64 x.kind, .int .i64 x.value, .slice xka x.kids.length xkc], .slice ta' tn' tc'] wr (EvlR tb es' (.slice ta' tn' tc') P wr)) := by
        have := IH.out n x _ _ _ D ta' tc' es' wr HE.out hl HRMr.out HROW.out (by omega) (by have := HEL.out; omega) (HSH.out x (List.mem_of_getElem? hx))
        rw [HTN'.out] at this; exact this
      have HIHd : Hid (Calls Try.prog 110 #[aggMm va aa nv na vc ac, .agg #[.int .i64 x.kind, .int .i64 x.value, .slice xka x.kids.length xkc], .slice ta' tn' tc'] wr.drew (EvlR tb es' (.slice ta' tn' tc') P wr.drew)) := by
        have := IH.out n x _ _ _ D ta' tc' es' wr.drew (HE.out.later fun _ _ => rfl) hl (HRMr.out.stand fun _ _ _ => rfl) (HROW.out.stand fun _ _ _ => rfl) (by show tb ≤ wr.heap.size; omega) (by have := HEL.out; omega) (HSH.out x (List.mem_of_getElem? hx))
        rw [HTN'.out] at this; exact this
      clear hE hst e0 e1 e2 hx
      have hbwr : b < wr.heap.size := by have := hl b hbl; omega
      have HST5 : Hid (∀ (u v : World) (t' : Value), u.heap = wr.heap → Tra tb u v (.slice ta' tn' tc') t' → v.cell? ⟨w.heap.size, 0, none⟩ = some (.slice va nv vc) ∧ v.cell? ⟨w.heap.size, 1, none⟩ = some (.slice aa na ac) ∧ v.cell? ⟨w.heap.size + 1, 2, none⟩ = some (.slice (some ⟨b, o, none⟩) len cap) ∧ v.cell? ⟨b, o + j * 3, none⟩ = some (.int .i64 x.kind) ∧ v.cell? ⟨b, o + j * 3 + 1, none⟩ = some (.int .i64 x.value) ∧ v.cell? ⟨b, o + j * 3 + 2, none⟩ = some (.slice xka x.kids.length xkc)) := fun u v t' hu ht' => by
        have hnr : ∀ q, w.heap.size ≤ q → q < W.heap.size → (Value.slice ta' tn' tc').ownBlock ≠ some q := fun q h1 h2 => by
          rw [← HTN'.out]
          rcases HTRA.out.row with e | ⟨g, e, hg⟩
          · rw [e]; exact hne q h1 h2
          · rw [e]; intro y; cases y; omega
        have s0 : v.heap[w.heap.size]? = wr.heap[w.heap.size]? := by rw [← hu]; exact ht'.blk _ (by rw [hu]; omega) (hnr _ (by omega) (by omega))
        have s1 : v.heap[w.heap.size + 1]? = wr.heap[w.heap.size + 1]? := by rw [← hu]; exact ht'.blk _ (by rw [hu]; omega) (hnr _ (by omega) (by omega))
        have s2 : v.heap[b]? = wr.heap[b]? := by rw [← hu]; exact ht'.bel.block b (by have := hl b hbl; omega)
        exact ⟨(World.cell?_of_block (w := wr) s0).trans m0, (World.cell?_of_block (w := wr) s0).trans m1, (World.cell?_of_block (w := wr) s1).trans k2, (World.cell?_of_block (w := wr) s2).trans r0, (World.cell?_of_block (w := wr) s2).trans r1, (World.cell?_of_block (w := wr) s2).trans r2⟩
      go_wp2_with fail
      go_region_held3 (fun v => v.cell? ⟨w.heap.size, 0, none⟩ = some (.slice va nv vc) ∧ v.cell? ⟨w.heap.size, 1, none⟩ = some (.slice aa na ac) ∧ v.cell? ⟨w.heap.size + 1, 2, none⟩ = some (.slice (some ⟨b, o, none⟩) len cap) ∧ v.cell? ⟨b, o + j * 3, none⟩ = some (.int .i64 x.kind) ∧ v.cell? ⟨b, o + j * 3 + 1, none⟩ = some (.int .i64 x.value) ∧ v.cell? ⟨b, o + j * 3 + 2, none⟩ = some (.slice xka x.kids.length xkc)) (first | (with_reducible assumption) | (with_reducible exact HSa.out) | exact HSa.out)
        ((go_at_call 110; first
          | (with_reducible refine HIH.out.mono ?_)
          | (with_reducible refine HIHd.out.mono ?_)
          rintro f w5 ⟨y, ta5, tc5, es5, rfl, hy, hrow5, hlen5, htra5⟩
          have hS5 : w5.cell? ⟨w.heap.size, 0, none⟩ = some (.slice va nv vc) ∧ w5.cell? ⟨w.heap.size, 1, none⟩ = some (.slice aa na ac) ∧ w5.cell? ⟨w.heap.size + 1, 2, none⟩ = some (.slice (some ⟨b, o, none⟩) len cap) ∧ w5.cell? ⟨b, o + j * 3, none⟩ = some (.int .i64 x.kind) ∧ w5.cell? ⟨b, o + j * 3 + 1, none⟩ = some (.int .i64 x.value) ∧ w5.cell? ⟨b, o + j * 3 + 2, none⟩ = some (.slice xka x.kids.length xkc) := (by first | exact HST5.out wr w5 _ rfl htra5 | exact HST5.out wr.drew w5 _ rfl htra5)
          have hT5 : Tra tb wr w5 (.slice ta' tn' tc') (.slice ta5 es5.length tc5) := (by first | exact htra5 | exact ⟨(Below.refl _ wr).drew.trans htra5.bel, htra5.blk, htra5.row⟩)))
      all_goals
        have hz5 : wr.heap.size ≤ w5.heap.size := hT5.bel.size
        have hvb : ∀ q, (Value.slice xa j xc).ownBlock = some q → w.heap.size + 2 ≤ q ∧ q < wr.heap.size := fun q hq => HOWN.out.lt q hq
        have hdis5 : ∀ q, (Value.slice xa j xc).ownBlock = some q → (Value.slice ta5 es5.length tc5).ownBlock ≠ some q := fun q hq => by
          have h1 := hvb q hq
          have h2 := HDIS.out q hq
          rw [HTN'.out] at h2
          rcases hT5.row with e | ⟨g, e, hg⟩
          · rw [e]; exact h2
          · rw [e]; intro y; cases y; omega
        have hL2 : (w5.alloc (.cells #[.int .i64 (y : Int)] 3)).ownsRow (w.heap.size + 2) 3 1 (.slice xa j xc) j (xs.map (fun (x : Nat) => Value.int .i64 (x : Int))) := by
          have h0 := HOWN.out
          refine ⟨h0.1, ?_⟩
          rcases h0.2 with h | ⟨g, cp, cur, hv, e2, e3, e4⟩
          · exact .inl h
          · have hgo : (Value.slice xa j xc).ownBlock = some g := by rw [hv]; rfl
            have h1 := hvb g hgo
            have h2 := HDIS.out g hgo
            rw [HTN'.out] at h2
            exact .inr ⟨g, cp, cur, hv, e2, ((Below.heap_alloc _ _ _ (by omega)).trans (hT5.blk g h1.2 h2)).trans e3, e4⟩
        have hNB : (w5.alloc (.cells #[.int .i64 (y : Int)] 3)).heap[w5.heap.size]? = some (.cells #[.int .i64 (y : Int)] 3 (0, 0)) := heap_alloc_new w5 _
        have hTW5 := HTRA.out
        rw [HTN'.out] at hTW5
        have hTW5' := hTW5.trans hT5
        have hjP2 : (j + 1) * P = j * P + P := by rw [Nat.add_mul, Nat.one_mul]
        have hel5 : es5.length ≤ tn + (j + 1) * P := by have h1 := HEL.out; rw [HTN'.out] at h1; rw [HTN'.out] at hlen5; omega
        obtain ⟨tn5, htn5⟩ : ∃ n, es5.length = n := ⟨_, rfl⟩
        obtain ⟨i0, hinf, hz0, hz1, hz2⟩ := info_parts HI.out
        have HTN5 := Lib.hid htn5
        have HEL5 := Lib.hid hel5
        have HROW5 := Lib.hid hrow5
        have HTW5 := Lib.hid hTW5'
        have HD5 := Lib.hid hdis5
        clear hrow5 hlen5 htra5 hS5 hT5 hTW5 hTW5' hdis5 hel5 hjP2 HOWN HDIS HROW HTRA HEL HST5 HSa HIH HIHd htn5
        rw [HTN5.out]
        go_wp2_with (at_builtin; refine wpList_append_lies _ (by rfl) _ _ 23 (by rfl) (w.heap.size + 2) 3 i0 _ 1 8 Try.underlying23 hinf hz0 hz1 hz2 rfl (by omega) (.slice xa j xc) j _ (by rfl) hL2 ⟨w5.heap.size, 0, none⟩ 1 1 _ (by rfl) (by rfl) (World.news_of_block hNB) (by simp [Value.oneCell']) (by omega) (by unfold maxLen; omega) (by omega) (by simp; omega) (w5.heap.size + 1) (by simp) ?_; intro g cp w6 hown6 hgrow hat hlt6)
        have hzA : (w5.alloc (.cells #[.int .i64 (y : Int)] 3)).heap.size = w5.heap.size + 1 := by simp
        have hNEW : Hid (L3L w W tb tn P len (.slice ta tn tc) (.slice ta5 tn5 tc5) (.slice (some ⟨g, 0, none⟩) (j + 1) cp) (.int .i64 ((j : Int) + 1)) w6) := by
          have hblk : ∀ q, q < w5.heap.size → (Value.slice xa j xc).ownBlock ≠ some q → w6.heap[q]? = w5.heap[q]? := fun q hq hne => (hgrow.block q (by omega) (fun e => hne e.symm)).trans (Below.heap_alloc _ _ _ hq)
          refine ⟨j + 1, xs ++ [y], ta5, tc5, es5, some ⟨g, 0, none⟩, cp, by rw [HTN5.out], rfl, by go_num, by omega, by simp [hxl], ?_, ?_, ?_, HEL5.out, ?_, ?_⟩
          · intro q hq
            rcases List.mem_append.1 hq with hq | hq
            · exact HXS.out q hq
            · simp at hq; omega
          · rw [List.map_append]; exact hown6
          · exact HROW5.out.stand fun q hq hlt => hblk q hlt fun e => HD5.out q e hq
          · refine ⟨HTW5.out.bel.trans (((Below.refl tb w5).alloc (by omega) _).trans ((Below.refl tb _).grown hgrow (by omega) (fun q e => by have := (hL2.lt q e).1; omega))), fun q hq hne => (hblk q (by omega) fun e => by have := (hvb q e).1; omega).trans (HTW5.out.blk q hq hne), HTW5.out.row⟩
          · intro q hq
            cases hq
            rcases hat with h | h
            · exact HD5.out g h
            · intro e
              have := (HROW5.out.lt g e).2
              omega
        clear hown6 hgrow hat hlt6 hL2 hNB hzA HTW5 HD5 HROW5 HEL5
        go_wp2_with fail
        go_roundw
        case rel => exact hNEW.out
        case measure => simp [intOf]; omega
    · have hjl : j = len := by omega
      subst hjl
      have hpos : 1 ≤ j := by
        have := HAR.out
        unfold arity at this
        by_cases e3 : kd = 3
        · rw [if_neg (by omega), if_pos e3] at this; omega
        · by_cases e11 : kd = 11
          · rw [if_neg (by omega), if_neg e3, if_neg (by omega), if_pos e11] at this; omega
          · rw [if_neg (by omega), if_neg e3, if_pos (by omega)] at this; omega
      obtain ⟨g, rfl⟩ : ∃ g, xa = some ⟨g, 0, none⟩ := by
        rcases HOWN.out.2 with ⟨e, _⟩ | ⟨g, cp, cur, hv, _⟩
        · cases e; omega
        · cases hv; exact ⟨g, rfl⟩
      have hval : ∀ q, q < j → ∃ v : Nat, v ≤ 255 ∧ xs[q]? = some v ∧ wr.cell? ⟨g, q, none⟩ = some (.int .i64 (v : Int)) := fun q hq => by
        have h1 : q < xs.length := by omega
        refine ⟨xs[q], HXS.out _ (List.getElem_mem _), List.getElem?_eq_getElem h1, ?_⟩
        have := World.ownsRow.cellAt HOWN.out q (by simpa using hq)
        rw [this]
        simp [h1]
      have HVAL := Lib.hid hval
      have hjP : (j : Nat) * P ≤ 3 * P := Nat.mul_le_mul_right _ (by omega)
      have hew : es'.length ≤ tn + 4 * P := by have := HEL.out; omega
      have htra' : Tra tb w wr (.slice ta tn tc) (.slice ta' tn' tc') := by have := HTR.out.trans HTRA.out; rw [HTN'.out] at this; exact this
      have HTRw := Lib.hid htra'
      have HEW := Lib.hid hew
      clear hval htra' hew
      by_cases h3 : kd = 3
      · subst h3
        obtain rfl : j = 1 := by have := HAR.out; unfold arity at this; simp at this; omega
        obtain ⟨i, rfl⟩ := Int.eq_ofNat_of_zero_le hv0
        have hi : i < na := by unfold limit at hv1; simp at hv1; omega
        obtain ⟨v0, hv0', _, c0⟩ := HVAL.out 0 (by omega)
        obtain ⟨ba, oa, a4, c4, rfl, hba1, hba2, hca, hc4, hc4', hri⟩ := HRMr.out.arrs i hi
        obtain ⟨q4, hq4⟩ : ∃ q, v0 % 4 = q := ⟨_, rfl⟩
        have hq4' : q4 < 4 := by omega
        have hqi : (v0 : Int) % 4 = (q4 : Int) := by omega
        have hqt : (v0 : Int).tmod 4 = (q4 : Int) := by rw [Int.tmod_eq_emod_of_nonneg (by omega)]; exact hqi
        have hq4i : (q4 : Int) < 4 := by omega
        have hq4j : (0 : Int) ≤ (q4 : Int) := by omega
        obtain ⟨b4, o4, z', rfl, hb41, hb42, hcz, hz0', hz1', _⟩ := hri q4 hq4'
        obtain ⟨z, rfl⟩ := Int.eq_ofNat_of_zero_le hz0'
        obtain ⟨i0, hinf, hz0, hz1, hz2⟩ := info_parts infoEv
        have HSc : Hid (wr.cell? ⟨w.heap.size, 1, none⟩ = some (.slice (some ⟨ba, oa, none⟩) na ac) ∧ wr.cell? ⟨w.heap.size + 1, 1, none⟩ = some (.int .i64 (i : Int)) ∧ wr.cell? ⟨g, 0, none⟩ = some (.int .i64 (v0 : Int)) ∧ wr.cell? ⟨ba, oa + i, none⟩ = some (.slice (some ⟨b4, o4, none⟩) 4 c4) ∧ wr.cell? ⟨b4, o4 + q4, none⟩ = some (.int .i64 (z : Int))) := ⟨m1, k1, c0, hca, hcz⟩
        have hgW : w.heap.size + 2 ≤ g ∧ g < wr.heap.size := HOWN.out.lt g rfl
        have hgd : (Value.slice ta' tn' tc').ownBlock ≠ some g := by have := HDIS.out g rfl; rw [HTN'.out] at this; exact this
        have hnr : ∀ q, w.heap.size ≤ q → q < W.heap.size → (Value.slice ta' tn' tc').ownBlock ≠ some q := fun q h1 h2 => by
          have := HTRA.out.row
          rw [HTN'.out] at this
          rcases this with e | ⟨g', e, hg'⟩
          · rw [e]; exact hne q h1 h2
          · rw [e]; intro y; cases y; omega
        have hrl : ∀ q, (Value.slice ta' tn' tc').ownBlock = some q → tb ≤ q := fun q h => by
          rw [← HTN'.out] at h
          exact (HROW.out.lt q h).1
        have HHOLD : Hid (∀ v : World, (∀ q, q < wr.heap.size → (Value.slice ta' tn' tc').ownBlock ≠ some q → v.heap[q]? = wr.heap[q]?) → v.cell? ⟨w.heap.size, 1, none⟩ = some (.slice (some ⟨ba, oa, none⟩) na ac) ∧ v.cell? ⟨w.heap.size + 1, 1, none⟩ = some (.int .i64 (i : Int)) ∧ v.cell? ⟨g, 0, none⟩ = some (.int .i64 (v0 : Int)) ∧ v.cell? ⟨ba, oa + i, none⟩ = some (.slice (some ⟨b4, o4, none⟩) 4 c4) ∧ v.cell? ⟨b4, o4 + q4, none⟩ = some (.int .i64 (z : Int))) := fun v hv => by
          have s0 := hv w.heap.size (by omega) (hnr _ (by omega) (by omega))
          have s1 := hv (w.heap.size + 1) (by omega) (hnr _ (by omega) (by omega))
          have s2 := hv g hgW.2 hgd
          have s3 := hv ba (by omega) (fun e => by have := hrl _ e; omega)
          have s4 := hv b4 (by omega) (fun e => by have := hrl _ e; omega)
          exact ⟨(World.cell?_of_block (w := wr) s0).trans m1, (World.cell?_of_block (w := wr) s1).trans k1, (World.cell?_of_block (w := wr) s2).trans c0, (World.cell?_of_block (w := wr) s3).trans hca, (World.cell?_of_block (w := wr) s4).trans hcz⟩
        have HSd : Hid (∀ o, ((wr.alloc o).drew).cell? ⟨w.heap.size, 1, none⟩ = some (.slice (some ⟨ba, oa, none⟩) na ac) ∧ ((wr.alloc o).drew).cell? ⟨w.heap.size + 1, 1, none⟩ = some (.int .i64 (i : Int)) ∧ ((wr.alloc o).drew).cell? ⟨g, 0, none⟩ = some (.int .i64 (v0 : Int)) ∧ ((wr.alloc o).drew).cell? ⟨ba, oa + i, none⟩ = some (.slice (some ⟨b4, o4, none⟩) 4 c4) ∧ ((wr.alloc o).drew).cell? ⟨b4, o4 + q4, none⟩ = some (.int .i64 (z : Int))) := fun o => HHOLD.out _ fun q hq _ => Below.heap_alloc wr o q hq
        have HLR : Hid (∀ o, ((wr.alloc o).drew).ownsRow tb 92 2 (.slice ta' tn' tc') tn' (cellsL (fun (x : Int × Int) (_ : Unit) => [.int .i64 x.1, .int .i64 x.2]) es' (List.replicate tn' ()))) := fun o => by
          have h := HROW.out
          obtain ⟨L, h1, h2, h3⟩ := h
          have hL : L = List.replicate tn' () := by
            apply List.ext_getElem?
            intro i
            by_cases hi : i < tn'
            · rw [List.getElem?_replicate, if_pos hi, List.getElem?_eq_getElem (by rw [h1, HTN'.out]; exact hi)]
            · rw [List.getElem?_replicate, if_neg hi, List.getElem?_eq_none (by rw [h1, HTN'.out]; omega)]
          rw [hL, HTN'.out] at h2
          refine ⟨h2.1, ?_⟩
          rcases h2.2 with h | ⟨g', cp, cur, hv, e2, e3, e4⟩
          · exact .inl h
          · exact .inr ⟨g', cp, cur, hv, e2, (Below.heap_alloc wr o _ (Array.getElem?_eq_some_iff.1 e3).1).trans e3, e4⟩
        have HAD := Lib.hid (l3Address_one i v0 wr (by omega) hv0')
        have HADd := Lib.hid (l3Address_one i v0 wr.drew (by omega) hv0')
        have htn'2 : tn' ≤ tn + P := by have := HEL.out; rw [HTN'.out] at this; omega
        go_wp2_with fail
        go_region_held3 (fun v => v.cell? ⟨w.heap.size, 1, none⟩ = some (.slice (some ⟨ba, oa, none⟩) na ac) ∧ v.cell? ⟨w.heap.size + 1, 1, none⟩ = some (.int .i64 (i : Int)) ∧ v.cell? ⟨g, 0, none⟩ = some (.int .i64 (v0 : Int)) ∧ v.cell? ⟨ba, oa + i, none⟩ = some (.slice (some ⟨b4, o4, none⟩) 4 c4) ∧ v.cell? ⟨b4, o4 + q4, none⟩ = some (.int .i64 (z : Int))) (first | (with_reducible assumption) | (with_reducible exact HSc.out) | (with_reducible exact HSd.out _) | exact HSc.out)
          (first
          | (go_at_call 111
             first
             | (with_reducible refine HAD.out.mono ?_)
             | (with_reducible refine HADd.out.mono ?_)
             rintro f w5 ⟨⟨ad, rfl⟩, rfl⟩)
          | (refine step_append_lies _ (by rfl) _ _ _ (by rfl) tb 92 i0 _ 2 16 Try.underlying33 hinf hz0 hz1 hz2 rfl (by omega) (.slice ta' tn' tc') tn' _ (by rfl) (HLR.out _) ⟨wr.heap.size, 0, none⟩ 1 1 [.int .i64 2, .int .i64 ad] (by rfl) (by rfl) (World.news_of_block (cs := #[.int .i64 2, .int .i64 ad]) (t := 92) (fr := (0, 0)) (heap_alloc_new wr _)) (by simp [Value.oneCell']) (by omega) (by unfold maxLen; omega) (by omega) (by show tb ≤ (wr.alloc _).heap.size; simp; omega) (wr.heap.size + 1) (by show (wr.alloc _).heap.size = _; simp) ?_
             intro g5 cp w6 hown6 hgrow hat hlt6
             have hblk : ∀ q, q < wr.heap.size → (Value.slice ta' tn' tc').ownBlock ≠ some q → w6.heap[q]? = wr.heap[q]? := (fun q hq hne => (hgrow.block q (by show q < (wr.alloc _).heap.size; simp; omega) (fun e => hne e.symm)).trans (Below.heap_alloc wr _ q hq))
             have hS6 : w6.cell? ⟨w.heap.size, 1, none⟩ = some (.slice (some ⟨ba, oa, none⟩) na ac) ∧ w6.cell? ⟨w.heap.size + 1, 1, none⟩ = some (.int .i64 (i : Int)) ∧ w6.cell? ⟨g, 0, none⟩ = some (.int .i64 (v0 : Int)) ∧ w6.cell? ⟨ba, oa + i, none⟩ = some (.slice (some ⟨b4, o4, none⟩) 4 c4) ∧ w6.cell? ⟨b4, o4 + q4, none⟩ = some (.int .i64 (z : Int)) := HHOLD.out w6 hblk)
          | fail)
        all_goals
          have hNEW : Hid (EvlR tb es (.slice ta tn tc) (4 * P) w (.returned (.tuple #[.int .i64 (z : Int), .slice (some ⟨g5, 0, none⟩) (tn' + 1) cp])) w6) := by
            have hl1 : (es' ++ [((2 : Int), ad)]).length = tn' + 1 := by rw [List.length_append, HTN'.out]; rfl
            have htr : Tra tb wr w6 (.slice ta' tn' tc') (.slice (some ⟨g5, 0, none⟩) (tn' + 1) cp) := by
              refine ⟨((Below.refl tb wr).alloc (by omega) _).drew.trans ((Below.refl tb _).grown hgrow (by show tb ≤ (wr.alloc _).heap.size; simp; omega) (fun q e => hrl q e)), hblk, ?_⟩
              rcases hat with h | h
              · exact .inl h.symm
              · exact .inr ⟨g5, rfl, by omega⟩
            refine ⟨z, some ⟨g5, 0, none⟩, cp, es' ++ [(2, ad)], by rw [hl1], by omega, ?_, by rw [hl1, HTN.out]; omega, by rw [hl1]; exact HTRw.out.trans htr⟩
            refine ⟨List.replicate tn' () ++ [()], by rw [hl1]; simp, ?_, fun _ _ _ _ _ => trivial⟩
            rw [cellsL_snoc _ _ _ _ (by rw [List.length_replicate, HTN'.out]), hl1]
            exact hown6
          clear hown6 hgrow hat hlt6 hblk hS6
          go_wp2_with fail
          go_ret2
          exact hNEW.out
      have d3 : (kd == 3) = false := by simpa using h3
      by_cases h11 : kd = 11
      case pos =>
        subst h11
        obtain rfl : j = 3 := by have := HAR.out; unfold arity at this; simp at this; omega
        obtain ⟨v0, hv0', _, c0⟩ := HVAL.out 0 (by omega)
        obtain ⟨v1, hv1', _, c1⟩ := HVAL.out 1 (by omega)
        obtain ⟨v2, hv2', _, c2⟩ := HVAL.out 2 (by omega)
        by_cases hz0 : v0 = 0
        · subst hz0
          have hne0 : (((0 : Nat) : Int) != 0) = false := rfl
          go_wp2_with fail
          go_ret2
          exact ⟨v2, ta', tc', es', by rw [HTN'.out]; rfl, hv2', HROW.out, by have := HEW.out; rw [HTN.out]; omega, by rw [HTN'.out]; exact HTRw.out⟩
        · have hne0 : ((v0 : Int) != 0) = true := by simp; omega
          go_wp2_with fail
          go_ret2
          exact ⟨v1, ta', tc', es', by rw [HTN'.out]; rfl, hv1', HROW.out, by have := HEW.out; rw [HTN.out]; omega, by rw [HTN'.out]; exact HTRw.out⟩
      have d11 : (kd == 11) = false := by simpa using h11
      obtain rfl : j = 2 := by
        have := HAR.out
        unfold arity at this
        rw [if_neg (by omega), if_neg h3, if_pos (by omega)] at this
        omega
      obtain ⟨v0, hv0', _, c0⟩ := HVAL.out 0 (by omega)
      obtain ⟨v1, hv1', _, c1⟩ := HVAL.out 1 (by omega)
      have HBN := Lib.hid (l3Bin_one kd v0 v1 wr (by omega) hv0' hv1')
      have HBNd := Lib.hid (l3Bin_one kd v0 v1 wr.drew (by omega) hv0' hv1')
      have HSb : Hid (wr.cell? ⟨w.heap.size + 1, 0, none⟩ = some (.int .i64 kd) ∧ wr.cell? ⟨g, 0, none⟩ = some (.int .i64 (v0 : Int)) ∧ wr.cell? ⟨g, 1, none⟩ = some (.int .i64 (v1 : Int))) := ⟨k0, c0, c1⟩
      have HTRd : Hid (Tra tb w wr.drew (.slice ta tn tc) (.slice ta' tn' tc')) := ⟨HTRw.out.bel.drew, HTRw.out.blk, HTRw.out.row⟩
      have HROWd : Hid (RowEv wr.drew tb (.slice ta' es'.length tc') es') := HROW.out.stand fun _ _ _ => rfl
      go_wp2_with fail
      go_region_held3 (fun v => v.cell? ⟨w.heap.size + 1, 0, none⟩ = some (.int .i64 kd) ∧ v.cell? ⟨g, 0, none⟩ = some (.int .i64 (v0 : Int)) ∧ v.cell? ⟨g, 1, none⟩ = some (.int .i64 (v1 : Int))) (first | (with_reducible assumption) | (with_reducible exact HSb.out) | exact HSb.out)
        ((go_at_call 118; first
          | (with_reducible refine HBN.out.mono ?_)
          | (with_reducible refine HBNd.out.mono ?_)
          rintro f w5 ⟨y, rfl, hy, hw5⟩
          have hS5 : w5.cell? ⟨w.heap.size + 1, 0, none⟩ = some (.int .i64 kd) ∧ w5.cell? ⟨g, 0, none⟩ = some (.int .i64 (v0 : Int)) ∧ w5.cell? ⟨g, 1, none⟩ = some (.int .i64 (v1 : Int)) := (by rw [hw5]; exact HSb.out)
          have hT5 : Tra tb w w5 (.slice ta tn tc) (.slice ta' tn' tc') := (by first | (rw [hw5]; exact HTRd.out) | (rw [hw5]; exact HTRw.out))
          have hR5 : RowEv w5 tb (.slice ta' es'.length tc') es' := (by first | (rw [hw5]; exact HROWd.out) | (rw [hw5]; exact HROW.out))))
      all_goals
        have HT5 := Lib.hid hT5
        have HR5 := Lib.hid hR5
        clear hw5 hS5 hT5 hR5
        go_wp2_with fail
        go_ret2
        exact ⟨y, ta', tc', es', by rw [HTN'.out]; rfl, hy, by first | exact HR5.out | exact HROWd.out, by have := HEW.out; rw [HTN.out]; omega, by rw [HTN'.out]; first | exact HT5.out | exact HTRd.out⟩

/-- **l3Eval, AT EVERY EXPRESSION OF GOOD SHAPE.** -/
theorem l3Eval_one (nv na lo hi tb : Nat) (va aa : Option Addr) (vc ac : Nat) (hlo : lo ≤ hi) (hhi : hi ≤ tb) (hnv : nv ≤ 1048576) (hna : na ≤ 2) : ∀ (d : Nat), d ≤ 6 → ∀ (n : Nat) (e : E) (c0 c1 c2 : Value) (D : Nat → Prop) (ta : Option Addr) (tc : Nat) (es : List (Int × Int)) (w : World), IsE w D n e [c0, c1, c2] → (∀ k, D k → k < lo) → RM w lo hi nv na va aa → RowEv w tb (.slice ta es.length tc) es → tb ≤ w.heap.size → es.length ≤ 4398046511104 - 4 ^ d → shapeB nv na d e = true →
      Calls Try.prog 110 #[aggMm va aa nv na vc ac, .agg #[c0, c1, c2], .slice ta es.length tc] w (EvlR tb es (.slice ta es.length tc) (4 ^ d) w)
  | 0, _, n, e, c0, c1, c2, D, ta, tc, es, w, h, _, _, _, _, _, hs => by simp [shapeB] at hs
  | d + 1, hd, n, e, c0, c1, c2, D, ta, tc, es, w, h, hl, hm, ht, htb, hsz, hs => l3Eval_succ nv na d lo hi tb va aa vc ac (by omega) hlo hhi hnv hna (l3Eval_one nv na lo hi tb va aa vc ac hlo hhi hnv hna d (by omega)) n e c0 c1 c2 D ta tc es w h hl hm ht htb hsz hs

end Go.Proofs.Ytgfagdjadmpklaa

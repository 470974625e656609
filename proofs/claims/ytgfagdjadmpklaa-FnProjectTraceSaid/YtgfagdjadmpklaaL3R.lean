/- The model's run of a valid block on a memory that it may change. -/
import Derived.Test.YtgfagdjadmpklaaL3S
namespace Go.Proofs.Ytgfagdjadmpklaa
open Go.RowKit
set_option linter.unusedVariables false

/-- The state of the loop over the statements. -/
def L3Q (lo hi tb nv na : Nat) (va aa : Option Addr) (W : World) (tn Q len : Nat) (ss : List S) (t : Value) (tr i : Value) (wr : World) : Prop := ∃ (j : Nat) (ta' : Option Addr) (tc' : Nat) (es' : List (Int × Int)),
  tr = .slice ta' es'.length tc' ∧ i = .int .i64 (j : Int) ∧ j ≤ len ∧ RowEv wr tb (.slice ta' es'.length tc') es' ∧ es'.length ≤ tn + 3 * Q * cntSs (ss.take j) ∧ RM wr lo hi nv na va aa ∧ TrM lo hi W wr t (.slice ta' es'.length tc')

theorem bnd1 {e tn Q c0 cx own : Nat} (h : e ≤ tn + 3 * Q * c0) (ho : own ≤ 3 * Q * cx) : e + own ≤ tn + 3 * Q * (c0 + cx) := by
  rw [Nat.mul_add]; omega
theorem bnd2 {Q cx own : Nat} (ho : own ≤ 3 * Q) (hx : 1 ≤ cx) : own ≤ 3 * Q * cx := Nat.le_trans ho (Nat.le_mul_of_pos_right _ hx)

theorem bnd3 {e tn Q c0 cx cb ce own : Nat} (h : e ≤ tn + 3 * Q * c0 + own) (ho : own ≤ Q) (hx : cx = 1 + cb + ce) : e + Q * cb ≤ tn + 3 * Q * (c0 + cx) ∧ e + Q * ce ≤ tn + 3 * Q * (c0 + cx) ∧ e + 3 * (Q * cb) ≤ tn + 3 * Q * (c0 + cx) := by
  subst hx
  simp only [Nat.mul_add, Nat.mul_assoc, Nat.mul_one] at *
  generalize Q * cb = X at *
  generalize Q * ce = Y at *
  generalize Q * c0 = Z at *
  omega

/-- The state of the loop of a repetition. -/
def L3N (lo hi tb nv na : Nat) (va aa : Option Addr) (vc ac mb sb : Nat) (x : S) (k : SC) (W : World) (t : Value) (tn' X C : Nat) (tr i : Value) (wr : World) : Prop := ∃ (q : Nat) (ta2 : Option Addr) (tc2 : Nat) (es2 : List (Int × Int)),
  tr = .slice ta2 es2.length tc2 ∧ i = .int .i64 (q : Int) ∧ q ≤ C ∧ es2.length ≤ tn' + q * X ∧ RSt lo hi tb nv na va aa vc ac mb sb x k W t (.slice ta2 es2.length tc2) es2 wr

/-- An event has been appended to the trace. -/
theorem ev_grown {w w6 : World} {tb tn g cp : Nat} {a : Option Addr} {tc : Nat} {es : List (Int × Int)} {p q : Int} {o : Obj} (hr : RowEv w tb (.slice a tn tc) es) (hl : es.length = tn) (htb : tb ≤ w.heap.size)
    (hown : w6.ownsRow tb 92 2 (.slice (some ⟨g, 0, none⟩) (tn + 1) cp) (tn + 1) (cellsL (fun (x : Int × Int) (_ : Unit) => [.int .i64 x.1, .int .i64 x.2]) es (List.replicate tn ()) ++ [.int .i64 p, .int .i64 q])) (hg : (w.alloc o).grownBy w6 (Value.slice a tn tc).ownBlock) (hat : (Value.slice a tn tc).ownBlock = some g ∨ g = w.heap.size + 1) :
    RowEv w6 tb (.slice (some ⟨g, 0, none⟩) (es ++ [(p, q)]).length cp) (es ++ [(p, q)]) ∧ Tra tb w w6 (.slice a tn tc) (.slice (some ⟨g, 0, none⟩) (es ++ [(p, q)]).length cp) := by
  have hl1 : (es ++ [(p, q)]).length = tn + 1 := by rw [List.length_append, hl]; rfl
  have hblk : ∀ j, j < w.heap.size → (Value.slice a tn tc).ownBlock ≠ some j → w6.heap[j]? = w.heap[j]? := fun j hj hne => (hg.block j (by simp; omega) (fun e => hne e.symm)).trans (Below.heap_alloc w o j hj)
  rw [hl1]
  refine ⟨⟨List.replicate tn () ++ [()], by rw [hl1]; simp, ?_, fun _ _ _ _ _ => trivial⟩, ((Below.refl tb w).alloc htb o).trans ((Below.refl tb _).grown hg (by simp; omega) (fun j e => (hr.lt j e).1)), hblk, ?_⟩
  · rw [cellsL_snoc _ _ _ _ (by rw [List.length_replicate, hl]), hl1]
    exact hown
  · rcases hat with h | h
    · exact .inl h.symm
    · exact .inr ⟨g, rfl, by omega⟩
/-- The trace's row with a new block behind it. -/
theorem RowEv.cells {w : World} {tb tn : Nat} {a : Option Addr} {tc : Nat} {es : List (Int × Int)} (hr : RowEv w tb (.slice a tn tc) es) (hl : es.length = tn) (o : Obj) : (w.alloc o).ownsRow tb 92 2 (.slice a tn tc) tn (cellsL (fun (x : Int × Int) (_ : Unit) => [.int .i64 x.1, .int .i64 x.2]) es (List.replicate tn ())) := by
  obtain ⟨L, h1, h2, h3⟩ := hr
  have hL : L = List.replicate tn () := by
    apply List.ext_getElem?
    intro i
    by_cases hi : i < tn
    · rw [List.getElem?_replicate, if_pos hi, List.getElem?_eq_getElem (by rw [h1, hl]; exact hi)]
    · rw [List.getElem?_replicate, if_neg hi, List.getElem?_eq_none (by rw [h1, hl]; omega)]
  rw [hL, hl] at h2
  refine ⟨h2.1, ?_⟩
  rcases h2.2 with h | ⟨g', cp, cur, hv, e2, e3, e4⟩
  · exact .inl h
  · exact .inr ⟨g', cp, cur, hv, e2, (Below.heap_alloc w o _ (Array.getElem?_eq_some_iff.1 e3).1).trans e3, e4⟩

/-- The nil trace. -/
theorem rowEv_nil (w : World) (tb : Nat) : RowEv w tb (.slice none ([] : List (Int × Int)).length 0) [] := ⟨[], rfl, World.ownsRow_nil w tb _ _, fun _ _ _ _ _ => trivial⟩
/-- Beside the trace another one has been grown from nil. -/
theorem RSt.beside {lo hi tb nv na : Nat} {va aa : Option Addr} {vc ac mb sb : Nat} {s : S} {k : SC} {W : World} {t tr t2 : Value} {es' : List (Int × Int)} {u v : World} (h : RSt lo hi tb nv na va aa vc ac mb sb s k W t tr es' u) (ht : Tra tb u v (.slice none 0 0) t2) : RSt lo hi tb nv na va aa vc ac mb sb s k W t tr es' v := by
  have hall : ∀ j, j < u.heap.size → v.heap[j]? = u.heap[j]? := fun j hj => ht.blk j hj (by intro e; cases e)
  have hth := h.htb
  have hhi := h.hhi
  have hlo := h.hlo
  exact h.run (h.rm.stand fun b _ hb => hall b (by omega)) (h.row.stand fun g _ hg => hall g hg) ⟨ht.bel.mono (by omega), fun j hj _ _ => hall j hj, .inl rfl⟩

theorem cntSs_snoc (ss : List S) (k : Nat) (x : S) (h : ss[k]? = some x) : cntSs (ss.take (k + 1)) = cntSs (ss.take k) + cntS x := by
  induction ss generalizing k with
  | nil => simp at h
  | cons y ys ih =>
    cases k with
    | zero => simp at h; subst h; simp [cntSs]
    | succ k => simp at h; simp only [List.take_succ_cons, cntSs]; rw [ih k h]; omega

set_option maxRecDepth 100000 in
set_option maxHeartbeats 16000000 in
theorem l3Run_succ (nv na d lo hi tb Q : Nat) (va aa : Option Addr) (vc ac : Nat) (hQ : 1100 ≤ Q) (hlo : lo ≤ hi) (hhi : hi ≤ tb) (hnv : nv ≤ 1048576) (hna : na ≤ 2)
    (ih : ∀ (n : Nat) (ss : List S) (sa : Option Addr) (sc : Nat) (D : Nat → Prop) (ta : Option Addr) (tc : Nat) (es : List (Int × Int)) (w : World), SsAt w D (IsS w D n) ss sa → ss.length ≤ sc → sc ≤ maxLen → (∀ k, D k → k < lo) → RM w lo hi nv na va aa → RowEv w tb (.slice ta es.length tc) es → tb ≤ w.heap.size → es.length + Q * cntSs ss ≤ 2199023255552 → ss.all (stmtB nv na d) = true →
      Calls Try.prog 102 #[aggMm va aa nv na vc ac, .slice sa ss.length sc, .slice ta es.length tc] w (RunR lo hi tb nv na va aa es (.slice ta es.length tc) (Q * cntSs ss) w))
    (n : Nat) (ss : List S) (sa : Option Addr) (sc : Nat) (D : Nat → Prop) (ta : Option Addr) (tc : Nat) (es : List (Int × Int)) (w : World) (h : SsAt w D (IsS w D (n + 1)) ss sa) (hsl : ss.length ≤ sc) (hsm : sc ≤ maxLen) (hl : ∀ k, D k → k < lo) (hm : RM w lo hi nv na va aa) (ht : RowEv w tb (.slice ta es.length tc) es) (htb : tb ≤ w.heap.size) (hsz : es.length + 3 * Q * cntSs ss ≤ 2199023255552) (hs : ss.all (stmtB nv na (d + 1)) = true) :
    Calls Try.prog 102 #[aggMm va aa nv na vc ac, .slice sa ss.length sc, .slice ta es.length tc] w (RunR lo hi tb nv na va aa es (.slice ta es.length tc) (3 * Q * cntSs ss) w) := by
  obtain ⟨len, hlen⟩ : ∃ len, ss.length = len := ⟨_, rfl⟩
  obtain ⟨tn, htn⟩ : ∃ tn, es.length = tn := ⟨_, rfl⟩
  have HTN := Lib.hid htn
  have HLEN := Lib.hid hlen
  have HAT := Lib.hid h
  have IH := Lib.hid ih
  have HSH : Hid (∀ x ∈ ss, stmtB nv na (d + 1) x = true) := List.all_eq_true.1 hs
  rw [hlen] at hsl
  rw [htn] at hsz
  unfold maxLen at hsm
  obtain ⟨W, hW⟩ : ∃ W, w.alloc (.cells #[.slice va nv vc, .slice aa na ac] 26) = W := ⟨_, rfl⟩
  have hB : Below w.heap.size w W := by rw [← hW]; exact (Below.refl _ w).alloc (Nat.le_refl _) _
  have hz : W.heap.size = w.heap.size + 1 := by rw [← hW]; simp
  have e0 : W.heap[w.heap.size]? = some (.cells #[.slice va nv vc, .slice aa na ac] 26 (0, 0)) := by rw [← hW]; exact heap_alloc_new w _
  have HM : Hid (RM W lo hi nv na va aa) := hm.stand fun b _ hb => hB.block b (by omega)
  have HT : Hid (RowEv W tb (.slice ta es.length tc) es) := ht.stand fun g _ hg' => hB.block g hg'
  have hrw : ∀ g, (Value.slice ta tn tc).ownBlock = some g → g < w.heap.size := fun g hg => (ht.lt g (by rw [htn]; exact hg)).2
  have HTR : Hid (TrM lo hi w W (.slice ta tn tc) (.slice ta tn tc)) := Below.trm hB (by omega) _
  have HRW := Lib.hid hrw
  have HB := Lib.hid hB
  have HW := Lib.hid hW
  have HE0 := Lib.hid e0
  clear h ih hs hlen hB hW e0 hm ht hrw htn
  show Calls Try.prog 102 #[.agg #[.slice va nv vc, .slice aa na ac], .slice sa ss.length sc, .slice ta es.length tc] w (RunR lo hi tb nv na va aa es (.slice ta es.length tc) (3 * Q * cntSs ss) w)
  rw [HTN.out, HLEN.out]
  have HQ0 : Hid (L3Q lo hi tb nv na va aa W tn Q len ss (.slice ta tn tc) (.slice ta tn tc) (.int .i64 0) W) := ⟨0, ta, tc, es, by rw [HTN.out], rfl, Nat.zero_le _, HT.out, by rw [HTN.out]; omega, HM.out, by rw [HTN.out]; exact TrM.refl _ _ _ _⟩
  go_enter Try.func102, Try.ntmps102
  go_wp2_with fail
  rw [HW.out]
  go_loopw [2, 7] (fun tr i wr => L3Q lo hi tb nv na va aa W tn Q len ss (.slice ta tn tc) tr i wr) (fun _ i _ => len - (intOf i).toNat)
  case atStart => exact HQ0.out
  case round =>
    obtain ⟨j, ta', tc', es', rfl, rfl, hj, hrow, hel, hrm, htrm⟩ := hrel
    obtain ⟨tn', htn'⟩ : ∃ n, es'.length = n := ⟨_, rfl⟩
    have HTN' := Lib.hid htn'
    rw [htn'] at hel htrm hrow
    by_cases hlt : j < len
    · obtain ⟨x, hx⟩ : ∃ x, ss[j]? = some x := ⟨ss[j]'(by rw [HLEN.out]; exact hlt), List.getElem?_eq_getElem _⟩
      obtain ⟨b, o, k, rfl, hbl, hr11, hIS⟩ := HAT.out j x hx
      have hst : Stand D w wr := fun i hi => (htrm.bel.block i (by have := hl i hi; omega)).trans (HB.out.block i (by have := hl i hi; omega))
      have hr := hr11.stand (hst b hbl)
      have hsW : W.heap.size ≤ wr.heap.size := htrm.bel.size
      have hnb := HSH.out x (List.mem_of_getElem? hx)
      rw [stmtB, Bool.and_eq_true, Bool.and_eq_true] at hnb
      obtain ⟨⟨hnode, hbod⟩, hels⟩ := hnb
      obtain ⟨r0, r1, r2, r3, r4, r5, r6, r7, r8, r9, r10⟩ := hr
      have hct : cntSs (ss.take (j + 1)) = cntSs (ss.take j) + cntS x := cntSs_snoc ss j x hx
      have hctl := cntSs_take ss (j + 1)
      obtain ⟨kd, hkd⟩ : ∃ kd, x.kind = kd := ⟨_, rfl⟩
      obtain ⟨U, hU⟩ : ∃ U, wr.alloc (.cells #[.int .i64 kd, .int .i64 x.target, .int .i64 x.index.kind, .int .i64 x.index.value, .slice k.ia x.index.kids.length k.ic, .int .i64 x.value.kind, .int .i64 x.value.value, .slice k.va x.value.kids.length k.vc, .int .i64 x.count, .slice k.ba x.body.length k.bc, .slice k.ea x.els.length k.ec] 107) = U := ⟨_, rfl⟩
      have hBU : Below wr.heap.size wr U := by rw [← hU]; exact (Below.refl _ _).alloc (Nat.le_refl _) _
      have hzU : U.heap.size = wr.heap.size + 1 := by rw [← hU]; simp
      have hne : ∀ q, w.heap.size ≤ q → q < W.heap.size → (Value.slice ta tn tc).ownBlock ≠ some q := fun q h1 h2 e => by have := HRW.out q e; omega
      have hne' : ∀ q, w.heap.size ≤ q → q < W.heap.size → (Value.slice ta' tn' tc').ownBlock ≠ some q := fun q h1 h2 => by
        rcases htrm.row with e | ⟨g, e, hg⟩
        · rw [e]; exact hne q h1 h2
        · rw [e]; intro y; cases y; omega
      have hRS : RSt lo hi tb nv na va aa vc ac w.heap.size wr.heap.size x k W (.slice ta tn tc) (.slice ta' tn' tc') es' U := by
        have hnew : BoxS U wr.heap.size x k := ⟨107, by rw [← hU, ← hkd]; exact heap_alloc_new wr _⟩
        refine ⟨hrm.stand fun b _ hb => hBU.block b (by omega), hrow.stand fun g hg hlt => hBU.block g hlt, htrm.trans (Below.trm hBU (by omega) _), (hBU.block _ (by omega)).trans ((htrm.blk _ (by omega) (by omega) (hne _ (by omega) (by omega))).trans HE0.out), hnew, hne' _ (by omega) (by omega), fun e => by have := (hrow.lt _ e).2; omega, hhi, by omega, by omega, by omega, hlo⟩
      have HIS : Hid (IsS U D (n + 1) x k) := hIS.later fun i hi => (hBU.block i (by have := hl i hi; omega)).trans (hst i hi)
      have HRS := Lib.hid hRS
      have HU := Lib.hid hU
      have HNODE := Lib.hid hnode
      have HBOD := Lib.hid hbod
      have HELS := Lib.hid hels
      have HCT := Lib.hid hct
      have HCX := Lib.hid (cntS_eq x)
      have HEL := Lib.hid hel
      have hkinds : x.kind = 1 ∨ x.kind = 2 ∨ x.kind = 3 ∨ x.kind = 4 ∨ x.kind = 5 := by
        have h0 := hnode
        unfold nodeSB at h0
        rw [Bool.and_eq_true] at h0
        have h1 := h0.2
        by_cases a1 : x.kind = 1 ∨ x.kind = 5
        · omega
        · rw [if_neg a1] at h1
          by_cases a2 : x.kind = 2
          · omega
          · rw [if_neg a2] at h1
            by_cases a3 : x.kind = 3
            · omega
            · rw [if_neg a3] at h1
              simp at h1; omega
      clear hr11 hIS hst hrow hel hrm htrm hnode hbod hels hct hBU hne hne' hRS hU htn'
      rw [HTN'.out]
      rw [hkd] at r0 hkinds
      by_cases h4 : kd = 4
      · subst h4
        obtain ⟨C, hC, hC3⟩ : ∃ C : Nat, x.count = (C : Int) ∧ C ≤ 3 := by
          have h0 := HNODE.out
          unfold nodeSB at h0
          rw [Bool.and_eq_true] at h0
          have h1 := h0.1
          unfold partsB at h1
          rw [hkd] at h1
          split at h1
          · cases h1
          · simp at h1
            exact ⟨x.count.toNat, by omega, by omega⟩
        have hct1 : tn + 3 * Q * (cntSs (ss.take j) + cntS x) ≤ 2199023255552 := by
          rw [← HCT.out]
          have h9 : 3 * Q * cntSs (ss.take (j + 1)) ≤ 3 * Q * cntSs ss := Nat.mul_le_mul_left _ (cntSs_take ss (j + 1))
          omega
        obtain ⟨_, _, hb3⟩ := bnd3 (e := tn') (own := 0) (by have := HEL.out; omega) (by omega) HCX.out
        obtain ⟨X, hX⟩ : ∃ X, Q * cntSs x.body = X := ⟨_, rfl⟩
        have HXE := Lib.hid hX
        rw [hX] at hb3
        have q0 : U.cell? ⟨w.heap.size, 0, none⟩ = some (.slice va nv vc) := by rw [cell_at HRS.out.mbx]; rfl
        have q1 : U.cell? ⟨w.heap.size, 1, none⟩ = some (.slice aa na ac) := by rw [cell_at HRS.out.mbx]; rfl
        have s0 : U.cell? ⟨wr.heap.size, 0, none⟩ = some (.int .i64 4) := by rw [← hkd]; exact HRS.out.sbx.c0
        obtain ⟨sb, hsb⟩ : ∃ sb, wr.heap.size = sb := ⟨_, rfl⟩
        have HSB := Lib.hid hsb
        have hu := HU.out
        rw [hC] at hu
        have HU := Lib.hid hu
        clear hu
        have hN0 : Hid (L3N lo hi tb nv na va aa vc ac w.heap.size sb x k W (.slice ta tn tc) tn' X C (.slice ta' tn' tc') (.int .i64 0) U) :=
          ⟨0, ta', tc', es', by rw [HTN'.out], rfl, Nat.zero_le _, by rw [HTN'.out]; omega, by rw [HTN'.out, ← hsb]; exact HRS.out⟩
        clear hX hsb
        go_wp2_with (first | rw [HU.out] | fail)
        rw [HSB.out]
        go_loopw [2, 12] (fun tr i wr2 => L3N lo hi tb nv na va aa vc ac w.heap.size sb x k W (.slice ta tn tc) tn' X C tr i wr2) (fun _ i _ => C - (intOf i).toNat)
        case atStart => exact hN0.out
        case round =>
          obtain ⟨q, ta2, tc2, es2, rfl, rfl, hq, hel2, hrs2⟩ := hrel
          have q0 : wr.cell? ⟨w.heap.size, 0, none⟩ = some (.slice va nv vc) := by rw [cell_at hrs2.mbx]; rfl
          have q1 : wr.cell? ⟨w.heap.size, 1, none⟩ = some (.slice aa na ac) := by rw [cell_at hrs2.mbx]; rfl
          have s8 := hrs2.sbx.c8
          have s9 := hrs2.sbx.c9
          rw [hC] at s8
          have HIS2 : Hid (IsS wr D (n + 1) x k) := HIS.out.later fun i hi => (hrs2.trm.bel.block i (hl i hi)).trans (HRS.out.trm.bel.block i (hl i hi)).symm
          have HRS2 := Lib.hid hrs2
          have HEL2 := Lib.hid hel2
          clear hrs2 hel2
          by_cases hq2 : q < C
          · have hq3 : q * X + X ≤ 3 * X := by
              have h9 := Nat.mul_le_mul_right X (show q + 1 ≤ 3 by omega)
              rw [Nat.succ_mul] at h9
              exact h9
            have HRUN := Lib.hid (IH.out n x.body k.ba k.bc D ta2 tc2 es2 wr HIS2.out.2.2.2.2.1 HIS2.out.2.2.1 HIS2.out.2.2.2.1 hl HRS2.out.rm HRS2.out.row HRS2.out.htb (by rw [HXE.out]; have := HEL2.out; omega) HBOD.out)
            obtain ⟨n2, hn2⟩ : ∃ n2, es2.length = n2 := ⟨_, rfl⟩
            have HN2 := Lib.hid hn2
            have hrun := HRUN.out
            rw [hn2] at hrun
            rw [hn2]
            have HRUN2 := Lib.hid hrun
            clear hrun hn2 HRUN
            go_wp2_with fail
            refine HRUN2.out.mono ?_
            rintro f u3 ⟨ta3, tc3, es3, rfl, hrow3, hlen3, hrm3, htrm3⟩
            have HREL : Hid (L3N lo hi tb nv na va aa vc ac w.heap.size sb x k W (.slice ta tn tc) tn' X C (.slice ta3 es3.length tc3) (.int .i64 ((q : Int) + 1)) u3) := by
              refine ⟨q + 1, ta3, tc3, es3, rfl, by go_num, by omega, ?_, HRS2.out.run hrm3 hrow3 (by rw [HN2.out]; exact htrm3)⟩
              rw [Nat.succ_mul]
              have h8 := HEL2.out
              rw [HXE.out] at hlen3
              omega
            clear hrow3 hlen3 hrm3 htrm3 HRUN2
            go_wp2_with fail
            first
            | exact ⟨HREL.out, by simp [intOf]; omega⟩
            | (go_roundw
               case rel => exact HREL.out
               case measure => simp [intOf]; omega)
          · have hqc : q = C := by omega
            have hqx : q * X ≤ 3 * X := Nat.mul_le_mul_right X (by omega)
            have HREL : Hid (L3Q lo hi tb nv na va aa W tn Q len ss (.slice ta tn tc) (.slice ta2 es2.length tc2) (.int .i64 ((j : Int) + 1)) wr) := by
              refine ⟨j + 1, ta2, tc2, es2, rfl, by go_num, by omega, HRS2.out.row, ?_, HRS2.out.rm, HRS2.out.trm⟩
              rw [HCT.out]
              have h8 := HEL2.out
              omega
            obtain ⟨n2, hn2⟩ : ∃ n2, es2.length = n2 := ⟨_, rfl⟩
            have hrel := HREL.out
            rw [hn2] at hrel
            rw [hn2]
            have HREL2 := Lib.hid hrel
            clear hrel hn2 HREL
            go_wp2_with fail
            first
            | exact ⟨HREL2.out, by simp [intOf]; omega⟩
            | (go_roundw
               case rel => exact HREL2.out
               case measure => simp [intOf]; omega)
      have d4 : (kd == 4) = false := by simpa using h4
      have q0 : U.cell? ⟨w.heap.size, 0, none⟩ = some (.slice va nv vc) := by rw [cell_at HRS.out.mbx]; rfl
      have q1 : U.cell? ⟨w.heap.size, 1, none⟩ = some (.slice aa na ac) := by rw [cell_at HRS.out.mbx]; rfl
      have s0 : U.cell? ⟨wr.heap.size, 0, none⟩ = some (.int .i64 kd) := by rw [← hkd]; exact HRS.out.sbx.c0
      have s1 := HRS.out.sbx.c1
      have s2 := HRS.out.sbx.c2
      have s3 := HRS.out.sbx.c3
      have s4 := HRS.out.sbx.c4
      have s5 := HRS.out.sbx.c5
      have s6 := HRS.out.sbx.c6
      have s7 := HRS.out.sbx.c7
      have q0' := q0
      have q1' := q1
      rw [← HU.out] at q0' q1'
      have HVAL : Hid (Calls Try.prog 110 #[aggMm va aa nv na vc ac, .agg #[.int .i64 x.value.kind, .int .i64 x.value.value, .slice k.va x.value.kids.length k.vc], .slice ta' tn' tc'] U (EvlR tb es' (.slice ta' tn' tc') 1024 U)) := by
        have hsh : shapeB nv na 5 x.value = true := by
          have h0 := HNODE.out
          unfold nodeSB at h0
          rw [Bool.and_eq_true] at h0
          have h1 := h0.2
          rw [hkd] at h1
          unfold rightB at h1
          rcases hkinds with rfl | rfl | rfl | rfl | rfl <;> simp at h1 <;> first | exact h1.2.1 | exact h1.2.2.1 | exact h1.1 | exact h1.2.1.1 | omega | simp_all
        have hbnd : es'.length ≤ 4398046511104 - 4 ^ 5 := by
          have := HEL.out
          have : 3 * Q * cntSs (ss.take j) ≤ 3 * Q * cntSs ss := Nat.mul_le_mul_left _ (cntSs_take ss j)
          rw [HTN'.out]; omega
        have := l3Eval_one nv na lo hi tb va aa vc ac hlo hhi hnv hna 5 (by omega) n x.value _ _ _ D ta' tc' es' U HIS.out.2.1 hl HRS.out.rm (by have := HRS.out.row; rw [← HTN'.out] at this; exact this) HRS.out.htb hbnd hsh
        rw [HTN'.out] at this; exact this
      go_wp2_with (first | rw [HU.out] | fail)
      refine HVAL.out.mono ?_
      rintro f u1 ⟨v, ta1, tc1, es1, rfl, hv, hrow1, hlen1, htra1⟩
      have HR1 := Lib.hid (HRS.out.eval hrow1 htra1)
      have HLEN1 := Lib.hid hlen1
      have hz1 : U.heap.size ≤ u1.heap.size := htra1.bel.size
      have HIS1 : Hid (IsS u1 D (n + 1) x k) := HIS.out.later fun i hi => htra1.bel.block i (by have := hl i hi; omega)
      have a0 : u1.cell? ⟨w.heap.size, 0, none⟩ = some (.slice va nv vc) := by rw [cell_at HR1.out.mbx]; rfl
      have a1 : u1.cell? ⟨w.heap.size, 1, none⟩ = some (.slice aa na ac) := by rw [cell_at HR1.out.mbx]; rfl
      have b0 : u1.cell? ⟨wr.heap.size, 0, none⟩ = some (.int .i64 kd) := by rw [← hkd]; exact HR1.out.sbx.c0
      have b1 := HR1.out.sbx.c1
      have b2 := HR1.out.sbx.c2
      have b3 := HR1.out.sbx.c3
      have b4 := HR1.out.sbx.c4
      have b9 := HR1.out.sbx.c9
      have b10 := HR1.out.sbx.c10
      clear hrow1 hlen1 htra1 q0 q1 q0' q1' s0 s1 s2 s3 s4 s5 s6 s7 r0 r1 r2 r3 r4 r5 r6 r7 r8 r9 r10 HVAL HRS HIS HU
      obtain ⟨tn1, htn1⟩ : ∃ n, es1.length = n := ⟨_, rfl⟩
      have HTN1 := Lib.hid htn1
      have hr1 := HR1.out
      rw [htn1] at hr1
      have HR1 := Lib.hid hr1
      rw [htn1]
      clear htn1 hr1
      have hown : 1024 + 1 ≤ 3 * Q := by omega
      by_cases h1 : kd = 1
      case pos =>
        subst h1
        obtain ⟨i, hti, hi⟩ : ∃ i : Nat, x.target = (i : Int) ∧ i < nv := by
          have h0 := HNODE.out
          unfold nodeSB at h0
          rw [Bool.and_eq_true] at h0
          have h1 := h0.2
          rw [hkd, if_pos (by omega)] at h1
          simp only [Bool.and_eq_true, decide_eq_true_iff] at h1
          exact ⟨x.target.toNat, by omega, by omega⟩
        rw [hti] at b1
        obtain ⟨bs, os, z, rfl, hs1, hs2, hc, _, _, hf⟩ := HR1.out.rm.vals i hi
        have HRU := Lib.hid (HR1.out.store hs1 hs2 hc (z' := (v : Int)) (by omega) (by omega))
        go_wp2_with fail
        go_roundw
        case rel =>
          have hb := bnd1 (cx := cntS x) HEL.out (bnd2 (own := 1024) (by omega) (by have := HCX.out; omega))
          refine ⟨j + 1, ta1, tc1, es1, by rw [HTN1.out], by go_num, by omega, by rw [HTN1.out]; exact HRU.out.row, ?_, HRU.out.rm, by rw [HTN1.out]; exact HRU.out.trm⟩
          rw [HCT.out]
          have := HLEN1.out
          rw [HTN'.out] at this
          omega
        case measure => simp [intOf]; omega
      have d1 : (kd == 1) = false := by simpa using h1
      by_cases h5 : kd = 5
      case pos =>
        subst h5
        obtain ⟨i, hti, hi⟩ : ∃ i : Nat, x.target = (i : Int) ∧ i < nv := by
          have h0 := HNODE.out
          unfold nodeSB at h0
          rw [Bool.and_eq_true] at h0
          have h1 := h0.2
          rw [hkd, if_pos (by omega)] at h1
          simp only [Bool.and_eq_true, decide_eq_true_iff] at h1
          exact ⟨x.target.toNat, by omega, by omega⟩
        rw [hti] at b1
        obtain ⟨bs, os, z, rfl, hs1, hs2, hc, _, _, hf⟩ := HR1.out.rm.vals i hi
        have HRU := Lib.hid (HR1.out.store hs1 hs2 hc (z' := (v : Int)) (by omega) (by omega))
        have htn1 : tn1 ≤ 4398046511104 := by
          have := HLEN1.out
          rw [HTN'.out, HTN1.out] at this
          have h9 : 3 * Q * cntSs (ss.take j) ≤ 3 * Q * cntSs ss := Nat.mul_le_mul_left _ (cntSs_take ss j)
          have := HEL.out
          omega
        obtain ⟨U2, hU2⟩ : ∃ U2, u1.setCell ⟨bs, os + i, none⟩ (.int .i64 (v : Int)) = U2 := ⟨_, rfl⟩
        have HU2 := Lib.hid hU2
        rw [hU2] at HRU
        clear hU2
        obtain ⟨i0, hinf, hz0, hz1', hz2⟩ := info_parts infoEv
        have HROWU : Hid (RowEv U2 tb (.slice ta1 tn1 tc1) es1) := HRU.out.row
        have hLX := HROWU.out.cells HTN1.out (.cells #[.int .i64 4, .int .i64 (v : Int)] 92)
        have hNB : (U2.alloc (.cells #[.int .i64 4, .int .i64 (v : Int)] 92)).heap[U2.heap.size]? = some (.cells #[.int .i64 4, .int .i64 (v : Int)] 92 (0, 0)) := heap_alloc_new U2 _
        have htbU : tb ≤ U2.heap.size := HRU.out.htb
        go_wp2_with (first | rw [HU2.out] | (at_builtin; refine wpList_append_lies _ (by rfl) _ _ 33 (by rfl) tb 92 i0 _ 2 16 Try.underlying33 hinf hz0 hz1' hz2 rfl (by omega) (.slice ta1 tn1 tc1) tn1 _ (by rfl) hLX ⟨U2.heap.size, 0, none⟩ 1 1 [.int .i64 4, .int .i64 (v : Int)] (by rfl) (by rfl) (World.news_of_block hNB) (by simp [Value.oneCell']) (by omega) (by unfold maxLen; omega) (by omega) (by simp; omega) (U2.heap.size + 1) (by simp) ?_; intro g5 cp w6 hown6 hgrow hat hlt6))
        obtain ⟨hrow6, htra6⟩ := ev_grown HROWU.out HTN1.out htbU hown6 hgrow hat
        have HR6 := Lib.hid (HRU.out.eval hrow6 htra6)
        have hl6 : (es1 ++ [((4 : Int), ((v : Int) : Int))]).length = tn1 + 1 := by rw [List.length_append, HTN1.out]; rfl
        have HL6 := Lib.hid hl6
        clear hown6 hgrow hat hlt6 hLX hNB hrow6 htra6 hl6
        have hb := bnd1 (cx := cntS x) HEL.out (bnd2 (own := 1025) (by omega) (by have := HCX.out; omega))
        refine ⟨⟨j + 1, some ⟨g5, 0, none⟩, cp, es1 ++ [(4, (v : Int))], by rw [HL6.out], by go_num, by omega, HR6.out.row, ?_, HR6.out.rm, HR6.out.trm⟩, by simp [intOf]; omega⟩
        rw [HCT.out, HL6.out]
        have h7 := HLEN1.out
        rw [HTN'.out, HTN1.out] at h7
        omega
      have d5 : (kd == 5) = false := by simpa using h5
      by_cases h3 : kd = 3
      case pos =>
        subst h3
        have htn1 : tn1 + 1 ≤ tn + 3 * Q * cntSs (ss.take j) + 1025 := by
          have := HLEN1.out
          rw [HTN'.out, HTN1.out] at this
          have := HEL.out
          omega
        have hct1 : tn + 3 * Q * (cntSs (ss.take j) + cntS x) ≤ 2199023255552 := by
          rw [← HCT.out]
          have h9 : 3 * Q * cntSs (ss.take (j + 1)) ≤ 3 * Q * cntSs ss := Nat.mul_le_mul_left _ (cntSs_take ss (j + 1))
          omega
        obtain ⟨hb3, he3, _⟩ := bnd3 (own := 1025) htn1 (by omega) HCX.out
        have HRU := HR1
        have HBO : Hid (∀ bb, Calls Try.prog 112 #[.bool bb] u1 (AnsV u1)) := fun bb => l3Bool_one bb u1
        by_cases hv0 : v = 0
        · subst hv0
          have hne0 : (((0 : Nat) : Int) != 0) = false := rfl
          go_wp2_with fail
          refine (HBO.out _).mono ?_
          rintro f u2 ⟨vb, rfl, hvb, hw2⟩
          obtain rfl : u1 = u2 := hw2.symm
          obtain ⟨i0, hinf, hz0, hz1', hz2⟩ := info_parts infoEv
          have HROWU : Hid (RowEv u1 tb (.slice ta1 tn1 tc1) es1) := HRU.out.row
          have hLX := HROWU.out.cells HTN1.out (.cells #[.int .i64 1, .int .i64 (vb : Int)] 92)
          have hNB : (u1.alloc (.cells #[.int .i64 1, .int .i64 (vb : Int)] 92)).heap[u1.heap.size]? = some (.cells #[.int .i64 1, .int .i64 (vb : Int)] 92 (0, 0)) := heap_alloc_new u1 _
          have htbU : tb ≤ u1.heap.size := HRU.out.htb
          go_wp2_with (at_builtin; refine wpList_append_lies _ (by rfl) _ _ 33 (by rfl) tb 92 i0 _ 2 16 Try.underlying33 hinf hz0 hz1' hz2 rfl (by omega) (.slice ta1 tn1 tc1) tn1 _ (by rfl) hLX ⟨u1.heap.size, 0, none⟩ 1 1 [.int .i64 1, .int .i64 (vb : Int)] (by rfl) (by rfl) (World.news_of_block hNB) (by simp [Value.oneCell']) (by omega) (by unfold maxLen; omega) (by omega) (by simp; omega) (u1.heap.size + 1) (by simp) ?_; intro g5 cp w6 hown6 hgrow hat hlt6; obtain ⟨hrow6, htra6⟩ := ev_grown HROWU.out HTN1.out htbU hown6 hgrow hat; have HR6 := Lib.hid (HRU.out.eval hrow6 htra6); have hT6 := Lib.hid htra6; clear hown6 hgrow hat hlt6 hLX hNB hrow6 htra6; have y0 : w6.cell? ⟨w.heap.size, 0, none⟩ = some (.slice va nv vc) := (by rw [cell_at HR6.out.mbx]; rfl); have y1 : w6.cell? ⟨w.heap.size, 1, none⟩ = some (.slice aa na ac) := (by rw [cell_at HR6.out.mbx]; rfl); have y9 := HR6.out.sbx.c9; have y10 := HR6.out.sbx.c10)
          have HL6 : Hid ((es1 ++ [((1 : Int), (vb : Int))]).length = tn1 + 1) := by show (es1 ++ [((1 : Int), (vb : Int))]).length = tn1 + 1; rw [List.length_append, HTN1.out]; rfl
          have HIS6 : Hid (IsS w6 D (n + 1) x k) := HIS1.out.later fun i hi => hT6.out.bel.block i (by have := hl i hi; omega)
          have HRUN := Lib.hid (IH.out n x.els k.ea k.ec D (some ⟨g5, 0, none⟩) cp (es1 ++ [((1 : Int), (vb : Int))]) w6 HIS6.out.2.2.2.2.2.2.2 HIS6.out.2.2.2.2.2.1 HIS6.out.2.2.2.2.2.2.1 hl HR6.out.rm HR6.out.row HR6.out.htb (by rw [HL6.out]; omega) HELS.out)
          have hrun := HRUN.out
          have hr6 := HR6.out.trm
          rw [HL6.out] at hrun hr6
          refine hrun.mono ?_
          rintro f u3 ⟨ta3, tc3, es3, rfl, hrow3, hlen3, hrm3, htrm3⟩
          have HREL : Hid (L3Q lo hi tb nv na va aa W tn Q len ss (.slice ta tn tc) (.slice ta3 es3.length tc3) (.int .i64 ((j : Int) + 1)) u3) := by
            refine ⟨j + 1, ta3, tc3, es3, rfl, by go_num, by omega, hrow3, ?_, hrm3, hr6.trans htrm3⟩
            rw [HCT.out]
            have h8 := hlen3
            rw [HL6.out] at h8
            omega
          clear hrow3 hlen3 hrm3 htrm3 hr6 hrun HRUN HR6
          go_wp2_with fail
          first
          | exact ⟨HREL.out, by simp [intOf]; omega⟩
          | (go_roundw
             case rel => exact HREL.out
             case measure => simp [intOf]; omega)
        · have hne0 : ((v : Int) != 0) = true := by simp; omega
          go_wp2_with fail
          refine (HBO.out _).mono ?_
          rintro f u2 ⟨vb, rfl, hvb, hw2⟩
          obtain rfl : u1 = u2 := hw2.symm
          obtain ⟨i0, hinf, hz0, hz1', hz2⟩ := info_parts infoEv
          have HROWU : Hid (RowEv u1 tb (.slice ta1 tn1 tc1) es1) := HRU.out.row
          have hLX := HROWU.out.cells HTN1.out (.cells #[.int .i64 1, .int .i64 (vb : Int)] 92)
          have hNB : (u1.alloc (.cells #[.int .i64 1, .int .i64 (vb : Int)] 92)).heap[u1.heap.size]? = some (.cells #[.int .i64 1, .int .i64 (vb : Int)] 92 (0, 0)) := heap_alloc_new u1 _
          have htbU : tb ≤ u1.heap.size := HRU.out.htb
          go_wp2_with (at_builtin; refine wpList_append_lies _ (by rfl) _ _ 33 (by rfl) tb 92 i0 _ 2 16 Try.underlying33 hinf hz0 hz1' hz2 rfl (by omega) (.slice ta1 tn1 tc1) tn1 _ (by rfl) hLX ⟨u1.heap.size, 0, none⟩ 1 1 [.int .i64 1, .int .i64 (vb : Int)] (by rfl) (by rfl) (World.news_of_block hNB) (by simp [Value.oneCell']) (by omega) (by unfold maxLen; omega) (by omega) (by simp; omega) (u1.heap.size + 1) (by simp) ?_; intro g5 cp w6 hown6 hgrow hat hlt6; obtain ⟨hrow6, htra6⟩ := ev_grown HROWU.out HTN1.out htbU hown6 hgrow hat; have HR6 := Lib.hid (HRU.out.eval hrow6 htra6); have hT6 := Lib.hid htra6; clear hown6 hgrow hat hlt6 hLX hNB hrow6 htra6; have y0 : w6.cell? ⟨w.heap.size, 0, none⟩ = some (.slice va nv vc) := (by rw [cell_at HR6.out.mbx]; rfl); have y1 : w6.cell? ⟨w.heap.size, 1, none⟩ = some (.slice aa na ac) := (by rw [cell_at HR6.out.mbx]; rfl); have y9 := HR6.out.sbx.c9; have y10 := HR6.out.sbx.c10)
          have HL6 : Hid ((es1 ++ [((1 : Int), (vb : Int))]).length = tn1 + 1) := by show (es1 ++ [((1 : Int), (vb : Int))]).length = tn1 + 1; rw [List.length_append, HTN1.out]; rfl
          have HIS6 : Hid (IsS w6 D (n + 1) x k) := HIS1.out.later fun i hi => hT6.out.bel.block i (by have := hl i hi; omega)
          have HRUN := Lib.hid (IH.out n x.body k.ba k.bc D (some ⟨g5, 0, none⟩) cp (es1 ++ [((1 : Int), (vb : Int))]) w6 HIS6.out.2.2.2.2.1 HIS6.out.2.2.1 HIS6.out.2.2.2.1 hl HR6.out.rm HR6.out.row HR6.out.htb (by rw [HL6.out]; omega) HBOD.out)
          have hrun := HRUN.out
          have hr6 := HR6.out.trm
          rw [HL6.out] at hrun hr6
          refine hrun.mono ?_
          rintro f u3 ⟨ta3, tc3, es3, rfl, hrow3, hlen3, hrm3, htrm3⟩
          have HREL : Hid (L3Q lo hi tb nv na va aa W tn Q len ss (.slice ta tn tc) (.slice ta3 es3.length tc3) (.int .i64 ((j : Int) + 1)) u3) := by
            refine ⟨j + 1, ta3, tc3, es3, rfl, by go_num, by omega, hrow3, ?_, hrm3, hr6.trans htrm3⟩
            rw [HCT.out]
            have h8 := hlen3
            rw [HL6.out] at h8
            omega
          clear hrow3 hlen3 hrm3 htrm3 hr6 hrun HRUN HR6
          go_wp2_with fail
          first
          | exact ⟨HREL.out, by simp [intOf]; omega⟩
          | (go_roundw
             case rel => exact HREL.out
             case measure => simp [intOf]; omega)
      have h2 : kd = 2 := by omega
      subst h2
      have d3 : ((2 : Int) == 3) = false := rfl
      obtain ⟨i, hti, hii, hish⟩ : ∃ i : Nat, x.target = (i : Int) ∧ i < na ∧ shapeB nv na 5 x.index = true := by
        have h0 := HNODE.out
        unfold nodeSB at h0
        rw [Bool.and_eq_true] at h0
        have h1 := h0.2
        rw [hkd, if_neg (by omega), if_pos rfl] at h1
        simp only [Bool.and_eq_true, decide_eq_true_iff] at h1
        unfold rightB at h1
        simp only [Bool.and_eq_true, decide_eq_true_iff] at h1
        exact ⟨x.target.toNat, by omega, by omega, h1.1.1.2.1⟩
      rw [hti] at b1
      have HIDX : Hid (Calls Try.prog 110 #[aggMm va aa nv na vc ac, .agg #[.int .i64 x.index.kind, .int .i64 x.index.value, .slice k.ia x.index.kids.length k.ic], .slice none 0 0] u1 (EvlR tb [] (.slice none 0 0) 1024 u1)) :=
        l3Eval_one nv na lo hi tb va aa vc ac hlo hhi hnv hna 5 (by omega) n x.index _ _ _ D none 0 [] u1 HIS1.out.1 hl HR1.out.rm (rowEv_nil u1 tb) HR1.out.htb (by show 0 ≤ 4398046511104 - 4 ^ 5; omega) hish
      go_wp2_with fail
      refine HIDX.out.mono ?_
      rintro f u2 ⟨v2, ta2, tc2, es2, rfl, hv2, hrow2, hlen2, htra2⟩
      have HR2 := Lib.hid (HR1.out.beside htra2)
      have c0 : u2.cell? ⟨w.heap.size, 0, none⟩ = some (.slice va nv vc) := by rw [cell_at HR2.out.mbx]; rfl
      have c1 : u2.cell? ⟨w.heap.size, 1, none⟩ = some (.slice aa na ac) := by rw [cell_at HR2.out.mbx]; rfl
      have f1 := HR2.out.sbx.c1
      rw [hti] at f1
      obtain ⟨ba, oa, av, ac4, rfl, ha1, ha2, hca, hc4, hcm, hri⟩ := HR2.out.rm.arrs i hii
      clear hrow2 hlen2 htra2 a0 a1 b0 b1 b2 b3 b4 b9 b10 HIDX HR1 HIS1
      obtain ⟨q4, hq4⟩ : ∃ q, v2 % 4 = q := ⟨_, rfl⟩
      have hq4' : q4 < 4 := by omega
      have hqi : (v2 : Int) % 4 = (q4 : Int) := by omega
      have hqt : (v2 : Int).tmod 4 = (q4 : Int) := by rw [Int.tmod_eq_emod_of_nonneg (by omega)]; exact hqi
      have hq4i : (q4 : Int) < 4 := by omega
      have hq4j : (0 : Int) ≤ (q4 : Int) := by omega
      obtain ⟨b4, o4, z4, rfl, hb41, hb42, hcz, _, _, hf4⟩ := hri q4 hq4'
      have HRU := Lib.hid (HR2.out.store hb41 hb42 hcz (z' := (v : Int)) (by omega) (by omega))
      obtain ⟨U2, hU2⟩ : ∃ U2, u2.setCell ⟨b4, o4 + q4, none⟩ (.int .i64 (v : Int)) = U2 := ⟨_, rfl⟩
      have HU2 := Lib.hid hU2
      rw [hU2] at HRU
      clear hU2
      have g1 := HRU.out.sbx.c1
      rw [hti] at g1
      go_wp2_with (first | rw [HU2.out] | fail)
      refine (l3Address_one i v2 U2 (by omega) hv2).mono ?_
      rintro f u3 ⟨⟨ad, rfl⟩, hw3⟩
      obtain rfl : U2 = u3 := hw3.symm
      have htn1 : tn1 ≤ 4398046511104 := by
        have := HLEN1.out
        rw [HTN'.out, HTN1.out] at this
        have h9 : 3 * Q * cntSs (ss.take j) ≤ 3 * Q * cntSs ss := Nat.mul_le_mul_left _ (cntSs_take ss j)
        have := HEL.out
        omega
      obtain ⟨i0, hinf, hz0, hz1', hz2⟩ := info_parts infoEv
      have HROWU : Hid (RowEv U2 tb (.slice ta1 tn1 tc1) es1) := HRU.out.row
      have hLX := HROWU.out.cells HTN1.out (.cells #[.int .i64 3, .int .i64 ad] 92)
      have hNB : (U2.alloc (.cells #[.int .i64 3, .int .i64 ad] 92)).heap[U2.heap.size]? = some (.cells #[.int .i64 3, .int .i64 ad] 92 (0, 0)) := heap_alloc_new U2 _
      have htbU : tb ≤ U2.heap.size := HRU.out.htb
      go_wp2_with ((at_builtin; refine wpList_append_lies _ (by rfl) _ _ 33 (by rfl) tb 92 i0 _ 2 16 Try.underlying33 hinf hz0 hz1' hz2 rfl (by omega) (.slice ta1 tn1 tc1) tn1 _ (by rfl) hLX ⟨U2.heap.size, 0, none⟩ 1 1 [.int .i64 3, .int .i64 ad] (by rfl) (by rfl) (World.news_of_block hNB) (by simp [Value.oneCell']) (by omega) (by unfold maxLen; omega) (by omega) (by simp; omega) (U2.heap.size + 1) (by simp) ?_; intro g5 cp w6 hown6 hgrow hat hlt6))
      obtain ⟨hrow6, htra6⟩ := ev_grown HROWU.out HTN1.out htbU hown6 hgrow hat
      have HR6 := Lib.hid (HRU.out.eval hrow6 htra6)
      have hl6 : (es1 ++ [((3 : Int), ad)]).length = tn1 + 1 := by rw [List.length_append, HTN1.out]; rfl
      have HL6 := Lib.hid hl6
      clear hown6 hgrow hat hlt6 hLX hNB hrow6 htra6 hl6
      have hb := bnd1 (cx := cntS x) HEL.out (bnd2 (own := 1025) (by omega) (by have := HCX.out; omega))
      refine ⟨⟨j + 1, some ⟨g5, 0, none⟩, cp, es1 ++ [(3, ad)], by rw [HL6.out], by go_num, by omega, HR6.out.row, ?_, HR6.out.rm, HR6.out.trm⟩, by simp [intOf]; omega⟩
      rw [HCT.out, HL6.out]
      have h7 := HLEN1.out
      rw [HTN'.out, HTN1.out] at h7
      omega
    · have hjl : j = len := by omega
      subst hjl
      have HFIN : Hid (RunR lo hi tb nv na va aa es (.slice ta tn tc) (3 * Q * cntSs ss) w (.returned (.slice ta' tn' tc')) wr) := by
        have h1 := HTR.out.trans htrm
        have h2 : ss.take j = ss := List.take_of_length_le (by rw [HLEN.out]; exact Nat.le_refl _)
        rw [h2] at hel
        refine ⟨ta', tc', es', by rw [HTN'.out], by rw [HTN'.out]; exact hrow, by rw [HTN'.out, HTN.out]; exact hel, hrm, by rw [HTN'.out]; exact h1⟩
      clear hrow hel hrm htrm htn'
      rw [HTN'.out]
      go_wp2_with fail
      go_ret
      exact HFIN.out
end Go.Proofs.Ytgfagdjadmpklaa

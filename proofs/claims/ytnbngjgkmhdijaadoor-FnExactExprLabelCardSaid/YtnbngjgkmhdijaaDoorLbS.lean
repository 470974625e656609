/- The label of an expression by the model: l4Label at every expression of good shape, ExprLabel; and by the program. Condition: the tables lie as the program's text lays them. -/
import Derived.Test.YtnbngjgkmhdijaaDoorLbF
import Derived.Test.YtnbngjgkmhdijaaDoorValC
namespace Go.Proofs.YtnbngjgkmhdijaaDoor
open Go.RowKit
set_option linter.unusedVariables false

theorem or4 (q y : Nat) (hq : q < 4) (hy : y < 4) : bits .or .i64 (q : Int) (y : Int) = ((q ||| y : Nat) : Int) := by
  have h1 : q = 0 ∨ q = 1 ∨ q = 2 ∨ q = 3 := by omega
  have h2 : y = 0 ∨ y = 1 ∨ y = 2 ∨ y = 3 := by omega
  rcases h1 with rfl | rfl | rfl | rfl <;> rcases h2 with rfl | rfl | rfl | rfl <;> rfl

theorem ownN_lt {p : Pg} (hq : headsB p = true) (e : E) : ownN p e < 4 := by
  unfold ownN
  cases placeE e with
  | none => simp
  | some i => exact knl_lt hq i
mutual
theorem labE_lt {p : Pg} (hq : headsB p = true) : ∀ (e : E), labE p e < 4
  | ⟨k, v, ks⟩ => by rw [labE]; exact Nat.or_lt_two_pow (n := 2) (ownN_lt hq _) (labEs_lt hq ks)
theorem labEs_lt {p : Pg} (hq : headsB p = true) : ∀ (es : List E), labEs p es < 4
  | [] => by rw [labEs]; omega
  | x :: xs => by rw [labEs]; exact Nat.or_lt_two_pow (n := 2) (labE_lt hq x) (labEs_lt hq xs)
end

set_option maxRecDepth 100000 in
set_option maxHeartbeats 4000000 in
theorem sLab_succ (p : Pg) (k : PC) (hq : headsB p = true) (np d : Nat) (hd : d ≤ 5) (ih : ∀ (n : Nat) (e : E) (c0 c1 c2 : Value) (D : Nat → Prop) (w : World), IsE w D n e [c0, c1, c2] → IsP w D np p k → (∀ k, D k → k < w.heap.size) → shapeB p.vars.length p.arrs.length d e = true →
      Calls Tryd.prog 16 #[aggP p k, .agg #[c0, c1, c2]] w (AnsI (labE p e : Int) w))
    (n : Nat) (e : E) (c0 c1 c2 : Value) (D : Nat → Prop) (w : World) (h : IsE w D n e [c0, c1, c2]) (hp : IsP w D np p k) (hl : ∀ k, D k → k < w.heap.size) (hs : shapeB p.vars.length p.arrs.length (d + 1) e = true) :
    Calls Tryd.prog 16 #[aggP p k, .agg #[c0, c1, c2]] w (AnsI (labE p e : Int) w) := by
  cases n with
  | zero => exact h.elim
  | succ n =>
  obtain ⟨a, cap, hcs, hcap, hm, hat⟩ := h
  cases hcs
  obtain ⟨kd, vv, es⟩ := e
  obtain ⟨va, vc, aa, ac, ba, bc⟩ := k
  unfold maxLen at hm
  dsimp only at hat hcap
  obtain ⟨len, hlen⟩ : ∃ len, es.length = len := ⟨_, rfl⟩
  have HAT := Lib.hid hat
  have IH := Lib.hid ih
  have HP := Lib.hid hp
  have HQ := Lib.hid hq
  have HLE := Lib.hid (labE_eq p ⟨kd, vv, es⟩)
  obtain ⟨hv12, ha2⟩ := headsB_len hq
  rw [shapeB, Bool.and_eq_true] at hs
  have HSH : Hid (∀ x ∈ es, shapeB p.vars.length p.arrs.length d x = true) := List.all_eq_true.1 hs.2
  have hnb := hs.1
  unfold nodeB at hnb
  simp only [Bool.and_eq_true, decide_eq_true_iff] at hnb
  obtain ⟨⟨⟨har, hv0⟩, hv1⟩, _⟩ := hnb
  have hle : len ≤ 3 := by have := arity_le kd; omega
  have HLEN := Lib.hid hlen
  rw [hlen] at hcap
  clear ih hat hp hq hs har
  show Calls Tryd.prog 16 #[.agg #[.slice va p.vars.length vc, .slice aa p.arrs.length ac, .slice ba p.body.length bc], .agg #[.int .i64 kd, .int .i64 vv, .slice a es.length cap]] w (AnsI (labE p ⟨kd, vv, es⟩ : Int) w)
  obtain ⟨lab, hlab⟩ : ∃ lab, labE p ⟨kd, vv, es⟩ = lab := ⟨_, rfl⟩
  have HLAB := Lib.hid hlab
  obtain ⟨W, hW⟩ : ∃ W, (w.alloc (.cells #[.slice va p.vars.length vc, .slice aa p.arrs.length ac, .slice ba p.body.length bc] 34)).alloc (.cells #[.int .i64 kd, .int .i64 vv, .slice a len cap] 38) = W := ⟨_, rfl⟩
  rw [hlab, hlen]
  have hB : Below w.heap.size w W := by rw [← hW]; exact ((Below.refl _ w).alloc (Nat.le_refl _) _).alloc (by simp) _
  have hz : W.heap.size = w.heap.size + 2 := by rw [← hW]; simp
  have e0 : BoxP W w.heap.size p ⟨va, vc, aa, ac, ba, bc⟩ := by
    rw [← hW]; exact (BoxP.new w p ⟨va, vc, aa, ac, ba, bc⟩ _).later (Below.heap_alloc _ _ _ (by simp))
  have e1 : BoxE W (w.heap.size + 1) ⟨kd, vv, es⟩ a cap := by
    have e1 := BoxE.new (w.alloc (.cells #[.slice va p.vars.length vc, .slice aa p.arrs.length ac, .slice ba p.body.length bc] 34)) ⟨kd, vv, es⟩ a cap 38
    rw [World.size_alloc] at e1
    rw [← hW, ← hlen]; exact e1
  have HB := Lib.hid hB
  have HX := Lib.hid e1
  have HY := Lib.hid e0
  have HW := Lib.hid hW
  clear hlab hlen hB e0 e1 hW
  by_cases h2 : kd = 2
  case pos =>
    subst h2
    obtain ⟨i, rfl⟩ := Int.eq_ofNat_of_zero_le hv0
    have hi : i < p.vars.length := by unfold limit at hv1; simp at hv1; omega
    obtain ⟨bv, ov, hva, hbd, hcell⟩ := HP.out.1.2.2 i hi
    obtain rfl : va = some ⟨bv, ov, none⟩ := hva
    have s0 := (World.cell?_of_block (w := w) (a := ⟨bv, ov + i, none⟩) (HB.out.block bv (hl bv hbd))).trans hcell
    rw [knl_var HQ.out hi hv12] at s0
    obtain ⟨u0, hu0⟩ : ∃ u0, knl p i = u0 := ⟨_, rfl⟩
    rw [hu0] at s0
    have HU : Hid (ownN p ⟨2, (i : Int), es⟩ = u0) := by show ownN p _ = u0; rw [← hu0]; rfl
    rw [← HW.out] at s0
    clear hcell hbd hu0 hv1 hv0
    go_enter Tryd.func16, Tryd.ntmps16
    go_wp2_with fail
    rw [HW.out]
    clear HW s0
    have hu4 : u0 < 4 := by rw [← HU.out]; exact ownN_lt HQ.out _
    have HXB : Hid (∀ v, Below W.heap.size W v → BoxP v w.heap.size p ⟨(some ⟨bv, ov, none⟩), vc, aa, ac, ba, bc⟩ ∧ v.cell? ⟨w.heap.size + 1, 2, none⟩ = some (.slice a len cap)) := fun v hv => by
      refine ⟨HY.out.below hv (by omega), ?_⟩
      have := (HX.out.below hv (by omega)).c2
      rw [← HLEN.out]
      exact this
    go_loopw [5, 6] (fun c i wr => ∃ j q : Nat, j ≤ len ∧ i = .int .i64 j ∧ c = .int .i64 q ∧ q = u0 ||| labEs p (es.take j) ∧ Below W.heap.size W wr) (fun _ i _ => len - (intOf i).toNat)
    case atStart => exact ⟨0, u0, Nat.zero_le _, rfl, rfl, by simp [labEs], Below.refl _ _⟩
    case round =>
      obtain ⟨j, q, hj, rfl, rfl, hqv, hbr⟩ := hrel
      have HQV := Lib.hid hqv
      have HBR := Lib.hid hbr
      obtain ⟨bp, x2'⟩ := HXB.out wr hbr
      have p0' := bp.c0
      have p1' := bp.c1
      have p2' := bp.c2
      have hsz := hbr.size
      clear hbr hqv bp
      by_cases hlt : j < len
      · obtain ⟨x, hx⟩ : ∃ x, es[j]? = some x := ⟨es[j]'(by rw [HLEN.out]; exact hlt), List.getElem?_eq_getElem _⟩
        obtain ⟨b, o, c0, c1, c2, rfl, hbl, e0, e1, e2, hE⟩ := HAT.out j x hx
        obtain ⟨xa, xc, rfl, rfl, rfl, _, _⟩ := hE.shape
        have hst : Stand D w wr := Stand.trans (Stand.of_below HB.out hl) (Stand.of_below HBR.out fun i hi => by have := hl i hi; omega)
        have r0 := (World.cell?_of_block (w := w) (a := ⟨b, o + j * 3, none⟩) (hst b hbl)).trans e0
        have r1 := (World.cell?_of_block (w := w) (a := ⟨b, o + j * 3 + 1, none⟩) (hst b hbl)).trans e1
        have r2 := (World.cell?_of_block (w := w) (a := ⟨b, o + j * 3 + 2, none⟩) (hst b hbl)).trans e2
        have HE : Hid (IsE wr D n x [.int .i64 x.kind, .int .i64 x.value, .slice xa x.kids.length xc]) := hE.later hst
        have HEd : Hid (IsE wr.drew D n x [.int .i64 x.kind, .int .i64 x.value, .slice xa x.kids.length xc]) := HE.out.later fun _ _ => rfl
        have HPr : Hid (IsP wr D np p ⟨(some ⟨bv, ov, none⟩), vc, aa, ac, ba, bc⟩) := HP.out.later hst
        have HPd : Hid (IsP wr.drew D np p ⟨(some ⟨bv, ov, none⟩), vc, aa, ac, ba, bc⟩) := HPr.out.later fun _ _ => rfl
        have HDW : Hid (∀ i, D i → i < wr.heap.size) := fun i hi => by have := hl i hi; omega
        have HDWd : Hid (∀ i, D i → i < wr.drew.heap.size) := HDW.out
        have HXS : Hid (shapeB p.vars.length p.arrs.length d x = true) := HSH.out x (List.mem_of_getElem? hx)
        have hbwr : b < wr.heap.size := by have := hl b hbl; omega
        obtain ⟨y, hy⟩ : ∃ y, labE p x = y := ⟨_, rfl⟩
        have HYX := Lib.hid hy
        have hy4 : y < 4 := by rw [← hy]; exact labE_lt HQ.out x
        have hq4 : q < 4 := by rw [HQV.out]; exact Nat.or_lt_two_pow (n := 2) hu4 (labEs_lt HQ.out _)
        have hor := or4 q y hq4 hy4
        have HQN : Hid (q ||| y = u0 ||| labEs p (es.take (j + 1))) := by
          show q ||| y = _
          rw [labEs_snoc p es j x hx, HQV.out, hy, Nat.or_assoc]
        have HSa : Hid (wr.cell? ⟨w.heap.size, 0, none⟩ = some (.slice (some ⟨bv, ov, none⟩) p.vars.length vc) ∧ wr.cell? ⟨w.heap.size, 1, none⟩ = some (.slice aa p.arrs.length ac) ∧ wr.cell? ⟨w.heap.size, 2, none⟩ = some (.slice ba p.body.length bc) ∧ wr.cell? ⟨w.heap.size + 1, 2, none⟩ = some (.slice (some ⟨b, o, none⟩) len cap) ∧ wr.cell? ⟨b, o + j * 3, none⟩ = some (.int .i64 x.kind) ∧ wr.cell? ⟨b, o + j * 3 + 1, none⟩ = some (.int .i64 x.value) ∧ wr.cell? ⟨b, o + j * 3 + 2, none⟩ = some (.slice xa x.kids.length xc)) := ⟨p0', p1', p2', x2', r0, r1, r2⟩
        clear hE hst e0 e1 e2 hx hy HAT
        go_wp2_with fail
        go_region_held3 (fun v => v.cell? ⟨w.heap.size, 0, none⟩ = some (.slice (some ⟨bv, ov, none⟩) p.vars.length vc) ∧ v.cell? ⟨w.heap.size, 1, none⟩ = some (.slice aa p.arrs.length ac) ∧ v.cell? ⟨w.heap.size, 2, none⟩ = some (.slice ba p.body.length bc) ∧ v.cell? ⟨w.heap.size + 1, 2, none⟩ = some (.slice (some ⟨b, o, none⟩) len cap) ∧ v.cell? ⟨b, o + j * 3, none⟩ = some (.int .i64 x.kind) ∧ v.cell? ⟨b, o + j * 3 + 1, none⟩ = some (.int .i64 x.value) ∧ v.cell? ⟨b, o + j * 3 + 2, none⟩ = some (.slice xa x.kids.length xc)) (first | (with_reducible assumption) | (with_reducible exact HSa.out) | exact HSa.out)
          ((go_at_call 16; first
            | (with_reducible refine (IH.out n x _ _ _ D wr HE.out HPr.out HDW.out HXS.out).mono ?_)
            | (with_reducible refine (IH.out n x _ _ _ D wr.drew HEd.out HPd.out HDWd.out HXS.out).mono ?_)
            rintro g w5 ⟨rfl, hb5⟩
            rw [HYX.out]
            have hb5' : Below W.heap.size W w5 := (by first | exact HBR.out.trans (hb5.mono hsz) | exact HBR.out.drew.trans (hb5.mono hsz))
            have hS5 : w5.cell? ⟨w.heap.size, 0, none⟩ = some (.slice (some ⟨bv, ov, none⟩) p.vars.length vc) ∧ w5.cell? ⟨w.heap.size, 1, none⟩ = some (.slice aa p.arrs.length ac) ∧ w5.cell? ⟨w.heap.size, 2, none⟩ = some (.slice ba p.body.length bc) ∧ w5.cell? ⟨w.heap.size + 1, 2, none⟩ = some (.slice (some ⟨b, o, none⟩) len cap) ∧ w5.cell? ⟨b, o + j * 3, none⟩ = some (.int .i64 x.kind) ∧ w5.cell? ⟨b, o + j * 3 + 1, none⟩ = some (.int .i64 x.value) ∧ w5.cell? ⟨b, o + j * 3 + 2, none⟩ = some (.slice xa x.kids.length xc) := (by
              obtain ⟨bp, x2''⟩ := HXB.out w5 hb5'
              first
              | exact ⟨bp.c0, bp.c1, bp.c2, x2'', (World.cell?_of_block (w := wr) (hb5.block b hbwr)).trans r0, (World.cell?_of_block (w := wr) (hb5.block b hbwr)).trans r1, (World.cell?_of_block (w := wr) (hb5.block b hbwr)).trans r2⟩
              | exact ⟨bp.c0, bp.c1, bp.c2, x2'', (World.cell?_of_block (w := wr.drew) (hb5.block b hbwr)).trans r0, (World.cell?_of_block (w := wr.drew) (hb5.block b hbwr)).trans r1, (World.cell?_of_block (w := wr.drew) (hb5.block b hbwr)).trans r2⟩)))
        all_goals
          have HB5 := Lib.hid hb5'
          clear hb5 hb5' hS5
          go_wp2_with fail
          go_roundw
          case rel => exact ⟨j + 1, q ||| y, by omega, by go_num, by first | rfl | rw [hor], HQN.out, HB5.out⟩
          case measure => simp [intOf]; omega
      · obtain rfl : j = len := by omega
        have HT2 : Hid (q = lab) := by
          show q = lab
          rw [HQV.out, List.take_of_length_le (by rw [HLEN.out]; exact Nat.le_refl _), ← HLAB.out, HLE.out, HU.out]
        clear HAT
        go_wp2_with fail
        go_ret
        exact ⟨by rw [← HT2.out]; rfl, HB.out.trans (HBR.out.mono (by omega))⟩
  by_cases h3 : kd = 3
  case pos =>
    subst h3
    obtain ⟨i, rfl⟩ := Int.eq_ofNat_of_zero_le hv0
    have hi : i < p.arrs.length := by unfold limit at hv1; simp at hv1; omega
    obtain ⟨bv, ov, hva, hbd, hcell⟩ := HP.out.2.1.2.2 i hi
    obtain rfl : aa = some ⟨bv, ov, none⟩ := hva
    have s0 := (World.cell?_of_block (w := w) (a := ⟨bv, ov + i, none⟩) (HB.out.block bv (hl bv hbd))).trans hcell
    rw [knl_arr HQ.out hi] at s0
    obtain ⟨u0, hu0⟩ : ∃ u0, knl p (12 + i) = u0 := ⟨_, rfl⟩
    rw [hu0] at s0
    have HU : Hid (ownN p ⟨3, (i : Int), es⟩ = u0) := by show ownN p _ = u0; rw [← hu0]; rfl
    rw [← HW.out] at s0
    clear hcell hbd hu0 hv1 hv0
    go_enter Tryd.func16, Tryd.ntmps16
    go_wp2_with fail
    rw [HW.out]
    clear HW s0
    have hu4 : u0 < 4 := by rw [← HU.out]; exact ownN_lt HQ.out _
    have HXB : Hid (∀ v, Below W.heap.size W v → BoxP v w.heap.size p ⟨va, vc, (some ⟨bv, ov, none⟩), ac, ba, bc⟩ ∧ v.cell? ⟨w.heap.size + 1, 2, none⟩ = some (.slice a len cap)) := fun v hv => by
      refine ⟨HY.out.below hv (by omega), ?_⟩
      have := (HX.out.below hv (by omega)).c2
      rw [← HLEN.out]
      exact this
    go_loopw [5, 6] (fun c i wr => ∃ j q : Nat, j ≤ len ∧ i = .int .i64 j ∧ c = .int .i64 q ∧ q = u0 ||| labEs p (es.take j) ∧ Below W.heap.size W wr) (fun _ i _ => len - (intOf i).toNat)
    case atStart => exact ⟨0, u0, Nat.zero_le _, rfl, rfl, by simp [labEs], Below.refl _ _⟩
    case round =>
      obtain ⟨j, q, hj, rfl, rfl, hqv, hbr⟩ := hrel
      have HQV := Lib.hid hqv
      have HBR := Lib.hid hbr
      obtain ⟨bp, x2'⟩ := HXB.out wr hbr
      have p0' := bp.c0
      have p1' := bp.c1
      have p2' := bp.c2
      have hsz := hbr.size
      clear hbr hqv bp
      by_cases hlt : j < len
      · obtain ⟨x, hx⟩ : ∃ x, es[j]? = some x := ⟨es[j]'(by rw [HLEN.out]; exact hlt), List.getElem?_eq_getElem _⟩
        obtain ⟨b, o, c0, c1, c2, rfl, hbl, e0, e1, e2, hE⟩ := HAT.out j x hx
        obtain ⟨xa, xc, rfl, rfl, rfl, _, _⟩ := hE.shape
        have hst : Stand D w wr := Stand.trans (Stand.of_below HB.out hl) (Stand.of_below HBR.out fun i hi => by have := hl i hi; omega)
        have r0 := (World.cell?_of_block (w := w) (a := ⟨b, o + j * 3, none⟩) (hst b hbl)).trans e0
        have r1 := (World.cell?_of_block (w := w) (a := ⟨b, o + j * 3 + 1, none⟩) (hst b hbl)).trans e1
        have r2 := (World.cell?_of_block (w := w) (a := ⟨b, o + j * 3 + 2, none⟩) (hst b hbl)).trans e2
        have HE : Hid (IsE wr D n x [.int .i64 x.kind, .int .i64 x.value, .slice xa x.kids.length xc]) := hE.later hst
        have HEd : Hid (IsE wr.drew D n x [.int .i64 x.kind, .int .i64 x.value, .slice xa x.kids.length xc]) := HE.out.later fun _ _ => rfl
        have HPr : Hid (IsP wr D np p ⟨va, vc, (some ⟨bv, ov, none⟩), ac, ba, bc⟩) := HP.out.later hst
        have HPd : Hid (IsP wr.drew D np p ⟨va, vc, (some ⟨bv, ov, none⟩), ac, ba, bc⟩) := HPr.out.later fun _ _ => rfl
        have HDW : Hid (∀ i, D i → i < wr.heap.size) := fun i hi => by have := hl i hi; omega
        have HDWd : Hid (∀ i, D i → i < wr.drew.heap.size) := HDW.out
        have HXS : Hid (shapeB p.vars.length p.arrs.length d x = true) := HSH.out x (List.mem_of_getElem? hx)
        have hbwr : b < wr.heap.size := by have := hl b hbl; omega
        obtain ⟨y, hy⟩ : ∃ y, labE p x = y := ⟨_, rfl⟩
        have HYX := Lib.hid hy
        have hy4 : y < 4 := by rw [← hy]; exact labE_lt HQ.out x
        have hq4 : q < 4 := by rw [HQV.out]; exact Nat.or_lt_two_pow (n := 2) hu4 (labEs_lt HQ.out _)
        have hor := or4 q y hq4 hy4
        have HQN : Hid (q ||| y = u0 ||| labEs p (es.take (j + 1))) := by
          show q ||| y = _
          rw [labEs_snoc p es j x hx, HQV.out, hy, Nat.or_assoc]
        have HSa : Hid (wr.cell? ⟨w.heap.size, 0, none⟩ = some (.slice va p.vars.length vc) ∧ wr.cell? ⟨w.heap.size, 1, none⟩ = some (.slice (some ⟨bv, ov, none⟩) p.arrs.length ac) ∧ wr.cell? ⟨w.heap.size, 2, none⟩ = some (.slice ba p.body.length bc) ∧ wr.cell? ⟨w.heap.size + 1, 2, none⟩ = some (.slice (some ⟨b, o, none⟩) len cap) ∧ wr.cell? ⟨b, o + j * 3, none⟩ = some (.int .i64 x.kind) ∧ wr.cell? ⟨b, o + j * 3 + 1, none⟩ = some (.int .i64 x.value) ∧ wr.cell? ⟨b, o + j * 3 + 2, none⟩ = some (.slice xa x.kids.length xc)) := ⟨p0', p1', p2', x2', r0, r1, r2⟩
        clear hE hst e0 e1 e2 hx hy HAT
        go_wp2_with fail
        go_region_held3 (fun v => v.cell? ⟨w.heap.size, 0, none⟩ = some (.slice va p.vars.length vc) ∧ v.cell? ⟨w.heap.size, 1, none⟩ = some (.slice (some ⟨bv, ov, none⟩) p.arrs.length ac) ∧ v.cell? ⟨w.heap.size, 2, none⟩ = some (.slice ba p.body.length bc) ∧ v.cell? ⟨w.heap.size + 1, 2, none⟩ = some (.slice (some ⟨b, o, none⟩) len cap) ∧ v.cell? ⟨b, o + j * 3, none⟩ = some (.int .i64 x.kind) ∧ v.cell? ⟨b, o + j * 3 + 1, none⟩ = some (.int .i64 x.value) ∧ v.cell? ⟨b, o + j * 3 + 2, none⟩ = some (.slice xa x.kids.length xc)) (first | (with_reducible assumption) | (with_reducible exact HSa.out) | exact HSa.out)
          ((go_at_call 16; first
            | (with_reducible refine (IH.out n x _ _ _ D wr HE.out HPr.out HDW.out HXS.out).mono ?_)
            | (with_reducible refine (IH.out n x _ _ _ D wr.drew HEd.out HPd.out HDWd.out HXS.out).mono ?_)
            rintro g w5 ⟨rfl, hb5⟩
            rw [HYX.out]
            have hb5' : Below W.heap.size W w5 := (by first | exact HBR.out.trans (hb5.mono hsz) | exact HBR.out.drew.trans (hb5.mono hsz))
            have hS5 : w5.cell? ⟨w.heap.size, 0, none⟩ = some (.slice va p.vars.length vc) ∧ w5.cell? ⟨w.heap.size, 1, none⟩ = some (.slice (some ⟨bv, ov, none⟩) p.arrs.length ac) ∧ w5.cell? ⟨w.heap.size, 2, none⟩ = some (.slice ba p.body.length bc) ∧ w5.cell? ⟨w.heap.size + 1, 2, none⟩ = some (.slice (some ⟨b, o, none⟩) len cap) ∧ w5.cell? ⟨b, o + j * 3, none⟩ = some (.int .i64 x.kind) ∧ w5.cell? ⟨b, o + j * 3 + 1, none⟩ = some (.int .i64 x.value) ∧ w5.cell? ⟨b, o + j * 3 + 2, none⟩ = some (.slice xa x.kids.length xc) := (by
              obtain ⟨bp, x2''⟩ := HXB.out w5 hb5'
              first
              | exact ⟨bp.c0, bp.c1, bp.c2, x2'', (World.cell?_of_block (w := wr) (hb5.block b hbwr)).trans r0, (World.cell?_of_block (w := wr) (hb5.block b hbwr)).trans r1, (World.cell?_of_block (w := wr) (hb5.block b hbwr)).trans r2⟩
              | exact ⟨bp.c0, bp.c1, bp.c2, x2'', (World.cell?_of_block (w := wr.drew) (hb5.block b hbwr)).trans r0, (World.cell?_of_block (w := wr.drew) (hb5.block b hbwr)).trans r1, (World.cell?_of_block (w := wr.drew) (hb5.block b hbwr)).trans r2⟩)))
        all_goals
          have HB5 := Lib.hid hb5'
          clear hb5 hb5' hS5
          go_wp2_with fail
          go_roundw
          case rel => exact ⟨j + 1, q ||| y, by omega, by go_num, by first | rfl | rw [hor], HQN.out, HB5.out⟩
          case measure => simp [intOf]; omega
      · obtain rfl : j = len := by omega
        have HT2 : Hid (q = lab) := by
          show q = lab
          rw [HQV.out, List.take_of_length_le (by rw [HLEN.out]; exact Nat.le_refl _), ← HLAB.out, HLE.out, HU.out]
        clear HAT
        go_wp2_with fail
        go_ret
        exact ⟨by rw [← HT2.out]; rfl, HB.out.trans (HBR.out.mono (by omega))⟩
  obtain ⟨u0, hu0⟩ : ∃ u0, u0 = 0 := ⟨_, rfl⟩
  have HU : Hid (ownN p ⟨kd, vv, es⟩ = u0) := by
    show ownN p _ = u0
    unfold ownN placeE
    rw [if_neg h2, if_neg h3, hu0]
  have HU0 : Hid ((0 : Int) = (u0 : Int)) := by show (0 : Int) = (u0 : Int); rw [hu0]; rfl
  clear hu0
  have d2 : (kd == 2) = false := by simpa using h2
  have d3 : (kd == 3) = false := by simpa using h3
  go_enter Tryd.func16, Tryd.ntmps16
  go_wp2_with fail
  rw [HW.out]
  clear HW
  have hu4 : u0 < 4 := by rw [← HU.out]; exact ownN_lt HQ.out _
  have HXB : Hid (∀ v, Below W.heap.size W v → BoxP v w.heap.size p ⟨va, vc, aa, ac, ba, bc⟩ ∧ v.cell? ⟨w.heap.size + 1, 2, none⟩ = some (.slice a len cap)) := fun v hv => by
    refine ⟨HY.out.below hv (by omega), ?_⟩
    have := (HX.out.below hv (by omega)).c2
    rw [← HLEN.out]
    exact this
  go_loopw [5, 6] (fun c i wr => ∃ j q : Nat, j ≤ len ∧ i = .int .i64 j ∧ c = .int .i64 q ∧ q = u0 ||| labEs p (es.take j) ∧ Below W.heap.size W wr) (fun _ i _ => len - (intOf i).toNat)
  case atStart => exact ⟨0, u0, Nat.zero_le _, rfl, by rw [← HU0.out], by simp [labEs], Below.refl _ _⟩
  case round =>
    obtain ⟨j, q, hj, rfl, rfl, hqv, hbr⟩ := hrel
    have HQV := Lib.hid hqv
    have HBR := Lib.hid hbr
    obtain ⟨bp, x2'⟩ := HXB.out wr hbr
    have p0' := bp.c0
    have p1' := bp.c1
    have p2' := bp.c2
    have hsz := hbr.size
    clear hbr hqv bp
    by_cases hlt : j < len
    · obtain ⟨x, hx⟩ : ∃ x, es[j]? = some x := ⟨es[j]'(by rw [HLEN.out]; exact hlt), List.getElem?_eq_getElem _⟩
      obtain ⟨b, o, c0, c1, c2, rfl, hbl, e0, e1, e2, hE⟩ := HAT.out j x hx
      obtain ⟨xa, xc, rfl, rfl, rfl, _, _⟩ := hE.shape
      have hst : Stand D w wr := Stand.trans (Stand.of_below HB.out hl) (Stand.of_below HBR.out fun i hi => by have := hl i hi; omega)
      have r0 := (World.cell?_of_block (w := w) (a := ⟨b, o + j * 3, none⟩) (hst b hbl)).trans e0
      have r1 := (World.cell?_of_block (w := w) (a := ⟨b, o + j * 3 + 1, none⟩) (hst b hbl)).trans e1
      have r2 := (World.cell?_of_block (w := w) (a := ⟨b, o + j * 3 + 2, none⟩) (hst b hbl)).trans e2
      have HE : Hid (IsE wr D n x [.int .i64 x.kind, .int .i64 x.value, .slice xa x.kids.length xc]) := hE.later hst
      have HEd : Hid (IsE wr.drew D n x [.int .i64 x.kind, .int .i64 x.value, .slice xa x.kids.length xc]) := HE.out.later fun _ _ => rfl
      have HPr : Hid (IsP wr D np p ⟨va, vc, aa, ac, ba, bc⟩) := HP.out.later hst
      have HPd : Hid (IsP wr.drew D np p ⟨va, vc, aa, ac, ba, bc⟩) := HPr.out.later fun _ _ => rfl
      have HDW : Hid (∀ i, D i → i < wr.heap.size) := fun i hi => by have := hl i hi; omega
      have HDWd : Hid (∀ i, D i → i < wr.drew.heap.size) := HDW.out
      have HXS : Hid (shapeB p.vars.length p.arrs.length d x = true) := HSH.out x (List.mem_of_getElem? hx)
      have hbwr : b < wr.heap.size := by have := hl b hbl; omega
      obtain ⟨y, hy⟩ : ∃ y, labE p x = y := ⟨_, rfl⟩
      have HYX := Lib.hid hy
      have hy4 : y < 4 := by rw [← hy]; exact labE_lt HQ.out x
      have hq4 : q < 4 := by rw [HQV.out]; exact Nat.or_lt_two_pow (n := 2) hu4 (labEs_lt HQ.out _)
      have hor := or4 q y hq4 hy4
      have HQN : Hid (q ||| y = u0 ||| labEs p (es.take (j + 1))) := by
        show q ||| y = _
        rw [labEs_snoc p es j x hx, HQV.out, hy, Nat.or_assoc]
      have HSa : Hid (wr.cell? ⟨w.heap.size, 0, none⟩ = some (.slice va p.vars.length vc) ∧ wr.cell? ⟨w.heap.size, 1, none⟩ = some (.slice aa p.arrs.length ac) ∧ wr.cell? ⟨w.heap.size, 2, none⟩ = some (.slice ba p.body.length bc) ∧ wr.cell? ⟨w.heap.size + 1, 2, none⟩ = some (.slice (some ⟨b, o, none⟩) len cap) ∧ wr.cell? ⟨b, o + j * 3, none⟩ = some (.int .i64 x.kind) ∧ wr.cell? ⟨b, o + j * 3 + 1, none⟩ = some (.int .i64 x.value) ∧ wr.cell? ⟨b, o + j * 3 + 2, none⟩ = some (.slice xa x.kids.length xc)) := ⟨p0', p1', p2', x2', r0, r1, r2⟩
      clear hE hst e0 e1 e2 hx hy HAT
      go_wp2_with fail
      go_region_held3 (fun v => v.cell? ⟨w.heap.size, 0, none⟩ = some (.slice va p.vars.length vc) ∧ v.cell? ⟨w.heap.size, 1, none⟩ = some (.slice aa p.arrs.length ac) ∧ v.cell? ⟨w.heap.size, 2, none⟩ = some (.slice ba p.body.length bc) ∧ v.cell? ⟨w.heap.size + 1, 2, none⟩ = some (.slice (some ⟨b, o, none⟩) len cap) ∧ v.cell? ⟨b, o + j * 3, none⟩ = some (.int .i64 x.kind) ∧ v.cell? ⟨b, o + j * 3 + 1, none⟩ = some (.int .i64 x.value) ∧ v.cell? ⟨b, o + j * 3 + 2, none⟩ = some (.slice xa x.kids.length xc)) (first | (with_reducible assumption) | (with_reducible exact HSa.out) | exact HSa.out)
        ((go_at_call 16; first
          | (with_reducible refine (IH.out n x _ _ _ D wr HE.out HPr.out HDW.out HXS.out).mono ?_)
          | (with_reducible refine (IH.out n x _ _ _ D wr.drew HEd.out HPd.out HDWd.out HXS.out).mono ?_)
          rintro g w5 ⟨rfl, hb5⟩
          rw [HYX.out]
          have hb5' : Below W.heap.size W w5 := (by first | exact HBR.out.trans (hb5.mono hsz) | exact HBR.out.drew.trans (hb5.mono hsz))
          have hS5 : w5.cell? ⟨w.heap.size, 0, none⟩ = some (.slice va p.vars.length vc) ∧ w5.cell? ⟨w.heap.size, 1, none⟩ = some (.slice aa p.arrs.length ac) ∧ w5.cell? ⟨w.heap.size, 2, none⟩ = some (.slice ba p.body.length bc) ∧ w5.cell? ⟨w.heap.size + 1, 2, none⟩ = some (.slice (some ⟨b, o, none⟩) len cap) ∧ w5.cell? ⟨b, o + j * 3, none⟩ = some (.int .i64 x.kind) ∧ w5.cell? ⟨b, o + j * 3 + 1, none⟩ = some (.int .i64 x.value) ∧ w5.cell? ⟨b, o + j * 3 + 2, none⟩ = some (.slice xa x.kids.length xc) := (by
            obtain ⟨bp, x2''⟩ := HXB.out w5 hb5'
            first
            | exact ⟨bp.c0, bp.c1, bp.c2, x2'', (World.cell?_of_block (w := wr) (hb5.block b hbwr)).trans r0, (World.cell?_of_block (w := wr) (hb5.block b hbwr)).trans r1, (World.cell?_of_block (w := wr) (hb5.block b hbwr)).trans r2⟩
            | exact ⟨bp.c0, bp.c1, bp.c2, x2'', (World.cell?_of_block (w := wr.drew) (hb5.block b hbwr)).trans r0, (World.cell?_of_block (w := wr.drew) (hb5.block b hbwr)).trans r1, (World.cell?_of_block (w := wr.drew) (hb5.block b hbwr)).trans r2⟩)))
      all_goals
        have HB5 := Lib.hid hb5'
        clear hb5 hb5' hS5
        go_wp2_with fail
        go_roundw
        case rel => exact ⟨j + 1, q ||| y, by omega, by go_num, by first | rfl | rw [hor], HQN.out, HB5.out⟩
        case measure => simp [intOf]; omega
    · obtain rfl : j = len := by omega
      have HT2 : Hid (q = lab) := by
        show q = lab
        rw [HQV.out, List.take_of_length_le (by rw [HLEN.out]; exact Nat.le_refl _), ← HLAB.out, HLE.out, HU.out]
      clear HAT
      go_wp2_with fail
      go_ret
      exact ⟨by rw [← HT2.out]; rfl, HB.out.trans (HBR.out.mono (by omega))⟩

/-- **l4Label, AT EVERY EXPRESSION OF GOOD SHAPE.** -/
theorem sLab_one (p : Pg) (k : PC) (hq : headsB p = true) (np : Nat) : ∀ (d : Nat), d ≤ 6 → ∀ (n : Nat) (e : E) (c0 c1 c2 : Value) (D : Nat → Prop) (w : World), IsE w D n e [c0, c1, c2] → IsP w D np p k → (∀ k, D k → k < w.heap.size) → shapeB p.vars.length p.arrs.length d e = true →
      Calls Tryd.prog 16 #[aggP p k, .agg #[c0, c1, c2]] w (AnsI (labE p e : Int) w)
  | 0, _, n, e, c0, c1, c2, D, w, h, _, _, hs => by simp [shapeB] at hs
  | d + 1, hd, n, e, c0, c1, c2, D, w, h, hp, hl, hs => sLab_succ p k hq np d (by omega) (sLab_one p k hq np d (by omega)) n e c0 c1 c2 D w h hp hl hs

/-- The label of an expression, or 3 where it is not valid. -/
def elab' (p : Pg) (e : E) : Int := if exprB p e then (labE p e : Int) else 3

set_option maxHeartbeats 2000000 in
theorem sExprLabel (p : Pg) (k : PC) (e : E) (a : Option Addr) (c : Nat) (w : World) (hp : CP w p k) (h : CE w e a c) :
    Calls Tryd.prog 6 #[aggP p k, .agg #[.int .i64 e.kind, .int .i64 e.value, .slice a e.kids.length c]] w (AnsI (elab' p e) w) := by
  have HCP := Lib.hid hp
  have HCE := Lib.hid h
  clear hp h
  go_enter Tryd.func6, Tryd.ntmps6
  go_wp2_with fail
  obtain ⟨W, hW⟩ : ∃ W, ((w.alloc (.cells #[.slice k.va p.vars.length k.vc, .slice k.aa p.arrs.length k.ac, .slice k.ba p.body.length k.bc] 34)).alloc (.cells #[.int .i64 e.kind, .int .i64 e.value, .slice a e.kids.length c] 38)) = W := ⟨_, rfl⟩
  have hB : Below w.heap.size w W := by rw [← hW]; exact ((Below.refl _ w).alloc (Nat.le_refl _) _).alloc (by simp) _
  have hz : W.heap.size = w.heap.size + 2 := by rw [← hW]; simp
  have e0 : BoxP W w.heap.size p k := by
    rw [← hW]; exact (BoxP.new w p k _).later (Below.heap_alloc _ _ _ (by simp))
  have e1 : BoxE W (w.heap.size + 1) e a c := by
    have e1 := BoxE.new (w.alloc (.cells #[.slice k.va p.vars.length k.vc, .slice k.aa p.arrs.length k.ac, .slice k.ba p.body.length k.bc] 34)) e a c 38
    rw [World.size_alloc] at e1
    rw [← hW]; exact e1
  rw [hW]
  have HB := Lib.hid hB
  have HX := Lib.hid e1
  have HY := Lib.hid e0
  clear hW hB e0 e1
  have hs0 := HB.out.size
  refine (sExprValidC p k e a c W (HCP.out.below HB.out) (HCE.out.below HB.out)).mono ?_
  rintro f w1 ⟨rfl, hb1⟩
  have hB1 := HB.out.trans (hb1.mono hs0)
  have bp := HY.out.below hb1 (by omega)
  have be := HX.out.below hb1 (by omega)
  have p0 := bp.c0
  have p1 := bp.c1
  have p2 := bp.c2
  have x0 := be.c0
  have x1 := be.c1
  have x2 := be.c2
  have hs1 := hb1.size
  have HB1 := Lib.hid hB1
  clear hb1 hB1 bp be HX HY
  cases hq : exprB p e
  case false =>
    have HN : Hid ((3 : Int) = elab' p e) := by show (3 : Int) = elab' p e; unfold elab'; rw [hq]; rfl
    go_wp2_with fail
    go_ret
    exact ⟨by rw [← HN.out]; rfl, HB1.out⟩
  case true =>
    have hN : elab' p e = (labE p e : Int) := by unfold elab'; rw [hq]; rfl
    have HN := Lib.hid hN
    have hq' := hq
    unfold exprB rightB at hq'
    simp only [Bool.and_eq_true, decide_eq_true_iff] at hq'
    obtain ⟨hh, hsh, _⟩ := hq'
    obtain ⟨D, n, hD, hp, _⟩ := HCP.out.below HB1.out
    obtain ⟨D', n', hD', hx, _⟩ := HCE.out.below HB1.out
    have HL := Lib.hid (sLab_one p k hh n 5 (by omega) n' e _ _ _ (fun j => D j ∨ D' j) w1 (hx.mono (fun _ _ => rfl) fun _ h => .inr h) (hp.mono (fun _ _ => rfl) fun _ h => .inl h) (fun j hj => hj.elim (hD j) (hD' j)) hsh)
    clear hp hx hD hD'
    go_wp2_with fail
    refine HL.out.mono ?_
    rintro g w2 ⟨rfl, hb2⟩
    have HB2 := Lib.hid (HB1.out.trans (hb2.mono (by omega)))
    clear hb2
    go_wp2_with fail
    go_ret
    exact ⟨by rw [HN.out]; rfl, HB2.out⟩

set_option maxHeartbeats 2000000 in
theorem iExprLabel (p : Pg) (k : PC) (e : E) (a : Option Addr) (c : Nat) (w : World) (hT : TblO w) (hTB : TblB w) (hw : 2 ≤ w.heap.size) (hp : CP w p k) (h : CE w e a c) :
    Calls Tryd.prog 9 #[aggP p k, .agg #[.int .i64 e.kind, .int .i64 e.value, .slice a e.kids.length c]] w (AnsI (elab' p e) w) := by
  have HCP := Lib.hid hp
  have HCE := Lib.hid h
  have HTO := Lib.hid hT
  have HTB := Lib.hid hTB
  have hgo := hT.lt
  have hgb := hTB.lt
  clear hp h hT hTB
  go_enter Tryd.func9, Tryd.ntmps9
  go_wp2_with fail
  obtain ⟨W, hW⟩ : ∃ W, ((w.alloc (.cells #[.slice k.va p.vars.length k.vc, .slice k.aa p.arrs.length k.ac, .slice k.ba p.body.length k.bc] 34)).alloc (.cells #[.int .i64 e.kind, .int .i64 e.value, .slice a e.kids.length c] 38)) = W := ⟨_, rfl⟩
  have hB : Below w.heap.size w W := by rw [← hW]; exact ((Below.refl _ w).alloc (Nat.le_refl _) _).alloc (by simp) _
  have hz : W.heap.size = w.heap.size + 2 := by rw [← hW]; simp
  have e0 : BoxP W w.heap.size p k := by
    rw [← hW]; exact (BoxP.new w p k _).later (Below.heap_alloc _ _ _ (by simp))
  have e1 : BoxE W (w.heap.size + 1) e a c := by
    have e1 := BoxE.new (w.alloc (.cells #[.slice k.va p.vars.length k.vc, .slice k.aa p.arrs.length k.ac, .slice k.ba p.body.length k.bc] 34)) e a c 38
    rw [World.size_alloc] at e1
    rw [← hW]; exact e1
  rw [hW]
  have HB := Lib.hid hB
  have HX := Lib.hid e1
  have HY := Lib.hid e0
  clear hW hB e0 e1
  have hs0 := HB.out.size
  refine (iExprValidC p k e a c W (HTO.out.below HB.out hgo) (by omega) (HCP.out.below HB.out) (HCE.out.below HB.out)).mono ?_
  rintro f w1 ⟨rfl, hb1⟩
  have hB1 := HB.out.trans (hb1.mono hs0)
  have bp := HY.out.below hb1 (by omega)
  have be := HX.out.below hb1 (by omega)
  have p0 := bp.c0
  have p1 := bp.c1
  have p2 := bp.c2
  have x0 := be.c0
  have x1 := be.c1
  have x2 := be.c2
  have hs1 := hb1.size
  have HB1 := Lib.hid hB1
  have HX1 := Lib.hid be
  have HY1 := Lib.hid bp
  clear hb1 hB1 bp be HX HY
  cases hq : exprB p e
  case false =>
    have HN : Hid ((3 : Int) = elab' p e) := by show (3 : Int) = elab' p e; unfold elab'; rw [hq]; rfl
    go_wp2_with fail
    go_ret
    exact ⟨by rw [← HN.out]; rfl, HB1.out⟩
  case true =>
    have hN : elab' p e = (labE p e : Int) := by unfold elab'; rw [hq]; rfl
    have HN := Lib.hid hN
    have hq' := hq
    unfold exprB at hq'
    simp only [Bool.and_eq_true] at hq'
    obtain ⟨hh, hri⟩ := hq'
    obtain ⟨hv12, ha2⟩ := headsB_len hh
    have hfit := (right_iff _ _ e).1 hri
    have hnodes : ∀ x ∈ preEs [e] 1, nodeB p.vars.length p.arrs.length x.2 = true := fun x hx => (hfit.2 x hx).2
    have hsl : setN (preEs [e] 1) < 16384 := set_lt hv12 ha2 hnodes
    have hjn : orF (knl p) (bitsN (setN (preEs [e] 1))) = labE p e := by
      rw [show setN (preEs [e] 1) = orF (fun x => bitE x.2) (preEs [e] 1) from rfl, join_places p _ hv12 ha2 hnodes, show preEs [e] 1 = preE e 1 by rw [preEs, preEs, List.append_nil], labL_pre]
    have HJN := Lib.hid hjn
    obtain ⟨st, hst⟩ : ∃ st, setN (preEs [e] 1) = st := ⟨_, rfl⟩
    have HSTN := Lib.hid hst
    rw [hst] at hsl
    have HPC : Hid (∀ v, Below w1.heap.size w1 v → ∃ D n, (∀ j, D j → j < v.heap.size) ∧ IsP v D n p k) := fun v hv => by
      obtain ⟨D, n, hD, hp, _⟩ := (HCP.out.below HB1.out).below hv
      exact ⟨D, n, hD, hp⟩
    have HEC : Hid (∀ v, Below w1.heap.size w1 v → ∃ D n, (∀ j, D j → j < v.heap.size) ∧ IsE v D n e (cellsI e a c)) := fun v hv => by
      obtain ⟨D, n, hD, hp, _⟩ := (HCE.out.below HB1.out).below hv
      exact ⟨D, n, hD, hp⟩
    have HF : Hid (∀ v, Below w1.heap.size w1 v → v.cell? ⟨w.heap.size, 0, none⟩ = some (.slice k.va p.vars.length k.vc) ∧ v.cell? ⟨w.heap.size, 1, none⟩ = some (.slice k.aa p.arrs.length k.ac) ∧ v.cell? ⟨w.heap.size, 2, none⟩ = some (.slice k.ba p.body.length k.bc) ∧ v.cell? ⟨w.heap.size + 1, 0, none⟩ = some (.int .i64 e.kind) ∧ v.cell? ⟨w.heap.size + 1, 1, none⟩ = some (.int .i64 e.value) ∧ v.cell? ⟨w.heap.size + 1, 2, none⟩ = some (.slice a e.kids.length c)) := fun v hv => by
      have bp := HY1.out.below hv (by omega)
      have be := HX1.out.below hv (by omega)
      exact ⟨bp.c0, bp.c1, bp.c2, be.c0, be.c1, be.c2⟩
    have HTV : Hid (∀ v, Below w1.heap.size w1 v → TblB v) := fun v hv => (HTB.out.below HB1.out hgb).below hv (by omega)
    have HLO : Hid (∀ v, Below w1.heap.size w1 v → Calls Tryd.prog 21 #[.agg #[.slice k.va p.vars.length k.vc, .slice k.aa p.arrs.length k.ac, .slice k.ba p.body.length k.bc]] v fun f w' => f = .returned (.agg (arrOf (knl p))) ∧ Below v.heap.size v w') := fun v hv => by
      obtain ⟨D, n, hD, hp⟩ := HPC.out v hv
      exact labelingOf_one p k n D v hp hD hh
    have HPO : Hid (∀ v, Below w1.heap.size w1 v → Calls Tryd.prog 23 #[.agg #[.int .i64 e.kind, .int .i64 e.value, .slice a e.kids.length c]] v fun f w' => f = .returned (.int .u64 (st : Int)) ∧ Below v.heap.size v w') := fun v hv => by
      obtain ⟨D, n, hD, hx⟩ := HEC.out v hv
      rw [← HSTN.out]
      exact callsIn_wide.1 (placesOf_in _ _ n e a c D v hx hD hv12 ha2 hri)
    have HOF : Hid (∀ v, Below w1.heap.size w1 v → Calls Tryd.prog 22 #[.agg (arrOf (knl p)), .int .u64 (st : Int)] v fun f w' => f = .returned (.int .i64 (labE p e : Int)) ∧ Below v.heap.size v w') := fun v hv => by
      rw [← HJN.out, HSTN.out]
      exact callsIn_wide.1 (ofSet_in p st v hsl (HTV.out v hv) (knl_lt hh))
    have HFa := Lib.hid (HF.out w1 (Below.refl _ _))
    have HBd : Hid (Below w1.heap.size w1 w1.drew) := (Below.refl _ w1).drew
    clear hfit hnodes hjn hst hN hq hri hh
    go_wp2_with fail
    go_region_held3 (fun v => v.cell? ⟨w.heap.size, 0, none⟩ = some (.slice k.va p.vars.length k.vc) ∧ v.cell? ⟨w.heap.size, 1, none⟩ = some (.slice k.aa p.arrs.length k.ac) ∧ v.cell? ⟨w.heap.size, 2, none⟩ = some (.slice k.ba p.body.length k.bc) ∧ v.cell? ⟨w.heap.size + 1, 0, none⟩ = some (.int .i64 e.kind) ∧ v.cell? ⟨w.heap.size + 1, 1, none⟩ = some (.int .i64 e.value) ∧ v.cell? ⟨w.heap.size + 1, 2, none⟩ = some (.slice a e.kids.length c)) (first | (with_reducible assumption) | (with_reducible exact HFa.out) | exact HFa.out)
      (first
      | (go_at_call 21
         first
         | (with_reducible refine (HLO.out w1 (Below.refl _ _)).mono ?_)
         | (with_reducible refine (HLO.out w1.drew HBd.out).mono ?_)
         rintro f v1 ⟨rfl, hA⟩
         have hA1 : Below w1.heap.size w1 v1 := (by first | exact hA | exact HBd.out.trans hA)
         have hS1 := HF.out v1 hA1)
      | (go_at_call 23
         (with_reducible refine (HPO.out v1 hA1).mono ?_)
         rintro f v2 ⟨rfl, hC⟩
         have hC1 := hA1.trans (hC.mono hA1.size)
         have hS2 := HF.out v2 hC1)
      | (go_at_call 22
         (with_reducible refine (HOF.out v2 hC1).mono ?_)
         rintro f v3 ⟨rfl, hD⟩
         have hD1 := hC1.trans (hD.mono hC1.size)
         have hS3 := HF.out v3 hD1))
    all_goals
      have HB2 := Lib.hid (HB1.out.trans (hD1.mono (by omega)))
      clear hA hA1 hS1 hC hC1 hS2 hD hD1 hS3
      go_wp2_with fail
      go_ret
      exact ⟨by rw [HN.out]; rfl, HB2.out⟩

end Go.Proofs.YtnbngjgkmhdijaaDoor

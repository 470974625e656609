/- The law FnExprKids, walked: for every list of bytes the call returns true; nothing that was there has changed. Condition: the table of operands lies as the program's text lays it. -/
import Derived.Test.YtlhdgoindknpfaaDoorDrD
import Derived.Test.YtlhdgoindknpfaaDoorValC
namespace Go.Proofs.YtlhdgoindknpfaaDoor
open Go.RowKit
set_option linter.unusedVariables false

theorem shapeB_up {nv na d : Nat} {e : E} (h : shapeB nv na d e = true) : shapeB nv na (d + 1) e = true :=
  (shape_iff nv na e (d + 1) 0).2 fun p hp => ⟨by have := ((shape_iff nv na e d 0).1 h p hp).1; omega, ((shape_iff nv na e d 0).1 h p hp).2⟩
theorem cntE_mem : ∀ {es : List E} {x : E}, x ∈ es → cntE x ≤ cntEs es
  | y :: ys, x, h => by
    rcases List.mem_cons.1 h with rfl | h
    · simp [cntEs]
    · have := cntE_mem h
      simp only [cntEs]; omega
/-- A valid expression's operands are valid. -/
theorem exprB_kid {p : Pg} {e x : E} (h : exprB p e = true) (hx : x ∈ e.kids) : exprB p x = true := by
  unfold exprB rightB at h ⊢
  simp only [Bool.and_eq_true, decide_eq_true_iff] at h ⊢
  obtain ⟨h1, h2, h3⟩ := h
  rw [shapeB, Bool.and_eq_true] at h2
  have hc := cntE_mem hx
  rw [cntE_eq] at h3
  exact ⟨h1, shapeB_up (List.all_eq_true.1 h2.2 x hx), by omega⟩

theorem sExprValidR (p : Pg) (k : PC) (e : E) (a : Option Addr) (c : Nat) (w : World) (hp : CP w p k) (h : RE w e a c) :
    Calls Tryd.prog 8 #[aggP p k, .agg #[.int .i64 e.kind, .int .i64 e.value, .slice a e.kids.length c]] w (AnsB (exprB p e) w) := by
  obtain ⟨D, n, hD, hp, hs⟩ := hp
  obtain ⟨D', n', hD', h⟩ := h
  exact sExprValid_one p k (max n n') e a c (fun j => D j ∨ D' j) w ((hp.mono (fun _ _ => rfl) fun _ h => .inl h).deeper (Nat.le_max_left _ _)) ((h.mono (fun _ _ => rfl) fun _ h => .inr h).deeper' (Nat.le_max_right _ _)) fun j hj => hj.elim (hD j) (hD' j)
theorem iExprValidR (p : Pg) (k : PC) (e : E) (a : Option Addr) (c : Nat) (w : World) (hT : TblO w) (hw : 2 ≤ w.heap.size) (hp : CP w p k) (h : RE w e a c) (hc : cntE e ≤ 1048578) :
    Calls Tryd.prog 7 #[aggP p k, .agg #[.int .i64 e.kind, .int .i64 e.value, .slice a e.kids.length c]] w (AnsB (exprB p e) w) := by
  obtain ⟨D, n, hD, hp, hs⟩ := hp
  obtain ⟨D', n', hD', h⟩ := h
  exact iExprValid_one p k (max n n') e a c (fun j => D j ∨ D' j) w hT hw ((hp.mono (fun _ _ => rfl) fun _ h => .inl h).deeper (Nat.le_max_left _ _)) ((h.mono (fun _ _ => rfl) fun _ h => .inr h).deeper' (Nat.le_max_right _ _)) (fun j hj => hj.elim (hD j) (hD' j)) (by omega)
theorem RE.kid {w : World} {e x : E} {a : Option Addr} {c i : Nat} (h : RE w e a c) (hx : e.kids[i]? = some x) : ∃ b o xa xc, a = some ⟨b, o, none⟩ ∧ b < w.heap.size ∧ w.cell? ⟨b, o + i * 3, none⟩ = some (.int .i64 x.kind) ∧ w.cell? ⟨b, o + i * 3 + 1, none⟩ = some (.int .i64 x.value) ∧ w.cell? ⟨b, o + i * 3 + 2, none⟩ = some (.slice xa x.kids.length xc) ∧ RE w x xa xc := by
  obtain ⟨D, n, hD, h⟩ := h
  cases n with
  | zero => exact h.elim
  | succ n =>
    obtain ⟨a', c', hcs, h1, h2, h3⟩ := h
    simp at hcs
    obtain ⟨rfl, rfl⟩ := hcs
    obtain ⟨b, o, c0, c1, c2, rfl, hb, e0, e1, e2, hr⟩ := h3 i x hx
    obtain ⟨xa, xc, rfl, rfl, rfl, _, _⟩ := hr.shape
    exact ⟨b, o, xa, xc, rfl, hD b hb, e0, e1, e2, D, n, hD, hr⟩

set_option maxRecDepth 100000 in
set_option maxHeartbeats 4000000 in
theorem law_FnExprKids (a : Option Addr) (len cap : Nat) (zs : List Int) (w : World) (hT : TblO w) (hw : 2 ≤ w.heap.size) (h : IsRow .u8 w a len cap zs) :
    Calls Tryd.prog 3 #[.slice a len cap] w (AnsB true w) := by
  have H := Lib.hid h
  have HT := Lib.hid hT
  have hlen := h.len
  clear h hT
  go_enter Tryd.func3, Tryd.ntmps3
  by_cases hn : 1048576 < len
  case pos =>
    go_wp2_with fail
    go_ret
    exact AnsB.of rfl (Below.refl _ _)
  go_wp2_with fail
  refine (drExprValid a len cap zs w H.out).mono ?_
  rintro f w1 ⟨p, k, e, ea, ec, rfl, hcp, hre, hcn, hlv, hb1⟩
  obtain ⟨W, hW⟩ : ∃ W, (w1.alloc (.cells #[.slice k.va p.vars.length k.vc, .slice k.aa p.arrs.length k.ac, .slice k.ba p.body.length k.bc] 26)).alloc (.cells #[.int .i64 e.kind, .int .i64 e.value, .slice ea e.kids.length ec] 29) = W := ⟨_, rfl⟩
  have hB : Below w1.heap.size w1 W := by rw [← hW]; exact ((Below.refl _ w1).alloc (Nat.le_refl _) _).alloc (by simp) _
  have hz : W.heap.size = w1.heap.size + 2 := by rw [← hW]; simp
  have e0 : BoxP W w1.heap.size p k := by
    rw [← hW]; exact (BoxP.new w1 p k _).later (Below.heap_alloc _ _ _ (by simp))
  have e1 : BoxE W (w1.heap.size + 1) e ea ec := by
    have e1 := BoxE.new (w1.alloc (.cells #[.slice k.va p.vars.length k.vc, .slice k.aa p.arrs.length k.ac, .slice k.ba p.body.length k.bc] 26)) e ea ec 29
    rw [World.size_alloc] at e1
    rw [← hW]; exact e1
  have hs1 := hb1.size
  have HF : Hid (∀ v, Below W.heap.size W v → v.cell? ⟨w1.heap.size, 0, none⟩ = some (.slice k.va p.vars.length k.vc) ∧ v.cell? ⟨w1.heap.size, 1, none⟩ = some (.slice k.aa p.arrs.length k.ac) ∧ v.cell? ⟨w1.heap.size, 2, none⟩ = some (.slice k.ba p.body.length k.bc) ∧ v.cell? ⟨w1.heap.size + 1, 0, none⟩ = some (.int .i64 e.kind) ∧ v.cell? ⟨w1.heap.size + 1, 1, none⟩ = some (.int .i64 e.value) ∧ v.cell? ⟨w1.heap.size + 1, 2, none⟩ = some (.slice ea e.kids.length ec)) := fun v hv => by
    have bp := e0.below hv (by omega)
    have be := e1.below hv (by omega)
    exact ⟨bp.c0, bp.c1, bp.c2, be.c0, be.c1, be.c2⟩
  have HCP : Hid (∀ v, Below W.heap.size W v → CP v p k) := fun v hv => (hcp.below hB).below hv
  have HRE : Hid (∀ v, Below W.heap.size W v → RE v e ea ec) := fun v hv => (hre.below hB).below hv
  have HTW : Hid (∀ v, Below W.heap.size W v → TblO v) := fun v hv => ((HT.out.below hb1 HT.out.lt).below hB (HT.out.below hb1 HT.out.lt).lt).below hv ((HT.out.below hb1 HT.out.lt).below hB (HT.out.below hb1 HT.out.lt).lt).lt
  have HBW : Hid (∀ v, Below W.heap.size W v → Below w.heap.size w v) := fun v hv => (hb1.trans (hB.mono hs1)).trans (hv.mono (by omega))
  obtain ⟨p0, p1, p2, x0, x1, x2⟩ := HF.out W (Below.refl _ _)
  obtain ⟨q, hq⟩ : ∃ q, exprB p e = q := ⟨_, rfl⟩
  have HW := Lib.hid hW
  clear hW hB e0 e1 hcp hre hb1
  go_wp2_with (first | rw [HW.out] | fail)
  clear HW
  refine (iExprValidR p k e ea ec W (HTW.out W (Below.refl _ _)) (by omega) (HCP.out W (Below.refl _ _)) (HRE.out W (Below.refl _ _)) hcn).mono ?_
  rintro g w2 ⟨rfl, hb2⟩
  rw [hq]
  obtain ⟨p0, p1, p2, x0, x1, x2⟩ := HF.out w2 hb2
  have HB2 := Lib.hid hb2
  have hz2 := hb2.size
  clear hb2
  go_wp2_with fail
  refine (sExprValidR p k e ea ec w2 (HCP.out w2 HB2.out) (HRE.out w2 HB2.out)).mono ?_
  rintro g w3 ⟨rfl, hb3⟩
  rw [hq]
  have hb3' := HB2.out.trans (hb3.mono hz2)
  obtain ⟨p0, p1, p2, x0, x1, x2⟩ := HF.out w3 hb3'
  have HB3 := Lib.hid hb3'
  have hz3 := hb3'.size
  clear hb3 hb3'
  cases q
  case false =>
    go_wp2_with fail
    refine (sExprValidR p k e ea ec w3 (HCP.out w3 HB3.out) (HRE.out w3 HB3.out)).mono ?_
    rintro g w4 ⟨rfl, hb4⟩
    rw [hq]
    have HB4 := Lib.hid (HB3.out.trans (hb4.mono hz3))
    clear hb4
    go_wp2_with fail
    go_ret
    exact AnsB.of rfl (HBW.out _ HB4.out)
  case true =>
    obtain ⟨n, hnl⟩ : ∃ n, e.kids.length = n := ⟨_, rfl⟩
    have HNL := Lib.hid hnl
    have HRE3 := HRE.out w3 HB3.out
    have hnm : n ≤ maxLen := by
      obtain ⟨D, m, hD, h⟩ := HRE3
      cases m with
      | zero => exact h.elim
      | succ m =>
        obtain ⟨a', c', hcs, h1, h2, h3⟩ := h
        omega
    unfold maxLen at hnm
    rw [hnl] at x2 HF
    clear HRE3 hnl
    go_wp2_with fail
    go_loopw [6] (fun i wr => ∃ j : Nat, j ≤ n ∧ i = .int .i64 j ∧ Below W.heap.size W wr) (fun i _ => n - (intOf i).toNat)
    case atStart => exact ⟨0, Nat.zero_le _, rfl, HB3.out⟩
    case round =>
      obtain ⟨j, hj, rfl, hbr⟩ := hrel
      obtain ⟨p0, p1, p2, x0, x1, x2⟩ := HF.out wr hbr
      have HBR := Lib.hid hbr
      have hzr := hbr.size
      clear hbr
      by_cases hlt : j < n
      · obtain ⟨x, hx⟩ : ∃ x, e.kids[j]? = some x := ⟨e.kids[j]'(by rw [HNL.out]; exact hlt), List.getElem?_eq_getElem _⟩
        obtain ⟨b, o, xa, xc, rfl, hbl, r0, r1, r2, hrx⟩ := (HRE.out wr HBR.out).kid hx
        have HQX : Hid (exprB p x = true) := exprB_kid hq (List.mem_of_getElem? hx)
        have HCX : Hid (cntE x ≤ 1048578) := by
          have h1 := cntE_mem (List.mem_of_getElem? hx)
          rw [cntE_eq] at hcn
          show cntE x ≤ 1048578
          omega
        have HRX := Lib.hid hrx
        have HSa : Hid (wr.cell? ⟨w1.heap.size, 0, none⟩ = some (.slice k.va p.vars.length k.vc) ∧ wr.cell? ⟨w1.heap.size, 1, none⟩ = some (.slice k.aa p.arrs.length k.ac) ∧ wr.cell? ⟨w1.heap.size, 2, none⟩ = some (.slice k.ba p.body.length k.bc) ∧ wr.cell? ⟨w1.heap.size + 1, 2, none⟩ = some (.slice (some ⟨b, o, none⟩) n ec) ∧ wr.cell? ⟨b, o + j * 3, none⟩ = some (.int .i64 x.kind) ∧ wr.cell? ⟨b, o + j * 3 + 1, none⟩ = some (.int .i64 x.value) ∧ wr.cell? ⟨b, o + j * 3 + 2, none⟩ = some (.slice xa x.kids.length xc)) := ⟨p0, p1, p2, x2, r0, r1, r2⟩
        have HBRd : Hid (Below W.heap.size W wr.drew) := HBR.out.drew
        have hzrd : w.heap.size ≤ wr.drew.heap.size := by have := HBRd.out.size; omega
        have HRXd : Hid (RE wr.drew x xa xc) := by
          obtain ⟨D, m, hD, h⟩ := HRX.out
          exact ⟨D, m, hD, h.later fun _ _ => rfl⟩
        clear hrx hx
        go_wp2_with fail
        go_region_held3 (fun v => v.cell? ⟨w1.heap.size, 0, none⟩ = some (.slice k.va p.vars.length k.vc) ∧ v.cell? ⟨w1.heap.size, 1, none⟩ = some (.slice k.aa p.arrs.length k.ac) ∧ v.cell? ⟨w1.heap.size, 2, none⟩ = some (.slice k.ba p.body.length k.bc) ∧ v.cell? ⟨w1.heap.size + 1, 2, none⟩ = some (.slice (some ⟨b, o, none⟩) n ec) ∧ v.cell? ⟨b, o + j * 3, none⟩ = some (.int .i64 x.kind) ∧ v.cell? ⟨b, o + j * 3 + 1, none⟩ = some (.int .i64 x.value) ∧ v.cell? ⟨b, o + j * 3 + 2, none⟩ = some (.slice xa x.kids.length xc)) (first | (with_reducible assumption) | (with_reducible exact HSa.out) | exact HSa.out)
          ((go_at_call 7; first
            | (with_reducible refine (iExprValidR p k x xa xc wr (HTW.out wr HBR.out) (by omega) (HCP.out wr HBR.out) HRX.out HCX.out).mono ?_)
            | (with_reducible refine (iExprValidR p k x xa xc wr.drew (HTW.out _ HBRd.out) (by omega) (HCP.out _ HBRd.out) HRXd.out HCX.out).mono ?_)
            rintro g w5 ⟨rfl, hb5⟩
            rw [HQX.out]
            have hb5' : Below W.heap.size W w5 := (by first | exact HBR.out.trans (hb5.mono hzr) | exact HBRd.out.trans (hb5.mono hzr))
            have hS5 : w5.cell? ⟨w1.heap.size, 0, none⟩ = some (.slice k.va p.vars.length k.vc) ∧ w5.cell? ⟨w1.heap.size, 1, none⟩ = some (.slice k.aa p.arrs.length k.ac) ∧ w5.cell? ⟨w1.heap.size, 2, none⟩ = some (.slice k.ba p.body.length k.bc) ∧ w5.cell? ⟨w1.heap.size + 1, 2, none⟩ = some (.slice (some ⟨b, o, none⟩) n ec) ∧ w5.cell? ⟨b, o + j * 3, none⟩ = some (.int .i64 x.kind) ∧ w5.cell? ⟨b, o + j * 3 + 1, none⟩ = some (.int .i64 x.value) ∧ w5.cell? ⟨b, o + j * 3 + 2, none⟩ = some (.slice xa x.kids.length xc) := (by
              obtain ⟨p0, p1, p2, x0, x1, x2⟩ := HF.out w5 hb5'
              first
              | exact ⟨p0, p1, p2, x2, (World.cell?_of_block (w := wr) (hb5.block b hbl)).trans r0, (World.cell?_of_block (w := wr) (hb5.block b hbl)).trans r1, (World.cell?_of_block (w := wr) (hb5.block b hbl)).trans r2⟩
              | exact ⟨p0, p1, p2, x2, (World.cell?_of_block (w := wr.drew) (hb5.block b hbl)).trans r0, (World.cell?_of_block (w := wr.drew) (hb5.block b hbl)).trans r1, (World.cell?_of_block (w := wr.drew) (hb5.block b hbl)).trans r2⟩)))
        have HB5 := Lib.hid hb5'
        clear hb5 hb5' hS5
        go_wp2_with fail
        go_roundw
        case rel => exact ⟨j + 1, by omega, by go_num, HB5.out⟩
        case measure => simp [intOf]; omega
      · obtain rfl : j = n := by omega
        go_wp2_with fail
        go_ret
        exact AnsB.of rfl (HBW.out _ HBR.out)
end Go.Proofs.YtlhdgoindknpfaaDoor

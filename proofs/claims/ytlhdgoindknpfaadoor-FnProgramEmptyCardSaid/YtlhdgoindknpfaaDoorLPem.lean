/- The law FnProgramEmpty, walked: for every list of bytes the call returns true; nothing that was there has changed. Condition: the table of operands lies as the program's text lays it. -/
import Derived.Test.YtlhdgoindknpfaaDoorDrD
import Derived.Test.YtlhdgoindknpfaaDoorValC
import Derived.Test.YtlhdgoindknpfaaDoorImQ
namespace Go.Proofs.YtlhdgoindknpfaaDoor
open Go.RowKit
set_option linter.unusedVariables false

theorem progV_nil (vs rs : List Int) : progV ⟨vs, rs, []⟩ = headsB ⟨vs, rs, []⟩ := by
  unfold progV
  simp [cntB]

theorem sProgramValidQ (vs rs : List Int) (k : PC) (n : Nat) (D : Nat → Prop) (w : World) (hp : IsP w D n ⟨vs, rs, []⟩ k) (hl : ∀ k, D k → k < w.heap.size) :
    Calls Tryd.prog 10 #[.agg #[.slice k.va vs.length k.vc, .slice k.aa rs.length k.ac, .slice k.ba 0 k.bc]] w (AnsB (headsB ⟨vs, rs, []⟩) w) := by
  rw [← progV_nil]
  exact sProgramValid_one ⟨vs, rs, []⟩ k n D w hp hl

theorem iExprValidQ (p : Pg) (k : PC) (e : E) (a : Option Addr) (c : Nat) (w : World) (hT : TblO w) (hw : 2 ≤ w.heap.size) (hp : CP w p k) (h : RE w e a c) (hc : cntE e ≤ 1048578) :
    Calls Tryd.prog 7 #[aggP p k, .agg #[.int .i64 e.kind, .int .i64 e.value, .slice a e.kids.length c]] w (AnsB (exprB p e) w) := by
  obtain ⟨D, n, hD, hp, hs⟩ := hp
  obtain ⟨D', n', hD', h⟩ := h
  exact iExprValid_one p k (max n n') e a c (fun j => D j ∨ D' j) w hT hw ((hp.mono (fun _ _ => rfl) fun _ h => .inl h).deeper (Nat.le_max_left _ _)) ((h.mono (fun _ _ => rfl) fun _ h => .inr h).deeper' (Nat.le_max_right _ _)) (fun j hj => hj.elim (hD j) (hD' j)) (by omega)

set_option maxRecDepth 100000 in
set_option maxHeartbeats 4000000 in
theorem law_FnProgramEmpty (a : Option Addr) (len cap : Nat) (zs : List Int) (w : World) (hT : TblO w) (hw : 2 ≤ w.heap.size) (h : IsRow .u8 w a len cap zs) :
    Calls Tryd.prog 4 #[.slice a len cap] w (AnsB true w) := by
  have H := Lib.hid h
  have HT := Lib.hid hT
  have hlen := h.len
  clear h hT
  go_enter Tryd.func4, Tryd.ntmps4
  by_cases hn : 1048576 < len
  case pos =>
    go_wp2_with fail
    go_ret
    exact AnsB.of rfl (Below.refl _ _)
  go_wp2_with fail
  refine (drExprValid a len cap zs w H.out).mono ?_
  rintro f w1 ⟨p, k, e, ea, ec, rfl, hcp, hre, hcn, hlv, hb1⟩
  simp only [aggP]
  obtain ⟨W, hW⟩ : ∃ W, ((w1.alloc (.cells #[.slice k.va p.vars.length k.vc, .slice k.aa p.arrs.length k.ac, .slice k.ba p.body.length k.bc] 26)).alloc (.cells #[.int .i64 e.kind, .int .i64 e.value, .slice ea e.kids.length ec] 29)).alloc (.cells #[.slice k.va p.vars.length k.vc, .slice k.aa p.arrs.length k.ac, .slice none 0 0] 26) = W := ⟨_, rfl⟩
  have hB : Below w1.heap.size w1 W := by rw [← hW]; exact (((Below.refl _ w1).alloc (Nat.le_refl _) _).alloc (by simp) _).alloc (by simp; omega) _
  have hz : W.heap.size = w1.heap.size + 3 := by rw [← hW]; simp
  have e0 : BoxP W w1.heap.size p k := by
    rw [← hW]; exact ((BoxP.new w1 p k _).later (Below.heap_alloc _ _ _ (by simp))).later (Below.heap_alloc _ _ _ (by simp; omega))
  have e1 : BoxE W (w1.heap.size + 1) e ea ec := by
    have e1 := BoxE.new (w1.alloc (.cells #[.slice k.va p.vars.length k.vc, .slice k.aa p.arrs.length k.ac, .slice k.ba p.body.length k.bc] 26)) e ea ec 29
    rw [World.size_alloc] at e1
    rw [← hW]; exact e1.later (Below.heap_alloc _ _ _ (by simp))
  have e2 : BoxP W (w1.heap.size + 1 + 1) ⟨p.vars, p.arrs, []⟩ ⟨k.va, k.vc, k.aa, k.ac, none, 0⟩ := by
    have e2 := BoxP.new ((w1.alloc (.cells #[.slice k.va p.vars.length k.vc, .slice k.aa p.arrs.length k.ac, .slice k.ba p.body.length k.bc] 26)).alloc (.cells #[.int .i64 e.kind, .int .i64 e.value, .slice ea e.kids.length ec] 29)) ⟨p.vars, p.arrs, []⟩ ⟨k.va, k.vc, k.aa, k.ac, none, 0⟩ 26
    rw [World.size_alloc, World.size_alloc] at e2
    rw [← hW]; exact e2
  have hs1 := hb1.size
  have HF : Hid (∀ v, Below W.heap.size W v → v.cell? ⟨w1.heap.size, 0, none⟩ = some (.slice k.va p.vars.length k.vc) ∧ v.cell? ⟨w1.heap.size, 1, none⟩ = some (.slice k.aa p.arrs.length k.ac) ∧ v.cell? ⟨w1.heap.size, 2, none⟩ = some (.slice k.ba p.body.length k.bc) ∧ v.cell? ⟨w1.heap.size + 1, 0, none⟩ = some (.int .i64 e.kind) ∧ v.cell? ⟨w1.heap.size + 1, 1, none⟩ = some (.int .i64 e.value) ∧ v.cell? ⟨w1.heap.size + 1, 2, none⟩ = some (.slice ea e.kids.length ec) ∧ v.cell? ⟨w1.heap.size + 1 + 1, 0, none⟩ = some (.slice k.va p.vars.length k.vc) ∧ v.cell? ⟨w1.heap.size + 1 + 1, 1, none⟩ = some (.slice k.aa p.arrs.length k.ac) ∧ v.cell? ⟨w1.heap.size + 1 + 1, 2, none⟩ = some (.slice none 0 0)) := fun v hv => by
    have bp := e0.below hv (by omega)
    have be := e1.below hv (by omega)
    have bq := e2.below hv (by omega)
    exact ⟨bp.c0, bp.c1, bp.c2, be.c0, be.c1, be.c2, bq.c0, bq.c1, bq.c2⟩
  have HCP : Hid (∀ v, Below W.heap.size W v → CP v p k) := fun v hv => (hcp.below hB).below hv
  have HRQ : Hid (∀ v, Below W.heap.size W v → RP v ⟨p.vars, p.arrs, []⟩ ⟨k.va, k.vc, k.aa, k.ac, none, 0⟩) := fun v hv => by
    obtain ⟨D, n, hD, hp, _⟩ := (hcp.below hB).below hv
    exact ⟨D, n, hD, hp.1, hp.2.1, Nat.le_refl _, by show 0 ≤ maxLen; omega, fun i x hx => by simp at hx⟩
  have HRE : Hid (∀ v, Below W.heap.size W v → RE v e ea ec) := fun v hv => (hre.below hB).below hv
  have HTW : Hid (∀ v, Below W.heap.size W v → TblO v) := fun v hv => ((HT.out.below hb1 HT.out.lt).below hB (HT.out.below hb1 HT.out.lt).lt).below hv ((HT.out.below hb1 HT.out.lt).below hB (HT.out.below hb1 HT.out.lt).lt).lt
  have HBW : Hid (∀ v, Below W.heap.size W v → Below w.heap.size w v) := fun v hv => (hb1.trans (hB.mono hs1)).trans (hv.mono (by omega))
  obtain ⟨p0, p1, p2, x0, x1, x2, q0, q1, q2⟩ := HF.out W (Below.refl _ _)
  obtain ⟨q, hq⟩ : ∃ q, headsB ⟨p.vars, p.arrs, []⟩ = q := ⟨_, rfl⟩
  have HQ := Lib.hid hq
  have HW := Lib.hid hW
  clear hW hB e0 e1 e2 hcp hre hb1 hq
  go_wp2_with (first | rw [HW.out] | fail)
  clear HW
  obtain ⟨D, n, hD, hip⟩ := HRQ.out W (Below.refl _ _)
  with_reducible refine (iProgramValid_nil' p.vars p.arrs ⟨k.va, k.vc, k.aa, k.ac, none, 0⟩ n D W hip hD (by omega)).mono ?_
  rintro g w2 ⟨rfl, hb2⟩
  rw [HQ.out]
  clear hip hD
  obtain ⟨p0, p1, p2, x0, x1, x2, q0, q1, q2⟩ := HF.out w2 hb2
  have HB2 := Lib.hid hb2
  have hz2 := hb2.size
  clear hb2
  cases q
  case false =>
    go_wp2_with fail
    obtain ⟨D, n, hD, hip⟩ := HRQ.out w2 HB2.out
    with_reducible refine (sProgramValidQ p.vars p.arrs ⟨k.va, k.vc, k.aa, k.ac, none, 0⟩ n D w2 hip hD).mono ?_
    rintro g w3 ⟨rfl, hb3⟩
    rw [HQ.out]
    clear hip hD
    have hb3' := HB2.out.trans (hb3.mono hz2)
    obtain ⟨p0, p1, p2, x0, x1, x2, q0, q1, q2⟩ := HF.out w3 hb3'
    have HB3 := Lib.hid hb3'
    have hz3 := hb3'.size
    clear hb3 hb3'
    go_wp2_with fail
    have hq' : headsB p = false := HQ.out
    have he' : exprB p e = false := by unfold exprB; rw [hq']; rfl
    obtain ⟨D, n, hD, hip, hsp⟩ := HCP.out w3 HB3.out
    with_reducible refine (iProgramValid_no p k n D w3 hip hD hq').mono ?_
    rintro g w4 ⟨rfl, hb4⟩
    clear hip hD hsp
    have hb4' := HB3.out.trans (hb4.mono hz3)
    obtain ⟨p0, p1, p2, x0, x1, x2, q0, q1, q2⟩ := HF.out w4 hb4'
    have HB4 := Lib.hid hb4'
    have hz4 := hb4'.size
    clear hb4 hb4'
    go_wp2_with fail
    with_reducible refine (iExprValidQ p k e ea ec w4 (HTW.out w4 HB4.out) (by omega) (HCP.out w4 HB4.out) (HRE.out w4 HB4.out) hcn).mono ?_
    rintro g w5 ⟨rfl, hb5⟩
    rw [he']
    have hb5' := HB4.out.trans (hb5.mono hz4)
    obtain ⟨p0, p1, p2, x0, x1, x2, q0, q1, q2⟩ := HF.out w5 hb5'
    have HB5 := Lib.hid hb5'
    have hz5 := hb5'.size
    clear hb5 hb5'
    go_wp2_with fail
    obtain ⟨D, n, hD, hip⟩ := HRQ.out w5 HB5.out
    with_reducible refine (iCountStmts_nil' p.vars p.arrs ⟨k.va, k.vc, k.aa, k.ac, none, 0⟩ n D w5 hip hD (by omega)).mono ?_
    rintro g w6 ⟨rfl, hb6⟩
    clear hip hD
    have HB6 := Lib.hid (HB5.out.trans (hb6.mono hz5))
    clear hb6
    go_wp2_with fail
    go_ret
    exact AnsB.of rfl (HBW.out _ HB6.out)
  case true =>
    go_wp2_with fail
    obtain ⟨D, n, hD, hip⟩ := HRQ.out w2 HB2.out
    with_reducible refine (sProgramValidQ p.vars p.arrs ⟨k.va, k.vc, k.aa, k.ac, none, 0⟩ n D w2 hip hD).mono ?_
    rintro g w3 ⟨rfl, hb3⟩
    rw [HQ.out]
    clear hip hD
    have hb3' := HB2.out.trans (hb3.mono hz2)
    obtain ⟨p0, p1, p2, x0, x1, x2, q0, q1, q2⟩ := HF.out w3 hb3'
    have HB3 := Lib.hid hb3'
    have hz3 := hb3'.size
    clear hb3 hb3'
    go_wp2_with fail
    obtain ⟨D, n, hD, hip⟩ := HRQ.out w3 HB3.out
    with_reducible refine (iCountStmts_nil' p.vars p.arrs ⟨k.va, k.vc, k.aa, k.ac, none, 0⟩ n D w3 hip hD (by omega)).mono ?_
    rintro g w4 ⟨rfl, hb4⟩
    clear hip hD
    have HB4 := Lib.hid (HB3.out.trans (hb4.mono hz3))
    clear hb4
    go_wp2_with fail
    go_ret
    exact AnsB.of rfl (HBW.out _ HB4.out)
end Go.Proofs.YtlhdgoindknpfaaDoor

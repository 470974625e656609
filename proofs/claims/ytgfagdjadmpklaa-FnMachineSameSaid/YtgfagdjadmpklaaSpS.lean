/- The model's judgement of statements: l2Stmt and l2Block answer what the plain functions say; nothing that was there has changed. -/
import Derived.Test.YtgfagdjadmpklaaSpP
import Derived.Test.YtgfagdjadmpklaaSpR
namespace Go.Proofs.Ytgfagdjadmpklaa
open Go.RowKit
set_option linter.unusedVariables false

def AllToS (P : S → Bool) (es : List S) (k : Nat) : Prop := ∀ j x, j < k → es[j]? = some x → P x = true
theorem AllToS.all {P : S → Bool} {es : List S} {k : Nat} (h : AllToS P es k) (hk : es.length ≤ k) : es.all P = true :=
  List.all_eq_true.2 fun x hx => by
    obtain ⟨i, hi, rfl⟩ := List.getElem_of_mem hx
    exact h i _ (by omega) (List.getElem?_eq_getElem hi)
theorem all_noS {P : S → Bool} {es : List S} {k : Nat} {x : S} (h : es[k]? = some x) (hp : P x = false) : es.all P = false := by
  cases hq : es.all P
  · rfl
  · have := List.all_eq_true.1 hq x (List.mem_of_getElem? h)
    rw [hp] at this; cases this

set_option maxRecDepth 100000 in
set_option maxHeartbeats 8000000 in
theorem sBlock_of (p : Pg) (k : PC) (d : Nat) (ih : ∀ (n : Nat) (s : S) (ks : SC) (D : Nat → Prop) (w : World), IsS w D n s ks → (∀ k, D k → k < w.heap.size) →
      Calls Try.prog 116 #[aggP p k, aggS s ks, .int .i64 (d : Int)] w (AnsB (stmtB p.vars.length p.arrs.length d s) w))
    (n : Nat) (ss : List S) (a : Option Addr) (cap : Nat) (D : Nat → Prop) (w : World) (hc : ss.length ≤ cap) (hm : cap ≤ maxLen) (h : SsAt w D (IsS w D n) ss a) (hl : ∀ k, D k → k < w.heap.size) (m : Int) (hm0 : m = (d : Int)) :
    Calls Try.prog 107 #[aggP p k, .slice a ss.length cap, .int .i64 m] w (AnsB (ss.all (stmtB p.vars.length p.arrs.length d)) w) := by
  unfold maxLen at hm
  subst hm0
  obtain ⟨len, hlen⟩ : ∃ len, ss.length = len := ⟨_, rfl⟩
  have HLEN := Lib.hid hlen
  rw [hlen] at hc ⊢
  have H := Lib.hid h
  have IH := Lib.hid ih
  clear h ih hlen
  go_enter Try.func107, Try.ntmps107
  go_wp2_with fail
  obtain ⟨W, hW⟩ : ∃ W, w.alloc (.cells (arrP p k) 55) = W := ⟨_, rfl⟩
  have hB0 : Below w.heap.size w W := by rw [← hW]; exact (Below.refl _ w).alloc (Nat.le_refl _) _
  have hz : W.heap.size = w.heap.size + 1 := by rw [← hW]; simp
  have e0 : BoxP W w.heap.size p k := by rw [← hW]; exact BoxP.new w p k _
  unfold arrP at hW
  rw [hW]
  clear hW
  have HB0 := Lib.hid hB0
  have HP := Lib.hid e0
  clear hB0 e0
  go_loopw [7] (fun i wr => ∃ j : Nat, j ≤ len ∧ i = .int .i64 j ∧ AllToS (stmtB p.vars.length p.arrs.length d) ss j ∧ Below W.heap.size W wr) (fun i _ => len - (intOf i).toNat)
  case atStart => exact ⟨0, Nat.zero_le _, rfl, fun j x hj => absurd hj (Nat.not_lt_zero _), Below.refl _ _⟩
  case round =>
    obtain ⟨j, hj, rfl, hA, hB⟩ := hrel
    have HA := Lib.hid hA
    have HB := Lib.hid hB
    have hsz := hB.size
    have bp := HP.out.below hB (by omega)
    have q0 := bp.c0
    have q1 := bp.c1
    have q2 := bp.c2
    clear hA hB
    by_cases hlt : j < len
    · obtain ⟨x, hx⟩ : ∃ x, ss[j]? = some x := ⟨ss[j]'(by rw [HLEN.out]; exact hlt), List.getElem?_eq_getElem _⟩
      obtain ⟨b, o, kx, rfl, hbl, hrow, hE⟩ := H.out j x hx
      have hst : Stand D w wr := Stand.trans (Stand.of_below HB0.out hl) fun i hi => HB.out.block i (by have := hl i hi; omega)
      have hrow2 := hrow.stand (hst b hbl)
      have HRW := Lib.hid hrow2
      obtain ⟨r0, r1, r2, r3, r4, r5, r6, r7, r8, r9, r10⟩ := hrow2
      have HE : Hid (IsS wr.drew D n x kx) := hE.later (Stand.trans hst fun _ _ => rfl)
      have HDW : Hid (∀ i, D i → i < wr.drew.heap.size) := fun i hi => Nat.lt_of_lt_of_le (hl i hi) (by show w.heap.size ≤ wr.heap.size; omega)
      have hbw : b < wr.heap.size := by have := hl b hbl; omega
      have HBP := Lib.hid bp
      have HS : Hid (∀ v, Below wr.drew.heap.size wr.drew v → v.cell? ⟨w.heap.size, 0, none⟩ = some (.slice k.va p.vars.length k.vc) ∧ v.cell? ⟨w.heap.size, 1, none⟩ = some (.slice k.aa p.arrs.length k.ac) ∧ v.cell? ⟨w.heap.size, 2, none⟩ = some (.slice k.ba p.body.length k.bc) ∧ v.cell? ⟨b, o + j * 11, none⟩ = some (.int .i64 x.kind) ∧ v.cell? ⟨b, o + j * 11 + 1, none⟩ = some (.int .i64 x.target) ∧ v.cell? ⟨b, o + j * 11 + 2, none⟩ = some (.int .i64 x.index.kind) ∧ v.cell? ⟨b, o + j * 11 + 3, none⟩ = some (.int .i64 x.index.value) ∧ v.cell? ⟨b, o + j * 11 + 4, none⟩ = some (.slice kx.ia x.index.kids.length kx.ic) ∧ v.cell? ⟨b, o + j * 11 + 5, none⟩ = some (.int .i64 x.value.kind) ∧ v.cell? ⟨b, o + j * 11 + 6, none⟩ = some (.int .i64 x.value.value) ∧ v.cell? ⟨b, o + j * 11 + 7, none⟩ = some (.slice kx.va x.value.kids.length kx.vc) ∧ v.cell? ⟨b, o + j * 11 + 8, none⟩ = some (.int .i64 x.count) ∧ v.cell? ⟨b, o + j * 11 + 9, none⟩ = some (.slice kx.ba x.body.length kx.bc) ∧ v.cell? ⟨b, o + j * 11 + 10, none⟩ = some (.slice kx.ea x.els.length kx.ec)) := fun v hb => by
        have h1 := HBP.out.later (hb.block w.heap.size (by show w.heap.size < wr.heap.size; omega))
        have h2 := HRW.out.stand (hb.block b hbw)
        exact ⟨h1.c0, h1.c1, h1.c2, h2.r0, h2.r1, h2.r2, h2.r3, h2.r4, h2.r5, h2.r6, h2.r7, h2.r8, h2.r9, h2.r10⟩
      have HX := Lib.hid hx
      have i0 : (0 : Int) ≤ (j : Int) := by omega
      have i1 : (j : Int) < (len : Int) := by omega
      clear hE hx hst hrow H bp
      cases hq : stmtB p.vars.length p.arrs.length d x
      case false =>
        have HN : Hid (false = ss.all (stmtB p.vars.length p.arrs.length d)) := (all_noS HX.out hq).symm
        go_wp2_with fail
        go_region_held3 (fun v => v.cell? ⟨w.heap.size, 0, none⟩ = some (.slice k.va p.vars.length k.vc) ∧ v.cell? ⟨w.heap.size, 1, none⟩ = some (.slice k.aa p.arrs.length k.ac) ∧ v.cell? ⟨w.heap.size, 2, none⟩ = some (.slice k.ba p.body.length k.bc) ∧ v.cell? ⟨b, o + j * 11, none⟩ = some (.int .i64 x.kind) ∧ v.cell? ⟨b, o + j * 11 + 1, none⟩ = some (.int .i64 x.target) ∧ v.cell? ⟨b, o + j * 11 + 2, none⟩ = some (.int .i64 x.index.kind) ∧ v.cell? ⟨b, o + j * 11 + 3, none⟩ = some (.int .i64 x.index.value) ∧ v.cell? ⟨b, o + j * 11 + 4, none⟩ = some (.slice kx.ia x.index.kids.length kx.ic) ∧ v.cell? ⟨b, o + j * 11 + 5, none⟩ = some (.int .i64 x.value.kind) ∧ v.cell? ⟨b, o + j * 11 + 6, none⟩ = some (.int .i64 x.value.value) ∧ v.cell? ⟨b, o + j * 11 + 7, none⟩ = some (.slice kx.va x.value.kids.length kx.vc) ∧ v.cell? ⟨b, o + j * 11 + 8, none⟩ = some (.int .i64 x.count) ∧ v.cell? ⟨b, o + j * 11 + 9, none⟩ = some (.slice kx.ba x.body.length kx.bc) ∧ v.cell? ⟨b, o + j * 11 + 10, none⟩ = some (.slice kx.ea x.els.length kx.ec)) (first | assumption | exact ⟨q0, q1, q2, r0, r1, r2, r3, r4, r5, r6, r7, r8, r9, r10⟩)
          (first | (go_at_call 116; refine (IH.out n x kx D _ HE.out HDW.out).mono ?_; rintro g w2 ⟨rfl, hb2⟩; have hS2 := HS.out w2 hb2; have HB2 : Hid (Below W.heap.size W w2) := (HB.out.drew.trans (hb2.mono hsz)); clear hb2; rw [hq]))
        all_goals
          go_wp2_with fail
          go_ret
          exact AnsB.of HN.out (HB0.out.trans (HB2.out.mono (by omega)))
      case true =>
        have HA2 : Hid (AllToS (stmtB p.vars.length p.arrs.length d) ss (j + 1)) := fun i y hi hy => by
          by_cases hij : i = j
          · subst hij
            rw [HX.out] at hy
            cases hy
            exact hq
          · exact HA.out i y (by omega) hy
        go_wp2_with fail
        go_region_held3 (fun v => v.cell? ⟨w.heap.size, 0, none⟩ = some (.slice k.va p.vars.length k.vc) ∧ v.cell? ⟨w.heap.size, 1, none⟩ = some (.slice k.aa p.arrs.length k.ac) ∧ v.cell? ⟨w.heap.size, 2, none⟩ = some (.slice k.ba p.body.length k.bc) ∧ v.cell? ⟨b, o + j * 11, none⟩ = some (.int .i64 x.kind) ∧ v.cell? ⟨b, o + j * 11 + 1, none⟩ = some (.int .i64 x.target) ∧ v.cell? ⟨b, o + j * 11 + 2, none⟩ = some (.int .i64 x.index.kind) ∧ v.cell? ⟨b, o + j * 11 + 3, none⟩ = some (.int .i64 x.index.value) ∧ v.cell? ⟨b, o + j * 11 + 4, none⟩ = some (.slice kx.ia x.index.kids.length kx.ic) ∧ v.cell? ⟨b, o + j * 11 + 5, none⟩ = some (.int .i64 x.value.kind) ∧ v.cell? ⟨b, o + j * 11 + 6, none⟩ = some (.int .i64 x.value.value) ∧ v.cell? ⟨b, o + j * 11 + 7, none⟩ = some (.slice kx.va x.value.kids.length kx.vc) ∧ v.cell? ⟨b, o + j * 11 + 8, none⟩ = some (.int .i64 x.count) ∧ v.cell? ⟨b, o + j * 11 + 9, none⟩ = some (.slice kx.ba x.body.length kx.bc) ∧ v.cell? ⟨b, o + j * 11 + 10, none⟩ = some (.slice kx.ea x.els.length kx.ec)) (first | assumption | exact ⟨q0, q1, q2, r0, r1, r2, r3, r4, r5, r6, r7, r8, r9, r10⟩)
          (first | (go_at_call 116; refine (IH.out n x kx D _ HE.out HDW.out).mono ?_; rintro g w2 ⟨rfl, hb2⟩; have hS2 := HS.out w2 hb2; have HB2 : Hid (Below W.heap.size W w2) := (HB.out.drew.trans (hb2.mono hsz)); clear hb2; rw [hq]))
        all_goals
          go_wp2_with fail
          go_roundw
          case rel => exact ⟨j + 1, by omega, by go_num, HA2.out, HB2.out⟩
          case measure => simp [intOf]; omega
    · obtain rfl : j = len := by omega
      have HN : Hid (true = ss.all (stmtB p.vars.length p.arrs.length d)) := (HA.out.all (by rw [HLEN.out]; exact Nat.le_refl _)).symm
      clear H
      go_wp2_with fail
      go_ret
      exact AnsB.of HN.out (HB0.out.trans (HB.out.mono (by omega)))

set_option maxRecDepth 100000 in
set_option maxHeartbeats 16000000 in
theorem sStmt_succ (p : Pg) (k : PC) (hnv : p.vars.length ≤ maxLen) (hna : p.arrs.length ≤ maxLen) (d : Nat) (hd : d ≤ 5) (hBl : ∀ (n : Nat) (ss : List S) (a : Option Addr) (cap : Nat) (D : Nat → Prop) (w : World), ss.length ≤ cap → cap ≤ maxLen → SsAt w D (IsS w D n) ss a → (∀ k, D k → k < w.heap.size) → ∀ m : Int, m = (d : Int) →
      Calls Try.prog 107 #[aggP p k, .slice a ss.length cap, .int .i64 m] w (AnsB (ss.all (stmtB p.vars.length p.arrs.length d)) w))
    (n : Nat) (s : S) (ks : SC) (D : Nat → Prop) (w : World) (h : IsS w D n s ks) (hl : ∀ k, D k → k < w.heap.size) (m : Int) (hm0 : m = (d : Int) + 1) :
    Calls Try.prog 116 #[aggP p k, aggS s ks, .int .i64 m] w (AnsB (stmtB p.vars.length p.arrs.length (d + 1) s) w) := by
  cases n with
  | zero => exact h.elim
  | succ n =>
  obtain ⟨hi, hv, hbc, hbm, hbat, hec, hem, heat⟩ := h
  obtain ⟨_, _, _, _, _, hi1, hi2⟩ := hi.shape
  obtain ⟨_, _, _, _, _, hv1, hv2⟩ := hv.shape
  have hIm : s.index.kids.length ≤ maxLen := by
    obtain ⟨a, c, hcs, h1, h2, _⟩ : ∃ a c, cellsI s.index ks.ia ks.ic = [.int .i64 s.index.kind, .int .i64 s.index.value, .slice a s.index.kids.length c] ∧ s.index.kids.length ≤ c ∧ c ≤ maxLen ∧ True := by
      cases n with
      | zero => exact hi.elim
      | succ n => obtain ⟨a, c, h0, h1, h2, _⟩ := hi; exact ⟨a, c, h0, h1, h2, trivial⟩
    exact Nat.le_trans h1 h2
  have hVm : s.value.kids.length ≤ maxLen := by
    obtain ⟨a, c, hcs, h1, h2, _⟩ : ∃ a c, cellsI s.value ks.va ks.vc = [.int .i64 s.value.kind, .int .i64 s.value.value, .slice a s.value.kids.length c] ∧ s.value.kids.length ≤ c ∧ c ≤ maxLen ∧ True := by
      cases n with
      | zero => exact hv.elim
      | succ n => obtain ⟨a, c, h0, h1, h2, _⟩ := hv; exact ⟨a, c, h0, h1, h2, trivial⟩
    exact Nat.le_trans h1 h2
  have hBm := Nat.le_trans hbc hbm
  have hEm := Nat.le_trans hec hem
  have HI := Lib.hid hi
  have HV := Lib.hid hv
  have HBA := Lib.hid hbat
  have HEA := Lib.hid heat
  have HBL := Lib.hid hBl
  have HBC := Lib.hid hbc
  have HBM := Lib.hid hbm
  have HEC := Lib.hid hec
  have HEM := Lib.hid hem
  have HIM := Lib.hid hIm
  have HVM := Lib.hid hVm
  have HBMM := Lib.hid hBm
  have HEMM := Lib.hid hEm
  have HM : Hid (m - 1 = (d : Int)) := by show m - 1 = (d : Int); omega
  have hd1 : decide (m < 1) = false := by simp; omega
  have hd2 : (1 : Int) ≤ m := by omega
  have hd3 : m ≤ 6 := by omega
  unfold maxLen at hnv hna
  clear hi hv hbat heat hBl hbc hbm hec hem hIm hVm hBm hEm hi1 hi2 hv1 hv2 hm0
  obtain ⟨W, hW⟩ : ∃ W, W = ((w.alloc (.cells #[.slice k.va p.vars.length k.vc, .slice k.aa p.arrs.length k.ac, .slice k.ba p.body.length k.bc] 55)).alloc (.cells (arrS s ks) 107)) := ⟨_, rfl⟩
  have hBW : Below w.heap.size w W := by rw [hW]; exact ((Below.refl _ w).alloc (Nat.le_refl _) _).alloc (by simp) _
  have hz : W.heap.size = w.heap.size + 2 := by rw [hW]; simp
  have e0 : BoxP W w.heap.size p k := by rw [hW]; exact (BoxP.new w p k _).later (Below.heap_alloc _ _ _ (by simp))
  have e1 : BoxS W (w.heap.size + 1) s ks := by
    have e1 := BoxS.new (w.alloc (.cells #[.slice k.va p.vars.length k.vc, .slice k.aa p.arrs.length k.ac, .slice k.ba p.body.length k.bc] 55)) s ks 107
    rw [World.size_alloc] at e1
    rw [hW]; exact e1
  have HBOX : Hid (∀ u, Below W.heap.size W u → u.cell? ⟨w.heap.size, 0, none⟩ = some (.slice k.va p.vars.length k.vc) ∧ u.cell? ⟨w.heap.size, 1, none⟩ = some (.slice k.aa p.arrs.length k.ac) ∧ u.cell? ⟨w.heap.size, 2, none⟩ = some (.slice k.ba p.body.length k.bc) ∧ u.cell? ⟨w.heap.size + 1, 0, none⟩ = some (.int .i64 s.kind) ∧ u.cell? ⟨w.heap.size + 1, 1, none⟩ = some (.int .i64 s.target) ∧ u.cell? ⟨w.heap.size + 1, 2, none⟩ = some (.int .i64 s.index.kind) ∧ u.cell? ⟨w.heap.size + 1, 3, none⟩ = some (.int .i64 s.index.value) ∧ u.cell? ⟨w.heap.size + 1, 4, none⟩ = some (.slice ks.ia s.index.kids.length ks.ic) ∧ u.cell? ⟨w.heap.size + 1, 5, none⟩ = some (.int .i64 s.value.kind) ∧ u.cell? ⟨w.heap.size + 1, 6, none⟩ = some (.int .i64 s.value.value) ∧ u.cell? ⟨w.heap.size + 1, 7, none⟩ = some (.slice ks.va s.value.kids.length ks.vc) ∧ u.cell? ⟨w.heap.size + 1, 8, none⟩ = some (.int .i64 s.count) ∧ u.cell? ⟨w.heap.size + 1, 9, none⟩ = some (.slice ks.ba s.body.length ks.bc) ∧ u.cell? ⟨w.heap.size + 1, 10, none⟩ = some (.slice ks.ea s.els.length ks.ec)) := fun u hb => by
    have h1 := e0.below hb (by omega)
    have h2 := e1.below hb (by omega)
    exact ⟨h1.c0, h1.c1, h1.c2, h2.c0, h2.c1, h2.c2, h2.c3, h2.c4, h2.c5, h2.c6, h2.c7, h2.c8, h2.c9, h2.c10⟩
  have HST : Hid (∀ u, Below W.heap.size W u → Stand D w u) := fun u hb => Stand.trans (Stand.of_below hBW hl) fun i hi => hb.block i (by have := hl i hi; omega)
  have HDL : Hid (∀ u, Below W.heap.size W u → ∀ j, D j → j < u.heap.size) := fun u hb j hj => by have := hl j hj; have := hb.size; omega
  have HW := Lib.hid hBW
  unfold arrS at hW
  clear hBW e0 e1
  go_enter Try.func116, Try.ntmps116
  go_wp2_with fail
  rw [← hW]
  clear hW
  refine (sParts_any s ks W HIM.out HVM.out HBMM.out HEMM.out).mono ?_
  rintro g w1 ⟨rfl, hb1⟩
  have B1 := Lib.hid hb1
  obtain ⟨p0, p1, p2, c0, c1, c2, c3, c4, c5, c6, c7, c8, c9, c10⟩ := HBOX.out w1 hb1
  have hs1 := hb1.size
  clear hb1
  cases hq : partsB s
  case false =>
    have HN : Hid (false = stmtB p.vars.length p.arrs.length (d + 1) s) := by
      show false = _
      simp [stmtB, nodeSB, hq]
    go_wp2_with fail
    go_ret
    exact AnsB.of HN.out (HW.out.trans (B1.out.mono (by omega)))
  case true =>
  have HQ := Lib.hid hq
  clear hq
  have hkind : s.kind = 1 ∨ s.kind = 5 ∨ s.kind = 2 ∨ s.kind = 3 ∨ s.kind = 4 ∨ (s.kind ≠ 1 ∧ s.kind ≠ 5 ∧ s.kind ≠ 2 ∧ s.kind ≠ 3 ∧ s.kind ≠ 4) := by omega
  have HEMPTY : Hid (s.kind ≠ 3 → s.kind ≠ 4 → s.body = [] ∧ s.els = []) := fun h3 h4 => by
    have h := HQ.out
    unfold partsB blockK at h
    simp [h3, h4] at h
    exact ⟨h.1.1, h.1.2⟩
  have HEMPTY4 : Hid (s.kind = 4 → s.els = []) := fun h4 => by
    have h := HQ.out
    unfold partsB blockK at h
    simp [h4] at h
    exact h.2.1.1.1.1
  rcases hkind with hk | hk | hk | hk | hk | hk
  · have k1 : (s.kind == 1) = true := by rw [hk]; rfl
    have k5 : (s.kind == 5) = false := by rw [hk]; rfl
    have k2 : (s.kind == 2) = false := by rw [hk]; rfl
    have k3 : (s.kind == 3) = false := by rw [hk]; rfl
    have k4 : (s.kind == 4) = false := by rw [hk]; rfl
    have HKN : Hid (stmtB p.vars.length p.arrs.length (d + 1) s = (decide (0 ≤ s.target) && decide (s.target < p.vars.length) && rightB p.vars.length p.arrs.length s.value)) := by
      obtain ⟨e1, e2⟩ := HEMPTY.out (by omega) (by omega)
      show stmtB p.vars.length p.arrs.length (d + 1) s = _
      simp [stmtB, nodeSB, HQ.out, hk, e1, e2]
    clear hk
    by_cases t0 : 0 ≤ s.target
    case neg =>
      have d1' : decide (0 ≤ s.target) = false := decide_eq_false t0
      have HN : Hid (false = stmtB p.vars.length p.arrs.length (d + 1) s) := by
        show false = _
        rw [HKN.out]; rw [d1']; simp
      go_wp2_with fail
      go_ret
      exact AnsB.of HN.out (HW.out.trans (B1.out.mono (by omega)))
    case pos =>
    have d0 : decide (0 ≤ s.target) = true := decide_eq_true t0
    by_cases t1 : s.target < p.vars.length
    case neg =>
      have d1' : decide (s.target < (p.vars.length : Int)) = false := decide_eq_false t1
      have HN : Hid (false = stmtB p.vars.length p.arrs.length (d + 1) s) := by
        show false = _
        rw [HKN.out]; rw [d1']; simp
      go_wp2_with fail
      go_ret
      exact AnsB.of HN.out (HW.out.trans (B1.out.mono (by omega)))
    case pos =>
    have d1' : decide (s.target < (p.vars.length : Int)) = true := decide_eq_true t1
    have HN : Hid (rightB p.vars.length p.arrs.length s.value = stmtB p.vars.length p.arrs.length (d + 1) s) := by
      show rightB p.vars.length p.arrs.length s.value = _
      rw [HKN.out]; rw [d0, d1']; simp
    go_wp2_with fail
    refine (sRight_one p k n s.value ks.va ks.vc D w1 (HV.out.later (HST.out _ B1.out)) (HDL.out _ B1.out)).mono ?_
    rintro g w2 ⟨rfl, hb⟩
    have Bw2 := Lib.hid (B1.out.trans (hb.mono (by have := B1.out.size; omega)))
    clear hb
    rw [HN.out]
    go_wp2_with fail
    go_ret
    exact AnsB.of rfl (HW.out.trans (Bw2.out.mono (by omega)))
  · have k1 : (s.kind == 1) = false := by rw [hk]; rfl
    have k5 : (s.kind == 5) = true := by rw [hk]; rfl
    have k2 : (s.kind == 2) = false := by rw [hk]; rfl
    have k3 : (s.kind == 3) = false := by rw [hk]; rfl
    have k4 : (s.kind == 4) = false := by rw [hk]; rfl
    have HKN : Hid (stmtB p.vars.length p.arrs.length (d + 1) s = (decide (0 ≤ s.target) && decide (s.target < p.vars.length) && rightB p.vars.length p.arrs.length s.value)) := by
      obtain ⟨e1, e2⟩ := HEMPTY.out (by omega) (by omega)
      show stmtB p.vars.length p.arrs.length (d + 1) s = _
      simp [stmtB, nodeSB, HQ.out, hk, e1, e2]
    clear hk
    by_cases t0 : 0 ≤ s.target
    case neg =>
      have d1' : decide (0 ≤ s.target) = false := decide_eq_false t0
      have HN : Hid (false = stmtB p.vars.length p.arrs.length (d + 1) s) := by
        show false = _
        rw [HKN.out]; rw [d1']; simp
      go_wp2_with fail
      go_ret
      exact AnsB.of HN.out (HW.out.trans (B1.out.mono (by omega)))
    case pos =>
    have d0 : decide (0 ≤ s.target) = true := decide_eq_true t0
    by_cases t1 : s.target < p.vars.length
    case neg =>
      have d1' : decide (s.target < (p.vars.length : Int)) = false := decide_eq_false t1
      have HN : Hid (false = stmtB p.vars.length p.arrs.length (d + 1) s) := by
        show false = _
        rw [HKN.out]; rw [d1']; simp
      go_wp2_with fail
      go_ret
      exact AnsB.of HN.out (HW.out.trans (B1.out.mono (by omega)))
    case pos =>
    have d1' : decide (s.target < (p.vars.length : Int)) = true := decide_eq_true t1
    have HN : Hid (rightB p.vars.length p.arrs.length s.value = stmtB p.vars.length p.arrs.length (d + 1) s) := by
      show rightB p.vars.length p.arrs.length s.value = _
      rw [HKN.out]; rw [d0, d1']; simp
    go_wp2_with fail
    refine (sRight_one p k n s.value ks.va ks.vc D w1 (HV.out.later (HST.out _ B1.out)) (HDL.out _ B1.out)).mono ?_
    rintro g w2 ⟨rfl, hb⟩
    have Bw2 := Lib.hid (B1.out.trans (hb.mono (by have := B1.out.size; omega)))
    clear hb
    rw [HN.out]
    go_wp2_with fail
    go_ret
    exact AnsB.of rfl (HW.out.trans (Bw2.out.mono (by omega)))
  · have k1 : (s.kind == 1) = false := by rw [hk]; rfl
    have k5 : (s.kind == 5) = false := by rw [hk]; rfl
    have k2 : (s.kind == 2) = true := by rw [hk]; rfl
    have k3 : (s.kind == 3) = false := by rw [hk]; rfl
    have k4 : (s.kind == 4) = false := by rw [hk]; rfl
    have HKN : Hid (stmtB p.vars.length p.arrs.length (d + 1) s = (decide (0 ≤ s.target) && decide (s.target < p.arrs.length) && rightB p.vars.length p.arrs.length s.index && atomB s.index && rightB p.vars.length p.arrs.length s.value)) := by
      obtain ⟨e1, e2⟩ := HEMPTY.out (by omega) (by omega)
      show stmtB p.vars.length p.arrs.length (d + 1) s = _
      simp [stmtB, nodeSB, HQ.out, hk, e1, e2]
    clear hk
    by_cases t0 : 0 ≤ s.target
    case neg =>
      have d1' : decide (0 ≤ s.target) = false := decide_eq_false t0
      have HN : Hid (false = stmtB p.vars.length p.arrs.length (d + 1) s) := by
        show false = _
        rw [HKN.out]; rw [d1']; simp
      go_wp2_with fail
      go_ret
      exact AnsB.of HN.out (HW.out.trans (B1.out.mono (by omega)))
    case pos =>
    have d0 : decide (0 ≤ s.target) = true := decide_eq_true t0
    by_cases t1 : s.target < p.arrs.length
    case neg =>
      have d1' : decide (s.target < (p.arrs.length : Int)) = false := decide_eq_false t1
      have HN : Hid (false = stmtB p.vars.length p.arrs.length (d + 1) s) := by
        show false = _
        rw [HKN.out]; rw [d1']; simp
      go_wp2_with fail
      go_ret
      exact AnsB.of HN.out (HW.out.trans (B1.out.mono (by omega)))
    case pos =>
    have d1' : decide (s.target < (p.arrs.length : Int)) = true := decide_eq_true t1
    go_wp2_with fail
    refine (sRight_one p k n s.index ks.ia ks.ic D w1 (HI.out.later (HST.out _ B1.out)) (HDL.out _ B1.out)).mono ?_
    rintro g w2 ⟨rfl, hb⟩
    have Bw2 := Lib.hid (B1.out.trans (hb.mono (by have := B1.out.size; omega)))
    clear hb
    obtain ⟨p0, p1, p2, c0, c1, c2, c3, c4, c5, c6, c7, c8, c9, c10⟩ := HBOX.out w2 Bw2.out
    cases hr : rightB p.vars.length p.arrs.length s.index
    case false =>
      have HN : Hid (false = stmtB p.vars.length p.arrs.length (d + 1) s) := by
        show false = _
        rw [HKN.out]; rw [hr]; simp
      clear hr
      go_wp2_with fail
      go_ret
      exact AnsB.of HN.out (HW.out.trans (Bw2.out.mono (by omega)))
    case true =>
    have HR1 := Lib.hid hr
    clear hr
    go_wp2_with fail
    refine (sAtom_any _ _ _ _ _ _ rfl _).mono ?_
    rintro g w3 ⟨rfl, hw3⟩
    have Bw3 : Hid (Below W.heap.size W w3) := by rw [hw3]; exact Bw2.out.alloc (by have := Bw2.out.size; omega) _
    clear hw3
    obtain ⟨p0, p1, p2, c0, c1, c2, c3, c4, c5, c6, c7, c8, c9, c10⟩ := HBOX.out w3 Bw3.out
    cases ha : (decide (s.index.kind = 1) || decide (s.index.kind = 2))
    case false =>
      have HN : Hid (false = stmtB p.vars.length p.arrs.length (d + 1) s) := by
        show false = _
        rw [HKN.out]; rw [show atomB s.index = false from ha]; simp
      clear ha
      go_wp2_with fail
      go_ret
      exact AnsB.of HN.out (HW.out.trans (Bw3.out.mono (by omega)))
    case true =>
    have HN : Hid (rightB p.vars.length p.arrs.length s.value = stmtB p.vars.length p.arrs.length (d + 1) s) := by
      show rightB p.vars.length p.arrs.length s.value = _
      rw [HKN.out]; rw [d0, d1', HR1.out, show atomB s.index = true from ha]; simp
    clear ha
    go_wp2_with fail
    refine (sRight_one p k n s.value ks.va ks.vc D w3 (HV.out.later (HST.out _ Bw3.out)) (HDL.out _ Bw3.out)).mono ?_
    rintro g w4 ⟨rfl, hb⟩
    have Bw4 := Lib.hid (Bw3.out.trans (hb.mono (by have := Bw3.out.size; omega)))
    clear hb
    rw [HN.out]
    go_wp2_with fail
    go_ret
    exact AnsB.of rfl (HW.out.trans (Bw4.out.mono (by omega)))
  · have k1 : (s.kind == 1) = false := by rw [hk]; rfl
    have k5 : (s.kind == 5) = false := by rw [hk]; rfl
    have k2 : (s.kind == 2) = false := by rw [hk]; rfl
    have k3 : (s.kind == 3) = true := by rw [hk]; rfl
    have k4 : (s.kind == 4) = false := by rw [hk]; rfl
    have HKN : Hid (stmtB p.vars.length p.arrs.length (d + 1) s = (rightB p.vars.length p.arrs.length s.value && s.body.all (stmtB p.vars.length p.arrs.length d) && s.els.all (stmtB p.vars.length p.arrs.length d))) := by
      show stmtB p.vars.length p.arrs.length (d + 1) s = _
      simp [stmtB, nodeSB, HQ.out, hk]
    clear hk
    go_wp2_with fail
    refine (sRight_one p k n s.value ks.va ks.vc D w1 (HV.out.later (HST.out _ B1.out)) (HDL.out _ B1.out)).mono ?_
    rintro g w2 ⟨rfl, hb⟩
    have Bw2 := Lib.hid (B1.out.trans (hb.mono (by have := B1.out.size; omega)))
    clear hb
    obtain ⟨p0, p1, p2, c0, c1, c2, c3, c4, c5, c6, c7, c8, c9, c10⟩ := HBOX.out w2 Bw2.out
    cases hr : rightB p.vars.length p.arrs.length s.value
    case false =>
      have HN : Hid (false = stmtB p.vars.length p.arrs.length (d + 1) s) := by
        show false = _
        rw [HKN.out]; rw [hr]; simp
      clear hr
      go_wp2_with fail
      go_ret
      exact AnsB.of HN.out (HW.out.trans (Bw2.out.mono (by omega)))
    case true =>
    have HR1 := Lib.hid hr
    clear hr
    go_wp2_with fail
    refine (HBL.out n s.body ks.ba ks.bc D w2 HBC.out HBM.out (HBA.out.later (HST.out _ Bw2.out)) (HDL.out _ Bw2.out) _ HM.out).mono ?_
    rintro g w3 ⟨rfl, hb⟩
    have Bw3 := Lib.hid (Bw2.out.trans (hb.mono (by have := Bw2.out.size; omega)))
    clear hb
    obtain ⟨p0, p1, p2, c0, c1, c2, c3, c4, c5, c6, c7, c8, c9, c10⟩ := HBOX.out w3 Bw3.out
    cases hb1 : s.body.all (stmtB p.vars.length p.arrs.length d)
    case false =>
      have HN : Hid (false = stmtB p.vars.length p.arrs.length (d + 1) s) := by
        show false = _
        rw [HKN.out]; rw [hb1]; simp
      clear hb1
      go_wp2_with fail
      go_ret
      exact AnsB.of HN.out (HW.out.trans (Bw3.out.mono (by omega)))
    case true =>
    have HN : Hid (s.els.all (stmtB p.vars.length p.arrs.length d) = stmtB p.vars.length p.arrs.length (d + 1) s) := by
      show s.els.all (stmtB p.vars.length p.arrs.length d) = _
      rw [HKN.out]; rw [HR1.out, hb1]; simp
    clear hb1
    go_wp2_with fail
    refine (HBL.out n s.els ks.ea ks.ec D w3 HEC.out HEM.out (HEA.out.later (HST.out _ Bw3.out)) (HDL.out _ Bw3.out) _ HM.out).mono ?_
    rintro g w4 ⟨rfl, hb⟩
    have Bw4 := Lib.hid (Bw3.out.trans (hb.mono (by have := Bw3.out.size; omega)))
    clear hb
    rw [HN.out]
    go_wp2_with fail
    go_ret
    exact AnsB.of rfl (HW.out.trans (Bw4.out.mono (by omega)))
  · have k1 : (s.kind == 1) = false := by rw [hk]; rfl
    have k5 : (s.kind == 5) = false := by rw [hk]; rfl
    have k2 : (s.kind == 2) = false := by rw [hk]; rfl
    have k3 : (s.kind == 3) = false := by rw [hk]; rfl
    have k4 : (s.kind == 4) = true := by rw [hk]; rfl
    have HN : Hid (s.body.all (stmtB p.vars.length p.arrs.length d) = stmtB p.vars.length p.arrs.length (d + 1) s) := by
      have e2 := HEMPTY4.out hk
      show _ = stmtB p.vars.length p.arrs.length (d + 1) s
      simp [stmtB, nodeSB, HQ.out, hk, e2]
    clear hk
    go_wp2_with fail
    refine (HBL.out n s.body ks.ba ks.bc D w1 HBC.out HBM.out (HBA.out.later (HST.out _ B1.out)) (HDL.out _ B1.out) _ HM.out).mono ?_
    rintro g w2 ⟨rfl, hb⟩
    have Bw2 := Lib.hid (B1.out.trans (hb.mono (by have := B1.out.size; omega)))
    clear hb
    rw [HN.out]
    go_wp2_with fail
    go_ret
    exact AnsB.of rfl (HW.out.trans (Bw2.out.mono (by omega)))
  · obtain ⟨h1, h5, h2, h3, h4⟩ := hk
    have k1 : (s.kind == 1) = false := by simpa using h1
    have k5 : (s.kind == 5) = false := by simpa using h5
    have k2 : (s.kind == 2) = false := by simpa using h2
    have k3 : (s.kind == 3) = false := by simpa using h3
    have k4 : (s.kind == 4) = false := by simpa using h4
    have HN : Hid (false = stmtB p.vars.length p.arrs.length (d + 1) s) := by
      show false = _
      simp [stmtB, nodeSB, h1, h5, h2, h3, h4]
    clear h1 h5 h2 h3 h4
    go_wp2_with fail
    go_ret
    exact AnsB.of HN.out (HW.out.trans (B1.out.mono (by omega)))

set_option maxRecDepth 100000 in
theorem sStmt_zero (p : Pg) (k : PC) (s : S) (ks : SC) (w : World) :
    Calls Try.prog 116 #[aggP p k, aggS s ks, .int .i64 0] w (AnsB (stmtB p.vars.length p.arrs.length 0 s) w) := by
  have HN : Hid (false = stmtB p.vars.length p.arrs.length 0 s) := by show false = _; rfl
  go_enter Try.func116, Try.ntmps116
  go_wp2_with fail
  go_ret
  exact AnsB.of HN.out (((Below.refl _ _).alloc (Nat.le_refl _) _).alloc (by simp) _)

/-- **l2Stmt AND l2Block, DOWN TO FIVE LEVELS.** -/
theorem sStmt_one (p : Pg) (k : PC) (hnv : p.vars.length ≤ maxLen) (hna : p.arrs.length ≤ maxLen) : ∀ (d : Nat), d ≤ 6 → ∀ (n : Nat) (s : S) (ks : SC) (D : Nat → Prop) (w : World), IsS w D n s ks → (∀ k, D k → k < w.heap.size) →
      Calls Try.prog 116 #[aggP p k, aggS s ks, .int .i64 (d : Int)] w (AnsB (stmtB p.vars.length p.arrs.length d s) w)
  | 0, _, _, s, ks, _, w, _, _ => sStmt_zero p k s ks w
  | d + 1, hd, n, s, ks, D, w, h, hl => sStmt_succ p k hnv hna d (by omega) (fun n ss a cap D w hc hm hat hl m hm0 => sBlock_of p k d (sStmt_one p k hnv hna d (by omega)) n ss a cap D w hc hm hat hl m hm0) n s ks D w h hl _ (by omega)

end Go.Proofs.Ytgfagdjadmpklaa

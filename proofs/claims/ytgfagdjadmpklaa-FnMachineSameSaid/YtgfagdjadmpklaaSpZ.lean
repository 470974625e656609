/- The model's judgement of programs: l2Size and ProgramValid answer what the plain functions say; nothing that was there has changed. -/
import Derived.Test.YtgfagdjadmpklaaSpS
namespace Go.Proofs.Ytgfagdjadmpklaa
open Go.RowKit
set_option linter.unusedVariables false

/-- How many statements a block has, to a depth, counted as 64 bits count. -/
def cntB : Nat → List S → Int
  | 0, ss => ss.length
  | d + 1, ss => ss.foldl (fun n s => IntKind.i64.wrap (IntKind.i64.wrap (n + cntB d s.body) + cntB d s.els)) (ss.length : Int)

def accB (d : Nat) (ss : List S) (j : Nat) : Int := (ss.take j).foldl (fun n s => IntKind.i64.wrap (IntKind.i64.wrap (n + cntB d s.body) + cntB d s.els)) (ss.length : Int)
theorem accB_zero (d : Nat) (ss : List S) : accB d ss 0 = ss.length := by simp [accB]
theorem accB_succ (d : Nat) (ss : List S) (j : Nat) (x : S) (h : ss[j]? = some x) : accB d ss (j + 1) = IntKind.i64.wrap (IntKind.i64.wrap (accB d ss j + cntB d x.body) + cntB d x.els) := by
  unfold accB
  obtain ⟨hj, hx⟩ := List.getElem?_eq_some_iff.1 h
  rw [List.take_succ_eq_append_getElem hj, List.foldl_append, hx]
  rfl
theorem accB_all (d : Nat) (ss : List S) (j : Nat) (h : ss.length ≤ j) : accB d ss j = cntB (d + 1) ss := by
  unfold accB
  rw [List.take_of_length_le h]
  rfl

set_option maxRecDepth 100000 in
set_option maxHeartbeats 2000000 in
theorem sSize_zero (n : Nat) (ss : List S) (a : Option Addr) (cap : Nat) (D : Nat → Prop) (w : World) (hc : ss.length ≤ cap) (hm : cap ≤ maxLen) (m : Int) (hm0 : m = 1) :
    Calls Try.prog 108 #[.slice a ss.length cap, .int .i64 m] w (AnsI (cntB 0 ss) w) := by
  subst hm0
  obtain ⟨len, hlen⟩ : ∃ len, ss.length = len := ⟨_, rfl⟩
  have HLEN : Hid ((len : Int) = cntB 0 ss) := by show (len : Int) = cntB 0 ss; rw [← hlen]; rfl
  rw [hlen]
  clear hlen
  unfold maxLen at hm
  go_enter Try.func108, Try.ntmps108
  go_wp2_with fail
  go_loopw [5, 6] (fun n i wr => n = .int .i64 len ∧ i = .int .i64 0 ∧ wr = w) (fun _ _ _ => 0)
  case atStart => exact ⟨rfl, rfl, rfl⟩
  case round =>
    obtain ⟨rfl, rfl, rfl⟩ := hrel
    by_cases hl : (0 : Int) < len
    all_goals
      go_wp2_with fail
      go_ret
      exact ⟨by rw [HLEN.out]; rfl, Below.refl _ _⟩

set_option maxRecDepth 100000 in
set_option maxHeartbeats 4000000 in
theorem sSize_succ (d : Nat) (hd : d ≤ 5) (ih : ∀ (n : Nat) (ss : List S) (a : Option Addr) (cap : Nat) (D : Nat → Prop) (w : World), ss.length ≤ cap → cap ≤ maxLen → SsAt w D (IsS w D n) ss a → (∀ k, D k → k < w.heap.size) → ∀ m : Int, m = (d : Int) + 1 →
      Calls Try.prog 108 #[.slice a ss.length cap, .int .i64 m] w (AnsI (cntB d ss) w))
    (n : Nat) (ss : List S) (a : Option Addr) (cap : Nat) (D : Nat → Prop) (w : World) (hc : ss.length ≤ cap) (hm : cap ≤ maxLen) (h : SsAt w D (IsS w D n) ss a) (hl : ∀ k, D k → k < w.heap.size) (m : Int) (hm0 : m = (d : Int) + 2) :
    Calls Try.prog 108 #[.slice a ss.length cap, .int .i64 m] w (AnsI (cntB (d + 1) ss) w) := by
  unfold maxLen at hm
  have hd2 : (1 : Int) < m := by omega
  have hd3 : m ≤ 7 := by omega
  have HM : Hid (IntKind.i64.wrap (m - 1) = (d : Int) + 1) := by
    show IntKind.i64.wrap (m - 1) = (d : Int) + 1
    rw [IntWalk.i64_in _ (by omega)]; omega
  clear hm0
  obtain ⟨len, hlen⟩ : ∃ len, ss.length = len := ⟨_, rfl⟩
  have HLEN := Lib.hid hlen
  rw [hlen] at hc ⊢
  have H := Lib.hid h
  have IH := Lib.hid ih
  clear h ih hlen
  go_enter Try.func108, Try.ntmps108
  go_wp2_with fail
  go_loopw [5, 6] (fun c i wr => ∃ (j : Nat) (t : Int), j ≤ len ∧ i = .int .i64 j ∧ c = .int .i64 t ∧ t = accB d ss j ∧ Below w.heap.size w wr) (fun _ i _ => len - (intOf i).toNat)
  case atStart => exact ⟨0, len, Nat.zero_le _, rfl, rfl, by rw [accB_zero, HLEN.out], Below.refl _ _⟩
  case round =>
    obtain ⟨j, t, hj, rfl, rfl, ht, hB⟩ := hrel
    have HT := Lib.hid ht
    have HB := Lib.hid hB
    have hsz := hB.size
    clear ht hB
    by_cases hlt : j < len
    · obtain ⟨x, hx⟩ : ∃ x, ss[j]? = some x := ⟨ss[j]'(by rw [HLEN.out]; exact hlt), List.getElem?_eq_getElem _⟩
      obtain ⟨b, o, kx, rfl, hbl, hrow, hE⟩ := H.out j x hx
      have hst : Stand D w wr := Stand.of_below HB.out hl
      have hrow2 := hrow.stand (hst b hbl)
      have HRW := Lib.hid hrow2
      obtain ⟨_, _, _, _, _, _, _, _, _, r9, r10⟩ := hrow2
      have HE : Hid (IsS wr.drew D n x kx) := hE.later (Stand.trans hst fun _ _ => rfl)
      have HDW : Hid (∀ i, D i → i < wr.drew.heap.size) := fun i hi => Nat.lt_of_lt_of_le (hl i hi) (by show w.heap.size ≤ wr.heap.size; omega)
      have hbw : b < wr.heap.size := by have := hl b hbl; omega
      have HS : Hid (∀ v, Below wr.drew.heap.size wr.drew v → v.cell? ⟨b, o + j * 11 + 9, none⟩ = some (.slice kx.ba x.body.length kx.bc) ∧ v.cell? ⟨b, o + j * 11 + 10, none⟩ = some (.slice kx.ea x.els.length kx.ec)) := fun v hb => by
        have h2 := HRW.out.stand (hb.block b hbw)
        exact ⟨h2.r9, h2.r10⟩
      have HX := Lib.hid hx
      have HNX : Hid (accB d ss (j + 1) = IntKind.i64.wrap (IntKind.i64.wrap (t + cntB d x.body) + cntB d x.els)) := by
        show accB d ss (j + 1) = _
        rw [accB_succ d ss j x hx, HT.out]
      obtain ⟨u, hu⟩ : ∃ u, cntB d x.body = u := ⟨_, rfl⟩
      obtain ⟨v, hv⟩ : ∃ v, cntB d x.els = v := ⟨_, rfl⟩
      have HU := Lib.hid hu
      have HV := Lib.hid hv
      rw [hu, hv] at HNX
      have i0 : (0 : Int) ≤ (j : Int) := by omega
      have i1 : (j : Int) < (len : Int) := by omega
      cases n with
      | zero => exact hE.elim
      | succ n =>
      obtain ⟨hi', hv', hbc, hbm, hbat, hec, hem, heat⟩ := HE.out
      have HBC := Lib.hid hbc
      have HBM := Lib.hid hbm
      have HBA := Lib.hid hbat
      have HEC := Lib.hid hec
      have HEM := Lib.hid hem
      have HEA := Lib.hid heat
      unfold maxLen at hbm hem
      clear hE hx hst hrow H hu hv hi' hv' hbat heat HE
      go_wp2_with fail
      go_region_held3 (fun v => v.cell? ⟨b, o + j * 11 + 9, none⟩ = some (.slice kx.ba x.body.length kx.bc) ∧ v.cell? ⟨b, o + j * 11 + 10, none⟩ = some (.slice kx.ea x.els.length kx.ec)) (first | assumption | exact ⟨r9, r10⟩)
        (first
        | (go_at_call 108; (with_reducible refine (IH.out n x.body kx.ba kx.bc D wr.drew HBC.out HBM.out HBA.out HDW.out _ HM.out).mono ?_); rintro g w2 ⟨rfl, hb2⟩; rw [HU.out]; have hS2 := HS.out w2 hb2)
        | (go_at_call 108; (with_reducible refine (IH.out n x.els kx.ea kx.ec D w2 HEC.out HEM.out (HEA.out.later (Stand.of_below hb2 HDW.out)) (fun i hi => Nat.lt_of_lt_of_le (HDW.out i hi) hb2.size) _ HM.out).mono ?_); rintro g w3 ⟨rfl, hb3⟩; rw [HV.out]; have hB3 := hb2.trans (hb3.mono hb2.size); have hS3 := HS.out w3 hB3)
        | fail)
      all_goals
        have HB3 : Hid (Below w.heap.size w w3) := HB.out.drew.trans (hB3.mono (by show w.heap.size ≤ wr.heap.size; omega))
        clear hB3 hb2 hb3
        go_wp2_with fail
        go_roundw
        case rel => exact ⟨j + 1, _, by omega, by go_num, rfl, HNX.out.symm, HB3.out⟩
        case measure => simp [intOf]; omega
    · obtain rfl : j = len := by omega
      have HN : Hid (t = cntB (d + 1) ss) := by
        show t = cntB (d + 1) ss
        rw [HT.out]
        exact accB_all d ss _ (by rw [HLEN.out]; exact Nat.le_refl _)
      clear H
      go_wp2_with fail
      go_ret
      exact ⟨by rw [HN.out]; rfl, HB.out⟩

/-- **l2Size, AT EVERY BLOCK.** -/
theorem sSize_one : ∀ (d : Nat), d ≤ 6 → ∀ (n : Nat) (ss : List S) (a : Option Addr) (cap : Nat) (D : Nat → Prop) (w : World), ss.length ≤ cap → cap ≤ maxLen → SsAt w D (IsS w D n) ss a → (∀ k, D k → k < w.heap.size) → ∀ m : Int, m = (d : Int) + 1 →
      Calls Try.prog 108 #[.slice a ss.length cap, .int .i64 m] w (AnsI (cntB d ss) w)
  | 0, _, n, ss, a, cap, D, w, hc, hm, h, hl, m, hm0 => sSize_zero n ss a cap D w hc hm m (by omega)
  | d + 1, hd, n, ss, a, cap, D, w, hc, hm, h, hl, m, hm0 => sSize_succ d (by omega) (sSize_one d (by omega)) n ss a cap D w hc hm h hl m (by omega)

/-- A program's validity as the model judges it. -/
def progV (p : Pg) : Bool := headsB p && (p.body.all (stmtB p.vars.length p.arrs.length 5) && decide (cntB 4 p.body ≤ 60))

set_option maxRecDepth 100000 in
set_option maxHeartbeats 2000000 in
theorem sProgramValid_one (p : Pg) (k : PC) (n : Nat) (D : Nat → Prop) (w : World) (hp : IsP w D n p k) (hl : ∀ k, D k → k < w.heap.size) :
    Calls Try.prog 99 #[aggP p k] w (AnsB (progV p) w) := by
  have HP := Lib.hid hp
  have HVL : Hid (p.vars.length ≤ maxLen) := Nat.le_trans hp.1.1 hp.1.2.1
  have HAL : Hid (p.arrs.length ≤ maxLen) := Nat.le_trans hp.2.1.1 hp.2.1.2.1
  clear hp
  go_enter Try.func99, Try.ntmps99
  go_wp2_with fail
  obtain ⟨W, hW⟩ : ∃ W, w.alloc (.cells (arrP p k) 55) = W := ⟨_, rfl⟩
  have hB : Below w.heap.size w W := by rw [← hW]; exact (Below.refl _ w).alloc (Nat.le_refl _) _
  have hz : W.heap.size = w.heap.size + 1 := by rw [← hW]; simp
  have e0 : BoxP W w.heap.size p k := by rw [← hW]; exact BoxP.new w p k _
  unfold arrP at hW
  rw [hW]
  clear hW
  have HB := Lib.hid hB
  have HY := Lib.hid e0
  have HZ := Lib.hid hz
  have HYW : Hid (∀ v, Below W.heap.size W v → v.cell? ⟨w.heap.size, 0, none⟩ = some (.slice k.va p.vars.length k.vc) ∧ v.cell? ⟨w.heap.size, 1, none⟩ = some (.slice k.aa p.arrs.length k.ac) ∧ v.cell? ⟨w.heap.size, 2, none⟩ = some (.slice k.ba p.body.length k.bc)) := fun v hb => by
    have s := HY.out.below hb (by have := HZ.out; omega)
    exact ⟨s.c0, s.c1, s.c2⟩
  clear hB e0 hz
  have hs0 := HB.out.size
  refine (sHeads_one p k n D W (HP.out.later (Stand.of_below HB.out hl)) (fun j hj => Nat.lt_of_lt_of_le (hl j hj) hs0)).mono ?_
  rintro g w1 ⟨rfl, hb1⟩
  have B1 := Lib.hid (HB.out.trans (hb1.mono hs0))
  have C1 := Lib.hid hb1
  obtain ⟨s0, s1, s2⟩ := HYW.out w1 hb1
  clear hb1
  cases hq : headsB p
  case false =>
    have HN : Hid (false = progV p) := by show false = _; unfold progV; rw [hq]; rfl
    go_wp2_with fail
    go_ret
    exact AnsB.of HN.out B1.out
  case true =>
  have hs1 := B1.out.size
  have HQ := Lib.hid hq
  clear hq
  have HB5 : Hid (Calls Try.prog 107 #[aggP p k, .slice k.ba p.body.length k.bc, .int .i64 5] w1 (AnsB (p.body.all (stmtB p.vars.length p.arrs.length 5)) w1)) :=
    sBlock_of p k 5 (sStmt_one p k HVL.out HAL.out 5 (by omega)) n p.body k.ba k.bc D w1 HP.out.2.2.1 HP.out.2.2.2.1 (HP.out.2.2.2.2.wide (Stand.of_below B1.out hl) fun _ x => x) (fun j hj => Nat.lt_of_lt_of_le (hl j hj) hs1) 5 rfl
  go_wp2_with fail
  refine HB5.out.mono ?_
  rintro g w2 ⟨rfl, hb2⟩
  have B2 := Lib.hid (B1.out.trans (hb2.mono hs1))
  have C2 := Lib.hid (C1.out.trans (hb2.mono C1.out.size))
  obtain ⟨t0, t1, t2⟩ := HYW.out w2 C2.out
  clear hb2 s0 s1 s2
  cases hr : p.body.all (stmtB p.vars.length p.arrs.length 5)
  case false =>
    have HN : Hid (false = progV p) := by show false = _; unfold progV; rw [HQ.out, hr]; rfl
    go_wp2_with fail
    go_ret
    exact AnsB.of HN.out B2.out
  case true =>
  have HN : Hid (decide (cntB 4 p.body ≤ 60) = progV p) := by show _ = progV p; unfold progV; rw [HQ.out, hr]; rfl
  have hs2 := B2.out.size
  clear hr
  have HS5 : Hid (Calls Try.prog 108 #[.slice k.ba p.body.length k.bc, .int .i64 5] w2 (AnsI (cntB 4 p.body) w2)) :=
    sSize_one 4 (by omega) n p.body k.ba k.bc D w2 HP.out.2.2.1 HP.out.2.2.2.1 (HP.out.2.2.2.2.wide (Stand.of_below B2.out hl) fun _ x => x) (fun j hj => Nat.lt_of_lt_of_le (hl j hj) hs2) 5 rfl
  go_wp2_with fail
  refine HS5.out.mono ?_
  rintro g w3 ⟨rfl, hb3⟩
  have B3 := Lib.hid (B2.out.trans (hb3.mono hs2))
  obtain ⟨c, hc⟩ : ∃ c, cntB 4 p.body = c := ⟨_, rfl⟩
  rw [hc] at HN ⊢
  clear hb3 hc
  go_wp2_with fail
  go_ret
  exact AnsB.of HN.out B3.out

end Go.Proofs.Ytgfagdjadmpklaa

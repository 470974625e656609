/- heldCode, walked: at every code the call returns true; nothing that was there has changed. Condition: the table of forms lies as the program's text lays it. -/
import Derived.Test.YtbifbmpflhdijaaDoorCdE
import Derived.Test.YtbifbmpflhdijaaDoorCdT
import Derived.Test.YtbifbmpflhdijaaDoorMkC
import Derived.Test.YtbifbmpflhdijaaDoorPaN
import Derived.Deep.RegionWith
import Derived.Deep.RegionHeld3
import Derived.Test.YtbifbmpflhdijaaDoorFeM
import Derived.Test.YtbifbmpflhdijaaDoorZzM
import Derived.Deep.CutRange
import Derived.Deep.AppendLies
namespace Go.Proofs.YtbifbmpflhdijaaDoor
open Go.RowKit
set_option linter.unusedVariables false

theorem eqC_same (m : Cd) (k l : CK) (w : World) (h : CL w m k) (h' : CL w m l) : Calls Tryd.prog 15 #[aggC m k, aggC m l] w (YN true w) := by
  have h1 := eqC_one m m k l w h h'
  rw [decide_eq_true rfl] at h1
  exact h1

set_option maxRecDepth 100000 in
set_option maxHeartbeats 4000000 in
/-- **heldCode.** -/
theorem heldC_one (m : Cd) (k : CK) (k0 : Int) (w : World) (h : CL w (mkCd k0 m) k) (hs : CSm m) (h0 : 0 ≤ k0) (h1 : k0 ≤ 1000) :
    Calls Tryd.prog 17 #[aggC m k, .int .i64 k0] w (fun f w' => f = .returned (.int .i64 (mkEnd k0 m)) ∧ Below w.heap.size w w') := by
  obtain ⟨hs1, hs2, hs3⟩ := hs
  obtain ⟨W, hW⟩ : ∃ W, w.alloc (.cells (arrC m k) 29) = W := ⟨_, rfl⟩
  have hB : Below w.heap.size w W := by rw [← hW]; exact (Below.refl _ w).alloc (Nat.le_refl _) _
  have hX : BoxC W w.heap.size m k := by rw [← hW]; exact BoxC.new _ _ _ _
  have HX : Hid (∀ v, Below W.heap.size W v → BoxC v w.heap.size m k) := fun v hv => hX.below hv hX.lt
  obtain ⟨nv, hnv⟩ : ∃ n, m.vars.length = n := ⟨_, rfl⟩
  obtain ⟨na, hna⟩ : ∃ n, m.arrs.length = n := ⟨_, rfl⟩
  obtain ⟨nl, hnl⟩ : ∃ n, m.list.length = n := ⟨_, rfl⟩
  have HC : Hid (∀ v, Below W.heap.size W v → IAt v (fun b => b < v.heap.size) (mkI k0 nv) k.va ∧ IAt v (fun b => b < v.heap.size) (mkI (k0 + (nv : Int)) na) k.aa ∧ NAt v (fun b => b < v.heap.size) (mkN (k0 + (nv : Int) + (na : Int)) nl) k.la) := fun v hv => by
    have q := (h.below hB).below hv
    have q1 := q.1
    have q2 := q.2.1
    have q3 := q.2.2
    unfold mkCd at q1 q2 q3
    rw [hnv] at q1 q2 q3
    rw [hna] at q2 q3
    rw [hnl] at q3
    exact ⟨q1, q2, q3⟩
  have HE : Hid (mkEnd k0 m = k0 + (nv : Int) + (na : Int) + 5 * (nl : Int)) := by
    have : mkEnd k0 m = k0 + (nv : Int) + (na : Int) + 5 * (nl : Int) := by unfold mkEnd; rw [hnv, hna, hnl]
    exact this
  have HNV := Lib.hid hnv
  have HNA := Lib.hid hna
  have HNL := Lib.hid hnl
  have HB := Lib.hid hB
  have HW := Lib.hid hW
  unfold arrC at HW
  have x0 := hX.c0
  rw [hnv] at hs1 x0
  rw [hna] at hs2
  rw [hnl] at hs3
  have M1 := Lib.hid (heldIX_one nv k.vc k.va k0 W (HC.out W (Below.refl _ _)).1 hs1 h0 (by omega))
  clear hW hB hX h hnv hna hnl
  go_enter Tryd.func17, Tryd.ntmps17
  go_wp2_with (first | rw [HW.out] | fail)
  refine M1.out.mono ?_
  rintro f w1 ⟨rfl, hb1⟩
  have HB1 := Lib.hid hb1
  have x1 := (HX.out w1 hb1).c1
  rw [HNA.out] at x1
  have M2 := Lib.hid (heldIX_one na k.ac k.aa (k0 + (nv : Int)) w1 (HC.out w1 hb1).2.1 hs2 (by omega) (by omega))
  have p1 : ¬ (k0 + (nv : Int) < 0) := by omega
  clear hb1 x0 M1
  go_wp2_with fail
  refine M2.out.mono ?_
  rintro f w2 ⟨rfl, hb2⟩
  have HB2 : Hid (Below W.heap.size W w2) := HB1.out.trans (hb2.mono HB1.out.size)
  have x2 := (HX.out w2 HB2.out).c2
  rw [HNL.out] at x2
  have M3 := Lib.hid (heldInS_one nl k.lc k.la (k0 + (nv : Int) + (na : Int)) w2 (HC.out w2 HB2.out).2.2 hs3 (by omega) (by omega))
  have p2 : ¬ (k0 + (nv : Int) + (na : Int) < 0) := by omega
  clear hb2 x1 M2
  go_wp2_with fail
  refine M3.out.mono ?_
  rintro f w3 ⟨rfl, hb3⟩
  have p3 : ¬ (k0 + (nv : Int) + (na : Int) + 5 * (nl : Int) < 0) := by omega
  have HFIN : Hid (Below w.heap.size w w3) := HB.out.trans ((HB2.out.trans (hb3.mono HB2.out.size)).mono HB.out.size)
  clear hb3 x2 M3
  go_wp2_with fail
  rw [HE.out]
  go_ret
  exact ⟨rfl, HFIN.out⟩

end Go.Proofs.YtbifbmpflhdijaaDoor

namespace Go.Proofs.YtbifbmpflhdijaaDoor
open Go.RowKit
set_option linter.unusedVariables false

/-- A list of instructions in its own row, beside two copied lists, in a code's box. -/
structure OutL (m : Cd) (V4 : World) (ob : Nat) (va aa : Option Addr) (vc ac : Nat) (L : List Ins) (rn : Nat) (la : Option Addr) (lc : Nat) (wr : World) : Prop where
  box : wr.heap[ob]? = some (.cells #[.slice va m.vars.length vc, .slice aa m.arrs.length ac, .slice la rn lc] 29 (0, 0))
  rv : wr.ownsRow V4.heap.size 3 1 (.slice va m.vars.length vc) m.vars.length (m.vars.map (Value.int .i64))
  ra : wr.ownsRow V4.heap.size 3 1 (.slice aa m.arrs.length ac) m.arrs.length (m.arrs.map (Value.int .i64))
  rl : wr.ownsRow V4.heap.size 50 5 (.slice la rn lc) rn (flatN L)
  d1 : ∀ g, (Value.slice va m.vars.length vc).ownBlock = some g → (Value.slice aa m.arrs.length ac).ownBlock ≠ some g ∧ (Value.slice la rn lc).ownBlock ≠ some g ∧ g ≠ ob
  d2 : ∀ g, (Value.slice aa m.arrs.length ac).ownBlock = some g → (Value.slice la rn lc).ownBlock ≠ some g ∧ g ≠ ob
  d3 : ∀ g, (Value.slice la rn lc).ownBlock = some g → g ≠ ob
  le : V4.heap.size ≤ ob
  bel : Below V4.heap.size V4 wr
theorem OutL.lt {m : Cd} {V4 wr : World} {ob rn : Nat} {va aa la : Option Addr} {vc ac lc : Nat} {L : List Ins} (h : OutL m V4 ob va aa vc ac L rn la lc wr) : ob < wr.heap.size := (Array.getElem?_eq_some_iff.1 h.box).1
theorem OutL.below {m : Cd} {V4 wr w' : World} {ob rn : Nat} {va aa la : Option Addr} {vc ac lc : Nat} {L : List Ins} (h : OutL m V4 ob va aa vc ac L rn la lc wr) (hb : Below wr.heap.size wr w') : OutL m V4 ob va aa vc ac L rn la lc w' :=
  ⟨(hb.block _ h.lt).trans h.box, h.rv.far5 fun g _ hl => hb.block g hl, h.ra.far5 fun g _ hl => hb.block g hl, h.rl.far5 fun g _ hl => hb.block g hl, h.d1, h.d2, h.d3, h.le, h.bel.trans (hb.mono h.bel.size)⟩
/-- Block xb is none of its blocks. -/
def OffX (xb : Nat) (m : Cd) (ob : Nat) (va aa : Option Addr) (vc ac rn : Nat) (la : Option Addr) (lc : Nat) : Prop := ob ≠ xb ∧ (∀ g, (Value.slice va m.vars.length vc).ownBlock = some g → g ≠ xb) ∧ (∀ g, (Value.slice aa m.arrs.length ac).ownBlock = some g → g ≠ xb) ∧ ∀ g, (Value.slice la rn lc).ownBlock = some g → g ≠ xb
theorem OutL.offX {m : Cd} {V4 wr : World} {ob rn : Nat} {va aa la : Option Addr} {vc ac lc : Nat} {L : List Ins} (h : OutL m V4 ob va aa vc ac L rn la lc wr) {xb : Nat} (hx : wr.heap.size ≤ xb) : OffX xb m ob va aa vc ac rn la lc :=
  ⟨by have := h.lt; omega, fun g hg => by have := (h.rv.lt g hg).2; omega, fun g hg => by have := (h.ra.lt g hg).2; omega, fun g hg => by have := (h.rl.lt g hg).2; omega⟩
theorem OffX.step {xb : Nat} {m : Cd} {ob rn : Nat} {va aa la : Option Addr} {vc ac lc g cp H : Nat} (h : OffX xb m ob va aa vc ac rn la lc) (hat : (Value.slice la rn lc).ownBlock = some g ∨ g = H) (hH : H ≠ xb) : OffX xb m ob va aa vc ac (rn + 1) (some ⟨g, 0, none⟩) cp :=
  ⟨h.1, h.2.1, h.2.2.1, fun q hq => by
    have e : g = q := by injection hq
    subst e
    rcases hat with h' | h'
    · exact h.2.2.2 g h'
    · omega⟩
/-- One instruction more. -/
theorem OutL.step {m : Cd} {V4 wr V5 w5 : World} {ob rn g cp H xb : Nat} {va aa la : Option Addr} {vc ac lc : Nat} {L : List Ins} (h : OutL m V4 ob va aa vc ac L rn la lc wr) (y : Ins) (hoff : OffX xb m ob va aa vc ac rn la lc)
    (hold : ∀ q, q < wr.heap.size → q ≠ xb → V5.heap[q]? = wr.heap[q]?) (hsz : wr.heap.size ≤ V5.heap.size) (hb : Below V4.heap.size V4 V5)
    (hgrow : V5.grownBy w5 (Value.slice la rn lc).ownBlock) (hat : (Value.slice la rn lc).ownBlock = some g ∨ g = H) (hH : wr.heap.size ≤ H)
    (hown : w5.ownsRow V4.heap.size 50 5 (.slice (some ⟨g, 0, none⟩) (rn + 1) cp) (rn + 1) (flatN L ++ [.int .i64 y.op, .int .i64 y.fa, .int .i64 y.fb, .int .i64 y.fc, .int .i64 y.fd])) :
    OutL m V4 ob va aa vc ac (L ++ [y]) (rn + 1) (some ⟨g, 0, none⟩) cp (w5.setCell ⟨ob, 2, none⟩ (.slice (some ⟨g, 0, none⟩) (rn + 1) cp)) := by
  have hobl := h.lt
  have hgo : g ≠ ob := by
    rcases hat with h' | h'
    · exact h.d3 g h'
    · omega
  have hoth : ∀ q, q < wr.heap.size → q ≠ xb → q ≠ ob → some q ≠ (Value.slice la rn lc).ownBlock → (w5.setCell ⟨ob, 2, none⟩ (.slice (some ⟨g, 0, none⟩) (rn + 1) cp)).heap[q]? = wr.heap[q]? := fun q hq hx hne hno => by
    rw [Below.heap_setCell _ _ _ _ (by simpa using hne)]
    exact (hgrow.block q (by omega) hno).trans (hold q hq hx)
  have hbx5 : w5.heap[ob]? = some (.cells #[.slice va m.vars.length vc, .slice aa m.arrs.length ac, .slice la rn lc] 29 (0, 0)) := ((hgrow.block ob (by omega) (fun e => h.d3 ob e.symm rfl)).trans (hold ob hobl hoff.1)).trans h.box
  have hfl : flatN (L ++ [y]) = flatN L ++ [.int .i64 y.op, .int .i64 y.fa, .int .i64 y.fb, .int .i64 y.fc, .int .i64 y.fd] := by rw [flatN_app]; rfl
  refine ⟨?_, ?_, ?_, ?_, ?_, ?_, ?_, h.le, ?_⟩
  · rw [heap_setCell_same w5 ob 2 _ _ _ hbx5]; rfl
  · exact h.rv.far5 fun q hq hl => hoth q hl (hoff.2.1 q hq) (h.d1 q hq).2.2 fun e => (h.d1 q hq).2.1 e.symm
  · exact h.ra.far5 fun q hq hl => hoth q hl (hoff.2.2.1 q hq) (h.d2 q hq).2 fun e => (h.d2 q hq).1 e.symm
  · rw [hfl]
    exact hown.far5 fun q hq hl => Below.heap_setCell _ _ _ _ (by
      have e : g = q := by injection hq
      subst e
      simpa using hgo)
  · refine fun q hq => ⟨(h.d1 q hq).1, fun e => ?_, (h.d1 q hq).2.2⟩
    have e : g = q := by injection e
    subst e
    rcases hat with h' | h'
    · exact (h.d1 g hq).2.1 h'
    · have := (h.rv.lt g hq).2; omega
  · refine fun q hq => ⟨fun e => ?_, (h.d2 q hq).2⟩
    have e : g = q := by injection e
    subst e
    rcases hat with h' | h'
    · exact (h.d2 g hq).1 h'
    · have := (h.ra.lt g hq).2; omega
  · refine fun q hq => ?_
    have e : g = q := by injection hq
    subst e
    exact hgo
  · exact (hb.grown hgrow hb.size (fun q hq => by have := (h.rl.lt q hq).1; omega)).setCell (p := ⟨ob, 2, none⟩) h.le _

/-- The numbers where the pieces begin. -/
def begL (l : List Ins) (q : Nat) : List Int := (List.range q).map fun j => (begF (pcF l) j : Int)
theorem begL_succ (l : List Ins) (q : Nat) : begL l (q + 1) = begL l q ++ [(begF (pcF l) q : Int)] := by simp [begL, List.range_succ]
theorem begL_at (l : List Ins) {q t : Nat} (h : t < q) : (begL l q)[t]? = some (begF (pcF l) t : Int) := by
  unfold begL
  rw [List.getElem?_map, List.getElem?_range h]; rfl
theorem begF_f {l : List Ins} {q : Nat} {x : Ins} (hx : l[q]? = some x) (h : opnB l q = false) : begF (pcF l) (q + 1) = begF (pcF l) q + 1 := by
  show (splN (pcF l) q ++ pcF l q).length = _
  rw [List.length_append, pcF_f hx h]; rfl
theorem begF_t {l : List Ins} {q : Nat} {x : Ins} (hx : l[q]? = some x) (h : opnB l q = true) : begF (pcF l) (q + 1) = begF (pcF l) q + 2 := by
  show (splN (pcF l) q ++ pcF l q).length = _
  rw [List.length_append, pcF_t hx h]; rfl
theorem opnB_no {l : List Ins} {q : Nat} (h : decide (q ∈ bndN l l.length) = false) : opnB l q = false := by unfold opnB; rw [h]; rfl
theorem opnB_12 {l : List Ins} {q : Nat} {x : Ins} (hx : l[q]? = some x) (h : x.op = 12) : opnB l q = false := by unfold opnB; rw [okE_at hx]; simp [h]
theorem opnB_yes {l : List Ins} {q : Nat} {x : Ins} (hx : l[q]? = some x) (h : decide (q ∈ bndN l l.length) = true) (h12 : x.op ≠ 12) : opnB l q = true := by unfold opnB; rw [h, okE_at hx]; simpa using h12
/-- What has been put out behind the first j. -/
def outN (l : List Ins) (j : Nat) : List Ins := (splN (pcF l) j).map (reT (begF (pcF l)))
theorem outN_len (l : List Ins) (j : Nat) : (outN l j).length = begF (pcF l) j := by unfold outN begF; rw [List.length_map]
theorem outN_f {l : List Ins} {q : Nat} {x : Ins} (hx : l[q]? = some x) (h : opnB l q = false) : outN l (q + 1) = outN l q ++ [reT (begF (pcF l)) x] := by
  show (splN (pcF l) q ++ pcF l q).map _ = _
  rw [List.map_append, pcF_f hx h]; rfl
theorem outN_t {l : List Ins} {q : Nat} {x : Ins} (hx : l[q]? = some x) (h : opnB l q = true) : outN l (q + 1) = (outN l q ++ [fenI]) ++ [reT (begF (pcF l)) x] := by
  show (splN (pcF l) q ++ pcF l q).map _ = _
  rw [List.map_append, pcF_t hx h, List.append_assoc]; rfl
/-- The state of the first loop. -/
def FeB (l : List Ins) (n : Nat) (V : World) (av nv i : Value) (wr : World) : Prop := ∃ (j : Nat) (ba : Option Addr) (bc : Nat), j ≤ n ∧ i = .int .i64 (j : Int) ∧ nv = .int .i64 (begF (pcF l) j : Int) ∧ av = .slice ba j bc ∧ wr.ownsRow V.heap.size 3 1 (.slice ba j bc) j ((begL l j).map (Value.int .i64)) ∧ Below V.heap.size V wr
/-- The state of the second loop. -/
def FeC (m : Cd) (n : Nat) (V4 : World) (ob : Nat) (va aa : Option Addr) (vc ac : Nat) (i : Value) (wr : World) : Prop := ∃ (j : Nat) (la : Option Addr) (lc : Nat), j ≤ n ∧ i = .int .i64 (j : Int) ∧ OutL m V4 ob va aa vc ac (outN m.list j) (begF (pcF m.list) j) la lc wr

set_option maxRecDepth 100000 in
set_option maxHeartbeats 40000000 in
/-- **spec.FenceCode.** -/
theorem sFe_one (m : Cd) (k : CK) (w : World) (h : CL w m k) (hs : CSm m) :
    Calls Tryd.prog 12 #[aggC m k] w (FenN m w) := by
  obtain ⟨i0, hi, hi0, hi1, hi2⟩ := info_parts Tryd.infoI
  obtain ⟨j0, jn, jn0, jn1, jn2⟩ := info_parts Tryd.infoN
  obtain ⟨W, hW⟩ : ∃ W, (w.alloc (.cells (arrC m k) 29)).alloc (.cells #[.slice none 0 0, .slice none 0 0, .slice none 0 0] 29) = W := ⟨_, rfl⟩
  have hB : Below w.heap.size w W := by rw [← hW]; exact ((Below.refl _ w).alloc (Nat.le_refl _) _).alloc (by simp) _
  have hX : BoxC W w.heap.size m k := by rw [← hW]; exact (BoxC.new w m k _).later (Below.heap_alloc _ _ _ (by simp))
  have hE : W.heap[w.heap.size + 1]? = some (.cells #[.slice none 0 0, .slice none 0 0, .slice none 0 0] 29 (0, 0)) := by
    have e1 := heap_alloc_new (w.alloc (.cells (arrC m k) 29)) (.cells #[.slice none 0 0, .slice none 0 0, .slice none 0 0] 29)
    rw [World.size_alloc] at e1
    rw [← hW]; exact e1
  have hlw : w.heap.size + 1 < W.heap.size := (Array.getElem?_eq_some_iff.1 hE).1
  obtain ⟨n, hn⟩ : ∃ n, m.list.length = n := ⟨_, rfl⟩
  have hCW := h.below hB
  have HF : Hid (∀ v, Below W.heap.size W v → (v.cell? ⟨w.heap.size, 0, none⟩ = some (.slice k.va m.vars.length k.vc) ∧ v.cell? ⟨w.heap.size, 1, none⟩ = some (.slice k.aa m.arrs.length k.ac) ∧ v.cell? ⟨w.heap.size, 2, none⟩ = some (.slice k.la n k.lc)) ∧ v.heap[w.heap.size + 1]? = some (.cells #[.slice none 0 0, .slice none 0 0, .slice none 0 0] 29 (0, 0))) := fun v hv => by
    have b := hX.below hv hX.lt
    have b2 := b.c2
    rw [hn] at b2
    exact ⟨⟨b.c0, b.c1, b2⟩, (hv.block _ hlw).trans hE⟩
  have HAT : Hid (∀ i, i < n → ∃ (x : Ins) (b o : Nat), m.list[i]? = some x ∧ k.la = some ⟨b, o, none⟩ ∧ b < W.heap.size ∧ ∀ v, Below W.heap.size W v → v.cell? ⟨b, o + i * 5, none⟩ = some (.int .i64 x.op) ∧ v.cell? ⟨b, o + i * 5 + 1, none⟩ = some (.int .i64 x.fa) ∧ v.cell? ⟨b, o + i * 5 + 2, none⟩ = some (.int .i64 x.fb) ∧ v.cell? ⟨b, o + i * 5 + 3, none⟩ = some (.int .i64 x.fc) ∧ v.cell? ⟨b, o + i * 5 + 4, none⟩ = some (.int .i64 x.fd)) := fun i hi => by
    obtain ⟨x, b, o, hx, ha, hbl, e0, e1, e2, e3, e4⟩ := hCW.at (i := i) (by rw [hn]; exact hi)
    refine ⟨x, b, o, hx, ha, hbl, fun v hv => ?_⟩
    have q : ∀ {j : Nat} {u : Value}, W.cell? ⟨b, j, none⟩ = some u → v.cell? ⟨b, j, none⟩ = some u := fun e => (World.cell?_of_block (w := W) (hv.block b hbl)).trans e
    exact ⟨q e0, q e1, q e2, q e3, q e4⟩
  have HV := Lib.hid (sCV_one m k W hCW)
  have HCL : Hid (∀ v, Below W.heap.size W v → CL v m k) := fun v hv => hCW.below hv
  have HB := Lib.hid hB
  have HW := Lib.hid hW
  have HN := Lib.hid hn
  unfold arrC at HW
  obtain ⟨⟨x0, x1, x2⟩, _⟩ := HF.out W (Below.refl _ _)
  rw [← hn] at x2
  clear h hW hB hX hE hCW hn
  go_enter Tryd.func12, Tryd.ntmps12
  go_wp2_with (first | rw [HW.out] | fail)
  refine HV.out.mono ?_
  rintro e w1 ⟨rfl, hb1⟩
  obtain ⟨q, hq⟩ : ∃ q, codeB m = q := ⟨_, rfl⟩
  have HQ := Lib.hid hq
  have HB1 := Lib.hid hb1
  rw [hq]
  clear hq hb1 HV x0 x1 x2 HW
  cases q
  case false =>
    have hE1 := (HF.out w1 HB1.out).2
    obtain ⟨r0, hr0⟩ := cell_ex hE1 0 (by simp)
    obtain ⟨r1, hr1⟩ := cell_ex hE1 1 (by simp)
    obtain ⟨r2, hr2⟩ := cell_ex hE1 2 (by simp)
    have f0 := frozen_at hE1 0
    have f1 := frozen_at hE1 1
    have f2 := frozen_at hE1 2
    have HFIN : Hid (FenN m w (.returned (.tuple #[.agg #[.slice none 0 0, .slice none 0 0, .slice none 0 0], .bool false])) (((w1.setCell ⟨w.heap.size + 1, 0, none⟩ (.slice none 0 0)).setCell ⟨w.heap.size + 1, 1, none⟩ (.slice none 0 0)).setCell ⟨w.heap.size + 1, 2, none⟩ (.slice none 0 0))) := by
      refine ⟨⟨[], [], []⟩, ⟨none, 0, none, 0, none, 0⟩, false, rfl, FenV.no (by unfold fenB; rw [HQ.out]; rfl), OwnC.none _ _, ?_⟩
      exact (((HB.out.trans (HB1.out.mono HB.out.size)).setCell (p := ⟨w.heap.size + 1, 0, none⟩) (by simp) _).setCell (p := ⟨w.heap.size + 1, 1, none⟩) (by simp) _).setCell (p := ⟨w.heap.size + 1, 2, none⟩) (by simp) _
    clear hE1
    go_wp2_with fail
    exact bodyPost_ret (v := .tuple #[.agg #[.slice none 0 0, .slice none 0 0, .slice none 0 0], .bool false]) (by simp [results, Tryd.f12, go_sem, hr0, hr1, hr2]) rfl HFIN.out
  case true =>
    have hok := codeB_ok HQ.out
    have hle := hok.le
    have hpos := hok.pos
    rw [HN.out] at hle hpos
    have HO := Lib.hid hok
    have HMK := Lib.hid (sMk_one m k w1 n HN.out (HCL.out w1 HB1.out) hok)
    obtain ⟨⟨x0, x1, x2⟩, _⟩ := HF.out w1 HB1.out
    rw [← HN.out] at x2
    clear hok
    go_wp2_with fail
    refine HMK.out.mono ?_
    rintro e V ⟨ys, rfl, hmk, hown, hb2⟩
    obtain ⟨S, hS⟩ : ∃ S, w1.heap.size + 1 = S := ⟨_, rfl⟩
    rw [hS] at hown ⊢
    have hz1 := HB1.out.size
    have HBR : Hid (Below W.heap.size W V) := HB1.out.trans (hb2.mono hz1)
    have HKB : Hid (∀ v, Below V.heap.size V v → ∀ q, q < n → v.cell? ⟨S, q, none⟩ = some (.bool (decide (q ∈ bndN m.list n)))) := fun v hv q hq => by
      have h1 := hown.far5 (w' := v) fun g _ hl => hv.block g hl
      rw [h1.cellAt q (by omega), List.getElem?_map, hmk.2 q hq]; rfl
    have hVW := HBR.out.size
    obtain ⟨V1, hV1⟩ : ∃ V1, V.alloc (.cells #[] 3) = V1 := ⟨_, rfl⟩
    have HL1 : Hid (FeB m.list n V (.slice (some ⟨V.heap.size, 0, none⟩) 0 0) (.int .i64 0) (.int .i64 0) V1) := by
      rw [← hV1]
      exact ⟨0, _, 0, Nat.zero_le _, rfl, by simp [begF, splN], rfl, World.ownsRow_made V #[] 0 (Nat.le_refl _) (by unfold maxLen; omega) rfl, (Below.refl _ V).alloc (Nat.le_refl _) _⟩
    have HV1 := Lib.hid hV1
    clear hV1 hmk hown hb2 hS HMK x0 x1 x2
    go_wp2_with (first | rw [HV1.out] | fail)
    try rw [HV1.out]
    clear HV1
    go_loopw [5, 6, 7] (fun av nv i wr => FeB m.list n V av nv i wr) (fun _ _ i _ => n - (intOf i).toNat)
    case atStart => exact HL1.out
    case round =>
      obtain ⟨q, ba, bc, hq, rfl, rfl, rfl, hrow, hb⟩ := hrel
      have HROW := Lib.hid hrow
      have HBV := Lib.hid hb
      have hnu : begF (pcF m.list) q ≤ 2 * q := splN_le (pcF_le _) q
      have hbwr : Below W.heap.size W wr := HBR.out.trans (hb.mono hVW)
      obtain ⟨⟨k0, k1, k2⟩, _⟩ := HF.out wr hbwr
      clear hrow hb HL1
      by_cases hlt : q < n
      · obtain ⟨x, b, o, hx, ha, hbl, hcl⟩ := HAT.out q hlt
        have HXX := Lib.hid hx
        have HA := Lib.hid ha
        have HCELL : Hid (∀ v, Below W.heap.size W v → v.cell? ⟨b, o + q * 5, none⟩ = some (.int .i64 x.op) ∧ v.cell? ⟨b, o + q * 5 + 1, none⟩ = some (.int .i64 x.fa) ∧ v.cell? ⟨b, o + q * 5 + 2, none⟩ = some (.int .i64 x.fb) ∧ v.cell? ⟨b, o + q * 5 + 3, none⟩ = some (.int .i64 x.fc) ∧ v.cell? ⟨b, o + q * 5 + 4, none⟩ = some (.int .i64 x.fd)) := hcl
        obtain ⟨nq, hnq⟩ : ∃ nq, begF (pcF m.list) q = nq := ⟨_, rfl⟩
        have HNQ := Lib.hid hnq
        rw [hnq] at hnu ⊢
        obtain ⟨V3, hV3⟩ : ∃ V3, wr.alloc (.cells #[.int .i64 (nq : Int)] 3) = V3 := ⟨_, rfl⟩
        have hz3 : V3.heap.size = wr.heap.size + 1 := by rw [← hV3]; simp
        have hblk : V3.heap[wr.heap.size]? = some (.cells #[.int .i64 (nq : Int)] 3 (0, 0)) := by rw [← hV3]; exact heap_alloc_new wr _
        have hold : ∀ j, j < wr.heap.size → V3.heap[j]? = wr.heap[j]? := fun j hj => by rw [← hV3]; exact Below.heap_alloc _ _ _ hj
        have hr3 : V3.ownsRow V.heap.size 3 1 (.slice ba q bc) q ((begL m.list q).map (Value.int .i64)) := HROW.out.far5 fun g hg hl => hold g hl
        have hVr := HBV.out.size
        have HV3 := Lib.hid hV3
        obtain ⟨dd, hdd⟩ : ∃ dd, decide (q ∈ bndN m.list n) = dd := ⟨_, rfl⟩
        have HD := Lib.hid hdd
        have HDL : Hid (decide (q ∈ bndN m.list m.list.length) = dd) := by
          show decide (q ∈ bndN m.list m.list.length) = dd
          rw [HN.out]; exact hdd
        clear hV3 hold hnq hx hcl ha hdd hbwr
        cases dd
        case false =>
          have hstep := begF_f HXX.out (opnB_no HDL.out)
          have HST := Lib.hid hstep
          clear hstep
          go_wp2_with (first
            | (at_builtin
               rw [HV3.out]
               refine wpList_append_lies _ (by rfl) _ _ 22 (by rfl) V.heap.size 3 i0 _ 1 8 Tryd.underlying22 hi hi0 hi1 hi2 rfl (by omega) (.slice ba q bc) q _ (by rfl) hr3 ⟨wr.heap.size, 0, none⟩ 1 1 _ (by rfl) (by rfl) (World.news_of_block hblk) (by simp [Value.oneCell']) (by omega) (by unfold maxLen; omega) (by omega) (by omega) (wr.heap.size + 1) (by omega) ?_
               intro g5 cp w5 hown5 hgrow hat hlt5
               have hb5 : Below V.heap.size V w5 := (by
                 have h3 : Below V.heap.size V V3 := (by rw [← HV3.out]; exact HBV.out.alloc (by omega) _)
                 exact h3.grown hgrow (by omega) (fun j hj => (hr3.lt j hj).1))
               have hk5 := HKB.out w5 hb5 q hlt
               rw [HD.out] at hk5
               have hbw5 : Below W.heap.size W w5 := HBR.out.trans (hb5.mono hVW)
               obtain ⟨⟨c0, c1, c2⟩, _⟩ := HF.out w5 hbw5
               rw [HA.out] at c2
               obtain ⟨r0, r1, r2, r3, r4⟩ := HCELL.out w5 hbw5
               have HR5 : Hid (w5.ownsRow V.heap.size 3 1 (.slice (some ⟨g5, 0, none⟩) (q + 1) cp) (q + 1) ((begL m.list (q + 1)).map (Value.int .i64))) := (by
                 rw [begL_succ, List.map_append, HNQ.out]
                 exact hown5)
               have HREL : Hid (FeB m.list n V (.slice (some ⟨g5, 0, none⟩) (q + 1) cp) (.int .i64 ((nq : Int) + 1)) (.int .i64 ((q : Int) + 1)) w5) := ⟨q + 1, _, cp, by omega, by go_num, (by rw [HST.out, HNQ.out]; go_num), rfl, HR5.out, hb5⟩
               clear hown5 hgrow hat hblk hr3 hb5 hbw5 HR5)
            | fail)
          go_roundw
          case rel => exact HREL.out
          case measure => simp [intOf]; omega
        case true =>
          by_cases h12 : x.op = 12
          · have b12 : (x.op != 12) = false := by simpa using h12
            have hstep := begF_f HXX.out (opnB_12 HXX.out h12)
            have HST := Lib.hid hstep
            clear hstep
            go_wp2_with (first
              | (at_builtin
                 rw [HV3.out]
                 refine wpList_append_lies _ (by rfl) _ _ 22 (by rfl) V.heap.size 3 i0 _ 1 8 Tryd.underlying22 hi hi0 hi1 hi2 rfl (by omega) (.slice ba q bc) q _ (by rfl) hr3 ⟨wr.heap.size, 0, none⟩ 1 1 _ (by rfl) (by rfl) (World.news_of_block hblk) (by simp [Value.oneCell']) (by omega) (by unfold maxLen; omega) (by omega) (by omega) (wr.heap.size + 1) (by omega) ?_
                 intro g5 cp w5 hown5 hgrow hat hlt5
                 have hb5 : Below V.heap.size V w5 := (by
                   have h3 : Below V.heap.size V V3 := (by rw [← HV3.out]; exact HBV.out.alloc (by omega) _)
                   exact h3.grown hgrow (by omega) (fun j hj => (hr3.lt j hj).1))
                 have hk5 := HKB.out w5 hb5 q hlt
                 rw [HD.out] at hk5
                 have hbw5 : Below W.heap.size W w5 := HBR.out.trans (hb5.mono hVW)
                 obtain ⟨⟨c0, c1, c2⟩, _⟩ := HF.out w5 hbw5
                 rw [HA.out] at c2
                 obtain ⟨r0, r1, r2, r3, r4⟩ := HCELL.out w5 hbw5
                 have HR5 : Hid (w5.ownsRow V.heap.size 3 1 (.slice (some ⟨g5, 0, none⟩) (q + 1) cp) (q + 1) ((begL m.list (q + 1)).map (Value.int .i64))) := (by
                   rw [begL_succ, List.map_append, HNQ.out]
                   exact hown5)
                 have HREL : Hid (FeB m.list n V (.slice (some ⟨g5, 0, none⟩) (q + 1) cp) (.int .i64 ((nq : Int) + 1)) (.int .i64 ((q : Int) + 1)) w5) := ⟨q + 1, _, cp, by omega, by go_num, (by rw [HST.out, HNQ.out]; go_num), rfl, HR5.out, hb5⟩
                 clear hown5 hgrow hat hblk hr3 hb5 hbw5 HR5)
              | fail)
            go_roundw
            case rel => exact HREL.out
            case measure => simp [intOf]; omega
          · have b12 : (x.op != 12) = true := by simpa using h12
            have hstep := begF_t HXX.out (opnB_yes HXX.out HDL.out h12)
            have HST := Lib.hid hstep
            clear hstep
            go_wp2_with (first
              | (at_builtin
                 rw [HV3.out]
                 refine wpList_append_lies _ (by rfl) _ _ 22 (by rfl) V.heap.size 3 i0 _ 1 8 Tryd.underlying22 hi hi0 hi1 hi2 rfl (by omega) (.slice ba q bc) q _ (by rfl) hr3 ⟨wr.heap.size, 0, none⟩ 1 1 _ (by rfl) (by rfl) (World.news_of_block hblk) (by simp [Value.oneCell']) (by omega) (by unfold maxLen; omega) (by omega) (by omega) (wr.heap.size + 1) (by omega) ?_
                 intro g5 cp w5 hown5 hgrow hat hlt5
                 have hb5 : Below V.heap.size V w5 := (by
                   have h3 : Below V.heap.size V V3 := (by rw [← HV3.out]; exact HBV.out.alloc (by omega) _)
                   exact h3.grown hgrow (by omega) (fun j hj => (hr3.lt j hj).1))
                 have hk5 := HKB.out w5 hb5 q hlt
                 rw [HD.out] at hk5
                 have hbw5 : Below W.heap.size W w5 := HBR.out.trans (hb5.mono hVW)
                 obtain ⟨⟨c0, c1, c2⟩, _⟩ := HF.out w5 hbw5
                 rw [HA.out] at c2
                 obtain ⟨r0, r1, r2, r3, r4⟩ := HCELL.out w5 hbw5
                 have HR5 : Hid (w5.ownsRow V.heap.size 3 1 (.slice (some ⟨g5, 0, none⟩) (q + 1) cp) (q + 1) ((begL m.list (q + 1)).map (Value.int .i64))) := (by
                   rw [begL_succ, List.map_append, HNQ.out]
                   exact hown5)
                 have HREL : Hid (FeB m.list n V (.slice (some ⟨g5, 0, none⟩) (q + 1) cp) (.int .i64 ((nq : Int) + 1 + 1)) (.int .i64 ((q : Int) + 1)) w5) := ⟨q + 1, _, cp, by omega, by go_num, (by rw [HST.out, HNQ.out]; go_num), rfl, HR5.out, hb5⟩
                 clear hown5 hgrow hat hblk hr3 hb5 hbw5 HR5)
              | fail)
            go_roundw
            case rel => exact HREL.out
            case measure => simp [intOf]; omega
      · obtain rfl : n = q := by omega
        have HAR := Lib.hid HROW.out
        obtain ⟨r, hr⟩ : ∃ r, begF (pcF m.list) n = r := ⟨_, rfl⟩
        have HRN := Lib.hid hr
        rw [hr] at hnu ⊢
        have HFL : Hid ((fenceL m.list).length = r) := by
          show (fenceL m.list).length = r
          unfold fenceL
          rw [subL_len, HN.out]; exact hr
        clear hr
        by_cases h400 : r ≤ 400
        · have b400 : decide ((r : Int) > 400) = false := decide_eq_false (by omega)
          have HYES : Hid (fenB m = true) := by
            show fenB m = true
            unfold fenB; rw [HQ.out, HFL.out]; simpa using h400
          obtain ⟨V4, hV4⟩ : ∃ V4, wr = V4 := ⟨_, rfl⟩
          rw [hV4] at HAR HBV
          have HV4 := Lib.hid hV4
          have hbw : Below W.heap.size W V4 := HBR.out.trans (HBV.out.mono hVW)
          have HBW4 := Lib.hid hbw
          have hw4 := hbw.size
          have hv4 := HBV.out.size
          have hCL4 : ∀ v, Below V4.heap.size V4 v → CL v m k := fun v hv => HCL.out v (hbw.trans (hv.mono hw4))
          have HSV : Hid (∀ v, Below V4.heap.size V4 v → v.cell? ⟨w.heap.size, 0, none⟩ = some (.slice k.va m.vars.length k.vc) ∧ v.cell? ⟨w.heap.size, 1, none⟩ = some (.slice k.aa m.arrs.length k.ac) ∧ v.cell? ⟨w.heap.size, 2, none⟩ = some (.slice k.la n k.lc)) := fun v hv => (HF.out v (hbw.trans (hv.mono hw4))).1
          have HK4 : Hid (∀ v, Below V4.heap.size V4 v → ∀ q, q < n → v.cell? ⟨S, q, none⟩ = some (.bool (decide (q ∈ bndN m.list n)))) := fun v hv => HKB.out v (HBV.out.trans (hv.mono hv4))
          have HNV : Hid (∀ v, Below V4.heap.size V4 v → NewsAt v k.va m.vars.length (m.vars.map (Value.int .i64))) := fun v hv => NewsAt.ints (hCL4 v hv).1.slice
          have HNA : Hid (∀ v, Below V4.heap.size V4 v → NewsAt v k.aa m.arrs.length (m.arrs.map (Value.int .i64))) := fun v hv => NewsAt.ints (hCL4 v hv).2.1.slice
          have hlv : (m.vars.map (Value.int .i64)).length = m.vars.length * 1 := by simp
          have hla : (m.arrs.map (Value.int .i64)).length = m.arrs.length * 1 := by simp
          have hov : ∀ u ∈ m.vars.map (Value.int .i64), u.oneCell' = true := by simp [Value.oneCell']
          have hoa : ∀ u ∈ m.arrs.map (Value.int .i64), u.oneCell' = true := by simp [Value.oneCell']
          have HLV := Lib.hid hlv
          have HLA := Lib.hid hla
          have HOV := Lib.hid hov
          have HOA := Lib.hid hoa
          obtain ⟨p0, p1, p2⟩ := HSV.out V4 (Below.refl _ _)
          obtain ⟨hs1, hs2, hs3⟩ := hs
          clear HROW hlv hla hov hoa hbw hCL4 hV4 k0 k1 k2
          rw [HV4.out]
          go_upto_region 15 with fail
          go_cut [8] from 49 to 57 (fun s8 wx => ∃ ob, s8 = .pointer (some ⟨ob, 0, none⟩) ∧ Hid (OutR m V4 ob wx))
          case first =>
            go_region_held3 (fun v => v.cell? ⟨w.heap.size, 0, none⟩ = some (.slice k.va m.vars.length k.vc) ∧ v.cell? ⟨w.heap.size, 1, none⟩ = some (.slice k.aa m.arrs.length k.ac) ∧ v.cell? ⟨w.heap.size, 2, none⟩ = some (.slice k.la n k.lc)) (first | (with_reducible assumption) | (refine HSV.out _ ?_; (first | (with_reducible assumption) | exact Below.refl _ _ | exact (Below.refl _ _).drew | (refine Below.alloc ?_ (by first | omega | (simp; done) | (simp; omega)) _; (first | (with_reducible assumption) | exact Below.refl _ _ | exact (Below.refl _ _).drew | (refine Below.alloc ?_ (by first | omega | (simp; done) | (simp; omega)) _; (first | (with_reducible assumption) | exact Below.refl _ _ | exact (Below.refl _ _).drew | (refine Below.alloc ?_ (by first | omega | (simp; done) | (simp; omega)) _; (first | (with_reducible assumption) | exact Below.refl _ _ | exact (Below.refl _ _).drew | fail)) | (refine Below.drew (Below.alloc ?_ (by first | omega | (simp; done) | (simp; omega)) _); (first | (with_reducible assumption) | exact Below.refl _ _ | exact (Below.refl _ _).drew | fail)) | fail)) | (refine Below.drew (Below.alloc ?_ (by first | omega | (simp; done) | (simp; omega)) _); (first | (with_reducible assumption) | exact Below.refl _ _ | exact (Below.refl _ _).drew | (refine Below.alloc ?_ (by first | omega | (simp; done) | (simp; omega)) _; (first | (with_reducible assumption) | exact Below.refl _ _ | exact (Below.refl _ _).drew | fail)) | (refine Below.drew (Below.alloc ?_ (by first | omega | (simp; done) | (simp; omega)) _); (first | (with_reducible assumption) | exact Below.refl _ _ | exact (Below.refl _ _).drew | fail)) | fail)) | fail)) | (refine Below.drew (Below.alloc ?_ (by first | omega | (simp; done) | (simp; omega)) _); (first | (with_reducible assumption) | exact Below.refl _ _ | exact (Below.refl _ _).drew | (refine Below.alloc ?_ (by first | omega | (simp; done) | (simp; omega)) _; (first | (with_reducible assumption) | exact Below.refl _ _ | exact (Below.refl _ _).drew | (refine Below.alloc ?_ (by first | omega | (simp; done) | (simp; omega)) _; (first | (with_reducible assumption) | exact Below.refl _ _ | exact (Below.refl _ _).drew | fail)) | (refine Below.drew (Below.alloc ?_ (by first | omega | (simp; done) | (simp; omega)) _); (first | (with_reducible assumption) | exact Below.refl _ _ | exact (Below.refl _ _).drew | fail)) | fail)) | (refine Below.drew (Below.alloc ?_ (by first | omega | (simp; done) | (simp; omega)) _); (first | (with_reducible assumption) | exact Below.refl _ _ | exact (Below.refl _ _).drew | (refine Below.alloc ?_ (by first | omega | (simp; done) | (simp; omega)) _; (first | (with_reducible assumption) | exact Below.refl _ _ | exact (Below.refl _ _).drew | fail)) | (refine Below.drew (Below.alloc ?_ (by first | omega | (simp; done) | (simp; omega)) _); (first | (with_reducible assumption) | exact Below.refl _ _ | exact (Below.refl _ _).drew | fail)) | fail)) | fail)) | fail)) | fail)
              (first
              | (refine step_append_any _ (by rfl) _ _ 22 (by rfl) V4.heap.size 3 i0 _ 1 8 Tryd.underlying22 hi hi0 hi1 hi2 rfl (by omega) _ 0 [] (by rfl) (by exact ownsRow_empty (by omega) (by (first | (with_reducible assumption) | exact blk_new (by first | omega | (simp; done) | (simp; omega)) | exact blk_newD (by first | omega | (simp; done) | (simp; omega)) | (refine blk_old ?_; (first | (with_reducible assumption) | exact blk_new (by first | omega | (simp; done) | (simp; omega)) | exact blk_newD (by first | omega | (simp; done) | (simp; omega)) | (refine blk_old ?_; (first | (with_reducible assumption) | exact blk_new (by first | omega | (simp; done) | (simp; omega)) | exact blk_newD (by first | omega | (simp; done) | (simp; omega)))) | (refine blk_oldD ?_; (first | (with_reducible assumption) | exact blk_new (by first | omega | (simp; done) | (simp; omega)) | exact blk_newD (by first | omega | (simp; done) | (simp; omega)))))) | (refine blk_oldD ?_; (first | (with_reducible assumption) | exact blk_new (by first | omega | (simp; done) | (simp; omega)) | exact blk_newD (by first | omega | (simp; done) | (simp; omega)) | (refine blk_old ?_; (first | (with_reducible assumption) | exact blk_new (by first | omega | (simp; done) | (simp; omega)) | exact blk_newD (by first | omega | (simp; done) | (simp; omega)))) | (refine blk_oldD ?_; (first | (with_reducible assumption) | exact blk_new (by first | omega | (simp; done) | (simp; omega)) | exact blk_newD (by first | omega | (simp; done) | (simp; omega))))))))) k.va m.vars.length k.vc (m.vars.map (Value.int .i64)) (by rfl) HLV.out (HNV.out _ (by (first | (with_reducible assumption) | exact Below.refl _ _ | exact (Below.refl _ _).drew | (refine Below.alloc ?_ (by first | omega | (simp; done) | (simp; omega)) _; (first | (with_reducible assumption) | exact Below.refl _ _ | exact (Below.refl _ _).drew | (refine Below.alloc ?_ (by first | omega | (simp; done) | (simp; omega)) _; (first | (with_reducible assumption) | exact Below.refl _ _ | exact (Below.refl _ _).drew | (refine Below.alloc ?_ (by first | omega | (simp; done) | (simp; omega)) _; (first | (with_reducible assumption) | exact Below.refl _ _ | exact (Below.refl _ _).drew | fail)) | (refine Below.drew (Below.alloc ?_ (by first | omega | (simp; done) | (simp; omega)) _); (first | (with_reducible assumption) | exact Below.refl _ _ | exact (Below.refl _ _).drew | fail)) | fail)) | (refine Below.drew (Below.alloc ?_ (by first | omega | (simp; done) | (simp; omega)) _); (first | (with_reducible assumption) | exact Below.refl _ _ | exact (Below.refl _ _).drew | (refine Below.alloc ?_ (by first | omega | (simp; done) | (simp; omega)) _; (first | (with_reducible assumption) | exact Below.refl _ _ | exact (Below.refl _ _).drew | fail)) | (refine Below.drew (Below.alloc ?_ (by first | omega | (simp; done) | (simp; omega)) _); (first | (with_reducible assumption) | exact Below.refl _ _ | exact (Below.refl _ _).drew | fail)) | fail)) | fail)) | (refine Below.drew (Below.alloc ?_ (by first | omega | (simp; done) | (simp; omega)) _); (first | (with_reducible assumption) | exact Below.refl _ _ | exact (Below.refl _ _).drew | (refine Below.alloc ?_ (by first | omega | (simp; done) | (simp; omega)) _; (first | (with_reducible assumption) | exact Below.refl _ _ | exact (Below.refl _ _).drew | (refine Below.alloc ?_ (by first | omega | (simp; done) | (simp; omega)) _; (first | (with_reducible assumption) | exact Below.refl _ _ | exact (Below.refl _ _).drew | fail)) | (refine Below.drew (Below.alloc ?_ (by first | omega | (simp; done) | (simp; omega)) _); (first | (with_reducible assumption) | exact Below.refl _ _ | exact (Below.refl _ _).drew | fail)) | fail)) | (refine Below.drew (Below.alloc ?_ (by first | omega | (simp; done) | (simp; omega)) _); (first | (with_reducible assumption) | exact Below.refl _ _ | exact (Below.refl _ _).drew | (refine Below.alloc ?_ (by first | omega | (simp; done) | (simp; omega)) _; (first | (with_reducible assumption) | exact Below.refl _ _ | exact (Below.refl _ _).drew | fail)) | (refine Below.drew (Below.alloc ?_ (by first | omega | (simp; done) | (simp; omega)) _); (first | (with_reducible assumption) | exact Below.refl _ _ | exact (Below.refl _ _).drew | fail)) | fail)) | fail)) | fail))) HOV.out (by unfold maxLen; omega) (by omega) (by first | omega | (simp; done) | (simp; omega)) ?_
                 rintro v q1 ⟨va, vc, hv1, hr1, hgr1, hat1⟩
                 rw [Nat.zero_add] at hv1 hr1 hat1
                 rw [List.nil_append] at hr1
                 subst hv1
                 have hb1 : Below V4.heap.size V4 q1 := Below.grown (by (first | (with_reducible assumption) | exact Below.refl _ _ | exact (Below.refl _ _).drew | (refine Below.alloc ?_ (by first | omega | (simp; done) | (simp; omega)) _; (first | (with_reducible assumption) | exact Below.refl _ _ | exact (Below.refl _ _).drew | (refine Below.alloc ?_ (by first | omega | (simp; done) | (simp; omega)) _; (first | (with_reducible assumption) | exact Below.refl _ _ | exact (Below.refl _ _).drew | (refine Below.alloc ?_ (by first | omega | (simp; done) | (simp; omega)) _; (first | (with_reducible assumption) | exact Below.refl _ _ | exact (Below.refl _ _).drew | fail)) | (refine Below.drew (Below.alloc ?_ (by first | omega | (simp; done) | (simp; omega)) _); (first | (with_reducible assumption) | exact Below.refl _ _ | exact (Below.refl _ _).drew | fail)) | fail)) | (refine Below.drew (Below.alloc ?_ (by first | omega | (simp; done) | (simp; omega)) _); (first | (with_reducible assumption) | exact Below.refl _ _ | exact (Below.refl _ _).drew | (refine Below.alloc ?_ (by first | omega | (simp; done) | (simp; omega)) _; (first | (with_reducible assumption) | exact Below.refl _ _ | exact (Below.refl _ _).drew | fail)) | (refine Below.drew (Below.alloc ?_ (by first | omega | (simp; done) | (simp; omega)) _); (first | (with_reducible assumption) | exact Below.refl _ _ | exact (Below.refl _ _).drew | fail)) | fail)) | fail)) | (refine Below.drew (Below.alloc ?_ (by first | omega | (simp; done) | (simp; omega)) _); (first | (with_reducible assumption) | exact Below.refl _ _ | exact (Below.refl _ _).drew | (refine Below.alloc ?_ (by first | omega | (simp; done) | (simp; omega)) _; (first | (with_reducible assumption) | exact Below.refl _ _ | exact (Below.refl _ _).drew | (refine Below.alloc ?_ (by first | omega | (simp; done) | (simp; omega)) _; (first | (with_reducible assumption) | exact Below.refl _ _ | exact (Below.refl _ _).drew | fail)) | (refine Below.drew (Below.alloc ?_ (by first | omega | (simp; done) | (simp; omega)) _); (first | (with_reducible assumption) | exact Below.refl _ _ | exact (Below.refl _ _).drew | fail)) | fail)) | (refine Below.drew (Below.alloc ?_ (by first | omega | (simp; done) | (simp; omega)) _); (first | (with_reducible assumption) | exact Below.refl _ _ | exact (Below.refl _ _).drew | (refine Below.alloc ?_ (by first | omega | (simp; done) | (simp; omega)) _; (first | (with_reducible assumption) | exact Below.refl _ _ | exact (Below.refl _ _).drew | fail)) | (refine Below.drew (Below.alloc ?_ (by first | omega | (simp; done) | (simp; omega)) _); (first | (with_reducible assumption) | exact Below.refl _ _ | exact (Below.refl _ _).drew | fail)) | fail)) | fail)) | fail)) hgr1 (by first | omega | (simp; done) | (simp; omega)) (fun k e => (by have e := own_lit e; omega))
                 have hs1' := HSV.out q1 hb1
                 have hz1 := hb1.size
                 have hgz1 := hgr1.size
                 (try simp at hgz1)
                 have lt1 : ∀ g, (Value.slice va m.vars.length vc).ownBlock = some g → V4.heap.size ≤ g ∧ g < q1.heap.size := fun g hg => hr1.lt g hg
                 (try have n12 : (Value.slice va m.vars.length vc).ownBlock ≠ some (V4.heap.size) := (fun e => (by rw [e] at hat1; rcases hat1 with h | h; (have h := own_lit h.symm; omega); (have h := some_inj h; first | omega | (simp at h; done) | (simp at h; omega)))))
                 (try have y12a : q1.heap[V4.heap.size]? = some (.cells #[] 3 (0, 0)) := (hgr1.block (V4.heap.size) (by first | omega | (simp; done) | (simp; omega)) (fun e => (by have e := own_lit e.symm; omega))).trans (by (first | (with_reducible assumption) | exact blk_new (by first | omega | (simp; done) | (simp; omega)) | exact blk_newD (by first | omega | (simp; done) | (simp; omega)) | (refine blk_old ?_; (first | (with_reducible assumption) | exact blk_new (by first | omega | (simp; done) | (simp; omega)) | exact blk_newD (by first | omega | (simp; done) | (simp; omega)) | (refine blk_old ?_; (first | (with_reducible assumption) | exact blk_new (by first | omega | (simp; done) | (simp; omega)) | exact blk_newD (by first | omega | (simp; done) | (simp; omega)))) | (refine blk_oldD ?_; (first | (with_reducible assumption) | exact blk_new (by first | omega | (simp; done) | (simp; omega)) | exact blk_newD (by first | omega | (simp; done) | (simp; omega)))))) | (refine blk_oldD ?_; (first | (with_reducible assumption) | exact blk_new (by first | omega | (simp; done) | (simp; omega)) | exact blk_newD (by first | omega | (simp; done) | (simp; omega)) | (refine blk_old ?_; (first | (with_reducible assumption) | exact blk_new (by first | omega | (simp; done) | (simp; omega)) | exact blk_newD (by first | omega | (simp; done) | (simp; omega)))) | (refine blk_oldD ?_; (first | (with_reducible assumption) | exact blk_new (by first | omega | (simp; done) | (simp; omega)) | exact blk_newD (by first | omega | (simp; done) | (simp; omega)))))))))
                 (try have y12c : q1.heap[V4.heap.size]? = some (.cells #[.slice none 0 0, .slice none 0 0, .slice none 0 0] 29 (0, 0)) := (hgr1.block (V4.heap.size) (by first | omega | (simp; done) | (simp; omega)) (fun e => (by have e := own_lit e.symm; omega))).trans (by (first | (with_reducible assumption) | exact blk_new (by first | omega | (simp; done) | (simp; omega)) | exact blk_newD (by first | omega | (simp; done) | (simp; omega)) | (refine blk_old ?_; (first | (with_reducible assumption) | exact blk_new (by first | omega | (simp; done) | (simp; omega)) | exact blk_newD (by first | omega | (simp; done) | (simp; omega)) | (refine blk_old ?_; (first | (with_reducible assumption) | exact blk_new (by first | omega | (simp; done) | (simp; omega)) | exact blk_newD (by first | omega | (simp; done) | (simp; omega)))) | (refine blk_oldD ?_; (first | (with_reducible assumption) | exact blk_new (by first | omega | (simp; done) | (simp; omega)) | exact blk_newD (by first | omega | (simp; done) | (simp; omega)))))) | (refine blk_oldD ?_; (first | (with_reducible assumption) | exact blk_new (by first | omega | (simp; done) | (simp; omega)) | exact blk_newD (by first | omega | (simp; done) | (simp; omega)) | (refine blk_old ?_; (first | (with_reducible assumption) | exact blk_new (by first | omega | (simp; done) | (simp; omega)) | exact blk_newD (by first | omega | (simp; done) | (simp; omega)))) | (refine blk_oldD ?_; (first | (with_reducible assumption) | exact blk_new (by first | omega | (simp; done) | (simp; omega)) | exact blk_newD (by first | omega | (simp; done) | (simp; omega)))))))))
                 (try have n13 : (Value.slice va m.vars.length vc).ownBlock ≠ some (V4.heap.size + 1) := (fun e => (by rw [e] at hat1; rcases hat1 with h | h; (have h := own_lit h.symm; omega); (have h := some_inj h; first | omega | (simp at h; done) | (simp at h; omega)))))
                 (try have y13a : q1.heap[V4.heap.size + 1]? = some (.cells #[] 3 (0, 0)) := (hgr1.block (V4.heap.size + 1) (by first | omega | (simp; done) | (simp; omega)) (fun e => (by have e := own_lit e.symm; omega))).trans (by (first | (with_reducible assumption) | exact blk_new (by first | omega | (simp; done) | (simp; omega)) | exact blk_newD (by first | omega | (simp; done) | (simp; omega)) | (refine blk_old ?_; (first | (with_reducible assumption) | exact blk_new (by first | omega | (simp; done) | (simp; omega)) | exact blk_newD (by first | omega | (simp; done) | (simp; omega)) | (refine blk_old ?_; (first | (with_reducible assumption) | exact blk_new (by first | omega | (simp; done) | (simp; omega)) | exact blk_newD (by first | omega | (simp; done) | (simp; omega)))) | (refine blk_oldD ?_; (first | (with_reducible assumption) | exact blk_new (by first | omega | (simp; done) | (simp; omega)) | exact blk_newD (by first | omega | (simp; done) | (simp; omega)))))) | (refine blk_oldD ?_; (first | (with_reducible assumption) | exact blk_new (by first | omega | (simp; done) | (simp; omega)) | exact blk_newD (by first | omega | (simp; done) | (simp; omega)) | (refine blk_old ?_; (first | (with_reducible assumption) | exact blk_new (by first | omega | (simp; done) | (simp; omega)) | exact blk_newD (by first | omega | (simp; done) | (simp; omega)))) | (refine blk_oldD ?_; (first | (with_reducible assumption) | exact blk_new (by first | omega | (simp; done) | (simp; omega)) | exact blk_newD (by first | omega | (simp; done) | (simp; omega)))))))))
                 (try have y13c : q1.heap[V4.heap.size + 1]? = some (.cells #[.slice none 0 0, .slice none 0 0, .slice none 0 0] 29 (0, 0)) := (hgr1.block (V4.heap.size + 1) (by first | omega | (simp; done) | (simp; omega)) (fun e => (by have e := own_lit e.symm; omega))).trans (by (first | (with_reducible assumption) | exact blk_new (by first | omega | (simp; done) | (simp; omega)) | exact blk_newD (by first | omega | (simp; done) | (simp; omega)) | (refine blk_old ?_; (first | (with_reducible assumption) | exact blk_new (by first | omega | (simp; done) | (simp; omega)) | exact blk_newD (by first | omega | (simp; done) | (simp; omega)) | (refine blk_old ?_; (first | (with_reducible assumption) | exact blk_new (by first | omega | (simp; done) | (simp; omega)) | exact blk_newD (by first | omega | (simp; done) | (simp; omega)))) | (refine blk_oldD ?_; (first | (with_reducible assumption) | exact blk_new (by first | omega | (simp; done) | (simp; omega)) | exact blk_newD (by first | omega | (simp; done) | (simp; omega)))))) | (refine blk_oldD ?_; (first | (with_reducible assumption) | exact blk_new (by first | omega | (simp; done) | (simp; omega)) | exact blk_newD (by first | omega | (simp; done) | (simp; omega)) | (refine blk_old ?_; (first | (with_reducible assumption) | exact blk_new (by first | omega | (simp; done) | (simp; omega)) | exact blk_newD (by first | omega | (simp; done) | (simp; omega)))) | (refine blk_oldD ?_; (first | (with_reducible assumption) | exact blk_new (by first | omega | (simp; done) | (simp; omega)) | exact blk_newD (by first | omega | (simp; done) | (simp; omega)))))))))
                 (try have n14 : (Value.slice va m.vars.length vc).ownBlock ≠ some (V4.heap.size + 2) := (fun e => (by rw [e] at hat1; rcases hat1 with h | h; (have h := own_lit h.symm; omega); (have h := some_inj h; first | omega | (simp at h; done) | (simp at h; omega)))))
                 (try have y14a : q1.heap[V4.heap.size + 2]? = some (.cells #[] 3 (0, 0)) := (hgr1.block (V4.heap.size + 2) (by first | omega | (simp; done) | (simp; omega)) (fun e => (by have e := own_lit e.symm; omega))).trans (by (first | (with_reducible assumption) | exact blk_new (by first | omega | (simp; done) | (simp; omega)) | exact blk_newD (by first | omega | (simp; done) | (simp; omega)) | (refine blk_old ?_; (first | (with_reducible assumption) | exact blk_new (by first | omega | (simp; done) | (simp; omega)) | exact blk_newD (by first | omega | (simp; done) | (simp; omega)) | (refine blk_old ?_; (first | (with_reducible assumption) | exact blk_new (by first | omega | (simp; done) | (simp; omega)) | exact blk_newD (by first | omega | (simp; done) | (simp; omega)))) | (refine blk_oldD ?_; (first | (with_reducible assumption) | exact blk_new (by first | omega | (simp; done) | (simp; omega)) | exact blk_newD (by first | omega | (simp; done) | (simp; omega)))))) | (refine blk_oldD ?_; (first | (with_reducible assumption) | exact blk_new (by first | omega | (simp; done) | (simp; omega)) | exact blk_newD (by first | omega | (simp; done) | (simp; omega)) | (refine blk_old ?_; (first | (with_reducible assumption) | exact blk_new (by first | omega | (simp; done) | (simp; omega)) | exact blk_newD (by first | omega | (simp; done) | (simp; omega)))) | (refine blk_oldD ?_; (first | (with_reducible assumption) | exact blk_new (by first | omega | (simp; done) | (simp; omega)) | exact blk_newD (by first | omega | (simp; done) | (simp; omega)))))))))
                 (try have y14c : q1.heap[V4.heap.size + 2]? = some (.cells #[.slice none 0 0, .slice none 0 0, .slice none 0 0] 29 (0, 0)) := (hgr1.block (V4.heap.size + 2) (by first | omega | (simp; done) | (simp; omega)) (fun e => (by have e := own_lit e.symm; omega))).trans (by (first | (with_reducible assumption) | exact blk_new (by first | omega | (simp; done) | (simp; omega)) | exact blk_newD (by first | omega | (simp; done) | (simp; omega)) | (refine blk_old ?_; (first | (with_reducible assumption) | exact blk_new (by first | omega | (simp; done) | (simp; omega)) | exact blk_newD (by first | omega | (simp; done) | (simp; omega)) | (refine blk_old ?_; (first | (with_reducible assumption) | exact blk_new (by first | omega | (simp; done) | (simp; omega)) | exact blk_newD (by first | omega | (simp; done) | (simp; omega)))) | (refine blk_oldD ?_; (first | (with_reducible assumption) | exact blk_new (by first | omega | (simp; done) | (simp; omega)) | exact blk_newD (by first | omega | (simp; done) | (simp; omega)))))) | (refine blk_oldD ?_; (first | (with_reducible assumption) | exact blk_new (by first | omega | (simp; done) | (simp; omega)) | exact blk_newD (by first | omega | (simp; done) | (simp; omega)) | (refine blk_old ?_; (first | (with_reducible assumption) | exact blk_new (by first | omega | (simp; done) | (simp; omega)) | exact blk_newD (by first | omega | (simp; done) | (simp; omega)))) | (refine blk_oldD ?_; (first | (with_reducible assumption) | exact blk_new (by first | omega | (simp; done) | (simp; omega)) | exact blk_newD (by first | omega | (simp; done) | (simp; omega))))))))))
              | (refine step_append_any _ (by rfl) _ _ 22 (by rfl) V4.heap.size 3 i0 _ 1 8 Tryd.underlying22 hi hi0 hi1 hi2 rfl (by omega) _ 0 [] (by rfl) (by exact ownsRow_empty (by omega) (by (first | (with_reducible assumption) | exact blk_new (by first | omega | (simp; done) | (simp; omega)) | exact blk_newD (by first | omega | (simp; done) | (simp; omega)) | (refine blk_old ?_; (first | (with_reducible assumption) | exact blk_new (by first | omega | (simp; done) | (simp; omega)) | exact blk_newD (by first | omega | (simp; done) | (simp; omega)) | (refine blk_old ?_; (first | (with_reducible assumption) | exact blk_new (by first | omega | (simp; done) | (simp; omega)) | exact blk_newD (by first | omega | (simp; done) | (simp; omega)))) | (refine blk_oldD ?_; (first | (with_reducible assumption) | exact blk_new (by first | omega | (simp; done) | (simp; omega)) | exact blk_newD (by first | omega | (simp; done) | (simp; omega)))))) | (refine blk_oldD ?_; (first | (with_reducible assumption) | exact blk_new (by first | omega | (simp; done) | (simp; omega)) | exact blk_newD (by first | omega | (simp; done) | (simp; omega)) | (refine blk_old ?_; (first | (with_reducible assumption) | exact blk_new (by first | omega | (simp; done) | (simp; omega)) | exact blk_newD (by first | omega | (simp; done) | (simp; omega)))) | (refine blk_oldD ?_; (first | (with_reducible assumption) | exact blk_new (by first | omega | (simp; done) | (simp; omega)) | exact blk_newD (by first | omega | (simp; done) | (simp; omega))))))))) k.aa m.arrs.length k.ac (m.arrs.map (Value.int .i64)) (by rfl) HLA.out (HNA.out _ (by (first | (with_reducible assumption) | exact Below.refl _ _ | exact (Below.refl _ _).drew | (refine Below.alloc ?_ (by first | omega | (simp; done) | (simp; omega)) _; (first | (with_reducible assumption) | exact Below.refl _ _ | exact (Below.refl _ _).drew | (refine Below.alloc ?_ (by first | omega | (simp; done) | (simp; omega)) _; (first | (with_reducible assumption) | exact Below.refl _ _ | exact (Below.refl _ _).drew | (refine Below.alloc ?_ (by first | omega | (simp; done) | (simp; omega)) _; (first | (with_reducible assumption) | exact Below.refl _ _ | exact (Below.refl _ _).drew | fail)) | (refine Below.drew (Below.alloc ?_ (by first | omega | (simp; done) | (simp; omega)) _); (first | (with_reducible assumption) | exact Below.refl _ _ | exact (Below.refl _ _).drew | fail)) | fail)) | (refine Below.drew (Below.alloc ?_ (by first | omega | (simp; done) | (simp; omega)) _); (first | (with_reducible assumption) | exact Below.refl _ _ | exact (Below.refl _ _).drew | (refine Below.alloc ?_ (by first | omega | (simp; done) | (simp; omega)) _; (first | (with_reducible assumption) | exact Below.refl _ _ | exact (Below.refl _ _).drew | fail)) | (refine Below.drew (Below.alloc ?_ (by first | omega | (simp; done) | (simp; omega)) _); (first | (with_reducible assumption) | exact Below.refl _ _ | exact (Below.refl _ _).drew | fail)) | fail)) | fail)) | (refine Below.drew (Below.alloc ?_ (by first | omega | (simp; done) | (simp; omega)) _); (first | (with_reducible assumption) | exact Below.refl _ _ | exact (Below.refl _ _).drew | (refine Below.alloc ?_ (by first | omega | (simp; done) | (simp; omega)) _; (first | (with_reducible assumption) | exact Below.refl _ _ | exact (Below.refl _ _).drew | (refine Below.alloc ?_ (by first | omega | (simp; done) | (simp; omega)) _; (first | (with_reducible assumption) | exact Below.refl _ _ | exact (Below.refl _ _).drew | fail)) | (refine Below.drew (Below.alloc ?_ (by first | omega | (simp; done) | (simp; omega)) _); (first | (with_reducible assumption) | exact Below.refl _ _ | exact (Below.refl _ _).drew | fail)) | fail)) | (refine Below.drew (Below.alloc ?_ (by first | omega | (simp; done) | (simp; omega)) _); (first | (with_reducible assumption) | exact Below.refl _ _ | exact (Below.refl _ _).drew | (refine Below.alloc ?_ (by first | omega | (simp; done) | (simp; omega)) _; (first | (with_reducible assumption) | exact Below.refl _ _ | exact (Below.refl _ _).drew | fail)) | (refine Below.drew (Below.alloc ?_ (by first | omega | (simp; done) | (simp; omega)) _); (first | (with_reducible assumption) | exact Below.refl _ _ | exact (Below.refl _ _).drew | fail)) | fail)) | fail)) | fail))) HOA.out (by unfold maxLen; omega) (by omega) (by first | omega | (simp; done) | (simp; omega)) ?_
                 rintro v q2 ⟨aa, ac, hv2, hr2, hgr2, hat2⟩
                 rw [Nat.zero_add] at hv2 hr2 hat2
                 rw [List.nil_append] at hr2
                 subst hv2
                 have hb2 : Below V4.heap.size V4 q2 := Below.grown (by (first | (with_reducible assumption) | exact Below.refl _ _ | exact (Below.refl _ _).drew | (refine Below.alloc ?_ (by first | omega | (simp; done) | (simp; omega)) _; (first | (with_reducible assumption) | exact Below.refl _ _ | exact (Below.refl _ _).drew | (refine Below.alloc ?_ (by first | omega | (simp; done) | (simp; omega)) _; (first | (with_reducible assumption) | exact Below.refl _ _ | exact (Below.refl _ _).drew | (refine Below.alloc ?_ (by first | omega | (simp; done) | (simp; omega)) _; (first | (with_reducible assumption) | exact Below.refl _ _ | exact (Below.refl _ _).drew | fail)) | (refine Below.drew (Below.alloc ?_ (by first | omega | (simp; done) | (simp; omega)) _); (first | (with_reducible assumption) | exact Below.refl _ _ | exact (Below.refl _ _).drew | fail)) | fail)) | (refine Below.drew (Below.alloc ?_ (by first | omega | (simp; done) | (simp; omega)) _); (first | (with_reducible assumption) | exact Below.refl _ _ | exact (Below.refl _ _).drew | (refine Below.alloc ?_ (by first | omega | (simp; done) | (simp; omega)) _; (first | (with_reducible assumption) | exact Below.refl _ _ | exact (Below.refl _ _).drew | fail)) | (refine Below.drew (Below.alloc ?_ (by first | omega | (simp; done) | (simp; omega)) _); (first | (with_reducible assumption) | exact Below.refl _ _ | exact (Below.refl _ _).drew | fail)) | fail)) | fail)) | (refine Below.drew (Below.alloc ?_ (by first | omega | (simp; done) | (simp; omega)) _); (first | (with_reducible assumption) | exact Below.refl _ _ | exact (Below.refl _ _).drew | (refine Below.alloc ?_ (by first | omega | (simp; done) | (simp; omega)) _; (first | (with_reducible assumption) | exact Below.refl _ _ | exact (Below.refl _ _).drew | (refine Below.alloc ?_ (by first | omega | (simp; done) | (simp; omega)) _; (first | (with_reducible assumption) | exact Below.refl _ _ | exact (Below.refl _ _).drew | fail)) | (refine Below.drew (Below.alloc ?_ (by first | omega | (simp; done) | (simp; omega)) _); (first | (with_reducible assumption) | exact Below.refl _ _ | exact (Below.refl _ _).drew | fail)) | fail)) | (refine Below.drew (Below.alloc ?_ (by first | omega | (simp; done) | (simp; omega)) _); (first | (with_reducible assumption) | exact Below.refl _ _ | exact (Below.refl _ _).drew | (refine Below.alloc ?_ (by first | omega | (simp; done) | (simp; omega)) _; (first | (with_reducible assumption) | exact Below.refl _ _ | exact (Below.refl _ _).drew | fail)) | (refine Below.drew (Below.alloc ?_ (by first | omega | (simp; done) | (simp; omega)) _); (first | (with_reducible assumption) | exact Below.refl _ _ | exact (Below.refl _ _).drew | fail)) | fail)) | fail)) | fail)) hgr2 (by first | omega | (simp; done) | (simp; omega)) (fun k e => (by have e := own_lit e; omega))
                 have hs2' := HSV.out q2 hb2
                 have hz2 := hb2.size
                 have hgz2 := hgr2.size
                 (try simp at hgz2)
                 have lt2 : ∀ g, (Value.slice aa m.arrs.length ac).ownBlock = some g → V4.heap.size ≤ g ∧ g < q2.heap.size := fun g hg => hr2.lt g hg
                 have hz12 : q1.heap.size ≤ q2.heap.size := Nat.le_trans (Below.size (B := 0) (w := q1) (by (first | (exact Below.refl _ _) | exact Below.refl _ _ | exact (Below.refl _ _).drew | (refine Below.alloc ?_ (by first | omega | (simp; done) | (simp; omega)) _; (first | (exact Below.refl _ _) | exact Below.refl _ _ | exact (Below.refl _ _).drew | (refine Below.alloc ?_ (by first | omega | (simp; done) | (simp; omega)) _; (first | (exact Below.refl _ _) | exact Below.refl _ _ | exact (Below.refl _ _).drew | (refine Below.alloc ?_ (by first | omega | (simp; done) | (simp; omega)) _; (first | (exact Below.refl _ _) | exact Below.refl _ _ | exact (Below.refl _ _).drew | fail)) | (refine Below.drew (Below.alloc ?_ (by first | omega | (simp; done) | (simp; omega)) _); (first | (exact Below.refl _ _) | exact Below.refl _ _ | exact (Below.refl _ _).drew | fail)) | fail)) | (refine Below.drew (Below.alloc ?_ (by first | omega | (simp; done) | (simp; omega)) _); (first | (exact Below.refl _ _) | exact Below.refl _ _ | exact (Below.refl _ _).drew | (refine Below.alloc ?_ (by first | omega | (simp; done) | (simp; omega)) _; (first | (exact Below.refl _ _) | exact Below.refl _ _ | exact (Below.refl _ _).drew | fail)) | (refine Below.drew (Below.alloc ?_ (by first | omega | (simp; done) | (simp; omega)) _); (first | (exact Below.refl _ _) | exact Below.refl _ _ | exact (Below.refl _ _).drew | fail)) | fail)) | fail)) | (refine Below.drew (Below.alloc ?_ (by first | omega | (simp; done) | (simp; omega)) _); (first | (exact Below.refl _ _) | exact Below.refl _ _ | exact (Below.refl _ _).drew | (refine Below.alloc ?_ (by first | omega | (simp; done) | (simp; omega)) _; (first | (exact Below.refl _ _) | exact Below.refl _ _ | exact (Below.refl _ _).drew | (refine Below.alloc ?_ (by first | omega | (simp; done) | (simp; omega)) _; (first | (exact Below.refl _ _) | exact Below.refl _ _ | exact (Below.refl _ _).drew | fail)) | (refine Below.drew (Below.alloc ?_ (by first | omega | (simp; done) | (simp; omega)) _); (first | (exact Below.refl _ _) | exact Below.refl _ _ | exact (Below.refl _ _).drew | fail)) | fail)) | (refine Below.drew (Below.alloc ?_ (by first | omega | (simp; done) | (simp; omega)) _); (first | (exact Below.refl _ _) | exact Below.refl _ _ | exact (Below.refl _ _).drew | (refine Below.alloc ?_ (by first | omega | (simp; done) | (simp; omega)) _; (first | (exact Below.refl _ _) | exact Below.refl _ _ | exact (Below.refl _ _).drew | fail)) | (refine Below.drew (Below.alloc ?_ (by first | omega | (simp; done) | (simp; omega)) _); (first | (exact Below.refl _ _) | exact Below.refl _ _ | exact (Below.refl _ _).drew | fail)) | fail)) | fail)) | fail))) hgr2.size
                 have hlq12 : ∀ g, (Value.slice va m.vars.length vc).ownBlock = some g → g < q1.heap.size := fun g hg => (by have := lt1 g hg; omega)
                 have hq12 : ∀ g, (Value.slice va m.vars.length vc).ownBlock = some g → q2.heap[g]? = q1.heap[g]? := fun g hg => grow_then hgr2 (B := q1.heap.size) (by (first | (exact Below.refl _ _) | exact Below.refl _ _ | exact (Below.refl _ _).drew | (refine Below.alloc ?_ (by first | omega | (simp; done) | (simp; omega)) _; (first | (exact Below.refl _ _) | exact Below.refl _ _ | exact (Below.refl _ _).drew | (refine Below.alloc ?_ (by first | omega | (simp; done) | (simp; omega)) _; (first | (exact Below.refl _ _) | exact Below.refl _ _ | exact (Below.refl _ _).drew | (refine Below.alloc ?_ (by first | omega | (simp; done) | (simp; omega)) _; (first | (exact Below.refl _ _) | exact Below.refl _ _ | exact (Below.refl _ _).drew | fail)) | (refine Below.drew (Below.alloc ?_ (by first | omega | (simp; done) | (simp; omega)) _); (first | (exact Below.refl _ _) | exact Below.refl _ _ | exact (Below.refl _ _).drew | fail)) | fail)) | (refine Below.drew (Below.alloc ?_ (by first | omega | (simp; done) | (simp; omega)) _); (first | (exact Below.refl _ _) | exact Below.refl _ _ | exact (Below.refl _ _).drew | (refine Below.alloc ?_ (by first | omega | (simp; done) | (simp; omega)) _; (first | (exact Below.refl _ _) | exact Below.refl _ _ | exact (Below.refl _ _).drew | fail)) | (refine Below.drew (Below.alloc ?_ (by first | omega | (simp; done) | (simp; omega)) _); (first | (exact Below.refl _ _) | exact Below.refl _ _ | exact (Below.refl _ _).drew | fail)) | fail)) | fail)) | (refine Below.drew (Below.alloc ?_ (by first | omega | (simp; done) | (simp; omega)) _); (first | (exact Below.refl _ _) | exact Below.refl _ _ | exact (Below.refl _ _).drew | (refine Below.alloc ?_ (by first | omega | (simp; done) | (simp; omega)) _; (first | (exact Below.refl _ _) | exact Below.refl _ _ | exact (Below.refl _ _).drew | (refine Below.alloc ?_ (by first | omega | (simp; done) | (simp; omega)) _; (first | (exact Below.refl _ _) | exact Below.refl _ _ | exact (Below.refl _ _).drew | fail)) | (refine Below.drew (Below.alloc ?_ (by first | omega | (simp; done) | (simp; omega)) _); (first | (exact Below.refl _ _) | exact Below.refl _ _ | exact (Below.refl _ _).drew | fail)) | fail)) | (refine Below.drew (Below.alloc ?_ (by first | omega | (simp; done) | (simp; omega)) _); (first | (exact Below.refl _ _) | exact Below.refl _ _ | exact (Below.refl _ _).drew | (refine Below.alloc ?_ (by first | omega | (simp; done) | (simp; omega)) _; (first | (exact Below.refl _ _) | exact Below.refl _ _ | exact (Below.refl _ _).drew | fail)) | (refine Below.drew (Below.alloc ?_ (by first | omega | (simp; done) | (simp; omega)) _); (first | (exact Below.refl _ _) | exact Below.refl _ _ | exact (Below.refl _ _).drew | fail)) | fail)) | fail)) | fail)) (hlq12 g hg) (Nat.le_refl _) (fun e => (by have e := own_lit e.symm; subst e; first | exact n12 hg | exact n13 hg | exact n14 hg | (have := lt1 _ hg; omega)))
                 have hr12 := World.ownsRow.far5 (w' := q2) hr1 (fun g hg _ => hq12 g hg)
                 have d12 : ∀ g, (Value.slice va m.vars.length vc).ownBlock = some g → (Value.slice aa m.arrs.length ac).ownBlock ≠ some g := fun g hg e2 => (by
                   have hlg := hlq12 g hg
                   rw [e2] at hat2
                   rcases hat2 with h | h
                   · have h := own_lit h.symm
                     subst h
                     first | exact n12 hg | exact n13 hg | exact n14 hg | (have := lt1 _ hg; omega)
                   · have h := some_inj h
                     first | omega | (simp at h; done) | (simp at h; omega))
                 (try have n22 : (Value.slice aa m.arrs.length ac).ownBlock ≠ some (V4.heap.size) := (fun e => (by rw [e] at hat2; rcases hat2 with h | h; (have h := own_lit h.symm; omega); (have h := some_inj h; first | omega | (simp at h; done) | (simp at h; omega)))))
                 (try have y22c : q2.heap[V4.heap.size]? = some (.cells #[.slice none 0 0, .slice none 0 0, .slice none 0 0] 29 (0, 0)) := (hgr2.block (V4.heap.size) (by first | omega | (simp; done) | (simp; omega)) (fun e => (by have e := own_lit e.symm; omega))).trans (by (first | (with_reducible assumption) | exact blk_new (by first | omega | (simp; done) | (simp; omega)) | exact blk_newD (by first | omega | (simp; done) | (simp; omega)) | (refine blk_old ?_; (first | (with_reducible assumption) | exact blk_new (by first | omega | (simp; done) | (simp; omega)) | exact blk_newD (by first | omega | (simp; done) | (simp; omega)) | (refine blk_old ?_; (first | (with_reducible assumption) | exact blk_new (by first | omega | (simp; done) | (simp; omega)) | exact blk_newD (by first | omega | (simp; done) | (simp; omega)))) | (refine blk_oldD ?_; (first | (with_reducible assumption) | exact blk_new (by first | omega | (simp; done) | (simp; omega)) | exact blk_newD (by first | omega | (simp; done) | (simp; omega)))))) | (refine blk_oldD ?_; (first | (with_reducible assumption) | exact blk_new (by first | omega | (simp; done) | (simp; omega)) | exact blk_newD (by first | omega | (simp; done) | (simp; omega)) | (refine blk_old ?_; (first | (with_reducible assumption) | exact blk_new (by first | omega | (simp; done) | (simp; omega)) | exact blk_newD (by first | omega | (simp; done) | (simp; omega)))) | (refine blk_oldD ?_; (first | (with_reducible assumption) | exact blk_new (by first | omega | (simp; done) | (simp; omega)) | exact blk_newD (by first | omega | (simp; done) | (simp; omega)))))))))
                 (try have x20 : q2.cell? ⟨V4.heap.size, 0, none⟩ = some (.slice none 0 0) := (by rw [cell_at y22c]; rfl))
                 (try have z20 : q2.frozen? ⟨V4.heap.size, 0, none⟩ = false := frozen_at y22c 0)
                 (try have x21 : q2.cell? ⟨V4.heap.size, 1, none⟩ = some (.slice none 0 0) := (by rw [cell_at y22c]; rfl))
                 (try have z21 : q2.frozen? ⟨V4.heap.size, 1, none⟩ = false := frozen_at y22c 1)
                 (try have x22 : q2.cell? ⟨V4.heap.size, 2, none⟩ = some (.slice none 0 0) := (by rw [cell_at y22c]; rfl))
                 (try have z22 : q2.frozen? ⟨V4.heap.size, 2, none⟩ = false := frozen_at y22c 2)
                 (try have HEND2 := Lib.hid (out_end1 hr12 hr2 d12 y22c (fun e => n12 e) (fun e => n22 e) (by omega) hb2))
                 (try have HEND2 := Lib.hid (out_end1 hr12 hr2 d12 y22c (fun e => (by have := lt1 _ e; omega)) (fun e => n22 e) (by omega) hb2))
                 (try have hsp2 := facts_put2 (w := q2) (b := V4.heap.size) (.slice va m.vars.length vc) (.slice aa m.arrs.length ac) (.slice none 0 0) (show w.heap.size ≠ V4.heap.size by omega) hs2')
                 (try have n23 : (Value.slice aa m.arrs.length ac).ownBlock ≠ some (V4.heap.size + 1) := (fun e => (by rw [e] at hat2; rcases hat2 with h | h; (have h := own_lit h.symm; omega); (have h := some_inj h; first | omega | (simp at h; done) | (simp at h; omega)))))
                 (try have y23c : q2.heap[V4.heap.size + 1]? = some (.cells #[.slice none 0 0, .slice none 0 0, .slice none 0 0] 29 (0, 0)) := (hgr2.block (V4.heap.size + 1) (by first | omega | (simp; done) | (simp; omega)) (fun e => (by have e := own_lit e.symm; omega))).trans (by (first | (with_reducible assumption) | exact blk_new (by first | omega | (simp; done) | (simp; omega)) | exact blk_newD (by first | omega | (simp; done) | (simp; omega)) | (refine blk_old ?_; (first | (with_reducible assumption) | exact blk_new (by first | omega | (simp; done) | (simp; omega)) | exact blk_newD (by first | omega | (simp; done) | (simp; omega)) | (refine blk_old ?_; (first | (with_reducible assumption) | exact blk_new (by first | omega | (simp; done) | (simp; omega)) | exact blk_newD (by first | omega | (simp; done) | (simp; omega)))) | (refine blk_oldD ?_; (first | (with_reducible assumption) | exact blk_new (by first | omega | (simp; done) | (simp; omega)) | exact blk_newD (by first | omega | (simp; done) | (simp; omega)))))) | (refine blk_oldD ?_; (first | (with_reducible assumption) | exact blk_new (by first | omega | (simp; done) | (simp; omega)) | exact blk_newD (by first | omega | (simp; done) | (simp; omega)) | (refine blk_old ?_; (first | (with_reducible assumption) | exact blk_new (by first | omega | (simp; done) | (simp; omega)) | exact blk_newD (by first | omega | (simp; done) | (simp; omega)))) | (refine blk_oldD ?_; (first | (with_reducible assumption) | exact blk_new (by first | omega | (simp; done) | (simp; omega)) | exact blk_newD (by first | omega | (simp; done) | (simp; omega)))))))))
                 (try have x30 : q2.cell? ⟨V4.heap.size + 1, 0, none⟩ = some (.slice none 0 0) := (by rw [cell_at y23c]; rfl))
                 (try have z30 : q2.frozen? ⟨V4.heap.size + 1, 0, none⟩ = false := frozen_at y23c 0)
                 (try have x31 : q2.cell? ⟨V4.heap.size + 1, 1, none⟩ = some (.slice none 0 0) := (by rw [cell_at y23c]; rfl))
                 (try have z31 : q2.frozen? ⟨V4.heap.size + 1, 1, none⟩ = false := frozen_at y23c 1)
                 (try have x32 : q2.cell? ⟨V4.heap.size + 1, 2, none⟩ = some (.slice none 0 0) := (by rw [cell_at y23c]; rfl))
                 (try have z32 : q2.frozen? ⟨V4.heap.size + 1, 2, none⟩ = false := frozen_at y23c 2)
                 (try have HEND3 := Lib.hid (out_end1 hr12 hr2 d12 y23c (fun e => n13 e) (fun e => n23 e) (by omega) hb2))
                 (try have HEND3 := Lib.hid (out_end1 hr12 hr2 d12 y23c (fun e => (by have := lt1 _ e; omega)) (fun e => n23 e) (by omega) hb2))
                 (try have hsp3 := facts_put2 (w := q2) (b := V4.heap.size + 1) (.slice va m.vars.length vc) (.slice aa m.arrs.length ac) (.slice none 0 0) (show w.heap.size ≠ V4.heap.size + 1 by omega) hs2')
                 (try have n24 : (Value.slice aa m.arrs.length ac).ownBlock ≠ some (V4.heap.size + 2) := (fun e => (by rw [e] at hat2; rcases hat2 with h | h; (have h := own_lit h.symm; omega); (have h := some_inj h; first | omega | (simp at h; done) | (simp at h; omega)))))
                 (try have y24c : q2.heap[V4.heap.size + 2]? = some (.cells #[.slice none 0 0, .slice none 0 0, .slice none 0 0] 29 (0, 0)) := (hgr2.block (V4.heap.size + 2) (by first | omega | (simp; done) | (simp; omega)) (fun e => (by have e := own_lit e.symm; omega))).trans (by (first | (with_reducible assumption) | exact blk_new (by first | omega | (simp; done) | (simp; omega)) | exact blk_newD (by first | omega | (simp; done) | (simp; omega)) | (refine blk_old ?_; (first | (with_reducible assumption) | exact blk_new (by first | omega | (simp; done) | (simp; omega)) | exact blk_newD (by first | omega | (simp; done) | (simp; omega)) | (refine blk_old ?_; (first | (with_reducible assumption) | exact blk_new (by first | omega | (simp; done) | (simp; omega)) | exact blk_newD (by first | omega | (simp; done) | (simp; omega)))) | (refine blk_oldD ?_; (first | (with_reducible assumption) | exact blk_new (by first | omega | (simp; done) | (simp; omega)) | exact blk_newD (by first | omega | (simp; done) | (simp; omega)))))) | (refine blk_oldD ?_; (first | (with_reducible assumption) | exact blk_new (by first | omega | (simp; done) | (simp; omega)) | exact blk_newD (by first | omega | (simp; done) | (simp; omega)) | (refine blk_old ?_; (first | (with_reducible assumption) | exact blk_new (by first | omega | (simp; done) | (simp; omega)) | exact blk_newD (by first | omega | (simp; done) | (simp; omega)))) | (refine blk_oldD ?_; (first | (with_reducible assumption) | exact blk_new (by first | omega | (simp; done) | (simp; omega)) | exact blk_newD (by first | omega | (simp; done) | (simp; omega)))))))))
                 (try have x40 : q2.cell? ⟨V4.heap.size + 2, 0, none⟩ = some (.slice none 0 0) := (by rw [cell_at y24c]; rfl))
                 (try have z40 : q2.frozen? ⟨V4.heap.size + 2, 0, none⟩ = false := frozen_at y24c 0)
                 (try have x41 : q2.cell? ⟨V4.heap.size + 2, 1, none⟩ = some (.slice none 0 0) := (by rw [cell_at y24c]; rfl))
                 (try have z41 : q2.frozen? ⟨V4.heap.size + 2, 1, none⟩ = false := frozen_at y24c 1)
                 (try have x42 : q2.cell? ⟨V4.heap.size + 2, 2, none⟩ = some (.slice none 0 0) := (by rw [cell_at y24c]; rfl))
                 (try have z42 : q2.frozen? ⟨V4.heap.size + 2, 2, none⟩ = false := frozen_at y24c 2)
                 (try have HEND4 := Lib.hid (out_end1 hr12 hr2 d12 y24c (fun e => n14 e) (fun e => n24 e) (by omega) hb2))
                 (try have HEND4 := Lib.hid (out_end1 hr12 hr2 d12 y24c (fun e => (by have := lt1 _ e; omega)) (fun e => n24 e) (by omega) hb2))
                 (try have hsp4 := facts_put2 (w := q2) (b := V4.heap.size + 2) (.slice va m.vars.length vc) (.slice aa m.arrs.length ac) (.slice none 0 0) (show w.heap.size ≠ V4.heap.size + 2 by omega) hs2')
                 (try have n25 : (Value.slice aa m.arrs.length ac).ownBlock ≠ some (q1.heap.size) := (fun e => (by rw [e] at hat2; rcases hat2 with h | h; (have h := own_lit h.symm; omega); (have h := some_inj h; first | omega | (simp at h; done) | (simp at h; omega)))))
                 (try have y25c : q2.heap[q1.heap.size]? = some (.cells #[.slice none 0 0, .slice none 0 0, .slice none 0 0] 29 (0, 0)) := (hgr2.block (q1.heap.size) (by first | omega | (simp; done) | (simp; omega)) (fun e => (by have e := own_lit e.symm; omega))).trans (by (first | (with_reducible assumption) | exact blk_new (by first | omega | (simp; done) | (simp; omega)) | exact blk_newD (by first | omega | (simp; done) | (simp; omega)) | (refine blk_old ?_; (first | (with_reducible assumption) | exact blk_new (by first | omega | (simp; done) | (simp; omega)) | exact blk_newD (by first | omega | (simp; done) | (simp; omega)) | (refine blk_old ?_; (first | (with_reducible assumption) | exact blk_new (by first | omega | (simp; done) | (simp; omega)) | exact blk_newD (by first | omega | (simp; done) | (simp; omega)))) | (refine blk_oldD ?_; (first | (with_reducible assumption) | exact blk_new (by first | omega | (simp; done) | (simp; omega)) | exact blk_newD (by first | omega | (simp; done) | (simp; omega)))))) | (refine blk_oldD ?_; (first | (with_reducible assumption) | exact blk_new (by first | omega | (simp; done) | (simp; omega)) | exact blk_newD (by first | omega | (simp; done) | (simp; omega)) | (refine blk_old ?_; (first | (with_reducible assumption) | exact blk_new (by first | omega | (simp; done) | (simp; omega)) | exact blk_newD (by first | omega | (simp; done) | (simp; omega)))) | (refine blk_oldD ?_; (first | (with_reducible assumption) | exact blk_new (by first | omega | (simp; done) | (simp; omega)) | exact blk_newD (by first | omega | (simp; done) | (simp; omega)))))))))
                 (try have x50 : q2.cell? ⟨q1.heap.size, 0, none⟩ = some (.slice none 0 0) := (by rw [cell_at y25c]; rfl))
                 (try have z50 : q2.frozen? ⟨q1.heap.size, 0, none⟩ = false := frozen_at y25c 0)
                 (try have x51 : q2.cell? ⟨q1.heap.size, 1, none⟩ = some (.slice none 0 0) := (by rw [cell_at y25c]; rfl))
                 (try have z51 : q2.frozen? ⟨q1.heap.size, 1, none⟩ = false := frozen_at y25c 1)
                 (try have x52 : q2.cell? ⟨q1.heap.size, 2, none⟩ = some (.slice none 0 0) := (by rw [cell_at y25c]; rfl))
                 (try have z52 : q2.frozen? ⟨q1.heap.size, 2, none⟩ = false := frozen_at y25c 2)
                 (try have HEND5 := Lib.hid (out_end1 hr12 hr2 d12 y25c (fun e => n15 e) (fun e => n25 e) (by omega) hb2))
                 (try have HEND5 := Lib.hid (out_end1 hr12 hr2 d12 y25c (fun e => (by have := lt1 _ e; omega)) (fun e => n25 e) (by omega) hb2))
                 (try have hsp5 := facts_put2 (w := q2) (b := q1.heap.size) (.slice va m.vars.length vc) (.slice aa m.arrs.length ac) (.slice none 0 0) (show w.heap.size ≠ q1.heap.size by omega) hs2')
                 (try have n26 : (Value.slice aa m.arrs.length ac).ownBlock ≠ some (q1.heap.size + 1) := (fun e => (by rw [e] at hat2; rcases hat2 with h | h; (have h := own_lit h.symm; omega); (have h := some_inj h; first | omega | (simp at h; done) | (simp at h; omega)))))
                 (try have y26c : q2.heap[q1.heap.size + 1]? = some (.cells #[.slice none 0 0, .slice none 0 0, .slice none 0 0] 29 (0, 0)) := (hgr2.block (q1.heap.size + 1) (by first | omega | (simp; done) | (simp; omega)) (fun e => (by have e := own_lit e.symm; omega))).trans (by (first | (with_reducible assumption) | exact blk_new (by first | omega | (simp; done) | (simp; omega)) | exact blk_newD (by first | omega | (simp; done) | (simp; omega)) | (refine blk_old ?_; (first | (with_reducible assumption) | exact blk_new (by first | omega | (simp; done) | (simp; omega)) | exact blk_newD (by first | omega | (simp; done) | (simp; omega)) | (refine blk_old ?_; (first | (with_reducible assumption) | exact blk_new (by first | omega | (simp; done) | (simp; omega)) | exact blk_newD (by first | omega | (simp; done) | (simp; omega)))) | (refine blk_oldD ?_; (first | (with_reducible assumption) | exact blk_new (by first | omega | (simp; done) | (simp; omega)) | exact blk_newD (by first | omega | (simp; done) | (simp; omega)))))) | (refine blk_oldD ?_; (first | (with_reducible assumption) | exact blk_new (by first | omega | (simp; done) | (simp; omega)) | exact blk_newD (by first | omega | (simp; done) | (simp; omega)) | (refine blk_old ?_; (first | (with_reducible assumption) | exact blk_new (by first | omega | (simp; done) | (simp; omega)) | exact blk_newD (by first | omega | (simp; done) | (simp; omega)))) | (refine blk_oldD ?_; (first | (with_reducible assumption) | exact blk_new (by first | omega | (simp; done) | (simp; omega)) | exact blk_newD (by first | omega | (simp; done) | (simp; omega)))))))))
                 (try have x60 : q2.cell? ⟨q1.heap.size + 1, 0, none⟩ = some (.slice none 0 0) := (by rw [cell_at y26c]; rfl))
                 (try have z60 : q2.frozen? ⟨q1.heap.size + 1, 0, none⟩ = false := frozen_at y26c 0)
                 (try have x61 : q2.cell? ⟨q1.heap.size + 1, 1, none⟩ = some (.slice none 0 0) := (by rw [cell_at y26c]; rfl))
                 (try have z61 : q2.frozen? ⟨q1.heap.size + 1, 1, none⟩ = false := frozen_at y26c 1)
                 (try have x62 : q2.cell? ⟨q1.heap.size + 1, 2, none⟩ = some (.slice none 0 0) := (by rw [cell_at y26c]; rfl))
                 (try have z62 : q2.frozen? ⟨q1.heap.size + 1, 2, none⟩ = false := frozen_at y26c 2)
                 (try have HEND6 := Lib.hid (out_end1 hr12 hr2 d12 y26c (fun e => n16 e) (fun e => n26 e) (by omega) hb2))
                 (try have HEND6 := Lib.hid (out_end1 hr12 hr2 d12 y26c (fun e => (by have := lt1 _ e; omega)) (fun e => n26 e) (by omega) hb2))
                 (try have hsp6 := facts_put2 (w := q2) (b := q1.heap.size + 1) (.slice va m.vars.length vc) (.slice aa m.arrs.length ac) (.slice none 0 0) (show w.heap.size ≠ q1.heap.size + 1 by omega) hs2')
                 have HENDN := Lib.hid (out_end2 hr12 hr2 d12 (fun g e => (lt1 g e).2) (fun g e => (lt2 g e).2) hz12 hb2)
                 have hspn := facts_new (w := q2) (.cells #[.slice va m.vars.length vc, .slice aa m.arrs.length ac, .slice none 0 0] 29) (show w.heap.size < q2.heap.size by omega) hs2')
              | fail)
            all_goals
              go_wp2_with fail
              go_meet
              case rel =>
                refine ⟨_, rfl, ?_⟩
                first
                | with_reducible exact HEND2
                | with_reducible exact HEND3
                | with_reducible exact HEND4
                | with_reducible exact HEND5
                | with_reducible exact HEND6
                | with_reducible exact HENDN
          case rest =>
            obtain ⟨ob, rfl, HOR⟩ := hcut
            obtain ⟨va, aa, vc, ac, ho1, ho2, ho3, ho4, ho5, hle5, hbo⟩ := HOR.out
            have HL2 : Hid (FeC m n V4 ob va aa vc ac (.int .i64 0) wc) := ⟨0, none, 0, Nat.zero_le _, rfl, ⟨ho1, ho2, ho3, ⟨rfl, .inl ⟨rfl, rfl⟩⟩, fun g hg => ⟨(ho4 g hg).1, (fun e => by cases e), (ho4 g hg).2⟩, fun g hg => ⟨(fun e => by cases e), ho5 g hg⟩, (fun g hg => by cases hg), hle5, hbo⟩⟩
            have HNM : Hid (∀ v, Below V4.heap.size V4 v → ∀ t, t < n → ∃ g0, ba = some ⟨g0, 0, none⟩ ∧ g0 < V4.heap.size ∧ v.cell? ⟨g0, t, none⟩ = some (.int .i64 (begF (pcF m.list) t : Int))) := fun v hv t ht => by
              rcases HAR.out.2 with ⟨_, e⟩ | ⟨g, cp, cur, e, hg, hgg, _⟩
              · omega
              · injection e with e1 e2 e3
                subst e1
                refine ⟨g, rfl, (Array.getElem?_eq_some_iff.1 hgg).1, ?_⟩
                refine (World.cell?_of_block (w := V4) (a := ⟨g, t, none⟩) (hv.block g (Array.getElem?_eq_some_iff.1 hgg).1)).trans ?_
                rw [HAR.out.cellAt t (by omega), List.getElem?_map, begL_at m.list ht]; rfl
            clear ho1 ho2 ho3 ho4 ho5 hle5 hbo HOR HAR HNV HNA HLV HLA HOV HOA p0 p1 p2
            go_wp2_with fail
            go_loopw [9] (fun i wr => FeC m n V4 ob va aa vc ac i wr) (fun i _ => n - (intOf i).toNat)
            case atStart => exact HL2.out
            case round =>
              obtain ⟨q, la, lc, hq, rfl, hout⟩ := hrel
              have hrnq : begF (pcF m.list) q ≤ 2 * q := splN_le (pcF_le _) q
              obtain ⟨rn, hrn⟩ : ∃ rn, begF (pcF m.list) q = rn := ⟨_, rfl⟩
              rw [hrn] at hout hrnq
              have HNQ := Lib.hid hrn
              obtain ⟨L, hL⟩ : ∃ L, outN m.list q = L := ⟨_, rfl⟩
              rw [hL] at hout
              have HLL := Lib.hid hL
              have HOUT0 := Lib.hid hout
              have hb := hout.bel
              have hbs0 := hb.size
              have hbW : Below W.heap.size W wr := HBW4.out.trans (hb.mono hw4)
              clear hrn hL HL2
              by_cases hlt : q < n
              · obtain ⟨x, b, o, hx, ha, hbl, hcl⟩ := HAT.out q hlt
                have HXX := Lib.hid hx
                obtain ⟨c0, c1, c2⟩ := HSV.out wr hb
                rw [ha] at c2
                obtain ⟨r0, r1, r2, r3, r4⟩ := hcl wr hbW
                obtain ⟨dd, hdd⟩ : ∃ dd, decide (q ∈ bndN m.list n) = dd := ⟨_, rfl⟩
                have HDL : Hid (decide (q ∈ bndN m.list m.list.length) = dd) := by
                  show decide (q ∈ bndN m.list m.list.length) = dd
                  rw [HN.out]; exact hdd
                obtain ⟨xb, hxbe⟩ : ∃ xb, wr.heap.size = xb := ⟨_, rfl⟩
                have hxb : V4.heap.size ≤ xb := by omega
                obtain ⟨V2, hV2⟩ : ∃ V2, wr.alloc (.cells #[.int .i64 x.op, .int .i64 x.fa, .int .i64 x.fb, .int .i64 x.fc, .int .i64 x.fd] 50) = V2 := ⟨_, rfl⟩
                have hX2 : V2.heap[xb]? = some (.cells #[.int .i64 x.op, .int .i64 x.fa, .int .i64 x.fb, .int .i64 x.fc, .int .i64 x.fd] 50 (0, 0)) := by rw [← hV2, ← hxbe]; exact heap_alloc_new wr _
                have hb2 : Below wr.heap.size wr V2 := by rw [← hV2]; exact (Below.refl _ _).alloc (Nat.le_refl _) _
                have hl2 : xb < V2.heap.size := (Array.getElem?_eq_some_iff.1 hX2).1
                have HOUT := Lib.hid (hout.below hb2)
                have HOFF := Lib.hid (hout.offX (Nat.le_of_eq hxbe))
                have HBU : Hid (Below V4.heap.size V4 V2) := HOUT.out.bel
                have hbs := HBU.out.size
                have HXU : Hid (∀ v, Below V2.heap.size V2 v → v.heap[xb]? = some (.cells #[.int .i64 x.op, .int .i64 x.fa, .int .i64 x.fb, .int .i64 x.fc, .int .i64 x.fd] 50 (0, 0))) := fun v hv => (hv.block _ hl2).trans hX2
                have hk2 := HK4.out V2 HBU.out q hlt
                rw [hdd] at hk2
                have HV2 := Lib.hid hV2
                have HXB := Lib.hid hxbe
                obtain ⟨x0, x1, x2, x3, x4⟩ := cells5 hX2
                clear hx hcl ha hdd hV2 hb2 hX2 hout hb hbW hxbe
                cases dd
                case false =>
                  have HNEXT : Hid (outN m.list (q + 1) = L ++ [reT (begF (pcF m.list)) x]) := by rw [← HLL.out]; exact outN_f HXX.out (opnB_no HDL.out)
                  have HNUM : Hid (begF (pcF m.list) (q + 1) = rn + 1) := by rw [← HNQ.out]; exact begF_f HXX.out (opnB_no HDL.out)
                  have HT5 := Lib.hid (l8Tg_one x V2)
                  go_wp2_with (first | rw [HV2.out, HXB.out] | rw [HV2.out] | fail)
                  try rw [HV2.out]
                  try rw [HXB.out]
                  clear r0 r1 r2 r3 r4 c0 c1 c2 hk2
                  refine HT5.out.mono ?_
                  rintro e w2 ⟨rfl, hb3⟩
                  have hl3 := hb3.size
                  have HB3 := Lib.hid hb3
                  have HX3 : Hid (∀ v, Below w2.heap.size w2 v → v.heap[xb]? = some (.cells #[.int .i64 x.op, .int .i64 x.fa, .int .i64 x.fb, .int .i64 x.fc, .int .i64 x.fd] 50 (0, 0))) := fun v hv => HXU.out v (hb3.trans (hv.mono hl3))
                  clear x0 x1 x2 x3 x4 hb3 HT5 HXU
                  rcases tgZ_ok HO.out HXX.out with ⟨t, htz, htl⟩ | ⟨htz, hsame⟩
                  · rw [HN.out] at htl
                    have hbw : Below V4.heap.size V4 w2 := HBU.out.trans (HB3.out.mono hbs)
                    obtain ⟨g0, hba, hg0, _⟩ := HNM.out w2 hbw t htl
                    subst hba
                    obtain ⟨nt, hnt⟩ : ∃ nt : Int, (begF (pcF m.list) t : Int) = nt := ⟨_, rfl⟩
                    have HNT : Hid (∀ v, Below w2.heap.size w2 v → v.cell? ⟨g0, t, none⟩ = some (.int .i64 nt)) := fun v hv => by
                      obtain ⟨g1, e1, _, h1⟩ := HNM.out v (hbw.trans (hv.mono hbw.size)) t htl
                      cases e1
                      rw [hnt] at h1
                      exact h1
                    obtain ⟨y, hy⟩ : ∃ y, reT (begF (pcF m.list)) x = y := ⟨_, rfl⟩
                    have HY := Lib.hid hy
                    have HTG : Hid (∀ v, Calls Tryd.prog 40 #[.agg #[.int .i64 x.op, .int .i64 x.fa, .int .i64 x.fb, .int .i64 x.fc, .int .i64 x.fd]] v (fun e w' => e = .returned (.int .i64 (t : Int)) ∧ Below v.heap.size v w')) := fun v => by
                      have h9 := l8Tg_one x v
                      rw [htz] at h9
                      exact h9
                    have HAM : Hid (∀ v, Calls Tryd.prog 41 #[.agg #[.int .i64 x.op, .int .i64 x.fa, .int .i64 x.fb, .int .i64 x.fc, .int .i64 x.fd], .int .i64 nt] v (fun e w' => e = .returned (aggI y) ∧ Below v.heap.size v w')) := fun v => by
                      have h9 := l8Aim_one x nt v
                      rw [← hnt, aimN_ref htz, hy] at h9
                      rw [← hnt]
                      exact h9
                    have HBD : Hid (Below w2.heap.size w2 w2.drew) := (Below.refl _ _).drew
                    rw [htz]
                    obtain ⟨x0, x1, x2, x3, x4⟩ := cells5 (HX3.out _ HBD.out)
                    obtain ⟨z0, z1, z2, z3, z4⟩ := cells5 (HX3.out _ (Below.refl _ _))
                    have n0 := HNT.out _ HBD.out
                    clear hy hnt htz hbw
                    go_wp2_with fail
                    go_region_with (first
                      | (go_at_call 40; refine (HTG.out _).mono ?_
                         rintro f u1 ⟨rfl, hu1⟩
                         have hU1 : Below w2.heap.size w2 u1 := HBD.out.trans hu1
                         obtain ⟨y0, y1, y2, y3, y4⟩ := cells5 (HX3.out _ hU1)
                         have n1 := HNT.out _ hU1)
                      | (go_at_call 41; refine (HAM.out _).mono ?_
                         rintro f u2 ⟨rfl, hu2⟩
                         have hU2 : Below w2.heap.size w2 u2 := hU1.trans (hu2.mono hU1.size)
                         have hXu := HX3.out _ hU2
                         obtain ⟨w0, w1', w2', w3', w4⟩ := cells5 hXu
                         have f0 := frozen_at hXu 0
                         have f1 := frozen_at hXu 1
                         have f2 := frozen_at hXu 2
                         have f3 := frozen_at hXu 3
                         have f4 := frozen_at hXu 4)
                      | fail)
                    all_goals
                      obtain ⟨V5, hV5⟩ : ∃ V5, (((((u2.setCell ⟨xb, 0, none⟩ (.int .i64 y.op)).setCell ⟨xb, 1, none⟩ (.int .i64 y.fa)).setCell ⟨xb, 2, none⟩ (.int .i64 y.fb)).setCell ⟨xb, 3, none⟩ (.int .i64 y.fc)).setCell ⟨xb, 4, none⟩ (.int .i64 y.fd)) = V5 := ⟨_, rfl⟩
                      have HX5 : Hid (V5.heap[xb]? = some (.cells #[.int .i64 y.op, .int .i64 y.fa, .int .i64 y.fb, .int .i64 y.fc, .int .i64 y.fd] 50 (0, 0))) := by rw [← hV5]; exact put5 y hXu
                      have hU : Below V2.heap.size V2 u2 := HB3.out.trans (hU2.mono HB3.out.size)
                      have HOLD5 : Hid (∀ q, q < V2.heap.size → q ≠ xb → V5.heap[q]? = V2.heap[q]?) := fun q hq hx => by rw [← hV5, put5_oth _ _ _ _ _ _ _ _ hx]; exact hU.block q hq
                      have h5s : V5.heap.size = u2.heap.size := by rw [← hV5]; simp [World.setCell]
                      have hus := hU.size
                      have h5l : V2.heap.size ≤ V5.heap.size := by omega
                      have HB5 : Hid (Below V4.heap.size V4 V5) := by
                        have h1 : Below V4.heap.size V4 u2 := HBU.out.trans (hU.mono hbs)
                        rw [← hV5]
                        exact ((((h1.setCell (p := ⟨xb, 0, none⟩) hxb _).setCell (p := ⟨xb, 1, none⟩) hxb _).setCell (p := ⟨xb, 2, none⟩) hxb _).setCell (p := ⟨xb, 3, none⟩) hxb _).setCell (p := ⟨xb, 4, none⟩) hxb _
                      rw [hV5]
                      clear hV5 h5s hU hu1 hU1 hu2 hU2 hXu y0 y1 y2 y3 y4 n1 w0 w1' w2' w3' w4 f0 f1 f2 f3 f4 x0 x1 x2 x3 x4 z0 z1 z2 z3 z4 n0 HTG HAM HNT HX3
                      obtain ⟨V6, hV6⟩ : ∃ V6, V5.alloc (.cells #[.int .i64 y.op, .int .i64 y.fa, .int .i64 y.fb, .int .i64 y.fc, .int .i64 y.fd] 50) = V6 := ⟨_, rfl⟩
                      have hblk : V6.heap[V5.heap.size]? = some (.cells #[.int .i64 y.op, .int .i64 y.fa, .int .i64 y.fb, .int .i64 y.fc, .int .i64 y.fd] 50 (0, 0)) := by rw [← hV6]; exact heap_alloc_new V5 _
                      have hz6 : V6.heap.size = V5.heap.size + 1 := by rw [← hV6]; simp
                      have hold6 : ∀ q, q < V2.heap.size → q ≠ xb → V6.heap[q]? = V2.heap[q]? := fun q hq hx => by rw [← hV6]; exact (Below.heap_alloc _ _ _ (by omega)).trans (HOLD5.out q hq hx)
                      have hb6 : Below V4.heap.size V4 V6 := by rw [← hV6]; exact HB5.out.alloc HB5.out.size _
                      have hrl6 : V6.ownsRow V4.heap.size 50 5 (.slice la rn lc) rn (flatN L) := HOUT.out.rl.far5 fun q hq hl => hold6 q hl (HOFF.out.2.2.2 q hq)
                      have hb5s := HB5.out.size
                      have HV6 := Lib.hid hV6
                      have HOLD6 := Lib.hid hold6
                      have HB6 := Lib.hid hb6
                      have hobl := HOUT.out.lt
                      have ob2 : V5.cell? ⟨ob, 2, none⟩ = some (.slice la rn lc) := by rw [cell_at ((HOLD5.out ob hobl HOFF.out.1).trans HOUT.out.box)]; rfl
                      obtain ⟨v0, v1, v2, v3, v4⟩ := cells5 HX5.out
                      clear hV6 hold6 hb6
                      go_wp2_with (first
                        | (at_builtin
                           rw [HV6.out]
                           refine wpList_append_lies _ (by rfl) _ _ 27 (by rfl) V4.heap.size 50 j0 _ 5 40 Tryd.underlying27 jn jn0 jn1 jn2 rfl (by omega) (.slice la rn lc) rn _ (by rfl) hrl6 ⟨V5.heap.size, 0, none⟩ 1 1 _ (by rfl) (by rfl) (World.news_of_block hblk) (by simp [Value.oneCell']) (by omega) (by unfold maxLen; omega) (by omega) (by omega) (V5.heap.size + 1) (by omega) ?_
                           intro g5 cp w5 hown5 hgrow hat hlt5
                           have hbx5 := ((hgrow.block ob (by omega) (fun e => HOUT.out.d3 ob e.symm rfl)).trans (HOLD6.out ob hobl HOFF.out.1)).trans HOUT.out.box
                           have fz2 := frozen_at hbx5 2
                           obtain ⟨e2, he2⟩ := cell_ex hbx5 2 (by simp)
                           have hstep := HOUT.out.step y HOFF.out HOLD6.out (by omega) HB6.out hgrow hat (by omega) hown5
                           have HREL : Hid (FeC m n V4 ob va aa vc ac (.int .i64 ((q : Int) + 1)) (w5.setCell ⟨ob, 2, none⟩ (.slice (some ⟨g5, 0, none⟩) (rn + 1) cp))) := (by
                             refine ⟨q + 1, some ⟨g5, 0, none⟩, cp, by omega, by go_num, ?_⟩
                             rw [HNEXT.out, HNUM.out, HY.out]
                             exact hstep)
                           clear hown5 hgrow hat hbx5 hblk hrl6 hstep)
                        | fail)
                      go_roundw
                      case rel => exact HREL.out
                      case measure => simp [intOf]; omega
                  · have HY : Hid (reT (begF (pcF m.list)) x = x) := hsame _
                    have HX5 : Hid (w2.heap[xb]? = some (.cells #[.int .i64 x.op, .int .i64 x.fa, .int .i64 x.fb, .int .i64 x.fc, .int .i64 x.fd] 50 (0, 0))) := HX3.out _ (Below.refl _ _)
                    have HOLD5 : Hid (∀ q, q < V2.heap.size → q ≠ xb → w2.heap[q]? = V2.heap[q]?) := fun q hq _ => HB3.out.block q hq
                    have h5l : V2.heap.size ≤ w2.heap.size := by omega
                    have HB5 : Hid (Below V4.heap.size V4 w2) := HBU.out.trans (HB3.out.mono hbs)
                    rw [htz]
                    clear htz hsame HX3
                    obtain ⟨V6, hV6⟩ : ∃ V6, w2.alloc (.cells #[.int .i64 x.op, .int .i64 x.fa, .int .i64 x.fb, .int .i64 x.fc, .int .i64 x.fd] 50) = V6 := ⟨_, rfl⟩
                    have hblk : V6.heap[w2.heap.size]? = some (.cells #[.int .i64 x.op, .int .i64 x.fa, .int .i64 x.fb, .int .i64 x.fc, .int .i64 x.fd] 50 (0, 0)) := by rw [← hV6]; exact heap_alloc_new w2 _
                    have hz6 : V6.heap.size = w2.heap.size + 1 := by rw [← hV6]; simp
                    have hold6 : ∀ q, q < V2.heap.size → q ≠ xb → V6.heap[q]? = V2.heap[q]? := fun q hq hx => by rw [← hV6]; exact (Below.heap_alloc _ _ _ (by omega)).trans (HOLD5.out q hq hx)
                    have hb6 : Below V4.heap.size V4 V6 := by rw [← hV6]; exact HB5.out.alloc HB5.out.size _
                    have hrl6 : V6.ownsRow V4.heap.size 50 5 (.slice la rn lc) rn (flatN L) := HOUT.out.rl.far5 fun q hq hl => hold6 q hl (HOFF.out.2.2.2 q hq)
                    have hb5s := HB5.out.size
                    have HV6 := Lib.hid hV6
                    have HOLD6 := Lib.hid hold6
                    have HB6 := Lib.hid hb6
                    have hobl := HOUT.out.lt
                    have ob2 : w2.cell? ⟨ob, 2, none⟩ = some (.slice la rn lc) := by rw [cell_at ((HOLD5.out ob hobl HOFF.out.1).trans HOUT.out.box)]; rfl
                    obtain ⟨v0, v1, v2, v3, v4⟩ := cells5 HX5.out
                    clear hV6 hold6 hb6
                    go_wp2_with (first
                      | (at_builtin
                         rw [HV6.out]
                         refine wpList_append_lies _ (by rfl) _ _ 27 (by rfl) V4.heap.size 50 j0 _ 5 40 Tryd.underlying27 jn jn0 jn1 jn2 rfl (by omega) (.slice la rn lc) rn _ (by rfl) hrl6 ⟨w2.heap.size, 0, none⟩ 1 1 _ (by rfl) (by rfl) (World.news_of_block hblk) (by simp [Value.oneCell']) (by omega) (by unfold maxLen; omega) (by omega) (by omega) (w2.heap.size + 1) (by omega) ?_
                         intro g5 cp w5 hown5 hgrow hat hlt5
                         have hbx5 := ((hgrow.block ob (by omega) (fun e => HOUT.out.d3 ob e.symm rfl)).trans (HOLD6.out ob hobl HOFF.out.1)).trans HOUT.out.box
                         have fz2 := frozen_at hbx5 2
                         obtain ⟨e2, he2⟩ := cell_ex hbx5 2 (by simp)
                         have hstep := HOUT.out.step x HOFF.out HOLD6.out (by omega) HB6.out hgrow hat (by omega) hown5
                         have HREL : Hid (FeC m n V4 ob va aa vc ac (.int .i64 ((q : Int) + 1)) (w5.setCell ⟨ob, 2, none⟩ (.slice (some ⟨g5, 0, none⟩) (rn + 1) cp))) := (by
                           refine ⟨q + 1, some ⟨g5, 0, none⟩, cp, by omega, by go_num, ?_⟩
                           rw [HNEXT.out, HNUM.out, HY.out]
                           exact hstep)
                         clear hown5 hgrow hat hbx5 hblk hrl6 hstep)
                      | fail)
                    go_roundw
                    case rel => exact HREL.out
                    case measure => simp [intOf]; omega
                case true =>
                  by_cases h12 : x.op = 12
                  · have b12 : (x.op != 12) = false := by simpa using h12
                    have HNEXT : Hid (outN m.list (q + 1) = L ++ [reT (begF (pcF m.list)) x]) := by rw [← HLL.out]; exact outN_f HXX.out (opnB_12 HXX.out h12)
                    have HNUM : Hid (begF (pcF m.list) (q + 1) = rn + 1) := by rw [← HNQ.out]; exact begF_f HXX.out (opnB_12 HXX.out h12)
                    have HT5 := Lib.hid (l8Tg_one x V2)
                    clear h12
                    go_wp2_with (first | rw [HV2.out, HXB.out] | rw [HV2.out] | fail)
                    try rw [HV2.out]
                    try rw [HXB.out]
                    clear r0 r1 r2 r3 r4 c0 c1 c2 hk2
                    refine HT5.out.mono ?_
                    rintro e w2 ⟨rfl, hb3⟩
                    have hl3 := hb3.size
                    have HB3 := Lib.hid hb3
                    have HX3 : Hid (∀ v, Below w2.heap.size w2 v → v.heap[xb]? = some (.cells #[.int .i64 x.op, .int .i64 x.fa, .int .i64 x.fb, .int .i64 x.fc, .int .i64 x.fd] 50 (0, 0))) := fun v hv => HXU.out v (hb3.trans (hv.mono hl3))
                    clear x0 x1 x2 x3 x4 hb3 HT5 HXU
                    rcases tgZ_ok HO.out HXX.out with ⟨t, htz, htl⟩ | ⟨htz, hsame⟩
                    · rw [HN.out] at htl
                      have hbw : Below V4.heap.size V4 w2 := HBU.out.trans (HB3.out.mono hbs)
                      obtain ⟨g0, hba, hg0, _⟩ := HNM.out w2 hbw t htl
                      subst hba
                      obtain ⟨nt, hnt⟩ : ∃ nt : Int, (begF (pcF m.list) t : Int) = nt := ⟨_, rfl⟩
                      have HNT : Hid (∀ v, Below w2.heap.size w2 v → v.cell? ⟨g0, t, none⟩ = some (.int .i64 nt)) := fun v hv => by
                        obtain ⟨g1, e1, _, h1⟩ := HNM.out v (hbw.trans (hv.mono hbw.size)) t htl
                        cases e1
                        rw [hnt] at h1
                        exact h1
                      obtain ⟨y, hy⟩ : ∃ y, reT (begF (pcF m.list)) x = y := ⟨_, rfl⟩
                      have HY := Lib.hid hy
                      have HTG : Hid (∀ v, Calls Tryd.prog 40 #[.agg #[.int .i64 x.op, .int .i64 x.fa, .int .i64 x.fb, .int .i64 x.fc, .int .i64 x.fd]] v (fun e w' => e = .returned (.int .i64 (t : Int)) ∧ Below v.heap.size v w')) := fun v => by
                        have h9 := l8Tg_one x v
                        rw [htz] at h9
                        exact h9
                      have HAM : Hid (∀ v, Calls Tryd.prog 41 #[.agg #[.int .i64 x.op, .int .i64 x.fa, .int .i64 x.fb, .int .i64 x.fc, .int .i64 x.fd], .int .i64 nt] v (fun e w' => e = .returned (aggI y) ∧ Below v.heap.size v w')) := fun v => by
                        have h9 := l8Aim_one x nt v
                        rw [← hnt, aimN_ref htz, hy] at h9
                        rw [← hnt]
                        exact h9
                      have HBD : Hid (Below w2.heap.size w2 w2.drew) := (Below.refl _ _).drew
                      rw [htz]
                      obtain ⟨x0, x1, x2, x3, x4⟩ := cells5 (HX3.out _ HBD.out)
                      obtain ⟨z0, z1, z2, z3, z4⟩ := cells5 (HX3.out _ (Below.refl _ _))
                      have n0 := HNT.out _ HBD.out
                      clear hy hnt htz hbw
                      go_wp2_with fail
                      go_region_with (first
                        | (go_at_call 40; refine (HTG.out _).mono ?_
                           rintro f u1 ⟨rfl, hu1⟩
                           have hU1 : Below w2.heap.size w2 u1 := HBD.out.trans hu1
                           obtain ⟨y0, y1, y2, y3, y4⟩ := cells5 (HX3.out _ hU1)
                           have n1 := HNT.out _ hU1)
                        | (go_at_call 41; refine (HAM.out _).mono ?_
                           rintro f u2 ⟨rfl, hu2⟩
                           have hU2 : Below w2.heap.size w2 u2 := hU1.trans (hu2.mono hU1.size)
                           have hXu := HX3.out _ hU2
                           obtain ⟨w0, w1', w2', w3', w4⟩ := cells5 hXu
                           have f0 := frozen_at hXu 0
                           have f1 := frozen_at hXu 1
                           have f2 := frozen_at hXu 2
                           have f3 := frozen_at hXu 3
                           have f4 := frozen_at hXu 4)
                        | fail)
                      all_goals
                        obtain ⟨V5, hV5⟩ : ∃ V5, (((((u2.setCell ⟨xb, 0, none⟩ (.int .i64 y.op)).setCell ⟨xb, 1, none⟩ (.int .i64 y.fa)).setCell ⟨xb, 2, none⟩ (.int .i64 y.fb)).setCell ⟨xb, 3, none⟩ (.int .i64 y.fc)).setCell ⟨xb, 4, none⟩ (.int .i64 y.fd)) = V5 := ⟨_, rfl⟩
                        have HX5 : Hid (V5.heap[xb]? = some (.cells #[.int .i64 y.op, .int .i64 y.fa, .int .i64 y.fb, .int .i64 y.fc, .int .i64 y.fd] 50 (0, 0))) := by rw [← hV5]; exact put5 y hXu
                        have hU : Below V2.heap.size V2 u2 := HB3.out.trans (hU2.mono HB3.out.size)
                        have HOLD5 : Hid (∀ q, q < V2.heap.size → q ≠ xb → V5.heap[q]? = V2.heap[q]?) := fun q hq hx => by rw [← hV5, put5_oth _ _ _ _ _ _ _ _ hx]; exact hU.block q hq
                        have h5s : V5.heap.size = u2.heap.size := by rw [← hV5]; simp [World.setCell]
                        have hus := hU.size
                        have h5l : V2.heap.size ≤ V5.heap.size := by omega
                        have HB5 : Hid (Below V4.heap.size V4 V5) := by
                          have h1 : Below V4.heap.size V4 u2 := HBU.out.trans (hU.mono hbs)
                          rw [← hV5]
                          exact ((((h1.setCell (p := ⟨xb, 0, none⟩) hxb _).setCell (p := ⟨xb, 1, none⟩) hxb _).setCell (p := ⟨xb, 2, none⟩) hxb _).setCell (p := ⟨xb, 3, none⟩) hxb _).setCell (p := ⟨xb, 4, none⟩) hxb _
                        rw [hV5]
                        clear hV5 h5s hU hu1 hU1 hu2 hU2 hXu y0 y1 y2 y3 y4 n1 w0 w1' w2' w3' w4 f0 f1 f2 f3 f4 x0 x1 x2 x3 x4 z0 z1 z2 z3 z4 n0 HTG HAM HNT HX3
                        obtain ⟨V6, hV6⟩ : ∃ V6, V5.alloc (.cells #[.int .i64 y.op, .int .i64 y.fa, .int .i64 y.fb, .int .i64 y.fc, .int .i64 y.fd] 50) = V6 := ⟨_, rfl⟩
                        have hblk : V6.heap[V5.heap.size]? = some (.cells #[.int .i64 y.op, .int .i64 y.fa, .int .i64 y.fb, .int .i64 y.fc, .int .i64 y.fd] 50 (0, 0)) := by rw [← hV6]; exact heap_alloc_new V5 _
                        have hz6 : V6.heap.size = V5.heap.size + 1 := by rw [← hV6]; simp
                        have hold6 : ∀ q, q < V2.heap.size → q ≠ xb → V6.heap[q]? = V2.heap[q]? := fun q hq hx => by rw [← hV6]; exact (Below.heap_alloc _ _ _ (by omega)).trans (HOLD5.out q hq hx)
                        have hb6 : Below V4.heap.size V4 V6 := by rw [← hV6]; exact HB5.out.alloc HB5.out.size _
                        have hrl6 : V6.ownsRow V4.heap.size 50 5 (.slice la rn lc) rn (flatN L) := HOUT.out.rl.far5 fun q hq hl => hold6 q hl (HOFF.out.2.2.2 q hq)
                        have hb5s := HB5.out.size
                        have HV6 := Lib.hid hV6
                        have HOLD6 := Lib.hid hold6
                        have HB6 := Lib.hid hb6
                        have hobl := HOUT.out.lt
                        have ob2 : V5.cell? ⟨ob, 2, none⟩ = some (.slice la rn lc) := by rw [cell_at ((HOLD5.out ob hobl HOFF.out.1).trans HOUT.out.box)]; rfl
                        obtain ⟨v0, v1, v2, v3, v4⟩ := cells5 HX5.out
                        clear hV6 hold6 hb6
                        go_wp2_with (first
                          | (at_builtin
                             rw [HV6.out]
                             refine wpList_append_lies _ (by rfl) _ _ 27 (by rfl) V4.heap.size 50 j0 _ 5 40 Tryd.underlying27 jn jn0 jn1 jn2 rfl (by omega) (.slice la rn lc) rn _ (by rfl) hrl6 ⟨V5.heap.size, 0, none⟩ 1 1 _ (by rfl) (by rfl) (World.news_of_block hblk) (by simp [Value.oneCell']) (by omega) (by unfold maxLen; omega) (by omega) (by omega) (V5.heap.size + 1) (by omega) ?_
                             intro g5 cp w5 hown5 hgrow hat hlt5
                             have hbx5 := ((hgrow.block ob (by omega) (fun e => HOUT.out.d3 ob e.symm rfl)).trans (HOLD6.out ob hobl HOFF.out.1)).trans HOUT.out.box
                             have fz2 := frozen_at hbx5 2
                             obtain ⟨e2, he2⟩ := cell_ex hbx5 2 (by simp)
                             have hstep := HOUT.out.step y HOFF.out HOLD6.out (by omega) HB6.out hgrow hat (by omega) hown5
                             have HREL : Hid (FeC m n V4 ob va aa vc ac (.int .i64 ((q : Int) + 1)) (w5.setCell ⟨ob, 2, none⟩ (.slice (some ⟨g5, 0, none⟩) (rn + 1) cp))) := (by
                               refine ⟨q + 1, some ⟨g5, 0, none⟩, cp, by omega, by go_num, ?_⟩
                               rw [HNEXT.out, HNUM.out, HY.out]
                               exact hstep)
                             clear hown5 hgrow hat hbx5 hblk hrl6 hstep)
                          | fail)
                        go_roundw
                        case rel => exact HREL.out
                        case measure => simp [intOf]; omega
                    · have HY : Hid (reT (begF (pcF m.list)) x = x) := hsame _
                      have HX5 : Hid (w2.heap[xb]? = some (.cells #[.int .i64 x.op, .int .i64 x.fa, .int .i64 x.fb, .int .i64 x.fc, .int .i64 x.fd] 50 (0, 0))) := HX3.out _ (Below.refl _ _)
                      have HOLD5 : Hid (∀ q, q < V2.heap.size → q ≠ xb → w2.heap[q]? = V2.heap[q]?) := fun q hq _ => HB3.out.block q hq
                      have h5l : V2.heap.size ≤ w2.heap.size := by omega
                      have HB5 : Hid (Below V4.heap.size V4 w2) := HBU.out.trans (HB3.out.mono hbs)
                      rw [htz]
                      clear htz hsame HX3
                      obtain ⟨V6, hV6⟩ : ∃ V6, w2.alloc (.cells #[.int .i64 x.op, .int .i64 x.fa, .int .i64 x.fb, .int .i64 x.fc, .int .i64 x.fd] 50) = V6 := ⟨_, rfl⟩
                      have hblk : V6.heap[w2.heap.size]? = some (.cells #[.int .i64 x.op, .int .i64 x.fa, .int .i64 x.fb, .int .i64 x.fc, .int .i64 x.fd] 50 (0, 0)) := by rw [← hV6]; exact heap_alloc_new w2 _
                      have hz6 : V6.heap.size = w2.heap.size + 1 := by rw [← hV6]; simp
                      have hold6 : ∀ q, q < V2.heap.size → q ≠ xb → V6.heap[q]? = V2.heap[q]? := fun q hq hx => by rw [← hV6]; exact (Below.heap_alloc _ _ _ (by omega)).trans (HOLD5.out q hq hx)
                      have hb6 : Below V4.heap.size V4 V6 := by rw [← hV6]; exact HB5.out.alloc HB5.out.size _
                      have hrl6 : V6.ownsRow V4.heap.size 50 5 (.slice la rn lc) rn (flatN L) := HOUT.out.rl.far5 fun q hq hl => hold6 q hl (HOFF.out.2.2.2 q hq)
                      have hb5s := HB5.out.size
                      have HV6 := Lib.hid hV6
                      have HOLD6 := Lib.hid hold6
                      have HB6 := Lib.hid hb6
                      have hobl := HOUT.out.lt
                      have ob2 : w2.cell? ⟨ob, 2, none⟩ = some (.slice la rn lc) := by rw [cell_at ((HOLD5.out ob hobl HOFF.out.1).trans HOUT.out.box)]; rfl
                      obtain ⟨v0, v1, v2, v3, v4⟩ := cells5 HX5.out
                      clear hV6 hold6 hb6
                      go_wp2_with (first
                        | (at_builtin
                           rw [HV6.out]
                           refine wpList_append_lies _ (by rfl) _ _ 27 (by rfl) V4.heap.size 50 j0 _ 5 40 Tryd.underlying27 jn jn0 jn1 jn2 rfl (by omega) (.slice la rn lc) rn _ (by rfl) hrl6 ⟨w2.heap.size, 0, none⟩ 1 1 _ (by rfl) (by rfl) (World.news_of_block hblk) (by simp [Value.oneCell']) (by omega) (by unfold maxLen; omega) (by omega) (by omega) (w2.heap.size + 1) (by omega) ?_
                           intro g5 cp w5 hown5 hgrow hat hlt5
                           have hbx5 := ((hgrow.block ob (by omega) (fun e => HOUT.out.d3 ob e.symm rfl)).trans (HOLD6.out ob hobl HOFF.out.1)).trans HOUT.out.box
                           have fz2 := frozen_at hbx5 2
                           obtain ⟨e2, he2⟩ := cell_ex hbx5 2 (by simp)
                           have hstep := HOUT.out.step x HOFF.out HOLD6.out (by omega) HB6.out hgrow hat (by omega) hown5
                           have HREL : Hid (FeC m n V4 ob va aa vc ac (.int .i64 ((q : Int) + 1)) (w5.setCell ⟨ob, 2, none⟩ (.slice (some ⟨g5, 0, none⟩) (rn + 1) cp))) := (by
                             refine ⟨q + 1, some ⟨g5, 0, none⟩, cp, by omega, by go_num, ?_⟩
                             rw [HNEXT.out, HNUM.out, HY.out]
                             exact hstep)
                           clear hown5 hgrow hat hbx5 hblk hrl6 hstep)
                        | fail)
                      go_roundw
                      case rel => exact HREL.out
                      case measure => simp [intOf]; omega
                  · have b12 : (x.op != 12) = true := by simpa using h12
                    have HNEXT : Hid (outN m.list (q + 1) = (L ++ [fenI]) ++ [reT (begF (pcF m.list)) x]) := by rw [← HLL.out]; exact outN_t HXX.out (opnB_yes HXX.out HDL.out h12)
                    have HNUM : Hid (begF (pcF m.list) (q + 1) = rn + 1 + 1) := by rw [← HNQ.out]; exact begF_t HXX.out (opnB_yes HXX.out HDL.out h12)
                    obtain ⟨VF, hVF⟩ : ∃ VF, V2.alloc (.cells #[.int .i64 12, .int .i64 0, .int .i64 0, .int .i64 0, .int .i64 0] 50) = VF := ⟨_, rfl⟩
                    have hblk : VF.heap[V2.heap.size]? = some (.cells #[.int .i64 12, .int .i64 0, .int .i64 0, .int .i64 0, .int .i64 0] 50 (0, 0)) := by rw [← hVF]; exact heap_alloc_new V2 _
                    have hzF : VF.heap.size = V2.heap.size + 1 := by rw [← hVF]; simp
                    have hoF : ∀ q, q < V2.heap.size → q ≠ xb → VF.heap[q]? = V2.heap[q]? := fun q hq _ => by rw [← hVF]; exact Below.heap_alloc _ _ _ hq
                    have hbF : Below V4.heap.size V4 VF := by rw [← hVF]; exact HBU.out.alloc hbs _
                    have hrlF : VF.ownsRow V4.heap.size 50 5 (.slice la rn lc) rn (flatN L) := HOUT.out.rl.far5 fun q hq hl => hoF q hl (HOFF.out.2.2.2 q hq)
                    have hobl := HOUT.out.lt
                    have HVF := Lib.hid hVF
                    have HOF := Lib.hid hoF
                    have HBF := Lib.hid hbF
                    have HXW : Hid (∀ (g4 cp4 : Nat) (w4 : World), VF.grownBy w4 (Value.slice la rn lc).ownBlock → (w4.setCell ⟨ob, 2, none⟩ (.slice (some ⟨g4, 0, none⟩) (rn + 1) cp4)).heap[xb]? = some (.cells #[.int .i64 x.op, .int .i64 x.fa, .int .i64 x.fb, .int .i64 x.fc, .int .i64 x.fd] 50 (0, 0))) := fun g4 cp4 w4 hg => by
                      have hne : xb ≠ ob := fun e => HOFF.out.1 e.symm
                      rw [Below.heap_setCell _ _ _ _ (by simpa using hne)]
                      refine (hg.block xb (by omega) (fun e => HOFF.out.2.2.2 xb e.symm rfl)).trans ?_
                      rw [← HVF.out]
                      exact (Below.heap_alloc _ _ _ hl2).trans (HXU.out V2 (Below.refl _ _))
                    have HSTEP : Hid (∀ (g4 cp4 : Nat) (w4 : World), VF.grownBy w4 (Value.slice la rn lc).ownBlock → ((Value.slice la rn lc).ownBlock = some g4 ∨ g4 = V2.heap.size + 1) → w4.ownsRow V4.heap.size 50 5 (.slice (some ⟨g4, 0, none⟩) (rn + 1) cp4) (rn + 1) (flatN L ++ [.int .i64 12, .int .i64 0, .int .i64 0, .int .i64 0, .int .i64 0]) → OutL m V4 ob va aa vc ac (L ++ [fenI]) (rn + 1) (some ⟨g4, 0, none⟩) cp4 (w4.setCell ⟨ob, 2, none⟩ (.slice (some ⟨g4, 0, none⟩) (rn + 1) cp4)) ∧ OffX xb m ob va aa vc ac (rn + 1) (some ⟨g4, 0, none⟩) cp4) := fun g4 cp4 w4 hg hat ho =>
                      ⟨HOUT.out.step fenI HOFF.out HOF.out (by omega) HBF.out hg hat (by omega) ho, HOFF.out.step hat (by omega)⟩
                    have ob2 : V2.cell? ⟨ob, 2, none⟩ = some (.slice la rn lc) := by rw [cell_at HOUT.out.box]; rfl
                    clear hVF hoF hbF h12
                    go_wp2_with (first
                      | (at_builtin
                         rw [HVF.out]
                         refine wpList_append_lies _ (by rfl) _ _ 27 (by rfl) V4.heap.size 50 j0 _ 5 40 Tryd.underlying27 jn jn0 jn1 jn2 rfl (by omega) (.slice la rn lc) rn _ (by rfl) hrlF ⟨V2.heap.size, 0, none⟩ 1 1 _ (by rfl) (by rfl) (World.news_of_block hblk) (by simp [Value.oneCell']) (by omega) (by unfold maxLen; omega) (by omega) (by omega) (V2.heap.size + 1) (by omega) ?_
                         intro g4 cp4 w4 hown4 hgrow4 hat4 hlt4
                         have hbx4 := ((hgrow4.block ob (by omega) (fun e => HOUT.out.d3 ob e.symm rfl)).trans (HOF.out ob hobl HOFF.out.1)).trans HOUT.out.box
                         have fz2 := frozen_at hbx4 2
                         obtain ⟨e2, he2⟩ := cell_ex hbx4 2 (by simp)
                         obtain ⟨hstep, hoff⟩ := HSTEP.out g4 cp4 w4 hgrow4 hat4 hown4
                         have hxw := HXW.out g4 cp4 w4 hgrow4
                         obtain ⟨X0, X1, X2, X3, X4⟩ := cells5 hxw)
                      | rw [HV2.out, HXB.out]
                      | rw [HV2.out]
                      | fail)
                    obtain ⟨U, hU⟩ : ∃ U, w4.setCell ⟨ob, 2, none⟩ (.slice (some ⟨g4, 0, none⟩) (rn + 1) cp4) = U := ⟨_, rfl⟩
                    rw [hU] at hstep hxw X0 X1 X2 X3 X4 ⊢
                    obtain ⟨mn, hmn⟩ : ∃ mn, rn + 1 = mn := ⟨_, rfl⟩
                    have hmn2 : mn ≤ 2 * q + 1 := by omega
                    obtain ⟨M, hM⟩ : ∃ M, L ++ [fenI] = M := ⟨_, rfl⟩
                    rw [hmn] at hstep hoff HNUM
                    rw [hM] at hstep HNEXT
                    clear HOUT HOFF HBU hbs x0 x1 x2 x3 x4 hU hM hgrow4 hat4 hown4 hbx4 hblk hrlF fz2 he2 r0 r1 r2 r3 r4 c0 c1 c2 hk2 ob2 hmn
                    have HOUT := Lib.hid hstep
                    have HOFF := Lib.hid hoff
                    have HBU : Hid (Below V4.heap.size V4 U) := HOUT.out.bel
                    have hbs := HBU.out.size
                    have hlU : xb < U.heap.size := (Array.getElem?_eq_some_iff.1 hxw).1
                    have HXU : Hid (∀ v, Below U.heap.size U v → v.heap[xb]? = some (.cells #[.int .i64 x.op, .int .i64 x.fa, .int .i64 x.fb, .int .i64 x.fc, .int .i64 x.fd] 50 (0, 0))) := fun v hv => (hv.block _ hlU).trans hxw
                    have HT5 := Lib.hid (l8Tg_one x U)
                    obtain ⟨x0, x1, x2, x3, x4⟩ := cells5 hxw
                    clear hstep hoff hxw X0 X1 X2 X3 X4
                    refine HT5.out.mono ?_
                    rintro e w2 ⟨rfl, hb3⟩
                    have hl3 := hb3.size
                    have HB3 := Lib.hid hb3
                    have HX3 : Hid (∀ v, Below w2.heap.size w2 v → v.heap[xb]? = some (.cells #[.int .i64 x.op, .int .i64 x.fa, .int .i64 x.fb, .int .i64 x.fc, .int .i64 x.fd] 50 (0, 0))) := fun v hv => HXU.out v (hb3.trans (hv.mono hl3))
                    clear x0 x1 x2 x3 x4 hb3 HT5 HXU
                    rcases tgZ_ok HO.out HXX.out with ⟨t, htz, htl⟩ | ⟨htz, hsame⟩
                    · rw [HN.out] at htl
                      have hbw : Below V4.heap.size V4 w2 := HBU.out.trans (HB3.out.mono hbs)
                      obtain ⟨g0, hba, hg0, _⟩ := HNM.out w2 hbw t htl
                      subst hba
                      obtain ⟨nt, hnt⟩ : ∃ nt : Int, (begF (pcF m.list) t : Int) = nt := ⟨_, rfl⟩
                      have HNT : Hid (∀ v, Below w2.heap.size w2 v → v.cell? ⟨g0, t, none⟩ = some (.int .i64 nt)) := fun v hv => by
                        obtain ⟨g1, e1, _, h1⟩ := HNM.out v (hbw.trans (hv.mono hbw.size)) t htl
                        cases e1
                        rw [hnt] at h1
                        exact h1
                      obtain ⟨y, hy⟩ : ∃ y, reT (begF (pcF m.list)) x = y := ⟨_, rfl⟩
                      have HY := Lib.hid hy
                      have HTG : Hid (∀ v, Calls Tryd.prog 40 #[.agg #[.int .i64 x.op, .int .i64 x.fa, .int .i64 x.fb, .int .i64 x.fc, .int .i64 x.fd]] v (fun e w' => e = .returned (.int .i64 (t : Int)) ∧ Below v.heap.size v w')) := fun v => by
                        have h9 := l8Tg_one x v
                        rw [htz] at h9
                        exact h9
                      have HAM : Hid (∀ v, Calls Tryd.prog 41 #[.agg #[.int .i64 x.op, .int .i64 x.fa, .int .i64 x.fb, .int .i64 x.fc, .int .i64 x.fd], .int .i64 nt] v (fun e w' => e = .returned (aggI y) ∧ Below v.heap.size v w')) := fun v => by
                        have h9 := l8Aim_one x nt v
                        rw [← hnt, aimN_ref htz, hy] at h9
                        rw [← hnt]
                        exact h9
                      have HBD : Hid (Below w2.heap.size w2 w2.drew) := (Below.refl _ _).drew
                      rw [htz]
                      obtain ⟨x0, x1, x2, x3, x4⟩ := cells5 (HX3.out _ HBD.out)
                      obtain ⟨z0, z1, z2, z3, z4⟩ := cells5 (HX3.out _ (Below.refl _ _))
                      have n0 := HNT.out _ HBD.out
                      clear hy hnt htz hbw
                      go_wp2_with fail
                      go_region_with (first
                        | (go_at_call 40; refine (HTG.out _).mono ?_
                           rintro f u1 ⟨rfl, hu1⟩
                           have hU1 : Below w2.heap.size w2 u1 := HBD.out.trans hu1
                           obtain ⟨y0, y1, y2, y3, y4⟩ := cells5 (HX3.out _ hU1)
                           have n1 := HNT.out _ hU1)
                        | (go_at_call 41; refine (HAM.out _).mono ?_
                           rintro f u2 ⟨rfl, hu2⟩
                           have hU2 : Below w2.heap.size w2 u2 := hU1.trans (hu2.mono hU1.size)
                           have hXu := HX3.out _ hU2
                           obtain ⟨w0, w1', w2', w3', w4⟩ := cells5 hXu
                           have f0 := frozen_at hXu 0
                           have f1 := frozen_at hXu 1
                           have f2 := frozen_at hXu 2
                           have f3 := frozen_at hXu 3
                           have f4 := frozen_at hXu 4)
                        | fail)
                      all_goals
                        obtain ⟨V5, hV5⟩ : ∃ V5, (((((u2.setCell ⟨xb, 0, none⟩ (.int .i64 y.op)).setCell ⟨xb, 1, none⟩ (.int .i64 y.fa)).setCell ⟨xb, 2, none⟩ (.int .i64 y.fb)).setCell ⟨xb, 3, none⟩ (.int .i64 y.fc)).setCell ⟨xb, 4, none⟩ (.int .i64 y.fd)) = V5 := ⟨_, rfl⟩
                        have HX5 : Hid (V5.heap[xb]? = some (.cells #[.int .i64 y.op, .int .i64 y.fa, .int .i64 y.fb, .int .i64 y.fc, .int .i64 y.fd] 50 (0, 0))) := by rw [← hV5]; exact put5 y hXu
                        have hU : Below U.heap.size U u2 := HB3.out.trans (hU2.mono HB3.out.size)
                        have HOLD5 : Hid (∀ q, q < U.heap.size → q ≠ xb → V5.heap[q]? = U.heap[q]?) := fun q hq hx => by rw [← hV5, put5_oth _ _ _ _ _ _ _ _ hx]; exact hU.block q hq
                        have h5s : V5.heap.size = u2.heap.size := by rw [← hV5]; simp [World.setCell]
                        have hus := hU.size
                        have h5l : U.heap.size ≤ V5.heap.size := by omega
                        have HB5 : Hid (Below V4.heap.size V4 V5) := by
                          have h1 : Below V4.heap.size V4 u2 := HBU.out.trans (hU.mono hbs)
                          rw [← hV5]
                          exact ((((h1.setCell (p := ⟨xb, 0, none⟩) hxb _).setCell (p := ⟨xb, 1, none⟩) hxb _).setCell (p := ⟨xb, 2, none⟩) hxb _).setCell (p := ⟨xb, 3, none⟩) hxb _).setCell (p := ⟨xb, 4, none⟩) hxb _
                        rw [hV5]
                        clear hV5 h5s hU hu1 hU1 hu2 hU2 hXu y0 y1 y2 y3 y4 n1 w0 w1' w2' w3' w4 f0 f1 f2 f3 f4 x0 x1 x2 x3 x4 z0 z1 z2 z3 z4 n0 HTG HAM HNT HX3
                        obtain ⟨V6, hV6⟩ : ∃ V6, V5.alloc (.cells #[.int .i64 y.op, .int .i64 y.fa, .int .i64 y.fb, .int .i64 y.fc, .int .i64 y.fd] 50) = V6 := ⟨_, rfl⟩
                        have hblk : V6.heap[V5.heap.size]? = some (.cells #[.int .i64 y.op, .int .i64 y.fa, .int .i64 y.fb, .int .i64 y.fc, .int .i64 y.fd] 50 (0, 0)) := by rw [← hV6]; exact heap_alloc_new V5 _
                        have hz6 : V6.heap.size = V5.heap.size + 1 := by rw [← hV6]; simp
                        have hold6 : ∀ q, q < U.heap.size → q ≠ xb → V6.heap[q]? = U.heap[q]? := fun q hq hx => by rw [← hV6]; exact (Below.heap_alloc _ _ _ (by omega)).trans (HOLD5.out q hq hx)
                        have hb6 : Below V4.heap.size V4 V6 := by rw [← hV6]; exact HB5.out.alloc HB5.out.size _
                        have hrl6 : V6.ownsRow V4.heap.size 50 5 (.slice (some ⟨g4, 0, none⟩) mn cp4) mn (flatN M) := HOUT.out.rl.far5 fun q hq hl => hold6 q hl (HOFF.out.2.2.2 q hq)
                        have hb5s := HB5.out.size
                        have HV6 := Lib.hid hV6
                        have HOLD6 := Lib.hid hold6
                        have HB6 := Lib.hid hb6
                        have hobl := HOUT.out.lt
                        have ob2 : V5.cell? ⟨ob, 2, none⟩ = some (.slice (some ⟨g4, 0, none⟩) mn cp4) := by rw [cell_at ((HOLD5.out ob hobl HOFF.out.1).trans HOUT.out.box)]; rfl
                        obtain ⟨v0, v1, v2, v3, v4⟩ := cells5 HX5.out
                        clear hV6 hold6 hb6
                        go_wp2_with (first
                          | (at_builtin
                             rw [HV6.out]
                             refine wpList_append_lies _ (by rfl) _ _ 27 (by rfl) V4.heap.size 50 j0 _ 5 40 Tryd.underlying27 jn jn0 jn1 jn2 rfl (by omega) (.slice (some ⟨g4, 0, none⟩) mn cp4) mn _ (by rfl) hrl6 ⟨V5.heap.size, 0, none⟩ 1 1 _ (by rfl) (by rfl) (World.news_of_block hblk) (by simp [Value.oneCell']) (by omega) (by unfold maxLen; omega) (by omega) (by omega) (V5.heap.size + 1) (by omega) ?_
                             intro g5 cp w5 hown5 hgrow hat hlt5
                             have hbx5 := ((hgrow.block ob (by omega) (fun e => HOUT.out.d3 ob e.symm rfl)).trans (HOLD6.out ob hobl HOFF.out.1)).trans HOUT.out.box
                             have fz2 := frozen_at hbx5 2
                             obtain ⟨e2, he2⟩ := cell_ex hbx5 2 (by simp)
                             have hstep := HOUT.out.step y HOFF.out HOLD6.out (by omega) HB6.out hgrow hat (by omega) hown5
                             have HREL : Hid (FeC m n V4 ob va aa vc ac (.int .i64 ((q : Int) + 1)) (w5.setCell ⟨ob, 2, none⟩ (.slice (some ⟨g5, 0, none⟩) (mn + 1) cp))) := (by
                               refine ⟨q + 1, some ⟨g5, 0, none⟩, cp, by omega, by go_num, ?_⟩
                               rw [HNEXT.out, HNUM.out, HY.out]
                               exact hstep)
                             clear hown5 hgrow hat hbx5 hblk hrl6 hstep)
                          | fail)
                        go_roundw
                        case rel => exact HREL.out
                        case measure => simp [intOf]; omega
                    · have HY : Hid (reT (begF (pcF m.list)) x = x) := hsame _
                      have HX5 : Hid (w2.heap[xb]? = some (.cells #[.int .i64 x.op, .int .i64 x.fa, .int .i64 x.fb, .int .i64 x.fc, .int .i64 x.fd] 50 (0, 0))) := HX3.out _ (Below.refl _ _)
                      have HOLD5 : Hid (∀ q, q < U.heap.size → q ≠ xb → w2.heap[q]? = U.heap[q]?) := fun q hq _ => HB3.out.block q hq
                      have h5l : U.heap.size ≤ w2.heap.size := by omega
                      have HB5 : Hid (Below V4.heap.size V4 w2) := HBU.out.trans (HB3.out.mono hbs)
                      rw [htz]
                      clear htz hsame HX3
                      obtain ⟨V6, hV6⟩ : ∃ V6, w2.alloc (.cells #[.int .i64 x.op, .int .i64 x.fa, .int .i64 x.fb, .int .i64 x.fc, .int .i64 x.fd] 50) = V6 := ⟨_, rfl⟩
                      have hblk : V6.heap[w2.heap.size]? = some (.cells #[.int .i64 x.op, .int .i64 x.fa, .int .i64 x.fb, .int .i64 x.fc, .int .i64 x.fd] 50 (0, 0)) := by rw [← hV6]; exact heap_alloc_new w2 _
                      have hz6 : V6.heap.size = w2.heap.size + 1 := by rw [← hV6]; simp
                      have hold6 : ∀ q, q < U.heap.size → q ≠ xb → V6.heap[q]? = U.heap[q]? := fun q hq hx => by rw [← hV6]; exact (Below.heap_alloc _ _ _ (by omega)).trans (HOLD5.out q hq hx)
                      have hb6 : Below V4.heap.size V4 V6 := by rw [← hV6]; exact HB5.out.alloc HB5.out.size _
                      have hrl6 : V6.ownsRow V4.heap.size 50 5 (.slice (some ⟨g4, 0, none⟩) mn cp4) mn (flatN M) := HOUT.out.rl.far5 fun q hq hl => hold6 q hl (HOFF.out.2.2.2 q hq)
                      have hb5s := HB5.out.size
                      have HV6 := Lib.hid hV6
                      have HOLD6 := Lib.hid hold6
                      have HB6 := Lib.hid hb6
                      have hobl := HOUT.out.lt
                      have ob2 : w2.cell? ⟨ob, 2, none⟩ = some (.slice (some ⟨g4, 0, none⟩) mn cp4) := by rw [cell_at ((HOLD5.out ob hobl HOFF.out.1).trans HOUT.out.box)]; rfl
                      obtain ⟨v0, v1, v2, v3, v4⟩ := cells5 HX5.out
                      clear hV6 hold6 hb6
                      go_wp2_with (first
                        | (at_builtin
                           rw [HV6.out]
                           refine wpList_append_lies _ (by rfl) _ _ 27 (by rfl) V4.heap.size 50 j0 _ 5 40 Tryd.underlying27 jn jn0 jn1 jn2 rfl (by omega) (.slice (some ⟨g4, 0, none⟩) mn cp4) mn _ (by rfl) hrl6 ⟨w2.heap.size, 0, none⟩ 1 1 _ (by rfl) (by rfl) (World.news_of_block hblk) (by simp [Value.oneCell']) (by omega) (by unfold maxLen; omega) (by omega) (by omega) (w2.heap.size + 1) (by omega) ?_
                           intro g5 cp w5 hown5 hgrow hat hlt5
                           have hbx5 := ((hgrow.block ob (by omega) (fun e => HOUT.out.d3 ob e.symm rfl)).trans (HOLD6.out ob hobl HOFF.out.1)).trans HOUT.out.box
                           have fz2 := frozen_at hbx5 2
                           obtain ⟨e2, he2⟩ := cell_ex hbx5 2 (by simp)
                           have hstep := HOUT.out.step x HOFF.out HOLD6.out (by omega) HB6.out hgrow hat (by omega) hown5
                           have HREL : Hid (FeC m n V4 ob va aa vc ac (.int .i64 ((q : Int) + 1)) (w5.setCell ⟨ob, 2, none⟩ (.slice (some ⟨g5, 0, none⟩) (mn + 1) cp))) := (by
                             refine ⟨q + 1, some ⟨g5, 0, none⟩, cp, by omega, by go_num, ?_⟩
                             rw [HNEXT.out, HNUM.out, HY.out]
                             exact hstep)
                           clear hown5 hgrow hat hbx5 hblk hrl6 hstep)
                        | fail)
                      go_roundw
                      case rel => exact HREL.out
                      case measure => simp [intOf]; omega
              · obtain rfl : n = q := by omega
                obtain ⟨c0, c1, c2⟩ := HSV.out wr hb
                have hEr := (HF.out wr hbW).2
                obtain ⟨s0, hs0⟩ := cell_ex hEr 0 (by simp)
                obtain ⟨s1, hs1'⟩ := cell_ex hEr 1 (by simp)
                obtain ⟨s2, hs2'⟩ := cell_ex hEr 2 (by simp)
                have f0 := frozen_at hEr 0
                have f1 := frozen_at hEr 1
                have f2 := frozen_at hEr 2
                have b0 : wr.cell? ⟨ob, 0, none⟩ = some (.slice va m.vars.length vc) := by rw [cell_at HOUT0.out.box]; rfl
                have b1 : wr.cell? ⟨ob, 1, none⟩ = some (.slice aa m.arrs.length ac) := by rw [cell_at HOUT0.out.box]; rfl
                have b2 : wr.cell? ⟨ob, 2, none⟩ = some (.slice la rn lc) := by rw [cell_at HOUT0.out.box]; rfl
                have HFIN : Hid (FenN m w (.returned (.tuple #[.agg #[.slice va m.vars.length vc, .slice aa m.arrs.length ac, .slice la rn lc], .bool true])) (((wr.setCell ⟨w.heap.size + 1, 0, none⟩ (.slice va m.vars.length vc)).setCell ⟨w.heap.size + 1, 1, none⟩ (.slice aa m.arrs.length ac)).setCell ⟨w.heap.size + 1, 2, none⟩ (.slice la rn lc))) := by
                  have hoth : ∀ j, j ≠ w.heap.size + 1 → (((wr.setCell ⟨w.heap.size + 1, 0, none⟩ (.slice va m.vars.length vc)).setCell ⟨w.heap.size + 1, 1, none⟩ (.slice aa m.arrs.length ac)).setCell ⟨w.heap.size + 1, 2, none⟩ (.slice la rn lc)).heap[j]? = wr.heap[j]? := fun j hj => by
                    rw [Below.heap_setCell _ _ _ _ (by simpa using hj), Below.heap_setCell _ _ _ _ (by simpa using hj), Below.heap_setCell _ _ _ _ (by simpa using hj)]
                  have hLT : L = fenceL m.list := by
                    rw [← HLL.out, ← HN.out]; rfl
                  have hrL : (fenceL m.list).length = rn := HFL.out.trans (HRN.out.symm.trans HNQ.out)
                  have hBs := HB.out.size
                  refine ⟨⟨m.vars, m.arrs, fenceL m.list⟩, ⟨va, vc, aa, ac, la, lc⟩, true, by show _ = Ending.returned (.tuple #[.agg #[.slice va m.vars.length vc, .slice aa m.arrs.length ac, .slice la (fenceL m.list).length lc], .bool true]); rw [hrL], FenV.yes HYES.out, ?_, ?_⟩
                  · have hO : OwnC wr V4.heap.size ⟨m.vars, m.arrs, fenceL m.list⟩ ⟨va, vc, aa, ac, la, lc⟩ := by
                      refine ⟨RowX.of HOUT0.out.rv, RowX.of HOUT0.out.ra, ?_, ?_, ?_, ?_⟩
                      · show RowX _ _ _ _ la (fenceL m.list).length lc (flatN (fenceL m.list))
                        rw [hrL, ← hLT]
                        exact RowX.of HOUT0.out.rl
                      · exact fun g h1 h2 => (HOUT0.out.d1 g (blk_own h1)).1 (blk_own h2)
                      · exact fun g h1 h2 => (HOUT0.out.d1 g (blk_own h1)).2.1 (by have h3 : blk la (fenceL m.list).length = some g := h2; rw [hrL] at h3; exact blk_own h3)
                      · exact fun g h1 h2 => (HOUT0.out.d2 g (blk_own h1)).1 (by have h3 : blk la (fenceL m.list).length = some g := h2; rw [hrL] at h3; exact blk_own h3)
                    exact (hO.stand fun g h1 _ => hoth g (by omega)).mono (by omega)
                  · exact (((HB.out.trans (hbW.mono hBs)).setCell (p := ⟨w.heap.size + 1, 0, none⟩) (by simp) _).setCell (p := ⟨w.heap.size + 1, 1, none⟩) (by simp) _).setCell (p := ⟨w.heap.size + 1, 2, none⟩) (by simp) _
                clear hEr hbW hb hout
                go_wp2_with fail
                exact bodyPost_ret (v := .tuple #[.agg #[.slice va m.vars.length vc, .slice aa m.arrs.length ac, .slice la rn lc], .bool true]) (by simp [results, Tryd.f12, go_sem, hs0, hs1', hs2']) rfl HFIN.out
        · have b400 : decide ((r : Int) > 400) = true := decide_eq_true (by omega)
          have hE1 := (HF.out wr hbwr).2
          obtain ⟨r0, hr0⟩ := cell_ex hE1 0 (by simp)
          obtain ⟨r1, hr1⟩ := cell_ex hE1 1 (by simp)
          obtain ⟨r2, hr2⟩ := cell_ex hE1 2 (by simp)
          have f0 := frozen_at hE1 0
          have f1 := frozen_at hE1 1
          have f2 := frozen_at hE1 2
          have HFIN : Hid (FenN m w (.returned (.tuple #[.agg #[.slice none 0 0, .slice none 0 0, .slice none 0 0], .bool false])) (((wr.setCell ⟨w.heap.size + 1, 0, none⟩ (.slice none 0 0)).setCell ⟨w.heap.size + 1, 1, none⟩ (.slice none 0 0)).setCell ⟨w.heap.size + 1, 2, none⟩ (.slice none 0 0))) := by
            refine ⟨⟨[], [], []⟩, ⟨none, 0, none, 0, none, 0⟩, false, rfl, FenV.no (by unfold fenB; rw [HQ.out, HFL.out]; simpa using h400), OwnC.none _ _, ?_⟩
            exact (((HB.out.trans (hbwr.mono HB.out.size)).setCell (p := ⟨w.heap.size + 1, 0, none⟩) (by simp) _).setCell (p := ⟨w.heap.size + 1, 1, none⟩) (by simp) _).setCell (p := ⟨w.heap.size + 1, 2, none⟩) (by simp) _
          clear hE1 HROW HAR
          go_wp2_with fail
          exact bodyPost_ret (v := .tuple #[.agg #[.slice none 0 0, .slice none 0 0, .slice none 0 0], .bool false]) (by simp [results, Tryd.f12, go_sem, hr0, hr1, hr2]) rfl HFIN.out

end Go.Proofs.YtbifbmpflhdijaaDoor

namespace Go.Proofs.YtbifbmpflhdijaaDoor
open Go.RowKit
set_option linter.unusedVariables false

theorem OwnC.cap {w : World} {base : Nat} {m : Cd} {k : CK} (h : OwnC w base m k) : m.list.length ≤ k.lc := by
  rcases h.l with ⟨e, _⟩ | ⟨_, h⟩
  · omega
  · exact ownsRow_cap h
set_option maxRecDepth 100000 in
set_option maxHeartbeats 16000000 in
theorem law_FnExactFenceCode' (m : Cd) (k : CK) (w : World) (hT : TblF w) (hg : 0 < w.heap.size) (h : CL w m k)
    (hgl : fenB m = true → (fenceL m.list).length ≤ 1048576)
    (hSp : ∀ v k', CL v m k' → CSm m → Calls Tryd.prog 12 #[aggC m k'] v (FenN m v))
    (hIm : ∀ v k', CL v m k' → CSm m → TblF v → m.list.length ≤ k'.lc → Calls Tryd.prog 14 #[aggC m k'] v (FenN m v)) :
    Calls Tryd.prog 3 #[aggC m k] w (YN true w) := by
  have HSP := Lib.hid hSp
  have HIM := Lib.hid hIm
  have HGL := Lib.hid hgl
  have HM : Hid (∀ v, Below w.heap.size w v → CL v m k) := fun v hv => h.below hv
  have HT : Hid (∀ v, Below w.heap.size w v → TblF v) := fun v hv => hT.below hv hg
  clear h hT hg hSp hIm hgl
  have HB := Lib.hid ((Below.refl w.heap.size w).alloc (Nat.le_refl _) (.cells (arrC m k) 25))
  have HX := Lib.hid (BoxC.new w m k 25)
  go_enter Tryd.func3, Tryd.ntmps3
  go_wp2_with fail
  obtain ⟨W, hW⟩ : ∃ W, (w.alloc (.cells (arrC m k) 25)) = W := ⟨_, rfl⟩
  unfold arrC at hW
  rw [hW] at HB HX ⊢
  clear hW
  refine (szC_one m k 1048576 W (HM.out _ HB.out) (by omega) (by omega)).mono ?_
  rintro f w1 ⟨v1, rfl, hv1, hs1, hb1⟩
  have HS1 := Lib.hid hs1
  have HB1 := Lib.hid (HB.out.trans (hb1.mono HB.out.size))
  have HX1 := Lib.hid (HX.out.below hb1 HX.out.lt)
  have hx1 := HX1.out.lt
  clear hs1 hb1 HX HB
  by_cases n1 : v1 < 0
  · go_wp2_with fail
    go_ret
    exact YN.of rfl HB1.out
  have HMS : Hid (CSm m) := HS1.out (by omega)
  have c0 := HX1.out.c0
  have c1 := HX1.out.c1
  have c2 := HX1.out.c2
  clear HS1
  -- the model's answer
  go_wp2_with fail
  refine (toC_one m k w1 (HM.out _ HB1.out) HMS.out).mono ?_
  rintro f u1 ⟨k1, rfl, hm1, hb1⟩
  have R1 := Lib.hid (HSP.out u1 k1 hm1 HMS.out)
  have HBu1 := Lib.hid hb1
  clear hm1 hb1 c0 c1 c2
  go_wp2_with fail
  refine R1.out.mono ?_
  rintro f u2' ⟨m0, kw, b0, rfl, hpv, hwo, hb2⟩
  have HPV := Lib.hid hpv
  have HMZ : Hid (CSm m0) := by
    have h1 := HMS.out
    cases hq : fenB m
    · rw [(hpv.2 hq).2]; exact ⟨Nat.zero_le _, Nat.zero_le _, Nat.zero_le _⟩
    · rw [(hpv.1 hq).2]; exact ⟨h1.1, h1.2.1, HGL.out hq⟩
  obtain ⟨u2, hu2⟩ : ∃ u2, u2'.alloc (.cells (arrC m0 kw) 29) = u2 := ⟨_, rfl⟩
  have hbu2 : Below u2'.heap.size u2' u2 := by rw [← hu2]; exact (Below.refl _ _).alloc (Nat.le_refl _) _
  have hXw : BoxC u2 u2'.heap.size m0 kw := by rw [← hu2]; exact BoxC.new _ _ _ _
  have hCw : CL u2 m0 kw := hwo.cl.below hbu2
  have hb12 : Below w1.heap.size w1 u2 := HBu1.out.trans ((hb2.trans (hbu2.mono hb2.size)).mono HBu1.out.size)
  have HBw : Hid (Below w.heap.size w u2) := HB1.out.trans (hb12.mono HB1.out.size)
  have HX2 : Hid (BoxC u2 w.heap.size m k) := HX1.out.below hb12 hx1
  obtain ⟨wb, hwb⟩ : ∃ wb, u2'.heap.size = wb := ⟨_, rfl⟩
  rw [hwb] at hXw
  have HS : Hid (∀ v, Below u2.heap.size u2 v → (v.cell? ⟨w.heap.size, 0, none⟩ = some (.slice k.va m.vars.length k.vc) ∧ v.cell? ⟨w.heap.size, 1, none⟩ = some (.slice k.aa m.arrs.length k.ac) ∧ v.cell? ⟨w.heap.size, 2, none⟩ = some (.slice k.la m.list.length k.lc)) ∧ (v.cell? ⟨wb, 0, none⟩ = some (.slice kw.va m0.vars.length kw.vc) ∧ v.cell? ⟨wb, 1, none⟩ = some (.slice kw.aa m0.arrs.length kw.ac) ∧ v.cell? ⟨wb, 2, none⟩ = some (.slice kw.la m0.list.length kw.lc)) ∧ CL v m k ∧ TblF v ∧ CL v m0 kw) := fun v hv => by
    have bx := HX2.out.below hv HX2.out.lt
    have bw := hXw.below hv hXw.lt
    have hb := HBw.out.trans (hv.mono HBw.out.size)
    exact ⟨⟨bx.c0, bx.c1, bx.c2⟩, ⟨bw.c0, bw.c1, bw.c2⟩, HM.out _ hb, HT.out _ hb, hCw.below hv⟩
  obtain ⟨⟨x0, x1, x2⟩, _⟩ := HS.out u2 (Below.refl _ _)
  have hs2 := HBw.out.size
  unfold arrC at hu2
  have HU2 := Lib.hid hu2
  have HWB := Lib.hid hwb
  clear R1 HBu1 HX1 hwo hpv hb2 HX2 HM HT HB1 hbu2 hXw hCw hb12 hu2 hwb
  -- the argument
  go_wp2_with (first | rw [HU2.out, HWB.out] | rw [HU2.out] | fail)
  try rw [HWB.out]
  refine (toCO_one m k u2 (HS.out _ (Below.refl _ _)).2.2.1 HMS.out).mono ?_
  rintro f u3 ⟨k2, rfl, ho3, hb3⟩
  obtain ⟨u4, hu4⟩ : ∃ u4, u3.alloc (.cells (arrC m k2) 29) = u4 := ⟨_, rfl⟩
  have hX4 : BoxC u4 u3.heap.size m k2 := by rw [← hu4]; exact BoxC.new _ _ _ _
  have hb34 : Below u3.heap.size u3 u4 := by rw [← hu4]; exact (Below.refl _ _).alloc (Nat.le_refl _) _
  have HO4 : Hid (OwnC u4 u2.heap.size m k2) := ho3.stand fun g _ hg => hb34.block g hg
  have hlt4 : u3.heap.size < u4.heap.size := hX4.lt
  have HB4 : Hid (Below u2.heap.size u2 u4) := hb3.trans (hb34.mono hb3.size)
  have LV := Lib.hid ho3.v.lt
  have LA := Lib.hid ho3.a.lt
  have LL := Lib.hid ho3.l.lt
  have g0 := hX4.c0
  have g1 := hX4.c1
  have g2 := hX4.c2
  have HX4 := Lib.hid hX4
  have hs3 := hb3.size
  have I4 := Lib.hid (HIM.out u4 k2 HO4.out.cl HMS.out (HS.out _ HB4.out).2.2.2.1 HO4.out.cap)
  unfold arrC at hu4
  have HU4 := Lib.hid hu4
  clear ho3 hX4 hb34 hu4 hb3 x0 x1 x2
  go_wp2_with (first | rw [HU4.out] | fail)
  try rw [HU4.out]
  refine I4.out.mono ?_
  rintro f u5 ⟨m1, kg, b1, rfl, hpg, hgo, hb5⟩
  obtain ⟨e1, e2⟩ := hpg.uniq HPV.out
  subst e1 e2
  obtain ⟨u6, hu6⟩ : ∃ u6, u5.alloc (.cells (arrC m1 kg) 29) = u6 := ⟨_, rfl⟩
  have hX6 : BoxC u6 u5.heap.size m1 kg := by rw [← hu6]; exact BoxC.new _ _ _ _
  have hb56 : Below u5.heap.size u5 u6 := by rw [← hu6]; exact (Below.refl _ _).alloc (Nat.le_refl _) _
  have LGV := Lib.hid hgo.v.lt
  have LGA := Lib.hid hgo.a.lt
  have LGL := Lib.hid hgo.l.lt
  have HG6 : Hid (OwnC u6 u4.heap.size m1 kg) := hgo.stand fun g _ hg => hb56.block g hg
  have HB6 : Hid (Below u2.heap.size u2 u6) := HB4.out.trans ((hb5.trans (hb56.mono hb5.size)).mono HB4.out.size)
  have hb46 : Below u4.heap.size u4 u6 := hb5.trans (hb56.mono hb5.size)
  have HO6 : Hid (OwnC u6 u2.heap.size m k2) := HO4.out.stand fun g _ hg => hb46.block g hg
  have HX6 : Hid (BoxC u6 u3.heap.size m k2) := HX4.out.below hb46 hlt4
  have HXG6 := Lib.hid hX6
  have hs4 := HB4.out.size
  have hs5 := hb5.size
  have hlt6 : u5.heap.size < u6.heap.size := hX6.lt
  have y0 := hX6.c0
  have y1 := hX6.c1
  have y2 := hX6.c2
  obtain ⟨_, ⟨z0, z1, z2⟩, _⟩ := HS.out u6 HB6.out
  unfold arrC at hu6
  have HU6 := Lib.hid hu6
  have E6 := Lib.hid (eqC_same m1 kg kw u6 HG6.out.cl (HS.out _ HB6.out).2.2.2.2)
  clear hpg hgo hb5 g0 g1 g2 HX4 HO4 hX6 hb56 hb46 hu6 I4
  go_wp2_with (first | rw [HU6.out] | fail)
  try rw [HU6.out]
  refine E6.out.mono ?_
  rintro f u7 ⟨rfl, hb7⟩
  have HB7 : Hid (Below u2.heap.size u2 u7) := HB6.out.trans (hb7.mono HB6.out.size)
  have HG7 : Hid (OwnC u7 u4.heap.size m1 kg) := HG6.out.stand fun g _ hg => hb7.block g hg
  have HO7 : Hid (OwnC u7 u2.heap.size m k2) := HO6.out.stand fun g _ hg => hb7.block g hg
  have HX7 : Hid (BoxC u7 u3.heap.size m k2) := HX6.out.below hb7 HX6.out.lt
  have HXG7 : Hid (BoxC u7 u5.heap.size m1 kg) := HXG6.out.below hb7 hlt6
  have hs7 := hb7.size
  have HSQ : Hid (∀ v, Below u7.heap.size u7 v → v.cell? ⟨w.heap.size, 0, none⟩ = some (.slice k.va m.vars.length k.vc) ∧ v.cell? ⟨w.heap.size, 1, none⟩ = some (.slice k.aa m.arrs.length k.ac) ∧ v.cell? ⟨w.heap.size, 2, none⟩ = some (.slice k.la m.list.length k.lc) ∧ v.cell? ⟨u3.heap.size, 0, none⟩ = some (.slice k2.va m.vars.length k2.vc) ∧ v.cell? ⟨u3.heap.size, 1, none⟩ = some (.slice k2.aa m.arrs.length k2.ac) ∧ v.cell? ⟨u3.heap.size, 2, none⟩ = some (.slice k2.la m.list.length k2.lc)) := fun v hv => by
    obtain ⟨⟨f0, f1, f2⟩, _⟩ := HS.out v (HB7.out.trans (hv.mono HB7.out.size))
    have h := HX7.out.below hv HX7.out.lt
    exact ⟨f0, f1, f2, h.c0, h.c1, h.c2⟩
  obtain ⟨f0, f1, f2, q0, q1, q2⟩ := HSQ.out u7 (Below.refl _ _)
  have HWQ : Hid (∀ v, Below u7.heap.size u7 v → CL v m k) := fun v hv => (HS.out _ (HB7.out.trans (hv.mono HB7.out.size))).2.2.1
  have HC7 : Hid (CL u7 m k2) := HO7.out.cl
  have HBD7 : Hid (Below u7.heap.size u7 u7.drew) := (Below.refl _ _).drew
  clear hb7 HG6 HO6 HX6 HXG6 HB6 y0 y1 y2 z0 z1 z2 E6
  go_wp2_with fail
  go_region_held3 (fun v => v.cell? ⟨w.heap.size, 0, none⟩ = some (.slice k.va m.vars.length k.vc) ∧ v.cell? ⟨w.heap.size, 1, none⟩ = some (.slice k.aa m.arrs.length k.ac) ∧ v.cell? ⟨w.heap.size, 2, none⟩ = some (.slice k.la m.list.length k.lc) ∧ v.cell? ⟨u3.heap.size, 0, none⟩ = some (.slice k2.va m.vars.length k2.vc) ∧ v.cell? ⟨u3.heap.size, 1, none⟩ = some (.slice k2.aa m.arrs.length k2.ac) ∧ v.cell? ⟨u3.heap.size, 2, none⟩ = some (.slice k2.la m.list.length k2.lc)) (first | assumption | exact ⟨f0, f1, f2, q0, q1, q2⟩)
    (first
    | (go_at_call 13; (with_reducible refine (toC_one m k u7.drew (HWQ.out _ HBD7.out) HMS.out).mono ?_); rintro f u9 ⟨k3, rfl, hm3, hA⟩; have hA2 := HBD7.out.trans hA; have hS1 := HSQ.out _ hA2)
    | (go_at_call 15; (with_reducible refine (eqC_one m m k2 k3 u9 (HC7.out.below hA2) hm3).mono ?_); rintro f u8 ⟨rfl, hE⟩; rw [show decide (m = m) = true from decide_eq_true rfl]; have hB8 := hA2.trans (hE.mono hA2.size); have hS2 := HSQ.out _ hB8)
    | fail)
  have HB8 : Hid (Below u2.heap.size u2 u8) := HB7.out.trans (hB8.mono HB7.out.size)
  have HG8 : Hid (OwnC u8 u4.heap.size m1 kg) := HG7.out.stand fun g _ hg => hB8.block g hg
  have HO8 : Hid (OwnC u8 u2.heap.size m k2) := HO7.out.stand fun g _ hg => hB8.block g hg
  have HXG8 : Hid (BoxC u8 u5.heap.size m1 kg) := HXG7.out.below hB8 HXG7.out.lt
  obtain ⟨_, _, _, y0, y1, y2⟩ := hS2
  have hs8 := hB8.size
  clear hB8 hA hA2 hE hS1 q0 q1 q2 f0 f1 f2 HSQ HC7 HWQ HG7 HO7 HX7 HXG7 hm3 HBD7
  -- the marks of the argument
  have MC := Lib.hid (markC_one u2.heap.size m k2 1 u8 HO8.out HB8.out.size HMS.out (by omega) (by omega))
  go_wp2_with fail
  refine MC.out.mono ?_
  rintro f u9 ⟨rfl, _, hb9, hs9, hst9⟩
  have hout : ∀ g, u3.heap.size ≤ g → g < u8.heap.size → u9.heap[g]? = u8.heap[g]? := fun g hg hlt => hst9 g hlt (fun e => by have := LV.out g e; omega) (fun e => by have := LA.out g e; omega) (fun e => by have := LL.out g e; omega)
  have HG9 : Hid (OwnC u9 u4.heap.size m1 kg) := HG8.out.stand fun g hg hlt => hout g (by omega) hlt
  have HXG9 : Hid (BoxC u9 u5.heap.size m1 kg) := HXG8.out.later (hout _ (by omega) HXG8.out.lt)
  have HB9 : Hid (Below u2.heap.size u2 u9) := HB8.out.trans hb9
  obtain ⟨ke, hke⟩ : ∃ ke, mkEnd 1 m = ke := ⟨_, rfl⟩
  have hk1 : ¬ (ke < 0) := by rw [← hke]; unfold mkEnd; omega
  rw [hke]
  have E9 := Lib.hid (eqC_same m1 kg kw u9 HG9.out.cl (HS.out _ HB9.out).2.2.2.2)
  have v0 := HXG9.out.c0
  have v1' := HXG9.out.c1
  have v2 := HXG9.out.c2
  obtain ⟨_, ⟨z0, z1, z2⟩, _⟩ := HS.out u9 HB9.out
  clear hb9 hst9 hout MC HG8 HO8 HXG8 y0 y1 y2 hke
  go_wp2_with fail
  refine E9.out.mono ?_
  rintro f u10 ⟨rfl, hb10⟩
  have HG10 : Hid (OwnC u10 u4.heap.size m1 kg) := HG9.out.stand fun g _ hg => hb10.block g hg
  have HXG10 : Hid (BoxC u10 u5.heap.size m1 kg) := HXG9.out.below hb10 HXG9.out.lt
  have HB10 : Hid (Below u2.heap.size u2 u10) := HB9.out.trans (hb10.mono HB9.out.size)
  have hs10 := hb10.size
  have t0 := HXG10.out.c0
  have t1 := HXG10.out.c1
  have t2 := HXG10.out.c2
  clear hb10 E9 HG9 HXG9 v0 v1' v2 z0 z1 z2
  -- the marks of the answer
  have M10 := Lib.hid (markC_one u4.heap.size m1 kg 1 u10 HG10.out (by omega) HMZ.out (by omega) (by omega))
  go_wp2_with fail
  refine M10.out.mono ?_
  rintro f u11 ⟨rfl, hg11, hb11, hs11, hst11⟩
  have HG11 := Lib.hid hg11
  have HXG11 : Hid (BoxC u11 u5.heap.size m1 kg) := HXG10.out.later (hst11 _ HXG10.out.lt (fun e => by have := LGV.out _ e; omega) (fun e => by have := LGA.out _ e; omega) (fun e => by have := LGL.out _ e; omega))
  have HB11 : Hid (Below u2.heap.size u2 u11) := HB10.out.trans (hb11.mono hs4)
  have H11 := Lib.hid (heldC_one m1 kg 1 u11 HG11.out.cl HMZ.out (by omega) (by omega))
  obtain ⟨kf, hkf⟩ : ∃ kf, mkEnd 1 m1 = kf := ⟨_, rfl⟩
  have hk2 : ¬ (kf < 0) := by rw [← hkf]; unfold mkEnd; omega
  rw [hkf] at H11 ⊢
  have HKF := Lib.hid hkf
  have r0 := HXG11.out.c0
  have r1 := HXG11.out.c1
  have r2 := HXG11.out.c2
  clear hg11 hb11 hst11 M10 HG10 HXG10 t0 t1 t2 hkf
  go_wp2_with fail
  refine H11.out.mono ?_
  rintro f u12 ⟨rfl, hb12⟩
  have HG12 : Hid (OwnC u12 u4.heap.size (mkCd 1 m1) kg) := HG11.out.stand fun g _ hg => hb12.block g hg
  have HXG12 : Hid (BoxC u12 u5.heap.size m1 kg) := HXG11.out.below hb12 HXG11.out.lt
  have HB12 : Hid (Below u2.heap.size u2 u12) := HB11.out.trans (hb12.mono HB11.out.size)
  obtain ⟨⟨z0, z1, z2⟩, _⟩ := HS.out u12 HB12.out
  clear hb12 H11 HG11 HXG11 r0 r1 r2
  -- again
  have T12 := Lib.hid (toCO_one m k u12 (HS.out _ HB12.out).2.2.1 HMS.out)
  go_wp2_with fail
  refine T12.out.mono ?_
  rintro f u13 ⟨k4, rfl, hm4, hb13⟩
  have HG13 : Hid (OwnC u13 u4.heap.size (mkCd 1 m1) kg) := HG12.out.stand fun g _ hg => hb13.block g hg
  have HXG13 : Hid (BoxC u13 u5.heap.size m1 kg) := HXG12.out.below hb13 HXG12.out.lt
  have HB13 : Hid (Below u2.heap.size u2 u13) := HB12.out.trans (hb13.mono HB12.out.size)
  have I13 := Lib.hid (HIM.out u13 k4 hm4.cl HMS.out (HS.out _ HB13.out).2.2.2.1 hm4.cap)
  clear hm4 hb13 T12 HG12 HXG12 z0 z1 z2
  go_wp2_with fail
  refine I13.out.mono ?_
  rintro f u14 ⟨m2, kh, b2, rfl, hph, hho, hb14⟩
  obtain ⟨e1, e2⟩ := hph.uniq HPV.out
  subst e1 e2
  obtain ⟨u15, hu15⟩ : ∃ u15, u14.alloc (.cells (arrC m2 kh) 29) = u15 := ⟨_, rfl⟩
  have hXh : BoxC u15 u14.heap.size m2 kh := by rw [← hu15]; exact BoxC.new _ _ _ _
  have hb15 : Below u14.heap.size u14 u15 := by rw [← hu15]; exact (Below.refl _ _).alloc (Nat.le_refl _) _
  have hb135 : Below u13.heap.size u13 u15 := hb14.trans (hb15.mono hb14.size)
  have HG15 : Hid (OwnC u15 u4.heap.size (mkCd 1 m2) kg) := HG13.out.stand fun g _ hg => hb135.block g hg
  have HXG15 : Hid (BoxC u15 u5.heap.size m2 kg) := HXG13.out.below hb135 HXG13.out.lt
  have HB15 : Hid (Below u2.heap.size u2 u15) := HB13.out.trans (hb135.mono HB13.out.size)
  have E15 := Lib.hid (eqC_same m2 kh kw u15 (hho.cl.below hb15) (HS.out _ HB15.out).2.2.2.2)
  have y0 := hXh.c0
  have y1 := hXh.c1
  have y2 := hXh.c2
  obtain ⟨_, ⟨z0, z1, z2⟩, _⟩ := HS.out u15 HB15.out
  unfold arrC at hu15
  have HU15 := Lib.hid hu15
  clear hph hho hb14 hXh hb15 hb135 hu15 I13 HG13 HXG13
  go_wp2_with (first | rw [HU15.out] | fail)
  try rw [HU15.out]
  refine E15.out.mono ?_
  rintro f u16 ⟨rfl, hb16⟩
  have HG16 : Hid (OwnC u16 u4.heap.size (mkCd 1 m2) kg) := HG15.out.stand fun g _ hg => hb16.block g hg
  have HXG16 : Hid (BoxC u16 u5.heap.size m2 kg) := HXG15.out.below hb16 HXG15.out.lt
  have HB16 : Hid (Below u2.heap.size u2 u16) := HB15.out.trans (hb16.mono HB15.out.size)
  have H16 := heldC_one m2 kg 1 u16 HG16.out.cl HMZ.out (by omega) (by omega)
  rw [HKF.out] at H16
  have H16 := Lib.hid H16
  have r0 := HXG16.out.c0
  have r1 := HXG16.out.c1
  have r2 := HXG16.out.c2
  clear hb16 E15 HG15 HXG15 y0 y1 y2 z0 z1 z2
  go_wp2_with fail
  refine H16.out.mono ?_
  rintro f u17 ⟨rfl, hb17⟩
  have HFIN : Hid (Below w.heap.size w u17) := HBw.out.trans ((HB16.out.trans (hb17.mono HB16.out.size)).mono hs2)
  clear hb17 H16 r0 r1 r2
  go_wp2_with fail
  go_ret
  exact YN.of rfl HFIN.out

theorem law_FnExactFenceCode (m : Cd) (k : CK) (w : World) (hT : TblF w) (hg : 0 < w.heap.size) (h : CL w m k) :
    Calls Tryd.prog 3 #[aggC m k] w (YN true w) :=
  law_FnExactFenceCode' m k w hT hg h (fun e => by unfold fenB at e; simp only [Bool.and_eq_true, decide_eq_true_eq] at e; omega)
    (fun v k' hc hs => sFe_one m k' v hc hs)
    (fun v k' hc hs ht hcap => iFe_one m k' v hc hs ht hcap)

end Go.Proofs.YtbifbmpflhdijaaDoor

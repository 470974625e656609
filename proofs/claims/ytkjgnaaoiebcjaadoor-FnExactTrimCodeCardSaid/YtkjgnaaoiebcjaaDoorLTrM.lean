/- heldCode, walked: at every code the call returns true; nothing that was there has changed. Condition: the table of forms lies as the program's text lays it. -/
import Derived.Test.YtkjgnaaoiebcjaaDoorCdE
import Derived.Test.YtkjgnaaoiebcjaaDoorCdT
import Derived.Test.YtkjgnaaoiebcjaaDoorMkC
import Derived.Test.YtkjgnaaoiebcjaaDoorPaN
import Derived.Deep.RegionWith
import Derived.Deep.RegionHeld3
import Derived.Test.YtkjgnaaoiebcjaaDoorTrP
import Derived.Test.YtkjgnaaoiebcjaaDoorThI
import Derived.Test.YtkjgnaaoiebcjaaDoorRcR
import Derived.Test.YtkjgnaaoiebcjaaDoorCpC
import Derived.Test.YtkjgnaaoiebcjaaDoorTrS
namespace Go.Proofs.YtkjgnaaoiebcjaaDoor
open Go.RowKit
set_option linter.unusedVariables false

theorem eqC_same (m : Cd) (k l : CK) (w : World) (h : CL w m k) (h' : CL w m l) : Calls Tryd.prog 12 #[aggC m k, aggC m l] w (YN true w) := by
  have h1 := eqC_one m m k l w h h'
  rw [decide_eq_true rfl] at h1
  exact h1

set_option maxRecDepth 100000 in
set_option maxHeartbeats 4000000 in
/-- **heldCode.** -/
theorem heldC_one (m : Cd) (k : CK) (k0 : Int) (w : World) (h : CL w (mkCd k0 m) k) (hs : CSm m) (h0 : 0 ≤ k0) (h1 : k0 ≤ 1000) :
    Calls Tryd.prog 21 #[aggC m k, .int .i64 k0] w (fun f w' => f = .returned (.int .i64 (mkEnd k0 m)) ∧ Below w.heap.size w w') := by
  obtain ⟨hs1, hs2, hs3⟩ := hs
  obtain ⟨W, hW⟩ : ∃ W, w.alloc (.cells (arrC m k) 30) = W := ⟨_, rfl⟩
  have hB : Below w.heap.size w W := by rw [← hW]; exact (Below.refl _ w).alloc (Nat.le_refl _) _
  have hX : BoxC W w.heap.size m k := by rw [← hW]; exact BoxC.new _ _ _ _
  have HX : Hid (∀ v, Below W.heap.size W v → BoxC v w.heap.size m k) := fun v hv => hX.below hv hX.lt
  obtain ⟨nv, hnv⟩ : ∃ n, m.vars.length = n := ⟨_, rfl⟩
  obtain ⟨na, hna⟩ : ∃ n, m.arrs.length = n := ⟨_, rfl⟩
  obtain ⟨nl, hnl⟩ : ∃ n, m.list.length = n := ⟨_, rfl⟩
  have HC : Hid (∀ v, Below W.heap.size W v → IAt v (fun b => b < v.heap.size) (mkI k0 nv) k.va ∧ IAt v (fun b => b < v.heap.size) (mkI (k0 + (nv : Int)) na) k.aa ∧ NAt v (fun b => b < v.heap.size) (mkN (k0 + (nv : Int) + (na : Int)) nl) k.la) := fun v hv => by
    have q := (h.below hB).below hv
    have q1 := q.1
    have q2 := q.2.1
    have q3 := q.2.2
    unfold mkCd at q1 q2 q3
    rw [hnv] at q1 q2 q3
    rw [hna] at q2 q3
    rw [hnl] at q3
    exact ⟨q1, q2, q3⟩
  have HE : Hid (mkEnd k0 m = k0 + (nv : Int) + (na : Int) + 5 * (nl : Int)) := by
    have : mkEnd k0 m = k0 + (nv : Int) + (na : Int) + 5 * (nl : Int) := by unfold mkEnd; rw [hnv, hna, hnl]
    exact this
  have HNV := Lib.hid hnv
  have HNA := Lib.hid hna
  have HNL := Lib.hid hnl
  have HB := Lib.hid hB
  have HW := Lib.hid hW
  unfold arrC at HW
  have x0 := hX.c0
  rw [hnv] at hs1 x0
  rw [hna] at hs2
  rw [hnl] at hs3
  have M1 := Lib.hid (heldIX_one nv k.vc k.va k0 W (HC.out W (Below.refl _ _)).1 hs1 h0 (by omega))
  clear hW hB hX h hnv hna hnl
  go_enter Tryd.func21, Tryd.ntmps21
  go_wp2_with (first | rw [HW.out] | fail)
  refine M1.out.mono ?_
  rintro f w1 ⟨rfl, hb1⟩
  have HB1 := Lib.hid hb1
  have x1 := (HX.out w1 hb1).c1
  rw [HNA.out] at x1
  have M2 := Lib.hid (heldIX_one na k.ac k.aa (k0 + (nv : Int)) w1 (HC.out w1 hb1).2.1 hs2 (by omega) (by omega))
  have p1 : ¬ (k0 + (nv : Int) < 0) := by omega
  clear hb1 x0 M1
  go_wp2_with fail
  refine M2.out.mono ?_
  rintro f w2 ⟨rfl, hb2⟩
  have HB2 : Hid (Below W.heap.size W w2) := HB1.out.trans (hb2.mono HB1.out.size)
  have x2 := (HX.out w2 HB2.out).c2
  rw [HNL.out] at x2
  have M3 := Lib.hid (heldInS_one nl k.lc k.la (k0 + (nv : Int) + (na : Int)) w2 (HC.out w2 HB2.out).2.2 hs3 (by omega) (by omega))
  have p2 : ¬ (k0 + (nv : Int) + (na : Int) < 0) := by omega
  clear hb2 x1 M2
  go_wp2_with fail
  refine M3.out.mono ?_
  rintro f w3 ⟨rfl, hb3⟩
  have p3 : ¬ (k0 + (nv : Int) + (na : Int) + 5 * (nl : Int) < 0) := by omega
  have HFIN : Hid (Below w.heap.size w w3) := HB.out.trans ((HB2.out.trans (hb3.mono HB2.out.size)).mono HB.out.size)
  clear hb3 x2 M3
  go_wp2_with fail
  rw [HE.out]
  go_ret
  exact ⟨rfl, HFIN.out⟩

end Go.Proofs.YtkjgnaaoiebcjaaDoor

namespace Go.Proofs.YtkjgnaaoiebcjaaDoor
open Go.RowKit
set_option linter.unusedVariables false

set_option maxRecDepth 100000 in
set_option maxHeartbeats 2000000 in
/-- **onlyKept's closure.** -/
theorem okC_one (z : Int) (n t cb g cp : Nat) (w : World) (ht : t < n) (hm : n ≤ 400) (hb : w.cell? ⟨cb, 0, none⟩ = some (.slice (some ⟨g, 0, none⟩) n cp)) (hc : w.cell? ⟨g, t, none⟩ = some (.int .i64 z)) :
    Calls Tryd.prog 86 #[.int .i64 (t : Int), .pointer (some ⟨cb, 0, none⟩)] w (fun e w' => e = .returned (.int .i64 z) ∧ Below w.heap.size w w') := by
  go_enter Tryd.func86, Tryd.ntmps86
  go_wp2_with fail
  go_ret
  exact ⟨rfl, Below.refl _ _⟩

set_option maxRecDepth 100000 in
set_option maxHeartbeats 4000000 in
/-- **retargeted** at loop.example/constanttime/impl.onlyKept$1. -/
theorem retOk_one (f : Nat → Nat) (N : Nat) (cb : Nat) (l : List Ins) (a : Option Addr) (n c : Nat) (w : World) (h : NAt w (fun b => b < w.heap.size) l a) (hn : l.length = n) (hm : n ≤ 400)
    (hT : ∀ (i : Nat) (x : Ins), l[i]? = some x → (x.op = 8 → 0 ≤ x.fa ∧ x.fa.toNat < N) ∧ (x.op = 9 ∨ x.op = 10 → 0 ≤ x.fb ∧ x.fb.toNat < N))
    (hC : ∀ (v : World) (t : Nat), Below w.heap.size w v → t < N → Calls Tryd.prog 86 #[.int .i64 (t : Int), .pointer (some ⟨cb, 0, none⟩)] v (fun e w' => e = .returned (.int .i64 (f t : Int)) ∧ Below v.heap.size v w')) :
    Calls Tryd.prog 72 #[.slice a n c, .func (.func 86) #[] #[.pointer (some ⟨cb, 0, none⟩)]] w (CloneN (l.map (reT f)) n w) := by
  have HC := Lib.hid hC
  have HT := Lib.hid hT
  have HN := Lib.hid hn
  have H1 := Lib.hid (cloneN_one l a n c w h hn (by omega))
  clear hC hT hn h
  go_enter Tryd.func72, Tryd.ntmps72
  go_wp2_with fail
  refine H1.out.mono ?_
  rintro e w1 ⟨ca, cc, rfl, hown, hb1⟩
  have HL0 : Hid (RTL f l w n ca cc (.int .i64 0) w1) := ⟨0, l, Nat.zero_le _, rfl, ReTo.start f l, hown, hb1⟩
  clear hown hb1 H1
  go_wp2_with fail
  go_loopw [12] (fun i wr => RTL f l w n ca cc i wr) (fun i _ => n - (intOf i).toNat)
  case atStart => exact HL0.out
  case round =>
    obtain ⟨k, ys, hk, rfl, hre, hrow, hb⟩ := hrel
    have HRE := Lib.hid hre
    have HROW := Lib.hid hrow
    have HB := Lib.hid hb
    clear hre hrow hb HL0
    by_cases hlt : k < n
    · obtain ⟨x, hx⟩ : ∃ x, l[k]? = some x := ⟨l[k]'(by rw [HN.out]; exact hlt), List.getElem?_eq_getElem _⟩
      have hyk : ys[k]? = some x := (HRE.out.2.2 k (Nat.le_refl _)).trans hx
      obtain ⟨g, rfl, hg, cur, hblk, hcs⟩ : ∃ g, ca = some ⟨g, 0, none⟩ ∧ w.heap.size ≤ g ∧ ∃ cur, wr.heap[g]? = some (.cells cur 50 (0, 0)) ∧ n * 5 ≤ cur.size := by
        rcases HROW.out.2 with ⟨e, e2⟩ | ⟨g, cap', cur, e, hb, hg, hn', hm', hc, ht⟩
        · omega
        · injection e with e1 e2 e3
          exact ⟨g, e1, hb, cur, hg, by rw [hc]; exact Nat.mul_le_mul_right _ hn'⟩
      have hgl : g < wr.heap.size := (Array.getElem?_eq_some_iff.1 hblk).1
      have hf := flatN_at ys k x hyk
      have hcell : ∀ j, j < 5 → wr.cell? ⟨g, k * 5 + j, none⟩ = (flatN ys)[k * 5 + j]? := fun j hj => HROW.out.cellAt (k * 5 + j) (by omega)
      have d0 : wr.cell? ⟨g, k * 5, none⟩ = some (.int .i64 x.op) := (hcell 0 (by omega)).trans hf.1
      have d1 : wr.cell? ⟨g, k * 5 + 1, none⟩ = some (.int .i64 x.fa) := (hcell 1 (by omega)).trans hf.2.1
      have d2 : wr.cell? ⟨g, k * 5 + 2, none⟩ = some (.int .i64 x.fb) := (hcell 2 (by omega)).trans hf.2.2.1
      have HTG := Lib.hid (tgOf_one g (k * 5) x wr d0)
      have HX := Lib.hid hx
      have HYK := Lib.hid hyk
      have HKL : Hid (k < ys.length) := by
        have := (List.getElem?_eq_some_iff.1 hyk).1
        exact this
      clear hx hyk hf hcell hblk
      by_cases h8 : x.op = 8
      · have htv : tgV x g (k * 5) = .pointer (some ⟨g, k * 5 + 1, none⟩) := by unfold tgV; rw [tgO_8 (by simpa using h8)]
        obtain ⟨h0, h1⟩ := (HT.out k x HX.out).1 h8
        have HRT := Lib.hid (reT_8 (f := f) h8)
        obtain ⟨t, ht⟩ : ∃ t : Nat, x.fa = (t : Int) := ⟨x.fa.toNat, by omega⟩
        have htt : x.fa.toNat = t := by rw [ht]; rfl
        rw [htt] at h1
        have HRT2 := HRT.out
        rw [htt] at HRT2
        have HRT3 := Lib.hid HRT2
        rw [ht] at d1
        have HCL := Lib.hid (HC.out wr t HB.out h1)
        clear h8 ht htt h0 HRT HRT2
        go_wp2_with fail
        refine HTG.out.mono ?_
        rintro e w2 ⟨rfl, hw2⟩
        subst hw2
        rw [htv]
        clear htv HTG
        go_wp2_with fail
        refine HCL.out.mono ?_
        rintro e w3 ⟨rfl, hb3⟩
        have hblk3 := HROW.out.far5 (fun g' e hl => hb3.block g' hl)
        obtain ⟨⟨u0, hu0⟩, f0⟩ := ownsRow_cellx hblk3 (k * 5 + 1) (by omega)
        have HREL : Hid (RTL f l w n (some ⟨g, 0, none⟩) cc (.int .i64 ((k : Int) + 1)) (w3.setCell ⟨g, k * 5 + 1, none⟩ (.int .i64 (f t : Int)))) := by
          refine ⟨k + 1, ys.set k (reT f x), hlt, by go_num, HRE.out.set HX.out, ?_, (HB.out.trans (hb3.mono HB.out.size)).setCell (p := ⟨g, k * 5 + 1, none⟩) hg _⟩
          have hs := (hblk3.stored (k * 5 + 1) (.int .i64 (f t : Int))).1
          rw [flatN_set1 ys k x _ HYK.out] at hs
          rw [HRT3.out]; exact hs
        clear hb3 hblk3 HROW HRE HCL d0 d1 d2
        go_wp2_with fail
        go_roundw
        case rel => exact HREL.out
        case measure => simp [intOf]; omega
      · by_cases h9 : x.op = 9 ∨ x.op = 10
        · have htv : tgV x g (k * 5) = .pointer (some ⟨g, k * 5 + 2, none⟩) := by
            unfold tgV
            rcases h9 with e | e
            · rw [tgO_9 (by simpa using h8) (by simpa using e)]
            · rw [tgO_10 (by simpa using h8) (by simpa using e)]
          obtain ⟨h0, h1⟩ := (HT.out k x HX.out).2 h9
          have HRT := Lib.hid (reT_9 (f := f) h8 h9)
          obtain ⟨t, ht⟩ : ∃ t : Nat, x.fb = (t : Int) := ⟨x.fb.toNat, by omega⟩
          have htt : x.fb.toNat = t := by rw [ht]; rfl
          rw [htt] at h1
          have HRT2 := HRT.out
          rw [htt] at HRT2
          have HRT3 := Lib.hid HRT2
          rw [ht] at d2
          have HCL := Lib.hid (HC.out wr t HB.out h1)
          clear h8 h9 ht htt h0 HRT HRT2
          go_wp2_with fail
          refine HTG.out.mono ?_
          rintro e w2 ⟨rfl, hw2⟩
          subst hw2
          rw [htv]
          clear htv HTG
          go_wp2_with fail
          refine HCL.out.mono ?_
          rintro e w3 ⟨rfl, hb3⟩
          have hblk3 := HROW.out.far5 (fun g' e hl => hb3.block g' hl)
          obtain ⟨⟨u0, hu0⟩, f0⟩ := ownsRow_cellx hblk3 (k * 5 + 2) (by omega)
          have HREL : Hid (RTL f l w n (some ⟨g, 0, none⟩) cc (.int .i64 ((k : Int) + 1)) (w3.setCell ⟨g, k * 5 + 2, none⟩ (.int .i64 (f t : Int)))) := by
            refine ⟨k + 1, ys.set k (reT f x), hlt, by go_num, HRE.out.set HX.out, ?_, (HB.out.trans (hb3.mono HB.out.size)).setCell (p := ⟨g, k * 5 + 2, none⟩) hg _⟩
            have hs := (hblk3.stored (k * 5 + 2) (.int .i64 (f t : Int))).1
            rw [flatN_set2 ys k x _ HYK.out] at hs
            rw [HRT3.out]; exact hs
          clear hb3 hblk3 HROW HRE HCL d0 d1 d2
          go_wp2_with fail
          go_roundw
          case rel => exact HREL.out
          case measure => simp [intOf]; omega
        · have htv : tgV x g (k * 5) = .pointer none := by unfold tgV; rw [tgO_n (by simpa using h8) (by simp; omega) (by simp; omega)]
          have HREL : Hid (RTL f l w n (some ⟨g, 0, none⟩) cc (.int .i64 ((k : Int) + 1)) wr) := ⟨k + 1, ys, hlt, by go_num, HRE.out.same HX.out (reT_n h8 h9), HROW.out, HB.out⟩
          clear h8 h9 HROW HRE d0 d1 d2
          go_wp2_with fail
          refine HTG.out.mono ?_
          rintro e w2 ⟨rfl, hw2⟩
          subst hw2
          rw [htv]
          clear htv HTG
          go_wp2_with fail
          go_roundw
          case rel => exact HREL.out
          case measure => simp [intOf]; omega
    · obtain rfl : k = n := by omega
      have HFIN : Hid (CloneN (l.map (reT f)) k w (.returned (.slice ca k cc)) wr) := ⟨ca, cc, rfl, by rw [← HRE.out.all (by rw [HN.out]; exact Nat.le_refl _)]; exact HROW.out, HB.out⟩
      clear HROW HRE
      go_wp2_with fail
      go_ret
      exact HFIN.out


/-- The state of onlyKept's loop: the numbers' row and its box, the row of what is kept. -/
def OkL (l : List Ins) (ks : List Bool) (n : Nat) (w : World) (cb : Nat) (rv i : Value) (wr : World) : Prop := ∃ (j : Nat) (ra : Option Addr) (rc : Nat) (ns : List Int), j ≤ n ∧ i = .int .i64 (j : Int) ∧ rv = .slice ra (kepN l ks j).length rc ∧
  ns.length = n ∧ (∀ q, q < j → ns[q]? = some (numF ks q : Int)) ∧ wr.ownsRow w.heap.size 3 1 (.slice (some ⟨w.heap.size, 0, none⟩) n n) n (ns.map (Value.int .i64)) ∧
  wr.heap[cb]? = some (.cells #[.slice (some ⟨w.heap.size, 0, none⟩) n n] 22 (0, 0)) ∧
  wr.ownsRow (cb + 1) 50 5 (.slice ra (kepN l ks j).length rc) (kepN l ks j).length (flatN (kepN l ks j)) ∧ Below w.heap.size w wr
theorem ints0 (n : Nat) : (madeCells (Value.int .i64 0).cells (n * 1)).toList = (List.replicate n (0 : Int)).map (Value.int .i64) := by
  rw [Nat.mul_one, List.map_replicate]
  exact toList_madeCells_one _ _

set_option maxRecDepth 100000 in
set_option maxHeartbeats 8000000 in
/-- **onlyKept.** -/
theorem onlyK_one (l : List Ins) (ks : List Bool) (a ka : Option Addr) (n c kc : Nat) (w : World) (h : NAt w (fun b => b < w.heap.size) l a) (hn : l.length = n) (hok : Okc l) (hk : BAt w (fun b => b < w.heap.size) ks ka) (hkl : ks.length = n) :
    Calls Tryd.prog 75 #[.slice a n c, .slice ka n kc] w (CloneN (trimK l ks) (trimK l ks).length w) := by
  obtain ⟨i0, hi, hz0, hz1, hz2⟩ := info_parts Tryd.infoI
  obtain ⟨j0, hj, hj0, hj1, hj2⟩ := info_parts Tryd.infoN
  have hle := hok.le
  rw [hn] at hle
  have HN := Lib.hid hn
  have HKL := Lib.hid hkl
  have HO := Lib.hid hok
  have HAT : Hid (∀ q, q < n → ∃ (x : Ins) (b o : Nat) (bb : Bool) (b' o' : Nat), l[q]? = some x ∧ a = some ⟨b, o, none⟩ ∧ b < w.heap.size ∧ w.cell? ⟨b, o + q * 5, none⟩ = some (.int .i64 x.op) ∧ w.cell? ⟨b, o + q * 5 + 1, none⟩ = some (.int .i64 x.fa) ∧ w.cell? ⟨b, o + q * 5 + 2, none⟩ = some (.int .i64 x.fb) ∧ w.cell? ⟨b, o + q * 5 + 3, none⟩ = some (.int .i64 x.fc) ∧ w.cell? ⟨b, o + q * 5 + 4, none⟩ = some (.int .i64 x.fd) ∧ ks[q]? = some bb ∧ ka = some ⟨b', o', none⟩ ∧ b' < w.heap.size ∧ w.cell? ⟨b', o' + q, none⟩ = some (.bool bb)) := fun q hq => by
    have hx : l[q]? = some (l[q]'(by rw [hn]; exact hq)) := List.getElem?_eq_getElem _
    have hb : ks[q]? = some (ks[q]'(by rw [hkl]; exact hq)) := List.getElem?_eq_getElem _
    obtain ⟨b, o, ha, hbl, e0, e1, e2, e3, e4⟩ := h.2 q _ hx
    obtain ⟨b', o', ha', hbl', e5⟩ := hk.2 q _ hb
    exact ⟨_, b, o, _, b', o', hx, ha, hbl, e0, e1, e2, e3, e4, hb, ha', hbl', e5⟩
  clear h hn hok hk hkl
  go_enter Tryd.func75, Tryd.ntmps75
  go_wp2_with (first
    | (at_make
       refine wpList_make_full _ rfl _ _ 22 rfl w.heap.size 3 i0 (.int .i64 0) 1 Tryd.underlying22 hi hz0 hz1 .i64 .i64 (n : Int) (n : Int) n rfl rfl rfl rfl (by rw [hz2]; omega) (by unfold maxLen; omega) (Nat.le_refl _) ?_
       intro w1 hown1 hgrow1
       rw [ints0] at hown1
       have hb1 : Below w.heap.size w w1 := (Below.refl _ w).grown hgrow1 (Nat.le_refl _) (fun k e => (by cases e))
       have hlt1 := (hown1.lt w.heap.size rfl).2
       obtain ⟨cb, hcb⟩ : ∃ cb, w1.heap.size = cb := ⟨_, rfl⟩
       obtain ⟨W2, hW2⟩ : ∃ W2, w1.alloc (.cells #[.slice (some ⟨w.heap.size, 0, none⟩) n n] 22) = W2 := ⟨_, rfl⟩
       have HL0 : Hid (OkL l ks n w cb (.slice none 0 0) (.int .i64 0) W2) := (by
         rw [← hW2]
         refine ⟨0, none, 0, List.replicate n 0, Nat.zero_le _, rfl, (by rw [kepN_zero]; rfl), List.length_replicate, (fun q hq => absurd hq (Nat.not_lt_zero _)), hown1.alloc _, (by have h1 := heap_alloc_new w1 (.cells #[.slice (some ⟨w.heap.size, 0, none⟩) n n] 22); rw [hcb] at h1; exact h1), (by rw [kepN_zero]; exact World.ownsRow_nil _ _ _ _), hb1.alloc (by omega) _⟩)
       rw [hcb] at hlt1
       have HCB := Lib.hid hcb
       have HW2 := Lib.hid hW2
       clear hown1 hgrow1 hb1 hW2 hcb)
    | rw [HW2.out]
    | fail)
  try rw [HW2.out]
  try rw [HCB.out]
  clear HW2
  go_loopw [5, 14] (fun rv i wr => OkL l ks n w cb rv i wr) (fun _ i _ => n - (intOf i).toNat)
  case atStart => exact HL0.out
  case round =>
    obtain ⟨q, ra, rc, ns, hq, rfl, rfl, hnl, hns, hnr, hbx, hrr, hb⟩ := hrel
    obtain ⟨rn, hrn⟩ : ∃ rn, (kepN l ks q).length = rn := ⟨_, rfl⟩
    have hrq : rn = numF ks q := by rw [← hrn]; exact kepN_len (by rw [HKL.out, HN.out]) q
    have hrle : rn ≤ 400 := by have := numF_le ks q; omega
    rw [hrn] at hrr ⊢
    have HNL := Lib.hid hnl
    have HNS := Lib.hid hns
    have HNR := Lib.hid hnr
    have HBX := Lib.hid hbx
    have HRR := Lib.hid hrr
    have HB := Lib.hid hb
    have HRN := Lib.hid hrn
    have HRQ := Lib.hid hrq
    have hcbl : cb < wr.heap.size := (Array.getElem?_eq_some_iff.1 hbx).1
    clear hnl hns hnr hrr hb hrn hrq HL0
    by_cases hlt : q < n
    · obtain ⟨x, b, o, bb, b', o', hx, rfl, hbl, e0, e1, e2, e3, e4, hbb, rfl, hbl', e5⟩ := HAT.out q hlt
      have r0 := (HB.out.cell (p := ⟨b, o + q * 5, none⟩) hbl).trans e0
      have r1 := (HB.out.cell (p := ⟨b, o + q * 5 + 1, none⟩) hbl).trans e1
      have r2 := (HB.out.cell (p := ⟨b, o + q * 5 + 2, none⟩) hbl).trans e2
      have r3 := (HB.out.cell (p := ⟨b, o + q * 5 + 3, none⟩) hbl).trans e3
      have r4 := (HB.out.cell (p := ⟨b, o + q * 5 + 4, none⟩) hbl).trans e4
      obtain ⟨V, hV⟩ : ∃ V, wr.alloc (.cells #[.int .i64 x.op, .int .i64 x.fa, .int .i64 x.fb, .int .i64 x.fc, .int .i64 x.fd] 50) = V := ⟨_, rfl⟩
      have hBV : Below wr.heap.size wr V := by rw [← hV]; exact (Below.refl _ _).alloc (Nat.le_refl _) _
      have hzV : wr.heap.size < V.heap.size := by rw [← hV]; simp
      have hxV : V.heap[wr.heap.size]? = some (.cells #[.int .i64 x.op, .int .i64 x.fa, .int .i64 x.fb, .int .i64 x.fc, .int .i64 x.fd] 50 (0, 0)) := by rw [← hV]; exact heap_alloc_new wr _
      have hbV := (hBV.block cb hcbl).trans HBX.out
      have nb0 : V.cell? ⟨cb, 0, none⟩ = some (.slice (some ⟨w.heap.size, 0, none⟩) n n) := by rw [cell_at hbV]; rfl
      have hnrV := HNR.out.far5 (w' := V) (fun g e hl => hBV.block g hl)
      obtain ⟨⟨s0, hs0⟩, f0⟩ := ownsRow_cellx hnrV q (by omega)
      have hst := (hnrV.stored q (.int .i64 (rn : Int))).1
      rw [← List.map_set] at hst
      obtain ⟨V2, hV2⟩ : ∃ V2, V.setCell ⟨w.heap.size, q, none⟩ (.int .i64 (rn : Int)) = V2 := ⟨_, rfl⟩
      have hoth : ∀ j, j ≠ w.heap.size → V2.heap[j]? = V.heap[j]? := fun j hj => by rw [← hV2]; exact Below.heap_setCell _ _ _ _ (by simpa using hj)
      have hz2 : V.heap.size ≤ V2.heap.size := by rw [← hV2]; simp [World.setCell]
      have hBV2 : Below w.heap.size w V2 := by rw [← hV2]; exact (HB.out.trans (hBV.mono HB.out.size)).setCell (p := ⟨w.heap.size, q, none⟩) (Nat.le_refl _) _
      rw [hV2] at hst
      have hszw := HB.out.size
      have hbl2 : b' ≠ w.heap.size := by omega
      have e5V : V2.cell? ⟨b', o' + q, none⟩ = some (.bool bb) := (World.cell?_of_block (w := w) (a := ⟨b', o' + q, none⟩) (hBV2.block b' hbl')).trans e5
      have hx2 : V2.heap[wr.heap.size]? = some (.cells #[.int .i64 x.op, .int .i64 x.fa, .int .i64 x.fb, .int .i64 x.fc, .int .i64 x.fd] 50 (0, 0)) := (hoth _ (by omega)).trans hxV
      have y0 : V2.cell? ⟨wr.heap.size, 0, none⟩ = some (.int .i64 x.op) := by rw [cell_at hx2]; rfl
      have y1 : V2.cell? ⟨wr.heap.size, 1, none⟩ = some (.int .i64 x.fa) := by rw [cell_at hx2]; rfl
      have y2 : V2.cell? ⟨wr.heap.size, 2, none⟩ = some (.int .i64 x.fb) := by rw [cell_at hx2]; rfl
      have y3 : V2.cell? ⟨wr.heap.size, 3, none⟩ = some (.int .i64 x.fc) := by rw [cell_at hx2]; rfl
      have y4 : V2.cell? ⟨wr.heap.size, 4, none⟩ = some (.int .i64 x.fd) := by rw [cell_at hx2]; rfl
      have hrr2 : V2.ownsRow (cb + 1) 50 5 (.slice ra rn rc) rn (flatN (kepN l ks q)) := HRR.out.far5 fun g hg hl => (hoth g (by have := (HRR.out.lt g hg).1; omega)).trans (hBV.block g hl)
      have hb2 : V2.heap[cb]? = some (.cells #[.slice (some ⟨w.heap.size, 0, none⟩) n n] 22 (0, 0)) := (hoth cb (by omega)).trans hbV
      have HNS2 : Hid ((ns.set q (rn : Int)).length = n ∧ ∀ t, t < q + 1 → (ns.set q (rn : Int))[t]? = some (numF ks t : Int)) := by
        refine ⟨by rw [List.length_set]; exact HNL.out, fun t ht => ?_⟩
        by_cases e : t = q
        · subst e
          rw [List.getElem?_set_self (by rw [HNL.out]; exact hlt), HRQ.out]
        · rw [List.getElem?_set_ne (by omega)]
          exact HNS.out t (by omega)
      have HST := Lib.hid hst
      have HV := Lib.hid hV
      have HV2 := Lib.hid hV2
      have HX := Lib.hid hx
      have HBB := Lib.hid hbb
      have HRR2 := Lib.hid hrr2
      have HB2 := Lib.hid hb2
      have HBV2 := Lib.hid hBV2
      clear e0 e1 e2 e3 e4 e5 hV hBV hxV hbV hnrV hst hV2 hoth hBV2 hx2 hrr2 hb2 hx hbb HNS HNR HBX HRR hbx
      cases bb
      case false =>
        have HREL : Hid (OkL l ks n w cb (.slice ra rn rc) (.int .i64 ((q : Int) + 1)) V2) := by
          have e := kepN_f (by rw [HKL.out, HN.out]) HX.out HBB.out
          exact ⟨q + 1, ra, rc, _, by omega, by go_num, by rw [e, HRN.out], HNS2.out.1, HNS2.out.2, HST.out, HB2.out, by rw [e, HRN.out]; exact HRR2.out, HBV2.out⟩
        go_wp2_with (first | rw [HV.out] | rw [HV2.out] | fail)
        try rw [HV2.out]
        go_roundw
        case rel => exact HREL.out
        case measure => simp [intOf]; omega
      case true =>
        obtain ⟨V3, hV3⟩ : ∃ V3, V2.alloc (.cells #[.int .i64 x.op, .int .i64 x.fa, .int .i64 x.fb, .int .i64 x.fc, .int .i64 x.fd] 50) = V3 := ⟨_, rfl⟩
        have hz3 : V3.heap.size = V2.heap.size + 1 := by rw [← hV3]; simp
        have hblk : V3.heap[V2.heap.size]? = some (.cells #[.int .i64 x.op, .int .i64 x.fa, .int .i64 x.fb, .int .i64 x.fc, .int .i64 x.fd] 50 (0, 0)) := by rw [← hV3]; exact heap_alloc_new V2 _
        have hold : ∀ j, j < V2.heap.size → V3.heap[j]? = V2.heap[j]? := fun j hj => by rw [← hV3]; exact Below.heap_alloc _ _ _ hj
        have hrr3 : V3.ownsRow (cb + 1) 50 5 (.slice ra rn rc) rn (flatN (kepN l ks q)) := HRR2.out.far5 fun g hg hl => hold g hl
        have hcb2 : cb + 1 ≤ V2.heap.size := by omega
        have HV3 := Lib.hid hV3
        have HOLD := Lib.hid hold
        clear hV3 hold
        go_wp2_with (first
          | rw [HV.out]
          | rw [HV2.out]
          | (at_builtin
             rw [HV3.out]
             refine wpList_append_lies _ (by rfl) _ _ 28 (by rfl) (cb + 1) 50 j0 _ 5 40 Tryd.underlying28 hj hj0 hj1 hj2 rfl (by omega) (.slice ra rn rc) rn _ (by rfl) hrr3 ⟨V2.heap.size, 0, none⟩ 1 1 _ (by rfl) (by rfl) (World.news_of_block hblk) (by simp [Value.oneCell']) (by omega) (by unfold maxLen; omega) (by omega) (by omega) (V2.heap.size + 1) (by omega) ?_
             intro g cp w5 hown5 hgrow hat hlt5)
          | fail)
        have HREL : Hid (OkL l ks n w cb (.slice (some ⟨g, 0, none⟩) (rn + 1) cp) (.int .i64 ((q : Int) + 1)) w5) := by
          have e := kepN_t (by rw [HKL.out, HN.out]) HX.out HBB.out
          have el : (kepN l ks (q + 1)).length = rn + 1 := by rw [e, List.length_append, HRN.out]; rfl
          have hne : ∀ j, j < cb + 1 → some j ≠ (Value.slice ra rn rc).ownBlock := fun j hj e => by have := (hrr3.lt j e.symm).1; omega
          have hfl : flatN (kepN l ks q ++ [x]) = flatN (kepN l ks q) ++ [.int .i64 x.op, .int .i64 x.fa, .int .i64 x.fb, .int .i64 x.fc, .int .i64 x.fd] := by rw [flatN_app]; rfl
          have hsW := HBV2.out.size
          refine ⟨q + 1, some ⟨g, 0, none⟩, cp, _, by omega, by go_num, by rw [el], HNS2.out.1, HNS2.out.2, ?_, ?_, by rw [el, e, hfl]; exact hown5, ?_⟩
          · refine HST.out.far5 fun g' hg' hl => ?_
            have e1 : g' = w.heap.size := by injection hg' with e; exact e.symm
            subst e1
            exact (hgrow.block _ (by omega) (hne _ (by omega))).trans (HOLD.out _ (by omega))
          · exact ((hgrow.block _ (by omega) (hne _ (by omega))).trans (HOLD.out _ (by omega))).trans HB2.out
          · have hb3 : Below w.heap.size w V3 := by rw [← HV3.out]; exact HBV2.out.alloc (by omega) _
            exact hb3.grown hgrow (by omega) fun j hj => by have := (hrr3.lt j hj).1; omega
        clear hown5 hgrow hat hblk hrr3 HST HRR2
        go_wp2_with fail
        go_roundw
        case rel => exact HREL.out
        case measure => simp [intOf]; omega
    · obtain rfl : q = n := by omega
      have hke : kepN l ks q = keptL l ks := by rw [← HN.out]; exact kepN_all (by rw [HKL.out, HN.out])
      have hrr := HRR.out
      rw [hke] at hrr
      have hl3 : (keptL l ks).length = rn := by rw [← hke]; exact HRN.out
      have hbw := HB.out.size
      have hnat : NAt wr (fun b => b < wr.heap.size) (keptL l ks) ra := by
        have h1 : OwnN wr (cb + 1) (.slice ra rn rc) (keptL l ks) := by unfold OwnN; rw [hl3]; exact hrr
        exact h1.nat.2.2.2.wide (fun _ _ => rfl) fun j hj => hj.2
      have HRET := Lib.hid (retOk_one (numF ks) q cb (keptL l ks) ra rn rc wr hnat hl3 hrle (fun i x hx => by
          obtain ⟨i', hx'⟩ := List.mem_iff_getElem?.1 (keptL_mem l ks x (List.mem_of_getElem? hx))
          exact ⟨fun e => by have := HO.out.ja i' x hx' e; rw [HN.out] at this; omega, fun e => by have := HO.out.jb i' x hx' e; rw [HN.out] at this; omega⟩)
        fun v t hv ht => by
          have hbv := (hv.block cb hcbl).trans HBX.out
          refine okC_one (numF ks t : Int) q t cb w.heap.size q v ht hle (by rw [cell_at hbv]; rfl) ?_
          have hnv := HNR.out.far5 (w' := v) (fun g e hl => hv.block g hl)
          rw [hnv.cellAt t (by omega)]
          simp [HNS.out t ht])
      clear hnat hrr HRR HNR HNS hbx
      go_wp2_with fail
      refine HRET.out.mono ?_
      rintro e w2 ⟨ca, cc, rfl, hown, hb2⟩
      have HFIN : Hid (CloneN (trimK l ks) (trimK l ks).length w (.returned (.slice ca rn cc)) w2) := by
        have el : (trimK l ks).length = rn := by unfold trimK; rw [List.length_map]; exact hl3
        unfold CloneN
        rw [el]
        exact ⟨ca, cc, rfl, ownsRow_mono hown hbw, HB.out.trans (hb2.mono hbw)⟩
      clear hown hb2 HRET
      go_wp2_with fail
      go_ret
      exact HFIN.out

/-- The state of trimmed's loop. -/
def TmL (l : List Ins) (bs : List Bool) (n : Nat) (w : World) (i : Value) (wr : World) : Prop := ∃ (j : Nat) (ks : List Bool), j ≤ n ∧ i = .int .i64 (j : Int) ∧ KpTo l bs ks j ∧ wr.ownsRow w.heap.size 4 1 (.slice (some ⟨w.heap.size, 0, none⟩) n n) n (ks.map Value.bool) ∧ Below w.heap.size w wr

set_option maxRecDepth 100000 in
set_option maxHeartbeats 4000000 in
/-- **trimmed.** -/
theorem trimmed_one (l : List Ins) (a : Option Addr) (n c : Nat) (w : World) (h : NAt w (fun b => b < w.heap.size) l a) (hn : l.length = n) (hok : Okc l) :
    Calls Tryd.prog 50 #[.slice a n c] w (CloneN (trimL l) (trimL l).length w) := by
  have hle := hok.le
  rw [hn] at hle
  have HR := Lib.hid (reached_one l a n c w h hn hok)
  have HN := Lib.hid hn
  have HO := Lib.hid hok
  have HL : Hid (∀ v, Below w.heap.size w v → NAt v (fun b => b < v.heap.size) l a) := fun v hv => h.below hv
  clear h hn hok
  go_enter Tryd.func50, Tryd.ntmps50
  go_wp2_with fail
  refine HR.out.mono ?_
  rintro e w1 ⟨bs, rfl, hbs, hown, hb1⟩
  have HBS := Lib.hid hbs
  have HL0 : Hid (TmL l bs n w (.int .i64 0) w1) := ⟨0, bs, Nat.zero_le _, rfl, KpTo.start _ _, hown, hb1⟩
  clear hbs hown hb1 HR
  go_wp2_with fail
  go_loopw [10] (fun i wr => TmL l bs n w i wr) (fun i _ => n - (intOf i).toNat)
  case atStart => exact HL0.out
  case round =>
    obtain ⟨j, ks, hj, rfl, hk, hrow, hb⟩ := hrel
    have HK := Lib.hid hk
    have HROW := Lib.hid hrow
    have HB := Lib.hid hb
    clear hk hrow hb HL0
    by_cases hlt : j < n
    · obtain ⟨x, hx⟩ : ∃ x, l[j]? = some x := ⟨l[j]'(by rw [HN.out]; exact hlt), List.getElem?_eq_getElem _⟩
      obtain ⟨b, o, ha, hbl, r0, r1, r2, r3, r4⟩ := (HL.out wr HB.out).2 j x hx
      obtain ⟨V, hV⟩ : ∃ V, wr.alloc (.cells #[.int .i64 x.op, .int .i64 x.fa, .int .i64 x.fb, .int .i64 x.fc, .int .i64 x.fd] 50) = V := ⟨_, rfl⟩
      have hBV : Below wr.heap.size wr V := by rw [← hV]; exact (Below.refl _ _).alloc (Nat.le_refl _) _
      have hxV : V.heap[wr.heap.size]? = some (.cells #[.int .i64 x.op, .int .i64 x.fa, .int .i64 x.fb, .int .i64 x.fc, .int .i64 x.fd] 50 (0, 0)) := by rw [← hV]; exact heap_alloc_new wr _
      have y0 : V.cell? ⟨wr.heap.size, 0, none⟩ = some (.int .i64 x.op) := by rw [cell_at hxV]; rfl
      have y1 : V.cell? ⟨wr.heap.size, 1, none⟩ = some (.int .i64 x.fa) := by rw [cell_at hxV]; rfl
      have hrV := HROW.out.far5 (w' := V) (fun g e hl => hBV.block g hl)
      have HBV : Hid (Below w.heap.size w V) := HB.out.trans (hBV.mono HB.out.size)
      have HX := Lib.hid hx
      have HV := Lib.hid hV
      have HRV := Lib.hid hrV
      subst ha
      clear hx hV hBV hxV
      by_cases hs : skp x j = true
      · obtain ⟨⟨s0, hs0⟩, f0⟩ := ownsRow_cellx hrV j (by omega)
        have hst := (hrV.stored j (.bool false)).1
        rw [← List.map_set] at hst
        have HREL : Hid (TmL l bs n w (.int .i64 ((j : Int) + 1)) (V.setCell ⟨w.heap.size, j, none⟩ (.bool false))) := ⟨j + 1, ks.set j false, by omega, by go_num, HK.out.drop HX.out hs, hst, HBV.out.setCell (p := ⟨w.heap.size, j, none⟩) (Nat.le_refl _) _⟩
        have h8 : (x.op == 8) = true := by unfold skp at hs; simp only [Bool.and_eq_true] at hs; exact hs.1
        have h1 : (x.fa == (j : Int) + 1) = true := by unfold skp at hs; simp only [Bool.and_eq_true] at hs; exact hs.2
        clear hs hst hrV HROW HK
        go_wp2_with (first | rw [HV.out] | fail)
        go_roundw
        case rel => exact HREL.out
        case measure => simp [intOf]; omega
      · have hs' : skp x j = false := by simpa using hs
        have HREL : Hid (TmL l bs n w (.int .i64 ((j : Int) + 1)) V) := ⟨j + 1, ks, by omega, by go_num, HK.out.keep HX.out hs', HRV.out, HBV.out⟩
        by_cases h8 : (x.op == 8) = true
        · have h1 : (x.fa == (j : Int) + 1) = false := by unfold skp at hs'; rw [h8] at hs'; simpa using hs'
          clear hs hs' hrV HROW HK
          go_wp2_with (first | rw [HV.out] | fail)
          go_roundw
          case rel => exact HREL.out
          case measure => simp [intOf]; omega
        · have h8' : (x.op == 8) = false := by simpa using h8
          clear hs hs' h8 hrV HROW HK
          go_wp2_with (first | rw [HV.out] | fail)
          go_roundw
          case rel => exact HREL.out
          case measure => simp [intOf]; omega
    · obtain rfl : j = n := by omega
      have hbl : bs.length = j := HBS.out.1.trans HN.out
      have hks : ks = kpL l bs := HK.out.all (by omega)
      have hkl : ks.length = j := HK.out.1.trans hbl
      have hba : BAt wr (fun b => b < wr.heap.size) ks (some ⟨w.heap.size, 0, none⟩) := by
        have h1 : OwnB wr w.heap.size (.slice (some ⟨w.heap.size, 0, none⟩) j j) ks := by unfold OwnB; rw [hkl]; exact HROW.out
        exact h1.bat.2.2.2.wide (fun _ _ => rfl) fun q hq => hq.2
      have HOK := onlyK_one l ks a (some ⟨w.heap.size, 0, none⟩) j c j wr (HL.out wr HB.out) HN.out HO.out hba hkl
      have etr : trimK l ks = trimL l := by unfold trimL; rw [rchL_eq HBS.out, hks]
      rw [etr] at HOK
      have HOK := Lib.hid HOK
      clear hbl hks hkl hba etr HROW HK
      go_wp2_with fail
      refine HOK.out.mono ?_
      rintro e w2 ⟨ca, cc, rfl, hown, hb2⟩
      have HFIN : Hid (CloneN (trimL l) (trimL l).length w (.returned (.slice ca (trimL l).length cc)) w2) := ⟨ca, cc, rfl, ownsRow_mono hown HB.out.size, HB.out.trans (hb2.mono HB.out.size)⟩
      clear hown hb2 HOK
      go_wp2_with fail
      go_ret
      exact HFIN.out

end Go.Proofs.YtkjgnaaoiebcjaaDoor

namespace Go.Proofs.YtkjgnaaoiebcjaaDoor
open Go.RowKit
set_option linter.unusedVariables false

set_option maxRecDepth 100000 in
set_option maxHeartbeats 8000000 in
/-- **rewritten** at loop.example/constanttime/impl.trimmed. -/
theorem rewTr_one (m : Cd) (k : CK) (w : World) (h : CL w m k) (hs : CSm m) (hT : TblF w)
    (hP : codeB m = true → ∀ v, Below w.heap.size w v → Calls Tryd.prog 50 #[.slice k.la m.list.length k.lc] v (CloneN (trimL m.list) (trimL m.list).length v)) :
    Calls Tryd.prog 45 #[aggC m k, .func (.func 50) #[] #[]] w (PassN trimL m w) := by
  obtain ⟨hs1, hs2, hs3⟩ := hs
  obtain ⟨W, hW⟩ : ∃ W, (w.alloc (.cells (arrC m k) 30)).alloc (.cells #[.slice none 0 0, .slice none 0 0, .slice none 0 0] 30) = W := ⟨_, rfl⟩
  have hB : Below w.heap.size w W := by rw [← hW]; exact ((Below.refl _ w).alloc (Nat.le_refl _) _).alloc (by simp) _
  have hX : BoxC W w.heap.size m k := by rw [← hW]; exact (BoxC.new w m k _).later (Below.heap_alloc _ _ _ (by simp))
  have hE : W.heap[w.heap.size + 1]? = some (.cells #[.slice none 0 0, .slice none 0 0, .slice none 0 0] 30 (0, 0)) := by
    have e1 := heap_alloc_new (w.alloc (.cells (arrC m k) 30)) (.cells #[.slice none 0 0, .slice none 0 0, .slice none 0 0] 30)
    rw [World.size_alloc] at e1
    rw [← hW]; exact e1
  have hlw : w.heap.size + 1 < W.heap.size := (Array.getElem?_eq_some_iff.1 hE).1
  have HS : Hid (∀ v, Below W.heap.size W v → (v.cell? ⟨w.heap.size, 0, none⟩ = some (.slice k.va m.vars.length k.vc) ∧ v.cell? ⟨w.heap.size, 1, none⟩ = some (.slice k.aa m.arrs.length k.ac) ∧ v.cell? ⟨w.heap.size, 2, none⟩ = some (.slice k.la m.list.length k.lc))) := fun v hv => by
    have b := hX.below hv hX.lt
    exact ⟨b.c0, b.c1, b.c2⟩
  have HE : Hid (∀ v, Below W.heap.size W v → v.heap[w.heap.size + 1]? = some (.cells #[.slice none 0 0, .slice none 0 0, .slice none 0 0] 30 (0, 0))) := fun v hv => (hv.block _ hlw).trans hE
  have HCL : Hid (∀ v, Below W.heap.size W v → CL v m k) := fun v hv => (h.below hB).below hv
  have HCV : Hid (∀ v, Below W.heap.size W v → IAt v (fun b => b < v.heap.size) m.vars k.va) := fun v hv => (HCL.out v hv).1
  have HCA : Hid (∀ v, Below W.heap.size W v → IAt v (fun b => b < v.heap.size) m.arrs k.aa) := fun v hv => (HCL.out v hv).2.1
  have HV := Lib.hid (iCV_one m k W (h.below hB) (hT.below hB hT.lt))
  have HP : Hid (codeB m = true → ∀ v, Below W.heap.size W v → Calls Tryd.prog 50 #[.slice k.la m.list.length k.lc] v (CloneN (trimL m.list) (trimL m.list).length v)) := fun e v hv => hP e v (hB.trans (hv.mono hB.size))
  have HB := Lib.hid hB
  have HW := Lib.hid hW
  unfold arrC at HW
  obtain ⟨x0, x1, x2⟩ := HS.out W (Below.refl _ _)
  clear h hT hP hW hB hX hE
  go_enter Tryd.func45, Tryd.ntmps45
  go_wp2_with (first | rw [HW.out] | fail)
  refine HV.out.mono ?_
  rintro e w1 ⟨rfl, hb1⟩
  obtain ⟨q, hq⟩ : ∃ q, codeB m = q := ⟨_, rfl⟩
  have HQ := Lib.hid hq
  have HB1 := Lib.hid hb1
  rw [hq]
  clear hq hb1 HV x0 x1 x2
  cases q
  case false =>
    have hE1 := HE.out w1 HB1.out
    obtain ⟨r0, hr0⟩ := cell_ex hE1 0 (by simp)
    obtain ⟨r1, hr1⟩ := cell_ex hE1 1 (by simp)
    obtain ⟨r2, hr2⟩ := cell_ex hE1 2 (by simp)
    have f0 := frozen_at hE1 0
    have f1 := frozen_at hE1 1
    have f2 := frozen_at hE1 2
    have HFIN : Hid (PassN trimL m w (.returned (.tuple #[.agg #[.slice none 0 0, .slice none 0 0, .slice none 0 0], .bool false])) (((w1.setCell ⟨w.heap.size + 1, 0, none⟩ (.slice none 0 0)).setCell ⟨w.heap.size + 1, 1, none⟩ (.slice none 0 0)).setCell ⟨w.heap.size + 1, 2, none⟩ (.slice none 0 0))) := by
      refine ⟨⟨[], [], []⟩, ⟨none, 0, none, 0, none, 0⟩, false, rfl, ⟨fun e => ?_, fun _ => ⟨rfl, rfl⟩⟩, OwnC.none _ _, ?_⟩
      · rw [HQ.out] at e; cases e
      · exact (((HB.out.trans (HB1.out.mono HB.out.size)).setCell (p := ⟨w.heap.size + 1, 0, none⟩) (by simp) _).setCell (p := ⟨w.heap.size + 1, 1, none⟩) (by simp) _).setCell (p := ⟨w.heap.size + 1, 2, none⟩) (by simp) _
    clear hE1
    go_wp2_with fail
    exact bodyPost_ret (v := .tuple #[.agg #[.slice none 0 0, .slice none 0 0, .slice none 0 0], .bool false]) (by simp [results, Tryd.f45, go_sem, hr0, hr1, hr2]) rfl HFIN.out
  case true =>
    have HP2 := Lib.hid (HP.out HQ.out)
    have HBD : Hid (Below W.heap.size W w1.drew) := HB1.out.drew
    have hS1 := HS.out w1 HB1.out
    have hS1d := HS.out w1.drew HBD.out
    go_wp2_with fail
    go_region_held3 (fun v => v.cell? ⟨w.heap.size, 0, none⟩ = some (.slice k.va m.vars.length k.vc) ∧ v.cell? ⟨w.heap.size, 1, none⟩ = some (.slice k.aa m.arrs.length k.ac) ∧ v.cell? ⟨w.heap.size, 2, none⟩ = some (.slice k.la m.list.length k.lc)) (first | (with_reducible assumption) | (with_reducible exact hS1) | (with_reducible exact hS1d))
      (first
      | (go_at_call 71; (with_reducible refine (cloneI_one m.vars k.va m.vars.length k.vc w1.drew (HCV.out _ HBD.out) rfl hs1).mono ?_)
         rintro f w2 ⟨va, vc, rfl, ho2, hb2⟩
         have hB2 : Below W.heap.size W w2 := HBD.out.trans (hb2.mono HBD.out.size)
         have hS2 := HS.out w2 hB2)
      | (go_at_call 71; (with_reducible refine (cloneI_one m.arrs k.aa m.arrs.length k.ac w2 (HCA.out _ hB2) rfl hs2).mono ?_)
         rintro f w3 ⟨aa, ac, rfl, ho3, hb3⟩
         have hB3 : Below W.heap.size W w3 := hB2.trans (hb3.mono hB2.size)
         have hS3 := HS.out w3 hB3)
      | (go_at_call 50; (with_reducible refine (HP2.out w3 hB3).mono ?_)
         rintro f w4 ⟨la, lc, rfl, ho4, hb4⟩
         have hB4 : Below W.heap.size W w4 := hB3.trans (hb4.mono hB3.size)
         have hS4 := HS.out w4 hB4
         have hR4 := HE.out w4 hB4
         obtain ⟨r0, hr0⟩ := cell_ex hR4 0 (by simp)
         obtain ⟨r1, hr1⟩ := cell_ex hR4 1 (by simp)
         obtain ⟨r2, hr2⟩ := cell_ex hR4 2 (by simp)
         have f0 := frozen_at hR4 0
         have f1 := frozen_at hR4 1
         have f2 := frozen_at hR4 2
         have hsP := facts_put3 (w := w4) (b := w.heap.size + 1) (.slice va m.vars.length vc) (.slice aa m.arrs.length ac) (.slice la (trimL m.list).length lc) (show w.heap.size ≠ w.heap.size + 1 by omega) hS4)
      | fail)
    all_goals
      have HF : Hid (PassN trimL m w (.returned (.tuple #[.agg #[.slice va m.vars.length vc, .slice aa m.arrs.length ac, .slice la (trimL m.list).length lc], .bool true])) (((w4.setCell ⟨w.heap.size + 1, 0, none⟩ (.slice va m.vars.length vc)).setCell ⟨w.heap.size + 1, 1, none⟩ (.slice aa m.arrs.length ac)).setCell ⟨w.heap.size + 1, 2, none⟩ (.slice la (trimL m.list).length lc))) := by
        have hoth : ∀ j, j ≠ w.heap.size + 1 → (((w4.setCell ⟨w.heap.size + 1, 0, none⟩ (.slice va m.vars.length vc)).setCell ⟨w.heap.size + 1, 1, none⟩ (.slice aa m.arrs.length ac)).setCell ⟨w.heap.size + 1, 2, none⟩ (.slice la (trimL m.list).length lc)).heap[j]? = w4.heap[j]? := fun j hj => by
          rw [Below.heap_setCell _ _ _ _ (by simpa using hj), Below.heap_setCell _ _ _ _ (by simpa using hj), Below.heap_setCell _ _ _ _ (by simpa using hj)]
        have z1 := HBD.out.size
        have z2 := hb2.size
        have z3 := hb3.size
        refine ⟨⟨m.vars, m.arrs, trimL m.list⟩, ⟨va, vc, aa, ac, la, lc⟩, true, rfl, ⟨fun _ => ⟨rfl, rfl⟩, fun e => by rw [HQ.out] at e; cases e⟩, ?_, ?_⟩
        · exact OwnC.three (w1 := w1.drew) (w2 := w2) (w3 := w3) (w4 := w4) (by omega) ho2 hb3 ho3 hb4 ho4 (fun j h1 => hoth j (by omega))
        · exact (((HB.out.trans (hB4.mono HB.out.size)).setCell (p := ⟨w.heap.size + 1, 0, none⟩) (by simp) _).setCell (p := ⟨w.heap.size + 1, 1, none⟩) (by simp) _).setCell (p := ⟨w.heap.size + 1, 2, none⟩) (by simp) _
      clear hS2 hS3 hS4 hsP ho2 ho3 ho4 hb2 hb3 hb4 hB2 hB3 hB4 hR4 hS1 hS1d HP HP2 HS HE HCL HCV HCA
      go_wp2_with fail
      exact bodyPost_ret (v := .tuple #[.agg #[.slice va m.vars.length vc, .slice aa m.arrs.length ac, .slice la (trimL m.list).length lc], .bool true]) (by simp [results, Tryd.f45, go_sem, hr0, hr1, hr2]) rfl HF.out

set_option maxRecDepth 100000 in
set_option maxHeartbeats 4000000 in
/-- **loop.example/constanttime/impl.TrimCode.** -/
theorem iTr_one (m : Cd) (k : CK) (w : World) (h : CL w m k) (hs : CSm m) (hT : TblF w)
    (hP : codeB m = true → ∀ v, Below w.heap.size w v → Calls Tryd.prog 50 #[.slice k.la m.list.length k.lc] v (CloneN (trimL m.list) (trimL m.list).length v)) :
    Calls Tryd.prog 23 #[aggC m k] w (PassN trimL m w) := by
  obtain ⟨W, hW⟩ : ∃ W, (w.alloc (.cells (arrC m k) 30)).alloc (.cells #[.slice none 0 0, .slice none 0 0, .slice none 0 0] 30) = W := ⟨_, rfl⟩
  have hB : Below w.heap.size w W := by rw [← hW]; exact ((Below.refl _ w).alloc (Nat.le_refl _) _).alloc (by simp) _
  have hX : BoxC W w.heap.size m k := by rw [← hW]; exact (BoxC.new w m k _).later (Below.heap_alloc _ _ _ (by simp))
  have hE : W.heap[w.heap.size + 1]? = some (.cells #[.slice none 0 0, .slice none 0 0, .slice none 0 0] 30 (0, 0)) := by
    have e1 := heap_alloc_new (w.alloc (.cells (arrC m k) 30)) (.cells #[.slice none 0 0, .slice none 0 0, .slice none 0 0] 30)
    rw [World.size_alloc] at e1
    rw [← hW]; exact e1
  have hlw : w.heap.size + 1 < W.heap.size := (Array.getElem?_eq_some_iff.1 hE).1
  have x0 := hX.c0
  have x1 := hX.c1
  have x2 := hX.c2
  have HR := Lib.hid (rewTr_one m k W (h.below hB) hs (hT.below hB hT.lt) fun e v hv => hP e v (hB.trans (hv.mono hB.size)))
  have HE := Lib.hid hE
  have HB := Lib.hid hB
  have HW := Lib.hid hW
  unfold arrC at HW
  clear h hs hT hP hW hB hX hE
  go_enter Tryd.func23, Tryd.ntmps23
  go_wp2_with (first | rw [HW.out] | fail)
  refine HR.out.mono ?_
  rintro e w1 ⟨m', k', b, rfl, hv, ho, hb1⟩
  have hE1 := (hb1.block _ hlw).trans HE.out
  obtain ⟨r0, hr0⟩ := cell_ex hE1 0 (by simp)
  obtain ⟨r1, hr1⟩ := cell_ex hE1 1 (by simp)
  obtain ⟨r2, hr2⟩ := cell_ex hE1 2 (by simp)
  have f0 := frozen_at hE1 0
  have f1 := frozen_at hE1 1
  have f2 := frozen_at hE1 2
  have HFIN : Hid (PassN trimL m w (.returned (.tuple #[aggC m' k', .bool b])) (((w1.setCell ⟨w.heap.size + 1, 0, none⟩ (.slice k'.va m'.vars.length k'.vc)).setCell ⟨w.heap.size + 1, 1, none⟩ (.slice k'.aa m'.arrs.length k'.ac)).setCell ⟨w.heap.size + 1, 2, none⟩ (.slice k'.la m'.list.length k'.lc))) := by
    have hoth : ∀ j, j ≠ w.heap.size + 1 → (((w1.setCell ⟨w.heap.size + 1, 0, none⟩ (.slice k'.va m'.vars.length k'.vc)).setCell ⟨w.heap.size + 1, 1, none⟩ (.slice k'.aa m'.arrs.length k'.ac)).setCell ⟨w.heap.size + 1, 2, none⟩ (.slice k'.la m'.list.length k'.lc)).heap[j]? = w1.heap[j]? := fun j hj => by
      rw [Below.heap_setCell _ _ _ _ (by simpa using hj), Below.heap_setCell _ _ _ _ (by simpa using hj), Below.heap_setCell _ _ _ _ (by simpa using hj)]
    refine ⟨m', k', b, rfl, hv, ((ho.stand fun g h1 _ => hoth g (by omega)).mono HB.out.size), ?_⟩
    exact (((HB.out.trans (hb1.mono HB.out.size)).setCell (p := ⟨w.heap.size + 1, 0, none⟩) (by simp) _).setCell (p := ⟨w.heap.size + 1, 1, none⟩) (by simp) _).setCell (p := ⟨w.heap.size + 1, 2, none⟩) (by simp) _
  clear hE1 hv ho hb1 HR
  go_wp2_with fail
  exact bodyPost_ret (v := .tuple #[aggC m' k', .bool b]) (by simp [results, Tryd.f23, go_sem, hr0, hr1, hr2, aggC]) rfl HFIN.out

end Go.Proofs.YtkjgnaaoiebcjaaDoor

namespace Go.Proofs.YtkjgnaaoiebcjaaDoor
open Go.RowKit
set_option linter.unusedVariables false

set_option maxRecDepth 100000 in
set_option maxHeartbeats 4000000 in
/-- **loop.example/constanttime/spec.TrimCode.** -/
theorem sTr_one (m : Cd) (k : CK) (w : World) (h : CL w m k)
    (hP : codeB m = true → ∀ v, Below w.heap.size w v → Calls Tryd.prog 49 #[aggC m k] v (CopyCO ⟨m.vars, m.arrs, trimL m.list⟩ v)) :
    Calls Tryd.prog 22 #[aggC m k] w (PassN trimL m w) := by
  obtain ⟨W, hW⟩ : ∃ W, (w.alloc (.cells (arrC m k) 30)).alloc (.cells #[.slice none 0 0, .slice none 0 0, .slice none 0 0] 30) = W := ⟨_, rfl⟩
  have hB : Below w.heap.size w W := by rw [← hW]; exact ((Below.refl _ w).alloc (Nat.le_refl _) _).alloc (by simp) _
  have hX : BoxC W w.heap.size m k := by rw [← hW]; exact (BoxC.new w m k _).later (Below.heap_alloc _ _ _ (by simp))
  have hE : W.heap[w.heap.size + 1]? = some (.cells #[.slice none 0 0, .slice none 0 0, .slice none 0 0] 30 (0, 0)) := by
    have e1 := heap_alloc_new (w.alloc (.cells (arrC m k) 30)) (.cells #[.slice none 0 0, .slice none 0 0, .slice none 0 0] 30)
    rw [World.size_alloc] at e1
    rw [← hW]; exact e1
  have hlw : w.heap.size + 1 < W.heap.size := (Array.getElem?_eq_some_iff.1 hE).1
  have HS : Hid (∀ v, Below W.heap.size W v → (v.cell? ⟨w.heap.size, 0, none⟩ = some (.slice k.va m.vars.length k.vc) ∧ v.cell? ⟨w.heap.size, 1, none⟩ = some (.slice k.aa m.arrs.length k.ac) ∧ v.cell? ⟨w.heap.size, 2, none⟩ = some (.slice k.la m.list.length k.lc))) := fun v hv => by
    have b := hX.below hv hX.lt
    exact ⟨b.c0, b.c1, b.c2⟩
  have HE : Hid (∀ v, Below W.heap.size W v → v.heap[w.heap.size + 1]? = some (.cells #[.slice none 0 0, .slice none 0 0, .slice none 0 0] 30 (0, 0))) := fun v hv => (hv.block _ hlw).trans hE
  have HV := Lib.hid (sCV_one m k W (h.below hB))
  have HP : Hid (codeB m = true → ∀ v, Below W.heap.size W v → Calls Tryd.prog 49 #[aggC m k] v (CopyCO ⟨m.vars, m.arrs, trimL m.list⟩ v)) := fun e v hv => hP e v (hB.trans (hv.mono hB.size))
  have HB := Lib.hid hB
  have HW := Lib.hid hW
  unfold arrC at HW
  obtain ⟨x0, x1, x2⟩ := HS.out W (Below.refl _ _)
  clear h hP hW hB hX hE
  go_enter Tryd.func22, Tryd.ntmps22
  go_wp2_with (first | rw [HW.out] | fail)
  refine HV.out.mono ?_
  rintro e w1 ⟨rfl, hb1⟩
  obtain ⟨q, hq⟩ : ∃ q, codeB m = q := ⟨_, rfl⟩
  have HQ := Lib.hid hq
  have HB1 := Lib.hid hb1
  rw [hq]
  clear hq hb1 HV x0 x1 x2
  cases q
  case false =>
    have hE1 := HE.out w1 HB1.out
    obtain ⟨r0, hr0⟩ := cell_ex hE1 0 (by simp)
    obtain ⟨r1, hr1⟩ := cell_ex hE1 1 (by simp)
    obtain ⟨r2, hr2⟩ := cell_ex hE1 2 (by simp)
    have f0 := frozen_at hE1 0
    have f1 := frozen_at hE1 1
    have f2 := frozen_at hE1 2
    have HFIN : Hid (PassN trimL m w (.returned (.tuple #[.agg #[.slice none 0 0, .slice none 0 0, .slice none 0 0], .bool false])) (((w1.setCell ⟨w.heap.size + 1, 0, none⟩ (.slice none 0 0)).setCell ⟨w.heap.size + 1, 1, none⟩ (.slice none 0 0)).setCell ⟨w.heap.size + 1, 2, none⟩ (.slice none 0 0))) := by
      refine ⟨⟨[], [], []⟩, ⟨none, 0, none, 0, none, 0⟩, false, rfl, ⟨fun e => ?_, fun _ => ⟨rfl, rfl⟩⟩, OwnC.none _ _, ?_⟩
      · rw [HQ.out] at e; cases e
      · exact (((HB.out.trans (HB1.out.mono HB.out.size)).setCell (p := ⟨w.heap.size + 1, 0, none⟩) (by simp) _).setCell (p := ⟨w.heap.size + 1, 1, none⟩) (by simp) _).setCell (p := ⟨w.heap.size + 1, 2, none⟩) (by simp) _
    clear hE1
    go_wp2_with fail
    exact bodyPost_ret (v := .tuple #[.agg #[.slice none 0 0, .slice none 0 0, .slice none 0 0], .bool false]) (by simp [results, Tryd.f22, go_sem, hr0, hr1, hr2]) rfl HFIN.out
  case true =>
    have HP2 := Lib.hid (HP.out HQ.out w1 HB1.out)
    obtain ⟨x0, x1, x2⟩ := HS.out w1 HB1.out
    go_wp2_with fail
    refine HP2.out.mono ?_
    rintro e w2 ⟨k', rfl, ho, hb2⟩
    have hE2 := HE.out w2 (HB1.out.trans (hb2.mono HB1.out.size))
    obtain ⟨r0, hr0⟩ := cell_ex hE2 0 (by simp)
    obtain ⟨r1, hr1⟩ := cell_ex hE2 1 (by simp)
    obtain ⟨r2, hr2⟩ := cell_ex hE2 2 (by simp)
    have f0 := frozen_at hE2 0
    have f1 := frozen_at hE2 1
    have f2 := frozen_at hE2 2
    have hz1 := HB1.out.size
    have HFIN : Hid (PassN trimL m w (.returned (.tuple #[.agg #[.slice k'.va m.vars.length k'.vc, .slice k'.aa m.arrs.length k'.ac, .slice k'.la (trimL m.list).length k'.lc], .bool true])) (((w2.setCell ⟨w.heap.size + 1, 0, none⟩ (.slice k'.va m.vars.length k'.vc)).setCell ⟨w.heap.size + 1, 1, none⟩ (.slice k'.aa m.arrs.length k'.ac)).setCell ⟨w.heap.size + 1, 2, none⟩ (.slice k'.la (trimL m.list).length k'.lc))) := by
      have hoth : ∀ j, j ≠ w.heap.size + 1 → (((w2.setCell ⟨w.heap.size + 1, 0, none⟩ (.slice k'.va m.vars.length k'.vc)).setCell ⟨w.heap.size + 1, 1, none⟩ (.slice k'.aa m.arrs.length k'.ac)).setCell ⟨w.heap.size + 1, 2, none⟩ (.slice k'.la (trimL m.list).length k'.lc)).heap[j]? = w2.heap[j]? := fun j hj => by
        rw [Below.heap_setCell _ _ _ _ (by simpa using hj), Below.heap_setCell _ _ _ _ (by simpa using hj), Below.heap_setCell _ _ _ _ (by simpa using hj)]
      refine ⟨⟨m.vars, m.arrs, trimL m.list⟩, k', true, rfl, ⟨fun _ => ⟨rfl, rfl⟩, fun e => by rw [HQ.out] at e; cases e⟩, (ho.stand fun g h1 _ => hoth g (by omega)).mono (by have := HB.out.size; omega), ?_⟩
      exact (((HB.out.trans ((HB1.out.trans (hb2.mono HB1.out.size)).mono HB.out.size)).setCell (p := ⟨w.heap.size + 1, 0, none⟩) (by simp) _).setCell (p := ⟨w.heap.size + 1, 1, none⟩) (by simp) _).setCell (p := ⟨w.heap.size + 1, 2, none⟩) (by simp) _
    clear hE2 ho hb2 HP2 HP HS HE x0 x1 x2
    go_wp2_with fail
    exact bodyPost_ret (v := .tuple #[.agg #[.slice k'.va m.vars.length k'.vc, .slice k'.aa m.arrs.length k'.ac, .slice k'.la (trimL m.list).length k'.lc], .bool true]) (by simp [results, Tryd.f22, go_sem, hr0, hr1, hr2]) rfl HFIN.out

end Go.Proofs.YtkjgnaaoiebcjaaDoor

namespace Go.Proofs.YtkjgnaaoiebcjaaDoor
open Go.RowKit
set_option linter.unusedVariables false

theorem trimL_le (l : List Ins) : (trimL l).length ≤ l.length := by
  by_cases h : ∃ bs, IsR l bs
  · obtain ⟨bs, hb⟩ := h
    exact trimL_len hb
  · have e : rchL l = [] := by unfold rchL; rw [dif_neg h]
    unfold trimL trimK
    rw [e, show kpL l [] = [] from rfl]
    cases l <;> simp [keptL]
set_option maxRecDepth 100000 in
set_option maxHeartbeats 16000000 in
theorem law_FnExactTrimCode' (m : Cd) (k : CK) (w : World) (hT : TblF w) (hg : 0 < w.heap.size) (h : CL w m k)
    (hgl : codeB m = true → (trimL m.list).length ≤ 1048576)
    (hSp : ∀ v k', CL v m k' → CSm m → Calls Tryd.prog 22 #[aggC m k'] v (PassN trimL m v))
    (hIm : ∀ v k', CL v m k' → CSm m → TblF v → Calls Tryd.prog 23 #[aggC m k'] v (PassN trimL m v)) :
    Calls Tryd.prog 6 #[aggC m k] w (YN true w) := by
  have HSP := Lib.hid hSp
  have HIM := Lib.hid hIm
  have HGL := Lib.hid hgl
  have HM : Hid (∀ v, Below w.heap.size w v → CL v m k) := fun v hv => h.below hv
  have HT : Hid (∀ v, Below w.heap.size w v → TblF v) := fun v hv => hT.below hv hg
  clear h hT hg hSp hIm hgl
  have HB := Lib.hid ((Below.refl w.heap.size w).alloc (Nat.le_refl _) (.cells (arrC m k) 25))
  have HX := Lib.hid (BoxC.new w m k 25)
  go_enter Tryd.func6, Tryd.ntmps6
  go_wp2_with fail
  obtain ⟨W, hW⟩ : ∃ W, (w.alloc (.cells (arrC m k) 25)) = W := ⟨_, rfl⟩
  unfold arrC at hW
  rw [hW] at HB HX ⊢
  clear hW
  refine (szC_one m k 1048576 W (HM.out _ HB.out) (by omega) (by omega)).mono ?_
  rintro f w1 ⟨v1, rfl, hv1, hs1, hb1⟩
  have HS1 := Lib.hid hs1
  have HB1 := Lib.hid (HB.out.trans (hb1.mono HB.out.size))
  have HX1 := Lib.hid (HX.out.below hb1 HX.out.lt)
  have hx1 := HX1.out.lt
  clear hs1 hb1 HX HB
  by_cases n1 : v1 < 0
  · go_wp2_with fail
    go_ret
    exact YN.of rfl HB1.out
  have HMS : Hid (CSm m) := HS1.out (by omega)
  have c0 := HX1.out.c0
  have c1 := HX1.out.c1
  have c2 := HX1.out.c2
  clear HS1
  -- the model's answer
  go_wp2_with fail
  refine (toC_one m k w1 (HM.out _ HB1.out) HMS.out).mono ?_
  rintro f u1 ⟨k1, rfl, hm1, hb1⟩
  have R1 := Lib.hid (HSP.out u1 k1 hm1 HMS.out)
  have HBu1 := Lib.hid hb1
  clear hm1 hb1 c0 c1 c2
  go_wp2_with fail
  refine R1.out.mono ?_
  rintro f u2' ⟨m0, kw, b0, rfl, hpv, hwo, hb2⟩
  have HPV := Lib.hid hpv
  have HMZ : Hid (CSm m0) := by
    have h1 := HMS.out
    cases hq : codeB m
    · rw [(hpv.2 hq).2]; exact ⟨Nat.zero_le _, Nat.zero_le _, Nat.zero_le _⟩
    · rw [(hpv.1 hq).2]; exact ⟨h1.1, h1.2.1, HGL.out hq⟩
  obtain ⟨u2, hu2⟩ : ∃ u2, u2'.alloc (.cells (arrC m0 kw) 30) = u2 := ⟨_, rfl⟩
  have hbu2 : Below u2'.heap.size u2' u2 := by rw [← hu2]; exact (Below.refl _ _).alloc (Nat.le_refl _) _
  have hXw : BoxC u2 u2'.heap.size m0 kw := by rw [← hu2]; exact BoxC.new _ _ _ _
  have hCw : CL u2 m0 kw := hwo.cl.below hbu2
  have hb12 : Below w1.heap.size w1 u2 := HBu1.out.trans ((hb2.trans (hbu2.mono hb2.size)).mono HBu1.out.size)
  have HBw : Hid (Below w.heap.size w u2) := HB1.out.trans (hb12.mono HB1.out.size)
  have HX2 : Hid (BoxC u2 w.heap.size m k) := HX1.out.below hb12 hx1
  obtain ⟨wb, hwb⟩ : ∃ wb, u2'.heap.size = wb := ⟨_, rfl⟩
  rw [hwb] at hXw
  have HS : Hid (∀ v, Below u2.heap.size u2 v → (v.cell? ⟨w.heap.size, 0, none⟩ = some (.slice k.va m.vars.length k.vc) ∧ v.cell? ⟨w.heap.size, 1, none⟩ = some (.slice k.aa m.arrs.length k.ac) ∧ v.cell? ⟨w.heap.size, 2, none⟩ = some (.slice k.la m.list.length k.lc)) ∧ (v.cell? ⟨wb, 0, none⟩ = some (.slice kw.va m0.vars.length kw.vc) ∧ v.cell? ⟨wb, 1, none⟩ = some (.slice kw.aa m0.arrs.length kw.ac) ∧ v.cell? ⟨wb, 2, none⟩ = some (.slice kw.la m0.list.length kw.lc)) ∧ CL v m k ∧ TblF v ∧ CL v m0 kw) := fun v hv => by
    have bx := HX2.out.below hv HX2.out.lt
    have bw := hXw.below hv hXw.lt
    have hb := HBw.out.trans (hv.mono HBw.out.size)
    exact ⟨⟨bx.c0, bx.c1, bx.c2⟩, ⟨bw.c0, bw.c1, bw.c2⟩, HM.out _ hb, HT.out _ hb, hCw.below hv⟩
  obtain ⟨⟨x0, x1, x2⟩, _⟩ := HS.out u2 (Below.refl _ _)
  have hs2 := HBw.out.size
  unfold arrC at hu2
  have HU2 := Lib.hid hu2
  have HWB := Lib.hid hwb
  clear R1 HBu1 HX1 hwo hpv hb2 HX2 HM HT HB1 hbu2 hXw hCw hb12 hu2 hwb
  -- the argument
  go_wp2_with (first | rw [HU2.out, HWB.out] | rw [HU2.out] | fail)
  try rw [HWB.out]
  refine (toCO_one m k u2 (HS.out _ (Below.refl _ _)).2.2.1 HMS.out).mono ?_
  rintro f u3 ⟨k2, rfl, ho3, hb3⟩
  obtain ⟨u4, hu4⟩ : ∃ u4, u3.alloc (.cells (arrC m k2) 30) = u4 := ⟨_, rfl⟩
  have hX4 : BoxC u4 u3.heap.size m k2 := by rw [← hu4]; exact BoxC.new _ _ _ _
  have hb34 : Below u3.heap.size u3 u4 := by rw [← hu4]; exact (Below.refl _ _).alloc (Nat.le_refl _) _
  have HO4 : Hid (OwnC u4 u2.heap.size m k2) := ho3.stand fun g _ hg => hb34.block g hg
  have hlt4 : u3.heap.size < u4.heap.size := hX4.lt
  have HB4 : Hid (Below u2.heap.size u2 u4) := hb3.trans (hb34.mono hb3.size)
  have LV := Lib.hid ho3.v.lt
  have LA := Lib.hid ho3.a.lt
  have LL := Lib.hid ho3.l.lt
  have g0 := hX4.c0
  have g1 := hX4.c1
  have g2 := hX4.c2
  have HX4 := Lib.hid hX4
  have hs3 := hb3.size
  have I4 := Lib.hid (HIM.out u4 k2 HO4.out.cl HMS.out (HS.out _ HB4.out).2.2.2.1)
  unfold arrC at hu4
  have HU4 := Lib.hid hu4
  clear ho3 hX4 hb34 hu4 hb3 x0 x1 x2
  go_wp2_with (first | rw [HU4.out] | fail)
  try rw [HU4.out]
  refine I4.out.mono ?_
  rintro f u5 ⟨m1, kg, b1, rfl, hpg, hgo, hb5⟩
  obtain ⟨e1, e2⟩ := hpg.uniq HPV.out
  subst e1 e2
  obtain ⟨u6, hu6⟩ : ∃ u6, u5.alloc (.cells (arrC m1 kg) 30) = u6 := ⟨_, rfl⟩
  have hX6 : BoxC u6 u5.heap.size m1 kg := by rw [← hu6]; exact BoxC.new _ _ _ _
  have hb56 : Below u5.heap.size u5 u6 := by rw [← hu6]; exact (Below.refl _ _).alloc (Nat.le_refl _) _
  have LGV := Lib.hid hgo.v.lt
  have LGA := Lib.hid hgo.a.lt
  have LGL := Lib.hid hgo.l.lt
  have HG6 : Hid (OwnC u6 u4.heap.size m1 kg) := hgo.stand fun g _ hg => hb56.block g hg
  have HB6 : Hid (Below u2.heap.size u2 u6) := HB4.out.trans ((hb5.trans (hb56.mono hb5.size)).mono HB4.out.size)
  have hb46 : Below u4.heap.size u4 u6 := hb5.trans (hb56.mono hb5.size)
  have HO6 : Hid (OwnC u6 u2.heap.size m k2) := HO4.out.stand fun g _ hg => hb46.block g hg
  have HX6 : Hid (BoxC u6 u3.heap.size m k2) := HX4.out.below hb46 hlt4
  have HXG6 := Lib.hid hX6
  have hs4 := HB4.out.size
  have hs5 := hb5.size
  have hlt6 : u5.heap.size < u6.heap.size := hX6.lt
  have y0 := hX6.c0
  have y1 := hX6.c1
  have y2 := hX6.c2
  obtain ⟨_, ⟨z0, z1, z2⟩, _⟩ := HS.out u6 HB6.out
  unfold arrC at hu6
  have HU6 := Lib.hid hu6
  have E6 := Lib.hid (eqC_same m1 kg kw u6 HG6.out.cl (HS.out _ HB6.out).2.2.2.2)
  clear hpg hgo hb5 g0 g1 g2 HX4 HO4 hX6 hb56 hb46 hu6 I4
  go_wp2_with (first | rw [HU6.out] | fail)
  try rw [HU6.out]
  refine E6.out.mono ?_
  rintro f u7 ⟨rfl, hb7⟩
  have HB7 : Hid (Below u2.heap.size u2 u7) := HB6.out.trans (hb7.mono HB6.out.size)
  have HG7 : Hid (OwnC u7 u4.heap.size m1 kg) := HG6.out.stand fun g _ hg => hb7.block g hg
  have HO7 : Hid (OwnC u7 u2.heap.size m k2) := HO6.out.stand fun g _ hg => hb7.block g hg
  have HX7 : Hid (BoxC u7 u3.heap.size m k2) := HX6.out.below hb7 HX6.out.lt
  have HXG7 : Hid (BoxC u7 u5.heap.size m1 kg) := HXG6.out.below hb7 hlt6
  have hs7 := hb7.size
  have HSQ : Hid (∀ v, Below u7.heap.size u7 v → v.cell? ⟨w.heap.size, 0, none⟩ = some (.slice k.va m.vars.length k.vc) ∧ v.cell? ⟨w.heap.size, 1, none⟩ = some (.slice k.aa m.arrs.length k.ac) ∧ v.cell? ⟨w.heap.size, 2, none⟩ = some (.slice k.la m.list.length k.lc) ∧ v.cell? ⟨u3.heap.size, 0, none⟩ = some (.slice k2.va m.vars.length k2.vc) ∧ v.cell? ⟨u3.heap.size, 1, none⟩ = some (.slice k2.aa m.arrs.length k2.ac) ∧ v.cell? ⟨u3.heap.size, 2, none⟩ = some (.slice k2.la m.list.length k2.lc)) := fun v hv => by
    obtain ⟨⟨f0, f1, f2⟩, _⟩ := HS.out v (HB7.out.trans (hv.mono HB7.out.size))
    have h := HX7.out.below hv HX7.out.lt
    exact ⟨f0, f1, f2, h.c0, h.c1, h.c2⟩
  obtain ⟨f0, f1, f2, q0, q1, q2⟩ := HSQ.out u7 (Below.refl _ _)
  have HWQ : Hid (∀ v, Below u7.heap.size u7 v → CL v m k) := fun v hv => (HS.out _ (HB7.out.trans (hv.mono HB7.out.size))).2.2.1
  have HC7 : Hid (CL u7 m k2) := HO7.out.cl
  have HBD7 : Hid (Below u7.heap.size u7 u7.drew) := (Below.refl _ _).drew
  clear hb7 HG6 HO6 HX6 HXG6 HB6 y0 y1 y2 z0 z1 z2 E6
  go_wp2_with fail
  go_region_held3 (fun v => v.cell? ⟨w.heap.size, 0, none⟩ = some (.slice k.va m.vars.length k.vc) ∧ v.cell? ⟨w.heap.size, 1, none⟩ = some (.slice k.aa m.arrs.length k.ac) ∧ v.cell? ⟨w.heap.size, 2, none⟩ = some (.slice k.la m.list.length k.lc) ∧ v.cell? ⟨u3.heap.size, 0, none⟩ = some (.slice k2.va m.vars.length k2.vc) ∧ v.cell? ⟨u3.heap.size, 1, none⟩ = some (.slice k2.aa m.arrs.length k2.ac) ∧ v.cell? ⟨u3.heap.size, 2, none⟩ = some (.slice k2.la m.list.length k2.lc)) (first | assumption | exact ⟨f0, f1, f2, q0, q1, q2⟩)
    (first
    | (go_at_call 10; (with_reducible refine (toC_one m k u7.drew (HWQ.out _ HBD7.out) HMS.out).mono ?_); rintro f u9 ⟨k3, rfl, hm3, hA⟩; have hA2 := HBD7.out.trans hA; have hS1 := HSQ.out _ hA2)
    | (go_at_call 12; (with_reducible refine (eqC_one m m k2 k3 u9 (HC7.out.below hA2) hm3).mono ?_); rintro f u8 ⟨rfl, hE⟩; rw [show decide (m = m) = true from decide_eq_true rfl]; have hB8 := hA2.trans (hE.mono hA2.size); have hS2 := HSQ.out _ hB8)
    | fail)
  have HB8 : Hid (Below u2.heap.size u2 u8) := HB7.out.trans (hB8.mono HB7.out.size)
  have HG8 : Hid (OwnC u8 u4.heap.size m1 kg) := HG7.out.stand fun g _ hg => hB8.block g hg
  have HO8 : Hid (OwnC u8 u2.heap.size m k2) := HO7.out.stand fun g _ hg => hB8.block g hg
  have HXG8 : Hid (BoxC u8 u5.heap.size m1 kg) := HXG7.out.below hB8 HXG7.out.lt
  obtain ⟨_, _, _, y0, y1, y2⟩ := hS2
  have hs8 := hB8.size
  clear hB8 hA hA2 hE hS1 q0 q1 q2 f0 f1 f2 HSQ HC7 HWQ HG7 HO7 HX7 HXG7 hm3 HBD7
  -- the marks of the argument
  have MC := Lib.hid (markC_one u2.heap.size m k2 1 u8 HO8.out HB8.out.size HMS.out (by omega) (by omega))
  go_wp2_with fail
  refine MC.out.mono ?_
  rintro f u9 ⟨rfl, _, hb9, hs9, hst9⟩
  have hout : ∀ g, u3.heap.size ≤ g → g < u8.heap.size → u9.heap[g]? = u8.heap[g]? := fun g hg hlt => hst9 g hlt (fun e => by have := LV.out g e; omega) (fun e => by have := LA.out g e; omega) (fun e => by have := LL.out g e; omega)
  have HG9 : Hid (OwnC u9 u4.heap.size m1 kg) := HG8.out.stand fun g hg hlt => hout g (by omega) hlt
  have HXG9 : Hid (BoxC u9 u5.heap.size m1 kg) := HXG8.out.later (hout _ (by omega) HXG8.out.lt)
  have HB9 : Hid (Below u2.heap.size u2 u9) := HB8.out.trans hb9
  obtain ⟨ke, hke⟩ : ∃ ke, mkEnd 1 m = ke := ⟨_, rfl⟩
  have hk1 : ¬ (ke < 0) := by rw [← hke]; unfold mkEnd; omega
  rw [hke]
  have E9 := Lib.hid (eqC_same m1 kg kw u9 HG9.out.cl (HS.out _ HB9.out).2.2.2.2)
  have v0 := HXG9.out.c0
  have v1' := HXG9.out.c1
  have v2 := HXG9.out.c2
  obtain ⟨_, ⟨z0, z1, z2⟩, _⟩ := HS.out u9 HB9.out
  clear hb9 hst9 hout MC HG8 HO8 HXG8 y0 y1 y2 hke
  go_wp2_with fail
  refine E9.out.mono ?_
  rintro f u10 ⟨rfl, hb10⟩
  have HG10 : Hid (OwnC u10 u4.heap.size m1 kg) := HG9.out.stand fun g _ hg => hb10.block g hg
  have HXG10 : Hid (BoxC u10 u5.heap.size m1 kg) := HXG9.out.below hb10 HXG9.out.lt
  have HB10 : Hid (Below u2.heap.size u2 u10) := HB9.out.trans (hb10.mono HB9.out.size)
  have hs10 := hb10.size
  have t0 := HXG10.out.c0
  have t1 := HXG10.out.c1
  have t2 := HXG10.out.c2
  clear hb10 E9 HG9 HXG9 v0 v1' v2 z0 z1 z2
  -- the marks of the answer
  have M10 := Lib.hid (markC_one u4.heap.size m1 kg 1 u10 HG10.out (by omega) HMZ.out (by omega) (by omega))
  go_wp2_with fail
  refine M10.out.mono ?_
  rintro f u11 ⟨rfl, hg11, hb11, hs11, hst11⟩
  have HG11 := Lib.hid hg11
  have HXG11 : Hid (BoxC u11 u5.heap.size m1 kg) := HXG10.out.later (hst11 _ HXG10.out.lt (fun e => by have := LGV.out _ e; omega) (fun e => by have := LGA.out _ e; omega) (fun e => by have := LGL.out _ e; omega))
  have HB11 : Hid (Below u2.heap.size u2 u11) := HB10.out.trans (hb11.mono hs4)
  have H11 := Lib.hid (heldC_one m1 kg 1 u11 HG11.out.cl HMZ.out (by omega) (by omega))
  obtain ⟨kf, hkf⟩ : ∃ kf, mkEnd 1 m1 = kf := ⟨_, rfl⟩
  have hk2 : ¬ (kf < 0) := by rw [← hkf]; unfold mkEnd; omega
  rw [hkf] at H11 ⊢
  have HKF := Lib.hid hkf
  have r0 := HXG11.out.c0
  have r1 := HXG11.out.c1
  have r2 := HXG11.out.c2
  clear hg11 hb11 hst11 M10 HG10 HXG10 t0 t1 t2 hkf
  go_wp2_with fail
  refine H11.out.mono ?_
  rintro f u12 ⟨rfl, hb12⟩
  have HG12 : Hid (OwnC u12 u4.heap.size (mkCd 1 m1) kg) := HG11.out.stand fun g _ hg => hb12.block g hg
  have HXG12 : Hid (BoxC u12 u5.heap.size m1 kg) := HXG11.out.below hb12 HXG11.out.lt
  have HB12 : Hid (Below u2.heap.size u2 u12) := HB11.out.trans (hb12.mono HB11.out.size)
  obtain ⟨⟨z0, z1, z2⟩, _⟩ := HS.out u12 HB12.out
  clear hb12 H11 HG11 HXG11 r0 r1 r2
  -- again
  have T12 := Lib.hid (toC_one m k u12 (HS.out _ HB12.out).2.2.1 HMS.out)
  go_wp2_with fail
  refine T12.out.mono ?_
  rintro f u13 ⟨k4, rfl, hm4, hb13⟩
  have HG13 : Hid (OwnC u13 u4.heap.size (mkCd 1 m1) kg) := HG12.out.stand fun g _ hg => hb13.block g hg
  have HXG13 : Hid (BoxC u13 u5.heap.size m1 kg) := HXG12.out.below hb13 HXG12.out.lt
  have HB13 : Hid (Below u2.heap.size u2 u13) := HB12.out.trans (hb13.mono HB12.out.size)
  have I13 := Lib.hid (HIM.out u13 k4 hm4 HMS.out (HS.out _ HB13.out).2.2.2.1)
  clear hm4 hb13 T12 HG12 HXG12 z0 z1 z2
  go_wp2_with fail
  refine I13.out.mono ?_
  rintro f u14 ⟨m2, kh, b2, rfl, hph, hho, hb14⟩
  obtain ⟨e1, e2⟩ := hph.uniq HPV.out
  subst e1 e2
  obtain ⟨u15, hu15⟩ : ∃ u15, u14.alloc (.cells (arrC m2 kh) 30) = u15 := ⟨_, rfl⟩
  have hXh : BoxC u15 u14.heap.size m2 kh := by rw [← hu15]; exact BoxC.new _ _ _ _
  have hb15 : Below u14.heap.size u14 u15 := by rw [← hu15]; exact (Below.refl _ _).alloc (Nat.le_refl _) _
  have hb135 : Below u13.heap.size u13 u15 := hb14.trans (hb15.mono hb14.size)
  have HG15 : Hid (OwnC u15 u4.heap.size (mkCd 1 m2) kg) := HG13.out.stand fun g _ hg => hb135.block g hg
  have HXG15 : Hid (BoxC u15 u5.heap.size m2 kg) := HXG13.out.below hb135 HXG13.out.lt
  have HB15 : Hid (Below u2.heap.size u2 u15) := HB13.out.trans (hb135.mono HB13.out.size)
  have E15 := Lib.hid (eqC_same m2 kh kw u15 (hho.cl.below hb15) (HS.out _ HB15.out).2.2.2.2)
  have y0 := hXh.c0
  have y1 := hXh.c1
  have y2 := hXh.c2
  obtain ⟨_, ⟨z0, z1, z2⟩, _⟩ := HS.out u15 HB15.out
  unfold arrC at hu15
  have HU15 := Lib.hid hu15
  clear hph hho hb14 hXh hb15 hb135 hu15 I13 HG13 HXG13
  go_wp2_with (first | rw [HU15.out] | fail)
  try rw [HU15.out]
  refine E15.out.mono ?_
  rintro f u16 ⟨rfl, hb16⟩
  have HG16 : Hid (OwnC u16 u4.heap.size (mkCd 1 m2) kg) := HG15.out.stand fun g _ hg => hb16.block g hg
  have HXG16 : Hid (BoxC u16 u5.heap.size m2 kg) := HXG15.out.below hb16 HXG15.out.lt
  have HB16 : Hid (Below u2.heap.size u2 u16) := HB15.out.trans (hb16.mono HB15.out.size)
  have H16 := heldC_one m2 kg 1 u16 HG16.out.cl HMZ.out (by omega) (by omega)
  rw [HKF.out] at H16
  have H16 := Lib.hid H16
  have r0 := HXG16.out.c0
  have r1 := HXG16.out.c1
  have r2 := HXG16.out.c2
  clear hb16 E15 HG15 HXG15 y0 y1 y2 z0 z1 z2
  go_wp2_with fail
  refine H16.out.mono ?_
  rintro f u17 ⟨rfl, hb17⟩
  have HFIN : Hid (Below w.heap.size w u17) := HBw.out.trans ((HB16.out.trans (hb17.mono HB16.out.size)).mono hs2)
  clear hb17 H16 r0 r1 r2
  go_wp2_with fail
  go_ret
  exact YN.of rfl HFIN.out

theorem law_FnExactTrimCode (m : Cd) (k : CK) (w : World) (hT : TblF w) (hg : 0 < w.heap.size) (h : CL w m k) :
    Calls Tryd.prog 6 #[aggC m k] w (YN true w) :=
  law_FnExactTrimCode' m k w hT hg h (fun e => by have := trimL_le m.list; have := (codeB_ok e).le; omega)
    (fun v k' hc hs => sTr_one m k' v hc fun e v' hv' => l8Trim_one m k' v' (hc.below hv') hs (codeB_ok e))
    (fun v k' hc hs ht => iTr_one m k' v hc hs ht fun e v' hv' => trimmed_one m.list k'.la m.list.length k'.lc v' (hc.below hv').2.2 rfl (codeB_ok e))

end Go.Proofs.YtkjgnaaoiebcjaaDoor

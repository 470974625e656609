/- heldCode, walked: at every code the call returns true; nothing that was there has changed. Condition: the table of forms lies as the program's text lays it. -/
import Derived.Test.YtodihpnnajlkdaaDoorCdE
import Derived.Test.YtodihpnnajlkdaaDoorCdT
import Derived.Test.YtodihpnnajlkdaaDoorMkC
import Derived.Test.YtodihpnnajlkdaaDoorPaN
import Derived.Deep.RegionWith
import Derived.Deep.RegionHeld3
import Derived.Test.YtodihpnnajlkdaaDoorTrP
import Derived.Test.YtodihpnnajlkdaaDoorThI
import Derived.Test.YtodihpnnajlkdaaDoorRcR
import Derived.Test.YtodihpnnajlkdaaDoorRwX
import Derived.Test.YtodihpnnajlkdaaDoorMu
import Derived.Test.YtodihpnnajlkdaaDoorZzM
namespace Go.Proofs.YtodihpnnajlkdaaDoor
open Go.RowKit
set_option linter.unusedVariables false

theorem eqC_same (m : Cd) (k l : CK) (w : World) (h : CL w m k) (h' : CL w m l) : Calls Tryd.prog 12 #[aggC m k, aggC m l] w (YN true w) := by
  have h1 := eqC_one m m k l w h h'
  rw [decide_eq_true rfl] at h1
  exact h1

set_option maxRecDepth 100000 in
set_option maxHeartbeats 4000000 in
/-- **heldCode.** -/
theorem heldC_one (m : Cd) (k : CK) (k0 : Int) (w : World) (h : CL w (mkCd k0 m) k) (hs : CSm m) (h0 : 0 ≤ k0) (h1 : k0 ≤ 1000) :
    Calls Tryd.prog 18 #[aggC m k, .int .i64 k0] w (fun f w' => f = .returned (.int .i64 (mkEnd k0 m)) ∧ Below w.heap.size w w') := by
  obtain ⟨hs1, hs2, hs3⟩ := hs
  obtain ⟨W, hW⟩ : ∃ W, w.alloc (.cells (arrC m k) 30) = W := ⟨_, rfl⟩
  have hB : Below w.heap.size w W := by rw [← hW]; exact (Below.refl _ w).alloc (Nat.le_refl _) _
  have hX : BoxC W w.heap.size m k := by rw [← hW]; exact BoxC.new _ _ _ _
  have HX : Hid (∀ v, Below W.heap.size W v → BoxC v w.heap.size m k) := fun v hv => hX.below hv hX.lt
  obtain ⟨nv, hnv⟩ : ∃ n, m.vars.length = n := ⟨_, rfl⟩
  obtain ⟨na, hna⟩ : ∃ n, m.arrs.length = n := ⟨_, rfl⟩
  obtain ⟨nl, hnl⟩ : ∃ n, m.list.length = n := ⟨_, rfl⟩
  have HC : Hid (∀ v, Below W.heap.size W v → IAt v (fun b => b < v.heap.size) (mkI k0 nv) k.va ∧ IAt v (fun b => b < v.heap.size) (mkI (k0 + (nv : Int)) na) k.aa ∧ NAt v (fun b => b < v.heap.size) (mkN (k0 + (nv : Int) + (na : Int)) nl) k.la) := fun v hv => by
    have q := (h.below hB).below hv
    have q1 := q.1
    have q2 := q.2.1
    have q3 := q.2.2
    unfold mkCd at q1 q2 q3
    rw [hnv] at q1 q2 q3
    rw [hna] at q2 q3
    rw [hnl] at q3
    exact ⟨q1, q2, q3⟩
  have HE : Hid (mkEnd k0 m = k0 + (nv : Int) + (na : Int) + 5 * (nl : Int)) := by
    have : mkEnd k0 m = k0 + (nv : Int) + (na : Int) + 5 * (nl : Int) := by unfold mkEnd; rw [hnv, hna, hnl]
    exact this
  have HNV := Lib.hid hnv
  have HNA := Lib.hid hna
  have HNL := Lib.hid hnl
  have HB := Lib.hid hB
  have HW := Lib.hid hW
  unfold arrC at HW
  have x0 := hX.c0
  rw [hnv] at hs1 x0
  rw [hna] at hs2
  rw [hnl] at hs3
  have M1 := Lib.hid (heldIX_one nv k.vc k.va k0 W (HC.out W (Below.refl _ _)).1 hs1 h0 (by omega))
  clear hW hB hX h hnv hna hnl
  go_enter Tryd.func18, Tryd.ntmps18
  go_wp2_with (first | rw [HW.out] | fail)
  refine M1.out.mono ?_
  rintro f w1 ⟨rfl, hb1⟩
  have HB1 := Lib.hid hb1
  have x1 := (HX.out w1 hb1).c1
  rw [HNA.out] at x1
  have M2 := Lib.hid (heldIX_one na k.ac k.aa (k0 + (nv : Int)) w1 (HC.out w1 hb1).2.1 hs2 (by omega) (by omega))
  have p1 : ¬ (k0 + (nv : Int) < 0) := by omega
  clear hb1 x0 M1
  go_wp2_with fail
  refine M2.out.mono ?_
  rintro f w2 ⟨rfl, hb2⟩
  have HB2 : Hid (Below W.heap.size W w2) := HB1.out.trans (hb2.mono HB1.out.size)
  have x2 := (HX.out w2 HB2.out).c2
  rw [HNL.out] at x2
  have M3 := Lib.hid (heldInS_one nl k.lc k.la (k0 + (nv : Int) + (na : Int)) w2 (HC.out w2 HB2.out).2.2 hs3 (by omega) (by omega))
  have p2 : ¬ (k0 + (nv : Int) + (na : Int) < 0) := by omega
  clear hb2 x1 M2
  go_wp2_with fail
  refine M3.out.mono ?_
  rintro f w3 ⟨rfl, hb3⟩
  have p3 : ¬ (k0 + (nv : Int) + (na : Int) + 5 * (nl : Int) < 0) := by omega
  have HFIN : Hid (Below w.heap.size w w3) := HB.out.trans ((HB2.out.trans (hb3.mono HB2.out.size)).mono HB.out.size)
  clear hb3 x2 M3
  go_wp2_with fail
  rw [HE.out]
  go_ret
  exact ⟨rfl, HFIN.out⟩

end Go.Proofs.YtodihpnnajlkdaaDoor

namespace Go.Proofs.YtodihpnnajlkdaaDoor
open Go.RowKit
set_option linter.unusedVariables false

/-- The pieces of the first k. -/
def splN (pc : Nat → List Ins) : Nat → List Ins
  | 0 => []
  | k + 1 => splN pc k ++ pc k
/-- Where the pieces of number i begin. -/
def begF (pc : Nat → List Ins) (i : Nat) : Nat := (splN pc i).length
/-- All pieces, each target being where its pieces begin. -/
def subL (pc : Nat → List Ins) (n : Nat) : List Ins := (splN pc n).map (reT (begF pc))
theorem subL_len (pc : Nat → List Ins) (n : Nat) : (subL pc n).length = (splN pc n).length := by simp [subL]
theorem splN_mem {pc : Nat → List Ins} {x : Ins} : ∀ {n : Nat}, x ∈ splN pc n → ∃ i, i < n ∧ x ∈ pc i
  | 0, h => by simp [splN] at h
  | k + 1, h => by
    simp only [splN, List.mem_append] at h
    rcases h with h | h
    · obtain ⟨i, hi, hx⟩ := splN_mem h
      exact ⟨i, by omega, hx⟩
    · exact ⟨k, by omega, h⟩
theorem splN_le {pc : Nat → List Ins} (h : ∀ q, (pc q).length ≤ 2) : ∀ n, (splN pc n).length ≤ 2 * n
  | 0 => by simp [splN]
  | k + 1 => by
    simp only [splN, List.length_append]
    have := splN_le h k
    have := h k
    omega

/-- A kept instruction is its only piece; another one has none. -/
def pcK (l : List Ins) (ks : List Bool) (q : Nat) : List Ins := match l[q]?, ks[q]? with | some x, some true => [x] | _, _ => []
theorem pcK_t {l : List Ins} {ks : List Bool} {q : Nat} {x : Ins} (hx : l[q]? = some x) (h : ks[q]? = some true) : pcK l ks q = [x] := by unfold pcK; rw [hx, h]
theorem pcK_f {l : List Ins} {ks : List Bool} {q : Nat} (h : ks[q]? = some false) : pcK l ks q = [] := by
  unfold pcK; rw [h]; cases l[q]? <;> rfl
theorem pcK_le (l : List Ins) (ks : List Bool) (q : Nat) : (pcK l ks q).length ≤ 2 := by
  unfold pcK; split <;> simp
theorem pcK_mem {l : List Ins} {ks : List Bool} {q : Nat} {x : Ins} (h : x ∈ pcK l ks q) : l[q]? = some x := by
  unfold pcK at h
  split at h
  · rename_i y hy _
    simp at h
    rw [hy, h]
  · simp at h
theorem splN_K {l : List Ins} {ks : List Bool} (hl : ks.length = l.length) : ∀ i, splN (pcK l ks) i = kepN l ks i
  | 0 => (kepN_zero l ks).symm
  | i + 1 => by
    show splN (pcK l ks) i ++ pcK l ks i = _
    rw [splN_K hl i]
    by_cases hi : i < l.length
    · have hx : l[i]? = some l[i] := List.getElem?_eq_getElem hi
      have hb : ks[i]? = some (ks[i]'(by omega)) := List.getElem?_eq_getElem _
      cases e : ks[i]'(by omega)
      · rw [e] at hb
        rw [pcK_f hb, kepN_f hl hx hb, List.append_nil]
      · rw [e] at hb
        rw [pcK_t hx hb, kepN_t hl hx hb]
    · have h1 : pcK l ks i = [] := by unfold pcK; rw [List.getElem?_eq_none (by omega)]
      unfold kepN
      rw [h1, List.append_nil, List.take_of_length_le (by omega), List.take_of_length_le (by omega), List.take_of_length_le (by omega), List.take_of_length_le (by omega)]
theorem begF_K {l : List Ins} {ks : List Bool} (hl : ks.length = l.length) : begF (pcK l ks) = numF ks := by
  funext i
  unfold begF
  rw [splN_K hl i, kepN_len hl i]
theorem subL_K {l : List Ins} {ks : List Bool} (hl : ks.length = l.length) : subL (pcK l ks) l.length = trimK l ks := by
  unfold subL trimK
  rw [splN_K hl, begF_K hl, kepN_all hl]

/-- A row of the call's own does not end behind its room. -/
theorem ownsRow_cap {w : World} {base : Nat} {T : TypeId} {sz : Nat} {a : Option Addr} {n c : Nat} {xs : List Value} (h : w.ownsRow base T sz (.slice a n c) n xs) : n ≤ c := by
  rcases h.2 with ⟨e, e2⟩ | ⟨g, cap, cur, e, _, _, hn, _⟩
  · cases e; exact Nat.le_refl _
  · injection e with e1 e2 e3; omega

/-- What a function of pieces answers. -/
def PcA (xs : List Ins) (w : World) (e : Ending) (w' : World) : Prop := ∃ pa pc, e = .returned (.slice pa xs.length pc) ∧ NAt w' (fun b => b < w'.heap.size) xs pa ∧ Below w.heap.size w w'
/-- What spliced answers. -/
def SplA (pc : Nat → List Ins) (n : Nat) (w : World) (e : Ending) (w' : World) : Prop := ∃ (ra : Option Addr) (rc : Nat) (ns : List Int), e = .returned (.tuple #[.slice ra (splN pc n).length rc, .slice (some ⟨w.heap.size, 0, none⟩) n n]) ∧
  w'.ownsRow (w.heap.size + 1) 46 5 (.slice ra (splN pc n).length rc) (splN pc n).length (flatN (splN pc n)) ∧
  ns.length = n ∧ (∀ q, q < n → ns[q]? = some (begF pc q : Int)) ∧ w'.ownsRow w.heap.size 3 1 (.slice (some ⟨w.heap.size, 0, none⟩) n n) n (ns.map (Value.int .i64)) ∧ Below w.heap.size w w'
/-- The state of its loop. -/
def SplL (pc : Nat → List Ins) (n : Nat) (w : World) (rv i : Value) (wr : World) : Prop := ∃ (j : Nat) (ra : Option Addr) (rc : Nat) (ns : List Int), j ≤ n ∧ i = .int .i64 (j : Int) ∧ rv = .slice ra (splN pc j).length rc ∧
  ns.length = n ∧ (∀ q, q < j → ns[q]? = some (begF pc q : Int)) ∧ wr.ownsRow w.heap.size 3 1 (.slice (some ⟨w.heap.size, 0, none⟩) n n) n (ns.map (Value.int .i64)) ∧
  wr.ownsRow (w.heap.size + 1) 46 5 (.slice ra (splN pc j).length rc) (splN pc j).length (flatN (splN pc j)) ∧ Below w.heap.size w wr
theorem ints0 (n : Nat) : (madeCells (Value.int .i64 0).cells (n * 1)).toList = (List.replicate n (0 : Int)).map (Value.int .i64) := by
  rw [Nat.mul_one, List.map_replicate]
  exact toList_madeCells_one _ _

end Go.Proofs.YtodihpnnajlkdaaDoor

namespace Go.Proofs.YtodihpnnajlkdaaDoor
open Go.RowKit
set_option linter.unusedVariables false

set_option maxRecDepth 100000 in
set_option maxHeartbeats 2000000 in
/-- **substituted's closure.** -/
theorem suC_one (z : Int) (n t cb g cp : Nat) (w : World) (ht : t < n) (hm : n ≤ 400) (hb : w.cell? ⟨cb, 0, none⟩ = some (.slice (some ⟨g, 0, none⟩) n cp)) (hc : w.cell? ⟨g, t, none⟩ = some (.int .i64 z)) :
    Calls Tryd.prog 89 #[.int .i64 (t : Int), .pointer (some ⟨cb, 0, none⟩)] w (fun e w' => e = .returned (.int .i64 z) ∧ Below w.heap.size w w') := by
  go_enter Tryd.func89, Tryd.ntmps89
  go_wp2_with fail
  go_ret
  exact ⟨rfl, Below.refl _ _⟩

set_option maxRecDepth 100000 in
set_option maxHeartbeats 4000000 in
/-- **retargeted** at loop.example/constanttime/impl.substituted$1. -/
theorem retSu_one (f : Nat → Nat) (N : Nat) (cb : Nat) (l : List Ins) (a : Option Addr) (n c : Nat) (w : World) (h : NAt w (fun b => b < w.heap.size) l a) (hn : l.length = n) (hm : n ≤ 1000)
    (hT : ∀ (i : Nat) (x : Ins), l[i]? = some x → (x.op = 8 → 0 ≤ x.fa ∧ x.fa.toNat < N) ∧ (x.op = 9 ∨ x.op = 10 → 0 ≤ x.fb ∧ x.fb.toNat < N))
    (hC : ∀ (v : World) (t : Nat), Below w.heap.size w v → t < N → Calls Tryd.prog 89 #[.int .i64 (t : Int), .pointer (some ⟨cb, 0, none⟩)] v (fun e w' => e = .returned (.int .i64 (f t : Int)) ∧ Below v.heap.size v w')) :
    Calls Tryd.prog 88 #[.slice a n c, .func (.func 89) #[] #[.pointer (some ⟨cb, 0, none⟩)]] w (CloneN (l.map (reT f)) n w) := by
  have HC := Lib.hid hC
  have HT := Lib.hid hT
  have HN := Lib.hid hn
  have H1 := Lib.hid (cloneN_one l a n c w h hn (by omega))
  clear hC hT hn h
  go_enter Tryd.func88, Tryd.ntmps88
  go_wp2_with fail
  refine H1.out.mono ?_
  rintro e w1 ⟨ca, cc, rfl, hown, hb1⟩
  have HL0 : Hid (RTL f l w n ca cc (.int .i64 0) w1) := ⟨0, l, Nat.zero_le _, rfl, ReTo.start f l, hown, hb1⟩
  clear hown hb1 H1
  go_wp2_with fail
  go_loopw [12] (fun i wr => RTL f l w n ca cc i wr) (fun i _ => n - (intOf i).toNat)
  case atStart => exact HL0.out
  case round =>
    obtain ⟨k, ys, hk, rfl, hre, hrow, hb⟩ := hrel
    have HRE := Lib.hid hre
    have HROW := Lib.hid hrow
    have HB := Lib.hid hb
    clear hre hrow hb HL0
    by_cases hlt : k < n
    · obtain ⟨x, hx⟩ : ∃ x, l[k]? = some x := ⟨l[k]'(by rw [HN.out]; exact hlt), List.getElem?_eq_getElem _⟩
      have hyk : ys[k]? = some x := (HRE.out.2.2 k (Nat.le_refl _)).trans hx
      obtain ⟨g, rfl, hg, cur, hblk, hcs⟩ : ∃ g, ca = some ⟨g, 0, none⟩ ∧ w.heap.size ≤ g ∧ ∃ cur, wr.heap[g]? = some (.cells cur 46 (0, 0)) ∧ n * 5 ≤ cur.size := by
        rcases HROW.out.2 with ⟨e, e2⟩ | ⟨g, cap', cur, e, hb, hg, hn', hm', hc, ht⟩
        · omega
        · injection e with e1 e2 e3
          exact ⟨g, e1, hb, cur, hg, by rw [hc]; exact Nat.mul_le_mul_right _ hn'⟩
      have hgl : g < wr.heap.size := (Array.getElem?_eq_some_iff.1 hblk).1
      have hf := flatN_at ys k x hyk
      have hcell : ∀ j, j < 5 → wr.cell? ⟨g, k * 5 + j, none⟩ = (flatN ys)[k * 5 + j]? := fun j hj => HROW.out.cellAt (k * 5 + j) (by omega)
      have d0 : wr.cell? ⟨g, k * 5, none⟩ = some (.int .i64 x.op) := (hcell 0 (by omega)).trans hf.1
      have d1 : wr.cell? ⟨g, k * 5 + 1, none⟩ = some (.int .i64 x.fa) := (hcell 1 (by omega)).trans hf.2.1
      have d2 : wr.cell? ⟨g, k * 5 + 2, none⟩ = some (.int .i64 x.fb) := (hcell 2 (by omega)).trans hf.2.2.1
      have HTG := Lib.hid (tgOf_one g (k * 5) x wr d0)
      have HX := Lib.hid hx
      have HYK := Lib.hid hyk
      have HKL : Hid (k < ys.length) := by
        have := (List.getElem?_eq_some_iff.1 hyk).1
        exact this
      clear hx hyk hf hcell hblk
      by_cases h8 : x.op = 8
      · have htv : tgV x g (k * 5) = .pointer (some ⟨g, k * 5 + 1, none⟩) := by unfold tgV; rw [tgO_8 (by simpa using h8)]
        obtain ⟨h0, h1⟩ := (HT.out k x HX.out).1 h8
        have HRT := Lib.hid (reT_8 (f := f) h8)
        obtain ⟨t, ht⟩ : ∃ t : Nat, x.fa = (t : Int) := ⟨x.fa.toNat, by omega⟩
        have htt : x.fa.toNat = t := by rw [ht]; rfl
        rw [htt] at h1
        have HRT2 := HRT.out
        rw [htt] at HRT2
        have HRT3 := Lib.hid HRT2
        rw [ht] at d1
        have HCL := Lib.hid (HC.out wr t HB.out h1)
        clear h8 ht htt h0 HRT HRT2
        go_wp2_with fail
        refine HTG.out.mono ?_
        rintro e w2 ⟨rfl, hw2⟩
        subst hw2
        rw [htv]
        clear htv HTG
        go_wp2_with fail
        refine HCL.out.mono ?_
        rintro e w3 ⟨rfl, hb3⟩
        have hblk3 := HROW.out.far5 (fun g' e hl => hb3.block g' hl)
        obtain ⟨⟨u0, hu0⟩, f0⟩ := ownsRow_cellx hblk3 (k * 5 + 1) (by omega)
        have HREL : Hid (RTL f l w n (some ⟨g, 0, none⟩) cc (.int .i64 ((k : Int) + 1)) (w3.setCell ⟨g, k * 5 + 1, none⟩ (.int .i64 (f t : Int)))) := by
          refine ⟨k + 1, ys.set k (reT f x), hlt, by go_num, HRE.out.set HX.out, ?_, (HB.out.trans (hb3.mono HB.out.size)).setCell (p := ⟨g, k * 5 + 1, none⟩) hg _⟩
          have hs := (hblk3.stored (k * 5 + 1) (.int .i64 (f t : Int))).1
          rw [flatN_set1 ys k x _ HYK.out] at hs
          rw [HRT3.out]; exact hs
        clear hb3 hblk3 HROW HRE HCL d0 d1 d2
        go_wp2_with fail
        go_roundw
        case rel => exact HREL.out
        case measure => simp [intOf]; omega
      · by_cases h9 : x.op = 9 ∨ x.op = 10
        · have htv : tgV x g (k * 5) = .pointer (some ⟨g, k * 5 + 2, none⟩) := by
            unfold tgV
            rcases h9 with e | e
            · rw [tgO_9 (by simpa using h8) (by simpa using e)]
            · rw [tgO_10 (by simpa using h8) (by simpa using e)]
          obtain ⟨h0, h1⟩ := (HT.out k x HX.out).2 h9
          have HRT := Lib.hid (reT_9 (f := f) h8 h9)
          obtain ⟨t, ht⟩ : ∃ t : Nat, x.fb = (t : Int) := ⟨x.fb.toNat, by omega⟩
          have htt : x.fb.toNat = t := by rw [ht]; rfl
          rw [htt] at h1
          have HRT2 := HRT.out
          rw [htt] at HRT2
          have HRT3 := Lib.hid HRT2
          rw [ht] at d2
          have HCL := Lib.hid (HC.out wr t HB.out h1)
          clear h8 h9 ht htt h0 HRT HRT2
          go_wp2_with fail
          refine HTG.out.mono ?_
          rintro e w2 ⟨rfl, hw2⟩
          subst hw2
          rw [htv]
          clear htv HTG
          go_wp2_with fail
          refine HCL.out.mono ?_
          rintro e w3 ⟨rfl, hb3⟩
          have hblk3 := HROW.out.far5 (fun g' e hl => hb3.block g' hl)
          obtain ⟨⟨u0, hu0⟩, f0⟩ := ownsRow_cellx hblk3 (k * 5 + 2) (by omega)
          have HREL : Hid (RTL f l w n (some ⟨g, 0, none⟩) cc (.int .i64 ((k : Int) + 1)) (w3.setCell ⟨g, k * 5 + 2, none⟩ (.int .i64 (f t : Int)))) := by
            refine ⟨k + 1, ys.set k (reT f x), hlt, by go_num, HRE.out.set HX.out, ?_, (HB.out.trans (hb3.mono HB.out.size)).setCell (p := ⟨g, k * 5 + 2, none⟩) hg _⟩
            have hs := (hblk3.stored (k * 5 + 2) (.int .i64 (f t : Int))).1
            rw [flatN_set2 ys k x _ HYK.out] at hs
            rw [HRT3.out]; exact hs
          clear hb3 hblk3 HROW HRE HCL d0 d1 d2
          go_wp2_with fail
          go_roundw
          case rel => exact HREL.out
          case measure => simp [intOf]; omega
        · have htv : tgV x g (k * 5) = .pointer none := by unfold tgV; rw [tgO_n (by simpa using h8) (by simp; omega) (by simp; omega)]
          have HREL : Hid (RTL f l w n (some ⟨g, 0, none⟩) cc (.int .i64 ((k : Int) + 1)) wr) := ⟨k + 1, ys, hlt, by go_num, HRE.out.same HX.out (reT_n h8 h9), HROW.out, HB.out⟩
          clear h8 h9 HROW HRE d0 d1 d2
          go_wp2_with fail
          refine HTG.out.mono ?_
          rintro e w2 ⟨rfl, hw2⟩
          subst hw2
          rw [htv]
          clear htv HTG
          go_wp2_with fail
          go_roundw
          case rel => exact HREL.out
          case measure => simp [intOf]; omega
    · obtain rfl : k = n := by omega
      have HFIN : Hid (CloneN (l.map (reT f)) k w (.returned (.slice ca k cc)) wr) := ⟨ca, cc, rfl, by rw [← HRE.out.all (by rw [HN.out]; exact Nat.le_refl _)]; exact HROW.out, HB.out⟩
      clear HROW HRE
      go_wp2_with fail
      go_ret
      exact HFIN.out


end Go.Proofs.YtodihpnnajlkdaaDoor

namespace Go.Proofs.YtodihpnnajlkdaaDoor
open Go.RowKit
set_option linter.unusedVariables false

set_option maxRecDepth 100000 in
set_option maxHeartbeats 8000000 in
/-- **spliced** at onlyKept$1. -/
theorem splK_one (pc : Nat → List Ins) (a : Option Addr) (n c b1 b2 : Nat) (w : World) (hm : n ≤ 400) (hpc : ∀ q, (pc q).length ≤ 2)
    (hC : ∀ (v : World) (q : Nat), Below w.heap.size w v → q < n → Calls Tryd.prog 91 #[.int .i64 (q : Int), .pointer (some ⟨b1, 0, none⟩), .pointer (some ⟨b2, 0, none⟩)] v (PcA (pc q) v)) :
    Calls Tryd.prog 87 #[.slice a n c, .func (.func 91) #[] #[.pointer (some ⟨b1, 0, none⟩), .pointer (some ⟨b2, 0, none⟩)]] w (SplA pc n w) := by
  obtain ⟨i0, hi, hz0, hz1, hz2⟩ := info_parts Tryd.infoI
  obtain ⟨j0, hj, hj0, hj1, hj2⟩ := info_parts Tryd.infoN
  have HC := Lib.hid hC
  have HPC := Lib.hid hpc
  clear hC hpc
  go_enter Tryd.func87, Tryd.ntmps87
  go_wp2_with (first
    | (at_make
       refine wpList_make_full _ rfl _ _ 22 rfl w.heap.size 3 i0 (.int .i64 0) 1 Tryd.underlying22 hi hz0 hz1 .i64 .i64 (n : Int) (n : Int) n rfl rfl rfl rfl (by rw [hz2]; omega) (by unfold maxLen; omega) (Nat.le_refl _) ?_
       intro w1 hown1 hgrow1
       rw [ints0] at hown1
       have hb1 : Below w.heap.size w w1 := (Below.refl _ w).grown hgrow1 (Nat.le_refl _) (fun k e => (by cases e))
       have HL0 : Hid (SplL pc n w (.slice none 0 0) (.int .i64 0) w1) := ⟨0, none, 0, List.replicate n 0, Nat.zero_le _, rfl, rfl, List.length_replicate, (fun q hq => absurd hq (Nat.not_lt_zero _)), hown1, World.ownsRow_nil _ _ _ _, hb1⟩
       clear hown1 hgrow1 hb1)
    | fail)
  go_loopw [6, 14] (fun rv i wr => SplL pc n w rv i wr) (fun _ i _ => n - (intOf i).toNat)
  case atStart => exact HL0.out
  case round =>
    obtain ⟨q, ra, rc, ns, hq, rfl, rfl, hnl, hns, hnr, hrr, hb⟩ := hrel
    obtain ⟨rn, hrn⟩ : ∃ rn, (splN pc q).length = rn := ⟨_, rfl⟩
    have hrle : rn ≤ 2 * q := by rw [← hrn]; exact splN_le HPC.out q
    rw [hrn] at hrr ⊢
    have HNL := Lib.hid hnl
    have HNS := Lib.hid hns
    have HRR := Lib.hid hrr
    have HB := Lib.hid hb
    have HRN := Lib.hid hrn
    have HNR := Lib.hid hnr
    clear hnl hns hrr hb hrn HL0
    by_cases hlt : q < n
    · obtain ⟨⟨s0, hs0⟩, f0⟩ := ownsRow_cellx hnr q (by omega)
      have hst := (hnr.stored q (.int .i64 (rn : Int))).1
      rw [← List.map_set] at hst
      obtain ⟨V2, hV2⟩ : ∃ V2, wr.setCell ⟨w.heap.size, q, none⟩ (.int .i64 (rn : Int)) = V2 := ⟨_, rfl⟩
      have hoth : ∀ j, j ≠ w.heap.size → V2.heap[j]? = wr.heap[j]? := fun j hj => by rw [← hV2]; exact Below.heap_setCell _ _ _ _ (by simpa using hj)
      have hz2 : wr.heap.size ≤ V2.heap.size := by rw [← hV2]; simp [World.setCell]
      have hBV2 : Below w.heap.size w V2 := by rw [← hV2]; exact HB.out.setCell (p := ⟨w.heap.size, q, none⟩) (Nat.le_refl _) _
      rw [hV2] at hst
      have hlb : w.heap.size < wr.heap.size := (hnr.lt w.heap.size rfl).2
      have hrr2 : V2.ownsRow (w.heap.size + 1) 46 5 (.slice ra rn rc) rn (flatN (splN pc q)) := HRR.out.far5 fun g hg hl => hoth g (by have := (HRR.out.lt g hg).1; omega)
      have HNS2 : Hid ((ns.set q (rn : Int)).length = n ∧ ∀ t, t < q + 1 → (ns.set q (rn : Int))[t]? = some (begF pc t : Int)) := by
        refine ⟨by rw [List.length_set]; exact HNL.out, fun t ht => ?_⟩
        by_cases e : t = q
        · subst e
          rw [List.getElem?_set_self (by rw [HNL.out]; exact hlt)]
          unfold begF
          rw [HRN.out]
        · rw [List.getElem?_set_ne (by omega)]
          exact HNS.out t (by omega)
      have HCL := Lib.hid (HC.out V2 q hBV2 hlt)
      have HST := Lib.hid hst
      have HV2 := Lib.hid hV2
      have HRR2 := Lib.hid hrr2
      have HBV2 := Lib.hid hBV2
      obtain ⟨m, hm2⟩ : ∃ m, (pc q).length = m := ⟨_, rfl⟩
      have hmle : m ≤ 2 := by rw [← hm2]; exact HPC.out q
      have HM := Lib.hid hm2
      clear hst hV2 hoth hBV2 hrr2 HNS HNR HRR hnr hm2
      go_wp2_with (first | rw [HV2.out] | fail)
      try rw [HV2.out]
      refine HCL.out.mono ?_
      rintro e w3 ⟨pa, cc, rfl, hnat, hb3⟩
      rw [HM.out]
      have hrr3 : w3.ownsRow (w.heap.size + 1) 46 5 (.slice ra rn rc) rn (flatN (splN pc q)) := HRR2.out.far5 fun g hg hl => hb3.block g hl
      have hz3 := hb3.size
      have HST3 : Hid (w3.ownsRow w.heap.size 3 1 (.slice (some ⟨w.heap.size, 0, none⟩) n n) n ((ns.set q (rn : Int)).map (Value.int .i64))) := HST.out.far5 fun g hg hl => hb3.block g hl
      have HB3 : Hid (Below w.heap.size w w3) := HBV2.out.trans (hb3.mono HBV2.out.size)
      have hnews := NewsAt.instrs hnat HM.out
      have hfl : (flatN (pc q)).length = m * 5 := by rw [flatN_len, HM.out]
      have hones := flatN_one (pc q)
      have hbs : w.heap.size + 1 ≤ w3.heap.size := by omega
      clear hnat hb3 HCL HRR2 HST HBV2
      go_wp2_with (first
        | (at_builtin
           refine wpList_append_any _ (by rfl) _ _ 28 (by rfl) (w.heap.size + 1) 46 j0 _ 5 40 Tryd.underlying28 hj hj0 hj1 hj2 rfl (by omega) (.slice ra rn rc) rn _ (by rfl) hrr3 pa m cc _ (by rfl) hfl hnews hones (by unfold maxLen; omega) (by omega) hbs ?_
           intro v' w5 hap
           obtain ⟨a5, c5, hv5, hown5, hgrow5, _⟩ := hap
           subst hv5
           have HREL : Hid (SplL pc n w (.slice a5 (rn + m) c5) (.int .i64 ((q : Int) + 1)) w5) := (by
             have el : (splN pc (q + 1)).length = rn + m := (by show (splN pc q ++ pc q).length = _; rw [List.length_append, HRN.out, HM.out])
             have hne : ∀ j, j < w.heap.size + 1 → some j ≠ (Value.slice ra rn rc).ownBlock := fun j hj e => (by have := (hrr3.lt j e.symm).1; omega)
             refine ⟨q + 1, a5, c5, _, by omega, by go_num, by rw [el], HNS2.out.1, HNS2.out.2, ?_, ?_, ?_⟩
             · refine HST3.out.far5 fun g' hg' hl => ?_
               have e1 : g' = w.heap.size := (by injection hg' with e; exact e.symm)
               subst e1
               exact hgrow5.block _ (by omega) (hne _ (by omega))
             · rw [el, show splN pc (q + 1) = splN pc q ++ pc q from rfl, flatN_app]
               exact hown5
             · exact HB3.out.grown hgrow5 HB3.out.size fun j hj => (by have := (hrr3.lt j hj).1; omega))
           clear hown5 hgrow5 HST3 hrr3 hnews hfl hones)
        | fail)
      go_roundw
      case rel => exact HREL.out
      case measure => simp [intOf]; omega
    · obtain rfl : q = n := by omega
      have HFIN : Hid (SplA pc q w (.returned (.tuple #[.slice ra rn rc, .slice (some ⟨w.heap.size, 0, none⟩) q q])) wr) := by
        refine ⟨ra, rc, ns, by rw [HRN.out], by rw [HRN.out]; exact HRR.out, HNL.out, HNS.out, HNR.out, HB.out⟩
      clear HRR HNR HNS hnr
      go_wp2_with fail
      exact bodyPost_ret (v := .tuple #[.slice ra rn rc, .slice (some ⟨w.heap.size, 0, none⟩) q q]) (by simp [results, Tryd.f87, go_sem]) rfl HFIN.out

set_option maxRecDepth 100000 in
set_option maxHeartbeats 8000000 in
/-- **substituted** at onlyKept$1. -/
theorem subK_one (pc : Nat → List Ins) (a : Option Addr) (n c b1 b2 : Nat) (w : World) (hm : n ≤ 400) (hpc : ∀ q, (pc q).length ≤ 2)
    (hT : ∀ (q : Nat) (x : Ins), q < n → x ∈ pc q → (x.op = 8 → 0 ≤ x.fa ∧ x.fa.toNat < n) ∧ (x.op = 9 ∨ x.op = 10 → 0 ≤ x.fb ∧ x.fb.toNat < n))
    (hC : ∀ (v : World) (q : Nat), Below w.heap.size w v → q < n → Calls Tryd.prog 91 #[.int .i64 (q : Int), .pointer (some ⟨b1, 0, none⟩), .pointer (some ⟨b2, 0, none⟩)] v (PcA (pc q) v)) :
    Calls Tryd.prog 69 #[.slice a n c, .func (.func 91) #[] #[.pointer (some ⟨b1, 0, none⟩), .pointer (some ⟨b2, 0, none⟩)]] w (CloneN (subL pc n) (subL pc n).length w) := by
  have H1 := Lib.hid (splK_one pc a n c b1 b2 w hm hpc hC)
  have HT := Lib.hid hT
  have hle := splN_le hpc n
  clear hC hT hpc
  go_enter Tryd.func69, Tryd.ntmps69
  go_wp2_with fail
  refine H1.out.mono ?_
  rintro e w1 ⟨ra, rc, ns, rfl, hrr, hnl, hns, hnr, hb1⟩
  obtain ⟨rn, hrn⟩ : ∃ rn, (splN pc n).length = rn := ⟨_, rfl⟩
  rw [hrn] at hrr hle ⊢
  have hlb : w.heap.size < w1.heap.size := (hnr.lt w.heap.size rfl).2
  obtain ⟨cb, hcb⟩ : ∃ cb, w1.heap.size = cb := ⟨_, rfl⟩
  obtain ⟨W2, hW2⟩ : ∃ W2, w1.alloc (.cells #[.slice (some ⟨w.heap.size, 0, none⟩) n n] 22) = W2 := ⟨_, rfl⟩
  have hbx : W2.heap[cb]? = some (.cells #[.slice (some ⟨w.heap.size, 0, none⟩) n n] 22 (0, 0)) := by rw [← hcb, ← hW2]; exact heap_alloc_new w1 _
  have hB2 : Below w1.heap.size w1 W2 := by rw [← hW2]; exact (Below.refl _ _).alloc (Nat.le_refl _) _
  have hzW : cb < W2.heap.size := (Array.getElem?_eq_some_iff.1 hbx).1
  have hnat : NAt W2 (fun b => b < W2.heap.size) (splN pc n) ra := by
    have h1 : OwnN w1 (w.heap.size + 1) (.slice ra rn rc) (splN pc n) := by unfold OwnN; rw [hrn]; exact hrr
    exact (h1.nat.2.2.2.wide (fun _ _ => rfl) fun j hj => hj.2).below hB2
  have HRET := Lib.hid (retSu_one (begF pc) n cb (splN pc n) ra rn rc W2 hnat hrn (by omega) (fun i x hx => by
      obtain ⟨q, hq, hxq⟩ := splN_mem (List.mem_of_getElem? hx)
      exact HT.out q x hq hxq)
    fun v t hv ht => by
      have hbv := (hv.block cb hzW).trans hbx
      refine suC_one (begF pc t : Int) n t cb w.heap.size n v ht hm (by rw [cell_at hbv]; rfl) ?_
      have hnv : v.ownsRow w.heap.size 3 1 (.slice (some ⟨w.heap.size, 0, none⟩) n n) n (ns.map (Value.int .i64)) := hnr.far5 fun g _ hl => (hv.block g (by have := hB2.size; omega)).trans (hB2.block g hl)
      rw [hnv.cellAt t (by omega)]
      simp [hns t ht])
  have HBB : Hid (Below w.heap.size w W2) := hb1.trans (hB2.mono hb1.size)
  have HRN := Lib.hid hrn
  have HCB := Lib.hid hcb
  have HW2 := Lib.hid hW2
  have x0 : W2.cell? ⟨cb, 0, none⟩ = some (.slice (some ⟨w.heap.size, 0, none⟩) n n) := by rw [cell_at hbx]; rfl
  clear hrr hnl hns hnr hb1 hrn hcb hW2 hbx hB2 hnat H1
  go_wp2_with (first | rw [HW2.out, HCB.out] | rw [HW2.out] | fail)
  try rw [HCB.out]
  refine HRET.out.mono ?_
  rintro e w2 ⟨ca, cc, rfl, hown, hb2⟩
  have HFIN : Hid (CloneN (subL pc n) (subL pc n).length w (.returned (.slice ca rn cc)) w2) := by
    have el : (subL pc n).length = rn := by rw [subL_len]; exact HRN.out
    unfold CloneN
    rw [el]
    exact ⟨ca, cc, rfl, ownsRow_mono hown HBB.out.size, HBB.out.trans (hb2.mono HBB.out.size)⟩
  clear hown hb2 HRET
  go_wp2_with fail
  go_ret
  exact HFIN.out

end Go.Proofs.YtodihpnnajlkdaaDoor

namespace Go.Proofs.YtodihpnnajlkdaaDoor
open Go.RowKit
set_option linter.unusedVariables false

set_option maxRecDepth 100000 in
set_option maxHeartbeats 2000000 in
/-- **onlyKept's closure.** -/
theorem okC_one (l : List Ins) (ks : List Bool) (a ka : Option Addr) (n c kc b1 b2 q : Nat) (w : World) (hq : q < n) (hn : l.length = n) (hkl : ks.length = n) (hcap : n ≤ c) (hm : n ≤ 400)
    (h1 : w.cell? ⟨b1, 0, none⟩ = some (.slice ka n kc)) (h2 : w.cell? ⟨b2, 0, none⟩ = some (.slice a n c)) (h : NAt w (fun b => b < w.heap.size) l a) (hk : BAt w (fun b => b < w.heap.size) ks ka) :
    Calls Tryd.prog 91 #[.int .i64 (q : Int), .pointer (some ⟨b1, 0, none⟩), .pointer (some ⟨b2, 0, none⟩)] w (PcA (pcK l ks q) w) := by
  obtain ⟨x, hx⟩ : ∃ x, l[q]? = some x := ⟨l[q]'(by omega), List.getElem?_eq_getElem _⟩
  obtain ⟨bb, hbb⟩ : ∃ bb, ks[q]? = some bb := ⟨ks[q]'(by omega), List.getElem?_eq_getElem _⟩
  obtain ⟨b, o, rfl, hbl, e0, e1, e2, e3, e4⟩ := h.2 q x hx
  obtain ⟨b', o', rfl, hbl', f0⟩ := hk.2 q bb hbb
  cases bb
  case false =>
    have HFIN : Hid (PcA (pcK l ks q) w (.returned (.slice none 0 0)) w) := by
      rw [pcK_f hbb]
      exact ⟨none, 0, rfl, ⟨Nat.zero_le _, fun i x hx => by simp at hx⟩, Below.refl _ _⟩
    clear h hk hx hbb e0 e1 e2 e3 e4 hn hkl
    go_enter Tryd.func91, Tryd.ntmps91
    go_wp2_with fail
    go_ret
    exact HFIN.out
  case true =>
    have HFIN : Hid (PcA (pcK l ks q) w (.returned (.slice (some ⟨b, o + q * 5, none⟩) 1 (c - q))) w) := by
      rw [pcK_t hx hbb]
      refine ⟨some ⟨b, o + q * 5, none⟩, c - q, rfl, ⟨by unfold maxLen; simp, fun i y hy => ?_⟩, Below.refl _ _⟩
      have hi : i = 0 := by
        have := (List.getElem?_eq_some_iff.1 hy).1
        simpa using this
      subst hi
      simp at hy
      subst hy
      exact ⟨b, o + q * 5, rfl, hbl, by simpa using e0, by simpa using e1, by simpa using e2, by simpa using e3, by simpa using e4⟩
    have n1 : ¬ c = q := by omega
    have n2 : ¬ q = c := by omega
    clear h hk hx hbb e0 e1 e2 e3 e4 hn hkl
    go_enter Tryd.func91, Tryd.ntmps91
    go_wp2_with fail
    go_ret
    exact HFIN.out

set_option maxRecDepth 100000 in
set_option maxHeartbeats 8000000 in
/-- **onlyKept.** -/
theorem onlyK_one (l : List Ins) (ks : List Bool) (a ka : Option Addr) (n c kc : Nat) (w : World) (h : NAt w (fun b => b < w.heap.size) l a) (hn : l.length = n) (hok : Okc l) (hk : BAt w (fun b => b < w.heap.size) ks ka) (hkl : ks.length = n) (hcap : n ≤ c) :
    Calls Tryd.prog 73 #[.slice a n c, .slice ka n kc] w (CloneN (trimK l ks) (trimK l ks).length w) := by
  have hle := hok.le
  rw [hn] at hle
  obtain ⟨W, hW⟩ : ∃ W, (w.alloc (.cells #[.slice a n c] 28)).alloc (.cells #[.slice ka n kc] 54) = W := ⟨_, rfl⟩
  have hB : Below w.heap.size w W := by rw [← hW]; exact ((Below.refl _ w).alloc (Nat.le_refl _) _).alloc (by simp) _
  have hz : W.heap.size = w.heap.size + 2 := by rw [← hW]; simp
  have hx : W.heap[w.heap.size]? = some (.cells #[.slice a n c] 28 (0, 0)) := by
    rw [← hW, Below.heap_alloc _ _ _ (by simp)]; exact heap_alloc_new w _
  have hy : W.heap[w.heap.size + 1]? = some (.cells #[.slice ka n kc] 54 (0, 0)) := by
    have h1 := heap_alloc_new (w.alloc (.cells #[.slice a n c] 28)) (.cells #[.slice ka n kc] 54)
    rw [World.size_alloc] at h1
    rw [← hW]; exact h1
  have x0 : W.cell? ⟨w.heap.size, 0, none⟩ = some (.slice a n c) := by rw [cell_at hx]; rfl
  have HR := Lib.hid (subK_one (pcK l ks) a n c (w.heap.size + 1) w.heap.size W hle (pcK_le l ks) (fun q x hq hxq => by
      have hx' := pcK_mem hxq
      exact ⟨fun e => by have := hok.ja q x hx' e; rw [hn] at this; omega, fun e => by have := hok.jb q x hx' e; rw [hn] at this; omega⟩)
    fun v q hv hq => okC_one l ks a ka n c kc (w.heap.size + 1) w.heap.size q v hq hn hkl hcap hle
      (by rw [cell_at ((hv.block _ (by omega)).trans hy)]; rfl) (by rw [cell_at ((hv.block _ (by omega)).trans hx)]; rfl) ((h.below hB).below hv) ((hk.below hB).below hv))
  have HE : Hid (subL (pcK l ks) n = trimK l ks) := by
    show subL (pcK l ks) n = trimK l ks
    rw [← hn]; exact subL_K (by omega)
  have HW := Lib.hid hW
  have HB := Lib.hid hB
  clear h hn hok hk hkl hW hB hx hy
  go_enter Tryd.func73, Tryd.ntmps73
  go_wp2_with (first | rw [HW.out] | fail)
  refine HR.out.mono ?_
  rw [HE.out]
  rintro e w2 ⟨ca, cc, rfl, hown, hb2⟩
  obtain ⟨r, hr⟩ : ∃ r, (trimK l ks).length = r := ⟨_, rfl⟩
  have HFIN : Hid (CloneN (trimK l ks) (trimK l ks).length w (.returned (.slice ca r cc)) w2) := by
    rw [← hr]; exact ⟨ca, cc, rfl, ownsRow_mono hown HB.out.size, HB.out.trans (hb2.mono HB.out.size)⟩
  rw [hr]
  clear hown hb2 HR hr
  go_wp2_with fail
  go_ret
  exact HFIN.out

/-- The state of trimmed's loop. -/
def TmL (l : List Ins) (bs : List Bool) (n : Nat) (w : World) (i : Value) (wr : World) : Prop := ∃ (j : Nat) (ks : List Bool), j ≤ n ∧ i = .int .i64 (j : Int) ∧ KpTo l bs ks j ∧ wr.ownsRow w.heap.size 4 1 (.slice (some ⟨w.heap.size, 0, none⟩) n n) n (ks.map Value.bool) ∧ Below w.heap.size w wr

set_option maxRecDepth 100000 in
set_option maxHeartbeats 4000000 in
/-- **trimmed.** -/
theorem trimmed_one (l : List Ins) (a : Option Addr) (n c : Nat) (w : World) (h : NAt w (fun b => b < w.heap.size) l a) (hn : l.length = n) (hok : Okc l) (hcap : n ≤ c) :
    Calls Tryd.prog 48 #[.slice a n c] w (CloneN (trimL l) (trimL l).length w) := by
  have hle := hok.le
  rw [hn] at hle
  have HR := Lib.hid (reached_one l a n c w h hn hok)
  have HN := Lib.hid hn
  have HO := Lib.hid hok
  have HL : Hid (∀ v, Below w.heap.size w v → NAt v (fun b => b < v.heap.size) l a) := fun v hv => h.below hv
  clear h hn hok
  go_enter Tryd.func48, Tryd.ntmps48
  go_wp2_with fail
  refine HR.out.mono ?_
  rintro e w1 ⟨bs, rfl, hbs, hown, hb1⟩
  have HBS := Lib.hid hbs
  have HL0 : Hid (TmL l bs n w (.int .i64 0) w1) := ⟨0, bs, Nat.zero_le _, rfl, KpTo.start _ _, hown, hb1⟩
  clear hbs hown hb1 HR
  go_wp2_with fail
  go_loopw [10] (fun i wr => TmL l bs n w i wr) (fun i _ => n - (intOf i).toNat)
  case atStart => exact HL0.out
  case round =>
    obtain ⟨j, ks, hj, rfl, hk, hrow, hb⟩ := hrel
    have HK := Lib.hid hk
    have HROW := Lib.hid hrow
    have HB := Lib.hid hb
    clear hk hrow hb HL0
    by_cases hlt : j < n
    · obtain ⟨x, hx⟩ : ∃ x, l[j]? = some x := ⟨l[j]'(by rw [HN.out]; exact hlt), List.getElem?_eq_getElem _⟩
      obtain ⟨b, o, ha, hbl, r0, r1, r2, r3, r4⟩ := (HL.out wr HB.out).2 j x hx
      obtain ⟨V, hV⟩ : ∃ V, wr.alloc (.cells #[.int .i64 x.op, .int .i64 x.fa, .int .i64 x.fb, .int .i64 x.fc, .int .i64 x.fd] 46) = V := ⟨_, rfl⟩
      have hBV : Below wr.heap.size wr V := by rw [← hV]; exact (Below.refl _ _).alloc (Nat.le_refl _) _
      have hxV : V.heap[wr.heap.size]? = some (.cells #[.int .i64 x.op, .int .i64 x.fa, .int .i64 x.fb, .int .i64 x.fc, .int .i64 x.fd] 46 (0, 0)) := by rw [← hV]; exact heap_alloc_new wr _
      have y0 : V.cell? ⟨wr.heap.size, 0, none⟩ = some (.int .i64 x.op) := by rw [cell_at hxV]; rfl
      have y1 : V.cell? ⟨wr.heap.size, 1, none⟩ = some (.int .i64 x.fa) := by rw [cell_at hxV]; rfl
      have hrV := HROW.out.far5 (w' := V) (fun g e hl => hBV.block g hl)
      have HBV : Hid (Below w.heap.size w V) := HB.out.trans (hBV.mono HB.out.size)
      have HX := Lib.hid hx
      have HV := Lib.hid hV
      have HRV := Lib.hid hrV
      subst ha
      clear hx hV hBV hxV
      by_cases hs : skp x j = true
      · obtain ⟨⟨s0, hs0⟩, f0⟩ := ownsRow_cellx hrV j (by omega)
        have hst := (hrV.stored j (.bool false)).1
        rw [← List.map_set] at hst
        have HREL : Hid (TmL l bs n w (.int .i64 ((j : Int) + 1)) (V.setCell ⟨w.heap.size, j, none⟩ (.bool false))) := ⟨j + 1, ks.set j false, by omega, by go_num, HK.out.drop HX.out hs, hst, HBV.out.setCell (p := ⟨w.heap.size, j, none⟩) (Nat.le_refl _) _⟩
        have h8 : (x.op == 8) = true := by unfold skp at hs; simp only [Bool.and_eq_true] at hs; exact hs.1
        have h1 : (x.fa == (j : Int) + 1) = true := by unfold skp at hs; simp only [Bool.and_eq_true] at hs; exact hs.2
        clear hs hst hrV HROW HK
        go_wp2_with (first | rw [HV.out] | fail)
        go_roundw
        case rel => exact HREL.out
        case measure => simp [intOf]; omega
      · have hs' : skp x j = false := by simpa using hs
        have HREL : Hid (TmL l bs n w (.int .i64 ((j : Int) + 1)) V) := ⟨j + 1, ks, by omega, by go_num, HK.out.keep HX.out hs', HRV.out, HBV.out⟩
        by_cases h8 : (x.op == 8) = true
        · have h1 : (x.fa == (j : Int) + 1) = false := by unfold skp at hs'; rw [h8] at hs'; simpa using hs'
          clear hs hs' hrV HROW HK
          go_wp2_with (first | rw [HV.out] | fail)
          go_roundw
          case rel => exact HREL.out
          case measure => simp [intOf]; omega
        · have h8' : (x.op == 8) = false := by simpa using h8
          clear hs hs' h8 hrV HROW HK
          go_wp2_with (first | rw [HV.out] | fail)
          go_roundw
          case rel => exact HREL.out
          case measure => simp [intOf]; omega
    · obtain rfl : j = n := by omega
      have hbl : bs.length = j := HBS.out.1.trans HN.out
      have hks : ks = kpL l bs := HK.out.all (by omega)
      have hkl : ks.length = j := HK.out.1.trans hbl
      have hba : BAt wr (fun b => b < wr.heap.size) ks (some ⟨w.heap.size, 0, none⟩) := by
        have h1 : OwnB wr w.heap.size (.slice (some ⟨w.heap.size, 0, none⟩) j j) ks := by unfold OwnB; rw [hkl]; exact HROW.out
        exact h1.bat.2.2.2.wide (fun _ _ => rfl) fun q hq => hq.2
      have HOK := onlyK_one l ks a (some ⟨w.heap.size, 0, none⟩) j c j wr (HL.out wr HB.out) HN.out HO.out hba hkl hcap
      have etr : trimK l ks = trimL l := by unfold trimL; rw [rchL_eq HBS.out, hks]
      rw [etr] at HOK
      have HOK := Lib.hid HOK
      clear hbl hks hkl hba etr HROW HK
      go_wp2_with fail
      refine HOK.out.mono ?_
      rintro e w2 ⟨ca, cc, rfl, hown, hb2⟩
      have HFIN : Hid (CloneN (trimL l) (trimL l).length w (.returned (.slice ca (trimL l).length cc)) w2) := ⟨ca, cc, rfl, ownsRow_mono hown HB.out.size, HB.out.trans (hb2.mono HB.out.size)⟩
      clear hown hb2 HOK
      go_wp2_with fail
      go_ret
      exact HFIN.out

end Go.Proofs.YtodihpnnajlkdaaDoor

namespace Go.Proofs.YtodihpnnajlkdaaDoor
open Go.RowKit
set_option linter.unusedVariables false

theorem reT_fa {f : Nat → Nat} {x : Ins} (h : x.op = 8) : (reT f x).fa = (f x.fa.toNat : Int) := by rw [reT_8 h]
theorem reT_fb {f : Nat → Nat} {x : Ins} (h : x.op = 9 ∨ x.op = 10) : (reT f x).fb = (f x.fb.toNat : Int) := by rw [reT_9 (by omega) h]
/-- New targets within the list: code stays code. -/
theorem thrL_src {l : List Ins} {i : Nat} {y : Ins} (h : (thrL l)[i]? = some y) : ∃ x, l[i]? = some x ∧ y = reT (finL l) x := by
  unfold thrL at h
  rw [List.getElem?_map] at h
  cases hx : l[i]? with
  | none => rw [hx] at h; cases h
  | some x => rw [hx] at h; exact ⟨x, rfl, by injection h with h; exact h.symm⟩
theorem Okc.thr {l : List Ins} (h : Okc l) : Okc (thrL l) := by
  refine ⟨by rw [thrL_len]; exact h.pos, by rw [thrL_len]; exact h.le, fun i y hy e => ?_, fun i y hy e => ?_, fun i y hy e1 e2 => ?_⟩
  · obtain ⟨x, hx, rfl⟩ := thrL_src hy
    rw [reT_op] at e
    have := h.ja i x hx e
    rw [reT_fa e, thrL_len]
    have := finL_lt h (t := x.fa.toNat) (by omega)
    omega
  · obtain ⟨x, hx, rfl⟩ := thrL_src hy
    rw [reT_op] at e
    have := h.jb i x hx e
    rw [reT_fb e, thrL_len]
    have := finL_lt h (t := x.fb.toNat) (by omega)
    omega
  · obtain ⟨x, hx, rfl⟩ := thrL_src hy
    rw [reT_op] at e1 e2
    rw [thrL_len]
    exact h.nx i x hx e1 e2
theorem jB_thr (l : List Ins) (t : Nat) : jB (thrL l) t = jB l t := by
  cases hx : l[t]? with
  | none => unfold jB; rw [hx, show (thrL l)[t]? = none by unfold thrL; rw [List.getElem?_map, hx]; rfl]
  | some x => rw [jB_at hx, jB_at (thrL_at hx), reT_op]
/-- Jumps without an end. -/
theorem inf_of {l : List Ins} (h : Okc l) {t : Nat} (ht : t < l.length) (hj : jB l (chase l l.length t) = true) (k : Nat) : jB l (chase l k t) = true := by
  cases hq : jB l (chase l k t)
  · exfalso
    obtain ⟨i, j, h1, h2, h3⟩ := pigeon l.length (fun i => chase l i t) fun i _ => chase_lt h i ht
    have hper : ∀ m : Nat, chase l (i + m * (j - i)) t = chase l i t := fun m => by
      induction m with
      | zero => simp
      | succ m ih =>
        have e1 : i + (m + 1) * (j - i) = j + m * (j - i) := by rw [Nat.succ_mul]; omega
        rw [e1, chase_add, ← h3, ← chase_add, ih]
    have hbig : k ≤ i + k * (j - i) := by
      have : k * 1 ≤ k * (j - i) := Nat.mul_le_mul_left k (by omega)
      omega
    have hs := chase_stay hq (i + k * (j - i) - k)
    rw [show k + (i + k * (j - i) - k) = i + k * (j - i) by omega, hper k] at hs
    have hi : jB l (chase l i t) = false := by rw [hs]; exact hq
    have hn := chase_stay hi (l.length - i)
    rw [show i + (l.length - i) = l.length by omega] at hn
    rw [hn, hi] at hj
    cases hj
  · rfl
theorem finL_idem {l : List Ins} (h : Okc l) {t : Nat} (ht : t < l.length) : finL (thrL l) (finL l t) = finL l t := by
  by_cases hj : jB l (chase l l.length t) = true
  · rw [finL_go hj]
    have hinf := inf_of h ht hj
    have hch : ∀ k, chase (thrL l) k t = chase l k t := fun k => by
      induction k with
      | zero => rfl
      | succ k ih =>
        have hp := hinf k
        have hpl := chase_lt h k ht
        obtain ⟨x, hx⟩ : ∃ x, l[chase l k t]? = some x := ⟨_, List.getElem?_eq_getElem hpl⟩
        have h8 : x.op = 8 := by rw [jB_at hx] at hp; simpa using hp
        show nxJ (thrL l) (chase (thrL l) k t) = nxJ l (chase l k t)
        rw [ih, nxJ_at (thrL_at hx) (by rw [reT_op]; exact h8), nxJ_at hx h8, reT_fa h8]
        have e1 : x.fa.toNat = chase l (k + 1) t := (nxJ_at hx h8).symm
        have hg : finL l (x.fa.toNat) = x.fa.toNat := finL_go (by rw [e1, ← chase_add]; exact hinf _)
        rw [hg]; exact Int.toNat_natCast _
    exact finL_go (by rw [jB_thr, hch]; exact hinf _)
  · have hj' : jB l (chase l l.length t) = false := by simpa using hj
    rw [finL_stop (Nat.le_refl _) hj']
    exact finL_stop (k := 0) (Nat.zero_le _) (by rw [jB_thr]; exact hj')
/-- Threaded code is not changed by threading. -/
theorem thrL_idem {l : List Ins} (h : Okc l) : thrL (thrL l) = thrL l := by
  apply List.ext_getElem?
  intro i
  cases hx : l[i]? with
  | none =>
    have e1 : (thrL l)[i]? = none := by unfold thrL; rw [List.getElem?_map, hx]; rfl
    rw [e1]; unfold thrL at e1 ⊢; rw [List.getElem?_map, e1]; rfl
  | some x =>
    rw [thrL_at (thrL_at hx), thrL_at hx]
    congr 1
    by_cases h8 : x.op = 8
    · have := h.ja i x hx h8
      rw [reT_8 (x := reT (finL l) x) (by rw [reT_op]; exact h8), reT_fa h8, reT_8 h8]
      simp [finL_idem h (t := x.fa.toNat) (by omega)]
    · by_cases h9 : x.op = 9 ∨ x.op = 10
      · have := h.jb i x hx h9
        rw [reT_9 (x := reT (finL l) x) (by rw [reT_op]; exact h8) (by rw [reT_op]; exact h9), reT_fb h9, reT_9 h8 h9]
        simp [finL_idem h (t := x.fb.toNat) (by omega)]
      · rw [reT_n h8 h9, reT_n h8 h9]

/-! ### Trimmed code -/
theorem isR_ex (l : List Ins) (h : Okc l) : ∃ bs, IsR l bs := by
  refine ⟨(List.range l.length).map fun i => @decide (Rch l i) (Classical.propDecidable _), by simp, fun i => ?_⟩
  by_cases hi : i < l.length
  · rw [List.getElem?_map, List.getElem?_range hi]
    simp
  · rw [List.getElem?_eq_none (by simp; omega)]
    exact ⟨fun e => (by cases e), fun e => absurd (Rch.lt h e) hi⟩
theorem trimL_le (l : List Ins) : (trimL l).length ≤ l.length := by
  by_cases h : ∃ bs, IsR l bs
  · obtain ⟨bs, hb⟩ := h
    exact trimL_len hb
  · have e : rchL l = [] := by unfold rchL; rw [dif_neg h]
    unfold trimL trimK
    rw [e, show kpL l [] = [] from rfl]
    cases l <;> simp [keptL]
theorem numF_tot (ks : List Bool) (i : Nat) : numF ks i ≤ cntT ks := by
  have h := cntT_app (ks.take i) (ks.drop i)
  rw [List.take_append_drop] at h
  unfold numF; omega
theorem all_true : ∀ {ks : List Bool}, cntT ks = ks.length → ks = List.replicate ks.length true
  | [], _ => rfl
  | true :: ks, h => by
    simp only [cntT, List.length_cons] at h
    rw [List.length_cons, List.replicate_succ, ← all_true (ks := ks) (by omega)]
  | false :: ks, h => by
    simp only [cntT, List.length_cons] at h
    have := cntT_le ks
    omega
theorem keptL_all : ∀ (xs : List Ins), keptL xs (List.replicate xs.length true) = xs
  | [] => rfl
  | x :: xs => by rw [List.length_cons, List.replicate_succ, keptL, keptL_all xs]
theorem cntT_rep : ∀ n, cntT (List.replicate n true) = n
  | 0 => rfl
  | n + 1 => by rw [List.replicate_succ, cntT, cntT_rep n]
theorem numF_all {n i : Nat} (h : i ≤ n) : numF (List.replicate n true) i = i := by
  unfold numF
  rw [List.take_replicate, cntT_rep]; omega
/-- If nothing has gone, nothing has changed. -/
theorem trimL_same {l : List Ins} (h : Okc l) (hl : (trimL l).length = l.length) : trimL l = l := by
  obtain ⟨bs, hb⟩ := isR_ex l h
  have hr := rchL_eq hb
  have hkl : (kpL l bs).length = l.length := by rw [kpL_len, hb.1]
  unfold trimL trimK at hl ⊢
  rw [hr] at hl ⊢
  rw [List.length_map, keptL_len _ _ hkl.symm] at hl
  have e := all_true (ks := kpL l bs) (by rw [hl, hkl])
  rw [hkl] at e
  rw [e, keptL_all]
  apply List.ext_getElem?
  intro i
  rw [List.getElem?_map]
  cases hx : l[i]? with
  | none => rfl
  | some x =>
    show some (reT _ x) = some x
    congr 1
    by_cases h8 : x.op = 8
    · have := h.ja i x hx h8
      rw [reT_8 h8, numF_all (by omega)]
      have e2 : ((x.fa.toNat : Nat) : Int) = x.fa := by omega
      rw [e2]
    · by_cases h9 : x.op = 9 ∨ x.op = 10
      · have := h.jb i x hx h9
        rw [reT_9 h8 h9, numF_all (by omega)]
        have e2 : ((x.fb.toNat : Nat) : Int) = x.fb := by omega
        rw [e2]
      · rw [reT_n h8 h9]
theorem kpL_at {l : List Ins} {bs : List Bool} {i : Nat} (hi : i < bs.length) : (kpL l bs)[i]? = some (bs.getD i false && !skAt l i) := by
  unfold kpL; rw [List.getElem?_map, List.getElem?_range hi]; rfl
/-- What is reached has a kept instruction at or behind it. -/
theorem rch_num {l : List Ins} (h : Okc l) {bs : List Bool} (hb : IsR l bs) : ∀ (d t : Nat), l.length - t ≤ d → Rch l t → numF (kpL l bs) t < cntT (kpL l bs)
  | 0, t, hd, hr => by have := hr.lt h; omega
  | d + 1, t, hd, hr => by
    have ht := hr.lt h
    have hbt := (hb.2 t).2 hr
    have hk := kpL_at (l := l) (bs := bs) (i := t) (by rw [hb.1]; exact ht)
    have hg : bs.getD t false = true := by rw [List.getD_eq_getElem?_getD, hbt]; rfl
    obtain ⟨x, hx⟩ : ∃ x, l[t]? = some x := ⟨_, List.getElem?_eq_getElem ht⟩
    rw [hg, skAt_at hx] at hk
    cases hs : skp x t
    · rw [hs] at hk
      have h1 := numF_t (ks := kpL l bs) (i := t) (by simpa using hk)
      have h2 := numF_tot (kpL l bs) (t + 1)
      omega
    · rw [hs] at hk
      have h1 := numF_f (ks := kpL l bs) (i := t) (by simpa using hk)
      unfold skp at hs
      simp only [Bool.and_eq_true, beq_iff_eq] at hs
      have hr1 : Rch l (t + 1) := Rch.step hr hx (by unfold folN; rw [if_pos hs.1]; simp; omega)
      have h2 := rch_num h hb d (t + 1) (by omega) hr1
      omega
theorem keptL_src : ∀ (xs : List Ins) (bs : List Bool) (p : Nat) (x : Ins), (keptL xs bs)[p]? = some x → ∃ i, xs[i]? = some x ∧ bs[i]? = some true ∧ numF bs i = p
  | y :: xs, true :: bs, 0, x, h => ⟨0, by simpa [keptL] using h, rfl, rfl⟩
  | y :: xs, true :: bs, p + 1, x, h => by
    obtain ⟨i, h1, h2, h3⟩ := keptL_src xs bs p x (by simpa [keptL] using h)
    exact ⟨i + 1, by simpa using h1, by simpa using h2, by unfold numF at h3 ⊢; rw [List.take_succ_cons, cntT, h3]⟩
  | y :: xs, false :: bs, p, x, h => by
    obtain ⟨i, h1, h2, h3⟩ := keptL_src xs bs p x (by simpa [keptL] using h)
    exact ⟨i + 1, by simpa using h1, by simpa using h2, by unfold numF at h3 ⊢; rw [List.take_succ_cons, cntT, h3]⟩
  | [], _, _, x, h => by simp [keptL] at h
  | _ :: _, [], _, x, h => by simp [keptL] at h
/-- Trimmed code is code. -/
theorem Okc.trim {l : List Ins} (h : Okc l) : Okc (trimL l) := by
  obtain ⟨bs, hb⟩ := isR_ex l h
  have hr := rchL_eq hb
  have hkl : (kpL l bs).length = l.length := by rw [kpL_len, hb.1]
  have hlen : (trimL l).length = cntT (kpL l bs) := by unfold trimL trimK; rw [hr, List.length_map, keptL_len _ _ hkl.symm]
  have hnum : ∀ t, Rch l t → numF (kpL l bs) t < cntT (kpL l bs) := fun t ht => rch_num h hb _ t (Nat.le_refl _) ht
  have hsrc : ∀ (p : Nat) (y : Ins), (trimL l)[p]? = some y → ∃ i x, l[i]? = some x ∧ (kpL l bs)[i]? = some true ∧ Rch l i ∧ numF (kpL l bs) i = p ∧ y = reT (numF (kpL l bs)) x := fun p y hy => by
    unfold trimL trimK at hy
    rw [hr, List.getElem?_map] at hy
    cases hx : (keptL l (kpL l bs))[p]? with
    | none => rw [hx] at hy; cases hy
    | some x =>
      rw [hx] at hy
      obtain ⟨i, h1, h2, h3⟩ := keptL_src _ _ p x hx
      have hi := (List.getElem?_eq_some_iff.1 h1).1
      have hk := kpL_at (l := l) (bs := bs) (i := i) (by rw [hb.1]; exact hi)
      rw [h2] at hk
      injection hk with hk
      have hg : bs.getD i false = true := by
        cases hq : bs.getD i false
        · rw [hq] at hk; simp at hk
        · rfl
      have hbi : bs[i]? = some true := by
        rw [List.getD_eq_getElem?_getD] at hg
        have hil : i < bs.length := by rw [hb.1]; exact hi
        rw [List.getElem?_eq_getElem hil] at hg ⊢
        simpa using hg
      exact ⟨i, x, h1, h2, (hb.2 i).1 hbi, h3, by injection hy with hy; exact hy.symm⟩
  refine ⟨?_, ?_, fun p y hy e => ?_, fun p y hy e => ?_, fun p y hy e1 e2 => ?_⟩
  · have := hnum 0 Rch.zero; omega
  · have := trimL_le l; have := h.le; omega
  · obtain ⟨i, x, hx, hk, hri, _, rfl⟩ := hsrc p y hy
    rw [reT_op] at e
    have := h.ja i x hx e
    have := hnum x.fa.toNat (Rch.step hri hx (by unfold folN; rw [if_pos e]; simp))
    rw [reT_fa e]; omega
  · obtain ⟨i, x, hx, hk, hri, _, rfl⟩ := hsrc p y hy
    rw [reT_op] at e
    have := h.jb i x hx e
    have := hnum x.fb.toNat (Rch.step hri hx (by unfold folN; rw [if_neg (by omega), if_pos e]; simp))
    rw [reT_fb e]; omega
  · obtain ⟨i, x, hx, hk, hri, hp, rfl⟩ := hsrc p y hy
    rw [reT_op] at e1 e2
    have h1 := numF_t hk
    have := hnum (i + 1) (Rch.step hri hx (by
      unfold folN
      rw [if_neg e1]
      split
      · simp
      · first | (simp; done) | (rw [if_neg e2]; simp)))
    omega

/-! ### Rounds -/
noncomputable def rdL (l : List Ins) : List Ins := trimL (thrL l)
theorem Okc.rd {l : List Ins} (h : Okc l) : Okc (rdL l) := h.thr.trim
theorem rdL_le (l : List Ins) : (rdL l).length ≤ l.length := by have := trimL_le (thrL l); rw [thrL_len] at this; exact this
noncomputable def itL (l : List Ins) : Nat → List Ins
  | 0 => l
  | n + 1 => rdL (itL l n)
theorem itL_le (l : List Ins) : ∀ n, (itL l n).length ≤ l.length
  | 0 => Nat.le_refl _
  | n + 1 => Nat.le_trans (rdL_le _) (itL_le l n)
theorem itL_ok {l : List Ins} (h : Okc l) : ∀ n, Okc (itL l n)
  | 0 => h
  | n + 1 => (itL_ok h n).rd
/-- How far it is to the end. -/
noncomputable def msL (l : List Ins) : Nat := 2 * l.length + @ite _ (thrL l = l) (Classical.propDecidable _) 0 1
theorem msL_lt {l : List Ins} (h : Okc l) (hne : rdL l ≠ l) : msL (rdL l) < msL l := by
  have h0 := rdL_le l
  have hb : ∀ x : List Ins, 2 * x.length ≤ msL x ∧ msL x ≤ 2 * x.length + 1 := fun x => by
    unfold msL; split <;> omega
  have h1 := hb l
  have h2 := hb (rdL l)
  by_cases hl : (rdL l).length = l.length
  · have e : rdL l = thrL l := trimL_same h.thr (by unfold rdL at hl; rw [hl, thrL_len])
    have e1 : msL l = 2 * l.length + 1 := by unfold msL; rw [if_neg (by rw [← e]; exact hne)]
    have e2 : msL (rdL l) = 2 * (rdL l).length := by unfold msL; rw [if_pos (by rw [e]; exact thrL_idem h)]; rfl
    omega
  · omega
/-- The end: the first round that changes nothing. -/
def EndL (l r : List Ins) : Prop := ∃ n, r = itL l n ∧ rdL (itL l n) = itL l n ∧ ∀ i, i < n → rdL (itL l i) ≠ itL l i
theorem EndL.uniq {l r s : List Ins} (h : EndL l r) (h' : EndL l s) : r = s := by
  obtain ⟨n, rfl, h1, h2⟩ := h
  obtain ⟨k, rfl, h3, h4⟩ := h'
  have : n = k := by
    rcases Nat.lt_trichotomy n k with e | e | e
    · exact absurd h1 (h4 n e)
    · exact e
    · exact absurd h3 (h2 k e)
  rw [this]
noncomputable def optL (l : List Ins) : List Ins := @dite _ (∃ r, EndL l r) (Classical.propDecidable _) (fun h => Classical.choose h) (fun _ => [])
theorem optL_eq {l r : List Ins} (h : EndL l r) : optL l = r := by
  unfold optL
  have hex : ∃ r, EndL l r := ⟨r, h⟩
  rw [dif_pos hex]
  exact (Classical.choose_spec hex).uniq h
theorem optL_le (l : List Ins) : (optL l).length ≤ l.length := by
  unfold optL
  split
  · rename_i hex
    obtain ⟨n, e, _⟩ := Classical.choose_spec hex
    rw [e]; exact itL_le l n
  · exact Nat.zero_le _

end Go.Proofs.YtodihpnnajlkdaaDoor

namespace Go.Proofs.YtodihpnnajlkdaaDoor
open Go.RowKit
set_option linter.unusedVariables false

theorem Ans.yn {b : Bool} {w w' : World} {e : Ending} (h : Ans b w e w') : YN b w e w' := by
  obtain ⟨rfl, m, rfl⟩ := h
  exact ⟨rfl, ⟨(Below.refl w.heap.size w).os, (Below.refl w.heap.size w).tape, (Below.refl w.heap.size w).output, (Below.refl w.heap.size w).size, (Below.refl w.heap.size w).block⟩⟩

set_option maxHeartbeats 1000000 in
/-- spec.l2Ints. -/
theorem l2Ints_one (a a' : Option Addr) (n cap n' cap' : Nat) (xs ys : List Int) (w : World) (h : SliceI w a n xs) (h' : SliceI w a' n' ys) :
    Calls Tryd.prog 76 #[.slice a n cap, .slice a' n' cap'] w (Ans (eqL xs ys) w) := by
  obtain ⟨hm, hx, hc⟩ := h
  obtain ⟨hm', hy, hc'⟩ := h'
  unfold maxLen at hm hm'
  have HX := Lib.hid hx
  have HY := Lib.hid hy
  have HC := Lib.hid hc
  have HC' := Lib.hid hc'
  clear hx hy hc hc'
  by_cases hn : n = n'
  · subst hn
    go_enter Tryd.func76, Tryd.ntmps76
    go_wp2
    go_loopw [5] (fun i wr => ∃ k m : Nat, k ≤ n ∧ i = .int .i64 k ∧ EqUpto xs ys k ∧ wr = w.drewN m) (fun i _ => n - (intOf i).toNat)
    case atStart => exact ⟨0, 0, Nat.zero_le _, rfl, EqUpto.zero _ _, rfl⟩
    case round =>
      obtain ⟨k, m, hk, rfl, heq, rfl⟩ := hrel
      have HE := Lib.hid heq
      clear heq
      by_cases hlt : k < n
      · obtain ⟨b, o, rfl, hc⟩ := HC.out k hlt
        obtain ⟨b', o', rfl, hc'⟩ := HC'.out k hlt
        obtain ⟨x, hx⟩ : ∃ x, xs.getD k 0 = x := ⟨_, rfl⟩
        obtain ⟨y, hy⟩ : ∃ y, ys.getD k 0 = y := ⟨_, rfl⟩
        rw [hx] at hc
        rw [hy] at hc'
        have HXK := Lib.hid hx
        have HYK := Lib.hid hy
        clear hx hy HC HC'
        by_cases hxy : x = y
        · subst hxy
          go_wp2
          go_quiet (fail)
          go_wp2
          go_roundw
          case rel => exact ⟨k + 1, _, by omega, by go_num, HE.out.succ (HXK.out.trans HYK.out.symm), rfl⟩
          case measure => simp [intOf]; omega
        · have hne : (x != y) = true := by simpa using hxy
          go_wp2
          go_quiet (fail)
          go_wp2
          go_ret
          refine ⟨?_, _, drewN_drewN' _ _ _⟩
          have : eqL xs ys = false := by
            unfold eqL
            refine decide_eq_false fun e => hxy ?_
            rw [← HXK.out, ← HYK.out, e]
          rw [this]; rfl
      · have hkn : k = n := by omega
        have hall := (show EqUpto xs ys n from hkn ▸ HE.out).all HX.out HY.out
        have hL : eqL xs ys = true := decide_eq_true hall
        have HL := Lib.hid hL
        clear hL hall hkn
        go_wp2
        go_ret
        exact ⟨by rw [HL.out]; rfl, _, rfl⟩
  · have hne : ((n : Int) != (n' : Int)) = true := by simp; omega
    have hL : eqL xs ys = false := by
      unfold eqL
      refine decide_eq_false fun e => hn ?_
      rw [← HX.out, ← HY.out, e]
    have HL := Lib.hid hL
    clear hL
    go_enter Tryd.func76, Tryd.ntmps76
    go_wp2
    go_ret
    exact ⟨by rw [HL.out]; rfl, 0, rfl⟩
theorem l2I_one (a a' : Option Addr) (c c' : Nat) (xs ys : List Int) (w : World) {D D' : Nat → Prop} (h : IAt w D xs a) (h' : IAt w D' ys a') :
    Calls Tryd.prog 76 #[.slice a xs.length c, .slice a' ys.length c'] w (YN (decide (xs = ys)) w) :=
  (l2Ints_one a a' xs.length c ys.length c' xs ys w h.slice h'.slice).mono fun _ _ q => Ans.yn q

set_option maxHeartbeats 4000000 in
/-- slices.Equal at instructions. -/
theorem slEqIn_one (es fs : List Ins) (a a' : Option Addr) (cap cap' : Nat) (w : World) {D D' : Nat → Prop} (h : NAt w D es a) (h' : NAt w D' fs a') (hD : ∀ j, D j → j < w.heap.size) (hD' : ∀ j, D' j → j < w.heap.size) :
    Calls Tryd.prog 80 #[.slice a es.length cap, .slice a' fs.length cap'] w (YN (decide (es = fs)) w) := by
  have hc := h.1
  have hc' := h'.1
  unfold maxLen at hc hc'
  have H : Hid (∀ k, k < es.length → k < fs.length → ∃ x y b o b' o', es[k]? = some x ∧ fs[k]? = some y ∧ a = some ⟨b, o, none⟩ ∧ a' = some ⟨b', o', none⟩ ∧ b < w.heap.size ∧ b' < w.heap.size ∧
      w.cell? ⟨b, o + k * 5, none⟩ = some (.int .i64 x.op) ∧ w.cell? ⟨b, o + k * 5 + 1, none⟩ = some (.int .i64 x.fa) ∧ w.cell? ⟨b, o + k * 5 + 2, none⟩ = some (.int .i64 x.fb) ∧ w.cell? ⟨b, o + k * 5 + 3, none⟩ = some (.int .i64 x.fc) ∧ w.cell? ⟨b, o + k * 5 + 4, none⟩ = some (.int .i64 x.fd) ∧
      w.cell? ⟨b', o' + k * 5, none⟩ = some (.int .i64 y.op) ∧ w.cell? ⟨b', o' + k * 5 + 1, none⟩ = some (.int .i64 y.fa) ∧ w.cell? ⟨b', o' + k * 5 + 2, none⟩ = some (.int .i64 y.fb) ∧ w.cell? ⟨b', o' + k * 5 + 3, none⟩ = some (.int .i64 y.fc) ∧ w.cell? ⟨b', o' + k * 5 + 4, none⟩ = some (.int .i64 y.fd)) := fun k hk hk' => NAt.two h h' hk hk'
  clear h h'
  have HB : Hid (∀ m, Below w.heap.size w (w.drewN m)) := fun m => below_drewC (Below.refl _ w) m
  obtain ⟨n, hn⟩ : ∃ n, es.length = n := ⟨_, rfl⟩
  obtain ⟨n', hn'⟩ : ∃ n', fs.length = n' := ⟨_, rfl⟩
  have HN := Lib.hid hn
  have HN' := Lib.hid hn'
  rw [hn] at hc H ⊢
  rw [hn'] at hc' H ⊢
  clear hn hn'
  by_cases hnn : n = n'
  · subst hnn
    go_enter Tryd.func80, Tryd.ntmps80
    go_wp2
    go_loopw [13] (fun i wr => ∃ k m : Nat, k ≤ n ∧ i = .int .i64 k ∧ SameUp es fs k ∧ wr = w.drewN m) (fun i _ => n - (intOf i).toNat)
    case atStart => exact ⟨0, 0, Nat.zero_le _, rfl, fun j hj => absurd hj (Nat.not_lt_zero _), rfl⟩
    case round =>
      obtain ⟨k, m, hk, rfl, hS, rfl⟩ := hrel
      have HS := Lib.hid hS
      clear hS
      by_cases hlt : k < n
      · obtain ⟨x, y, b, o, b', o', hx, hy, rfl, rfl, _, _, d0, d1, d2, d3, d4, e0, e1, e2, e3, e4⟩ := H.out k (by omega) (by omega)
        have HX := Lib.hid hx
        have HY := Lib.hid hy
        clear hx hy H
        by_cases hxy : x = y
        · subst hxy
          have HS2 : Hid (SameUp es fs (k + 1)) := HS.out.succ (by rw [HX.out, HY.out])
          go_wp2
          go_quiet (fail)
          go_wp2
          go_roundw
          case rel => exact ⟨k + 1, _, by omega, by go_num, HS2.out, rfl⟩
          case measure => simp [intOf]; omega
        · have HNE : Hid (false = decide (es = fs)) := (decide_eq_false fun e => hxy (by have h1 := HX.out; rw [e, HY.out] at h1; cases h1; rfl)).symm
          rcases ins_neq hxy with h0 | ⟨h0, h1⟩ | ⟨h0, h1, h2⟩ | ⟨h0, h1, h2, h3⟩ | ⟨h0, h1, h2, h3, h4⟩
          all_goals
            clear hxy
            go_wp2
            go_quiet (fail)
            go_wp2
            go_ret
            exact YN.of HNE.out (below_drewC (HB.out _) _)
      · obtain rfl : k = n := by omega
        clear H
        have HE : Hid (true = decide (es = fs)) := (decide_eq_true (HS.out.all HN.out HN'.out)).symm
        go_wp2
        go_ret
        exact YN.of HE.out (HB.out _)
  · have hne : ((n : Int) != (n' : Int)) = true := by simp; omega
    have HNE : Hid (false = decide (es = fs)) := (decide_eq_false fun e => hnn (by rw [← HN.out, ← HN'.out, e])).symm
    clear H
    go_enter Tryd.func80, Tryd.ntmps80
    go_wp2
    go_ret
    exact YN.of HNE.out (Below.refl _ _)

set_option maxHeartbeats 8000000 in
/-- **spec.CodeSame.** -/
theorem sCS_one (m n : Cd) (k l : CK) (w : World) (h : CL w m k) (h' : CL w n l) :
    Calls Tryd.prog 50 #[aggC m k, aggC n l] w (YN (decide (m = n)) w) := by
  have hm := h.2.2.1
  have hm' := h'.2.2.1
  unfold maxLen at hm hm'
  have H : Hid (∀ v, Below w.heap.size w v → CL v m k ∧ CL v n l) := fun v hv => ⟨h.below hv, h'.below hv⟩
  clear h h'
  obtain ⟨hB, h0, h1, hz⟩ := two_codes (w := w) m n k l 30
  have HB := Lib.hid hB
  have HX := Lib.hid h0
  have HY := Lib.hid h1
  clear hB h0 h1
  obtain ⟨la, hla⟩ : ∃ la, m.list.length = la := ⟨_, rfl⟩
  obtain ⟨lb, hlb⟩ : ∃ lb, n.list.length = lb := ⟨_, rfl⟩
  have HLA := Lib.hid hla
  have HLB := Lib.hid hlb
  rw [hla] at hm
  rw [hlb] at hm'
  clear hla hlb
  go_enter Tryd.func50, Tryd.ntmps50
  go_wp2_with fail
  obtain ⟨W, hW⟩ : ∃ W, ((w.alloc (.cells (arrC m k) 30)).alloc (.cells (arrC n l) 30)) = W := ⟨_, rfl⟩
  unfold arrC at hW
  rw [hW] at HB HX HY hz ⊢
  clear hW
  obtain ⟨q1, q2⟩ := H.out W HB.out
  have Q1 := Lib.hid q1
  have Q2 := Lib.hid q2
  clear q1 q2
  by_cases hv : m.vars = n.vars
  case neg =>
    have HN : Hid (false = decide (m = n)) := (decide_eq_false fun e => hv (by rw [e])).symm
    have HQ : Hid (decide (m.vars = n.vars) = false) := decide_eq_false hv
    refine (l2I_one k.va l.va k.vc l.vc m.vars n.vars W Q1.out.1 Q2.out.1).mono ?_
    rintro e w2 ⟨rfl, hb2⟩
    rw [HQ.out]
    have HB2 := Lib.hid (HB.out.trans (hb2.mono HB.out.size))
    clear hb2
    go_wp2_with fail
    go_ret
    exact YN.of HN.out HB2.out
  case pos =>
  have HQ : Hid (decide (m.vars = n.vars) = true) := decide_eq_true hv
  have HV : Hid (m.vars = n.vars) := hv
  clear hv
  refine (l2I_one k.va l.va k.vc l.vc m.vars n.vars W Q1.out.1 Q2.out.1).mono ?_
  rintro e w2 ⟨rfl, hb2⟩
  rw [HQ.out]
  have HX2 := Lib.hid (HX.out.below hb2 HX.out.lt)
  have HY2 := Lib.hid (HY.out.below hb2 HY.out.lt)
  have y1 := HX2.out.c1
  have z1 := HY2.out.c1
  have HB2 := Lib.hid (HB.out.trans (hb2.mono HB.out.size))
  have R1 := Lib.hid (Q1.out.below hb2)
  have R2 := Lib.hid (Q2.out.below hb2)
  clear hb2 HX HY HB Q1 Q2
  by_cases ha : m.arrs = n.arrs
  case neg =>
    have HN : Hid (false = decide (m = n)) := (decide_eq_false fun e => ha (by rw [e])).symm
    have HQ : Hid (decide (m.arrs = n.arrs) = false) := decide_eq_false ha
    clear ha
    go_wp2_with fail
    refine (l2I_one k.aa l.aa k.ac l.ac m.arrs n.arrs w2 R1.out.2.1 R2.out.2.1).mono ?_
    rintro e w3 ⟨rfl, hb3⟩
    rw [HQ.out]
    have HB3 := Lib.hid (HB2.out.trans (hb3.mono HB2.out.size))
    clear hb3
    go_wp2_with fail
    go_ret
    exact YN.of HN.out HB3.out
  case pos =>
  have HQA : Hid (decide (m.arrs = n.arrs) = true) := decide_eq_true ha
  have HA : Hid (m.arrs = n.arrs) := ha
  clear ha
  go_wp2_with fail
  refine (l2I_one k.aa l.aa k.ac l.ac m.arrs n.arrs w2 R1.out.2.1 R2.out.2.1).mono ?_
  rintro e w3 ⟨rfl, hb3⟩
  rw [HQA.out]
  have hx3 := HX2.out.below hb3 HX2.out.lt
  have hy3 := HY2.out.below hb3 HY2.out.lt
  have y2 : w3.cell? ⟨w.heap.size, 2, none⟩ = some (.slice k.la la k.lc) := by rw [← HLA.out]; exact hx3.c2
  have z2 : w3.cell? ⟨w.heap.size + 1, 2, none⟩ = some (.slice l.la lb l.lc) := by rw [← HLB.out]; exact hy3.c2
  have HBX : Hid (∀ v, Below w3.heap.size w3 v → v.cell? ⟨w.heap.size, 2, none⟩ = some (.slice k.la la k.lc) ∧ v.cell? ⟨w.heap.size + 1, 2, none⟩ = some (.slice l.la lb l.lc)) := fun v hv => by
    rw [← HLA.out, ← HLB.out]
    exact ⟨(hx3.below hv hx3.lt).c2, (hy3.below hv hy3.lt).c2⟩
  have HB3 := Lib.hid (HB2.out.trans (hb3.mono HB2.out.size))
  have HT : Hid (∀ v, Below w3.heap.size w3 v → ∀ j, j < la → j < lb → ∃ x y b o b' o', m.list[j]? = some x ∧ n.list[j]? = some y ∧ k.la = some ⟨b, o, none⟩ ∧ l.la = some ⟨b', o', none⟩ ∧ b < v.heap.size ∧ b' < v.heap.size ∧
      v.cell? ⟨b, o + j * 5, none⟩ = some (.int .i64 x.op) ∧ v.cell? ⟨b, o + j * 5 + 1, none⟩ = some (.int .i64 x.fa) ∧ v.cell? ⟨b, o + j * 5 + 2, none⟩ = some (.int .i64 x.fb) ∧ v.cell? ⟨b, o + j * 5 + 3, none⟩ = some (.int .i64 x.fc) ∧ v.cell? ⟨b, o + j * 5 + 4, none⟩ = some (.int .i64 x.fd) ∧
      v.cell? ⟨b', o' + j * 5, none⟩ = some (.int .i64 y.op) ∧ v.cell? ⟨b', o' + j * 5 + 1, none⟩ = some (.int .i64 y.fa) ∧ v.cell? ⟨b', o' + j * 5 + 2, none⟩ = some (.int .i64 y.fb) ∧ v.cell? ⟨b', o' + j * 5 + 3, none⟩ = some (.int .i64 y.fc) ∧ v.cell? ⟨b', o' + j * 5 + 4, none⟩ = some (.int .i64 y.fd)) := fun v hv j hj hj' =>
    NAt.two ((R1.out.2.2.below hb3).below hv) ((R2.out.2.2.below hb3).below hv) (by rw [HLA.out]; exact hj) (by rw [HLB.out]; exact hj')
  clear hb3 hx3 hy3 y1 z1 HX2 HY2 HB2 R1 R2 H
  by_cases hne : la = lb
  case neg =>
    have hne' : ((la : Int) != (lb : Int)) = true := by simp; omega
    have HN : Hid (false = decide (m = n)) := (decide_eq_false fun e => hne (by rw [← HLA.out, ← HLB.out, e])).symm
    clear HT
    go_wp2_with fail
    go_ret
    exact YN.of HN.out HB3.out
  case pos =>
  subst hne
  go_wp2_with fail
  go_loopw [5] (fun i wr => ∃ j : Nat, j ≤ la ∧ i = .int .i64 j ∧ SameUp m.list n.list j ∧ Below w3.heap.size w3 wr) (fun i _ => la - (intOf i).toNat)
  case atStart => exact ⟨0, Nat.zero_le _, rfl, fun j hj => absurd hj (Nat.not_lt_zero _), Below.refl _ _⟩
  case round =>
    obtain ⟨j, hj, rfl, hS, hb⟩ := hrel
    have HS := Lib.hid hS
    have HBR := Lib.hid hb
    obtain ⟨y3, z3⟩ := HBX.out _ hb
    clear hS hb y2 z2
    by_cases hlt : j < la
    · obtain ⟨x, y, b, o, b', o', hx, hy, ha1, ha2, _, _, d0, d1, d2, d3, d4, e0, e1, e2, e3, e4⟩ := HT.out wr HBR.out j hlt hlt
      have HX2 := Lib.hid hx
      have HY2 := Lib.hid hy
      rw [ha1] at y3
      rw [ha2] at z3
      clear hx hy HT ha1 ha2
      by_cases hxy : x = y
      · have HS2 : Hid (SameUp m.list n.list (j + 1)) := HS.out.succ (by rw [HX2.out, HY2.out, hxy])
        subst hxy
        go_wp2_with fail
        go_quiet (fail)
        go_wp2_with fail
        go_roundw
        case rel => exact ⟨j + 1, by omega, by go_num, HS2.out, below_drewC HBR.out _⟩
        case measure => simp [intOf]; omega
      · have HN : Hid (false = decide (m = n)) := (decide_eq_false fun e => hxy (by have h1 := HX2.out; rw [e, HY2.out] at h1; cases h1; rfl)).symm
        rcases ins_neq hxy with h0 | ⟨h0, h1⟩ | ⟨h0, h1, h2⟩ | ⟨h0, h1, h2, h3⟩ | ⟨h0, h1, h2, h3, h4⟩
        all_goals
          clear hxy
          go_wp2_with fail
          go_quiet (fail)
          go_wp2_with fail
          go_ret
          exact YN.of HN.out (below_drewC (HB3.out.trans (HBR.out.mono HB3.out.size)) _)
    · obtain rfl : j = la := by omega
      have HN : Hid (true = decide (m = n)) := (decide_eq_true (Cd.ext' HV.out HA.out (HS.out.all HLA.out HLB.out))).symm
      clear HT
      go_wp2_with fail
      go_ret
      exact YN.of HN.out (HB3.out.trans (HBR.out.mono HB3.out.size))

end Go.Proofs.YtodihpnnajlkdaaDoor

namespace Go.Proofs.YtodihpnnajlkdaaDoor
open Go.RowKit
set_option linter.unusedVariables false

theorem CloneN.nat {w' : World} {xs : List Ins} {a : Option Addr} {n c : Nat} {base : Nat} (h : w'.ownsRow base 46 5 (.slice a n c) n (flatN xs)) (hn : xs.length = n) : NAt w' (fun b => b < w'.heap.size) xs a :=
  ((RowX.of h).nat hn).wide (fun _ _ => rfl) fun b hb => hb.2

set_option maxRecDepth 100000 in
set_option maxHeartbeats 2000000 in
/-- **optimized's closure**: one round. -/
theorem opt1_one (l : List Ins) (a : Option Addr) (n c : Nat) (w : World) (h : NAt w (fun b => b < w.heap.size) l a) (hn : l.length = n) (hok : Okc l) :
    Calls Tryd.prog 77 #[.slice a n c] w (CloneN (rdL l) (rdL l).length w) := by
  have H1 := Lib.hid (threaded_one l a n c w h hn hok)
  have HN := Lib.hid hn
  have HO := Lib.hid hok
  clear h hn hok
  go_enter Tryd.func77, Tryd.ntmps77
  go_wp2_with fail
  refine H1.out.mono ?_
  rintro e w1 ⟨a1, c1, rfl, hown, hb1⟩
  have H2 := Lib.hid (trimmed_one (thrL l) a1 n c1 w1 (CloneN.nat hown (by rw [thrL_len]; exact HN.out)) (by rw [thrL_len]; exact HN.out) HO.out.thr (ownsRow_cap hown))
  have HB1 := Lib.hid hb1
  clear hown hb1 H1
  go_wp2_with fail
  refine H2.out.mono ?_
  rintro e w2 ⟨a2, c2, rfl, hown2, hb2⟩
  have HFIN : Hid (CloneN (rdL l) (rdL l).length w (.returned (.slice a2 (trimL (thrL l)).length c2)) w2) := ⟨a2, c2, rfl, ownsRow_mono hown2 HB1.out.size, HB1.out.trans (hb2.mono HB1.out.size)⟩
  clear hown2 hb2 H2
  obtain ⟨r, hr⟩ : ∃ r, (trimL (thrL l)).length = r := ⟨_, rfl⟩
  rw [hr] at HFIN ⊢
  clear hr
  go_wp2_with fail
  go_ret
  exact HFIN.out

/-- The state of fixedPoint's loop, and its measure. -/
def FxR (l : List Ins) (w : World) (s : Value × World) (m : Nat) : Prop := ∃ (q : Nat) (a : Option Addr) (c : Nat), s.1 = .slice a (itL l q).length c ∧ NAt s.2 (fun b => b < s.2.heap.size) (itL l q) a ∧ (∀ i, i < q → rdL (itL l i) ≠ itL l i) ∧ Below w.heap.size w s.2 ∧ m = msL (itL l q)

set_option maxRecDepth 100000 in
set_option maxHeartbeats 4000000 in
/-- **fixedPoint** at slices.Equal and the round. -/
theorem fixed_one (l : List Ins) (a : Option Addr) (n c : Nat) (w : World) (h : NAt w (fun b => b < w.heap.size) l a) (hn : l.length = n) (hok : Okc l) :
    Calls Tryd.prog 79 #[.slice a n c, .func (.func 80) #[] #[], .func (.func 77) #[] #[]] w (CloneN (optL l) (optL l).length w) := by
  obtain ⟨mu, hmu⟩ := mu_ex (σ := Value × World) (FxR l w)
  have HMU := Lib.hid hmu
  have HO := Lib.hid hok
  have HL0 : Hid (∃ m, FxR l w (.slice a n c, w) m) := ⟨_, 0, a, c, by rw [← hn]; rfl, h, fun i hi => absurd hi (Nat.not_lt_zero _), Below.refl _ _, rfl⟩
  clear h hn hok hmu
  go_enter Tryd.func79, Tryd.ntmps79
  go_wp2_with fail
  go_loopw [0] (fun xv wr => ∃ m, FxR l w (xv, wr) m) (fun xv wr => mu (xv, wr))
  case atStart => exact HL0.out
  case round =>
    obtain ⟨⟨q, a1, c1, hv, hN, hne, hb, hm⟩, hmin⟩ := HMU.out (u0, wr) hrel
    simp only at hv hN hb
    have HBR := Lib.hid hb
    have HNE := Lib.hid hne
    have HNA := Lib.hid hN
    subst hv
    have HM := Lib.hid hm
    obtain ⟨y, hy⟩ : ∃ y, itL l q = y := ⟨_, rfl⟩
    obtain ⟨ny, hny⟩ : ∃ ny, y.length = ny := ⟨_, rfl⟩
    have HY := Lib.hid hy
    have HNY := Lib.hid hny
    have hoy : Okc y := by rw [← hy]; exact itL_ok HO.out q
    rw [hy] at HM HNA ⊢
    rw [hny] at HM ⊢
    have H1 := Lib.hid (opt1_one y a1 ny c1 wr HNA.out HNY.out hoy)
    have HOY := Lib.hid hoy
    clear hrel hmin hne hb hm hN hy hny hoy HL0
    go_wp2_with fail
    refine H1.out.mono ?_
    rintro e w1 ⟨b, cb, rfl, hown, hb1⟩
    obtain ⟨z, hz⟩ : ∃ z, rdL y = z := ⟨_, rfl⟩
    have HZ := Lib.hid hz
    rw [hz] at hown ⊢
    have hE := slEqIn_one y z a1 b c1 cb w1 (HNA.out.below hb1) (CloneN.nat hown rfl) (fun _ h => h) (fun _ h => h)
    rw [HNY.out] at hE
    obtain ⟨nz, hnz⟩ : ∃ nz, z.length = nz := ⟨_, rfl⟩
    have HNZ := Lib.hid hnz
    rw [hnz] at hE hown ⊢
    have HE := Lib.hid hE
    have HOWN := Lib.hid hown
    have HB1 := Lib.hid hb1
    clear H1 hown hb1 hE hz hnz
    go_wp2_with fail
    refine HE.out.mono ?_
    rintro e w2 ⟨rfl, hb2⟩
    have HO2 : Hid (w2.ownsRow wr.heap.size 46 5 (.slice b nz cb) nz (flatN z)) := HOWN.out.far5 fun g _ hl => hb2.block g hl
    have HB2 : Hid (Below w.heap.size w w2) := HBR.out.trans ((HB1.out.trans (hb2.mono HB1.out.size)).mono HBR.out.size)
    clear hb2 HE
    by_cases heq : z = y
    · have hD : decide (y = z) = true := decide_eq_true heq.symm
      rw [hD]
      have HFIN : Hid (CloneN (optL l) (optL l).length w (.returned (.slice b nz cb)) w2) := by
        have hopt : optL l = z := by
          rw [heq, ← HY.out]
          refine optL_eq ⟨q, rfl, ?_, HNE.out⟩
          rw [HY.out, HZ.out]; exact heq
        rw [hopt, HNZ.out]
        exact ⟨b, cb, rfl, ownsRow_mono HO2.out HBR.out.size, HB2.out⟩
      clear hD heq
      go_wp2_with fail
      go_ret
      exact HFIN.out
    · have hD : decide (y = z) = false := decide_eq_false fun e => heq e.symm
      rw [hD]
      have hrel' : FxR l w (.slice b nz cb, w2) (msL z) := by
        have e1 : itL l (q + 1) = z := by show rdL (itL l q) = z; rw [HY.out, HZ.out]
        refine ⟨q + 1, b, cb, by rw [e1, HNZ.out], by rw [e1]; exact CloneN.nat HO2.out HNZ.out, fun i hi => ?_, HB2.out, by rw [e1]⟩
        by_cases hiq : i = q
        · subst hiq; rw [HY.out, HZ.out]; exact heq
        · exact HNE.out i (by omega)
      have HREL : Hid (∃ m, FxR l w (.slice b nz cb, w2) m) := ⟨_, hrel'⟩
      have HLT : Hid (mu (.slice b nz cb, w2) < mu (.slice a1 ny c1, wr)) := by
        have h1 := (HMU.out _ HREL.out).2 _ hrel'
        have h2 := msL_lt HOY.out (by rw [HZ.out]; exact heq)
        rw [HZ.out] at h2
        have h3 := HM.out
        show mu (.slice b nz cb, w2) < mu (.slice a1 ny c1, wr)
        omega
      clear hD heq hrel'
      go_wp2_with fail
      go_roundw
      case rel => exact HREL.out
      case measure => exact HLT.out

set_option maxRecDepth 100000 in
set_option maxHeartbeats 2000000 in
/-- **optimized.** -/
theorem optimized_one (l : List Ins) (a : Option Addr) (n c : Nat) (w : World) (h : NAt w (fun b => b < w.heap.size) l a) (hn : l.length = n) (hok : Okc l) :
    Calls Tryd.prog 51 #[.slice a n c] w (CloneN (optL l) (optL l).length w) := by
  have H1 := Lib.hid (fixed_one l a n c w h hn hok)
  clear h hn hok
  go_enter Tryd.func51, Tryd.ntmps51
  go_wp2_with fail
  refine H1.out.mono ?_
  rintro e w1 ⟨b, cb, rfl, hown, hb1⟩
  obtain ⟨r, hr⟩ : ∃ r, (optL l).length = r := ⟨_, rfl⟩
  have HFIN : Hid (CloneN (optL l) (optL l).length w (.returned (.slice b r cb)) w1) := by
    rw [← hr]; exact ⟨b, cb, rfl, hown, hb1⟩
  rw [hr]
  clear hr hown hb1 H1
  go_wp2_with fail
  go_ret
  exact HFIN.out

end Go.Proofs.YtodihpnnajlkdaaDoor

namespace Go.Proofs.YtodihpnnajlkdaaDoor
open Go.RowKit
set_option linter.unusedVariables false

set_option maxRecDepth 100000 in
set_option maxHeartbeats 8000000 in
/-- **rewritten** at loop.example/constanttime/impl.optimized. -/
theorem rewOp_one (m : Cd) (k : CK) (w : World) (h : CL w m k) (hs : CSm m) (hT : TblF w)
    (hP : codeB m = true → ∀ v, Below w.heap.size w v → Calls Tryd.prog 51 #[.slice k.la m.list.length k.lc] v (CloneN (optL m.list) (optL m.list).length v)) :
    Calls Tryd.prog 41 #[aggC m k, .func (.func 51) #[] #[]] w (PassN optL m w) := by
  obtain ⟨hs1, hs2, hs3⟩ := hs
  obtain ⟨W, hW⟩ : ∃ W, (w.alloc (.cells (arrC m k) 30)).alloc (.cells #[.slice none 0 0, .slice none 0 0, .slice none 0 0] 30) = W := ⟨_, rfl⟩
  have hB : Below w.heap.size w W := by rw [← hW]; exact ((Below.refl _ w).alloc (Nat.le_refl _) _).alloc (by simp) _
  have hX : BoxC W w.heap.size m k := by rw [← hW]; exact (BoxC.new w m k _).later (Below.heap_alloc _ _ _ (by simp))
  have hE : W.heap[w.heap.size + 1]? = some (.cells #[.slice none 0 0, .slice none 0 0, .slice none 0 0] 30 (0, 0)) := by
    have e1 := heap_alloc_new (w.alloc (.cells (arrC m k) 30)) (.cells #[.slice none 0 0, .slice none 0 0, .slice none 0 0] 30)
    rw [World.size_alloc] at e1
    rw [← hW]; exact e1
  have hlw : w.heap.size + 1 < W.heap.size := (Array.getElem?_eq_some_iff.1 hE).1
  have HS : Hid (∀ v, Below W.heap.size W v → (v.cell? ⟨w.heap.size, 0, none⟩ = some (.slice k.va m.vars.length k.vc) ∧ v.cell? ⟨w.heap.size, 1, none⟩ = some (.slice k.aa m.arrs.length k.ac) ∧ v.cell? ⟨w.heap.size, 2, none⟩ = some (.slice k.la m.list.length k.lc))) := fun v hv => by
    have b := hX.below hv hX.lt
    exact ⟨b.c0, b.c1, b.c2⟩
  have HE : Hid (∀ v, Below W.heap.size W v → v.heap[w.heap.size + 1]? = some (.cells #[.slice none 0 0, .slice none 0 0, .slice none 0 0] 30 (0, 0))) := fun v hv => (hv.block _ hlw).trans hE
  have HCL : Hid (∀ v, Below W.heap.size W v → CL v m k) := fun v hv => (h.below hB).below hv
  have HCV : Hid (∀ v, Below W.heap.size W v → IAt v (fun b => b < v.heap.size) m.vars k.va) := fun v hv => (HCL.out v hv).1
  have HCA : Hid (∀ v, Below W.heap.size W v → IAt v (fun b => b < v.heap.size) m.arrs k.aa) := fun v hv => (HCL.out v hv).2.1
  have HV := Lib.hid (iCV_one m k W (h.below hB) (hT.below hB hT.lt))
  have HP : Hid (codeB m = true → ∀ v, Below W.heap.size W v → Calls Tryd.prog 51 #[.slice k.la m.list.length k.lc] v (CloneN (optL m.list) (optL m.list).length v)) := fun e v hv => hP e v (hB.trans (hv.mono hB.size))
  have HB := Lib.hid hB
  have HW := Lib.hid hW
  unfold arrC at HW
  obtain ⟨x0, x1, x2⟩ := HS.out W (Below.refl _ _)
  clear h hT hP hW hB hX hE
  go_enter Tryd.func41, Tryd.ntmps41
  go_wp2_with (first | rw [HW.out] | fail)
  refine HV.out.mono ?_
  rintro e w1 ⟨rfl, hb1⟩
  obtain ⟨q, hq⟩ : ∃ q, codeB m = q := ⟨_, rfl⟩
  have HQ := Lib.hid hq
  have HB1 := Lib.hid hb1
  rw [hq]
  clear hq hb1 HV x0 x1 x2
  cases q
  case false =>
    have hE1 := HE.out w1 HB1.out
    obtain ⟨r0, hr0⟩ := cell_ex hE1 0 (by simp)
    obtain ⟨r1, hr1⟩ := cell_ex hE1 1 (by simp)
    obtain ⟨r2, hr2⟩ := cell_ex hE1 2 (by simp)
    have f0 := frozen_at hE1 0
    have f1 := frozen_at hE1 1
    have f2 := frozen_at hE1 2
    have HFIN : Hid (PassN optL m w (.returned (.tuple #[.agg #[.slice none 0 0, .slice none 0 0, .slice none 0 0], .bool false])) (((w1.setCell ⟨w.heap.size + 1, 0, none⟩ (.slice none 0 0)).setCell ⟨w.heap.size + 1, 1, none⟩ (.slice none 0 0)).setCell ⟨w.heap.size + 1, 2, none⟩ (.slice none 0 0))) := by
      refine ⟨⟨[], [], []⟩, ⟨none, 0, none, 0, none, 0⟩, false, rfl, ⟨fun e => ?_, fun _ => ⟨rfl, rfl⟩⟩, OwnC.none _ _, ?_⟩
      · rw [HQ.out] at e; cases e
      · exact (((HB.out.trans (HB1.out.mono HB.out.size)).setCell (p := ⟨w.heap.size + 1, 0, none⟩) (by simp) _).setCell (p := ⟨w.heap.size + 1, 1, none⟩) (by simp) _).setCell (p := ⟨w.heap.size + 1, 2, none⟩) (by simp) _
    clear hE1
    go_wp2_with fail
    exact bodyPost_ret (v := .tuple #[.agg #[.slice none 0 0, .slice none 0 0, .slice none 0 0], .bool false]) (by simp [results, Tryd.f41, go_sem, hr0, hr1, hr2]) rfl HFIN.out
  case true =>
    have HP2 := Lib.hid (HP.out HQ.out)
    have HBD : Hid (Below W.heap.size W w1.drew) := HB1.out.drew
    have hS1 := HS.out w1 HB1.out
    have hS1d := HS.out w1.drew HBD.out
    go_wp2_with fail
    go_region_held3 (fun v => v.cell? ⟨w.heap.size, 0, none⟩ = some (.slice k.va m.vars.length k.vc) ∧ v.cell? ⟨w.heap.size, 1, none⟩ = some (.slice k.aa m.arrs.length k.ac) ∧ v.cell? ⟨w.heap.size, 2, none⟩ = some (.slice k.la m.list.length k.lc)) (first | (with_reducible assumption) | (with_reducible exact hS1) | (with_reducible exact hS1d))
      (first
      | (go_at_call 68; (with_reducible refine (cloneI_one m.vars k.va m.vars.length k.vc w1.drew (HCV.out _ HBD.out) rfl hs1).mono ?_)
         rintro f w2 ⟨va, vc, rfl, ho2, hb2⟩
         have hB2 : Below W.heap.size W w2 := HBD.out.trans (hb2.mono HBD.out.size)
         have hS2 := HS.out w2 hB2)
      | (go_at_call 68; (with_reducible refine (cloneI_one m.arrs k.aa m.arrs.length k.ac w2 (HCA.out _ hB2) rfl hs2).mono ?_)
         rintro f w3 ⟨aa, ac, rfl, ho3, hb3⟩
         have hB3 : Below W.heap.size W w3 := hB2.trans (hb3.mono hB2.size)
         have hS3 := HS.out w3 hB3)
      | (go_at_call 51; (with_reducible refine (HP2.out w3 hB3).mono ?_)
         rintro f w4 ⟨la, lc, rfl, ho4, hb4⟩
         have hB4 : Below W.heap.size W w4 := hB3.trans (hb4.mono hB3.size)
         have hS4 := HS.out w4 hB4
         have hR4 := HE.out w4 hB4
         obtain ⟨r0, hr0⟩ := cell_ex hR4 0 (by simp)
         obtain ⟨r1, hr1⟩ := cell_ex hR4 1 (by simp)
         obtain ⟨r2, hr2⟩ := cell_ex hR4 2 (by simp)
         have f0 := frozen_at hR4 0
         have f1 := frozen_at hR4 1
         have f2 := frozen_at hR4 2
         have hsP := facts_put3 (w := w4) (b := w.heap.size + 1) (.slice va m.vars.length vc) (.slice aa m.arrs.length ac) (.slice la (optL m.list).length lc) (show w.heap.size ≠ w.heap.size + 1 by omega) hS4)
      | fail)
    all_goals
      have HF : Hid (PassN optL m w (.returned (.tuple #[.agg #[.slice va m.vars.length vc, .slice aa m.arrs.length ac, .slice la (optL m.list).length lc], .bool true])) (((w4.setCell ⟨w.heap.size + 1, 0, none⟩ (.slice va m.vars.length vc)).setCell ⟨w.heap.size + 1, 1, none⟩ (.slice aa m.arrs.length ac)).setCell ⟨w.heap.size + 1, 2, none⟩ (.slice la (optL m.list).length lc))) := by
        have hoth : ∀ j, j ≠ w.heap.size + 1 → (((w4.setCell ⟨w.heap.size + 1, 0, none⟩ (.slice va m.vars.length vc)).setCell ⟨w.heap.size + 1, 1, none⟩ (.slice aa m.arrs.length ac)).setCell ⟨w.heap.size + 1, 2, none⟩ (.slice la (optL m.list).length lc)).heap[j]? = w4.heap[j]? := fun j hj => by
          rw [Below.heap_setCell _ _ _ _ (by simpa using hj), Below.heap_setCell _ _ _ _ (by simpa using hj), Below.heap_setCell _ _ _ _ (by simpa using hj)]
        have z1 := HBD.out.size
        have z2 := hb2.size
        have z3 := hb3.size
        refine ⟨⟨m.vars, m.arrs, optL m.list⟩, ⟨va, vc, aa, ac, la, lc⟩, true, rfl, ⟨fun _ => ⟨rfl, rfl⟩, fun e => by rw [HQ.out] at e; cases e⟩, ?_, ?_⟩
        · exact OwnC.three (w1 := w1.drew) (w2 := w2) (w3 := w3) (w4 := w4) (by omega) ho2 hb3 ho3 hb4 ho4 (fun j h1 => hoth j (by omega))
        · exact (((HB.out.trans (hB4.mono HB.out.size)).setCell (p := ⟨w.heap.size + 1, 0, none⟩) (by simp) _).setCell (p := ⟨w.heap.size + 1, 1, none⟩) (by simp) _).setCell (p := ⟨w.heap.size + 1, 2, none⟩) (by simp) _
      clear hS2 hS3 hS4 hsP ho2 ho3 ho4 hb2 hb3 hb4 hB2 hB3 hB4 hR4 hS1 hS1d HP HP2 HS HE HCL HCV HCA
      go_wp2_with fail
      exact bodyPost_ret (v := .tuple #[.agg #[.slice va m.vars.length vc, .slice aa m.arrs.length ac, .slice la (optL m.list).length lc], .bool true]) (by simp [results, Tryd.f41, go_sem, hr0, hr1, hr2]) rfl HF.out

set_option maxRecDepth 100000 in
set_option maxHeartbeats 4000000 in
/-- **loop.example/constanttime/impl.OptimizeCode.** -/
theorem iOp_one (m : Cd) (k : CK) (w : World) (h : CL w m k) (hs : CSm m) (hT : TblF w)
    (hP : codeB m = true → ∀ v, Below w.heap.size w v → Calls Tryd.prog 51 #[.slice k.la m.list.length k.lc] v (CloneN (optL m.list) (optL m.list).length v)) :
    Calls Tryd.prog 22 #[aggC m k] w (PassN optL m w) := by
  obtain ⟨W, hW⟩ : ∃ W, (w.alloc (.cells (arrC m k) 30)).alloc (.cells #[.slice none 0 0, .slice none 0 0, .slice none 0 0] 30) = W := ⟨_, rfl⟩
  have hB : Below w.heap.size w W := by rw [← hW]; exact ((Below.refl _ w).alloc (Nat.le_refl _) _).alloc (by simp) _
  have hX : BoxC W w.heap.size m k := by rw [← hW]; exact (BoxC.new w m k _).later (Below.heap_alloc _ _ _ (by simp))
  have hE : W.heap[w.heap.size + 1]? = some (.cells #[.slice none 0 0, .slice none 0 0, .slice none 0 0] 30 (0, 0)) := by
    have e1 := heap_alloc_new (w.alloc (.cells (arrC m k) 30)) (.cells #[.slice none 0 0, .slice none 0 0, .slice none 0 0] 30)
    rw [World.size_alloc] at e1
    rw [← hW]; exact e1
  have hlw : w.heap.size + 1 < W.heap.size := (Array.getElem?_eq_some_iff.1 hE).1
  have x0 := hX.c0
  have x1 := hX.c1
  have x2 := hX.c2
  have HR := Lib.hid (rewOp_one m k W (h.below hB) hs (hT.below hB hT.lt) fun e v hv => hP e v (hB.trans (hv.mono hB.size)))
  have HE := Lib.hid hE
  have HB := Lib.hid hB
  have HW := Lib.hid hW
  unfold arrC at HW
  clear h hs hT hP hW hB hX hE
  go_enter Tryd.func22, Tryd.ntmps22
  go_wp2_with (first | rw [HW.out] | fail)
  refine HR.out.mono ?_
  rintro e w1 ⟨m', k', b, rfl, hv, ho, hb1⟩
  have hE1 := (hb1.block _ hlw).trans HE.out
  obtain ⟨r0, hr0⟩ := cell_ex hE1 0 (by simp)
  obtain ⟨r1, hr1⟩ := cell_ex hE1 1 (by simp)
  obtain ⟨r2, hr2⟩ := cell_ex hE1 2 (by simp)
  have f0 := frozen_at hE1 0
  have f1 := frozen_at hE1 1
  have f2 := frozen_at hE1 2
  have HFIN : Hid (PassN optL m w (.returned (.tuple #[aggC m' k', .bool b])) (((w1.setCell ⟨w.heap.size + 1, 0, none⟩ (.slice k'.va m'.vars.length k'.vc)).setCell ⟨w.heap.size + 1, 1, none⟩ (.slice k'.aa m'.arrs.length k'.ac)).setCell ⟨w.heap.size + 1, 2, none⟩ (.slice k'.la m'.list.length k'.lc))) := by
    have hoth : ∀ j, j ≠ w.heap.size + 1 → (((w1.setCell ⟨w.heap.size + 1, 0, none⟩ (.slice k'.va m'.vars.length k'.vc)).setCell ⟨w.heap.size + 1, 1, none⟩ (.slice k'.aa m'.arrs.length k'.ac)).setCell ⟨w.heap.size + 1, 2, none⟩ (.slice k'.la m'.list.length k'.lc)).heap[j]? = w1.heap[j]? := fun j hj => by
      rw [Below.heap_setCell _ _ _ _ (by simpa using hj), Below.heap_setCell _ _ _ _ (by simpa using hj), Below.heap_setCell _ _ _ _ (by simpa using hj)]
    refine ⟨m', k', b, rfl, hv, ((ho.stand fun g h1 _ => hoth g (by omega)).mono HB.out.size), ?_⟩
    exact (((HB.out.trans (hb1.mono HB.out.size)).setCell (p := ⟨w.heap.size + 1, 0, none⟩) (by simp) _).setCell (p := ⟨w.heap.size + 1, 1, none⟩) (by simp) _).setCell (p := ⟨w.heap.size + 1, 2, none⟩) (by simp) _
  clear hE1 hv ho hb1 HR
  go_wp2_with fail
  exact bodyPost_ret (v := .tuple #[aggC m' k', .bool b]) (by simp [results, Tryd.f22, go_sem, hr0, hr1, hr2, aggC]) rfl HFIN.out

end Go.Proofs.YtodihpnnajlkdaaDoor

namespace Go.Proofs.YtodihpnnajlkdaaDoor
open Go.RowKit
set_option linter.unusedVariables false

/-- The state of the loop, and its measure. -/
def SpR (m : Cd) (w : World) (wr : World) (ms : Nat) : Prop := ∃ (q : Nat) (k : CK), wr.heap[w.heap.size]? = some (.cells #[.slice k.va m.vars.length k.vc, .slice k.aa m.arrs.length k.ac, .slice k.la (itL m.list q).length k.lc] 30 (0, 0)) ∧ CL wr ⟨m.vars, m.arrs, itL m.list q⟩ k ∧ (∀ i, i < q → rdL (itL m.list i) ≠ itL m.list i) ∧
  wr.heap[w.heap.size + 1]? = some (.cells #[.slice none 0 0, .slice none 0 0, .slice none 0 0] 30 (0, 0)) ∧ Below w.heap.size w wr ∧ ms = msL (itL m.list q)
theorem set3_oth (w : World) (b j : Nat) (n0 n1 n2 : Value) (h : j ≠ b) : (((w.setCell ⟨b, 0, none⟩ n0).setCell ⟨b, 1, none⟩ n1).setCell ⟨b, 2, none⟩ n2).heap[j]? = w.heap[j]? := by
  rw [Below.heap_setCell _ _ _ _ (by simpa using h), Below.heap_setCell _ _ _ _ (by simpa using h), Below.heap_setCell _ _ _ _ (by simpa using h)]
theorem set3_same {w : World} {b : Nat} {T : TypeId} {v0 v1 v2 : Value} (n0 n1 n2 : Value) (h : w.heap[b]? = some (.cells #[v0, v1, v2] T (0, 0))) : (((w.setCell ⟨b, 0, none⟩ n0).setCell ⟨b, 1, none⟩ n1).setCell ⟨b, 2, none⟩ n2).heap[b]? = some (.cells #[n0, n1, n2] T (0, 0)) := by
  rw [heap_setCell_same _ b 2 _ _ _ (heap_setCell_same _ b 1 _ _ _ (heap_setCell_same w b 0 _ _ n0 h))]; rfl
theorem cells3 {w : World} {b : Nat} {T : TypeId} {v0 v1 v2 : Value} (h : w.heap[b]? = some (.cells #[v0, v1, v2] T (0, 0))) : (w.cell? ⟨b, 0, none⟩ = some v0 ∧ w.cell? ⟨b, 1, none⟩ = some v1 ∧ w.cell? ⟨b, 2, none⟩ = some v2) ∧ w.frozen? ⟨b, 0, none⟩ = false ∧ w.frozen? ⟨b, 1, none⟩ = false ∧ w.frozen? ⟨b, 2, none⟩ = false :=
  ⟨⟨by rw [cell_at h]; rfl, by rw [cell_at h]; rfl, by rw [cell_at h]; rfl⟩, frozen_at h 0, frozen_at h 1, frozen_at h 2⟩

set_option maxRecDepth 100000 in
set_option maxHeartbeats 8000000 in
/-- **spec.OptimizeCode.** -/
theorem sOp_one (m : Cd) (k : CK) (w : World) (h : CL w m k) (hs : CSm m) :
    Calls Tryd.prog 21 #[aggC m k] w (PassN optL m w) := by
  obtain ⟨W, hW⟩ : ∃ W, (w.alloc (.cells (arrC m k) 30)).alloc (.cells #[.slice none 0 0, .slice none 0 0, .slice none 0 0] 30) = W := ⟨_, rfl⟩
  have hB : Below w.heap.size w W := by rw [← hW]; exact ((Below.refl _ w).alloc (Nat.le_refl _) _).alloc (by simp) _
  have hX : W.heap[w.heap.size]? = some (.cells #[.slice k.va m.vars.length k.vc, .slice k.aa m.arrs.length k.ac, .slice k.la m.list.length k.lc] 30 (0, 0)) := by
    rw [← hW]; exact (Below.heap_alloc _ _ _ (by simp)).trans (heap_alloc_new w _)
  have hE : W.heap[w.heap.size + 1]? = some (.cells #[.slice none 0 0, .slice none 0 0, .slice none 0 0] 30 (0, 0)) := by
    have e1 := heap_alloc_new (w.alloc (.cells (arrC m k) 30)) (.cells #[.slice none 0 0, .slice none 0 0, .slice none 0 0] 30)
    rw [World.size_alloc] at e1
    rw [← hW]; exact e1
  have hlw : w.heap.size + 1 < W.heap.size := (Array.getElem?_eq_some_iff.1 hE).1
  have HFX : Hid (∀ v, Below W.heap.size W v → v.heap[w.heap.size]? = some (.cells #[.slice k.va m.vars.length k.vc, .slice k.aa m.arrs.length k.ac, .slice k.la m.list.length k.lc] 30 (0, 0)) ∧ v.heap[w.heap.size + 1]? = some (.cells #[.slice none 0 0, .slice none 0 0, .slice none 0 0] 30 (0, 0)) ∧ CL v m k) := fun v hv => ⟨(hv.block _ (by omega)).trans hX, (hv.block _ hlw).trans hE, (h.below hB).below hv⟩
  have HV := Lib.hid (sCV_one m k W (h.below hB))
  have HS := Lib.hid hs
  have HB := Lib.hid hB
  have HW := Lib.hid hW
  unfold arrC at HW
  obtain ⟨⟨x0, x1, x2⟩, _⟩ := cells3 hX
  obtain ⟨mu, hmu⟩ := mu_ex (σ := World) (SpR m w)
  have HMU := Lib.hid hmu
  clear h hs hW hB hX hE hmu
  go_enter Tryd.func21, Tryd.ntmps21
  go_wp2_with (first | rw [HW.out] | fail)
  refine HV.out.mono ?_
  rintro e w1 ⟨rfl, hb1⟩
  obtain ⟨q, hq⟩ : ∃ q, codeB m = q := ⟨_, rfl⟩
  have HQ := Lib.hid hq
  have HB1 := Lib.hid hb1
  rw [hq]
  clear hq hb1 HV x0 x1 x2
  cases q
  case false =>
    have hE1 := (HFX.out w1 HB1.out).2.1
    obtain ⟨⟨r0, r1, r2⟩, f0, f1, f2⟩ := cells3 hE1
    have HFIN : Hid (PassN optL m w (.returned (.tuple #[.agg #[.slice none 0 0, .slice none 0 0, .slice none 0 0], .bool false])) (((w1.setCell ⟨w.heap.size + 1, 0, none⟩ (.slice none 0 0)).setCell ⟨w.heap.size + 1, 1, none⟩ (.slice none 0 0)).setCell ⟨w.heap.size + 1, 2, none⟩ (.slice none 0 0))) := by
      refine ⟨⟨[], [], []⟩, ⟨none, 0, none, 0, none, 0⟩, false, rfl, ⟨fun e => ?_, fun _ => ⟨rfl, rfl⟩⟩, OwnC.none _ _, ?_⟩
      · rw [HQ.out] at e; cases e
      · exact (((HB.out.trans (HB1.out.mono HB.out.size)).setCell (p := ⟨w.heap.size + 1, 0, none⟩) (by simp) _).setCell (p := ⟨w.heap.size + 1, 1, none⟩) (by simp) _).setCell (p := ⟨w.heap.size + 1, 2, none⟩) (by simp) _
    clear hE1
    go_wp2_with fail
    exact bodyPost_ret (v := .tuple #[.agg #[.slice none 0 0, .slice none 0 0, .slice none 0 0], .bool false]) (by simp [results, Tryd.f21, go_sem, r0, r1, r2]) rfl HFIN.out
  case true =>
    have HOK : Hid (Okc m.list) := codeB_ok HQ.out
    have HL0 : Hid (∃ ms, SpR m w w1 ms) := by
      obtain ⟨a1, a2, a3⟩ := HFX.out w1 HB1.out
      exact ⟨_, 0, k, a1, a3, fun i hi => absurd hi (Nat.not_lt_zero _), a2, HB.out.trans (HB1.out.mono HB.out.size), rfl⟩
    clear HFX HW HB HB1
    go_wp2_with fail
    go_loopw [4] (fun z wr => ∃ ms, SpR m w wr ms) (fun z wr => mu wr)
    case atStart => exact HL0.out
    case round =>
      obtain ⟨⟨q, kq, hbx, hcl, hne, hrs, hb, hm⟩, hmin⟩ := HMU.out wr hrel
      obtain ⟨y, hy⟩ : ∃ y, itL m.list q = y := ⟨_, rfl⟩
      have hoy : Okc y := by rw [← hy]; exact itL_ok HOK.out q
      rw [hy] at hbx hcl hm
      obtain ⟨ny, hny⟩ : ∃ ny, y.length = ny := ⟨_, rfl⟩
      have hsy : CSm ⟨m.vars, m.arrs, y⟩ := ⟨HS.out.1, HS.out.2.1, by have := hoy.le; show y.length ≤ 1048576; omega⟩
      have hst : CSm ⟨m.vars, m.arrs, thrL y⟩ := ⟨HS.out.1, HS.out.2.1, by have := hoy.le; show (thrL y).length ≤ 1048576; rw [thrL_len]; omega⟩
      have H1 : Calls Tryd.prog 49 #[.agg #[.slice kq.va m.vars.length kq.vc, .slice kq.aa m.arrs.length kq.ac, .slice kq.la ny kq.lc]] wr (CopyCO ⟨m.vars, m.arrs, thrL y⟩ wr) := by
        have h9 := l8Thr_one ⟨m.vars, m.arrs, y⟩ kq wr hcl hsy hoy
        unfold aggC at h9
        rw [← hny]; exact h9
      rw [hny] at hbx
      have HBX := Lib.hid hbx
      have HCL := Lib.hid hcl
      have HNE := Lib.hid hne
      have HRS := Lib.hid hrs
      have HBR := Lib.hid hb
      have HM := Lib.hid hm
      have HY := Lib.hid hy
      have HNY := Lib.hid hny
      have HOY := Lib.hid hoy
      have HST := Lib.hid hst
      have H1 := Lib.hid H1
      have hlr : w.heap.size + 1 < wr.heap.size := (Array.getElem?_eq_some_iff.1 hrs).1
      obtain ⟨⟨x0, x1, x2⟩, _⟩ := cells3 hbx
      clear hrel hmin hbx hcl hne hrs hb hm hy hny hoy hsy hst HL0
      go_wp2_with fail
      refine H1.out.mono ?_
      rintro e w2 ⟨k1, rfl, ho1, hb2⟩
      have H2 := l8Trim_one ⟨m.vars, m.arrs, thrL y⟩ k1 w2 ho1.cl HST.out HOY.out.thr
      have H2' : Calls Tryd.prog 47 #[.agg #[.slice k1.va m.vars.length k1.vc, .slice k1.aa m.arrs.length k1.ac, .slice k1.la (thrL y).length k1.lc]] w2 (CopyCO ⟨m.vars, m.arrs, rdL y⟩ w2) := H2
      have H2 := Lib.hid H2'
      have HB2 : Hid (Below wr.heap.size wr w2) := hb2
      clear H1 H2' ho1 hb2 x0 x1 x2
      go_wp2_with fail
      refine H2.out.mono ?_
      rintro e w3 ⟨k2, rfl, ho2, hb3⟩
      obtain ⟨W4, hW4⟩ : ∃ W4, w3.alloc (.cells #[.slice k2.va m.vars.length k2.vc, .slice k2.aa m.arrs.length k2.ac, .slice k2.la (rdL y).length k2.lc] 30) = W4 := ⟨_, rfl⟩
      have hb34 : Below w3.heap.size w3 W4 := by rw [← hW4]; exact (Below.refl _ _).alloc (Nat.le_refl _) _
      have hN4 : W4.heap[w3.heap.size]? = some (.cells #[.slice k2.va m.vars.length k2.vc, .slice k2.aa m.arrs.length k2.ac, .slice k2.la (rdL y).length k2.lc] 30 (0, 0)) := by rw [← hW4]; exact heap_alloc_new w3 _
      have hl4 : w3.heap.size < W4.heap.size := (Array.getElem?_eq_some_iff.1 hN4).1
      have hs2 := HB2.out.size
      have hs3 := hb3.size
      have HB4 : Hid (Below wr.heap.size wr W4) := HB2.out.trans ((hb3.trans (hb34.mono hs3)).mono hs2)
      have HO4 : Hid (OwnC W4 w2.heap.size ⟨m.vars, m.arrs, rdL y⟩ k2) := ho2.stand fun g _ hg => hb34.block g hg
      have hE := sCS_one ⟨m.vars, m.arrs, rdL y⟩ ⟨m.vars, m.arrs, y⟩ k2 kq W4 HO4.out.cl (HCL.out.below HB4.out)
      have hE' : Calls Tryd.prog 50 #[.agg #[.slice k2.va m.vars.length k2.vc, .slice k2.aa m.arrs.length k2.ac, .slice k2.la (rdL y).length k2.lc], .agg #[.slice kq.va m.vars.length kq.vc, .slice kq.aa m.arrs.length kq.ac, .slice kq.la ny kq.lc]] W4 (YN (decide ((⟨m.vars, m.arrs, rdL y⟩ : Cd) = ⟨m.vars, m.arrs, y⟩)) W4) := by
        rw [← HNY.out]; exact hE
      have HE := Lib.hid hE'
      have hb4 : W4.heap[w.heap.size]? = some (.cells #[.slice kq.va m.vars.length kq.vc, .slice kq.aa m.arrs.length kq.ac, .slice kq.la ny kq.lc] 30 (0, 0)) := (HB4.out.block _ (by omega)).trans HBX.out
      obtain ⟨⟨x0, x1, x2⟩, _⟩ := cells3 hb4
      obtain ⟨⟨n0, n1, n2⟩, _⟩ := cells3 hN4
      have HN4 := Lib.hid hN4
      have HW4 := Lib.hid hW4
      clear hW4 hb34 hN4 hE hE' hb4 ho2 hb3 H2
      go_wp2_with (first | rw [HW4.out] | fail)
      try rw [HW4.out]
      refine HE.out.mono ?_
      rintro e w5 ⟨rfl, hb5⟩
      have HB5 : Hid (Below wr.heap.size wr w5) := HB4.out.trans (hb5.mono HB4.out.size)
      have HO5 : Hid (OwnC w5 w2.heap.size ⟨m.vars, m.arrs, rdL y⟩ k2) := HO4.out.stand fun g _ hg => hb5.block g hg
      have hN5 := (hb5.block _ hl4).trans HN4.out
      have hR5 := (HB5.out.block _ hlr).trans HRS.out
      have hX5 := (HB5.out.block w.heap.size (by omega)).trans HBX.out
      have hs4 := HB4.out.size
      have hs5 := hb5.size
      obtain ⟨⟨n0, n1, n2⟩, _⟩ := cells3 hN5
      have HBW : Hid (Below w.heap.size w w5) := HBR.out.trans (HB5.out.mono HBR.out.size)
      have HR5 := Lib.hid hR5
      have HX5 := Lib.hid hX5
      clear hb5 hN5 HE HN4 HO4 x0 x1 x2 HW4
      by_cases heq : rdL y = y
      · have hD : decide ((⟨m.vars, m.arrs, rdL y⟩ : Cd) = ⟨m.vars, m.arrs, y⟩) = true := decide_eq_true (by rw [heq])
        rw [hD]
        have hopt : optL m.list = rdL y := by
          rw [heq, ← HY.out]
          refine optL_eq ⟨q, rfl, ?_, HNE.out⟩
          rw [HY.out]; exact heq
        obtain ⟨⟨r0, r1, r2⟩, f0, f1, f2⟩ := cells3 hR5
        have HFIN : Hid (PassN optL m w (.returned (.tuple #[.agg #[.slice k2.va m.vars.length k2.vc, .slice k2.aa m.arrs.length k2.ac, .slice k2.la (rdL y).length k2.lc], .bool true])) (((w5.setCell ⟨w.heap.size + 1, 0, none⟩ (.slice k2.va m.vars.length k2.vc)).setCell ⟨w.heap.size + 1, 1, none⟩ (.slice k2.aa m.arrs.length k2.ac)).setCell ⟨w.heap.size + 1, 2, none⟩ (.slice k2.la (rdL y).length k2.lc))) := by
          refine ⟨⟨m.vars, m.arrs, rdL y⟩, k2, true, rfl, ⟨fun _ => ⟨rfl, by rw [hopt]⟩, fun e => by rw [HQ.out] at e; cases e⟩, (HO5.out.stand fun g h1 _ => set3_oth _ _ _ _ _ _ (by omega)).mono (by have := HBR.out.size; omega), ?_⟩
          exact ((HBW.out.setCell (p := ⟨w.heap.size + 1, 0, none⟩) (by simp) _).setCell (p := ⟨w.heap.size + 1, 1, none⟩) (by simp) _).setCell (p := ⟨w.heap.size + 1, 2, none⟩) (by simp) _
        clear hD heq hopt hR5 hX5
        go_wp2_with fail
        exact bodyPost_ret (v := .tuple #[.agg #[.slice k2.va m.vars.length k2.vc, .slice k2.aa m.arrs.length k2.ac, .slice k2.la (rdL y).length k2.lc], .bool true]) (by simp [results, Tryd.f21, go_sem, r0, r1, r2]) rfl HFIN.out
      · have hD : decide ((⟨m.vars, m.arrs, rdL y⟩ : Cd) = ⟨m.vars, m.arrs, y⟩) = false := decide_eq_false fun e => heq (by injection e)
        rw [hD]
        obtain ⟨⟨r0, r1, r2⟩, f0, f1, f2⟩ := cells3 hX5
        have hrel' : SpR m w (((w5.setCell ⟨w.heap.size, 0, none⟩ (.slice k2.va m.vars.length k2.vc)).setCell ⟨w.heap.size, 1, none⟩ (.slice k2.aa m.arrs.length k2.ac)).setCell ⟨w.heap.size, 2, none⟩ (.slice k2.la (rdL y).length k2.lc)) (msL (rdL y)) := by
          have e1 : itL m.list (q + 1) = rdL y := by show rdL (itL m.list q) = rdL y; rw [HY.out]
          refine ⟨q + 1, k2, ?_, ?_, fun i hi => ?_, ?_, ?_, by rw [e1]⟩
          · rw [e1]; exact set3_same _ _ _ hX5
          · rw [e1]; exact (HO5.out.stand fun g h1 _ => set3_oth _ _ _ _ _ _ (by omega)).cl
          · by_cases hiq : i = q
            · subst hiq; rw [HY.out]; exact heq
            · exact HNE.out i (by omega)
          · rw [set3_oth _ _ _ _ _ _ (by omega)]; exact hR5
          · exact ((HBW.out.setCell (p := ⟨w.heap.size, 0, none⟩) (by simp) _).setCell (p := ⟨w.heap.size, 1, none⟩) (by simp) _).setCell (p := ⟨w.heap.size, 2, none⟩) (by simp) _
        have HREL : Hid (∃ ms, SpR m w (((w5.setCell ⟨w.heap.size, 0, none⟩ (.slice k2.va m.vars.length k2.vc)).setCell ⟨w.heap.size, 1, none⟩ (.slice k2.aa m.arrs.length k2.ac)).setCell ⟨w.heap.size, 2, none⟩ (.slice k2.la (rdL y).length k2.lc)) ms) := ⟨_, hrel'⟩
        have HLT : Hid (mu (((w5.setCell ⟨w.heap.size, 0, none⟩ (.slice k2.va m.vars.length k2.vc)).setCell ⟨w.heap.size, 1, none⟩ (.slice k2.aa m.arrs.length k2.ac)).setCell ⟨w.heap.size, 2, none⟩ (.slice k2.la (rdL y).length k2.lc)) < mu wr) := by
          have h1 := (HMU.out _ HREL.out).2 _ hrel'
          have h2 := msL_lt HOY.out heq
          have h3 := HM.out
          show mu (((w5.setCell ⟨w.heap.size, 0, none⟩ (.slice k2.va m.vars.length k2.vc)).setCell ⟨w.heap.size, 1, none⟩ (.slice k2.aa m.arrs.length k2.ac)).setCell ⟨w.heap.size, 2, none⟩ (.slice k2.la (rdL y).length k2.lc)) < mu wr
          omega
        clear hD heq hrel' hR5 hX5
        go_wp2_with fail
        go_roundw
        case rel => exact HREL.out
        case measure => exact HLT.out

end Go.Proofs.YtodihpnnajlkdaaDoor

namespace Go.Proofs.YtodihpnnajlkdaaDoor
open Go.RowKit
set_option linter.unusedVariables false

set_option maxRecDepth 100000 in
set_option maxHeartbeats 16000000 in
theorem law_FnExactOptimizeCode' (m : Cd) (k : CK) (w : World) (hT : TblF w) (hg : 0 < w.heap.size) (h : CL w m k)
    (hgl : codeB m = true → (optL m.list).length ≤ 1048576)
    (hSp : ∀ v k', CL v m k' → CSm m → Calls Tryd.prog 21 #[aggC m k'] v (PassN optL m v))
    (hIm : ∀ v k', CL v m k' → CSm m → TblF v → Calls Tryd.prog 22 #[aggC m k'] v (PassN optL m v)) :
    Calls Tryd.prog 7 #[aggC m k] w (YN true w) := by
  have HSP := Lib.hid hSp
  have HIM := Lib.hid hIm
  have HGL := Lib.hid hgl
  have HM : Hid (∀ v, Below w.heap.size w v → CL v m k) := fun v hv => h.below hv
  have HT : Hid (∀ v, Below w.heap.size w v → TblF v) := fun v hv => hT.below hv hg
  clear h hT hg hSp hIm hgl
  have HB := Lib.hid ((Below.refl w.heap.size w).alloc (Nat.le_refl _) (.cells (arrC m k) 25))
  have HX := Lib.hid (BoxC.new w m k 25)
  go_enter Tryd.func7, Tryd.ntmps7
  go_wp2_with fail
  obtain ⟨W, hW⟩ : ∃ W, (w.alloc (.cells (arrC m k) 25)) = W := ⟨_, rfl⟩
  unfold arrC at hW
  rw [hW] at HB HX ⊢
  clear hW
  refine (szC_one m k 1048576 W (HM.out _ HB.out) (by omega) (by omega)).mono ?_
  rintro f w1 ⟨v1, rfl, hv1, hs1, hb1⟩
  have HS1 := Lib.hid hs1
  have HB1 := Lib.hid (HB.out.trans (hb1.mono HB.out.size))
  have HX1 := Lib.hid (HX.out.below hb1 HX.out.lt)
  have hx1 := HX1.out.lt
  clear hs1 hb1 HX HB
  by_cases n1 : v1 < 0
  · go_wp2_with fail
    go_ret
    exact YN.of rfl HB1.out
  have HMS : Hid (CSm m) := HS1.out (by omega)
  have c0 := HX1.out.c0
  have c1 := HX1.out.c1
  have c2 := HX1.out.c2
  clear HS1
  -- the model's answer
  go_wp2_with fail
  refine (toC_one m k w1 (HM.out _ HB1.out) HMS.out).mono ?_
  rintro f u1 ⟨k1, rfl, hm1, hb1⟩
  have R1 := Lib.hid (HSP.out u1 k1 hm1 HMS.out)
  have HBu1 := Lib.hid hb1
  clear hm1 hb1 c0 c1 c2
  go_wp2_with fail
  refine R1.out.mono ?_
  rintro f u2' ⟨m0, kw, b0, rfl, hpv, hwo, hb2⟩
  have HPV := Lib.hid hpv
  have HMZ : Hid (CSm m0) := by
    have h1 := HMS.out
    cases hq : codeB m
    · rw [(hpv.2 hq).2]; exact ⟨Nat.zero_le _, Nat.zero_le _, Nat.zero_le _⟩
    · rw [(hpv.1 hq).2]; exact ⟨h1.1, h1.2.1, HGL.out hq⟩
  obtain ⟨u2, hu2⟩ : ∃ u2, u2'.alloc (.cells (arrC m0 kw) 30) = u2 := ⟨_, rfl⟩
  have hbu2 : Below u2'.heap.size u2' u2 := by rw [← hu2]; exact (Below.refl _ _).alloc (Nat.le_refl _) _
  have hXw : BoxC u2 u2'.heap.size m0 kw := by rw [← hu2]; exact BoxC.new _ _ _ _
  have hCw : CL u2 m0 kw := hwo.cl.below hbu2
  have hb12 : Below w1.heap.size w1 u2 := HBu1.out.trans ((hb2.trans (hbu2.mono hb2.size)).mono HBu1.out.size)
  have HBw : Hid (Below w.heap.size w u2) := HB1.out.trans (hb12.mono HB1.out.size)
  have HX2 : Hid (BoxC u2 w.heap.size m k) := HX1.out.below hb12 hx1
  obtain ⟨wb, hwb⟩ : ∃ wb, u2'.heap.size = wb := ⟨_, rfl⟩
  rw [hwb] at hXw
  have HS : Hid (∀ v, Below u2.heap.size u2 v → (v.cell? ⟨w.heap.size, 0, none⟩ = some (.slice k.va m.vars.length k.vc) ∧ v.cell? ⟨w.heap.size, 1, none⟩ = some (.slice k.aa m.arrs.length k.ac) ∧ v.cell? ⟨w.heap.size, 2, none⟩ = some (.slice k.la m.list.length k.lc)) ∧ (v.cell? ⟨wb, 0, none⟩ = some (.slice kw.va m0.vars.length kw.vc) ∧ v.cell? ⟨wb, 1, none⟩ = some (.slice kw.aa m0.arrs.length kw.ac) ∧ v.cell? ⟨wb, 2, none⟩ = some (.slice kw.la m0.list.length kw.lc)) ∧ CL v m k ∧ TblF v ∧ CL v m0 kw) := fun v hv => by
    have bx := HX2.out.below hv HX2.out.lt
    have bw := hXw.below hv hXw.lt
    have hb := HBw.out.trans (hv.mono HBw.out.size)
    exact ⟨⟨bx.c0, bx.c1, bx.c2⟩, ⟨bw.c0, bw.c1, bw.c2⟩, HM.out _ hb, HT.out _ hb, hCw.below hv⟩
  obtain ⟨⟨x0, x1, x2⟩, _⟩ := HS.out u2 (Below.refl _ _)
  have hs2 := HBw.out.size
  unfold arrC at hu2
  have HU2 := Lib.hid hu2
  have HWB := Lib.hid hwb
  clear R1 HBu1 HX1 hwo hpv hb2 HX2 HM HT HB1 hbu2 hXw hCw hb12 hu2 hwb
  -- the argument
  go_wp2_with (first | rw [HU2.out, HWB.out] | rw [HU2.out] | fail)
  try rw [HWB.out]
  refine (toCO_one m k u2 (HS.out _ (Below.refl _ _)).2.2.1 HMS.out).mono ?_
  rintro f u3 ⟨k2, rfl, ho3, hb3⟩
  obtain ⟨u4, hu4⟩ : ∃ u4, u3.alloc (.cells (arrC m k2) 30) = u4 := ⟨_, rfl⟩
  have hX4 : BoxC u4 u3.heap.size m k2 := by rw [← hu4]; exact BoxC.new _ _ _ _
  have hb34 : Below u3.heap.size u3 u4 := by rw [← hu4]; exact (Below.refl _ _).alloc (Nat.le_refl _) _
  have HO4 : Hid (OwnC u4 u2.heap.size m k2) := ho3.stand fun g _ hg => hb34.block g hg
  have hlt4 : u3.heap.size < u4.heap.size := hX4.lt
  have HB4 : Hid (Below u2.heap.size u2 u4) := hb3.trans (hb34.mono hb3.size)
  have LV := Lib.hid ho3.v.lt
  have LA := Lib.hid ho3.a.lt
  have LL := Lib.hid ho3.l.lt
  have g0 := hX4.c0
  have g1 := hX4.c1
  have g2 := hX4.c2
  have HX4 := Lib.hid hX4
  have hs3 := hb3.size
  have I4 := Lib.hid (HIM.out u4 k2 HO4.out.cl HMS.out (HS.out _ HB4.out).2.2.2.1)
  unfold arrC at hu4
  have HU4 := Lib.hid hu4
  clear ho3 hX4 hb34 hu4 hb3 x0 x1 x2
  go_wp2_with (first | rw [HU4.out] | fail)
  try rw [HU4.out]
  refine I4.out.mono ?_
  rintro f u5 ⟨m1, kg, b1, rfl, hpg, hgo, hb5⟩
  obtain ⟨e1, e2⟩ := hpg.uniq HPV.out
  subst e1 e2
  obtain ⟨u6, hu6⟩ : ∃ u6, u5.alloc (.cells (arrC m1 kg) 30) = u6 := ⟨_, rfl⟩
  have hX6 : BoxC u6 u5.heap.size m1 kg := by rw [← hu6]; exact BoxC.new _ _ _ _
  have hb56 : Below u5.heap.size u5 u6 := by rw [← hu6]; exact (Below.refl _ _).alloc (Nat.le_refl _) _
  have LGV := Lib.hid hgo.v.lt
  have LGA := Lib.hid hgo.a.lt
  have LGL := Lib.hid hgo.l.lt
  have HG6 : Hid (OwnC u6 u4.heap.size m1 kg) := hgo.stand fun g _ hg => hb56.block g hg
  have HB6 : Hid (Below u2.heap.size u2 u6) := HB4.out.trans ((hb5.trans (hb56.mono hb5.size)).mono HB4.out.size)
  have hb46 : Below u4.heap.size u4 u6 := hb5.trans (hb56.mono hb5.size)
  have HO6 : Hid (OwnC u6 u2.heap.size m k2) := HO4.out.stand fun g _ hg => hb46.block g hg
  have HX6 : Hid (BoxC u6 u3.heap.size m k2) := HX4.out.below hb46 hlt4
  have HXG6 := Lib.hid hX6
  have hs4 := HB4.out.size
  have hs5 := hb5.size
  have hlt6 : u5.heap.size < u6.heap.size := hX6.lt
  have y0 := hX6.c0
  have y1 := hX6.c1
  have y2 := hX6.c2
  obtain ⟨_, ⟨z0, z1, z2⟩, _⟩ := HS.out u6 HB6.out
  unfold arrC at hu6
  have HU6 := Lib.hid hu6
  have E6 := Lib.hid (eqC_same m1 kg kw u6 HG6.out.cl (HS.out _ HB6.out).2.2.2.2)
  clear hpg hgo hb5 g0 g1 g2 HX4 HO4 hX6 hb56 hb46 hu6 I4
  go_wp2_with (first | rw [HU6.out] | fail)
  try rw [HU6.out]
  refine E6.out.mono ?_
  rintro f u7 ⟨rfl, hb7⟩
  have HB7 : Hid (Below u2.heap.size u2 u7) := HB6.out.trans (hb7.mono HB6.out.size)
  have HG7 : Hid (OwnC u7 u4.heap.size m1 kg) := HG6.out.stand fun g _ hg => hb7.block g hg
  have HO7 : Hid (OwnC u7 u2.heap.size m k2) := HO6.out.stand fun g _ hg => hb7.block g hg
  have HX7 : Hid (BoxC u7 u3.heap.size m k2) := HX6.out.below hb7 HX6.out.lt
  have HXG7 : Hid (BoxC u7 u5.heap.size m1 kg) := HXG6.out.below hb7 hlt6
  have hs7 := hb7.size
  have HSQ : Hid (∀ v, Below u7.heap.size u7 v → v.cell? ⟨w.heap.size, 0, none⟩ = some (.slice k.va m.vars.length k.vc) ∧ v.cell? ⟨w.heap.size, 1, none⟩ = some (.slice k.aa m.arrs.length k.ac) ∧ v.cell? ⟨w.heap.size, 2, none⟩ = some (.slice k.la m.list.length k.lc) ∧ v.cell? ⟨u3.heap.size, 0, none⟩ = some (.slice k2.va m.vars.length k2.vc) ∧ v.cell? ⟨u3.heap.size, 1, none⟩ = some (.slice k2.aa m.arrs.length k2.ac) ∧ v.cell? ⟨u3.heap.size, 2, none⟩ = some (.slice k2.la m.list.length k2.lc)) := fun v hv => by
    obtain ⟨⟨f0, f1, f2⟩, _⟩ := HS.out v (HB7.out.trans (hv.mono HB7.out.size))
    have h := HX7.out.below hv HX7.out.lt
    exact ⟨f0, f1, f2, h.c0, h.c1, h.c2⟩
  obtain ⟨f0, f1, f2, q0, q1, q2⟩ := HSQ.out u7 (Below.refl _ _)
  have HWQ : Hid (∀ v, Below u7.heap.size u7 v → CL v m k) := fun v hv => (HS.out _ (HB7.out.trans (hv.mono HB7.out.size))).2.2.1
  have HC7 : Hid (CL u7 m k2) := HO7.out.cl
  have HBD7 : Hid (Below u7.heap.size u7 u7.drew) := (Below.refl _ _).drew
  clear hb7 HG6 HO6 HX6 HXG6 HB6 y0 y1 y2 z0 z1 z2 E6
  go_wp2_with fail
  go_region_held3 (fun v => v.cell? ⟨w.heap.size, 0, none⟩ = some (.slice k.va m.vars.length k.vc) ∧ v.cell? ⟨w.heap.size, 1, none⟩ = some (.slice k.aa m.arrs.length k.ac) ∧ v.cell? ⟨w.heap.size, 2, none⟩ = some (.slice k.la m.list.length k.lc) ∧ v.cell? ⟨u3.heap.size, 0, none⟩ = some (.slice k2.va m.vars.length k2.vc) ∧ v.cell? ⟨u3.heap.size, 1, none⟩ = some (.slice k2.aa m.arrs.length k2.ac) ∧ v.cell? ⟨u3.heap.size, 2, none⟩ = some (.slice k2.la m.list.length k2.lc)) (first | assumption | exact ⟨f0, f1, f2, q0, q1, q2⟩)
    (first
    | (go_at_call 10; (with_reducible refine (toC_one m k u7.drew (HWQ.out _ HBD7.out) HMS.out).mono ?_); rintro f u9 ⟨k3, rfl, hm3, hA⟩; have hA2 := HBD7.out.trans hA; have hS1 := HSQ.out _ hA2)
    | (go_at_call 12; (with_reducible refine (eqC_one m m k2 k3 u9 (HC7.out.below hA2) hm3).mono ?_); rintro f u8 ⟨rfl, hE⟩; rw [show decide (m = m) = true from decide_eq_true rfl]; have hB8 := hA2.trans (hE.mono hA2.size); have hS2 := HSQ.out _ hB8)
    | fail)
  have HB8 : Hid (Below u2.heap.size u2 u8) := HB7.out.trans (hB8.mono HB7.out.size)
  have HG8 : Hid (OwnC u8 u4.heap.size m1 kg) := HG7.out.stand fun g _ hg => hB8.block g hg
  have HO8 : Hid (OwnC u8 u2.heap.size m k2) := HO7.out.stand fun g _ hg => hB8.block g hg
  have HXG8 : Hid (BoxC u8 u5.heap.size m1 kg) := HXG7.out.below hB8 HXG7.out.lt
  obtain ⟨_, _, _, y0, y1, y2⟩ := hS2
  have hs8 := hB8.size
  clear hB8 hA hA2 hE hS1 q0 q1 q2 f0 f1 f2 HSQ HC7 HWQ HG7 HO7 HX7 HXG7 hm3 HBD7
  -- the marks of the argument
  have MC := Lib.hid (markC_one u2.heap.size m k2 1 u8 HO8.out HB8.out.size HMS.out (by omega) (by omega))
  go_wp2_with fail
  refine MC.out.mono ?_
  rintro f u9 ⟨rfl, _, hb9, hs9, hst9⟩
  have hout : ∀ g, u3.heap.size ≤ g → g < u8.heap.size → u9.heap[g]? = u8.heap[g]? := fun g hg hlt => hst9 g hlt (fun e => by have := LV.out g e; omega) (fun e => by have := LA.out g e; omega) (fun e => by have := LL.out g e; omega)
  have HG9 : Hid (OwnC u9 u4.heap.size m1 kg) := HG8.out.stand fun g hg hlt => hout g (by omega) hlt
  have HXG9 : Hid (BoxC u9 u5.heap.size m1 kg) := HXG8.out.later (hout _ (by omega) HXG8.out.lt)
  have HB9 : Hid (Below u2.heap.size u2 u9) := HB8.out.trans hb9
  obtain ⟨ke, hke⟩ : ∃ ke, mkEnd 1 m = ke := ⟨_, rfl⟩
  have hk1 : ¬ (ke < 0) := by rw [← hke]; unfold mkEnd; omega
  rw [hke]
  have E9 := Lib.hid (eqC_same m1 kg kw u9 HG9.out.cl (HS.out _ HB9.out).2.2.2.2)
  have v0 := HXG9.out.c0
  have v1' := HXG9.out.c1
  have v2 := HXG9.out.c2
  obtain ⟨_, ⟨z0, z1, z2⟩, _⟩ := HS.out u9 HB9.out
  clear hb9 hst9 hout MC HG8 HO8 HXG8 y0 y1 y2 hke
  go_wp2_with fail
  refine E9.out.mono ?_
  rintro f u10 ⟨rfl, hb10⟩
  have HG10 : Hid (OwnC u10 u4.heap.size m1 kg) := HG9.out.stand fun g _ hg => hb10.block g hg
  have HXG10 : Hid (BoxC u10 u5.heap.size m1 kg) := HXG9.out.below hb10 HXG9.out.lt
  have HB10 : Hid (Below u2.heap.size u2 u10) := HB9.out.trans (hb10.mono HB9.out.size)
  have hs10 := hb10.size
  have t0 := HXG10.out.c0
  have t1 := HXG10.out.c1
  have t2 := HXG10.out.c2
  clear hb10 E9 HG9 HXG9 v0 v1' v2 z0 z1 z2
  -- the marks of the answer
  have M10 := Lib.hid (markC_one u4.heap.size m1 kg 1 u10 HG10.out (by omega) HMZ.out (by omega) (by omega))
  go_wp2_with fail
  refine M10.out.mono ?_
  rintro f u11 ⟨rfl, hg11, hb11, hs11, hst11⟩
  have HG11 := Lib.hid hg11
  have HXG11 : Hid (BoxC u11 u5.heap.size m1 kg) := HXG10.out.later (hst11 _ HXG10.out.lt (fun e => by have := LGV.out _ e; omega) (fun e => by have := LGA.out _ e; omega) (fun e => by have := LGL.out _ e; omega))
  have HB11 : Hid (Below u2.heap.size u2 u11) := HB10.out.trans (hb11.mono hs4)
  have H11 := Lib.hid (heldC_one m1 kg 1 u11 HG11.out.cl HMZ.out (by omega) (by omega))
  obtain ⟨kf, hkf⟩ : ∃ kf, mkEnd 1 m1 = kf := ⟨_, rfl⟩
  have hk2 : ¬ (kf < 0) := by rw [← hkf]; unfold mkEnd; omega
  rw [hkf] at H11 ⊢
  have HKF := Lib.hid hkf
  have r0 := HXG11.out.c0
  have r1 := HXG11.out.c1
  have r2 := HXG11.out.c2
  clear hg11 hb11 hst11 M10 HG10 HXG10 t0 t1 t2 hkf
  go_wp2_with fail
  refine H11.out.mono ?_
  rintro f u12 ⟨rfl, hb12⟩
  have HG12 : Hid (OwnC u12 u4.heap.size (mkCd 1 m1) kg) := HG11.out.stand fun g _ hg => hb12.block g hg
  have HXG12 : Hid (BoxC u12 u5.heap.size m1 kg) := HXG11.out.below hb12 HXG11.out.lt
  have HB12 : Hid (Below u2.heap.size u2 u12) := HB11.out.trans (hb12.mono HB11.out.size)
  obtain ⟨⟨z0, z1, z2⟩, _⟩ := HS.out u12 HB12.out
  clear hb12 H11 HG11 HXG11 r0 r1 r2
  -- again
  have T12 := Lib.hid (toC_one m k u12 (HS.out _ HB12.out).2.2.1 HMS.out)
  go_wp2_with fail
  refine T12.out.mono ?_
  rintro f u13 ⟨k4, rfl, hm4, hb13⟩
  have HG13 : Hid (OwnC u13 u4.heap.size (mkCd 1 m1) kg) := HG12.out.stand fun g _ hg => hb13.block g hg
  have HXG13 : Hid (BoxC u13 u5.heap.size m1 kg) := HXG12.out.below hb13 HXG12.out.lt
  have HB13 : Hid (Below u2.heap.size u2 u13) := HB12.out.trans (hb13.mono HB12.out.size)
  have I13 := Lib.hid (HIM.out u13 k4 hm4 HMS.out (HS.out _ HB13.out).2.2.2.1)
  clear hm4 hb13 T12 HG12 HXG12 z0 z1 z2
  go_wp2_with fail
  refine I13.out.mono ?_
  rintro f u14 ⟨m2, kh, b2, rfl, hph, hho, hb14⟩
  obtain ⟨e1, e2⟩ := hph.uniq HPV.out
  subst e1 e2
  obtain ⟨u15, hu15⟩ : ∃ u15, u14.alloc (.cells (arrC m2 kh) 30) = u15 := ⟨_, rfl⟩
  have hXh : BoxC u15 u14.heap.size m2 kh := by rw [← hu15]; exact BoxC.new _ _ _ _
  have hb15 : Below u14.heap.size u14 u15 := by rw [← hu15]; exact (Below.refl _ _).alloc (Nat.le_refl _) _
  have hb135 : Below u13.heap.size u13 u15 := hb14.trans (hb15.mono hb14.size)
  have HG15 : Hid (OwnC u15 u4.heap.size (mkCd 1 m2) kg) := HG13.out.stand fun g _ hg => hb135.block g hg
  have HXG15 : Hid (BoxC u15 u5.heap.size m2 kg) := HXG13.out.below hb135 HXG13.out.lt
  have HB15 : Hid (Below u2.heap.size u2 u15) := HB13.out.trans (hb135.mono HB13.out.size)
  have E15 := Lib.hid (eqC_same m2 kh kw u15 (hho.cl.below hb15) (HS.out _ HB15.out).2.2.2.2)
  have y0 := hXh.c0
  have y1 := hXh.c1
  have y2 := hXh.c2
  obtain ⟨_, ⟨z0, z1, z2⟩, _⟩ := HS.out u15 HB15.out
  unfold arrC at hu15
  have HU15 := Lib.hid hu15
  clear hph hho hb14 hXh hb15 hb135 hu15 I13 HG13 HXG13
  go_wp2_with (first | rw [HU15.out] | fail)
  try rw [HU15.out]
  refine E15.out.mono ?_
  rintro f u16 ⟨rfl, hb16⟩
  have HG16 : Hid (OwnC u16 u4.heap.size (mkCd 1 m2) kg) := HG15.out.stand fun g _ hg => hb16.block g hg
  have HXG16 : Hid (BoxC u16 u5.heap.size m2 kg) := HXG15.out.below hb16 HXG15.out.lt
  have HB16 : Hid (Below u2.heap.size u2 u16) := HB15.out.trans (hb16.mono HB15.out.size)
  have H16 := heldC_one m2 kg 1 u16 HG16.out.cl HMZ.out (by omega) (by omega)
  rw [HKF.out] at H16
  have H16 := Lib.hid H16
  have r0 := HXG16.out.c0
  have r1 := HXG16.out.c1
  have r2 := HXG16.out.c2
  clear hb16 E15 HG15 HXG15 y0 y1 y2 z0 z1 z2
  go_wp2_with fail
  refine H16.out.mono ?_
  rintro f u17 ⟨rfl, hb17⟩
  have HFIN : Hid (Below w.heap.size w u17) := HBw.out.trans ((HB16.out.trans (hb17.mono HB16.out.size)).mono hs2)
  clear hb17 H16 r0 r1 r2
  go_wp2_with fail
  go_ret
  exact YN.of rfl HFIN.out

theorem law_FnExactOptimizeCode (m : Cd) (k : CK) (w : World) (hT : TblF w) (hg : 0 < w.heap.size) (h : CL w m k) :
    Calls Tryd.prog 7 #[aggC m k] w (YN true w) :=
  law_FnExactOptimizeCode' m k w hT hg h (fun e => by have := optL_le m.list; have := (codeB_ok e).le; omega)
    (fun v k' hc hs => sOp_one m k' v hc hs)
    (fun v k' hc hs ht => iOp_one m k' v hc hs ht fun e v' hv' => optimized_one m.list k'.la m.list.length k'.lc v' (hc.below hv').2.2 rfl (codeB_ok e))

end Go.Proofs.YtodihpnnajlkdaaDoor

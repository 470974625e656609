/- Lists that are put together of pieces, and the numbers where the pieces begin: plain facts. -/
import Derived.Test.YtbifbmpflhdijaaDoorTrP
import Derived.Test.YtbifbmpflhdijaaDoorThI
import Derived.RangeFuncNested
import Derived.RangeFuncBound
import Derived.RangeFuncCalls
import Derived.RangeFuncLeaves
import Derived.RangeFuncBox
import Derived.Shelf.Abstract
import Derived.Test.YtbifbmpflhdijaaDoorProg
import Derived.OwnWalkIn
import Derived.TacticsInMore
import Derived.LoopNIn
import Derived.LoopIn
import Derived.Shelf.RegionOpen
import Derived.WalkKit
import Derived.Test.YtbifbmpflhdijaaDoorRcI
import Derived.RangeFuncWrites
import Derived.Test.YtbifbmpflhdijaaDoorCvU
import Derived.Test.YtbifbmpflhdijaaDoorCvJ
import Derived.Test.YtbifbmpflhdijaaDoorBlSB
import Derived.Test.YtbifbmpflhdijaaDoorPaN
import Derived.Deep.RegionHeld3
namespace Go.Proofs.YtbifbmpflhdijaaDoor
open Go.RowKit
set_option linter.unusedVariables false

/-- The pieces of the first k. -/
def splN (pc : Nat → List Ins) : Nat → List Ins
  | 0 => []
  | k + 1 => splN pc k ++ pc k
/-- Where the pieces of number i begin. -/
def begF (pc : Nat → List Ins) (i : Nat) : Nat := (splN pc i).length
/-- All pieces, each target being where its pieces begin. -/
def subL (pc : Nat → List Ins) (n : Nat) : List Ins := (splN pc n).map (reT (begF pc))
theorem subL_len (pc : Nat → List Ins) (n : Nat) : (subL pc n).length = (splN pc n).length := by simp [subL]
theorem splN_mem {pc : Nat → List Ins} {x : Ins} : ∀ {n : Nat}, x ∈ splN pc n → ∃ i, i < n ∧ x ∈ pc i
  | 0, h => by simp [splN] at h
  | k + 1, h => by
    simp only [splN, List.mem_append] at h
    rcases h with h | h
    · obtain ⟨i, hi, hx⟩ := splN_mem h
      exact ⟨i, by omega, hx⟩
    · exact ⟨k, by omega, h⟩
theorem splN_le {pc : Nat → List Ins} (h : ∀ q, (pc q).length ≤ 2) : ∀ n, (splN pc n).length ≤ 2 * n
  | 0 => by simp [splN]
  | k + 1 => by
    simp only [splN, List.length_append]
    have := splN_le h k
    have := h k
    omega

/-- A kept instruction is its only piece; another one has none. -/
def pcK (l : List Ins) (ks : List Bool) (q : Nat) : List Ins := match l[q]?, ks[q]? with | some x, some true => [x] | _, _ => []
theorem pcK_t {l : List Ins} {ks : List Bool} {q : Nat} {x : Ins} (hx : l[q]? = some x) (h : ks[q]? = some true) : pcK l ks q = [x] := by unfold pcK; rw [hx, h]
theorem pcK_f {l : List Ins} {ks : List Bool} {q : Nat} (h : ks[q]? = some false) : pcK l ks q = [] := by
  unfold pcK; rw [h]; cases l[q]? <;> rfl
theorem pcK_le (l : List Ins) (ks : List Bool) (q : Nat) : (pcK l ks q).length ≤ 2 := by
  unfold pcK; split <;> simp
theorem pcK_mem {l : List Ins} {ks : List Bool} {q : Nat} {x : Ins} (h : x ∈ pcK l ks q) : l[q]? = some x := by
  unfold pcK at h
  split at h
  · rename_i y hy _
    simp at h
    rw [hy, h]
  · simp at h
theorem splN_K {l : List Ins} {ks : List Bool} (hl : ks.length = l.length) : ∀ i, splN (pcK l ks) i = kepN l ks i
  | 0 => (kepN_zero l ks).symm
  | i + 1 => by
    show splN (pcK l ks) i ++ pcK l ks i = _
    rw [splN_K hl i]
    by_cases hi : i < l.length
    · have hx : l[i]? = some l[i] := List.getElem?_eq_getElem hi
      have hb : ks[i]? = some (ks[i]'(by omega)) := List.getElem?_eq_getElem _
      cases e : ks[i]'(by omega)
      · rw [e] at hb
        rw [pcK_f hb, kepN_f hl hx hb, List.append_nil]
      · rw [e] at hb
        rw [pcK_t hx hb, kepN_t hl hx hb]
    · have h1 : pcK l ks i = [] := by unfold pcK; rw [List.getElem?_eq_none (by omega)]
      unfold kepN
      rw [h1, List.append_nil, List.take_of_length_le (by omega), List.take_of_length_le (by omega), List.take_of_length_le (by omega), List.take_of_length_le (by omega)]
theorem begF_K {l : List Ins} {ks : List Bool} (hl : ks.length = l.length) : begF (pcK l ks) = numF ks := by
  funext i
  unfold begF
  rw [splN_K hl i, kepN_len hl i]
theorem subL_K {l : List Ins} {ks : List Bool} (hl : ks.length = l.length) : subL (pcK l ks) l.length = trimK l ks := by
  unfold subL trimK
  rw [splN_K hl, begF_K hl, kepN_all hl]

/-- A row of the call's own does not end behind its room. -/
theorem ownsRow_cap {w : World} {base : Nat} {T : TypeId} {sz : Nat} {a : Option Addr} {n c : Nat} {xs : List Value} (h : w.ownsRow base T sz (.slice a n c) n xs) : n ≤ c := by
  rcases h.2 with ⟨e, e2⟩ | ⟨g, cap, cur, e, _, _, hn, _⟩
  · cases e; exact Nat.le_refl _
  · injection e with e1 e2 e3; omega

/-- What a function of pieces answers. -/
def PcA (xs : List Ins) (w : World) (e : Ending) (w' : World) : Prop := ∃ pa pc, e = .returned (.slice pa xs.length pc) ∧ NAt w' (fun b => b < w'.heap.size) xs pa ∧ Below w.heap.size w w'
/-- What spliced answers. -/
def SplA (pc : Nat → List Ins) (n : Nat) (w : World) (e : Ending) (w' : World) : Prop := ∃ (ra : Option Addr) (rc : Nat) (ns : List Int), e = .returned (.tuple #[.slice ra (splN pc n).length rc, .slice (some ⟨w.heap.size, 0, none⟩) n n]) ∧
  w'.ownsRow (w.heap.size + 1) 50 5 (.slice ra (splN pc n).length rc) (splN pc n).length (flatN (splN pc n)) ∧
  ns.length = n ∧ (∀ q, q < n → ns[q]? = some (begF pc q : Int)) ∧ w'.ownsRow w.heap.size 3 1 (.slice (some ⟨w.heap.size, 0, none⟩) n n) n (ns.map (Value.int .i64)) ∧ Below w.heap.size w w'
/-- The state of its loop. -/
def SplL (pc : Nat → List Ins) (n : Nat) (w : World) (rv i : Value) (wr : World) : Prop := ∃ (j : Nat) (ra : Option Addr) (rc : Nat) (ns : List Int), j ≤ n ∧ i = .int .i64 (j : Int) ∧ rv = .slice ra (splN pc j).length rc ∧
  ns.length = n ∧ (∀ q, q < j → ns[q]? = some (begF pc q : Int)) ∧ wr.ownsRow w.heap.size 3 1 (.slice (some ⟨w.heap.size, 0, none⟩) n n) n (ns.map (Value.int .i64)) ∧
  wr.ownsRow (w.heap.size + 1) 50 5 (.slice ra (splN pc j).length rc) (splN pc j).length (flatN (splN pc j)) ∧ Below w.heap.size w wr
theorem ints0 (n : Nat) : (madeCells (Value.int .i64 0).cells (n * 1)).toList = (List.replicate n (0 : Int)).map (Value.int .i64) := by
  rw [Nat.mul_one, List.map_replicate]
  exact toList_madeCells_one _ _

end Go.Proofs.YtbifbmpflhdijaaDoor

namespace Go.Proofs.YtbifbmpflhdijaaDoor
open Go.RowKit
set_option linter.unusedVariables false

set_option maxRecDepth 100000 in
set_option maxHeartbeats 2000000 in
/-- **substituted's closure.** -/
theorem suC_one (z : Int) (n t cb g cp : Nat) (w : World) (ht : t < n) (hm : n ≤ 400) (hb : w.cell? ⟨cb, 0, none⟩ = some (.slice (some ⟨g, 0, none⟩) n cp)) (hc : w.cell? ⟨g, t, none⟩ = some (.int .i64 z)) :
    Calls Tryd.prog 121 #[.int .i64 (t : Int), .pointer (some ⟨cb, 0, none⟩)] w (fun e w' => e = .returned (.int .i64 z) ∧ Below w.heap.size w w') := by
  go_enter Tryd.func121, Tryd.ntmps121
  go_wp2_with fail
  go_ret
  exact ⟨rfl, Below.refl _ _⟩

set_option maxRecDepth 100000 in
set_option maxHeartbeats 4000000 in
/-- **retargeted** at loop.example/constanttime/impl.substituted$1. -/
theorem retSu_one (f : Nat → Nat) (N : Nat) (cb : Nat) (l : List Ins) (a : Option Addr) (n c : Nat) (w : World) (h : NAt w (fun b => b < w.heap.size) l a) (hn : l.length = n) (hm : n ≤ 1000)
    (hT : ∀ (i : Nat) (x : Ins), l[i]? = some x → (x.op = 8 → 0 ≤ x.fa ∧ x.fa.toNat < N) ∧ (x.op = 9 ∨ x.op = 10 → 0 ≤ x.fb ∧ x.fb.toNat < N))
    (hC : ∀ (v : World) (t : Nat), Below w.heap.size w v → t < N → Calls Tryd.prog 121 #[.int .i64 (t : Int), .pointer (some ⟨cb, 0, none⟩)] v (fun e w' => e = .returned (.int .i64 (f t : Int)) ∧ Below v.heap.size v w')) :
    Calls Tryd.prog 120 #[.slice a n c, .func (.func 121) #[] #[.pointer (some ⟨cb, 0, none⟩)]] w (CloneN (l.map (reT f)) n w) := by
  have HC := Lib.hid hC
  have HT := Lib.hid hT
  have HN := Lib.hid hn
  have H1 := Lib.hid (cloneN_one l a n c w h hn (by omega))
  clear hC hT hn h
  go_enter Tryd.func120, Tryd.ntmps120
  go_wp2_with fail
  refine H1.out.mono ?_
  rintro e w1 ⟨ca, cc, rfl, hown, hb1⟩
  have HL0 : Hid (RTL f l w n ca cc (.int .i64 0) w1) := ⟨0, l, Nat.zero_le _, rfl, ReTo.start f l, hown, hb1⟩
  clear hown hb1 H1
  go_wp2_with fail
  go_loopw [12] (fun i wr => RTL f l w n ca cc i wr) (fun i _ => n - (intOf i).toNat)
  case atStart => exact HL0.out
  case round =>
    obtain ⟨k, ys, hk, rfl, hre, hrow, hb⟩ := hrel
    have HRE := Lib.hid hre
    have HROW := Lib.hid hrow
    have HB := Lib.hid hb
    clear hre hrow hb HL0
    by_cases hlt : k < n
    · obtain ⟨x, hx⟩ : ∃ x, l[k]? = some x := ⟨l[k]'(by rw [HN.out]; exact hlt), List.getElem?_eq_getElem _⟩
      have hyk : ys[k]? = some x := (HRE.out.2.2 k (Nat.le_refl _)).trans hx
      obtain ⟨g, rfl, hg, cur, hblk, hcs⟩ : ∃ g, ca = some ⟨g, 0, none⟩ ∧ w.heap.size ≤ g ∧ ∃ cur, wr.heap[g]? = some (.cells cur 50 (0, 0)) ∧ n * 5 ≤ cur.size := by
        rcases HROW.out.2 with ⟨e, e2⟩ | ⟨g, cap', cur, e, hb, hg, hn', hm', hc, ht⟩
        · omega
        · injection e with e1 e2 e3
          exact ⟨g, e1, hb, cur, hg, by rw [hc]; exact Nat.mul_le_mul_right _ hn'⟩
      have hgl : g < wr.heap.size := (Array.getElem?_eq_some_iff.1 hblk).1
      have hf := flatN_at ys k x hyk
      have hcell : ∀ j, j < 5 → wr.cell? ⟨g, k * 5 + j, none⟩ = (flatN ys)[k * 5 + j]? := fun j hj => HROW.out.cellAt (k * 5 + j) (by omega)
      have d0 : wr.cell? ⟨g, k * 5, none⟩ = some (.int .i64 x.op) := (hcell 0 (by omega)).trans hf.1
      have d1 : wr.cell? ⟨g, k * 5 + 1, none⟩ = some (.int .i64 x.fa) := (hcell 1 (by omega)).trans hf.2.1
      have d2 : wr.cell? ⟨g, k * 5 + 2, none⟩ = some (.int .i64 x.fb) := (hcell 2 (by omega)).trans hf.2.2.1
      have HTG := Lib.hid (tgOf_one g (k * 5) x wr d0)
      have HX := Lib.hid hx
      have HYK := Lib.hid hyk
      have HKL : Hid (k < ys.length) := by
        have := (List.getElem?_eq_some_iff.1 hyk).1
        exact this
      clear hx hyk hf hcell hblk
      by_cases h8 : x.op = 8
      · have htv : tgV x g (k * 5) = .pointer (some ⟨g, k * 5 + 1, none⟩) := by unfold tgV; rw [tgO_8 (by simpa using h8)]
        obtain ⟨h0, h1⟩ := (HT.out k x HX.out).1 h8
        have HRT := Lib.hid (reT_8 (f := f) h8)
        obtain ⟨t, ht⟩ : ∃ t : Nat, x.fa = (t : Int) := ⟨x.fa.toNat, by omega⟩
        have htt : x.fa.toNat = t := by rw [ht]; rfl
        rw [htt] at h1
        have HRT2 := HRT.out
        rw [htt] at HRT2
        have HRT3 := Lib.hid HRT2
        rw [ht] at d1
        have HCL := Lib.hid (HC.out wr t HB.out h1)
        clear h8 ht htt h0 HRT HRT2
        go_wp2_with fail
        refine HTG.out.mono ?_
        rintro e w2 ⟨rfl, hw2⟩
        subst hw2
        rw [htv]
        clear htv HTG
        go_wp2_with fail
        refine HCL.out.mono ?_
        rintro e w3 ⟨rfl, hb3⟩
        have hblk3 := HROW.out.far5 (fun g' e hl => hb3.block g' hl)
        obtain ⟨⟨u0, hu0⟩, f0⟩ := ownsRow_cellx hblk3 (k * 5 + 1) (by omega)
        have HREL : Hid (RTL f l w n (some ⟨g, 0, none⟩) cc (.int .i64 ((k : Int) + 1)) (w3.setCell ⟨g, k * 5 + 1, none⟩ (.int .i64 (f t : Int)))) := by
          refine ⟨k + 1, ys.set k (reT f x), hlt, by go_num, HRE.out.set HX.out, ?_, (HB.out.trans (hb3.mono HB.out.size)).setCell (p := ⟨g, k * 5 + 1, none⟩) hg _⟩
          have hs := (hblk3.stored (k * 5 + 1) (.int .i64 (f t : Int))).1
          rw [flatN_set1 ys k x _ HYK.out] at hs
          rw [HRT3.out]; exact hs
        clear hb3 hblk3 HROW HRE HCL d0 d1 d2
        go_wp2_with fail
        go_roundw
        case rel => exact HREL.out
        case measure => simp [intOf]; omega
      · by_cases h9 : x.op = 9 ∨ x.op = 10
        · have htv : tgV x g (k * 5) = .pointer (some ⟨g, k * 5 + 2, none⟩) := by
            unfold tgV
            rcases h9 with e | e
            · rw [tgO_9 (by simpa using h8) (by simpa using e)]
            · rw [tgO_10 (by simpa using h8) (by simpa using e)]
          obtain ⟨h0, h1⟩ := (HT.out k x HX.out).2 h9
          have HRT := Lib.hid (reT_9 (f := f) h8 h9)
          obtain ⟨t, ht⟩ : ∃ t : Nat, x.fb = (t : Int) := ⟨x.fb.toNat, by omega⟩
          have htt : x.fb.toNat = t := by rw [ht]; rfl
          rw [htt] at h1
          have HRT2 := HRT.out
          rw [htt] at HRT2
          have HRT3 := Lib.hid HRT2
          rw [ht] at d2
          have HCL := Lib.hid (HC.out wr t HB.out h1)
          clear h8 h9 ht htt h0 HRT HRT2
          go_wp2_with fail
          refine HTG.out.mono ?_
          rintro e w2 ⟨rfl, hw2⟩
          subst hw2
          rw [htv]
          clear htv HTG
          go_wp2_with fail
          refine HCL.out.mono ?_
          rintro e w3 ⟨rfl, hb3⟩
          have hblk3 := HROW.out.far5 (fun g' e hl => hb3.block g' hl)
          obtain ⟨⟨u0, hu0⟩, f0⟩ := ownsRow_cellx hblk3 (k * 5 + 2) (by omega)
          have HREL : Hid (RTL f l w n (some ⟨g, 0, none⟩) cc (.int .i64 ((k : Int) + 1)) (w3.setCell ⟨g, k * 5 + 2, none⟩ (.int .i64 (f t : Int)))) := by
            refine ⟨k + 1, ys.set k (reT f x), hlt, by go_num, HRE.out.set HX.out, ?_, (HB.out.trans (hb3.mono HB.out.size)).setCell (p := ⟨g, k * 5 + 2, none⟩) hg _⟩
            have hs := (hblk3.stored (k * 5 + 2) (.int .i64 (f t : Int))).1
            rw [flatN_set2 ys k x _ HYK.out] at hs
            rw [HRT3.out]; exact hs
          clear hb3 hblk3 HROW HRE HCL d0 d1 d2
          go_wp2_with fail
          go_roundw
          case rel => exact HREL.out
          case measure => simp [intOf]; omega
        · have htv : tgV x g (k * 5) = .pointer none := by unfold tgV; rw [tgO_n (by simpa using h8) (by simp; omega) (by simp; omega)]
          have HREL : Hid (RTL f l w n (some ⟨g, 0, none⟩) cc (.int .i64 ((k : Int) + 1)) wr) := ⟨k + 1, ys, hlt, by go_num, HRE.out.same HX.out (reT_n h8 h9), HROW.out, HB.out⟩
          clear h8 h9 HROW HRE d0 d1 d2
          go_wp2_with fail
          refine HTG.out.mono ?_
          rintro e w2 ⟨rfl, hw2⟩
          subst hw2
          rw [htv]
          clear htv HTG
          go_wp2_with fail
          go_roundw
          case rel => exact HREL.out
          case measure => simp [intOf]; omega
    · obtain rfl : k = n := by omega
      have HFIN : Hid (CloneN (l.map (reT f)) k w (.returned (.slice ca k cc)) wr) := ⟨ca, cc, rfl, by rw [← HRE.out.all (by rw [HN.out]; exact Nat.le_refl _)]; exact HROW.out, HB.out⟩
      clear HROW HRE
      go_wp2_with fail
      go_ret
      exact HFIN.out


end Go.Proofs.YtbifbmpflhdijaaDoor

namespace Go.Proofs.YtbifbmpflhdijaaDoor
open Go.RowKit
set_option linter.unusedVariables false

set_option maxRecDepth 100000 in
set_option maxHeartbeats 8000000 in
/-- **spliced** at fenced$1. -/
theorem splF_one (pc : Nat → List Ins) (a : Option Addr) (n c b1 b2 : Nat) (w : World) (hm : n ≤ 400) (hpc : ∀ q, (pc q).length ≤ 2)
    (hC : ∀ (v : World) (q : Nat), Below w.heap.size w v → q < n → Calls Tryd.prog 90 #[.int .i64 (q : Int), .pointer (some ⟨b1, 0, none⟩), .pointer (some ⟨b2, 0, none⟩)] v (PcA (pc q) v)) :
    Calls Tryd.prog 119 #[.slice a n c, .func (.func 90) #[] #[.pointer (some ⟨b1, 0, none⟩), .pointer (some ⟨b2, 0, none⟩)]] w (SplA pc n w) := by
  obtain ⟨i0, hi, hz0, hz1, hz2⟩ := info_parts Tryd.infoI
  obtain ⟨j0, hj, hj0, hj1, hj2⟩ := info_parts Tryd.infoN
  have HC := Lib.hid hC
  have HPC := Lib.hid hpc
  clear hC hpc
  go_enter Tryd.func119, Tryd.ntmps119
  go_wp2_with (first
    | (at_make
       refine wpList_make_full _ rfl _ _ 22 rfl w.heap.size 3 i0 (.int .i64 0) 1 Tryd.underlying22 hi hz0 hz1 .i64 .i64 (n : Int) (n : Int) n rfl rfl rfl rfl (by rw [hz2]; omega) (by unfold maxLen; omega) (Nat.le_refl _) ?_
       intro w1 hown1 hgrow1
       rw [ints0] at hown1
       have hb1 : Below w.heap.size w w1 := (Below.refl _ w).grown hgrow1 (Nat.le_refl _) (fun k e => (by cases e))
       have HL0 : Hid (SplL pc n w (.slice none 0 0) (.int .i64 0) w1) := ⟨0, none, 0, List.replicate n 0, Nat.zero_le _, rfl, rfl, List.length_replicate, (fun q hq => absurd hq (Nat.not_lt_zero _)), hown1, World.ownsRow_nil _ _ _ _, hb1⟩
       clear hown1 hgrow1 hb1)
    | fail)
  go_loopw [6, 14] (fun rv i wr => SplL pc n w rv i wr) (fun _ i _ => n - (intOf i).toNat)
  case atStart => exact HL0.out
  case round =>
    obtain ⟨q, ra, rc, ns, hq, rfl, rfl, hnl, hns, hnr, hrr, hb⟩ := hrel
    obtain ⟨rn, hrn⟩ : ∃ rn, (splN pc q).length = rn := ⟨_, rfl⟩
    have hrle : rn ≤ 2 * q := by rw [← hrn]; exact splN_le HPC.out q
    rw [hrn] at hrr ⊢
    have HNL := Lib.hid hnl
    have HNS := Lib.hid hns
    have HRR := Lib.hid hrr
    have HB := Lib.hid hb
    have HRN := Lib.hid hrn
    have HNR := Lib.hid hnr
    clear hnl hns hrr hb hrn HL0
    by_cases hlt : q < n
    · obtain ⟨⟨s0, hs0⟩, f0⟩ := ownsRow_cellx hnr q (by omega)
      have hst := (hnr.stored q (.int .i64 (rn : Int))).1
      rw [← List.map_set] at hst
      obtain ⟨V2, hV2⟩ : ∃ V2, wr.setCell ⟨w.heap.size, q, none⟩ (.int .i64 (rn : Int)) = V2 := ⟨_, rfl⟩
      have hoth : ∀ j, j ≠ w.heap.size → V2.heap[j]? = wr.heap[j]? := fun j hj => by rw [← hV2]; exact Below.heap_setCell _ _ _ _ (by simpa using hj)
      have hz2 : wr.heap.size ≤ V2.heap.size := by rw [← hV2]; simp [World.setCell]
      have hBV2 : Below w.heap.size w V2 := by rw [← hV2]; exact HB.out.setCell (p := ⟨w.heap.size, q, none⟩) (Nat.le_refl _) _
      rw [hV2] at hst
      have hlb : w.heap.size < wr.heap.size := (hnr.lt w.heap.size rfl).2
      have hrr2 : V2.ownsRow (w.heap.size + 1) 50 5 (.slice ra rn rc) rn (flatN (splN pc q)) := HRR.out.far5 fun g hg hl => hoth g (by have := (HRR.out.lt g hg).1; omega)
      have HNS2 : Hid ((ns.set q (rn : Int)).length = n ∧ ∀ t, t < q + 1 → (ns.set q (rn : Int))[t]? = some (begF pc t : Int)) := by
        refine ⟨by rw [List.length_set]; exact HNL.out, fun t ht => ?_⟩
        by_cases e : t = q
        · subst e
          rw [List.getElem?_set_self (by rw [HNL.out]; exact hlt)]
          unfold begF
          rw [HRN.out]
        · rw [List.getElem?_set_ne (by omega)]
          exact HNS.out t (by omega)
      have HCL := Lib.hid (HC.out V2 q hBV2 hlt)
      have HST := Lib.hid hst
      have HV2 := Lib.hid hV2
      have HRR2 := Lib.hid hrr2
      have HBV2 := Lib.hid hBV2
      obtain ⟨m, hm2⟩ : ∃ m, (pc q).length = m := ⟨_, rfl⟩
      have hmle : m ≤ 2 := by rw [← hm2]; exact HPC.out q
      have HM := Lib.hid hm2
      clear hst hV2 hoth hBV2 hrr2 HNS HNR HRR hnr hm2
      go_wp2_with (first | rw [HV2.out] | fail)
      try rw [HV2.out]
      refine HCL.out.mono ?_
      rintro e w3 ⟨pa, cc, rfl, hnat, hb3⟩
      rw [HM.out]
      have hrr3 : w3.ownsRow (w.heap.size + 1) 50 5 (.slice ra rn rc) rn (flatN (splN pc q)) := HRR2.out.far5 fun g hg hl => hb3.block g hl
      have hz3 := hb3.size
      have HST3 : Hid (w3.ownsRow w.heap.size 3 1 (.slice (some ⟨w.heap.size, 0, none⟩) n n) n ((ns.set q (rn : Int)).map (Value.int .i64))) := HST.out.far5 fun g hg hl => hb3.block g hl
      have HB3 : Hid (Below w.heap.size w w3) := HBV2.out.trans (hb3.mono HBV2.out.size)
      have hnews := NewsAt.instrs hnat HM.out
      have hfl : (flatN (pc q)).length = m * 5 := by rw [flatN_len, HM.out]
      have hones := flatN_one (pc q)
      have hbs : w.heap.size + 1 ≤ w3.heap.size := by omega
      clear hnat hb3 HCL HRR2 HST HBV2
      go_wp2_with (first
        | (at_builtin
           refine wpList_append_any _ (by rfl) _ _ 27 (by rfl) (w.heap.size + 1) 50 j0 _ 5 40 Tryd.underlying27 hj hj0 hj1 hj2 rfl (by omega) (.slice ra rn rc) rn _ (by rfl) hrr3 pa m cc _ (by rfl) hfl hnews hones (by unfold maxLen; omega) (by omega) hbs ?_
           intro v' w5 hap
           obtain ⟨a5, c5, hv5, hown5, hgrow5, _⟩ := hap
           subst hv5
           have HREL : Hid (SplL pc n w (.slice a5 (rn + m) c5) (.int .i64 ((q : Int) + 1)) w5) := (by
             have el : (splN pc (q + 1)).length = rn + m := (by show (splN pc q ++ pc q).length = _; rw [List.length_append, HRN.out, HM.out])
             have hne : ∀ j, j < w.heap.size + 1 → some j ≠ (Value.slice ra rn rc).ownBlock := fun j hj e => (by have := (hrr3.lt j e.symm).1; omega)
             refine ⟨q + 1, a5, c5, _, by omega, by go_num, by rw [el], HNS2.out.1, HNS2.out.2, ?_, ?_, ?_⟩
             · refine HST3.out.far5 fun g' hg' hl => ?_
               have e1 : g' = w.heap.size := (by injection hg' with e; exact e.symm)
               subst e1
               exact hgrow5.block _ (by omega) (hne _ (by omega))
             · rw [el, show splN pc (q + 1) = splN pc q ++ pc q from rfl, flatN_app]
               exact hown5
             · exact HB3.out.grown hgrow5 HB3.out.size fun j hj => (by have := (hrr3.lt j hj).1; omega))
           clear hown5 hgrow5 HST3 hrr3 hnews hfl hones)
        | fail)
      go_roundw
      case rel => exact HREL.out
      case measure => simp [intOf]; omega
    · obtain rfl : q = n := by omega
      have HFIN : Hid (SplA pc q w (.returned (.tuple #[.slice ra rn rc, .slice (some ⟨w.heap.size, 0, none⟩) q q])) wr) := by
        refine ⟨ra, rc, ns, by rw [HRN.out], by rw [HRN.out]; exact HRR.out, HNL.out, HNS.out, HNR.out, HB.out⟩
      clear HRR HNR HNS hnr
      go_wp2_with fail
      exact bodyPost_ret (v := .tuple #[.slice ra rn rc, .slice (some ⟨w.heap.size, 0, none⟩) q q]) (by simp [results, Tryd.f119, go_sem]) rfl HFIN.out

set_option maxRecDepth 100000 in
set_option maxHeartbeats 8000000 in
/-- **substituted** at fenced$1. -/
theorem subF_one (pc : Nat → List Ins) (a : Option Addr) (n c b1 b2 : Nat) (w : World) (hm : n ≤ 400) (hpc : ∀ q, (pc q).length ≤ 2)
    (hT : ∀ (q : Nat) (x : Ins), q < n → x ∈ pc q → (x.op = 8 → 0 ≤ x.fa ∧ x.fa.toNat < n) ∧ (x.op = 9 ∨ x.op = 10 → 0 ≤ x.fb ∧ x.fb.toNat < n))
    (hC : ∀ (v : World) (q : Nat), Below w.heap.size w v → q < n → Calls Tryd.prog 90 #[.int .i64 (q : Int), .pointer (some ⟨b1, 0, none⟩), .pointer (some ⟨b2, 0, none⟩)] v (PcA (pc q) v)) :
    Calls Tryd.prog 89 #[.slice a n c, .func (.func 90) #[] #[.pointer (some ⟨b1, 0, none⟩), .pointer (some ⟨b2, 0, none⟩)]] w (CloneN (subL pc n) (subL pc n).length w) := by
  have H1 := Lib.hid (splF_one pc a n c b1 b2 w hm hpc hC)
  have HT := Lib.hid hT
  have hle := splN_le hpc n
  clear hC hT hpc
  go_enter Tryd.func89, Tryd.ntmps89
  go_wp2_with fail
  refine H1.out.mono ?_
  rintro e w1 ⟨ra, rc, ns, rfl, hrr, hnl, hns, hnr, hb1⟩
  obtain ⟨rn, hrn⟩ : ∃ rn, (splN pc n).length = rn := ⟨_, rfl⟩
  rw [hrn] at hrr hle ⊢
  have hlb : w.heap.size < w1.heap.size := (hnr.lt w.heap.size rfl).2
  obtain ⟨cb, hcb⟩ : ∃ cb, w1.heap.size = cb := ⟨_, rfl⟩
  obtain ⟨W2, hW2⟩ : ∃ W2, w1.alloc (.cells #[.slice (some ⟨w.heap.size, 0, none⟩) n n] 22) = W2 := ⟨_, rfl⟩
  have hbx : W2.heap[cb]? = some (.cells #[.slice (some ⟨w.heap.size, 0, none⟩) n n] 22 (0, 0)) := by rw [← hcb, ← hW2]; exact heap_alloc_new w1 _
  have hB2 : Below w1.heap.size w1 W2 := by rw [← hW2]; exact (Below.refl _ _).alloc (Nat.le_refl _) _
  have hzW : cb < W2.heap.size := (Array.getElem?_eq_some_iff.1 hbx).1
  have hnat : NAt W2 (fun b => b < W2.heap.size) (splN pc n) ra := by
    have h1 : OwnN w1 (w.heap.size + 1) (.slice ra rn rc) (splN pc n) := by unfold OwnN; rw [hrn]; exact hrr
    exact (h1.nat.2.2.2.wide (fun _ _ => rfl) fun j hj => hj.2).below hB2
  have HRET := Lib.hid (retSu_one (begF pc) n cb (splN pc n) ra rn rc W2 hnat hrn (by omega) (fun i x hx => by
      obtain ⟨q, hq, hxq⟩ := splN_mem (List.mem_of_getElem? hx)
      exact HT.out q x hq hxq)
    fun v t hv ht => by
      have hbv := (hv.block cb hzW).trans hbx
      refine suC_one (begF pc t : Int) n t cb w.heap.size n v ht hm (by rw [cell_at hbv]; rfl) ?_
      have hnv : v.ownsRow w.heap.size 3 1 (.slice (some ⟨w.heap.size, 0, none⟩) n n) n (ns.map (Value.int .i64)) := hnr.far5 fun g _ hl => (hv.block g (by have := hB2.size; omega)).trans (hB2.block g hl)
      rw [hnv.cellAt t (by omega)]
      simp [hns t ht])
  have HBB : Hid (Below w.heap.size w W2) := hb1.trans (hB2.mono hb1.size)
  have HRN := Lib.hid hrn
  have HCB := Lib.hid hcb
  have HW2 := Lib.hid hW2
  have x0 : W2.cell? ⟨cb, 0, none⟩ = some (.slice (some ⟨w.heap.size, 0, none⟩) n n) := by rw [cell_at hbx]; rfl
  clear hrr hnl hns hnr hb1 hrn hcb hW2 hbx hB2 hnat H1
  go_wp2_with (first | rw [HW2.out, HCB.out] | rw [HW2.out] | fail)
  try rw [HCB.out]
  refine HRET.out.mono ?_
  rintro e w2 ⟨ca, cc, rfl, hown, hb2⟩
  have HFIN : Hid (CloneN (subL pc n) (subL pc n).length w (.returned (.slice ca rn cc)) w2) := by
    have el : (subL pc n).length = rn := by rw [subL_len]; exact HRN.out
    unfold CloneN
    rw [el]
    exact ⟨ca, cc, rfl, ownsRow_mono hown HBB.out.size, HBB.out.trans (hb2.mono HBB.out.size)⟩
  clear hown hb2 HRET
  go_wp2_with fail
  go_ret
  exact HFIN.out

end Go.Proofs.YtbifbmpflhdijaaDoor

namespace Go.Proofs.YtbifbmpflhdijaaDoor
open Go.RowKit Go.Shelf
set_option linter.unusedVariables false

/-- The blocks of D lie as they lay. -/
structure Stays (D : Nat → Prop) (W W' : World) : Prop where
  size : W.heap.size ≤ W'.heap.size
  same : ∀ (k : Nat) (o : Obj), D k → W.heap[k]? = some o → W'.heap[k]? = some o
theorem Stays.refl (D : Nat → Prop) (W : World) : Stays D W W := ⟨Nat.le_refl _, fun _ _ _ h => h⟩
theorem Stays.trans {D : Nat → Prop} {X Y Z : World} (h : Stays D X Y) (k : Stays D Y Z) : Stays D X Z := ⟨Nat.le_trans h.size k.size, fun i o hB hi => k.same i o hB (h.same i o hB hi)⟩
theorem Stays.mono {D E : Nat → Prop} {W W' : World} (h : Stays D W W') (hc : ∀ k, k < W.heap.size → E k → D k) : Stays E W W' := ⟨h.size, fun k o hB hk => h.same k o (hc k (Array.getElem?_eq_some_iff.1 hk).1 hB) hk⟩
theorem Stays.alloc {D : Nat → Prop} {W W' : World} (h : Stays D W W') (o : Obj) : Stays D W (W'.alloc o) := ⟨by have := h.size; simp; omega, fun k q hB hk => by
  have h1 := h.same k q hB hk
  rw [Below.heap_alloc _ _ _ (Array.getElem?_eq_some_iff.1 h1).1]; exact h1⟩
theorem Stays.setCell {D : Nat → Prop} {W W' : World} (h : Stays D W W') {p : Addr} (hp : ¬ D p.block) (v : Value) : Stays D W (W'.setCell p v) := ⟨by have := h.size; simpa [World.setCell] using this, fun k q hB hk => by
  rw [Below.heap_setCell _ _ _ _ (fun e => hp (by rw [← e]; exact hB))]; exact h.same k q hB hk⟩
theorem Stays.putObj {D : Nat → Prop} {W W' : World} (h : Stays D W W') {l : Nat} (hl : ¬ D l) (o : Obj) : Stays D W (W'.putObj l o) := ⟨by have := h.size; simpa [World.putObj] using this, fun k q hB hk => by
  rw [World.putObj_heap_other (fun e => hl (by rw [← e]; exact hB))]; exact h.same k q hB hk⟩
theorem Stays.drew {D : Nat → Prop} {W W' : World} (h : Stays D W W') : Stays D W W'.drew := ⟨h.size, h.same⟩
/-- What a callee leaves that writes new blocks alone. -/
theorem Stays.below {D : Nat → Prop} {W W' W2 : World} (h : Stays D W W') (hb : Below W'.heap.size W' W2) : Stays D W W2 := ⟨Nat.le_trans h.size hb.size, fun k q hB hk => by
  have h1 := h.same k q hB hk
  rw [hb.block k (Array.getElem?_eq_some_iff.1 h1).1]; exact h1⟩
theorem Stays.at {D : Nat → Prop} {W W' : World} (h : Stays D W W') {k : Nat} (hD : D k) (hk : k < W.heap.size) : W'.heap[k]? = W.heap[k]? := by
  obtain ⟨o, ho⟩ : ∃ o, W.heap[k]? = some o := ⟨_, Array.getElem?_eq_getElem hk⟩
  rw [ho]; exact h.same k o hD ho
/-- What speaks of cells alone abides new blocks. -/
theorem own_below {β : Type} {B : Nat} {I : β → World → Prop} (h : OwnFrom B I) {s : β} {W W' : World} (hs : I s W) (hb : Below W.heap.size W W') : I s W' :=
  h s W W' none hs ⟨hb.os, hb.tape, hb.output, hb.size, fun k hk _ => hb.block k hk⟩ fun r e => by cases e

theorem own_later {β : Type} {B C : Nat} {I : β → World → Prop} (h : OwnFrom B I) (hc : B ≤ C) : OwnFrom C I := fun s X Y row hs hg hr => h s X Y row hs hg fun r e => ⟨Nat.le_trans hc (hr r e).1, (hr r e).2⟩
theorem own_at {β : Type} {B k : Nat} (o : Obj) (hk : k < B) : OwnFrom B (fun (_ : β) W => W.heap[k]? = some o) := fun s X Y row hs hg hr =>
  (hg.block k (Array.getElem?_eq_some_iff.1 hs).1 fun e => by have := (hr k e.symm).1; omega).trans hs

variable {P : Program}

/-- What an iterator owes, and what a round owes it: the blocks of D, and whatever lay when the iterator began, stay, but for the record of the loop. -/
def SeqL {α : Type} (n : Nat) (P : Program) (g : Nat) (lb : Array Value) (encs : α → Array Value) (D : Nat → Prop) (S Sp : List α → Prop) (w : World) : Prop :=
  ∀ (l : Nat) (J Jx : List α → World → Prop) (W : World), Below w.heap.size w W → l < W.heap.size → OwnFrom W.heap.size J → OwnFrom W.heap.size Jx →
    (∀ pre x W1, J pre W1 → YieldAt Fence.wide (n - 1) P l (encs x) W1 fun e W' =>
      ((e = .returned (.bool true) ∧ J (pre ++ [x]) W') ∨ (e = .returned (.bool false) ∧ Jx (pre ++ [x]) W')) ∧ Stays (fun k => D k ∨ W.heap.size ≤ k) W1 W') →
    J [] W →
    CallsIn Fence.wide n P g (#[.func (.yield l) #[] #[]] ++ lb) W fun e W' => (∃ v, e = .returned v) ∧ ((∃ xs, S xs ∧ J xs W') ∨ (∃ pre, Sp pre ∧ Jx pre W'))

/-- How a round's body may be left. -/
def postL {α : Type} (B : Nat) (D : Nat → Prop) (I : List α → World → Prop) (Ix : Code → List α → World → Prop) (xs : List α) (W : World) : Exit → Act → World → Prop
  | .normal, _, W' => Stays (fun k => D k ∨ B ≤ k) W W' ∧ I xs W'
  | .ret, _, W' => Stays (fun k => D k ∨ B ≤ k) W W' ∧ Ix .ret xs W'
  | _, _, _ => False

set_option maxHeartbeats 2000000 in
/-- **The caller's side.** -/
theorem wpIn_rangeL {α : Type} {n : Nat} {g : Operand} {ps : Array Tmp} {assign body : Code} {Q : Exit → Act → World → Prop} {a : Act} {w : World} (h1 : 1 ≤ n) {gf : Nat} {lb : Array Value}
    (hg : a.eval g = .func (.func gf) #[] lb) (eg : ∀ args w, (callFunc gf args).run P w = .ok (.enter gf args) w)
    {encs : α → Array Value} {D : Nat → Prop} {S Sp : List α → Prop} {w0 : World} (hseq : SeqL (n - 1) P gf lb encs D S Sp w0) (hD : ∀ k, D k → k < w.heap.size) (hb0 : Below w0.heap.size w0 w) (hps : ∀ x, (encs x).size = ps.size)
    (I : List α → World → Prop) (Ix : Code → List α → World → Prop) (hI : OwnFrom w.heap.size I) (hIx : ∀ c, OwnFrom w.heap.size (Ix c)) (h0 : I [] w) (a1 : α → Act)
    (hassign : ∀ (l : Nat) (x : α) (W : World) (K : Act → World → Prop), K (a1 x) W →
      assign.wpIn (Fence.wide.inRound l) (n - 1 - 1) P (Exit.then K (fun _ _ _ => False)) { tmps := (ps.zip (encs x)).foldl (fun t (p, v) => t.setIfInBounds p v) a.tmps, defers := [] } W)
    (hbody : ∀ (l : Nat) (pre : List α) (x : α) (W : World), I pre W → body.wpIn (Fence.wide.inRound l) (n - 1 - 1) P (postL w.heap.size D I Ix (pre ++ [x]) W) (a1 x) W)
    (hdone : ∀ (d : Nat) (xs : List α) (W : World), w.heap.size ≤ d → S xs → I xs W → W.heap[d]? = some (.deferred (some [])) → Q .normal { a with defers := { target := .collected d, args := #[] } :: a.defers } W)
    (hstop : ∀ (d : Nat) (c : Code) (pre : List α) (W : World), w.heap.size ≤ d → Sp pre → Ix c pre W → W.heap[d]? = some (.deferred (some [])) → c.wpIn Fence.wide n P Q { a with defers := { target := .collected d, args := #[] } :: a.defers } W) :
    (Code.rangeFunc g ps assign body).wpIn Fence.wide n P Q a w := by
  refine wpIn_rangeFunc fun fn hfn => ?_
  -- the record, in each of its states
  obtain ⟨R, hR⟩ : ∃ R : LoopState → Option Code → Loop, R = fun s p => { state := s, pending := p, fn, tmps := a.tmps, params := ps, assign, body, defers := w.heap.size } := ⟨_, rfl⟩
  obtain ⟨V, hV⟩ : ∃ V, (w.alloc (.deferred (some []))).alloc (.loop (R .ready none)) = V := ⟨_, rfl⟩
  have hz : V.heap.size = w.heap.size + 2 := by rw [← hV]; simp
  have hl0 : V.heap[w.heap.size + 1]? = some (.loop (R .ready none)) := by
    have h := World.alloc_heap_new (w.alloc (.deferred (some []))) (.loop (R .ready none))
    rw [World.size_alloc] at h
    rw [← hV]; exact h
  have hd0 : V.heap[w.heap.size]? = some (.deferred (some [])) := by
    rw [← hV, Below.heap_alloc _ _ _ (by simp)]; exact World.alloc_heap_new w _
  have hI0 : I [] V := by rw [← hV]; exact hI.alloc _ (hI.alloc _ h0)
  have hbV : Below w0.heap.size w0 V := by
    have h2 : Below w.heap.size w V := by rw [← hV]; exact ((Below.refl _ w).alloc (Nat.le_refl _) _).alloc (by simp) _
    exact hb0.trans (h2.mono hb0.size)
  refine ⟨w.heap.size + 1, [{ target := .collected w.heap.size, args := #[] }], V, { target := .fn (.func gf) lb, args := #[.func (.yield (w.heap.size + 1)) #[] #[]] }, V, gf,
    #[.func (.yield (w.heap.size + 1)) #[] #[]] ++ lb, V, ?_, ?_, fun f' hf' => trivial, ?_, fun _ => h1, ?_⟩
  · rw [← hV, hR]; exact run_enterLoop_outer _ _ _ _ _
  · simp only [resolve, hg]
    simp [go_sem]
  · simp [invoke, go_sem, eg]
  refine (hseq (w.heap.size + 1) (fun pre W => I pre W ∧ W.heap[w.heap.size + 1]? = some (.loop (R .ready none)) ∧ W.heap[w.heap.size]? = some (.deferred (some [])))
    (fun pre W => Ix .ret pre W ∧ W.heap[w.heap.size + 1]? = some (.loop (R .done (some .ret))) ∧ W.heap[w.heap.size]? = some (.deferred (some []))) V hbV (by omega)
    ((own_later hI (by omega)).and ((own_at _ (by omega)).and (own_at _ (by omega)))) ((own_later (hIx _) (by omega)).and ((own_at _ (by omega)).and (own_at _ (by omega)))) ?_ ⟨hI0, hl0, hd0⟩).mono ?_
  · rintro pre x W ⟨hi, hl, hd⟩
    have hy := run_yield (P := P) (args := encs x) hl (by rw [hR]; exact hps x)
    rw [hR] at hy
    refine ⟨fn, _, assign, body, hy, roundIn_of_wpIn hfn (hassign _ x W _ ?_)⟩
    refine ⟨_, run_beginRound hl (by rw [hR]), ?_⟩
    have hnD : ¬ (D (w.heap.size + 1) ∨ V.heap.size ≤ w.heap.size + 1) := fun h => by
      rcases h with h | h
      · have := hD _ h; omega
      · omega
    obtain ⟨U, hU⟩ : ∃ U, W.putObj (w.heap.size + 1) (.loop { R .ready none with state := .busy }) = U := ⟨_, rfl⟩
    have hlU : U.heap[w.heap.size + 1]? = some (.loop { R .ready none with state := .busy }) := by rw [← hU]; exact World.putObj_heap_same (Array.getElem?_eq_some_iff.1 hl).1
    have hdU : U.heap[w.heap.size]? = some (.deferred (some [])) := by rw [← hU, World.putObj_heap_other (by omega)]; exact hd
    have hsU : Stays (fun k => D k ∨ V.heap.size ≤ k) W U := by rw [← hU]; exact (Stays.refl _ _).putObj hnD _
    have hiU : I pre U := by rw [← hU]; exact hI.putObj _ hi (by omega) hl rfl
    rw [hU]
    -- how the round ends
    have fin : ∀ (j : Option Code) (X : World), Stays (fun k => D k ∨ w.heap.size ≤ k) U X → ∃ Y, (Instr.endRound (w.heap.size + 1) j).run P X = .ok (.bool j.isNone) Y ∧ Y = X.putObj (w.heap.size + 1) (.loop (R (if j.isNone then .ready else .done) j)) ∧
        Y.heap[w.heap.size + 1]? = some (.loop (R (if j.isNone then .ready else .done) j)) ∧ Y.heap[w.heap.size]? = some (.deferred (some [])) ∧ Stays (fun k => D k ∨ V.heap.size ≤ k) W Y ∧ X.heap[w.heap.size + 1]? = some (.loop { R .ready none with state := .busy }) := fun j X hX => by
      have hlX := hX.same _ _ (.inr (by omega)) hlU
      have hdX := hX.same _ _ (.inr (Nat.le_refl _)) hdU
      have he := run_endRound (P := P) j hlX
      rw [hR] at he
      refine ⟨_, he, by rw [hR], ?_, ?_, ?_, hlX⟩
      · rw [World.putObj_heap_same (Array.getElem?_eq_some_iff.1 hlX).1, hR]
      · rw [World.putObj_heap_other (by omega)]; exact hdX
      · exact (hsU.trans (hX.mono fun k _ h => h.elim .inl fun h => .inr (by omega))).putObj hnD _
    refine wpIn_mono (hbody _ pre x U hiU) ?_
    rintro e a3 X hp
    cases e with
    | normal =>
      obtain ⟨h2, h4⟩ := hp
      obtain ⟨Y, he, hY, hlY, hdY, hsY, hlX⟩ := fin none X h2
      have hiY : I (pre ++ [x]) Y := by rw [hY]; exact hI.putObj _ h4 (by omega) hlX rfl
      exact ⟨_, _, he, .inl ⟨rfl, hiY, hlY, hdY⟩, hsY⟩
    | ret =>
      obtain ⟨h2, h3⟩ := hp
      obtain ⟨Y, he, hY, hlY, hdY, hsY, hlX⟩ := fin (some .ret) X h2
      have hiY : Ix .ret (pre ++ [x]) Y := by rw [hY]; exact (hIx _).putObj _ h3 (by omega) hlX rfl
      exact ⟨_, _, he, .inr ⟨rfl, hiY, hlY, hdY⟩, hsY⟩
    | exit id => exact hp.elim
    | goto t => exact hp.elim
    | panic ch => exact hp.elim
    | outgrown => exact hp.elim
  · rintro e X ⟨⟨v, rfl⟩, (⟨xs, hS, hi, hl, hd⟩ | ⟨pre, hS, hi, hl, hd⟩)⟩
    · have he := run_endLoop (P := P) hl (by rw [hR]; simp)
      rw [hR] at he
      exact ⟨none, _, he, hdone _ xs _ (Nat.le_refl _) hS (hI.putObj _ hi (by omega) hl rfl) ((World.putObj_heap_other (by omega)).trans hd)⟩
    · have he := run_endLoop (P := P) hl (by rw [hR]; simp)
      rw [hR] at he
      exact ⟨some .ret, _, he, hstop _ .ret pre _ (Nat.le_refl _) hS ((hIx _).putObj _ hi (by omega) hl rfl) ((World.putObj_heap_other (by omega)).trans hd)⟩

end Go.Proofs.YtbifbmpflhdijaaDoor

namespace Go.Proofs.YtbifbmpflhdijaaDoor
open Go.RowKit Go.Shelf
set_option linter.unusedVariables false

attribute [local go_sem] Oper.semAt_some

abbrev encE {n : Nat} (x : Fin n × Fin n) : Array Value := #[.int .i64 (x.1.val : Int), .int .i64 (x.2.val : Int)]
def valE {n : Nat} (x : Fin n × Fin n) : Nat × Nat := (x.1.val, x.2.val)
/-- Where the execution may go on behind instruction k. -/
def folAt (l : List Ins) (k : Nat) : List Nat := match l[k]? with | some x => folN x k | none => []
theorem folAt_at {l : List Ins} {k : Nat} {x : Ins} (h : l[k]? = some x) : folAt l k = folN x k := by unfold folAt; rw [h]
/-- The edges of the first k instructions. -/
def edgN (l : List Ins) : Nat → List (Nat × Nat)
  | 0 => []
  | k + 1 => edgN l k ++ (folAt l k).map fun t => (k, t)
theorem edgN_pre (l : List Ins) {k n : Nat} (h : k ≤ n) : edgN l k <+: edgN l n := by
  induction n with
  | zero => obtain rfl : k = 0 := by omega
            exact List.prefix_refl _
  | succ n ih =>
    by_cases e : k = n + 1
    · subst e; exact List.prefix_refl _
    · exact (ih (by omega)).trans (List.prefix_append _ _)
theorem edgN_part {l : List Ins} {k n j : Nat} {x : Ins} (hx : l[k]? = some x) (h : k < n) : edgN l k ++ ((folN x k).take j).map (fun t => (k, t)) <+: edgN l n := by
  refine List.IsPrefix.trans ?_ (edgN_pre l (Nat.succ_le_of_lt h))
  show _ <+: edgN l k ++ _
  rw [folAt_at hx]
  exact (List.prefix_append_right_inj _).2 ((List.take_prefix j _).map _)

set_option maxRecDepth 100000 in
set_option maxHeartbeats 8000000 in
theorem edg1_in {n : Nat} (m : Nat) (hm : 1 ≤ m) (lp Bn B : Nat) (D : Nat → Prop) (l : List Ins) (a : Option Addr) (c : Nat) (J Jx : List (Fin n × Fin n) → World → Prop) (hn : l.length = n) (hok : Okc l) (hJ : OwnFrom B J)
    (hY : ∀ pre x W1, J pre W1 → YieldAt Fence.wide (m - 1) Tryd.prog lp (encE x) W1 fun e W' =>
      ((e = .returned (.bool true) ∧ J (pre ++ [x]) W') ∨ (e = .returned (.bool false) ∧ Jx (pre ++ [x]) W')) ∧ Stays (fun k => D k ∨ B ≤ k) W1 W')
    (W : World) (hB : W.heap.size = B) (hDB : ∀ k, D k → k < B) (hBn : W.heap[Bn]? = some (.cells #[.slice a n c] 27 (0, 0))) (hDn : D Bn) (hL : NAt W D l a) (h0 : J [] W) :
    CallsIn Fence.wide m Tryd.prog 132 #[.func (.yield lp) #[] #[], .pointer (some ⟨Bn, 0, none⟩)] W fun e W' => (∃ v, e = .returned v) ∧
      ((∃ ys : List (Fin n × Fin n), ys.map valE = edgN l n ∧ J ys W') ∨ (∃ pre : List (Fin n × Fin n), pre.map valE <+: edgN l n ∧ Jx pre W')) := by
  refine callsIn_of_wp Tryd.func132 rfl trivial ?_ rfl
  simp only [Tryd.ntmps132, List.size_toArray, List.length_cons, List.length_nil, Nat.reduceAdd, Nat.reduceSub, Array.replicate_succ, Array.replicate_zero, List.push_toArray, List.append_toArray, List.nil_append, List.cons_append]
  have HY := Lib.hid hY
  have HJ := Lib.hid hJ
  have HN := Lib.hid hn
  have HO := Lib.hid hok
  have hn400 : n ≤ 400 := by rw [← hn]; exact hok.le
  have hBlt : Bn < W.heap.size := by rw [hB]; exact hDB _ hDn
  -- what stands in every world that a round has left
  have HS : Hid (∀ v, Stays D W v → v.cell? ⟨Bn, 0, none⟩ = some (.slice a n c) ∧ NAt v (fun b => b < v.heap.size) l a) := fun v hv => by
    refine ⟨?_, hL.wide (fun k hk => hv.at hk (by rw [hB]; exact hDB k hk)) fun k hk => Nat.lt_of_lt_of_le (by rw [hB]; exact hDB k hk) hv.size⟩
    rw [cell_at ((hv.at hDn hBlt).trans hBn)]; rfl
  have x0 := (HS.out W (Stays.refl _ _)).1
  clear hY hJ hn hok hBn hL
  gi_wp2
  gi_loopw [8] (fun p wr => ∃ (k : Nat) (pre : List (Fin n × Fin n)), k ≤ n ∧ p = .int .i64 (k : Int) ∧ pre.map valE = edgN l k ∧ J pre wr ∧ Stays D W wr) (fun p _ => n - (intOf p).toNat)
  case atStart => exact ⟨0, [], Nat.zero_le _, rfl, rfl, h0, Stays.refl _ _⟩
  case round =>
    obtain ⟨k, pre, hk, rfl, hpre, hJ1, hS1⟩ := hrel
    have HPRE := Lib.hid hpre
    have HJ1 := Lib.hid hJ1
    have HS1 := Lib.hid hS1
    have hzr := hS1.size
    obtain ⟨y0, hNA⟩ := HS.out wr hS1
    clear hpre hJ1 hS1 h0 x0
    by_cases hlt : k < n
    · obtain ⟨x, hx⟩ : ∃ x, l[k]? = some x := ⟨l[k]'(by rw [HN.out]; exact hlt), List.getElem?_eq_getElem _⟩
      have HX := Lib.hid hx
      have HF := Lib.hid (fol_one l a n c k x wr hNA HN.out HO.out hx)
      clear hx hNA
      gi_wp2_with (refine ⟨trivial, ?_⟩; gi_at_call 133; refine (callsIn_wide.2 HF.out).mono ?_; rintro e w1 ⟨ra, rc, rfl, hown, hb1⟩)
      obtain ⟨rl, hrl⟩ : ∃ rl, (natI (folN x k)).length = rl := ⟨_, rfl⟩
      have hrl2 : (folN x k).length = rl := by rw [← hrl, natI_len]
      have hrle : rl ≤ 2 := by rw [← hrl2]; exact folN_len x k
      have HRL := Lib.hid hrl2
      have HOWN := Lib.hid hown
      have HB1 := Lib.hid hb1
      rw [hrl]
      have hz1 := hb1.size
      have hS0 : ∀ g, wr.heap.size ≤ g → B ≤ g := fun g h => by omega
      have HR0 : Hid (∃ (j : Nat) (pre : List (Fin n × Fin n)), j ≤ rl ∧ Value.int .i64 0 = .int .i64 (j : Int) ∧ pre.map valE = edgN l k ++ ((folN x k).take j).map (fun t => (k, t)) ∧ J pre w1 ∧ Stays D W w1 ∧ Stays (fun k => D k ∨ B ≤ k) w1 w1) :=
        ⟨0, pre, Nat.zero_le _, rfl, by rw [HPRE.out]; simp, own_below HJ.out HJ1.out hb1, HS1.out.below hb1, Stays.refl _ _⟩
      clear hown hb1 hrl hrl2 HF HJ1 HS1 HPRE y0
      gi_wp2
      gi_loopw [15] (fun p wr2 => ∃ (j : Nat) (pre : List (Fin n × Fin n)), j ≤ rl ∧ p = .int .i64 (j : Int) ∧ pre.map valE = edgN l k ++ ((folN x k).take j).map (fun t => (k, t)) ∧ J pre wr2 ∧ Stays D W wr2 ∧ Stays (fun k => D k ∨ B ≤ k) w1 wr2) (fun p _ => rl - (intOf p).toNat)
      case atStart => exact HR0.out
      case round =>
        obtain ⟨j, pre, hj, rfl, hpre, hJ2, hS2, hS3⟩ := hrel
        have HPRE := Lib.hid hpre
        have HJ2 := Lib.hid hJ2
        have HS2 := Lib.hid hS2
        have HS3 := Lib.hid hS3
        clear hpre hJ2 hS2 hS3 HR0
        by_cases hlj : j < rl
        · obtain ⟨t, ht⟩ : ∃ t, (folN x k)[j]? = some t := ⟨(folN x k)[j]'(by rw [HRL.out]; exact hlj), List.getElem?_eq_getElem _⟩
          have htn : t < n := by rw [← HN.out]; exact HO.out.fol HX.out (List.mem_of_getElem? ht)
          obtain ⟨g, rfl, cr⟩ : ∃ g, ra = some ⟨g, 0, none⟩ ∧ wr.cell? ⟨g, j, none⟩ = some (.int .i64 (t : Int)) := by
            rcases HOWN.out.2 with ⟨e, e2⟩ | ⟨g, cap', cur, e, hb, hg, hn', hm', hc, ht'⟩
            · exact absurd e2 (by rw [natI_len, HRL.out]; omega)
            · injection e with e1 e2 e3
              subst e1
              refine ⟨g, rfl, ?_⟩
              have h1 : w1.cell? ⟨g, j, none⟩ = some (.int .i64 (t : Int)) := by
                rw [HOWN.out.cellAt j (by rw [natI_len, HRL.out]; omega)]
                unfold natI
                rw [List.getElem?_map, List.getElem?_map, ht]; rfl
              exact (World.cell?_of_block (w := w1) (a := ⟨g, j, none⟩) (HS3.out.at (.inr (by have := hS0 g hb; omega)) (Array.getElem?_eq_some_iff.1 hg).1)).trans h1
          have HPRE2 : Hid ((pre ++ [((⟨k, hlt⟩ : Fin n), (⟨t, htn⟩ : Fin n))]).map valE = edgN l k ++ ((folN x k).take (j + 1)).map (fun t => (k, t))) := by
            show List.map valE (pre ++ [((⟨k, hlt⟩ : Fin n), (⟨t, htn⟩ : Fin n))]) = _
            rw [List.map_append, HPRE.out, List.take_add_one, ht, List.append_assoc]
            simp [valE]
          obtain ⟨fn, tmps, assign, body, hy, hR⟩ := HY.out pre ((⟨k, hlt⟩ : Fin n), (⟨t, htn⟩ : Fin n)) wr HJ2.out
          have HR := Lib.hid hR
          dsimp only [encE] at hy
          clear hR ht HOWN HJ2 HPRE
          gi_wp2
          refine HR.out.mono ?_
          clear HR hy
          rintro e W3 ⟨(⟨rfl, hJ3⟩ | ⟨rfl, hJ3⟩), hst⟩
          · have HREL : Hid (∃ (j' : Nat) (pre' : List (Fin n × Fin n)), j' ≤ rl ∧ Value.int .i64 ((j : Int) + 1) = .int .i64 (j' : Int) ∧ pre'.map valE = edgN l k ++ ((folN x k).take j').map (fun t => (k, t)) ∧ J pre' W3 ∧ Stays D W W3 ∧ Stays (fun k => D k ∨ B ≤ k) w1 W3) :=
              ⟨j + 1, _, hlj, by go_num, HPRE2.out, hJ3, HS2.out.trans (hst.mono fun q _ h => .inl h), HS3.out.trans hst⟩
            clear hJ3 hst HPRE2 HS2 HS3
            gi_wp2
            go_roundw
            case rel => exact HREL.out
            case measure => simp [intOf]; omega
          · have HFIN : Hid (∃ pre : List (Fin n × Fin n), pre.map valE <+: edgN l n ∧ Jx pre W3) := ⟨_, by rw [HPRE2.out]; exact edgN_part HX.out hlt, hJ3⟩
            clear hJ3 hst HPRE2 HS2 HS3
            gi_wp2
            refine bodyPost_ret (results_none rfl _ _ _) rfl ?_
            exact ⟨⟨_, rfl⟩, .inr HFIN.out⟩
        · obtain rfl : j = rl := by omega
          have HREL : Hid (∃ (k' : Nat) (pre' : List (Fin n × Fin n)), k' ≤ n ∧ Value.int .i64 ((k : Int) + 1) = .int .i64 (k' : Int) ∧ pre'.map valE = edgN l k' ∧ J pre' wr ∧ Stays D W wr) := by
            refine ⟨k + 1, pre, hlt, by go_num, ?_, HJ2.out, HS2.out⟩
            rw [HPRE.out, List.take_of_length_le (by rw [HRL.out]; exact Nat.le_refl _)]
            show _ = edgN l k ++ _
            rw [folAt_at HX.out]
          clear HJ2 HPRE HS2 HS3 HOWN
          gi_wp2
          go_roundw
          case rel => exact HREL.out
          case measure => simp [intOf]; omega
    · obtain rfl : k = n := by omega
      have HFIN : Hid (∃ ys : List (Fin k × Fin k), ys.map valE = edgN l k ∧ J ys wr) := ⟨pre, HPRE.out, HJ1.out⟩
      clear HJ1 HPRE HS1 y0 hNA
      gi_wp2
      go_end0
      exact ⟨⟨_, rfl⟩, .inl HFIN.out⟩

theorem edges_in (n : Nat) (a : Option Addr) (m c : Nat) (w : World) :
    CallsIn Fence.wide n Tryd.prog 117 #[.slice a m c] w fun e w' => e = .returned (.func (.func 132) #[] #[.pointer (some ⟨w.heap.size, 0, none⟩)]) ∧ w' = w.alloc (.cells #[.slice a m c] 27) := by
  refine callsIn_of_wp Tryd.func117 rfl trivial ?_ rfl
  simp only [Tryd.ntmps117, List.size_toArray, List.length_cons, List.length_nil, Nat.reduceAdd, Nat.reduceSub, Array.replicate_succ, Array.replicate_zero, List.push_toArray, List.append_toArray, List.nil_append, List.cons_append]
  gi_wp2
  go_ret
  exact ⟨rfl, rfl⟩

/-- **What edges hands back, for every loop body that keeps the list and its box.** -/
theorem edges_seq {n : Nat} (m : Nat) (hm : 1 ≤ m) (Bn : Nat) (D : Nat → Prop) (l : List Ins) (a : Option Addr) (c : Nat) (w : World) (hn : l.length = n) (hok : Okc l)
    (hDB : ∀ k, D k → k < w.heap.size) (hBn : w.heap[Bn]? = some (.cells #[.slice a n c] 27 (0, 0))) (hDn : D Bn) (hL : NAt w D l a) :
    SeqL m Tryd.prog 132 #[.pointer (some ⟨Bn, 0, none⟩)] (encE (n := n)) D (fun ys => ys.map valE = edgN l n) (fun pre => pre.map valE <+: edgN l n) w := fun lp J Jx W hW hl hJ _ hY h0 =>
  edg1_in m hm lp Bn W.heap.size D l a c J Jx hn hok hJ hY W rfl (fun k hk => Nat.lt_of_lt_of_le (hDB k hk) hW.size) ((hW.block Bn (hDB _ hDn)).trans hBn) hDn (hL.wide (fun k hk => hW.block k (hDB k hk)) fun _ h => h) h0

end Go.Proofs.YtbifbmpflhdijaaDoor

namespace Go.Proofs.YtbifbmpflhdijaaDoor
open Go.RowKit Go.Shelf
set_option linter.unusedVariables false

attribute [local go_sem] Oper.semAt_some

/-- A branch. -/
def brB (x : Ins) : Bool := x.op == 9 || x.op == 10
def brAt (l : List Ins) (k : Nat) : Bool := match l[k]? with | some x => brB x | none => false
theorem brAt_at {l : List Ins} {k : Nat} {x : Ins} (h : l[k]? = some x) : brAt l k = brB x := by unfold brAt; rw [h]
/-- Where the branches among the first k instructions may lead. -/
def bndN (l : List Ins) : Nat → List Nat
  | 0 => []
  | k + 1 => bndN l k ++ (if brAt l k = true then folAt l k else [])
theorem bndN_eq (l : List Ins) : ∀ k, ((edgN l k).filter fun p => brAt l p.1).map (·.2) = bndN l k
  | 0 => rfl
  | k + 1 => by
    show (((edgN l k ++ _).filter _).map _) = bndN l k ++ _
    rw [List.filter_append, List.map_append, bndN_eq l k]
    congr 1
    cases hb : brAt l k
    · have : ((folAt l k).map fun t => (k, t)).filter (fun p => brAt l p.1) = [] := by
        rw [List.filter_eq_nil_iff]
        intro p hp
        obtain ⟨t, _, rfl⟩ := List.mem_map.1 hp
        simp [hb]
      rw [this]; simp
    · have : ((folAt l k).map fun t => (k, t)).filter (fun p => brAt l p.1) = (folAt l k).map fun t => (k, t) := by
        rw [List.filter_eq_self]
        intro p hp
        obtain ⟨t, _, rfl⟩ := List.mem_map.1 hp
        exact hb
      rw [this, List.map_map, if_pos rfl]
      exact (List.map_congr_left fun _ _ => rfl).trans (List.map_id _)
abbrev encF {n : Nat} (x : Fin n) : Array Value := #[.int .i64 (x.val : Int)]
/-- Of the edges that have come: the ends of branches. -/
def bF {n : Nat} (l : List Ins) (pre : List (Fin n × Fin n)) : List (Fin n) := (pre.filter fun p => brAt l p.1.val).map (·.2)
theorem bF_val {n : Nat} (l : List Ins) (pre : List (Fin n × Fin n)) : (bF l pre).map Fin.val = ((pre.map valE).filter fun p => brAt l p.1).map (·.2) := by
  unfold bF
  rw [List.map_map, List.filter_map, List.map_map]; rfl
theorem bF_t {n : Nat} {l : List Ins} {pre : List (Fin n × Fin n)} {x : Fin n × Fin n} (h : brAt l x.1.val = true) : bF l (pre ++ [x]) = bF l pre ++ [x.2] := by
  unfold bF; rw [List.filter_append, List.map_append]; simp [h]
theorem bF_f {n : Nat} {l : List Ins} {pre : List (Fin n × Fin n)} {x : Fin n × Fin n} (h : brAt l x.1.val = false) : bF l (pre ++ [x]) = bF l pre := by
  unfold bF; rw [List.filter_append, List.map_append]; simp [h]
theorem bF_all {n : Nat} {l : List Ins} {ys : List (Fin n × Fin n)} (h : ys.map valE = edgN l n) : (bF l ys).map Fin.val = bndN l n := by rw [bF_val, h, bndN_eq]
theorem bF_pre {n : Nat} {l : List Ins} {ys : List (Fin n × Fin n)} (h : ys.map valE <+: edgN l n) : (bF l ys).map Fin.val <+: bndN l n := by
  rw [bF_val, ← bndN_eq]
  exact (h.filter _).map _

theorem roundIn_wide {l2 m m' l : Nat} {P : Program} {f : FuncId} {tmps : Array Value} {assign body : Code} {w : World} {R : Ending → World → Prop} (h : RoundIn Fence.wide m P l f tmps assign body w R) : RoundIn (Fence.wide.inRound l2) m' P l f tmps assign body w R := ⟨h.1, fun c cs _ => h.2 c cs (room_wide _)⟩

set_option maxRecDepth 100000 in
set_option maxHeartbeats 2000000 in
/-- **isBranch.** -/
theorem iBr_one (x : Ins) (w : World) :
    Calls Tryd.prog 118 #[.agg #[.int .i64 x.op, .int .i64 x.fa, .int .i64 x.fb, .int .i64 x.fc, .int .i64 x.fd]] w (YN (brB x) w) := by
  have HB := Lib.hid ((Below.refl w.heap.size w).alloc (Nat.le_refl _) (.cells #[.int .i64 x.op, .int .i64 x.fa, .int .i64 x.fb, .int .i64 x.fc, .int .i64 x.fd] 50))
  obtain ⟨q, hq⟩ : ∃ q, brB x = q := ⟨_, rfl⟩
  have HQ := Lib.hid hq
  rw [hq]
  unfold brB at hq
  cases h9 : (x.op == 9)
  · rw [h9] at hq
    simp only [Bool.false_or] at hq
    clear HQ
    go_enter Tryd.func118, Tryd.ntmps118
    go_wp2_with fail
    go_ret
    exact ⟨rfl, HB.out⟩
  · rw [h9] at hq
    simp only [Bool.true_or] at hq
    subst hq
    clear HQ
    go_enter Tryd.func118, Tryd.ntmps118
    go_wp2_with fail
    go_ret
    exact ⟨rfl, HB.out⟩

set_option maxRecDepth 100000 in
set_option maxHeartbeats 8000000 in
theorem bre1_in {n : Nat} (m : Nat) (hm : 4 ≤ m) (lp Bn B : Nat) (D : Nat → Prop) (l : List Ins) (a : Option Addr) (c : Nat) (J Jx : List (Fin n) → World → Prop) (hn : l.length = n) (hok : Okc l) (hJ : OwnFrom B J) (hJx : OwnFrom B Jx)
    (hY : ∀ pre x W1, J pre W1 → YieldAt Fence.wide (m - 1) Tryd.prog lp (encF x) W1 fun e W' =>
      ((e = .returned (.bool true) ∧ J (pre ++ [x]) W') ∨ (e = .returned (.bool false) ∧ Jx (pre ++ [x]) W')) ∧ Stays (fun k => D k ∨ B ≤ k) W1 W')
    (W : World) (hB : W.heap.size = B) (hDB : ∀ k, D k → k < B) (hBn : W.heap[Bn]? = some (.cells #[.slice a n c] 27 (0, 0))) (hDn : D Bn) (hL : NAt W D l a) (h0 : J [] W) :
    CallsIn Fence.wide m Tryd.prog 116 #[.func (.yield lp) #[] #[], .pointer (some ⟨Bn, 0, none⟩)] W fun e W' => (∃ v, e = .returned v) ∧
      ((∃ ys : List (Fin n), ys.map Fin.val = bndN l n ∧ J ys W') ∨ (∃ pre : List (Fin n), pre.map Fin.val <+: bndN l n ∧ Jx pre W')) := by
  obtain ⟨V, hV⟩ : ∃ V, (W.alloc (.cells #[.func (.yield lp) #[] #[]] 103)).alloc (.cells #[.slice a n c] 27) = V := ⟨_, rfl⟩
  have hz : V.heap.size = B + 2 := by rw [← hV]; simp [hB]
  have hbV : Below W.heap.size W V := by rw [← hV]; exact ((Below.refl _ W).alloc (Nat.le_refl _) _).alloc (by simp) _
  have hq0 : V.heap[B]? = some (.cells #[.func (.yield lp) #[] #[]] 103 (0, 0)) := by
    rw [← hV, Below.heap_alloc _ _ _ (by simp [hB]), ← hB]; exact heap_alloc_new W _
  have hq1 : V.heap[B + 1]? = some (.cells #[.slice a n c] 27 (0, 0)) := by
    have h1 := heap_alloc_new (W.alloc (.cells #[.func (.yield lp) #[] #[]] 103)) (.cells #[.slice a n c] 27)
    rw [World.size_alloc, hB] at h1
    rw [← hV]; exact h1
  have hq2 : V.heap[Bn]? = some (.cells #[.slice a n c] 27 (0, 0)) := (hbV.block Bn (by rw [hB]; exact hDB _ hDn)).trans hBn
  have hLV : NAt V (fun k => D k ∨ (B ≤ k ∧ k < V.heap.size)) l a := hL.wide (fun k hk => hbV.block k (by rw [hB]; exact hDB k hk)) fun k hk => .inl hk
  have hD2 : ∀ k, (D k ∨ (B ≤ k ∧ k < V.heap.size)) → k < V.heap.size := fun k hk => hk.elim (fun h => by have := hDB k h; omega) fun h => h.2
  have HSEQ := Lib.hid (edges_seq (n := n) (m - 1) (by omega) (B + 1) (fun k => D k ∨ (B ≤ k ∧ k < V.heap.size)) l a c V hn hok hD2 hq1 (.inr ⟨by omega, by omega⟩) hLV)
  have x0 : W.cell? ⟨Bn, 0, none⟩ = some (.slice a n c) := by rw [cell_at hBn]; rfl
  have x1 : (W.alloc (.cells #[.func (.yield lp) #[] #[]] 103)).cell? ⟨Bn, 0, none⟩ = some (.slice a n c) := by
    rw [cell_at ((Below.heap_alloc W _ _ (by rw [hB]; exact hDB _ hDn)).trans hBn)]; rfl
  -- what stands in every world that a round has left
  have HS : Hid (∀ v, Stays (fun k => D k ∨ (B ≤ k ∧ k < V.heap.size)) V v → v.heap[Bn]? = some (.cells #[.slice a n c] 27 (0, 0)) ∧ v.heap[B]? = some (.cells #[.func (.yield lp) #[] #[]] 103 (0, 0)) ∧ NAt v (fun b => b < v.heap.size) l a) := fun v hv =>
    ⟨hv.same _ _ (.inl hDn) hq2, hv.same _ _ (.inr ⟨Nat.le_refl _, by omega⟩) hq0, hLV.wide (fun k hk => hv.at hk (hD2 k hk)) fun k hk => Nat.lt_of_lt_of_le (hD2 k hk) hv.size⟩
  have HY := Lib.hid hY
  have HJ := Lib.hid hJ
  have HJX := Lib.hid hJx
  have HV := Lib.hid hV
  have HD2 := Lib.hid hD2
  have HJ0 : Hid (J [] V) := own_below hJ h0 hbV
  clear hY hJ hJx hV hq0 hq1 hq2 hLV hbV hBn hL h0 hD2
  subst hB
  refine callsIn_of_wp_marks Tryd.func116 rfl trivial ?_ rfl
  simp only [Tryd.ntmps116, List.size_toArray, List.length_cons, List.length_nil, Nat.reduceAdd, Nat.reduceSub, Array.replicate_succ, Array.replicate_zero, List.push_toArray, List.append_toArray, List.nil_append, List.cons_append]
  have h1m : 1 ≤ m := by omega
  have h2m : 1 ≤ m - 1 - 1 := by omega
  gi_wp2_with (refine ⟨trivial, ?_⟩; gi_at_call 117; refine (edges_in _ _ _ _ _).mono ?_; rintro e w2 ⟨rfl, rfl⟩)
  rw [HV.out]
  refine wpIn_rangeL h1m (gf := 132) (lb := #[.pointer (some ⟨W.heap.size + 1, 0, none⟩)]) rfl (enters_of Tryd.func132 (by kernel_rfl) rfl)
    HSEQ.out HD2.out (Below.refl _ _) (fun _ => rfl)
    (fun pre U => J (bF l pre) U ∧ Stays (fun k => D k ∨ (W.heap.size ≤ k ∧ k < V.heap.size)) V U)
    (fun cc pre U => cc = .ret ∧ Jx (bF l pre) U)
    (fun pre X Y row hs hg hr => ⟨HJ.out _ X Y row hs.1 hg (fun r e => ⟨by have := (hr r e).1; omega, (hr r e).2⟩), hs.2.trans ⟨hg.size, fun k o hk ho => by
      have h1 : k < V.heap.size := HD2.out k hk
      exact (hg.block k (Array.getElem?_eq_some_iff.1 ho).1 fun e => by have := (hr k e.symm).1; omega).trans ho⟩⟩)
    (fun cc pre X Y row hs hg hr => ⟨hs.1, HJX.out _ X Y row hs.2 hg (fun r e => ⟨by have := (hr r e).1; omega, (hr r e).2⟩)⟩)
    ⟨HJ0.out, Stays.refl _ _⟩
    (fun x => { tmps := #[.func (.yield lp) #[] #[], .pointer (some ⟨Bn, 0, none⟩), .pointer (some ⟨W.heap.size, 0, none⟩), .int .i64 (x.1.val : Int), .int .i64 (x.2.val : Int), .slice a n c, .func (.func 132) #[] #[.pointer (some ⟨W.heap.size + 1, 0, none⟩)], .int .i64 (x.1.val : Int), .int .i64 (x.2.val : Int), undef, undef, undef, undef, undef, undef, undef, undef, undef, undef, undef], defers := [] }) ?assign ?body ?done ?stop
  case assign =>
    intro l2 x U K hK
    gi_wp2
    exact hK
  case body =>
    rintro l2 pre x U ⟨hJ1, hS1⟩
    obtain ⟨⟨xk, hxk⟩, ⟨xt, hxt⟩⟩ := x
    dsimp only
    obtain ⟨hb0, hb1, hNA⟩ := HS.out U hS1
    obtain ⟨y, hy⟩ : ∃ y, l[xk]? = some y := ⟨l[xk]'(by rw [hn]; exact hxk), List.getElem?_eq_getElem _⟩
    obtain ⟨b, o, rfl, hbl, e0, e1, e2, e3, e4⟩ := hNA.2 xk y hy
    have HYK := Lib.hid (brAt_at hy)
    have HJ1 := Lib.hid hJ1
    have HS1 := Lib.hid hS1
    have HB1 := Lib.hid hb1
    have y0 : U.cell? ⟨Bn, 0, none⟩ = some (.slice (some ⟨b, o, none⟩) n c) := by rw [cell_at hb0]; rfl
    obtain ⟨q, hq⟩ : ∃ q, brB y = q := ⟨_, rfl⟩
    have HQ := Lib.hid hq
    have HI := Lib.hid (iBr_one y U)
    have hblt := (Array.getElem?_eq_some_iff.1 hb1).1
    clear hq hy hNA hJ1 hS1 hb0 hb1 x0 x1
    cases q
    case false =>
      gi_wp2_with (refine ⟨trivial, ?_⟩; gi_at_call 118; refine (CallsIn.inRound l2 (callsIn_wide.2 HI.out)).mono ?_; rintro e w2 ⟨rfl, hb2⟩; rw [HQ.out]; have hJ2 := own_below HJ.out HJ1.out hb2; have hS2 := HS1.out.below hb2)
      refine ⟨fun _ h => (by cases h), ?_⟩
      have HFIN : Hid (Stays (fun k => (D k ∨ (W.heap.size ≤ k ∧ k < V.heap.size)) ∨ V.heap.size ≤ k) U w2 ∧ J (bF l (pre ++ [((⟨xk, hxk⟩ : Fin n), (⟨xt, hxt⟩ : Fin n))])) w2 ∧ Stays (fun k => D k ∨ (W.heap.size ≤ k ∧ k < V.heap.size)) V w2) :=
        ⟨(Stays.refl _ _).below hb2, by rw [bF_f (HYK.out.trans HQ.out)]; exact hJ2, hS2⟩
      clear hJ2 hS2 hb2
      gi_wp2
      exact HFIN.out
    case true =>
      gi_wp2_with (refine ⟨trivial, ?_⟩; gi_at_call 118; refine (CallsIn.inRound l2 (callsIn_wide.2 HI.out)).mono ?_; rintro e w2 ⟨rfl, hb2⟩; rw [HQ.out]; have hJ2 := own_below HJ.out HJ1.out hb2; have hS2 := HS1.out.below hb2; have z0 : w2.cell? ⟨W.heap.size, 0, none⟩ = some (.func (.yield lp) #[] #[]) := (by rw [cell_at ((hb2.block _ hblt).trans HB1.out)]; rfl); obtain ⟨fn, tmps, assign, body, hy, hR⟩ := HY.out (bF l pre) ⟨xt, hxt⟩ w2 hJ2; dsimp only [encF] at hy; have HR := Lib.hid (roundIn_wide (l2 := l2) (m' := m - 1 - 1 - 1) hR); clear hR)
      refine HR.out.mono ?_
      clear HR hy
      rintro e W3 ⟨hans, hst⟩
      have HST : Hid (Stays (fun k => (D k ∨ (W.heap.size ≤ k ∧ k < V.heap.size)) ∨ V.heap.size ≤ k) U W3) :=
        ((Stays.refl _ U).below hb2).trans (hst.mono fun k _ h => h.elim (fun h => h.elim .inl fun h => .inr h.1) fun h => .inr (by omega))
      have HS3 : Hid (Stays (fun k => D k ∨ (W.heap.size ≤ k ∧ k < V.heap.size)) V W3) := hS2.trans (hst.mono fun k _ h => h.elim .inl fun h => .inr h.1)
      have HBT := Lib.hid (bF_t (pre := pre) (x := ((⟨xk, hxk⟩ : Fin n), (⟨xt, hxt⟩ : Fin n))) (HYK.out.trans HQ.out))
      clear hst hS2 hb2 hJ2
      rcases hans with ⟨rfl, hJ3⟩ | ⟨rfl, hJ3⟩
      · have HFIN : Hid (J (bF l (pre ++ [((⟨xk, hxk⟩ : Fin n), (⟨xt, hxt⟩ : Fin n))])) W3) := by rw [HBT.out]; exact hJ3
        clear hJ3
        gi_wp2
        exact ⟨HST.out, HFIN.out, HS3.out⟩
      · have HFIN : Hid (Jx (bF l (pre ++ [((⟨xk, hxk⟩ : Fin n), (⟨xt, hxt⟩ : Fin n))])) W3) := by rw [HBT.out]; exact hJ3
        clear hJ3
        gi_wp2
        exact ⟨HST.out, rfl, HFIN.out⟩
  case done =>
    rintro d ys U hd hys ⟨hJ1, hS1⟩ hKd
    have HFIN : Hid (∃ zs : List (Fin n), zs.map Fin.val = bndN l n ∧ J zs (U.putObj d (.deferred none))) := ⟨bF l ys, bF_all hys, HJ.out.putObj _ hJ1 (by omega) hKd rfl⟩
    have HKD := Lib.hid hKd
    clear hJ1 hS1 hKd hys
    gi_wp2
    refine ⟨by simp, .inl ⟨_, _, rfl, run_takeDeferred HKD.out, ?_⟩⟩
    exact ⟨_, results_none rfl _ _ _, ⟨_, rfl⟩, .inl HFIN.out⟩
  case stop =>
    rintro d cc pre U hd hys ⟨rfl, hJ1⟩ hKd
    have HFIN : Hid (∃ zs : List (Fin n), zs.map Fin.val <+: bndN l n ∧ Jx zs (U.putObj d (.deferred none))) := ⟨bF l pre, bF_pre hys, HJX.out.putObj _ hJ1 (by omega) hKd rfl⟩
    have HKD := Lib.hid hKd
    clear hJ1 hKd hys
    gi_wp2
    refine ⟨by simp, .inl ⟨_, _, rfl, run_takeDeferred HKD.out, ?_⟩⟩
    exact ⟨_, results_none rfl _ _ _, ⟨_, rfl⟩, .inr HFIN.out⟩

theorem brEnds_in (n : Nat) (a : Option Addr) (m c : Nat) (w : World) :
    CallsIn Fence.wide n Tryd.prog 88 #[.slice a m c] w fun e w' => e = .returned (.func (.func 116) #[] #[.pointer (some ⟨w.heap.size, 0, none⟩)]) ∧ w' = w.alloc (.cells #[.slice a m c] 27) := by
  refine callsIn_of_wp Tryd.func88 rfl trivial ?_ rfl
  simp only [Tryd.ntmps88, List.size_toArray, List.length_cons, List.length_nil, Nat.reduceAdd, Nat.reduceSub, Array.replicate_succ, Array.replicate_zero, List.push_toArray, List.append_toArray, List.nil_append, List.cons_append]
  gi_wp2
  go_ret
  exact ⟨rfl, rfl⟩

/-- **What branchEnds hands back, for every loop body that keeps the list and its box.** -/
theorem brEnds_seq {n : Nat} (m : Nat) (hm : 4 ≤ m) (Bn : Nat) (D : Nat → Prop) (l : List Ins) (a : Option Addr) (c : Nat) (w : World) (hn : l.length = n) (hok : Okc l)
    (hDB : ∀ k, D k → k < w.heap.size) (hBn : w.heap[Bn]? = some (.cells #[.slice a n c] 27 (0, 0))) (hDn : D Bn) (hL : NAt w D l a) :
    SeqL m Tryd.prog 116 #[.pointer (some ⟨Bn, 0, none⟩)] (encF (n := n)) D (fun ys => ys.map Fin.val = bndN l n) (fun pre => pre.map Fin.val <+: bndN l n) w := fun lp J Jx W hW hl hJ hJx hY h0 =>
  bre1_in m hm lp Bn W.heap.size D l a c J Jx hn hok hJ hJx hY W rfl (fun k hk => Nat.lt_of_lt_of_le (hDB k hk) hW.size) ((hW.block Bn (hDB _ hDn)).trans hBn) hDn (hL.wide (fun k hk => hW.block k (hDB k hk)) fun _ h => h) h0

end Go.Proofs.YtbifbmpflhdijaaDoor

namespace Go.Proofs.YtbifbmpflhdijaaDoor
open Go.RowKit Go.Shelf
set_option linter.unusedVariables false

attribute [local go_sem] Oper.semAt_some

/-- Instruction t is a fence. -/
def okE (l : List Ins) (t : Nat) : Bool := match l[t]? with | some x => x.op == 12 | none => true
theorem okE_at {l : List Ins} {t : Nat} {x : Ins} (h : l[t]? = some x) : okE l t = (x.op == 12) := by unfold okE; rw [h]
def fncL (l : List Ins) : Bool := (bndN l l.length).all (okE l)
/-- What CodeFenced answers. -/
def fncB (m : Cd) : Bool := codeB m && fncL m.list
theorem fncB_no {m : Cd} (h : codeB m = false) : false = fncB m := by unfold fncB; rw [h]; rfl
theorem fncB_yes {m : Cd} (h : codeB m = true) {b : Bool} (h2 : fncL m.list = b) : b = fncB m := by unfold fncB; rw [h, h2]; rfl
theorem fncL_no {l : List Ins} {n : Nat} {pre : List (Fin n)} (hp : pre.map Fin.val <+: bndN l l.length) {t : Fin n} (ht : t ∈ pre) (h : okE l t.val = false) : fncL l = false := by
  unfold fncL
  rw [List.all_eq_false]
  exact ⟨t.val, hp.subset (List.mem_map.2 ⟨t, ht, rfl⟩), by rw [h]; decide⟩
theorem fncL_yes {l : List Ins} {n : Nat} {ys : List (Fin n)} (hp : ys.map Fin.val = bndN l l.length) (h : ∀ t ∈ ys, okE l t.val = true) : fncL l = true := by
  unfold fncL
  rw [List.all_eq_true, ← hp]
  intro x hx
  obtain ⟨t, ht, rfl⟩ := List.mem_map.1 hx
  exact h t ht

end Go.Proofs.YtbifbmpflhdijaaDoor

namespace Go.Proofs.YtbifbmpflhdijaaDoor
open Go.RowKit
set_option linter.unusedVariables false

theorem bndN_yes {l : List Ins} {j : Nat} {x : Ins} (hx : l[j]? = some x) (hb : brB x = true) : bndN l (j + 1) = bndN l j ++ [x.fb.toNat, j + 1] := by
  show bndN l j ++ _ = _
  have h9 : x.op = 9 ∨ x.op = 10 := by unfold brB at hb; simpa using hb
  rw [brAt_at hx, hb, if_pos rfl, folAt_at hx]
  unfold folN
  rw [if_neg (by omega), if_pos h9]
theorem bndN_no {l : List Ins} {j : Nat} {x : Ins} (hx : l[j]? = some x) (hb : brB x = false) : bndN l (j + 1) = bndN l j := by
  show bndN l j ++ _ = _
  rw [brAt_at hx, hb]; simp
/-- The marks of the first j instructions. -/
def MkT (l : List Ins) (n j : Nat) (ys : List Bool) : Prop := ys.length = n ∧ ∀ t, t < n → ys[t]? = some (decide (t ∈ bndN l j))
theorem MkT.start (l : List Ins) (n : Nat) : MkT l n 0 (List.replicate n false) := ⟨List.length_replicate, fun t ht => by rw [List.getElem?_replicate, if_pos ht]; simp [bndN]⟩
theorem MkT.no {l : List Ins} {n j : Nat} {ys : List Bool} {x : Ins} (h : MkT l n j ys) (hx : l[j]? = some x) (hb : brB x = false) : MkT l n (j + 1) ys := by
  unfold MkT; rw [bndN_no hx hb]; exact h
theorem MkT.yes {l : List Ins} {n j f : Nat} {ys : List Bool} {x : Ins} (h : MkT l n j ys) (hx : l[j]? = some x) (hb : brB x = true) (hf : x.fb = (f : Int)) : MkT l n (j + 1) ((ys.set (j + 1) true).set f true) := by
  refine ⟨by rw [List.length_set, List.length_set]; exact h.1, fun t ht => ?_⟩
  rw [bndN_yes hx hb, show x.fb.toNat = f by omega]
  by_cases e1 : t = f
  · subst e1
    rw [List.getElem?_set_self (by rw [List.length_set, h.1]; exact ht)]
    simp
  · rw [List.getElem?_set_ne (by omega)]
    by_cases e2 : t = j + 1
    · subst e2
      rw [List.getElem?_set_self (by rw [h.1]; exact ht)]
      simp
    · rw [List.getElem?_set_ne (by omega), h.2 t ht]
      simp [e1, e2]

set_option maxRecDepth 100000 in
set_option maxHeartbeats 2000000 in
/-- **l11Branch.** -/
theorem sBr_one (x : Ins) (w : World) :
    Calls Tryd.prog 86 #[.agg #[.int .i64 x.op, .int .i64 x.fa, .int .i64 x.fb, .int .i64 x.fc, .int .i64 x.fd]] w (YN (brB x) w) := by
  have HB := Lib.hid ((Below.refl w.heap.size w).alloc (Nat.le_refl _) (.cells #[.int .i64 x.op, .int .i64 x.fa, .int .i64 x.fb, .int .i64 x.fc, .int .i64 x.fd] 50))
  obtain ⟨q, hq⟩ : ∃ q, brB x = q := ⟨_, rfl⟩
  rw [hq]
  unfold brB at hq
  cases h9 : (x.op == 9)
  · rw [h9] at hq
    simp only [Bool.false_or] at hq
    go_enter Tryd.func86, Tryd.ntmps86
    go_wp2_with fail
    go_ret
    exact ⟨rfl, HB.out⟩
  · rw [h9] at hq
    simp only [Bool.true_or] at hq
    subst hq
    go_enter Tryd.func86, Tryd.ntmps86
    go_wp2_with fail
    go_ret
    exact ⟨rfl, HB.out⟩

/-- The marks in a row of the call's own. -/
def MkA (l : List Ins) (n : Nat) (w : World) (e : Ending) (w' : World) : Prop := ∃ ys, e = .returned (.slice (some ⟨w.heap.size + 1, 0, none⟩) n n) ∧ MkT l n n ys ∧ w'.ownsRow (w.heap.size + 1) 4 1 (.slice (some ⟨w.heap.size + 1, 0, none⟩) n n) n (ys.map Value.bool) ∧ Below w.heap.size w w'
def MkL (l : List Ins) (n : Nat) (W : World) (i : Value) (wr : World) : Prop := ∃ (j : Nat) (ys : List Bool), j ≤ n ∧ i = .int .i64 (j : Int) ∧ MkT l n j ys ∧ wr.ownsRow W.heap.size 4 1 (.slice (some ⟨W.heap.size, 0, none⟩) n n) n (ys.map Value.bool) ∧ Below W.heap.size W wr

set_option maxRecDepth 100000 in
set_option maxHeartbeats 8000000 in
/-- **l11Marks.** -/
theorem sMk_one (m : Cd) (k : CK) (w : World) (n : Nat) (hn : m.list.length = n) (h : CL w m k) (hok : Okc m.list) : Calls Tryd.prog 39 #[aggC m k] w (MkA m.list n w) := by
  obtain ⟨i0, hi, hz0, hz1, hz2⟩ := info_parts Tryd.infoB
  have hle : n ≤ 400 := by rw [← hn]; exact hok.le
  obtain ⟨W, hW⟩ : ∃ W, w.alloc (.cells (arrC m k) 29) = W := ⟨_, rfl⟩
  have hB : Below w.heap.size w W := by rw [← hW]; exact (Below.refl _ w).alloc (Nat.le_refl _) _
  have hz : W.heap.size = w.heap.size + 1 := by rw [← hW]; simp
  have hX : BoxC W w.heap.size m k := by rw [← hW]; exact BoxC.new _ _ _ _
  have H : Hid (∀ v, Below W.heap.size W v → v.cell? ⟨w.heap.size, 2, none⟩ = some (.slice k.la n k.lc) ∧ NAt v (fun b => b < v.heap.size) m.list k.la) := fun v hv => ⟨by rw [← hn]; exact (hX.below hv hX.lt).c2, ((h.below hB).below hv).2.2⟩
  have x2 := (H.out W (Below.refl _ _)).1
  have HW := Lib.hid hW
  have HB := Lib.hid hB
  have HZ := Lib.hid hz
  have HN := Lib.hid hn
  have HO := Lib.hid hok
  unfold arrC at HW
  clear h hW hB hX hz hn hok
  go_enter Tryd.func39, Tryd.ntmps39
  go_wp2_with (first
    | (at_make
       try rw [HW.out]
       refine wpList_make_full _ rfl _ _ 47 rfl W.heap.size 4 i0 (.bool false) 1 Tryd.underlying47 hi hz0 hz1 .i64 .i64 (n : Int) (n : Int) n rfl rfl rfl rfl (by rw [hz2]; omega) (by unfold maxLen; omega) (Nat.le_refl _) ?_
       intro w1 hown1 hgrow1
       rw [falses] at hown1
       have hb1 : Below W.heap.size W w1 := (Below.refl _ W).grown hgrow1 (Nat.le_refl _) (fun k e => (by cases e))
       have HL0 : Hid (MkL m.list n W (.int .i64 0) w1) := ⟨0, _, Nat.zero_le _, rfl, MkT.start _ _, hown1, hb1⟩
       clear hown1 hgrow1 hb1)
    | rw [HW.out]
    | fail)
  go_loopw [4] (fun i wr => MkL m.list n W i wr) (fun i _ => n - (intOf i).toNat)
  case atStart => exact HL0.out
  case round =>
    obtain ⟨j, ys, hj, rfl, hmk, hrow, hb⟩ := hrel
    obtain ⟨z2, hNA⟩ := H.out wr hb
    have HMK := Lib.hid hmk
    have HROW := Lib.hid hrow
    have HBR := Lib.hid hb
    have hzr := hb.size
    clear hmk hb HL0 x2
    by_cases hlt : j < n
    · obtain ⟨x, hx⟩ : ∃ x, m.list[j]? = some x := ⟨m.list[j]'(by rw [HN.out]; exact hlt), List.getElem?_eq_getElem _⟩
      obtain ⟨b, o, ha, hbl, e0, e1, e2, e3, e4⟩ := hNA.2 j x hx
      rw [ha] at z2
      have HX := Lib.hid hx
      have HI := Lib.hid (sBr_one x wr)
      have HA := Lib.hid ha
      clear hx hNA hrow ha
      obtain ⟨q, hq⟩ : ∃ q, brB x = q := ⟨_, rfl⟩
      have HQ := Lib.hid hq
      rw [hq] at HI
      clear hq
      go_wp2_with fail
      refine HI.out.mono ?_
      rintro e w2 ⟨rfl, hb2⟩
      have HB2 : Hid (Below W.heap.size W w2) := HBR.out.trans (hb2.mono hzr)
      have hROW2 := HROW.out.far5 (w' := w2) (fun g _ hl => hb2.block g hl)
      have hz2 := hb2.size
      cases q
      case false =>
        have HREL : Hid (MkL m.list n W (.int .i64 ((j : Int) + 1)) w2) := ⟨j + 1, ys, hlt, by go_num, HMK.out.no HX.out HQ.out, hROW2, HB2.out⟩
        clear hb2 hROW2 HROW HMK HI
        go_wp2_with fail
        go_roundw
        case rel => exact HREL.out
        case measure => simp [intOf]; omega
      case true =>
        have h9 : x.op = 9 ∨ x.op = 10 := by have := HQ.out; unfold brB at this; simpa using this
        obtain ⟨hf0, hf1⟩ := HO.out.jb j x HX.out h9
        have hnx := HO.out.nx j x HX.out (by omega) (by omega)
        rw [HN.out] at hf1 hnx
        obtain ⟨f, hf⟩ : ∃ f : Nat, x.fb = (f : Int) := ⟨x.fb.toNat, by omega⟩
        have HF := Lib.hid hf
        obtain ⟨⟨s0, hs0⟩, g0⟩ := ownsRow_cellx hROW2 (j + 1) (by omega)
        have hst := (hROW2.stored (j + 1) (.bool true)).1
        rw [← List.map_set] at hst
        obtain ⟨V, hV⟩ : ∃ V, w2.setCell ⟨W.heap.size, j + 1, none⟩ (.bool true) = V := ⟨_, rfl⟩
        rw [hV] at hst
        have hBV : Below W.heap.size W V := by rw [← hV]; exact HB2.out.setCell (p := ⟨W.heap.size, j + 1, none⟩) (Nat.le_refl _) _
        obtain ⟨v2, hNAV⟩ := H.out V hBV
        obtain ⟨b', o', ha', hbl', c0, c1, c2, c3, c4⟩ := hNAV.2 j x HX.out
        rw [ha'] at v2
        rw [hf] at c2
        obtain ⟨⟨s1, hs1⟩, g1⟩ := ownsRow_cellx hst f (by omega)
        have hst2 := (hst.stored f (.bool true)).1
        rw [← List.map_set] at hst2
        have HREL : Hid (MkL m.list n W (.int .i64 ((j : Int) + 1)) (V.setCell ⟨W.heap.size, f, none⟩ (.bool true))) := ⟨j + 1, _, hlt, by go_num, HMK.out.yes HX.out HQ.out HF.out, hst2, hBV.setCell (p := ⟨W.heap.size, f, none⟩) (Nat.le_refl _) _⟩
        obtain ⟨y2, _⟩ := H.out w2 HB2.out
        rw [ha'] at y2
        clear ha'
        have HV := Lib.hid hV
        have hfn : f < n := by omega
        clear hb2 hROW2 HROW HMK HI hst hst2 hBV hNAV h9 hf hV hf0 hf1 c1 c3 c4 e0 e1 e2 e3 e4 c0 z2
        go_wp2_with (first | rw [HV.out] | fail)
        try rw [HV.out]
        go_roundw
        case rel => exact HREL.out
        case measure => simp [intOf]; omega
    · obtain rfl : j = n := by omega
      have HFIN : Hid (MkA m.list j w (.returned (.slice (some ⟨W.heap.size, 0, none⟩) j j)) wr) := by
        have hz := HZ.out
        refine ⟨ys, by rw [hz], HMK.out, by rw [← hz]; exact HROW.out, HB.out.trans (HBR.out.mono (by omega))⟩
      clear HROW HMK hrow hNA
      go_wp2_with fail
      go_ret
      exact HFIN.out

/-- None of the first j marked instructions is another one than a fence. -/
def NoGap (l : List Ins) (n j : Nat) : Prop := ∀ t, t < j → t ∈ bndN l n → okE l t = true
theorem fncL_of {l : List Ins} {n : Nat} (hn : l.length = n) (hok : Okc l) (h : NoGap l n n) : fncL l = true := by
  unfold fncL
  rw [List.all_eq_true, hn]
  intro t ht
  by_cases hlt : t < n
  · exact h t hlt ht
  · unfold okE
    rw [List.getElem?_eq_none (by omega)]
theorem fncL_off {l : List Ins} {n t : Nat} (hn : l.length = n) (ht : t ∈ bndN l n) (h : okE l t = false) : fncL l = false := by
  unfold fncL
  rw [List.all_eq_false, hn]
  exact ⟨t, ht, by rw [h]; decide⟩

end Go.Proofs.YtbifbmpflhdijaaDoor

namespace Go.Proofs.YtbifbmpflhdijaaDoor
open Go.RowKit
set_option linter.unusedVariables false

def fenI : Ins := ⟨12, 0, 0, 0, 0⟩
/-- A fence belongs before instruction t, and is not there yet. -/
def opnB (l : List Ins) (t : Nat) : Bool := decide (t ∈ bndN l l.length) && !okE l t
def pcF (l : List Ins) (q : Nat) : List Ins := match l[q]? with | some x => if opnB l q = true then [fenI, x] else [x] | none => []
theorem pcF_t {l : List Ins} {q : Nat} {x : Ins} (hx : l[q]? = some x) (h : opnB l q = true) : pcF l q = [fenI, x] := by unfold pcF; rw [hx]; simp [h]
theorem pcF_f {l : List Ins} {q : Nat} {x : Ins} (hx : l[q]? = some x) (h : opnB l q = false) : pcF l q = [x] := by unfold pcF; rw [hx]; simp [h]
theorem pcF_le (l : List Ins) (q : Nat) : (pcF l q).length ≤ 2 := by
  unfold pcF; split
  · split <;> simp
  · simp
theorem pcF_mem {l : List Ins} {q : Nat} {x : Ins} (h : x ∈ pcF l q) : x = fenI ∨ l[q]? = some x := by
  unfold pcF at h
  split at h
  · rename_i y hy
    split at h
    · simp at h
      rcases h with h | h
      · exact .inl h
      · exact .inr (by rw [hy, h])
    · simp at h
      exact .inr (by rw [hy, h])
  · simp at h
/-- Fenced code. -/
def fenceL (l : List Ins) : List Ins := subL (pcF l) l.length
theorem fenceL_le {l : List Ins} (h : l.length ≤ 400) : (fenceL l).length ≤ 800 := by
  unfold fenceL
  rw [subL_len]
  have := splN_le (pcF_le l) l.length
  omega

/-- The open ends, of those that have come. -/
def OpT (l : List Ins) (n : Nat) (es : List Nat) (ys : List Bool) : Prop := ys.length = n ∧ ∀ t, t < n → ys[t]? = some (decide (t ∈ es) && !okE l t)
theorem OpT.start (l : List Ins) (n : Nat) : OpT l n [] (List.replicate n false) := ⟨List.length_replicate, fun t ht => by rw [List.getElem?_replicate, if_pos ht]; simp⟩
theorem OpT.set {l : List Ins} {n t : Nat} {es : List Nat} {ys : List Bool} {b : Bool} (h : OpT l n es ys) (ht : t < n) (hb : okE l t = !b) : OpT l n (es ++ [t]) (ys.set t b) := by
  refine ⟨by rw [List.length_set]; exact h.1, fun s hs => ?_⟩
  by_cases e : s = t
  · subst e
    rw [List.getElem?_set_self (by rw [h.1]; exact hs)]
    simp [hb]
  · rw [List.getElem?_set_ne (by omega), h.2 s hs]
    simp [e]

set_option maxRecDepth 100000 in
set_option maxHeartbeats 2000000 in
/-- **fenced's closure.** -/
theorem feC_one (l : List Ins) (ys : List Bool) (a ka : Option Addr) (n c kc b1 b2 q : Nat) (w : World) (hq : q < n) (hn : l.length = n) (hys : OpT l n (bndN l n) ys) (hcap : n ≤ c) (hm : n ≤ 400)
    (h1 : w.cell? ⟨b1, 0, none⟩ = some (.slice ka n kc)) (h2 : w.cell? ⟨b2, 0, none⟩ = some (.slice a n c)) (h : NAt w (fun b => b < w.heap.size) l a) (hk : BAt w (fun b => b < w.heap.size) ys ka) :
    Calls Tryd.prog 90 #[.int .i64 (q : Int), .pointer (some ⟨b1, 0, none⟩), .pointer (some ⟨b2, 0, none⟩)] w (PcA (pcF l q) w) := by
  obtain ⟨x, hx⟩ : ∃ x, l[q]? = some x := ⟨l[q]'(by omega), List.getElem?_eq_getElem _⟩
  have hbb := hys.2 q hq
  rw [← hn] at hbb
  change ys[q]? = some (opnB l q) at hbb
  obtain ⟨b, o, rfl, hbl, e0, e1, e2, e3, e4⟩ := h.2 q x hx
  obtain ⟨b', o', rfl, hbl', f0⟩ := hk.2 q _ hbb
  obtain ⟨d, hd⟩ : ∃ d, opnB l q = d := ⟨_, rfl⟩
  rw [hd] at f0
  cases d
  case false =>
    have HFIN : Hid (PcA (pcF l q) w (.returned (.slice (some ⟨b, o + q * 5, none⟩) 1 (c - q))) w) := by
      rw [pcF_f hx hd]
      refine ⟨some ⟨b, o + q * 5, none⟩, c - q, rfl, ⟨by unfold maxLen; simp, fun i y hy => ?_⟩, Below.refl _ _⟩
      have hi : i = 0 := by
        have := (List.getElem?_eq_some_iff.1 hy).1
        simpa using this
      subst hi
      simp at hy
      subst hy
      exact ⟨b, o + q * 5, rfl, hbl, by simpa using e0, by simpa using e1, by simpa using e2, by simpa using e3, by simpa using e4⟩
    have n1 : ¬ c = q := by omega
    have n2 : ¬ q = c := by omega
    clear h hk hx hbb e0 e1 e2 e3 e4 hn hd hys
    go_enter Tryd.func90, Tryd.ntmps90
    go_wp2_with fail
    go_ret
    exact HFIN.out
  case true =>
    obtain ⟨V, hV⟩ : ∃ V, w.alloc (.cells #[.int .i64 12, .int .i64 0, .int .i64 0, .int .i64 0, .int .i64 0, .int .i64 x.op, .int .i64 x.fa, .int .i64 x.fb, .int .i64 x.fc, .int .i64 x.fd] 50) = V := ⟨_, rfl⟩
    have hbx : V.heap[w.heap.size]? = some (.cells #[.int .i64 12, .int .i64 0, .int .i64 0, .int .i64 0, .int .i64 0, .int .i64 x.op, .int .i64 x.fa, .int .i64 x.fb, .int .i64 x.fc, .int .i64 x.fd] 50 (0, 0)) := by rw [← hV]; exact heap_alloc_new w _
    have HFIN : Hid (PcA (pcF l q) w (.returned (.slice (some ⟨w.heap.size, 0, none⟩) 2 2)) V) := by
      rw [pcF_t hx hd]
      refine ⟨some ⟨w.heap.size, 0, none⟩, 2, rfl, ⟨by unfold maxLen; simp, fun i y hy => ?_⟩, by rw [← hV]; exact (Below.refl _ w).alloc (Nat.le_refl _) _⟩
      have hi : i = 0 ∨ i = 1 := by
        have := (List.getElem?_eq_some_iff.1 hy).1
        simp at this; omega
      rcases hi with hi | hi
      · subst hi
        simp at hy
        subst hy
        exact ⟨w.heap.size, 0, rfl, (Array.getElem?_eq_some_iff.1 hbx).1, by rw [cell_at hbx]; rfl, by rw [cell_at hbx]; rfl, by rw [cell_at hbx]; rfl, by rw [cell_at hbx]; rfl, by rw [cell_at hbx]; rfl⟩
      · subst hi
        simp at hy
        subst hy
        exact ⟨w.heap.size, 0, rfl, (Array.getElem?_eq_some_iff.1 hbx).1, by rw [cell_at hbx]; rfl, by rw [cell_at hbx]; rfl, by rw [cell_at hbx]; rfl, by rw [cell_at hbx]; rfl, by rw [cell_at hbx]; rfl⟩
    have HV := Lib.hid hV
    clear h hk hx hbb hn hd hys hV hbx
    go_enter Tryd.func90, Tryd.ntmps90
    go_wp2_with (first | rw [HV.out] | fail)
    try rw [HV.out]
    go_ret
    exact HFIN.out

end Go.Proofs.YtbifbmpflhdijaaDoor

namespace Go.Proofs.YtbifbmpflhdijaaDoor
open Go.RowKit Go.Shelf
set_option linter.unusedVariables false

attribute [local go_sem] Oper.semAt_some

theorem mixedFe : Tryd.prog.follows .mixedOrders = true := by kernel_rfl

set_option maxRecDepth 100000 in
set_option maxHeartbeats 8000000 in
theorem fenced_in (l : List Ins) (a : Option Addr) (n c : Nat) (w : World) (h : NAt w (fun b => b < w.heap.size) l a) (hn : l.length = n) (hok : Okc l) (hcap : n ≤ c) :
    CallsIn Fence.wide 8 Tryd.prog 45 #[.slice a n c] w (CloneN (fenceL l) (fenceL l).length w) := by
  obtain ⟨i0, hi, hz0, hz1, hz2⟩ := info_parts Tryd.infoB
  have hle : n ≤ 400 := by rw [← hn]; exact hok.le
  obtain ⟨W, hW⟩ : ∃ W, w.alloc (.cells #[.slice a n c] 27) = W := ⟨_, rfl⟩
  have hB : Below w.heap.size w W := by rw [← hW]; exact (Below.refl _ w).alloc (Nat.le_refl _) _
  have hz : W.heap.size = w.heap.size + 1 := by rw [← hW]; simp
  have hx : W.heap[w.heap.size]? = some (.cells #[.slice a n c] 27 (0, 0)) := by rw [← hW]; exact heap_alloc_new w _
  have x0 : W.cell? ⟨w.heap.size, 0, none⟩ = some (.slice a n c) := by rw [cell_at hx]; rfl
  have HX := Lib.hid hx
  have HNA := Lib.hid h
  have HN := Lib.hid hn
  have HO := Lib.hid hok
  have HW := Lib.hid hW
  have HB := Lib.hid hB
  clear h hn hok hW hB hx
  obtain ⟨w1, hrun, hown1, hgrow1⟩ := run_make_full (P := Tryd.prog) W W.heap.size 47 4 i0 (.bool false) 1 Tryd.underlying47 hi hz0 hz1 .i64 .i64 n (by rw [hz2]; omega) (by unfold maxLen; omega) (Nat.le_refl _)
  rw [falses] at hown1
  have hb1 : Below W.heap.size W w1 := (Below.refl _ W).grown hgrow1 (Nat.le_refl _) (fun k e => by cases e)
  have hlt1 := (hown1.lt W.heap.size rfl).2
  obtain ⟨G, hG⟩ : ∃ G, W.heap.size = G := ⟨_, rfl⟩
  have y0 : (w1.alloc (.cells #[.slice (some ⟨G, 0, none⟩) n n] 47)).cell? ⟨w.heap.size, 0, none⟩ = some (.slice a n c) := by
    rw [cell_at ((Below.heap_alloc w1 _ _ (by omega)).trans ((hb1.block _ (by omega)).trans HX.out))]; rfl
  rw [hG] at hown1 hrun hlt1
  have HGG := Lib.hid hG
  have HB1 := Lib.hid hb1
  have HOWN := Lib.hid hown1
  clear hgrow1 hb1 hown1 hG
  refine callsIn_of_wp_marks Tryd.func45 rfl trivial ?_ rfl
  simp only [Tryd.ntmps45, List.size_toArray, List.length_cons, List.length_nil, Nat.reduceAdd, Nat.reduceSub, Array.replicate_succ, Array.replicate_zero, List.push_toArray, List.append_toArray, List.nil_append, List.cons_append]
  gi_wp2_with (first
    | (refine ⟨trivial, ?_⟩; gi_at_call 88; refine (brEnds_in _ _ _ _ _).mono ?_; rintro e w2 ⟨rfl, rfl⟩)
    | (with_reducible rw [HW.out])
    | fail)
  obtain ⟨ob, hob⟩ : ∃ ob, w1.heap.size = ob := ⟨_, rfl⟩
  obtain ⟨V, hV⟩ : ∃ V, (w1.alloc (.cells #[.slice (some ⟨G, 0, none⟩) n n] 47)).alloc (.cells #[.slice a n c] 27) = V := ⟨_, rfl⟩
  rw [hV]
  have hbV : Below w1.heap.size w1 V := by rw [← hV]; exact ((Below.refl _ _).alloc (Nat.le_refl _) _).alloc (by simp) _
  have hzV : V.heap.size = ob + 2 := by rw [← hV]; simp [hob]
  have hx1 : V.heap[ob]? = some (.cells #[.slice (some ⟨G, 0, none⟩) n n] 47 (0, 0)) := by
    rw [← hV, Below.heap_alloc _ _ _ (by simp [hob]), ← hob]; exact heap_alloc_new w1 _
  have hx2 : V.heap[ob + 1]? = some (.cells #[.slice a n c] 27 (0, 0)) := by
    have h1 := heap_alloc_new (w1.alloc (.cells #[.slice (some ⟨G, 0, none⟩) n n] 47)) (.cells #[.slice a n c] 27)
    rw [World.size_alloc, hob] at h1
    rw [← hV]; exact h1
  rw [hob]
  have hGz := HGG.out
  have hlG : G < ob := by omega
  have hbWV : Below W.heap.size W V := HB1.out.trans (hbV.mono HB1.out.size)
  have hBV : Below w.heap.size w V := HB.out.trans (hbWV.mono HB.out.size)
  have hx3 : V.heap[w.heap.size]? = some (.cells #[.slice a n c] 27 (0, 0)) := (hbWV.block _ (by omega)).trans HX.out
  have hNV : NAt V (fun j => j ≠ G ∧ j < V.heap.size) l a := HNA.out.wide (fun j hj => hBV.block j hj) fun j hj => ⟨by omega, by omega⟩
  have hGV : V.ownsRow G 4 1 (.slice (some ⟨G, 0, none⟩) n n) n ((List.replicate n false).map Value.bool) := HOWN.out.far5 fun g _ hl => hbV.block g hl
  have HSEQ := Lib.hid (brEnds_seq (n := n) 7 (by omega) (ob + 1) (fun j => j ≠ G ∧ j < V.heap.size) l a c V HN.out HO.out (fun j hj => hj.2) hx2 ⟨by omega, by omega⟩ hNV)
  -- what stands in every world that a round has left
  have HS : Hid (∀ v, Stays (fun j => j ≠ G ∧ j < V.heap.size) V v → v.heap[w.heap.size]? = some (.cells #[.slice a n c] 27 (0, 0)) ∧ v.heap[ob]? = some (.cells #[.slice (some ⟨G, 0, none⟩) n n] 47 (0, 0)) ∧ NAt v (fun b => b < v.heap.size) l a) := fun v hv =>
    ⟨hv.same _ _ ⟨by omega, by omega⟩ hx3, hv.same _ _ ⟨by omega, by omega⟩ hx1, hNV.wide (fun j hj => hv.at hj hj.2) fun j hj => Nat.lt_of_lt_of_le hj.2 hv.size⟩
  have HI0 : Hid (∃ ys, OpT l n [] ys ∧ V.ownsRow G 4 1 (.slice (some ⟨G, 0, none⟩) n n) n (ys.map Value.bool)) := ⟨_, OpT.start l n, hGV⟩
  have HBV := Lib.hid hBV
  have HOB := Lib.hid hob
  clear hV hbV hx1 hx2 hx3 hbWV hBV hNV hGV HOWN HB1 HX HNA HB HW y0 x0 hrun hob
  refine wpIn_rangeL (by omega) (gf := 116) (lb := #[.pointer (some ⟨ob + 1, 0, none⟩)]) rfl (enters_of Tryd.func116 (by kernel_rfl) rfl)
    HSEQ.out (fun j hj => hj.2) (Below.refl _ _) (fun _ => rfl)
    (fun pre U => (∃ ys, OpT l n (pre.map Fin.val) ys ∧ U.ownsRow G 4 1 (.slice (some ⟨G, 0, none⟩) n n) n (ys.map Value.bool)) ∧ Stays (fun j => j ≠ G ∧ j < V.heap.size) V U ∧ Below w.heap.size w U)
    (fun cc pre U => False)
    (fun pre X Y row hs hg hr => by
      obtain ⟨⟨ys, h1, h2⟩, h3, h4⟩ := hs
      refine ⟨⟨ys, h1, h2.far5 fun g hg' hl => ?_⟩, h3.trans ⟨hg.size, fun j o hj ho => (hg.block j (Array.getElem?_eq_some_iff.1 ho).1 fun e => by have h1 := (hr j e.symm).1; have h2 := hj.2; omega).trans ho⟩, (ownFrom_below (β := List (Fin n)) (Nat.le_refl _) (show w.heap.size ≤ V.heap.size by omega)) pre X Y row h4 hg hr⟩
      have e1 : g = G := by injection hg' with e; exact e.symm
      subst e1
      exact hg.block _ hl fun e => by have := (hr _ e.symm).1; omega)
    (fun cc pre X Y row hs hg hr => hs)
    ⟨HI0.out, Stays.refl _ _, HBV.out⟩
    (fun x => { tmps := #[.slice a n c, .pointer (some ⟨w.heap.size, 0, none⟩), .slice none 0 0, .pointer (some ⟨ob, 0, none⟩), .int .i64 (x.val : Int), .slice a n c, .int .i64 (n : Int), .slice (some ⟨G, 0, none⟩) n n, .slice a n c, .func (.func 116) #[] #[.pointer (some ⟨ob + 1, 0, none⟩)], .int .i64 (x.val : Int), undef, undef, undef, undef, undef, undef, undef, undef, undef, undef, undef, undef], defers := [] }) ?assign ?body ?done ?stop
  case assign =>
    intro l2 x U K hK
    gi_wp2
    exact hK
  case body =>
    rintro l2 pre ⟨t, ht⟩ U ⟨⟨ys, hop, hrow⟩, hS, hB⟩
    dsimp only
    obtain ⟨hb0, hb1, hNA⟩ := HS.out U hS
    obtain ⟨y, hy⟩ : ∃ y, l[t]? = some y := ⟨l[t]'(by rw [HN.out]; exact ht), List.getElem?_eq_getElem _⟩
    obtain ⟨b, o, ha, hbl, e0, e1, e2, e3, e4⟩ := hNA.2 t y hy
    have r0 : U.cell? ⟨w.heap.size, 0, none⟩ = some (.slice (some ⟨b, o, none⟩) n c) := by rw [cell_at hb0, ha]; rfl
    have r1 : U.cell? ⟨ob, 0, none⟩ = some (.slice (some ⟨G, 0, none⟩) n n) := by rw [cell_at hb1]; rfl
    have d0 : U.drew.cell? ⟨w.heap.size, 0, none⟩ = some (.slice (some ⟨b, o, none⟩) n c) := r0
    have d1 : U.drew.cell? ⟨ob, 0, none⟩ = some (.slice (some ⟨G, 0, none⟩) n n) := r1
    have d2 : U.drew.cell? ⟨b, o + t * 5, none⟩ = some (.int .i64 y.op) := e0
    obtain ⟨⟨s0, hs0⟩, f0⟩ := ownsRow_cellx hrow t (by omega)
    have q0 : U.drew.cell? ⟨G, t, none⟩ = some s0 := hs0
    have q1 : U.drew.frozen? ⟨G, t, none⟩ = false := f0
    have HFIN : Hid (∀ d, okE l t = !d → Stays (fun k => (k ≠ G ∧ k < V.heap.size) ∨ V.heap.size ≤ k) U ((U.setCell ⟨G, t, none⟩ (.bool d)).drew) ∧ (∃ ys, OpT l n ((pre ++ [(⟨t, ht⟩ : Fin n)]).map Fin.val) ys ∧ ((U.setCell ⟨G, t, none⟩ (.bool d)).drew).ownsRow G 4 1 (.slice (some ⟨G, 0, none⟩) n n) n (ys.map Value.bool)) ∧ Stays (fun j => j ≠ G ∧ j < V.heap.size) V ((U.setCell ⟨G, t, none⟩ (.bool d)).drew) ∧ Below w.heap.size w ((U.setCell ⟨G, t, none⟩ (.bool d)).drew)) := fun d hd => by
      have hst := (hrow.stored t (.bool d)).1
      rw [← List.map_set] at hst
      refine ⟨((Stays.refl _ U).setCell (p := ⟨G, t, none⟩) (fun h => h.elim (fun h => h.1 rfl) fun h => by simp at h; omega) _).drew, ⟨_, ?_, hst⟩, (hS.setCell (p := ⟨G, t, none⟩) (fun h => h.1 rfl) _).drew, (hB.setCell (p := ⟨G, t, none⟩) (by simp; omega) _).drew⟩
      rw [List.map_append]
      exact hop.set ht hd
    have HOK := Lib.hid (okE_at hy)
    clear hop hrow hS hB hb0 hb1 hNA hy ha
    obtain ⟨d, b12⟩ : ∃ d, (y.op != 12) = d := ⟨_, rfl⟩
    have HF := Lib.hid (HFIN.out d (by rw [HOK.out, ← b12]; simp [bne]))
    have hmx := mixedFe
    clear HFIN
    gi_wp2
    gi_region_with_o fail
    all_goals exact HF.out
  case done =>
    rintro d ys U hd hys ⟨⟨bs, hop, hrow⟩, hS, hB⟩ hKd
    rw [hys] at hop
    obtain ⟨hb0, hb1, hNA⟩ := HS.out U hS
    have HSUB := subF_one (pcF l) a n c ob w.heap.size U hle (pcF_le l) (fun q x hq hxq => by
        rcases pcF_mem hxq with e | hx'
        · subst e
          exact ⟨fun e => absurd e (by decide), fun e => absurd e (by decide)⟩
        · exact ⟨fun e => by have := HO.out.ja q x hx' e; rw [HN.out] at this; omega, fun e => by have := HO.out.jb q x hx' e; rw [HN.out] at this; omega⟩)
      fun v q hv hq => by
        have hrv : v.ownsRow G 4 1 (.slice (some ⟨G, 0, none⟩) n n) n (bs.map Value.bool) := hrow.far5 fun g _ hl => hv.block g hl
        have hba : BAt v (fun b => b < v.heap.size) bs (some ⟨G, 0, none⟩) := by
          have h1 : OwnB v G (.slice (some ⟨G, 0, none⟩) n n) bs := by unfold OwnB; rw [hop.1]; exact hrv
          exact h1.bat.2.2.2.wide (fun _ _ => rfl) fun q hq => hq.2
        exact feC_one l bs a (some ⟨G, 0, none⟩) n c n ob w.heap.size q v hq HN.out hop hcap hle
          (by rw [cell_at ((hv.block _ (Array.getElem?_eq_some_iff.1 hb1).1).trans hb1)]; rfl) (by rw [cell_at ((hv.block _ (Array.getElem?_eq_some_iff.1 hb0).1).trans hb0)]; rfl) (hNA.below hv) hba
    have HE : subL (pcF l) n = fenceL l := by rw [← HN.out]; rfl
    rw [HE] at HSUB
    have HSUB := Lib.hid HSUB
    have r0 : U.cell? ⟨w.heap.size, 0, none⟩ = some (.slice a n c) := by rw [cell_at hb0]; rfl
    have HKD := Lib.hid hKd
    have HBU := Lib.hid hB
    have hdU : d < U.heap.size := (Array.getElem?_eq_some_iff.1 hKd).1
    have hzU := hB.size
    clear hop hrow hS hB hb0 hb1 hNA HE hKd hys
    obtain ⟨r, hr⟩ : ∃ r, (fenceL l).length = r := ⟨_, rfl⟩
    have HR := Lib.hid hr
    rw [hr] at HSUB
    clear hr
    gi_wp2_with (refine ⟨trivial, ?_⟩; gi_at_call 89; refine (callsIn_wide.2 HSUB.out).mono ?_; rintro e w3 ⟨ca, cc, rfl, hown, hb3⟩)
    have hK3 : w3.heap[d]? = some (.deferred (some [])) := (hb3.block d hdU).trans HKD.out
    refine ⟨by simp, .inl ⟨_, _, rfl, run_takeDeferred hK3, ?_⟩⟩
    refine ⟨.slice ca r cc, by simp [results, Tryd.f45, go_sem], ?_⟩
    rw [HR.out]
    refine ⟨ca, cc, rfl, (ownsRow_mono hown hzU).far5 fun g hg hl => World.putObj_heap_other fun e => ?_, (HBU.out.trans (hb3.mono hzU)).trans (belowK_b (w := V) (by omega) _ d _ (.deferred none) hd hK3 rfl rfl)⟩
    have := (hown.lt g hg).1
    omega
  case stop =>
    rintro d cc pre U hd hys h hKd
    exact h.elim

end Go.Proofs.YtbifbmpflhdijaaDoor

namespace Go.Proofs.YtbifbmpflhdijaaDoor
open Go.RowKit
set_option linter.unusedVariables false

set_option maxRecDepth 100000 in
set_option maxHeartbeats 8000000 in
/-- **rewritten** at loop.example/constanttime/impl.fenced. -/
theorem rewFe_one (m : Cd) (k : CK) (w : World) (h : CL w m k) (hs : CSm m) (hT : TblF w)
    (hP : codeB m = true → ∀ v, Below w.heap.size w v → Calls Tryd.prog 45 #[.slice k.la m.list.length k.lc] v (CloneN (fenceL m.list) (fenceL m.list).length v)) :
    Calls Tryd.prog 68 #[aggC m k, .func (.func 45) #[] #[]] w (PassN fenceL m w) := by
  obtain ⟨hs1, hs2, hs3⟩ := hs
  obtain ⟨W, hW⟩ : ∃ W, (w.alloc (.cells (arrC m k) 29)).alloc (.cells #[.slice none 0 0, .slice none 0 0, .slice none 0 0] 29) = W := ⟨_, rfl⟩
  have hB : Below w.heap.size w W := by rw [← hW]; exact ((Below.refl _ w).alloc (Nat.le_refl _) _).alloc (by simp) _
  have hX : BoxC W w.heap.size m k := by rw [← hW]; exact (BoxC.new w m k _).later (Below.heap_alloc _ _ _ (by simp))
  have hE : W.heap[w.heap.size + 1]? = some (.cells #[.slice none 0 0, .slice none 0 0, .slice none 0 0] 29 (0, 0)) := by
    have e1 := heap_alloc_new (w.alloc (.cells (arrC m k) 29)) (.cells #[.slice none 0 0, .slice none 0 0, .slice none 0 0] 29)
    rw [World.size_alloc] at e1
    rw [← hW]; exact e1
  have hlw : w.heap.size + 1 < W.heap.size := (Array.getElem?_eq_some_iff.1 hE).1
  have HS : Hid (∀ v, Below W.heap.size W v → (v.cell? ⟨w.heap.size, 0, none⟩ = some (.slice k.va m.vars.length k.vc) ∧ v.cell? ⟨w.heap.size, 1, none⟩ = some (.slice k.aa m.arrs.length k.ac) ∧ v.cell? ⟨w.heap.size, 2, none⟩ = some (.slice k.la m.list.length k.lc))) := fun v hv => by
    have b := hX.below hv hX.lt
    exact ⟨b.c0, b.c1, b.c2⟩
  have HE : Hid (∀ v, Below W.heap.size W v → v.heap[w.heap.size + 1]? = some (.cells #[.slice none 0 0, .slice none 0 0, .slice none 0 0] 29 (0, 0))) := fun v hv => (hv.block _ hlw).trans hE
  have HCL : Hid (∀ v, Below W.heap.size W v → CL v m k) := fun v hv => (h.below hB).below hv
  have HCV : Hid (∀ v, Below W.heap.size W v → IAt v (fun b => b < v.heap.size) m.vars k.va) := fun v hv => (HCL.out v hv).1
  have HCA : Hid (∀ v, Below W.heap.size W v → IAt v (fun b => b < v.heap.size) m.arrs k.aa) := fun v hv => (HCL.out v hv).2.1
  have HV := Lib.hid (iCV_one m k W (h.below hB) (hT.below hB hT.lt))
  have HP : Hid (codeB m = true → ∀ v, Below W.heap.size W v → Calls Tryd.prog 45 #[.slice k.la m.list.length k.lc] v (CloneN (fenceL m.list) (fenceL m.list).length v)) := fun e v hv => hP e v (hB.trans (hv.mono hB.size))
  have HB := Lib.hid hB
  have HW := Lib.hid hW
  unfold arrC at HW
  obtain ⟨x0, x1, x2⟩ := HS.out W (Below.refl _ _)
  clear h hT hP hW hB hX hE
  go_enter Tryd.func68, Tryd.ntmps68
  go_wp2_with (first | rw [HW.out] | fail)
  refine HV.out.mono ?_
  rintro e w1 ⟨rfl, hb1⟩
  obtain ⟨q, hq⟩ : ∃ q, codeB m = q := ⟨_, rfl⟩
  have HQ := Lib.hid hq
  have HB1 := Lib.hid hb1
  rw [hq]
  clear hq hb1 HV x0 x1 x2
  cases q
  case false =>
    have hE1 := HE.out w1 HB1.out
    obtain ⟨r0, hr0⟩ := cell_ex hE1 0 (by simp)
    obtain ⟨r1, hr1⟩ := cell_ex hE1 1 (by simp)
    obtain ⟨r2, hr2⟩ := cell_ex hE1 2 (by simp)
    have f0 := frozen_at hE1 0
    have f1 := frozen_at hE1 1
    have f2 := frozen_at hE1 2
    have HFIN : Hid (PassN fenceL m w (.returned (.tuple #[.agg #[.slice none 0 0, .slice none 0 0, .slice none 0 0], .bool false])) (((w1.setCell ⟨w.heap.size + 1, 0, none⟩ (.slice none 0 0)).setCell ⟨w.heap.size + 1, 1, none⟩ (.slice none 0 0)).setCell ⟨w.heap.size + 1, 2, none⟩ (.slice none 0 0))) := by
      refine ⟨⟨[], [], []⟩, ⟨none, 0, none, 0, none, 0⟩, false, rfl, ⟨fun e => ?_, fun _ => ⟨rfl, rfl⟩⟩, OwnC.none _ _, ?_⟩
      · rw [HQ.out] at e; cases e
      · exact (((HB.out.trans (HB1.out.mono HB.out.size)).setCell (p := ⟨w.heap.size + 1, 0, none⟩) (by simp) _).setCell (p := ⟨w.heap.size + 1, 1, none⟩) (by simp) _).setCell (p := ⟨w.heap.size + 1, 2, none⟩) (by simp) _
    clear hE1
    go_wp2_with fail
    exact bodyPost_ret (v := .tuple #[.agg #[.slice none 0 0, .slice none 0 0, .slice none 0 0], .bool false]) (by simp [results, Tryd.f68, go_sem, hr0, hr1, hr2]) rfl HFIN.out
  case true =>
    have HP2 := Lib.hid (HP.out HQ.out)
    have HBD : Hid (Below W.heap.size W w1.drew) := HB1.out.drew
    have hS1 := HS.out w1 HB1.out
    have hS1d := HS.out w1.drew HBD.out
    go_wp2_with fail
    go_region_held3 (fun v => v.cell? ⟨w.heap.size, 0, none⟩ = some (.slice k.va m.vars.length k.vc) ∧ v.cell? ⟨w.heap.size, 1, none⟩ = some (.slice k.aa m.arrs.length k.ac) ∧ v.cell? ⟨w.heap.size, 2, none⟩ = some (.slice k.la m.list.length k.lc)) (first | (with_reducible assumption) | (with_reducible exact hS1) | (with_reducible exact hS1d))
      (first
      | (go_at_call 98; (with_reducible refine (cloneI_one m.vars k.va m.vars.length k.vc w1.drew (HCV.out _ HBD.out) rfl hs1).mono ?_)
         rintro f w2 ⟨va, vc, rfl, ho2, hb2⟩
         have hB2 : Below W.heap.size W w2 := HBD.out.trans (hb2.mono HBD.out.size)
         have hS2 := HS.out w2 hB2)
      | (go_at_call 98; (with_reducible refine (cloneI_one m.arrs k.aa m.arrs.length k.ac w2 (HCA.out _ hB2) rfl hs2).mono ?_)
         rintro f w3 ⟨aa, ac, rfl, ho3, hb3⟩
         have hB3 : Below W.heap.size W w3 := hB2.trans (hb3.mono hB2.size)
         have hS3 := HS.out w3 hB3)
      | (go_at_call 45; (with_reducible refine (HP2.out w3 hB3).mono ?_)
         rintro f w4 ⟨la, lc, rfl, ho4, hb4⟩
         have hB4 : Below W.heap.size W w4 := hB3.trans (hb4.mono hB3.size)
         have hS4 := HS.out w4 hB4
         have hR4 := HE.out w4 hB4
         obtain ⟨r0, hr0⟩ := cell_ex hR4 0 (by simp)
         obtain ⟨r1, hr1⟩ := cell_ex hR4 1 (by simp)
         obtain ⟨r2, hr2⟩ := cell_ex hR4 2 (by simp)
         have f0 := frozen_at hR4 0
         have f1 := frozen_at hR4 1
         have f2 := frozen_at hR4 2
         have hsP := facts_put3 (w := w4) (b := w.heap.size + 1) (.slice va m.vars.length vc) (.slice aa m.arrs.length ac) (.slice la (fenceL m.list).length lc) (show w.heap.size ≠ w.heap.size + 1 by omega) hS4)
      | fail)
    all_goals
      have HF : Hid (PassN fenceL m w (.returned (.tuple #[.agg #[.slice va m.vars.length vc, .slice aa m.arrs.length ac, .slice la (fenceL m.list).length lc], .bool true])) (((w4.setCell ⟨w.heap.size + 1, 0, none⟩ (.slice va m.vars.length vc)).setCell ⟨w.heap.size + 1, 1, none⟩ (.slice aa m.arrs.length ac)).setCell ⟨w.heap.size + 1, 2, none⟩ (.slice la (fenceL m.list).length lc))) := by
        have hoth : ∀ j, j ≠ w.heap.size + 1 → (((w4.setCell ⟨w.heap.size + 1, 0, none⟩ (.slice va m.vars.length vc)).setCell ⟨w.heap.size + 1, 1, none⟩ (.slice aa m.arrs.length ac)).setCell ⟨w.heap.size + 1, 2, none⟩ (.slice la (fenceL m.list).length lc)).heap[j]? = w4.heap[j]? := fun j hj => by
          rw [Below.heap_setCell _ _ _ _ (by simpa using hj), Below.heap_setCell _ _ _ _ (by simpa using hj), Below.heap_setCell _ _ _ _ (by simpa using hj)]
        have z1 := HBD.out.size
        have z2 := hb2.size
        have z3 := hb3.size
        refine ⟨⟨m.vars, m.arrs, fenceL m.list⟩, ⟨va, vc, aa, ac, la, lc⟩, true, rfl, ⟨fun _ => ⟨rfl, rfl⟩, fun e => by rw [HQ.out] at e; cases e⟩, ?_, ?_⟩
        · exact OwnC.three (w1 := w1.drew) (w2 := w2) (w3 := w3) (w4 := w4) (by omega) ho2 hb3 ho3 hb4 ho4 (fun j h1 => hoth j (by omega))
        · exact (((HB.out.trans (hB4.mono HB.out.size)).setCell (p := ⟨w.heap.size + 1, 0, none⟩) (by simp) _).setCell (p := ⟨w.heap.size + 1, 1, none⟩) (by simp) _).setCell (p := ⟨w.heap.size + 1, 2, none⟩) (by simp) _
      clear hS2 hS3 hS4 hsP ho2 ho3 ho4 hb2 hb3 hb4 hB2 hB3 hB4 hR4 hS1 hS1d HP HP2 HS HE HCL HCV HCA
      go_wp2_with fail
      exact bodyPost_ret (v := .tuple #[.agg #[.slice va m.vars.length vc, .slice aa m.arrs.length ac, .slice la (fenceL m.list).length lc], .bool true]) (by simp [results, Tryd.f68, go_sem, hr0, hr1, hr2]) rfl HF.out

/-- Code that is valid, and not too long with its fences. -/
def fenB (m : Cd) : Bool := codeB m && decide ((fenceL m.list).length ≤ 400)
def FenV (m m' : Cd) (b : Bool) : Prop := (fenB m = true → b = true ∧ m' = ⟨m.vars, m.arrs, fenceL m.list⟩) ∧ (fenB m = false → b = false ∧ m' = ⟨[], [], []⟩)
theorem FenV.uniq {m m' m'' : Cd} {b b' : Bool} (h : FenV m m' b) (h' : FenV m m'' b') : m' = m'' ∧ b = b' := by
  cases hq : fenB m
  · exact ⟨(h.2 hq).2.trans (h'.2 hq).2.symm, (h.2 hq).1.trans (h'.2 hq).1.symm⟩
  · exact ⟨(h.1 hq).2.trans (h'.1 hq).2.symm, (h.1 hq).1.trans (h'.1 hq).1.symm⟩
theorem FenV.no {m : Cd} (h : fenB m = false) : FenV m ⟨[], [], []⟩ false := ⟨fun e => (by rw [h] at e; cases e), fun _ => ⟨rfl, rfl⟩⟩
theorem FenV.yes {m : Cd} (h : fenB m = true) : FenV m ⟨m.vars, m.arrs, fenceL m.list⟩ true := ⟨fun _ => ⟨rfl, rfl⟩, fun e => (by rw [h] at e; cases e)⟩
/-- A code is handed back in rows of its own, and a bool. -/
def FenN (m : Cd) (w : World) (e : Ending) (w' : World) : Prop := ∃ (m' : Cd) (k' : CK) (b : Bool), e = .returned (.tuple #[aggC m' k', .bool b]) ∧ FenV m m' b ∧ OwnC w' w.heap.size m' k' ∧ Below w.heap.size w w'

set_option maxRecDepth 100000 in
set_option maxHeartbeats 8000000 in
/-- **extended** at fenced. -/
theorem extFe_one (m : Cd) (k : CK) (w : World) (h : CL w m k) (hs : CSm m) (hT : TblF w) (hcap : m.list.length ≤ k.lc) :
    Calls Tryd.prog 44 #[aggC m k, .func (.func 45) #[] #[]] w (FenN m w) := by
  obtain ⟨W, hW⟩ : ∃ W, (w.alloc (.cells (arrC m k) 29)).alloc (.cells #[.slice none 0 0, .slice none 0 0, .slice none 0 0] 29) = W := ⟨_, rfl⟩
  have hB : Below w.heap.size w W := by rw [← hW]; exact ((Below.refl _ w).alloc (Nat.le_refl _) _).alloc (by simp) _
  have hX : BoxC W w.heap.size m k := by rw [← hW]; exact (BoxC.new w m k _).later (Below.heap_alloc _ _ _ (by simp))
  have hE : W.heap[w.heap.size + 1]? = some (.cells #[.slice none 0 0, .slice none 0 0, .slice none 0 0] 29 (0, 0)) := by
    have e1 := heap_alloc_new (w.alloc (.cells (arrC m k) 29)) (.cells #[.slice none 0 0, .slice none 0 0, .slice none 0 0] 29)
    rw [World.size_alloc] at e1
    rw [← hW]; exact e1
  have hlw : w.heap.size + 1 < W.heap.size := (Array.getElem?_eq_some_iff.1 hE).1
  have x0 := hX.c0
  have x1 := hX.c1
  have x2 := hX.c2
  have HR := Lib.hid (rewFe_one m k W (h.below hB) hs (hT.below hB hT.lt) fun e v hv => callsIn_wide.1 (fenced_in m.list k.la m.list.length k.lc v ((h.below hB).below hv).2.2 rfl (codeB_ok e) hcap))
  have HE := Lib.hid hE
  have HB := Lib.hid hB
  have HW := Lib.hid hW
  unfold arrC at HW
  clear h hs hT hW hB hX hE
  go_enter Tryd.func44, Tryd.ntmps44
  go_wp2_with (first | rw [HW.out] | fail)
  refine HR.out.mono ?_
  rintro e w1 ⟨m', k', b, rfl, hv, ho, hb1⟩
  clear HR x0 x1 x2
  obtain ⟨W2, hW2⟩ : ∃ W2, w1.alloc (.cells (arrC m' k') 29) = W2 := ⟨_, rfl⟩
  have hb2 : Below w1.heap.size w1 W2 := by rw [← hW2]; exact (Below.refl _ _).alloc (Nat.le_refl _) _
  have hX2 : BoxC W2 w1.heap.size m' k' := by rw [← hW2]; exact BoxC.new _ _ _ _
  have hbW : Below W.heap.size W W2 := hb1.trans (hb2.mono hb1.size)
  have hE2 := (hbW.block _ hlw).trans HE.out
  obtain ⟨r0, hr0⟩ := cell_ex hE2 0 (by simp)
  obtain ⟨r1, hr1⟩ := cell_ex hE2 1 (by simp)
  obtain ⟨r2, hr2⟩ := cell_ex hE2 2 (by simp)
  have f0 := frozen_at hE2 0
  have f1 := frozen_at hE2 1
  have f2 := frozen_at hE2 2
  have y0 := hX2.c0
  have y1 := hX2.c1
  have y2 := hX2.c2
  have HO : Hid (OwnC W2 W.heap.size m' k') := ho.stand fun g _ hg => hb2.block g hg
  have HB2 : Hid (Below w.heap.size w W2) := HB.out.trans (hbW.mono HB.out.size)
  have HV := Lib.hid hv
  have hz1 := hb1.size
  have hz0 := HB.out.size
  unfold arrC at hW2
  have HW2 := Lib.hid hW2
  clear hv ho hb1 hb2 hX2 hbW hE2 hW2
  cases b
  case false =>
    have hq : codeB m = false := by
      cases hq : codeB m
      · rfl
      · exact absurd (HV.out.1 hq).1 (by decide)
    have HFIN : Hid (FenN m w (.returned (.tuple #[.agg #[.slice none 0 0, .slice none 0 0, .slice none 0 0], .bool false])) (((W2.setCell ⟨w.heap.size + 1, 0, none⟩ (.slice none 0 0)).setCell ⟨w.heap.size + 1, 1, none⟩ (.slice none 0 0)).setCell ⟨w.heap.size + 1, 2, none⟩ (.slice none 0 0))) := by
      refine ⟨⟨[], [], []⟩, ⟨none, 0, none, 0, none, 0⟩, false, rfl, FenV.no (by unfold fenB; rw [hq]; rfl), OwnC.none _ _, ?_⟩
      exact ((HB2.out.setCell (p := ⟨w.heap.size + 1, 0, none⟩) (by simp) _).setCell (p := ⟨w.heap.size + 1, 1, none⟩) (by simp) _).setCell (p := ⟨w.heap.size + 1, 2, none⟩) (by simp) _
    clear hq
    go_wp2_with (first | rw [HW2.out] | fail)
    exact bodyPost_ret (v := .tuple #[.agg #[.slice none 0 0, .slice none 0 0, .slice none 0 0], .bool false]) (by simp [results, Tryd.f44, go_sem, hr0, hr1, hr2]) rfl HFIN.out
  case true =>
    have hq : codeB m = true := by
      cases hq : codeB m
      · exact absurd (HV.out.2 hq).1 (by decide)
      · rfl
    obtain ⟨_, rfl⟩ := HV.out.1 hq
    obtain ⟨r, hr⟩ : ∃ r, (fenceL m.list).length = r := ⟨_, rfl⟩
    have HRL := Lib.hid hr
    simp only at y0 y1 y2
    rw [hr] at y2 
    have hr800 : r ≤ 800 := by rw [← hr]; exact fenceL_le (codeB_ok hq).le
    by_cases h400 : r ≤ 400
    · have b400 : decide ((r : Int) > 400) = false := decide_eq_false (by omega)
      have HFIN : Hid (FenN m w (.returned (.tuple #[.agg #[.slice k'.va m.vars.length k'.vc, .slice k'.aa m.arrs.length k'.ac, .slice k'.la r k'.lc], .bool true])) (((W2.setCell ⟨w.heap.size + 1, 0, none⟩ (.slice k'.va m.vars.length k'.vc)).setCell ⟨w.heap.size + 1, 1, none⟩ (.slice k'.aa m.arrs.length k'.ac)).setCell ⟨w.heap.size + 1, 2, none⟩ (.slice k'.la r k'.lc))) := by
        have hoth : ∀ j, j ≠ w.heap.size + 1 → (((W2.setCell ⟨w.heap.size + 1, 0, none⟩ (.slice k'.va m.vars.length k'.vc)).setCell ⟨w.heap.size + 1, 1, none⟩ (.slice k'.aa m.arrs.length k'.ac)).setCell ⟨w.heap.size + 1, 2, none⟩ (.slice k'.la r k'.lc)).heap[j]? = W2.heap[j]? := fun j hj => by
          rw [Below.heap_setCell _ _ _ _ (by simpa using hj), Below.heap_setCell _ _ _ _ (by simpa using hj), Below.heap_setCell _ _ _ _ (by simpa using hj)]
        refine ⟨⟨m.vars, m.arrs, fenceL m.list⟩, k', true, by rw [← HRL.out], FenV.yes (by unfold fenB; rw [hq, HRL.out]; simpa using h400), ((HO.out.stand fun g h1 _ => hoth g (by omega)).mono (by omega)), ?_⟩
        exact ((HB2.out.setCell (p := ⟨w.heap.size + 1, 0, none⟩) (by simp) _).setCell (p := ⟨w.heap.size + 1, 1, none⟩) (by simp) _).setCell (p := ⟨w.heap.size + 1, 2, none⟩) (by simp) _
      clear hq hr HV HO HRL
      go_wp2_with (first | rw [HW2.out] | fail)
      exact bodyPost_ret (v := .tuple #[.agg #[.slice k'.va m.vars.length k'.vc, .slice k'.aa m.arrs.length k'.ac, .slice k'.la r k'.lc], .bool true]) (by simp [results, Tryd.f44, go_sem, hr0, hr1, hr2]) rfl HFIN.out
    · have b400 : decide ((r : Int) > 400) = true := decide_eq_true (by omega)
      have HFIN : Hid (FenN m w (.returned (.tuple #[.agg #[.slice none 0 0, .slice none 0 0, .slice none 0 0], .bool false])) (((W2.setCell ⟨w.heap.size + 1, 0, none⟩ (.slice none 0 0)).setCell ⟨w.heap.size + 1, 1, none⟩ (.slice none 0 0)).setCell ⟨w.heap.size + 1, 2, none⟩ (.slice none 0 0))) := by
        refine ⟨⟨[], [], []⟩, ⟨none, 0, none, 0, none, 0⟩, false, rfl, FenV.no (by unfold fenB; rw [hq, HRL.out]; simpa using h400), OwnC.none _ _, ?_⟩
        exact ((HB2.out.setCell (p := ⟨w.heap.size + 1, 0, none⟩) (by simp) _).setCell (p := ⟨w.heap.size + 1, 1, none⟩) (by simp) _).setCell (p := ⟨w.heap.size + 1, 2, none⟩) (by simp) _
      clear hq hr HV HO HRL
      go_wp2_with (first | rw [HW2.out] | fail)
      exact bodyPost_ret (v := .tuple #[.agg #[.slice none 0 0, .slice none 0 0, .slice none 0 0], .bool false]) (by simp [results, Tryd.f44, go_sem, hr0, hr1, hr2]) rfl HFIN.out

set_option maxRecDepth 100000 in
set_option maxHeartbeats 4000000 in
/-- **impl.FenceCode.** -/
theorem iFe_one (m : Cd) (k : CK) (w : World) (h : CL w m k) (hs : CSm m) (hT : TblF w) (hcap : m.list.length ≤ k.lc) :
    Calls Tryd.prog 14 #[aggC m k] w (FenN m w) := by
  obtain ⟨W, hW⟩ : ∃ W, (w.alloc (.cells (arrC m k) 29)).alloc (.cells #[.slice none 0 0, .slice none 0 0, .slice none 0 0] 29) = W := ⟨_, rfl⟩
  have hB : Below w.heap.size w W := by rw [← hW]; exact ((Below.refl _ w).alloc (Nat.le_refl _) _).alloc (by simp) _
  have hX : BoxC W w.heap.size m k := by rw [← hW]; exact (BoxC.new w m k _).later (Below.heap_alloc _ _ _ (by simp))
  have hE : W.heap[w.heap.size + 1]? = some (.cells #[.slice none 0 0, .slice none 0 0, .slice none 0 0] 29 (0, 0)) := by
    have e1 := heap_alloc_new (w.alloc (.cells (arrC m k) 29)) (.cells #[.slice none 0 0, .slice none 0 0, .slice none 0 0] 29)
    rw [World.size_alloc] at e1
    rw [← hW]; exact e1
  have hlw : w.heap.size + 1 < W.heap.size := (Array.getElem?_eq_some_iff.1 hE).1
  have x0 := hX.c0
  have x1 := hX.c1
  have x2 := hX.c2
  have HR := Lib.hid (extFe_one m k W (h.below hB) hs (hT.below hB hT.lt) hcap)
  have HE := Lib.hid hE
  have HB := Lib.hid hB
  have HW := Lib.hid hW
  unfold arrC at HW
  clear h hs hT hW hB hX hE
  go_enter Tryd.func14, Tryd.ntmps14
  go_wp2_with (first | rw [HW.out] | fail)
  refine HR.out.mono ?_
  rintro e w1 ⟨m', k', b, rfl, hv, ho, hb1⟩
  have hE1 := (hb1.block _ hlw).trans HE.out
  obtain ⟨r0, hr0⟩ := cell_ex hE1 0 (by simp)
  obtain ⟨r1, hr1⟩ := cell_ex hE1 1 (by simp)
  obtain ⟨r2, hr2⟩ := cell_ex hE1 2 (by simp)
  have f0 := frozen_at hE1 0
  have f1 := frozen_at hE1 1
  have f2 := frozen_at hE1 2
  have HFIN : Hid (FenN m w (.returned (.tuple #[aggC m' k', .bool b])) (((w1.setCell ⟨w.heap.size + 1, 0, none⟩ (.slice k'.va m'.vars.length k'.vc)).setCell ⟨w.heap.size + 1, 1, none⟩ (.slice k'.aa m'.arrs.length k'.ac)).setCell ⟨w.heap.size + 1, 2, none⟩ (.slice k'.la m'.list.length k'.lc))) := by
    have hoth : ∀ j, j ≠ w.heap.size + 1 → (((w1.setCell ⟨w.heap.size + 1, 0, none⟩ (.slice k'.va m'.vars.length k'.vc)).setCell ⟨w.heap.size + 1, 1, none⟩ (.slice k'.aa m'.arrs.length k'.ac)).setCell ⟨w.heap.size + 1, 2, none⟩ (.slice k'.la m'.list.length k'.lc)).heap[j]? = w1.heap[j]? := fun j hj => by
      rw [Below.heap_setCell _ _ _ _ (by simpa using hj), Below.heap_setCell _ _ _ _ (by simpa using hj), Below.heap_setCell _ _ _ _ (by simpa using hj)]
    refine ⟨m', k', b, rfl, hv, ((ho.stand fun g h1 _ => hoth g (by omega)).mono HB.out.size), ?_⟩
    exact (((HB.out.trans (hb1.mono HB.out.size)).setCell (p := ⟨w.heap.size + 1, 0, none⟩) (by simp) _).setCell (p := ⟨w.heap.size + 1, 1, none⟩) (by simp) _).setCell (p := ⟨w.heap.size + 1, 2, none⟩) (by simp) _
  clear hE1 hv ho hb1 HR
  go_wp2_with fail
  exact bodyPost_ret (v := .tuple #[aggC m' k', .bool b]) (by simp [results, Tryd.f14, go_sem, hr0, hr1, hr2, aggC]) rfl HFIN.out

end Go.Proofs.YtbifbmpflhdijaaDoor

/- math/bits.OnesCount16, walked. -/
import Derived.Test.YtbifbmpflhdijaaDoorLvP
import Derived.BigQuiet
import Derived.StillTailTactics
import Derived.Deep.CutRange
import Derived.WalkSmall
import Derived.Test.YtbifbmpflhdijaaDoorEvB
import Derived.Test.YtbifbmpflhdijaaDoorTnV
import Derived.Test.YtbifbmpflhdijaaDoorCvI
import Derived.Test.YtbifbmpflhdijaaDoorTnO
import Derived.Test.YtbifbmpflhdijaaDoorCvJ
import Derived.Deep.RegionHeld3
namespace Go.Proofs.YtbifbmpflhdijaaDoor
open Go.RowKit
set_option linter.unusedVariables false

/-- How many of the first k bits are set. -/
def pcK (m : Nat) : Nat → Nat
  | 0 => 0
  | k + 1 => pcK m k + if m.testBit k then 1 else 0
theorem pcK_congr {m m' : Nat} : ∀ k, (∀ i, i < k → m.testBit i = m'.testBit i) → pcK m k = pcK m' k
  | 0, _ => rfl
  | k + 1, h => by unfold pcK; rw [pcK_congr k fun i hi => h i (by omega), h k (by omega)]
theorem pcK_le (m : Nat) : ∀ k, pcK m k ≤ k
  | 0 => Nat.le_refl _
  | k + 1 => by unfold pcK; have := pcK_le m k; split <;> omega
theorem pcK_add (m j : Nat) : ∀ k, pcK m (j + k) = pcK m j + pcK (m / 2 ^ j) k
  | 0 => by simp [pcK]
  | k + 1 => by
    have e1 : pcK m (j + (k + 1)) = pcK m (j + k) + if m.testBit (j + k) then 1 else 0 := rfl
    have e2 : pcK (m / 2 ^ j) (k + 1) = pcK (m / 2 ^ j) k + if (m / 2 ^ j).testBit k then 1 else 0 := rfl
    rw [e1, e2, pcK_add m j k, Nat.testBit_div_two_pow, Nat.add_comm k j, Nat.add_assoc]
theorem tab_of' (L : List UInt8) (hlen : L.length = 256) (hall : (List.range 256).all (fun i => (L.getD i 0).toNat == pcK i 8) = true) : (⟨L.toArray⟩ : ByteArray).size = 256 ∧ ∀ i, (h : i < (⟨L.toArray⟩ : ByteArray).size) → ((⟨L.toArray⟩ : ByteArray)[i]).toNat = pcK i 8 := by
  refine ⟨by show L.toArray.size = _; simpa using hlen, fun i h => ?_⟩
  have hi : i < L.length := by have h1 : i < L.toArray.size := h; simpa using h1
  have h1 := List.all_eq_true.1 hall i (List.mem_range.2 (by omega))
  rw [beq_iff_eq, List.getD_eq_getElem?_getD, List.getElem?_eq_getElem hi] at h1
  exact h1
/-- The table's row, as bits are counted. -/
def TabOnes (tb : ByteArray) : Prop := tb.size = 256 ∧ ∀ i, (h : i < tb.size) → (tb[i]).toNat = pcK i 8

set_option maxRecDepth 100000 in
set_option maxHeartbeats 8000000 in
theorem ones_one (m : Nat) (w : World) (hm : m < 16384) :
    Calls Tryd.prog 74 #[.int .u16 (m : Int)] w (fun e w' => e = .returned (.int .i64 (pcK m 14 : Int)) ∧ Below w.heap.size w w') := by
  have hand : bits .and .u16 (m : Int) 255 = ((m &&& 255 : Nat) : Int) := u16_and_nat m 255 (by omega) (by omega)
  obtain ⟨lo, hlo⟩ : ∃ lo, m &&& 255 = lo := ⟨_, rfl⟩
  obtain ⟨hi, hhi⟩ : ∃ hi, m / 256 = hi := ⟨_, rfl⟩
  have hdiv : (m : Int) / 256 = (hi : Int) := by omega
  have hlol : lo < 256 := by rw [← hlo]; exact Nat.lt_of_le_of_lt Nat.and_le_right (by omega)
  have hhil : hi < 64 := by omega
  have HE : Hid (pcK hi 8 + pcK lo 8 = pcK m 14) := by
    show _ = _
    have e1 : pcK lo 8 = pcK m 8 := pcK_congr 8 fun i hi' => by
      rw [← hlo, Nat.testBit_and]
      have : (255 : Nat).testBit i = true := by
        have e : (255 : Nat) = 2 ^ 8 - 1 := rfl
        rw [e, Nat.testBit_two_pow_sub_one]; simpa using hi'
      rw [this, Bool.and_true]
    have e2 : pcK hi 8 = pcK hi 6 := by
      have h6 : hi.testBit 6 = false := Nat.testBit_lt_two_pow (by omega)
      have h7 : hi.testBit 7 = false := Nat.testBit_lt_two_pow (by omega)
      show pcK hi 6 + _ + _ = _
      rw [h6, h7]; rfl
    have e3 : pcK m 14 = pcK m 8 + pcK (m / 2 ^ 8) 6 := pcK_add m 8 6
    rw [show (2 : Nat) ^ 8 = 256 from rfl, hhi] at e3
    rw [e1, e2]; omega
  rw [hlo] at hand
  go_enter Tryd.func74, Tryd.ntmps74
  generalize hT : ({ data := List.toArray _ } : ByteArray) = tb
  have HT : Hid (TabOnes tb) := by
    rw [← hT]
    exact tab_of' _ rfl (by kernel_rfl)
  have hsz : tb.size = 256 := HT.out.1
  have hih : hi < tb.size := by omega
  have hil : lo < tb.size := by omega
  have g1 : decide ((tb.size : Int) ≤ (hi : Int)) = false := by simp; omega
  have g2 : decide (tb.size ≤ hi) = false := by simp; omega
  have g3 : decide ((tb.size : Int) ≤ (lo : Int)) = false := by simp; omega
  have g4 : decide (tb.size ≤ lo) = false := by simp; omega
  have v1 : (tb[hi].toNat : Int) = (pcK hi 8 : Int) := by rw [HT.out.2 hi hih]
  have v2 : (tb[lo].toNat : Int) = (pcK lo 8 : Int) := by rw [HT.out.2 lo hil]
  have p1 := pcK_le hi 8
  have p2 := pcK_le lo 8
  obtain ⟨a, ha⟩ : ∃ a, pcK hi 8 = a := ⟨_, rfl⟩
  obtain ⟨b, hb⟩ : ∃ b, pcK lo 8 = b := ⟨_, rfl⟩
  rw [ha] at v1 HE p1
  rw [hb] at v2 HE p2
  have HMOD : Hid ((a : Int) + (b : Int) = ((pcK m 14 : Nat) : Int)) := by show _ = _; rw [← HE.out]; omega
  clear hT hlo hhi ha hb
  go_upto_region 1 with fail
  go_quiet (fail)
  go_wp2_with fail
  go_ret
  exact ⟨by show Ending.returned (.int .i64 ((a : Int) + (b : Int))) = _; rw [HMOD.out], below_drewN (Below.refl _ w) _⟩

end Go.Proofs.YtbifbmpflhdijaaDoor

namespace Go.Proofs.YtbifbmpflhdijaaDoor
open Go.RowKit
set_option linter.unusedVariables false

/-- A set of registers; nothing that was there has changed. -/
def SetB (z : Nat) (w : World) (e : Ending) (w' : World) : Prop := e = .returned (.int .u16 (z : Int)) ∧ Below w.heap.size w w'
theorem SetB.of {y z : Nat} (h : y = z) {w w' : World} (hb : Below w.heap.size w w') : SetB z w (.returned (.int .u16 (y : Int))) w' := ⟨by rw [h], hb⟩
end Go.Proofs.YtbifbmpflhdijaaDoor

namespace Go.Proofs.YtbifbmpflhdijaaDoor
open Go.RowKit
set_option linter.unusedVariables false

theorem setM_app : ∀ (L : List Nat) (m r : Nat), setM m (L ++ [r]) = sb (setM m L) r true
  | [], m, r => rfl
  | q :: L, m, r => setM_app L _ r

set_option maxRecDepth 100000 in
set_option maxHeartbeats 2000000 in
/-- **setOf.** -/
theorem setOf_one (L : List Nat) (b n c : Nat) (w : World) (hn : L.length = n) (hn3 : n ≤ 3) (hlt : ∀ r, r ∈ L → r < 14) (hc : ∀ (i r : Nat), L[i]? = some r → w.cell? ⟨b, i, none⟩ = some (.int .i64 (r : Int))) :
    Calls Tryd.prog 104 #[.slice (some ⟨b, 0, none⟩) n c] w (fun e w' => e = .returned (.int .u16 (setM 0 L : Int)) ∧ w' = w) := by
  have HN := Lib.hid hn
  have HL := Lib.hid hlt
  have HC := Lib.hid hc
  clear hn hlt hc
  go_enter Tryd.func104, Tryd.ntmps104
  go_wp2_with fail
  go_loopw [3, 8] (fun s i wr => ∃ k : Nat, k ≤ n ∧ i = .int .i64 (k : Int) ∧ s = .int .u16 (setM 0 (L.take k) : Int) ∧ wr = w) (fun _ i _ => n - (intOf i).toNat)
  case atStart => exact ⟨0, by omega, rfl, rfl, by first | rfl | trivial⟩
  case round =>
    obtain ⟨k, hk, rfl, rfl, rfl⟩ := hrel
    by_cases hlt : k < n
    · obtain ⟨r, hr⟩ : ∃ r, L[k]? = some r := ⟨L[k]'(by rw [HN.out]; exact hlt), List.getElem?_eq_getElem _⟩
      have e0 := HC.out k r hr
      have hr14 : r < 14 := HL.out r (List.mem_of_getElem? hr)
      have HS : Hid (setM 0 (L.take (k + 1)) = sb (setM 0 (L.take k)) r true) := by
        show _ = _
        rw [List.take_add_one, hr]; exact setM_app _ _ _
      obtain ⟨m, hm⟩ : ∃ m, setM 0 (L.take k) = m := ⟨_, rfl⟩
      have hlm : m < 32768 := by
        rw [← hm]
        exact Nat.lt_trans (setM_lt _ _ (by omega) fun q hq => HL.out q (List.mem_of_mem_take hq)) (by omega)
      have HM := Lib.hid hm
      rw [hm] at HS ⊢
      have HW := Lib.hid (with_one m r true wr hlm hr14)
      clear hr hm HC
      go_wp2_with fail
      refine HW.out.mono ?_
      rintro e w2 ⟨rfl, hw2⟩
      subst hw2
      rw [← HS.out]
      go_wp2_with fail
      go_roundw
      case rel => exact ⟨k + 1, by omega, by go_num, rfl, by first | rfl | trivial⟩
      case measure => simp [intOf]; omega
    · obtain rfl : k = n := by omega
      have HT : Hid (L.take k = L) := List.take_of_length_le (by rw [HN.out]; exact Nat.le_refl _)
      clear HC
      go_wp2_with fail
      rw [HT.out]
      go_ret
      exact ⟨rfl, rfl⟩

set_option maxRecDepth 100000 in
set_option maxHeartbeats 4000000 in
/-- **reads.** -/
theorem reads_one {nv na : Nat} (x : Ins) (w : World) (hx : InsT nv na x) :
    Calls Tryd.prog 72 #[aggI x] w (SetB (rdM x) w) := by
  obtain ⟨W, hW⟩ : ∃ W, w.alloc (.cells (arrI x) 50) = W := ⟨_, rfl⟩
  have hB : Below w.heap.size w W := by rw [← hW]; exact (Below.refl _ w).alloc (Nat.le_refl _) _
  have hbx : W.heap[w.heap.size]? = some (.cells (arrI x) 50 (0, 0)) := by rw [← hW]; exact heap_alloc_new w _
  have x0 : W.cell? ⟨w.heap.size, 0, none⟩ = some (.int .i64 x.op) := by rw [cell_at hbx]; rfl
  have x1 : W.cell? ⟨w.heap.size, 1, none⟩ = some (.int .i64 x.fa) := by rw [cell_at hbx]; rfl
  have x2 : W.cell? ⟨w.heap.size, 2, none⟩ = some (.int .i64 x.fb) := by rw [cell_at hbx]; rfl
  have x3 : W.cell? ⟨w.heap.size, 3, none⟩ = some (.int .i64 x.fc) := by rw [cell_at hbx]; rfl
  have x4 : W.cell? ⟨w.heap.size, 4, none⟩ = some (.int .i64 x.fd) := by rw [cell_at hbx]; rfl
  have HX := Lib.hid hx
  have HW := Lib.hid hW
  have HB := Lib.hid hB
  clear hx hW hB hbx
  unfold arrI at HW
  have hops : x.op = 3 ∨ x.op = 4 ∨ x.op = 5 ∨ x.op = 6 ∨ x.op = 7 ∨ x.op = 9 ∨ x.op = 10 ∨ x.op = 11 ∨ ((x.op == 3) = false ∧ (x.op == 4) = false ∧ (x.op == 5) = false ∧ (x.op == 6) = false ∧ (x.op == 7) = false ∧ (x.op == 9) = false ∧ (x.op == 10) = false ∧ (x.op == 11) = false) := by
    simp only [beq_eq_false_iff_ne]
    omega
  have H11 : x.op = 11 → wrA x = true := fun e => by unfold wrA; rw [e]; rfl
  have H11 := Lib.hid H11
  rcases hops with ho | ho | ho | ho | ho | ho | ho | ho | ⟨e3, e4, e5, e6, e7, e9, e10, e11⟩
  · have e3 : (x.op == 3) = true := by simpa using ho
    obtain ⟨bn, hb⟩ : ∃ q : Nat, x.fb = q := ⟨x.fb.toNat, by have := HX.out.rb (.inl ho); omega⟩
    have hbl : bn < 14 := by have := HX.out.rb (.inl ho); omega
    have HE : Hid (setM 0 [bn] = rdM x) := by
      show _ = _
      unfold rdM rdL
      simp only [ho]
      simp [hb]
    rw [hb] at x2
    obtain ⟨V, hV⟩ : ∃ V, W.alloc (.cells #[.int .i64 (bn : Int)] 3) = V := ⟨_, rfl⟩
    have HBV : Hid (Below w.heap.size w V) := by rw [← hV]; exact HB.out.alloc HB.out.size _
    have hvx : V.heap[W.heap.size]? = some (.cells #[.int .i64 (bn : Int)] 3 (0, 0)) := by rw [← hV]; exact heap_alloc_new W _
    have HC := Lib.hid (setOf_one [bn] W.heap.size 1 1 V rfl (by omega) (by intro r hr; simp at hr; omega) (by
      intro i r hr
      rw [cell_at hvx]
      match i, hr with
      | 0, hr => simp at hr; subst hr; rfl
      | (k + 1), hr => simp at hr))
    have HV := Lib.hid hV
    clear ho hb hV hvx
    go_enter Tryd.func72, Tryd.ntmps72
    go_wp2_with (first | rw [HW.out] | fail)
    rw [HV.out]
    refine HC.out.mono ?_
    rintro e w2 ⟨rfl, hw2⟩
    subst hw2
    go_wp2_with fail
    go_ret
    exact SetB.of HE.out HBV.out
  · have e3 : (x.op == 3) = false := by rw [ho]; rfl
    have e4 : (x.op == 4) = true := by simpa using ho
    obtain ⟨cn, hc⟩ : ∃ q : Nat, x.fc = q := ⟨x.fc.toNat, by have := HX.out.rc (.inl ho); omega⟩
    have hcl : cn < 14 := by have := HX.out.rc (.inl ho); omega
    have HE : Hid (setM 0 [cn] = rdM x) := by
      show _ = _
      unfold rdM rdL
      simp only [ho]
      simp [hc]
    rw [hc] at x3
    obtain ⟨V, hV⟩ : ∃ V, W.alloc (.cells #[.int .i64 (cn : Int)] 3) = V := ⟨_, rfl⟩
    have HBV : Hid (Below w.heap.size w V) := by rw [← hV]; exact HB.out.alloc HB.out.size _
    have hvx : V.heap[W.heap.size]? = some (.cells #[.int .i64 (cn : Int)] 3 (0, 0)) := by rw [← hV]; exact heap_alloc_new W _
    have HC := Lib.hid (setOf_one [cn] W.heap.size 1 1 V rfl (by omega) (by intro r hr; simp at hr; omega) (by
      intro i r hr
      rw [cell_at hvx]
      match i, hr with
      | 0, hr => simp at hr; subst hr; rfl
      | (k + 1), hr => simp at hr))
    have HV := Lib.hid hV
    clear ho hc hV hvx
    go_enter Tryd.func72, Tryd.ntmps72
    go_wp2_with (first | rw [HW.out] | fail)
    rw [HV.out]
    refine HC.out.mono ?_
    rintro e w2 ⟨rfl, hw2⟩
    subst hw2
    go_wp2_with fail
    go_ret
    exact SetB.of HE.out HBV.out
  · have e3 : (x.op == 3) = false := by rw [ho]; rfl
    have e4 : (x.op == 4) = false := by rw [ho]; rfl
    have e5 : (x.op == 5) = true := by simpa using ho
    obtain ⟨bn, hb⟩ : ∃ q : Nat, x.fb = q := ⟨x.fb.toNat, by have := HX.out.rb (.inr (.inl ho)); omega⟩
    have hbl : bn < 14 := by have := HX.out.rb (.inr (.inl ho)); omega
    obtain ⟨cn, hc⟩ : ∃ q : Nat, x.fc = q := ⟨x.fc.toNat, by have := HX.out.rc (.inr (.inl ho)); omega⟩
    have hcl : cn < 14 := by have := HX.out.rc (.inr (.inl ho)); omega
    have HE : Hid (setM 0 [bn, cn] = rdM x) := by
      show _ = _
      unfold rdM rdL
      simp only [ho]
      simp [hb, hc]
    rw [hb] at x2
    rw [hc] at x3
    obtain ⟨V, hV⟩ : ∃ V, W.alloc (.cells #[.int .i64 (bn : Int), .int .i64 (cn : Int)] 3) = V := ⟨_, rfl⟩
    have HBV : Hid (Below w.heap.size w V) := by rw [← hV]; exact HB.out.alloc HB.out.size _
    have hvx : V.heap[W.heap.size]? = some (.cells #[.int .i64 (bn : Int), .int .i64 (cn : Int)] 3 (0, 0)) := by rw [← hV]; exact heap_alloc_new W _
    have HC := Lib.hid (setOf_one [bn, cn] W.heap.size 2 2 V rfl (by omega) (by intro r hr; simp at hr; omega) (by
      intro i r hr
      rw [cell_at hvx]
      match i, hr with
      | 0, hr => simp at hr; subst hr; rfl
      | 1, hr => simp at hr; subst hr; rfl
      | (k + 2), hr => simp at hr))
    have HV := Lib.hid hV
    clear ho hb hc hV hvx
    go_enter Tryd.func72, Tryd.ntmps72
    go_wp2_with (first | rw [HW.out] | fail)
    rw [HV.out]
    refine HC.out.mono ?_
    rintro e w2 ⟨rfl, hw2⟩
    subst hw2
    go_wp2_with fail
    go_ret
    exact SetB.of HE.out HBV.out
  · have e3 : (x.op == 3) = false := by rw [ho]; rfl
    have e4 : (x.op == 4) = false := by rw [ho]; rfl
    have e5 : (x.op == 5) = false := by rw [ho]; rfl
    have e6 : (x.op == 6) = true := by simpa using ho
    obtain ⟨cn, hc⟩ : ∃ q : Nat, x.fc = q := ⟨x.fc.toNat, by have := HX.out.rc (.inr (.inr (.inl ho))); omega⟩
    have hcl : cn < 14 := by have := HX.out.rc (.inr (.inr (.inl ho))); omega
    obtain ⟨dn, hd⟩ : ∃ q : Nat, x.fd = q := ⟨x.fd.toNat, by have := HX.out.rd (.inl ho); omega⟩
    have hdl : dn < 14 := by have := HX.out.rd (.inl ho); omega
    have HE : Hid (setM 0 [cn, dn] = rdM x) := by
      show _ = _
      unfold rdM rdL
      simp only [ho]
      simp [hc, hd]
    rw [hc] at x3
    rw [hd] at x4
    obtain ⟨V, hV⟩ : ∃ V, W.alloc (.cells #[.int .i64 (cn : Int), .int .i64 (dn : Int)] 3) = V := ⟨_, rfl⟩
    have HBV : Hid (Below w.heap.size w V) := by rw [← hV]; exact HB.out.alloc HB.out.size _
    have hvx : V.heap[W.heap.size]? = some (.cells #[.int .i64 (cn : Int), .int .i64 (dn : Int)] 3 (0, 0)) := by rw [← hV]; exact heap_alloc_new W _
    have HC := Lib.hid (setOf_one [cn, dn] W.heap.size 2 2 V rfl (by omega) (by intro r hr; simp at hr; omega) (by
      intro i r hr
      rw [cell_at hvx]
      match i, hr with
      | 0, hr => simp at hr; subst hr; rfl
      | 1, hr => simp at hr; subst hr; rfl
      | (k + 2), hr => simp at hr))
    have HV := Lib.hid hV
    clear ho hc hd hV hvx
    go_enter Tryd.func72, Tryd.ntmps72
    go_wp2_with (first | rw [HW.out] | fail)
    rw [HV.out]
    refine HC.out.mono ?_
    rintro e w2 ⟨rfl, hw2⟩
    subst hw2
    go_wp2_with fail
    go_ret
    exact SetB.of HE.out HBV.out
  · have e3 : (x.op == 3) = false := by rw [ho]; rfl
    have e4 : (x.op == 4) = false := by rw [ho]; rfl
    have e5 : (x.op == 5) = false := by rw [ho]; rfl
    have e6 : (x.op == 6) = false := by rw [ho]; rfl
    have e7 : (x.op == 7) = true := by simpa using ho
    obtain ⟨bn, hb⟩ : ∃ q : Nat, x.fb = q := ⟨x.fb.toNat, by have := HX.out.rb (.inr (.inr ho)); omega⟩
    have hbl : bn < 14 := by have := HX.out.rb (.inr (.inr ho)); omega
    obtain ⟨cn, hc⟩ : ∃ q : Nat, x.fc = q := ⟨x.fc.toNat, by have := HX.out.rc (.inr (.inr (.inr ho))); omega⟩
    have hcl : cn < 14 := by have := HX.out.rc (.inr (.inr (.inr ho))); omega
    obtain ⟨dn, hd⟩ : ∃ q : Nat, x.fd = q := ⟨x.fd.toNat, by have := HX.out.rd (.inr ho); omega⟩
    have hdl : dn < 14 := by have := HX.out.rd (.inr ho); omega
    have HE : Hid (setM 0 [bn, cn, dn] = rdM x) := by
      show _ = _
      unfold rdM rdL
      simp only [ho]
      simp [hb, hc, hd]
    rw [hb] at x2
    rw [hc] at x3
    rw [hd] at x4
    obtain ⟨V, hV⟩ : ∃ V, W.alloc (.cells #[.int .i64 (bn : Int), .int .i64 (cn : Int), .int .i64 (dn : Int)] 3) = V := ⟨_, rfl⟩
    have HBV : Hid (Below w.heap.size w V) := by rw [← hV]; exact HB.out.alloc HB.out.size _
    have hvx : V.heap[W.heap.size]? = some (.cells #[.int .i64 (bn : Int), .int .i64 (cn : Int), .int .i64 (dn : Int)] 3 (0, 0)) := by rw [← hV]; exact heap_alloc_new W _
    have HC := Lib.hid (setOf_one [bn, cn, dn] W.heap.size 3 3 V rfl (by omega) (by intro r hr; simp at hr; omega) (by
      intro i r hr
      rw [cell_at hvx]
      match i, hr with
      | 0, hr => simp at hr; subst hr; rfl
      | 1, hr => simp at hr; subst hr; rfl
      | 2, hr => simp at hr; subst hr; rfl
      | (k + 3), hr => simp at hr))
    have HV := Lib.hid hV
    clear ho hb hc hd hV hvx
    go_enter Tryd.func72, Tryd.ntmps72
    go_wp2_with (first | rw [HW.out] | fail)
    rw [HV.out]
    refine HC.out.mono ?_
    rintro e w2 ⟨rfl, hw2⟩
    subst hw2
    go_wp2_with fail
    go_ret
    exact SetB.of HE.out HBV.out
  · have e3 : (x.op == 3) = false := by rw [ho]; rfl
    have e4 : (x.op == 4) = false := by rw [ho]; rfl
    have e5 : (x.op == 5) = false := by rw [ho]; rfl
    have e6 : (x.op == 6) = false := by rw [ho]; rfl
    have e7 : (x.op == 7) = false := by rw [ho]; rfl
    have e9 : (x.op == 9) = true := by simpa using ho
    obtain ⟨an, ha⟩ : ∃ q : Nat, x.fa = q := ⟨x.fa.toNat, by have := HX.out.ra (.inr (.inl ho)); omega⟩
    have hal : an < 14 := by have := HX.out.ra (.inr (.inl ho)); omega
    have HE : Hid (setM 0 [an] = rdM x) := by
      show _ = _
      unfold rdM rdL
      simp only [ho]
      simp [ha]
    rw [ha] at x1
    obtain ⟨V, hV⟩ : ∃ V, W.alloc (.cells #[.int .i64 (an : Int)] 3) = V := ⟨_, rfl⟩
    have HBV : Hid (Below w.heap.size w V) := by rw [← hV]; exact HB.out.alloc HB.out.size _
    have hvx : V.heap[W.heap.size]? = some (.cells #[.int .i64 (an : Int)] 3 (0, 0)) := by rw [← hV]; exact heap_alloc_new W _
    have HC := Lib.hid (setOf_one [an] W.heap.size 1 1 V rfl (by omega) (by intro r hr; simp at hr; omega) (by
      intro i r hr
      rw [cell_at hvx]
      match i, hr with
      | 0, hr => simp at hr; subst hr; rfl
      | (k + 1), hr => simp at hr))
    have HV := Lib.hid hV
    clear ho ha hV hvx
    go_enter Tryd.func72, Tryd.ntmps72
    go_wp2_with (first | rw [HW.out] | fail)
    rw [HV.out]
    refine HC.out.mono ?_
    rintro e w2 ⟨rfl, hw2⟩
    subst hw2
    go_wp2_with fail
    go_ret
    exact SetB.of HE.out HBV.out
  · have e3 : (x.op == 3) = false := by rw [ho]; rfl
    have e4 : (x.op == 4) = false := by rw [ho]; rfl
    have e5 : (x.op == 5) = false := by rw [ho]; rfl
    have e6 : (x.op == 6) = false := by rw [ho]; rfl
    have e7 : (x.op == 7) = false := by rw [ho]; rfl
    have e9 : (x.op == 9) = false := by rw [ho]; rfl
    have e10 : (x.op == 10) = true := by simpa using ho
    obtain ⟨an, ha⟩ : ∃ q : Nat, x.fa = q := ⟨x.fa.toNat, by have := HX.out.ra (.inr (.inr ho)); omega⟩
    have hal : an < 14 := by have := HX.out.ra (.inr (.inr ho)); omega
    have HE : Hid (setM 0 [an] = rdM x) := by
      show _ = _
      unfold rdM rdL
      simp only [ho]
      simp [ha]
    rw [ha] at x1
    obtain ⟨V, hV⟩ : ∃ V, W.alloc (.cells #[.int .i64 (an : Int)] 3) = V := ⟨_, rfl⟩
    have HBV : Hid (Below w.heap.size w V) := by rw [← hV]; exact HB.out.alloc HB.out.size _
    have hvx : V.heap[W.heap.size]? = some (.cells #[.int .i64 (an : Int)] 3 (0, 0)) := by rw [← hV]; exact heap_alloc_new W _
    have HC := Lib.hid (setOf_one [an] W.heap.size 1 1 V rfl (by omega) (by intro r hr; simp at hr; omega) (by
      intro i r hr
      rw [cell_at hvx]
      match i, hr with
      | 0, hr => simp at hr; subst hr; rfl
      | (k + 1), hr => simp at hr))
    have HV := Lib.hid hV
    clear ho ha hV hvx
    go_enter Tryd.func72, Tryd.ntmps72
    go_wp2_with (first | rw [HW.out] | fail)
    rw [HV.out]
    refine HC.out.mono ?_
    rintro e w2 ⟨rfl, hw2⟩
    subst hw2
    go_wp2_with fail
    go_ret
    exact SetB.of HE.out HBV.out
  · have e3 : (x.op == 3) = false := by rw [ho]; rfl
    have e4 : (x.op == 4) = false := by rw [ho]; rfl
    have e5 : (x.op == 5) = false := by rw [ho]; rfl
    have e6 : (x.op == 6) = false := by rw [ho]; rfl
    have e7 : (x.op == 7) = false := by rw [ho]; rfl
    have e9 : (x.op == 9) = false := by rw [ho]; rfl
    have e10 : (x.op == 10) = false := by rw [ho]; rfl
    have e11 : (x.op == 11) = true := by simpa using ho
    obtain ⟨an, ha⟩ : ∃ q : Nat, x.fa = q := ⟨x.fa.toNat, by have := HX.out.ra (.inl (H11.out ho)); omega⟩
    have hal : an < 14 := by have := HX.out.ra (.inl (H11.out ho)); omega
    have HE : Hid (setM 0 [an] = rdM x) := by
      show _ = _
      unfold rdM rdL
      simp only [ho]
      simp [ha]
    rw [ha] at x1
    obtain ⟨V, hV⟩ : ∃ V, W.alloc (.cells #[.int .i64 (an : Int)] 3) = V := ⟨_, rfl⟩
    have HBV : Hid (Below w.heap.size w V) := by rw [← hV]; exact HB.out.alloc HB.out.size _
    have hvx : V.heap[W.heap.size]? = some (.cells #[.int .i64 (an : Int)] 3 (0, 0)) := by rw [← hV]; exact heap_alloc_new W _
    have HC := Lib.hid (setOf_one [an] W.heap.size 1 1 V rfl (by omega) (by intro r hr; simp at hr; omega) (by
      intro i r hr
      rw [cell_at hvx]
      match i, hr with
      | 0, hr => simp at hr; subst hr; rfl
      | (k + 1), hr => simp at hr))
    have HV := Lib.hid hV
    clear ho ha hV hvx
    go_enter Tryd.func72, Tryd.ntmps72
    go_wp2_with (first | rw [HW.out] | fail)
    rw [HV.out]
    refine HC.out.mono ?_
    rintro e w2 ⟨rfl, hw2⟩
    subst hw2
    go_wp2_with fail
    go_ret
    exact SetB.of HE.out HBV.out
  · have HE : Hid (0 = rdM x) := by
      show _ = _
      have a3 : ¬ x.op = 3 := by simpa using e3
      have a4 : ¬ x.op = 4 := by simpa using e4
      have a5 : ¬ x.op = 5 := by simpa using e5
      have a6 : ¬ x.op = 6 := by simpa using e6
      have a7 : ¬ x.op = 7 := by simpa using e7
      have a9 : ¬ x.op = 9 := by simpa using e9
      have a10 : ¬ x.op = 10 := by simpa using e10
      have a11 : ¬ x.op = 11 := by simpa using e11
      unfold rdM rdL
      rw [if_neg a3, if_neg a4, if_neg a5, if_neg a6, if_neg a7, if_neg (by omega)]; rfl
    go_enter Tryd.func72, Tryd.ntmps72
    go_wp2_with (first | rw [HW.out] | fail)
    go_ret
    exact SetB.of HE.out HB.out

set_option maxRecDepth 100000 in
set_option maxHeartbeats 4000000 in
/-- **writes.** -/
theorem writes_one {nv na : Nat} (x : Ins) (w : World) (hx : InsT nv na x) :
    Calls Tryd.prog 73 #[aggI x] w (SetB (wrM x) w) := by
  obtain ⟨W, hW⟩ : ∃ W, w.alloc (.cells (arrI x) 50) = W := ⟨_, rfl⟩
  have hB : Below w.heap.size w W := by rw [← hW]; exact (Below.refl _ w).alloc (Nat.le_refl _) _
  have hbx : W.heap[w.heap.size]? = some (.cells (arrI x) 50 (0, 0)) := by rw [← hW]; exact heap_alloc_new w _
  have x0 : W.cell? ⟨w.heap.size, 0, none⟩ = some (.int .i64 x.op) := by rw [cell_at hbx]; rfl
  have x1 : W.cell? ⟨w.heap.size, 1, none⟩ = some (.int .i64 x.fa) := by rw [cell_at hbx]; rfl
  have x2 : W.cell? ⟨w.heap.size, 2, none⟩ = some (.int .i64 x.fb) := by rw [cell_at hbx]; rfl
  have x3 : W.cell? ⟨w.heap.size, 3, none⟩ = some (.int .i64 x.fc) := by rw [cell_at hbx]; rfl
  have x4 : W.cell? ⟨w.heap.size, 4, none⟩ = some (.int .i64 x.fd) := by rw [cell_at hbx]; rfl
  have HX := Lib.hid hx
  have HW := Lib.hid hW
  have HB := Lib.hid hB
  clear hx hW hB hbx
  unfold arrI at HW
  have hops : x.op = 1 ∨ x.op = 2 ∨ x.op = 4 ∨ x.op = 6 ∨ x.op = 7 ∨ x.op = 10 ∨ ((x.op == 1) = false ∧ (x.op == 2) = false ∧ (x.op == 4) = false ∧ (x.op == 6) = false ∧ (x.op == 7) = false ∧ (x.op == 10) = false) := by
    simp only [beq_eq_false_iff_ne]
    omega
  have HWA : Hid (x.op = 1 ∨ x.op = 2 ∨ x.op = 4 ∨ x.op = 6 ∨ x.op = 7 → wrA x = true) := fun e => by
    unfold wrA
    rcases e with e | e | e | e | e <;> rw [e] <;> rfl
  rcases hops with ho | ho | ho | ho | ho | ho | ⟨e1, e2, e4, e6, e7, e10⟩
  · have e1 : (x.op == 1) = true := by simpa using ho
    obtain ⟨an, ha⟩ : ∃ q : Nat, x.fa = q := ⟨x.fa.toNat, by have := HX.out.ra (.inl (HWA.out (by omega))); omega⟩
    have hal : an < 14 := by have := HX.out.ra (.inl (HWA.out (by omega))); omega
    have HE : Hid (setM 0 [an] = wrM x) := by
      show _ = _
      unfold wrM wrL
      simp only [ho]
      simp [ha]
    rw [ha] at x1
    obtain ⟨V, hV⟩ : ∃ V, W.alloc (.cells #[.int .i64 (an : Int)] 3) = V := ⟨_, rfl⟩
    have HBV : Hid (Below w.heap.size w V) := by rw [← hV]; exact HB.out.alloc HB.out.size _
    have hvx : V.heap[W.heap.size]? = some (.cells #[.int .i64 (an : Int)] 3 (0, 0)) := by rw [← hV]; exact heap_alloc_new W _
    have HC := Lib.hid (setOf_one [an] W.heap.size 1 1 V rfl (by omega) (by intro r hr; simp at hr; omega) (by
      intro i r hr
      rw [cell_at hvx]
      match i, hr with
      | 0, hr => simp at hr; subst hr; rfl
      | (k + 1), hr => simp at hr))
    have HV := Lib.hid hV
    clear ho ha hV hvx
    go_enter Tryd.func73, Tryd.ntmps73
    go_wp2_with (first | rw [HW.out] | fail)
    rw [HV.out]
    refine HC.out.mono ?_
    rintro e w2 ⟨rfl, hw2⟩
    subst hw2
    go_wp2_with fail
    go_ret
    exact SetB.of HE.out HBV.out
  · have e1 : (x.op == 1) = false := by rw [ho]; rfl
    have e2 : (x.op == 2) = true := by simpa using ho
    obtain ⟨an, ha⟩ : ∃ q : Nat, x.fa = q := ⟨x.fa.toNat, by have := HX.out.ra (.inl (HWA.out (by omega))); omega⟩
    have hal : an < 14 := by have := HX.out.ra (.inl (HWA.out (by omega))); omega
    have HE : Hid (setM 0 [an] = wrM x) := by
      show _ = _
      unfold wrM wrL
      simp only [ho]
      simp [ha]
    rw [ha] at x1
    obtain ⟨V, hV⟩ : ∃ V, W.alloc (.cells #[.int .i64 (an : Int)] 3) = V := ⟨_, rfl⟩
    have HBV : Hid (Below w.heap.size w V) := by rw [← hV]; exact HB.out.alloc HB.out.size _
    have hvx : V.heap[W.heap.size]? = some (.cells #[.int .i64 (an : Int)] 3 (0, 0)) := by rw [← hV]; exact heap_alloc_new W _
    have HC := Lib.hid (setOf_one [an] W.heap.size 1 1 V rfl (by omega) (by intro r hr; simp at hr; omega) (by
      intro i r hr
      rw [cell_at hvx]
      match i, hr with
      | 0, hr => simp at hr; subst hr; rfl
      | (k + 1), hr => simp at hr))
    have HV := Lib.hid hV
    clear ho ha hV hvx
    go_enter Tryd.func73, Tryd.ntmps73
    go_wp2_with (first | rw [HW.out] | fail)
    rw [HV.out]
    refine HC.out.mono ?_
    rintro e w2 ⟨rfl, hw2⟩
    subst hw2
    go_wp2_with fail
    go_ret
    exact SetB.of HE.out HBV.out
  · have e1 : (x.op == 1) = false := by rw [ho]; rfl
    have e2 : (x.op == 2) = false := by rw [ho]; rfl
    have e4 : (x.op == 4) = true := by simpa using ho
    obtain ⟨an, ha⟩ : ∃ q : Nat, x.fa = q := ⟨x.fa.toNat, by have := HX.out.ra (.inl (HWA.out (by omega))); omega⟩
    have hal : an < 14 := by have := HX.out.ra (.inl (HWA.out (by omega))); omega
    have HE : Hid (setM 0 [an] = wrM x) := by
      show _ = _
      unfold wrM wrL
      simp only [ho]
      simp [ha]
    rw [ha] at x1
    obtain ⟨V, hV⟩ : ∃ V, W.alloc (.cells #[.int .i64 (an : Int)] 3) = V := ⟨_, rfl⟩
    have HBV : Hid (Below w.heap.size w V) := by rw [← hV]; exact HB.out.alloc HB.out.size _
    have hvx : V.heap[W.heap.size]? = some (.cells #[.int .i64 (an : Int)] 3 (0, 0)) := by rw [← hV]; exact heap_alloc_new W _
    have HC := Lib.hid (setOf_one [an] W.heap.size 1 1 V rfl (by omega) (by intro r hr; simp at hr; omega) (by
      intro i r hr
      rw [cell_at hvx]
      match i, hr with
      | 0, hr => simp at hr; subst hr; rfl
      | (k + 1), hr => simp at hr))
    have HV := Lib.hid hV
    clear ho ha hV hvx
    go_enter Tryd.func73, Tryd.ntmps73
    go_wp2_with (first | rw [HW.out] | fail)
    rw [HV.out]
    refine HC.out.mono ?_
    rintro e w2 ⟨rfl, hw2⟩
    subst hw2
    go_wp2_with fail
    go_ret
    exact SetB.of HE.out HBV.out
  · have e1 : (x.op == 1) = false := by rw [ho]; rfl
    have e2 : (x.op == 2) = false := by rw [ho]; rfl
    have e4 : (x.op == 4) = false := by rw [ho]; rfl
    have e6 : (x.op == 6) = true := by simpa using ho
    obtain ⟨an, ha⟩ : ∃ q : Nat, x.fa = q := ⟨x.fa.toNat, by have := HX.out.ra (.inl (HWA.out (by omega))); omega⟩
    have hal : an < 14 := by have := HX.out.ra (.inl (HWA.out (by omega))); omega
    have HE : Hid (setM 0 [an] = wrM x) := by
      show _ = _
      unfold wrM wrL
      simp only [ho]
      simp [ha]
    rw [ha] at x1
    obtain ⟨V, hV⟩ : ∃ V, W.alloc (.cells #[.int .i64 (an : Int)] 3) = V := ⟨_, rfl⟩
    have HBV : Hid (Below w.heap.size w V) := by rw [← hV]; exact HB.out.alloc HB.out.size _
    have hvx : V.heap[W.heap.size]? = some (.cells #[.int .i64 (an : Int)] 3 (0, 0)) := by rw [← hV]; exact heap_alloc_new W _
    have HC := Lib.hid (setOf_one [an] W.heap.size 1 1 V rfl (by omega) (by intro r hr; simp at hr; omega) (by
      intro i r hr
      rw [cell_at hvx]
      match i, hr with
      | 0, hr => simp at hr; subst hr; rfl
      | (k + 1), hr => simp at hr))
    have HV := Lib.hid hV
    clear ho ha hV hvx
    go_enter Tryd.func73, Tryd.ntmps73
    go_wp2_with (first | rw [HW.out] | fail)
    rw [HV.out]
    refine HC.out.mono ?_
    rintro e w2 ⟨rfl, hw2⟩
    subst hw2
    go_wp2_with fail
    go_ret
    exact SetB.of HE.out HBV.out
  · have e1 : (x.op == 1) = false := by rw [ho]; rfl
    have e2 : (x.op == 2) = false := by rw [ho]; rfl
    have e4 : (x.op == 4) = false := by rw [ho]; rfl
    have e6 : (x.op == 6) = false := by rw [ho]; rfl
    have e7 : (x.op == 7) = true := by simpa using ho
    obtain ⟨an, ha⟩ : ∃ q : Nat, x.fa = q := ⟨x.fa.toNat, by have := HX.out.ra (.inl (HWA.out (by omega))); omega⟩
    have hal : an < 14 := by have := HX.out.ra (.inl (HWA.out (by omega))); omega
    have HE : Hid (setM 0 [an] = wrM x) := by
      show _ = _
      unfold wrM wrL
      simp only [ho]
      simp [ha]
    rw [ha] at x1
    obtain ⟨V, hV⟩ : ∃ V, W.alloc (.cells #[.int .i64 (an : Int)] 3) = V := ⟨_, rfl⟩
    have HBV : Hid (Below w.heap.size w V) := by rw [← hV]; exact HB.out.alloc HB.out.size _
    have hvx : V.heap[W.heap.size]? = some (.cells #[.int .i64 (an : Int)] 3 (0, 0)) := by rw [← hV]; exact heap_alloc_new W _
    have HC := Lib.hid (setOf_one [an] W.heap.size 1 1 V rfl (by omega) (by intro r hr; simp at hr; omega) (by
      intro i r hr
      rw [cell_at hvx]
      match i, hr with
      | 0, hr => simp at hr; subst hr; rfl
      | (k + 1), hr => simp at hr))
    have HV := Lib.hid hV
    clear ho ha hV hvx
    go_enter Tryd.func73, Tryd.ntmps73
    go_wp2_with (first | rw [HW.out] | fail)
    rw [HV.out]
    refine HC.out.mono ?_
    rintro e w2 ⟨rfl, hw2⟩
    subst hw2
    go_wp2_with fail
    go_ret
    exact SetB.of HE.out HBV.out
  · have e1 : (x.op == 1) = false := by rw [ho]; rfl
    have e2 : (x.op == 2) = false := by rw [ho]; rfl
    have e4 : (x.op == 4) = false := by rw [ho]; rfl
    have e6 : (x.op == 6) = false := by rw [ho]; rfl
    have e7 : (x.op == 7) = false := by rw [ho]; rfl
    have e10 : (x.op == 10) = true := by simpa using ho
    obtain ⟨an, ha⟩ : ∃ q : Nat, x.fa = q := ⟨x.fa.toNat, by have := HX.out.ra (.inr (.inr ho)); omega⟩
    have hal : an < 14 := by have := HX.out.ra (.inr (.inr ho)); omega
    have HE : Hid (setM 0 [an] = wrM x) := by
      show _ = _
      unfold wrM wrL
      simp only [ho]
      simp [ha]
    rw [ha] at x1
    obtain ⟨V, hV⟩ : ∃ V, W.alloc (.cells #[.int .i64 (an : Int)] 3) = V := ⟨_, rfl⟩
    have HBV : Hid (Below w.heap.size w V) := by rw [← hV]; exact HB.out.alloc HB.out.size _
    have hvx : V.heap[W.heap.size]? = some (.cells #[.int .i64 (an : Int)] 3 (0, 0)) := by rw [← hV]; exact heap_alloc_new W _
    have HC := Lib.hid (setOf_one [an] W.heap.size 1 1 V rfl (by omega) (by intro r hr; simp at hr; omega) (by
      intro i r hr
      rw [cell_at hvx]
      match i, hr with
      | 0, hr => simp at hr; subst hr; rfl
      | (k + 1), hr => simp at hr))
    have HV := Lib.hid hV
    clear ho ha hV hvx
    go_enter Tryd.func73, Tryd.ntmps73
    go_wp2_with (first | rw [HW.out] | fail)
    rw [HV.out]
    refine HC.out.mono ?_
    rintro e w2 ⟨rfl, hw2⟩
    subst hw2
    go_wp2_with fail
    go_ret
    exact SetB.of HE.out HBV.out
  · have HE : Hid (0 = wrM x) := by
      show _ = _
      have a1 : ¬ x.op = 1 := by simpa using e1
      have a2 : ¬ x.op = 2 := by simpa using e2
      have a4 : ¬ x.op = 4 := by simpa using e4
      have a6 : ¬ x.op = 6 := by simpa using e6
      have a7 : ¬ x.op = 7 := by simpa using e7
      have a10 : ¬ x.op = 10 := by simpa using e10
      unfold wrM wrL
      rw [if_neg (by omega)]; rfl
    go_enter Tryd.func73, Tryd.ntmps73
    go_wp2_with (first | rw [HW.out] | fail)
    go_ret
    exact SetB.of HE.out HB.out

/-- Whether an instruction does nothing but write a register. -/
def onlyW (x : Ins) : Bool := x.op == 1 || x.op == 2 || x.op == 6 || x.op == 7

set_option maxRecDepth 100000 in
set_option maxHeartbeats 4000000 in
/-- **onlyWrites.** -/
theorem onlyW_one {nv na : Nat} (x : Ins) (w : World) (hx : InsT nv na x) :
    Calls Tryd.prog 137 #[aggI x] w (YN (onlyW x) w) := by
  obtain ⟨W, hW⟩ : ∃ W, w.alloc (.cells (arrI x) 50) = W := ⟨_, rfl⟩
  have hB : Below w.heap.size w W := by rw [← hW]; exact (Below.refl _ w).alloc (Nat.le_refl _) _
  have hbx : W.heap[w.heap.size]? = some (.cells (arrI x) 50 (0, 0)) := by rw [← hW]; exact heap_alloc_new w _
  have x0 : W.cell? ⟨w.heap.size, 0, none⟩ = some (.int .i64 x.op) := by rw [cell_at hbx]; rfl
  have x1 : W.cell? ⟨w.heap.size, 1, none⟩ = some (.int .i64 x.fa) := by rw [cell_at hbx]; rfl
  have x2 : W.cell? ⟨w.heap.size, 2, none⟩ = some (.int .i64 x.fb) := by rw [cell_at hbx]; rfl
  have x3 : W.cell? ⟨w.heap.size, 3, none⟩ = some (.int .i64 x.fc) := by rw [cell_at hbx]; rfl
  have x4 : W.cell? ⟨w.heap.size, 4, none⟩ = some (.int .i64 x.fd) := by rw [cell_at hbx]; rfl
  have HX := Lib.hid hx
  have HW := Lib.hid hW
  have HB := Lib.hid hB
  clear hx hW hB hbx
  unfold arrI at HW
  have hops : x.op = 1 ∨ x.op = 2 ∨ x.op = 6 ∨ x.op = 7 ∨ ((x.op == 1) = false ∧ (x.op == 2) = false ∧ (x.op == 6) = false ∧ (x.op == 7) = false) := by
    simp only [beq_eq_false_iff_ne]
    omega
  rcases hops with ho | ho | ho | ho | ⟨e1, e2, e6, e7⟩
  · have HE : Hid (true = onlyW x) := by show _ = _; unfold onlyW; rw [ho]; rfl
    have e1 : (x.op == 1) = true := by simpa using ho
    clear ho
    go_enter Tryd.func137, Tryd.ntmps137
    go_wp2_with (first | rw [HW.out] | fail)
    go_ret
    exact YN.of HE.out HB.out
  · have HE : Hid (true = onlyW x) := by show _ = _; unfold onlyW; rw [ho]; rfl
    have e1 : (x.op == 1) = false := by rw [ho]; rfl
    have e2 : (x.op == 2) = true := by simpa using ho
    clear ho
    go_enter Tryd.func137, Tryd.ntmps137
    go_wp2_with (first | rw [HW.out] | fail)
    go_ret
    exact YN.of HE.out HB.out
  · have HE : Hid (true = onlyW x) := by show _ = _; unfold onlyW; rw [ho]; rfl
    have e1 : (x.op == 1) = false := by rw [ho]; rfl
    have e2 : (x.op == 2) = false := by rw [ho]; rfl
    have e6 : (x.op == 6) = true := by simpa using ho
    clear ho
    go_enter Tryd.func137, Tryd.ntmps137
    go_wp2_with (first | rw [HW.out] | fail)
    go_ret
    exact YN.of HE.out HB.out
  · have HE : Hid (true = onlyW x) := by show _ = _; unfold onlyW; rw [ho]; rfl
    have e1 : (x.op == 1) = false := by rw [ho]; rfl
    have e2 : (x.op == 2) = false := by rw [ho]; rfl
    have e6 : (x.op == 6) = false := by rw [ho]; rfl
    have e7 : (x.op == 7) = true := by simpa using ho
    clear ho
    go_enter Tryd.func137, Tryd.ntmps137
    go_wp2_with (first | rw [HW.out] | fail)
    go_ret
    exact YN.of HE.out HB.out
  · have HE : Hid (false = onlyW x) := by show _ = _; unfold onlyW; rw [e1, e2, e6, e7]; rfl
    go_enter Tryd.func137, Tryd.ntmps137
    go_wp2_with (first | rw [HW.out] | fail)
    go_ret
    exact YN.of HE.out HB.out

end Go.Proofs.YtbifbmpflhdijaaDoor

namespace Go.Proofs.YtbifbmpflhdijaaDoor
open Go.RowKit
set_option linter.unusedVariables false

theorem codeB_op' {m : Cd} (h : codeB m = true) {i : Nat} {x : Ins} (hx : m.list[i]? = some x) : 1 ≤ x.op ∧ x.op ≤ 13 := by
  unfold codeB at h
  simp only [Bool.and_eq_true] at h
  have h1 := List.all_eq_true.1 h.2.1 x (List.mem_of_getElem? hx)
  unfold insB at h1
  simp only [Bool.and_eq_true, decide_eq_true_eq] at h1
  exact h1.1
/-- The registers of the first j instructions. -/
def usX (l : List Ins) (j : Nat) : Nat := match l[j]? with | some x => rdM x ||| wrM x | none => 0
def usM (l : List Ins) : Nat → Nat
  | 0 => 0
  | j + 1 => usM l j ||| usX l j
theorem usX_at {l : List Ins} {j : Nat} {x : Ins} (h : l[j]? = some x) : usX l j = rdM x ||| wrM x := by unfold usX; rw [h]
/-- What RegsUsed answers. -/
def usN (m : Cd) : Int := if codeB m = true then (pcK (usM m.list m.list.length) 14 : Int) else 0
theorem usM_lt {l : List Ins} {nv na : Nat} (h : ∀ (i : Nat) (x : Ins), l[i]? = some x → InsT nv na x) : ∀ j, usM l j < 16384
  | 0 => by simp [usM]
  | j + 1 => by
    refine or_lt14 (usM_lt h j) ?_
    unfold usX
    split
    · rename_i x hx
      exact or_lt14 (rdM_lt (h j x hx)) (wrM_lt (h j x hx))
    · omega

set_option maxRecDepth 100000 in
set_option maxHeartbeats 8000000 in
/-- **impl.RegsUsed.** -/
theorem iUs_one (m : Cd) (k : CK) (w : World) (h : CL w m k) (hT : TblF w) :
    Calls Tryd.prog 32 #[aggC m k] w (NumB (usN m) w) := by
  obtain ⟨W, hW⟩ : ∃ W, w.alloc (.cells (arrC m k) 29) = W := ⟨_, rfl⟩
  have hB : Below w.heap.size w W := by rw [← hW]; exact (Below.refl _ w).alloc (Nat.le_refl _) _
  have hX : BoxC W w.heap.size m k := by rw [← hW]; exact BoxC.new _ _ _ _
  have H : Hid (∀ v, Below W.heap.size W v → BoxC v w.heap.size m k ∧ CL v m k) := fun v hv => ⟨hX.below hv hX.lt, (h.below hB).below hv⟩
  have c0 := hX.c0
  have c1 := hX.c1
  have c2 := hX.c2
  have HW := Lib.hid hW
  have HB := Lib.hid hB
  unfold arrC at HW
  have HV := Lib.hid (iCV_one m k W (h.below hB) (hT.below hB hT.lt))
  clear h hT hB hX hW
  go_enter Tryd.func32, Tryd.ntmps32
  go_wp2_with (first | rw [HW.out] | fail)
  refine HV.out.mono ?_
  rintro e w2 ⟨rfl, hb2⟩
  have HB2 : Hid (Below w.heap.size w w2) := HB.out.trans (hb2.mono HB.out.size)
  have HL2 : Hid (Below W.heap.size W w2) := hb2
  have hz2 := hb2.size
  have hz0 := HB.out.size
  obtain ⟨q, hq⟩ : ∃ q, codeB m = q := ⟨_, rfl⟩
  have HQ := Lib.hid hq
  rw [hq]
  clear hb2 hq HV c0 c1 c2
  cases q
  case false =>
    have HF : Hid (0 = usN m) := by show _ = _; unfold usN; rw [HQ.out]; rfl
    go_wp2_with fail
    go_ret
    exact NumB.of HF.out HB2.out
  case true =>
    obtain ⟨n, hn⟩ : ∃ n, m.list.length = n := ⟨_, rfl⟩
    have HN := Lib.hid hn
    have HO := Lib.hid (codeB_ok HQ.out)
    have hle : n ≤ 400 := by rw [← hn]; exact HO.out.le
    have x2 : w2.cell? ⟨w.heap.size, 2, none⟩ = some (.slice k.la n k.lc) := by rw [← hn]; exact (H.out w2 HL2.out).1.c2
    have HIT : Hid (∀ (i : Nat) (x : Ins), m.list[i]? = some x → InsT m.vars.length m.arrs.length x) := fun i x hx => codeB_ins HQ.out hx
    clear hn
    go_wp2_with fail
    clear x2
    go_loopw [3, 12] (fun s i wr => ∃ j : Nat, j ≤ n ∧ i = .int .i64 (j : Int) ∧ s = .int .u16 (usM m.list j : Int) ∧ Below w2.heap.size w2 wr) (fun _ i _ => n - (intOf i).toNat)
    case atStart => exact ⟨0, Nat.zero_le _, rfl, rfl, Below.refl _ _⟩
    case round =>
      obtain ⟨j, hj, rfl, rfl, hb⟩ := hrel
      have HBR := Lib.hid hb
      have hWr : Below W.heap.size W wr := HL2.out.trans (hb.mono hz2)
      have hbsz := hb.size
      have hcl := (H.out wr hWr).2
      clear hb hWr
      by_cases hlt : j < n
      · obtain ⟨x, hx⟩ : ∃ x, m.list[j]? = some x := ⟨m.list[j]'(by rw [HN.out]; exact hlt), List.getElem?_eq_getElem _⟩
        obtain ⟨bi, oi, hla, hbil, e0, e1, e2, e3, e4⟩ := hcl.2.2.2 j x hx
        have hxt := HIT.out j x hx
        have hul := usM_lt HIT.out j
        have hrl := rdM_lt hxt
        have hwl := wrM_lt hxt
        have hus : usM m.list (j + 1) = usM m.list j ||| (rdM x ||| wrM x) := by show _ ||| usX m.list j = _; rw [usX_at hx]
        have ho1 : bits .or .u16 (rdM x : Int) (wrM x : Int) = ((rdM x ||| wrM x : Nat) : Int) := u16_or_nat _ _ (by omega) (by omega)
        have ho2 : bits .or .u16 (usM m.list j : Int) ((rdM x ||| wrM x : Nat) : Int) = ((usM m.list (j + 1) : Nat) : Int) := by
          rw [hus]
          exact u16_or_nat _ _ (by omega) (by have := or_lt14 hrl hwl; omega)
        have HRD := Lib.hid (fun v => reads_one x v hxt)
        have HWR := Lib.hid (fun v => writes_one x v hxt)
        obtain ⟨u, hu⟩ : ∃ u, usM m.list j = u := ⟨_, rfl⟩
        obtain ⟨u', hu'⟩ : ∃ u, usM m.list (j + 1) = u := ⟨_, rfl⟩
        obtain ⟨rw', hrw⟩ : ∃ u, rdM x ||| wrM x = u := ⟨_, rfl⟩
        obtain ⟨rd, hrd⟩ : ∃ u, rdM x = u := ⟨_, rfl⟩
        obtain ⟨wm, hwm⟩ : ∃ u, wrM x = u := ⟨_, rfl⟩
        rw [hrw] at ho1 ho2
        rw [hu, hu'] at ho2
        rw [hrd] at ho1 HRD
        rw [hwm] at ho1 HWR
        rw [hu]
        have HU := Lib.hid hu'
        obtain ⟨V, hV⟩ : ∃ V, wr.alloc (.cells #[.int .i64 x.op, .int .i64 x.fa, .int .i64 x.fb, .int .i64 x.fc, .int .i64 x.fd] 50) = V := ⟨_, rfl⟩
        have hbV : Below wr.heap.size wr V := by rw [← hV]; exact (Below.refl _ _).alloc (Nat.le_refl _) _
        have hvx : V.heap[wr.heap.size]? = some (.cells #[.int .i64 x.op, .int .i64 x.fa, .int .i64 x.fb, .int .i64 x.fc, .int .i64 x.fd] 50 (0, 0)) := by rw [← hV]; exact heap_alloc_new wr _
        have HSB : Hid (∀ v, Below V.heap.size V v → v.cell? ⟨wr.heap.size, 0, none⟩ = some (.int .i64 x.op) ∧ v.cell? ⟨wr.heap.size, 1, none⟩ = some (.int .i64 x.fa) ∧ v.cell? ⟨wr.heap.size, 2, none⟩ = some (.int .i64 x.fb) ∧ v.cell? ⟨wr.heap.size, 3, none⟩ = some (.int .i64 x.fc) ∧ v.cell? ⟨wr.heap.size, 4, none⟩ = some (.int .i64 x.fd)) := fun v hv => by
          have h1 := (hv.block _ (Array.getElem?_eq_some_iff.1 hvx).1).trans hvx
          exact ⟨by rw [cell_at h1]; rfl, by rw [cell_at h1]; rfl, by rw [cell_at h1]; rfl, by rw [cell_at h1]; rfl, by rw [cell_at h1]; rfl⟩
        have hBD : Below V.heap.size V V.drew := (Below.refl _ _).drew
        have hS0 := HSB.out V.drew hBD
        have HBV := Lib.hid hbV
        have HV2 := Lib.hid hV
        have hjI : (j : Int) < n := by omega
        rw [hla]
        clear hx hxt hul hrl hwl hus hu hu' hrw hrd hwm hla hcl hbV hvx hV
        go_wp2_with (first | rw [HV2.out] | fail)
        try rw [HV2.out]
        clear e0 e1 e2 e3 e4
        go_region_held3 (fun v => v.cell? ⟨wr.heap.size, 0, none⟩ = some (.int .i64 x.op) ∧ v.cell? ⟨wr.heap.size, 1, none⟩ = some (.int .i64 x.fa) ∧ v.cell? ⟨wr.heap.size, 2, none⟩ = some (.int .i64 x.fb) ∧ v.cell? ⟨wr.heap.size, 3, none⟩ = some (.int .i64 x.fc) ∧ v.cell? ⟨wr.heap.size, 4, none⟩ = some (.int .i64 x.fd)) (first | (with_reducible assumption) | (with_reducible exact hS0))
          (first
          | (go_at_call 72; (with_reducible refine (HRD.out _).mono ?_)
             rintro e w3 ⟨rfl, hb3⟩
             have hB3 : Below V.heap.size V w3 := hBD.trans (hb3.mono hBD.size)
             have hS3 := HSB.out w3 hB3)
          | (go_at_call 73; (with_reducible refine (HWR.out _).mono ?_)
             rintro e w4 ⟨rfl, hb4⟩
             have hB4 : Below V.heap.size V w4 := hB3.trans (hb4.mono hB3.size)
             have hS4 := HSB.out w4 hB4)
          | fail)
        have HREL : Hid (∃ q : Nat, q ≤ n ∧ Value.int .i64 ((j : Int) + 1) = .int .i64 (q : Int) ∧ Value.int .u16 (u' : Int) = .int .u16 (usM m.list q : Int) ∧ Below w2.heap.size w2 w4) := ⟨j + 1, hlt, by go_num, by rw [HU.out], HBR.out.trans ((HBV.out.trans (hB4.mono HBV.out.size)).mono hbsz)⟩
        clear hB3 hB4 hS3 hS4 hb3 hb4 hS0 hBD
        go_wp2_with fail
        go_roundw
        case rel => exact HREL.out
        case measure => simp [intOf]; omega
      · obtain rfl : j = n := by omega
        have HO1 := Lib.hid (ones_one (usM m.list j) wr (usM_lt HIT.out j))
        have HF : Hid ((pcK (usM m.list j) 14 : Int) = usN m) := by show _ = _; unfold usN; rw [HQ.out, HN.out]; rfl
        clear hcl
        go_wp2_with fail
        refine HO1.out.mono ?_
        rintro e w3 ⟨rfl, hb3⟩
        have HB3 : Hid (Below w.heap.size w w3) := HB2.out.trans ((HBR.out.trans (hb3.mono hbsz)).mono (by omega))
        clear hb3
        go_wp2_with fail
        go_ret
        exact NumB.of HF.out HB3.out

end Go.Proofs.YtbifbmpflhdijaaDoor

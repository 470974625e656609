/- An answer that is a set of registers. -/
import Derived.Test.YtbifbmpflhdijaaDoorEvB
import Derived.Test.YtbifbmpflhdijaaDoorLvP
import Derived.Test.YtbifbmpflhdijaaDoorTnV
import Derived.Test.YtbifbmpflhdijaaDoorCvI
import Derived.Test.YtbifbmpflhdijaaDoorCtP
import Derived.Test.YtbifbmpflhdijaaDoorBlSB
import Derived.Test.YtbifbmpflhdijaaDoorRcI
import Derived.Deep.RegionHeld3
import Derived.Test.YtbifbmpflhdijaaDoorBb
import Derived.Deep.RegionWith
import Derived.Test.YtbifbmpflhdijaaDoorAppA
import Derived.Deep.RegionLaw
import Derived.Deep.AppendLies
namespace Go.Proofs.YtbifbmpflhdijaaDoor
open Go.RowKit
set_option linter.unusedVariables false

/-- A set of registers; nothing that was there has changed. -/
def SetB (z : Nat) (w : World) (e : Ending) (w' : World) : Prop := e = .returned (.int .u16 (z : Int)) ∧ Below w.heap.size w w'
theorem SetB.of {y z : Nat} (h : y = z) {w w' : World} (hb : Below w.heap.size w w') : SetB z w (.returned (.int .u16 (y : Int))) w' := ⟨by rw [h], hb⟩
end Go.Proofs.YtbifbmpflhdijaaDoor

namespace Go.Proofs.YtbifbmpflhdijaaDoor
open Go.RowKit
set_option linter.unusedVariables false

theorem setM_app : ∀ (L : List Nat) (m r : Nat), setM m (L ++ [r]) = sb (setM m L) r true
  | [], m, r => rfl
  | q :: L, m, r => setM_app L _ r

set_option maxRecDepth 100000 in
set_option maxHeartbeats 2000000 in
/-- **setOf.** -/
theorem setOf_one (L : List Nat) (b n c : Nat) (w : World) (hn : L.length = n) (hn3 : n ≤ 3) (hlt : ∀ r, r ∈ L → r < 14) (hc : ∀ (i r : Nat), L[i]? = some r → w.cell? ⟨b, i, none⟩ = some (.int .i64 (r : Int))) :
    Calls Tryd.prog 104 #[.slice (some ⟨b, 0, none⟩) n c] w (fun e w' => e = .returned (.int .u16 (setM 0 L : Int)) ∧ w' = w) := by
  have HN := Lib.hid hn
  have HL := Lib.hid hlt
  have HC := Lib.hid hc
  clear hn hlt hc
  go_enter Tryd.func104, Tryd.ntmps104
  go_wp2_with fail
  go_loopw [3, 8] (fun s i wr => ∃ k : Nat, k ≤ n ∧ i = .int .i64 (k : Int) ∧ s = .int .u16 (setM 0 (L.take k) : Int) ∧ wr = w) (fun _ i _ => n - (intOf i).toNat)
  case atStart => exact ⟨0, by omega, rfl, rfl, by first | rfl | trivial⟩
  case round =>
    obtain ⟨k, hk, rfl, rfl, rfl⟩ := hrel
    by_cases hlt : k < n
    · obtain ⟨r, hr⟩ : ∃ r, L[k]? = some r := ⟨L[k]'(by rw [HN.out]; exact hlt), List.getElem?_eq_getElem _⟩
      have e0 := HC.out k r hr
      have hr14 : r < 14 := HL.out r (List.mem_of_getElem? hr)
      have HS : Hid (setM 0 (L.take (k + 1)) = sb (setM 0 (L.take k)) r true) := by
        show _ = _
        rw [List.take_add_one, hr]; exact setM_app _ _ _
      obtain ⟨m, hm⟩ : ∃ m, setM 0 (L.take k) = m := ⟨_, rfl⟩
      have hlm : m < 32768 := by
        rw [← hm]
        exact Nat.lt_trans (setM_lt _ _ (by omega) fun q hq => HL.out q (List.mem_of_mem_take hq)) (by omega)
      have HM := Lib.hid hm
      rw [hm] at HS ⊢
      have HW := Lib.hid (with_one m r true wr hlm hr14)
      clear hr hm HC
      go_wp2_with fail
      refine HW.out.mono ?_
      rintro e w2 ⟨rfl, hw2⟩
      subst hw2
      rw [← HS.out]
      go_wp2_with fail
      go_roundw
      case rel => exact ⟨k + 1, by omega, by go_num, rfl, by first | rfl | trivial⟩
      case measure => simp [intOf]; omega
    · obtain rfl : k = n := by omega
      have HT : Hid (L.take k = L) := List.take_of_length_le (by rw [HN.out]; exact Nat.le_refl _)
      clear HC
      go_wp2_with fail
      rw [HT.out]
      go_ret
      exact ⟨rfl, rfl⟩

set_option maxRecDepth 100000 in
set_option maxHeartbeats 4000000 in
/-- **reads.** -/
theorem reads_one {nv na : Nat} (x : Ins) (w : World) (hx : InsT nv na x) :
    Calls Tryd.prog 72 #[aggI x] w (SetB (rdM x) w) := by
  obtain ⟨W, hW⟩ : ∃ W, w.alloc (.cells (arrI x) 50) = W := ⟨_, rfl⟩
  have hB : Below w.heap.size w W := by rw [← hW]; exact (Below.refl _ w).alloc (Nat.le_refl _) _
  have hbx : W.heap[w.heap.size]? = some (.cells (arrI x) 50 (0, 0)) := by rw [← hW]; exact heap_alloc_new w _
  have x0 : W.cell? ⟨w.heap.size, 0, none⟩ = some (.int .i64 x.op) := by rw [cell_at hbx]; rfl
  have x1 : W.cell? ⟨w.heap.size, 1, none⟩ = some (.int .i64 x.fa) := by rw [cell_at hbx]; rfl
  have x2 : W.cell? ⟨w.heap.size, 2, none⟩ = some (.int .i64 x.fb) := by rw [cell_at hbx]; rfl
  have x3 : W.cell? ⟨w.heap.size, 3, none⟩ = some (.int .i64 x.fc) := by rw [cell_at hbx]; rfl
  have x4 : W.cell? ⟨w.heap.size, 4, none⟩ = some (.int .i64 x.fd) := by rw [cell_at hbx]; rfl
  have HX := Lib.hid hx
  have HW := Lib.hid hW
  have HB := Lib.hid hB
  clear hx hW hB hbx
  unfold arrI at HW
  have hops : x.op = 3 ∨ x.op = 4 ∨ x.op = 5 ∨ x.op = 6 ∨ x.op = 7 ∨ x.op = 9 ∨ x.op = 10 ∨ x.op = 11 ∨ ((x.op == 3) = false ∧ (x.op == 4) = false ∧ (x.op == 5) = false ∧ (x.op == 6) = false ∧ (x.op == 7) = false ∧ (x.op == 9) = false ∧ (x.op == 10) = false ∧ (x.op == 11) = false) := by
    simp only [beq_eq_false_iff_ne]
    omega
  have H11 : x.op = 11 → wrA x = true := fun e => by unfold wrA; rw [e]; rfl
  have H11 := Lib.hid H11
  rcases hops with ho | ho | ho | ho | ho | ho | ho | ho | ⟨e3, e4, e5, e6, e7, e9, e10, e11⟩
  · have e3 : (x.op == 3) = true := by simpa using ho
    obtain ⟨bn, hb⟩ : ∃ q : Nat, x.fb = q := ⟨x.fb.toNat, by have := HX.out.rb (.inl ho); omega⟩
    have hbl : bn < 14 := by have := HX.out.rb (.inl ho); omega
    have HE : Hid (setM 0 [bn] = rdM x) := by
      show _ = _
      unfold rdM rdL
      simp only [ho]
      simp [hb]
    rw [hb] at x2
    obtain ⟨V, hV⟩ : ∃ V, W.alloc (.cells #[.int .i64 (bn : Int)] 3) = V := ⟨_, rfl⟩
    have HBV : Hid (Below w.heap.size w V) := by rw [← hV]; exact HB.out.alloc HB.out.size _
    have hvx : V.heap[W.heap.size]? = some (.cells #[.int .i64 (bn : Int)] 3 (0, 0)) := by rw [← hV]; exact heap_alloc_new W _
    have HC := Lib.hid (setOf_one [bn] W.heap.size 1 1 V rfl (by omega) (by intro r hr; simp at hr; omega) (by
      intro i r hr
      rw [cell_at hvx]
      match i, hr with
      | 0, hr => simp at hr; subst hr; rfl
      | (k + 1), hr => simp at hr))
    have HV := Lib.hid hV
    clear ho hb hV hvx
    go_enter Tryd.func72, Tryd.ntmps72
    go_wp2_with (first | rw [HW.out] | fail)
    rw [HV.out]
    refine HC.out.mono ?_
    rintro e w2 ⟨rfl, hw2⟩
    subst hw2
    go_wp2_with fail
    go_ret
    exact SetB.of HE.out HBV.out
  · have e3 : (x.op == 3) = false := by rw [ho]; rfl
    have e4 : (x.op == 4) = true := by simpa using ho
    obtain ⟨cn, hc⟩ : ∃ q : Nat, x.fc = q := ⟨x.fc.toNat, by have := HX.out.rc (.inl ho); omega⟩
    have hcl : cn < 14 := by have := HX.out.rc (.inl ho); omega
    have HE : Hid (setM 0 [cn] = rdM x) := by
      show _ = _
      unfold rdM rdL
      simp only [ho]
      simp [hc]
    rw [hc] at x3
    obtain ⟨V, hV⟩ : ∃ V, W.alloc (.cells #[.int .i64 (cn : Int)] 3) = V := ⟨_, rfl⟩
    have HBV : Hid (Below w.heap.size w V) := by rw [← hV]; exact HB.out.alloc HB.out.size _
    have hvx : V.heap[W.heap.size]? = some (.cells #[.int .i64 (cn : Int)] 3 (0, 0)) := by rw [← hV]; exact heap_alloc_new W _
    have HC := Lib.hid (setOf_one [cn] W.heap.size 1 1 V rfl (by omega) (by intro r hr; simp at hr; omega) (by
      intro i r hr
      rw [cell_at hvx]
      match i, hr with
      | 0, hr => simp at hr; subst hr; rfl
      | (k + 1), hr => simp at hr))
    have HV := Lib.hid hV
    clear ho hc hV hvx
    go_enter Tryd.func72, Tryd.ntmps72
    go_wp2_with (first | rw [HW.out] | fail)
    rw [HV.out]
    refine HC.out.mono ?_
    rintro e w2 ⟨rfl, hw2⟩
    subst hw2
    go_wp2_with fail
    go_ret
    exact SetB.of HE.out HBV.out
  · have e3 : (x.op == 3) = false := by rw [ho]; rfl
    have e4 : (x.op == 4) = false := by rw [ho]; rfl
    have e5 : (x.op == 5) = true := by simpa using ho
    obtain ⟨bn, hb⟩ : ∃ q : Nat, x.fb = q := ⟨x.fb.toNat, by have := HX.out.rb (.inr (.inl ho)); omega⟩
    have hbl : bn < 14 := by have := HX.out.rb (.inr (.inl ho)); omega
    obtain ⟨cn, hc⟩ : ∃ q : Nat, x.fc = q := ⟨x.fc.toNat, by have := HX.out.rc (.inr (.inl ho)); omega⟩
    have hcl : cn < 14 := by have := HX.out.rc (.inr (.inl ho)); omega
    have HE : Hid (setM 0 [bn, cn] = rdM x) := by
      show _ = _
      unfold rdM rdL
      simp only [ho]
      simp [hb, hc]
    rw [hb] at x2
    rw [hc] at x3
    obtain ⟨V, hV⟩ : ∃ V, W.alloc (.cells #[.int .i64 (bn : Int), .int .i64 (cn : Int)] 3) = V := ⟨_, rfl⟩
    have HBV : Hid (Below w.heap.size w V) := by rw [← hV]; exact HB.out.alloc HB.out.size _
    have hvx : V.heap[W.heap.size]? = some (.cells #[.int .i64 (bn : Int), .int .i64 (cn : Int)] 3 (0, 0)) := by rw [← hV]; exact heap_alloc_new W _
    have HC := Lib.hid (setOf_one [bn, cn] W.heap.size 2 2 V rfl (by omega) (by intro r hr; simp at hr; omega) (by
      intro i r hr
      rw [cell_at hvx]
      match i, hr with
      | 0, hr => simp at hr; subst hr; rfl
      | 1, hr => simp at hr; subst hr; rfl
      | (k + 2), hr => simp at hr))
    have HV := Lib.hid hV
    clear ho hb hc hV hvx
    go_enter Tryd.func72, Tryd.ntmps72
    go_wp2_with (first | rw [HW.out] | fail)
    rw [HV.out]
    refine HC.out.mono ?_
    rintro e w2 ⟨rfl, hw2⟩
    subst hw2
    go_wp2_with fail
    go_ret
    exact SetB.of HE.out HBV.out
  · have e3 : (x.op == 3) = false := by rw [ho]; rfl
    have e4 : (x.op == 4) = false := by rw [ho]; rfl
    have e5 : (x.op == 5) = false := by rw [ho]; rfl
    have e6 : (x.op == 6) = true := by simpa using ho
    obtain ⟨cn, hc⟩ : ∃ q : Nat, x.fc = q := ⟨x.fc.toNat, by have := HX.out.rc (.inr (.inr (.inl ho))); omega⟩
    have hcl : cn < 14 := by have := HX.out.rc (.inr (.inr (.inl ho))); omega
    obtain ⟨dn, hd⟩ : ∃ q : Nat, x.fd = q := ⟨x.fd.toNat, by have := HX.out.rd (.inl ho); omega⟩
    have hdl : dn < 14 := by have := HX.out.rd (.inl ho); omega
    have HE : Hid (setM 0 [cn, dn] = rdM x) := by
      show _ = _
      unfold rdM rdL
      simp only [ho]
      simp [hc, hd]
    rw [hc] at x3
    rw [hd] at x4
    obtain ⟨V, hV⟩ : ∃ V, W.alloc (.cells #[.int .i64 (cn : Int), .int .i64 (dn : Int)] 3) = V := ⟨_, rfl⟩
    have HBV : Hid (Below w.heap.size w V) := by rw [← hV]; exact HB.out.alloc HB.out.size _
    have hvx : V.heap[W.heap.size]? = some (.cells #[.int .i64 (cn : Int), .int .i64 (dn : Int)] 3 (0, 0)) := by rw [← hV]; exact heap_alloc_new W _
    have HC := Lib.hid (setOf_one [cn, dn] W.heap.size 2 2 V rfl (by omega) (by intro r hr; simp at hr; omega) (by
      intro i r hr
      rw [cell_at hvx]
      match i, hr with
      | 0, hr => simp at hr; subst hr; rfl
      | 1, hr => simp at hr; subst hr; rfl
      | (k + 2), hr => simp at hr))
    have HV := Lib.hid hV
    clear ho hc hd hV hvx
    go_enter Tryd.func72, Tryd.ntmps72
    go_wp2_with (first | rw [HW.out] | fail)
    rw [HV.out]
    refine HC.out.mono ?_
    rintro e w2 ⟨rfl, hw2⟩
    subst hw2
    go_wp2_with fail
    go_ret
    exact SetB.of HE.out HBV.out
  · have e3 : (x.op == 3) = false := by rw [ho]; rfl
    have e4 : (x.op == 4) = false := by rw [ho]; rfl
    have e5 : (x.op == 5) = false := by rw [ho]; rfl
    have e6 : (x.op == 6) = false := by rw [ho]; rfl
    have e7 : (x.op == 7) = true := by simpa using ho
    obtain ⟨bn, hb⟩ : ∃ q : Nat, x.fb = q := ⟨x.fb.toNat, by have := HX.out.rb (.inr (.inr ho)); omega⟩
    have hbl : bn < 14 := by have := HX.out.rb (.inr (.inr ho)); omega
    obtain ⟨cn, hc⟩ : ∃ q : Nat, x.fc = q := ⟨x.fc.toNat, by have := HX.out.rc (.inr (.inr (.inr ho))); omega⟩
    have hcl : cn < 14 := by have := HX.out.rc (.inr (.inr (.inr ho))); omega
    obtain ⟨dn, hd⟩ : ∃ q : Nat, x.fd = q := ⟨x.fd.toNat, by have := HX.out.rd (.inr ho); omega⟩
    have hdl : dn < 14 := by have := HX.out.rd (.inr ho); omega
    have HE : Hid (setM 0 [bn, cn, dn] = rdM x) := by
      show _ = _
      unfold rdM rdL
      simp only [ho]
      simp [hb, hc, hd]
    rw [hb] at x2
    rw [hc] at x3
    rw [hd] at x4
    obtain ⟨V, hV⟩ : ∃ V, W.alloc (.cells #[.int .i64 (bn : Int), .int .i64 (cn : Int), .int .i64 (dn : Int)] 3) = V := ⟨_, rfl⟩
    have HBV : Hid (Below w.heap.size w V) := by rw [← hV]; exact HB.out.alloc HB.out.size _
    have hvx : V.heap[W.heap.size]? = some (.cells #[.int .i64 (bn : Int), .int .i64 (cn : Int), .int .i64 (dn : Int)] 3 (0, 0)) := by rw [← hV]; exact heap_alloc_new W _
    have HC := Lib.hid (setOf_one [bn, cn, dn] W.heap.size 3 3 V rfl (by omega) (by intro r hr; simp at hr; omega) (by
      intro i r hr
      rw [cell_at hvx]
      match i, hr with
      | 0, hr => simp at hr; subst hr; rfl
      | 1, hr => simp at hr; subst hr; rfl
      | 2, hr => simp at hr; subst hr; rfl
      | (k + 3), hr => simp at hr))
    have HV := Lib.hid hV
    clear ho hb hc hd hV hvx
    go_enter Tryd.func72, Tryd.ntmps72
    go_wp2_with (first | rw [HW.out] | fail)
    rw [HV.out]
    refine HC.out.mono ?_
    rintro e w2 ⟨rfl, hw2⟩
    subst hw2
    go_wp2_with fail
    go_ret
    exact SetB.of HE.out HBV.out
  · have e3 : (x.op == 3) = false := by rw [ho]; rfl
    have e4 : (x.op == 4) = false := by rw [ho]; rfl
    have e5 : (x.op == 5) = false := by rw [ho]; rfl
    have e6 : (x.op == 6) = false := by rw [ho]; rfl
    have e7 : (x.op == 7) = false := by rw [ho]; rfl
    have e9 : (x.op == 9) = true := by simpa using ho
    obtain ⟨an, ha⟩ : ∃ q : Nat, x.fa = q := ⟨x.fa.toNat, by have := HX.out.ra (.inr (.inl ho)); omega⟩
    have hal : an < 14 := by have := HX.out.ra (.inr (.inl ho)); omega
    have HE : Hid (setM 0 [an] = rdM x) := by
      show _ = _
      unfold rdM rdL
      simp only [ho]
      simp [ha]
    rw [ha] at x1
    obtain ⟨V, hV⟩ : ∃ V, W.alloc (.cells #[.int .i64 (an : Int)] 3) = V := ⟨_, rfl⟩
    have HBV : Hid (Below w.heap.size w V) := by rw [← hV]; exact HB.out.alloc HB.out.size _
    have hvx : V.heap[W.heap.size]? = some (.cells #[.int .i64 (an : Int)] 3 (0, 0)) := by rw [← hV]; exact heap_alloc_new W _
    have HC := Lib.hid (setOf_one [an] W.heap.size 1 1 V rfl (by omega) (by intro r hr; simp at hr; omega) (by
      intro i r hr
      rw [cell_at hvx]
      match i, hr with
      | 0, hr => simp at hr; subst hr; rfl
      | (k + 1), hr => simp at hr))
    have HV := Lib.hid hV
    clear ho ha hV hvx
    go_enter Tryd.func72, Tryd.ntmps72
    go_wp2_with (first | rw [HW.out] | fail)
    rw [HV.out]
    refine HC.out.mono ?_
    rintro e w2 ⟨rfl, hw2⟩
    subst hw2
    go_wp2_with fail
    go_ret
    exact SetB.of HE.out HBV.out
  · have e3 : (x.op == 3) = false := by rw [ho]; rfl
    have e4 : (x.op == 4) = false := by rw [ho]; rfl
    have e5 : (x.op == 5) = false := by rw [ho]; rfl
    have e6 : (x.op == 6) = false := by rw [ho]; rfl
    have e7 : (x.op == 7) = false := by rw [ho]; rfl
    have e9 : (x.op == 9) = false := by rw [ho]; rfl
    have e10 : (x.op == 10) = true := by simpa using ho
    obtain ⟨an, ha⟩ : ∃ q : Nat, x.fa = q := ⟨x.fa.toNat, by have := HX.out.ra (.inr (.inr ho)); omega⟩
    have hal : an < 14 := by have := HX.out.ra (.inr (.inr ho)); omega
    have HE : Hid (setM 0 [an] = rdM x) := by
      show _ = _
      unfold rdM rdL
      simp only [ho]
      simp [ha]
    rw [ha] at x1
    obtain ⟨V, hV⟩ : ∃ V, W.alloc (.cells #[.int .i64 (an : Int)] 3) = V := ⟨_, rfl⟩
    have HBV : Hid (Below w.heap.size w V) := by rw [← hV]; exact HB.out.alloc HB.out.size _
    have hvx : V.heap[W.heap.size]? = some (.cells #[.int .i64 (an : Int)] 3 (0, 0)) := by rw [← hV]; exact heap_alloc_new W _
    have HC := Lib.hid (setOf_one [an] W.heap.size 1 1 V rfl (by omega) (by intro r hr; simp at hr; omega) (by
      intro i r hr
      rw [cell_at hvx]
      match i, hr with
      | 0, hr => simp at hr; subst hr; rfl
      | (k + 1), hr => simp at hr))
    have HV := Lib.hid hV
    clear ho ha hV hvx
    go_enter Tryd.func72, Tryd.ntmps72
    go_wp2_with (first | rw [HW.out] | fail)
    rw [HV.out]
    refine HC.out.mono ?_
    rintro e w2 ⟨rfl, hw2⟩
    subst hw2
    go_wp2_with fail
    go_ret
    exact SetB.of HE.out HBV.out
  · have e3 : (x.op == 3) = false := by rw [ho]; rfl
    have e4 : (x.op == 4) = false := by rw [ho]; rfl
    have e5 : (x.op == 5) = false := by rw [ho]; rfl
    have e6 : (x.op == 6) = false := by rw [ho]; rfl
    have e7 : (x.op == 7) = false := by rw [ho]; rfl
    have e9 : (x.op == 9) = false := by rw [ho]; rfl
    have e10 : (x.op == 10) = false := by rw [ho]; rfl
    have e11 : (x.op == 11) = true := by simpa using ho
    obtain ⟨an, ha⟩ : ∃ q : Nat, x.fa = q := ⟨x.fa.toNat, by have := HX.out.ra (.inl (H11.out ho)); omega⟩
    have hal : an < 14 := by have := HX.out.ra (.inl (H11.out ho)); omega
    have HE : Hid (setM 0 [an] = rdM x) := by
      show _ = _
      unfold rdM rdL
      simp only [ho]
      simp [ha]
    rw [ha] at x1
    obtain ⟨V, hV⟩ : ∃ V, W.alloc (.cells #[.int .i64 (an : Int)] 3) = V := ⟨_, rfl⟩
    have HBV : Hid (Below w.heap.size w V) := by rw [← hV]; exact HB.out.alloc HB.out.size _
    have hvx : V.heap[W.heap.size]? = some (.cells #[.int .i64 (an : Int)] 3 (0, 0)) := by rw [← hV]; exact heap_alloc_new W _
    have HC := Lib.hid (setOf_one [an] W.heap.size 1 1 V rfl (by omega) (by intro r hr; simp at hr; omega) (by
      intro i r hr
      rw [cell_at hvx]
      match i, hr with
      | 0, hr => simp at hr; subst hr; rfl
      | (k + 1), hr => simp at hr))
    have HV := Lib.hid hV
    clear ho ha hV hvx
    go_enter Tryd.func72, Tryd.ntmps72
    go_wp2_with (first | rw [HW.out] | fail)
    rw [HV.out]
    refine HC.out.mono ?_
    rintro e w2 ⟨rfl, hw2⟩
    subst hw2
    go_wp2_with fail
    go_ret
    exact SetB.of HE.out HBV.out
  · have HE : Hid (0 = rdM x) := by
      show _ = _
      have a3 : ¬ x.op = 3 := by simpa using e3
      have a4 : ¬ x.op = 4 := by simpa using e4
      have a5 : ¬ x.op = 5 := by simpa using e5
      have a6 : ¬ x.op = 6 := by simpa using e6
      have a7 : ¬ x.op = 7 := by simpa using e7
      have a9 : ¬ x.op = 9 := by simpa using e9
      have a10 : ¬ x.op = 10 := by simpa using e10
      have a11 : ¬ x.op = 11 := by simpa using e11
      unfold rdM rdL
      rw [if_neg a3, if_neg a4, if_neg a5, if_neg a6, if_neg a7, if_neg (by omega)]; rfl
    go_enter Tryd.func72, Tryd.ntmps72
    go_wp2_with (first | rw [HW.out] | fail)
    go_ret
    exact SetB.of HE.out HB.out

set_option maxRecDepth 100000 in
set_option maxHeartbeats 4000000 in
/-- **writes.** -/
theorem writes_one {nv na : Nat} (x : Ins) (w : World) (hx : InsT nv na x) :
    Calls Tryd.prog 73 #[aggI x] w (SetB (wrM x) w) := by
  obtain ⟨W, hW⟩ : ∃ W, w.alloc (.cells (arrI x) 50) = W := ⟨_, rfl⟩
  have hB : Below w.heap.size w W := by rw [← hW]; exact (Below.refl _ w).alloc (Nat.le_refl _) _
  have hbx : W.heap[w.heap.size]? = some (.cells (arrI x) 50 (0, 0)) := by rw [← hW]; exact heap_alloc_new w _
  have x0 : W.cell? ⟨w.heap.size, 0, none⟩ = some (.int .i64 x.op) := by rw [cell_at hbx]; rfl
  have x1 : W.cell? ⟨w.heap.size, 1, none⟩ = some (.int .i64 x.fa) := by rw [cell_at hbx]; rfl
  have x2 : W.cell? ⟨w.heap.size, 2, none⟩ = some (.int .i64 x.fb) := by rw [cell_at hbx]; rfl
  have x3 : W.cell? ⟨w.heap.size, 3, none⟩ = some (.int .i64 x.fc) := by rw [cell_at hbx]; rfl
  have x4 : W.cell? ⟨w.heap.size, 4, none⟩ = some (.int .i64 x.fd) := by rw [cell_at hbx]; rfl
  have HX := Lib.hid hx
  have HW := Lib.hid hW
  have HB := Lib.hid hB
  clear hx hW hB hbx
  unfold arrI at HW
  have hops : x.op = 1 ∨ x.op = 2 ∨ x.op = 4 ∨ x.op = 6 ∨ x.op = 7 ∨ x.op = 10 ∨ ((x.op == 1) = false ∧ (x.op == 2) = false ∧ (x.op == 4) = false ∧ (x.op == 6) = false ∧ (x.op == 7) = false ∧ (x.op == 10) = false) := by
    simp only [beq_eq_false_iff_ne]
    omega
  have HWA : Hid (x.op = 1 ∨ x.op = 2 ∨ x.op = 4 ∨ x.op = 6 ∨ x.op = 7 → wrA x = true) := fun e => by
    unfold wrA
    rcases e with e | e | e | e | e <;> rw [e] <;> rfl
  rcases hops with ho | ho | ho | ho | ho | ho | ⟨e1, e2, e4, e6, e7, e10⟩
  · have e1 : (x.op == 1) = true := by simpa using ho
    obtain ⟨an, ha⟩ : ∃ q : Nat, x.fa = q := ⟨x.fa.toNat, by have := HX.out.ra (.inl (HWA.out (by omega))); omega⟩
    have hal : an < 14 := by have := HX.out.ra (.inl (HWA.out (by omega))); omega
    have HE : Hid (setM 0 [an] = wrM x) := by
      show _ = _
      unfold wrM wrL
      simp only [ho]
      simp [ha]
    rw [ha] at x1
    obtain ⟨V, hV⟩ : ∃ V, W.alloc (.cells #[.int .i64 (an : Int)] 3) = V := ⟨_, rfl⟩
    have HBV : Hid (Below w.heap.size w V) := by rw [← hV]; exact HB.out.alloc HB.out.size _
    have hvx : V.heap[W.heap.size]? = some (.cells #[.int .i64 (an : Int)] 3 (0, 0)) := by rw [← hV]; exact heap_alloc_new W _
    have HC := Lib.hid (setOf_one [an] W.heap.size 1 1 V rfl (by omega) (by intro r hr; simp at hr; omega) (by
      intro i r hr
      rw [cell_at hvx]
      match i, hr with
      | 0, hr => simp at hr; subst hr; rfl
      | (k + 1), hr => simp at hr))
    have HV := Lib.hid hV
    clear ho ha hV hvx
    go_enter Tryd.func73, Tryd.ntmps73
    go_wp2_with (first | rw [HW.out] | fail)
    rw [HV.out]
    refine HC.out.mono ?_
    rintro e w2 ⟨rfl, hw2⟩
    subst hw2
    go_wp2_with fail
    go_ret
    exact SetB.of HE.out HBV.out
  · have e1 : (x.op == 1) = false := by rw [ho]; rfl
    have e2 : (x.op == 2) = true := by simpa using ho
    obtain ⟨an, ha⟩ : ∃ q : Nat, x.fa = q := ⟨x.fa.toNat, by have := HX.out.ra (.inl (HWA.out (by omega))); omega⟩
    have hal : an < 14 := by have := HX.out.ra (.inl (HWA.out (by omega))); omega
    have HE : Hid (setM 0 [an] = wrM x) := by
      show _ = _
      unfold wrM wrL
      simp only [ho]
      simp [ha]
    rw [ha] at x1
    obtain ⟨V, hV⟩ : ∃ V, W.alloc (.cells #[.int .i64 (an : Int)] 3) = V := ⟨_, rfl⟩
    have HBV : Hid (Below w.heap.size w V) := by rw [← hV]; exact HB.out.alloc HB.out.size _
    have hvx : V.heap[W.heap.size]? = some (.cells #[.int .i64 (an : Int)] 3 (0, 0)) := by rw [← hV]; exact heap_alloc_new W _
    have HC := Lib.hid (setOf_one [an] W.heap.size 1 1 V rfl (by omega) (by intro r hr; simp at hr; omega) (by
      intro i r hr
      rw [cell_at hvx]
      match i, hr with
      | 0, hr => simp at hr; subst hr; rfl
      | (k + 1), hr => simp at hr))
    have HV := Lib.hid hV
    clear ho ha hV hvx
    go_enter Tryd.func73, Tryd.ntmps73
    go_wp2_with (first | rw [HW.out] | fail)
    rw [HV.out]
    refine HC.out.mono ?_
    rintro e w2 ⟨rfl, hw2⟩
    subst hw2
    go_wp2_with fail
    go_ret
    exact SetB.of HE.out HBV.out
  · have e1 : (x.op == 1) = false := by rw [ho]; rfl
    have e2 : (x.op == 2) = false := by rw [ho]; rfl
    have e4 : (x.op == 4) = true := by simpa using ho
    obtain ⟨an, ha⟩ : ∃ q : Nat, x.fa = q := ⟨x.fa.toNat, by have := HX.out.ra (.inl (HWA.out (by omega))); omega⟩
    have hal : an < 14 := by have := HX.out.ra (.inl (HWA.out (by omega))); omega
    have HE : Hid (setM 0 [an] = wrM x) := by
      show _ = _
      unfold wrM wrL
      simp only [ho]
      simp [ha]
    rw [ha] at x1
    obtain ⟨V, hV⟩ : ∃ V, W.alloc (.cells #[.int .i64 (an : Int)] 3) = V := ⟨_, rfl⟩
    have HBV : Hid (Below w.heap.size w V) := by rw [← hV]; exact HB.out.alloc HB.out.size _
    have hvx : V.heap[W.heap.size]? = some (.cells #[.int .i64 (an : Int)] 3 (0, 0)) := by rw [← hV]; exact heap_alloc_new W _
    have HC := Lib.hid (setOf_one [an] W.heap.size 1 1 V rfl (by omega) (by intro r hr; simp at hr; omega) (by
      intro i r hr
      rw [cell_at hvx]
      match i, hr with
      | 0, hr => simp at hr; subst hr; rfl
      | (k + 1), hr => simp at hr))
    have HV := Lib.hid hV
    clear ho ha hV hvx
    go_enter Tryd.func73, Tryd.ntmps73
    go_wp2_with (first | rw [HW.out] | fail)
    rw [HV.out]
    refine HC.out.mono ?_
    rintro e w2 ⟨rfl, hw2⟩
    subst hw2
    go_wp2_with fail
    go_ret
    exact SetB.of HE.out HBV.out
  · have e1 : (x.op == 1) = false := by rw [ho]; rfl
    have e2 : (x.op == 2) = false := by rw [ho]; rfl
    have e4 : (x.op == 4) = false := by rw [ho]; rfl
    have e6 : (x.op == 6) = true := by simpa using ho
    obtain ⟨an, ha⟩ : ∃ q : Nat, x.fa = q := ⟨x.fa.toNat, by have := HX.out.ra (.inl (HWA.out (by omega))); omega⟩
    have hal : an < 14 := by have := HX.out.ra (.inl (HWA.out (by omega))); omega
    have HE : Hid (setM 0 [an] = wrM x) := by
      show _ = _
      unfold wrM wrL
      simp only [ho]
      simp [ha]
    rw [ha] at x1
    obtain ⟨V, hV⟩ : ∃ V, W.alloc (.cells #[.int .i64 (an : Int)] 3) = V := ⟨_, rfl⟩
    have HBV : Hid (Below w.heap.size w V) := by rw [← hV]; exact HB.out.alloc HB.out.size _
    have hvx : V.heap[W.heap.size]? = some (.cells #[.int .i64 (an : Int)] 3 (0, 0)) := by rw [← hV]; exact heap_alloc_new W _
    have HC := Lib.hid (setOf_one [an] W.heap.size 1 1 V rfl (by omega) (by intro r hr; simp at hr; omega) (by
      intro i r hr
      rw [cell_at hvx]
      match i, hr with
      | 0, hr => simp at hr; subst hr; rfl
      | (k + 1), hr => simp at hr))
    have HV := Lib.hid hV
    clear ho ha hV hvx
    go_enter Tryd.func73, Tryd.ntmps73
    go_wp2_with (first | rw [HW.out] | fail)
    rw [HV.out]
    refine HC.out.mono ?_
    rintro e w2 ⟨rfl, hw2⟩
    subst hw2
    go_wp2_with fail
    go_ret
    exact SetB.of HE.out HBV.out
  · have e1 : (x.op == 1) = false := by rw [ho]; rfl
    have e2 : (x.op == 2) = false := by rw [ho]; rfl
    have e4 : (x.op == 4) = false := by rw [ho]; rfl
    have e6 : (x.op == 6) = false := by rw [ho]; rfl
    have e7 : (x.op == 7) = true := by simpa using ho
    obtain ⟨an, ha⟩ : ∃ q : Nat, x.fa = q := ⟨x.fa.toNat, by have := HX.out.ra (.inl (HWA.out (by omega))); omega⟩
    have hal : an < 14 := by have := HX.out.ra (.inl (HWA.out (by omega))); omega
    have HE : Hid (setM 0 [an] = wrM x) := by
      show _ = _
      unfold wrM wrL
      simp only [ho]
      simp [ha]
    rw [ha] at x1
    obtain ⟨V, hV⟩ : ∃ V, W.alloc (.cells #[.int .i64 (an : Int)] 3) = V := ⟨_, rfl⟩
    have HBV : Hid (Below w.heap.size w V) := by rw [← hV]; exact HB.out.alloc HB.out.size _
    have hvx : V.heap[W.heap.size]? = some (.cells #[.int .i64 (an : Int)] 3 (0, 0)) := by rw [← hV]; exact heap_alloc_new W _
    have HC := Lib.hid (setOf_one [an] W.heap.size 1 1 V rfl (by omega) (by intro r hr; simp at hr; omega) (by
      intro i r hr
      rw [cell_at hvx]
      match i, hr with
      | 0, hr => simp at hr; subst hr; rfl
      | (k + 1), hr => simp at hr))
    have HV := Lib.hid hV
    clear ho ha hV hvx
    go_enter Tryd.func73, Tryd.ntmps73
    go_wp2_with (first | rw [HW.out] | fail)
    rw [HV.out]
    refine HC.out.mono ?_
    rintro e w2 ⟨rfl, hw2⟩
    subst hw2
    go_wp2_with fail
    go_ret
    exact SetB.of HE.out HBV.out
  · have e1 : (x.op == 1) = false := by rw [ho]; rfl
    have e2 : (x.op == 2) = false := by rw [ho]; rfl
    have e4 : (x.op == 4) = false := by rw [ho]; rfl
    have e6 : (x.op == 6) = false := by rw [ho]; rfl
    have e7 : (x.op == 7) = false := by rw [ho]; rfl
    have e10 : (x.op == 10) = true := by simpa using ho
    obtain ⟨an, ha⟩ : ∃ q : Nat, x.fa = q := ⟨x.fa.toNat, by have := HX.out.ra (.inr (.inr ho)); omega⟩
    have hal : an < 14 := by have := HX.out.ra (.inr (.inr ho)); omega
    have HE : Hid (setM 0 [an] = wrM x) := by
      show _ = _
      unfold wrM wrL
      simp only [ho]
      simp [ha]
    rw [ha] at x1
    obtain ⟨V, hV⟩ : ∃ V, W.alloc (.cells #[.int .i64 (an : Int)] 3) = V := ⟨_, rfl⟩
    have HBV : Hid (Below w.heap.size w V) := by rw [← hV]; exact HB.out.alloc HB.out.size _
    have hvx : V.heap[W.heap.size]? = some (.cells #[.int .i64 (an : Int)] 3 (0, 0)) := by rw [← hV]; exact heap_alloc_new W _
    have HC := Lib.hid (setOf_one [an] W.heap.size 1 1 V rfl (by omega) (by intro r hr; simp at hr; omega) (by
      intro i r hr
      rw [cell_at hvx]
      match i, hr with
      | 0, hr => simp at hr; subst hr; rfl
      | (k + 1), hr => simp at hr))
    have HV := Lib.hid hV
    clear ho ha hV hvx
    go_enter Tryd.func73, Tryd.ntmps73
    go_wp2_with (first | rw [HW.out] | fail)
    rw [HV.out]
    refine HC.out.mono ?_
    rintro e w2 ⟨rfl, hw2⟩
    subst hw2
    go_wp2_with fail
    go_ret
    exact SetB.of HE.out HBV.out
  · have HE : Hid (0 = wrM x) := by
      show _ = _
      have a1 : ¬ x.op = 1 := by simpa using e1
      have a2 : ¬ x.op = 2 := by simpa using e2
      have a4 : ¬ x.op = 4 := by simpa using e4
      have a6 : ¬ x.op = 6 := by simpa using e6
      have a7 : ¬ x.op = 7 := by simpa using e7
      have a10 : ¬ x.op = 10 := by simpa using e10
      unfold wrM wrL
      rw [if_neg (by omega)]; rfl
    go_enter Tryd.func73, Tryd.ntmps73
    go_wp2_with (first | rw [HW.out] | fail)
    go_ret
    exact SetB.of HE.out HB.out

/-- Whether an instruction does nothing but write a register. -/
def onlyW (x : Ins) : Bool := x.op == 1 || x.op == 2 || x.op == 6 || x.op == 7

set_option maxRecDepth 100000 in
set_option maxHeartbeats 4000000 in
/-- **onlyWrites.** -/
theorem onlyW_one {nv na : Nat} (x : Ins) (w : World) (hx : InsT nv na x) :
    Calls Tryd.prog 137 #[aggI x] w (YN (onlyW x) w) := by
  obtain ⟨W, hW⟩ : ∃ W, w.alloc (.cells (arrI x) 50) = W := ⟨_, rfl⟩
  have hB : Below w.heap.size w W := by rw [← hW]; exact (Below.refl _ w).alloc (Nat.le_refl _) _
  have hbx : W.heap[w.heap.size]? = some (.cells (arrI x) 50 (0, 0)) := by rw [← hW]; exact heap_alloc_new w _
  have x0 : W.cell? ⟨w.heap.size, 0, none⟩ = some (.int .i64 x.op) := by rw [cell_at hbx]; rfl
  have x1 : W.cell? ⟨w.heap.size, 1, none⟩ = some (.int .i64 x.fa) := by rw [cell_at hbx]; rfl
  have x2 : W.cell? ⟨w.heap.size, 2, none⟩ = some (.int .i64 x.fb) := by rw [cell_at hbx]; rfl
  have x3 : W.cell? ⟨w.heap.size, 3, none⟩ = some (.int .i64 x.fc) := by rw [cell_at hbx]; rfl
  have x4 : W.cell? ⟨w.heap.size, 4, none⟩ = some (.int .i64 x.fd) := by rw [cell_at hbx]; rfl
  have HX := Lib.hid hx
  have HW := Lib.hid hW
  have HB := Lib.hid hB
  clear hx hW hB hbx
  unfold arrI at HW
  have hops : x.op = 1 ∨ x.op = 2 ∨ x.op = 6 ∨ x.op = 7 ∨ ((x.op == 1) = false ∧ (x.op == 2) = false ∧ (x.op == 6) = false ∧ (x.op == 7) = false) := by
    simp only [beq_eq_false_iff_ne]
    omega
  rcases hops with ho | ho | ho | ho | ⟨e1, e2, e6, e7⟩
  · have HE : Hid (true = onlyW x) := by show _ = _; unfold onlyW; rw [ho]; rfl
    have e1 : (x.op == 1) = true := by simpa using ho
    clear ho
    go_enter Tryd.func137, Tryd.ntmps137
    go_wp2_with (first | rw [HW.out] | fail)
    go_ret
    exact YN.of HE.out HB.out
  · have HE : Hid (true = onlyW x) := by show _ = _; unfold onlyW; rw [ho]; rfl
    have e1 : (x.op == 1) = false := by rw [ho]; rfl
    have e2 : (x.op == 2) = true := by simpa using ho
    clear ho
    go_enter Tryd.func137, Tryd.ntmps137
    go_wp2_with (first | rw [HW.out] | fail)
    go_ret
    exact YN.of HE.out HB.out
  · have HE : Hid (true = onlyW x) := by show _ = _; unfold onlyW; rw [ho]; rfl
    have e1 : (x.op == 1) = false := by rw [ho]; rfl
    have e2 : (x.op == 2) = false := by rw [ho]; rfl
    have e6 : (x.op == 6) = true := by simpa using ho
    clear ho
    go_enter Tryd.func137, Tryd.ntmps137
    go_wp2_with (first | rw [HW.out] | fail)
    go_ret
    exact YN.of HE.out HB.out
  · have HE : Hid (true = onlyW x) := by show _ = _; unfold onlyW; rw [ho]; rfl
    have e1 : (x.op == 1) = false := by rw [ho]; rfl
    have e2 : (x.op == 2) = false := by rw [ho]; rfl
    have e6 : (x.op == 6) = false := by rw [ho]; rfl
    have e7 : (x.op == 7) = true := by simpa using ho
    clear ho
    go_enter Tryd.func137, Tryd.ntmps137
    go_wp2_with (first | rw [HW.out] | fail)
    go_ret
    exact YN.of HE.out HB.out
  · have HE : Hid (false = onlyW x) := by show _ = _; unfold onlyW; rw [e1, e2, e6, e7]; rfl
    go_enter Tryd.func137, Tryd.ntmps137
    go_wp2_with (first | rw [HW.out] | fail)
    go_ret
    exact YN.of HE.out HB.out

end Go.Proofs.YtbifbmpflhdijaaDoor

namespace Go.Proofs.YtbifbmpflhdijaaDoor
open Go.RowKit
set_option linter.unusedVariables false

/-- A list of masks in blocks of D. -/
def RsAt (w : World) (D : Nat → Prop) (rs : List Nat) (a : Option Addr) : Prop := ∀ (i m : Nat), rs[i]? = some m → ∃ b o, a = some ⟨b, o, none⟩ ∧ D b ∧ w.cell? ⟨b, o + i, none⟩ = some (.int .u16 (m : Int))
theorem RsAt.wide {w w' : World} {D D' : Nat → Prop} {rs : List Nat} {a : Option Addr} (h : RsAt w D rs a) (hb : ∀ k, D k → w'.heap[k]? = w.heap[k]?) (hl : ∀ k, D k → D' k) : RsAt w' D' rs a := fun i m hm => by
  obtain ⟨b, o, ha, hd, h0⟩ := h i m hm
  exact ⟨b, o, ha, hl b hd, (World.cell?_of_block (w := w) (hb b hd)).trans h0⟩

end Go.Proofs.YtbifbmpflhdijaaDoor

namespace Go.Proofs.YtbifbmpflhdijaaDoor
open Go.RowKit
set_option linter.unusedVariables false

set_option maxRecDepth 100000 in
set_option maxHeartbeats 2000000 in
/-- **registersOf.** -/
theorem regOf_one (r : List Bool) (a : Option Addr) (c : Nat) (w : World) {D : Nat → Prop} (h : BAt w D r a) (hn : r.length = 14) :
    Calls Tryd.prog 63 #[.slice a 14 c] w (fun e w' => e = .returned (.int .u16 (regN r 14 : Int)) ∧ w' = w) := by
  have H := Lib.hid h
  have HN := Lib.hid hn
  clear h hn
  go_enter Tryd.func63, Tryd.ntmps63
  go_wp2_with fail
  go_loopw [3, 8] (fun s i wr => ∃ k : Nat, k ≤ 14 ∧ i = .int .i64 (k : Int) ∧ s = .int .u16 (regN r k : Int) ∧ wr = w) (fun _ i _ => 14 - (intOf i).toNat)
  case atStart => exact ⟨0, by omega, rfl, rfl, by first | rfl | trivial⟩
  case round =>
    obtain ⟨k, hk, rfl, rfl, rfl⟩ := hrel
    by_cases hlt : k < 14
    · obtain ⟨x, hx⟩ : ∃ x, r[k]? = some x := ⟨r[k]'(by rw [HN.out]; exact hlt), List.getElem?_eq_getElem _⟩
      obtain ⟨b, o, rfl, _, e0⟩ := H.out.2 k x hx
      have HS : Hid (regN r (k + 1) = sb (regN r k) k x) := by
        show sb (regN r k) k (r.getD k false) = _
        rw [List.getD_eq_getElem?_getD, hx]; rfl
      obtain ⟨m, hm⟩ : ∃ m, regN r k = m := ⟨_, rfl⟩
      have hlm : m < 32768 := by rw [← hm]; exact regN_lt r k (by omega)
      have HM := Lib.hid hm
      rw [hm] at HS ⊢
      have HW := Lib.hid (with_one m k x wr hlm hlt)
      clear hx hm H
      go_wp2_with fail
      refine HW.out.mono ?_
      rintro e w2 ⟨rfl, hw2⟩
      subst hw2
      rw [← HS.out]
      go_wp2_with fail
      go_roundw
      case rel => exact ⟨k + 1, by omega, by go_num, rfl, by first | rfl | trivial⟩
      case measure => simp [intOf]; omega
    · obtain rfl : k = 14 := by omega
      clear H
      go_wp2_with fail
      go_ret
      exact ⟨rfl, rfl⟩

theorem covn_no {mj af : Nat} (hm : mj < 32768) (ha : af < 32768) (h : Sub af mj) : (bits .andNot .u16 (af : Int) (mj : Int) != 0) = false := by
  rw [u16_andNot_nat af mj (by omega) (by omega), (sub_iff hm ha).2 h]; rfl
theorem covn_yes {mj af : Nat} (hm : mj < 32768) (ha : af < 32768) (h : ¬ Sub af mj) : (bits .andNot .u16 (af : Int) (mj : Int) != 0) = true := by
  rw [u16_andNot_nat af mj (by omega) (by omega)]
  have h1 : af &&& (65535 - mj) ≠ 0 := fun e => h ((sub_iff hm ha).1 e)
  simp; omega

end Go.Proofs.YtbifbmpflhdijaaDoor

namespace Go.Proofs.YtbifbmpflhdijaaDoor
open Go.RowKit
set_option linter.unusedVariables false

abbrev arrL (la ra : Option Addr) (n lc rc : Nat) : Array Value := #[.slice la n lc, .slice ra n rc]
/-- The rows of masks are small. -/
def Lt14 (ms : List Nat) : Prop := ∀ (i m : Nat), ms[i]? = some m → m < 16384

set_option maxRecDepth 100000 in
set_option maxHeartbeats 4000000 in
/-- **after.** -/
theorem lafter_one (l : List Ins) (ms : List Nat) (la ra : Option Addr) (n lc rc i : Nat) (x : Ins) (w : World) (h : NAt w (fun b => b < w.heap.size) l la) (hn : l.length = n) (hok : Okc l) (hr : RsAt w (fun b => b < w.heap.size) ms ra) (hmn : ms.length = n) (hlt : Lt14 ms) (hx : l[i]? = some x) :
    Calls Tryd.prog 122 #[.agg (arrL la ra n lc rc), .int .i64 (i : Int)] w (SetB (orT (fT ms) 0 (folN x i)) w) := by
  obtain ⟨W, hW⟩ : ∃ W, w.alloc (.cells (arrL la ra n lc rc) 62) = W := ⟨_, rfl⟩
  have hB : Below w.heap.size w W := by rw [← hW]; exact (Below.refl _ w).alloc (Nat.le_refl _) _
  have hbx : W.heap[w.heap.size]? = some (.cells (arrL la ra n lc rc) 62 (0, 0)) := by rw [← hW]; exact heap_alloc_new w _
  have x0 : W.cell? ⟨w.heap.size, 0, none⟩ = some (.slice la n lc) := by rw [cell_at hbx]; rfl
  have HF := Lib.hid (fol_one l la n lc i x W (h.below hB) hn hok hx)
  have HR : Hid (∀ v, Below W.heap.size W v → v.cell? ⟨w.heap.size, 1, none⟩ = some (.slice ra n rc) ∧ RsAt v (fun b => b < v.heap.size) ms ra) := fun v hv => by
    refine ⟨?_, hr.wide (fun k hk => (hB.trans (hv.mono hB.size)).block k hk) fun k hk => Nat.lt_of_lt_of_le hk (hB.trans (hv.mono hB.size)).size⟩
    rw [cell_at ((hv.block _ (Array.getElem?_eq_some_iff.1 hbx).1).trans hbx)]; rfl
  have HT : Hid (∀ t, t ∈ folN x i → ∃ mt, ms[t]? = some mt ∧ mt < 16384) := fun t ht => by
    have h1 := hok.fol hx ht
    have e := List.getElem?_eq_getElem (l := ms) (i := t) (by rw [hmn, ← hn]; exact h1)
    exact ⟨_, e, hlt t _ e⟩
  have HTN : Hid (∀ t, t ∈ folN x i → t < n) := fun t ht => by rw [← hn]; exact hok.fol hx ht
  have hfl := folN_len x i
  have HW := Lib.hid hW
  have HB := Lib.hid hB
  clear h hn hok hr hmn hlt hx hW hB hbx
  unfold arrL at HW
  go_enter Tryd.func122, Tryd.ntmps122
  go_wp2_with (first | rw [HW.out] | fail)
  refine HF.out.mono ?_
  rintro e w1 ⟨fa, fc, rfl, hown, hb1⟩
  obtain ⟨fl, hfl'⟩ : ∃ fl, folN x i = fl := ⟨_, rfl⟩
  have HFL := Lib.hid hfl'
  obtain ⟨fa', fc', hfe, hfat⟩ := hown.iat
  cases hfe
  rw [natI_len]
  rw [hfl'] at hfat hfl HT HTN ⊢
  obtain ⟨rl, hrl⟩ : ∃ rl, fl.length = rl := ⟨_, rfl⟩
  rw [hrl] at hfl ⊢
  have HRL := Lib.hid hrl
  have HFA := Lib.hid hfat
  have hrr := HR.out w1 hb1
  have y1 := hrr.1
  have HRS := Lib.hid hrr.2
  have HB1 : Hid (Below w.heap.size w w1) := HB.out.trans (hb1.mono HB.out.size)
  clear hown hfat hrr HR HF HB hb1 x0 hfl' hrl
  go_wp2_with fail
  go_loopw [5, 13] (fun s p wr => ∃ k : Nat, k ≤ rl ∧ p = .int .i64 (k : Int) ∧ s = .int .u16 (orT (fT ms) 0 (fl.take k) : Int) ∧ orT (fT ms) 0 (fl.take k) < 16384 ∧ wr = w1) (fun _ p _ => rl - (intOf p).toNat)
  case atStart => exact ⟨0, by omega, rfl, rfl, by simp [orT], by first | rfl | trivial⟩
  case round =>
    obtain ⟨k, hk, rfl, rfl, hmk, rfl⟩ := hrel
    by_cases hlt : k < rl
    · obtain ⟨t, ht⟩ : ∃ t, fl[k]? = some t := ⟨fl[k]'(by rw [HRL.out]; exact hlt), List.getElem?_eq_getElem _⟩
      have hmem := List.mem_of_getElem? ht
      obtain ⟨mt, hmt, hmtl⟩ := HT.out t hmem
      have htn := HTN.out t hmem
      obtain ⟨g, go, rfl, _, cg⟩ := HFA.out.2 k (by rw [natI_len, HRL.out]; exact hlt)
      rw [natI_at ht] at cg
      obtain ⟨b, o, rfl, _, cr⟩ := HRS.out t mt hmt
      have HS : Hid (orT (fT ms) 0 (fl.take (k + 1)) = orT (fT ms) 0 (fl.take k) ||| mt) := by
        have happ : ∀ (L : List Nat) (a : Nat), orT (fT ms) a (L ++ [t]) = orT (fT ms) a L ||| fT ms t := fun L => by
          induction L with
          | nil => intro a; rfl
          | cons q L ih => intro a; exact ih _
        show _ = _
        rw [List.take_add_one, ht]
        exact (happ _ _).trans (by rw [fT_at hmt])
      obtain ⟨m, hm⟩ : ∃ m, orT (fT ms) 0 (fl.take k) = m := ⟨_, rfl⟩
      rw [hm] at HS hmk ⊢
      have hor : bits .or .u16 (m : Int) (mt : Int) = ((m ||| mt : Nat) : Int) := u16_or_nat m mt (by omega) (by omega)
      have hnew : m ||| mt < 16384 := or_lt14 hmk hmtl
      rw [← HS.out] at hor hnew
      obtain ⟨z, hz⟩ : ∃ z, orT (fT ms) 0 (fl.take (k + 1)) = z := ⟨_, rfl⟩
      rw [hz] at hor hnew
      have HZ := Lib.hid hz
      have htI : (t : Int) < n := by omega
      clear ht hmem hmt hm HS HFA HRS HT HTN hz
      go_wp2_with fail
      go_roundw
      case rel => exact ⟨k + 1, by omega, by go_num, by rw [HZ.out], by rw [HZ.out]; exact hnew, by first | rfl | trivial⟩
      case measure => simp [intOf]; omega
    · obtain rfl : k = rl := by omega
      have HTK : Hid (fl.take k = fl) := List.take_of_length_le (by rw [HRL.out]; exact Nat.le_refl _)
      clear HFA HRS HT HTN
      go_wp2_with fail
      rw [HTK.out]
      go_ret
      exact ⟨by show Ending.returned (Value.int .u16 ((orT (fT ms) 0 fl : Nat) : Int)) = _; rw [HFL.out], HB1.out⟩

set_option maxRecDepth 100000 in
set_option maxHeartbeats 4000000 in
/-- **needed.** -/
theorem needed_one {nv na : Nat} (l : List Ins) (ms : List Nat) (la ra : Option Addr) (n lc rc i : Nat) (x : Ins) (w : World) (h : NAt w (fun b => b < w.heap.size) l la) (hn : l.length = n) (hok : Okc l) (hr : RsAt w (fun b => b < w.heap.size) ms ra) (hmn : ms.length = n) (hlt : Lt14 ms) (hx : l[i]? = some x) (hxt : InsT nv na x) :
    Calls Tryd.prog 94 #[.agg (arrL la ra n lc rc), .int .i64 (i : Int)] w (SetB (ned (fT ms) i x) w) := by
  obtain ⟨W0, hW0⟩ : ∃ W0, w.alloc (.cells (arrL la ra n lc rc) 62) = W0 := ⟨_, rfl⟩
  have hz0 : W0.heap.size = w.heap.size + 1 := by rw [← hW0]; simp
  have hB0 : Below w.heap.size w W0 := by rw [← hW0]; exact (Below.refl _ w).alloc (Nat.le_refl _) _
  have hbx : W0.heap[w.heap.size]? = some (.cells (arrL la ra n lc rc) 62 (0, 0)) := by rw [← hW0]; exact heap_alloc_new w _
  have x0 : W0.cell? ⟨w.heap.size, 0, none⟩ = some (.slice la n lc) := by rw [cell_at hbx]; rfl
  obtain ⟨b, o, rfl, hbl, e0, e1, e2, e3, e4⟩ := (h.below hB0).2 i x hx
  have hin : i < n := by rw [← hn]; exact (List.getElem?_eq_some_iff.1 hx).1
  have hinI : (i : Int) < n := by omega
  obtain ⟨W, hW⟩ : ∃ W, W0.alloc (.cells (arrI x) 50) = W := ⟨_, rfl⟩
  have hB : Below w.heap.size w W := by rw [← hW]; exact hB0.alloc hB0.size _
  have hbx1 : W.heap[w.heap.size]? = some (.cells (arrL (some ⟨b, o, none⟩) ra n lc rc) 62 (0, 0)) := by rw [← hW, Below.heap_alloc _ _ _ (by omega)]; exact hbx
  have hby : W.heap[W0.heap.size]? = some (.cells (arrI x) 50 (0, 0)) := by
    have h1 := heap_alloc_new W0 (.cells (arrI x) 50)
    rw [← hW]; exact h1
  have HSB : Hid (∀ v, Below W.heap.size W v → v.cell? ⟨w.heap.size, 0, none⟩ = some (.slice (some ⟨b, o, none⟩) n lc) ∧ v.cell? ⟨w.heap.size, 1, none⟩ = some (.slice ra n rc) ∧ v.cell? ⟨W0.heap.size, 0, none⟩ = some (.int .i64 x.op) ∧ v.cell? ⟨W0.heap.size, 1, none⟩ = some (.int .i64 x.fa) ∧ v.cell? ⟨W0.heap.size, 2, none⟩ = some (.int .i64 x.fb) ∧ v.cell? ⟨W0.heap.size, 3, none⟩ = some (.int .i64 x.fc) ∧ v.cell? ⟨W0.heap.size, 4, none⟩ = some (.int .i64 x.fd)) := fun v hv => by
    have h1 := (hv.block _ (Array.getElem?_eq_some_iff.1 hbx1).1).trans hbx1
    have h2 := (hv.block _ (Array.getElem?_eq_some_iff.1 hby).1).trans hby
    exact ⟨(by rw [cell_at h1]; rfl), (by rw [cell_at h1]; rfl), (by rw [cell_at h2]; rfl), (by rw [cell_at h2]; rfl), (by rw [cell_at h2]; rfl), (by rw [cell_at h2]; rfl), (by rw [cell_at h2]; rfl)⟩
  have HA : Hid (∀ v, Below W.heap.size W v → Calls Tryd.prog 122 #[.agg #[.slice (some ⟨b, o, none⟩) n lc, .slice ra n rc], .int .i64 (i : Int)] v (SetB (orT (fT ms) 0 (folN x i)) v)) := fun v hv =>
    have hb := hB.trans (hv.mono hB.size)
    lafter_one l ms _ ra n lc rc i x v (h.below hb) hn hok (hr.wide (fun k hk => hb.block k hk) fun k hk => Nat.lt_of_lt_of_le hk hb.size) hmn hlt hx
  have HRD := Lib.hid (fun v => reads_one x v hxt)
  have HWR := Lib.hid (fun v => writes_one x v hxt)
  have hal : orT (fT ms) 0 (folN x i) < 16384 := orT_lt _ _ _ (by omega) fun t _ => fT_lt hlt t
  have hwl := wrM_lt hxt
  have hrl := rdM_lt hxt
  have hnl := and_lt14 (65535 - wrM x) hal
  have han : bits .andNot .u16 (orT (fT ms) 0 (folN x i) : Int) (wrM x : Int) = ((orT (fT ms) 0 (folN x i) &&& (65535 - wrM x) : Nat) : Int) := u16_andNot_nat _ _ (by omega) (by omega)
  have hor : bits .or .u16 (rdM x : Int) ((orT (fT ms) 0 (folN x i) &&& (65535 - wrM x) : Nat) : Int) = ((ned (fT ms) i x : Nat) : Int) := u16_or_nat _ _ (by omega) (by omega)
  obtain ⟨na', hna⟩ : ∃ q, (orT (fT ms) 0 (folN x i) &&& (65535 - wrM x)) = q := ⟨_, rfl⟩
  rw [hna] at han hor
  obtain ⟨af, haf⟩ : ∃ q, orT (fT ms) 0 (folN x i) = q := ⟨_, rfl⟩
  rw [haf] at han HA
  obtain ⟨nd, hnd⟩ : ∃ q, ned (fT ms) i x = q := ⟨_, rfl⟩
  rw [hnd] at hor ⊢
  obtain ⟨rd, hrd⟩ : ∃ q, rdM x = q := ⟨_, rfl⟩
  rw [hrd] at hor HRD
  obtain ⟨wm, hwm⟩ : ∃ q, wrM x = q := ⟨_, rfl⟩
  rw [hwm] at han HWR
  have HW0 := Lib.hid hW0
  have HW := Lib.hid hW
  have HB := Lib.hid hB
  clear h hn hok hr hmn hlt hx hxt hW0 hW hB hB0 hbx hbx1 hby hbl hal hwl hrl hnl hna haf hnd hrd hwm hz0
  unfold arrL at HW0
  unfold arrI at HW
  go_enter Tryd.func94, Tryd.ntmps94
  go_wp2_with (first | rw [HW0.out] | rw [HW.out] | fail)
  have HBD : Below W.heap.size W W.drew := (Below.refl _ W).drew
  have hS0 := HSB.out W.drew HBD
  clear x0 e0 e1 e2 e3 e4
  try rw [HW.out]
  go_region_held3 (fun v => v.cell? ⟨w.heap.size, 0, none⟩ = some (.slice (some ⟨b, o, none⟩) n lc) ∧ v.cell? ⟨w.heap.size, 1, none⟩ = some (.slice ra n rc) ∧ v.cell? ⟨W0.heap.size, 0, none⟩ = some (.int .i64 x.op) ∧ v.cell? ⟨W0.heap.size, 1, none⟩ = some (.int .i64 x.fa) ∧ v.cell? ⟨W0.heap.size, 2, none⟩ = some (.int .i64 x.fb) ∧ v.cell? ⟨W0.heap.size, 3, none⟩ = some (.int .i64 x.fc) ∧ v.cell? ⟨W0.heap.size, 4, none⟩ = some (.int .i64 x.fd)) (first | (with_reducible assumption) | (with_reducible exact hS0))
    (first
    | (go_at_call 72; (with_reducible refine (HRD.out _).mono ?_)
       rintro e w2 ⟨rfl, hb2⟩
       have hB2 : Below W.heap.size W w2 := HBD.trans (hb2.mono HBD.size)
       have hS2 := HSB.out w2 hB2)
    | (go_at_call 122; (with_reducible refine (HA.out w2 hB2).mono ?_)
       rintro e w3 ⟨rfl, hb3⟩
       have hB3 : Below W.heap.size W w3 := hB2.trans (hb3.mono hB2.size)
       have hS3 := HSB.out w3 hB3)
    | (go_at_call 73; (with_reducible refine (HWR.out _).mono ?_)
       rintro e w4 ⟨rfl, hb4⟩
       have hB4 : Below W.heap.size W w4 := hB3.trans (hb4.mono hB3.size)
       have hS4 := HSB.out w4 hB4)
    | fail)
  go_wp2_with fail
  go_ret
  exact SetB.of rfl (HB.out.trans (hB4.mono HB.out.size))

end Go.Proofs.YtbifbmpflhdijaaDoor

namespace Go.Proofs.YtbifbmpflhdijaaDoor
open Go.RowKit
set_option linter.unusedVariables false

/-- The masks of the rows of a live map. -/
def lvMs (rs : List (List Bool)) : List Nat := rs.map fun r => regN r 14
theorem lvMs_len (rs : List (List Bool)) : (lvMs rs).length = rs.length := by simp [lvMs]
theorem lvMs_at {rs : List (List Bool)} {i : Nat} {r : List Bool} (h : rs[i]? = some r) : (lvMs rs)[i]? = some (regN r 14) := by simp [lvMs, h]
theorem regN_lt14 (r : List Bool) : regN r 14 < 16384 := Nat.lt_pow_two_of_testBit (n := 14) _ fun b hb => by
  rw [regN_bit r 14 b (by omega), decide_eq_false (by omega)]; rfl
theorem lvMs_lt (rs : List (List Bool)) : Lt14 (lvMs rs) := fun i m h => by
  unfold lvMs at h
  rw [List.getElem?_map] at h
  obtain ⟨r, _, rfl⟩ := Option.map_eq_some_iff.1 h
  exact regN_lt14 r
/-- The first j rows are of the right length. -/
def RowsL (rs : List (List Bool)) (j : Nat) : Prop := ∀ (i : Nat) (r : List Bool), i < j → rs[i]? = some r → r.length = 14
theorem RowsL.succ {rs : List (List Bool)} {j : Nat} {r : List Bool} (h : RowsL rs j) (hr : rs[j]? = some r) (e : r.length = 14) : RowsL rs (j + 1) := fun i q hi hq => by
  by_cases hk : i = j
  · subst hk
    rw [hr] at hq
    cases hq
    exact e
  · exact h i q (by omega) hq
/-- What CheckLive answers. -/
structure CkL (m : Cd) (rs : List (List Bool)) : Prop where
  ok : codeB m = true
  len : rs.length = m.list.length
  rows : RowsL rs rs.length
  cov : ClosedL m.list (fT (lvMs rs))
def AnsL (m : Cd) (rs : List (List Bool)) (w : World) (e : Ending) (w' : World) : Prop := ∃ b, e = .returned (.bool b) ∧ (b = true ↔ CkL m rs) ∧ Below w.heap.size w w'
theorem AnsL.no {m : Cd} {rs : List (List Bool)} {w w' : World} (h : ¬ CkL m rs) (hb : Below w.heap.size w w') : AnsL m rs w (.returned (.bool false)) w' := ⟨false, rfl, ⟨fun e => (by cases e), fun e => absurd e h⟩, hb⟩
theorem AnsL.yes {m : Cd} {rs : List (List Bool)} {w w' : World} (h : CkL m rs) (hb : Below w.heap.size w w') : AnsL m rs w (.returned (.bool true)) w' := ⟨true, rfl, ⟨fun _ => h, fun _ => rfl⟩, hb⟩
/-- A live map is sufficient as far as the first j instructions go. -/
def ClTo (l : List Ins) (T : Nat → Nat) (j : Nat) : Prop := ∀ (i : Nat) (x : Ins), i < j → l[i]? = some x → Sub (ned T i x) (T i)
theorem ClTo.succ {l : List Ins} {T : Nat → Nat} {j : Nat} {x : Ins} (h : ClTo l T j) (hx : l[j]? = some x) (e : Sub (ned T j x) (T j)) : ClTo l T (j + 1) := fun i y hi hy => by
  by_cases hk : i = j
  · subst hk
    rw [hx] at hy
    cases hy
    exact e
  · exact h i y (by omega) hy
theorem ClTo.all {l : List Ins} {T : Nat → Nat} (h : ClTo l T l.length) : ClosedL l T := fun i x hx => h i x (List.getElem?_eq_some_iff.1 hx).1 hx

set_option maxRecDepth 100000 in
set_option maxHeartbeats 4000000 in
/-- **sufficient.** -/
theorem suff_one {nv na : Nat} (l : List Ins) (ms : List Nat) (la ra : Option Addr) (n lc rc : Nat) (w : World) (h : NAt w (fun b => b < w.heap.size) l la) (hn : l.length = n) (hok : Okc l) (hr : RsAt w (fun b => b < w.heap.size) ms ra) (hmn : ms.length = n) (hlt : Lt14 ms) (hit : ∀ (i : Nat) (x : Ins), l[i]? = some x → InsT nv na x) :
    Calls Tryd.prog 64 #[.agg (arrL la ra n lc rc)] w (fun e w' => ∃ b, e = .returned (.bool b) ∧ (b = true ↔ ClosedL l (fT ms)) ∧ Below w.heap.size w w') := by
  obtain ⟨W, hW⟩ : ∃ W, w.alloc (.cells (arrL la ra n lc rc) 62) = W := ⟨_, rfl⟩
  have hB : Below w.heap.size w W := by rw [← hW]; exact (Below.refl _ w).alloc (Nat.le_refl _) _
  have hbx : W.heap[w.heap.size]? = some (.cells (arrL la ra n lc rc) 62 (0, 0)) := by rw [← hW]; exact heap_alloc_new w _
  have x1 : W.cell? ⟨w.heap.size, 1, none⟩ = some (.slice ra n rc) := by rw [cell_at hbx]; rfl
  have HS : Hid (∀ v, Below W.heap.size W v → v.cell? ⟨w.heap.size, 0, none⟩ = some (.slice la n lc) ∧ v.cell? ⟨w.heap.size, 1, none⟩ = some (.slice ra n rc) ∧ RsAt v (fun b => b < v.heap.size) ms ra) := fun v hv => by
    have h1 := (hv.block _ (Array.getElem?_eq_some_iff.1 hbx).1).trans hbx
    exact ⟨by rw [cell_at h1]; rfl, by rw [cell_at h1]; rfl, hr.wide (fun k hk => (hB.trans (hv.mono hB.size)).block k hk) fun k hk => Nat.lt_of_lt_of_le hk (hB.trans (hv.mono hB.size)).size⟩
  have HND : Hid (∀ v, Below W.heap.size W v → ∀ (i : Nat) (x : Ins), l[i]? = some x → Calls Tryd.prog 94 #[.agg #[.slice la n lc, .slice ra n rc], .int .i64 (i : Int)] v (SetB (ned (fT ms) i x) v)) := fun v hv i x hx =>
    have hb := hB.trans (hv.mono hB.size)
    needed_one l ms la ra n lc rc i x v (h.below hb) hn hok (hr.wide (fun k hk => hb.block k hk) fun k hk => Nat.lt_of_lt_of_le hk hb.size) hmn hlt hx (hit i x hx)
  have HNL : Hid (∀ (i : Nat) (x : Ins), l[i]? = some x → ned (fT ms) i x < 16384) := fun i x hx => bef_lt (hit i x hx) (orT_lt _ _ _ (by omega) fun t _ => fT_lt hlt t)
  have HLT := Lib.hid hlt
  have HN := Lib.hid hn
  have HMN := Lib.hid hmn
  have HW := Lib.hid hW
  have HB := Lib.hid hB
  have hle : n ≤ 400 := by rw [← hn]; exact hok.le
  have HL0 : Hid (∃ j : Nat, j ≤ n ∧ Value.int .i64 0 = .int .i64 (j : Int) ∧ ClTo l (fT ms) j ∧ Below W.heap.size W W) := ⟨0, Nat.zero_le _, rfl, fun i x hi => absurd hi (Nat.not_lt_zero _), Below.refl _ _⟩
  clear h hn hok hr hmn hlt hit hW hB hbx
  unfold arrL at HW
  go_enter Tryd.func64, Tryd.ntmps64
  go_wp2_with (first | rw [HW.out] | fail)
  clear x1
  go_loopw [8] (fun i wr => ∃ j : Nat, j ≤ n ∧ i = .int .i64 (j : Int) ∧ ClTo l (fT ms) j ∧ Below W.heap.size W wr) (fun i _ => n - (intOf i).toNat)
  case atStart => exact HL0.out
  case round =>
    obtain ⟨j, hj, rfl, hcl, hb⟩ := hrel
    have HCL := Lib.hid hcl
    have HBR := Lib.hid hb
    clear hcl hb HL0
    by_cases hlt : j < n
    · obtain ⟨x, hx⟩ : ∃ x, l[j]? = some x := ⟨l[j]'(by rw [HN.out]; exact hlt), List.getElem?_eq_getElem _⟩
      obtain ⟨mj, hmj⟩ : ∃ mj, ms[j]? = some mj := ⟨ms[j]'(by rw [HMN.out]; exact hlt), List.getElem?_eq_getElem _⟩
      obtain ⟨c0, c1, hrs⟩ := HS.out wr HBR.out
      obtain ⟨b, o, hra, _, cr⟩ := hrs j mj hmj
      have HND1 := Lib.hid (HND.out wr HBR.out j x hx)
      have hml : mj < 32768 := by have := HLT.out j mj hmj; omega
      have hnl : ned (fT ms) j x < 32768 := by have := HNL.out j x hx; omega
      have hfj := fT_at hmj
      obtain ⟨nd, hnd⟩ : ∃ nd, ned (fT ms) j x = nd := ⟨_, rfl⟩
      rw [hnd] at HND1 hnl
      have HX := Lib.hid hx
      have HZ := Lib.hid hnd
      have HFJ := Lib.hid hfj
      have hjI : (j : Int) < n := by omega
      subst hra
      by_cases hs : Sub nd mj
      · have hcv := covn_no hml hnl hs
        have HREL : Hid (ClTo l (fT ms) (j + 1)) := HCL.out.succ HX.out (by rw [HZ.out, HFJ.out]; exact hs)
        clear hs hx hmj hrs hfj hnd HND HCL hml hnl
        go_wp2_with fail
        refine HND1.out.mono ?_
        rintro e w2 ⟨rfl, hb2⟩
        have HB2 : Hid (Below W.heap.size W w2) := HBR.out.trans (hb2.mono HBR.out.size)
        clear HND1 hb2
        go_wp2_with fail
        go_roundw
        case rel => exact ⟨j + 1, hlt, by go_num, HREL.out, HB2.out⟩
        case measure => simp [intOf]; omega
      · have hcv := covn_yes hml hnl hs
        have HNO : Hid (¬ ClosedL l (fT ms)) := fun hc => hs (by have := hc j x HX.out; rw [HZ.out, HFJ.out] at this; exact this)
        clear hs hx hmj hrs hfj hnd HND HCL hml hnl
        go_wp2_with fail
        refine HND1.out.mono ?_
        rintro e w2 ⟨rfl, hb2⟩
        have HB2 : Hid (Below w.heap.size w w2) := HB.out.trans ((HBR.out.trans (hb2.mono HBR.out.size)).mono HB.out.size)
        clear HND1 hb2
        go_wp2_with fail
        go_ret
        exact ⟨false, rfl, ⟨fun e => (by cases e), fun e => absurd e HNO.out⟩, HB2.out⟩
    · obtain rfl : j = n := by omega
      have HC : Hid (ClosedL l (fT ms)) := ClTo.all (by rw [HN.out]; exact HCL.out)
      have HB2 : Hid (Below w.heap.size w wr) := HB.out.trans (HBR.out.mono HB.out.size)
      clear HCL HND
      go_wp2_with fail
      go_ret
      exact ⟨true, rfl, ⟨fun _ => HC.out, fun _ => rfl⟩, HB2.out⟩

end Go.Proofs.YtbifbmpflhdijaaDoor

namespace Go.Proofs.YtbifbmpflhdijaaDoor
open Go.RowKit
set_option linter.unusedVariables false

abbrev u16V (m : Nat) : Value := .int .u16 (m : Int)
theorem Tryd.infoRg : (Tryd.prog.info? 65).map (fun i => (i.zero, i.size, i.bytes)) = some (some (.int .u16 0), 1, 2) := by kernel_rfl
theorem rsAt_own {w : World} {base n cap : Nat} {a : Option Addr} {ms : List Nat} (h : w.ownsRow base 65 1 (.slice a n cap) n (ms.map u16V)) (hn : ms.length = n) : RsAt w (fun b => b < w.heap.size) ms a := fun i m hm => by
  have hi : i < ms.length := (List.getElem?_eq_some_iff.1 hm).1
  rcases h.2 with ⟨e, e2⟩ | ⟨g, cp, cur, e, hb, hg, _⟩
  · omega
  · injection e with e1 e2 e3
    subst e1
    refine ⟨g, 0, rfl, (Array.getElem?_eq_some_iff.1 hg).1, ?_⟩
    rw [Nat.zero_add, h.cellAt i (by omega), List.getElem?_map, hm]; rfl
theorem ownsRow_far1 {w w' : World} {base : Nat} {e : TypeId} {size n : Nat} {v : Value} {xs : List Value} (h : w.ownsRow base e size v n xs) (hs : ∀ g, v.ownBlock = some g → g < w.heap.size → w'.heap[g]? = w.heap[g]?) : w'.ownsRow base e size v n xs := by
  refine ⟨h.1, ?_⟩
  rcases h.2 with e | ⟨g, cp, cur, rfl, e2, e3, e4⟩
  · exact .inl e
  · exact .inr ⟨g, cp, cur, rfl, e2, (hs g rfl (Array.getElem?_eq_some_iff.1 e3).1).trans e3, e4⟩

end Go.Proofs.YtbifbmpflhdijaaDoor

namespace Go.Proofs.YtbifbmpflhdijaaDoor
open Go.RowKit
set_option linter.unusedVariables false

theorem blk_setL {w : World} {b : Nat} {x y v : Value} {t : TypeId} (h : w.heap[b]? = some (.cells #[x, y] t (0, 0))) : (w.setCell ⟨b, 1, none⟩ v).heap[b]? = some (.cells #[x, v] t (0, 0)) := by
  simp [World.setCell, Array.getElem?_modify, h]
/-- The state of the loop: the box of the rows, the rows so far. -/
def ClL (rs : List (List Bool)) (n B : Nat) (la : Option Addr) (lc : Nat) (W0 : World) (i : Value) (wr : World) : Prop := ∃ (j : Nat) (ra : Option Addr) (rc : Nat), j ≤ n ∧ i = .int .i64 (j : Int) ∧ RowsL rs j ∧ wr.heap[B]? = some (.cells (#[.slice la n lc, .slice ra j rc]) 62 (0, 0)) ∧ wr.ownsRow (B + 1) 65 1 (.slice ra j rc) j (((lvMs rs).take j).map u16V) ∧ Below B W0 wr ∧ W0.heap.size ≤ wr.heap.size

set_option maxRecDepth 100000 in
set_option maxHeartbeats 8000000 in
/-- **impl.CheckLive.** -/
theorem iCL_one (m : Cd) (k : CK) (rs : List (List Bool)) (ta : Option Addr) (tn tc : Nat) (w : World) (h : CL w m k) (hT : TblF w) (hb : BBs w (fun b => b < w.heap.size) rs ta) (htn : rs.length = tn) :
    Calls Tryd.prog 26 #[aggC m k, .slice ta tn tc] w (AnsL m rs w) := by
  obtain ⟨i0, hi, hi0, hi1, hi2⟩ := info_parts Tryd.infoRg
  obtain ⟨W, hW⟩ : ∃ W, w.alloc (.cells (arrC m k) 29) = W := ⟨_, rfl⟩
  have hB : Below w.heap.size w W := by rw [← hW]; exact (Below.refl _ w).alloc (Nat.le_refl _) _
  have hX : BoxC W w.heap.size m k := by rw [← hW]; exact BoxC.new _ _ _ _
  have H : Hid (∀ v, Below W.heap.size W v → BoxC v w.heap.size m k ∧ CL v m k ∧ BBs v (fun b => b < v.heap.size) rs ta) := fun v hv => ⟨hX.below hv hX.lt, (h.below hB).below hv, (hb.below hB).below hv⟩
  have c0 := hX.c0
  have c1 := hX.c1
  have c2 := hX.c2
  have HW := Lib.hid hW
  have HB := Lib.hid hB
  have HTN := Lib.hid htn
  unfold arrC at HW
  have HV := Lib.hid (iCV_one m k W (h.below hB) (hT.below hB hT.lt))
  clear h hT hb hB hX hW htn
  go_enter Tryd.func26, Tryd.ntmps26
  go_wp2_with (first | rw [HW.out] | fail)
  refine HV.out.mono ?_
  rintro e w2 ⟨rfl, hb2⟩
  have HB2 : Hid (Below w.heap.size w w2) := HB.out.trans (hb2.mono HB.out.size)
  have HL2 : Hid (Below W.heap.size W w2) := hb2
  have hz2 := hb2.size
  have hz0 := HB.out.size
  obtain ⟨q, hq⟩ : ∃ q, codeB m = q := ⟨_, rfl⟩
  have HQ := Lib.hid hq
  rw [hq]
  clear hb2 hq HV c0 c1 c2
  cases q
  case false =>
    have HF : Hid (AnsL m rs w (.returned (.bool false)) w2) := AnsL.no (fun e => by have := e.ok; rw [HQ.out] at this; cases this) HB2.out
    go_wp2_with fail
    go_ret
    exact HF.out
  case true =>
    obtain ⟨n, hn⟩ : ∃ n, m.list.length = n := ⟨_, rfl⟩
    have HN := Lib.hid hn
    have HO := Lib.hid (codeB_ok HQ.out)
    have hle : n ≤ 400 := by rw [← hn]; exact HO.out.le
    have hpos : 1 ≤ n := by rw [← hn]; exact HO.out.pos
    have x2 : w2.cell? ⟨w.heap.size, 2, none⟩ = some (.slice k.la n k.lc) := by rw [← hn]; exact (H.out w2 HL2.out).1.c2
    clear hn
    by_cases hne : tn = n
    · subst hne
      obtain ⟨W3, hW3⟩ : ∃ W3, w2.alloc (.cells #[.slice k.la tn k.lc, .slice none 0 0] 62) = W3 := ⟨_, rfl⟩
      have hb3 : Below w2.heap.size w2 W3 := by rw [← hW3]; exact (Below.refl _ _).alloc (Nat.le_refl _) _
      have hbx3 : W3.heap[w2.heap.size]? = some (.cells #[.slice k.la tn k.lc, .slice none 0 0] 62 (0, 0)) := by rw [← hW3]; exact heap_alloc_new w2 _
      have HL0 : Hid (ClL rs tn w2.heap.size k.la k.lc w2 (.int .i64 0) W3) := ⟨0, none, 0, Nat.zero_le _, rfl, (fun i r hi => absurd hi (Nat.not_lt_zero _)), hbx3, by simpa using World.ownsRow_nil W3 (w2.heap.size + 1) 65 1, hb3, hb3.size⟩
      have HW3 := Lib.hid hW3
      clear hW3 hb3 hbx3
      go_wp2_with (first | rw [HW3.out] | fail)
      clear x2
      try rw [HW3.out]
      go_loopw [24] (fun i wr => ClL rs tn w2.heap.size k.la k.lc w2 i wr) (fun i _ => tn - (intOf i).toNat)
      case atStart => exact HL0.out
      case round =>
        obtain ⟨j, ra, rc, hj, rfl, hto, hbx, hrow, hb, hwz⟩ := hrel
        have HTO := Lib.hid hto
        have HROW := Lib.hid hrow
        have HBR := Lib.hid hb
        have hWr : Below W.heap.size W wr := HL2.out.trans (hb.mono hz2)
        have HWR := Lib.hid hWr
        obtain ⟨_, _, hbs⟩ := H.out wr hWr
        have hbsz := hb.size
        have hblt := (Array.getElem?_eq_some_iff.1 hbx).1
        have l0 : wr.cell? ⟨w2.heap.size, 0, none⟩ = some (.slice k.la tn k.lc) := by rw [cell_at hbx]; rfl
        have l1 : wr.cell? ⟨w2.heap.size, 1, none⟩ = some (.slice ra j rc) := by rw [cell_at hbx]; rfl
        have f1 := frozen_at hbx 1
        have HBX := Lib.hid hbx
        clear hto hrow hb HL0 hWr hbx
        by_cases hlt : j < tn
        · obtain ⟨r, hr⟩ : ∃ r, rs[j]? = some r := ⟨rs[j]'(by rw [HTN.out]; exact hlt), List.getElem?_eq_getElem _⟩
          obtain ⟨tb, tO, pa, pc, rfl, htb, hpc, hpb⟩ := hbs.2 j r hr
          obtain ⟨rl, hrl⟩ : ∃ rl, r.length = rl := ⟨_, rfl⟩
          rw [hrl] at hpc
          have HR := Lib.hid hr
          have HRL := Lib.hid hrl
          have HPB := Lib.hid hpb
          clear hr hrl hbs hpb
          by_cases hok : rl = 14
          · subst hok
            have HRG := Lib.hid (fun v (hv : Below wr.heap.size wr v) => regOf_one r pa pc v (HPB.out.wide (fun g hg => hv.block g hg) fun _ h => h) HRL.out)
            obtain ⟨q, hq⟩ : ∃ q, regN r 14 = q := ⟨_, rfl⟩
            have HQR := Lib.hid hq
            rw [hq] at HRG
            have hz3 : ((wr.alloc (.cells #[.int .u16 (q : Int)] 65)).drew).heap.size = wr.heap.size + 1 := World.size_alloc wr _
            have hblk : ((wr.alloc (.cells #[.int .u16 (q : Int)] 65)).drew).heap[wr.heap.size]? = some (.cells #[.int .u16 (q : Int)] 65 (0, 0)) := by exact heap_alloc_new wr _
            have hold : ∀ g, g < wr.heap.size → ((wr.alloc (.cells #[.int .u16 (q : Int)] 65)).drew).heap[g]? = wr.heap[g]? := fun g hg => by exact Below.heap_alloc wr _ _ hg
            have hr3 : ((wr.alloc (.cells #[.int .u16 (q : Int)] 65)).drew).ownsRow (w2.heap.size + 1) 65 1 (.slice ra j rc) j (((lvMs rs).take j).map u16V) := ownsRow_far1 HROW.out fun g _ hl => hold g hl
            have hB3 : Below w2.heap.size w2 ((wr.alloc (.cells #[.int .u16 (q : Int)] 65)).drew) := (HBR.out.alloc hbsz _).drew
            have hbx3 : ((wr.alloc (.cells #[.int .u16 (q : Int)] 65)).drew).heap[w2.heap.size]? = some (.cells #[.slice k.la tn k.lc, .slice ra j rc] 62 (0, 0)) := (hold _ hblt).trans HBX.out
            have m1 : ((wr.alloc (.cells #[.int .u16 (q : Int)] 65)).drew).cell? ⟨w2.heap.size, 1, none⟩ = some (.slice ra j rc) := by rw [cell_at hbx3]; rfl
            have d1 : wr.drew.cell? ⟨w2.heap.size, 1, none⟩ = some (.slice ra j rc) := l1
            have HB3 := Lib.hid hB3
            have HX3 := Lib.hid hbx3
            have HBD : Below wr.heap.size wr wr.drew := (Below.refl _ _).drew
            clear hB3 hq hold
            go_wp2_with fail
            go_region_law (first
              | (go_simp; go_at_call 63; refine (HRG.out wr.drew HBD).mono ?_; rintro e w4 ⟨rfl, hw4⟩; subst hw4)
              | (refine step_append_lies _ (by rfl) _ _ _ (by rfl) (w2.heap.size + 1) 65 i0 _ 1 2 Tryd.underlying60 hi hi0 hi1 hi2 rfl (by omega) (.slice ra j rc) j _ (by rfl) hr3 ⟨wr.heap.size, 0, none⟩ 1 1 [.int .u16 (q : Int)] (by rfl) (by rfl) (World.news_of_block hblk) (by simp [Value.oneCell']) (by omega) (by unfold maxLen; omega) (by omega) (by omega) (wr.heap.size + 1) (by omega) ?_; intro g5 cp w5 hown5 hgrow hat hlt5
                 have hb35 : Below w2.heap.size w2 w5 := HB3.out.grown hgrow HB3.out.size (fun t ht => (by have := (hr3.lt t ht).1; omega))
                 have hbx5 : w5.heap[w2.heap.size]? = some (.cells #[.slice k.la tn k.lc, .slice ra j rc] 62 (0, 0)) := ((hgrow.block _ (by omega) (fun e => (by have := (hr3.lt _ e.symm).1; omega))).trans HX3.out)
                 have fz5 := frozen_at hbx5 1
                 have n1 : w5.cell? ⟨w2.heap.size, 1, none⟩ = some (.slice ra j rc) := (by rw [cell_at hbx5]; rfl)))
            all_goals
              have HREL : Hid (ClL rs tn w2.heap.size k.la k.lc w2 (.int .i64 ((j : Int) + 1)) (w5.setCell ⟨w2.heap.size, 1, none⟩ (.slice (some ⟨g5, 0, none⟩) (j + 1) cp))) := by
                refine ⟨j + 1, some ⟨g5, 0, none⟩, cp, hlt, by go_num, HTO.out.succ HR.out HRL.out, ?_, ?_, hb35.setCell (p := ⟨w2.heap.size, 1, none⟩) (Nat.le_refl _) _, Nat.le_trans hb35.size (Nat.le_of_eq (by simp [World.setCell]))⟩
                · exact blk_setL hbx5
                · have e1 : (lvMs rs).take (j + 1) = (lvMs rs).take j ++ [q] := (by rw [List.take_add_one, lvMs_at HR.out, HQR.out]; rfl)
                  rw [e1, List.map_append]
                  exact ownsRow_far1 hown5 fun g hg _ => Below.heap_setCell _ _ _ _ (by
                    have h1 := (hown5.lt g hg).1
                    show g ≠ w2.heap.size
                    omega)
              clear hown5 hgrow hat hb35 hbx5 hr3 hblk m1 d1
              go_wp2_with fail
              go_roundw
              case rel => exact HREL.out
              case measure => simp [intOf]; omega
          · have hok2 : ((rl : Int) != 14) = true := by simp; omega
            have HF : Hid (AnsL m rs w (.returned (.bool false)) wr) := AnsL.no (fun e => hok (by rw [← HRL.out]; exact e.rows j r (by rw [HTN.out]; exact hlt) HR.out)) (HB2.out.trans (HBR.out.mono (by omega)))
            clear hok HPB HROW HTO
            go_wp2_with fail
            go_ret
            exact HF.out
        · obtain rfl : j = tn := by omega
          have hml : (lvMs rs).length = j := by rw [lvMs_len]; exact HTN.out
          have hrow := HROW.out
          rw [List.take_of_length_le (by omega)] at hrow
          have hrl : RowsL rs rs.length := by rw [HTN.out]; exact HTO.out
          have HRL := Lib.hid hrl
          have HSU := Lib.hid (suff_one (nv := m.vars.length) (na := m.arrs.length) m.list (lvMs rs) k.la ra j k.lc rc wr (H.out wr HWR.out).2.1.2.2 HN.out HO.out (rsAt_own hrow hml) hml (lvMs_lt rs) fun i x hx => codeB_ins HQ.out hx)
          clear hml hrow hrl HROW hbs
          go_wp2_with fail
          refine HSU.out.mono ?_
          rintro e w5 ⟨b, rfl, hb5, hbl5⟩
          have HF : Hid (AnsL m rs w (.returned (.bool b)) w5) := ⟨b, rfl, hb5.trans ⟨fun hc => ⟨HQ.out, by rw [HTN.out, HN.out], HRL.out, hc⟩, fun e => e.cov⟩, HB2.out.trans ((HBR.out.trans (hbl5.mono hbsz)).mono (by omega))⟩
          clear hb5 hbl5 HSU
          go_wp2_with fail
          go_ret
          exact HF.out
    · have hneI : ((tn : Int) != (n : Int)) = true := by simp; omega
      have HF : Hid (AnsL m rs w (.returned (.bool false)) w2) := AnsL.no (fun e => hne (by rw [← HTN.out, ← HN.out]; exact e.len)) HB2.out
      clear hne
      go_wp2_with fail
      go_ret
      exact HF.out

end Go.Proofs.YtbifbmpflhdijaaDoor

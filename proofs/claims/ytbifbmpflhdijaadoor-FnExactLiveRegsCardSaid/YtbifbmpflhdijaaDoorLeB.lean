/- An answer that is a set of registers. -/
import Derived.Test.YtbifbmpflhdijaaDoorEvB
import Derived.Test.YtbifbmpflhdijaaDoorLvP
import Derived.Test.YtbifbmpflhdijaaDoorTnV
import Derived.Test.YtbifbmpflhdijaaDoorCvI
import Derived.Test.YtbifbmpflhdijaaDoorCtP
import Derived.Test.YtbifbmpflhdijaaDoorBlSB
import Derived.Test.YtbifbmpflhdijaaDoorRcI
import Derived.Deep.RegionHeld3
import Derived.Test.YtbifbmpflhdijaaDoorAppA
import Derived.Test.YtbifbmpflhdijaaDoorProg
import Derived.Test.YtbifbmpflhdijaaDoorLeA
import Derived.Test.YtbifbmpflhdijaaDoorBlS
import Derived.Test.YtbifbmpflhdijaaDoorBb
namespace Go.Proofs.YtbifbmpflhdijaaDoor
open Go.RowKit
set_option linter.unusedVariables false

/-- A set of registers; nothing that was there has changed. -/
def SetB (z : Nat) (w : World) (e : Ending) (w' : World) : Prop := e = .returned (.int .u16 (z : Int)) ∧ Below w.heap.size w w'
theorem SetB.of {y z : Nat} (h : y = z) {w w' : World} (hb : Below w.heap.size w w') : SetB z w (.returned (.int .u16 (y : Int))) w' := ⟨by rw [h], hb⟩
end Go.Proofs.YtbifbmpflhdijaaDoor

namespace Go.Proofs.YtbifbmpflhdijaaDoor
open Go.RowKit
set_option linter.unusedVariables false

theorem setM_app : ∀ (L : List Nat) (m r : Nat), setM m (L ++ [r]) = sb (setM m L) r true
  | [], m, r => rfl
  | q :: L, m, r => setM_app L _ r

set_option maxRecDepth 100000 in
set_option maxHeartbeats 2000000 in
/-- **setOf.** -/
theorem setOf_one (L : List Nat) (b n c : Nat) (w : World) (hn : L.length = n) (hn3 : n ≤ 3) (hlt : ∀ r, r ∈ L → r < 14) (hc : ∀ (i r : Nat), L[i]? = some r → w.cell? ⟨b, i, none⟩ = some (.int .i64 (r : Int))) :
    Calls Tryd.prog 104 #[.slice (some ⟨b, 0, none⟩) n c] w (fun e w' => e = .returned (.int .u16 (setM 0 L : Int)) ∧ w' = w) := by
  have HN := Lib.hid hn
  have HL := Lib.hid hlt
  have HC := Lib.hid hc
  clear hn hlt hc
  go_enter Tryd.func104, Tryd.ntmps104
  go_wp2_with fail
  go_loopw [3, 8] (fun s i wr => ∃ k : Nat, k ≤ n ∧ i = .int .i64 (k : Int) ∧ s = .int .u16 (setM 0 (L.take k) : Int) ∧ wr = w) (fun _ i _ => n - (intOf i).toNat)
  case atStart => exact ⟨0, by omega, rfl, rfl, by first | rfl | trivial⟩
  case round =>
    obtain ⟨k, hk, rfl, rfl, rfl⟩ := hrel
    by_cases hlt : k < n
    · obtain ⟨r, hr⟩ : ∃ r, L[k]? = some r := ⟨L[k]'(by rw [HN.out]; exact hlt), List.getElem?_eq_getElem _⟩
      have e0 := HC.out k r hr
      have hr14 : r < 14 := HL.out r (List.mem_of_getElem? hr)
      have HS : Hid (setM 0 (L.take (k + 1)) = sb (setM 0 (L.take k)) r true) := by
        show _ = _
        rw [List.take_add_one, hr]; exact setM_app _ _ _
      obtain ⟨m, hm⟩ : ∃ m, setM 0 (L.take k) = m := ⟨_, rfl⟩
      have hlm : m < 32768 := by
        rw [← hm]
        exact Nat.lt_trans (setM_lt _ _ (by omega) fun q hq => HL.out q (List.mem_of_mem_take hq)) (by omega)
      have HM := Lib.hid hm
      rw [hm] at HS ⊢
      have HW := Lib.hid (with_one m r true wr hlm hr14)
      clear hr hm HC
      go_wp2_with fail
      refine HW.out.mono ?_
      rintro e w2 ⟨rfl, hw2⟩
      subst hw2
      rw [← HS.out]
      go_wp2_with fail
      go_roundw
      case rel => exact ⟨k + 1, by omega, by go_num, rfl, by first | rfl | trivial⟩
      case measure => simp [intOf]; omega
    · obtain rfl : k = n := by omega
      have HT : Hid (L.take k = L) := List.take_of_length_le (by rw [HN.out]; exact Nat.le_refl _)
      clear HC
      go_wp2_with fail
      rw [HT.out]
      go_ret
      exact ⟨rfl, rfl⟩

set_option maxRecDepth 100000 in
set_option maxHeartbeats 4000000 in
/-- **reads.** -/
theorem reads_one {nv na : Nat} (x : Ins) (w : World) (hx : InsT nv na x) :
    Calls Tryd.prog 72 #[aggI x] w (SetB (rdM x) w) := by
  obtain ⟨W, hW⟩ : ∃ W, w.alloc (.cells (arrI x) 50) = W := ⟨_, rfl⟩
  have hB : Below w.heap.size w W := by rw [← hW]; exact (Below.refl _ w).alloc (Nat.le_refl _) _
  have hbx : W.heap[w.heap.size]? = some (.cells (arrI x) 50 (0, 0)) := by rw [← hW]; exact heap_alloc_new w _
  have x0 : W.cell? ⟨w.heap.size, 0, none⟩ = some (.int .i64 x.op) := by rw [cell_at hbx]; rfl
  have x1 : W.cell? ⟨w.heap.size, 1, none⟩ = some (.int .i64 x.fa) := by rw [cell_at hbx]; rfl
  have x2 : W.cell? ⟨w.heap.size, 2, none⟩ = some (.int .i64 x.fb) := by rw [cell_at hbx]; rfl
  have x3 : W.cell? ⟨w.heap.size, 3, none⟩ = some (.int .i64 x.fc) := by rw [cell_at hbx]; rfl
  have x4 : W.cell? ⟨w.heap.size, 4, none⟩ = some (.int .i64 x.fd) := by rw [cell_at hbx]; rfl
  have HX := Lib.hid hx
  have HW := Lib.hid hW
  have HB := Lib.hid hB
  clear hx hW hB hbx
  unfold arrI at HW
  have hops : x.op = 3 ∨ x.op = 4 ∨ x.op = 5 ∨ x.op = 6 ∨ x.op = 7 ∨ x.op = 9 ∨ x.op = 10 ∨ x.op = 11 ∨ ((x.op == 3) = false ∧ (x.op == 4) = false ∧ (x.op == 5) = false ∧ (x.op == 6) = false ∧ (x.op == 7) = false ∧ (x.op == 9) = false ∧ (x.op == 10) = false ∧ (x.op == 11) = false) := by
    simp only [beq_eq_false_iff_ne]
    omega
  have H11 : x.op = 11 → wrA x = true := fun e => by unfold wrA; rw [e]; rfl
  have H11 := Lib.hid H11
  rcases hops with ho | ho | ho | ho | ho | ho | ho | ho | ⟨e3, e4, e5, e6, e7, e9, e10, e11⟩
  · have e3 : (x.op == 3) = true := by simpa using ho
    obtain ⟨bn, hb⟩ : ∃ q : Nat, x.fb = q := ⟨x.fb.toNat, by have := HX.out.rb (.inl ho); omega⟩
    have hbl : bn < 14 := by have := HX.out.rb (.inl ho); omega
    have HE : Hid (setM 0 [bn] = rdM x) := by
      show _ = _
      unfold rdM rdL
      simp only [ho]
      simp [hb]
    rw [hb] at x2
    obtain ⟨V, hV⟩ : ∃ V, W.alloc (.cells #[.int .i64 (bn : Int)] 3) = V := ⟨_, rfl⟩
    have HBV : Hid (Below w.heap.size w V) := by rw [← hV]; exact HB.out.alloc HB.out.size _
    have hvx : V.heap[W.heap.size]? = some (.cells #[.int .i64 (bn : Int)] 3 (0, 0)) := by rw [← hV]; exact heap_alloc_new W _
    have HC := Lib.hid (setOf_one [bn] W.heap.size 1 1 V rfl (by omega) (by intro r hr; simp at hr; omega) (by
      intro i r hr
      rw [cell_at hvx]
      match i, hr with
      | 0, hr => simp at hr; subst hr; rfl
      | (k + 1), hr => simp at hr))
    have HV := Lib.hid hV
    clear ho hb hV hvx
    go_enter Tryd.func72, Tryd.ntmps72
    go_wp2_with (first | rw [HW.out] | fail)
    rw [HV.out]
    refine HC.out.mono ?_
    rintro e w2 ⟨rfl, hw2⟩
    subst hw2
    go_wp2_with fail
    go_ret
    exact SetB.of HE.out HBV.out
  · have e3 : (x.op == 3) = false := by rw [ho]; rfl
    have e4 : (x.op == 4) = true := by simpa using ho
    obtain ⟨cn, hc⟩ : ∃ q : Nat, x.fc = q := ⟨x.fc.toNat, by have := HX.out.rc (.inl ho); omega⟩
    have hcl : cn < 14 := by have := HX.out.rc (.inl ho); omega
    have HE : Hid (setM 0 [cn] = rdM x) := by
      show _ = _
      unfold rdM rdL
      simp only [ho]
      simp [hc]
    rw [hc] at x3
    obtain ⟨V, hV⟩ : ∃ V, W.alloc (.cells #[.int .i64 (cn : Int)] 3) = V := ⟨_, rfl⟩
    have HBV : Hid (Below w.heap.size w V) := by rw [← hV]; exact HB.out.alloc HB.out.size _
    have hvx : V.heap[W.heap.size]? = some (.cells #[.int .i64 (cn : Int)] 3 (0, 0)) := by rw [← hV]; exact heap_alloc_new W _
    have HC := Lib.hid (setOf_one [cn] W.heap.size 1 1 V rfl (by omega) (by intro r hr; simp at hr; omega) (by
      intro i r hr
      rw [cell_at hvx]
      match i, hr with
      | 0, hr => simp at hr; subst hr; rfl
      | (k + 1), hr => simp at hr))
    have HV := Lib.hid hV
    clear ho hc hV hvx
    go_enter Tryd.func72, Tryd.ntmps72
    go_wp2_with (first | rw [HW.out] | fail)
    rw [HV.out]
    refine HC.out.mono ?_
    rintro e w2 ⟨rfl, hw2⟩
    subst hw2
    go_wp2_with fail
    go_ret
    exact SetB.of HE.out HBV.out
  · have e3 : (x.op == 3) = false := by rw [ho]; rfl
    have e4 : (x.op == 4) = false := by rw [ho]; rfl
    have e5 : (x.op == 5) = true := by simpa using ho
    obtain ⟨bn, hb⟩ : ∃ q : Nat, x.fb = q := ⟨x.fb.toNat, by have := HX.out.rb (.inr (.inl ho)); omega⟩
    have hbl : bn < 14 := by have := HX.out.rb (.inr (.inl ho)); omega
    obtain ⟨cn, hc⟩ : ∃ q : Nat, x.fc = q := ⟨x.fc.toNat, by have := HX.out.rc (.inr (.inl ho)); omega⟩
    have hcl : cn < 14 := by have := HX.out.rc (.inr (.inl ho)); omega
    have HE : Hid (setM 0 [bn, cn] = rdM x) := by
      show _ = _
      unfold rdM rdL
      simp only [ho]
      simp [hb, hc]
    rw [hb] at x2
    rw [hc] at x3
    obtain ⟨V, hV⟩ : ∃ V, W.alloc (.cells #[.int .i64 (bn : Int), .int .i64 (cn : Int)] 3) = V := ⟨_, rfl⟩
    have HBV : Hid (Below w.heap.size w V) := by rw [← hV]; exact HB.out.alloc HB.out.size _
    have hvx : V.heap[W.heap.size]? = some (.cells #[.int .i64 (bn : Int), .int .i64 (cn : Int)] 3 (0, 0)) := by rw [← hV]; exact heap_alloc_new W _
    have HC := Lib.hid (setOf_one [bn, cn] W.heap.size 2 2 V rfl (by omega) (by intro r hr; simp at hr; omega) (by
      intro i r hr
      rw [cell_at hvx]
      match i, hr with
      | 0, hr => simp at hr; subst hr; rfl
      | 1, hr => simp at hr; subst hr; rfl
      | (k + 2), hr => simp at hr))
    have HV := Lib.hid hV
    clear ho hb hc hV hvx
    go_enter Tryd.func72, Tryd.ntmps72
    go_wp2_with (first | rw [HW.out] | fail)
    rw [HV.out]
    refine HC.out.mono ?_
    rintro e w2 ⟨rfl, hw2⟩
    subst hw2
    go_wp2_with fail
    go_ret
    exact SetB.of HE.out HBV.out
  · have e3 : (x.op == 3) = false := by rw [ho]; rfl
    have e4 : (x.op == 4) = false := by rw [ho]; rfl
    have e5 : (x.op == 5) = false := by rw [ho]; rfl
    have e6 : (x.op == 6) = true := by simpa using ho
    obtain ⟨cn, hc⟩ : ∃ q : Nat, x.fc = q := ⟨x.fc.toNat, by have := HX.out.rc (.inr (.inr (.inl ho))); omega⟩
    have hcl : cn < 14 := by have := HX.out.rc (.inr (.inr (.inl ho))); omega
    obtain ⟨dn, hd⟩ : ∃ q : Nat, x.fd = q := ⟨x.fd.toNat, by have := HX.out.rd (.inl ho); omega⟩
    have hdl : dn < 14 := by have := HX.out.rd (.inl ho); omega
    have HE : Hid (setM 0 [cn, dn] = rdM x) := by
      show _ = _
      unfold rdM rdL
      simp only [ho]
      simp [hc, hd]
    rw [hc] at x3
    rw [hd] at x4
    obtain ⟨V, hV⟩ : ∃ V, W.alloc (.cells #[.int .i64 (cn : Int), .int .i64 (dn : Int)] 3) = V := ⟨_, rfl⟩
    have HBV : Hid (Below w.heap.size w V) := by rw [← hV]; exact HB.out.alloc HB.out.size _
    have hvx : V.heap[W.heap.size]? = some (.cells #[.int .i64 (cn : Int), .int .i64 (dn : Int)] 3 (0, 0)) := by rw [← hV]; exact heap_alloc_new W _
    have HC := Lib.hid (setOf_one [cn, dn] W.heap.size 2 2 V rfl (by omega) (by intro r hr; simp at hr; omega) (by
      intro i r hr
      rw [cell_at hvx]
      match i, hr with
      | 0, hr => simp at hr; subst hr; rfl
      | 1, hr => simp at hr; subst hr; rfl
      | (k + 2), hr => simp at hr))
    have HV := Lib.hid hV
    clear ho hc hd hV hvx
    go_enter Tryd.func72, Tryd.ntmps72
    go_wp2_with (first | rw [HW.out] | fail)
    rw [HV.out]
    refine HC.out.mono ?_
    rintro e w2 ⟨rfl, hw2⟩
    subst hw2
    go_wp2_with fail
    go_ret
    exact SetB.of HE.out HBV.out
  · have e3 : (x.op == 3) = false := by rw [ho]; rfl
    have e4 : (x.op == 4) = false := by rw [ho]; rfl
    have e5 : (x.op == 5) = false := by rw [ho]; rfl
    have e6 : (x.op == 6) = false := by rw [ho]; rfl
    have e7 : (x.op == 7) = true := by simpa using ho
    obtain ⟨bn, hb⟩ : ∃ q : Nat, x.fb = q := ⟨x.fb.toNat, by have := HX.out.rb (.inr (.inr ho)); omega⟩
    have hbl : bn < 14 := by have := HX.out.rb (.inr (.inr ho)); omega
    obtain ⟨cn, hc⟩ : ∃ q : Nat, x.fc = q := ⟨x.fc.toNat, by have := HX.out.rc (.inr (.inr (.inr ho))); omega⟩
    have hcl : cn < 14 := by have := HX.out.rc (.inr (.inr (.inr ho))); omega
    obtain ⟨dn, hd⟩ : ∃ q : Nat, x.fd = q := ⟨x.fd.toNat, by have := HX.out.rd (.inr ho); omega⟩
    have hdl : dn < 14 := by have := HX.out.rd (.inr ho); omega
    have HE : Hid (setM 0 [bn, cn, dn] = rdM x) := by
      show _ = _
      unfold rdM rdL
      simp only [ho]
      simp [hb, hc, hd]
    rw [hb] at x2
    rw [hc] at x3
    rw [hd] at x4
    obtain ⟨V, hV⟩ : ∃ V, W.alloc (.cells #[.int .i64 (bn : Int), .int .i64 (cn : Int), .int .i64 (dn : Int)] 3) = V := ⟨_, rfl⟩
    have HBV : Hid (Below w.heap.size w V) := by rw [← hV]; exact HB.out.alloc HB.out.size _
    have hvx : V.heap[W.heap.size]? = some (.cells #[.int .i64 (bn : Int), .int .i64 (cn : Int), .int .i64 (dn : Int)] 3 (0, 0)) := by rw [← hV]; exact heap_alloc_new W _
    have HC := Lib.hid (setOf_one [bn, cn, dn] W.heap.size 3 3 V rfl (by omega) (by intro r hr; simp at hr; omega) (by
      intro i r hr
      rw [cell_at hvx]
      match i, hr with
      | 0, hr => simp at hr; subst hr; rfl
      | 1, hr => simp at hr; subst hr; rfl
      | 2, hr => simp at hr; subst hr; rfl
      | (k + 3), hr => simp at hr))
    have HV := Lib.hid hV
    clear ho hb hc hd hV hvx
    go_enter Tryd.func72, Tryd.ntmps72
    go_wp2_with (first | rw [HW.out] | fail)
    rw [HV.out]
    refine HC.out.mono ?_
    rintro e w2 ⟨rfl, hw2⟩
    subst hw2
    go_wp2_with fail
    go_ret
    exact SetB.of HE.out HBV.out
  · have e3 : (x.op == 3) = false := by rw [ho]; rfl
    have e4 : (x.op == 4) = false := by rw [ho]; rfl
    have e5 : (x.op == 5) = false := by rw [ho]; rfl
    have e6 : (x.op == 6) = false := by rw [ho]; rfl
    have e7 : (x.op == 7) = false := by rw [ho]; rfl
    have e9 : (x.op == 9) = true := by simpa using ho
    obtain ⟨an, ha⟩ : ∃ q : Nat, x.fa = q := ⟨x.fa.toNat, by have := HX.out.ra (.inr (.inl ho)); omega⟩
    have hal : an < 14 := by have := HX.out.ra (.inr (.inl ho)); omega
    have HE : Hid (setM 0 [an] = rdM x) := by
      show _ = _
      unfold rdM rdL
      simp only [ho]
      simp [ha]
    rw [ha] at x1
    obtain ⟨V, hV⟩ : ∃ V, W.alloc (.cells #[.int .i64 (an : Int)] 3) = V := ⟨_, rfl⟩
    have HBV : Hid (Below w.heap.size w V) := by rw [← hV]; exact HB.out.alloc HB.out.size _
    have hvx : V.heap[W.heap.size]? = some (.cells #[.int .i64 (an : Int)] 3 (0, 0)) := by rw [← hV]; exact heap_alloc_new W _
    have HC := Lib.hid (setOf_one [an] W.heap.size 1 1 V rfl (by omega) (by intro r hr; simp at hr; omega) (by
      intro i r hr
      rw [cell_at hvx]
      match i, hr with
      | 0, hr => simp at hr; subst hr; rfl
      | (k + 1), hr => simp at hr))
    have HV := Lib.hid hV
    clear ho ha hV hvx
    go_enter Tryd.func72, Tryd.ntmps72
    go_wp2_with (first | rw [HW.out] | fail)
    rw [HV.out]
    refine HC.out.mono ?_
    rintro e w2 ⟨rfl, hw2⟩
    subst hw2
    go_wp2_with fail
    go_ret
    exact SetB.of HE.out HBV.out
  · have e3 : (x.op == 3) = false := by rw [ho]; rfl
    have e4 : (x.op == 4) = false := by rw [ho]; rfl
    have e5 : (x.op == 5) = false := by rw [ho]; rfl
    have e6 : (x.op == 6) = false := by rw [ho]; rfl
    have e7 : (x.op == 7) = false := by rw [ho]; rfl
    have e9 : (x.op == 9) = false := by rw [ho]; rfl
    have e10 : (x.op == 10) = true := by simpa using ho
    obtain ⟨an, ha⟩ : ∃ q : Nat, x.fa = q := ⟨x.fa.toNat, by have := HX.out.ra (.inr (.inr ho)); omega⟩
    have hal : an < 14 := by have := HX.out.ra (.inr (.inr ho)); omega
    have HE : Hid (setM 0 [an] = rdM x) := by
      show _ = _
      unfold rdM rdL
      simp only [ho]
      simp [ha]
    rw [ha] at x1
    obtain ⟨V, hV⟩ : ∃ V, W.alloc (.cells #[.int .i64 (an : Int)] 3) = V := ⟨_, rfl⟩
    have HBV : Hid (Below w.heap.size w V) := by rw [← hV]; exact HB.out.alloc HB.out.size _
    have hvx : V.heap[W.heap.size]? = some (.cells #[.int .i64 (an : Int)] 3 (0, 0)) := by rw [← hV]; exact heap_alloc_new W _
    have HC := Lib.hid (setOf_one [an] W.heap.size 1 1 V rfl (by omega) (by intro r hr; simp at hr; omega) (by
      intro i r hr
      rw [cell_at hvx]
      match i, hr with
      | 0, hr => simp at hr; subst hr; rfl
      | (k + 1), hr => simp at hr))
    have HV := Lib.hid hV
    clear ho ha hV hvx
    go_enter Tryd.func72, Tryd.ntmps72
    go_wp2_with (first | rw [HW.out] | fail)
    rw [HV.out]
    refine HC.out.mono ?_
    rintro e w2 ⟨rfl, hw2⟩
    subst hw2
    go_wp2_with fail
    go_ret
    exact SetB.of HE.out HBV.out
  · have e3 : (x.op == 3) = false := by rw [ho]; rfl
    have e4 : (x.op == 4) = false := by rw [ho]; rfl
    have e5 : (x.op == 5) = false := by rw [ho]; rfl
    have e6 : (x.op == 6) = false := by rw [ho]; rfl
    have e7 : (x.op == 7) = false := by rw [ho]; rfl
    have e9 : (x.op == 9) = false := by rw [ho]; rfl
    have e10 : (x.op == 10) = false := by rw [ho]; rfl
    have e11 : (x.op == 11) = true := by simpa using ho
    obtain ⟨an, ha⟩ : ∃ q : Nat, x.fa = q := ⟨x.fa.toNat, by have := HX.out.ra (.inl (H11.out ho)); omega⟩
    have hal : an < 14 := by have := HX.out.ra (.inl (H11.out ho)); omega
    have HE : Hid (setM 0 [an] = rdM x) := by
      show _ = _
      unfold rdM rdL
      simp only [ho]
      simp [ha]
    rw [ha] at x1
    obtain ⟨V, hV⟩ : ∃ V, W.alloc (.cells #[.int .i64 (an : Int)] 3) = V := ⟨_, rfl⟩
    have HBV : Hid (Below w.heap.size w V) := by rw [← hV]; exact HB.out.alloc HB.out.size _
    have hvx : V.heap[W.heap.size]? = some (.cells #[.int .i64 (an : Int)] 3 (0, 0)) := by rw [← hV]; exact heap_alloc_new W _
    have HC := Lib.hid (setOf_one [an] W.heap.size 1 1 V rfl (by omega) (by intro r hr; simp at hr; omega) (by
      intro i r hr
      rw [cell_at hvx]
      match i, hr with
      | 0, hr => simp at hr; subst hr; rfl
      | (k + 1), hr => simp at hr))
    have HV := Lib.hid hV
    clear ho ha hV hvx
    go_enter Tryd.func72, Tryd.ntmps72
    go_wp2_with (first | rw [HW.out] | fail)
    rw [HV.out]
    refine HC.out.mono ?_
    rintro e w2 ⟨rfl, hw2⟩
    subst hw2
    go_wp2_with fail
    go_ret
    exact SetB.of HE.out HBV.out
  · have HE : Hid (0 = rdM x) := by
      show _ = _
      have a3 : ¬ x.op = 3 := by simpa using e3
      have a4 : ¬ x.op = 4 := by simpa using e4
      have a5 : ¬ x.op = 5 := by simpa using e5
      have a6 : ¬ x.op = 6 := by simpa using e6
      have a7 : ¬ x.op = 7 := by simpa using e7
      have a9 : ¬ x.op = 9 := by simpa using e9
      have a10 : ¬ x.op = 10 := by simpa using e10
      have a11 : ¬ x.op = 11 := by simpa using e11
      unfold rdM rdL
      rw [if_neg a3, if_neg a4, if_neg a5, if_neg a6, if_neg a7, if_neg (by omega)]; rfl
    go_enter Tryd.func72, Tryd.ntmps72
    go_wp2_with (first | rw [HW.out] | fail)
    go_ret
    exact SetB.of HE.out HB.out

set_option maxRecDepth 100000 in
set_option maxHeartbeats 4000000 in
/-- **writes.** -/
theorem writes_one {nv na : Nat} (x : Ins) (w : World) (hx : InsT nv na x) :
    Calls Tryd.prog 73 #[aggI x] w (SetB (wrM x) w) := by
  obtain ⟨W, hW⟩ : ∃ W, w.alloc (.cells (arrI x) 50) = W := ⟨_, rfl⟩
  have hB : Below w.heap.size w W := by rw [← hW]; exact (Below.refl _ w).alloc (Nat.le_refl _) _
  have hbx : W.heap[w.heap.size]? = some (.cells (arrI x) 50 (0, 0)) := by rw [← hW]; exact heap_alloc_new w _
  have x0 : W.cell? ⟨w.heap.size, 0, none⟩ = some (.int .i64 x.op) := by rw [cell_at hbx]; rfl
  have x1 : W.cell? ⟨w.heap.size, 1, none⟩ = some (.int .i64 x.fa) := by rw [cell_at hbx]; rfl
  have x2 : W.cell? ⟨w.heap.size, 2, none⟩ = some (.int .i64 x.fb) := by rw [cell_at hbx]; rfl
  have x3 : W.cell? ⟨w.heap.size, 3, none⟩ = some (.int .i64 x.fc) := by rw [cell_at hbx]; rfl
  have x4 : W.cell? ⟨w.heap.size, 4, none⟩ = some (.int .i64 x.fd) := by rw [cell_at hbx]; rfl
  have HX := Lib.hid hx
  have HW := Lib.hid hW
  have HB := Lib.hid hB
  clear hx hW hB hbx
  unfold arrI at HW
  have hops : x.op = 1 ∨ x.op = 2 ∨ x.op = 4 ∨ x.op = 6 ∨ x.op = 7 ∨ x.op = 10 ∨ ((x.op == 1) = false ∧ (x.op == 2) = false ∧ (x.op == 4) = false ∧ (x.op == 6) = false ∧ (x.op == 7) = false ∧ (x.op == 10) = false) := by
    simp only [beq_eq_false_iff_ne]
    omega
  have HWA : Hid (x.op = 1 ∨ x.op = 2 ∨ x.op = 4 ∨ x.op = 6 ∨ x.op = 7 → wrA x = true) := fun e => by
    unfold wrA
    rcases e with e | e | e | e | e <;> rw [e] <;> rfl
  rcases hops with ho | ho | ho | ho | ho | ho | ⟨e1, e2, e4, e6, e7, e10⟩
  · have e1 : (x.op == 1) = true := by simpa using ho
    obtain ⟨an, ha⟩ : ∃ q : Nat, x.fa = q := ⟨x.fa.toNat, by have := HX.out.ra (.inl (HWA.out (by omega))); omega⟩
    have hal : an < 14 := by have := HX.out.ra (.inl (HWA.out (by omega))); omega
    have HE : Hid (setM 0 [an] = wrM x) := by
      show _ = _
      unfold wrM wrL
      simp only [ho]
      simp [ha]
    rw [ha] at x1
    obtain ⟨V, hV⟩ : ∃ V, W.alloc (.cells #[.int .i64 (an : Int)] 3) = V := ⟨_, rfl⟩
    have HBV : Hid (Below w.heap.size w V) := by rw [← hV]; exact HB.out.alloc HB.out.size _
    have hvx : V.heap[W.heap.size]? = some (.cells #[.int .i64 (an : Int)] 3 (0, 0)) := by rw [← hV]; exact heap_alloc_new W _
    have HC := Lib.hid (setOf_one [an] W.heap.size 1 1 V rfl (by omega) (by intro r hr; simp at hr; omega) (by
      intro i r hr
      rw [cell_at hvx]
      match i, hr with
      | 0, hr => simp at hr; subst hr; rfl
      | (k + 1), hr => simp at hr))
    have HV := Lib.hid hV
    clear ho ha hV hvx
    go_enter Tryd.func73, Tryd.ntmps73
    go_wp2_with (first | rw [HW.out] | fail)
    rw [HV.out]
    refine HC.out.mono ?_
    rintro e w2 ⟨rfl, hw2⟩
    subst hw2
    go_wp2_with fail
    go_ret
    exact SetB.of HE.out HBV.out
  · have e1 : (x.op == 1) = false := by rw [ho]; rfl
    have e2 : (x.op == 2) = true := by simpa using ho
    obtain ⟨an, ha⟩ : ∃ q : Nat, x.fa = q := ⟨x.fa.toNat, by have := HX.out.ra (.inl (HWA.out (by omega))); omega⟩
    have hal : an < 14 := by have := HX.out.ra (.inl (HWA.out (by omega))); omega
    have HE : Hid (setM 0 [an] = wrM x) := by
      show _ = _
      unfold wrM wrL
      simp only [ho]
      simp [ha]
    rw [ha] at x1
    obtain ⟨V, hV⟩ : ∃ V, W.alloc (.cells #[.int .i64 (an : Int)] 3) = V := ⟨_, rfl⟩
    have HBV : Hid (Below w.heap.size w V) := by rw [← hV]; exact HB.out.alloc HB.out.size _
    have hvx : V.heap[W.heap.size]? = some (.cells #[.int .i64 (an : Int)] 3 (0, 0)) := by rw [← hV]; exact heap_alloc_new W _
    have HC := Lib.hid (setOf_one [an] W.heap.size 1 1 V rfl (by omega) (by intro r hr; simp at hr; omega) (by
      intro i r hr
      rw [cell_at hvx]
      match i, hr with
      | 0, hr => simp at hr; subst hr; rfl
      | (k + 1), hr => simp at hr))
    have HV := Lib.hid hV
    clear ho ha hV hvx
    go_enter Tryd.func73, Tryd.ntmps73
    go_wp2_with (first | rw [HW.out] | fail)
    rw [HV.out]
    refine HC.out.mono ?_
    rintro e w2 ⟨rfl, hw2⟩
    subst hw2
    go_wp2_with fail
    go_ret
    exact SetB.of HE.out HBV.out
  · have e1 : (x.op == 1) = false := by rw [ho]; rfl
    have e2 : (x.op == 2) = false := by rw [ho]; rfl
    have e4 : (x.op == 4) = true := by simpa using ho
    obtain ⟨an, ha⟩ : ∃ q : Nat, x.fa = q := ⟨x.fa.toNat, by have := HX.out.ra (.inl (HWA.out (by omega))); omega⟩
    have hal : an < 14 := by have := HX.out.ra (.inl (HWA.out (by omega))); omega
    have HE : Hid (setM 0 [an] = wrM x) := by
      show _ = _
      unfold wrM wrL
      simp only [ho]
      simp [ha]
    rw [ha] at x1
    obtain ⟨V, hV⟩ : ∃ V, W.alloc (.cells #[.int .i64 (an : Int)] 3) = V := ⟨_, rfl⟩
    have HBV : Hid (Below w.heap.size w V) := by rw [← hV]; exact HB.out.alloc HB.out.size _
    have hvx : V.heap[W.heap.size]? = some (.cells #[.int .i64 (an : Int)] 3 (0, 0)) := by rw [← hV]; exact heap_alloc_new W _
    have HC := Lib.hid (setOf_one [an] W.heap.size 1 1 V rfl (by omega) (by intro r hr; simp at hr; omega) (by
      intro i r hr
      rw [cell_at hvx]
      match i, hr with
      | 0, hr => simp at hr; subst hr; rfl
      | (k + 1), hr => simp at hr))
    have HV := Lib.hid hV
    clear ho ha hV hvx
    go_enter Tryd.func73, Tryd.ntmps73
    go_wp2_with (first | rw [HW.out] | fail)
    rw [HV.out]
    refine HC.out.mono ?_
    rintro e w2 ⟨rfl, hw2⟩
    subst hw2
    go_wp2_with fail
    go_ret
    exact SetB.of HE.out HBV.out
  · have e1 : (x.op == 1) = false := by rw [ho]; rfl
    have e2 : (x.op == 2) = false := by rw [ho]; rfl
    have e4 : (x.op == 4) = false := by rw [ho]; rfl
    have e6 : (x.op == 6) = true := by simpa using ho
    obtain ⟨an, ha⟩ : ∃ q : Nat, x.fa = q := ⟨x.fa.toNat, by have := HX.out.ra (.inl (HWA.out (by omega))); omega⟩
    have hal : an < 14 := by have := HX.out.ra (.inl (HWA.out (by omega))); omega
    have HE : Hid (setM 0 [an] = wrM x) := by
      show _ = _
      unfold wrM wrL
      simp only [ho]
      simp [ha]
    rw [ha] at x1
    obtain ⟨V, hV⟩ : ∃ V, W.alloc (.cells #[.int .i64 (an : Int)] 3) = V := ⟨_, rfl⟩
    have HBV : Hid (Below w.heap.size w V) := by rw [← hV]; exact HB.out.alloc HB.out.size _
    have hvx : V.heap[W.heap.size]? = some (.cells #[.int .i64 (an : Int)] 3 (0, 0)) := by rw [← hV]; exact heap_alloc_new W _
    have HC := Lib.hid (setOf_one [an] W.heap.size 1 1 V rfl (by omega) (by intro r hr; simp at hr; omega) (by
      intro i r hr
      rw [cell_at hvx]
      match i, hr with
      | 0, hr => simp at hr; subst hr; rfl
      | (k + 1), hr => simp at hr))
    have HV := Lib.hid hV
    clear ho ha hV hvx
    go_enter Tryd.func73, Tryd.ntmps73
    go_wp2_with (first | rw [HW.out] | fail)
    rw [HV.out]
    refine HC.out.mono ?_
    rintro e w2 ⟨rfl, hw2⟩
    subst hw2
    go_wp2_with fail
    go_ret
    exact SetB.of HE.out HBV.out
  · have e1 : (x.op == 1) = false := by rw [ho]; rfl
    have e2 : (x.op == 2) = false := by rw [ho]; rfl
    have e4 : (x.op == 4) = false := by rw [ho]; rfl
    have e6 : (x.op == 6) = false := by rw [ho]; rfl
    have e7 : (x.op == 7) = true := by simpa using ho
    obtain ⟨an, ha⟩ : ∃ q : Nat, x.fa = q := ⟨x.fa.toNat, by have := HX.out.ra (.inl (HWA.out (by omega))); omega⟩
    have hal : an < 14 := by have := HX.out.ra (.inl (HWA.out (by omega))); omega
    have HE : Hid (setM 0 [an] = wrM x) := by
      show _ = _
      unfold wrM wrL
      simp only [ho]
      simp [ha]
    rw [ha] at x1
    obtain ⟨V, hV⟩ : ∃ V, W.alloc (.cells #[.int .i64 (an : Int)] 3) = V := ⟨_, rfl⟩
    have HBV : Hid (Below w.heap.size w V) := by rw [← hV]; exact HB.out.alloc HB.out.size _
    have hvx : V.heap[W.heap.size]? = some (.cells #[.int .i64 (an : Int)] 3 (0, 0)) := by rw [← hV]; exact heap_alloc_new W _
    have HC := Lib.hid (setOf_one [an] W.heap.size 1 1 V rfl (by omega) (by intro r hr; simp at hr; omega) (by
      intro i r hr
      rw [cell_at hvx]
      match i, hr with
      | 0, hr => simp at hr; subst hr; rfl
      | (k + 1), hr => simp at hr))
    have HV := Lib.hid hV
    clear ho ha hV hvx
    go_enter Tryd.func73, Tryd.ntmps73
    go_wp2_with (first | rw [HW.out] | fail)
    rw [HV.out]
    refine HC.out.mono ?_
    rintro e w2 ⟨rfl, hw2⟩
    subst hw2
    go_wp2_with fail
    go_ret
    exact SetB.of HE.out HBV.out
  · have e1 : (x.op == 1) = false := by rw [ho]; rfl
    have e2 : (x.op == 2) = false := by rw [ho]; rfl
    have e4 : (x.op == 4) = false := by rw [ho]; rfl
    have e6 : (x.op == 6) = false := by rw [ho]; rfl
    have e7 : (x.op == 7) = false := by rw [ho]; rfl
    have e10 : (x.op == 10) = true := by simpa using ho
    obtain ⟨an, ha⟩ : ∃ q : Nat, x.fa = q := ⟨x.fa.toNat, by have := HX.out.ra (.inr (.inr ho)); omega⟩
    have hal : an < 14 := by have := HX.out.ra (.inr (.inr ho)); omega
    have HE : Hid (setM 0 [an] = wrM x) := by
      show _ = _
      unfold wrM wrL
      simp only [ho]
      simp [ha]
    rw [ha] at x1
    obtain ⟨V, hV⟩ : ∃ V, W.alloc (.cells #[.int .i64 (an : Int)] 3) = V := ⟨_, rfl⟩
    have HBV : Hid (Below w.heap.size w V) := by rw [← hV]; exact HB.out.alloc HB.out.size _
    have hvx : V.heap[W.heap.size]? = some (.cells #[.int .i64 (an : Int)] 3 (0, 0)) := by rw [← hV]; exact heap_alloc_new W _
    have HC := Lib.hid (setOf_one [an] W.heap.size 1 1 V rfl (by omega) (by intro r hr; simp at hr; omega) (by
      intro i r hr
      rw [cell_at hvx]
      match i, hr with
      | 0, hr => simp at hr; subst hr; rfl
      | (k + 1), hr => simp at hr))
    have HV := Lib.hid hV
    clear ho ha hV hvx
    go_enter Tryd.func73, Tryd.ntmps73
    go_wp2_with (first | rw [HW.out] | fail)
    rw [HV.out]
    refine HC.out.mono ?_
    rintro e w2 ⟨rfl, hw2⟩
    subst hw2
    go_wp2_with fail
    go_ret
    exact SetB.of HE.out HBV.out
  · have HE : Hid (0 = wrM x) := by
      show _ = _
      have a1 : ¬ x.op = 1 := by simpa using e1
      have a2 : ¬ x.op = 2 := by simpa using e2
      have a4 : ¬ x.op = 4 := by simpa using e4
      have a6 : ¬ x.op = 6 := by simpa using e6
      have a7 : ¬ x.op = 7 := by simpa using e7
      have a10 : ¬ x.op = 10 := by simpa using e10
      unfold wrM wrL
      rw [if_neg (by omega)]; rfl
    go_enter Tryd.func73, Tryd.ntmps73
    go_wp2_with (first | rw [HW.out] | fail)
    go_ret
    exact SetB.of HE.out HB.out

/-- Whether an instruction does nothing but write a register. -/
def onlyW (x : Ins) : Bool := x.op == 1 || x.op == 2 || x.op == 6 || x.op == 7

set_option maxRecDepth 100000 in
set_option maxHeartbeats 4000000 in
/-- **onlyWrites.** -/
theorem onlyW_one {nv na : Nat} (x : Ins) (w : World) (hx : InsT nv na x) :
    Calls Tryd.prog 137 #[aggI x] w (YN (onlyW x) w) := by
  obtain ⟨W, hW⟩ : ∃ W, w.alloc (.cells (arrI x) 50) = W := ⟨_, rfl⟩
  have hB : Below w.heap.size w W := by rw [← hW]; exact (Below.refl _ w).alloc (Nat.le_refl _) _
  have hbx : W.heap[w.heap.size]? = some (.cells (arrI x) 50 (0, 0)) := by rw [← hW]; exact heap_alloc_new w _
  have x0 : W.cell? ⟨w.heap.size, 0, none⟩ = some (.int .i64 x.op) := by rw [cell_at hbx]; rfl
  have x1 : W.cell? ⟨w.heap.size, 1, none⟩ = some (.int .i64 x.fa) := by rw [cell_at hbx]; rfl
  have x2 : W.cell? ⟨w.heap.size, 2, none⟩ = some (.int .i64 x.fb) := by rw [cell_at hbx]; rfl
  have x3 : W.cell? ⟨w.heap.size, 3, none⟩ = some (.int .i64 x.fc) := by rw [cell_at hbx]; rfl
  have x4 : W.cell? ⟨w.heap.size, 4, none⟩ = some (.int .i64 x.fd) := by rw [cell_at hbx]; rfl
  have HX := Lib.hid hx
  have HW := Lib.hid hW
  have HB := Lib.hid hB
  clear hx hW hB hbx
  unfold arrI at HW
  have hops : x.op = 1 ∨ x.op = 2 ∨ x.op = 6 ∨ x.op = 7 ∨ ((x.op == 1) = false ∧ (x.op == 2) = false ∧ (x.op == 6) = false ∧ (x.op == 7) = false) := by
    simp only [beq_eq_false_iff_ne]
    omega
  rcases hops with ho | ho | ho | ho | ⟨e1, e2, e6, e7⟩
  · have HE : Hid (true = onlyW x) := by show _ = _; unfold onlyW; rw [ho]; rfl
    have e1 : (x.op == 1) = true := by simpa using ho
    clear ho
    go_enter Tryd.func137, Tryd.ntmps137
    go_wp2_with (first | rw [HW.out] | fail)
    go_ret
    exact YN.of HE.out HB.out
  · have HE : Hid (true = onlyW x) := by show _ = _; unfold onlyW; rw [ho]; rfl
    have e1 : (x.op == 1) = false := by rw [ho]; rfl
    have e2 : (x.op == 2) = true := by simpa using ho
    clear ho
    go_enter Tryd.func137, Tryd.ntmps137
    go_wp2_with (first | rw [HW.out] | fail)
    go_ret
    exact YN.of HE.out HB.out
  · have HE : Hid (true = onlyW x) := by show _ = _; unfold onlyW; rw [ho]; rfl
    have e1 : (x.op == 1) = false := by rw [ho]; rfl
    have e2 : (x.op == 2) = false := by rw [ho]; rfl
    have e6 : (x.op == 6) = true := by simpa using ho
    clear ho
    go_enter Tryd.func137, Tryd.ntmps137
    go_wp2_with (first | rw [HW.out] | fail)
    go_ret
    exact YN.of HE.out HB.out
  · have HE : Hid (true = onlyW x) := by show _ = _; unfold onlyW; rw [ho]; rfl
    have e1 : (x.op == 1) = false := by rw [ho]; rfl
    have e2 : (x.op == 2) = false := by rw [ho]; rfl
    have e6 : (x.op == 6) = false := by rw [ho]; rfl
    have e7 : (x.op == 7) = true := by simpa using ho
    clear ho
    go_enter Tryd.func137, Tryd.ntmps137
    go_wp2_with (first | rw [HW.out] | fail)
    go_ret
    exact YN.of HE.out HB.out
  · have HE : Hid (false = onlyW x) := by show _ = _; unfold onlyW; rw [e1, e2, e6, e7]; rfl
    go_enter Tryd.func137, Tryd.ntmps137
    go_wp2_with (first | rw [HW.out] | fail)
    go_ret
    exact YN.of HE.out HB.out

end Go.Proofs.YtbifbmpflhdijaaDoor

namespace Go.Proofs.YtbifbmpflhdijaaDoor
open Go.RowKit
set_option linter.unusedVariables false

/-- A list of masks in blocks of D. -/
def RsAt (w : World) (D : Nat → Prop) (rs : List Nat) (a : Option Addr) : Prop := ∀ (i m : Nat), rs[i]? = some m → ∃ b o, a = some ⟨b, o, none⟩ ∧ D b ∧ w.cell? ⟨b, o + i, none⟩ = some (.int .u16 (m : Int))
theorem RsAt.wide {w w' : World} {D D' : Nat → Prop} {rs : List Nat} {a : Option Addr} (h : RsAt w D rs a) (hb : ∀ k, D k → w'.heap[k]? = w.heap[k]?) (hl : ∀ k, D k → D' k) : RsAt w' D' rs a := fun i m hm => by
  obtain ⟨b, o, ha, hd, h0⟩ := h i m hm
  exact ⟨b, o, ha, hl b hd, (World.cell?_of_block (w := w) (hb b hd)).trans h0⟩

end Go.Proofs.YtbifbmpflhdijaaDoor

namespace Go.Proofs.YtbifbmpflhdijaaDoor
open Go.RowKit
set_option linter.unusedVariables false

set_option maxRecDepth 100000 in
set_option maxHeartbeats 2000000 in
/-- **registersOf.** -/
theorem regOf_one (r : List Bool) (a : Option Addr) (c : Nat) (w : World) {D : Nat → Prop} (h : BAt w D r a) (hn : r.length = 14) :
    Calls Tryd.prog 63 #[.slice a 14 c] w (fun e w' => e = .returned (.int .u16 (regN r 14 : Int)) ∧ w' = w) := by
  have H := Lib.hid h
  have HN := Lib.hid hn
  clear h hn
  go_enter Tryd.func63, Tryd.ntmps63
  go_wp2_with fail
  go_loopw [3, 8] (fun s i wr => ∃ k : Nat, k ≤ 14 ∧ i = .int .i64 (k : Int) ∧ s = .int .u16 (regN r k : Int) ∧ wr = w) (fun _ i _ => 14 - (intOf i).toNat)
  case atStart => exact ⟨0, by omega, rfl, rfl, by first | rfl | trivial⟩
  case round =>
    obtain ⟨k, hk, rfl, rfl, rfl⟩ := hrel
    by_cases hlt : k < 14
    · obtain ⟨x, hx⟩ : ∃ x, r[k]? = some x := ⟨r[k]'(by rw [HN.out]; exact hlt), List.getElem?_eq_getElem _⟩
      obtain ⟨b, o, rfl, _, e0⟩ := H.out.2 k x hx
      have HS : Hid (regN r (k + 1) = sb (regN r k) k x) := by
        show sb (regN r k) k (r.getD k false) = _
        rw [List.getD_eq_getElem?_getD, hx]; rfl
      obtain ⟨m, hm⟩ : ∃ m, regN r k = m := ⟨_, rfl⟩
      have hlm : m < 32768 := by rw [← hm]; exact regN_lt r k (by omega)
      have HM := Lib.hid hm
      rw [hm] at HS ⊢
      have HW := Lib.hid (with_one m k x wr hlm hlt)
      clear hx hm H
      go_wp2_with fail
      refine HW.out.mono ?_
      rintro e w2 ⟨rfl, hw2⟩
      subst hw2
      rw [← HS.out]
      go_wp2_with fail
      go_roundw
      case rel => exact ⟨k + 1, by omega, by go_num, rfl, by first | rfl | trivial⟩
      case measure => simp [intOf]; omega
    · obtain rfl : k = 14 := by omega
      clear H
      go_wp2_with fail
      go_ret
      exact ⟨rfl, rfl⟩

theorem covn_no {mj af : Nat} (hm : mj < 32768) (ha : af < 32768) (h : Sub af mj) : (bits .andNot .u16 (af : Int) (mj : Int) != 0) = false := by
  rw [u16_andNot_nat af mj (by omega) (by omega), (sub_iff hm ha).2 h]; rfl
theorem covn_yes {mj af : Nat} (hm : mj < 32768) (ha : af < 32768) (h : ¬ Sub af mj) : (bits .andNot .u16 (af : Int) (mj : Int) != 0) = true := by
  rw [u16_andNot_nat af mj (by omega) (by omega)]
  have h1 : af &&& (65535 - mj) ≠ 0 := fun e => h ((sub_iff hm ha).1 e)
  simp; omega

end Go.Proofs.YtbifbmpflhdijaaDoor

namespace Go.Proofs.YtbifbmpflhdijaaDoor
open Go.RowKit
set_option linter.unusedVariables false

abbrev arrL (la ra : Option Addr) (n lc rc : Nat) : Array Value := #[.slice la n lc, .slice ra n rc]
/-- The rows of masks are small. -/
def Lt14 (ms : List Nat) : Prop := ∀ (i m : Nat), ms[i]? = some m → m < 16384

set_option maxRecDepth 100000 in
set_option maxHeartbeats 4000000 in
/-- **after.** -/
theorem lafter_one (l : List Ins) (ms : List Nat) (la ra : Option Addr) (n lc rc i : Nat) (x : Ins) (w : World) (h : NAt w (fun b => b < w.heap.size) l la) (hn : l.length = n) (hok : Okc l) (hr : RsAt w (fun b => b < w.heap.size) ms ra) (hmn : ms.length = n) (hlt : Lt14 ms) (hx : l[i]? = some x) :
    Calls Tryd.prog 122 #[.agg (arrL la ra n lc rc), .int .i64 (i : Int)] w (SetB (orT (fT ms) 0 (folN x i)) w) := by
  obtain ⟨W, hW⟩ : ∃ W, w.alloc (.cells (arrL la ra n lc rc) 62) = W := ⟨_, rfl⟩
  have hB : Below w.heap.size w W := by rw [← hW]; exact (Below.refl _ w).alloc (Nat.le_refl _) _
  have hbx : W.heap[w.heap.size]? = some (.cells (arrL la ra n lc rc) 62 (0, 0)) := by rw [← hW]; exact heap_alloc_new w _
  have x0 : W.cell? ⟨w.heap.size, 0, none⟩ = some (.slice la n lc) := by rw [cell_at hbx]; rfl
  have HF := Lib.hid (fol_one l la n lc i x W (h.below hB) hn hok hx)
  have HR : Hid (∀ v, Below W.heap.size W v → v.cell? ⟨w.heap.size, 1, none⟩ = some (.slice ra n rc) ∧ RsAt v (fun b => b < v.heap.size) ms ra) := fun v hv => by
    refine ⟨?_, hr.wide (fun k hk => (hB.trans (hv.mono hB.size)).block k hk) fun k hk => Nat.lt_of_lt_of_le hk (hB.trans (hv.mono hB.size)).size⟩
    rw [cell_at ((hv.block _ (Array.getElem?_eq_some_iff.1 hbx).1).trans hbx)]; rfl
  have HT : Hid (∀ t, t ∈ folN x i → ∃ mt, ms[t]? = some mt ∧ mt < 16384) := fun t ht => by
    have h1 := hok.fol hx ht
    have e := List.getElem?_eq_getElem (l := ms) (i := t) (by rw [hmn, ← hn]; exact h1)
    exact ⟨_, e, hlt t _ e⟩
  have HTN : Hid (∀ t, t ∈ folN x i → t < n) := fun t ht => by rw [← hn]; exact hok.fol hx ht
  have hfl := folN_len x i
  have HW := Lib.hid hW
  have HB := Lib.hid hB
  clear h hn hok hr hmn hlt hx hW hB hbx
  unfold arrL at HW
  go_enter Tryd.func122, Tryd.ntmps122
  go_wp2_with (first | rw [HW.out] | fail)
  refine HF.out.mono ?_
  rintro e w1 ⟨fa, fc, rfl, hown, hb1⟩
  obtain ⟨fl, hfl'⟩ : ∃ fl, folN x i = fl := ⟨_, rfl⟩
  have HFL := Lib.hid hfl'
  obtain ⟨fa', fc', hfe, hfat⟩ := hown.iat
  cases hfe
  rw [natI_len]
  rw [hfl'] at hfat hfl HT HTN ⊢
  obtain ⟨rl, hrl⟩ : ∃ rl, fl.length = rl := ⟨_, rfl⟩
  rw [hrl] at hfl ⊢
  have HRL := Lib.hid hrl
  have HFA := Lib.hid hfat
  have hrr := HR.out w1 hb1
  have y1 := hrr.1
  have HRS := Lib.hid hrr.2
  have HB1 : Hid (Below w.heap.size w w1) := HB.out.trans (hb1.mono HB.out.size)
  clear hown hfat hrr HR HF HB hb1 x0 hfl' hrl
  go_wp2_with fail
  go_loopw [5, 13] (fun s p wr => ∃ k : Nat, k ≤ rl ∧ p = .int .i64 (k : Int) ∧ s = .int .u16 (orT (fT ms) 0 (fl.take k) : Int) ∧ orT (fT ms) 0 (fl.take k) < 16384 ∧ wr = w1) (fun _ p _ => rl - (intOf p).toNat)
  case atStart => exact ⟨0, by omega, rfl, rfl, by simp [orT], by first | rfl | trivial⟩
  case round =>
    obtain ⟨k, hk, rfl, rfl, hmk, rfl⟩ := hrel
    by_cases hlt : k < rl
    · obtain ⟨t, ht⟩ : ∃ t, fl[k]? = some t := ⟨fl[k]'(by rw [HRL.out]; exact hlt), List.getElem?_eq_getElem _⟩
      have hmem := List.mem_of_getElem? ht
      obtain ⟨mt, hmt, hmtl⟩ := HT.out t hmem
      have htn := HTN.out t hmem
      obtain ⟨g, go, rfl, _, cg⟩ := HFA.out.2 k (by rw [natI_len, HRL.out]; exact hlt)
      rw [natI_at ht] at cg
      obtain ⟨b, o, rfl, _, cr⟩ := HRS.out t mt hmt
      have HS : Hid (orT (fT ms) 0 (fl.take (k + 1)) = orT (fT ms) 0 (fl.take k) ||| mt) := by
        have happ : ∀ (L : List Nat) (a : Nat), orT (fT ms) a (L ++ [t]) = orT (fT ms) a L ||| fT ms t := fun L => by
          induction L with
          | nil => intro a; rfl
          | cons q L ih => intro a; exact ih _
        show _ = _
        rw [List.take_add_one, ht]
        exact (happ _ _).trans (by rw [fT_at hmt])
      obtain ⟨m, hm⟩ : ∃ m, orT (fT ms) 0 (fl.take k) = m := ⟨_, rfl⟩
      rw [hm] at HS hmk ⊢
      have hor : bits .or .u16 (m : Int) (mt : Int) = ((m ||| mt : Nat) : Int) := u16_or_nat m mt (by omega) (by omega)
      have hnew : m ||| mt < 16384 := or_lt14 hmk hmtl
      rw [← HS.out] at hor hnew
      obtain ⟨z, hz⟩ : ∃ z, orT (fT ms) 0 (fl.take (k + 1)) = z := ⟨_, rfl⟩
      rw [hz] at hor hnew
      have HZ := Lib.hid hz
      have htI : (t : Int) < n := by omega
      clear ht hmem hmt hm HS HFA HRS HT HTN hz
      go_wp2_with fail
      go_roundw
      case rel => exact ⟨k + 1, by omega, by go_num, by rw [HZ.out], by rw [HZ.out]; exact hnew, by first | rfl | trivial⟩
      case measure => simp [intOf]; omega
    · obtain rfl : k = rl := by omega
      have HTK : Hid (fl.take k = fl) := List.take_of_length_le (by rw [HRL.out]; exact Nat.le_refl _)
      clear HFA HRS HT HTN
      go_wp2_with fail
      rw [HTK.out]
      go_ret
      exact ⟨by show Ending.returned (Value.int .u16 ((orT (fT ms) 0 fl : Nat) : Int)) = _; rw [HFL.out], HB1.out⟩

set_option maxRecDepth 100000 in
set_option maxHeartbeats 4000000 in
/-- **needed.** -/
theorem needed_one {nv na : Nat} (l : List Ins) (ms : List Nat) (la ra : Option Addr) (n lc rc i : Nat) (x : Ins) (w : World) (h : NAt w (fun b => b < w.heap.size) l la) (hn : l.length = n) (hok : Okc l) (hr : RsAt w (fun b => b < w.heap.size) ms ra) (hmn : ms.length = n) (hlt : Lt14 ms) (hx : l[i]? = some x) (hxt : InsT nv na x) :
    Calls Tryd.prog 94 #[.agg (arrL la ra n lc rc), .int .i64 (i : Int)] w (SetB (ned (fT ms) i x) w) := by
  obtain ⟨W0, hW0⟩ : ∃ W0, w.alloc (.cells (arrL la ra n lc rc) 62) = W0 := ⟨_, rfl⟩
  have hz0 : W0.heap.size = w.heap.size + 1 := by rw [← hW0]; simp
  have hB0 : Below w.heap.size w W0 := by rw [← hW0]; exact (Below.refl _ w).alloc (Nat.le_refl _) _
  have hbx : W0.heap[w.heap.size]? = some (.cells (arrL la ra n lc rc) 62 (0, 0)) := by rw [← hW0]; exact heap_alloc_new w _
  have x0 : W0.cell? ⟨w.heap.size, 0, none⟩ = some (.slice la n lc) := by rw [cell_at hbx]; rfl
  obtain ⟨b, o, rfl, hbl, e0, e1, e2, e3, e4⟩ := (h.below hB0).2 i x hx
  have hin : i < n := by rw [← hn]; exact (List.getElem?_eq_some_iff.1 hx).1
  have hinI : (i : Int) < n := by omega
  obtain ⟨W, hW⟩ : ∃ W, W0.alloc (.cells (arrI x) 50) = W := ⟨_, rfl⟩
  have hB : Below w.heap.size w W := by rw [← hW]; exact hB0.alloc hB0.size _
  have hbx1 : W.heap[w.heap.size]? = some (.cells (arrL (some ⟨b, o, none⟩) ra n lc rc) 62 (0, 0)) := by rw [← hW, Below.heap_alloc _ _ _ (by omega)]; exact hbx
  have hby : W.heap[W0.heap.size]? = some (.cells (arrI x) 50 (0, 0)) := by
    have h1 := heap_alloc_new W0 (.cells (arrI x) 50)
    rw [← hW]; exact h1
  have HSB : Hid (∀ v, Below W.heap.size W v → v.cell? ⟨w.heap.size, 0, none⟩ = some (.slice (some ⟨b, o, none⟩) n lc) ∧ v.cell? ⟨w.heap.size, 1, none⟩ = some (.slice ra n rc) ∧ v.cell? ⟨W0.heap.size, 0, none⟩ = some (.int .i64 x.op) ∧ v.cell? ⟨W0.heap.size, 1, none⟩ = some (.int .i64 x.fa) ∧ v.cell? ⟨W0.heap.size, 2, none⟩ = some (.int .i64 x.fb) ∧ v.cell? ⟨W0.heap.size, 3, none⟩ = some (.int .i64 x.fc) ∧ v.cell? ⟨W0.heap.size, 4, none⟩ = some (.int .i64 x.fd)) := fun v hv => by
    have h1 := (hv.block _ (Array.getElem?_eq_some_iff.1 hbx1).1).trans hbx1
    have h2 := (hv.block _ (Array.getElem?_eq_some_iff.1 hby).1).trans hby
    exact ⟨(by rw [cell_at h1]; rfl), (by rw [cell_at h1]; rfl), (by rw [cell_at h2]; rfl), (by rw [cell_at h2]; rfl), (by rw [cell_at h2]; rfl), (by rw [cell_at h2]; rfl), (by rw [cell_at h2]; rfl)⟩
  have HA : Hid (∀ v, Below W.heap.size W v → Calls Tryd.prog 122 #[.agg #[.slice (some ⟨b, o, none⟩) n lc, .slice ra n rc], .int .i64 (i : Int)] v (SetB (orT (fT ms) 0 (folN x i)) v)) := fun v hv =>
    have hb := hB.trans (hv.mono hB.size)
    lafter_one l ms _ ra n lc rc i x v (h.below hb) hn hok (hr.wide (fun k hk => hb.block k hk) fun k hk => Nat.lt_of_lt_of_le hk hb.size) hmn hlt hx
  have HRD := Lib.hid (fun v => reads_one x v hxt)
  have HWR := Lib.hid (fun v => writes_one x v hxt)
  have hal : orT (fT ms) 0 (folN x i) < 16384 := orT_lt _ _ _ (by omega) fun t _ => fT_lt hlt t
  have hwl := wrM_lt hxt
  have hrl := rdM_lt hxt
  have hnl := and_lt14 (65535 - wrM x) hal
  have han : bits .andNot .u16 (orT (fT ms) 0 (folN x i) : Int) (wrM x : Int) = ((orT (fT ms) 0 (folN x i) &&& (65535 - wrM x) : Nat) : Int) := u16_andNot_nat _ _ (by omega) (by omega)
  have hor : bits .or .u16 (rdM x : Int) ((orT (fT ms) 0 (folN x i) &&& (65535 - wrM x) : Nat) : Int) = ((ned (fT ms) i x : Nat) : Int) := u16_or_nat _ _ (by omega) (by omega)
  obtain ⟨na', hna⟩ : ∃ q, (orT (fT ms) 0 (folN x i) &&& (65535 - wrM x)) = q := ⟨_, rfl⟩
  rw [hna] at han hor
  obtain ⟨af, haf⟩ : ∃ q, orT (fT ms) 0 (folN x i) = q := ⟨_, rfl⟩
  rw [haf] at han HA
  obtain ⟨nd, hnd⟩ : ∃ q, ned (fT ms) i x = q := ⟨_, rfl⟩
  rw [hnd] at hor ⊢
  obtain ⟨rd, hrd⟩ : ∃ q, rdM x = q := ⟨_, rfl⟩
  rw [hrd] at hor HRD
  obtain ⟨wm, hwm⟩ : ∃ q, wrM x = q := ⟨_, rfl⟩
  rw [hwm] at han HWR
  have HW0 := Lib.hid hW0
  have HW := Lib.hid hW
  have HB := Lib.hid hB
  clear h hn hok hr hmn hlt hx hxt hW0 hW hB hB0 hbx hbx1 hby hbl hal hwl hrl hnl hna haf hnd hrd hwm hz0
  unfold arrL at HW0
  unfold arrI at HW
  go_enter Tryd.func94, Tryd.ntmps94
  go_wp2_with (first | rw [HW0.out] | rw [HW.out] | fail)
  have HBD : Below W.heap.size W W.drew := (Below.refl _ W).drew
  have hS0 := HSB.out W.drew HBD
  clear x0 e0 e1 e2 e3 e4
  try rw [HW.out]
  go_region_held3 (fun v => v.cell? ⟨w.heap.size, 0, none⟩ = some (.slice (some ⟨b, o, none⟩) n lc) ∧ v.cell? ⟨w.heap.size, 1, none⟩ = some (.slice ra n rc) ∧ v.cell? ⟨W0.heap.size, 0, none⟩ = some (.int .i64 x.op) ∧ v.cell? ⟨W0.heap.size, 1, none⟩ = some (.int .i64 x.fa) ∧ v.cell? ⟨W0.heap.size, 2, none⟩ = some (.int .i64 x.fb) ∧ v.cell? ⟨W0.heap.size, 3, none⟩ = some (.int .i64 x.fc) ∧ v.cell? ⟨W0.heap.size, 4, none⟩ = some (.int .i64 x.fd)) (first | (with_reducible assumption) | (with_reducible exact hS0))
    (first
    | (go_at_call 72; (with_reducible refine (HRD.out _).mono ?_)
       rintro e w2 ⟨rfl, hb2⟩
       have hB2 : Below W.heap.size W w2 := HBD.trans (hb2.mono HBD.size)
       have hS2 := HSB.out w2 hB2)
    | (go_at_call 122; (with_reducible refine (HA.out w2 hB2).mono ?_)
       rintro e w3 ⟨rfl, hb3⟩
       have hB3 : Below W.heap.size W w3 := hB2.trans (hb3.mono hB2.size)
       have hS3 := HSB.out w3 hB3)
    | (go_at_call 73; (with_reducible refine (HWR.out _).mono ?_)
       rintro e w4 ⟨rfl, hb4⟩
       have hB4 : Below W.heap.size W w4 := hB3.trans (hb4.mono hB3.size)
       have hS4 := HSB.out w4 hB4)
    | fail)
  go_wp2_with fail
  go_ret
  exact SetB.of rfl (HB.out.trans (hB4.mono HB.out.size))

end Go.Proofs.YtbifbmpflhdijaaDoor

namespace Go.Proofs.YtbifbmpflhdijaaDoor
open Go.RowKit
set_option linter.unusedVariables false

abbrev u16V (m : Nat) : Value := .int .u16 (m : Int)
theorem Tryd.infoRg : (Tryd.prog.info? 65).map (fun i => (i.zero, i.size, i.bytes)) = some (some (.int .u16 0), 1, 2) := by kernel_rfl
theorem rsAt_own {w : World} {base n cap : Nat} {a : Option Addr} {ms : List Nat} (h : w.ownsRow base 65 1 (.slice a n cap) n (ms.map u16V)) (hn : ms.length = n) : RsAt w (fun b => b < w.heap.size) ms a := fun i m hm => by
  have hi : i < ms.length := (List.getElem?_eq_some_iff.1 hm).1
  rcases h.2 with ⟨e, e2⟩ | ⟨g, cp, cur, e, hb, hg, _⟩
  · omega
  · injection e with e1 e2 e3
    subst e1
    refine ⟨g, 0, rfl, (Array.getElem?_eq_some_iff.1 hg).1, ?_⟩
    rw [Nat.zero_add, h.cellAt i (by omega), List.getElem?_map, hm]; rfl
theorem ownsRow_far1 {w w' : World} {base : Nat} {e : TypeId} {size n : Nat} {v : Value} {xs : List Value} (h : w.ownsRow base e size v n xs) (hs : ∀ g, v.ownBlock = some g → g < w.heap.size → w'.heap[g]? = w.heap[g]?) : w'.ownsRow base e size v n xs := by
  refine ⟨h.1, ?_⟩
  rcases h.2 with e | ⟨g, cp, cur, rfl, e2, e3, e4⟩
  · exact .inl e
  · exact .inr ⟨g, cp, cur, rfl, e2, (hs g rfl (Array.getElem?_eq_some_iff.1 e3).1).trans e3, e4⟩

end Go.Proofs.YtbifbmpflhdijaaDoor

namespace Go.Proofs.YtbifbmpflhdijaaDoor
set_option linter.unusedVariables false

/-- The least measure. -/
theorem least_ex {P : Nat → Prop} (h : ∃ m, P m) : ∃ m, P m ∧ ∀ k, P k → m ≤ k := by
  obtain ⟨m, hm⟩ := h
  induction m using Nat.strongRecOn with
  | ind m ih =>
    by_cases h1 : ∃ k, k < m ∧ P k
    · obtain ⟨k, hk, hp⟩ := h1
      exact ih k hk hp
    · exact ⟨m, hm, fun k hk => Nat.le_of_not_lt fun hlt => h1 ⟨k, hlt, hk⟩⟩
theorem mu_ex {σ : Type} (R : σ → Nat → Prop) : ∃ mu : σ → Nat, ∀ s, (∃ m, R s m) → R s (mu s) ∧ ∀ k, R s k → mu s ≤ k := by
  refine ⟨fun s => @dite _ (∃ m, R s m) (Classical.propDecidable _) (fun h => Classical.choose (least_ex h)) (fun _ => 0), fun s h => ?_⟩
  simp only [h, dite_true]
  exact Classical.choose_spec (least_ex h)

end Go.Proofs.YtbifbmpflhdijaaDoor

namespace Go.Proofs.YtbifbmpflhdijaaDoor
open Go.RowKit
set_option linter.unusedVariables false

theorem regsLp (n : Nat) : (madeCells (Value.int .u16 0).cells (n * 1)).toList = (List.replicate n 0).map u16V := by
  rw [Nat.mul_one, List.map_replicate]
  exact toList_madeCells_one _ _
theorem rowI_pop {w : World} {base g k vc : Nat} {q : List Nat} {p : Nat} (h : w.ownsRow base 3 1 (.slice (some ⟨g, 0, none⟩) (k + 1) vc) (k + 1) ((natI (q ++ [p])).map (Value.int .i64))) (hk : q.length = k) : w.ownsRow base 3 1 (.slice (some ⟨g, 0, none⟩) k vc) k ((natI q).map (Value.int .i64)) := by
  have h2 := ownsRow_prefix h k (by omega)
  have e : ((natI (q ++ [p])).map (Value.int .i64)).take (k * 1) = (natI q).map (Value.int .i64) := by
    rw [natI_app, List.map_append, Nat.mul_one]
    exact List.take_left' (by rw [List.length_map, natI_len, hk])
  rw [e] at h2
  exact h2
theorem rowI_news {w : World} {base n c : Nat} {a : Option Addr} {r : List Nat} (h : w.ownsRow base 3 1 (.slice a n c) n ((natI r).map (Value.int .i64))) (hn : r.length = n) : NewsAt w a n ((natI r).map (Value.int .i64)) := by
  have h1 : OwnI w base (.slice a n c) (natI r) := by unfold OwnI; rw [natI_len, hn]; exact h
  obtain ⟨a', c', e, hat⟩ := h1.iat
  rw [natI_len, hn] at e
  cases e
  have h2 := hat.slice
  rw [natI_len, hn] at h2
  exact NewsAt.ints h2
/-- The state of the first loop. -/
def LpQ (Q n : Nat) (WQ : World) (wv i : Value) (U : World) : Prop := ∃ (j : Nat) (a : Option Addr) (c : Nat), j ≤ n ∧ i = .int .i64 (j : Int) ∧ wv = .slice a j c ∧ U.ownsRow Q 3 1 (.slice a j c) j ((natI (List.range j)).map (Value.int .i64)) ∧ Below Q WQ U
/-- What all rounds keep: whatever lies below Q, but for the rows. -/
def LpK (R Q : Nat) (w WQ U : World) : Prop := (∀ g, g < Q → g ≠ R → U.heap[g]? = WQ.heap[g]?) ∧ Below w.heap.size w U ∧ Q ≤ U.heap.size
theorem LpK.below {R Q : Nat} {w WQ U U' : World} (h : LpK R Q w WQ U) (hb : Below U.heap.size U U') : LpK R Q w WQ U' := ⟨fun g h1 h2 => (hb.block g (Nat.lt_of_lt_of_le h1 h.2.2)).trans (h.1 g h1 h2), h.2.1.trans (hb.mono h.2.1.size), Nat.le_trans h.2.2 hb.size⟩
/-- The rows of masks and the list of those that wait. -/
def LpR (ms ws : List Nat) (n R Q : Nat) (wv : Value) (U : World) : Prop := U.ownsRow R 65 1 (.slice (some ⟨R, 0, none⟩) n n) n (ms.map u16V) ∧ ∃ wa wc, wv = .slice wa ws.length wc ∧ U.ownsRow Q 3 1 (.slice wa ws.length wc) ws.length ((natI ws).map (Value.int .i64))
def LpM (l : List Ins) (n R Q : Nat) (w WQ : World) (s : Value × World) (mm : Nat) : Prop := ∃ ms ws, LW l ms ws ∧ LpR ms ws n R Q s.1 s.2 ∧ LpK R Q w WQ s.2 ∧ mm = 801 * (15 * n - pcS ms) + ws.length
/-- The least map, in new rows. -/
def LivN (l : List Ins) (la : Option Addr) (n lc : Nat) (w : World) (e : Ending) (w' : World) : Prop := ∃ R ms, e = .returned (.agg (arrL la (some ⟨R, 0, none⟩) n lc n)) ∧ IsL l ms ∧ w'.ownsRow w.heap.size 65 1 (.slice (some ⟨R, 0, none⟩) n n) n (ms.map u16V) ∧ Below w.heap.size w w'

set_option maxRecDepth 100000 in
set_option maxHeartbeats 8000000 in
/-- **leastLiveness.** -/
theorem least_one {nv na : Nat} (l : List Ins) (la : Option Addr) (n lc : Nat) (w : World) (h : NAt w (fun b => b < w.heap.size) l la) (hn : l.length = n) (hok : Okc l) (hit : ∀ (i : Nat) (x : Ins), l[i]? = some x → InsT nv na x) :
    Calls Tryd.prog 53 #[.slice la n lc] w (LivN l la n lc w) := by
  obtain ⟨i0, hi, hi0, hi1, hi2⟩ := info_parts Tryd.infoRg
  obtain ⟨j0, hj, hj0, hj1, hj2⟩ := info_parts Tryd.infoI
  have hle : n ≤ 400 := by rw [← hn]; exact hok.le
  obtain ⟨W, hW⟩ : ∃ W, w.alloc (.cells #[.slice none 0 0, .slice none 0 0] 62) = W := ⟨_, rfl⟩
  have hB : Below w.heap.size w W := by rw [← hW]; exact (Below.refl _ w).alloc (Nat.le_refl _) _
  have hz : w.heap.size < W.heap.size := by rw [← hW]; simp
  have hbx : W.heap[w.heap.size]? = some (.cells #[.slice none 0 0, .slice none 0 0] 62 (0, 0)) := by rw [← hW]; exact heap_alloc_new w _
  have HL := Lib.hid h
  have HN := Lib.hid hn
  have HO := Lib.hid hok
  have HIT := Lib.hid hit
  have HW := Lib.hid hW
  have HB := Lib.hid hB
  have HBX := Lib.hid hbx
  clear h hn hok hit hW hB hbx
  go_enter Tryd.func53, Tryd.ntmps53
  go_upto_region 2 with (first
    | rw [HW.out]
    | (at_make
       refine wpList_make_full _ rfl _ _ 60 rfl W.heap.size 65 i0 (.int .u16 0) 1 Tryd.underlying60 hi hi0 hi1 .i64 .i64 (n : Int) (n : Int) n rfl rfl rfl rfl (by rw [hi2]; omega) (by unfold maxLen; omega) (Nat.le_refl _) ?_
       intro w1 hown1 hgrow1
       rw [regsLp] at hown1)
    | fail)
  have hb1 : Below W.heap.size W w1 := (Below.refl _ W).grown hgrow1 (Nat.le_refl _) (fun k e => (by cases e))
  have hR1 := (hown1.lt W.heap.size rfl).2
  obtain ⟨w2, hw2⟩ : ∃ w2, w1.alloc (.cells #[.slice la n lc, .slice (some ⟨W.heap.size, 0, none⟩) n n] 62) = w2 := ⟨_, rfl⟩
  have hb12 : Below w1.heap.size w1 w2 := by rw [← hw2]; exact (Below.refl _ _).alloc (Nat.le_refl _) _
  have hz2 : w1.heap.size < w2.heap.size := by rw [← hw2]; simp
  have hbl2 : w2.heap[w1.heap.size]? = some (.cells #[.slice la n lc, .slice (some ⟨W.heap.size, 0, none⟩) n n] 62 (0, 0)) := by rw [← hw2]; exact heap_alloc_new w1 _
  have hbW2 : Below W.heap.size W w2 := hb1.trans (hb12.mono hb1.size)
  have hres2 := (hbW2.block _ (Array.getElem?_eq_some_iff.1 HBX.out).1).trans HBX.out
  have hB2 : Below w.heap.size w w2 := HB.out.trans (hbW2.mono HB.out.size)
  have hrow2 : w2.ownsRow W.heap.size 65 1 (.slice (some ⟨W.heap.size, 0, none⟩) n n) n ((List.replicate n 0).map u16V) := ownsRow_far hown1 fun g _ hl => hb12.block g hl
  obtain ⟨R, hR⟩ : ∃ R, W.heap.size = R := ⟨_, rfl⟩
  obtain ⟨B0, hB0⟩ : ∃ B, w1.heap.size = B := ⟨_, rfl⟩
  rw [hR] at hrow2 hbl2 hw2 hR1 hz
  rw [hB0] at hbl2 hz2 hR1
  rw [hR, hw2, hB0]
  have HPR := Lib.hid (callsIn_wide.1 (pred_in l la n lc w2 (HL.out.below hB2) HN.out HO.out))
  have HB2 := Lib.hid hB2
  have HROW2 := Lib.hid hrow2
  have HBL2 := Lib.hid hbl2
  have HRES2 := Lib.hid hres2
  clear hown1 hgrow1 hb1 hb12 hbW2 hB2 hrow2 hbl2 hres2 hw2 hR hB0 HW
  go_wp2_with fail
  refine HPR.out.mono ?_
  rintro e WQ ⟨C, vs, rfl, hii, hCl, hbQ⟩
  obtain ⟨Q, hQ⟩ : ∃ Q, WQ.heap.size = Q := ⟨_, rfl⟩
  have HII := Lib.hid hii
  have hzQ : w2.heap.size ≤ Q := by rw [← hQ]; exact hbQ.size
  have hCQ : C < Q := by rw [← hQ]; exact hii.ltC
  have HBL := Lib.hid ((hbQ.block _ (Array.getElem?_eq_some_iff.1 HBL2.out).1).trans HBL2.out)
  have HRES := Lib.hid ((hbQ.block _ (Array.getElem?_eq_some_iff.1 HRES2.out).1).trans HRES2.out)
  have HROWQ : Hid (WQ.ownsRow R 65 1 (.slice (some ⟨R, 0, none⟩) n n) n ((List.replicate n 0).map u16V)) := ownsRow_far HROW2.out fun g _ hl => hbQ.block g hl
  have HBQ : Hid (Below w.heap.size w WQ) := HB2.out.trans (hbQ.mono HB2.out.size)
  have HQ := Lib.hid hQ
  have HL0 : Hid (LpQ Q n WQ (.slice none 0 0) (.int .i64 0) WQ) := ⟨0, none, 0, Nat.zero_le _, rfl, rfl, by simpa [natI] using World.ownsRow_nil WQ Q 3 1, Below.refl _ _⟩
  clear hii hbQ hQ HPR HROW2 HBL2 HRES2 HB2
  go_wp2_with fail
  go_loopw [5, 19] (fun wv i U => LpQ Q n WQ wv i U) (fun _ i _ => n - (intOf i).toNat)
  case atStart => exact HL0.out
  case round =>
    obtain ⟨j, a, c, hj', rfl, rfl, hown, hb⟩ := hrel
    have HOWN := Lib.hid hown
    have HBR := Lib.hid hb
    have hzr : Q ≤ wr.heap.size := by rw [← HQ.out]; exact hb.size
    clear hown hb HL0
    by_cases hlt : j < n
    · obtain ⟨V3, hV3⟩ : ∃ V3, wr.alloc (.cells #[.int .i64 (j : Int)] 3) = V3 := ⟨_, rfl⟩
      have hz3 : V3.heap.size = wr.heap.size + 1 := by rw [← hV3]; simp
      have hblk : V3.heap[wr.heap.size]? = some (.cells #[.int .i64 (j : Int)] 3 (0, 0)) := by rw [← hV3]; exact heap_alloc_new wr _
      have hr3 : V3.ownsRow Q 3 1 (.slice a j c) j ((natI (List.range j)).map (Value.int .i64)) := by rw [← hV3]; exact HOWN.out.alloc _
      have HB3 : Hid (Below Q WQ V3) := by rw [← hV3]; exact HBR.out.alloc hzr _
      have HV3 := Lib.hid hV3
      clear hV3
      go_wp2_with (first
        | (at_builtin
           rw [HV3.out]
           refine wpList_append_lies _ (by rfl) _ _ 22 (by rfl) Q 3 j0 _ 1 8 Tryd.underlying22 hj hj0 hj1 hj2 rfl (by omega) (.slice a j c) j _ (by rfl) hr3 ⟨wr.heap.size, 0, none⟩ 1 1 _ (by rfl) (by rfl) (World.news_of_block hblk) (by simp [Value.oneCell']) (by omega) (by unfold maxLen; omega) (by omega) (by omega) (wr.heap.size + 1) (by omega) ?_
           intro g5 cp w5 hown5 hgrow hat5 hlt5
           have HREL : Hid (LpQ Q n WQ (.slice (some ⟨g5, 0, none⟩) (j + 1) cp) (.int .i64 ((j : Int) + 1)) w5) := ⟨j + 1, _, cp, hlt, by go_num, rfl, by rw [List.range_succ, natI_app, List.map_append]; exact hown5, HB3.out.grown hgrow (by omega) (fun t ht => (hr3.lt t ht).1)⟩
           clear hown5 hgrow hat5 hblk hr3)
        | fail)
      go_roundw
      case rel => exact HREL.out
      case measure => simp [intOf]; omega
    · obtain rfl : j = n := by omega
      obtain ⟨mu, hmu⟩ := mu_ex (σ := Value × World) (LpM l j R Q w WQ)
      have HMU := Lib.hid hmu
      have hKW : LpK R Q w WQ wr := ⟨fun g h1 _ => HBR.out.block g h1, HBQ.out.trans (HBR.out.mono (by have := HBQ.out.size; rw [HQ.out] at this; omega)), hzr⟩
      have hS0 : LpM l j R Q w WQ (.slice a j c, wr) (801 * (15 * j - pcS (List.replicate j 0)) + j) := by
        have h1 := LW.start l
        rw [HN.out] at h1
        refine ⟨List.replicate j 0, List.range j, h1, ⟨?_, a, c, by simp, by simpa using HOWN.out⟩, hKW, by simp⟩
        exact ownsRow_far HROWQ.out fun g hg _ => by
          cases hg
          exact HBR.out.block R (show R < Q by omega)
      have HREL0 : Hid (∃ mm, LpM l j R Q w WQ (.slice a j c, wr) mm) := ⟨_, hS0⟩
      obtain ⟨n, hnn⟩ : ∃ n, n = j := ⟨_, rfl⟩
      subst hnn
      clear hmu hKW hS0 HOWN HBR HROWQ
      go_wp2_with fail
      go_loopw [5] (fun wv U => ∃ mm, LpM l n R Q w WQ (wv, U) mm) (fun wv U => mu (wv, U))
      case atStart => exact HREL0.out
      case round =>
        obtain ⟨⟨ms, ws, hlw, ⟨hrow, wa, wc, hv, hwr⟩, hK, hm⟩, hmin⟩ := HMU.out (u5, wr) hrel
        simp only at hv hrow hwr hK
        have HLW := Lib.hid hlw
        have HROW := Lib.hid hrow
        have HK := Lib.hid hK
        have HM := Lib.hid hm
        have hml : ms.length = n := by rw [← HN.out]; exact hlw.lb.len
        have hresw : wr.heap[w.heap.size]? = some (.cells #[.slice none 0 0, .slice none 0 0] 62 (0, 0)) := (hK.1 _ (by omega) (by omega)).trans HRES.out
        have hblw : wr.heap[B0]? = some (.cells #[.slice la n lc, .slice (some ⟨R, 0, none⟩) n n] 62 (0, 0)) := (hK.1 _ (by omega) (by omega)).trans HBL.out
        have l0 : wr.cell? ⟨B0, 0, none⟩ = some (.slice la n lc) := by rw [cell_at hblw]; rfl
        have l1 : wr.cell? ⟨B0, 1, none⟩ = some (.slice (some ⟨R, 0, none⟩) n n) := by rw [cell_at hblw]; rfl
        subst hv
        clear hrel hlw hm hmin hK HREL0
        by_cases hz0 : ws.length = 0
        · have hw0 : ws = [] := List.eq_nil_of_length_eq_zero hz0
          subst hw0
          obtain ⟨r0, hr0⟩ := cell_ex hresw 0 (by simp)
          obtain ⟨r1, hr1⟩ := cell_ex hresw 1 (by simp)
          have f0 := frozen_at hresw 0
          have f1 := frozen_at hresw 1
          have HFIN : Hid (LivN l la n lc w (.returned (.agg #[.slice la n lc, .slice (some ⟨R, 0, none⟩) n n])) ((wr.setCell ⟨w.heap.size, 0, none⟩ (.slice la n lc)).setCell ⟨w.heap.size, 1, none⟩ (.slice (some ⟨R, 0, none⟩) n n))) := by
            refine ⟨R, ms, rfl, HLW.out.done, ?_, (HK.out.2.1.setCell (p := ⟨w.heap.size, 0, none⟩) (Nat.le_refl _) _).setCell (p := ⟨w.heap.size, 1, none⟩) (Nat.le_refl _) _⟩
            exact ownsRow_mono (ownsRow_far hrow fun g hg _ => by
              cases hg
              rw [Below.heap_setCell _ _ _ _ (show R ≠ w.heap.size by omega), Below.heap_setCell _ _ _ _ (show R ≠ w.heap.size by omega)]) (by omega)
          clear HM HMU HROW hrow hwr hresw hblw
          go_wp2_with fail
          exact bodyPost_ret (v := .agg #[.slice la n lc, .slice (some ⟨R, 0, none⟩) n n]) (by simp [results, Tryd.f53, go_sem, hr0, hr1]) rfl HFIN.out
        obtain ⟨k, hk⟩ : ∃ k, ws.length = k + 1 := ⟨ws.length - 1, by omega⟩
        obtain ⟨q, p, rfl⟩ : ∃ q p, ws = q ++ [p] := ⟨ws.dropLast, ws.getLast (by intro e; rw [e] at hz0; exact hz0 rfl), (List.dropLast_concat_getLast _).symm⟩
        have hqk : q.length = k := by rw [List.length_append] at hk; simpa using hk
        rw [hk] at hwr HM ⊢
        have hpn : p < n := by rw [← HN.out]; exact HLW.out.wt p (by simp)
        obtain ⟨x, hx⟩ : ∃ x, l[p]? = some x := ⟨l[p]'(by rw [HN.out]; exact hpn), List.getElem?_eq_getElem _⟩
        obtain ⟨m0, hm0⟩ : ∃ m0, ms[p]? = some m0 := ⟨ms[p]'(by rw [hml]; exact hpn), List.getElem?_eq_getElem _⟩
        have hpop : ∃ g, wa = some ⟨g, 0, none⟩ ∧ Q ≤ g ∧ k < wc := by
          rcases hwr.2 with ⟨e, _⟩ | ⟨g, cp, cur, e, hb, _, hnc, _⟩
          · cases e
          · cases e; exact ⟨g, rfl, hb, by omega⟩
        obtain ⟨g, rfl, hgQ, hkc⟩ := hpop
        have hwc : wr.cell? ⟨g, k, none⟩ = some (.int .i64 (p : Int)) := by
          rw [hwr.cellAt k (by omega), natI_app, List.map_append, List.getElem?_append_right (by rw [List.length_map, natI_len]; omega)]
          rw [List.length_map, natI_len, hqk, Nat.sub_self]; rfl
        have HPOP := Lib.hid (rowI_pop hwr hqk)
        -- the rows of those that come before
        obtain ⟨ai, ci, hvp, hin⟩ := HII.out.inn p _ (prF_at (edgN l n) hpn)
        obtain ⟨r, hr⟩ : ∃ r, prB (edgN l n) p = r := ⟨_, rfl⟩
        rw [hr] at hvp hin
        have hpb := prF_B HO.out
        rw [HN.out] at hpb
        have hgd : (prF (edgN l n) n).getD p [] = r := by rw [List.getD_eq_getElem?_getD, prF_at _ hpn, hr]; rfl
        have hr800 : r.length ≤ 800 := by rw [← hgd]; exact hpb.bd p
        have hiC : ∀ U, LpK R Q w WQ U → U.cell? ⟨C, p, none⟩ = some (.slice ai r.length ci) ∧ U.ownsRow w2.heap.size 3 1 (.slice ai r.length ci) r.length ((natI r).map (Value.int .i64)) := fun U hU => by
          refine ⟨?_, ownsRow_far hin fun g' hg' hl' => hU.1 g' (by rw [← HQ.out]; exact hl') (by have := (hin.lt g' hg').1; omega)⟩
          rw [World.cell?_of_block (w := WQ) (a := ⟨C, p, none⟩) (hU.1 C hCQ (by omega)), HII.out.row.cellAt p (by omega)]
          exact hvp
        obtain ⟨ri, hri⟩ : ∃ ri, r.length = ri := ⟨_, rfl⟩
        rw [hri] at hiC hr800
        have HIC := Lib.hid hiC
        -- what is needed
        have hnat : NAt wr (fun b => b < wr.heap.size) l la := HL.out.below HK.out.2.1
        have hrs := rsAt_own hrow hml
        have HND := Lib.hid (needed_one l ms la (some ⟨R, 0, none⟩) n lc n p x wr hnat HN.out HO.out hrs hml HLW.out.lb.lt hx (HIT.out p x hx))
        have hnl := HLW.out.lb.nlt (HIT.out p x hx) p
        have hft := fT_at hm0
        have hbd := HLW.out.bd
        rw [hk, HN.out] at hbd
        have hpc := pcS_bd HLW.out.lb
        rw [HN.out] at hpc
        obtain ⟨nd, hnd⟩ : ∃ nd, ned (fT ms) p x = nd := ⟨_, rfl⟩
        rw [hnd] at HND hnl
        have HNDV := Lib.hid hnd
        have HX := Lib.hid hx
        have HM0 := Lib.hid hm0
        have HFT := Lib.hid hft
        have HGD := Lib.hid hgd
        have HPB := Lib.hid hpb
        have HRI := Lib.hid hri
        have HQK := Lib.hid hqk
        have hml2 := HLW.out.lb.lt p m0 hm0
        clear hk hx hm0 hwr hvp hin hr hpb hgd hiC hri hnat hrs hft hnd hz0 hqk hresw
        unfold arrL at HND
        go_wp2_with fail
        refine HND.out.mono ?_
        rintro e w5 ⟨rfl, hb5⟩
        have HK5 : Hid (LpK R Q w WQ w5) := HK.out.below hb5
        have HROW5 : Hid (w5.ownsRow R 65 1 (.slice (some ⟨R, 0, none⟩) n n) n (ms.map u16V)) := ownsRow_far HROW.out fun g _ hl => hb5.block g hl
        have HPOP5 : Hid (w5.ownsRow Q 3 1 (.slice (some ⟨g, 0, none⟩) k wc) k ((natI q).map (Value.int .i64))) := ownsRow_far HPOP.out fun g _ hl => hb5.block g hl
        have hbl5 : w5.heap[B0]? = some (.cells #[.slice la n lc, .slice (some ⟨R, 0, none⟩) n n] 62 (0, 0)) := (HK5.out.1 _ (by omega) (by omega)).trans HBL.out
        have y1 : w5.cell? ⟨B0, 1, none⟩ = some (.slice (some ⟨R, 0, none⟩) n n) := by rw [cell_at hbl5]; rfl
        have y0 : w5.cell? ⟨B0, 0, none⟩ = some (.slice la n lc) := by rw [cell_at hbl5]; rfl
        have r5 : w5.cell? ⟨R, p, none⟩ = some (.int .u16 (m0 : Int)) := by
          rw [HROW5.out.cellAt p (by omega), List.getElem?_map, HM0.out]; rfl
        have rf5 := HROW5.out.frozenAt p
        have hpI : (p : Int) < n := by omega
        clear hb5 HND HROW HPOP HK l0 l1 hblw hrow hwc
        by_cases he : nd = m0
        · have hne : ((nd : Int) != (m0 : Int)) = false := by rw [he]; simp
          have hrel' : LpM l n R Q w WQ (.slice (some ⟨g, 0, none⟩) k wc, w5) (801 * (15 * n - pcS ms) + k) := ⟨ms, q, HLW.out.skip HX.out (by rw [HNDV.out, HFT.out]; exact he), ⟨HROW5.out, some ⟨g, 0, none⟩, wc, by rw [HQK.out], by rw [HQK.out]; exact HPOP5.out⟩, HK5.out, by rw [HQK.out]⟩
          have HREL := Lib.hid hrel'
          have HMS : Hid (mu (.slice (some ⟨g, 0, none⟩) k wc, w5) < 801 * (15 * n - pcS ms) + (k + 1)) := Nat.lt_of_le_of_lt ((HMU.out _ ⟨_, hrel'⟩).2 _ hrel') (by omega)
          clear hrel' he HLW HMU HROW5 HPOP5
          go_wp2_with fail
          go_roundw
          case rel => exact ⟨_, HREL.out⟩
          case measure => rw [HM.out]; exact HMS.out
        · have hne : ((nd : Int) != (m0 : Int)) = true := by simp; omega
          obtain ⟨W6, hW6⟩ : ∃ W6, w5.setCell ⟨R, p, none⟩ (.int .u16 (nd : Int)) = W6 := ⟨_, rfl⟩
          have hst : ∀ g, g ≠ R → W6.heap[g]? = w5.heap[g]? := fun g hg => by rw [← hW6]; exact Below.heap_setCell _ _ _ _ (by simpa using hg)
          have hz6 : W6.heap.size = w5.heap.size := by rw [← hW6]; simp [World.setCell]
          have HK6 : Hid (LpK R Q w WQ W6) := ⟨fun g h1 h2 => (hst g h2).trans (HK5.out.1 g h1 h2), by rw [← hW6]; exact HK5.out.2.1.setCell (p := ⟨R, p, none⟩) (show w.heap.size ≤ R by omega) _, by rw [hz6]; exact HK5.out.2.2⟩
          have HROW6 : Hid (W6.ownsRow R 65 1 (.slice (some ⟨R, 0, none⟩) n n) n ((ms.set p nd).map u16V)) := by
            have h1 := (HROW5.out.stored p (.int .u16 (nd : Int))).1
            rw [hW6] at h1
            rw [List.map_set]
            exact h1
          have hown6 : W6.ownsRow Q 3 1 (.slice (some ⟨g, 0, none⟩) k wc) k ((natI q).map (Value.int .i64)) := ownsRow_far HPOP5.out fun g' hg' _ => by
            cases hg'
            exact hst g (show g ≠ R by omega)
          obtain ⟨d0, d1⟩ := HIC.out W6 HK6.out
          have hnews := rowI_news d1 HRI.out
          have hQ6 := HK6.out.2.2
          have HW6 := Lib.hid hW6
          have HST := Lib.hid hst
          have hrl : R < W6.heap.size := by have := (HROW6.out.lt R rfl).2; exact this
          clear hW6 hst hz6 d1 HROW5 HPOP5
          go_wp2_with (first
            | rw [HW6.out]
            | (at_builtin
               try rw [HW6.out]
               refine wpList_append_any _ (by rfl) _ _ 22 (by rfl) Q 3 j0 _ 1 8 Tryd.underlying22 hj hj0 hj1 hj2 rfl (by omega) (.slice (some ⟨g, 0, none⟩) k wc) k _ (by rfl) hown6 ai ri ci _ (by rfl) (by simp [natI_len, HRI.out]) hnews (by simp [Value.oneCell']) (by unfold maxLen; omega) (by omega) (by omega) ?_
               intro v' w7 hap)
            | fail)
          obtain ⟨a7, c7, rfl, hown7, hgr7, hat7⟩ := hap
          have hlen : (q ++ r).length = k + ri := by rw [List.length_append, HQK.out, HRI.out]
          have hrel' : LpM l n R Q w WQ (.slice a7 (k + ri) c7, w7) (801 * (15 * n - pcS (ms.set p nd)) + (k + ri)) := by
            have hgr := HLW.out.grow HO.out HPB.out (HIT.out p x HX.out) HX.out HM0.out (by rw [HNDV.out]; exact he)
            rw [HNDV.out, HGD.out] at hgr
            have hbl : ∀ g', g' < Q → w7.heap[g']? = W6.heap[g']? := fun g' hg' => hgr7.block g' (by omega) fun e => by have e2 : g' = g := Option.some.inj e; omega
            refine ⟨ms.set p nd, q ++ r, hgr, ⟨ownsRow_far HROW6.out fun g' hg' _ => by cases hg'; exact hbl R (by omega), a7, c7, by rw [hlen], by rw [hlen, natI_app, List.map_append]; exact hown7⟩, ⟨fun g' h1 h2 => (hbl g' h1).trans (HK6.out.1 g' h1 h2), HK6.out.2.1.grown hgr7 (by omega) (fun t ht => (by have e2 : g = t := Option.some.inj ht; omega)), Nat.le_trans hQ6 hgr7.size⟩, by rw [hlen]⟩
          have HREL := Lib.hid hrel'
          have HMS : Hid (mu (.slice a7 (k + ri) c7, w7) < 801 * (15 * n - pcS ms) + (k + 1)) := by
            have h1 := (HMU.out _ ⟨_, hrel'⟩).2 _ hrel'
            have h2 := HLW.out.lb.more (HIT.out p x HX.out) HX.out HM0.out (by rw [HNDV.out]; exact he)
            rw [HNDV.out] at h2
            have h3 := pcS_bd (HLW.out.lb.set HO.out (HIT.out p x HX.out) HX.out)
            rw [HNDV.out, HN.out] at h3
            exact Nat.lt_of_le_of_lt h1 (by omega)
          clear hrel' he HLW HMU hown7 hgr7 hat7 hlen hown6 hnews
          go_wp2_with fail
          go_roundw
          case rel => exact ⟨_, HREL.out⟩
          case measure => rw [HM.out]; exact HMS.out

end Go.Proofs.YtbifbmpflhdijaaDoor

namespace Go.Proofs.YtbifbmpflhdijaaDoor
open Go.RowKit
set_option linter.unusedVariables false

theorem OwnB.monoB {w : World} {base base' : Nat} {v : Value} {bs : List Bool} (h : OwnB w base v bs) (hb : base' ≤ base) : OwnB w base' v bs := by
  refine ⟨h.1, ?_⟩
  rcases h.2 with e | ⟨g, cp, cur, e1, e2, e3, e4⟩
  · exact .inl e
  · exact .inr ⟨g, cp, cur, e1, Nat.le_trans hb e2, e3, e4⟩

structure OwBB (w : World) (base : Nat) (rs : List (List Bool)) (a : Option Addr) (n c : Nat) (vs : List Value) : Prop where
  len : rs.length = n
  row : w.ownsRow base 47 1 (.slice a n c) n vs
  inn : ∀ (i : Nat) (r : List Bool), rs[i]? = some r → ∃ ai ci, vs[i]? = some (.slice ai r.length ci) ∧ OwnB w base (.slice ai r.length ci) r
  ap : ∀ (i : Nat) (v : Value) (g : Nat), vs[i]? = some v → v.ownBlock = some g → (Value.slice a n c).ownBlock ≠ some g
  dj : ∀ (i j : Nat) (v u : Value) (g : Nat), vs[i]? = some v → vs[j]? = some u → v.ownBlock = some g → u.ownBlock = some g → i = j
theorem OwBB.far {w w' : World} {base n c : Nat} {rs : List (List Bool)} {a : Option Addr} {vs : List Value} (h : OwBB w base rs a n c vs) (hs : ∀ g, base ≤ g → g < w.heap.size → w'.heap[g]? = w.heap[g]?) : OwBB w' base rs a n c vs :=
  ⟨h.len, ownsRow_far h.row (fun g hg hl => hs g (h.row.lt g hg).1 hl), fun i r hr => by
    obtain ⟨ai, ci, h1, h2⟩ := h.inn i r hr
    exact ⟨ai, ci, h1, h2.far fun g hg hl => hs g (h2.lt g hg).1 hl⟩, h.ap, h.dj⟩
theorem OwBB.later {w w' : World} {base n c : Nat} {rs : List (List Bool)} {a : Option Addr} {vs : List Value} (h : OwBB w base rs a n c vs) (hb : Below w.heap.size w w') : OwBB w' base rs a n c vs := h.far fun g _ hl => hb.block g hl
theorem OwBB.nil (w : World) (base : Nat) : OwBB w base [] none 0 0 [] := ⟨rfl, World.ownsRow_nil _ _ _ _, fun i r hr => by simp at hr, fun i v g hv => by simp at hv, fun i j v u g hv => by simp at hv⟩
/-- The block of the outer row. -/
theorem OwBB.at {w : World} {base n c : Nat} {rs : List (List Bool)} {a : Option Addr} {vs : List Value} (h : OwBB w base rs a n c vs) {i : Nat} {r : List Bool} (hr : rs[i]? = some r) : ∃ g ai ci, a = some ⟨g, 0, none⟩ ∧ base ≤ g ∧ g < w.heap.size ∧ vs[i]? = some (.slice ai r.length ci) ∧ w.cell? ⟨g, i, none⟩ = some (.slice ai r.length ci) ∧ OwnB w base (.slice ai r.length ci) r := by
  have hi : i < n := by rw [← h.len]; exact (List.getElem?_eq_some_iff.1 hr).1
  obtain ⟨ai, ci, h1, h2⟩ := h.inn i r hr
  have hrow := h.row
  obtain ⟨g, rfl, hg⟩ : ∃ g, a = some ⟨g, 0, none⟩ ∧ base ≤ g := by
    rcases hrow.2 with ⟨e, e2⟩ | ⟨g, cap', cur, e, hb, hg, hn', hm, hc, ht⟩
    · omega
    · injection e with e1 e2 e3
      exact ⟨g, e1, hb⟩
  have hc := hrow.cellAt i (by omega)
  rw [h1] at hc
  exact ⟨g, ai, ci, rfl, hg, (hrow.lt g rfl).2, h1, hc, h2⟩
theorem OwBB.bbs {w : World} {base n c : Nat} {rs : List (List Bool)} {a : Option Addr} {vs : List Value} (h : OwBB w base rs a n c vs) (hn : n ≤ 1048576) : BBs w (fun b => base ≤ b ∧ b < w.heap.size) rs a :=
  ⟨by rw [h.len]; unfold maxLen; omega, fun i r hr => by
    obtain ⟨g, ai, ci, rfl, h1, h2, h3, h4, h5⟩ := h.at hr
    obtain ⟨_, _, _, hbat⟩ := h5.bat
    exact ⟨g, 0, ai, ci, rfl, ⟨h1, h2⟩, by rw [Nat.zero_add]; exact h4, hbat⟩⟩
theorem OwBB.mark {w w' : World} {base n c i ci : Nat} {rs : List (List Bool)} {a ai : Option Addr} {vs : List Value} {r : List Bool} {k : Int} (h : OwBB w base rs a n c vs) (hr : rs[i]? = some r) (hv : vs[i]? = some (.slice ai r.length ci)) (hw : OwnB w' base (.slice ai r.length ci) (mkBl k r.length)) (hs : ∀ j, (Value.slice ai r.length ci).ownBlock ≠ some j → w'.heap[j]? = w.heap[j]?) : OwBB w' base (rs.set i (mkBl k r.length)) a n c vs :=
  ⟨by rw [List.length_set]; exact h.len, ownsRow_far h.row (fun g hg _ => hs g (fun e => h.ap i _ g hv e hg)), fun j s hj => by
    by_cases e : j = i
    · subst e
      rw [List.getElem?_set_self (List.getElem?_eq_some_iff.1 hr).1] at hj
      cases hj
      exact ⟨ai, ci, by rw [mkBl_len]; exact hv, by rw [mkBl_len]; exact hw⟩
    · rw [List.getElem?_set_ne (fun e2 => e e2.symm)] at hj
      obtain ⟨aj, cj, h1, h2⟩ := h.inn j s hj
      exact ⟨aj, cj, h1, h2.far fun g hg _ => hs g fun e2 => e (h.dj j i _ _ g h1 hv hg e2)⟩, h.ap, h.dj⟩

theorem OwBB.put {w w2 : World} {base n c g i l2 c2 : Nat} {rs : List (List Bool)} {a2 : Option Addr} {vs : List Value} {r2 : List Bool} (h : OwBB w base rs (some ⟨g, 0, none⟩) n c vs) (hi : i < n) (hb : Below w.heap.size w w2) (hown : OwnB w2 w.heap.size (.slice a2 l2 c2) r2) (hl : r2.length = l2) (hbase : base ≤ w.heap.size) : OwBB (w2.setCell ⟨g, i, none⟩ (.slice a2 l2 c2)) base (rs.set i r2) (some ⟨g, 0, none⟩) n c (vs.set i (.slice a2 l2 c2)) := by
  subst hl
  have h2 := h.later hb
  have hg := (h.row.lt g rfl).2
  have hvl : vs.length = n := by have := h.row.1; omega
  have hst : ∀ q, q ≠ g → (w2.setCell ⟨g, i, none⟩ (.slice a2 r2.length c2)).heap[q]? = w2.heap[q]? := fun q hq => Below.heap_setCell _ _ _ _ (by simpa using hq)
  have hold : ∀ (j : Nat) (v : Value) (q : Nat), vs[j]? = some v → v.ownBlock = some q → q < w.heap.size := fun j v q hv hq => by
    have hj : j < n := by rw [← hvl]; exact (List.getElem?_eq_some_iff.1 hv).1
    obtain ⟨ai, ci, h1, h3⟩ := h.inn j _ (List.getElem?_eq_getElem (by rw [h.len]; exact hj))
    rw [hv] at h1
    cases h1
    exact (h3.lt q hq).2
  refine ⟨by rw [List.length_set]; exact h.len, (h2.row.stored i (.slice a2 r2.length c2)).1, fun j s hj => ?_, fun j v q hv hq => ?_, fun j j' v u q hv hu hq hq' => ?_⟩
  · by_cases e : j = i
    · subst e
      rw [List.getElem?_set_self (by rw [h.len]; exact hi)] at hj
      cases hj
      refine ⟨a2, c2, List.getElem?_set_self (by rw [hvl]; exact hi), (hown.far fun q hq _ => hst q (fun e => ?_)).monoB hbase⟩
      have := (hown.lt q hq).1
      omega
    · rw [List.getElem?_set_ne (fun e2 => e e2.symm)] at hj
      obtain ⟨aj, cj, h1, h3⟩ := h2.inn j s hj
      refine ⟨aj, cj, by rw [List.getElem?_set_ne (fun e2 => e e2.symm)]; exact h1, h3.far fun q hq _ => hst q (fun e2 => ?_)⟩
      subst e2
      exact h.ap j _ q h1 hq rfl
  · by_cases e : j = i
    · subst e
      rw [List.getElem?_set_self (by rw [hvl]; exact hi)] at hv
      cases hv
      have := (hown.lt q hq).1
      intro e2
      have e3 : g = q := Option.some.inj e2
      omega
    · rw [List.getElem?_set_ne (fun e2 => e e2.symm)] at hv
      exact h.ap j v q hv hq
  · by_cases e : j = i
    · by_cases e' : j' = i
      · rw [e, e']
      · subst e
        rw [List.getElem?_set_self (by rw [hvl]; exact hi)] at hv
        cases hv
        rw [List.getElem?_set_ne (fun e2 => e' e2.symm)] at hu
        have h1 := (hown.lt q hq).1
        have h3 := hold j' u q hu hq'
        omega
    · rw [List.getElem?_set_ne (fun e2 => e e2.symm)] at hv
      by_cases e' : j' = i
      · subst e'
        rw [List.getElem?_set_self (by rw [hvl]; exact hi)] at hu
        cases hu
        have h1 := (hown.lt q hq').1
        have h3 := hold j v q hv hq
        omega
      · rw [List.getElem?_set_ne (fun e2 => e' e2.symm)] at hu
        exact h.dj j j' v u q hv hu hq hq'

/-- How many bools lie before the row. -/
def sumL (rs : List (List Bool)) : Nat → Nat
  | 0 => 0
  | j + 1 => sumL rs j + (rs.getD j []).length
theorem sumL_le {rs : List (List Bool)} (h : ∀ (i : Nat) (r : List Bool), rs[i]? = some r → r.length ≤ 14) : ∀ j, sumL rs j ≤ 14 * j
  | 0 => Nat.le_refl _
  | j + 1 => by
    have h1 := sumL_le h j
    have h2 : (rs.getD j []).length ≤ 14 := by
      rw [List.getD_eq_getElem?_getD]
      cases e : rs[j]? with
      | none => simp
      | some r => exact h j r e
    unfold sumL
    omega
theorem sumL_succ {rs : List (List Bool)} {j : Nat} {r : List Bool} (h : rs[j]? = some r) : sumL rs (j + 1) = sumL rs j + r.length := by
  show sumL rs j + (rs.getD j []).length = _
  rw [List.getD_eq_getElem?_getD, h]; rfl
/-- The first j rows hold the marks. -/
structure MkBB (k0 : Int) (rs ps : List (List Bool)) (j : Nat) : Prop where
  len : ps.length = rs.length
  same : ∀ (i : Nat) (r : List Bool), rs[i]? = some r → ∃ p, ps[i]? = some p ∧ p.length = r.length
  mkd : ∀ (i : Nat) (r : List Bool), i < j → rs[i]? = some r → ps[i]? = some (mkBl (k0 + (sumL rs i : Int)) r.length)
theorem MkBB.zero (k0 : Int) (rs : List (List Bool)) : MkBB k0 rs rs 0 := ⟨rfl, fun i r h => ⟨r, h, rfl⟩, fun i r hi => absurd hi (Nat.not_lt_zero _)⟩
theorem MkBB.succ {k0 : Int} {rs ps : List (List Bool)} {j : Nat} {r : List Bool} (h : MkBB k0 rs ps j) (hr : rs[j]? = some r) : MkBB k0 rs (ps.set j (mkBl (k0 + (sumL rs j : Int)) r.length)) (j + 1) := by
  have hj : j < ps.length := by rw [h.len]; exact (List.getElem?_eq_some_iff.1 hr).1
  refine ⟨by rw [List.length_set]; exact h.len, fun i s hs => ?_, fun i s hi hs => ?_⟩
  · by_cases e : i = j
    · subst e
      rw [hr] at hs
      cases hs
      exact ⟨_, List.getElem?_set_self hj, mkBl_len _ _⟩
    · obtain ⟨p, h1, h2⟩ := h.same i s hs
      exact ⟨p, by rw [List.getElem?_set_ne (fun e2 => e e2.symm)]; exact h1, h2⟩
  · by_cases e : i = j
    · subst e
      rw [hr] at hs
      cases hs
      exact List.getElem?_set_self hj
    · rw [List.getElem?_set_ne (fun e2 => e e2.symm)]
      exact h.mkd i s (by omega) hs
def WroteBB (w : World) (base : Nat) (rs : List (List Bool)) (a : Option Addr) (n c : Nat) (vs : List Value) (k0 : Int) (f : Ending) (w' : World) : Prop := ∃ ps, f = .returned (.int .i64 (k0 + (sumL rs n : Int))) ∧ OwBB w' base ps a n c vs ∧ MkBB k0 rs ps n ∧ Below base w w'
def MkBBL (w : World) (base : Nat) (rs : List (List Bool)) (a : Option Addr) (n c : Nat) (vs : List Value) (k0 : Int) (cv i : Value) (wr : World) : Prop := ∃ (j : Nat) (ps : List (List Bool)), j ≤ n ∧ i = .int .i64 (j : Int) ∧ cv = .int .i64 (k0 + (sumL rs j : Int)) ∧ OwBB wr base ps a n c vs ∧ MkBB k0 rs ps j ∧ Below base w wr

set_option maxRecDepth 100000 in
set_option maxHeartbeats 4000000 in
/-- **markBoolSS.** -/
theorem markBB_one (base n c : Nat) (a : Option Addr) (k0 : Int) (rs : List (List Bool)) (vs : List Value) (w : World) (h : OwBB w base rs a n c vs) (hn : n ≤ 400) (hB : ∀ (i : Nat) (r : List Bool), rs[i]? = some r → r.length ≤ 14) (h0 : 0 ≤ k0) (h1 : k0 ≤ 1000) :
    Calls Tryd.prog 21 #[.slice a n c, .int .i64 k0] w (WroteBB w base rs a n c vs k0) := by
  have HL : Hid (MkBBL w base rs a n c vs k0 (.int .i64 k0) (.int .i64 0) w) := ⟨0, rs, Nat.zero_le _, rfl, by simp [sumL], h, MkBB.zero _ _, Below.refl _ _⟩
  have HLEN : Hid (rs.length = n) := h.len
  have HB := Lib.hid hB
  clear h hB
  go_enter Tryd.func21, Tryd.ntmps21
  go_wp2_with fail
  go_loopw [1, 5] (fun cv i wr => MkBBL w base rs a n c vs k0 cv i wr) (fun _ i _ => n - (intOf i).toNat)
  case atStart => exact HL.out
  case round =>
    obtain ⟨j, ps, hj, rfl, rfl, hown, hmk, hb⟩ := hrel
    have HOWN := Lib.hid hown
    have HMK := Lib.hid hmk
    have HBE := Lib.hid hb
    clear hown hmk hb HL
    by_cases hlt : j < n
    · obtain ⟨r, hr⟩ : ∃ r, rs[j]? = some r := ⟨rs[j]'(by rw [HLEN.out]; exact hlt), List.getElem?_eq_getElem _⟩
      obtain ⟨p, hp, hpl⟩ := HMK.out.same j r hr
      obtain ⟨g, ai, ci, rfl, hg, hgs, hv, hcell, hin⟩ := HOWN.out.at hp
      have hr14 := HB.out j r hr
      have hsl := sumL_le HB.out j
      obtain ⟨pl, hpl2⟩ : ∃ pl, p.length = pl := ⟨_, rfl⟩
      rw [hpl2] at hcell
      have HMA := Lib.hid (markBS_one base pl ci ai (k0 + (sumL rs j : Int)) p wr (by rw [← hpl2]; exact hin) hpl2 (by omega) (by omega) (by omega))
      have HR := Lib.hid hr
      have HP := Lib.hid hp
      have HV := Lib.hid hv
      have HPL := Lib.hid hpl
      have HPL2 := Lib.hid hpl2
      clear hr hp hpl hpl2 hv hin
      go_wp2_with fail
      refine HMA.out.mono ?_
      rintro e w2 ⟨rfl, hw, hsz, hbe, hst⟩
      have HREL : Hid (MkBBL w base rs (some ⟨g, 0, none⟩) n c vs k0 (.int .i64 (k0 + (sumL rs j : Int) + (pl : Int))) (.int .i64 ((j : Int) + 1)) w2) := by
        have e1 : p.length = pl := HPL2.out
        have e2 : p.length = r.length := HPL.out
        subst e1
        refine ⟨j + 1, _, hlt, by go_num, ?_, HOWN.out.mark HP.out HV.out hw hst, ?_, HBE.out.trans hbe⟩
        · rw [sumL_succ HR.out, e2]
          go_num
        · rw [e2]
          exact HMK.out.succ HR.out
      clear hw hsz hbe hst HOWN HMK HBE hcell
      go_wp2_with fail
      go_roundw
      case rel => exact HREL.out
      case measure => simp [intOf]; omega
    · obtain rfl : j = n := by omega
      have HFIN : Hid (WroteBB w base rs a j c vs k0 (.returned (.int .i64 (k0 + (sumL rs j : Int)))) wr) := ⟨ps, rfl, HOWN.out, HMK.out, HBE.out⟩
      clear HOWN HMK HBE
      go_wp2_with fail
      go_ret
      exact HFIN.out

def HeldBB (rs : List (List Bool)) (n : Nat) (k0 : Int) (w : World) (f : Ending) (w' : World) : Prop := f = .returned (.int .i64 (k0 + (sumL rs n : Int))) ∧ Below w.heap.size w w'

set_option maxRecDepth 100000 in
set_option maxHeartbeats 4000000 in
/-- **heldBoolSS.** -/
theorem heldBB_one (n c : Nat) (a : Option Addr) (k0 : Int) (rs ps : List (List Bool)) (w : World) (h : BBs w (fun b => b < w.heap.size) ps a) (hm : MkBB k0 rs ps n) (hl : rs.length = n) (hn : n ≤ 400) (hB : ∀ (i : Nat) (r : List Bool), rs[i]? = some r → r.length ≤ 14) (h0 : 0 ≤ k0) (h1 : k0 ≤ 1000) :
    Calls Tryd.prog 22 #[.slice a n c, .int .i64 k0] w (HeldBB rs n k0 w) := by
  have H : Hid (∀ v, Below w.heap.size w v → BBs v (fun b => b < v.heap.size) ps a) := fun v hv => h.below hv
  have HM := Lib.hid hm
  have HLEN := Lib.hid hl
  have HB := Lib.hid hB
  clear h hm hl hB
  go_enter Tryd.func22, Tryd.ntmps22
  go_wp2_with fail
  go_loopw [1, 5] (fun cv i wr => ∃ j : Nat, j ≤ n ∧ i = .int .i64 (j : Int) ∧ cv = .int .i64 (k0 + (sumL rs j : Int)) ∧ Below w.heap.size w wr) (fun _ i _ => n - (intOf i).toNat)
  case atStart => exact ⟨0, Nat.zero_le _, rfl, by simp [sumL], Below.refl _ _⟩
  case round =>
    obtain ⟨j, hj, rfl, rfl, hb⟩ := hrel
    have HBE := Lib.hid hb
    clear hb
    by_cases hlt : j < n
    · obtain ⟨r, hr⟩ : ∃ r, rs[j]? = some r := ⟨rs[j]'(by rw [HLEN.out]; exact hlt), List.getElem?_eq_getElem _⟩
      obtain ⟨g, o, ai, ci, rfl, hg, hcell, hat⟩ := (H.out wr HBE.out).2 j _ (HM.out.mkd j r hlt hr)
      have hr14 := HB.out j r hr
      have hsl := sumL_le HB.out j
      obtain ⟨rl, hrl⟩ : ∃ rl, r.length = rl := ⟨_, rfl⟩
      have hss := sumL_succ hr
      rw [mkBl_len] at hcell
      rw [hrl] at hcell hat hr14 hss
      have HHE := Lib.hid (heldBS_one rl ci ai (k0 + (sumL rs j : Int)) wr hat (by omega) (by omega) (by omega))
      have HSS := Lib.hid hss
      clear hr hrl hat hss
      go_wp2_with fail
      refine HHE.out.mono ?_
      rintro e w2 ⟨rfl, hb2⟩
      have HREL : Hid (∃ j' : Nat, j' ≤ n ∧ Value.int .i64 ((j : Int) + 1) = .int .i64 (j' : Int) ∧ Value.int .i64 (k0 + (sumL rs j : Int) + (rl : Int)) = .int .i64 (k0 + (sumL rs j' : Int)) ∧ Below w.heap.size w w2) :=
        ⟨j + 1, hlt, by go_num, by rw [HSS.out]; go_num, HBE.out.trans (hb2.mono HBE.out.size)⟩
      clear hb2 HBE hcell
      go_wp2_with fail
      go_roundw
      case rel => exact HREL.out
      case measure => simp [intOf]; omega
    · obtain rfl : j = n := by omega
      have HFIN : Hid (HeldBB rs j k0 w (.returned (.int .i64 (k0 + (sumL rs j : Int)))) wr) := ⟨rfl, HBE.out⟩
      clear HBE
      go_wp2_with fail
      go_ret
      exact HFIN.out

end Go.Proofs.YtbifbmpflhdijaaDoor

namespace Go.Proofs.YtbifbmpflhdijaaDoor
open Go.RowKit
set_option linter.unusedVariables false

/-- A new row of the registers of m. -/
def FlgN (m : Nat) (w : World) (e : Ending) (w' : World) : Prop := ∃ a c, e = .returned (.slice a 14 c) ∧ OwnB w' w.heap.size (.slice a 14 c) ((List.range 14).map m.testBit) ∧ Below w.heap.size w w'
def FlgL (m : Nat) (w : World) (i : Value) (wr : World) : Prop := ∃ (j : Nat) (L : List Bool), j ≤ 14 ∧ i = .int .i64 (j : Int) ∧ L.length = 14 ∧ OwnB wr w.heap.size (.slice (some ⟨w.heap.size, 0, none⟩) 14 14) L ∧ (∀ q, q < j → L[q]? = some (m.testBit q)) ∧ Below w.heap.size w wr

set_option maxRecDepth 100000 in
set_option maxHeartbeats 4000000 in
/-- **flags.** -/
theorem flg_one (m : Nat) (w : World) (hm : m < 32768) :
    Calls Tryd.prog 54 #[.int .u16 (m : Int)] w (FlgN m w) := by
  obtain ⟨b0, hbi, hbz0, hbz1, hbz2⟩ := info_parts Tryd.infoB
  go_enter Tryd.func54, Tryd.ntmps54
  go_wp2_with (at_make; refine wpList_make_full _ rfl _ _ 47 rfl w.heap.size 4 b0 (.bool false) 1 Tryd.underlying47 hbi hbz0 hbz1 .i64 .i64 14 14 14 rfl rfl rfl rfl (by rw [hbz2]; omega) (by unfold maxLen; omega) (Nat.le_refl _) ?_; intro w1 hown1 hgrow1; rw [falses] at hown1)
  have HL : Hid (FlgL m w (.int .i64 0) w1) := ⟨0, List.replicate 14 false, Nat.zero_le _, rfl, by simp, by unfold OwnB; rw [List.length_replicate]; exact hown1, fun q hq => absurd hq (Nat.not_lt_zero _), (Below.refl _ w).grown hgrow1 (Nat.le_refl _) (fun k e => (by cases e))⟩
  clear hown1 hgrow1 hbi hbz0 hbz1 hbz2
  go_loopw [8] (fun i wr => FlgL m w i wr) (fun i _ => 14 - (intOf i).toNat)
  case atStart => exact HL.out
  case round =>
    obtain ⟨j, L, hj, rfl, hll, hown, hdn, hb⟩ := hrel
    have HLL := Lib.hid hll
    have HOWN := Lib.hid hown
    have HDN := Lib.hid hdn
    have HB := Lib.hid hb
    clear hll hown hdn hb HL
    by_cases hlt : j < 14
    · have hro : wr.ownsRow w.heap.size 4 1 (.slice (some ⟨w.heap.size, 0, none⟩) 14 14) 14 (L.map Value.bool) := by have h1 := HOWN.out; unfold OwnB at h1; rw [HLL.out] at h1; exact h1
      have hc := hro.cellAt j (by omega)
      obtain ⟨x, hx⟩ : ∃ x, L[j]? = some x := ⟨L[j]'(by rw [HLL.out]; exact hlt), List.getElem?_eq_getElem _⟩
      rw [List.getElem?_map, hx] at hc
      have hc' : wr.cell? ⟨w.heap.size, j, none⟩ = some (.bool x) := hc
      have hfz := hro.frozenAt j
      have hst := (hro.stored j (.bool (m.testBit j))).1
      have HREL : Hid (FlgL m w (.int .i64 ((j : Int) + 1)) (wr.setCell ⟨w.heap.size, j, none⟩ (.bool (m.testBit j)))) := by
        have hl6 : (L.set j (m.testBit j)).length = 14 := by rw [List.length_set]; exact HLL.out
        refine ⟨j + 1, _, hlt, by go_num, hl6, ?_, fun q hq => ?_, HB.out.setCell (p := ⟨w.heap.size, j, none⟩) (Nat.le_refl _) _⟩
        · unfold OwnB
          rw [hl6, List.map_set]
          exact hst
        · by_cases e : q = j
          · subst e
            exact List.getElem?_set_self (by rw [HLL.out]; exact hlt)
          · rw [List.getElem?_set_ne (fun e2 => e e2.symm)]
            exact HDN.out q (by omega)
      have HH := Lib.hid (has_one m j wr hm hlt)
      clear hro hc hx hst
      go_wp2_with fail
      refine HH.out.mono ?_
      rintro e w2 ⟨rfl, rfl⟩
      clear HH HOWN HB
      go_wp2_with fail
      go_roundw
      case rel => exact HREL.out
      case measure => simp [intOf]; omega
    · obtain rfl : j = 14 := by omega
      have HFIN : Hid (FlgN m w (.returned (.slice (some ⟨w.heap.size, 0, none⟩) 14 14)) wr) := by
        refine ⟨_, _, rfl, ?_, HB.out⟩
        have e : L = (List.range 14).map m.testBit := by
          apply List.ext_getElem?
          intro q
          by_cases hq : q < 14
          · rw [HDN.out q hq, List.getElem?_map, List.getElem?_range hq]; rfl
          · rw [List.getElem?_eq_none (by rw [HLL.out]; omega), List.getElem?_eq_none (by simp; omega)]
        rw [← e]
        exact HOWN.out
      clear HOWN HB HDN
      go_wp2_with fail
      go_ret
      exact HFIN.out

end Go.Proofs.YtbifbmpflhdijaaDoor

namespace Go.Proofs.YtbifbmpflhdijaaDoor
open Go.RowKit
set_option linter.unusedVariables false

/-- What LiveRegs answers. -/
def LrV (m : Cd) (rs : List (List Bool)) : Prop := (codeB m = true → ∃ ms, IsL m.list ms ∧ rs = ms.map flB) ∧ (codeB m = false → rs = [])
theorem LrV.uniq {m : Cd} {rs rs' : List (List Bool)} (h : LrV m rs) (h' : LrV m rs') : rs = rs' := by
  cases hq : codeB m
  · exact (h.2 hq).trans (h'.2 hq).symm
  · obtain ⟨ms, h1, rfl⟩ := h.1 hq
    obtain ⟨ms', h1', rfl⟩ := h'.1 hq
    rw [h1.uniq h1']
theorem LrV.small {m : Cd} {rs : List (List Bool)} (h : LrV m rs) : rs.length ≤ 400 ∧ ∀ (i : Nat) (r : List Bool), rs[i]? = some r → r.length ≤ 14 := by
  cases hq : codeB m
  · rw [h.2 hq]
    exact ⟨by simp, fun i r hr => by simp at hr⟩
  · obtain ⟨ms, h1, rfl⟩ := h.1 hq
    refine ⟨by rw [List.length_map, h1.len]; exact (codeB_ok hq).le, fun i r hr => ?_⟩
    rw [List.getElem?_map] at hr
    obtain ⟨q, _, rfl⟩ := Option.map_eq_some_iff.1 hr
    rw [flB_len]; exact Nat.le_refl _
def LrN (m : Cd) (w : World) (e : Ending) (w' : World) : Prop := ∃ rs a n c vs, e = .returned (.slice a n c) ∧ LrV m rs ∧ OwBB w' w.heap.size rs a n c vs ∧ Below w.heap.size w w'
theorem ownsRow_monoL {w : World} {base base' : Nat} {e : TypeId} {size n : Nat} {v : Value} {xs : List Value} (h : w.ownsRow base e size v n xs) (hb : base' ≤ base) : w.ownsRow base' e size v n xs := by
  refine ⟨h.1, ?_⟩
  rcases h.2 with e | ⟨g, cp, cur, e1, e2, e3, e4⟩
  · exact .inl e
  · exact .inr ⟨g, cp, cur, e1, Nat.le_trans hb e2, e3, e4⟩
theorem OwBB.monoL {w : World} {base base' n c : Nat} {rs : List (List Bool)} {a : Option Addr} {vs : List Value} (h : OwBB w base rs a n c vs) (hb : base' ≤ base) : OwBB w base' rs a n c vs :=
  ⟨h.len, ownsRow_monoL h.row hb, fun i r hr => by
    obtain ⟨ai, ci, h1, h2⟩ := h.inn i r hr
    exact ⟨ai, ci, h1, h2.monoB hb⟩, h.ap, h.dj⟩
theorem OwBB.vlen {w : World} {base n c : Nat} {rs : List (List Bool)} {a : Option Addr} {vs : List Value} (h : OwBB w base rs a n c vs) : vs.length = n := by have := h.row.1; omega
theorem OwBB.old {w : World} {base n c : Nat} {rs : List (List Bool)} {a : Option Addr} {vs : List Value} (h : OwBB w base rs a n c vs) {i g : Nat} {v : Value} (hv : vs[i]? = some v) (hg : v.ownBlock = some g) : base ≤ g ∧ g < w.heap.size := by
  have hi : i < n := by rw [← h.vlen]; exact (List.getElem?_eq_some_iff.1 hv).1
  obtain ⟨ai, ci, h1, h3⟩ := h.inn i _ (List.getElem?_eq_getElem (by rw [h.len]; exact hi))
  rw [hv] at h1
  cases h1
  exact h3.lt g hg
/-- A row is appended. -/
theorem OwBB.push {w w4 w5 : World} {base n c g5 cp l2 c2 : Nat} {rs : List (List Bool)} {a a2 : Option Addr} {vs : List Value} {r2 : List Bool} (h : OwBB w base rs a n c vs) (hb : Below w.heap.size w w4) (hin : OwnB w4 w.heap.size (.slice a2 l2 c2) r2) (hl : r2.length = l2) (hbase : base ≤ w.heap.size)
    (hown : w5.ownsRow base 47 1 (.slice (some ⟨g5, 0, none⟩) (n + 1) cp) (n + 1) (vs ++ [.slice a2 l2 c2])) (hgr : w4.grownBy w5 (Value.slice a n c).ownBlock) (hat : (Value.slice a n c).ownBlock = some g5 ∨ g5 = w4.heap.size) :
    OwBB w5 base (rs ++ [r2]) (some ⟨g5, 0, none⟩) (n + 1) cp (vs ++ [.slice a2 l2 c2]) := by
  subst hl
  have hvl := h.vlen
  have ho : ∀ g, (Value.slice a n c).ownBlock = some g → g < w.heap.size := fun g hg => (h.row.lt g hg).2
  have hold : ∀ (i : Nat) (v : Value) (g : Nat), vs[i]? = some v → v.ownBlock = some g → w5.heap[g]? = w4.heap[g]? := fun i v g hv hg => hgr.block g (by have := (h.old hv hg).2; have := hb.size; omega) fun e => h.ap i v g hv hg e.symm
  have hnew : ∀ g, (Value.slice a2 r2.length c2).ownBlock = some g → w.heap.size ≤ g ∧ g < w4.heap.size := fun g hg => hin.lt g hg
  have hg5 : g5 < w.heap.size ∨ g5 = w4.heap.size := hat.imp (ho g5) id
  refine ⟨by rw [List.length_append, h.len]; rfl, hown, fun i r hr => ?_, fun i v g hv hg => ?_, fun i j v u g hv hu hg hg' => ?_⟩
  · by_cases e : i < n
    · rw [List.getElem?_append_left (by rw [h.len]; exact e)] at hr
      obtain ⟨ai, ci, h1, h2⟩ := h.inn i r hr
      exact ⟨ai, ci, by rw [List.getElem?_append_left (by omega)]; exact h1, h2.far fun g hg hlt => (hold i _ g h1 hg).trans (hb.block g hlt)⟩
    · have hi : i = n := by have := (List.getElem?_eq_some_iff.1 hr).1; rw [List.length_append, h.len] at this; simp at this; omega
      subst hi
      rw [List.getElem?_append_right (by rw [h.len]; exact Nat.le_refl _), h.len, Nat.sub_self] at hr
      have e2 : r2 = r := by simpa using hr
      subst e2
      refine ⟨a2, c2, by rw [List.getElem?_append_right (by omega), hvl, Nat.sub_self]; rfl, (hin.far fun g hg hlt => hgr.block g hlt fun e => ?_).monoB hbase⟩
      have h1 := ho g e.symm
      have h2 := (hnew g hg).1
      omega
  · by_cases e : i < n
    · rw [List.getElem?_append_left (by omega)] at hv
      intro e2
      have e3 : g5 = g := Option.some.inj e2
      subst e3
      rcases hat with h1 | h1
      · exact h.ap i v _ hv hg h1
      · have := (h.old hv hg).2; have := hb.size; omega
    · have hi : i = n := by have := (List.getElem?_eq_some_iff.1 hv).1; rw [List.length_append, hvl] at this; simp at this; omega
      subst hi
      rw [List.getElem?_append_right (by omega), hvl, Nat.sub_self] at hv
      have e2 : Value.slice a2 r2.length c2 = v := by simpa using hv
      subst e2
      intro e2
      have e3 : g5 = g := Option.some.inj e2
      have h1 := hnew g hg
      omega
  · have hc : ∀ (i : Nat) (v : Value) (g : Nat), (vs ++ [Value.slice a2 r2.length c2])[i]? = some v → v.ownBlock = some g → (i < n ∧ vs[i]? = some v ∧ g < w.heap.size) ∨ (i = n ∧ w.heap.size ≤ g) := fun i v g hv hg => by
      by_cases e : i < n
      · rw [List.getElem?_append_left (by omega)] at hv
        exact .inl ⟨e, hv, (h.old hv hg).2⟩
      · have hi : i = n := by have := (List.getElem?_eq_some_iff.1 hv).1; rw [List.length_append, hvl] at this; simp at this; omega
        subst hi
        rw [List.getElem?_append_right (by omega), hvl, Nat.sub_self] at hv
        have e2 : Value.slice a2 r2.length c2 = v := by simpa using hv
        subst e2
        exact .inr ⟨rfl, (hnew g hg).1⟩
    rcases hc i v g hv hg with ⟨h1, h2, h3⟩ | ⟨h1, h2⟩
    · rcases hc j u g hu hg' with ⟨h4, h5, h6⟩ | ⟨h4, h5⟩
      · exact h.dj i j v u g h2 h5 hg hg'
      · omega
    · rcases hc j u g hu hg' with ⟨h4, h5, h6⟩ | ⟨h4, h5⟩
      · omega
      · omega
theorem lrField (la ra : Option Addr) (n lc rc : Nat) (w : World) : Sem.run Tryd.prog (Instr.field 62 (.agg #[.slice la n lc, .slice ra n rc]) 1) w = Result.ok (.slice ra n rc) w := by
  kernel_rfl
/-- The state of the loop. -/
def LrL (ms : List Nat) (n B : Nat) (w0 : World) (lv i : Value) (wr : World) : Prop := ∃ (j : Nat) (a : Option Addr) (c : Nat) (vs : List Value), j ≤ n ∧ i = .int .i64 (j : Int) ∧ lv = .slice a j c ∧ OwBB wr B ((ms.take j).map flB) a j c vs ∧ Below w0.heap.size w0 wr

set_option maxRecDepth 100000 in
set_option maxHeartbeats 8000000 in
/-- **impl.LiveRegs.** -/
theorem iLR_one (m : Cd) (k : CK) (w : World) (h : CL w m k) (hT : TblF w) : Calls Tryd.prog 19 #[aggC m k] w (LrN m w) := by
  obtain ⟨i0, hi, hz0, hz1, hz2⟩ := info_parts Tryd.infoBB
  obtain ⟨W, hW⟩ : ∃ W, w.alloc (.cells (arrC m k) 29) = W := ⟨_, rfl⟩
  have hB : Below w.heap.size w W := by rw [← hW]; exact (Below.refl _ w).alloc (Nat.le_refl _) _
  have hX : BoxC W w.heap.size m k := by rw [← hW]; exact BoxC.new _ _ _ _
  have H : Hid (∀ v, Below W.heap.size W v → BoxC v w.heap.size m k ∧ CL v m k) := fun v hv => ⟨hX.below hv hX.lt, (h.below hB).below hv⟩
  have c0 := hX.c0
  have c1 := hX.c1
  have c2 := hX.c2
  have HW := Lib.hid hW
  have HB := Lib.hid hB
  unfold arrC at HW
  have HV := Lib.hid (iCV_one m k W (h.below hB) (hT.below hB hT.lt))
  clear h hT hB hX hW
  go_enter Tryd.func19, Tryd.ntmps19
  go_wp2_with (first | rw [HW.out] | fail)
  refine HV.out.mono ?_
  rintro e w2 ⟨rfl, hb2⟩
  have HB2 : Hid (Below w.heap.size w w2) := HB.out.trans (hb2.mono HB.out.size)
  have HL2 : Hid (Below W.heap.size W w2) := hb2
  have hz02 := HB.out.size
  have hz22 := hb2.size
  obtain ⟨q, hq⟩ : ∃ q, codeB m = q := ⟨_, rfl⟩
  have HQ := Lib.hid hq
  rw [hq]
  clear hb2 hq HV c0 c1 c2
  cases q
  case false =>
    have HFIN : Hid (LrN m w (.returned (.slice none 0 0)) w2) := ⟨[], none, 0, 0, [], rfl, ⟨fun e => (by rw [HQ.out] at e; cases e), fun _ => rfl⟩, OwBB.nil _ _, HB2.out⟩
    go_wp2_with fail
    go_ret
    exact HFIN.out
  case true =>
    obtain ⟨n, hn⟩ : ∃ n, m.list.length = n := ⟨_, rfl⟩
    have HN := Lib.hid hn
    have hle : n ≤ 400 := by rw [← hn]; exact (codeB_ok HQ.out).le
    have x2 : w2.cell? ⟨w.heap.size, 2, none⟩ = some (.slice k.la n k.lc) := by rw [← hn]; exact (H.out w2 HL2.out).1.c2
    have HLV := Lib.hid (least_one (nv := m.vars.length) (na := m.arrs.length) m.list k.la n k.lc w2 (H.out w2 HL2.out).2.2.2 hn (codeB_ok HQ.out) fun i x hx => codeB_ins HQ.out hx)
    clear hn
    go_wp2_with fail
    refine HLV.out.mono ?_
    rintro e w3 ⟨R, ms, rfl, hil, hown, hb3⟩
    have HIL := Lib.hid hil
    have HML : Hid (ms.length = n) := hil.len.trans HN.out
    have HOWN := Lib.hid hown
    have HB3 : Hid (Below w.heap.size w w3) := HB2.out.trans (hb3.mono HB2.out.size)
    have hz3 := HB3.out.size
    have HL0 : Hid (LrL ms n w3.heap.size w3 (.slice none 0 0) (.int .i64 0) w3) := ⟨0, none, 0, [], Nat.zero_le _, rfl, rfl, OwBB.nil _ _, Below.refl _ _⟩
    clear hil hown hb3 x2 HLV
    unfold arrL
    go_wp2_with (rw [lrField])
    go_loopw [3, 14] (fun lv i wr => LrL ms n w3.heap.size w3 lv i wr) (fun _ i _ => n - (intOf i).toNat)
    case atStart => exact HL0.out
    case round =>
      obtain ⟨j, a, c, vs, hj, rfl, rfl, hbb, hb⟩ := hrel
      have HBB := Lib.hid hbb
      have HBR := Lib.hid hb
      have hzr := hb.size
      clear hbb hb HL0
      by_cases hlt : j < n
      · obtain ⟨mj, hmj⟩ : ∃ mj, ms[j]? = some mj := ⟨ms[j]'(by rw [HML.out]; exact hlt), List.getElem?_eq_getElem _⟩
        have hmjl := HIL.out.lt j mj hmj
        have hownr : wr.ownsRow w2.heap.size 65 1 (.slice (some ⟨R, 0, none⟩) n n) n (ms.map u16V) := ownsRow_far HOWN.out fun g _ hl => HBR.out.block g hl
        have r0 : wr.cell? ⟨R, j, none⟩ = some (.int .u16 (mj : Int)) := by
          rw [hownr.cellAt j (by omega), List.getElem?_map, hmj]; rfl
        have hjI : (j : Int) < n := by omega
        have HFL := Lib.hid (flg_one mj wr (by omega))
        have HMJ := Lib.hid hmj
        clear hmj hownr
        go_wp2_with fail
        refine HFL.out.mono ?_
        rintro e w5 ⟨fa, fc, rfl, hof, hb5⟩
        obtain ⟨V3, hV3⟩ : ∃ V3, w5.alloc (.cells #[.slice fa 14 fc] 47) = V3 := ⟨_, rfl⟩
        have hbV : Below w5.heap.size w5 V3 := by rw [← hV3]; exact (Below.refl _ _).alloc (Nat.le_refl _) _
        have hz53 : V3.heap.size = w5.heap.size + 1 := by rw [← hV3]; simp
        have hblk : V3.heap[w5.heap.size]? = some (.cells #[.slice fa 14 fc] 47 (0, 0)) := by rw [← hV3]; exact heap_alloc_new w5 _
        have hbrV : Below wr.heap.size wr V3 := hb5.trans (hbV.mono hb5.size)
        have hr3 : V3.ownsRow w3.heap.size 47 1 (.slice a j c) j vs := ownsRow_far HBB.out.row fun g _ hl => hbrV.block g hl
        have HOF : Hid (OwnB V3 wr.heap.size (.slice fa 14 fc) (flB mj)) := hof.far fun g _ hl => hbV.block g hl
        have HBV := Lib.hid hbrV
        have HV3 := Lib.hid hV3
        have hzw5 := hb5.size
        clear hof hb5 hbV hbrV hV3 HFL
        go_wp2_with (first
          | (at_builtin
             rw [HV3.out]
             refine wpList_append_lies _ (by rfl) _ _ 36 (by rfl) w3.heap.size 47 i0 _ 1 24 Tryd.underlying36 hi hz0 hz1 hz2 rfl (by omega) (.slice a j c) j _ (by rfl) hr3 ⟨w5.heap.size, 0, none⟩ 1 1 _ (by rfl) (by rfl) (World.news_of_block hblk) (by simp [Value.oneCell']) (by omega) (by unfold maxLen; omega) (by omega) (by omega) (w5.heap.size + 1) (by omega) ?_
             intro g5 cp w7 hown7 hgrow hat hlt7
             have HREL : Hid (LrL ms n w3.heap.size w3 (.slice (some ⟨g5, 0, none⟩) (j + 1) cp) (.int .i64 ((j : Int) + 1)) w7) := ⟨j + 1, _, cp, _, hlt, by go_num, rfl, by
               have e1 : (ms.take (j + 1)).map flB = (ms.take j).map flB ++ [flB mj] := by rw [List.take_add_one, HMJ.out, List.map_append]; rfl
               rw [e1]
               exact HBB.out.push HBV.out HOF.out (flB_len _) hzr hown7 hgrow (by rcases hat with h | h; exact .inl h; exact .inr (by omega)), (HBR.out.trans (HBV.out.mono hzr)).grown hgrow (by omega) (fun t ht => (hr3.lt t ht).1)⟩
             clear hown7 hgrow hat hblk hr3)
          | fail)
        go_roundw
        case rel => exact HREL.out
        case measure => simp [intOf]; omega
      · obtain rfl : j = n := by omega
        have HFIN : Hid (LrN m w (.returned (.slice a j c)) wr) := by
          have h1 := HBB.out
          rw [List.take_of_length_le (by rw [HML.out]; exact Nat.le_refl _)] at h1
          exact ⟨_, a, j, c, vs, rfl, ⟨fun _ => ⟨ms, HIL.out, rfl⟩, fun e => (by rw [HQ.out] at e; cases e)⟩, h1.monoL hz3, HB3.out.trans (HBR.out.mono hz3)⟩
        clear HBB HBR HOWN
        go_wp2_with fail
        go_ret
        exact HFIN.out

end Go.Proofs.YtbifbmpflhdijaaDoor

/- The verifier's leakOf, walked. -/
import Derived.Test.YtmodonligaejhaaDoorTnW
namespace Go.Proofs.YtmodonligaejhaaDoor
open Go.RowKit
set_option linter.unusedVariables false

set_option maxRecDepth 100000 in
set_option maxHeartbeats 8000000 in
/-- **leakOf.** -/
theorem leak_one (m : Cd) (la : Option Addr) (n lc : Nat) (f : Nat → Nat) (x : Ins) (mk : Nat) (w : World) (hf : KnT m f) (hx : InsT m.vars.length m.arrs.length x) (hm : mk < 32768) :
    Calls Tryd.prog 72 #[.agg (arrV la n lc f), aggI x, .int .u16 (mk : Int)] w (NumB (leakM (secN m.vars) (secN m.arrs) x mk) w) := by
  obtain ⟨W, hW⟩ : ∃ W, (w.alloc (.cells (arrV la n lc f) 69)).alloc (.cells (arrI x) 54) = W := ⟨_, rfl⟩
  have hX : BxV w.heap.size x la n lc f W := by rw [← hW]; exact BxV.new _ _ _ _ _ _
  have hB : Below w.heap.size w W := by rw [← hW]; exact ((Below.refl _ w).alloc (Nat.le_refl _) _).alloc (by simp) _
  have x0 : W.cell? ⟨w.heap.size + 1, 0, none⟩ = some (.int .i64 x.op) := by rw [cell_at hX.2]; rfl
  have x1 : W.cell? ⟨w.heap.size + 1, 1, none⟩ = some (.int .i64 x.fa) := by rw [cell_at hX.2]; rfl
  have x2 : W.cell? ⟨w.heap.size + 1, 2, none⟩ = some (.int .i64 x.fb) := by rw [cell_at hX.2]; rfl
  have x3 : W.cell? ⟨w.heap.size + 1, 3, none⟩ = some (.int .i64 x.fc) := by rw [cell_at hX.2]; rfl
  have v0 : W.cell? ⟨w.heap.size, 0, none⟩ = some (.slice la n lc) := by rw [cell_at hX.1]; rfl
  have v1 : W.cell? ⟨w.heap.size, 1, none⟩ = some (.int .i64 (f 0 : Int)) := by rw [cell_at hX.1]; rfl
  have v2 : W.cell? ⟨w.heap.size, 2, none⟩ = some (.int .i64 (f 1 : Int)) := by rw [cell_at hX.1]; rfl
  have v3 : W.cell? ⟨w.heap.size, 3, none⟩ = some (.int .i64 (f 2 : Int)) := by rw [cell_at hX.1]; rfl
  have v4 : W.cell? ⟨w.heap.size, 4, none⟩ = some (.int .i64 (f 3 : Int)) := by rw [cell_at hX.1]; rfl
  have v5 : W.cell? ⟨w.heap.size, 5, none⟩ = some (.int .i64 (f 4 : Int)) := by rw [cell_at hX.1]; rfl
  have v6 : W.cell? ⟨w.heap.size, 6, none⟩ = some (.int .i64 (f 5 : Int)) := by rw [cell_at hX.1]; rfl
  have v7 : W.cell? ⟨w.heap.size, 7, none⟩ = some (.int .i64 (f 6 : Int)) := by rw [cell_at hX.1]; rfl
  have v8 : W.cell? ⟨w.heap.size, 8, none⟩ = some (.int .i64 (f 7 : Int)) := by rw [cell_at hX.1]; rfl
  have v9 : W.cell? ⟨w.heap.size, 9, none⟩ = some (.int .i64 (f 8 : Int)) := by rw [cell_at hX.1]; rfl
  have v10 : W.cell? ⟨w.heap.size, 10, none⟩ = some (.int .i64 (f 9 : Int)) := by rw [cell_at hX.1]; rfl
  have v11 : W.cell? ⟨w.heap.size, 11, none⟩ = some (.int .i64 (f 10 : Int)) := by rw [cell_at hX.1]; rfl
  have v12 : W.cell? ⟨w.heap.size, 12, none⟩ = some (.int .i64 (f 11 : Int)) := by rw [cell_at hX.1]; rfl
  have v13 : W.cell? ⟨w.heap.size, 13, none⟩ = some (.int .i64 (f 12 : Int)) := by rw [cell_at hX.1]; rfl
  have v14 : W.cell? ⟨w.heap.size, 14, none⟩ = some (.int .i64 (f 13 : Int)) := by rw [cell_at hX.1]; rfl
  have HX := Lib.hid hx
  have HF := Lib.hid hf
  have HM := Lib.hid hm
  have HW := Lib.hid hW
  have HB := Lib.hid hB
  clear hf hx hm hW hB hX
  unfold arrV arrI at HW
  have HO : x.op = 9 ∨ x.op = 10 ∨ x.op = 4 ∨ x.op = 5 ∨ x.op = 3 ∨ ((x.op == 9) = false ∧ (x.op == 10) = false ∧ (x.op == 4) = false ∧ (x.op == 5) = false ∧ (x.op == 3) = false) := by
    simp only [beq_eq_false_iff_ne]
    omega
  rcases HO with ho | ho | ho | ho | ho | ⟨e9, e10, e4, e5, e3⟩
  · obtain ⟨an, ha⟩ : ∃ q : Nat, x.fa = q := ⟨x.fa.toNat, by have := HX.out.ra (.inr (.inl ho)); omega⟩
    have hal : an < 14 := by have := HX.out.ra (.inr (.inl ho)); omega
    obtain ⟨p, hp⟩ : ∃ p, mk.testBit an = p := ⟨_, rfl⟩
    have HC := Lib.hid (fun v => has_one mk an v HM.out hal)
    rw [hp] at HC
    have HL : Hid (leakM (secN m.vars) (secN m.arrs) x mk = if p then 3 else 0) := by
      show _ = _
      unfold leakM
      rw [if_pos (by omega), ha, ← hp]; rfl
    have e9 : (x.op == 9) = true := by simpa using ho
    rw [ha] at x1
    clear ho ha hp
    cases p
    · have HE : Hid (0 = leakM (secN m.vars) (secN m.arrs) x mk) := HL.out.symm
      go_enter Tryd.func72, Tryd.ntmps72
      go_wp2_with (first | rw [HW.out] | fail)
      refine (HC.out _).mono ?_
      rintro e w2 ⟨rfl, rfl⟩
      go_wp2_with fail
      go_ret
      exact NumB.of HE.out HB.out
    · have HE : Hid (3 = leakM (secN m.vars) (secN m.arrs) x mk) := HL.out.symm
      go_enter Tryd.func72, Tryd.ntmps72
      go_wp2_with (first | rw [HW.out] | fail)
      refine (HC.out _).mono ?_
      rintro e w2 ⟨rfl, rfl⟩
      go_wp2_with fail
      go_ret
      exact NumB.of HE.out HB.out
  · obtain ⟨an, ha⟩ : ∃ q : Nat, x.fa = q := ⟨x.fa.toNat, by have := HX.out.ra (.inr (.inr ho)); omega⟩
    have hal : an < 14 := by have := HX.out.ra (.inr (.inr ho)); omega
    obtain ⟨p, hp⟩ : ∃ p, mk.testBit an = p := ⟨_, rfl⟩
    have HC := Lib.hid (fun v => has_one mk an v HM.out hal)
    rw [hp] at HC
    have HL : Hid (leakM (secN m.vars) (secN m.arrs) x mk = if p then 3 else 0) := by
      show _ = _
      unfold leakM
      rw [if_pos (by omega), ha, ← hp]; rfl
    have e9 : (x.op == 9) = false := by rw [ho]; rfl
    have e10 : (x.op == 10) = true := by simpa using ho
    rw [ha] at x1
    clear ho ha hp
    cases p
    · have HE : Hid (0 = leakM (secN m.vars) (secN m.arrs) x mk) := HL.out.symm
      go_enter Tryd.func72, Tryd.ntmps72
      go_wp2_with (first | rw [HW.out] | fail)
      refine (HC.out _).mono ?_
      rintro e w2 ⟨rfl, rfl⟩
      go_wp2_with fail
      go_ret
      exact NumB.of HE.out HB.out
    · have HE : Hid (3 = leakM (secN m.vars) (secN m.arrs) x mk) := HL.out.symm
      go_enter Tryd.func72, Tryd.ntmps72
      go_wp2_with (first | rw [HW.out] | fail)
      refine (HC.out _).mono ?_
      rintro e w2 ⟨rfl, rfl⟩
      go_wp2_with fail
      go_ret
      exact NumB.of HE.out HB.out
  · obtain ⟨cn, hc⟩ : ∃ q : Nat, x.fc = q := ⟨x.fc.toNat, by have := HX.out.rc (.inl ho); omega⟩
    have hcl : cn < 14 := by have := HX.out.rc (.inl ho); omega
    obtain ⟨p, hp⟩ : ∃ p, mk.testBit cn = p := ⟨_, rfl⟩
    have HC := Lib.hid (fun v => has_one mk cn v HM.out hcl)
    rw [hp] at HC
    have HL : Hid (leakM (secN m.vars) (secN m.arrs) x mk = if p then 4 else 0) := by
      show _ = _
      unfold leakM
      rw [if_neg (by omega), if_pos ho, hc, ← hp]; rfl
    have e9 : (x.op == 9) = false := by rw [ho]; rfl
    have e10 : (x.op == 10) = false := by rw [ho]; rfl
    have e4 : (x.op == 4) = true := by simpa using ho
    rw [hc] at x3
    clear ho hc hp
    cases p
    · have HE : Hid (0 = leakM (secN m.vars) (secN m.arrs) x mk) := HL.out.symm
      go_enter Tryd.func72, Tryd.ntmps72
      go_wp2_with (first | rw [HW.out] | fail)
      refine (HC.out _).mono ?_
      rintro e w2 ⟨rfl, rfl⟩
      go_wp2_with fail
      go_ret
      exact NumB.of HE.out HB.out
    · have HE : Hid (4 = leakM (secN m.vars) (secN m.arrs) x mk) := HL.out.symm
      go_enter Tryd.func72, Tryd.ntmps72
      go_wp2_with (first | rw [HW.out] | fail)
      refine (HC.out _).mono ?_
      rintro e w2 ⟨rfl, rfl⟩
      go_wp2_with fail
      go_ret
      exact NumB.of HE.out HB.out
  · obtain ⟨bn, hb⟩ : ∃ q : Nat, x.fb = q := ⟨x.fb.toNat, by have := HX.out.rb (.inr (.inl ho)); omega⟩
    have hbl : bn < 14 := by have := HX.out.rb (.inr (.inl ho)); omega
    obtain ⟨cn, hc⟩ : ∃ q : Nat, x.fc = q := ⟨x.fc.toNat, by have := HX.out.rc (.inr (.inl ho)); omega⟩
    have hcl : cn < 14 := by have := HX.out.rc (.inr (.inl ho)); omega
    obtain ⟨an, ha⟩ : ∃ q : Nat, x.fa = q := ⟨x.fa.toNat, by have := HX.out.aa ho; omega⟩
    have hal : an < m.arrs.length := by have := HX.out.aa ho; omega
    obtain ⟨p, hp⟩ : ∃ p, mk.testBit bn = p := ⟨_, rfl⟩
    have HC := Lib.hid (fun v => has_one mk bn v HM.out hbl)
    rw [hp] at HC
    obtain ⟨p2, hp2⟩ : ∃ p, mk.testBit cn = p := ⟨_, rfl⟩
    have HD := Lib.hid (fun v => has_one mk cn v HM.out hcl)
    rw [hp2] at HD
    obtain ⟨q, hq⟩ : ∃ q, secN m.arrs an = q := ⟨_, rfl⟩
    have HS := Lib.hid (fun v => secA_one m la n lc f an v HF.out hal)
    rw [hq] at HS
    have HL : Hid (leakM (secN m.vars) (secN m.arrs) x mk = if p then 4 else if p2 && !q then 1 else 0) := by
      show _ = _
      unfold leakM
      rw [if_neg (by omega), if_neg (by omega), if_pos ho, hb, hc, ha, ← hp, ← hp2, ← hq]; rfl
    have e9 : (x.op == 9) = false := by rw [ho]; rfl
    have e10 : (x.op == 10) = false := by rw [ho]; rfl
    have e4 : (x.op == 4) = false := by rw [ho]; rfl
    have e5 : (x.op == 5) = true := by simpa using ho
    rw [hb] at x2
    rw [hc] at x3
    rw [ha] at x1
    clear ho hb hc ha hp hp2 hq
    cases p
    · cases p2
      · have HE : Hid (0 = leakM (secN m.vars) (secN m.arrs) x mk) := HL.out.symm
        go_enter Tryd.func72, Tryd.ntmps72
        go_wp2_with (first | rw [HW.out] | fail)
        refine (HC.out _).mono ?_
        rintro e w2 ⟨rfl, rfl⟩
        go_wp2_with fail
        refine (HD.out _).mono ?_
        rintro e w2 ⟨rfl, rfl⟩
        go_wp2_with fail
        go_ret
        exact NumB.of HE.out HB.out
      · cases q
        · have HE : Hid (1 = leakM (secN m.vars) (secN m.arrs) x mk) := HL.out.symm
          go_enter Tryd.func72, Tryd.ntmps72
          go_wp2_with (first | rw [HW.out] | fail)
          refine (HC.out _).mono ?_
          rintro e w2 ⟨rfl, rfl⟩
          go_wp2_with fail
          refine (HD.out _).mono ?_
          rintro e w2 ⟨rfl, rfl⟩
          go_wp2_with fail
          refine (HS.out _).mono ?_
          rintro e w3 ⟨rfl, hb3⟩
          have HB3 : Hid (Below w.heap.size w w3) := HB.out.trans (hb3.mono HB.out.size)
          clear hb3
          go_wp2_with fail
          go_ret
          exact NumB.of HE.out HB3.out
        · have HE : Hid (0 = leakM (secN m.vars) (secN m.arrs) x mk) := HL.out.symm
          go_enter Tryd.func72, Tryd.ntmps72
          go_wp2_with (first | rw [HW.out] | fail)
          refine (HC.out _).mono ?_
          rintro e w2 ⟨rfl, rfl⟩
          go_wp2_with fail
          refine (HD.out _).mono ?_
          rintro e w2 ⟨rfl, rfl⟩
          go_wp2_with fail
          refine (HS.out _).mono ?_
          rintro e w3 ⟨rfl, hb3⟩
          have HB3 : Hid (Below w.heap.size w w3) := HB.out.trans (hb3.mono HB.out.size)
          clear hb3
          go_wp2_with fail
          go_ret
          exact NumB.of HE.out HB3.out
    · have HE : Hid (4 = leakM (secN m.vars) (secN m.arrs) x mk) := HL.out.symm
      go_enter Tryd.func72, Tryd.ntmps72
      go_wp2_with (first | rw [HW.out] | fail)
      refine (HC.out _).mono ?_
      rintro e w2 ⟨rfl, rfl⟩
      go_wp2_with fail
      go_ret
      exact NumB.of HE.out HB.out
  · obtain ⟨bn, hb⟩ : ∃ q : Nat, x.fb = q := ⟨x.fb.toNat, by have := HX.out.rb (.inl ho); omega⟩
    have hbl : bn < 14 := by have := HX.out.rb (.inl ho); omega
    obtain ⟨an, ha⟩ : ∃ q : Nat, x.fa = q := ⟨x.fa.toNat, by have := HX.out.va ho; omega⟩
    have hal : an < m.vars.length := by have := HX.out.va ho; omega
    obtain ⟨p2, hp2⟩ : ∃ p, mk.testBit bn = p := ⟨_, rfl⟩
    have HD := Lib.hid (fun v => has_one mk bn v HM.out hbl)
    rw [hp2] at HD
    obtain ⟨q, hq⟩ : ∃ q, secN m.vars an = q := ⟨_, rfl⟩
    have HS := Lib.hid (fun v => secV_one m la n lc f an v HF.out hal)
    rw [hq] at HS
    have HL : Hid (leakM (secN m.vars) (secN m.arrs) x mk = if p2 && !q then 1 else 0) := by
      show _ = _
      unfold leakM
      rw [if_neg (by omega), if_neg (by omega), if_neg (by omega), if_pos ho, hb, ha, ← hp2, ← hq]; rfl
    have e9 : (x.op == 9) = false := by rw [ho]; rfl
    have e10 : (x.op == 10) = false := by rw [ho]; rfl
    have e4 : (x.op == 4) = false := by rw [ho]; rfl
    have e5 : (x.op == 5) = false := by rw [ho]; rfl
    have e3 : (x.op == 3) = true := by simpa using ho
    rw [hb] at x2
    rw [ha] at x1
    clear ho hb ha hp2 hq
    cases p2
    · have HE : Hid (0 = leakM (secN m.vars) (secN m.arrs) x mk) := HL.out.symm
      go_enter Tryd.func72, Tryd.ntmps72
      go_wp2_with (first | rw [HW.out] | fail)
      refine (HD.out _).mono ?_
      rintro e w2 ⟨rfl, rfl⟩
      go_wp2_with fail
      go_ret
      exact NumB.of HE.out HB.out
    · cases q
      · have HE : Hid (1 = leakM (secN m.vars) (secN m.arrs) x mk) := HL.out.symm
        go_enter Tryd.func72, Tryd.ntmps72
        go_wp2_with (first | rw [HW.out] | fail)
        refine (HD.out _).mono ?_
        rintro e w2 ⟨rfl, rfl⟩
        go_wp2_with fail
        refine (HS.out _).mono ?_
        rintro e w3 ⟨rfl, hb3⟩
        have HB3 : Hid (Below w.heap.size w w3) := HB.out.trans (hb3.mono HB.out.size)
        clear hb3
        go_wp2_with fail
        go_ret
        exact NumB.of HE.out HB3.out
      · have HE : Hid (0 = leakM (secN m.vars) (secN m.arrs) x mk) := HL.out.symm
        go_enter Tryd.func72, Tryd.ntmps72
        go_wp2_with (first | rw [HW.out] | fail)
        refine (HD.out _).mono ?_
        rintro e w2 ⟨rfl, rfl⟩
        go_wp2_with fail
        refine (HS.out _).mono ?_
        rintro e w3 ⟨rfl, hb3⟩
        have HB3 : Hid (Below w.heap.size w w3) := HB.out.trans (hb3.mono HB.out.size)
        clear hb3
        go_wp2_with fail
        go_ret
        exact NumB.of HE.out HB3.out
  · have HE : Hid (0 = leakM (secN m.vars) (secN m.arrs) x mk) := by
      have a3 : ¬ x.op = 3 := by simpa using e3
      have a4 : ¬ x.op = 4 := by simpa using e4
      have a5 : ¬ x.op = 5 := by simpa using e5
      have a9 : ¬ x.op = 9 := by simpa using e9
      have a10 : ¬ x.op = 10 := by simpa using e10
      show _ = _
      unfold leakM
      rw [if_neg (by omega), if_neg a4, if_neg a5, if_neg a3]
    go_enter Tryd.func72, Tryd.ntmps72
    go_wp2_with (first | rw [HW.out] | fail)
    go_ret
    exact NumB.of HE.out HB.out

end Go.Proofs.YtmodonligaejhaaDoor

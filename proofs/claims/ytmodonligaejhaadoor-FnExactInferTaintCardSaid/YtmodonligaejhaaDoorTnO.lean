/- spec.l9Own and spec.l9Below, walked: the result of an instruction with its row; whether a row has all that another one has. -/
import Derived.Test.YtmodonligaejhaaDoorTnA
namespace Go.Proofs.YtmodonligaejhaaDoor
open Go.RowKit
set_option linter.unusedVariables false

/-- A number; nothing that was there has changed. -/
def NumB (z : Int) (w : World) (e : Ending) (w' : World) : Prop := e = .returned (.int .i64 z) ∧ Below w.heap.size w w'
theorem NumB.of {y z : Int} (h : y = z) {w w' : World} (hb : Below w.heap.size w w') : NumB z w (.returned (.int .i64 y)) w' := ⟨by rw [h], hb⟩
theorem regs_at {w : World} {D : Nat → Prop} {mk : Nat} {ra : Option Addr} (h : BAt w D (rowB mk) ra) (h0 : mk ≠ 0) : ∃ b o, ra = some ⟨b, o, none⟩ ∧ ∀ r, r < 14 → w.cell? ⟨b, o + r, none⟩ = some (.bool (mk.testBit r)) := by
  obtain ⟨b, o, e, _, _⟩ := h.2 0 _ (rowB_at h0 (by omega))
  refine ⟨b, o, e, fun r hr => ?_⟩
  obtain ⟨b', o', e', _, hc⟩ := h.2 r _ (rowB_at h0 hr)
  rw [e] at e'
  cases e'
  exact hc

set_option maxRecDepth 100000 in
set_option maxHeartbeats 8000000 in
/-- **spec.l9Own.** -/
theorem sOwn_one (m : Cd) (k : CK) (x : Ins) (mk : Nat) (ra : Option Addr) (rc : Nat) (w : World) (h : CL w m k) (hd : Decl m) (hx : InsT m.vars.length m.arrs.length x) (h0 : mk ≠ 0) (hr : BAt w (fun b => b < w.heap.size) (rowB mk) ra) :
    Calls Tryd.prog 39 #[aggC m k, aggI x, .slice ra 14 rc] w (NumB (leakM (secN m.vars) (secN m.arrs) x mk) w) := by
  obtain ⟨W, hW⟩ : ∃ W, (w.alloc (.cells (arrC m k) 30)).alloc (.cells (arrI x) 54) = W := ⟨_, rfl⟩
  have hB : Below w.heap.size w W := by rw [← hW]; exact ((Below.refl _ w).alloc (Nat.le_refl _) _).alloc (by simp) _
  have hX : BoxC W w.heap.size m k := by rw [← hW]; exact (BoxC.new w m k _).later (Below.heap_alloc _ _ _ (by simp))
  have hbx : W.heap[w.heap.size + 1]? = some (.cells (arrI x) 54 (0, 0)) := by
    have h1 := heap_alloc_new (w.alloc (.cells (arrC m k) 30)) (.cells (arrI x) 54)
    rw [World.size_alloc] at h1
    rw [← hW]; exact h1
  have x0 : W.cell? ⟨w.heap.size + 1, 0, none⟩ = some (.int .i64 x.op) := by rw [cell_at hbx]; rfl
  have x1 : W.cell? ⟨w.heap.size + 1, 1, none⟩ = some (.int .i64 x.fa) := by rw [cell_at hbx]; rfl
  have x2 : W.cell? ⟨w.heap.size + 1, 2, none⟩ = some (.int .i64 x.fb) := by rw [cell_at hbx]; rfl
  have x3 : W.cell? ⟨w.heap.size + 1, 3, none⟩ = some (.int .i64 x.fc) := by rw [cell_at hbx]; rfl
  have c0 := hX.c0
  have c1 := hX.c1
  have hc := h.below hB
  obtain ⟨tb, tO, rfl, hreg⟩ := regs_at (hr.below hB) h0
  have HREG := Lib.hid hreg
  have HV := Lib.hid (fun (n : Nat) (hn : n < m.vars.length) => label_at hc.1 hd.lv hn)
  have HA := Lib.hid (fun (n : Nat) (hn : n < m.arrs.length) => label_at hc.2.1 hd.la hn)
  have HX := Lib.hid hx
  have HW := Lib.hid hW
  have HB := Lib.hid hB
  have hnv := hd.nv
  have hna := hd.na
  clear h hd hx hr hX hbx hB hW hc hreg h0
  unfold arrC arrI at HW
  have HO : x.op = 3 ∨ x.op = 4 ∨ x.op = 5 ∨ x.op = 9 ∨ x.op = 10 ∨ ((x.op == 3) = false ∧ (x.op == 4) = false ∧ (x.op == 5) = false ∧ (x.op == 9) = false ∧ (x.op == 10) = false) := by
    simp only [beq_eq_false_iff_ne]
    omega
  rcases HO with ho | ho | ho | ho | ho | ⟨e3, e4, e5, e9, e10⟩
  · obtain ⟨bn, hb⟩ : ∃ q : Nat, x.fb = q := ⟨x.fb.toNat, by have := HX.out.rb (.inl ho); omega⟩
    have hbl : bn < 14 := by have := HX.out.rb (.inl ho); omega
    have hbI : (bn : Int) < 14 := by omega
    obtain ⟨an, ha⟩ : ∃ q : Nat, x.fa = q := ⟨x.fa.toNat, by have := HX.out.va ho; omega⟩
    have hal : an < m.vars.length := by have := HX.out.va ho; omega
    have haI : (an : Int) < m.vars.length := by omega
    have y2 := HREG.out bn hbl
    obtain ⟨z, vb, vo, hva, hvb, hvc, hz0, hz1, hzq⟩ := HV.out an hal
    have HL : Hid (leakM (secN m.vars) (secN m.arrs) x mk = if mk.testBit bn && !secN m.vars an then 1 else 0) := by
      show _ = _
      unfold leakM
      rw [if_neg (by omega), if_neg (by omega), if_neg (by omega), if_pos ho, hb, ha]; rfl
    rw [← hzq] at HL
    have e3 : (x.op == 3) = true := by simpa using ho
    rw [hb] at x2
    rw [ha] at x1
    rw [hva] at c0
    obtain ⟨p, hp⟩ : ∃ p, mk.testBit bn = p := ⟨_, rfl⟩
    obtain ⟨q, hq⟩ : ∃ q, (z % 2 == 1) = q := ⟨_, rfl⟩
    have HQ := Lib.hid hq
    rw [hp, hq] at HL
    rw [hp] at y2
    clear ho hb ha hva hvb hp hq hzq
    cases p
    · have HF : Hid (0 = leakM (secN m.vars) (secN m.arrs) x mk) := HL.out.symm
      go_enter Tryd.func39, Tryd.ntmps39
      go_wp2_with (first | rw [HW.out] | fail)
      go_ret
      exact NumB.of HF.out HB.out
    · cases q
      · have HF : Hid (1 = leakM (secN m.vars) (secN m.arrs) x mk) := HL.out.symm
        go_enter Tryd.func39, Tryd.ntmps39
        go_wp2_with (first | rw [HW.out] | fail)
        refine (sSecret_one z _ hz0 hz1).mono ?_
        rintro e w2 ⟨rfl, rfl⟩
        rw [HQ.out]
        go_wp2_with fail
        go_ret
        exact NumB.of HF.out HB.out
      · have HF : Hid (0 = leakM (secN m.vars) (secN m.arrs) x mk) := HL.out.symm
        go_enter Tryd.func39, Tryd.ntmps39
        go_wp2_with (first | rw [HW.out] | fail)
        refine (sSecret_one z _ hz0 hz1).mono ?_
        rintro e w2 ⟨rfl, rfl⟩
        rw [HQ.out]
        go_wp2_with fail
        go_ret
        exact NumB.of HF.out HB.out
  · obtain ⟨cn, hc⟩ : ∃ q : Nat, x.fc = q := ⟨x.fc.toNat, by have := HX.out.rc (.inl ho); omega⟩
    have hcl : cn < 14 := by have := HX.out.rc (.inl ho); omega
    have hcI : (cn : Int) < 14 := by omega
    have y3 := HREG.out cn hcl
    have HL : Hid (leakM (secN m.vars) (secN m.arrs) x mk = if mk.testBit cn then 4 else 0) := by
      show _ = _
      unfold leakM
      rw [if_neg (by omega), if_pos ho, hc]; rfl
    have e3 : (x.op == 3) = false := by rw [ho]; rfl
    have e4 : (x.op == 4) = true := by simpa using ho
    rw [hc] at x3
    obtain ⟨p, hp⟩ : ∃ p, mk.testBit cn = p := ⟨_, rfl⟩
    rw [hp] at y3 HL
    clear ho hc hp
    cases p
    · have HF : Hid (0 = leakM (secN m.vars) (secN m.arrs) x mk) := HL.out.symm
      go_enter Tryd.func39, Tryd.ntmps39
      go_wp2_with (first | rw [HW.out] | fail)
      go_ret
      exact NumB.of HF.out HB.out
    · have HF : Hid (4 = leakM (secN m.vars) (secN m.arrs) x mk) := HL.out.symm
      go_enter Tryd.func39, Tryd.ntmps39
      go_wp2_with (first | rw [HW.out] | fail)
      go_ret
      exact NumB.of HF.out HB.out
  · obtain ⟨bn, hb⟩ : ∃ q : Nat, x.fb = q := ⟨x.fb.toNat, by have := HX.out.rb (.inr (.inl ho)); omega⟩
    have hbl : bn < 14 := by have := HX.out.rb (.inr (.inl ho)); omega
    have hbI : (bn : Int) < 14 := by omega
    obtain ⟨cn, hc⟩ : ∃ q : Nat, x.fc = q := ⟨x.fc.toNat, by have := HX.out.rc (.inr (.inl ho)); omega⟩
    have hcl : cn < 14 := by have := HX.out.rc (.inr (.inl ho)); omega
    have hcI : (cn : Int) < 14 := by omega
    obtain ⟨an, ha⟩ : ∃ q : Nat, x.fa = q := ⟨x.fa.toNat, by have := HX.out.aa ho; omega⟩
    have hal : an < m.arrs.length := by have := HX.out.aa ho; omega
    have haI : (an : Int) < m.arrs.length := by omega
    have y2 := HREG.out bn hbl
    have y3 := HREG.out cn hcl
    obtain ⟨z, vb, vo, hva, hvb, hvc, hz0, hz1, hzq⟩ := HA.out an hal
    have HL : Hid (leakM (secN m.vars) (secN m.arrs) x mk = if mk.testBit bn then 4 else if mk.testBit cn && !secN m.arrs an then 1 else 0) := by
      show _ = _
      unfold leakM
      rw [if_neg (by omega), if_neg (by omega), if_pos ho, hb, hc, ha]; rfl
    rw [← hzq] at HL
    have e3 : (x.op == 3) = false := by rw [ho]; rfl
    have e4 : (x.op == 4) = false := by rw [ho]; rfl
    have e5 : (x.op == 5) = true := by simpa using ho
    rw [hb] at x2
    rw [hc] at x3
    rw [ha] at x1
    rw [hva] at c1
    obtain ⟨p, hp⟩ : ∃ p, mk.testBit bn = p := ⟨_, rfl⟩
    obtain ⟨p', hp'⟩ : ∃ p, mk.testBit cn = p := ⟨_, rfl⟩
    obtain ⟨q, hq⟩ : ∃ q, (z % 2 == 1) = q := ⟨_, rfl⟩
    have HQ := Lib.hid hq
    rw [hp, hp', hq] at HL
    rw [hp] at y2
    rw [hp'] at y3
    clear ho hb hc ha hva hvb hp hp' hq hzq
    cases p
    · cases p'
      · have HF : Hid (0 = leakM (secN m.vars) (secN m.arrs) x mk) := HL.out.symm
        go_enter Tryd.func39, Tryd.ntmps39
        go_wp2_with (first | rw [HW.out] | fail)
        go_ret
        exact NumB.of HF.out HB.out
      · cases q
        · have HF : Hid (1 = leakM (secN m.vars) (secN m.arrs) x mk) := HL.out.symm
          go_enter Tryd.func39, Tryd.ntmps39
          go_wp2_with (first | rw [HW.out] | fail)
          refine (sSecret_one z _ hz0 hz1).mono ?_
          rintro e w2 ⟨rfl, rfl⟩
          rw [HQ.out]
          go_wp2_with fail
          go_ret
          exact NumB.of HF.out HB.out
        · have HF : Hid (0 = leakM (secN m.vars) (secN m.arrs) x mk) := HL.out.symm
          go_enter Tryd.func39, Tryd.ntmps39
          go_wp2_with (first | rw [HW.out] | fail)
          refine (sSecret_one z _ hz0 hz1).mono ?_
          rintro e w2 ⟨rfl, rfl⟩
          rw [HQ.out]
          go_wp2_with fail
          go_ret
          exact NumB.of HF.out HB.out
    · have HF : Hid (4 = leakM (secN m.vars) (secN m.arrs) x mk) := HL.out.symm
      go_enter Tryd.func39, Tryd.ntmps39
      go_wp2_with (first | rw [HW.out] | fail)
      go_ret
      exact NumB.of HF.out HB.out
  · obtain ⟨an, ha⟩ : ∃ q : Nat, x.fa = q := ⟨x.fa.toNat, by have := HX.out.ra (.inr (.inl ho)); omega⟩
    have hal : an < 14 := by have := HX.out.ra (.inr (.inl ho)); omega
    have haI : (an : Int) < 14 := by omega
    have y1 := HREG.out an hal
    have HL : Hid (leakM (secN m.vars) (secN m.arrs) x mk = if mk.testBit an then 3 else 0) := by
      show _ = _
      unfold leakM
      rw [if_pos (by omega), ha]; rfl
    have e3 : (x.op == 3) = false := by rw [ho]; rfl
    have e4 : (x.op == 4) = false := by rw [ho]; rfl
    have e5 : (x.op == 5) = false := by rw [ho]; rfl
    have e9 : (x.op == 9) = true := by simpa using ho
    rw [ha] at x1
    obtain ⟨p, hp⟩ : ∃ p, mk.testBit an = p := ⟨_, rfl⟩
    rw [hp] at y1 HL
    clear ho ha hp
    cases p
    · have HF : Hid (0 = leakM (secN m.vars) (secN m.arrs) x mk) := HL.out.symm
      go_enter Tryd.func39, Tryd.ntmps39
      go_wp2_with (first | rw [HW.out] | fail)
      go_ret
      exact NumB.of HF.out HB.out
    · have HF : Hid (3 = leakM (secN m.vars) (secN m.arrs) x mk) := HL.out.symm
      go_enter Tryd.func39, Tryd.ntmps39
      go_wp2_with (first | rw [HW.out] | fail)
      go_ret
      exact NumB.of HF.out HB.out
  · obtain ⟨an, ha⟩ : ∃ q : Nat, x.fa = q := ⟨x.fa.toNat, by have := HX.out.ra (.inr (.inr ho)); omega⟩
    have hal : an < 14 := by have := HX.out.ra (.inr (.inr ho)); omega
    have haI : (an : Int) < 14 := by omega
    have y1 := HREG.out an hal
    have HL : Hid (leakM (secN m.vars) (secN m.arrs) x mk = if mk.testBit an then 3 else 0) := by
      show _ = _
      unfold leakM
      rw [if_pos (by omega), ha]; rfl
    have e3 : (x.op == 3) = false := by rw [ho]; rfl
    have e4 : (x.op == 4) = false := by rw [ho]; rfl
    have e5 : (x.op == 5) = false := by rw [ho]; rfl
    have e9 : (x.op == 9) = false := by rw [ho]; rfl
    have e10 : (x.op == 10) = true := by simpa using ho
    rw [ha] at x1
    obtain ⟨p, hp⟩ : ∃ p, mk.testBit an = p := ⟨_, rfl⟩
    rw [hp] at y1 HL
    clear ho ha hp
    cases p
    · have HF : Hid (0 = leakM (secN m.vars) (secN m.arrs) x mk) := HL.out.symm
      go_enter Tryd.func39, Tryd.ntmps39
      go_wp2_with (first | rw [HW.out] | fail)
      go_ret
      exact NumB.of HF.out HB.out
    · have HF : Hid (3 = leakM (secN m.vars) (secN m.arrs) x mk) := HL.out.symm
      go_enter Tryd.func39, Tryd.ntmps39
      go_wp2_with (first | rw [HW.out] | fail)
      go_ret
      exact NumB.of HF.out HB.out
  · have HF : Hid (0 = leakM (secN m.vars) (secN m.arrs) x mk) := by
      have a3 : ¬ x.op = 3 := by simpa using e3
      have a4 : ¬ x.op = 4 := by simpa using e4
      have a5 : ¬ x.op = 5 := by simpa using e5
      have a9 : ¬ x.op = 9 := by simpa using e9
      have a10 : ¬ x.op = 10 := by simpa using e10
      show _ = _
      unfold leakM
      rw [if_neg (by omega), if_neg a4, if_neg a5, if_neg a3]
    go_enter Tryd.func39, Tryd.ntmps39
    go_wp2_with (first | rw [HW.out] | fail)
    go_ret
    exact NumB.of HF.out HB.out

/-- Of the first k registers, those of a are among m's. -/
def SubTo (a m k : Nat) : Prop := ∀ r, r < k → a.testBit r = true → m.testBit r = true
theorem SubTo.succ {a m k : Nat} (h : SubTo a m k) (e : a.testBit k = true → m.testBit k = true) : SubTo a m (k + 1) := fun r hr => by
  by_cases hk : r = k
  · subst hk; exact e
  · exact h r (by omega)
theorem SubTo.all {a m : Nat} (h : SubTo a m 14) (ha : a < 32768) (h14 : m.testBit 14 = true) : Sub a m := fun b hb => by
  by_cases h1 : b < 14
  · exact h b h1 hb
  · by_cases h2 : b = 14
    · rw [h2]; exact h14
    · rw [bit_lt ha (by omega)] at hb; cases hb

set_option maxRecDepth 100000 in
set_option maxHeartbeats 4000000 in
/-- **spec.l9Below.** -/
theorem sBel_one (a mk : Nat) (ta ra : Option Addr) (tc n rc : Nat) (w : World) {D D' : Nat → Prop} (ht : BAt w D (rowB a) ta) (hr : BAt w D' (rowB mk) ra) (ha : a < 32768) (ha0 : a.testBit 14 = true) (hg : Gm mk) (hn : (rowB mk).length = n) :
    Calls Tryd.prog 46 #[.slice ta 14 tc, .slice ra n rc] w (fun e w' => ∃ b, e = .returned (.bool b) ∧ (b = true ↔ Sub a mk) ∧ w' = w) := by
  obtain ⟨tb, tO, rfl, hta⟩ := regs_at ht (bit_ne ha0)
  have HT := Lib.hid hta
  have HA := Lib.hid ha
  have HA0 := Lib.hid ha0
  have HG := Lib.hid hg
  by_cases h0 : mk = 0
  · have hn0 : n = 0 := by rw [← hn, h0]; rfl
    have HF : Hid (¬ Sub a mk) := fun h => by
      have := h 14 ha0
      rw [h0, Nat.zero_testBit] at this
      cases this
    subst hn0
    clear ht hr hta ha ha0 hg hn h0 HT
    go_enter Tryd.func46, Tryd.ntmps46
    go_wp2_with fail
    go_ret
    exact ⟨false, rfl, ⟨fun e => (by cases e), fun e => absurd e HF.out⟩, rfl⟩
  · have hn14 : n = 14 := by rw [← hn, rowB_len h0]
    subst hn14
    obtain ⟨rb, ro, rfl, hra⟩ := regs_at hr h0
    have HR := Lib.hid hra
    have H0 := Lib.hid h0
    clear ht hr hta ha ha0 hg hn h0 hra
    go_enter Tryd.func46, Tryd.ntmps46
    go_wp2_with fail
    go_loopw [5] (fun i wr => ∃ j : Nat, j ≤ 14 ∧ i = .int .i64 j ∧ Hid (SubTo a mk j) ∧ wr = w) (fun i _ => 14 - (intOf i).toNat)
    case atStart => exact ⟨0, Nat.zero_le _, rfl, (fun r hr => absurd hr (Nat.not_lt_zero _) : SubTo a mk 0), rfl⟩
    case round =>
      obtain ⟨j, hj, rfl, HS, rfl⟩ := hrel
      by_cases hlt : j < 14
      · have y0 := HT.out j hlt
        have y1 := HR.out j hlt
        have hjI : (j : Int) < 14 := by omega
        obtain ⟨p, hp⟩ : ∃ p, a.testBit j = p := ⟨_, rfl⟩
        obtain ⟨q, hq⟩ : ∃ q, mk.testBit j = q := ⟨_, rfl⟩
        rw [hp] at y0
        rw [hq] at y1
        have HP := Lib.hid hp
        have HQ := Lib.hid hq
        clear hp hq HT HR
        cases p
        case false =>
          have HS2 : Hid (SubTo a mk (j + 1)) := HS.out.succ fun e => by rw [HP.out] at e; cases e
          clear HS
          go_wp2_with fail
          go_roundw
          case rel => exact ⟨j + 1, by omega, by go_num, HS2, by first | rfl | trivial⟩
          case measure => simp [intOf]; omega
        case true =>
          cases q
          case false =>
            have HF : Hid (¬ Sub a mk) := fun h => by
              have := h j HP.out
              rw [HQ.out] at this
              cases this
            clear HS
            go_wp2_with fail
            go_ret
            exact ⟨false, rfl, ⟨fun e => (by cases e), fun e => absurd e HF.out⟩, rfl⟩
          case true =>
            have HS2 : Hid (SubTo a mk (j + 1)) := HS.out.succ fun _ => HQ.out
            clear HS
            go_wp2_with fail
            go_roundw
            case rel => exact ⟨j + 1, by omega, by go_num, HS2, by first | rfl | trivial⟩
            case measure => simp [intOf]; omega
      · obtain rfl : j = 14 := by omega
        have HF : Hid (Sub a mk) := HS.out.all HA.out (HG.out.pos H0.out)
        clear HS HT HR
        go_wp2_with fail
        go_ret
        exact ⟨true, rfl, ⟨fun _ => HF.out, fun _ => rfl⟩, rfl⟩

end Go.Proofs.YtmodonligaejhaaDoor

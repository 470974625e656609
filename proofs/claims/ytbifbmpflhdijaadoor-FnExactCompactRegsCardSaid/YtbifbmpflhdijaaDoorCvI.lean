/- The program's judgement of one instruction: fieldFits, fields, instrFits answer what the plain functions say; nothing that was there has changed. Condition: the table of forms lies as the program's text lays it. -/
import Derived.Test.YtbifbmpflhdijaaDoorCoB
import Derived.Deep.RegionHeld3
namespace Go.Proofs.YtbifbmpflhdijaaDoor
open Go.RowKit
set_option linter.unusedVariables false

theorem iVal_yes (n : Int) (w : World) (h0 : 0 ≤ n) (h1 : n ≤ 255) : Calls Tryd.prog 130 #[.int .i64 n] w fun e w' => e = .returned (.bool true) ∧ w = w' := by
  go_enter Tryd.func130, Tryd.ntmps130
  go_wp2_with fail
  go_ret
  exact ⟨rfl, rfl⟩
theorem iVal_no (n : Int) (w : World) (h : ¬ (0 ≤ n ∧ n ≤ 255)) : Calls Tryd.prog 130 #[.int .i64 n] w fun e w' => e = .returned (.bool false) ∧ w = w' := by
  by_cases h0 : 0 ≤ n
  · have h1 : ¬ n ≤ 255 := by omega
    go_enter Tryd.func130, Tryd.ntmps130
    go_wp2_with fail
    go_ret
    exact ⟨rfl, rfl⟩
  · go_enter Tryd.func130, Tryd.ntmps130
    go_wp2_with fail
    go_ret
    exact ⟨rfl, rfl⟩
theorem iVal_any (n : Int) (w : World) : Calls Tryd.prog 130 #[.int .i64 n] w fun e w' => e = .returned (.bool (decide (0 ≤ n) && decide (n ≤ 255))) ∧ w = w' := by
  by_cases h : 0 ≤ n ∧ n ≤ 255
  · rw [show (decide (0 ≤ n) && decide (n ≤ 255)) = true by simp; exact h]
    exact iVal_yes n w h.1 h.2
  · rw [show (decide (0 ≤ n) && decide (n ≤ 255)) = false by simp; omega]
    exact iVal_no n w h
theorem iIdx_any (i : Int) (a : Option Addr) (n c : Nat) (w : World) (hn : n ≤ maxLen) : Calls Tryd.prog 131 #[.int .i64 i, .slice a n c] w fun e w' => e = .returned (.bool (decide (0 ≤ i) && decide (i < n))) ∧ w = w' := by
  unfold maxLen at hn
  by_cases h0 : 0 ≤ i
  · by_cases h1 : i < n
    · rw [show (decide (0 ≤ i) && decide (i < n)) = true by simp; omega]
      go_enter Tryd.func131, Tryd.ntmps131
      go_wp2_with fail
      go_ret
      exact ⟨rfl, rfl⟩
    · rw [show (decide (0 ≤ i) && decide (i < n)) = false by simp; omega]
      go_enter Tryd.func131, Tryd.ntmps131
      go_wp2_with fail
      go_ret
      exact ⟨rfl, rfl⟩
  · rw [show (decide (0 ≤ i) && decide (i < n)) = false by simp; omega]
    go_enter Tryd.func131, Tryd.ntmps131
    go_wp2_with fail
    go_ret
    exact ⟨rfl, rfl⟩

set_option maxHeartbeats 4000000 in
theorem iFld_one (m : Cd) (k : CK) (kd : Nat) (h6 : kd ≤ 6) (n : Int) (w : World) (hv : m.vars.length ≤ maxLen) (ha : m.arrs.length ≤ maxLen) (hl : m.list.length ≤ maxLen) :
    Calls Tryd.prog 114 #[aggC m k, .int .i64 kd, .int .i64 n] w (YN (fldB m.vars.length m.arrs.length m.list.length kd n) w) := by
  have HV := Lib.hid hv
  have HA := Lib.hid ha
  unfold maxLen at hv ha hl
  have HB := Lib.hid ((Below.refl w.heap.size w).alloc (Nat.le_refl _) (.cells (arrC m k) 29))
  obtain ⟨nv, hnv⟩ : ∃ nv, m.vars.length = nv := ⟨_, rfl⟩
  obtain ⟨na, hna⟩ : ∃ na, m.arrs.length = na := ⟨_, rfl⟩
  obtain ⟨nl, hnl⟩ : ∃ nl, m.list.length = nl := ⟨_, rfl⟩
  unfold aggC
  unfold arrC at HB
  rw [hnv] at hv HB HV ⊢
  rw [hna] at ha HB HA ⊢
  rw [hnl] at hl HB ⊢
  clear hnv hna hnl
  obtain rfl | rfl | rfl | rfl | rfl | rfl | rfl : kd = 0 ∨ kd = 1 ∨ kd = 2 ∨ kd = 3 ∨ kd = 4 ∨ kd = 5 ∨ kd = 6 := by omega
  · by_cases g : n = 0
    · subst g
      go_enter Tryd.func114, Tryd.ntmps114
      go_wp2_with fail
      go_ret
      exact YN.of (by simp [fldB]) HB.out
    · have g2 : (n == 0) = false := by simpa using g
      have HF : Hid (false = fldB nv na nl 0 n) := by
        have : false = fldB nv na nl 0 n := by simp [fldB, g]
        exact this
      clear g
      go_enter Tryd.func114, Tryd.ntmps114
      go_wp2_with fail
      go_ret
      exact YN.of HF.out HB.out
  · by_cases g : 0 ≤ n
    · by_cases g2 : n < 14
      · go_enter Tryd.func114, Tryd.ntmps114
        go_wp2_with (fail)
        go_ret
        exact YN.of (by simp [fldB]; omega) HB.out
      · go_enter Tryd.func114, Tryd.ntmps114
        go_wp2_with (fail)
        go_ret
        exact YN.of (by simp [fldB]; omega) HB.out
    · go_enter Tryd.func114, Tryd.ntmps114
      go_wp2_with (fail)
      go_ret
      exact YN.of (by simp [fldB]; omega) HB.out
  · go_enter Tryd.func114, Tryd.ntmps114
    go_wp2_with (go_at_call 130; refine (iVal_any _ _).mono ?_; rintro e w' ⟨rfl, rfl⟩)
    go_ret
    exact YN.of (by simp [fldB]) HB.out
  · go_enter Tryd.func114, Tryd.ntmps114
    go_wp2_with (go_at_call 131; refine (iIdx_any _ _ _ _ _ HV.out).mono ?_; rintro e w' ⟨rfl, rfl⟩)
    go_ret
    exact YN.of (by simp [fldB]) HB.out
  · go_enter Tryd.func114, Tryd.ntmps114
    go_wp2_with (go_at_call 131; refine (iIdx_any _ _ _ _ _ HA.out).mono ?_; rintro e w' ⟨rfl, rfl⟩)
    go_ret
    exact YN.of (by simp [fldB]) HB.out
  · by_cases g : 4 ≤ n
    · by_cases g2 : n ≤ 10
      · go_enter Tryd.func114, Tryd.ntmps114
        go_wp2_with (fail)
        go_ret
        exact YN.of (by simp [fldB]; omega) HB.out
      · go_enter Tryd.func114, Tryd.ntmps114
        go_wp2_with (fail)
        go_ret
        exact YN.of (by simp [fldB]; omega) HB.out
    · go_enter Tryd.func114, Tryd.ntmps114
      go_wp2_with (fail)
      go_ret
      exact YN.of (by simp [fldB]; omega) HB.out
  · by_cases g : 0 ≤ n
    · by_cases g2 : n < nl
      · go_enter Tryd.func114, Tryd.ntmps114
        go_wp2_with (fail)
        go_ret
        exact YN.of (by simp [fldB]; omega) HB.out
      · go_enter Tryd.func114, Tryd.ntmps114
        go_wp2_with (fail)
        go_ret
        exact YN.of (by simp [fldB]; omega) HB.out
    · go_enter Tryd.func114, Tryd.ntmps114
      go_wp2_with (fail)
      go_ret
      exact YN.of (by simp [fldB]; omega) HB.out

/-- A box of an instruction's four fields. -/
def RowP4 (w : World) (b : Nat) (x : Ins) : Prop := ∃ T, w.heap[b]? = some (.cells #[.int .i64 x.fa, .int .i64 x.fb, .int .i64 x.fc, .int .i64 x.fd] T (0, 0))

set_option maxHeartbeats 2000000 in
theorem iFields_one (x : Ins) (w : World) :
    Calls Tryd.prog 113 #[.agg #[.int .i64 x.op, .int .i64 x.fa, .int .i64 x.fb, .int .i64 x.fc, .int .i64 x.fd]] w fun e w' => e = .returned (.agg #[.int .i64 x.fa, .int .i64 x.fb, .int .i64 x.fc, .int .i64 x.fd]) ∧ Below w.heap.size w w' := by
  go_enter Tryd.func113, Tryd.ntmps113
  go_wp2_with fail
  have hx := heap_alloc_new (w.alloc (.cells #[.int .i64 x.op, .int .i64 x.fa, .int .i64 x.fb, .int .i64 x.fc, .int .i64 x.fd] 50)) (.cells #[.int .i64 x.fa, .int .i64 x.fb, .int .i64 x.fc, .int .i64 x.fd] 118)
  rw [World.size_alloc] at hx
  have h0 := cellAtM hx 0
  have h1 := cellAtM hx 1
  have h2 := cellAtM hx 2
  have h3 := cellAtM hx 3
  exact bodyPost_ret (v := .agg #[.int .i64 x.fa, .int .i64 x.fb, .int .i64 x.fc, .int .i64 x.fd]) (by simp [results, Tryd.f113, go_sem, h0, h1, h2, h3]) rfl ⟨rfl, ((Below.refl _ w).alloc (Nat.le_refl _) _).alloc (by simp) _⟩

/-- The cells of the table of forms. -/
def frmCells : Array Value := ((List.range 14).flatMap fun p => [Value.string ⟨(nmT p).toArray⟩, .int .i64 (kdAt p 0), .int .i64 (kdAt p 1), .int .i64 (kdAt p 2), .int .i64 (kdAt p 3)]).toArray
/-- The table of forms lies as it was laid. -/
def TblF (w : World) : Prop := ∃ (t : TypeId) (fr : Nat × Nat), w.heap[(0 : Nat)]? = some (.cells frmCells t fr)
theorem TblF.cell {w : World} (h : TblF w) (i : Nat) : w.cell? ⟨0, i, none⟩ = frmCells[i]? := by
  obtain ⟨t, fr, h⟩ := h
  simp [World.cell?, h]
theorem TblF.lt {w : World} (h : TblF w) : 0 < w.heap.size := by
  obtain ⟨t, fr, hg⟩ := h
  exact (Array.getElem?_eq_some_iff.1 hg).1
theorem TblF.below {n : Nat} {A B : World} (h : TblF A) (hb : Below n A B) (hn : 0 < n) : TblF B := by
  obtain ⟨t, fr, hg⟩ := h
  exact ⟨t, fr, (hb.block _ hn).trans hg⟩
theorem frm_all : ∀ p : Fin 14, frmCells[p.val * 5]? = some (.string ⟨(nmT p.val).toArray⟩) ∧ frmCells[p.val * 5 + 1]? = some (.int .i64 (kdAt p.val 0)) ∧ frmCells[p.val * 5 + 1 + 1]? = some (.int .i64 (kdAt p.val 1)) ∧ frmCells[p.val * 5 + 1 + 2]? = some (.int .i64 (kdAt p.val 2)) ∧ frmCells[p.val * 5 + 1 + 3]? = some (.int .i64 (kdAt p.val 3)) := by
  intro p
  match p with
  | 0 | 1 | 2 | 3 | 4 | 5 | 6 | 7 | 8 | 9 | 10 | 11 | 12 | 13 => exact ⟨rfl, rfl, rfl, rfl, rfl⟩
theorem TblF.at {w : World} (h : TblF w) (p : Nat) (hp : p < 14) : w.cell? ⟨0, p * 5, none⟩ = some (.string ⟨(nmT p).toArray⟩) ∧ w.cell? ⟨0, p * 5 + 1, none⟩ = some (.int .i64 (kdAt p 0)) ∧ w.cell? ⟨0, p * 5 + 1 + 1, none⟩ = some (.int .i64 (kdAt p 1)) ∧ w.cell? ⟨0, p * 5 + 1 + 2, none⟩ = some (.int .i64 (kdAt p 2)) ∧ w.cell? ⟨0, p * 5 + 1 + 3, none⟩ = some (.int .i64 (kdAt p 3)) := by
  have h1 := frm_all ⟨p, hp⟩
  rw [h.cell, h.cell, h.cell, h.cell, h.cell]
  exact h1

/-- An element of an array of four kinds. -/
theorem ix4_0 (a b c d : Int) (v : World) : (Instr.index 121 (.agg #[.int .i64 a, .int .i64 b, .int .i64 c, .int .i64 d]) (.int .i64 0)).run Tryd.prog v = .ok (.int .i64 a) v := by kernel_rfl
theorem ix4_1 (a b c d : Int) (v : World) : (Instr.index 121 (.agg #[.int .i64 a, .int .i64 b, .int .i64 c, .int .i64 d]) (.int .i64 1)).run Tryd.prog v = .ok (.int .i64 b) v := by kernel_rfl
theorem ix4_2 (a b c d : Int) (v : World) : (Instr.index 121 (.agg #[.int .i64 a, .int .i64 b, .int .i64 c, .int .i64 d]) (.int .i64 2)).run Tryd.prog v = .ok (.int .i64 c) v := by kernel_rfl
theorem ix4_3 (a b c d : Int) (v : World) : (Instr.index 121 (.agg #[.int .i64 a, .int .i64 b, .int .i64 c, .int .i64 d]) (.int .i64 3)).run Tryd.prog v = .ok (.int .i64 d) v := by kernel_rfl

set_option maxRecDepth 100000 in
set_option maxHeartbeats 8000000 in
theorem iIns_one (m : Cd) (k : CK) (x : Ins) (w : World) (hv : m.vars.length ≤ maxLen) (ha : m.arrs.length ≤ maxLen) (hl : m.list.length ≤ maxLen) (hT : TblF w) :
    Calls Tryd.prog 84 #[aggC m k, .agg #[.int .i64 x.op, .int .i64 x.fa, .int .i64 x.fb, .int .i64 x.fc, .int .i64 x.fd]] w (YN (insB m.vars.length m.arrs.length m.list.length x) w) := by
  have HV := Lib.hid hv
  have HA := Lib.hid ha
  have HL := Lib.hid hl
  have HTT : Hid (∀ v, Below w.heap.size w v → TblF v) := fun v hv => hT.below hv hT.lt
  clear hv ha hl hT
  have HB := Lib.hid (((Below.refl w.heap.size w).alloc (Nat.le_refl _) (.cells (arrC m k) 29)).alloc (by simp) (.cells #[.int .i64 x.op, .int .i64 x.fa, .int .i64 x.fb, .int .i64 x.fc, .int .i64 x.fd] 50))
  by_cases g1 : x.op < 1
  · have HN : Hid (false = insB m.vars.length m.arrs.length m.list.length x) := ins_lo g1
    go_enter Tryd.func84, Tryd.ntmps84
    go_wp2_with fail
    go_ret
    exact YN.of HN.out HB.out
  by_cases g2 : 13 < x.op
  · have HN : Hid (false = insB m.vars.length m.arrs.length m.list.length x) := ins_hi g2
    go_enter Tryd.func84, Tryd.ntmps84
    go_wp2_with fail
    go_ret
    exact YN.of HN.out HB.out
  obtain ⟨p, hop⟩ : ∃ p : Nat, x.op = p := ⟨x.op.toNat, by omega⟩
  obtain ⟨xop, fa, fb, fc, fd⟩ := x
  simp only at hop g1 g2 HB
  subst hop
  obtain ⟨x, hx⟩ : ∃ x : Ins, x = ⟨p, fa, fb, fc, fd⟩ := ⟨_, rfl⟩
  have h13 : p < 14 := by omega
  have HX := Lib.hid hx
  have HBX := Lib.hid (BoxC.new w m k 29)
  have HN0 : Hid (∀ b, b = insB m.vars.length m.arrs.length m.list.length x → b = insB m.vars.length m.arrs.length m.list.length ⟨p, fa, fb, fc, fd⟩) := fun b h => by rw [← HX.out]; exact h
  clear hx
  go_enter Tryd.func84, Tryd.ntmps84
  go_wp2_with fail
  obtain ⟨W, hW⟩ : ∃ W, (w.alloc (.cells (arrC m k) 29)).alloc (.cells #[.int .i64 p, .int .i64 fa, .int .i64 fb, .int .i64 fc, .int .i64 fd] 50) = W := ⟨_, rfl⟩
  have hbx : BoxC W w.heap.size m k := by rw [← hW]; exact HBX.out.later (Below.heap_alloc _ _ _ (by simp))
  have hix : W.heap[w.heap.size + 1]? = some (.cells #[.int .i64 p, .int .i64 fa, .int .i64 fb, .int .i64 fc, .int .i64 fd] 50 (0, 0)) := by
    rw [← hW]
    have := heap_alloc_new (w.alloc (.cells (arrC m k) 29)) (.cells #[.int .i64 p, .int .i64 fa, .int .i64 fb, .int .i64 fc, .int .i64 fd] 50)
    rw [World.size_alloc] at this
    exact this
  unfold arrC at hW HB
  rw [hW] at HB ⊢
  clear hW HBX
  have HBX := Lib.hid hbx
  have HIX := Lib.hid hix
  clear hbx hix
  refine (iFields_one ⟨p, fa, fb, fc, fd⟩ W).mono ?_
  rintro e w1 ⟨rfl, hb1⟩
  have HB1 := Lib.hid (HB.out.trans (hb1.mono HB.out.size))
  have hx1 := HBX.out.below hb1 HBX.out.lt
  have hi1 := (hb1.block (w.heap.size + 1) (Array.getElem?_eq_some_iff.1 HIX.out).1).trans HIX.out
  have HX1 := Lib.hid hx1
  have hT1 := HTT.out _ (HB1.out.alloc HB1.out.size (.cells #[.int .i64 fa, .int .i64 fb, .int .i64 fc, .int .i64 fd] 118))
  have i0 : (w1.alloc (.cells #[.int .i64 fa, .int .i64 fb, .int .i64 fc, .int .i64 fd] 118)).cell? ⟨w.heap.size + 1, 0, none⟩ = some (.int .i64 p) := by rw [cell_of_row _ _ _ _ _ _ ((Below.heap_alloc w1 _ _ (Array.getElem?_eq_some_iff.1 hi1).1).trans hi1)]; rfl
  obtain ⟨_, t0, t1, t2, t3⟩ := hT1.at p h13
  have hB2 : Below w.heap.size w (w1.alloc (.cells #[.int .i64 fa, .int .i64 fb, .int .i64 fc, .int .i64 fd] 118)) := HB1.out.alloc HB1.out.size _
  have hP2 := heap_alloc_new w1 (.cells #[.int .i64 fa, .int .i64 fb, .int .i64 fc, .int .i64 fd] 118)
  have hX2 : BoxC (w1.alloc (.cells #[.int .i64 fa, .int .i64 fb, .int .i64 fc, .int .i64 fd] 118)) w.heap.size m k := hx1.later (Below.heap_alloc _ _ _ hx1.lt)
  have HB2 := Lib.hid hB2
  have HP2 := Lib.hid hP2
  have HX2 := Lib.hid hX2
  have hp0 : (0 : Int) ≤ (p : Int) := by omega
  have hp1 : (p : Int) < 14 := by omega
  clear hb1 hx1 hi1 HB HBX HIX hB2 hP2 hX2 hT1 HX1
  go_wp2_with fail
  obtain ⟨W2, hW2⟩ : ∃ W2, w1.alloc (.cells #[.int .i64 fa, .int .i64 fb, .int .i64 fc, .int .i64 fd] 118) = W2 := ⟨_, rfl⟩
  obtain ⟨pb, hpb⟩ : ∃ pb, w1.heap.size = pb := ⟨_, rfl⟩
  rw [hW2] at HB2 HP2 HX2 ⊢
  rw [hpb] at HP2 ⊢
  clear hW2 hpb i0 t0 t1 t2 t3
  have HQ : Hid (∀ v, Below W2.heap.size W2 v → (v.cell? ⟨w.heap.size, 0, none⟩ = some (.slice k.va m.vars.length k.vc) ∧ v.cell? ⟨w.heap.size, 1, none⟩ = some (.slice k.aa m.arrs.length k.ac) ∧ v.cell? ⟨w.heap.size, 2, none⟩ = some (.slice k.la m.list.length k.lc)) ∧ v.cell? ⟨pb, 0, none⟩ = some (.int .i64 fa) ∧ v.cell? ⟨pb, 1, none⟩ = some (.int .i64 fb) ∧ v.cell? ⟨pb, 2, none⟩ = some (.int .i64 fc) ∧ v.cell? ⟨pb, 3, none⟩ = some (.int .i64 fd)) := fun v hv => by
    have b := HX2.out.below hv HX2.out.lt
    have r := (hv.block pb (Array.getElem?_eq_some_iff.1 HP2.out).1).trans HP2.out
    exact ⟨⟨b.c0, b.c1, b.c2⟩, by rw [cell_of_row _ _ _ _ _ _ r]; rfl, by rw [cell_of_row _ _ _ _ _ _ r]; rfl, by rw [cell_of_row _ _ _ _ _ _ r]; rfl, by rw [cell_of_row _ _ _ _ _ _ r]; rfl⟩
  have HOP : Hid (x.op = p) := by
    have : x.op = p := by rw [HX.out]
    exact this
  have HP : Hid (x.part 0 = fa ∧ x.part 1 = fb ∧ x.part 2 = fc ∧ x.part 3 = fd) := by
    have : x.part 0 = fa ∧ x.part 1 = fb ∧ x.part 2 = fc ∧ x.part 3 = fd := by rw [HX.out]; exact ⟨rfl, rfl, rfl, rfl⟩
    exact this
  clear HX HTT HP2 HX2
  go_loopw [23] (fun i wr => ∃ j : Nat, j ≤ 4 ∧ i = .int .i64 j ∧ Hid (FldTo m.vars.length m.arrs.length m.list.length x j) ∧ Below W2.heap.size W2 wr) (fun i _ => 4 - (intOf i).toNat)
  case atStart => exact ⟨0, by omega, rfl, FldTo.zero _ _ _ _, Below.refl _ _⟩
  case round =>
    obtain ⟨j, hj, rfl, HF, hb⟩ := hrel
    have HBR := Lib.hid hb
    obtain ⟨⟨c0, c1, c2⟩, d0, d1, d2, d3⟩ := HQ.out wr hb
    clear hb
    have hsz2 := HBR.out.size
    by_cases hlt : j < 4
    · obtain rfl | rfl | rfl | rfl : j = 0 ∨ j = 1 ∨ j = 2 ∨ j = 3 := by omega
      · have HS5 : Hid (∀ v, Below W2.heap.size W2 v → (v.cell? ⟨w.heap.size, 0, none⟩ = some (.slice k.va m.vars.length k.vc) ∧ v.cell? ⟨w.heap.size, 1, none⟩ = some (.slice k.aa m.arrs.length k.ac) ∧ v.cell? ⟨w.heap.size, 2, none⟩ = some (.slice k.la m.list.length k.lc)) ∧ v.cell? ⟨pb, 0, none⟩ = some (.int .i64 fa)) := fun v hv => ⟨(HQ.out v hv).1, (HQ.out v hv).2.1⟩
        obtain ⟨kd, hkd⟩ : ∃ kd, kdAt p 0 = kd := ⟨_, rfl⟩
        have hk6 : kd ≤ 6 := by rw [← hkd]; exact kdAt_le p 0
        obtain ⟨q, hq⟩ : ∃ q, fldB m.vars.length m.arrs.length m.list.length kd fa = q := ⟨_, rfl⟩
        have HQ2 := Lib.hid hq
        have HE : Hid (fldB m.vars.length m.arrs.length m.list.length (kdAt x.op.toNat 0) (x.part 0) = q) := by
          have : fldB m.vars.length m.arrs.length m.list.length (kdAt x.op.toNat 0) (x.part 0) = q := by rw [HOP.out, HP.out.1, show ((p : Int)).toNat = p from by simp, hkd, hq]
          exact this
        rw [hkd]
        rw [show ((0 : Nat) : Int) = 0 from rfl]
        clear hkd hq
        have hix := fun v => ix4_0 kd (kdAt p 1) (kdAt p 2) (kdAt p 3) v
        go_wp2_with fail
        go_region_held3 (fun v => (v.cell? ⟨w.heap.size, 0, none⟩ = some (.slice k.va m.vars.length k.vc) ∧ v.cell? ⟨w.heap.size, 1, none⟩ = some (.slice k.aa m.arrs.length k.ac) ∧ v.cell? ⟨w.heap.size, 2, none⟩ = some (.slice k.la m.list.length k.lc)) ∧ v.cell? ⟨pb, 0, none⟩ = some (.int .i64 fa)) (first | assumption | exact ⟨⟨c0, c1, c2⟩, d0⟩)
          ((go_at_call 114; (with_reducible refine (iFld_one m k kd hk6 fa _ HV.out HA.out HL.out).mono ?_); rintro e w3 ⟨rfl, hb3⟩; rw [HQ2.out]; have hB3 : Below W2.heap.size W2 w3 := (HBR.out.drew.trans (hb3.mono hsz2)); have hS3 := HS5.out _ hB3))
        cases q
        case false =>
          have HN : Hid (false = insB m.vars.length m.arrs.length m.list.length ⟨p, fa, fb, fc, fd⟩) := HN0.out _ (ins_no (k := 0) (by omega) HE.out)
          go_wp2_with fail
          go_ret
          exact YN.of HN.out (HB2.out.trans (hB3.mono HB2.out.size))
        case true =>
          have HF2 : Hid (FldTo m.vars.length m.arrs.length m.list.length x (0 + 1)) := HF.succ HE.out
          go_wp2_with fail
          go_roundw
          case rel => exact ⟨0 + 1, by omega, by go_num, HF2, hB3⟩
          case measure => simp [intOf]
      · have HS5 : Hid (∀ v, Below W2.heap.size W2 v → (v.cell? ⟨w.heap.size, 0, none⟩ = some (.slice k.va m.vars.length k.vc) ∧ v.cell? ⟨w.heap.size, 1, none⟩ = some (.slice k.aa m.arrs.length k.ac) ∧ v.cell? ⟨w.heap.size, 2, none⟩ = some (.slice k.la m.list.length k.lc)) ∧ v.cell? ⟨pb, 1, none⟩ = some (.int .i64 fb)) := fun v hv => ⟨(HQ.out v hv).1, (HQ.out v hv).2.2.1⟩
        obtain ⟨kd, hkd⟩ : ∃ kd, kdAt p 1 = kd := ⟨_, rfl⟩
        have hk6 : kd ≤ 6 := by rw [← hkd]; exact kdAt_le p 1
        obtain ⟨q, hq⟩ : ∃ q, fldB m.vars.length m.arrs.length m.list.length kd fb = q := ⟨_, rfl⟩
        have HQ2 := Lib.hid hq
        have HE : Hid (fldB m.vars.length m.arrs.length m.list.length (kdAt x.op.toNat 1) (x.part 1) = q) := by
          have : fldB m.vars.length m.arrs.length m.list.length (kdAt x.op.toNat 1) (x.part 1) = q := by rw [HOP.out, HP.out.2.1, show ((p : Int)).toNat = p from by simp, hkd, hq]
          exact this
        rw [hkd]
        rw [show ((1 : Nat) : Int) = 1 from rfl]
        clear hkd hq
        have hix := fun v => ix4_1 (kdAt p 0) kd (kdAt p 2) (kdAt p 3) v
        go_wp2_with fail
        go_region_held3 (fun v => (v.cell? ⟨w.heap.size, 0, none⟩ = some (.slice k.va m.vars.length k.vc) ∧ v.cell? ⟨w.heap.size, 1, none⟩ = some (.slice k.aa m.arrs.length k.ac) ∧ v.cell? ⟨w.heap.size, 2, none⟩ = some (.slice k.la m.list.length k.lc)) ∧ v.cell? ⟨pb, 1, none⟩ = some (.int .i64 fb)) (first | assumption | exact ⟨⟨c0, c1, c2⟩, d1⟩)
          ((go_at_call 114; (with_reducible refine (iFld_one m k kd hk6 fb _ HV.out HA.out HL.out).mono ?_); rintro e w3 ⟨rfl, hb3⟩; rw [HQ2.out]; have hB3 : Below W2.heap.size W2 w3 := (HBR.out.drew.trans (hb3.mono hsz2)); have hS3 := HS5.out _ hB3))
        cases q
        case false =>
          have HN : Hid (false = insB m.vars.length m.arrs.length m.list.length ⟨p, fa, fb, fc, fd⟩) := HN0.out _ (ins_no (k := 1) (by omega) HE.out)
          go_wp2_with fail
          go_ret
          exact YN.of HN.out (HB2.out.trans (hB3.mono HB2.out.size))
        case true =>
          have HF2 : Hid (FldTo m.vars.length m.arrs.length m.list.length x (1 + 1)) := HF.succ HE.out
          go_wp2_with fail
          go_roundw
          case rel => exact ⟨1 + 1, by omega, by go_num, HF2, hB3⟩
          case measure => simp [intOf]
      · have HS5 : Hid (∀ v, Below W2.heap.size W2 v → (v.cell? ⟨w.heap.size, 0, none⟩ = some (.slice k.va m.vars.length k.vc) ∧ v.cell? ⟨w.heap.size, 1, none⟩ = some (.slice k.aa m.arrs.length k.ac) ∧ v.cell? ⟨w.heap.size, 2, none⟩ = some (.slice k.la m.list.length k.lc)) ∧ v.cell? ⟨pb, 2, none⟩ = some (.int .i64 fc)) := fun v hv => ⟨(HQ.out v hv).1, (HQ.out v hv).2.2.2.1⟩
        obtain ⟨kd, hkd⟩ : ∃ kd, kdAt p 2 = kd := ⟨_, rfl⟩
        have hk6 : kd ≤ 6 := by rw [← hkd]; exact kdAt_le p 2
        obtain ⟨q, hq⟩ : ∃ q, fldB m.vars.length m.arrs.length m.list.length kd fc = q := ⟨_, rfl⟩
        have HQ2 := Lib.hid hq
        have HE : Hid (fldB m.vars.length m.arrs.length m.list.length (kdAt x.op.toNat 2) (x.part 2) = q) := by
          have : fldB m.vars.length m.arrs.length m.list.length (kdAt x.op.toNat 2) (x.part 2) = q := by rw [HOP.out, HP.out.2.2.1, show ((p : Int)).toNat = p from by simp, hkd, hq]
          exact this
        rw [hkd]
        rw [show ((2 : Nat) : Int) = 2 from rfl]
        clear hkd hq
        have hix := fun v => ix4_2 (kdAt p 0) (kdAt p 1) kd (kdAt p 3) v
        go_wp2_with fail
        go_region_held3 (fun v => (v.cell? ⟨w.heap.size, 0, none⟩ = some (.slice k.va m.vars.length k.vc) ∧ v.cell? ⟨w.heap.size, 1, none⟩ = some (.slice k.aa m.arrs.length k.ac) ∧ v.cell? ⟨w.heap.size, 2, none⟩ = some (.slice k.la m.list.length k.lc)) ∧ v.cell? ⟨pb, 2, none⟩ = some (.int .i64 fc)) (first | assumption | exact ⟨⟨c0, c1, c2⟩, d2⟩)
          ((go_at_call 114; (with_reducible refine (iFld_one m k kd hk6 fc _ HV.out HA.out HL.out).mono ?_); rintro e w3 ⟨rfl, hb3⟩; rw [HQ2.out]; have hB3 : Below W2.heap.size W2 w3 := (HBR.out.drew.trans (hb3.mono hsz2)); have hS3 := HS5.out _ hB3))
        cases q
        case false =>
          have HN : Hid (false = insB m.vars.length m.arrs.length m.list.length ⟨p, fa, fb, fc, fd⟩) := HN0.out _ (ins_no (k := 2) (by omega) HE.out)
          go_wp2_with fail
          go_ret
          exact YN.of HN.out (HB2.out.trans (hB3.mono HB2.out.size))
        case true =>
          have HF2 : Hid (FldTo m.vars.length m.arrs.length m.list.length x (2 + 1)) := HF.succ HE.out
          go_wp2_with fail
          go_roundw
          case rel => exact ⟨2 + 1, by omega, by go_num, HF2, hB3⟩
          case measure => simp [intOf]
      · have HS5 : Hid (∀ v, Below W2.heap.size W2 v → (v.cell? ⟨w.heap.size, 0, none⟩ = some (.slice k.va m.vars.length k.vc) ∧ v.cell? ⟨w.heap.size, 1, none⟩ = some (.slice k.aa m.arrs.length k.ac) ∧ v.cell? ⟨w.heap.size, 2, none⟩ = some (.slice k.la m.list.length k.lc)) ∧ v.cell? ⟨pb, 3, none⟩ = some (.int .i64 fd)) := fun v hv => ⟨(HQ.out v hv).1, (HQ.out v hv).2.2.2.2⟩
        obtain ⟨kd, hkd⟩ : ∃ kd, kdAt p 3 = kd := ⟨_, rfl⟩
        have hk6 : kd ≤ 6 := by rw [← hkd]; exact kdAt_le p 3
        obtain ⟨q, hq⟩ : ∃ q, fldB m.vars.length m.arrs.length m.list.length kd fd = q := ⟨_, rfl⟩
        have HQ2 := Lib.hid hq
        have HE : Hid (fldB m.vars.length m.arrs.length m.list.length (kdAt x.op.toNat 3) (x.part 3) = q) := by
          have : fldB m.vars.length m.arrs.length m.list.length (kdAt x.op.toNat 3) (x.part 3) = q := by rw [HOP.out, HP.out.2.2.2, show ((p : Int)).toNat = p from by simp, hkd, hq]
          exact this
        rw [hkd]
        rw [show ((3 : Nat) : Int) = 3 from rfl]
        clear hkd hq
        have hix := fun v => ix4_3 (kdAt p 0) (kdAt p 1) (kdAt p 2) kd v
        go_wp2_with fail
        go_region_held3 (fun v => (v.cell? ⟨w.heap.size, 0, none⟩ = some (.slice k.va m.vars.length k.vc) ∧ v.cell? ⟨w.heap.size, 1, none⟩ = some (.slice k.aa m.arrs.length k.ac) ∧ v.cell? ⟨w.heap.size, 2, none⟩ = some (.slice k.la m.list.length k.lc)) ∧ v.cell? ⟨pb, 3, none⟩ = some (.int .i64 fd)) (first | assumption | exact ⟨⟨c0, c1, c2⟩, d3⟩)
          ((go_at_call 114; (with_reducible refine (iFld_one m k kd hk6 fd _ HV.out HA.out HL.out).mono ?_); rintro e w3 ⟨rfl, hb3⟩; rw [HQ2.out]; have hB3 : Below W2.heap.size W2 w3 := (HBR.out.drew.trans (hb3.mono hsz2)); have hS3 := HS5.out _ hB3))
        cases q
        case false =>
          have HN : Hid (false = insB m.vars.length m.arrs.length m.list.length ⟨p, fa, fb, fc, fd⟩) := HN0.out _ (ins_no (k := 3) (by omega) HE.out)
          go_wp2_with fail
          go_ret
          exact YN.of HN.out (HB2.out.trans (hB3.mono HB2.out.size))
        case true =>
          have HF2 : Hid (FldTo m.vars.length m.arrs.length m.list.length x (3 + 1)) := HF.succ HE.out
          go_wp2_with fail
          go_roundw
          case rel => exact ⟨3 + 1, by omega, by go_num, HF2, hB3⟩
          case measure => simp [intOf]
    · obtain rfl : j = 4 := by omega
      have HN : Hid (true = insB m.vars.length m.arrs.length m.list.length ⟨p, fa, fb, fc, fd⟩) := HN0.out _ (HF.out.all (by rw [HOP.out]; omega) (by rw [HOP.out]; omega))
      clear HF
      go_wp2_with fail
      go_ret
      exact YN.of HN.out (HB2.out.trans (HBR.out.mono HB2.out.size))

end Go.Proofs.YtbifbmpflhdijaaDoor

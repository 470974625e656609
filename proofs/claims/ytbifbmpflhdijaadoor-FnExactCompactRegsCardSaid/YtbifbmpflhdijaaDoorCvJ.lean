/- The program's CodeValid, walked: it answers what the plain function says; nothing that was there has changed. Condition: the table of forms lies as the program's text lays it. -/
import Derived.Test.YtbifbmpflhdijaaDoorCvI
import Derived.Test.YtbifbmpflhdijaaDoorCvU
import Derived.Test.YtbifbmpflhdijaaDoorImD
namespace Go.Proofs.YtbifbmpflhdijaaDoor
open Go.RowKit
set_option linter.unusedVariables false

set_option maxHeartbeats 2000000 in
theorem iDecl_one (m : Cd) (k : CK) (w : World) :
    Calls Tryd.prog 82 #[aggC m k] w fun e w' => e = .returned (.agg #[.slice k.va m.vars.length k.vc, .slice k.aa m.arrs.length k.ac, .slice none 0 0]) ∧ Below w.heap.size w w' := by
  go_enter Tryd.func82, Tryd.ntmps82
  go_wp2_with fail
  have hx := heap_alloc_new (w.alloc (.cells (arrC m k) 29)) (.cells #[.slice k.va m.vars.length k.vc, .slice k.aa m.arrs.length k.ac, .slice none 0 0] 86)
  rw [World.size_alloc] at hx
  have h0 := cellAtM hx 0
  have h1 := cellAtM hx 1
  have h2 := cellAtM hx 2
  unfold arrC at h0 h1 h2
  exact bodyPost_ret (v := .agg #[.slice k.va m.vars.length k.vc, .slice k.aa m.arrs.length k.ac, .slice none 0 0]) (by simp [results, Tryd.f82, go_sem, h0, h1, h2]) rfl ⟨rfl, ((Below.refl _ w).alloc (Nat.le_refl _) _).alloc (by simp) _⟩

/-- What the search needs of its world: the code's box, the code, the table. -/
structure SrW (m : Cd) (k : CK) (cb : Nat) (w : World) : Prop where
  box : BoxC w cb m k
  cl : CL w m k
  tbl : TblF w
theorem SrW.below {m : Cd} {k : CK} {cb : Nat} {w w' : World} (h : SrW m k cb w) (hb : Below w.heap.size w w') : SrW m k cb w' := ⟨h.box.below hb h.box.lt, h.cl.below hb, h.tbl.below hb h.tbl.lt⟩

set_option maxHeartbeats 4000000 in
theorem iClo_one (m : Cd) (k : CK) (cb : Nat) (x : Ins) (w : World) (h : SrW m k cb w) :
    Calls Tryd.prog 83 #[.agg #[.int .i64 x.op, .int .i64 x.fa, .int .i64 x.fb, .int .i64 x.fc, .int .i64 x.fd], .pointer (some ⟨cb, 0, none⟩)] w (YN (!insB m.vars.length m.arrs.length m.list.length x) w) := by
  have hw : w.heap.size ≤ w.heap.size := Nat.le_refl _
  have hS := h.below ((Below.refl w.heap.size w).alloc (Nat.le_refl _) (.cells #[.int .i64 x.op, .int .i64 x.fa, .int .i64 x.fb, .int .i64 x.fc, .int .i64 x.fd] 50))
  have c0 := hS.box.c0
  have c1 := hS.box.c1
  have c2 := hS.box.c2
  have HS := Lib.hid hS
  have HB := Lib.hid ((Below.refl w.heap.size w).alloc (Nat.le_refl _) (.cells #[.int .i64 x.op, .int .i64 x.fa, .int .i64 x.fb, .int .i64 x.fc, .int .i64 x.fd] 50))
  clear hS h
  obtain ⟨q, hq⟩ : ∃ q, insB m.vars.length m.arrs.length m.list.length x = q := ⟨_, rfl⟩
  rw [hq]
  have HQ := Lib.hid hq
  clear hq
  go_enter Tryd.func83, Tryd.ntmps83
  go_wp2_with fail
  refine (iIns_one m k x _ HS.out.cl.1.1 HS.out.cl.2.1.1 HS.out.cl.2.2.1 HS.out.tbl).mono ?_
  rintro e w2 ⟨rfl, hb2⟩
  rw [HQ.out]
  have HB2 := Lib.hid (HB.out.trans (hb2.mono HB.out.size))
  clear hb2
  cases q
  all_goals
    go_wp2_with fail
    go_ret
    exact YN.of rfl HB2.out

/-- The answer of a search for an instruction that is not valid. -/
def FoundI (m : Cd) (w : World) (e : Ending) (w' : World) : Prop := ∃ i : Int, e = .returned (.int .i64 i) ∧ (0 ≤ i ↔ m.list.all (insB m.vars.length m.arrs.length m.list.length) = false) ∧ Below w.heap.size w w'

set_option maxHeartbeats 8000000 in
theorem iIxF_one (m : Cd) (k : CK) (cb : Nat) (w : World) (h : SrW m k cb w) :
    Calls Tryd.prog 115 #[.slice k.la m.list.length k.lc, .func (.func 83) #[] #[.pointer (some ⟨cb, 0, none⟩)]] w (FoundI m w) := by
  have hm := h.cl.2.2.1
  unfold maxLen at hm
  have HS : Hid (∀ v, Below w.heap.size w v → SrW m k cb v) := fun v hv => h.below hv
  obtain ⟨n, hn⟩ : ∃ n, m.list.length = n := ⟨_, rfl⟩
  have HN := Lib.hid hn
  rw [hn] at hm ⊢
  clear h hn
  go_enter Tryd.func115, Tryd.ntmps115
  go_wp2_with fail
  go_loopw [8] (fun i wr => ∃ j : Nat, j ≤ n ∧ i = .int .i64 j ∧ Hid (InsTo m.vars.length m.arrs.length m.list.length m.list j) ∧ Below w.heap.size w wr) (fun i _ => n - (intOf i).toNat)
  case atStart => exact ⟨0, Nat.zero_le _, rfl, (fun j x hj => absurd hj (Nat.not_lt_zero _) : InsTo m.vars.length m.arrs.length m.list.length m.list 0), Below.refl _ _⟩
  case round =>
    obtain ⟨j, hj, rfl, HI, hb⟩ := hrel
    have HBR := Lib.hid hb
    have HSR := Lib.hid (HS.out wr hb)
    clear hb
    by_cases hlt : j < n
    · obtain ⟨x, b, o, hx, ha, hbl, e0, e1, e2, e3, e4⟩ := HSR.out.cl.at (i := j) (by rw [HN.out]; exact hlt)
      rw [ha]
      have HXX := Lib.hid hx
      have hsz := HBR.out.size
      clear hx ha HS
      obtain ⟨q, hq⟩ : ∃ q, insB m.vars.length m.arrs.length m.list.length x = q := ⟨_, rfl⟩
      have HQ := Lib.hid hq
      clear hq
      go_wp2_with fail
      refine (iClo_one m k cb x wr HSR.out).mono ?_
      rintro e w3 ⟨rfl, hb3⟩
      rw [HQ.out]
      have HB3 : Hid (Below w.heap.size w w3) := HBR.out.trans (hb3.mono hsz)
      clear hb3
      cases q
      case false =>
        have HF : Hid (m.list.all (insB m.vars.length m.arrs.length m.list.length) = false) := inss_no HXX.out HQ.out
        go_wp2_with fail
        go_ret
        exact ⟨_, rfl, ⟨fun _ => HF.out, fun _ => by omega⟩, HB3.out⟩
      case true =>
        have HI2 : Hid (InsTo m.vars.length m.arrs.length m.list.length m.list (j + 1)) := HI.out.succ HXX.out HQ.out
        go_wp2_with fail
        go_roundw
        case rel => exact ⟨j + 1, by omega, by go_num, HI2, HB3.out⟩
        case measure => simp [intOf]; omega
    · obtain rfl : j = n := by omega
      have HA : Hid (m.list.all (insB m.vars.length m.arrs.length m.list.length) = true) := InsTo.all (by rw [HN.out]; rw [HN.out] at HI; exact HI.out)
      clear HI HS
      go_wp2_with fail
      go_ret
      exact ⟨-1, rfl, ⟨fun h => absurd h (by omega), fun h => by rw [HA.out] at h; cases h⟩, HBR.out⟩

set_option maxHeartbeats 4000000 in
theorem iCon_one (m : Cd) (k : CK) (cb : Nat) (w : World) (h : SrW m k cb w) :
    Calls Tryd.prog 85 #[.slice k.la m.list.length k.lc, .func (.func 83) #[] #[.pointer (some ⟨cb, 0, none⟩)]] w (YN (!m.list.all (insB m.vars.length m.arrs.length m.list.length)) w) := by
  have H := Lib.hid h
  clear h
  go_enter Tryd.func85, Tryd.ntmps85
  go_wp2_with fail
  refine (iIxF_one m k cb w H.out).mono ?_
  rintro e w' ⟨i, rfl, hi, hb⟩
  have HI := Lib.hid hi
  have HB := Lib.hid hb
  clear hi hb
  by_cases h0 : 0 ≤ i
  · have HD : Hid (true = !m.list.all (insB m.vars.length m.arrs.length m.list.length)) := by show true = _; rw [HI.out.1 h0]; rfl
    go_wp2_with fail
    go_ret
    exact YN.of HD.out HB.out
  · have HD : Hid (false = !m.list.all (insB m.vars.length m.arrs.length m.list.length)) := by
      show false = _
      cases hq : m.list.all (insB m.vars.length m.arrs.length m.list.length)
      · exact absurd (HI.out.2 hq) h0
      · rfl
    have d0 : decide (0 ≤ i) = false := decide_eq_false h0
    go_wp2_with fail
    go_ret
    exact YN.of HD.out HB.out

set_option maxRecDepth 100000 in
set_option maxHeartbeats 8000000 in
/-- **impl.CodeValid.** -/
theorem iCV_one (m : Cd) (k : CK) (w : World) (h : CL w m k) (hT : TblF w) :
    Calls Tryd.prog 36 #[aggC m k] w (YN (codeB m) w) := by
  have hl := h.2.2.1
  have HVL := Lib.hid h.1.1
  have HAL := Lib.hid h.2.1.1
  have hmv := h.1.1
  have hma := h.2.1.1
  unfold maxLen at hl hmv hma
  have H : Hid (∀ v, Below w.heap.size w v → CL v m k ∧ TblF v) := fun v hv => ⟨h.below hv, hT.below hv hT.lt⟩
  clear h hT
  have HB := Lib.hid ((Below.refl w.heap.size w).alloc (Nat.le_refl _) (.cells (arrC m k) 29))
  have HX := Lib.hid (BoxC.new w m k 29)
  go_enter Tryd.func36, Tryd.ntmps36
  go_wp2_with fail
  obtain ⟨W, hW⟩ : ∃ W, w.alloc (.cells (arrC m k) 29) = W := ⟨_, rfl⟩
  unfold arrC at hW
  rw [hW] at HB HX ⊢
  clear hW
  refine (iDecl_one m k W).mono ?_
  rintro e w1 ⟨rfl, hb1⟩
  have HB1 := Lib.hid (HB.out.trans (hb1.mono HB.out.size))
  have HX1 := Lib.hid (HX.out.below hb1 HX.out.lt)
  clear hb1 HX HB
  go_wp2_with fail
  have hc := (H.out w1 HB1.out).1
  refine (iHeads_raw m.heads ⟨k.va, k.vc, k.aa, k.ac, none, 0⟩ maxLen maxLen (fun b => b < w1.heap.size) w1 HVL.out (Nat.le_refl _) hc.ints.1 HAL.out (Nat.le_refl _) hc.ints.2 (fun _ x => x)).mono ?_
  rintro e w2 ⟨rfl, hb2⟩
  have HB2 := Lib.hid (HB1.out.trans (hb2.mono HB1.out.size))
  have HX2 := Lib.hid (HX1.out.below hb2 HX1.out.lt)
  clear hb2 hc HX1 HB1
  have x2 := HX2.out.c2
  cases hq : headsB m.heads
  case false =>
    have HN : Hid (false = codeB m) := codeB_no1 hq
    clear hq
    go_wp2_with fail
    go_ret
    exact YN.of HN.out HB2.out
  case true =>
  have HQ := Lib.hid hq
  clear hq
  obtain ⟨n, hn⟩ : ∃ n, m.list.length = n := ⟨_, rfl⟩
  rw [hn] at hl x2 ⊢
  have HN := Lib.hid hn
  by_cases g1 : n < 1
  · have HNO : Hid (false = codeB m) := codeB_no2 (by rw [hn]; omega)
    clear hn
    go_wp2_with fail
    go_ret
    exact YN.of HNO.out HB2.out
  by_cases g2 : 400 < n
  · have HNO : Hid (false = codeB m) := codeB_no2 (by rw [hn]; omega)
    clear hn
    go_wp2_with fail
    go_ret
    exact YN.of HNO.out HB2.out
  obtain ⟨x, b, o, hx, ha, hbl, e0, e1, e2, e3, e4⟩ := (H.out w2 HB2.out).1.at (i := n - 1) (by rw [hn]; omega)
  have HLB : Hid (lastB m.list = (decide (x.op = 13) || decide (x.op = 8))) := lastB_at (by rw [hn]; exact hx)
  have HSR : Hid (SrW m k w.heap.size w2) := ⟨HX2.out, (H.out w2 HB2.out).1, (H.out w2 HB2.out).2⟩
  have HCA : Hid (∀ v, SrW m k w.heap.size v → Calls Tryd.prog 85 #[.slice (some ⟨b, o, none⟩) n k.lc, .func (.func 83) #[] #[.pointer (some ⟨w.heap.size, 0, none⟩)]] v (YN (!m.list.all (insB m.vars.length m.arrs.length m.list.length)) v)) := fun v hv => by
    have h1 := iCon_one m k w.heap.size v hv
    rw [HN.out, ha] at h1
    rw [← HN.out] at h1 ⊢
    exact h1
  rw [ha] at x2
  have hi0 : (0 : Int) ≤ (n : Int) - 1 := by omega
  have hi1 : (n : Int) - 1 < (n : Int) := by omega
  have hi2 : ((n : Int) - 1).toNat = n - 1 := by omega
  obtain ⟨q, hqa⟩ : ∃ q, m.list.all (insB m.vars.length m.arrs.length m.list.length) = q := ⟨_, rfl⟩
  have HQA := Lib.hid hqa
  clear hn hx ha e1 e2 e3 e4 hqa H
  go_wp2_with fail
  refine (HCA.out _ HSR.out).mono ?_
  rintro e w3 ⟨rfl, hb3⟩
  rw [HQA.out]
  have HB3 := Lib.hid (HB2.out.trans (hb3.mono HB2.out.size))
  clear hb3 x2 e0
  cases q
  case false =>
    have HNO : Hid (false = codeB m) := codeB_no3 HQA.out
    go_wp2_with fail
    go_ret
    exact YN.of HNO.out HB3.out
  case true =>
    have HY : Hid (lastB m.list = codeB m) := codeB_yes HQ.out (by rw [HN.out]; omega) (by rw [HN.out]; omega) HQA.out
    by_cases h13 : x.op = 13
    · have HYY : Hid (true = codeB m) := by
        have : true = codeB m := by rw [← HY.out, HLB.out, h13]; rfl
        exact this
      have b13 : (x.op == 13) = true := by simpa using h13
      clear h13
      go_wp2_with fail
      go_ret
      exact YN.of HYY.out HB3.out
    · have b13 : (x.op == 13) = false := by simpa using h13
      by_cases h8 : x.op = 8
      · have HYY : Hid (true = codeB m) := by
          have : true = codeB m := by rw [← HY.out, HLB.out, h8]; rfl
          exact this
        have b8 : (x.op == 8) = true := by simpa using h8
        clear h13 h8
        go_wp2_with fail
        go_ret
        exact YN.of HYY.out HB3.out
      · have b8 : (x.op == 8) = false := by simpa using h8
        have HYY : Hid (false = codeB m) := by
          have : false = codeB m := by rw [← HY.out, HLB.out, decide_eq_false h13, decide_eq_false h8]; rfl
          exact this
        clear h13 h8
        go_wp2_with fail
        go_ret
        exact YN.of HYY.out HB3.out

end Go.Proofs.YtbifbmpflhdijaaDoor

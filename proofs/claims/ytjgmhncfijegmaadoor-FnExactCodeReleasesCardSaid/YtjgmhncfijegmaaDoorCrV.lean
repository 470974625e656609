/- CodeReleases, the model's and the program's, walked: both answer whether code is valid and has a release; nothing that was there changes. -/
import Derived.Test.YtjgmhncfijegmaaDoorCvU
import Derived.Test.YtjgmhncfijegmaaDoorCvJ
namespace Go.Proofs.YtjgmhncfijegmaaDoor
open Go.RowKit
set_option linter.unusedVariables false

/-- None of the first k instructions is a release. -/
def NoRel (l : List Ins) (k : Nat) : Prop := ∀ (j : Nat) (x : Ins), j < k → l[j]? = some x → x.op ≠ 11
theorem NoRel.succ {l : List Ins} {k : Nat} {x : Ins} (h : NoRel l k) (hx : l[k]? = some x) (e : x.op ≠ 11) : NoRel l (k + 1) := fun j y hj hy => by
  by_cases hk : j = k
  · subst hk
    rw [hx] at hy
    cases hy
    exact e
  · exact h j y (by omega) hy
def relL (l : List Ins) : Bool := l.any fun x => x.op == 11
theorem relL_no {l : List Ins} (h : NoRel l l.length) : relL l = false := by
  unfold relL
  rw [List.any_eq_false]
  intro x hx
  obtain ⟨i, hi, rfl⟩ := List.mem_iff_getElem.1 hx
  simpa using h i _ hi (List.getElem?_eq_getElem hi)
theorem relL_yes {l : List Ins} {k : Nat} {x : Ins} (hx : l[k]? = some x) (e : x.op = 11) : relL l = true := by
  unfold relL
  rw [List.any_eq_true]
  exact ⟨x, List.mem_of_getElem? hx, by simpa using e⟩
/-- What CodeReleases answers. -/
def relB (m : Cd) : Bool := codeB m && relL m.list
theorem relB_no {m : Cd} (h : codeB m = false) : false = relB m := by unfold relB; rw [h]; rfl
theorem relB_yes {m : Cd} (h : codeB m = true) {b : Bool} (h2 : relL m.list = b) : b = relB m := by unfold relB; rw [h, h2]; rfl

set_option maxRecDepth 100000 in
set_option maxHeartbeats 4000000 in
/-- **spec.CodeReleases.** -/
theorem sCR_one (m : Cd) (k : CK) (w : World) (h : CL w m k) : Calls Tryd.prog 25 #[aggC m k] w (YN (relB m) w) := by
  obtain ⟨W, hW⟩ : ∃ W, w.alloc (.cells (arrC m k) 30) = W := ⟨_, rfl⟩
  have hB : Below w.heap.size w W := by rw [← hW]; exact (Below.refl _ w).alloc (Nat.le_refl _) _
  have hX : BoxC W w.heap.size m k := by rw [← hW]; exact BoxC.new _ _ _ _
  have H : Hid (∀ v, Below W.heap.size W v → BoxC v w.heap.size m k ∧ CL v m k) := fun v hv => ⟨hX.below hv hX.lt, (h.below hB).below hv⟩
  have c0 := hX.c0
  have c1 := hX.c1
  have c2 := hX.c2
  have hl := h.2.2.1
  unfold maxLen at hl
  have HW := Lib.hid hW
  have HB := Lib.hid hB
  unfold arrC at HW
  have HV := Lib.hid (sCV_one m k W (h.below hB))
  clear h hB hX hW
  go_enter Tryd.func25, Tryd.ntmps25
  go_wp2_with (first | rw [HW.out] | fail)
  refine HV.out.mono ?_
  rintro e w2 ⟨rfl, hb2⟩
  have HB2 : Hid (Below w.heap.size w w2) := HB.out.trans (hb2.mono HB.out.size)
  have HL2 : Hid (Below W.heap.size W w2) := hb2
  obtain ⟨q, hq⟩ : ∃ q, codeB m = q := ⟨_, rfl⟩
  have HQ := Lib.hid hq
  rw [hq]
  obtain ⟨n, hn⟩ : ∃ n, m.list.length = n := ⟨_, rfl⟩
  have HN := Lib.hid hn
  rw [hn] at hl
  clear hb2 hq HV c0 c1 c2 hn
  cases q
  case false =>
    have HF : Hid (false = relB m) := relB_no HQ.out
    go_wp2_with fail
    go_ret
    exact YN.of HF.out HB2.out
  case true =>
    go_wp2_with fail
    go_loopw [3] (fun i wr => ∃ j : Nat, j ≤ n ∧ i = .int .i64 j ∧ Hid (NoRel m.list j) ∧ wr = w2) (fun i _ => n - (intOf i).toNat)
    case atStart => exact ⟨0, Nat.zero_le _, rfl, (fun j x hj => absurd hj (Nat.not_lt_zero _) : NoRel m.list 0), rfl⟩
    case round =>
      obtain ⟨j, hj, rfl, HI, rfl⟩ := hrel
      have x2 := (H.out _ HL2.out).1.c2
      rw [HN.out] at x2
      by_cases hlt : j < n
      · obtain ⟨x, b, o, hx, ha, hbl, e0, e1, e2, e3, e4⟩ := (H.out _ HL2.out).2.at (i := j) (by rw [HN.out]; exact hlt)
        rw [ha] at x2
        have HXX := Lib.hid hx
        clear hx ha H e1 e2 e3 e4 hbl
        by_cases h11 : x.op = 11
        · have HY : Hid (true = relB m) := relB_yes HQ.out (relL_yes HXX.out h11)
          have b11 : (x.op == 11) = true := by simpa using h11
          clear h11
          go_wp2_with fail
          go_ret
          exact YN.of HY.out HB2.out
        · have HI2 : Hid (NoRel m.list (j + 1)) := HI.out.succ HXX.out h11
          have b11 : (x.op == 11) = false := by simpa using h11
          clear h11
          go_wp2_with fail
          go_roundw
          case rel => exact ⟨j + 1, by omega, by go_num, HI2, trivial⟩
          case measure => simp [intOf]; omega
      · obtain rfl : j = n := by omega
        have HF : Hid (false = relB m) := relB_yes HQ.out (relL_no (by rw [HN.out]; exact HI.out))
        clear HI H
        go_wp2_with fail
        go_ret
        exact YN.of HF.out HB2.out

set_option maxHeartbeats 4000000 in
theorem iClo11_one (x : Ins) (w : World) :
    Calls Tryd.prog 60 #[.agg #[.int .i64 x.op, .int .i64 x.fa, .int .i64 x.fb, .int .i64 x.fc, .int .i64 x.fd]] w (YN (x.op == 11) w) := by
  have HB := Lib.hid ((Below.refl w.heap.size w).alloc (Nat.le_refl _) (.cells #[.int .i64 x.op, .int .i64 x.fa, .int .i64 x.fb, .int .i64 x.fc, .int .i64 x.fd] 54))
  go_enter Tryd.func60, Tryd.ntmps60
  go_wp2_with fail
  go_ret
  exact ⟨rfl, HB.out⟩

/-- The answer of a search for a release. -/
def FoundR (m : Cd) (w : World) (e : Ending) (w' : World) : Prop := ∃ i : Int, e = .returned (.int .i64 i) ∧ (0 ≤ i ↔ relL m.list = true) ∧ Below w.heap.size w w'

set_option maxHeartbeats 8000000 in
theorem iIxR_one (m : Cd) (k : CK) (w : World) (h : CL w m k) :
    Calls Tryd.prog 71 #[.slice k.la m.list.length k.lc, .func (.func 60) #[] #[]] w (FoundR m w) := by
  have hm := h.2.2.1
  unfold maxLen at hm
  have HS : Hid (∀ v, Below w.heap.size w v → CL v m k) := fun v hv => h.below hv
  obtain ⟨n, hn⟩ : ∃ n, m.list.length = n := ⟨_, rfl⟩
  have HN := Lib.hid hn
  rw [hn] at hm ⊢
  clear h hn
  go_enter Tryd.func71, Tryd.ntmps71
  go_wp2_with fail
  go_loopw [8] (fun i wr => ∃ j : Nat, j ≤ n ∧ i = .int .i64 j ∧ Hid (NoRel m.list j) ∧ Below w.heap.size w wr) (fun i _ => n - (intOf i).toNat)
  case atStart => exact ⟨0, Nat.zero_le _, rfl, (fun j x hj => absurd hj (Nat.not_lt_zero _) : NoRel m.list 0), Below.refl _ _⟩
  case round =>
    obtain ⟨j, hj, rfl, HI, hb⟩ := hrel
    have HBR := Lib.hid hb
    have HSR := Lib.hid (HS.out wr hb)
    clear hb
    by_cases hlt : j < n
    · obtain ⟨x, b, o, hx, ha, hbl, e0, e1, e2, e3, e4⟩ := HSR.out.at (i := j) (by rw [HN.out]; exact hlt)
      rw [ha]
      have HXX := Lib.hid hx
      have hsz := HBR.out.size
      clear hx ha HS
      obtain ⟨q, hq⟩ : ∃ q, (x.op == 11) = q := ⟨_, rfl⟩
      have HQ := Lib.hid hq
      clear hq
      go_wp2_with fail
      refine (iClo11_one x wr).mono ?_
      rintro e w3 ⟨rfl, hb3⟩
      rw [HQ.out]
      have HB3 : Hid (Below w.heap.size w w3) := HBR.out.trans (hb3.mono hsz)
      clear hb3
      cases q
      case true =>
        have HF : Hid (relL m.list = true) := relL_yes HXX.out (by simpa using HQ.out)
        go_wp2_with fail
        go_ret
        exact ⟨_, rfl, ⟨fun _ => HF.out, fun _ => by omega⟩, HB3.out⟩
      case false =>
        have HI2 : Hid (NoRel m.list (j + 1)) := HI.out.succ HXX.out (by simpa using HQ.out)
        go_wp2_with fail
        go_roundw
        case rel => exact ⟨j + 1, by omega, by go_num, HI2, HB3.out⟩
        case measure => simp [intOf]; omega
    · obtain rfl : j = n := by omega
      have HA : Hid (relL m.list = false) := relL_no (by rw [HN.out]; exact HI.out)
      clear HI HS
      go_wp2_with fail
      go_ret
      exact ⟨-1, rfl, ⟨fun h => absurd h (by omega), fun h => by rw [HA.out] at h; cases h⟩, HBR.out⟩

set_option maxHeartbeats 4000000 in
theorem iConR_one (m : Cd) (k : CK) (w : World) (h : CL w m k) :
    Calls Tryd.prog 38 #[.slice k.la m.list.length k.lc, .func (.func 60) #[] #[]] w (YN (relL m.list) w) := by
  have H := Lib.hid h
  clear h
  go_enter Tryd.func38, Tryd.ntmps38
  go_wp2_with fail
  refine (iIxR_one m k w H.out).mono ?_
  rintro e w' ⟨i, rfl, hi, hb⟩
  have HI := Lib.hid hi
  have HB := Lib.hid hb
  clear hi hb
  by_cases h0 : 0 ≤ i
  · have HD : Hid (true = relL m.list) := (HI.out.1 h0).symm
    go_wp2_with fail
    go_ret
    exact YN.of HD.out HB.out
  · have HD : Hid (false = relL m.list) := by
      show false = _
      cases hq : relL m.list
      · rfl
      · exact absurd (HI.out.2 hq) h0
    have d0 : decide (0 ≤ i) = false := decide_eq_false h0
    go_wp2_with fail
    go_ret
    exact YN.of HD.out HB.out

set_option maxRecDepth 100000 in
set_option maxHeartbeats 4000000 in
/-- **impl.CodeReleases.** -/
theorem iCR_one (m : Cd) (k : CK) (w : World) (h : CL w m k) (hT : TblF w) : Calls Tryd.prog 26 #[aggC m k] w (YN (relB m) w) := by
  obtain ⟨W, hW⟩ : ∃ W, w.alloc (.cells (arrC m k) 30) = W := ⟨_, rfl⟩
  have hB : Below w.heap.size w W := by rw [← hW]; exact (Below.refl _ w).alloc (Nat.le_refl _) _
  have hX : BoxC W w.heap.size m k := by rw [← hW]; exact BoxC.new _ _ _ _
  have H : Hid (∀ v, Below W.heap.size W v → BoxC v w.heap.size m k ∧ CL v m k) := fun v hv => ⟨hX.below hv hX.lt, (h.below hB).below hv⟩
  have c0 := hX.c0
  have c1 := hX.c1
  have c2 := hX.c2
  have HW := Lib.hid hW
  have HB := Lib.hid hB
  unfold arrC at HW
  have HV := Lib.hid (iCV_one m k W (h.below hB) (hT.below hB hT.lt))
  clear h hT hB hX hW
  go_enter Tryd.func26, Tryd.ntmps26
  go_wp2_with (first | rw [HW.out] | fail)
  refine HV.out.mono ?_
  rintro e w2 ⟨rfl, hb2⟩
  have HB2 : Hid (Below w.heap.size w w2) := HB.out.trans (hb2.mono HB.out.size)
  have x2 : w2.cell? ⟨w.heap.size, 2, none⟩ = some (.slice k.la m.list.length k.lc) := (H.out w2 hb2).1.c2
  have HC2 := Lib.hid (iConR_one m k w2 (H.out w2 hb2).2)
  obtain ⟨q, hq⟩ : ∃ q, codeB m = q := ⟨_, rfl⟩
  have HQ := Lib.hid hq
  rw [hq]
  clear hb2 hq HV c0 c1 c2
  cases q
  case false =>
    have HF : Hid (false = relB m) := relB_no HQ.out
    go_wp2_with fail
    go_ret
    exact YN.of HF.out HB2.out
  case true =>
    have HY : Hid (relL m.list = relB m) := relB_yes HQ.out rfl
    go_wp2_with fail
    refine HC2.out.mono ?_
    rintro e w3 ⟨rfl, hb3⟩
    have HB3 : Hid (Below w.heap.size w w3) := HB2.out.trans (hb3.mono HB2.out.size)
    clear hb3
    go_wp2_with fail
    go_ret
    exact YN.of HY.out HB3.out

end Go.Proofs.YtjgmhncfijegmaaDoor

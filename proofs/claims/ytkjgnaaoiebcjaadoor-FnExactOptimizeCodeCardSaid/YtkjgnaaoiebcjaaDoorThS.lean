/- The model's l8Target, l8Aim and l8Final, walked. -/
import Derived.Test.YtkjgnaaoiebcjaaDoorThP
import Derived.Test.YtkjgnaaoiebcjaaDoorCvU
import Derived.Test.YtkjgnaaoiebcjaaDoorPut
namespace Go.Proofs.YtkjgnaaoiebcjaaDoor
open Go.RowKit
set_option linter.unusedVariables false

abbrev aggI (x : Ins) : Value := .agg #[.int .i64 x.op, .int .i64 x.fa, .int .i64 x.fb, .int .i64 x.fc, .int .i64 x.fd]
/-- The target of an instruction, or -1. -/
def tgZ (x : Ins) : Int := if x.op = 8 then x.fa else if x.op = 9 ∨ x.op = 10 then x.fb else -1

set_option maxRecDepth 100000 in
set_option maxHeartbeats 2000000 in
/-- **l8Target.** -/
theorem l8Tg_one (x : Ins) (w : World) :
    Calls Tryd.prog 68 #[aggI x] w (fun e w' => e = .returned (.int .i64 (tgZ x)) ∧ Below w.heap.size w w') := by
  have HB := Lib.hid ((Below.refl w.heap.size w).alloc (Nat.le_refl _) (.cells #[.int .i64 x.op, .int .i64 x.fa, .int .i64 x.fb, .int .i64 x.fc, .int .i64 x.fd] 50))
  by_cases h8 : x.op = 8
  · have HE : Hid (tgZ x = x.fa) := by have : tgZ x = x.fa := by unfold tgZ; rw [if_pos h8]
                                       exact this
    have b8 : (x.op == 8) = true := by simpa using h8
    clear h8
    go_enter Tryd.func68, Tryd.ntmps68
    go_wp2_with fail
    rw [HE.out]
    go_ret
    exact ⟨rfl, HB.out⟩
  · have b8 : (x.op == 8) = false := by simpa using h8
    by_cases h9 : x.op = 9 ∨ x.op = 10
    · have HE : Hid (tgZ x = x.fb) := by have : tgZ x = x.fb := by unfold tgZ; rw [if_neg h8, if_pos h9]
                                         exact this
      rcases h9 with e | e
      · have b9 : (x.op == 9) = true := by simpa using e
        clear h8 e
        go_enter Tryd.func68, Tryd.ntmps68
        go_wp2_with fail
        rw [HE.out]
        go_ret
        exact ⟨rfl, HB.out⟩
      · have b9 : (x.op == 9) = false := by simp; omega
        have b10 : (x.op == 10) = true := by simpa using e
        clear h8 e
        go_enter Tryd.func68, Tryd.ntmps68
        go_wp2_with fail
        rw [HE.out]
        go_ret
        exact ⟨rfl, HB.out⟩
    · have HE : Hid (tgZ x = -1) := by have : tgZ x = -1 := by unfold tgZ; rw [if_neg h8, if_neg h9]
                                       exact this
      have b9 : (x.op == 9) = false := by simp; omega
      have b10 : (x.op == 10) = false := by simp; omega
      clear h8 h9
      go_enter Tryd.func68, Tryd.ntmps68
      go_wp2_with fail
      rw [HE.out]
      go_ret
      exact ⟨rfl, HB.out⟩

set_option maxRecDepth 100000 in
set_option maxHeartbeats 4000000 in
/-- **l8Final.** -/
theorem l8Final_one (m : Cd) (k : CK) (t : Nat) (w : World) (h : CL w m k) (hok : Okc m.list) (ht : t < m.list.length) :
    Calls Tryd.prog 70 #[aggC m k, .int .i64 (t : Int)] w (fun e w' => e = .returned (.int .i64 (finL m.list t : Int)) ∧ Below w.heap.size w w') := by
  obtain ⟨W, hW⟩ : ∃ W, w.alloc (.cells (arrC m k) 30) = W := ⟨_, rfl⟩
  have hB : Below w.heap.size w W := by rw [← hW]; exact (Below.refl _ w).alloc (Nat.le_refl _) _
  have hX : BoxC W w.heap.size m k := by rw [← hW]; exact BoxC.new _ _ _ _
  have c2 := hX.c2
  obtain ⟨n, hn⟩ : ∃ n, m.list.length = n := ⟨_, rfl⟩
  have hle := hok.le
  rw [hn] at c2 ht hle
  have HN := Lib.hid hn
  have HO := Lib.hid hok
  have HB := Lib.hid hB
  have HW := Lib.hid hW
  have HAT : Hid (∀ i, i < n → ∃ (x : Ins) (b o : Nat), m.list[i]? = some x ∧ k.la = some ⟨b, o, none⟩ ∧ W.cell? ⟨b, o + i * 5, none⟩ = some (.int .i64 x.op) ∧ W.cell? ⟨b, o + i * 5 + 1, none⟩ = some (.int .i64 x.fa)) := fun i hi => by
    obtain ⟨x, b, o, hx, ha, hbl, e0, e1, _⟩ := h.at (by rw [hn]; exact hi)
    exact ⟨x, b, o, hx, ha, (hB.cell (p := ⟨b, o + i * 5, none⟩) hbl).trans e0, (hB.cell (p := ⟨b, o + i * 5 + 1, none⟩) hbl).trans e1⟩
  unfold arrC at HW
  clear h hok hB hX hW hn
  go_enter Tryd.func70, Tryd.ntmps70
  go_wp2_with (first | rw [HW.out] | fail)
  go_loopw [5, 6] (fun x c wr => ∃ j : Nat, j ≤ n ∧ c = .int .i64 j ∧ x = .int .i64 (chase m.list j t : Int) ∧ wr = W) (fun _ c _ => n - (intOf c).toNat)
  case atStart => exact ⟨0, Nat.zero_le _, rfl, rfl, by first | rfl | trivial⟩
  case round =>
    obtain ⟨j, hj, rfl, rfl, rfl⟩ := hrel
    have hcl : chase m.list j t < n := by rw [← HN.out]; exact chase_lt HO.out j (by rw [HN.out]; exact ht)
    obtain ⟨x, b, o, hx, ha, e0, e1⟩ := HAT.out _ hcl
    obtain ⟨p, hp⟩ : ∃ p, chase m.list j t = p := ⟨_, rfl⟩
    have HP := Lib.hid hp
    rw [ha] at c2
    rw [hp] at hcl hx e0 e1 ⊢
    have HX := Lib.hid hx
    clear hp hx ha HAT
    by_cases h8 : x.op = 8
    · have b8 : (x.op == 8) = true := by simpa using h8
      have HJ : Hid (jB m.list p = true) := by rw [jB_at HX.out]; exact b8
      by_cases hlt : j < n
      · have HNX : Hid (x.fa = (chase m.list (j + 1) t : Int)) := by
          have h1 := HO.out.ja p x HX.out h8
          show x.fa = ((nxJ m.list (chase m.list j t) : Nat) : Int)
          rw [HP.out, nxJ_at HX.out h8]; omega
        clear h8
        go_wp2_with fail
        go_roundw
        case rel => exact ⟨j + 1, by omega, by go_num, by rw [← HNX.out], by first | rfl | trivial⟩
        case measure => simp [intOf]; omega
      · obtain rfl : j = n := by omega
        have HF : Hid (finL m.list t = t) := finL_go (by rw [HN.out, HP.out]; exact HJ.out)
        clear h8
        go_wp2_with fail
        rw [HF.out]
        go_ret
        exact ⟨rfl, HB.out⟩
    · have b8 : (x.op == 8) = false := by simpa using h8
      have HF : Hid (finL m.list t = p) := by
        have : finL m.list t = p := by
          rw [finL_stop (k := j) (by rw [HN.out]; exact hj) (by rw [HP.out, jB_at HX.out]; exact b8), HP.out]
        exact this
      clear h8
      by_cases hlt : j < n
      · go_wp2_with fail
        rw [HF.out]
        go_ret
        exact ⟨rfl, HB.out⟩
      · obtain rfl : j = n := by omega
        go_wp2_with fail
        rw [HF.out]
        go_ret
        exact ⟨rfl, HB.out⟩

/-- **l8Aim.** -/
def aimN (x : Ins) (t : Int) : Ins := if x.op = 8 then ⟨x.op, t, x.fb, x.fc, x.fd⟩ else if x.op = 9 ∨ x.op = 10 then ⟨x.op, x.fa, t, x.fc, x.fd⟩ else x

set_option maxRecDepth 100000 in
set_option maxHeartbeats 4000000 in
theorem l8Aim_one (x : Ins) (t : Int) (w : World) :
    Calls Tryd.prog 69 #[aggI x, .int .i64 t] w (fun e w' => e = .returned (aggI (aimN x t)) ∧ Below w.heap.size w w') := by
  have hb : ∀ (A B : Array Value), Below w.heap.size w ((w.alloc (.cells A 50)).alloc (.cells B 50)) := fun A B => ((Below.refl _ w).alloc (Nat.le_refl _) _).alloc (by simp) _
  have HB := Lib.hid hb
  clear hb
  by_cases h8 : x.op = 8
  · have HE : Hid (aimN x t = ⟨x.op, t, x.fb, x.fc, x.fd⟩) := by
      have : aimN x t = ⟨x.op, t, x.fb, x.fc, x.fd⟩ := by unfold aimN; rw [if_pos h8]
      exact this
    have b8 : (x.op == 8) = true := by simpa using h8
    have b9 : (x.op == 9) = false := by simp; omega
    have b10 : (x.op == 10) = false := by simp; omega
    clear h8
    go_enter Tryd.func69, Tryd.ntmps69
    go_wp2_with fail
    rw [HE.out]
    refine bodyPost_ret (v := aggI ⟨x.op, t, x.fb, x.fc, x.fd⟩) (by simp [results, Tryd.f69, go_sem]) rfl ?_
    exact ⟨rfl, HB.out _ _⟩
  · have b8 : (x.op == 8) = false := by simpa using h8
    by_cases h9 : x.op = 9 ∨ x.op = 10
    · have HE : Hid (aimN x t = ⟨x.op, x.fa, t, x.fc, x.fd⟩) := by
        have : aimN x t = ⟨x.op, x.fa, t, x.fc, x.fd⟩ := by unfold aimN; rw [if_neg h8, if_pos h9]
        exact this
      rcases h9 with e | e
      · have b9 : (x.op == 9) = true := by simpa using e
        have b10 : (x.op == 10) = false := by simp; omega
        clear h8 e
        go_enter Tryd.func69, Tryd.ntmps69
        go_wp2_with fail
        rw [HE.out]
        refine bodyPost_ret (v := aggI ⟨x.op, x.fa, t, x.fc, x.fd⟩) (by simp [results, Tryd.f69, go_sem]) rfl ?_
        exact ⟨rfl, HB.out _ _⟩
      · have b9 : (x.op == 9) = false := by simp; omega
        have b10 : (x.op == 10) = true := by simpa using e
        clear h8 e
        go_enter Tryd.func69, Tryd.ntmps69
        go_wp2_with fail
        rw [HE.out]
        refine bodyPost_ret (v := aggI ⟨x.op, x.fa, t, x.fc, x.fd⟩) (by simp [results, Tryd.f69, go_sem]) rfl ?_
        exact ⟨rfl, HB.out _ _⟩
    · have HE : Hid (aimN x t = x) := by
        have : aimN x t = x := by unfold aimN; rw [if_neg h8, if_neg h9]
        exact this
      have b9 : (x.op == 9) = false := by simp; omega
      have b10 : (x.op == 10) = false := by simp; omega
      clear h8 h9
      go_enter Tryd.func69, Tryd.ntmps69
      go_wp2_with fail
      rw [HE.out]
      refine bodyPost_ret (v := aggI x) (by simp [results, Tryd.f69, go_sem]) rfl ?_
      exact ⟨rfl, HB.out _ _⟩

end Go.Proofs.YtkjgnaaoiebcjaaDoor

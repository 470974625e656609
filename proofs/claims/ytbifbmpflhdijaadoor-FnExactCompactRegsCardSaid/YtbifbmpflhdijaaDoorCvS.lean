/- spec's CodeValid, walked: l6Range, l6Fields, l6Parts, l6Instr and CodeValid answer what the plain functions say; nothing that was there has changed. -/
import Derived.Test.YtbifbmpflhdijaaDoorCvF
import Derived.Deep.RegionHeld3
namespace Go.Proofs.YtbifbmpflhdijaaDoor
open Go.RowKit
set_option linter.unusedVariables false

set_option maxHeartbeats 4000000 in
theorem l6Range_one (m : Cd) (k : CK) (kd : Nat) (h1 : 1 ≤ kd) (h6 : kd ≤ 6) (n : Int) (w : World) (hv : m.vars.length ≤ maxLen) (ha : m.arrs.length ≤ maxLen) (hl : m.list.length ≤ maxLen) :
    Calls Tryd.prog 109 #[aggC m k, .int .u8 (kdC kd).toNat, .int .i64 n] w (YN (fldB m.vars.length m.arrs.length m.list.length kd n) w) := by
  unfold maxLen at hv ha hl
  have HB := Lib.hid ((Below.refl w.heap.size w).alloc (Nat.le_refl _) (.cells (arrC m k) 29))
  obtain ⟨nv, hnv⟩ : ∃ nv, m.vars.length = nv := ⟨_, rfl⟩
  obtain ⟨na, hna⟩ : ∃ na, m.arrs.length = na := ⟨_, rfl⟩
  obtain ⟨nl, hnl⟩ : ∃ nl, m.list.length = nl := ⟨_, rfl⟩
  unfold aggC
  unfold arrC at HB
  rw [hnv] at hv HB ⊢
  rw [hna] at ha HB ⊢
  rw [hnl] at hl HB ⊢
  clear hnv hna hnl
  obtain rfl | rfl | rfl | rfl | rfl | rfl : kd = 1 ∨ kd = 2 ∨ kd = 3 ∨ kd = 4 ∨ kd = 5 ∨ kd = 6 := by omega
  · by_cases g : 0 ≤ n
    · by_cases g2 : n < 14
      · go_enter Tryd.func109, Tryd.ntmps109
        go_wp2_with fail
        go_ret
        exact YN.of (by simp [fldB]; omega) HB.out
      · go_enter Tryd.func109, Tryd.ntmps109
        go_wp2_with fail
        go_ret
        exact YN.of (by simp [fldB]; omega) HB.out
    · go_enter Tryd.func109, Tryd.ntmps109
      go_wp2_with fail
      go_ret
      exact YN.of (by simp [fldB]; omega) HB.out
  · by_cases g : 0 ≤ n
    · by_cases g2 : n ≤ 255
      · go_enter Tryd.func109, Tryd.ntmps109
        go_wp2_with fail
        go_ret
        exact YN.of (by simp [fldB]; omega) HB.out
      · go_enter Tryd.func109, Tryd.ntmps109
        go_wp2_with fail
        go_ret
        exact YN.of (by simp [fldB]; omega) HB.out
    · go_enter Tryd.func109, Tryd.ntmps109
      go_wp2_with fail
      go_ret
      exact YN.of (by simp [fldB]; omega) HB.out
  · by_cases g : 0 ≤ n
    · by_cases g2 : n < nv
      · go_enter Tryd.func109, Tryd.ntmps109
        go_wp2_with fail
        go_ret
        exact YN.of (by simp [fldB]; omega) HB.out
      · go_enter Tryd.func109, Tryd.ntmps109
        go_wp2_with fail
        go_ret
        exact YN.of (by simp [fldB]; omega) HB.out
    · go_enter Tryd.func109, Tryd.ntmps109
      go_wp2_with fail
      go_ret
      exact YN.of (by simp [fldB]; omega) HB.out
  · by_cases g : 0 ≤ n
    · by_cases g2 : n < na
      · go_enter Tryd.func109, Tryd.ntmps109
        go_wp2_with fail
        go_ret
        exact YN.of (by simp [fldB]; omega) HB.out
      · go_enter Tryd.func109, Tryd.ntmps109
        go_wp2_with fail
        go_ret
        exact YN.of (by simp [fldB]; omega) HB.out
    · go_enter Tryd.func109, Tryd.ntmps109
      go_wp2_with fail
      go_ret
      exact YN.of (by simp [fldB]; omega) HB.out
  · by_cases g : 4 ≤ n
    · by_cases g2 : n ≤ 10
      · go_enter Tryd.func109, Tryd.ntmps109
        go_wp2_with fail
        go_ret
        exact YN.of (by simp [fldB]; omega) HB.out
      · go_enter Tryd.func109, Tryd.ntmps109
        go_wp2_with fail
        go_ret
        exact YN.of (by simp [fldB]; omega) HB.out
    · go_enter Tryd.func109, Tryd.ntmps109
      go_wp2_with fail
      go_ret
      exact YN.of (by simp [fldB]; omega) HB.out
  · by_cases g : 0 ≤ n
    · by_cases g2 : n < nl
      · go_enter Tryd.func109, Tryd.ntmps109
        go_wp2_with fail
        go_ret
        exact YN.of (by simp [fldB]; omega) HB.out
      · go_enter Tryd.func109, Tryd.ntmps109
        go_wp2_with fail
        go_ret
        exact YN.of (by simp [fldB]; omega) HB.out
    · go_enter Tryd.func109, Tryd.ntmps109
      go_wp2_with fail
      go_ret
      exact YN.of (by simp [fldB]; omega) HB.out

set_option maxHeartbeats 2000000 in
theorem l6Parts_one (x : Ins) (w : World) :
    Calls Tryd.prog 75 #[.agg #[.int .i64 x.op, .int .i64 x.fa, .int .i64 x.fb, .int .i64 x.fc, .int .i64 x.fd]] w fun e w' => ∃ b, e = .returned (.slice (some ⟨b, 0, none⟩) 4 4) ∧ RowP w' b x ∧ w.heap.size ≤ b ∧ Below w.heap.size w w' := by
  go_enter Tryd.func75, Tryd.ntmps75
  go_wp2_with fail
  go_ret
  have h := heap_alloc_new (w.alloc (.cells #[.int .i64 x.op, .int .i64 x.fa, .int .i64 x.fb, .int .i64 x.fc, .int .i64 x.fd] 50)) (.cells #[.int .i64 x.fa, .int .i64 x.fb, .int .i64 x.fc, .int .i64 x.fd] 3)
  rw [World.size_alloc] at h
  exact ⟨_, rfl, h, by omega, ((Below.refl _ _).alloc (Nat.le_refl _) _).alloc (by simp) _⟩

end Go.Proofs.YtbifbmpflhdijaaDoor

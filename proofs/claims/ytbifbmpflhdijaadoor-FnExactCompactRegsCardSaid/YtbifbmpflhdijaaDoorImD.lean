/- The program's judgement of declarations: the function value of declarationsValid, slices.IndexFunc and slices.ContainsFunc at it, declarationsValid; nothing that was there has changed. -/
import Derived.Test.YtbifbmpflhdijaaDoorSpH
import Derived.Test.YtbifbmpflhdijaaDoorLv
namespace Go.Proofs.YtbifbmpflhdijaaDoor
open Go.RowKit
set_option linter.unusedVariables false

theorem iNoLabel_any (l : Int) (w : World) : Calls Tryd.prog 110 #[.int .i64 l] w fun e w' => e = .returned (.bool (!Lab.ok l)) ∧ w = w' := by
  go_enter Tryd.func110, Tryd.ntmps110
  go_wp2_with (go_at_call 111; refine (iValid_any _ _).mono ?_; rintro e w' ⟨rfl, rfl⟩)
  go_ret
  exact ⟨rfl, rfl⟩

/-- The answer of a search for a number that is no label. -/
def Found (xs : List Int) (w : World) (e : Ending) (w' : World) : Prop := ∃ i : Int, e = .returned (.int .i64 i) ∧ (0 ≤ i ↔ xs.all lokB = false) ∧ w = w'

set_option maxHeartbeats 2000000 in
theorem iIndexFunc_one (xs : List Int) (a : Option Addr) (cap : Nat) (D : Nat → Prop) (w : World) (h : IntsAt w D xs a) (hm : xs.length ≤ maxLen) :
    Calls Tryd.prog 129 #[.slice a xs.length cap, .func (.func 110) #[] #[]] w (Found xs w) := by
  unfold maxLen at hm
  obtain ⟨n, hn⟩ : ∃ n, xs.length = n := ⟨_, rfl⟩
  have HN := Lib.hid hn
  have H := Lib.hid h
  rw [hn] at hm ⊢
  clear h hn
  go_enter Tryd.func129, Tryd.ntmps129
  go_wp2_with fail
  go_loop [8] (fun i => ∃ j : Nat, j ≤ n ∧ i = .int .i64 j ∧ LokTo xs j) (fun i => n - (intOf i).toNat)
  case atStart => exact ⟨0, Nat.zero_le _, rfl, fun j hj => absurd hj (Nat.not_lt_zero _)⟩
  case round =>
    obtain ⟨j, hj, rfl, hL⟩ := hrel
    have HL := Lib.hid hL
    clear hL
    by_cases hlt : j < n
    · obtain ⟨b, o, rfl, hb, hc⟩ := H.out j (by rw [HN.out]; exact hlt)
      obtain ⟨v, hv⟩ : ∃ v, xs.getD j 0 = v := ⟨_, rfl⟩
      rw [hv] at hc
      have HV := Lib.hid hv
      clear hv H
      cases hok : Lab.ok v
      case false =>
        have HF : Hid (xs.all lokB = false) := lok_no (k := j) (by rw [HV.out]; exact hok) (by rw [HN.out]; exact hlt)
        go_wp2_with (go_at_call 110; refine (iNoLabel_any _ _).mono ?_; rintro e w' ⟨rfl, rfl⟩; rw [hok])
        go_ret
        exact ⟨_, rfl, ⟨fun _ => HF.out, fun _ => by omega⟩, rfl⟩
      case true =>
        have HL2 : Hid (LokTo xs (j + 1)) := HL.out.succ (by rw [HV.out]; exact hok)
        go_wp2_with (go_at_call 110; refine (iNoLabel_any _ _).mono ?_; rintro e w' ⟨rfl, rfl⟩; rw [hok])
        go_round
        case rel => exact ⟨j + 1, by omega, by go_num, HL2.out⟩
        case measure => simp [intOf]; omega
    · obtain rfl : j = n := by omega
      have HA : Hid (xs.all lokB = true) := HL.out.all (by rw [HN.out]; exact Nat.le_refl _)
      clear H HL
      go_wp2_with fail
      go_ret
      exact ⟨-1, rfl, ⟨fun h => absurd h (by omega), fun h => by rw [HA.out] at h; cases h⟩, rfl⟩

set_option maxHeartbeats 2000000 in
theorem iContains_one (xs : List Int) (a : Option Addr) (cap : Nat) (D : Nat → Prop) (w : World) (h : IntsAt w D xs a) (hm : xs.length ≤ maxLen) :
    Calls Tryd.prog 112 #[.slice a xs.length cap, .func (.func 110) #[] #[]] w fun e w' => e = .returned (.bool (!xs.all lokB)) ∧ w = w' := by
  have H := Lib.hid h
  clear h
  go_enter Tryd.func112, Tryd.ntmps112
  go_wp2_with fail
  refine (iIndexFunc_one xs a cap D w H.out hm).mono ?_
  rintro e w' ⟨i, rfl, hi, rfl⟩
  have HI := Lib.hid hi
  clear hi
  by_cases h0 : 0 ≤ i
  · have HD : Hid (true = !xs.all lokB) := by show true = _; rw [HI.out.1 h0]; rfl
    go_wp2_with fail
    go_ret
    exact ⟨congrArg (fun b => Ending.returned (Value.bool b)) HD.out, rfl⟩
  · have HD : Hid (false = !xs.all lokB) := by
      show false = _
      cases hq : xs.all lokB
      · exact absurd (HI.out.2 hq) h0
      · rfl
    have d0 : decide (0 ≤ i) = false := decide_eq_false h0
    go_wp2_with fail
    go_ret
    exact ⟨congrArg (fun b => Ending.returned (Value.bool b)) HD.out, rfl⟩

set_option maxRecDepth 100000 in
set_option maxHeartbeats 4000000 in
/-- **declarationsValid.** -/
theorem iHeads_raw (p : Pg) (k : PC) (vc' ac' : Nat) (D : Nat → Prop) (w : World) (hv0 : p.vars.length ≤ vc') (hv1 : vc' ≤ maxLen) (hvat : IntsAt w D p.vars k.va) (ha0 : p.arrs.length ≤ ac') (ha1 : ac' ≤ maxLen) (haat : IntsAt w D p.arrs k.aa) (hl : ∀ k, D k → k < w.heap.size) :
    Calls Tryd.prog 81 #[aggP p k] w (AnsB (headsB p) w) := by
  have hmv := Nat.le_trans hv0 hv1
  have hma := Nat.le_trans ha0 ha1
  have HMV := Lib.hid hmv
  have HMA := Lib.hid hma
  have HB := Lib.hid ((Below.refl w.heap.size w).alloc (Nat.le_refl _) (.cells #[.slice k.va p.vars.length k.vc, .slice k.aa p.arrs.length k.ac, .slice k.ba p.body.length k.bc] 86))
  have HV := Lib.hid (hvat.wide (D' := D) (Stand.of_below HB.out hl) fun _ x => x)
  have HA := Lib.hid (haat.wide (D' := D) (Stand.of_below HB.out hl) fun _ x => x)
  clear hvat haat
  unfold maxLen at hmv hma
  by_cases g1 : 1 ≤ p.vars.length
  case neg =>
    have d1 : decide ((p.vars.length : Int) < 1) = true := by simp; omega
    have HN2 : Hid (false = headsB p) := by show false = _; unfold headsB; rw [decide_eq_false g1]; simp
    go_enter Tryd.func81, Tryd.ntmps81
    go_wp2_with fail
    go_ret
    exact AnsB.of HN2.out HB.out
  case pos =>
  have d1 : decide ((p.vars.length : Int) < 1) = false := by simp; omega
  by_cases g2 : p.vars.length ≤ 12
  case neg =>
    have d2 : decide (12 < (p.vars.length : Int)) = true := by simp; omega
    have HN2 : Hid (false = headsB p) := by show false = _; unfold headsB; rw [decide_eq_false g2]; simp
    go_enter Tryd.func81, Tryd.ntmps81
    go_wp2_with fail
    go_ret
    exact AnsB.of HN2.out HB.out
  case pos =>
  have d2 : decide (12 < (p.vars.length : Int)) = false := by simp; omega
  by_cases g3 : p.arrs.length ≤ 2
  case neg =>
    have d3 : decide (2 < (p.arrs.length : Int)) = true := by simp; omega
    have HN2 : Hid (false = headsB p) := by show false = _; unfold headsB; rw [decide_eq_false g3]; simp
    go_enter Tryd.func81, Tryd.ntmps81
    go_wp2_with fail
    go_ret
    exact AnsB.of HN2.out HB.out
  case pos =>
  have d3 : decide (2 < (p.arrs.length : Int)) = false := by simp; omega
  have HN : Hid ((p.vars.all lokB && p.arrs.all lokB) = headsB p) := by
    show _ = headsB p
    unfold headsB
    rw [decide_eq_true g1, decide_eq_true g2, decide_eq_true g3]; simp
  cases hq : p.vars.all lokB
  case false =>
    have HN2 : Hid (false = headsB p) := by show false = _; rw [← HN.out, hq]; rfl
    go_enter Tryd.func81, Tryd.ntmps81
    go_wp2_with (go_at_call 112; refine (iContains_one p.vars k.va k.vc D _ HV.out HMV.out).mono ?_; rintro e w' ⟨rfl, rfl⟩; rw [hq])
    go_ret
    exact AnsB.of HN2.out HB.out
  case true =>
    have HN2 : Hid (p.arrs.all lokB = headsB p) := by show _ = headsB p; rw [← HN.out, hq]; rfl
    go_enter Tryd.func81, Tryd.ntmps81
    go_wp2_with (first
      | (go_at_call 112; with_reducible refine (iContains_one p.vars k.va k.vc D _ HV.out HMV.out).mono ?_; rintro e w' ⟨rfl, rfl⟩; rw [hq])
      | (go_at_call 112; with_reducible refine (iContains_one p.arrs k.aa k.ac D _ HA.out HMA.out).mono ?_; rintro e w' ⟨rfl, rfl⟩))
    go_ret
    refine AnsB.of ?_ HB.out
    rw [← HN2.out]

theorem iHeads_one (p : Pg) (k : PC) (n : Nat) (D : Nat → Prop) (w : World) (h : IsP w D n p k) (hl : ∀ k, D k → k < w.heap.size) :
    Calls Tryd.prog 81 #[aggP p k] w (AnsB (headsB p) w) :=
  iHeads_raw p k k.vc k.ac D w h.1.1 h.1.2.1 h.1.2.2 h.2.1.1 h.2.1.2.1 h.2.1.2.2 hl

end Go.Proofs.YtbifbmpflhdijaaDoor

/- spec's judgement of declarations, walked: l2Heads answers what the plain function says; nothing that was there has changed. -/
import Derived.Test.YtbifbmpflhdijaaDoorTreeP
import Derived.Test.YtbifbmpflhdijaaDoorLvS
import Derived.Deep.RegionHeld3
import Derived.BigQuiet
import Derived.IntWalk
import Derived.Deep.QuietTactic
namespace Go.Proofs.YtbifbmpflhdijaaDoor
open Go.RowKit
set_option linter.unusedVariables false

theorem lokB_eq (n : Int) : Lab.ok n = lokB n := rfl
def LokTo (xs : List Int) (k : Nat) : Prop := ∀ j, j < k → lokB (xs.getD j 0) = true
theorem LokTo.succ {xs : List Int} {k : Nat} (h : LokTo xs k) (e : lokB (xs.getD k 0) = true) : LokTo xs (k + 1) := fun j hj => by
  by_cases hk : j = k
  · rw [hk]; exact e
  · exact h j (by omega)
theorem LokTo.all {xs : List Int} {k : Nat} (h : LokTo xs k) (hk : xs.length ≤ k) : xs.all lokB = true :=
  List.all_eq_true.2 fun x hx => by
    obtain ⟨i, hi, rfl⟩ := List.getElem_of_mem hx
    have := h i (by omega)
    simpa [List.getD, hi] using this
theorem lok_no {xs : List Int} {k : Nat} (h : lokB (xs.getD k 0) = false) (hk : k < xs.length) : xs.all lokB = false := by
  cases hq : xs.all lokB
  · rfl
  · have := List.all_eq_true.1 hq (xs[k]) (List.getElem_mem hk)
    rw [show xs.getD k 0 = xs[k] by simp [List.getD, hk], this] at h
    cases h

set_option maxRecDepth 100000 in
set_option maxHeartbeats 4000000 in
theorem sHeads_raw (p : Pg) (k : PC) (vc' ac' : Nat) (D : Nat → Prop) (w : World) (hv0 : p.vars.length ≤ vc') (hv1 : vc' ≤ maxLen) (hvat : IntsAt w D p.vars k.va) (ha0 : p.arrs.length ≤ ac') (ha1 : ac' ≤ maxLen) (haat : IntsAt w D p.arrs k.aa) (hl : ∀ k, D k → k < w.heap.size) :
    Calls Tryd.prog 78 #[aggP p k] w (AnsB (headsB p) w) := by
  have HV := Lib.hid hvat
  have HA := Lib.hid haat
  unfold maxLen at hv1 ha1
  obtain ⟨nv, hnv⟩ : ∃ nv, p.vars.length = nv := ⟨_, rfl⟩
  obtain ⟨na, hna⟩ : ∃ na, p.arrs.length = na := ⟨_, rfl⟩
  have HNV := Lib.hid hnv
  have HNA := Lib.hid hna
  have HBX := Lib.hid (BoxP.new w p k 86)
  have HB := Lib.hid ((Below.refl w.heap.size w).alloc (Nat.le_refl _) (.cells (arrP p k) 86))
  obtain ⟨W, hW⟩ : ∃ W, W = w.alloc (.cells (arrP p k) 86) := ⟨_, rfl⟩
  have hz : W.heap.size = w.heap.size + 1 := by rw [hW]; simp
  rw [← hW] at HBX HB
  have HQ : Hid (∀ wr, Below W.heap.size W wr → wr.cell? ⟨w.heap.size, 0, none⟩ = some (.slice k.va nv k.vc) ∧ wr.cell? ⟨w.heap.size, 1, none⟩ = some (.slice k.aa na k.ac)) := fun wr hb => by
    have b1 := HBX.out.below hb (by omega)
    have c0 := b1.c0
    have c1 := b1.c1
    rw [hnv] at c0
    rw [hna] at c1
    exact ⟨c0, c1⟩
  have HST : Hid (∀ wr, Below W.heap.size W wr → Stand D w wr) := fun wr hb => Stand.trans (Stand.of_below HB.out hl) (Stand.of_below hb fun i hi => by have := hl i hi; omega)
  rw [hnv] at hv0
  rw [hna] at ha0
  have HW := Lib.hid hW
  have hBW : ∀ wr, Below W.heap.size W wr → Below w.heap.size w wr := fun wr hb => HB.out.trans (hb.mono (by omega))
  have HBW := Lib.hid hBW
  have hW2 : W = w.alloc (.cells #[.slice k.va nv k.vc, .slice k.aa na k.ac, .slice k.ba p.body.length k.bc] 86) := by rw [hW, ← hnv, ← hna]
  clear hvat haat hnv hna HBX hBW hz hW
  go_enter Tryd.func78, Tryd.ntmps78
  go_wp2_with fail
  rw [HNV.out, HNA.out, ← hW2]
  clear hW2
  go_loopw [3] (fun i wr => ∃ j : Nat, j ≤ nv ∧ i = .int .i64 j ∧ LokTo p.vars j ∧ Below W.heap.size W wr) (fun i _ => nv - (intOf i).toNat)
  case atStart => exact ⟨0, Nat.zero_le _, rfl, fun j hj => absurd hj (Nat.not_lt_zero _), Below.refl _ _⟩
  case round =>
    obtain ⟨j, hj, rfl, hL, hB⟩ := hrel
    have HL := Lib.hid hL
    have HB1 := Lib.hid hB
    obtain ⟨q0, q1⟩ := HQ.out wr hB
    clear hL hB
    by_cases hlt : j < nv
    · obtain ⟨b, o, ha, hb, hc⟩ := HV.out j (by rw [HNV.out]; exact hlt)
      rw [ha] at q0
      have hc2 := (World.cell?_of_block (w := w) (a := ⟨b, o + j, none⟩) (HST.out wr HB1.out b hb)).trans hc
      obtain ⟨v, hv⟩ : ∃ v, p.vars.getD j 0 = v := ⟨_, rfl⟩
      rw [hv] at hc2
      have HVV := Lib.hid hv
      clear hc hb hv ha
      cases hok : Lab.ok v
      case false =>
        have HN : Hid (false = headsB p) := by
          show false = headsB p
          unfold headsB
          rw [lok_no (k := j) (by rw [HVV.out]; exact hok) (by rw [HNV.out]; exact hlt)]; simp
        go_wp2_with (go_at_call 107; refine (sValid_any _ _).mono ?_; rintro e w' ⟨rfl, rfl⟩; rw [hok])
        go_ret
        exact AnsB.of HN.out (HBW.out _ HB1.out)
      case true =>
        have HL2 : Hid (LokTo p.vars (j + 1)) := HL.out.succ (by rw [HVV.out]; exact hok)
        go_wp2_with (go_at_call 107; refine (sValid_any _ _).mono ?_; rintro e w' ⟨rfl, rfl⟩; rw [hok])
        go_roundw
        case rel => exact ⟨j + 1, by omega, by go_num, HL2.out, HB1.out⟩
        case measure => simp [intOf]; omega
    · obtain rfl : j = nv := by omega
      have HLV : Hid (p.vars.all lokB = true) := HL.out.all (by rw [HNV.out]; exact Nat.le_refl _)
      clear HL
      go_wp2_with fail
      clear q0 q1
      go_loopw [4] (fun i wr => ∃ j : Nat, j ≤ na ∧ i = .int .i64 j ∧ LokTo p.arrs j ∧ Below W.heap.size W wr) (fun i _ => na - (intOf i).toNat)
      case atStart => exact ⟨0, Nat.zero_le _, rfl, fun j hj => absurd hj (Nat.not_lt_zero _), HB1.out⟩
      case round =>
        obtain ⟨i, hi, rfl, hL, hB⟩ := hrel
        have HL := Lib.hid hL
        have HB2 := Lib.hid hB
        obtain ⟨q0, q1⟩ := HQ.out _ hB
        clear hL hB
        by_cases hlt : i < na
        · obtain ⟨b, o, ha, hb, hc⟩ := HA.out i (by rw [HNA.out]; exact hlt)
          rw [ha] at q1
          have hc2 := (World.cell?_of_block (w := w) (a := ⟨b, o + i, none⟩) (HST.out _ HB2.out b hb)).trans hc
          obtain ⟨v, hv⟩ : ∃ v, p.arrs.getD i 0 = v := ⟨_, rfl⟩
          rw [hv] at hc2
          have HVV := Lib.hid hv
          clear hc hb hv ha
          cases hok : Lab.ok v
          case false =>
            have HN : Hid (false = headsB p) := by
              show false = headsB p
              unfold headsB
              rw [lok_no (k := i) (xs := p.arrs) (by rw [HVV.out]; exact hok) (by rw [HNA.out]; exact hlt)]; simp
            go_wp2_with (go_at_call 107; refine (sValid_any _ _).mono ?_; rintro e w' ⟨rfl, rfl⟩; rw [hok])
            go_ret
            exact AnsB.of HN.out (HBW.out _ HB2.out)
          case true =>
            have HL2 : Hid (LokTo p.arrs (i + 1)) := HL.out.succ (by rw [HVV.out]; exact hok)
            go_wp2_with (go_at_call 107; refine (sValid_any _ _).mono ?_; rintro e w' ⟨rfl, rfl⟩; rw [hok])
            go_roundw
            case rel => exact ⟨i + 1, by omega, by go_num, HL2.out, HB2.out⟩
            case measure => simp [intOf]; omega
        · obtain rfl : i = na := by omega
          have HLA : Hid (p.arrs.all lokB = true) := HL.out.all (by rw [HNA.out]; exact Nat.le_refl _)
          have HN : Hid ((decide (1 ≤ j) && decide (j ≤ 12) && decide (i ≤ 2)) = headsB p) := by
            show _ = headsB p
            unfold headsB
            rw [HLV.out, HLA.out, HNV.out, HNA.out]; simp
          clear HL HLA HLV
          by_cases g1 : 1 ≤ j
          case neg =>
            have d1 : decide ((1 : Int) ≤ (j : Int)) = false := by simp; omega
            have HN2 : Hid (false = headsB p) := by show false = _; rw [← HN.out, decide_eq_false g1]; simp
            go_wp2_with fail
            go_ret
            exact AnsB.of HN2.out (HBW.out _ HB2.out)
          case pos =>
          by_cases g2 : j ≤ 12
          case neg =>
            have d1 : decide ((1 : Int) ≤ (j : Int)) = true := by simp; omega
            have d2 : decide ((j : Int) ≤ 12) = false := by simp; omega
            have HN2 : Hid (false = headsB p) := by show false = _; rw [← HN.out, decide_eq_false g2]; simp
            go_wp2_with fail
            go_ret
            exact AnsB.of HN2.out (HBW.out _ HB2.out)
          case pos =>
          have d1 : decide ((1 : Int) ≤ (j : Int)) = true := by simp; omega
          have d2 : decide ((j : Int) ≤ 12) = true := by simp; omega
          by_cases g3 : i ≤ 2
          case neg =>
            have d3 : decide ((i : Int) ≤ 2) = false := by simp; omega
            have HN2 : Hid (false = headsB p) := by show false = _; rw [← HN.out, decide_eq_false g3]; simp
            go_wp2_with fail
            go_ret
            exact AnsB.of HN2.out (HBW.out _ HB2.out)
          case pos =>
            have d3 : decide ((i : Int) ≤ 2) = true := by simp; omega
            have HN2 : Hid (true = headsB p) := by show true = _; rw [← HN.out, decide_eq_true g1, decide_eq_true g2, decide_eq_true g3]; simp
            go_wp2_with fail
            go_ret
            exact AnsB.of HN2.out (HBW.out _ HB2.out)

theorem sHeads_one (p : Pg) (k : PC) (n : Nat) (D : Nat → Prop) (w : World) (h : IsP w D n p k) (hl : ∀ k, D k → k < w.heap.size) :
    Calls Tryd.prog 78 #[aggP p k] w (AnsB (headsB p) w) :=
  sHeads_raw p k k.vc k.ac D w h.1.1 h.1.2.1 h.1.2.2 h.2.1.1 h.2.1.2.1 h.2.1.2.2 hl

end Go.Proofs.YtbifbmpflhdijaaDoor

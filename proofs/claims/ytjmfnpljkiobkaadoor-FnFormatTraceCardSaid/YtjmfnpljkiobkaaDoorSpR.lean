/- The model's ExprValid: l2Count, l2Right, l2Heads, ExprValid answer what the plain functions say; nothing that was there has changed. -/
import Derived.Test.YtjmfnpljkiobkaaDoorSpE
import Derived.Test.YtjmfnpljkiobkaaDoorLvS
namespace Go.Proofs.YtjmfnpljkiobkaaDoor
open Go.RowKit
set_option linter.unusedVariables false

/-- A number; nothing that was there has changed. -/
def AnsI (n : Int) (w : World) (e : Ending) (w' : World) : Prop := e = .returned (.int .i64 n) ∧ Below w.heap.size w w'

set_option maxHeartbeats 2000000 in
theorem sCount_succ (nv na d : Nat) (hd : d ≤ 5) (ih : ∀ (n : Nat) (e : E) (c0 c1 c2 : Value) (D : Nat → Prop) (w : World), IsE w D n e [c0, c1, c2] → (∀ k, D k → k < w.heap.size) → shapeB nv na d e = true →
      Calls Tryd.prog 53 #[.agg #[c0, c1, c2], .int .i64 (d : Int)] w (AnsI (cntE e) w))
    (n : Nat) (e : E) (c0 c1 c2 : Value) (D : Nat → Prop) (w : World) (h : IsE w D n e [c0, c1, c2]) (hl : ∀ k, D k → k < w.heap.size) (hs : shapeB nv na (d + 1) e = true) (m : Int) (hm0 : m = (d : Int) + 1) :
    Calls Tryd.prog 53 #[.agg #[c0, c1, c2], .int .i64 m] w (AnsI (cntE e) w) := by
  cases n with
  | zero => exact h.elim
  | succ n =>
  obtain ⟨a, cap, hcs, hcap, hm, hat⟩ := h
  cases hcs
  unfold maxLen at hm
  have hcn := shape_cnt nv na (d + 1) e hs
  have hp : 4 ^ (d + 1) ≤ 4 ^ 6 := Nat.pow_le_pow_right (by omega) (by omega)
  have hcn' : cntE e ≤ 4096 := by have : (4 : Nat) ^ 6 = 4096 := by decide
                                  omega
  have HAT := Lib.hid hat
  have IH := Lib.hid ih
  clear ih hat hcn hp
  have hd2 : (1 : Int) ≤ m := by omega
  have hd3 : m ≤ 6 := by omega
  have hd4 : decide ((0 : Int) < m) = true := by simp; omega
  have HM : Hid (m - 1 = (d : Int)) := by show m - 1 = (d : Int); omega
  clear hm0
  have HCE := Lib.hid (cntE_eq e)
  obtain ⟨es, hes⟩ : ∃ es, e.kids = es := ⟨_, rfl⟩
  obtain ⟨len, hlen⟩ : ∃ len, es.length = len := ⟨_, rfl⟩
  rw [hes] at HAT HCE
  have HSH : Hid (∀ x ∈ es, shapeB nv na d x = true) := by
    rw [shapeB, Bool.and_eq_true, hes] at hs
    exact List.all_eq_true.1 hs.2
  obtain ⟨tot, htot⟩ : ∃ tot, cntE e = tot := ⟨_, rfl⟩
  have HTOT : Hid (1 + cntEs es = tot) := by show 1 + cntEs es = tot; rw [← htot]; exact HCE.out.symm
  have HLEN := Lib.hid hlen
  rw [hes, hlen] at hcap
  rw [htot] at hcn' ⊢
  rw [hes, hlen]
  have hle : len ≤ 3 := by
    rw [shapeB, Bool.and_eq_true] at hs
    have h1 := hs.1
    unfold nodeB at h1
    simp only [Bool.and_eq_true, decide_eq_true_iff] at h1
    have h2 := arity_le e.kind
    rw [hes, hlen] at h1
    omega
  clear hs hes hlen htot HCE
  go_enter Tryd.func53, Tryd.ntmps53
  go_wp2_with fail
  obtain ⟨W, hW⟩ : ∃ W, (w.alloc (.cells #[.int .i64 e.kind, .int .i64 e.value, .slice a len cap] 43)) = W := ⟨_, rfl⟩
  have hB0 : Below w.heap.size w W := by rw [← hW]; exact (Below.refl _ w).alloc (Nat.le_refl _) _
  have hz0 : W.heap.size = w.heap.size + 1 := by rw [← hW]; simp
  have x2 : W.cell? ⟨w.heap.size, 2, none⟩ = some (.slice a len cap) := by rw [← hW]; simp
  rw [hW]
  clear hW
  have HB0 := Lib.hid hB0
  have X2 := Lib.hid x2
  have HZ := Lib.hid hz0
  clear hB0 x2 hz0
  go_loopw [5, 6] (fun c i wr => ∃ j t : Nat, j ≤ len ∧ i = .int .i64 j ∧ c = .int .i64 t ∧ t ≤ tot ∧ t = 1 + cntEs (es.take j) ∧ Below W.heap.size W wr) (fun _ i _ => len - (intOf i).toNat)
  case atStart => exact ⟨0, 1, Nat.zero_le _, rfl, rfl, by have := HTOT.out; omega, by simp [cntEs], Below.refl _ _⟩
  case round =>
    obtain ⟨j, t, hj, rfl, rfl, htl, ht, hB⟩ := hrel
    have HT := Lib.hid ht
    have HB := Lib.hid hB
    have q2 := (hB.cell (p := ⟨w.heap.size, 2, none⟩) (by show w.heap.size < W.heap.size; have := HZ.out; omega)).trans X2.out
    have hsz := hB.size
    clear ht hB
    by_cases hlt : j < len
    · obtain ⟨x, hx⟩ : ∃ x, es[j]? = some x := ⟨es[j]'(by rw [HLEN.out]; exact hlt), List.getElem?_eq_getElem _⟩
      obtain ⟨b, o, c0, c1, c2, rfl, hbl, e0, e1, e2, hE⟩ := HAT.out j x hx
      have hst : Stand D w wr := Stand.trans (Stand.of_below HB0.out hl) (Stand.of_below HB.out fun i hi => by have := hl i hi; have := HZ.out; omega)
      have r0 := (World.cell?_of_block (w := w) (a := ⟨b, o + j * 3, none⟩) (hst b hbl)).trans e0
      have r1 := (World.cell?_of_block (w := w) (a := ⟨b, o + j * 3 + 1, none⟩) (hst b hbl)).trans e1
      have r2 := (World.cell?_of_block (w := w) (a := ⟨b, o + j * 3 + 2, none⟩) (hst b hbl)).trans e2
      have HE : Hid (IsE wr D n x [c0, c1, c2]) := hE.later hst
      have HDW : Hid (∀ i, D i → i < wr.heap.size) := fun i hi => by have := hl i hi; have := HZ.out; omega
      have HX := Lib.hid hx
      have HXS : Hid (shapeB nv na d x = true) := HSH.out x (List.mem_of_getElem? hx)
      have hcs : cntEs (es.take (j + 1)) = cntEs (es.take j) + cntE x := cntEs_snoc es j x hx
      have hct := cntEs_take es (j + 1)
      obtain ⟨cx, hcx⟩ : ∃ cx, cntE x = cx := ⟨_, rfl⟩
      have hT2 : t + cx = 1 + cntEs (es.take (j + 1)) := by rw [hcs, hcx, HT.out]; omega
      have hle2 : t + cx ≤ tot := by have := HTOT.out; omega
      have HT2 := Lib.hid hT2
      have HCX := Lib.hid hcx
      clear hE hx hst e0 e1 e2 HAT hcs hct hT2 hcx
      go_wp2_with fail
      rw [HM.out]
      refine (IH.out n x c0 c1 c2 D _ HE.out HDW.out HXS.out).mono ?_
      rintro g w2 ⟨rfl, hb2⟩
      rw [HCX.out]
      have HB2 : Hid (Below W.heap.size W w2) := HB.out.trans (hb2.mono hsz)
      clear hb2
      go_wp2_with fail
      go_roundw
      case rel => exact ⟨j + 1, t + cx, by omega, by go_num, by go_num, hle2, HT2.out, HB2.out⟩
      case measure => simp [intOf]; omega
    · obtain rfl : j = len := by omega
      have HT2 : Hid (t = tot) := by
        show t = tot
        rw [HT.out, List.take_of_length_le (by rw [HLEN.out]; exact Nat.le_refl _)]
        exact HTOT.out
      obtain ⟨ht⟩ : Nonempty (t = tot) := ⟨HT2.out⟩
      subst ht
      clear HAT HT2
      go_wp2_with fail
      go_ret
      exact ⟨rfl, HB0.out.trans (HB.out.mono (by have := HZ.out; omega))⟩

/-- **l2Count, AT EVERY EXPRESSION OF GOOD SHAPE.** -/
theorem sCount_one (nv na : Nat) : ∀ (d : Nat), d ≤ 6 → ∀ (n : Nat) (e : E) (c0 c1 c2 : Value) (D : Nat → Prop) (w : World), IsE w D n e [c0, c1, c2] → (∀ k, D k → k < w.heap.size) → shapeB nv na d e = true →
      Calls Tryd.prog 53 #[.agg #[c0, c1, c2], .int .i64 (d : Int)] w (AnsI (cntE e) w)
  | 0, _, n, e, c0, c1, c2, D, w, h, _, hs => by simp [shapeB] at hs
  | d + 1, hd, n, e, c0, c1, c2, D, w, h, hl, hs => sCount_succ nv na d (by omega) (sCount_one nv na d (by omega)) n e c0 c1 c2 D w h hl hs _ (by omega)

set_option maxHeartbeats 2000000 in
theorem sRight_one (p : Pg) (k : PC) (n : Nat) (e : E) (a : Option Addr) (c : Nat) (D : Nat → Prop) (w : World) (h : IsE w D n e (cellsI e a c)) (hl : ∀ k, D k → k < w.heap.size) :
    Calls Tryd.prog 34 #[aggP p k, .agg #[.int .i64 e.kind, .int .i64 e.value, .slice a e.kids.length c]] w (AnsB (rightB p.vars.length p.arrs.length e) w) := by
  have H := Lib.hid h
  clear h
  go_enter Tryd.func34, Tryd.ntmps34
  go_wp2_with fail
  obtain ⟨W, hW⟩ : ∃ W, ((w.alloc (.cells (arrP p k) 39)).alloc (.cells #[.int .i64 e.kind, .int .i64 e.value, .slice a e.kids.length c] 43)) = W := ⟨_, rfl⟩
  have hB : Below w.heap.size w W := by rw [← hW]; exact ((Below.refl _ w).alloc (Nat.le_refl _) _).alloc (by simp) _
  have hz : W.heap.size = w.heap.size + 2 := by rw [← hW]; simp
  have e1 : BoxE W (w.heap.size + 1) e a c := by
    have e1 := BoxE.new (w.alloc (.cells (arrP p k) 39)) e a c 43
    rw [World.size_alloc] at e1
    rw [← hW]; exact e1
  unfold arrP at hW
  rw [hW]
  clear hW
  have HB := Lib.hid hB
  have HX := Lib.hid e1
  have HZ := Lib.hid hz
  clear hB e1 hz
  have hs0 := HB.out.size
  refine (sShape_one p k 5 (by omega) n e _ _ _ D W (H.out.later (Stand.of_below HB.out hl)) (fun j hj => Nat.lt_of_lt_of_le (hl j hj) hs0)).mono ?_
  rintro g w1 ⟨rfl, hb1⟩
  have B1 := Lib.hid (HB.out.trans (hb1.mono hs0))
  have r := HX.out.below hb1 (by have := HZ.out; omega)
  have r0 := r.c0
  have r1 := r.c1
  have r2 := r.c2
  clear hb1 r HX HB
  cases hq : shapeB p.vars.length p.arrs.length 5 e
  case false =>
    have HN : Hid (false = rightB p.vars.length p.arrs.length e) := by show false = _; unfold rightB; rw [hq]; rfl
    go_wp2_with fail
    go_ret
    exact AnsB.of HN.out B1.out
  case true =>
    have hs1 := B1.out.size
    go_wp2_with fail
    refine (sCount_one p.vars.length p.arrs.length 5 (by omega) n e _ _ _ D w1 (H.out.later (Stand.of_below B1.out hl)) (fun j hj => Nat.lt_of_lt_of_le (hl j hj) hs1) hq).mono ?_
    rintro g w2 ⟨rfl, hb2⟩
    have B2 := Lib.hid (B1.out.trans (hb2.mono hs1))
    have HN : Hid (decide ((cntE e : Int) ≤ 15) = rightB p.vars.length p.arrs.length e) := by
      show _ = rightB p.vars.length p.arrs.length e
      unfold rightB
      rw [hq, Bool.true_and]
      congr 1
      exact propext ⟨fun h => by omega, fun h => by omega⟩
    clear hb2 hq
    by_cases h15 : cntE e ≤ 15
    · have hd : decide ((cntE e : Int) ≤ 15) = true := by simp; omega
      rw [hd] at HN
      go_wp2_with fail
      go_ret
      exact AnsB.of HN.out B2.out
    · have hd : decide ((cntE e : Int) ≤ 15) = false := by simp; omega
      rw [hd] at HN
      go_wp2_with fail
      go_ret
      exact AnsB.of HN.out B2.out

theorem lokB_eq (n : Int) : Lab.ok n = lokB n := rfl
def LokTo (xs : List Int) (k : Nat) : Prop := ∀ j, j < k → lokB (xs.getD j 0) = true
theorem LokTo.succ {xs : List Int} {k : Nat} (h : LokTo xs k) (e : lokB (xs.getD k 0) = true) : LokTo xs (k + 1) := fun j hj => by
  by_cases hk : j = k
  · rw [hk]; exact e
  · exact h j (by omega)
theorem LokTo.all {xs : List Int} {k : Nat} (h : LokTo xs k) (hk : xs.length ≤ k) : xs.all lokB = true :=
  List.all_eq_true.2 fun x hx => by
    obtain ⟨i, hi, rfl⟩ := List.getElem_of_mem hx
    have := h i (by omega)
    simpa [List.getD, hi] using this
theorem lok_no {xs : List Int} {k : Nat} (h : lokB (xs.getD k 0) = false) (hk : k < xs.length) : xs.all lokB = false := by
  cases hq : xs.all lokB
  · rfl
  · have := List.all_eq_true.1 hq (xs[k]) (List.getElem_mem hk)
    rw [show xs.getD k 0 = xs[k] by simp [List.getD, hk], this] at h
    cases h

set_option maxRecDepth 100000 in
set_option maxHeartbeats 4000000 in
theorem sHeads_one (p : Pg) (k : PC) (n : Nat) (D : Nat → Prop) (w : World) (h : IsP w D n p k) (hl : ∀ k, D k → k < w.heap.size) :
    Calls Tryd.prog 33 #[aggP p k] w (AnsB (headsB p) w) := by
  obtain ⟨⟨hv0, hv1, hvat⟩, ⟨ha0, ha1, haat⟩, _⟩ := h
  have HV := Lib.hid hvat
  have HA := Lib.hid haat
  unfold maxLen at hv1 ha1
  obtain ⟨nv, hnv⟩ : ∃ nv, p.vars.length = nv := ⟨_, rfl⟩
  obtain ⟨na, hna⟩ : ∃ na, p.arrs.length = na := ⟨_, rfl⟩
  have HNV := Lib.hid hnv
  have HNA := Lib.hid hna
  have HBX := Lib.hid (BoxP.new w p k 39)
  have HB := Lib.hid ((Below.refl w.heap.size w).alloc (Nat.le_refl _) (.cells (arrP p k) 39))
  obtain ⟨W, hW⟩ : ∃ W, W = w.alloc (.cells (arrP p k) 39) := ⟨_, rfl⟩
  have hz : W.heap.size = w.heap.size + 1 := by rw [hW]; simp
  rw [← hW] at HBX HB
  have HQ : Hid (∀ wr, Below W.heap.size W wr → wr.cell? ⟨w.heap.size, 0, none⟩ = some (.slice k.va nv k.vc) ∧ wr.cell? ⟨w.heap.size, 1, none⟩ = some (.slice k.aa na k.ac)) := fun wr hb => by
    have b1 := HBX.out.below hb (by omega)
    have c0 := b1.c0
    have c1 := b1.c1
    rw [hnv] at c0
    rw [hna] at c1
    exact ⟨c0, c1⟩
  have HST : Hid (∀ wr, Below W.heap.size W wr → Stand D w wr) := fun wr hb => Stand.trans (Stand.of_below HB.out hl) (Stand.of_below hb fun i hi => by have := hl i hi; omega)
  rw [hnv] at hv0
  rw [hna] at ha0
  have HW := Lib.hid hW
  have hBW : ∀ wr, Below W.heap.size W wr → Below w.heap.size w wr := fun wr hb => HB.out.trans (hb.mono (by omega))
  have HBW := Lib.hid hBW
  have hW2 : W = w.alloc (.cells #[.slice k.va nv k.vc, .slice k.aa na k.ac, .slice k.ba p.body.length k.bc] 39) := by rw [hW, ← hnv, ← hna]
  clear hvat haat hnv hna HBX hBW hz hW
  go_enter Tryd.func33, Tryd.ntmps33
  go_wp2_with fail
  rw [HNV.out, HNA.out, ← hW2]
  clear hW2
  go_loopw [3] (fun i wr => ∃ j : Nat, j ≤ nv ∧ i = .int .i64 j ∧ LokTo p.vars j ∧ Below W.heap.size W wr) (fun i _ => nv - (intOf i).toNat)
  case atStart => exact ⟨0, Nat.zero_le _, rfl, fun j hj => absurd hj (Nat.not_lt_zero _), Below.refl _ _⟩
  case round =>
    obtain ⟨j, hj, rfl, hL, hB⟩ := hrel
    have HL := Lib.hid hL
    have HB1 := Lib.hid hB
    obtain ⟨q0, q1⟩ := HQ.out wr hB
    clear hL hB
    by_cases hlt : j < nv
    · obtain ⟨b, o, ha, hb, hc⟩ := HV.out j (by rw [HNV.out]; exact hlt)
      rw [ha] at q0
      have hc2 := (World.cell?_of_block (w := w) (a := ⟨b, o + j, none⟩) (HST.out wr HB1.out b hb)).trans hc
      obtain ⟨v, hv⟩ : ∃ v, p.vars.getD j 0 = v := ⟨_, rfl⟩
      rw [hv] at hc2
      have HVV := Lib.hid hv
      clear hc hb hv ha
      cases hok : Lab.ok v
      case false =>
        have HN : Hid (false = headsB p) := by
          show false = headsB p
          unfold headsB
          rw [lok_no (k := j) (by rw [HVV.out]; exact hok) (by rw [HNV.out]; exact hlt)]; simp
        go_wp2_with (go_at_call 51; refine (sValid_any _ _).mono ?_; rintro e w' ⟨rfl, rfl⟩; rw [hok])
        go_ret
        exact AnsB.of HN.out (HBW.out _ HB1.out)
      case true =>
        have HL2 : Hid (LokTo p.vars (j + 1)) := HL.out.succ (by rw [HVV.out]; exact hok)
        go_wp2_with (go_at_call 51; refine (sValid_any _ _).mono ?_; rintro e w' ⟨rfl, rfl⟩; rw [hok])
        go_roundw
        case rel => exact ⟨j + 1, by omega, by go_num, HL2.out, HB1.out⟩
        case measure => simp [intOf]; omega
    · obtain rfl : j = nv := by omega
      have HLV : Hid (p.vars.all lokB = true) := HL.out.all (by rw [HNV.out]; exact Nat.le_refl _)
      clear HL
      go_wp2_with fail
      clear q0 q1
      go_loopw [4] (fun i wr => ∃ j : Nat, j ≤ na ∧ i = .int .i64 j ∧ LokTo p.arrs j ∧ Below W.heap.size W wr) (fun i _ => na - (intOf i).toNat)
      case atStart => exact ⟨0, Nat.zero_le _, rfl, fun j hj => absurd hj (Nat.not_lt_zero _), HB1.out⟩
      case round =>
        obtain ⟨i, hi, rfl, hL, hB⟩ := hrel
        have HL := Lib.hid hL
        have HB2 := Lib.hid hB
        obtain ⟨q0, q1⟩ := HQ.out _ hB
        clear hL hB
        by_cases hlt : i < na
        · obtain ⟨b, o, ha, hb, hc⟩ := HA.out i (by rw [HNA.out]; exact hlt)
          rw [ha] at q1
          have hc2 := (World.cell?_of_block (w := w) (a := ⟨b, o + i, none⟩) (HST.out _ HB2.out b hb)).trans hc
          obtain ⟨v, hv⟩ : ∃ v, p.arrs.getD i 0 = v := ⟨_, rfl⟩
          rw [hv] at hc2
          have HVV := Lib.hid hv
          clear hc hb hv ha
          cases hok : Lab.ok v
          case false =>
            have HN : Hid (false = headsB p) := by
              show false = headsB p
              unfold headsB
              rw [lok_no (k := i) (xs := p.arrs) (by rw [HVV.out]; exact hok) (by rw [HNA.out]; exact hlt)]; simp
            go_wp2_with (go_at_call 51; refine (sValid_any _ _).mono ?_; rintro e w' ⟨rfl, rfl⟩; rw [hok])
            go_ret
            exact AnsB.of HN.out (HBW.out _ HB2.out)
          case true =>
            have HL2 : Hid (LokTo p.arrs (i + 1)) := HL.out.succ (by rw [HVV.out]; exact hok)
            go_wp2_with (go_at_call 51; refine (sValid_any _ _).mono ?_; rintro e w' ⟨rfl, rfl⟩; rw [hok])
            go_roundw
            case rel => exact ⟨i + 1, by omega, by go_num, HL2.out, HB2.out⟩
            case measure => simp [intOf]; omega
        · obtain rfl : i = na := by omega
          have HLA : Hid (p.arrs.all lokB = true) := HL.out.all (by rw [HNA.out]; exact Nat.le_refl _)
          have HN : Hid ((decide (1 ≤ j) && decide (j ≤ 12) && decide (i ≤ 2)) = headsB p) := by
            show _ = headsB p
            unfold headsB
            rw [HLV.out, HLA.out, HNV.out, HNA.out]; simp
          clear HL HLA HLV
          by_cases g1 : 1 ≤ j
          case neg =>
            have d1 : decide ((1 : Int) ≤ (j : Int)) = false := by simp; omega
            have HN2 : Hid (false = headsB p) := by show false = _; rw [← HN.out, decide_eq_false g1]; simp
            go_wp2_with fail
            go_ret
            exact AnsB.of HN2.out (HBW.out _ HB2.out)
          case pos =>
          by_cases g2 : j ≤ 12
          case neg =>
            have d1 : decide ((1 : Int) ≤ (j : Int)) = true := by simp; omega
            have d2 : decide ((j : Int) ≤ 12) = false := by simp; omega
            have HN2 : Hid (false = headsB p) := by show false = _; rw [← HN.out, decide_eq_false g2]; simp
            go_wp2_with fail
            go_ret
            exact AnsB.of HN2.out (HBW.out _ HB2.out)
          case pos =>
          have d1 : decide ((1 : Int) ≤ (j : Int)) = true := by simp; omega
          have d2 : decide ((j : Int) ≤ 12) = true := by simp; omega
          by_cases g3 : i ≤ 2
          case neg =>
            have d3 : decide ((i : Int) ≤ 2) = false := by simp; omega
            have HN2 : Hid (false = headsB p) := by show false = _; rw [← HN.out, decide_eq_false g3]; simp
            go_wp2_with fail
            go_ret
            exact AnsB.of HN2.out (HBW.out _ HB2.out)
          case pos =>
            have d3 : decide ((i : Int) ≤ 2) = true := by simp; omega
            have HN2 : Hid (true = headsB p) := by show true = _; rw [← HN.out, decide_eq_true g1, decide_eq_true g2, decide_eq_true g3]; simp
            go_wp2_with fail
            go_ret
            exact AnsB.of HN2.out (HBW.out _ HB2.out)

end Go.Proofs.YtjmfnpljkiobkaaDoor

/- The model's ExprValid: l2Count, l2Right, l2Heads, ExprValid answer what the plain functions say; nothing that was there has changed. -/
import Derived.Test.YtgfagdjadmpklaaSpE
import Derived.Test.YtgfagdjadmpklaaSpH
namespace Go.Proofs.Ytgfagdjadmpklaa
open Go.RowKit
set_option linter.unusedVariables false

/-- A number; nothing that was there has changed. -/
def AnsI (n : Int) (w : World) (e : Ending) (w' : World) : Prop := e = .returned (.int .i64 n) ∧ Below w.heap.size w w'

set_option maxHeartbeats 2000000 in
theorem sCount_succ (nv na d : Nat) (hd : d ≤ 5) (ih : ∀ (n : Nat) (e : E) (c0 c1 c2 : Value) (D : Nat → Prop) (w : World), IsE w D n e [c0, c1, c2] → (∀ k, D k → k < w.heap.size) → shapeB nv na d e = true →
      Calls Try.prog 125 #[.agg #[c0, c1, c2], .int .i64 (d : Int)] w (AnsI (cntE e) w))
    (n : Nat) (e : E) (c0 c1 c2 : Value) (D : Nat → Prop) (w : World) (h : IsE w D n e [c0, c1, c2]) (hl : ∀ k, D k → k < w.heap.size) (hs : shapeB nv na (d + 1) e = true) (m : Int) (hm0 : m = (d : Int) + 1) :
    Calls Try.prog 125 #[.agg #[c0, c1, c2], .int .i64 m] w (AnsI (cntE e) w) := by
  cases n with
  | zero => exact h.elim
  | succ n =>
  obtain ⟨a, cap, hcs, hcap, hm, hat⟩ := h
  cases hcs
  unfold maxLen at hm
  have hcn := shape_cnt nv na (d + 1) e hs
  have hp : 4 ^ (d + 1) ≤ 4 ^ 6 := Nat.pow_le_pow_right (by omega) (by omega)
  have hcn' : cntE e ≤ 4096 := by have : (4 : Nat) ^ 6 = 4096 := by decide
                                  omega
  have HAT := Lib.hid hat
  have IH := Lib.hid ih
  clear ih hat hcn hp
  have hd2 : (1 : Int) ≤ m := by omega
  have hd3 : m ≤ 6 := by omega
  have hd4 : decide ((0 : Int) < m) = true := by simp; omega
  have HM : Hid (m - 1 = (d : Int)) := by show m - 1 = (d : Int); omega
  clear hm0
  have HCE := Lib.hid (cntE_eq e)
  obtain ⟨es, hes⟩ : ∃ es, e.kids = es := ⟨_, rfl⟩
  obtain ⟨len, hlen⟩ : ∃ len, es.length = len := ⟨_, rfl⟩
  rw [hes] at HAT HCE
  have HSH : Hid (∀ x ∈ es, shapeB nv na d x = true) := by
    rw [shapeB, Bool.and_eq_true, hes] at hs
    exact List.all_eq_true.1 hs.2
  obtain ⟨tot, htot⟩ : ∃ tot, cntE e = tot := ⟨_, rfl⟩
  have HTOT : Hid (1 + cntEs es = tot) := by show 1 + cntEs es = tot; rw [← htot]; exact HCE.out.symm
  have HLEN := Lib.hid hlen
  rw [hes, hlen] at hcap
  rw [htot] at hcn' ⊢
  rw [hes, hlen]
  have hle : len ≤ 3 := by
    rw [shapeB, Bool.and_eq_true] at hs
    have h1 := hs.1
    unfold nodeB at h1
    simp only [Bool.and_eq_true, decide_eq_true_iff] at h1
    have h2 := arity_le e.kind
    rw [hes, hlen] at h1
    omega
  clear hs hes hlen htot HCE
  go_enter Try.func125, Try.ntmps125
  go_wp2_with fail
  obtain ⟨W, hW⟩ : ∃ W, (w.alloc (.cells #[.int .i64 e.kind, .int .i64 e.value, .slice a len cap] 45)) = W := ⟨_, rfl⟩
  have hB0 : Below w.heap.size w W := by rw [← hW]; exact (Below.refl _ w).alloc (Nat.le_refl _) _
  have hz0 : W.heap.size = w.heap.size + 1 := by rw [← hW]; simp
  have x2 : W.cell? ⟨w.heap.size, 2, none⟩ = some (.slice a len cap) := by rw [← hW]; simp
  rw [hW]
  clear hW
  have HB0 := Lib.hid hB0
  have X2 := Lib.hid x2
  have HZ := Lib.hid hz0
  clear hB0 x2 hz0
  go_loopw [5, 6] (fun c i wr => ∃ j t : Nat, j ≤ len ∧ i = .int .i64 j ∧ c = .int .i64 t ∧ t ≤ tot ∧ t = 1 + cntEs (es.take j) ∧ Below W.heap.size W wr) (fun _ i _ => len - (intOf i).toNat)
  case atStart => exact ⟨0, 1, Nat.zero_le _, rfl, rfl, by have := HTOT.out; omega, by simp [cntEs], Below.refl _ _⟩
  case round =>
    obtain ⟨j, t, hj, rfl, rfl, htl, ht, hB⟩ := hrel
    have HT := Lib.hid ht
    have HB := Lib.hid hB
    have q2 := (hB.cell (p := ⟨w.heap.size, 2, none⟩) (by show w.heap.size < W.heap.size; have := HZ.out; omega)).trans X2.out
    have hsz := hB.size
    clear ht hB
    by_cases hlt : j < len
    · obtain ⟨x, hx⟩ : ∃ x, es[j]? = some x := ⟨es[j]'(by rw [HLEN.out]; exact hlt), List.getElem?_eq_getElem _⟩
      obtain ⟨b, o, c0, c1, c2, rfl, hbl, e0, e1, e2, hE⟩ := HAT.out j x hx
      have hst : Stand D w wr := Stand.trans (Stand.of_below HB0.out hl) (Stand.of_below HB.out fun i hi => by have := hl i hi; have := HZ.out; omega)
      have r0 := (World.cell?_of_block (w := w) (a := ⟨b, o + j * 3, none⟩) (hst b hbl)).trans e0
      have r1 := (World.cell?_of_block (w := w) (a := ⟨b, o + j * 3 + 1, none⟩) (hst b hbl)).trans e1
      have r2 := (World.cell?_of_block (w := w) (a := ⟨b, o + j * 3 + 2, none⟩) (hst b hbl)).trans e2
      have HE : Hid (IsE wr D n x [c0, c1, c2]) := hE.later hst
      have HDW : Hid (∀ i, D i → i < wr.heap.size) := fun i hi => by have := hl i hi; have := HZ.out; omega
      have HX := Lib.hid hx
      have HXS : Hid (shapeB nv na d x = true) := HSH.out x (List.mem_of_getElem? hx)
      have hcs : cntEs (es.take (j + 1)) = cntEs (es.take j) + cntE x := cntEs_snoc es j x hx
      have hct := cntEs_take es (j + 1)
      obtain ⟨cx, hcx⟩ : ∃ cx, cntE x = cx := ⟨_, rfl⟩
      have hT2 : t + cx = 1 + cntEs (es.take (j + 1)) := by rw [hcs, hcx, HT.out]; omega
      have hle2 : t + cx ≤ tot := by have := HTOT.out; omega
      have HT2 := Lib.hid hT2
      have HCX := Lib.hid hcx
      clear hE hx hst e0 e1 e2 HAT hcs hct hT2 hcx
      go_wp2_with fail
      rw [HM.out]
      refine (IH.out n x c0 c1 c2 D _ HE.out HDW.out HXS.out).mono ?_
      rintro g w2 ⟨rfl, hb2⟩
      rw [HCX.out]
      have HB2 : Hid (Below W.heap.size W w2) := HB.out.trans (hb2.mono hsz)
      clear hb2
      go_wp2_with fail
      go_roundw
      case rel => exact ⟨j + 1, t + cx, by omega, by go_num, by go_num, hle2, HT2.out, HB2.out⟩
      case measure => simp [intOf]; omega
    · obtain rfl : j = len := by omega
      have HT2 : Hid (t = tot) := by
        show t = tot
        rw [HT.out, List.take_of_length_le (by rw [HLEN.out]; exact Nat.le_refl _)]
        exact HTOT.out
      obtain ⟨ht⟩ : Nonempty (t = tot) := ⟨HT2.out⟩
      subst ht
      clear HAT HT2
      go_wp2_with fail
      go_ret
      exact ⟨rfl, HB0.out.trans (HB.out.mono (by have := HZ.out; omega))⟩

/-- **l2Count, AT EVERY EXPRESSION OF GOOD SHAPE.** -/
theorem sCount_one (nv na : Nat) : ∀ (d : Nat), d ≤ 6 → ∀ (n : Nat) (e : E) (c0 c1 c2 : Value) (D : Nat → Prop) (w : World), IsE w D n e [c0, c1, c2] → (∀ k, D k → k < w.heap.size) → shapeB nv na d e = true →
      Calls Try.prog 125 #[.agg #[c0, c1, c2], .int .i64 (d : Int)] w (AnsI (cntE e) w)
  | 0, _, n, e, c0, c1, c2, D, w, h, _, hs => by simp [shapeB] at hs
  | d + 1, hd, n, e, c0, c1, c2, D, w, h, hl, hs => sCount_succ nv na d (by omega) (sCount_one nv na d (by omega)) n e c0 c1 c2 D w h hl hs _ (by omega)

set_option maxHeartbeats 2000000 in
theorem sRight_one (p : Pg) (k : PC) (n : Nat) (e : E) (a : Option Addr) (c : Nat) (D : Nat → Prop) (w : World) (h : IsE w D n e (cellsI e a c)) (hl : ∀ k, D k → k < w.heap.size) :
    Calls Try.prog 120 #[aggP p k, .agg #[.int .i64 e.kind, .int .i64 e.value, .slice a e.kids.length c]] w (AnsB (rightB p.vars.length p.arrs.length e) w) := by
  have H := Lib.hid h
  clear h
  go_enter Try.func120, Try.ntmps120
  go_wp2_with fail
  obtain ⟨W, hW⟩ : ∃ W, ((w.alloc (.cells (arrP p k) 55)).alloc (.cells #[.int .i64 e.kind, .int .i64 e.value, .slice a e.kids.length c] 45)) = W := ⟨_, rfl⟩
  have hB : Below w.heap.size w W := by rw [← hW]; exact ((Below.refl _ w).alloc (Nat.le_refl _) _).alloc (by simp) _
  have hz : W.heap.size = w.heap.size + 2 := by rw [← hW]; simp
  have e1 : BoxE W (w.heap.size + 1) e a c := by
    have e1 := BoxE.new (w.alloc (.cells (arrP p k) 55)) e a c 45
    rw [World.size_alloc] at e1
    rw [← hW]; exact e1
  unfold arrP at hW
  rw [hW]
  clear hW
  have HB := Lib.hid hB
  have HX := Lib.hid e1
  have HZ := Lib.hid hz
  clear hB e1 hz
  have hs0 := HB.out.size
  refine (sShape_one p k 5 (by omega) n e _ _ _ D W (H.out.later (Stand.of_below HB.out hl)) (fun j hj => Nat.lt_of_lt_of_le (hl j hj) hs0)).mono ?_
  rintro g w1 ⟨rfl, hb1⟩
  have B1 := Lib.hid (HB.out.trans (hb1.mono hs0))
  have r := HX.out.below hb1 (by have := HZ.out; omega)
  have r0 := r.c0
  have r1 := r.c1
  have r2 := r.c2
  clear hb1 r HX HB
  cases hq : shapeB p.vars.length p.arrs.length 5 e
  case false =>
    have HN : Hid (false = rightB p.vars.length p.arrs.length e) := by show false = _; unfold rightB; rw [hq]; rfl
    go_wp2_with fail
    go_ret
    exact AnsB.of HN.out B1.out
  case true =>
    have hs1 := B1.out.size
    go_wp2_with fail
    refine (sCount_one p.vars.length p.arrs.length 5 (by omega) n e _ _ _ D w1 (H.out.later (Stand.of_below B1.out hl)) (fun j hj => Nat.lt_of_lt_of_le (hl j hj) hs1) hq).mono ?_
    rintro g w2 ⟨rfl, hb2⟩
    have B2 := Lib.hid (B1.out.trans (hb2.mono hs1))
    have HN : Hid (decide ((cntE e : Int) ≤ 15) = rightB p.vars.length p.arrs.length e) := by
      show _ = rightB p.vars.length p.arrs.length e
      unfold rightB
      rw [hq, Bool.true_and]
      congr 1
      exact propext ⟨fun h => by omega, fun h => by omega⟩
    clear hb2 hq
    by_cases h15 : cntE e ≤ 15
    · have hd : decide ((cntE e : Int) ≤ 15) = true := by simp; omega
      rw [hd] at HN
      go_wp2_with fail
      go_ret
      exact AnsB.of HN.out B2.out
    · have hd : decide ((cntE e : Int) ≤ 15) = false := by simp; omega
      rw [hd] at HN
      go_wp2_with fail
      go_ret
      exact AnsB.of HN.out B2.out

end Go.Proofs.Ytgfagdjadmpklaa

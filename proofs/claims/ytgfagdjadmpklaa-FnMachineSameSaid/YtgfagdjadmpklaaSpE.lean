/- The model's judgement of expressions: l2Arity, l2Limit, l2Atom, l2Shape, l2Count, l2Right answer what the plain functions say; nothing that was there has changed. -/
import Derived.Test.YtgfagdjadmpklaaEq
import Derived.Test.YtgfagdjadmpklaaTreeP
import Derived.Deep.RegionHeld3
import Derived.BigQuiet
import Derived.IntWalk
import Derived.Deep.QuietTactic
namespace Go.Proofs.Ytgfagdjadmpklaa
open Go.RowKit
set_option linter.unusedVariables false

theorem below_drewNq {B : Nat} {a w : World} (h : Below B a w) (k : Nat) : Below B a (w.drewN k) := ⟨h.os, h.tape, h.output, h.size, h.block⟩
theorem arity_cases (n : Int) : n = 1 ∨ n = 2 ∨ n = 3 ∨ (4 ≤ n ∧ n ≤ 10) ∨ n = 11 ∨ n < 1 ∨ 11 < n := by omega

set_option maxHeartbeats 1000000 in
theorem sArity_any (n : Int) (w : World) : Calls Try.prog 123 #[.int .i64 n] w fun e w' => e = .returned (.int .i64 (arity n)) ∧ w = w' := by
  rcases arity_cases n with rfl | rfl | rfl | ⟨h1, h2⟩ | rfl | h | h
  case inr.inr.inr.inl =>
    have e : arity n = 2 := by unfold arity; rw [if_neg (by omega), if_neg (by omega), if_pos (by omega)]
    have n1 : (n == 1) = false := by simp; omega
    have n2 : (n == 2) = false := by simp; omega
    have n3 : (n == 3) = false := by simp; omega
    have d1 : decide (4 ≤ n) = true := by simp; omega
    have d2 : decide (n ≤ 10) = true := by simp; omega
    rw [e]
    clear e
    go_enter Try.func123, Try.ntmps123
    go_wp2
    go_ret
    exact ⟨rfl, rfl⟩
  case inr.inr.inr.inr.inr.inl =>
    have e : arity n = -1 := by unfold arity; rw [if_neg (by omega), if_neg (by omega), if_neg (by omega), if_neg (by omega)]
    have n1 : (n == 1) = false := by simp; omega
    have n2 : (n == 2) = false := by simp; omega
    have n3 : (n == 3) = false := by simp; omega
    have n4 : (n == 11) = false := by simp; omega
    have d1 : decide (4 ≤ n) = false := by simp; omega
    rw [e]
    clear e
    go_enter Try.func123, Try.ntmps123
    go_wp2
    go_ret
    exact ⟨rfl, rfl⟩
  case inr.inr.inr.inr.inr.inr =>
    have e : arity n = -1 := by unfold arity; rw [if_neg (by omega), if_neg (by omega), if_neg (by omega), if_neg (by omega)]
    have n1 : (n == 1) = false := by simp; omega
    have n2 : (n == 2) = false := by simp; omega
    have n3 : (n == 3) = false := by simp; omega
    have n4 : (n == 11) = false := by simp; omega
    have d1 : decide (4 ≤ n) = true := by simp; omega
    have d2 : decide (n ≤ 10) = false := by simp; omega
    rw [e]
    clear e
    go_enter Try.func123, Try.ntmps123
    go_wp2
    go_ret
    exact ⟨rfl, rfl⟩
  all_goals
    go_enter Try.func123, Try.ntmps123
    go_wp2
    go_ret
    exact ⟨rfl, rfl⟩

theorem limit_cases (n : Int) : n = 1 ∨ n = 2 ∨ n = 3 ∨ (n ≠ 1 ∧ n ≠ 2 ∧ n ≠ 3) := by omega
set_option maxHeartbeats 1000000 in
theorem sLimit_any (nv na : Nat) (va aa ba : Option Addr) (vc ac nb bc : Nat) (n : Int) (w : World) : Calls Try.prog 127 #[.agg #[.slice va nv vc, .slice aa na ac, .slice ba nb bc], .int .i64 n] w fun e w' => e = .returned (.int .i64 (limit nv na n)) ∧ w' = w.alloc (.cells #[.slice va nv vc, .slice aa na ac, .slice ba nb bc] 55) := by
  rcases limit_cases n with rfl | rfl | rfl | ⟨h1, h2, h3⟩
  case inr.inr.inr =>
    have e : limit nv na n = 1 := by unfold limit; simp [h1, h2, h3]
    have n1 : (n == 1) = false := by simpa using h1
    have n2 : (n == 2) = false := by simpa using h2
    have n3 : (n == 3) = false := by simpa using h3
    rw [e]
    clear e h1 h2 h3
    go_enter Try.func127, Try.ntmps127
    go_wp2
    go_ret
    exact ⟨rfl, rfl⟩
  all_goals
    go_enter Try.func127, Try.ntmps127
    go_wp2
    go_ret
    exact ⟨rfl, rfl⟩

set_option maxHeartbeats 1000000 in
theorem sAtom_any (k v : Int) (c : Value) (a : Option Addr) (l m : Nat) (hc : c = .slice a l m) (w : World) : Calls Try.prog 122 #[.agg #[.int .i64 k, .int .i64 v, c]] w fun e w' => e = .returned (.bool (decide (k = 1) || decide (k = 2))) ∧ w' = w.alloc (.cells #[.int .i64 k, .int .i64 v, c] 45) := by
  subst hc
  by_cases h1 : k = 1
  · subst h1
    go_enter Try.func122, Try.ntmps122
    go_wp2
    go_ret
    exact ⟨rfl, rfl⟩
  · by_cases h2 : k = 2
    · subst h2
      go_enter Try.func122, Try.ntmps122
      go_wp2
      go_ret
      exact ⟨rfl, rfl⟩
    · have n1 : (k == 1) = false := by simpa using h1
      have n2 : (k == 2) = false := by simpa using h2
      have HD : Hid ((decide (k = 1) || decide (k = 2)) = false) := by
        show (decide (k = 1) || decide (k = 2)) = false
        simp [h1, h2]
      rw [HD.out]
      clear h1 h2
      go_enter Try.func122, Try.ntmps122
      go_wp2
      go_ret
      exact ⟨rfl, rfl⟩

/-- The first k operands are of good shape. -/
def AllTo (P : E → Bool) (es : List E) (k : Nat) : Prop := ∀ j x, j < k → es[j]? = some x → P x = true
theorem AllTo.all {P : E → Bool} {es : List E} {k : Nat} (h : AllTo P es k) (hk : es.length ≤ k) : es.all P = true :=
  List.all_eq_true.2 fun x hx => by
    obtain ⟨i, hi, rfl⟩ := List.getElem_of_mem hx
    exact h i _ (by omega) (List.getElem?_eq_getElem hi)
theorem all_no {P : E → Bool} {es : List E} {k : Nat} {x : E} (h : es[k]? = some x) (hp : P x = false) : es.all P = false := by
  cases hq : es.all P
  · rfl
  · have := List.all_eq_true.1 hq x (List.mem_of_getElem? h)
    rw [hp] at this; cases this

theorem kid0_of {es : List E} {x : E} (h : es[0]? = some x) : kid0B es = atomB x := by
  cases es with
  | nil => simp at h
  | cons y ys => simp at h; subst h; rfl

set_option maxRecDepth 100000 in
set_option maxHeartbeats 8000000 in
theorem sShape_succ (p : Pg) (k : PC) (d : Nat) (hd : d ≤ 5) (ih : ∀ (n : Nat) (e : E) (c0 c1 c2 : Value) (D : Nat → Prop) (w : World), IsE w D n e [c0, c1, c2] → (∀ k, D k → k < w.heap.size) →
      Calls Try.prog 124 #[aggP p k, .agg #[c0, c1, c2], .int .i64 (d : Int)] w (AnsB (shapeB p.vars.length p.arrs.length d e) w))
    (n : Nat) (e : E) (c0 c1 c2 : Value) (D : Nat → Prop) (w : World) (h : IsE w D n e [c0, c1, c2]) (hl : ∀ k, D k → k < w.heap.size) (m : Int) (hm0 : m = (d : Int) + 1) :
    Calls Try.prog 124 #[aggP p k, .agg #[c0, c1, c2], .int .i64 m] w (AnsB (shapeB p.vars.length p.arrs.length (d + 1) e) w) := by
  cases n with
  | zero => exact h.elim
  | succ n =>
  obtain ⟨a, cap, hcs, hcap, hm, hat⟩ := h
  cases hcs
  unfold maxLen at hm
  have HAT := Lib.hid hat
  have IH := Lib.hid ih
  clear ih hat
  have hd1 : decide (m < 1) = false := by simp; omega
  have hd2 : (1 : Int) ≤ m := by omega
  have hd3 : m ≤ 6 := by omega
  have HM : Hid (IntKind.i64.wrap (m - 1) = (d : Int)) := by
    show IntKind.i64.wrap (m - 1) = (d : Int)
    rw [hm0, show (d : Int) + 1 - 1 = d from by omega]
    exact IntWalk.i64_in _ (by omega)
  clear hm0
  obtain ⟨W0, hW0⟩ : ∃ W0, W0 = ((w.alloc (.cells (arrP p k) 55)).alloc (.cells #[.int .i64 e.kind, .int .i64 e.value, .slice a e.kids.length cap] 45)) := ⟨_, rfl⟩
  have H0 : Hid (Below w.heap.size w ((w.alloc (.cells (arrP p k) 55)).alloc (.cells #[.int .i64 e.kind, .int .i64 e.value, .slice a e.kids.length cap] 45))) := ((Below.refl _ w).alloc (Nat.le_refl _) _).alloc (by simp) _
  have HPX : Hid (BoxP W0 w.heap.size p k) := by
    rw [hW0]; exact (BoxP.new w p k _).later (Below.heap_alloc _ _ _ (by simp))
  have HEX : Hid (BoxE W0 (w.heap.size + 1) e a cap) := by
    have e1 := BoxE.new (w.alloc (.cells (arrP p k) 55)) e a cap 45
    rw [World.size_alloc] at e1
    rw [hW0]; exact e1
  have hz0 : W0.heap.size = w.heap.size + 2 := by rw [hW0]; simp
  have HZ0 := Lib.hid hz0
  have HW0 := Lib.hid hW0
  clear hz0 hW0
  by_cases hk : (e.kids.length : Int) = arity e.kind
  case neg =>
    have hk' : ((e.kids.length : Int) != arity e.kind) = true := by simpa using hk
    have HN : Hid (false = shapeB p.vars.length p.arrs.length (d + 1) e) := by
      show false = _
      simp [shapeB, nodeB, hk]
    clear hk
    go_enter Try.func124, Try.ntmps124
    go_wp2_with fail
    go_quiet ((go_at_call 123; exact Calls.quiet_of_same ((sArity_any _ _).mono fun _ _ h => ⟨h.1, h.2.symm⟩)))
    go_wp2_with fail
    go_ret
    exact AnsB.of HN.out (below_drewNq H0.out _)
  case pos =>
  have hk' : ((e.kids.length : Int) != arity e.kind) = false := by simpa using hk
  by_cases hv : 0 ≤ e.value
  case neg =>
    have hv' : decide (e.value < 0) = true := by simp; omega
    have HN : Hid (false = shapeB p.vars.length p.arrs.length (d + 1) e) := by
      show false = _
      have : decide (0 ≤ e.value) = false := by simpa using hv
      simp [shapeB, nodeB, this]
    clear hk hv
    go_enter Try.func124, Try.ntmps124
    go_wp2_with fail
    go_quiet ((go_at_call 123; exact Calls.quiet_of_same ((sArity_any _ _).mono fun _ _ h => ⟨h.1, h.2.symm⟩)))
    go_wp2_with fail
    go_ret
    exact AnsB.of HN.out (below_drewNq H0.out _)
  case pos =>
  have hv' : decide (e.value < 0) = false := by simp; omega
  by_cases hm2 : e.value < limit p.vars.length p.arrs.length e.kind
  case neg =>
    have hm' : decide (limit p.vars.length p.arrs.length e.kind ≤ e.value) = true := by simp; omega
    have HN : Hid (false = shapeB p.vars.length p.arrs.length (d + 1) e) := by
      show false = _
      have : decide (e.value < limit p.vars.length p.arrs.length e.kind) = false := by simpa using hm2
      simp [shapeB, nodeB, this]
    clear hk hv hm2
    go_enter Try.func124, Try.ntmps124
    go_wp2_with fail
    go_region_held3 (fun w' => w'.cell? ⟨w.heap.size, 0, none⟩ = some (.slice k.va p.vars.length k.vc) ∧ w'.cell? ⟨w.heap.size, 1, none⟩ = some (.slice k.aa p.arrs.length k.ac) ∧ w'.cell? ⟨w.heap.size, 2, none⟩ = some (.slice k.ba p.body.length k.bc) ∧ w'.cell? ⟨w.heap.size + 1, 0, none⟩ = some (.int .i64 e.kind) ∧ w'.cell? ⟨w.heap.size + 1, 1, none⟩ = some (.int .i64 e.value) ∧ w'.cell? ⟨w.heap.size + 1, 2, none⟩ = some (.slice a e.kids.length cap)) (go_keep)
      (first | (go_at_call 123; refine (sArity_any _ _).mono ?_; rintro g w2 ⟨rfl, rfl⟩) | (go_at_call 127; refine (sLimit_any _ _ _ _ _ _ _ _ _ _ _).mono ?_; rintro g w2 ⟨rfl, rfl⟩))
    all_goals
      go_wp2_with fail
      go_ret
      exact AnsB.of HN.out (H0.out.drew.alloc (by simp; omega) _)
  case pos =>
  have hm' : decide (limit p.vars.length p.arrs.length e.kind ≤ e.value) = false := by simp; omega
  have HND : Hid (shapeB p.vars.length p.arrs.length (d + 1) e = ((!decide (e.kind = 3) || kid0B e.kids) && e.kids.all (shapeB p.vars.length p.arrs.length d))) := by
    show shapeB p.vars.length p.arrs.length (d + 1) e = _
    simp only [shapeB, nodeB, hk, hv, hm2, decide_true, Bool.true_and, Bool.and_true]
  have HK := Lib.hid hk
  clear hk hv hm2
  obtain ⟨es, hes⟩ : ∃ es, e.kids = es := ⟨_, rfl⟩
  obtain ⟨len, hlen⟩ : ∃ len, es.length = len := ⟨_, rfl⟩
  rw [hes, hlen] at hcap hk' HK
  rw [hes] at HAT HND
  have HES := Lib.hid hes
  have HLEN := Lib.hid hlen
  have HE2 : Hid (∀ wr, Below (w.heap.size + 2) W0 wr → wr.cell? ⟨w.heap.size, 0, none⟩ = some (.slice k.va p.vars.length k.vc) ∧ wr.cell? ⟨w.heap.size, 1, none⟩ = some (.slice k.aa p.arrs.length k.ac) ∧ wr.cell? ⟨w.heap.size, 2, none⟩ = some (.slice k.ba p.body.length k.bc) ∧
      wr.cell? ⟨w.heap.size + 1, 0, none⟩ = some (.int .i64 e.kind) ∧ wr.cell? ⟨w.heap.size + 1, 1, none⟩ = some (.int .i64 e.value) ∧ wr.cell? ⟨w.heap.size + 1, 2, none⟩ = some (.slice a len cap)) := fun wr hb => by
    have b1 := HPX.out.below hb (by omega)
    have b2 := HEX.out.below hb (by omega)
    refine ⟨b1.c0, b1.c1, b1.c2, b2.c0, b2.c1, ?_⟩
    have := b2.c2
    rw [hes, hlen] at this
    exact this
  rw [hes, hlen] at H0 HW0 ⊢
  clear hes hlen HPX HEX
  have hb0 : Below w.heap.size w W0 := by rw [HW0.out]; exact H0.out
  have HB0 := Lib.hid hb0
  clear hb0
  go_enter Try.func124, Try.ntmps124
  go_wp2_with fail
  go_region_held3 (fun w' => w'.cell? ⟨w.heap.size, 0, none⟩ = some (.slice k.va p.vars.length k.vc) ∧ w'.cell? ⟨w.heap.size, 1, none⟩ = some (.slice k.aa p.arrs.length k.ac) ∧ w'.cell? ⟨w.heap.size, 2, none⟩ = some (.slice k.ba p.body.length k.bc) ∧ w'.cell? ⟨w.heap.size + 1, 0, none⟩ = some (.int .i64 e.kind) ∧ w'.cell? ⟨w.heap.size + 1, 1, none⟩ = some (.int .i64 e.value) ∧ w'.cell? ⟨w.heap.size + 1, 2, none⟩ = some (.slice a len cap)) (go_keep)
    (first | (go_at_call 123; refine (sArity_any _ _).mono ?_; rintro g w2 ⟨rfl, rfl⟩) | (go_at_call 127; refine (sLimit_any _ _ _ _ _ _ _ _ _ _ _).mono ?_; rintro g w2 ⟨rfl, rfl⟩))
  all_goals
    go_wp2_with fail
    clear hk' hv' hm' hd1
    go_loopw [7] (fun i wr => ∃ j : Nat, j ≤ len ∧ i = .int .i64 j ∧ AllTo (shapeB p.vars.length p.arrs.length d) es j ∧ Below (w.heap.size + 2) W0 wr) (fun i _ => len - (intOf i).toNat)
    case atStart =>
      refine ⟨0, Nat.zero_le _, rfl, fun j x hj => absurd hj (Nat.not_lt_zero _), ?_⟩
      rw [HW0.out]
      exact (Below.refl _ _).drew.alloc (by simp) _
    case round =>
      obtain ⟨j, hj, rfl, hA, hB⟩ := hrel
      have HA := Lib.hid hA
      have HB := Lib.hid hB
      obtain ⟨q0, q1, q2, q3, q4, q5⟩ := HE2.out wr hB
      have hsz : w.heap.size + 2 ≤ wr.heap.size := by have := hB.size; have := HZ0.out; omega
      clear hA hB
      by_cases hlt : j < len
      · obtain ⟨x, hx⟩ : ∃ x, es[j]? = some x := ⟨es[j]'(by rw [HLEN.out]; exact hlt), List.getElem?_eq_getElem _⟩
        obtain ⟨b, o, c0, c1, c2, rfl, hbl, e0, e1, e2, hE⟩ := HAT.out j x hx
        obtain ⟨xa, xc, rfl, rfl, rfl, _, _⟩ := hE.shape
        have hst : Stand D w wr := Stand.trans (Stand.of_below HB0.out hl) fun i hi => HB.out.block i (by have := hl i hi; omega)
        have r0 := (World.cell?_of_block (w := w) (a := ⟨b, o + j * 3, none⟩) (hst b hbl)).trans e0
        have r1 := (World.cell?_of_block (w := w) (a := ⟨b, o + j * 3 + 1, none⟩) (hst b hbl)).trans e1
        have r2 := (World.cell?_of_block (w := w) (a := ⟨b, o + j * 3 + 2, none⟩) (hst b hbl)).trans e2
        have HE : Hid (IsE wr.drew D n x [.int .i64 x.kind, .int .i64 x.value, .slice xa x.kids.length xc]) := hE.later (Stand.trans hst fun _ _ => rfl)
        have HDW : Hid (∀ i, D i → i < wr.drew.heap.size) := fun i hi => Nat.lt_of_lt_of_le (hl i hi) (by show w.heap.size ≤ wr.heap.size; omega)
        have hbw : b < wr.heap.size := by have := hl b hbl; omega
        have HS : Hid (∀ w', Below wr.drew.heap.size wr.drew w' → w'.cell? ⟨w.heap.size, 0, none⟩ = some (.slice k.va p.vars.length k.vc) ∧ w'.cell? ⟨w.heap.size, 1, none⟩ = some (.slice k.aa p.arrs.length k.ac) ∧ w'.cell? ⟨w.heap.size, 2, none⟩ = some (.slice k.ba p.body.length k.bc) ∧ w'.cell? ⟨w.heap.size + 1, 2, none⟩ = some (.slice (some ⟨b, o, none⟩) len cap) ∧ w'.cell? ⟨b, o + j * 3, none⟩ = some (.int .i64 x.kind) ∧ w'.cell? ⟨b, o + j * 3 + 1, none⟩ = some (.int .i64 x.value) ∧ w'.cell? ⟨b, o + j * 3 + 2, none⟩ = some (.slice xa x.kids.length xc)) := fun w' hb => ⟨(hb.cell (p := ⟨w.heap.size, 0, none⟩) (by show w.heap.size < wr.heap.size; omega)).trans q0, (hb.cell (p := ⟨w.heap.size, 1, none⟩) (by show w.heap.size < wr.heap.size; omega)).trans q1, (hb.cell (p := ⟨w.heap.size, 2, none⟩) (by show w.heap.size < wr.heap.size; omega)).trans q2, (hb.cell (p := ⟨w.heap.size + 1, 2, none⟩) (by show w.heap.size + 1 < wr.heap.size; omega)).trans q5, (hb.cell (p := ⟨b, o + j * 3, none⟩) hbw).trans r0, (hb.cell (p := ⟨b, o + j * 3 + 1, none⟩) hbw).trans r1, (hb.cell (p := ⟨b, o + j * 3 + 2, none⟩) hbw).trans r2⟩
        have HX := Lib.hid hx
        have i0 : (0 : Int) ≤ (j : Int) := by omega
        have i1 : (j : Int) < (len : Int) := by omega
        have hmm := HM.out
        clear hE hx hst e0 e1 e2 HAT
        cases hq : shapeB p.vars.length p.arrs.length d x
        case false =>
          have HN : Hid (false = shapeB p.vars.length p.arrs.length (d + 1) e) := by
            show false = _
            rw [HND.out, all_no HX.out hq, Bool.and_false]
          go_wp2_with fail
          go_region_held3 (fun w' => w'.cell? ⟨w.heap.size, 0, none⟩ = some (.slice k.va p.vars.length k.vc) ∧ w'.cell? ⟨w.heap.size, 1, none⟩ = some (.slice k.aa p.arrs.length k.ac) ∧ w'.cell? ⟨w.heap.size, 2, none⟩ = some (.slice k.ba p.body.length k.bc) ∧ w'.cell? ⟨w.heap.size + 1, 2, none⟩ = some (.slice (some ⟨b, o, none⟩) len cap) ∧ w'.cell? ⟨b, o + j * 3, none⟩ = some (.int .i64 x.kind) ∧ w'.cell? ⟨b, o + j * 3 + 1, none⟩ = some (.int .i64 x.value) ∧ w'.cell? ⟨b, o + j * 3 + 2, none⟩ = some (.slice xa x.kids.length xc)) (first | assumption | exact ⟨q0, q1, q2, q5, r0, r1, r2⟩)
            (first | (go_at_call 124; refine (IH.out n x _ _ _ D _ HE.out HDW.out).mono ?_; rintro g w2 ⟨rfl, hb2⟩; have hS2 := HS.out w2 hb2; have HB2 : Hid (Below (w.heap.size + 2) W0 w2) := (HB.out.drew.trans (hb2.mono hsz)); clear hb2; rw [hq]))
          all_goals
            go_wp2_with fail
            go_ret
            exact AnsB.of HN.out (HB0.out.trans (HB2.out.mono (by omega)))
        case true =>
          have HA2 : Hid (AllTo (shapeB p.vars.length p.arrs.length d) es (j + 1)) := fun i y hi hy => by
            by_cases hij : i = j
            · subst hij
              rw [HX.out] at hy
              cases hy
              exact hq
            · exact HA.out i y (by omega) hy
          go_wp2_with fail
          go_region_held3 (fun w' => w'.cell? ⟨w.heap.size, 0, none⟩ = some (.slice k.va p.vars.length k.vc) ∧ w'.cell? ⟨w.heap.size, 1, none⟩ = some (.slice k.aa p.arrs.length k.ac) ∧ w'.cell? ⟨w.heap.size, 2, none⟩ = some (.slice k.ba p.body.length k.bc) ∧ w'.cell? ⟨w.heap.size + 1, 2, none⟩ = some (.slice (some ⟨b, o, none⟩) len cap) ∧ w'.cell? ⟨b, o + j * 3, none⟩ = some (.int .i64 x.kind) ∧ w'.cell? ⟨b, o + j * 3 + 1, none⟩ = some (.int .i64 x.value) ∧ w'.cell? ⟨b, o + j * 3 + 2, none⟩ = some (.slice xa x.kids.length xc)) (first | assumption | exact ⟨q0, q1, q2, q5, r0, r1, r2⟩)
            (first | (go_at_call 124; refine (IH.out n x _ _ _ D _ HE.out HDW.out).mono ?_; rintro g w2 ⟨rfl, hb2⟩; have hS2 := HS.out w2 hb2; have HB2 : Hid (Below (w.heap.size + 2) W0 w2) := (HB.out.drew.trans (hb2.mono hsz)); clear hb2; rw [hq]))
          all_goals
            go_wp2_with fail
            go_roundw
            case rel => exact ⟨j + 1, by omega, by go_num, HA2.out, HB2.out⟩
            case measure => simp [intOf]; omega
      · obtain rfl : j = len := by omega
        have hall : es.all (shapeB p.vars.length p.arrs.length d) = true := HA.out.all (by rw [HLEN.out]; exact Nat.le_refl _)
        by_cases hk3 : e.kind = 3
        case neg =>
          have hk' : (e.kind != 3) = true := by simpa using hk3
          have hk'' : (e.kind == 3) = false := by simpa using hk3
          have HN : Hid (true = shapeB p.vars.length p.arrs.length (d + 1) e) := by
            show true = _
            rw [HND.out, hall, decide_eq_false hk3]; rfl
          clear hk3 HAT hall
          go_wp2_with fail
          go_ret
          exact AnsB.of HN.out (HB0.out.trans (HB.out.mono (by omega)))
        case pos =>
          have hl1 : j = 1 := by
            have := HK.out
            rw [hk3] at this
            simp [arity] at this
            omega
          subst hl1
          obtain ⟨x, hx⟩ : ∃ x, es[0]? = some x := ⟨es[0]'(by rw [HLEN.out]; omega), List.getElem?_eq_getElem _⟩
          obtain ⟨b, o, c0, c1, c2, rfl, hbl, e0, e1, e2, hE⟩ := HAT.out 0 x hx
          obtain ⟨xa, xc, rfl, rfl, rfl, _, _⟩ := hE.shape
          have hst : Stand D w wr := Stand.trans (Stand.of_below HB0.out hl) fun i hi => HB.out.block i (by have := hl i hi; omega)
          have r0 := (World.cell?_of_block (w := w) (a := ⟨b, o + 0 * 3, none⟩) (hst b hbl)).trans e0
          have r1 := (World.cell?_of_block (w := w) (a := ⟨b, o + 0 * 3 + 1, none⟩) (hst b hbl)).trans e1
          have r2 := (World.cell?_of_block (w := w) (a := ⟨b, o + 0 * 3 + 2, none⟩) (hst b hbl)).trans e2
          simp only [Nat.zero_mul, Nat.add_zero] at r0 r1 r2
          have HN : Hid ((decide (x.kind = 1) || decide (x.kind = 2)) = shapeB p.vars.length p.arrs.length (d + 1) e) := by
            show _ = shapeB p.vars.length p.arrs.length (d + 1) e
            rw [HND.out, hall, kid0_of hx, decide_eq_true hk3]; simp [atomB]
          rw [hk3] at q3
          clear hst e0 e1 e2 hE hx HAT hall
          go_wp2_with fail
          refine (sAtom_any _ _ _ _ _ _ rfl _).mono ?_
          rintro g w2 ⟨rfl, hw2⟩
          have HB2 : Hid (Below (w.heap.size + 2) W0 w2) := by rw [hw2]; exact HB.out.alloc hsz _
          clear hw2
          rw [HN.out]
          go_wp2_with fail
          go_ret
          exact AnsB.of rfl (HB0.out.trans (HB2.out.mono (by omega)))

theorem sShape_zero (p : Pg) (k : PC) (e : E) (n : Nat) (c0 c1 c2 : Value) (D : Nat → Prop) (w : World) (h : IsE w D n e [c0, c1, c2]) :
    Calls Try.prog 124 #[aggP p k, .agg #[c0, c1, c2], .int .i64 0] w (AnsB (shapeB p.vars.length p.arrs.length 0 e) w) := by
  obtain ⟨a, c, rfl, rfl, rfl, _, _⟩ := h.shape
  have H0 : Hid (Below w.heap.size w ((w.alloc (.cells (arrP p k) 55)).alloc (.cells #[.int .i64 e.kind, .int .i64 e.value, .slice a e.kids.length c] 45))) := ((Below.refl _ w).alloc (Nat.le_refl _) _).alloc (by simp) _
  have HN : Hid (false = shapeB p.vars.length p.arrs.length 0 e) := by show false = _; rfl
  go_enter Try.func124, Try.ntmps124
  go_wp2_with fail
  go_quiet (fail)
  go_wp2_with fail
  go_ret
  exact AnsB.of HN.out (below_drewNq H0.out _)

/-- **l2Shape, AT EVERY EXPRESSION, DOWN TO FIVE LEVELS.** -/
theorem sShape_one (p : Pg) (k : PC) : ∀ (d : Nat), d ≤ 6 → ∀ (n : Nat) (e : E) (c0 c1 c2 : Value) (D : Nat → Prop) (w : World), IsE w D n e [c0, c1, c2] → (∀ k, D k → k < w.heap.size) →
      Calls Try.prog 124 #[aggP p k, .agg #[c0, c1, c2], .int .i64 (d : Int)] w (AnsB (shapeB p.vars.length p.arrs.length d e) w)
  | 0, _, n, e, c0, c1, c2, D, w, h, _ => sShape_zero p k e n c0 c1 c2 D w h
  | d + 1, hd, n, e, c0, c1, c2, D, w, h, hl => sShape_succ p k d (by omega) (sShape_one p k d (by omega)) n e c0 c1 c2 D w h hl _ (by omega)

end Go.Proofs.Ytgfagdjadmpklaa

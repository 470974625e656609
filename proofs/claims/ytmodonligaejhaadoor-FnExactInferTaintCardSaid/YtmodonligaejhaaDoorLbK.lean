/- The labels that a program declares, by their places: labelingOf, walked. -/
import Derived.Test.YtmodonligaejhaaDoorLbM
import Derived.Test.YtmodonligaejhaaDoorTreeP
import Derived.Test.YtmodonligaejhaaDoorPut
import Derived.Test.YtmodonligaejhaaDoorMmB
import Derived.Outline
import Derived.KernelRfl
namespace Go.Proofs.YtmodonligaejhaaDoor
open Go.RowKit
set_option linter.unusedVariables false

theorem varPlace_one (v : Int) (w : World) : Calls Tryd.prog 82 #[.int .i64 v] w fun e w' => e = .returned (.int .i64 v) ∧ w' = w := by
  go_enter Tryd.func82, Tryd.ntmps82
  go_wp2_with fail
  go_ret
  exact ⟨rfl, rfl⟩
theorem arrPlace_one (v : Int) (w : World) (h0 : 0 ≤ v) (h1 : v < 100) : Calls Tryd.prog 83 #[.int .i64 v] w fun e w' => e = .returned (.int .i64 (12 + v)) ∧ w' = w := by
  go_enter Tryd.func83, Tryd.ntmps83
  go_wp2_with fail
  go_ret
  exact ⟨rfl, rfl⟩
theorem arrPlace_nat (j : Nat) (w : World) (h : j < 100) : Calls Tryd.prog 83 #[.int .i64 (j : Int)] w fun e w' => e = .returned (.int .i64 ((12 + j : Nat) : Int)) ∧ w' = w := by
  have e : ((12 + j : Nat) : Int) = 12 + (j : Int) := by omega
  rw [e]
  exact arrPlace_one j w (by omega) (by omega)
def arrOf (f : Nat → Nat) : Array Value := ((List.range 14).map fun i => Value.int .i64 (f i : Int)).toArray
theorem arrOf_size (f : Nat → Nat) : (arrOf f).size = 14 := by simp [arrOf]
theorem arrOf_at (f : Nat → Nat) (i : Nat) (h : i < 14) : (arrOf f)[i]? = some (.int .i64 (f i : Int)) := by simp [arrOf, h]
theorem arrOf_out (f : Nat → Nat) (i : Nat) (h : ¬ i < 14) : (arrOf f)[i]? = none := by simp [arrOf]; omega
theorem arrOf_ext {f g : Nat → Nat} (h : ∀ i, i < 14 → f i = g i) : arrOf f = arrOf g := by
  apply Array.ext_getElem?
  intro i
  by_cases hi : i < 14
  · rw [arrOf_at f i hi, arrOf_at g i hi, h i hi]
  · rw [arrOf_out f i hi, arrOf_out g i hi]
theorem arrOf_set (f : Nat → Nat) (j x : Nat) (hj : j < 14) : (arrOf f).setIfInBounds j (.int .i64 (x : Int)) = arrOf fun i => if i = j then x else f i := by
  apply Array.ext_getElem?
  intro i
  rw [Array.getElem?_setIfInBounds, arrOf_size]
  by_cases hij : j = i
  · subst hij
    rw [if_pos rfl, if_pos hj, arrOf_at _ j hj, if_pos rfl]
  · rw [if_neg hij]
    by_cases hi : i < 14
    · rw [arrOf_at f i hi, arrOf_at _ i hi, if_neg (fun e => hij e.symm)]
    · rw [arrOf_out f i hi, arrOf_out _ i hi]

/-- The labels of the places stand in their box so far. -/
structure KSt (w : World) (p : Pg) (k : PC) (f : Nat → Nat) (u : World) : Prop where
  bel : Below w.heap.size w u
  bx : BoxP u w.heap.size p k
  rs : u.heap[w.heap.size + 1]? = some (.cells (arrOf fun _ => 0) 67 (0, 0))
  kn : u.heap[w.heap.size + 1 + 1]? = some (.cells (arrOf f) 67 (0, 0))
theorem KSt.set {w u : World} {p : Pg} {k : PC} {f : Nat → Nat} (h : KSt w p k f u) (j x : Nat) (hj : j < 14) : KSt w p k (fun i => if i = j then x else f i) (u.setCell ⟨w.heap.size + 1 + 1, j, none⟩ (.int .i64 (x : Int))) := by
  have hst : ∀ b, b ≠ w.heap.size + 1 + 1 → (u.setCell ⟨w.heap.size + 1 + 1, j, none⟩ (.int .i64 (x : Int))).heap[b]? = u.heap[b]? := fun b hb => Below.heap_setCell _ _ _ _ (by simpa using hb)
  refine ⟨h.bel.setCell (p := ⟨w.heap.size + 1 + 1, j, none⟩) (by show w.heap.size ≤ w.heap.size + 1 + 1; omega) _, h.bx.later (hst _ (by omega)), (hst _ (by omega)).trans h.rs, ?_⟩
  rw [← arrOf_set f j x hj]
  exact heap_setCell_same u (w.heap.size + 1 + 1) j _ _ _ h.kn
theorem KSt.congr {w u : World} {p : Pg} {k : PC} {f g : Nat → Nat} (h : KSt w p k f u) (e : ∀ i, i < 14 → f i = g i) : KSt w p k g u := ⟨h.bel, h.bx, h.rs, by rw [← arrOf_ext e]; exact h.kn⟩

theorem knl_lt {p : Pg} (hq : headsB p = true) (i : Nat) : knl p i < 4 := by
  unfold headsB at hq
  simp only [Bool.and_eq_true, decide_eq_true_iff, List.all_eq_true] at hq
  obtain ⟨⟨⟨⟨h1, h2⟩, _⟩, _⟩, _⟩ := hq
  have key : ∀ (xs : List Int) (j : Nat), (∀ x ∈ xs, lokB x = true) → (xs.getD j 0).toNat < 4 := fun xs j h => by
    rw [List.getD_eq_getElem?_getD]
    cases hx : xs[j]? with
    | none => simp
    | some x =>
      have := h x (List.mem_of_getElem? hx)
      unfold lokB at this
      simp at this
      simp; omega
  unfold knl
  split
  · exact key _ _ h1
  · exact key _ _ h2
theorem knl_var {p : Pg} (hq : headsB p = true) {i : Nat} (hi : i < p.vars.length) (h12 : p.vars.length ≤ 12) : p.vars.getD i 0 = (knl p i : Int) := by
  unfold headsB at hq
  simp only [Bool.and_eq_true, decide_eq_true_iff, List.all_eq_true] at hq
  obtain ⟨⟨⟨⟨h1, h2⟩, _⟩, _⟩, _⟩ := hq
  have hx := h1 (p.vars.getD i 0) (by rw [List.getD_eq_getElem?_getD, List.getElem?_eq_getElem hi]; exact List.getElem_mem _)
  unfold lokB at hx
  simp only [Bool.and_eq_true, decide_eq_true_iff] at hx
  unfold knl
  rw [if_pos (by omega)]
  omega
theorem knl_arr {p : Pg} (hq : headsB p = true) {i : Nat} (hi : i < p.arrs.length) : p.arrs.getD i 0 = (knl p (12 + i) : Int) := by
  unfold headsB at hq
  simp only [Bool.and_eq_true, decide_eq_true_iff, List.all_eq_true] at hq
  obtain ⟨⟨⟨⟨h1, h2⟩, _⟩, _⟩, _⟩ := hq
  have hx := h2 (p.arrs.getD i 0) (by rw [List.getD_eq_getElem?_getD, List.getElem?_eq_getElem hi]; exact List.getElem_mem _)
  unfold lokB at hx
  simp only [Bool.and_eq_true, decide_eq_true_iff] at hx
  unfold knl
  rw [if_neg (by omega), Nat.add_sub_cancel_left]
  omega
theorem headsB_len {p : Pg} (hq : headsB p = true) : p.vars.length ≤ 12 ∧ p.arrs.length ≤ 2 := by
  unfold headsB at hq
  simp only [Bool.and_eq_true, decide_eq_true_iff] at hq
  exact ⟨hq.1.2, hq.2⟩

set_option maxRecDepth 100000 in
set_option maxHeartbeats 4000000 in
theorem labelingOf_raw (p : Pg) (k : PC) (D : Nat → Prop) (w : World) (hp : IntsAt w D p.vars k.va ∧ IntsAt w D p.arrs k.aa) (hl : ∀ k, D k → k < w.heap.size) (hq : headsB p = true) :
    Calls Tryd.prog 71 #[aggP p k] w fun e w' => e = .returned (.agg (arrOf (knl p))) ∧ Below w.heap.size w w' := by
  obtain ⟨hv, ha⟩ := headsB_len hq
  have HP := Lib.hid hp
  have HQ := Lib.hid hq
  clear hp hq
  obtain ⟨nv, hnv⟩ : ∃ nv, p.vars.length = nv := ⟨_, rfl⟩
  obtain ⟨na, hna⟩ : ∃ na, p.arrs.length = na := ⟨_, rfl⟩
  have hnv12 : nv ≤ 12 := by omega
  have hna2 : na ≤ 2 := by omega
  have HNV := Lib.hid hnv
  have HNA := Lib.hid hna
  obtain ⟨W, hW⟩ : ∃ W, ((w.alloc (.cells #[.slice k.va p.vars.length k.vc, .slice k.aa p.arrs.length k.ac, .slice k.ba p.body.length k.bc] 50)).alloc (.cells #[.int .i64 0, .int .i64 0, .int .i64 0, .int .i64 0, .int .i64 0, .int .i64 0, .int .i64 0, .int .i64 0, .int .i64 0, .int .i64 0, .int .i64 0, .int .i64 0, .int .i64 0, .int .i64 0] 67)).alloc (.cells #[.int .i64 0, .int .i64 0, .int .i64 0, .int .i64 0, .int .i64 0, .int .i64 0, .int .i64 0, .int .i64 0, .int .i64 0, .int .i64 0, .int .i64 0, .int .i64 0, .int .i64 0, .int .i64 0] 67) = W := ⟨_, rfl⟩
  have hS0 : KSt w p k (fun _ => 0) W := by
    have h1 := heap_alloc_new (w.alloc (.cells #[.slice k.va p.vars.length k.vc, .slice k.aa p.arrs.length k.ac, .slice k.ba p.body.length k.bc] 50)) (.cells #[.int .i64 0, .int .i64 0, .int .i64 0, .int .i64 0, .int .i64 0, .int .i64 0, .int .i64 0, .int .i64 0, .int .i64 0, .int .i64 0, .int .i64 0, .int .i64 0, .int .i64 0, .int .i64 0] 67)
    have h2 := heap_alloc_new ((w.alloc (.cells #[.slice k.va p.vars.length k.vc, .slice k.aa p.arrs.length k.ac, .slice k.ba p.body.length k.bc] 50)).alloc (.cells #[.int .i64 0, .int .i64 0, .int .i64 0, .int .i64 0, .int .i64 0, .int .i64 0, .int .i64 0, .int .i64 0, .int .i64 0, .int .i64 0, .int .i64 0, .int .i64 0, .int .i64 0, .int .i64 0] 67)) (.cells #[.int .i64 0, .int .i64 0, .int .i64 0, .int .i64 0, .int .i64 0, .int .i64 0, .int .i64 0, .int .i64 0, .int .i64 0, .int .i64 0, .int .i64 0, .int .i64 0, .int .i64 0, .int .i64 0] 67)
    rw [World.size_alloc] at h1
    rw [World.size_alloc, World.size_alloc] at h2
    rw [← hW]
    refine ⟨(((Below.refl _ w).alloc (Nat.le_refl _) _).alloc (by simp) _).alloc (by simp; omega) _, ((BoxP.new w p k _).later (Below.heap_alloc _ _ _ (by simp))).later (Below.heap_alloc _ _ _ (by simp; omega)), (Below.heap_alloc _ _ _ (by simp)).trans h1, h2⟩
  have HS0 := Lib.hid hS0
  have HW := Lib.hid hW
  clear hW hS0 hnv hna
  go_enter Tryd.func71, Tryd.ntmps71
  go_wp2_with fail
  rw [HW.out]
  clear HW
  rw [HNV.out]
  go_loopw [11] (fun i wr => ∃ j : Nat, j ≤ nv ∧ i = .int .i64 j ∧ KSt w p k (fun i => if i < j then knl p i else 0) wr) (fun i _ => nv - (intOf i).toNat)
  case atStart => exact ⟨0, Nat.zero_le _, rfl, HS0.out.congr fun i _ => by simp⟩
  case round =>
    obtain ⟨j, hj, rfl, hst⟩ := hrel
    have HST := Lib.hid hst
    clear hst
    by_cases hlt : j < nv
    · obtain ⟨b, o, hva, hbd, hcell⟩ := HP.out.1 j (by rw [HNV.out]; exact hlt)
      have r0 := (World.cell?_of_block (w := w) (a := ⟨b, o + j, none⟩) (HST.out.bel.block b (hl b hbd))).trans hcell
      rw [knl_var HQ.out (by rw [HNV.out]; exact hlt) (by omega)] at r0
      obtain ⟨u0, hu0⟩ := cell_ex HST.out.kn j (by rw [arrOf_size]; omega)
      have f0 := frozen_at HST.out.kn j
      have hN := HST.out.set j (knl p j) (by omega)
      have HN := Lib.hid (hN.congr (g := fun i => if i < j + 1 then knl p i else 0) fun i hi => by
        by_cases e : i = j
        · subst e; simp
        · rw [if_neg e]
          by_cases h : i < j
          · rw [if_pos h, if_pos (by omega)]
          · rw [if_neg h, if_neg (by omega)])
      rw [hva]
      clear hN hbd hcell
      go_wp2_with (refine (varPlace_one _ _).mono ?_; rintro f w2 ⟨rfl, rfl⟩)
      go_roundw
      case rel => exact ⟨j + 1, by omega, by go_num, HN.out⟩
      case measure => simp [intOf]; omega
    · obtain rfl : j = nv := by omega
      have bp := HST.out.bx
      have p1 := bp.c1
      clear bp
      rw [HNA.out] at p1
      have hS1 := HST.out.congr (g := fun i => if i < j ∨ (12 ≤ i ∧ i < 12 + 0) then knl p i else 0) fun i hi => by
        by_cases h : i < j
        · rw [if_pos h, if_pos (.inl h)]
        · rw [if_neg h, if_neg (by omega)]
      have HS1 := Lib.hid hS1
      clear hS1
      go_wp2_with fail
      go_loopw [24] (fun i wr => ∃ j' : Nat, j' ≤ na ∧ i = .int .i64 j' ∧ KSt w p k (fun i => if i < j ∨ (12 ≤ i ∧ i < 12 + j') then knl p i else 0) wr) (fun i _ => na - (intOf i).toNat)
      case atStart => exact ⟨0, Nat.zero_le _, rfl, HS1.out⟩
      case round =>
        clear HST HS1 p1
        obtain ⟨j', hj', rfl, hst⟩ := hrel
        have HST := Lib.hid hst
        clear hst
        by_cases hlt' : j' < na
        · obtain ⟨b, o, hva, hbd, hcell⟩ := HP.out.2 j' (by rw [HNA.out]; exact hlt')
          have r0 := (World.cell?_of_block (w := w) (a := ⟨b, o + j', none⟩) (HST.out.bel.block b (hl b hbd))).trans hcell
          rw [knl_arr HQ.out (by rw [HNA.out]; exact hlt')] at r0
          obtain ⟨u0, hu0⟩ := cell_ex HST.out.kn (12 + j') (by rw [arrOf_size]; omega)
          have f0 := frozen_at HST.out.kn (12 + j')
          have hN := HST.out.set (12 + j') (knl p (12 + j')) (by omega)
          have HN := Lib.hid (hN.congr (g := fun i => if i < j ∨ (12 ≤ i ∧ i < 12 + (j' + 1)) then knl p i else 0) fun i hi => by
            by_cases e : i = 12 + j'
            · subst e; rw [if_pos rfl, if_pos (.inr ⟨by omega, by omega⟩)]
            · rw [if_neg e]
              by_cases h : i < j ∨ (12 ≤ i ∧ i < 12 + j')
              · rw [if_pos h, if_pos (by omega)]
              · rw [if_neg h, if_neg (by omega)])
          rw [hva]
          clear hN hbd hcell
          go_wp2_with (refine (arrPlace_nat j' _ (by omega)).mono ?_; rintro f w2 ⟨rfl, rfl⟩)
          go_roundw
          case rel => exact ⟨j' + 1, by omega, by go_num, HN.out⟩
          case measure => simp [intOf]; omega
        · obtain rfl : j' = na := by omega
          have HK := Lib.hid (HST.out.congr (g := knl p) fun i hi => by
            by_cases h : i < j ∨ (12 ≤ i ∧ i < 12 + j')
            · rw [if_pos h]
            · rw [if_neg h]
              unfold knl
              by_cases h12 : i < 12
              · rw [if_pos h12, List.getD_eq_getElem?_getD, List.getElem?_eq_none (by rw [HNV.out]; omega)]; rfl
              · rw [if_neg h12, List.getD_eq_getElem?_getD, List.getElem?_eq_none (by rw [HNA.out]; omega)]; rfl)
          have HB := Lib.hid HST.out.bel
          clear HST
          have c0 : wr.cell? ⟨w.heap.size + 1 + 1, 0, none⟩ = some (.int .i64 (knl p 0 : Int)) := by rw [cell_at HK.out.kn]; exact arrOf_at _ 0 (by omega)
          have c1 : wr.cell? ⟨w.heap.size + 1 + 1, 1, none⟩ = some (.int .i64 (knl p 1 : Int)) := by rw [cell_at HK.out.kn]; exact arrOf_at _ 1 (by omega)
          have c2 : wr.cell? ⟨w.heap.size + 1 + 1, 2, none⟩ = some (.int .i64 (knl p 2 : Int)) := by rw [cell_at HK.out.kn]; exact arrOf_at _ 2 (by omega)
          have c3 : wr.cell? ⟨w.heap.size + 1 + 1, 3, none⟩ = some (.int .i64 (knl p 3 : Int)) := by rw [cell_at HK.out.kn]; exact arrOf_at _ 3 (by omega)
          have c4 : wr.cell? ⟨w.heap.size + 1 + 1, 4, none⟩ = some (.int .i64 (knl p 4 : Int)) := by rw [cell_at HK.out.kn]; exact arrOf_at _ 4 (by omega)
          have c5 : wr.cell? ⟨w.heap.size + 1 + 1, 5, none⟩ = some (.int .i64 (knl p 5 : Int)) := by rw [cell_at HK.out.kn]; exact arrOf_at _ 5 (by omega)
          have c6 : wr.cell? ⟨w.heap.size + 1 + 1, 6, none⟩ = some (.int .i64 (knl p 6 : Int)) := by rw [cell_at HK.out.kn]; exact arrOf_at _ 6 (by omega)
          have c7 : wr.cell? ⟨w.heap.size + 1 + 1, 7, none⟩ = some (.int .i64 (knl p 7 : Int)) := by rw [cell_at HK.out.kn]; exact arrOf_at _ 7 (by omega)
          have c8 : wr.cell? ⟨w.heap.size + 1 + 1, 8, none⟩ = some (.int .i64 (knl p 8 : Int)) := by rw [cell_at HK.out.kn]; exact arrOf_at _ 8 (by omega)
          have c9 : wr.cell? ⟨w.heap.size + 1 + 1, 9, none⟩ = some (.int .i64 (knl p 9 : Int)) := by rw [cell_at HK.out.kn]; exact arrOf_at _ 9 (by omega)
          have c10 : wr.cell? ⟨w.heap.size + 1 + 1, 10, none⟩ = some (.int .i64 (knl p 10 : Int)) := by rw [cell_at HK.out.kn]; exact arrOf_at _ 10 (by omega)
          have c11 : wr.cell? ⟨w.heap.size + 1 + 1, 11, none⟩ = some (.int .i64 (knl p 11 : Int)) := by rw [cell_at HK.out.kn]; exact arrOf_at _ 11 (by omega)
          have c12 : wr.cell? ⟨w.heap.size + 1 + 1, 12, none⟩ = some (.int .i64 (knl p 12 : Int)) := by rw [cell_at HK.out.kn]; exact arrOf_at _ 12 (by omega)
          have c13 : wr.cell? ⟨w.heap.size + 1 + 1, 13, none⟩ = some (.int .i64 (knl p 13 : Int)) := by rw [cell_at HK.out.kn]; exact arrOf_at _ 13 (by omega)
          obtain ⟨y0, r0⟩ := cell_ex HK.out.rs 0 (by rw [arrOf_size]; omega)
          have z0 := frozen_at HK.out.rs 0
          obtain ⟨y1, r1⟩ := cell_ex HK.out.rs 1 (by rw [arrOf_size]; omega)
          have z1 := frozen_at HK.out.rs 1
          obtain ⟨y2, r2⟩ := cell_ex HK.out.rs 2 (by rw [arrOf_size]; omega)
          have z2 := frozen_at HK.out.rs 2
          obtain ⟨y3, r3⟩ := cell_ex HK.out.rs 3 (by rw [arrOf_size]; omega)
          have z3 := frozen_at HK.out.rs 3
          obtain ⟨y4, r4⟩ := cell_ex HK.out.rs 4 (by rw [arrOf_size]; omega)
          have z4 := frozen_at HK.out.rs 4
          obtain ⟨y5, r5⟩ := cell_ex HK.out.rs 5 (by rw [arrOf_size]; omega)
          have z5 := frozen_at HK.out.rs 5
          obtain ⟨y6, r6⟩ := cell_ex HK.out.rs 6 (by rw [arrOf_size]; omega)
          have z6 := frozen_at HK.out.rs 6
          obtain ⟨y7, r7⟩ := cell_ex HK.out.rs 7 (by rw [arrOf_size]; omega)
          have z7 := frozen_at HK.out.rs 7
          obtain ⟨y8, r8⟩ := cell_ex HK.out.rs 8 (by rw [arrOf_size]; omega)
          have z8 := frozen_at HK.out.rs 8
          obtain ⟨y9, r9⟩ := cell_ex HK.out.rs 9 (by rw [arrOf_size]; omega)
          have z9 := frozen_at HK.out.rs 9
          obtain ⟨y10, r10⟩ := cell_ex HK.out.rs 10 (by rw [arrOf_size]; omega)
          have z10 := frozen_at HK.out.rs 10
          obtain ⟨y11, r11⟩ := cell_ex HK.out.rs 11 (by rw [arrOf_size]; omega)
          have z11 := frozen_at HK.out.rs 11
          obtain ⟨y12, r12⟩ := cell_ex HK.out.rs 12 (by rw [arrOf_size]; omega)
          have z12 := frozen_at HK.out.rs 12
          obtain ⟨y13, r13⟩ := cell_ex HK.out.rs 13 (by rw [arrOf_size]; omega)
          have z13 := frozen_at HK.out.rs 13
          go_wp2_with fail
          have hA : arrOf (knl p) = #[.int .i64 (knl p 0 : Int), .int .i64 (knl p 1 : Int), .int .i64 (knl p 2 : Int), .int .i64 (knl p 3 : Int), .int .i64 (knl p 4 : Int), .int .i64 (knl p 5 : Int), .int .i64 (knl p 6 : Int), .int .i64 (knl p 7 : Int), .int .i64 (knl p 8 : Int), .int .i64 (knl p 9 : Int), .int .i64 (knl p 10 : Int), .int .i64 (knl p 11 : Int), .int .i64 (knl p 12 : Int), .int .i64 (knl p 13 : Int)] := rfl
          refine bodyPost_ret (v := .agg (arrOf (knl p))) ?_ rfl ⟨rfl, ?_⟩
          · rw [hA]
            simp [results, Tryd.f71, go_sem, r0, r1, r2, r3, r4, r5, r6, r7, r8, r9, r10, r11, r12, r13]
          · exact put_below [.int .i64 (knl p 0 : Int), .int .i64 (knl p 1 : Int), .int .i64 (knl p 2 : Int), .int .i64 (knl p 3 : Int), .int .i64 (knl p 4 : Int), .int .i64 (knl p 5 : Int), .int .i64 (knl p 6 : Int), .int .i64 (knl p 7 : Int), .int .i64 (knl p 8 : Int), .int .i64 (knl p 9 : Int), .int .i64 (knl p 10 : Int), .int .i64 (knl p 11 : Int), .int .i64 (knl p 12 : Int), .int .i64 (knl p 13 : Int)] _ _ _ (w.heap.size + 1) 0 HB.out (by omega)
end Go.Proofs.YtmodonligaejhaaDoor

/- Contracts of the exact laws' helpers on slices of int: eqIntS answers whether two lists are equal; markIntS writes consecutive numbers into a row of the call's own; heldIntS reads them back; toIntS makes a copy. No condition but that each slice reads as a list. -/
import Derived.Test.YtbifbmpflhdijaaDoorSlB
import Derived.WalkKit
import Derived.Below
import Derived.BigQuiet
import Derived.Deep.QuietTactic
import Derived.IntWalk
import Derived.Lib.Hide
import Derived.Laws.OwnMore
import Derived.OwnWalk
import Derived.Outline
import Derived.KernelRfl
namespace Go.Proofs.YtbifbmpflhdijaaDoor
open Go.RowKit

def EqUpto (xs ys : List Int) (k : Nat) : Prop := ∀ j, j < k → xs.getD j 0 = ys.getD j 0
theorem EqUpto.zero (xs ys : List Int) : EqUpto xs ys 0 := fun _ h => absurd h (Nat.not_lt_zero _)
theorem EqUpto.succ {xs ys : List Int} {k : Nat} (h : EqUpto xs ys k) (e : xs.getD k 0 = ys.getD k 0) : EqUpto xs ys (k + 1) := fun j hj => by
  by_cases hk : j = k
  · rw [hk]; exact e
  · exact h j (by omega)
theorem EqUpto.all {xs ys : List Int} {n : Nat} (h : EqUpto xs ys n) (hx : xs.length = n) (hy : ys.length = n) : xs = ys := by
  apply List.ext_getElem (by omega)
  intro i h1 h2
  have := h i (by omega)
  simpa [List.getD, h1, h2] using this

/-- A bool; the world has only drawn. -/
def Ans (b : Bool) (w : World) (e : Ending) (w' : World) : Prop := e = .returned (.bool b) ∧ ∃ m, w' = w.drewN m

def eqL (xs ys : List Int) : Bool := decide (xs = ys)

set_option maxHeartbeats 1000000 in
theorem eqInts_one (a a' : Option Addr) (n cap n' cap' : Nat) (xs ys : List Int) (w : World) (h : SliceI w a n xs) (h' : SliceI w a' n' ys) :
    Calls Tryd.prog 46 #[.slice a n cap, .slice a' n' cap'] w (Ans (eqL xs ys) w) := by
  obtain ⟨hm, hx, hc⟩ := h
  obtain ⟨hm', hy, hc'⟩ := h'
  unfold maxLen at hm hm'
  have HX := Lib.hid hx
  have HY := Lib.hid hy
  have HC := Lib.hid hc
  have HC' := Lib.hid hc'
  clear hx hy hc hc'
  by_cases hn : n = n'
  · subst hn
    go_enter Tryd.func46, Tryd.ntmps46
    go_wp2
    go_loopw [5] (fun i wr => ∃ k m : Nat, k ≤ n ∧ i = .int .i64 k ∧ EqUpto xs ys k ∧ wr = w.drewN m) (fun i _ => n - (intOf i).toNat)
    case atStart => exact ⟨0, 0, Nat.zero_le _, rfl, EqUpto.zero _ _, rfl⟩
    case round =>
      obtain ⟨k, m, hk, rfl, heq, rfl⟩ := hrel
      have HE := Lib.hid heq
      clear heq
      by_cases hlt : k < n
      · obtain ⟨b, o, rfl, hc⟩ := HC.out k hlt
        obtain ⟨b', o', rfl, hc'⟩ := HC'.out k hlt
        obtain ⟨x, hx⟩ : ∃ x, xs.getD k 0 = x := ⟨_, rfl⟩
        obtain ⟨y, hy⟩ : ∃ y, ys.getD k 0 = y := ⟨_, rfl⟩
        rw [hx] at hc
        rw [hy] at hc'
        have HXK := Lib.hid hx
        have HYK := Lib.hid hy
        clear hx hy HC HC'
        by_cases hxy : x = y
        · subst hxy
          go_wp2
          go_quiet (fail)
          go_wp2
          go_roundw
          case rel => exact ⟨k + 1, _, by omega, by go_num, HE.out.succ (HXK.out.trans HYK.out.symm), rfl⟩
          case measure => simp [intOf]; omega
        · have hne : (x != y) = true := by simpa using hxy
          go_wp2
          go_quiet (fail)
          go_wp2
          go_ret
          refine ⟨?_, _, drewN_drewN' _ _ _⟩
          have : eqL xs ys = false := by
            unfold eqL
            refine decide_eq_false fun e => hxy ?_
            rw [← HXK.out, ← HYK.out, e]
          rw [this]; rfl
      · have hkn : k = n := by omega
        have hall := (show EqUpto xs ys n from hkn ▸ HE.out).all HX.out HY.out
        have hL : eqL xs ys = true := decide_eq_true hall
        have HL := Lib.hid hL
        clear hL hall hkn
        go_wp2
        go_ret
        exact ⟨by rw [HL.out]; rfl, _, rfl⟩
  · have hne : ((n : Int) != (n' : Int)) = true := by simp; omega
    have hL : eqL xs ys = false := by
      unfold eqL
      refine decide_eq_false fun e => hn ?_
      rw [← HX.out, ← HY.out, e]
    have HL := Lib.hid hL
    clear hL
    go_enter Tryd.func46, Tryd.ntmps46
    go_wp2
    go_ret
    exact ⟨by rw [HL.out]; rfl, 0, rfl⟩

/-- A copy of a list, in a new row. -/
def Copied (xs : List Int) (w : World) (e : Ending) (w' : World) : Prop := ∃ v, e = .returned v ∧ OwnI w' w.heap.size v xs ∧ Below w.heap.size w w'

/-- The first k elements have been copied. -/
def CopiedTo (L xs : List Int) (k : Nat) : Prop := L.length = xs.length ∧ ∀ j, j < k → L.getD j 0 = xs.getD j 0
theorem CopiedTo.set {L xs : List Int} {k : Nat} (h : CopiedTo L xs k) (hk : k < xs.length) : CopiedTo (L.set k (xs.getD k 0)) xs (k + 1) := by
  refine ⟨by rw [List.length_set]; exact h.1, fun j hj => ?_⟩
  by_cases e : j = k
  · subst e; simp [List.getD, h.1, hk]
  · have := h.2 j (by omega)
    rw [← this]
    simp [List.getD, Ne.symm e]
theorem CopiedTo.all {L xs : List Int} {n : Nat} (h : CopiedTo L xs n) (hn : xs.length = n) : L = xs := EqUpto.all h.2 (h.1.trans hn) hn

theorem zeros (n : Nat) : (madeCells (Value.int .i64 0).cells (n * 1)).toList = (List.replicate n (0 : Int)).map (Value.int .i64) := by
  rw [Nat.mul_one, List.map_replicate]
  exact toList_madeCells_one _ _

set_option maxHeartbeats 1000000 in
theorem toInts_one (a : Option Addr) (n cap : Nat) (xs : List Int) (w : World) (h : SliceI w a n xs) (hx : n ≤ 1099511627776) :
    Calls Tryd.prog 42 #[.slice a n cap] w (Copied xs w) := by
  obtain ⟨i0, hi, hz0, hz1, hz2⟩ := info_parts Tryd.infoI
  obtain ⟨hm, hl, hc⟩ := h
  have HC := Lib.hid hc
  have HL := Lib.hid hl
  clear hc hl hm
  have hlt : ∀ k, k < n → ∃ b o, a = some ⟨b, o, none⟩ ∧ b < w.heap.size ∧ w.cell? ⟨b, o + k, none⟩ = some (.int .i64 (xs.getD k 0)) := fun k hk => by
    obtain ⟨b, o, ha, hcell⟩ := HC.out k hk
    exact ⟨b, o, ha, World.block_lt_of_cell? w _ hcell, hcell⟩
  have HT := Lib.hid hlt
  clear hlt HC
  go_enter Tryd.func42, Tryd.ntmps42
  go_wp2_with (at_make; refine wpList_make_full _ rfl _ _ 22 rfl w.heap.size 3 i0 (.int .i64 0) 1 Tryd.underlying22 hi hz0 hz1 .i64 .i64 (n : Int) (n : Int) n rfl rfl rfl rfl (by rw [hz2]; omega) (by unfold maxLen; omega) (Nat.le_refl _) ?_; intro w1 hown1 hgrow1; clear hz0 hz1 hz2)
  have HB1 : Hid (Below w.heap.size w w1) := (Below.refl _ w).grown hgrow1 (Nat.le_refl _) (fun k e => by cases e)
  have HO1 : Hid (∃ L : List Int, CopiedTo L xs 0 ∧ w1.ownsRow w.heap.size 3 1 (.slice (some ⟨w.heap.size, 0, none⟩) n n) n (L.map (Value.int .i64))) :=
    ⟨List.replicate n 0, ⟨by rw [List.length_replicate, HL.out], fun j hj => absurd hj (Nat.not_lt_zero _)⟩, by rw [← zeros]; exact hown1⟩
  clear hown1 hgrow1
  go_loopw [4] (fun i wr => ∃ k : Nat, k ≤ n ∧ i = .int .i64 k ∧ Below w.heap.size w wr ∧ ∃ L : List Int, CopiedTo L xs k ∧ wr.ownsRow w.heap.size 3 1 (.slice (some ⟨w.heap.size, 0, none⟩) n n) n (L.map (Value.int .i64))) (fun i _ => n - (intOf i).toNat)
  case atStart => exact ⟨0, Nat.zero_le _, rfl, HB1.out, HO1.out⟩
  case round =>
    obtain ⟨k, hk, rfl, hb, L, hC, hO⟩ := hrel
    have HB := Lib.hid hb
    have HC := Lib.hid hC
    have HO := Lib.hid hO
    clear hb hC hO HO1 HB1
    by_cases hlt : k < n
    · obtain ⟨b, o, rfl, hbl, hcell⟩ := HT.out k hlt
      clear HT
      have hcell2 : wr.cell? ⟨b, o + k, none⟩ = some (.int .i64 (xs.getD k 0)) := (HB.out.cell (p := ⟨b, o + k, none⟩) hbl).trans hcell
      clear hcell
      obtain ⟨x, hx⟩ : ∃ x, xs.getD k 0 = x := ⟨_, rfl⟩
      rw [hx] at hcell2
      have HX := Lib.hid hx
      clear hx
      have hc2 := HO.out.cellAt k (by omega)
      have hfz := HO.out.frozenAt k
      have hst := HO.out.stored k (.int .i64 x)
      have hsome : (wr.cell? ⟨w.heap.size, k, none⟩).isSome = true := by rw [hc2]; simp [HC.out.1, HL.out, hlt]
      obtain ⟨u, hu⟩ := Option.isSome_iff_exists.1 hsome
      have HS : Hid ((wr.setCell ⟨w.heap.size, k, none⟩ (.int .i64 x)).ownsRow w.heap.size 3 1 (.slice (some ⟨w.heap.size, 0, none⟩) n n) n ((L.set k x).map (Value.int .i64))) := by
        rw [List.map_set]; exact hst.1
      have HB2 : Hid (Below w.heap.size w (wr.setCell ⟨w.heap.size, k, none⟩ (.int .i64 x))) := HB.out.setCell (p := ⟨w.heap.size, k, none⟩) (Nat.le_refl _) _
      have HC2 : Hid (CopiedTo (L.set k x) xs (k + 1)) := by rw [← HX.out]; exact HC.out.set (by rw [HL.out]; exact hlt)
      clear hc2 hst hsome HB HO HC
      go_wp2
      go_roundw
      case rel => exact ⟨k + 1, by omega, by go_num, HB2.out, _, HC2.out, HS.out⟩
      case measure => simp [intOf]; omega
    · obtain rfl : k = n := by omega
      clear HT
      go_wp2
      go_ret
      have e : L = xs := HC.out.all HL.out
      refine ⟨_, rfl, ?_, HB.out⟩
      unfold OwnI
      rw [HL.out, ← e]
      exact HO.out

end Go.Proofs.YtbifbmpflhdijaaDoor

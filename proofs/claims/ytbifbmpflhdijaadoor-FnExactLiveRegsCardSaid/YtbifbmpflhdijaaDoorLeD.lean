/- Rows of instructions of a call's own, as flat cells: grown by one, read as a list. -/
import Derived.Test.YtbifbmpflhdijaaDoorInB
import Derived.Test.YtbifbmpflhdijaaDoorTreeS
import Derived.Test.YtbifbmpflhdijaaDoorSlB
import Derived.Deep.AppendLies
import Derived.Test.YtbifbmpflhdijaaDoorPut
import Derived.Test.YtbifbmpflhdijaaDoorMmB
import Derived.Test.YtbifbmpflhdijaaDoorCd
import Derived.Test.YtbifbmpflhdijaaDoorIn
import Derived.Test.YtbifbmpflhdijaaDoorCdE
import Derived.Test.YtbifbmpflhdijaaDoorCdT
import Derived.Test.YtbifbmpflhdijaaDoorLeC
import Derived.Deep.RegionWith
import Derived.Deep.RegionHeld3
namespace Go.Proofs.YtbifbmpflhdijaaDoor
open Go.RowKit
set_option linter.unusedVariables false

/-- The cells of a list of instructions. -/
def flatN : List Ins → List Value
  | [] => []
  | x :: xs => .int .i64 x.op :: .int .i64 x.fa :: .int .i64 x.fb :: .int .i64 x.fc :: .int .i64 x.fd :: flatN xs
theorem flatN_app : ∀ (xs ys : List Ins), flatN (xs ++ ys) = flatN xs ++ flatN ys
  | [], ys => rfl
  | x :: xs, ys => by simp only [List.cons_append, flatN, flatN_app xs ys]
theorem flatN_len : ∀ (xs : List Ins), (flatN xs).length = xs.length * 5
  | [] => rfl
  | x :: xs => by simp only [flatN, List.length_cons, flatN_len xs]; omega
theorem flatN_at : ∀ (xs : List Ins) (i : Nat) (x : Ins), xs[i]? = some x → (flatN xs)[i * 5]? = some (.int .i64 x.op) ∧ (flatN xs)[i * 5 + 1]? = some (.int .i64 x.fa) ∧ (flatN xs)[i * 5 + 2]? = some (.int .i64 x.fb) ∧ (flatN xs)[i * 5 + 3]? = some (.int .i64 x.fc) ∧ (flatN xs)[i * 5 + 4]? = some (.int .i64 x.fd)
  | [], i, x, h => by simp at h
  | y :: ys, 0, x, h => by simp at h; subst h; exact ⟨rfl, rfl, rfl, rfl, rfl⟩
  | y :: ys, i + 1, x, h => by
    obtain ⟨h0, h1, h2, h3, h4⟩ := flatN_at ys i x (by simpa using h)
    rw [show (i + 1) * 5 = i * 5 + 1 + 1 + 1 + 1 + 1 by omega]
    simp only [flatN]
    exact ⟨by simpa using h0, by simpa using h1, by simpa using h2, by simpa using h3, by simpa using h4⟩
/-- A row of instructions of the call's own. -/
def OwnN (w : World) (base : Nat) (v : Value) (xs : List Ins) : Prop := w.ownsRow base 50 5 v xs.length (flatN xs)
theorem OwnN.nil (w : World) (base : Nat) : OwnN w base (.slice none 0 0) [] := World.ownsRow_nil _ _ _ _
theorem OwnN.far {w w' : World} {base : Nat} {v : Value} {xs : List Ins} (h : OwnN w base v xs) (hs : ∀ g, v.ownBlock = some g → g < w.heap.size → w'.heap[g]? = w.heap[g]?) : OwnN w' base v xs := by
  refine ⟨h.1, ?_⟩
  rcases h.2 with e | ⟨g, cp, cur, rfl, e2, e3, e4⟩
  · exact .inl e
  · exact .inr ⟨g, cp, cur, rfl, e2, (hs g rfl (Array.getElem?_eq_some_iff.1 e3).1).trans e3, e4⟩
theorem OwnN.nat {v : World} {base n cap : Nat} {a : Option Addr} {ys : List Ins} (h : OwnN v base (.slice a n cap) ys) : ys.length = n ∧ n ≤ cap ∧ cap ≤ maxLen ∧ NAt v (fun j => base ≤ j ∧ j < v.heap.size) ys a := by
  rcases h.2 with ⟨e, e2⟩ | ⟨g, cap', cur, e, hb, hg, hn, hm, hc, ht⟩
  · cases e
    obtain rfl : ys = [] := List.eq_nil_of_length_eq_zero e2
    exact ⟨rfl, Nat.le_refl _, by unfold maxLen; omega, Nat.zero_le _, fun i x hx => by simp at hx⟩
  · injection e with e1 e2 e3
    subst e1 e2 e3
    refine ⟨rfl, hn, hm, Nat.le_trans hn hm, fun i x hx => ?_⟩
    have hi := (List.getElem?_eq_some_iff.1 hx).1
    obtain ⟨h0, h1, h2, h3, h4⟩ := flatN_at ys i x hx
    have hcell : ∀ j, j < 5 → v.cell? ⟨g, 0 + i * 5 + j, none⟩ = (flatN ys)[i * 5 + j]? := fun j hj => by
      rw [Nat.zero_add]
      exact World.ownsRow.cellAt h (i * 5 + j) (by omega)
    exact ⟨g, 0, rfl, ⟨hb, (Array.getElem?_eq_some_iff.1 hg).1⟩, (hcell 0 (by omega)).trans h0, (hcell 1 (by omega)).trans h1, (hcell 2 (by omega)).trans h2, (hcell 3 (by omega)).trans h3, (hcell 4 (by omega)).trans h4⟩

theorem Tryd.infoN : (Tryd.prog.info? 50).map (fun i => (i.zero, i.size, i.bytes)) = some (some (.agg #[.int .i64 0, .int .i64 0, .int .i64 0, .int .i64 0, .int .i64 0]), 5, 40) := by kernel_rfl

end Go.Proofs.YtbifbmpflhdijaaDoor

namespace Go.Proofs.YtbifbmpflhdijaaDoor
open Go.RowKit
set_option linter.unusedVariables false

theorem flatN_set : ∀ (ys : List Ins) (i : Nat) (y : Ins), i < ys.length → (((((flatN ys).set (i * 5) (.int .i64 y.op)).set (i * 5 + 1) (.int .i64 y.fa)).set (i * 5 + 2) (.int .i64 y.fb)).set (i * 5 + 3) (.int .i64 y.fc)).set (i * 5 + 4) (.int .i64 y.fd) = flatN (ys.set i y)
  | [], i, y, h => by simp at h
  | z :: zs, 0, y, h => by simp [flatN]
  | z :: zs, i + 1, y, h => by
    have e : (i + 1) * 5 = i * 5 + 1 + 1 + 1 + 1 + 1 := by omega
    simp only [e, flatN, List.set_cons_succ]
    rw [flatN_set zs i y (by simpa using h)]
/-- The marks from k on. -/
def mkN (k : Int) (n : Nat) : List Ins := (List.range n).map fun (i : Nat) => ⟨k + 5 * (i : Int), k + 5 * (i : Int) + 1, k + 5 * (i : Int) + 1 + 1, k + 5 * (i : Int) + 1 + 1 + 1, k + 5 * (i : Int) + 1 + 1 + 1 + 1⟩
theorem mkN_len (k : Int) (n : Nat) : (mkN k n).length = n := by simp [mkN]
theorem mkN_at (k : Int) {n i : Nat} (h : i < n) : (mkN k n)[i]? = some ⟨k + 5 * (i : Int), k + 5 * (i : Int) + 1, k + 5 * (i : Int) + 1 + 1, k + 5 * (i : Int) + 1 + 1 + 1, k + 5 * (i : Int) + 1 + 1 + 1 + 1⟩ := by
  unfold mkN
  rw [List.getElem?_map, List.getElem?_range h]; rfl
theorem mkN_all {k : Int} {n : Nat} {ps : List Ins} (hl : ps.length = n) (h : ∀ i : Nat, i < n → ps[i]? = some ⟨k + 5 * (i : Int), k + 5 * (i : Int) + 1, k + 5 * (i : Int) + 1 + 1, k + 5 * (i : Int) + 1 + 1 + 1, k + 5 * (i : Int) + 1 + 1 + 1 + 1⟩) : ps = mkN k n := by
  apply List.ext_getElem?
  intro i
  by_cases hi : i < n
  · rw [h i hi, mkN_at k hi]
  · rw [List.getElem?_eq_none (by omega), List.getElem?_eq_none (by rw [mkN_len]; omega)]

/-- Behind markInstrS: the row holds k, k + 1, ..; nothing else has changed. -/
def WroteN (w : World) (base n cap : Nat) (a : Option Addr) (k : Int) (f : Ending) (w' : World) : Prop := f = .returned (.int .i64 (k + 5 * (n : Int))) ∧ OwnN w' base (.slice a n cap) (mkN k n) ∧ w'.heap.size = w.heap.size ∧ Below base w w' ∧ ∀ j, (Value.slice a n cap).ownBlock ≠ some j → w'.heap[j]? = w.heap[j]?
/-- The state of the marking loop. -/
def MkNL (w : World) (base n cap : Nat) (a : Option Addr) (k0 : Int) (c i : Value) (wr : World) : Prop := ∃ (k : Nat) (ps : List Ins), k ≤ n ∧ i = .int .i64 k ∧ c = .int .i64 (k0 + 5 * (k : Int)) ∧ OwnN wr base (.slice a n cap) ps ∧ ps.length = n ∧ (∀ i : Nat, i < k → ps[i]? = some ⟨k0 + 5 * (i : Int), k0 + 5 * (i : Int) + 1, k0 + 5 * (i : Int) + 1 + 1, k0 + 5 * (i : Int) + 1 + 1 + 1, k0 + 5 * (i : Int) + 1 + 1 + 1 + 1⟩) ∧ wr.heap.size = w.heap.size ∧ Below base w wr ∧ ∀ j, (Value.slice a n cap).ownBlock ≠ some j → wr.heap[j]? = w.heap[j]?

set_option maxRecDepth 100000 in
set_option maxHeartbeats 2000000 in
theorem markInS_one (base n cap : Nat) (a : Option Addr) (k0 : Int) (ps : List Ins) (w : World) (h : OwnN w base (.slice a n cap) ps) (hpl : ps.length = n) (hn : n ≤ 1048576) (h0 : 0 ≤ k0) (h1 : k0 ≤ 1000000000) :
    Calls Tryd.prog 49 #[.slice a n cap, .int .i64 k0] w (WroteN w base n cap a k0) := by
  have HL : Hid (MkNL w base n cap a k0 (.int .i64 k0) (.int .i64 0) w) := ⟨0, ps, Nat.zero_le _, rfl, by simp, h, hpl, fun i hi => absurd hi (Nat.not_lt_zero _), rfl, Below.refl _ _, fun _ _ => rfl⟩
  clear h hpl
  go_enter Tryd.func49, Tryd.ntmps49
  go_wp2_with fail
  go_loopw [1, 5] (fun c i wr => MkNL w base n cap a k0 c i wr) (fun _ i _ => n - (intOf i).toNat)
  case atStart => exact HL.out
  case round =>
    obtain ⟨k, ps', hk, rfl, rfl, hrow, hlen, hdone, hsz, hbel, hst⟩ := hrel
    have HROW := Lib.hid hrow
    have HLEN := Lib.hid hlen
    have HD := Lib.hid hdone
    have HSZ := Lib.hid hsz
    have HBEL := Lib.hid hbel
    have HST := Lib.hid hst
    clear hrow hlen hdone hsz hbel hst HL
    by_cases hlt : k < n
    · have hro : wr.ownsRow base 50 5 (.slice a n cap) n (flatN ps') := by have h1 := HROW.out; unfold OwnN at h1; rw [HLEN.out] at h1; exact h1
      obtain ⟨g, rfl, hg, cur, hblk, hcs⟩ : ∃ g, a = some ⟨g, 0, none⟩ ∧ base ≤ g ∧ ∃ cur, wr.heap[g]? = some (.cells cur 50 (0, 0)) ∧ n * 5 ≤ cur.size := by
        rcases hro.2 with ⟨e, e2⟩ | ⟨g, cap', cur, e, hb, hg, hn', hm, hc, ht⟩
        · cases e; omega
        · injection e with e1 e2 e3
          exact ⟨g, e1, hb, cur, hg, by rw [hc]; exact Nat.mul_le_mul_right _ hn'⟩
      obtain ⟨u0, hu0⟩ := cell_ex hblk (k * 5) (by omega)
      obtain ⟨u1, hu1⟩ := cell_ex hblk (k * 5 + 1) (by omega)
      obtain ⟨u2, hu2⟩ := cell_ex hblk (k * 5 + 2) (by omega)
      obtain ⟨u3, hu3⟩ := cell_ex hblk (k * 5 + 3) (by omega)
      obtain ⟨u4, hu4⟩ := cell_ex hblk (k * 5 + 4) (by omega)
      have f0 := frozen_at hblk (k * 5)
      have f1 := frozen_at hblk (k * 5 + 1)
      have f2 := frozen_at hblk (k * 5 + 2)
      have f3 := frozen_at hblk (k * 5 + 3)
      have f4 := frozen_at hblk (k * 5 + 4)
      have hr5 := ((((hro.stored (k * 5) (.int .i64 (k0 + 5 * (k : Int)))).1.stored (k * 5 + 1) (.int .i64 (k0 + 5 * (k : Int) + 1))).1.stored (k * 5 + 2) (.int .i64 (k0 + 5 * (k : Int) + 1 + 1))).1.stored (k * 5 + 3) (.int .i64 (k0 + 5 * (k : Int) + 1 + 1 + 1))).1.stored (k * 5 + 4) (.int .i64 (k0 + 5 * (k : Int) + 1 + 1 + 1 + 1))
      have hr6 := hr5.1
      rw [flatN_set ps' k ⟨k0 + 5 * (k : Int), k0 + 5 * (k : Int) + 1, k0 + 5 * (k : Int) + 1 + 1, k0 + 5 * (k : Int) + 1 + 1 + 1, k0 + 5 * (k : Int) + 1 + 1 + 1 + 1⟩ (by rw [HLEN.out]; exact hlt)] at hr6
      have HREL : Hid (MkNL w base n cap (some ⟨g, 0, none⟩) k0 (.int .i64 (k0 + 5 * (k : Int) + 1 + 1 + 1 + 1 + 1)) (.int .i64 ((k : Int) + 1)) (((((wr.setCell ⟨g, k * 5, none⟩ (.int .i64 (k0 + 5 * (k : Int)))).setCell ⟨g, k * 5 + 1, none⟩ (.int .i64 (k0 + 5 * (k : Int) + 1))).setCell ⟨g, k * 5 + 2, none⟩ (.int .i64 (k0 + 5 * (k : Int) + 1 + 1))).setCell ⟨g, k * 5 + 2 + 1, none⟩ (.int .i64 (k0 + 5 * (k : Int) + 1 + 1 + 1))).setCell ⟨g, k * 5 + 2 + 1 + 1, none⟩ (.int .i64 (k0 + 5 * (k : Int) + 1 + 1 + 1 + 1)))) := by
        have hl6 : (ps'.set k ⟨k0 + 5 * (k : Int), k0 + 5 * (k : Int) + 1, k0 + 5 * (k : Int) + 1 + 1, k0 + 5 * (k : Int) + 1 + 1 + 1, k0 + 5 * (k : Int) + 1 + 1 + 1 + 1⟩).length = n := by rw [List.length_set]; exact HLEN.out
        refine ⟨k + 1, _, hlt, by go_num, by go_num, ?_, hl6, ?_, by simpa [World.setCell] using HSZ.out, ((((HBEL.out.setCell (p := ⟨g, k * 5, none⟩) hg _).setCell (p := ⟨g, k * 5 + 1, none⟩) hg _).setCell (p := ⟨g, k * 5 + 2, none⟩) hg _).setCell (p := ⟨g, k * 5 + 2 + 1, none⟩) hg _).setCell (p := ⟨g, k * 5 + 2 + 1 + 1, none⟩) hg _, fun j hj => ?_⟩
        · unfold OwnN
          rw [hl6]
          exact hr6
        · intro i hi
          by_cases hik : i = k
          · subst hik
            rw [List.getElem?_set_self (by rw [HLEN.out]; exact hlt)]
          · rw [List.getElem?_set_ne (by omega)]
            exact HD.out i (by omega)
        · have hjg : j ≠ g := fun e => hj (by rw [e]; rfl)
          rw [Below.heap_setCell _ _ _ _ (by simpa using hjg), Below.heap_setCell _ _ _ _ (by simpa using hjg), Below.heap_setCell _ _ _ _ (by simpa using hjg), Below.heap_setCell _ _ _ _ (by simpa using hjg), Below.heap_setCell _ _ _ _ (by simpa using hjg)]
          exact HST.out j hj
      clear HROW hro hblk hr5 hr6 HBEL HST HD HSZ
      go_wp2_with fail
      go_roundw
      case rel => exact HREL.out
      case measure => simp [intOf]; omega
    · obtain rfl : k = n := by omega
      have HFIN : Hid (WroteN w base k cap a k0 (.returned (.int .i64 (k0 + 5 * (k : Int)))) wr) := ⟨rfl, by rw [← mkN_all HLEN.out HD.out]; exact HROW.out, HSZ.out, HBEL.out, HST.out⟩
      clear HROW HD
      go_wp2_with fail
      go_ret
      exact HFIN.out

/-- heldInstrS: the list holds k, k + 1, .. -/
def HeldN (n : Nat) (k : Int) (w : World) (f : Ending) (w' : World) : Prop := f = .returned (.int .i64 (k + 5 * (n : Int))) ∧ Below w.heap.size w w'

set_option maxHeartbeats 2000000 in
theorem heldInS_one (n cap : Nat) (a : Option Addr) (k0 : Int) (w : World) {D : Nat → Prop} (h : NAt w D (mkN k0 n) a) (hn : n ≤ 1048576) (h0 : 0 ≤ k0) (h1 : k0 ≤ 1000000000) :
    Calls Tryd.prog 51 #[.slice a n cap, .int .i64 k0] w (HeldN n k0 w) := by
  have HC : Hid (∀ k, k < n → ∃ b o, a = some ⟨b, o, none⟩ ∧ w.cell? ⟨b, o + k * 5, none⟩ = some (.int .i64 (k0 + 5 * (k : Int))) ∧ w.cell? ⟨b, o + k * 5 + 1, none⟩ = some (.int .i64 (k0 + 5 * (k : Int) + 1)) ∧ w.cell? ⟨b, o + k * 5 + 2, none⟩ = some (.int .i64 (k0 + 5 * (k : Int) + 1 + 1)) ∧ w.cell? ⟨b, o + k * 5 + 3, none⟩ = some (.int .i64 (k0 + 5 * (k : Int) + 1 + 1 + 1)) ∧ w.cell? ⟨b, o + k * 5 + 4, none⟩ = some (.int .i64 (k0 + 5 * (k : Int) + 1 + 1 + 1 + 1))) := fun k hk => by
    obtain ⟨b, o, ha, _, c0, c1, c2, c3, c4⟩ := h.2 k _ (mkN_at k0 hk)
    exact ⟨b, o, ha, c0, c1, c2, c3, c4⟩
  clear h
  go_enter Tryd.func51, Tryd.ntmps51
  go_wp2
  go_loopw [1, 5] (fun c i wr => ∃ k m : Nat, k ≤ n ∧ i = .int .i64 k ∧ c = .int .i64 (k0 + 5 * (k : Int)) ∧ wr = w.drewN m) (fun _ i _ => n - (intOf i).toNat)
  case atStart => exact ⟨0, 0, Nat.zero_le _, rfl, by simp, rfl⟩
  case round =>
    obtain ⟨k, m, hk, rfl, rfl, rfl⟩ := hrel
    by_cases hlt : k < n
    · obtain ⟨b, o, rfl, c0, c1, c2, c3, c4⟩ := HC.out k hlt
      clear HC
      go_wp2
      go_roundw
      case rel => exact ⟨k + 1, m, by omega, by go_num, by go_num, rfl⟩
      case measure => simp [intOf]; omega
    · obtain rfl : k = n := by omega
      go_wp2
      go_ret
      exact ⟨rfl, ⟨rfl, rfl, rfl, Nat.le_refl _, fun _ _ => rfl⟩⟩

end Go.Proofs.YtbifbmpflhdijaaDoor

namespace Go.Proofs.YtbifbmpflhdijaaDoor
open Go.RowKit
set_option linter.unusedVariables false

/-- The block of a slice's elements, where it has any. -/
def blk (a : Option Addr) (n : Nat) : Option Nat := if n = 0 then none else (Value.slice a n n).ownBlock
theorem blk_pos {a : Option Addr} {n c : Nat} (h : 0 < n) : blk a n = (Value.slice a n c).ownBlock := by
  unfold blk; rw [if_neg (by omega)]; cases a <;> rfl
theorem blk_zero (a : Option Addr) : blk a 0 = none := rfl

/-- A row of the call's own; an empty one may lie anywhere. -/
def RowX (w : World) (base : Nat) (T : TypeId) (sz : Nat) (a : Option Addr) (n c : Nat) (xs : List Value) : Prop := (n = 0 ∧ xs = []) ∨ (0 < n ∧ w.ownsRow base T sz (.slice a n c) n xs)
theorem RowX.of {w : World} {base : Nat} {T : TypeId} {sz : Nat} {a : Option Addr} {n c : Nat} {xs : List Value} (h : w.ownsRow base T sz (.slice a n c) n xs) : RowX w base T sz a n c xs := by
  by_cases hn : n = 0
  · exact .inl ⟨hn, List.eq_nil_of_length_eq_zero (by rw [h.1, hn]; simp)⟩
  · exact .inr ⟨by omega, h⟩
theorem RowX.lt {w : World} {base : Nat} {T : TypeId} {sz : Nat} {a : Option Addr} {n c : Nat} {xs : List Value} (h : RowX w base T sz a n c xs) : ∀ g, blk a n = some g → base ≤ g ∧ g < w.heap.size := fun g hg => by
  rcases h with ⟨rfl, _⟩ | ⟨hp, h⟩
  · rw [blk_zero] at hg; cases hg
  · exact h.lt g (by rw [← blk_pos hp]; exact hg)
theorem RowX.far {w w' : World} {base : Nat} {T : TypeId} {sz : Nat} {a : Option Addr} {n c : Nat} {xs : List Value} (h : RowX w base T sz a n c xs) (hs : ∀ g, blk a n = some g → g < w.heap.size → w'.heap[g]? = w.heap[g]?) : RowX w' base T sz a n c xs := by
  rcases h with h | ⟨hp, h⟩
  · exact .inl h
  · refine .inr ⟨hp, h.1, ?_⟩
    rcases h.2 with e | ⟨g, cp, cur, e1, e2, e3, e4⟩
    · exact .inl e
    · exact .inr ⟨g, cp, cur, e1, e2, (hs g (by rw [blk_pos (c := c) hp, e1]; rfl) (Array.getElem?_eq_some_iff.1 e3).1).trans e3, e4⟩
theorem RowX.mono {w : World} {base base' : Nat} {T : TypeId} {sz : Nat} {a : Option Addr} {n c : Nat} {xs : List Value} (h : RowX w base T sz a n c xs) (hb : base' ≤ base) : RowX w base' T sz a n c xs := by
  rcases h with h | ⟨hp, h⟩
  · exact .inl h
  · refine .inr ⟨hp, h.1, ?_⟩
    rcases h.2 with e | ⟨g, cp, cur, e1, e2, e3⟩
    · exact .inl e
    · exact .inr ⟨g, cp, cur, e1, by omega, e3⟩
theorem RowX.iat {w : World} {base : Nat} {a : Option Addr} {n c : Nat} {xs : List Int} (h : RowX w base 3 1 a n c (xs.map (Value.int .i64))) (hn : xs.length = n) : IAt w (fun b => base ≤ b ∧ b < w.heap.size) xs a := by
  rcases h with ⟨e1, e2⟩ | ⟨hp, h⟩
  · obtain rfl : xs = [] := List.eq_nil_of_length_eq_zero (by omega)
    exact ⟨Nat.zero_le _, fun k hk => absurd hk (Nat.not_lt_zero _)⟩
  · have h' : OwnI w base (.slice a n c) xs := by unfold OwnI; rw [hn]; exact h
    obtain ⟨a', cap, e, h2⟩ := h'.iat
    cases e
    exact h2
theorem RowX.nat {w : World} {base : Nat} {a : Option Addr} {n c : Nat} {xs : List Ins} (h : RowX w base 50 5 a n c (flatN xs)) (hn : xs.length = n) : NAt w (fun b => base ≤ b ∧ b < w.heap.size) xs a := by
  rcases h with ⟨e1, e2⟩ | ⟨hp, h⟩
  · obtain rfl : xs = [] := List.eq_nil_of_length_eq_zero (by omega)
    exact ⟨Nat.zero_le _, fun i x hx => by simp at hx⟩
  · have h' : OwnN w base (.slice a n c) xs := by unfold OwnN; rw [hn]; exact h
    exact h'.nat.2.2.2

/-- The marks from k on, of a list of ints. -/
def mkI (k : Int) (n : Nat) : List Int := (List.range n).map fun (i : Nat) => k + (i : Int)
theorem mkI_len (k : Int) (n : Nat) : (mkI k n).length = n := by simp [mkI]
theorem mkI_at (k : Int) {n i : Nat} (h : i < n) : (mkI k n)[i]? = some (k + (i : Int)) := by
  unfold mkI
  rw [List.getElem?_map, List.getElem?_range h]; rfl
theorem mkI_all {k : Int} {n : Nat} {ps : List Int} (hl : ps.length = n) (h : ∀ i : Nat, i < n → ps[i]? = some (k + (i : Int))) : ps = mkI k n := by
  apply List.ext_getElem?
  intro i
  by_cases hi : i < n
  · rw [h i hi, mkI_at k hi]
  · rw [List.getElem?_eq_none (by omega), List.getElem?_eq_none (by rw [mkI_len]; omega)]

/-- Behind a mark of a row: it holds the marks; nothing else has changed. -/
def WroteX (T : TypeId) (sz : Nat) (xs : List Value) (w : World) (base n c : Nat) (a : Option Addr) (k : Int) (f : Ending) (w' : World) : Prop := f = .returned (.int .i64 k) ∧ RowX w' base T sz a n c xs ∧ w'.heap.size = w.heap.size ∧ Below base w w' ∧ ∀ j, blk a n ≠ some j → w'.heap[j]? = w.heap[j]?
/-- The state of the marking loop. -/
def MkIL (w : World) (base n cap : Nat) (a : Option Addr) (k0 : Int) (c i : Value) (wr : World) : Prop := ∃ (k : Nat) (ps : List Int), k ≤ n ∧ i = .int .i64 k ∧ c = .int .i64 (k0 + (k : Int)) ∧ RowX wr base 3 1 a n cap (ps.map (Value.int .i64)) ∧ ps.length = n ∧ (∀ i : Nat, i < k → ps[i]? = some (k0 + (i : Int))) ∧ wr.heap.size = w.heap.size ∧ Below base w wr ∧ ∀ j, blk a n ≠ some j → wr.heap[j]? = w.heap[j]?

set_option maxRecDepth 100000 in
set_option maxHeartbeats 2000000 in
theorem markIX_one (base n cap : Nat) (a : Option Addr) (k0 : Int) (ps : List Int) (w : World) (h : RowX w base 3 1 a n cap (ps.map (Value.int .i64))) (hpl : ps.length = n) (hn : n ≤ 1048576) (h0 : 0 ≤ k0) (h1 : k0 ≤ 1000000000) :
    Calls Tryd.prog 48 #[.slice a n cap, .int .i64 k0] w (WroteX 3 1 ((mkI k0 n).map (Value.int .i64)) w base n cap a (k0 + (n : Int))) := by
  have HL : Hid (MkIL w base n cap a k0 (.int .i64 k0) (.int .i64 0) w) := ⟨0, ps, Nat.zero_le _, rfl, by simp, h, hpl, fun i hi => absurd hi (Nat.not_lt_zero _), rfl, Below.refl _ _, fun _ _ => rfl⟩
  clear h hpl
  go_enter Tryd.func48, Tryd.ntmps48
  go_wp2_with fail
  go_loopw [1, 5] (fun c i wr => MkIL w base n cap a k0 c i wr) (fun _ i _ => n - (intOf i).toNat)
  case atStart => exact HL.out
  case round =>
    obtain ⟨k, ps', hk, rfl, rfl, hrow, hlen, hdone, hsz, hbel, hst⟩ := hrel
    have HROW := Lib.hid hrow
    have HLEN := Lib.hid hlen
    have HD := Lib.hid hdone
    have HSZ := Lib.hid hsz
    have HBEL := Lib.hid hbel
    have HST := Lib.hid hst
    clear hrow hlen hdone hsz hbel hst HL
    by_cases hlt : k < n
    · obtain ⟨hp, hro⟩ := HROW.out.resolve_left (fun e => by have := e.1; omega)
      obtain ⟨g, rfl, hg, cur, hblk, hcs⟩ : ∃ g, a = some ⟨g, 0, none⟩ ∧ base ≤ g ∧ ∃ cur, wr.heap[g]? = some (.cells cur 3 (0, 0)) ∧ n ≤ cur.size := by
        rcases hro.2 with ⟨e, e2⟩ | ⟨g, cap', cur, e, hb, hg, hn', hm, hc, ht⟩
        · cases e; omega
        · injection e with e1 e2 e3
          exact ⟨g, e1, hb, cur, hg, by omega⟩
      obtain ⟨u0, hu0⟩ := cell_ex hblk k (by omega)
      have f0 := frozen_at hblk k
      have hr6 := (hro.stored k (.int .i64 (k0 + (k : Int)))).1
      have HREL : Hid (MkIL w base n cap (some ⟨g, 0, none⟩) k0 (.int .i64 (k0 + (k : Int) + 1)) (.int .i64 ((k : Int) + 1)) (wr.setCell ⟨g, k, none⟩ (.int .i64 (k0 + (k : Int))))) := by
        have hl6 : (ps'.set k (k0 + (k : Int))).length = n := by rw [List.length_set]; exact HLEN.out
        refine ⟨k + 1, _, hlt, by go_num, by go_num, ?_, hl6, ?_, by simpa [World.setCell] using HSZ.out, HBEL.out.setCell (p := ⟨g, k, none⟩) hg _, fun j hj => ?_⟩
        · rw [List.map_set]
          exact .inr ⟨hp, hr6⟩
        · intro i hi
          by_cases hik : i = k
          · subst hik
            rw [List.getElem?_set_self (by rw [HLEN.out]; exact hlt)]
          · rw [List.getElem?_set_ne (by omega)]
            exact HD.out i (by omega)
        · have hjg : j ≠ g := fun e => hj (by rw [blk_pos (c := cap) hp, e]; rfl)
          rw [Below.heap_setCell _ _ _ _ (by simpa using hjg)]
          exact HST.out j hj
      clear HROW hro hblk hr6 HBEL HST HD HSZ
      go_wp2_with fail
      go_roundw
      case rel => exact HREL.out
      case measure => simp [intOf]; omega
    · obtain rfl : k = n := by omega
      have HFIN : Hid (WroteX 3 1 ((mkI k0 k).map (Value.int .i64)) w base k cap a (k0 + (k : Int)) (.returned (.int .i64 (k0 + (k : Int)))) wr) := ⟨rfl, by rw [← mkI_all HLEN.out HD.out]; exact HROW.out, HSZ.out, HBEL.out, HST.out⟩
      clear HROW HD
      go_wp2_with fail
      go_ret
      exact HFIN.out

theorem markNX_one (base n cap : Nat) (a : Option Addr) (k0 : Int) (ps : List Ins) (w : World) (h : RowX w base 50 5 a n cap (flatN ps)) (hpl : ps.length = n) (hn : n ≤ 1048576) (h0 : 0 ≤ k0) (h1 : k0 ≤ 1000000000) :
    Calls Tryd.prog 49 #[.slice a n cap, .int .i64 k0] w (WroteX 50 5 (flatN (mkN k0 n)) w base n cap a (k0 + 5 * (n : Int))) := by
  rcases h with ⟨rfl, e⟩ | ⟨hp, h⟩
  · have HFIN : Hid (WroteX 50 5 (flatN (mkN k0 0)) w base 0 cap a (k0 + 5 * ((0 : Nat) : Int)) (.returned (.int .i64 k0)) w) := ⟨by simp, .inl ⟨rfl, rfl⟩, rfl, Below.refl _ _, fun _ _ => rfl⟩
    clear hpl
    go_enter Tryd.func49, Tryd.ntmps49
    go_wp2_with fail
    go_loopw [1, 5] (fun c i wr => c = .int .i64 k0 ∧ i = .int .i64 0 ∧ wr = w) (fun _ i _ => 0)
    case atStart => exact ⟨rfl, rfl, rfl⟩
    case round =>
      obtain ⟨rfl, rfl, rfl⟩ := hrel
      go_wp2_with fail
      go_ret
      exact HFIN.out
  · have ho : OwnN w base (.slice a n cap) ps := by unfold OwnN; rw [hpl]; exact h
    refine (markInS_one base n cap a k0 ps w ho hpl hn h0 h1).mono ?_
    rintro f w' ⟨rfl, h2, h3, h4, h5⟩
    refine ⟨rfl, .inr ⟨hp, ?_⟩, h3, h4, fun j hj => h5 j (by rw [← blk_pos hp]; exact hj)⟩
    unfold OwnN at h2
    rw [mkN_len] at h2
    exact h2

set_option maxHeartbeats 2000000 in
theorem heldIX_one (n cap : Nat) (a : Option Addr) (k0 : Int) (w : World) {D : Nat → Prop} (h : IAt w D (mkI k0 n) a) (hn : n ≤ 1048576) (h0 : 0 ≤ k0) (h1 : k0 ≤ 1000000000) :
    Calls Tryd.prog 50 #[.slice a n cap, .int .i64 k0] w (fun f w' => f = .returned (.int .i64 (k0 + (n : Int))) ∧ Below w.heap.size w w') := by
  have HC : Hid (∀ k, k < n → ∃ b o, a = some ⟨b, o, none⟩ ∧ w.cell? ⟨b, o + k, none⟩ = some (.int .i64 (k0 + (k : Int)))) := fun k hk => by
    obtain ⟨b, o, ha, hc⟩ := h.slice.2.2 k (by rw [mkI_len]; exact hk)
    refine ⟨b, o, ha, ?_⟩
    rw [hc, List.getD_eq_getElem?_getD, mkI_at k0 hk]; rfl
  clear h
  go_enter Tryd.func50, Tryd.ntmps50
  go_wp2
  go_loopw [1, 5] (fun c i wr => ∃ k m : Nat, k ≤ n ∧ i = .int .i64 k ∧ c = .int .i64 (k0 + (k : Int)) ∧ wr = w.drewN m) (fun _ i _ => n - (intOf i).toNat)
  case atStart => exact ⟨0, 0, Nat.zero_le _, rfl, by simp, rfl⟩
  case round =>
    obtain ⟨k, m, hk, rfl, rfl, rfl⟩ := hrel
    by_cases hlt : k < n
    · obtain ⟨b, o, rfl, c0⟩ := HC.out k hlt
      clear HC
      go_wp2
      go_roundw
      case rel => exact ⟨k + 1, m, by omega, by go_num, by go_num, rfl⟩
      case measure => simp [intOf]; omega
    · obtain rfl : k = n := by omega
      go_wp2
      go_ret
      exact ⟨rfl, ⟨rfl, rfl, rfl, Nat.le_refl _, fun _ _ => rfl⟩⟩

end Go.Proofs.YtbifbmpflhdijaaDoor

namespace Go.Proofs.YtbifbmpflhdijaaDoor
open Go.RowKit
set_option linter.unusedVariables false

theorem flatN_of {es : List Ins} {cur : Array Value} {n : Nat} (hn : es.length = n) (hc : cur.size = n * 5) (h : ∀ (j : Nat) (x : Ins), j < n → es[j]? = some x → cur[j * 5]? = some (.int .i64 x.op) ∧ cur[j * 5 + 1]? = some (.int .i64 x.fa) ∧ cur[j * 5 + 2]? = some (.int .i64 x.fb) ∧ cur[j * 5 + 3]? = some (.int .i64 x.fc) ∧ cur[j * 5 + 4]? = some (.int .i64 x.fd)) : cur.toList = flatN es := by
  have hfl : (flatN es).length = n * 5 := by rw [flatN_len, hn]
  apply List.ext_getElem?
  intro q
  by_cases hq : q < n * 5
  · have hj : q / 5 < n := by omega
    obtain ⟨x, hx⟩ : ∃ x, es[q / 5]? = some x := ⟨es[q / 5]'(by omega), List.getElem?_eq_getElem _⟩
    obtain ⟨h0, h1, h2, h3, h4⟩ := h (q / 5) x hj hx
    obtain ⟨k0, k1, k2, k3, k4⟩ := flatN_at es (q / 5) x hx
    rw [Array.getElem?_toList]
    have hm : q % 5 = 0 ∨ q % 5 = 1 ∨ q % 5 = 2 ∨ q % 5 = 3 ∨ q % 5 = 4 := by omega
    rcases hm with e | e | e | e | e
    · rw [show q = q / 5 * 5 by omega, h0, k0]
    · rw [show q = q / 5 * 5 + 1 by omega, h1, k1]
    · rw [show q = q / 5 * 5 + 2 by omega, h2, k2]
    · rw [show q = q / 5 * 5 + 3 by omega, h3, k3]
    · rw [show q = q / 5 * 5 + 4 by omega, h4, k4]
  · rw [List.getElem?_eq_none (by rw [Array.length_toList]; omega), List.getElem?_eq_none (by omega)]

/-- A list of instructions is handed back in a row of its own. -/
def CopyInO (es : List Ins) (w : World) (f : Ending) (w' : World) : Prop := ∃ a cap, f = .returned (.slice a es.length cap) ∧ OwnN w' w.heap.size (.slice a es.length cap) es ∧ Below w.heap.size w w'

set_option maxHeartbeats 4000000 in
/-- **toInstrS**, told of the copy as a row of its own. -/
theorem toInSO_one (es : List Ins) (a : Option Addr) (cap : Nat) (w : World) (h : NAt w (fun b => b < w.heap.size) es a) (hs : es.length ≤ 1048576) :
    Calls Tryd.prog 43 #[.slice a es.length cap] w (CopyInO es w) := by
  obtain ⟨i0, hi, hz0, hz1, hz2⟩ := info_parts Tryd.infoIn
  obtain ⟨hm, h⟩ := h
  obtain ⟨len, hlen⟩ : ∃ len, es.length = len := ⟨_, rfl⟩
  have HLEN := Lib.hid hlen
  rw [hlen] at hs ⊢
  have H := Lib.hid h
  clear h hlen hm
  go_enter Tryd.func43, Tryd.ntmps43
  go_wp2_with (at_make; refine wpList_make_full _ rfl _ _ 27 rfl w.heap.size 50 i0 (.agg #[.int .i64 0, .int .i64 0, .int .i64 0, .int .i64 0, .int .i64 0]) 5 Tryd.underlying27 hi hz0 hz1 .i64 .i64 (len : Int) (len : Int) len rfl rfl rfl rfl (by rw [hz2]; omega) (by unfold maxLen; omega) (Nat.le_refl _) ?_; intro w1 hown1 hgrow1; clear hz0 hz1 hz2)
  have HB1 : Hid (Below w.heap.size w w1) := (Below.refl _ w).grown hgrow1 (Nat.le_refl _) (fun k e => by cases e)
  have HO1 : Hid (∃ cur : Array Value, cur.size = len * 5 ∧ w1.heap[w.heap.size]? = some (.cells cur 50 (0, 0))) := by
    rcases hown1.2 with ⟨h', _⟩ | ⟨g, cp, cur, h', _, hg, _, _, hcs, _⟩
    · cases h'
    · cases h'
      exact ⟨cur, hcs, hg⟩
  clear hown1 hgrow1
  go_loopw [4] (fun i wr => ∃ k : Nat, k ≤ len ∧ i = .int .i64 k ∧ Below w.heap.size w wr ∧ w.heap.size < wr.heap.size ∧ ∃ cur : Array Value, cur.size = len * 5 ∧ wr.heap[w.heap.size]? = some (.cells cur 50 (0, 0)) ∧
      ∀ (j : Nat) (x : Ins), j < k → es[j]? = some x → cur[j * 5]? = some (.int .i64 x.op) ∧ cur[j * 5 + 1]? = some (.int .i64 x.fa) ∧ cur[j * 5 + 2]? = some (.int .i64 x.fb) ∧ cur[j * 5 + 3]? = some (.int .i64 x.fc) ∧ cur[j * 5 + 4]? = some (.int .i64 x.fd)) (fun i _ => len - (intOf i).toNat)
  case atStart =>
    obtain ⟨cur, h1, h2⟩ := HO1.out
    exact ⟨0, Nat.zero_le _, rfl, HB1.out, (Array.getElem?_eq_some_iff.1 h2).1, cur, h1, h2, fun j x hj => absurd hj (Nat.not_lt_zero _)⟩
  case round =>
    obtain ⟨k, hk, rfl, hB, hgt, cur, hcs, hblk, hdone⟩ := hrel
    have HB := Lib.hid hB
    have HCS := Lib.hid hcs
    have HBLK := Lib.hid hblk
    have HD := Lib.hid hdone
    clear hB hcs hblk hdone HO1 HB1
    by_cases hlt : k < len
    · obtain ⟨x, hx⟩ : ∃ x, es[k]? = some x := ⟨es[k]'(by rw [HLEN.out]; exact hlt), List.getElem?_eq_getElem _⟩
      obtain ⟨b, o, rfl, hbl, e0, e1, e2, e3, e4⟩ := H.out k x hx
      have d0 := (HB.out.cell (p := ⟨b, o + k * 5, none⟩) hbl).trans e0
      have d1 := (HB.out.cell (p := ⟨b, o + k * 5 + 1, none⟩) hbl).trans e1
      have d2 := (HB.out.cell (p := ⟨b, o + k * 5 + 2, none⟩) hbl).trans e2
      have d3 := (HB.out.cell (p := ⟨b, o + k * 5 + 3, none⟩) hbl).trans e3
      have d4 := (HB.out.cell (p := ⟨b, o + k * 5 + 4, none⟩) hbl).trans e4
      clear e0 e1 e2 e3 e4
      have hsz := HB.out.size
      have HX := Lib.hid hx
      clear hx
      go_wp2_with fail
      refine (toIn_one x _).mono ?_
      rintro f w2 ⟨rfl, hb2⟩
      have hsz2 := hb2.size
      have hblk2 : w2.heap[w.heap.size]? = some (.cells cur 50 (0, 0)) := (hb2.block _ hgt).trans HBLK.out
      have hb3 : k * 5 + 4 < cur.size := by rw [HCS.out]; omega
      obtain ⟨⟨u0, u1, u2, u3, u4, hu0, hu1, hu2, hu3, hu4⟩, hf0, hf1, hf2, hf3, hf4⟩ := in_cells (o := k * 5) hblk2 hb3
      have HST := Lib.hid (in_store (o := k * 5) hblk2 (.int .i64 x.op) (.int .i64 x.fa) (.int .i64 x.fb) (.int .i64 x.fc) (.int .i64 x.fd))
      have HSM3 := Lib.hid (in_set_same cur (k * 5) (.int .i64 x.op) (.int .i64 x.fa) (.int .i64 x.fb) (.int .i64 x.fc) (.int .i64 x.fd) hb3)
      have HB3 : Hid (Below w.heap.size w (((((w2.setCell ⟨w.heap.size, k * 5, none⟩ (.int .i64 x.op)).setCell ⟨w.heap.size, k * 5 + 1, none⟩ (.int .i64 x.fa)).setCell ⟨w.heap.size, k * 5 + 2, none⟩ (.int .i64 x.fb)).setCell ⟨w.heap.size, k * 5 + 3, none⟩ (.int .i64 x.fc)).setCell ⟨w.heap.size, k * 5 + 4, none⟩ (.int .i64 x.fd))) := ((((((HB.out.trans (hb2.mono hsz)).setCell (p := ⟨w.heap.size, k * 5, none⟩) (Nat.le_refl _) (.int .i64 x.op)).setCell (p := ⟨w.heap.size, k * 5 + 1, none⟩) (Nat.le_refl _) (.int .i64 x.fa)).setCell (p := ⟨w.heap.size, k * 5 + 2, none⟩) (Nat.le_refl _) (.int .i64 x.fb)).setCell (p := ⟨w.heap.size, k * 5 + 3, none⟩) (Nat.le_refl _) (.int .i64 x.fc)).setCell (p := ⟨w.heap.size, k * 5 + 4, none⟩) (Nat.le_refl _) (.int .i64 x.fd))
      have HSZW : Hid ((((((w2.setCell ⟨w.heap.size, k * 5, none⟩ (.int .i64 x.op)).setCell ⟨w.heap.size, k * 5 + 1, none⟩ (.int .i64 x.fa)).setCell ⟨w.heap.size, k * 5 + 2, none⟩ (.int .i64 x.fb)).setCell ⟨w.heap.size, k * 5 + 3, none⟩ (.int .i64 x.fc)).setCell ⟨w.heap.size, k * 5 + 4, none⟩ (.int .i64 x.fd)).heap.size = w2.heap.size) := by
        have : (((((w2.setCell ⟨w.heap.size, k * 5, none⟩ (.int .i64 x.op)).setCell ⟨w.heap.size, k * 5 + 1, none⟩ (.int .i64 x.fa)).setCell ⟨w.heap.size, k * 5 + 2, none⟩ (.int .i64 x.fb)).setCell ⟨w.heap.size, k * 5 + 3, none⟩ (.int .i64 x.fc)).setCell ⟨w.heap.size, k * 5 + 4, none⟩ (.int .i64 x.fd)).heap.size = w2.heap.size := by simp [World.setCell]
        exact this
      clear hb2 hblk2 HBLK HB d0 d1 d2 d3 d4
      go_wp2_with fail
      go_roundw
      case rel =>
        refine ⟨k + 1, by omega, by go_num, HB3.out, by rw [HSZW.out]; omega, _, ?_, HST.out, ?_⟩
        · simp [HCS.out]
        · intro j y hj hy
          by_cases hjk : j = k
          · subst hjk
            rw [HX.out] at hy
            cases hy
            exact HSM3.out
          · obtain ⟨h0, h1, h2, h3, h4⟩ := HD.out j y (by omega) hy
            exact ⟨by rw [in_set_other _ _ _ _ _ _ _ _ (by omega)]; exact h0, by rw [in_set_other _ _ _ _ _ _ _ _ (by omega)]; exact h1, by rw [in_set_other _ _ _ _ _ _ _ _ (by omega)]; exact h2, by rw [in_set_other _ _ _ _ _ _ _ _ (by omega)]; exact h3, by rw [in_set_other _ _ _ _ _ _ _ _ (by omega)]; exact h4⟩
      case measure => simp [intOf]; omega
    · obtain rfl : k = len := by omega
      clear H
      go_wp2_with fail
      go_ret
      refine ⟨some ⟨w.heap.size, 0, none⟩, k, by rw [HLEN.out]; rfl, ⟨by rw [flatN_len], .inr ⟨w.heap.size, k, cur, by rw [HLEN.out], Nat.le_refl _, HBLK.out, by rw [HLEN.out]; exact Nat.le_refl _, by unfold maxLen; omega, HCS.out, ?_⟩⟩, HB.out⟩
      rw [HLEN.out, flatN_of HLEN.out HCS.out HD.out]
      exact List.take_of_length_le (by rw [flatN_len, HLEN.out]; exact Nat.le_refl _)

/-- The rows of a code are of the call's own, and lie apart. -/
structure OwnC (w : World) (base : Nat) (m : Cd) (k : CK) : Prop where
  v : RowX w base 3 1 k.va m.vars.length k.vc (m.vars.map (Value.int .i64))
  a : RowX w base 3 1 k.aa m.arrs.length k.ac (m.arrs.map (Value.int .i64))
  l : RowX w base 50 5 k.la m.list.length k.lc (flatN m.list)
  va : ∀ g, blk k.va m.vars.length = some g → blk k.aa m.arrs.length ≠ some g
  vl : ∀ g, blk k.va m.vars.length = some g → blk k.la m.list.length ≠ some g
  al : ∀ g, blk k.aa m.arrs.length = some g → blk k.la m.list.length ≠ some g
theorem OwnC.cl {w : World} {base : Nat} {m : Cd} {k : CK} (h : OwnC w base m k) : CL w m k :=
  ⟨(h.v.iat rfl).wide (fun _ _ => rfl) fun b hb => hb.2, (h.a.iat rfl).wide (fun _ _ => rfl) fun b hb => hb.2, (h.l.nat rfl).wide (fun _ _ => rfl) fun b hb => hb.2⟩
/-- It stands where its blocks stand. -/
theorem OwnC.stand {w w' : World} {base : Nat} {m : Cd} {k : CK} (h : OwnC w base m k) (hs : ∀ g, base ≤ g → g < w.heap.size → w'.heap[g]? = w.heap[g]?) : OwnC w' base m k :=
  ⟨h.v.far fun g hg hl => hs g (h.v.lt g hg).1 hl, h.a.far fun g hg hl => hs g (h.a.lt g hg).1 hl, h.l.far fun g hg hl => hs g (h.l.lt g hg).1 hl, h.va, h.vl, h.al⟩
theorem OwnC.mono {w : World} {base base' : Nat} {m : Cd} {k : CK} (h : OwnC w base m k) (hb : base' ≤ base) : OwnC w base' m k := ⟨h.v.mono hb, h.a.mono hb, h.l.mono hb, h.va, h.vl, h.al⟩
/-- Code is handed back in rows of its own. -/
def CopyCO (m : Cd) (w : World) (f : Ending) (w' : World) : Prop := ∃ k, f = .returned (aggC m k) ∧ OwnC w' w.heap.size m k ∧ Below w.heap.size w w'

set_option maxHeartbeats 8000000 in
/-- **toCode**, told of its rows. -/
theorem toCO_one (m : Cd) (k : CK) (w : World) (h : CL w m k) (hs : CSm m) :
    Calls Tryd.prog 13 #[aggC m k] w (CopyCO m w) := by
  obtain ⟨hs1, hs2, hs3⟩ := hs
  have H : Hid (∀ v, Below w.heap.size w v → CL v m k) := fun v hv => h.below hv
  clear h
  go_enter Tryd.func13, Tryd.ntmps13
  go_wp2_with fail
  obtain ⟨W, hW⟩ : ∃ W, (((w.alloc (.cells (arrC m k) 25)).alloc (.cells #[.slice none 0 0, .slice none 0 0, .slice none 0 0] 29)).alloc (.cells #[.slice none 0 0, .slice none 0 0, .slice none 0 0] 29)) = W := ⟨_, rfl⟩
  have hB : Below w.heap.size w W := by rw [← hW]; exact (((Below.refl w.heap.size w).alloc (Nat.le_refl _) _).alloc (by simp) _).alloc (by simp; omega) _
  have hz : W.heap.size = w.heap.size + 3 := by rw [← hW]; simp
  have q0 : BoxC W w.heap.size m k := by
    rw [← hW]
    exact ((BoxC.new w m k 25).later (Below.heap_alloc _ _ _ (by simp))).later (Below.heap_alloc _ _ _ (by simp; omega))
  have q1 : W.heap[w.heap.size + 1]? = some (.cells #[.slice none 0 0, .slice none 0 0, .slice none 0 0] 29 (0, 0)) := by
    rw [← hW, Below.heap_alloc _ _ _ (by simp)]
    have := heap_alloc_new (w.alloc (.cells (arrC m k) 25)) (.cells #[.slice none 0 0, .slice none 0 0, .slice none 0 0] 29)
    rw [World.size_alloc] at this
    exact this
  have q2 : W.heap[w.heap.size + 1 + 1]? = some (.cells #[.slice none 0 0, .slice none 0 0, .slice none 0 0] 29 (0, 0)) := by
    rw [← hW]
    have := heap_alloc_new ((w.alloc (.cells (arrC m k) 25)).alloc (.cells #[.slice none 0 0, .slice none 0 0, .slice none 0 0] 29)) (.cells #[.slice none 0 0, .slice none 0 0, .slice none 0 0] 29)
    rw [World.size_alloc, World.size_alloc] at this
    exact this
  unfold arrC at hW
  rw [hW]
  clear hW
  have HB := Lib.hid hB
  have HZ := Lib.hid hz
  have Q0 := Lib.hid q0
  have Q1 := Lib.hid q1
  have Q2 := Lib.hid q2
  clear hB hz q0 q1 q2
  refine (toInts_one k.va m.vars.length k.vc m.vars W (H.out W HB.out).1.slice (by omega)).mono ?_
  rintro f v0 ⟨v, rfl, hown, hb⟩
  obtain ⟨a0, c0, rfl, _⟩ := hown.iat
  have hi := RowX.of hown
  have hil := hi.lt
  have z1 := hb.size
  have zz := HZ.out
  have p0 := Q0.out.below hb (by omega)
  have p1 := (hb.block (w.heap.size + 1) (by omega)).trans Q1.out
  have p2 := (hb.block (w.heap.size + 1 + 1) (by omega)).trans Q2.out
  obtain ⟨⟨u, hu⟩, hf⟩ := row_set (o := 0) p2 (by simp)
  have hst := heap_setCell_same v0 (w.heap.size + 1 + 1) 0 _ _ (.slice a0 m.vars.length c0) p2
  have hB2 : Below w.heap.size w (v0.setCell ⟨w.heap.size + 1 + 1, 0, none⟩ (.slice a0 m.vars.length c0)) := (HB.out.trans (hb.mono HB.out.size)).setCell (p := ⟨w.heap.size + 1 + 1, 0, none⟩) (by simp; omega) _
  have hoth : ∀ j, j ≠ w.heap.size + 1 + 1 → (v0.setCell ⟨w.heap.size + 1 + 1, 0, none⟩ (.slice a0 m.vars.length c0)).heap[j]? = v0.heap[j]? := fun j hj => Below.heap_setCell _ _ _ _ (fun e => hj (by simpa using e))
  have hsz : (v0.setCell ⟨w.heap.size + 1 + 1, 0, none⟩ (.slice a0 m.vars.length c0)).heap.size = v0.heap.size := by simp [World.setCell]
  obtain ⟨u1, hw⟩ : ∃ u, v0.setCell ⟨w.heap.size + 1 + 1, 0, none⟩ (.slice a0 m.vars.length c0) = u := ⟨_, rfl⟩
  rw [hw] at hst hB2 hoth hsz
  have BX1 : Hid (BoxC u1 w.heap.size m k) := p0.later (hoth _ (by omega))
  have R1 : Hid (u1.heap[w.heap.size + 1]? = some (.cells #[.slice none 0 0, .slice none 0 0, .slice none 0 0] 29 (0, 0))) := (hoth _ (by omega)).trans p1
  have ST1 := Lib.hid hst
  have HB1 := Lib.hid hB2
  have HZ1 : Hid (W.heap.size ≤ u1.heap.size ∧ W.heap.size = w.heap.size + 3) := ⟨by rw [hsz]; exact z1, zz⟩
  have I0_1 := Lib.hid (hi.far (w' := u1) fun g hg _ => hoth g (by have := hil g hg; omega))
  have L0_1 : Hid (∀ g, blk a0 m.vars.length = some g → W.heap.size ≤ g ∧ g < u1.heap.size) := fun g hg => by have := hil g hg; omega
  have y1 := BX1.out.c1
  clear hi hil hown hb p0 p1 p2 hst hoth hsz hB2 HB Q1 Q2 Q0 HZ z1 zz
  go_wp2_with fail
  clear hw hu hf y1
  refine (toInts_one k.aa m.arrs.length k.ac m.arrs u1 (H.out u1 HB1.out).2.1.slice (by omega)).mono ?_
  rintro f v1 ⟨v, rfl, hown, hb⟩
  obtain ⟨a1, c1, rfl, _⟩ := hown.iat
  have hi := RowX.of hown
  have hil := hi.lt
  have z1 := hb.size
  have zz := HZ1.out
  have p0 := BX1.out.below hb (by omega)
  have p1 := (hb.block (w.heap.size + 1) (by omega)).trans R1.out
  have p2 := (hb.block (w.heap.size + 1 + 1) (by omega)).trans ST1.out
  have hk0 := I0_1.out.far (w' := v1) fun g hg hlt => hb.block g hlt
  obtain ⟨⟨u, hu⟩, hf⟩ := row_set (o := 1) p2 (by simp)
  have hst := heap_setCell_same v1 (w.heap.size + 1 + 1) 1 _ _ (.slice a1 m.arrs.length c1) p2
  have hB2 : Below w.heap.size w (v1.setCell ⟨w.heap.size + 1 + 1, 1, none⟩ (.slice a1 m.arrs.length c1)) := (HB1.out.trans (hb.mono HB1.out.size)).setCell (p := ⟨w.heap.size + 1 + 1, 1, none⟩) (by simp; omega) _
  have hoth : ∀ j, j ≠ w.heap.size + 1 + 1 → (v1.setCell ⟨w.heap.size + 1 + 1, 1, none⟩ (.slice a1 m.arrs.length c1)).heap[j]? = v1.heap[j]? := fun j hj => Below.heap_setCell _ _ _ _ (fun e => hj (by simpa using e))
  have hsz : (v1.setCell ⟨w.heap.size + 1 + 1, 1, none⟩ (.slice a1 m.arrs.length c1)).heap.size = v1.heap.size := by simp [World.setCell]
  obtain ⟨u2, hw⟩ : ∃ u, v1.setCell ⟨w.heap.size + 1 + 1, 1, none⟩ (.slice a1 m.arrs.length c1) = u := ⟨_, rfl⟩
  rw [hw] at hst hB2 hoth hsz
  have BX2 : Hid (BoxC u2 w.heap.size m k) := p0.later (hoth _ (by omega))
  have R2 : Hid (u2.heap[w.heap.size + 1]? = some (.cells #[.slice none 0 0, .slice none 0 0, .slice none 0 0] 29 (0, 0))) := (hoth _ (by omega)).trans p1
  have ST2 := Lib.hid hst
  have HB2 := Lib.hid hB2
  have HZ2 : Hid (W.heap.size ≤ u2.heap.size ∧ W.heap.size = w.heap.size + 3) := ⟨by rw [hsz]; omega, zz.2⟩
  have I0_2 := Lib.hid (hk0.far (w' := u2) fun g hg _ => hoth g (by have := L0_1.out g hg; omega))
  have I1_2 := Lib.hid (hi.far (w' := u2) fun g hg _ => hoth g (by have := hil g hg; omega))
  have L1_2 : Hid (∀ g, blk a1 m.arrs.length = some g → u1.heap.size ≤ g ∧ g < u2.heap.size) := fun g hg => by have := hil g hg; omega
  have HZ12 : Hid (W.heap.size ≤ u1.heap.size ∧ u1.heap.size ≤ u2.heap.size) := ⟨zz.1, by omega⟩
  have y2 := BX2.out.c2
  clear hi hil hown hb p0 p1 p2 hst hoth hsz hB2 HB1 R1 ST1 BX1 HZ1 z1 zz hk0 I0_1
  go_wp2_with fail
  clear hw hu hf y2
  refine (toInSO_one m.list k.la k.lc u2 (H.out u2 HB2.out).2.2 hs3).mono ?_
  rintro f v2 ⟨a2, c2, rfl, hown, hb⟩
  have hi := RowX.of hown
  have hil := hi.lt
  have z1 := hb.size
  have zz := HZ2.out
  have p0 := BX2.out.below hb (by omega)
  have p1 := (hb.block (w.heap.size + 1) (by omega)).trans R2.out
  have p2 := (hb.block (w.heap.size + 1 + 1) (by omega)).trans ST2.out
  have hk0 := I0_2.out.far (w' := v2) fun g hg hlt => hb.block g hlt
  have hk1 := I1_2.out.far (w' := v2) fun g hg hlt => hb.block g hlt
  obtain ⟨⟨u, hu⟩, hf⟩ := row_set (o := 2) p2 (by simp)
  have hst := heap_setCell_same v2 (w.heap.size + 1 + 1) 2 _ _ (.slice a2 m.list.length c2) p2
  have hB2 : Below w.heap.size w (v2.setCell ⟨w.heap.size + 1 + 1, 2, none⟩ (.slice a2 m.list.length c2)) := (HB2.out.trans (hb.mono HB2.out.size)).setCell (p := ⟨w.heap.size + 1 + 1, 2, none⟩) (by simp; omega) _
  have hoth : ∀ j, j ≠ w.heap.size + 1 + 1 → (v2.setCell ⟨w.heap.size + 1 + 1, 2, none⟩ (.slice a2 m.list.length c2)).heap[j]? = v2.heap[j]? := fun j hj => Below.heap_setCell _ _ _ _ (fun e => hj (by simpa using e))
  have hsz : (v2.setCell ⟨w.heap.size + 1 + 1, 2, none⟩ (.slice a2 m.list.length c2)).heap.size = v2.heap.size := by simp [World.setCell]
  obtain ⟨u3, hw⟩ : ∃ u, v2.setCell ⟨w.heap.size + 1 + 1, 2, none⟩ (.slice a2 m.list.length c2) = u := ⟨_, rfl⟩
  rw [hw] at hst hB2 hoth hsz
  have BX3 : Hid (BoxC u3 w.heap.size m k) := p0.later (hoth _ (by omega))
  have R3 : Hid (u3.heap[w.heap.size + 1]? = some (.cells #[.slice none 0 0, .slice none 0 0, .slice none 0 0] 29 (0, 0))) := (hoth _ (by omega)).trans p1
  have ST3 := Lib.hid hst
  have HB3 := Lib.hid hB2
  have HZ3 : Hid (W.heap.size ≤ u3.heap.size ∧ W.heap.size = w.heap.size + 3) := ⟨by rw [hsz]; omega, zz.2⟩
  have I0_3 := Lib.hid (hk0.far (w' := u3) fun g hg _ => hoth g (by have := L0_1.out g hg; have := HZ12.out; omega))
  have I1_3 := Lib.hid (hk1.far (w' := u3) fun g hg _ => hoth g (by have := L1_2.out g hg; have := HZ12.out; omega))
  have I2_3 := Lib.hid (hi.far (w' := u3) fun g hg _ => hoth g (by have := hil g hg; omega))
  have L2_3 : Hid (∀ g, blk a2 m.list.length = some g → u2.heap.size ≤ g) := fun g hg => (hil g hg).1
  clear hi hil hown hb p0 p1 p2 hst hoth hsz hB2 HB2 R2 ST2 BX2 HZ2 z1 zz hk0 I0_2 hk1 I1_2
  have hst := ST3.out
  have hr := R3.out
  have zz := HZ3.out
  obtain ⟨⟨s0, hs0'⟩, hg0⟩ := row_set (o := 0) hr (by simp)
  obtain ⟨⟨s1, hs1'⟩, hg1⟩ := row_set (o := 1) hr (by simp)
  obtain ⟨⟨s2, hs2'⟩, hg2⟩ := row_set (o := 2) hr (by simp)
  have t0 : u3.cell? ⟨w.heap.size + 1 + 1, 0, none⟩ = some (.slice a0 m.vars.length c0) := by rw [cell_of_row _ _ _ _ _ _ hst]; rfl
  have t1 : u3.cell? ⟨w.heap.size + 1 + 1, 1, none⟩ = some (.slice a1 m.arrs.length c1) := by rw [cell_of_row _ _ _ _ _ _ hst]; rfl
  have t2 : u3.cell? ⟨w.heap.size + 1 + 1, 2, none⟩ = some (.slice a2 m.list.length c2) := by rw [cell_of_row _ _ _ _ _ _ hst]; rfl
  clear hst hr
  go_wp2_with fail
  have HOT : Hid (∀ j, W.heap.size ≤ j → (((u3.setCell ⟨w.heap.size + 1, 0, none⟩ (.slice a0 m.vars.length c0)).setCell ⟨w.heap.size + 1, 1, none⟩ (.slice a1 m.arrs.length c1)).setCell ⟨w.heap.size + 1, 2, none⟩ (.slice a2 m.list.length c2)).heap[j]? = u3.heap[j]?) := fun j hj => by
    rw [Below.heap_setCell _ _ _ _ (by simp; omega), Below.heap_setCell _ _ _ _ (by simp; omega), Below.heap_setCell _ _ _ _ (by simp; omega)]
  have HSZ : Hid ((((u3.setCell ⟨w.heap.size + 1, 0, none⟩ (.slice a0 m.vars.length c0)).setCell ⟨w.heap.size + 1, 1, none⟩ (.slice a1 m.arrs.length c1)).setCell ⟨w.heap.size + 1, 2, none⟩ (.slice a2 m.list.length c2)).heap.size = u3.heap.size) := by
    have : (((u3.setCell ⟨w.heap.size + 1, 0, none⟩ (.slice a0 m.vars.length c0)).setCell ⟨w.heap.size + 1, 1, none⟩ (.slice a1 m.arrs.length c1)).setCell ⟨w.heap.size + 1, 2, none⟩ (.slice a2 m.list.length c2)).heap.size = u3.heap.size := by simp [World.setCell]
    exact this
  clear hw
  refine bodyPost_ret (v := .agg #[.slice a0 m.vars.length c0, .slice a1 m.arrs.length c1, .slice a2 m.list.length c2]) (by simp [results, Tryd.f13, go_sem, hs0', hs1', hs2']) rfl ?_
  have hz12 := HZ12.out
  refine ⟨⟨a0, c0, a1, c1, a2, c2⟩, rfl, ⟨?_, ?_, ?_, fun g h1 h2 => ?_, fun g h1 h2 => ?_, fun g h1 h2 => ?_⟩, ?_⟩
  · exact (I0_3.out.far fun g hg _ => HOT.out g (L0_1.out g hg).1).mono (by omega)
  · exact (I1_3.out.far fun g hg _ => HOT.out g (by have := L1_2.out g hg; omega)).mono (by omega)
  · exact (I2_3.out.far fun g hg _ => HOT.out g (by have := L2_3.out g hg; omega)).mono (by omega)
  · have := L0_1.out g h1
    have := L1_2.out g h2
    omega
  · have := L0_1.out g h1
    have := L2_3.out g h2
    omega
  · have := L1_2.out g h1
    have := L2_3.out g h2
    omega
  exact ((HB3.out.setCell (p := ⟨w.heap.size + 1, 0, none⟩) (by simp) _).setCell (p := ⟨w.heap.size + 1, 1, none⟩) (by simp) _).setCell (p := ⟨w.heap.size + 1, 2, none⟩) (by simp) _

end Go.Proofs.YtbifbmpflhdijaaDoor

namespace Go.Proofs.YtbifbmpflhdijaaDoor
open Go.RowKit
set_option linter.unusedVariables false

/-- The marks of a code. -/
def mkCd (k : Int) (m : Cd) : Cd := ⟨mkI k m.vars.length, mkI (k + (m.vars.length : Int)) m.arrs.length, mkN (k + (m.vars.length : Int) + (m.arrs.length : Int)) m.list.length⟩
def mkEnd (k : Int) (m : Cd) : Int := k + (m.vars.length : Int) + (m.arrs.length : Int) + 5 * (m.list.length : Int)
/-- Its rows hold the marks; no other block has changed. -/
def WroteC (w : World) (base : Nat) (m : Cd) (k : CK) (k0 : Int) (f : Ending) (w' : World) : Prop := f = .returned (.int .i64 (mkEnd k0 m)) ∧ OwnC w' base (mkCd k0 m) k ∧ Below base w w' ∧ w.heap.size ≤ w'.heap.size ∧ ∀ j, j < w.heap.size → blk k.va m.vars.length ≠ some j → blk k.aa m.arrs.length ≠ some j → blk k.la m.list.length ≠ some j → w'.heap[j]? = w.heap[j]?

set_option maxRecDepth 100000 in
set_option maxHeartbeats 4000000 in
/-- **markCode.** -/
theorem markC_one (base : Nat) (m : Cd) (k : CK) (k0 : Int) (w : World) (h : OwnC w base m k) (hb : base ≤ w.heap.size) (hs : CSm m) (h0 : 0 ≤ k0) (h1 : k0 ≤ 1000) :
    Calls Tryd.prog 16 #[aggC m k, .int .i64 k0] w (WroteC w base m k k0) := by
  obtain ⟨hs1, hs2, hs3⟩ := hs
  obtain ⟨W, hW⟩ : ∃ W, w.alloc (.cells (arrC m k) 29) = W := ⟨_, rfl⟩
  have hB : Below w.heap.size w W := by rw [← hW]; exact (Below.refl _ w).alloc (Nat.le_refl _) _
  have hX : BoxC W w.heap.size m k := by rw [← hW]; exact BoxC.new _ _ _ _
  have hz : W.heap.size = w.heap.size + 1 := by rw [← hW]; simp
  have hO : OwnC W base m k := h.stand fun g _ hg => hB.block g hg
  have lv := h.v.lt
  have la := h.a.lt
  have ll := h.l.lt
  have LV := Lib.hid lv
  have LA := Lib.hid la
  have LL := Lib.hid ll
  have HO := Lib.hid hO
  have HX := Lib.hid hX
  have HB := Lib.hid hB
  have HW := Lib.hid hW
  have HZ := Lib.hid hz
  unfold arrC at HW
  have x0 := hX.c0
  obtain ⟨nv, hnv⟩ : ∃ n, m.vars.length = n := ⟨_, rfl⟩
  obtain ⟨na, hna⟩ : ∃ n, m.arrs.length = n := ⟨_, rfl⟩
  obtain ⟨nl, hnl⟩ : ∃ n, m.list.length = n := ⟨_, rfl⟩
  have HNV := Lib.hid hnv
  have HNA := Lib.hid hna
  have HNL := Lib.hid hnl
  rw [hnv] at hs1 x0
  rw [hna] at hs2
  rw [hnl] at hs3
  have M1 := Lib.hid (markIX_one base nv k.vc k.va k0 m.vars W (by have := hO.v; rw [hnv] at this; exact this) hnv hs1 h0 (by omega))
  clear hW hB hX hz hO lv la ll h hnv hna hnl
  go_enter Tryd.func16, Tryd.ntmps16
  go_wp2_with (first | rw [HW.out] | fail)
  refine M1.out.mono ?_
  rintro f w1 ⟨rfl, hr1, hz1, hb1, hst1⟩
  have hx1 : BoxC w1 w.heap.size m k := HX.out.later (hst1 _ fun e => by have h1 := LV.out; rw [HNV.out] at h1; have := h1 _ e; omega)
  have x1 := hx1.c1
  rw [HNA.out] at x1
  have ha1 : RowX w1 base 3 1 k.aa na k.ac (m.arrs.map (Value.int .i64)) := by
    have h1 := HO.out.a
    rw [HNA.out] at h1
    refine h1.far fun g hg _ => hst1 g fun e => ?_
    have h2 := HO.out.va
    rw [HNV.out, HNA.out] at h2
    exact h2 g e hg
  have hl1 : RowX w1 base 50 5 k.la nl k.lc (flatN m.list) := by
    have h1 := HO.out.l
    rw [HNL.out] at h1
    refine h1.far fun g hg _ => hst1 g fun e => ?_
    have h2 := HO.out.vl
    rw [HNV.out, HNL.out] at h2
    exact h2 g e hg
  have M2 := Lib.hid (markIX_one base na k.ac k.aa (k0 + (nv : Int)) m.arrs w1 ha1 HNA.out hs2 (by omega) (by omega))
  have HR1 := Lib.hid hr1
  have HX1 := Lib.hid hx1
  have HL1 := Lib.hid hl1
  have HB1 := Lib.hid hb1
  have HST1 := Lib.hid hst1
  have HZ1 := Lib.hid hz1
  clear hr1 hx1 ha1 hl1 hb1 hst1 hz1 x0 M1
  go_wp2_with fail
  refine M2.out.mono ?_
  rintro f w2 ⟨rfl, hr2, hz2, hb2, hst2⟩
  have hx2 : BoxC w2 w.heap.size m k := HX1.out.later (hst2 _ fun e => by have h1 := LA.out; rw [HNA.out] at h1; have := h1 _ e; omega)
  have x2 := hx2.c2
  rw [HNL.out] at x2
  have hv2 : RowX w2 base 3 1 k.va nv k.vc ((mkI k0 nv).map (Value.int .i64)) := HR1.out.far fun g hg _ => hst2 g fun e => by
    have h2 := HO.out.va
    rw [HNV.out, HNA.out] at h2
    exact h2 g hg e
  have hl2 : RowX w2 base 50 5 k.la nl k.lc (flatN m.list) := HL1.out.far fun g hg _ => hst2 g fun e => by
    have h2 := HO.out.al
    rw [HNA.out, HNL.out] at h2
    exact h2 g e hg
  have M3 := Lib.hid (markNX_one base nl k.lc k.la (k0 + (nv : Int) + (na : Int)) m.list w2 hl2 HNL.out hs3 (by omega) (by omega))
  have HV2 := Lib.hid hv2
  have HR2 := Lib.hid hr2
  have HB2 := Lib.hid hb2
  have HST2 := Lib.hid hst2
  have HZ2 := Lib.hid hz2
  clear hr2 hx2 hv2 hl2 hb2 hst2 hz2 x1 M2 HR1 HL1
  go_wp2_with fail
  refine M3.out.mono ?_
  rintro f w3 ⟨rfl, hr3, hz3, hb3, hst3⟩
  have HFIN : Hid (WroteC w base m k k0 (.returned (.int .i64 (k0 + (nv : Int) + (na : Int) + 5 * (nl : Int)))) w3) := by
    have hv3 : RowX w3 base 3 1 k.va nv k.vc ((mkI k0 nv).map (Value.int .i64)) := HV2.out.far fun g hg _ => hst3 g fun e => by
      have h2 := HO.out.vl
      rw [HNV.out, HNL.out] at h2
      exact h2 g hg e
    have ha3 : RowX w3 base 3 1 k.aa na k.ac ((mkI (k0 + (nv : Int)) na).map (Value.int .i64)) := HR2.out.far fun g hg _ => hst3 g fun e => by
      have h2 := HO.out.al
      rw [HNA.out, HNL.out] at h2
      exact h2 g hg e
    have hva := HO.out.va
    have hvl := HO.out.vl
    have hal := HO.out.al
    unfold WroteC
    rw [HNV.out, HNA.out] at hva
    rw [HNV.out, HNL.out] at hvl
    rw [HNA.out, HNL.out] at hal
    refine ⟨by unfold mkEnd; rw [HNV.out, HNA.out, HNL.out], ?_, (((HB.out.mono hb).trans HB1.out).trans HB2.out).trans hb3, by rw [hz3, HZ2.out, HZ1.out]; exact HB.out.size, fun j hj n1 n2 n3 => ?_⟩
    · have e1 : (mkCd k0 m).vars.length = nv := by show (mkI _ _).length = nv; rw [mkI_len, HNV.out]
      have e2 : (mkCd k0 m).arrs.length = na := by show (mkI _ _).length = na; rw [mkI_len, HNA.out]
      have e3 : (mkCd k0 m).list.length = nl := by show (mkN _ _).length = nl; rw [mkN_len, HNL.out]
      refine ⟨?_, ?_, ?_, by rw [e1, e2]; exact hva, by rw [e1, e3]; exact hvl, by rw [e2, e3]; exact hal⟩
      · rw [e1]; show RowX _ _ _ _ _ _ _ ((mkI k0 m.vars.length).map _); rw [HNV.out]; exact hv3
      · rw [e2]; show RowX _ _ _ _ _ _ _ ((mkI (k0 + (m.vars.length : Int)) m.arrs.length).map _); rw [HNV.out, HNA.out]; exact ha3
      · rw [e3]; show RowX _ _ _ _ _ _ _ (flatN (mkN (k0 + (m.vars.length : Int) + (m.arrs.length : Int)) m.list.length)); rw [HNV.out, HNA.out, HNL.out]; exact hr3
    · rw [HNV.out] at n1
      rw [HNA.out] at n2
      rw [HNL.out] at n3
      exact (hst3 j n3).trans ((HST2.out j n2).trans ((HST1.out j n1).trans (HB.out.block j hj)))
  clear hr3 hz3 hb3 hst3 HV2 HR2 HO M3
  go_wp2_with fail
  go_ret
  exact HFIN.out

end Go.Proofs.YtbifbmpflhdijaaDoor

namespace Go.Proofs.YtbifbmpflhdijaaDoor
open Go.RowKit
set_option linter.unusedVariables false

theorem eqBB_sameL (rs : List (List Bool)) (a a' : Option Addr) (n n' c c' : Nat) (w : World) (h : BBs w (fun b => b < w.heap.size) rs a) (h' : BBs w (fun b => b < w.heap.size) rs a') (hn : rs.length = n) (hn' : rs.length = n') :
    Calls Tryd.prog 20 #[.slice a n c, .slice a' n' c'] w (YN true w) := by
  have h1 := eqBB_one rs rs a a' n n' c c' w h h' hn hn'
  rw [decide_eq_true rfl] at h1
  exact h1
theorem OwBB.bbL {w : World} {base n c : Nat} {rs : List (List Bool)} {a : Option Addr} {vs : List Value} (h : OwBB w base rs a n c vs) (hn : n ≤ 400) : BBs w (fun b => b < w.heap.size) rs a := (h.bbs (by omega)).wide (fun _ _ => rfl) fun _ hk => hk.2

set_option maxRecDepth 100000 in
set_option maxHeartbeats 16000000 in
theorem law_FnExactLiveRegs (m : Cd) (k : CK) (w : World) (hT : TblF w) (hg : 0 < w.heap.size) (h : CL w m k) :
    Calls Tryd.prog 4 #[aggC m k] w (YN true w) := by
  have HM : Hid (∀ v, Below w.heap.size w v → CL v m k) := fun v hv => h.below hv
  have HT : Hid (∀ v, Below w.heap.size w v → TblF v) := fun v hv => hT.below hv hg
  clear h hT hg
  have HB := Lib.hid ((Below.refl w.heap.size w).alloc (Nat.le_refl _) (.cells (arrC m k) 25))
  have HX := Lib.hid (BoxC.new w m k 25)
  go_enter Tryd.func4, Tryd.ntmps4
  go_wp2_with fail
  obtain ⟨W, hW⟩ : ∃ W, (w.alloc (.cells (arrC m k) 25)) = W := ⟨_, rfl⟩
  unfold arrC at hW
  rw [hW] at HB HX ⊢
  clear hW
  refine (szC_one m k 1048576 W (HM.out _ HB.out) (by omega) (by omega)).mono ?_
  rintro f w1 ⟨v1, rfl, hv1, hs1, hb1⟩
  have HS1 := Lib.hid hs1
  have HB1 := Lib.hid (HB.out.trans (hb1.mono HB.out.size))
  have HX1 := Lib.hid (HX.out.below hb1 HX.out.lt)
  have hx1 := HX1.out.lt
  clear hs1 hb1 HX HB
  by_cases n1 : v1 < 0
  · go_wp2_with fail
    go_ret
    exact YN.of rfl HB1.out
  have HMS : Hid (CSm m) := HS1.out (by omega)
  have c0 := HX1.out.c0
  have c1 := HX1.out.c1
  have c2 := HX1.out.c2
  clear HS1
  -- the model's answer
  go_wp2_with fail
  refine (toC_one m k w1 (HM.out _ HB1.out) HMS.out).mono ?_
  rintro f u1 ⟨k1, rfl, hm1, hb1⟩
  have HM1 := Lib.hid hm1
  have HBu1 := Lib.hid hb1
  clear hm1 hb1 c0 c1 c2
  go_wp2_with fail
  refine (sLR_one m k1 u1 HM1.out).mono ?_
  rintro f u2 ⟨rs, wa, wn, wc, rfl, hbs, hwn, hwo, hb2⟩
  have HBS := Lib.hid hbs
  have HWN := Lib.hid hwn
  have HSM := Lib.hid hbs.small
  have HBw : Hid (Below w.heap.size w u2) := HB1.out.trans ((HBu1.out.trans (hb2.mono HBu1.out.size)).mono HB1.out.size)
  have HX2 : Hid (BoxC u2 w.heap.size m k) := HX1.out.below (HBu1.out.trans (hb2.mono HBu1.out.size)) hx1
  have hwnl : wn ≤ 400 := by rw [← hwn]; exact HSM.out.1
  have HS : Hid (∀ v, Below u2.heap.size u2 v → (v.cell? ⟨w.heap.size, 0, none⟩ = some (.slice k.va m.vars.length k.vc) ∧ v.cell? ⟨w.heap.size, 1, none⟩ = some (.slice k.aa m.arrs.length k.ac) ∧ v.cell? ⟨w.heap.size, 2, none⟩ = some (.slice k.la m.list.length k.lc)) ∧ CL v m k ∧ TblF v ∧ BBs v (fun j => j < v.heap.size) rs wa) := fun v hv => by
    have bx := HX2.out.below hv HX2.out.lt
    have hb := HBw.out.trans (hv.mono HBw.out.size)
    exact ⟨⟨bx.c0, bx.c1, bx.c2⟩, HM.out _ hb, HT.out _ hb, hwo.below hv⟩
  obtain ⟨⟨x0, x1, x2⟩, _⟩ := HS.out u2 (Below.refl _ _)
  have hs2 := HBw.out.size
  clear HM1 HBu1 HX1 hwo hwn hbs hb2 HX2 HM HT HB1
  -- the argument
  go_wp2_with fail
  refine (toCO_one m k u2 (HS.out _ (Below.refl _ _)).2.1 HMS.out).mono ?_
  rintro f u3 ⟨k2, rfl, ho3, hb3⟩
  obtain ⟨u4, hu4⟩ : ∃ u4, u3.alloc (.cells (arrC m k2) 29) = u4 := ⟨_, rfl⟩
  have hX4 : BoxC u4 u3.heap.size m k2 := by rw [← hu4]; exact BoxC.new _ _ _ _
  have hb34 : Below u3.heap.size u3 u4 := by rw [← hu4]; exact (Below.refl _ _).alloc (Nat.le_refl _) _
  have HO4 : Hid (OwnC u4 u2.heap.size m k2) := ho3.stand fun g _ hg => hb34.block g hg
  have hlt4 : u3.heap.size < u4.heap.size := hX4.lt
  have HB4 : Hid (Below u2.heap.size u2 u4) := hb3.trans (hb34.mono hb3.size)
  have LV := Lib.hid ho3.v.lt
  have LA := Lib.hid ho3.a.lt
  have LL := Lib.hid ho3.l.lt
  have g0 := hX4.c0
  have g1 := hX4.c1
  have g2 := hX4.c2
  have HX4 := Lib.hid hX4
  have hs3 := hb3.size
  unfold arrC at hu4
  have HU4 := Lib.hid hu4
  clear ho3 hX4 hb34 hu4 hb3 x0 x1 x2
  go_wp2_with (first | rw [HU4.out] | fail)
  refine (iLR_one m k2 u4 HO4.out.cl (HS.out _ HB4.out).2.2.1).mono ?_
  rintro f u5 ⟨gs, ga, gn, gc, vs, rfl, hgs, hgo, hb5⟩
  have hgb := hgs.uniq HBS.out
  subst hgb
  obtain rfl : gn = wn := by rw [← hgo.len]; exact HWN.out
  have HG5 := Lib.hid hgo
  have HB5 : Hid (Below u2.heap.size u2 u5) := HB4.out.trans (hb5.mono HB4.out.size)
  have HO5 : Hid (OwnC u5 u2.heap.size m k2) := HO4.out.stand fun g _ hg => hb5.block g hg
  have HX5 : Hid (BoxC u5 u3.heap.size m k2) := HX4.out.below hb5 hlt4
  have hs4 := HB4.out.size
  have hs5 := hb5.size
  clear hgs hgo hb5 g0 g1 g2 HX4 HO4
  have E5 := Lib.hid (eqBB_sameL gs ga wa gn gn gc wc u5 (HG5.out.bbL hwnl) (HS.out _ HB5.out).2.2.2 HWN.out HWN.out)
  go_wp2_with fail
  refine E5.out.mono ?_
  rintro f u6 ⟨rfl, hb6⟩
  have HB6 : Hid (Below u2.heap.size u2 u6) := HB5.out.trans (hb6.mono HB5.out.size)
  have HG6 : Hid (OwBB u6 u4.heap.size gs ga gn gc vs) := HG5.out.later hb6
  have HO6 : Hid (OwnC u6 u2.heap.size m k2) := HO5.out.stand fun g _ hg => hb6.block g hg
  have HX6 : Hid (BoxC u6 u3.heap.size m k2) := HX5.out.below hb6 HX5.out.lt
  have hs6 := hb6.size
  have HSQ : Hid (∀ v, Below u6.heap.size u6 v → v.cell? ⟨w.heap.size, 0, none⟩ = some (.slice k.va m.vars.length k.vc) ∧ v.cell? ⟨w.heap.size, 1, none⟩ = some (.slice k.aa m.arrs.length k.ac) ∧ v.cell? ⟨w.heap.size, 2, none⟩ = some (.slice k.la m.list.length k.lc) ∧ v.cell? ⟨u3.heap.size, 0, none⟩ = some (.slice k2.va m.vars.length k2.vc) ∧ v.cell? ⟨u3.heap.size, 1, none⟩ = some (.slice k2.aa m.arrs.length k2.ac) ∧ v.cell? ⟨u3.heap.size, 2, none⟩ = some (.slice k2.la m.list.length k2.lc)) := fun v hv => by
    obtain ⟨⟨f0, f1, f2⟩, _⟩ := HS.out v (HB6.out.trans (hv.mono HB6.out.size))
    have h := HX6.out.below hv HX6.out.lt
    exact ⟨f0, f1, f2, h.c0, h.c1, h.c2⟩
  obtain ⟨f0, f1, f2, q0, q1, q2⟩ := HSQ.out u6 (Below.refl _ _)
  have HWQ : Hid (∀ v, Below u6.heap.size u6 v → CL v m k) := fun v hv => (HS.out _ (HB6.out.trans (hv.mono HB6.out.size))).2.1
  have HC6 : Hid (CL u6 m k2) := HO6.out.cl
  have HBD6 : Hid (Below u6.heap.size u6 u6.drew) := (Below.refl _ _).drew
  clear hb6 HG5 HO5 HX5 HB5 E5
  go_wp2_with fail
  go_region_held3 (fun v => v.cell? ⟨w.heap.size, 0, none⟩ = some (.slice k.va m.vars.length k.vc) ∧ v.cell? ⟨w.heap.size, 1, none⟩ = some (.slice k.aa m.arrs.length k.ac) ∧ v.cell? ⟨w.heap.size, 2, none⟩ = some (.slice k.la m.list.length k.lc) ∧ v.cell? ⟨u3.heap.size, 0, none⟩ = some (.slice k2.va m.vars.length k2.vc) ∧ v.cell? ⟨u3.heap.size, 1, none⟩ = some (.slice k2.aa m.arrs.length k2.ac) ∧ v.cell? ⟨u3.heap.size, 2, none⟩ = some (.slice k2.la m.list.length k2.lc)) (first | assumption | exact ⟨f0, f1, f2, q0, q1, q2⟩)
    (first
    | (go_at_call 13; (with_reducible refine (toC_one m k u6.drew (HWQ.out _ HBD6.out) HMS.out).mono ?_); rintro f u9 ⟨k3, rfl, hm3, hA⟩; have hA2 := HBD6.out.trans hA; have hS1 := HSQ.out _ hA2)
    | (go_at_call 15; (with_reducible refine (eqC_one m m k2 k3 u9 (HC6.out.below hA2) hm3).mono ?_); rintro f u7 ⟨rfl, hE⟩; rw [show decide (m = m) = true from decide_eq_true rfl]; have hB7 := hA2.trans (hE.mono hA2.size); have hS2 := HSQ.out _ hB7)
    | fail)
  have HB7 : Hid (Below u2.heap.size u2 u7) := HB6.out.trans (hB7.mono HB6.out.size)
  have HG7 : Hid (OwBB u7 u4.heap.size gs ga gn gc vs) := HG6.out.later hB7
  have HO7 : Hid (OwnC u7 u2.heap.size m k2) := HO6.out.stand fun g _ hg => hB7.block g hg
  have HX7 : Hid (BoxC u7 u3.heap.size m k2) := HX6.out.below hB7 HX6.out.lt
  obtain ⟨_, _, _, y0, y1, y2⟩ := hS2
  have hs7 := hB7.size
  clear hB7 hA hA2 hE hS1 q0 q1 q2 f0 f1 f2 HSQ HC6 HWQ HG6 HO6 HX6 hm3 HBD6
  -- the marks of the argument
  have MC := Lib.hid (markC_one u2.heap.size m k2 1 u7 HO7.out HB7.out.size HMS.out (by omega) (by omega))
  go_wp2_with fail
  refine MC.out.mono ?_
  rintro f u8 ⟨rfl, _, hb8, hs8, hst8⟩
  have HG8 : Hid (OwBB u8 u4.heap.size gs ga gn gc vs) := HG7.out.far fun g hbg hlt => hst8 g hlt (fun e => by have := LV.out g e; omega) (fun e => by have := LA.out g e; omega) (fun e => by have := LL.out g e; omega)
  have HB8 : Hid (Below u2.heap.size u2 u8) := HB7.out.trans hb8
  obtain ⟨ke, hke⟩ : ∃ ke, mkEnd 1 m = ke := ⟨_, rfl⟩
  have hk1 : ¬ (ke < 0) := by rw [← hke]; unfold mkEnd; omega
  rw [hke]
  clear hb8 hst8 MC HG7 HO7 HX7 y0 y1 y2 hke
  have E8 := Lib.hid (eqBB_sameL gs ga wa gn gn gc wc u8 (HG8.out.bbL hwnl) (HS.out _ HB8.out).2.2.2 HWN.out HWN.out)
  go_wp2_with fail
  refine E8.out.mono ?_
  rintro f u9 ⟨rfl, hb9⟩
  have HG9 : Hid (OwBB u9 u4.heap.size gs ga gn gc vs) := HG8.out.later hb9
  have HB9 : Hid (Below u2.heap.size u2 u9) := HB8.out.trans (hb9.mono HB8.out.size)
  clear hb9 E8 HG8
  -- the marks of the answer
  have M9 := Lib.hid (markBB_one u4.heap.size gn gc ga 1 gs vs u9 HG9.out hwnl HSM.out.2 (by omega) (by omega))
  go_wp2_with fail
  refine M9.out.mono ?_
  rintro f u10 ⟨ps, rfl, hg10, hmk, hb10⟩
  have HG10 := Lib.hid hg10
  have HMK := Lib.hid hmk
  have HB10 : Hid (Below u2.heap.size u2 u10) := HB9.out.trans (hb10.mono hs4)
  clear hg10 hmk hb10 M9 HG9
  have H10 := Lib.hid (heldBB_one gn gc ga 1 gs ps u10 (HG10.out.bbL hwnl) HMK.out HWN.out hwnl HSM.out.2 (by omega) (by omega))
  obtain ⟨sl, hsl⟩ : ∃ sl, sumL gs gn = sl := ⟨_, rfl⟩
  have HSL := Lib.hid hsl
  unfold HeldBB at H10
  rw [hsl] at H10 ⊢
  clear hsl
  go_wp2_with fail
  refine H10.out.mono ?_
  rintro f u11 ⟨rfl, hb11⟩
  have HG11 : Hid (OwBB u11 u4.heap.size ps ga gn gc vs) := HG10.out.later hb11
  have HB11 : Hid (Below u2.heap.size u2 u11) := HB10.out.trans (hb11.mono HB10.out.size)
  have hk2 : ¬ ((1 : Int) + (sl : Int) < 0) := by omega
  obtain ⟨⟨z0, z1, z2⟩, _⟩ := HS.out u11 HB11.out
  clear hb11 H10 HG10
  -- again
  have T11 := Lib.hid (toC_one m k u11 (HS.out _ HB11.out).2.1 HMS.out)
  go_wp2_with fail
  refine T11.out.mono ?_
  rintro f u12 ⟨k4, rfl, hm4, hb12⟩
  have HG12 : Hid (OwBB u12 u4.heap.size ps ga gn gc vs) := HG11.out.later hb12
  have HB12 : Hid (Below u2.heap.size u2 u12) := HB11.out.trans (hb12.mono HB11.out.size)
  have R12 := Lib.hid (iLR_one m k4 u12 hm4 (HS.out _ HB12.out).2.2.1)
  clear hm4 hb12 T11 HG11 z0 z1 z2
  go_wp2_with fail
  refine R12.out.mono ?_
  rintro f u13 ⟨hs, ha, hn, hc, vs', rfl, hhs, hho, hb13⟩
  have hhb := hhs.uniq HBS.out
  subst hhb
  obtain rfl : hn = gn := by rw [← hho.len]; exact HWN.out
  have HG13 : Hid (OwBB u13 u4.heap.size ps ga hn gc vs) := HG12.out.later hb13
  have HB13 : Hid (Below u2.heap.size u2 u13) := HB12.out.trans (hb13.mono HB12.out.size)
  have E13 := Lib.hid (eqBB_sameL hs ha wa hn hn hc wc u13 (hho.bbL hwnl) (HS.out _ HB13.out).2.2.2 HWN.out HWN.out)
  clear hhs hho hb13 R12 HG12
  go_wp2_with fail
  refine E13.out.mono ?_
  rintro f u14 ⟨rfl, hb14⟩
  have HG14 : Hid (OwBB u14 u4.heap.size ps ga hn gc vs) := HG13.out.later hb14
  have HB14 : Hid (Below u2.heap.size u2 u14) := HB13.out.trans (hb14.mono HB13.out.size)
  have H14 := Lib.hid (heldBB_one hn gc ga 1 hs ps u14 (HG14.out.bbL hwnl) HMK.out HWN.out hwnl HSM.out.2 (by omega) (by omega))
  unfold HeldBB at H14
  rw [HSL.out] at H14
  clear hb14 E13 HG13
  go_wp2_with fail
  refine H14.out.mono ?_
  rintro f u15 ⟨rfl, hb15⟩
  have HFIN : Hid (Below w.heap.size w u15) := HBw.out.trans ((HB14.out.trans (hb15.mono HB14.out.size)).mono hs2)
  clear hb15 H14
  go_wp2_with fail
  go_ret
  exact YN.of rfl HFIN.out

end Go.Proofs.YtbifbmpflhdijaaDoor

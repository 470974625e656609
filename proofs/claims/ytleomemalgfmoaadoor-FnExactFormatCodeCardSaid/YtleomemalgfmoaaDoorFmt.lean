/- The model's FormatLabels, walked: for every list it returns the letters of the labels, or the empty text if one number is not a label. -/
import Derived.Test.YtleomemalgfmoaaDoorSl
import Derived.Test.YtleomemalgfmoaaDoorLetB
import Derived.Laws.Concat
import Derived.WalkSpells
import Derived.Outline
namespace Go.Proofs.YtleomemalgfmoaaDoor
open Go.RowKit

def Lok3 (n : Int) : Bool := decide (0 ≤ n) && decide (n ≤ 3)
def let8 (l : Int) : UInt8 := if l = 0 then 76 else if l = 1 then 72 else if l = 2 then 85 else 88
def allOk (xs : List Int) : Bool := xs.all Lok3
def L8 (xs : List Int) : List UInt8 := xs.map let8
def fmtL (xs : List Int) : List UInt8 := if allOk xs then L8 xs else []

theorem Lok3_cases (n : Int) : n = 0 ∨ n = 1 ∨ n = 2 ∨ n = 3 ∨ n < 0 ∨ (0 ≤ n ∧ 3 < n) := by omega
theorem Lok3_lo {n : Int} (h : n < 0) : Lok3 n = false := by unfold Lok3; simp; omega
theorem Lok3_hi {n : Int} (h : 3 < n) : Lok3 n = false := by unfold Lok3; simp; omega

set_option maxHeartbeats 400000 in
theorem sValid_one (n : Int) (w : World) : Calls Tryd.prog 46 #[.int .i64 n] w fun e w' => e = .returned (.bool (Lok3 n)) ∧ w = w' := by
  rcases Lok3_cases n with rfl | rfl | rfl | rfl | h | ⟨h0, h⟩
  all_goals
    try have hd := decide_eq_false (Int.not_le.2 h)
    go_enter Tryd.func46, Tryd.ntmps46
    go_wp2
    go_ret
    refine ⟨?_, rfl⟩
    first | rfl | (simp [Lok3_lo h]) | (simp [Lok3_hi h])

/-- A text; the world has only drawn. -/
def Text (l : List UInt8) (w : World) (e : Ending) (w' : World) : Prop := e = .returned (.string ⟨l.toArray⟩) ∧ ∃ m, w' = w.drewN m

theorem allOk_bad (xs : List Int) (k : Nat) (hk : k < xs.length) (h : Lok3 (xs.getD k 0) = false) : allOk xs = false := by
  unfold allOk
  rw [List.all_eq_false]
  exact ⟨xs[k], List.getElem_mem hk, by have : xs.getD k 0 = xs[k] := by simp [List.getD, hk]
                                        rw [this] at h; simp [h]⟩
theorem allOk_upto {xs : List Int} {k : Nat} (h : allOk (xs.take k) = true) (hk : k < xs.length) (hx : Lok3 (xs.getD k 0) = true) : allOk (xs.take (k + 1)) = true := by
  have e : xs.getD k 0 = xs[k] := by simp [List.getD, hk]
  rw [e] at hx
  unfold allOk at *
  rw [List.take_succ_eq_append_getElem hk, List.all_append, h]
  simp [hx]
theorem L8_snoc (xs : List Int) (k : Nat) (hk : k < xs.length) : L8 (xs.take (k + 1)) = L8 (xs.take k) ++ [let8 (xs.getD k 0)] := by
  have e : xs.getD k 0 = xs[k] := by simp [List.getD, hk]
  unfold L8
  rw [List.take_succ_eq_append_getElem hk, e, List.map_append]; rfl

theorem cat_bytes (l : List UInt8) (b : ByteArray) (c : UInt8) (h : b = ⟨#[c]⟩) : (⟨l.toArray⟩ : ByteArray) ++ b = ⟨(l ++ [c]).toArray⟩ := by
  subst h
  apply ByteArray.ext
  simp
theorem cut_lhux : (({ data := #[76, 72, 85, 88] } : ByteArray).extract 0 1 = ⟨#[76]⟩) ∧ (({ data := #[76, 72, 85, 88] } : ByteArray).extract 1 2 = ⟨#[72]⟩) ∧ (({ data := #[76, 72, 85, 88] } : ByteArray).extract 2 3 = ⟨#[85]⟩) ∧ (({ data := #[76, 72, 85, 88] } : ByteArray).extract 3 4 = ⟨#[88]⟩) := by decide

set_option maxHeartbeats 1000000 in
theorem sFormat_one (a : Option Addr) (n cap : Nat) (xs : List Int) (w : World) (h : SliceI w a n xs) (hn : n ≤ 1099511627776) :
    Calls Tryd.prog 32 #[.slice a n cap] w (Text (fmtL xs) w) := by
  obtain ⟨hm, hl, hc⟩ := h
  have HL := Lib.hid hl
  have HC := Lib.hid hc
  clear hm hl hc
  go_enter Tryd.func32, Tryd.ntmps32
  go_wp2_with fail
  go_loopw [3, 4] (fun o i wr => ∃ k m : Nat, k ≤ n ∧ i = .int .i64 k ∧ o = .string ⟨(L8 (xs.take k)).toArray⟩ ∧ Hid (allOk (xs.take k) = true) ∧ wr = w.drewN m) (fun _ i _ => n - (intOf i).toNat)
  case atStart => exact ⟨0, 0, Nat.zero_le _, rfl, rfl, rfl, rfl⟩
  case round =>
    obtain ⟨k, m, hk, rfl, rfl, HA, rfl⟩ := hrel
    by_cases hlt : k < n
    · obtain ⟨b, o, rfl, hcell⟩ := HC.out k hlt
      clear HC
      obtain ⟨x, hx⟩ : ∃ x, xs.getD k 0 = x := ⟨_, rfl⟩
      rw [hx] at hcell
      have HX := Lib.hid hx
      clear hx
      cases hv : Lok3 x
      case false =>
        have HF := Lib.hid (allOk_bad xs k (by rw [HL.out]; exact hlt) (by rw [HX.out]; exact hv))
        go_wp2_with (go_at_call 46; refine (sValid_one _ _).mono ?_; rintro e w2 ⟨rfl, rfl⟩)
        go_ret
        refine ⟨?_, _, rfl⟩
        have e : fmtL xs = [] := by unfold fmtL; rw [HF.out]; rfl
        rw [e]; rfl
      case true =>
        have HA2 : Hid (allOk (xs.take (k + 1)) = true) := allOk_upto HA.out (by rw [HL.out]; exact hlt) (by rw [HX.out]; exact hv)
        have HS : Hid (L8 (xs.take (k + 1)) = L8 (xs.take k) ++ [let8 x]) := by rw [← HX.out]; exact L8_snoc xs k (by rw [HL.out]; exact hlt)
        have h4 : x = 0 ∨ x = 1 ∨ x = 2 ∨ x = 3 := by unfold Lok3 at hv; simp at hv; omega
        have hle : (L8 (xs.take k)).length ≤ 1099511627776 := by unfold L8; rw [List.length_map]; exact Nat.le_trans (List.length_take_le _ _) (by omega)
        have q1 : IntKind.i64.wrap 1 = 1 := by decide
        have q2 : IntKind.i64.wrap 2 = 2 := by decide
        have q3 : IntKind.i64.wrap 3 = 3 := by decide
        have q4 : IntKind.i64.wrap 4 = 4 := by decide
        rcases h4 with rfl | rfl | rfl | rfl
        all_goals
          go_wp2_with (go_at_call 46; refine (sValid_one _ _).mono ?_; rintro e w2 ⟨rfl, rfl⟩)
          go_quiet (fail)
          go_wp2
          go_roundw
          case rel => exact ⟨k + 1, _, by omega, by go_num, by rw [HS.out]; exact congrArg Value.string (cat_bytes _ _ _ (by decide)), HA2.out, rfl⟩
          case measure => simp [intOf]; omega
    · obtain rfl : k = n := by omega
      have HE : Hid (xs.take k = xs) := List.take_of_length_le (by rw [HL.out]; exact Nat.le_refl _)
      clear HC
      go_wp2
      go_ret
      have e1 := HA.out
      rw [HE.out] at e1
      refine ⟨?_, _, rfl⟩
      have e2 : fmtL xs = L8 (xs.take k) := by unfold fmtL; rw [e1, HE.out]; rfl
      rw [e2]; rfl
end Go.Proofs.YtleomemalgfmoaaDoor

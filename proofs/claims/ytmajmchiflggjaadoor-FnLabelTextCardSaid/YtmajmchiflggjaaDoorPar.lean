/- The model's ParseLabels, walked: for every string of at most 2^20 bytes it returns, in a new row, the labels of the letters, and whether all are letters of labels; nothing that was there has changed. -/
import Derived.Test.YtmajmchiflggjaaDoorSl
import Derived.Test.YtmajmchiflggjaaDoorLet
import Derived.Maps.AppendAt
namespace Go.Proofs.YtmajmchiflggjaaDoor
open Go.RowKit

def Labs (l : List UInt8) : List Int := l.map fun c => Lett (c.toNat : Int)
def parseOk (l : List UInt8) : Bool := l.all fun c => decide (0 ≤ Lett (c.toNat : Int))
def parseL (l : List UInt8) : List Int := if parseOk l then Labs l else []

theorem take_snoc (s : ByteArray) (k : Nat) (h : k < s.size) : s.data.toList.take (k + 1) = s.data.toList.take k ++ [s[k]] := by
  rw [List.take_succ_eq_append_getElem (by simpa using h)]; rfl
theorem Labs_snoc (s : ByteArray) (k : Nat) (h : k < s.size) : Labs (s.data.toList.take (k + 1)) = Labs (s.data.toList.take k) ++ [Lett (s[k].toNat : Int)] := by
  rw [take_snoc s k h]; simp [Labs]
theorem parseOk_snoc (s : ByteArray) (k : Nat) (h : k < s.size) : parseOk (s.data.toList.take (k + 1)) = (parseOk (s.data.toList.take k) && decide (0 ≤ Lett (s[k].toNat : Int))) := by
  rw [take_snoc s k h]; simp [parseOk]
theorem parseOk_bad (s : ByteArray) (k : Nat) (h : k < s.size) (hb : Lett (s[k].toNat : Int) < 0) : parseOk s.data.toList = false := by
  unfold parseOk
  rw [List.all_eq_false]
  exact ⟨s[k], by simp [ByteArray.getElem_eq_getElem_data], by simp; omega⟩

/-- What parsing a text gives. -/
def Parsed (l : List UInt8) (w : World) (e : Ending) (w' : World) : Prop := ∃ v, e = .returned (.tuple #[v, .bool (parseOk l)]) ∧ OwnI w' w.heap.size v (parseL l) ∧ Below w.heap.size w w'

theorem OwnI.made (w : World) (base : Nat) (hb : base ≤ w.heap.size) : OwnI (w.alloc (.cells #[] 3)) base (.slice (some ⟨w.heap.size, 0, none⟩) 0 0) [] :=
  World.ownsRow_made w #[] 0 hb (by unfold maxLen; omega) rfl

theorem parsed_ok {l : List UInt8} (h : parseOk l = true) : parseL l = Labs l := by unfold parseL; rw [h]; rfl
theorem parsed_no {l : List UInt8} (h : parseOk l = false) : parseL l = [] := by unfold parseL; rw [h]; rfl
theorem ret_two {v : Value} {b c : Bool} (h : b = c) : Ending.returned (.tuple #[v, .bool b]) = .returned (.tuple #[v, .bool c]) := by rw [h]

set_option maxHeartbeats 1000000 in
theorem sParse_one (s : ByteArray) (w : World) (hs : s.size ≤ 1048576) : Calls Tryd.prog 12 #[.string s] w (Parsed s.data.toList w) := by
  obtain ⟨i0, hi, hz0, hz1, hz2⟩ := info_parts Tryd.infoI
  go_enter Tryd.func12, Tryd.ntmps12
  go_wp2_with fail
  go_loopw [4, 5] (fun u i wr => ∃ (v : Value) (k : Nat), v = u ∧ k ≤ s.size ∧ i = .int .i64 k ∧ OwnI wr w.heap.size v (Labs (s.data.toList.take k)) ∧ parseOk (s.data.toList.take k) = true ∧ Below w.heap.size w wr) (fun _ i _ => s.size - (intOf i).toNat)
  case atStart => exact ⟨_, 0, rfl, Nat.zero_le _, rfl, OwnI.made w _ (Nat.le_refl _), rfl, (Below.refl _ _).alloc (Nat.le_refl _) _⟩
  case round =>
    obtain ⟨v, k, rfl, hk, rfl, hO, hP, hb⟩ := hrel
    have HP := Lib.hid hP
    have HB := Lib.hid hb
    have hle : (Labs (s.data.toList.take k)).length ≤ k := by simp [Labs]; omega
    clear hP hb
    by_cases hlt : k < s.size
    · by_cases hx : Lett (s[k].toNat : Int) < 0
      · have HF := Lib.hid (parseOk_bad s k hlt hx)
        clear hO
        go_wp2_with (go_at_call 28; refine (sLabel_one _ _).mono ?_; rintro e w2 ⟨rfl, rfl⟩)
        go_ret2
        exact ⟨_, ret_two HF.out.symm, by rw [parsed_no HF.out]; exact OwnI.made wr _ HB.out.size, HB.out.alloc HB.out.size _⟩
      · have HX : Hid (Labs (s.data.toList.take (k + 1)) = Labs (s.data.toList.take k) ++ [Lett (s[k].toNat : Int)]) := Labs_snoc s k hlt
        have HQ : Hid (parseOk (s.data.toList.take (k + 1)) = true) := by
          have := parseOk_snoc s k hlt
          rw [HP.out] at this
          rw [show Hid (parseOk (s.data.toList.take (k + 1)) = true) = (parseOk (s.data.toList.take (k + 1)) = true) from rfl, this]
          simp; omega
        have hsz := HB.out.size
        have hrow : wr.ownsRow w.heap.size 3 1 v (Labs (s.data.toList.take k)).length ((Labs (s.data.toList.take k)).map (Value.int .i64)) := hO
        clear hO
        go_wp2_with (first | (go_at_call 28; refine (sLabel_one _ _).mono ?_; rintro e w2 ⟨rfl, rfl⟩) | (at_builtin; refine wpList_append_own _ rfl _ _ 23 rfl w.heap.size 3 i0 (.int .i64 0) 1 8 Tryd.underlying23 hi hz0 hz1 hz2 rfl (by decide) _ _ _ rfl (hrow.alloc _) ⟨wr.heap.size, 0, none⟩ 1 1 [.int .i64 (Lett (s[k].toNat : Int))] rfl rfl (cell_one_new _ _ _) (by simp [Value.oneCell']) (by unfold maxLen; omega) (by omega) (by simp; omega) ?_; intro v' w1 hown' hgrow _))
        have HO2 : Hid (OwnI w1 w.heap.size v' (Labs (s.data.toList.take (k + 1)))) := by
          have e := HX.out
          unfold OwnI
          rw [show Hid (w1.ownsRow w.heap.size 3 1 v' (Labs (s.data.toList.take (k + 1))).length ((Labs (s.data.toList.take (k + 1))).map (Value.int .i64))) = (w1.ownsRow w.heap.size 3 1 v' (Labs (s.data.toList.take (k + 1))).length ((Labs (s.data.toList.take (k + 1))).map (Value.int .i64))) from rfl, e]
          simpa using hown'
        have HB2 : Hid (Below w.heap.size w w1) := (HB.out.alloc hsz _).grown hgrow (by simp; omega) (fun j e => (World.ownsRow.lt hrow j e).1)
        clear hrow hown' hgrow HB
        go_wp2
        go_roundw
        case rel => exact ⟨_, k + 1, rfl, by omega, by go_num, HO2.out, HQ.out, HB2.out⟩
        case measure => simp [intOf]; omega
    · obtain rfl : k = s.size := by omega
      have HE : Hid (s.data.toList.take s.size = s.data.toList) := List.take_of_length_le (by simp)
      have HO := Lib.hid hO
      clear hO
      go_wp2_with fail
      go_ret2
      have e1 := HE.out
      have e2 := HP.out
      have e3 := HO.out
      rw [e1] at e2 e3
      exact ⟨_, ret_two e2.symm, by rw [parsed_ok e2]; exact e3, HB.out⟩
end Go.Proofs.YtmajmchiflggjaaDoor

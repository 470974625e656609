/- spec.l17Dec, walked: at every number from 0 to 4096 it returns the decimal digits; nothing that was there has changed. -/
import Derived.Test.YtleomemalgfmoaaDoorProg
import Derived.WalkKit
import Derived.Below
import Derived.BigQuiet
import Derived.Deep.QuietTactic
import Derived.IntWalk
import Derived.Lib.Hide
import Derived.OwnWalk
import Derived.KernelRfl
import Derived.Deep.Slices
import Derived.Deep.Fields
import Derived.Laws.OwnMore
import Derived.Laws.IdiomStrings
import Derived.Laws.Concat
import Derived.WalkSpells
import Derived.Lib.ItoaNum
import Derived.Lib.ItoaMem
import Derived.Outline
namespace Go.Proofs.YtleomemalgfmoaaDoor
open Go.RowKit
set_option linter.unusedVariables false

/-- A text; nothing that was there has changed. -/
def Txt (l : List UInt8) (w : World) (e : Ending) (w' : World) : Prop := e = .returned (.string ⟨l.toArray⟩) ∧ Below w.heap.size w w'

theorem cat_arr (l m : List UInt8) : (⟨l.toArray⟩ : ByteArray) ++ ⟨m.toArray⟩ = ⟨(l ++ m).toArray⟩ := by
  apply ByteArray.ext
  simp

/-- One byte, made a text. -/
theorem conv_byte (w : World) (z : Int) (h0 : 0 ≤ z) (h1 : z < 256) :
    (convert 68 9 (.slice (some ⟨w.heap.size, 0, none⟩) 1 1)).run Tryd.prog (w.alloc (.cells #[.int .u8 z] 5)) = .ok (.string ⟨[UInt8.ofNat z.toNat].toArray⟩) (w.alloc (.cells #[.int .u8 z] 5)) := by
  refine run_convert_bytes_back (P := Tryd.prog) _ _ _ 5 ⟨w.heap.size, 0, none⟩ 1 [UInt8.ofNat z.toNat] Tryd.underlying68 Tryd.underlying5 Tryd.underlying9 fun j hj => ?_
  have hj0 : j = 0 := by simp at hj; omega
  subst hj0
  have e : ((UInt8.ofNat z.toNat).toNat : Int) = z := by
    rw [UInt8.toNat_ofNat_of_lt' (by simp [UInt8.size]; omega)]; omega
  show (w.alloc (.cells #[.int .u8 z] 5)).cell? ((⟨w.heap.size, 0, none⟩ : Addr).add 0) = _
  rw [show (⟨w.heap.size, 0, none⟩ : Addr).add 0 = ⟨w.heap.size, 0, none⟩ from by simp [Addr.add], cell_of_row _ _ _ _ _ _ (heap_alloc_new w _)]
  show some (Value.int .u8 z) = some (Value.int .u8 ((UInt8.ofNat z.toNat).toNat : Int))
  rw [e]

set_option maxRecDepth 100000 in
set_option maxHeartbeats 2000000 in
theorem l17Dec_one (n : Nat) (hn : n ≤ 4096) (w : World) : Calls Tryd.prog 59 #[.int .i64 n] w (Txt (Lib.decDigits n) w) := by
  go_enter Tryd.func59, Tryd.ntmps59
  go_wp2_with fail
  go_loopw [0, 3] (fun a o wr => ∃ m : Nat, ∃ out : List UInt8, m ≤ n ∧ a = .int .i64 m ∧ o = .string ⟨out.toArray⟩ ∧ out.length + m ≤ n ∧ Hid (Lib.decDigits n = Lib.decDigits m ++ out) ∧ Below w.heap.size w wr) (fun a _ _ => (intOf a).toNat)
  case atStart => exact ⟨n, [], Nat.le_refl _, rfl, rfl, by simp, by show Lib.decDigits n = Lib.decDigits n ++ []; simp, Below.refl _ _⟩
  case round =>
    obtain ⟨m, out, hm, rfl, rfl, hol, HD, hB⟩ := hrel
    have HB := Lib.hid hB
    clear hB
    by_cases h9 : m < 10
    · have hd : Lib.decDigits m = [UInt8.ofNat (48 + m)] := by rw [Lib.decDigits, dif_pos h9]
      have HE : Hid (Lib.decDigits n = UInt8.ofNat (48 + m) :: out) := by
        have : Lib.decDigits n = UInt8.ofNat (48 + m) :: out := by rw [HD.out, hd]; rfl
        exact this
      have HB2 : Hid (Below w.heap.size w (wr.alloc (.cells #[.int .u8 (48 + (m : Int))] 5))) := HB.out.alloc HB.out.size _
      have hcb := conv_byte wr (48 + (m : Int)) (by omega) (by omega)
      rw [show (48 + (m : Int)).toNat = 48 + m by omega] at hcb
      obtain ⟨c, hc⟩ : ∃ c, UInt8.ofNat (48 + m) = c := ⟨_, rfl⟩
      rw [hc] at hcb HE
      clear hd HD hc
      go_wp2_with fail
      go_ret
      refine ⟨?_, HB2.out⟩
      rw [HE.out, cat_arr]; rfl
    · obtain ⟨q, hq⟩ : ∃ q, m / 10 = q := ⟨_, rfl⟩
      obtain ⟨r, hr⟩ : ∃ r, m % 10 = r := ⟨_, rfl⟩
      have hr10 : r < 10 := by omega
      have hm10 : m = 10 * q + r := by omega
      have e1 : (m : Int) % 10 = (r : Int) := by omega
      have e2 : (m : Int) / 10 = (q : Int) := by omega
      have HM := Lib.hid hm10
      have hd : Lib.decDigits m = Lib.decDigits q ++ [UInt8.ofNat (48 + r)] := by rw [Lib.decDigits, dif_neg h9, hq, hr]
      have HE : Hid (Lib.decDigits n = Lib.decDigits q ++ (UInt8.ofNat (48 + r) :: out)) := by
        have : Lib.decDigits n = Lib.decDigits q ++ (UInt8.ofNat (48 + r) :: out) := by rw [HD.out, hd]; simp
        exact this
      have HB2 : Hid (Below w.heap.size w (wr.alloc (.cells #[.int .u8 (48 + (r : Int))] 5))) := HB.out.alloc HB.out.size _
      have hcb := conv_byte wr (48 + (r : Int)) (by omega) (by omega)
      rw [show (48 + (r : Int)).toNat = 48 + r by omega] at hcb
      have hgt : decide ((9 : Int) < (m : Int)) = true := by simp; omega
      obtain ⟨c, hc⟩ : ∃ c, UInt8.ofNat (48 + r) = c := ⟨_, rfl⟩
      rw [hc] at hcb HE
      clear hd HD hq hr hc hm10
      go_wp2_with fail
      go_roundw
      case rel => exact ⟨q, c :: out, by have := HM.out; omega, by go_num, by rw [cat_arr]; rfl, by have := HM.out; simp; omega, HE.out, HB2.out⟩
      case measure => have := HM.out; simp [intOf]; omega

end Go.Proofs.YtleomemalgfmoaaDoor

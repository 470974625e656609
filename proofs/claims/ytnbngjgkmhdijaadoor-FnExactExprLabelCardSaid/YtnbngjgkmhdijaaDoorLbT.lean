/- math/bits.TrailingZeros at sets of places: the number of the lowest bit. Condition: the table of the library lies as the program's text lays it. -/
import Derived.Test.YtnbngjgkmhdijaaDoorLbM
import Derived.Test.YtnbngjgkmhdijaaDoorImF
import Derived.Laws.BitsAllLaws
namespace Go.Proofs.YtnbngjgkmhdijaaDoor
open Go.RowKit
set_option linter.unusedVariables false

def dbTab : List Int := [0, 1, 56, 2, 57, 49, 28, 3, 61, 58, 42, 50, 38, 29, 17, 4, 62, 47, 59, 36, 45, 43, 51, 22, 53, 39, 33, 30, 24, 18, 12, 5, 63, 55, 48, 27, 60, 41, 37, 16, 46, 35, 44, 21, 52, 32, 23, 11, 54, 26, 40, 15, 34, 20, 31, 10, 25, 14, 19, 9, 13, 8, 7, 6]
def dbCells : Array Value := (dbTab.map fun z => Value.int .u8 z).toArray
/-- The table of the library lies as it was laid. -/
def TblB (w : World) : Prop := ∃ (t : TypeId) (fr : Nat × Nat), w.heap[(2 : Nat)]? = some (.cells dbCells t fr)
theorem TblB.cell {w : World} (h : TblB w) (i : Nat) : w.cell? ⟨2, i, none⟩ = dbCells[i]? := by
  obtain ⟨t, fr, h⟩ := h
  simp [World.cell?, h]
theorem TblB.lt {w : World} (h : TblB w) : 2 < w.heap.size := by
  obtain ⟨t, fr, hg⟩ := h
  exact (Array.getElem?_eq_some_iff.1 hg).1
theorem TblB.stand {A B : World} (h : TblB A) (hb : B.heap[(2 : Nat)]? = A.heap[(2 : Nat)]?) : TblB B := by
  obtain ⟨t, fr, hg⟩ := h
  exact ⟨t, fr, hb.trans hg⟩
theorem TblB.below {n : Nat} {A B : World} (h : TblB A) (hb : Below n A B) (hn : 2 < n) : TblB B := h.stand (hb.block _ hn)

theorem lowN_cases {s : Nat} (h0 : 0 < s) (h : s < 16384) : lowN s = 0 ∨ lowN s = 1 ∨ lowN s = 2 ∨ lowN s = 3 ∨ lowN s = 4 ∨ lowN s = 5 ∨ lowN s = 6 ∨ lowN s = 7 ∨ lowN s = 8 ∨ lowN s = 9 ∨ lowN s = 10 ∨ lowN s = 11 ∨ lowN s = 12 ∨ lowN s = 13 := by
  have := (low_ok h0 h).1
  omega

theorem ofInt_u64 (a : Nat) (ha : a < 18446744073709551616) : (BitVec.ofInt 64 (a : Int)).toNat = a := by
  rw [BitVec.ofInt_natCast, BitVec.toNat_ofNat]; exact Nat.mod_eq_of_lt (by omega)
theorem u64_and_nat (a b : Nat) (ha : a < 18446744073709551616) (hb : b < 18446744073709551616) : bits .and .u64 (a : Int) (b : Int) = ((a &&& b : Nat) : Int) := by
  have hx : a &&& b < 2 ^ 64 := Nat.and_lt_two_pow _ (by omega)
  show IntKind.u64.wrap ((BitVec.ofInt 64 (a : Int) &&& BitVec.ofInt 64 (b : Int)).toNat : Int) = _
  rw [BitVec.toNat_and, ofInt_u64 a ha, ofInt_u64 b hb, IntKind.wrap_u64]
  omega
theorem u64_or_nat (a b : Nat) (ha : a < 18446744073709551616) (hb : b < 18446744073709551616) : bits .or .u64 (a : Int) (b : Int) = ((a ||| b : Nat) : Int) := by
  have hx : a ||| b < 2 ^ 64 := Nat.or_lt_two_pow (by omega) (by omega)
  show IntKind.u64.wrap ((BitVec.ofInt 64 (a : Int) ||| BitVec.ofInt 64 (b : Int)).toNat : Int) = _
  rw [BitVec.toNat_or, ofInt_u64 a ha, ofInt_u64 b hb, IntKind.wrap_u64]
  omega
theorem low_and_u64 {s : Nat} (h0 : 0 < s) (h : s < 16384) : bits .and .u64 (s : Int) (IntKind.u64.wrap (-(s : Int))) = ((2 ^ lowN s : Nat) : Int) := by
  have e : IntKind.u64.wrap (-(s : Int)) = ((18446744073709551616 - s : Nat) : Int) := by rw [IntKind.wrap_u64]; omega
  rw [e, u64_and_nat _ _ (by omega) (by omega), (low_ok h0 h).2.1]

theorem tz64_ix {s i x : Nat} (h0 : 0 < s) (h : s < 16384) (hi : lowN s = i) (hx : 2 ^ i * 285870213051353865 % 18446744073709551616 / 288230376151711744 = x) : IntKind.u64.wrap (bits BinOp.and IntKind.u64 (s : Int) (IntKind.u64.wrap (-(s : Int))) * 285870213051353865) / 288230376151711744 = (x : Int) := by
  rw [low_and_u64 h0 h, hi, IntKind.wrap_u64]
  have e : ((2 ^ i : Nat) : Int) * 285870213051353865 = ((2 ^ i * 285870213051353865 : Nat) : Int) := by rw [Int.natCast_mul]; rfl
  rw [e]
  generalize 2 ^ i * 285870213051353865 = z at hx ⊢
  omega

set_option maxHeartbeats 4000000 in
theorem tz64_one (s : Nat) (w : World) (hB : TblB w) (h0 : 0 < s) (h : s < 16384) :
    Calls Tryd.prog 59 #[.int .u64 (s : Int)] w fun e w' => e = .returned (.int .i64 (lowN s : Int)) ∧ w' = w := by
  have hs : ((s : Int) == 0) = false := by simp; omega
  rcases lowN_cases h0 h with hi | hi | hi | hi | hi | hi | hi | hi | hi | hi | hi | hi | hi | hi
  · have hix := tz64_ix h0 h hi (x := 0) rfl
    have hx : w.cell? ⟨2, 0, none⟩ = some (.int .u8 0) := hB.cell 0
    rw [hi]
    clear hi hB
    simp only [Int.cast_ofNat_Int] at hix
    go_enter Tryd.func59, Tryd.ntmps59
    go_wp2_with fail
    go_ret
    exact ⟨rfl, rfl⟩
  · have hix := tz64_ix h0 h hi (x := 1) rfl
    have hx : w.cell? ⟨2, 1, none⟩ = some (.int .u8 1) := hB.cell 1
    rw [hi]
    clear hi hB
    simp only [Int.cast_ofNat_Int] at hix
    go_enter Tryd.func59, Tryd.ntmps59
    go_wp2_with fail
    go_ret
    exact ⟨rfl, rfl⟩
  · have hix := tz64_ix h0 h hi (x := 3) rfl
    have hx : w.cell? ⟨2, 3, none⟩ = some (.int .u8 2) := hB.cell 3
    rw [hi]
    clear hi hB
    simp only [Int.cast_ofNat_Int] at hix
    go_enter Tryd.func59, Tryd.ntmps59
    go_wp2_with fail
    go_ret
    exact ⟨rfl, rfl⟩
  · have hix := tz64_ix h0 h hi (x := 7) rfl
    have hx : w.cell? ⟨2, 7, none⟩ = some (.int .u8 3) := hB.cell 7
    rw [hi]
    clear hi hB
    simp only [Int.cast_ofNat_Int] at hix
    go_enter Tryd.func59, Tryd.ntmps59
    go_wp2_with fail
    go_ret
    exact ⟨rfl, rfl⟩
  · have hix := tz64_ix h0 h hi (x := 15) rfl
    have hx : w.cell? ⟨2, 15, none⟩ = some (.int .u8 4) := hB.cell 15
    rw [hi]
    clear hi hB
    simp only [Int.cast_ofNat_Int] at hix
    go_enter Tryd.func59, Tryd.ntmps59
    go_wp2_with fail
    go_ret
    exact ⟨rfl, rfl⟩
  · have hix := tz64_ix h0 h hi (x := 31) rfl
    have hx : w.cell? ⟨2, 31, none⟩ = some (.int .u8 5) := hB.cell 31
    rw [hi]
    clear hi hB
    simp only [Int.cast_ofNat_Int] at hix
    go_enter Tryd.func59, Tryd.ntmps59
    go_wp2_with fail
    go_ret
    exact ⟨rfl, rfl⟩
  · have hix := tz64_ix h0 h hi (x := 63) rfl
    have hx : w.cell? ⟨2, 63, none⟩ = some (.int .u8 6) := hB.cell 63
    rw [hi]
    clear hi hB
    simp only [Int.cast_ofNat_Int] at hix
    go_enter Tryd.func59, Tryd.ntmps59
    go_wp2_with fail
    go_ret
    exact ⟨rfl, rfl⟩
  · have hix := tz64_ix h0 h hi (x := 62) rfl
    have hx : w.cell? ⟨2, 62, none⟩ = some (.int .u8 7) := hB.cell 62
    rw [hi]
    clear hi hB
    simp only [Int.cast_ofNat_Int] at hix
    go_enter Tryd.func59, Tryd.ntmps59
    go_wp2_with fail
    go_ret
    exact ⟨rfl, rfl⟩
  · have hix := tz64_ix h0 h hi (x := 61) rfl
    have hx : w.cell? ⟨2, 61, none⟩ = some (.int .u8 8) := hB.cell 61
    rw [hi]
    clear hi hB
    simp only [Int.cast_ofNat_Int] at hix
    go_enter Tryd.func59, Tryd.ntmps59
    go_wp2_with fail
    go_ret
    exact ⟨rfl, rfl⟩
  · have hix := tz64_ix h0 h hi (x := 59) rfl
    have hx : w.cell? ⟨2, 59, none⟩ = some (.int .u8 9) := hB.cell 59
    rw [hi]
    clear hi hB
    simp only [Int.cast_ofNat_Int] at hix
    go_enter Tryd.func59, Tryd.ntmps59
    go_wp2_with fail
    go_ret
    exact ⟨rfl, rfl⟩
  · have hix := tz64_ix h0 h hi (x := 55) rfl
    have hx : w.cell? ⟨2, 55, none⟩ = some (.int .u8 10) := hB.cell 55
    rw [hi]
    clear hi hB
    simp only [Int.cast_ofNat_Int] at hix
    go_enter Tryd.func59, Tryd.ntmps59
    go_wp2_with fail
    go_ret
    exact ⟨rfl, rfl⟩
  · have hix := tz64_ix h0 h hi (x := 47) rfl
    have hx : w.cell? ⟨2, 47, none⟩ = some (.int .u8 11) := hB.cell 47
    rw [hi]
    clear hi hB
    simp only [Int.cast_ofNat_Int] at hix
    go_enter Tryd.func59, Tryd.ntmps59
    go_wp2_with fail
    go_ret
    exact ⟨rfl, rfl⟩
  · have hix := tz64_ix h0 h hi (x := 30) rfl
    have hx : w.cell? ⟨2, 30, none⟩ = some (.int .u8 12) := hB.cell 30
    rw [hi]
    clear hi hB
    simp only [Int.cast_ofNat_Int] at hix
    go_enter Tryd.func59, Tryd.ntmps59
    go_wp2_with fail
    go_ret
    exact ⟨rfl, rfl⟩
  · have hix := tz64_ix h0 h hi (x := 60) rfl
    have hx : w.cell? ⟨2, 60, none⟩ = some (.int .u8 13) := hB.cell 60
    rw [hi]
    clear hi hB
    simp only [Int.cast_ofNat_Int] at hix
    go_enter Tryd.func59, Tryd.ntmps59
    go_wp2_with fail
    go_ret
    exact ⟨rfl, rfl⟩

theorem tz_one (s : Nat) (w : World) (hB : TblB w) (h0 : 0 < s) (h : s < 16384) :
    Calls Tryd.prog 48 #[.int .u64 (s : Int)] w fun e w' => e = .returned (.int .i64 (lowN s : Int)) ∧ w' = w := by
  have HC := Lib.hid (tz64_one s w hB h0 h)
  go_enter Tryd.func48, Tryd.ntmps48
  go_wp2_with fail
  refine HC.out.mono ?_
  rintro f w1 ⟨rfl, rfl⟩
  go_wp2_with fail
  go_ret
  exact ⟨rfl, rfl⟩

end Go.Proofs.YtnbngjgkmhdijaaDoor

/- The program's writers of expressions, walked: writeExpr appends the text of a valid expression to a builder of the call's own; every block below the call's own stands, and so does every block that is neither the builder's nor a row of bytes. Condition: the table of operators and the library's table of powers lie as the program's text lays them. -/
import Derived.Test.YtomgnnhbabnckaaDoorTxE
import Derived.Test.YtomgnnhbabnckaaDoorBldS
import Derived.Test.YtomgnnhbabnckaaDoorTreeP
import Derived.Test.YtomgnnhbabnckaaDoorSpX
import Derived.Deep.RegionHeld3
import Derived.Lib.AppendIntMem
import Derived.Lib.BufferOwn
import Derived.Lib.ItoaMem
namespace Go.Proofs.YtomgnnhbabnckaaDoor
open Go.RowKit Go.Shelf
set_option linter.unusedVariables false

abbrev IsB (B b : Nat) (l : List UInt8) (w : World) : Prop := Lib.IsBuilderF 74 5 B b (Lib.byteCells l) w

theorem isB_kept {W W' : World} {B b : Nat} {l : List UInt8} (h : IsB B b l W) (hg : W.grownBy W' none) : IsB B b l W' := by
  have key : ∀ p, Lib.BuilderAtF 74 5 B b p (Lib.byteCells l) W → Lib.BuilderAtF 74 5 B b p (Lib.byteCells l) W' := by
    rintro p ⟨hB, v, hb, hown, hne⟩
    have hlt : b < W.heap.size := (Array.getElem?_eq_some_iff.1 hb).1
    refine ⟨hB, v, ?_, hown.kept hg ?_, hne⟩
    · exact (hg.block b hlt fun e => by cases e).trans hb
    · cases hv : v.ownBlock with
      | none => exact .inl rfl
      | some g => exact .inr fun e => by cases e
  exact h.elim (fun x => .inl (key _ x)) (fun x => .inr (key _ x))
theorem isB_lt {W : World} {B b : Nat} {l : List UInt8} (h : IsB B b l W) : B ≤ b ∧ b < W.heap.size := by
  rcases h with ⟨h0, v, hb, _⟩ | ⟨h0, v, hb, _⟩ <;> exact ⟨h0, (Array.getElem?_eq_some_iff.1 hb).1⟩
theorem grown_refl (w : World) : w.grownBy w none := ⟨rfl, rfl, rfl, Nat.le_refl _, fun _ _ _ => rfl⟩
theorem kept_below {W W' : World} {b : Nat} (hb : Below W.heap.size W W') : Lib.OthersKept 5 (some b) W W' := fun k o hk _ _ => (hb.block k (Array.getElem?_eq_some_iff.1 hk).1).trans hk

/-- The text l has been added to the builder. -/
def Wr (B b : Nat) (bs l : List UInt8) (w : World) (e : Ending) (w' : World) : Prop := e = .returned (.tuple #[]) ∧ IsB B b (bs ++ l) w' ∧ Below B w w' ∧ Lib.OthersKept 5 (some b) w w'

theorem wByte (B b : Nat) (bs : List UInt8) (c : UInt8) (w : World) (h : IsB B b bs w) (hlen : bs.length ≤ 1000000) (hBw : B ≤ w.heap.size) :
    Calls Tryd.prog 70 #[.pointer (some ⟨b, 0, none⟩), .int .u8 (c.toNat : Int)] w fun e w' => e = .returned .nilIface ∧ IsB B b (bs ++ [c]) w' ∧ Below B w w' ∧ Lib.OthersKept 5 (some b) w w' :=
  (writeByte_k B b (Lib.byteCells bs) (c.toNat : Int) w h (by rw [Lib.byteCells_length]; omega) hBw).mono fun e w' ⟨h1, h2, h3, h4⟩ => ⟨h1, by unfold IsB; rw [Lib.byteCells_append]; exact .inr h2, h3, h4⟩
theorem wStr (B b : Nat) (bs l : List UInt8) (w : World) (h : IsB B b bs w) (hlen : bs.length ≤ 1000000) (hl : l.length ≤ 1000000) (hBw : B ≤ w.heap.size) :
    Calls Tryd.prog 68 #[.pointer (some ⟨b, 0, none⟩), .string ⟨l.toArray⟩] w fun e w' => e = .returned (.tuple #[.int .i64 (l.length : Int), .nilIface]) ∧ IsB B b (bs ++ l) w' ∧ Below B w w' ∧ Lib.OthersKept 5 (some b) w w' :=
  (writeString_k B b (Lib.byteCells bs) ⟨l.toArray⟩ w h (by rw [Lib.byteCells_length]; simp [ByteArray.size]; omega) hBw).mono fun e w' ⟨h1, h2, h3, h4⟩ => ⟨by rw [h1]; simp [ByteArray.size], by unfold IsB; rw [Lib.byteCells_append, ← Lib.strCells_toArray l]; exact .inr h2, h3, h4⟩

/-- The tables, as the program's text lays them. -/
def TabW (w : World) : Prop := Lib.TabIs Tryd.prog w "internal/strconv.uint64pow10" .u64 Lib.pow10Tab ∧
  (∀ kd : Int, (4 ≤ kd ∧ kd ≤ 10) → w.cell? ⟨0, kd.toNat, none⟩ = some (.string ⟨[opB kd].toArray⟩)) ∧ 5 ≤ w.heap.size
theorem TabW.below {w w' : World} (h : TabW w) {B : Nat} (hb : Below B w w') (hB : 5 ≤ B) : TabW w' := by
  refine ⟨?_, fun kd hk => (hb.cell (p := ⟨0, kd.toNat, none⟩) (show 0 < B by omega)).trans (h.2.1 kd hk), Nat.le_trans h.2.2 hb.size⟩
  have h1 := h.1
  have hg : Tryd.prog.globalNamed "internal/strconv.uint64pow10" = some 2 := by kernel_rfl
  unfold Lib.TabIs World.var? at h1 ⊢
  rw [hg] at h1 ⊢
  simp only [Option.bind_some] at h1 ⊢
  rw [hb.block 2 (by omega)]
  exact h1

abbrev SayW (nv na d : Nat) : Prop := ∀ (n : Nat) (e : E) (c0 c1 c2 : Value) (D : Nat → Prop) (B b : Nat) (bs : List UInt8) (w : World), IsE w D n e [c0, c1, c2] → (∀ k, D k → k < B) → shapeB nv na d e = true →
  IsB B b bs w → bs.length + 24 * 4 ^ d ≤ 1000000 → TabW w → 5 ≤ B →
  Calls Tryd.prog 41 #[.pointer (some ⟨b, 0, none⟩), .agg #[c0, c1, c2]] w (Wr B b bs (txE d e) w)

theorem letter_v (v : Nat) (hv : v < 12) (w : World) : Calls Tryd.prog 71 #[.int .i64 v] w fun e w' => e = .returned (.int .u8 ((UInt8.ofNat (97 + v)).toNat : Int)) ∧ w' = w := by
  have e1 : ((UInt8.ofNat (97 + v)).toNat : Int) = 97 + (v : Int) := by
    rw [UInt8.toNat_ofNat_of_lt' (by simp [UInt8.size]; omega)]; omega
  have HE := Lib.hid e1
  clear e1
  go_enter Tryd.func71, Tryd.ntmps71
  go_wp2
  go_ret
  exact ⟨by rw [HE.out]; rfl, rfl⟩
theorem letter_a (v : Nat) (hv : v < 12) (w : World) : Calls Tryd.prog 90 #[.int .i64 v] w fun e w' => e = .returned (.int .u8 ((UInt8.ofNat (80 + v)).toNat : Int)) ∧ w' = w := by
  have e1 : ((UInt8.ofNat (80 + v)).toNat : Int) = 80 + (v : Int) := by
    rw [UInt8.toNat_ofNat_of_lt' (by simp [UInt8.size]; omega)]; omega
  have HE := Lib.hid e1
  clear e1
  go_enter Tryd.func90, Tryd.ntmps90
  go_wp2
  go_ret
  exact ⟨by rw [HE.out]; rfl, rfl⟩

set_option maxRecDepth 100000 in
set_option maxHeartbeats 4000000 in
theorem wr_const (v : Nat) (hv : v ≤ 255) (a : Option Addr) (cap B b : Nat) (bs : List UInt8) (w : World) (h : IsB B b bs w) (hlen : bs.length ≤ 1000000) (hT : TabW w) (hB : 5 ≤ B) :
    Calls Tryd.prog 41 #[.pointer (some ⟨b, 0, none⟩), .agg #[.int .i64 1, .int .i64 (v : Int), .slice a 0 cap]] w (Wr B b bs (Lib.decDigits v) w) := by
  obtain ⟨hBb, hbw⟩ := isB_lt h
  have hB0 : Below w.heap.size w (w.alloc (.cells #[.int .i64 1, .int .i64 (v : Int), .slice a 0 cap] 29)) := (Below.refl _ w).alloc (Nat.le_refl _) _
  have HB0 := Lib.hid hB0
  have HI := Lib.hid (isB_kept h (World.grownBy_alloc w (.cells #[.int .i64 1, .int .i64 (v : Int), .slice a 0 cap] 29) none))
  have HT := Lib.hid (hT.below hB0 hT.2.2)
  have hdl : (Lib.decDigits v).length ≤ 20 := by rw [Lib.decDigits_length]; exact Lib.nDigits_le20 v (by omega)
  obtain ⟨dd, hdd⟩ : ∃ dd, Lib.decDigits v = dd := ⟨_, rfl⟩
  rw [hdd] at hdl ⊢
  have HDD := Lib.hid hdd
  clear h hT hB0 hdd
  go_enter Tryd.func41, Tryd.ntmps41
  go_wp2_with fail
  obtain ⟨W, hW⟩ : ∃ W, w.alloc (.cells #[.int .i64 1, .int .i64 (v : Int), .slice a 0 cap] 29) = W := ⟨_, rfl⟩
  rw [hW] at HB0 HI HT ⊢
  clear hW
  refine (Tryd.strconv_Itoa (v : Int) (by omega) (by omega) W HT.out.1).mono ?_
  rintro e W4' ⟨rfl, kk, os, rfl⟩
  have hb4 := Lib.below_grow W.heap.size W (Nat.le_refl _) kk os
  obtain ⟨W4, hW4⟩ : ∃ W4, Sort.grow (W.drewN kk) os = W4 := ⟨_, rfl⟩
  rw [hW4] at hb4 ⊢
  rw [Lib.itoa_nonneg v, HDD.out]
  have HI4 := Lib.hid (isB_kept HI.out (Lib.grownBy_below (grown_refl W) hb4))
  have hB4 := HB0.out.trans (hb4.mono HB0.out.size)
  have HB4 := Lib.hid hB4
  have hz := hB4.size
  clear hW4 hb4 hB4
  go_wp2_with fail
  refine (wStr B b bs dd W4 HI4.out (by omega) (by omega) (by omega)).mono ?_
  rintro e W5 ⟨rfl, h5, hb5, hk5⟩
  have H5 := Lib.hid h5
  have HB5 := Lib.hid ((HB4.out.mono (show B ≤ w.heap.size by omega)).trans hb5)
  have HK5 := Lib.hid ((kept_below (b := b) HB4.out).trans hk5)
  clear h5 hb5 hk5
  go_wp2_with fail
  go_end0
  exact ⟨rfl, H5.out, HB5.out, HK5.out⟩

set_option maxRecDepth 100000 in
set_option maxHeartbeats 4000000 in
theorem wr_var (v : Nat) (hv : v < 12) (a : Option Addr) (cap B b : Nat) (bs : List UInt8) (w : World) (h : IsB B b bs w) (hlen : bs.length ≤ 1000000) :
    Calls Tryd.prog 41 #[.pointer (some ⟨b, 0, none⟩), .agg #[.int .i64 2, .int .i64 (v : Int), .slice a 0 cap]] w (Wr B b bs [UInt8.ofNat (97 + v)] w) := by
  obtain ⟨hBb, hbw⟩ := isB_lt h
  have hB0 : Below w.heap.size w (w.alloc (.cells #[.int .i64 2, .int .i64 (v : Int), .slice a 0 cap] 29)) := (Below.refl _ w).alloc (Nat.le_refl _) _
  have HB0 := Lib.hid hB0
  have HI := Lib.hid (isB_kept h (World.grownBy_alloc w (.cells #[.int .i64 2, .int .i64 (v : Int), .slice a 0 cap] 29) none))
  obtain ⟨c, hc⟩ : ∃ c, UInt8.ofNat (97 + v) = c := ⟨_, rfl⟩
  have HC := Lib.hid hc
  rw [hc]
  clear h hB0 hc
  go_enter Tryd.func41, Tryd.ntmps41
  go_wp2_with fail
  obtain ⟨W, hW⟩ : ∃ W, w.alloc (.cells #[.int .i64 2, .int .i64 (v : Int), .slice a 0 cap] 29) = W := ⟨_, rfl⟩
  rw [hW] at HB0 HI ⊢
  clear hW
  refine (letter_v v hv W).mono ?_
  rintro e W2 ⟨rfl, rfl⟩
  rw [HC.out]
  have hz := HB0.out.size
  go_wp2_with fail
  refine (wByte B b bs c W2 HI.out (by omega) (by omega)).mono ?_
  rintro e W5 ⟨rfl, h5, hb5, hk5⟩
  have H5 := Lib.hid h5
  have HB5 := Lib.hid ((HB0.out.mono (show B ≤ w.heap.size by omega)).trans hb5)
  have HK5 := Lib.hid ((kept_below (b := b) HB0.out).trans hk5)
  clear h5 hb5 hk5
  go_wp2_with fail
  go_end0
  exact ⟨rfl, H5.out, HB5.out, HK5.out⟩

end Go.Proofs.YtomgnnhbabnckaaDoor

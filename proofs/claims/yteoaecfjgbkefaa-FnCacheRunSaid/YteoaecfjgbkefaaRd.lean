/- Contracts of the drawing kit of package spec (l17Open, pick, num): whatever bytes came in, each draw returns a number of the asked range and writes only the reader's own block. Condition: fewer than 2^40 draws so far. -/
import Derived.Test.YteoaecfjgbkefaaProg
import Derived.WalkKit
import Derived.Below
import Derived.BigQuiet
import Derived.Deep.QuietTactic
import Derived.Laws.BitsAllLaws
import Derived.IntWalk
import Derived.Outline
import Derived.Lib.Hide
namespace Go.Proofs.Yteoaecfjgbkefaa
open Go.RowKit

/-- A slice of integers that came in. -/
def IsRow (k : IntKind) (w : World) (a : Option Addr) (len cap : Nat) (zs : List Int) : Prop :=
  (a = none ∧ len = 0 ∧ cap = 0 ∧ zs = []) ∨
  ∃ x, a = some x ∧ len ≤ cap ∧ cap ≤ maxLen ∧ zs.length = cap ∧ (∀ i, i < zs.length → w.cell? (x.add i) = some (.int k (zs.getD i 0))) ∧ ∀ n ∈ zs, (Lit.int k n).wf = true

/-- The cells of a reader's bytes: the address (or none), the length; each cell below block B. -/
def Bytes (w : World) (B : Nat) (a : Option Addr) (len cap : Nat) : Prop :=
  len ≤ 2000 ∧ len ≤ cap ∧ cap ≤ maxLen ∧ (a = none → len = 0) ∧ ∀ b o s, a = some ⟨b, o, s⟩ → 0 < len → s = none ∧ b < B ∧ ∀ i, i < len → ∃ v : Int, 0 ≤ v ∧ v ≤ 255 ∧ w.cell? ⟨b, o + i, none⟩ = some (.int .u8 v)

/-- The reader in block B after p draws. -/
structure Rd (w : World) (B p : Nat) (a : Option Addr) (len cap : Nat) : Prop where
  bytes : Bytes w B a len cap
  lt : B < w.heap.size
  c0 : w.cell? ⟨B, 0, none⟩ = some (.slice a len cap)
  c1 : w.cell? ⟨B, 1, none⟩ = some (.int .i64 p)
  f1 : w.frozen? ⟨B, 1, none⟩ = false

theorem Bytes.below {w w' : World} {B B' : Nat} {a : Option Addr} {len cap : Nat} (h : Bytes w B a len cap) (hb : Below B' w w') (hB : B ≤ B') : Bytes w' B a len cap := by
  obtain ⟨h1, h2, h3, h4, h5⟩ := h
  refine ⟨h1, h2, h3, h4, fun b o s e hp => ?_⟩
  obtain ⟨hs, hlt, hc⟩ := h5 b o s e hp
  refine ⟨hs, hlt, fun i hi => ?_⟩
  obtain ⟨v, v0, v1, hv⟩ := hc i hi
  exact ⟨v, v0, v1, (hb.cell (p := ⟨b, o + i, none⟩) (by simp; omega)).trans hv⟩

theorem Rd.below {w w' : World} {B B' p : Nat} {a : Option Addr} {len cap : Nat} (h : Rd w B p a len cap) (hb : Below B' w w') (hB : B < B') : Rd w' B p a len cap :=
  ⟨h.bytes.below hb (by omega), Nat.lt_of_lt_of_le h.lt hb.size, (hb.cell (p := ⟨B, 0, none⟩) hB).trans h.c0, (hb.cell (p := ⟨B, 1, none⟩) hB).trans h.c1, (hb.frozen (p := ⟨B, 1, none⟩) hB).trans h.f1⟩

theorem i64_xor_lt (a b : Nat) (ha : a < 4611686018427387904) (hb : b < 4611686018427387904) : ∃ c : Nat, c < 4611686018427387904 ∧ bits .xor .i64 (a : Int) (b : Int) = (c : Int) := by
  have hx : a ^^^ b < 2 ^ 62 := Nat.xor_lt_two_pow (by omega) (by omega)
  refine ⟨a ^^^ b, by omega, ?_⟩
  show IntKind.i64.wrap ((BitVec.ofInt 64 (a : Int) ^^^ BitVec.ofInt 64 (b : Int)).toNat : Int) = _
  rw [BitVec.toNat_xor, ofInt_u64 a (by omega), ofInt_u64 b (by omega)]
  simp [IntKind.wrap, IntKind.bits, IntKind.signed]
  omega

theorem Rd.step {w : World} {B p : Nat} {a : Option Addr} {len cap : Nat} (h : Rd w B p a len cap) : Rd (w.setCell ⟨B, 1, none⟩ (.int .i64 ((p : Int) + 1))) B (p + 1) a len cap := by
  have hb : Below B w (w.setCell ⟨B, 1, none⟩ (.int .i64 ((p : Int) + 1))) := (Below.refl B w).setCell (p := ⟨B, 1, none⟩) (Nat.le_refl _) _
  refine ⟨h.bytes.below hb (Nat.le_refl _), Nat.lt_of_lt_of_le h.lt hb.size, ?_, ?_, ?_⟩
  · exact (World.cell?_setCell_other (w := w) (a := ⟨B, 1, none⟩) (b := ⟨B, 0, none⟩) (v := .int .i64 ((p : Int) + 1)) (by simp)).trans h.c0
  · have := h.c1; simpa using World.cell?_setCell_same' w ⟨B, 1, none⟩ (.int .i64 ((p : Int) + 1)) (by rw [this]; rfl)
  · rw [World.frozen?_setCell]; exact h.f1

theorem below_drewN' {B : Nat} {a w : World} (h : Below B a w) (k : Nat) : Below B a (w.drewN k) := ⟨h.os, h.tape, h.output, h.size, h.block⟩

theorem Rd.drewN {w : World} {B p : Nat} {a : Option Addr} {len cap : Nat} (h : Rd w B p a len cap) (k : Nat) : Rd (w.drewN k) B p a len cap :=
  ⟨⟨h.bytes.1, h.bytes.2.1, h.bytes.2.2.1, h.bytes.2.2.2.1, h.bytes.2.2.2.2⟩, h.lt, h.c0, h.c1, h.f1⟩

theorem xor_shift (x : Int) (h0 : 0 ≤ x) (h1 : x < 4611686018427387904) : ∃ c : Nat, bits .xor .i64 x (x / 64) = (c : Int) := by
  obtain ⟨y, rfl⟩ := Int.eq_ofNat_of_zero_le h0
  obtain ⟨c, _, hc⟩ := i64_xor_lt y (y / 64) (by omega) (by omega)
  exact ⟨c, by rw [← hc]; rfl⟩

theorem wrap_id (x : Int) (h1 : -4611686018427387904 ≤ x) (h2 : x ≤ 4611686018427387904) : IntKind.i64.wrap x = x := by exact IntWalk.i64_in _ (by omega)

theorem pick_facts (p len v u : Nat) (hp : p < 1099511627776) (hv : v ≤ 255) (hu : u ≤ 255) :
    (p : Int).tmod (len : Int) = ((p % len : Nat) : Int) ∧
    ((p : Int) * 7 + 3).tmod (len : Int) = (((p * 7 + 3) % len : Nat) : Int) ∧
    (p : Int).tdiv (len : Int) = ((p / len : Nat) : Int) ∧
    IntKind.i64.wrap ((p : Int) * 7) = (p : Int) * 7 ∧
    IntKind.i64.wrap ((p : Int) * 7 + 3) = (p : Int) * 7 + 3 ∧
    IntKind.i64.wrap ((v : Int) * 131) = (v : Int) * 131 ∧
    IntKind.i64.wrap ((u : Int) * 1117) = (u : Int) * 1117 ∧
    IntKind.i64.wrap ((v : Int) * 131 + (u : Int) * 1117) = (v : Int) * 131 + (u : Int) * 1117 ∧
    IntKind.i64.wrap ((p : Int) * 29) = (p : Int) * 29 ∧
    IntKind.i64.wrap ((v : Int) * 131 + (u : Int) * 1117 + (p : Int) * 29) = (v : Int) * 131 + (u : Int) * 1117 + (p : Int) * 29 ∧
    IntKind.i64.wrap (((p / len : Nat) : Int) * 53) = ((p / len : Nat) : Int) * 53 ∧
    IntKind.i64.wrap ((v : Int) * 131 + (u : Int) * 1117 + (p : Int) * 29 + ((p / len : Nat) : Int) * 53) = (v : Int) * 131 + (u : Int) * 1117 + (p : Int) * 29 + ((p / len : Nat) : Int) * 53 := by
  have hd : p / len ≤ p := Nat.div_le_self _ _
  refine ⟨by rw [Int.tmod_eq_emod_of_nonneg (by omega)]; rfl, by rw [Int.tmod_eq_emod_of_nonneg (by omega)]; rfl, by rw [Int.tdiv_eq_ediv_of_nonneg (by omega)]; rfl, ?_⟩
  generalize p / len = q at hd ⊢
  refine ⟨wrap_id _ ?_ ?_, wrap_id _ ?_ ?_, wrap_id _ ?_ ?_, wrap_id _ ?_ ?_, wrap_id _ ?_ ?_, wrap_id _ ?_ ?_, wrap_id _ ?_ ?_, wrap_id _ ?_ ?_, wrap_id _ ?_ ?_⟩ <;> omega

/-- A draw below n: its number, and the reader's count one higher. -/
def Picked (n : Int) (w : World) (B p : Nat) (e : Ending) (w' : World) : Prop := ∃ (v : Int) (k : Nat), e = .returned (.int .i64 v) ∧ 0 ≤ v ∧ v < n ∧ w' = (w.setCell ⟨B, 1, none⟩ (.int .i64 ((p : Int) + 1))).drewN k
/-- A drawn element of a list. -/
def Nummed (zs : List Int) (n : Nat) (w : World) (B p : Nat) (e : Ending) (w' : World) : Prop := ∃ i k : Nat, i < n ∧ e = .returned (.int .i64 (zs.getD i 0)) ∧ w' = (w.setCell ⟨B, 1, none⟩ (.int .i64 ((p : Int) + 1))).drewN k

set_option maxHeartbeats 1000000 in
theorem pick_one (B p : Nat) (a : Option Addr) (len cap : Nat) (n : Int) (w : World) (h : Rd w B p a len cap) (hp : p < 1099511627776) (hn : 1 ≤ n) (hn' : n ≤ 4611686018427387904) :
    Calls Try.prog 75 #[.pointer (some ⟨B, 0, none⟩), .int .i64 n] w (Picked n w B p) := by
  obtain ⟨⟨hl, hcap, hm, hnone, hsome⟩, hlt, c0, c1, f1⟩ := h
  have hn0 : decide (n < 1) = false := decide_eq_false (by omega)
  by_cases h0 : len = 0
  · subst h0
    go_enter Try.func75, Try.ntmps75
    go_wp2
    go_ret
    exact ⟨0, 0, rfl, by omega, by omega, rfl⟩
  · have hlen : ((len : Int) == 0) = false := by simp; omega
    cases a with
    | none => exact absurd (hnone rfl) h0
    | some x =>
      obtain ⟨b, o, s⟩ := x
      obtain ⟨rfl, hb, hc⟩ := hsome b o s rfl (by omega)
      clear hsome hnone
      by_cases h1 : p < len
      · obtain ⟨v, v0, v1, hv⟩ := hc p h1
        clear hc
        go_enter Try.func75, Try.ntmps75
        go_wp2
        go_ret
        exact ⟨v % n, 0, rfl, Int.emod_nonneg _ (by omega), Int.emod_lt_of_pos _ (by omega), rfl⟩
      · have hl0 : 0 < len := by omega
        have b1 : p % len < len := Nat.mod_lt _ hl0
        have b2 : (p * 7 + 3) % len < len := Nat.mod_lt _ hl0
        obtain ⟨v, v0, v1, hv⟩ := hc _ b1
        obtain ⟨u, u0, u1, hu⟩ := hc _ b2
        clear hc
        have F := pick_facts p len v.toNat u.toNat hp (by omega) (by omega)
        obtain ⟨q, hq, qp⟩ : ∃ q, q = p / len ∧ q ≤ p := ⟨_, rfl, Nat.div_le_self _ _⟩
        rw [← hq] at F
        clear hq
        obtain ⟨m1, hm1⟩ : ∃ m, m = p % len := ⟨_, rfl⟩
        obtain ⟨m2, hm2⟩ : ∃ m, m = (p * 7 + 3) % len := ⟨_, rfl⟩
        rw [← hm1, ← hm2] at F
        rw [← hm1] at b1 hv
        rw [← hm2] at b2 hu
        clear hm1 hm2
        obtain ⟨v', rfl⟩ := Int.eq_ofNat_of_zero_le v0
        obtain ⟨u', rfl⟩ := Int.eq_ofNat_of_zero_le u0
        simp only [Int.toNat_natCast] at F
        obtain ⟨t1, t2, t3, s1, s2, s3, s4, s5, s6, s7, s8, s9⟩ := F
        go_enter Try.func75, Try.ntmps75
        go_wp2
        go_quiet (fail)
        clear t1 t2 t3 s1 s2 s3 s4 s5 s6 s7 s8 s9
        obtain ⟨c, cx⟩ := xor_shift ((v' : Int) * 131 + (u' : Int) * 1117 + (p : Int) * 29 + (q : Int) * 53) (by omega) (by omega)
        go_wp2
        go_ret
        exact ⟨(c : Int) % n, _, rfl, Int.emod_nonneg _ (by omega), Int.emod_lt_of_pos _ (by omega), rfl⟩

theorem ret_int {k : IntKind} {a b : Int} (h : a = b) : Ending.returned (.int k a) = .returned (.int k b) := by rw [h]

theorem getD_at (zs : List Int) (v : Int) (h0 : 0 ≤ v) (h1 : v < (zs.length : Int)) : ∃ i : Nat, v = (i : Int) ∧ i < zs.length := ⟨v.toNat, by omega, by omega⟩

set_option maxHeartbeats 1000000 in
theorem num_one (B p : Nat) (a : Option Addr) (len cap : Nat) (b o n c : Nat) (zs : List Int) (w : World) (h : Rd w B p a len cap) (hp : p < 1099511627776) (hb : b ≠ B) (hz : zs.length = n) (hn : 1 ≤ n) (hn' : n ≤ 4611686018427387904)
    (hc : ∀ i, i < n → w.cell? ⟨b, o + i, none⟩ = some (.int .i64 (zs.getD i 0))) :
    Calls Try.prog 51 #[.pointer (some ⟨B, 0, none⟩), .slice (some ⟨b, o, none⟩) n c] w (Nummed zs n w B p) := by
  have hcB : ∀ i k : Nat, i < n → (((w.setCell ⟨B, 1, none⟩ (.int .i64 ((p : Int) + 1))).drewN k).cell? ⟨b, o + i, none⟩ = some (.int .i64 (zs.getD i 0))) := fun i k hi =>
    (World.cell?_setCell_other (w := w) (a := ⟨B, 1, none⟩) (b := ⟨b, o + i, none⟩) (v := .int .i64 ((p : Int) + 1)) (by intro e; exact hb (by simpa using (congrArg Addr.block e).symm))).trans (hc i hi)
  have HC := Lib.hid hcB
  clear hcB hc
  go_enter Try.func51, Try.ntmps51
  go_wp2_with fail
  refine (pick_one B p a len cap _ _ h hp (by omega) (by omega)).mono ?_
  rintro e w' ⟨v, k, rfl, v0, v1, rfl⟩
  obtain ⟨i, rfl, hi⟩ := getD_at zs v v0 (by omega)
  have h1 := HC.out i k (by omega)
  have hi' : i < n := by omega
  go_wp2
  go_ret
  exact ⟨i, k, hi', ret_int (by simp [List.getD, hi]), rfl⟩

end Go.Proofs.Yteoaecfjgbkefaa

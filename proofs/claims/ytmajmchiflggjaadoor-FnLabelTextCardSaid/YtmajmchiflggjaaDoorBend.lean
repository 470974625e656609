/- The draw of a bent text of package spec: l17Rd.of returns one of the given texts; l1Bend returns a text at most one byte longer than the given one; nothing that was there has changed but the reader's count. -/
import Derived.Test.YtmajmchiflggjaaDoorDraw
import Derived.Deep.RegionWith
import Derived.WalkSpells
import Derived.Laws.Concat
namespace Go.Proofs.YtmajmchiflggjaaDoor
open Go.RowKit

/-- The texts lie in the cells of block b. -/
def Texts (w : World) (b : Nat) (ts : List ByteArray) : Prop := ∀ i, i < ts.length → w.cell? ⟨b, 0 + i, none⟩ = some (.string (ts.getD i ByteArray.empty))

def Offed (w : World) (B p : Nat) (e : Ending) (w' : World) : Prop := ∃ (t : ByteArray) (k : Nat), t.size ≤ 1 ∧ e = .returned (.string t) ∧ w' = (w.setCell ⟨B, 1, none⟩ (.int .i64 ((p : Int) + 1))).drewN k

set_option maxHeartbeats 1000000 in
theorem of_one (B p : Nat) (a : Option Addr) (len cap : Nat) (b n c : Nat) (ts : List ByteArray) (w : World) (h : Rd w B p a len cap) (hp : p < 1099511627776) (hb : b ≠ B) (hz : ts.length = n) (hn : 1 ≤ n) (hn' : n ≤ 4611686018427387904) (hsz : ∀ i, i < n → (ts.getD i ByteArray.empty).size ≤ 1) (hc : Texts w b ts) :
    Calls Tryd.prog 34 #[.pointer (some ⟨B, 0, none⟩), .slice (some ⟨b, 0, none⟩) n c] w (Offed w B p) := by
  have HZ := Lib.hid hsz
  have hcB : ∀ i k : Nat, i < n → (((w.setCell ⟨B, 1, none⟩ (.int .i64 ((p : Int) + 1))).drewN k).cell? ⟨b, i, none⟩ = some (.string (ts.getD i ByteArray.empty))) := fun i k hi =>
    (World.cell?_setCell_other (w := w) (a := ⟨B, 1, none⟩) (b := ⟨b, i, none⟩) (v := .int .i64 ((p : Int) + 1)) (by intro e; exact hb (by simpa using (congrArg Addr.block e).symm))).trans (by have := hc i (by omega); rwa [Nat.zero_add] at this)
  have HC := Lib.hid hcB
  clear hcB hc hsz
  go_enter Tryd.func34, Tryd.ntmps34
  go_wp2_with fail
  refine (pick_one B p a len cap _ _ h hp (by omega) (by omega)).mono ?_
  rintro e w' ⟨v, k, rfl, v0, v1, rfl⟩
  obtain ⟨i, rfl⟩ := Int.eq_ofNat_of_zero_le v0
  have hi' : i < n := by omega
  obtain ⟨t, ht⟩ : ∃ t, ts.getD i ByteArray.empty = t := ⟨_, rfl⟩
  have h1 := HC.out i k hi'
  rw [ht] at h1
  have HT : Hid (t.size ≤ 1) := by have := HZ.out i hi'; rw [ht] at this; exact this
  clear ht
  go_wp2
  go_ret
  exact ⟨t, k, HT.out, rfl, rfl⟩

/-- A text at most one byte longer; nothing below the reader has changed. -/
def Bent (s : ByteArray) (w : World) (B : Nat) (e : Ending) (w' : World) : Prop := ∃ t : ByteArray, t.size ≤ s.size + 1 ∧ e = .returned (.string t) ∧ Below B w w'

set_option maxRecDepth 100000 in
set_option maxHeartbeats 2000000 in
theorem bend_one (B p : Nat) (a : Option Addr) (len cap : Nat) (s : ByteArray) (b : Nat) (ts : List ByteArray) (w : World) (h : Rd w B p a len cap) (hp : p < 1000) (hs : s.size ≤ 1000) (hb : b ≠ B) (hts : ts.length = 6) (hsz : ∀ i, i < 6 → (ts.getD i ByteArray.empty).size ≤ 1) (hc : Texts w b ts) :
    Calls Tryd.prog 27 #[.pointer (some ⟨B, 0, none⟩), .string s, .slice (some ⟨b, 0, none⟩) 6 6] w (Bent s w B) := by
  have H := Lib.hid h
  have HC := Lib.hid hc
  have HZ := Lib.hid hsz
  have HTS := Lib.hid hts
  clear h hc hsz hts
  by_cases h0 : s.size = 0
  · have e1 : ((s.size : Int) == 0) = true := by rw [h0]; rfl
    go_enter Tryd.func27, Tryd.ntmps27
    go_wp2_with fail
    go_ret
    exact ⟨s, Nat.le_succ _, rfl, Below.refl _ _⟩
  · have e1 : ((s.size : Int) == 0) = false := beq_eq_false_iff_ne.2 (by omega)
    go_enter Tryd.func27, Tryd.ntmps27
    go_wp2_with fail
    refine (pick_one B p a len cap _ _ H.out (by omega) (by omega) (by omega)).mono ?_
    rintro e w1 ⟨v1, k1, rfl, v10, v11, hw1⟩
    have HR1 : Hid (Rd w1 B (p + 1) a len cap) := by rw [hw1]; exact H.out.next k1
    have HB1 : Hid (Below B w w1) := by rw [hw1]; exact Rd.below_step k1
    have HO1 : Hid (Oth B w w1) := by rw [hw1]; exact Oth.step _ _ _
    clear hw1
    by_cases hv : v1 = 0
    · subst hv
      go_wp2_with fail
      go_ret
      exact ⟨s, Nat.le_succ _, rfl, HB1.out⟩
    · have hv' : (v1 == 0) = false := by simpa using hv
      go_wp2_with fail
      refine (pick_one B (p + 1) a len cap _ _ HR1.out (by omega) (by omega) (by omega)).mono ?_
      rintro e w2 ⟨v2, k2, rfl, v20, v21, hw2⟩
      have HR2 : Hid (Rd w2 B (p + 1 + 1) a len cap) := by rw [hw2]; exact HR1.out.next k2
      have HB2 : Hid (Below B w w2) := by rw [hw2]; exact HB1.out.trans (Rd.below_step k2)
      have HO2 : Hid (Oth B w w2) := by rw [hw2]; exact HO1.out.trans (Oth.step _ _ _)
      have HC2 : Hid (Texts w2.drew b ts) := fun i hi => by
        have hcell := HC.out i hi
        have hlt := World.block_lt_of_cell? w _ hcell
        exact (World.cell?_of_block (w := w) (HO2.out.2 b hlt hb)).trans hcell
      have HRD : Hid (Rd w2.drew B (p + 1 + 1) a len cap) := ⟨⟨HR2.out.bytes.1, HR2.out.bytes.2.1, HR2.out.bytes.2.2.1, HR2.out.bytes.2.2.2.1, HR2.out.bytes.2.2.2.2⟩, HR2.out.lt, HR2.out.c0, HR2.out.c1, HR2.out.f1⟩
      obtain ⟨k, rfl⟩ := Int.eq_ofNat_of_zero_le v20
      have hk : k < s.size := by omega
      clear hw2 HO1 HB1 HR1
      go_wp2_with fail
      go_region_with (first
        | (go_at_call 34; refine (of_one B (p + 1 + 1) a len cap b 6 6 ts _ HRD.out (by omega) hb HTS.out (by omega) (by omega) HZ.out HC2.out).mono ?_; rintro e w3 ⟨t3, k3, ht3, rfl, hw3⟩; have HR3 : Hid (Rd w3 B (p + 1 + 1 + 1) a len cap) := (by rw [hw3]; exact HRD.out.next k3); have HB3 : Hid (Below B w w3) := (by rw [hw3]; exact (HB2.out.drew).trans (Rd.below_step k3)); clear hw3)
        | (go_at_call 19; refine (pick_one B (p + 1 + 1 + 1) a len cap _ _ HR3.out (by omega) (by omega) (by omega)).mono ?_; rintro e w4 ⟨v4, k4, rfl, v40, v41, hw4⟩; have HB4 : Hid (Below B w w4) := (by rw [hw4]; exact HB3.out.trans (Rd.below_step k4)); clear hw4; obtain ⟨n4, rfl⟩ := Int.eq_ofNat_of_zero_le v40; have hx4 : k + n4 ≤ s.size := (by omega); have hz4 : 0 ≤ (k : Int) + (n4 : Int) := (by omega); have hy4 : (k : Int) + (n4 : Int) ≤ (s.size : Int) := (by omega); have hw5 : IntKind.i64.wrap ((k : Int) + (n4 : Int)) = (k : Int) + (n4 : Int) := wrap_id _ (by omega) (by omega); have hn5 : ((k : Int) + (n4 : Int)).toNat = k + n4 := (by omega)))
      all_goals
        go_wp2
        go_ret
        exact ⟨_, by simp [ByteArray.size_append, ByteArray.size_extract]; omega, rfl, HB4.out⟩

end Go.Proofs.YtmajmchiflggjaaDoor

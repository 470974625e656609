/- Contracts of l17Open, l1Draw and the draws of two labels, of package spec: whatever bytes came in, the call returns integers and nothing that was there has changed. No condition. -/
import Derived.Test.YtlhdgoindknpfaaDoorRd
import Derived.OpenShut
import Derived.DataReads
namespace Go.Proofs.YtlhdgoindknpfaaDoor
open Go.RowKit

/-- A new reader in block w.heap.size. -/
def Opened (w : World) (e : Ending) (w' : World) : Prop := ∃ a len cap, e = .returned (.pointer (some ⟨w.heap.size, 0, none⟩)) ∧ Below w.heap.size w w' ∧ Rd w' w.heap.size 0 a len cap

theorem IsRow.bytes {w : World} {a : Option Addr} {len cap : Nat} {zs : List Int} (h : IsRow .u8 w a len cap zs) (n : Nat) (hn : n ≤ len) (hn' : n ≤ 2000) : Bytes w w.heap.size a n cap := by
  rcases h with ⟨rfl, rfl, rfl, rfl⟩ | ⟨x, rfl, hlen, hcap, hz, hc, hw⟩
  · exact ⟨by omega, by omega, by unfold maxLen; omega, fun _ => by omega, fun b o s e => by cases e⟩
  · refine ⟨hn', by omega, hcap, (fun e => by cases e), fun b o s e hp => ?_⟩
    cases e
    have h0 := hc 0 (by omega)
    have h1 := World.block_lt_of_cell? w _ h0
    have hs : s = none := by simpa [Addr.add] using World.cell?_spot h0
    subst hs
    refine ⟨rfl, by simpa [Addr.add] using h1, fun i hi => ?_⟩
    have h2 := hc i (by omega)
    have h3 := bounds_u8 (hw (zs.getD i 0) (by rw [List.getD_eq_getElem?_getD, List.getElem?_eq_getElem (by omega)]; exact List.getElem_mem _))
    have e : (⟨b, o, none⟩ : Addr).add i = ⟨b, o + i, none⟩ := by unfold Addr.add; split <;> simp_all
    exact ⟨zs.getD i 0, h3.1, h3.2, by rw [← e]; exact h2⟩

theorem IsRow.len {k : IntKind} {w : World} {a : Option Addr} {len cap : Nat} {zs : List Int} (h : IsRow k w a len cap zs) : len ≤ cap ∧ cap ≤ maxLen := by
  rcases h with ⟨rfl, rfl, rfl, rfl⟩ | ⟨x, rfl, hlen, hcap, hz, hc, hw⟩
  · exact ⟨Nat.le_refl _, by unfold maxLen; omega⟩
  · exact ⟨hlen, hcap⟩

theorem open_one (a : Option Addr) (len cap : Nat) (zs : List Int) (w : World) (h : IsRow .u8 w a len cap zs) :
    Calls Tryd.prog 20 #[.slice a len cap] w (Opened w) := by
  obtain ⟨hl, hm⟩ := h.len
  unfold maxLen at hm
  by_cases hb : 2000 < len
  · have hB := h.bytes 2000 (by omega) (by omega)
    go_enter Tryd.func20, Tryd.ntmps20
    go_wp2
    go_ret
    exact ⟨a, 2000, cap, rfl, (Below.refl _ _).alloc (Nat.le_refl _) _, hB.below ((Below.refl _ _).alloc (Nat.le_refl _) _) (Nat.le_refl _), by simp, by simp, by simp, by simp⟩
  · have hB := h.bytes len (by omega) (by omega)
    go_enter Tryd.func20, Tryd.ntmps20
    go_wp2
    go_ret
    exact ⟨a, len, cap, rfl, (Below.refl _ _).alloc (Nat.le_refl _) _, hB.below ((Below.refl _ _).alloc (Nat.le_refl _) _) (Nat.le_refl _), by simp, by simp, by simp, by simp⟩

/-- Every block but B stands. -/
def Oth (B : Nat) (w w' : World) : Prop := w.heap.size ≤ w'.heap.size ∧ ∀ k, k < w.heap.size → k ≠ B → w'.heap[k]? = w.heap[k]?
theorem Oth.refl (B : Nat) (w : World) : Oth B w w := ⟨Nat.le_refl _, fun _ _ _ => rfl⟩
theorem Oth.trans {B : Nat} {a b c : World} (h : Oth B a b) (k : Oth B b c) : Oth B a c := ⟨Nat.le_trans h.1 k.1, fun i hi hB => (k.2 i (Nat.lt_of_lt_of_le hi h.1) hB).trans (h.2 i hi hB)⟩
theorem Oth.alloc {B : Nat} {a w : World} (h : Oth B a w) (o : Obj) : Oth B a (w.alloc o) := h.trans ⟨by simp, fun k hk _ => Below.heap_alloc w o k hk⟩
theorem Oth.step {B : Nat} (w : World) (v : Value) (k : Nat) : Oth B w ((w.setCell ⟨B, 1, none⟩ v).drewN k) := ⟨by simp [World.setCell, World.drewN], fun i _ hB => Below.heap_setCell w ⟨B, 1, none⟩ v i hB⟩

/-- An integer that is drawn with the reader in block B: nothing below B has changed; the reader has drawn at most m more. -/
def Drawn (m : Nat) (w : World) (B p : Nat) (a : Option Addr) (len cap : Nat) (e : Ending) (w' : World) : Prop := ∃ (v : Int) (q : Nat), e = .returned (.int .i64 v) ∧ Below B w w' ∧ Rd w' B q a len cap ∧ q ≤ p + m ∧ Oth B w w'

theorem Rd.below_step {w : World} {B p : Nat} (k : Nat) : Below B w ((w.setCell ⟨B, 1, none⟩ (.int .i64 ((p : Int) + 1))).drewN k) :=
  below_drewN' ((Below.refl B w).setCell (p := ⟨B, 1, none⟩) (Nat.le_refl _) _) k

theorem Rd.next {w : World} {B p : Nat} {a : Option Addr} {len cap : Nat} (h : Rd w B p a len cap) (k : Nat) : Rd ((w.setCell ⟨B, 1, none⟩ (.int .i64 ((p : Int) + 1))).drewN k) B (p + 1) a len cap := h.step.drewN k

theorem four (w : World) (x0 x1 x2 x3 : Int) (t : TypeId) : ∀ i, i < 4 → (w.alloc (.cells #[.int .i64 x0, .int .i64 x1, .int .i64 x2, .int .i64 x3] t)).cell? ⟨w.heap.size, 0 + i, none⟩ = some (.int .i64 ([x0, x1, x2, x3].getD i 0)) := by
  intro i hi
  obtain rfl | rfl | rfl | rfl : i = 0 ∨ i = 1 ∨ i = 2 ∨ i = 3 := by omega
  all_goals simp

set_option maxHeartbeats 1000000 in
theorem l1Draw_one (B p : Nat) (a : Option Addr) (len cap : Nat) (w : World) (h : Rd w B p a len cap) (hp : p < 1099511627000) :
    Calls Tryd.prog 50 #[.pointer (some ⟨B, 0, none⟩)] w (Drawn 2 w B p a len cap) := by
  have H := Lib.hid h
  clear h
  go_enter Tryd.func50, Tryd.ntmps50
  go_wp2_with fail
  refine (pick_one B p a len cap _ _ H.out (by omega) (by omega) (by omega)).mono ?_
  rintro e w1 ⟨v, k, rfl, v0, v1, hw1⟩
  have H1 : Hid (Rd w1 B (p + 1) a len cap) := by rw [hw1]; exact H.out.next k
  have HB : Hid (Below B w w1) := by rw [hw1]; exact Rd.below_step (w := w) (B := B) (p := p) k
  have HO : Hid (Oth B w w1) := by rw [hw1]; exact Oth.step w _ k
  clear hw1
  by_cases hv : v = 0
  · subst hv
    go_wp2_with fail
    have HA := Lib.hid (H1.out.below ((Below.refl w1.heap.size w1).alloc (Nat.le_refl _) (.cells #[.int .i64 (-1), .int .i64 4, .int .i64 9223372036854775807, .int .i64 (-9223372036854775808)] 3)) H1.out.lt)
    have HB2 := Lib.hid ((HB.out).trans ((Below.refl B w1).alloc (Nat.le_of_lt H1.out.lt) (.cells #[.int .i64 (-1), .int .i64 4, .int .i64 9223372036854775807, .int .i64 (-9223372036854775808)] 3)))
    have hBlt := H1.out.lt
    refine (num_one B (p + 1) a len cap w1.heap.size 0 4 4 [-1, 4, 9223372036854775807, -9223372036854775808] _ HA.out (by omega) (by omega) rfl (by omega) (by omega) (four _ _ _ _ _ _)).mono ?_
    rintro e w2 ⟨i, k2, hi, rfl, hw2⟩
    have HR : Hid (Rd w2 B (p + 1 + 1) a len cap) := by rw [hw2]; exact HA.out.next k2
    have HB3 : Hid (Below B w w2) := by rw [hw2]; exact HB2.out.trans (Rd.below_step (B := B) (p := p + 1) k2)
    have HO3 : Hid (Oth B w w2) := by rw [hw2]; exact (HO.out.alloc _).trans (Oth.step _ _ k2)
    clear hw2 HA HB2
    go_wp2
    go_ret
    exact ⟨_, p + 2, rfl, HB3.out, HR.out, by omega, HO3.out⟩
  · have hv' : (v == 0) = false := by simpa using hv
    go_wp2_with fail
    refine (pick_one B (p + 1) a len cap _ _ H1.out (by omega) (by omega) (by omega)).mono ?_
    rintro e w2 ⟨v2, k2, rfl, v20, v21, hw2⟩
    have HR : Hid (Rd w2 B (p + 1 + 1) a len cap) := by rw [hw2]; exact H1.out.next k2
    have HB3 : Hid (Below B w w2) := by rw [hw2]; exact HB.out.trans (Rd.below_step (B := B) (p := p + 1) k2)
    have HO3 : Hid (Oth B w w2) := by rw [hw2]; exact HO.out.trans (Oth.step _ _ k2)
    clear hw2
    go_wp2
    go_ret
    exact ⟨v2, p + 2, rfl, HB3.out, HR.out, by omega, HO3.out⟩

end Go.Proofs.YtlhdgoindknpfaaDoor

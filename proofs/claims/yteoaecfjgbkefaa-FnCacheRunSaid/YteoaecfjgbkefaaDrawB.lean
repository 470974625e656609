/- Contracts of l17Open and what a draw leaves alone, of package spec: whatever bytes came in, the call returns integers and nothing that was there has changed. No condition. -/
import Derived.Test.YteoaecfjgbkefaaRd
import Derived.OpenShut
import Derived.DataReads
namespace Go.Proofs.Yteoaecfjgbkefaa
open Go.RowKit

/-- A new reader in block w.heap.size. -/
def Opened (w : World) (e : Ending) (w' : World) : Prop := ∃ a len cap, e = .returned (.pointer (some ⟨w.heap.size, 0, none⟩)) ∧ Below w.heap.size w w' ∧ Rd w' w.heap.size 0 a len cap

theorem IsRow.bytes {w : World} {a : Option Addr} {len cap : Nat} {zs : List Int} (h : IsRow .u8 w a len cap zs) (n : Nat) (hn : n ≤ len) (hn' : n ≤ 2000) : Bytes w w.heap.size a n cap := by
  rcases h with ⟨rfl, rfl, rfl, rfl⟩ | ⟨x, rfl, hlen, hcap, hz, hc, hw⟩
  · exact ⟨by omega, by omega, by unfold maxLen; omega, fun _ => by omega, fun b o s e => by cases e⟩
  · refine ⟨hn', by omega, hcap, (fun e => by cases e), fun b o s e hp => ?_⟩
    cases e
    have h0 := hc 0 (by omega)
    have h1 := World.block_lt_of_cell? w _ h0
    have hs : s = none := by simpa [Addr.add] using World.cell?_spot h0
    subst hs
    refine ⟨rfl, by simpa [Addr.add] using h1, fun i hi => ?_⟩
    have h2 := hc i (by omega)
    have h3 := bounds_u8 (hw (zs.getD i 0) (by rw [List.getD_eq_getElem?_getD, List.getElem?_eq_getElem (by omega)]; exact List.getElem_mem _))
    have e : (⟨b, o, none⟩ : Addr).add i = ⟨b, o + i, none⟩ := by unfold Addr.add; split <;> simp_all
    exact ⟨zs.getD i 0, h3.1, h3.2, by rw [← e]; exact h2⟩

theorem IsRow.len {k : IntKind} {w : World} {a : Option Addr} {len cap : Nat} {zs : List Int} (h : IsRow k w a len cap zs) : len ≤ cap ∧ cap ≤ maxLen := by
  rcases h with ⟨rfl, rfl, rfl, rfl⟩ | ⟨x, rfl, hlen, hcap, hz, hc, hw⟩
  · exact ⟨Nat.le_refl _, by unfold maxLen; omega⟩
  · exact ⟨hlen, hcap⟩

theorem open_one (a : Option Addr) (len cap : Nat) (zs : List Int) (w : World) (h : IsRow .u8 w a len cap zs) :
    Calls Try.prog 49 #[.slice a len cap] w (Opened w) := by
  obtain ⟨hl, hm⟩ := h.len
  unfold maxLen at hm
  by_cases hb : 2000 < len
  · have hB := h.bytes 2000 (by omega) (by omega)
    go_enter Try.func49, Try.ntmps49
    go_wp2
    go_ret
    exact ⟨a, 2000, cap, rfl, (Below.refl _ _).alloc (Nat.le_refl _) _, hB.below ((Below.refl _ _).alloc (Nat.le_refl _) _) (Nat.le_refl _), by simp, by simp, by simp, by simp⟩
  · have hB := h.bytes len (by omega) (by omega)
    go_enter Try.func49, Try.ntmps49
    go_wp2
    go_ret
    exact ⟨a, len, cap, rfl, (Below.refl _ _).alloc (Nat.le_refl _) _, hB.below ((Below.refl _ _).alloc (Nat.le_refl _) _) (Nat.le_refl _), by simp, by simp, by simp, by simp⟩

/-- Every block but B stands. -/
def Oth (B : Nat) (w w' : World) : Prop := w.heap.size ≤ w'.heap.size ∧ ∀ k, k < w.heap.size → k ≠ B → w'.heap[k]? = w.heap[k]?
theorem Oth.refl (B : Nat) (w : World) : Oth B w w := ⟨Nat.le_refl _, fun _ _ _ => rfl⟩
theorem Oth.trans {B : Nat} {a b c : World} (h : Oth B a b) (k : Oth B b c) : Oth B a c := ⟨Nat.le_trans h.1 k.1, fun i hi hB => (k.2 i (Nat.lt_of_lt_of_le hi h.1) hB).trans (h.2 i hi hB)⟩
theorem Oth.alloc {B : Nat} {a w : World} (h : Oth B a w) (o : Obj) : Oth B a (w.alloc o) := h.trans ⟨by simp, fun k hk _ => Below.heap_alloc w o k hk⟩
theorem Oth.step {B : Nat} (w : World) (v : Value) (k : Nat) : Oth B w ((w.setCell ⟨B, 1, none⟩ v).drewN k) := ⟨by simp [World.setCell, World.drewN], fun i _ hB => Below.heap_setCell w ⟨B, 1, none⟩ v i hB⟩

/-- An integer that is drawn with the reader in block B: nothing below B has changed; the reader has drawn at most m more. -/
def Drawn (m : Nat) (w : World) (B p : Nat) (a : Option Addr) (len cap : Nat) (e : Ending) (w' : World) : Prop := ∃ (v : Int) (q : Nat), e = .returned (.int .i64 v) ∧ Below B w w' ∧ Rd w' B q a len cap ∧ q ≤ p + m ∧ Oth B w w'

theorem Rd.below_step {w : World} {B p : Nat} (k : Nat) : Below B w ((w.setCell ⟨B, 1, none⟩ (.int .i64 ((p : Int) + 1))).drewN k) :=
  below_drewN' ((Below.refl B w).setCell (p := ⟨B, 1, none⟩) (Nat.le_refl _) _) k

theorem Rd.next {w : World} {B p : Nat} {a : Option Addr} {len cap : Nat} (h : Rd w B p a len cap) (k : Nat) : Rd ((w.setCell ⟨B, 1, none⟩ (.int .i64 ((p : Int) + 1))).drewN k) B (p + 1) a len cap := h.step.drewN k

theorem four (w : World) (x0 x1 x2 x3 : Int) (t : TypeId) : ∀ i, i < 4 → (w.alloc (.cells #[.int .i64 x0, .int .i64 x1, .int .i64 x2, .int .i64 x3] t)).cell? ⟨w.heap.size, 0 + i, none⟩ = some (.int .i64 ([x0, x1, x2, x3].getD i 0)) := by
  intro i hi
  obtain rfl | rfl | rfl | rfl : i = 0 ∨ i = 1 ∨ i = 2 ∨ i = 3 := by omega
  all_goals simp

end Go.Proofs.Yteoaecfjgbkefaa

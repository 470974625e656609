/- The drawing kit in one form: a reader that has drawn at most m times; what a draw leaves alone. -/
import Derived.Test.YteoaecfjgbkefaaDrawB
import Derived.Test.YteoaecfjgbkefaaTreeS
namespace Go.Proofs.Yteoaecfjgbkefaa
open Go.RowKit
set_option linter.unusedVariables false

/-- A reader in block B that has drawn at most m times. -/
def RdU (w : World) (B m : Nat) : Prop := ∃ a len cap q, Rd w B q a len cap ∧ q ≤ m
theorem RdU.lt {w : World} {B m : Nat} (h : RdU w B m) : B < w.heap.size := by obtain ⟨a, len, cap, q, h, _⟩ := h; exact h.lt
theorem RdU.below {w w' : World} {B B' m : Nat} (h : RdU w B m) (hb : Below B' w w') (hB : B < B') : RdU w' B m := by
  obtain ⟨a, len, cap, q, h, hq⟩ := h
  exact ⟨a, len, cap, q, h.below hb hB, hq⟩
theorem RdU.mono {w : World} {B m m' : Nat} (h : RdU w B m) (hm : m ≤ m') : RdU w B m' := by
  obtain ⟨a, len, cap, q, h, hq⟩ := h
  exact ⟨a, len, cap, q, h, by omega⟩
theorem Oth.below {B : Nat} {w w' : World} (h : Below w.heap.size w w') : Oth B w w' := ⟨h.size, fun k hk _ => h.block k hk⟩
theorem Oth.drew {B : Nat} {a w : World} (h : Oth B a w) : Oth B a w.drew := ⟨h.1, h.2⟩

theorem RdU.drew {w : World} {B m : Nat} (h : RdU w B m) : RdU w.drew B m := by
  obtain ⟨a, len, cap, q, h, hq⟩ := h
  exact ⟨a, len, cap, q, h.drewN 1, hq⟩
theorem RdU.alloc {w : World} {B m : Nat} (h : RdU w B m) (o : Obj) : RdU (w.alloc o) B m := h.below ((Below.refl w.heap.size w).alloc (Nat.le_refl _) o) h.lt
/-- A draw that yields a number with a property. -/
def DrI (P : Int → Prop) (w : World) (B m : Nat) (e : Ending) (w' : World) : Prop := ∃ v : Int, P v ∧ e = .returned (.int .i64 v) ∧ RdU w' B m ∧ Oth B w w' ∧ Below B w w'
theorem pickU (B m : Nat) (n : Int) (w : World) (h : RdU w B m) (hm : m < 1099511627776) (hn : 1 ≤ n) (hn' : n ≤ 4611686018427387904) :
    Calls Try.prog 75 #[.pointer (some ⟨B, 0, none⟩), .int .i64 n] w (DrI (fun v => 0 ≤ v ∧ v < n) w B (m + 1)) := by
  obtain ⟨a, len, cap, q, h, hq⟩ := h
  exact (pick_one B q a len cap n w h (by omega) hn hn').mono fun e w' ⟨v, k, h1, h2, h3, h4⟩ => ⟨v, ⟨h2, h3⟩, h1, by rw [h4]; exact ⟨a, len, cap, q + 1, h.next k, by omega⟩, by rw [h4]; exact Oth.step w _ k, by rw [h4]; exact Rd.below_step k⟩
theorem numU (B m b o n c : Nat) (zs : List Int) (w : World) (h : RdU w B m) (hm : m < 1099511627776) (hb : b ≠ B) (hz : zs.length = n) (hn : 1 ≤ n) (hn' : n ≤ 4611686018427387904)
    (hc : ∀ i, i < n → w.cell? ⟨b, o + i, none⟩ = some (.int .i64 (zs.getD i 0))) :
    Calls Try.prog 51 #[.pointer (some ⟨B, 0, none⟩), .slice (some ⟨b, o, none⟩) n c] w (DrI (fun v => v ∈ zs) w B (m + 1)) := by
  obtain ⟨a, len, cap, q, h, hq⟩ := h
  exact (num_one B q a len cap b o n c zs w h (by omega) hb hz hn hn' hc).mono fun e w' ⟨i, k, h1, h2, h3⟩ => ⟨zs.getD i 0, by rw [List.getD_eq_getElem?_getD, List.getElem?_eq_getElem (by omega)]; exact List.getElem_mem _, h2, by rw [h3]; exact ⟨a, len, cap, q + 1, h.next k, by omega⟩, by rw [h3]; exact Oth.step w _ k, by rw [h3]; exact Rd.below_step k⟩

theorem lit_cells (w : World) (xs : List Int) (t : TypeId) : ∀ i, i < xs.length → (w.alloc (.cells (xs.map (Value.int .i64)).toArray t)).cell? ⟨w.heap.size, 0 + i, none⟩ = some (.int .i64 (xs.getD i 0)) := fun i hi => by
  rw [cell_at (heap_alloc_new w _)]
  simp [List.getD, hi]

end Go.Proofs.Yteoaecfjgbkefaa

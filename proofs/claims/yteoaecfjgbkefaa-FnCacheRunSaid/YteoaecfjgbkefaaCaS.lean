/- The model's small functions on caches: l10Copy copies, l10Access writes a line and tells a hit, l10Fill, EmptyCache and PrimeCache make caches. -/
import Derived.Test.YteoaecfjgbkefaaCaV
import Derived.Test.YteoaecfjgbkefaaCaH
import Derived.Test.YteoaecfjgbkefaaThCB
namespace Go.Proofs.Yteoaecfjgbkefaa
open Go.RowKit
set_option linter.unusedVariables false

theorem ownS_eq {g k n c : Nat} (e : (Value.slice (some ⟨g, 0, none⟩) n c).ownBlock = some k) : g = k := by cases e; rfl
theorem cellI_of {w : World} {base g n cap : Nat} {xs : List Int} (h : OwnI w base (.slice (some ⟨g, 0, none⟩) n cap) xs) (k : Nat) (hk : k < n) : w.cell? ⟨g, k, none⟩ = some (.int .i64 (xs.getD k 0)) ∧ w.frozen? ⟨g, k, none⟩ = false := by
  have hl := h.sl.2
  subst hl
  have h1 : w.ownsRow base 3 1 (.slice (some ⟨g, 0, none⟩) xs.length cap) xs.length (xs.map (Value.int .i64)) := h
  refine ⟨?_, h1.frozenAt k⟩
  have := h1.cellAt k (by omega)
  rw [this]; simp [List.getD, hk]
theorem OwnI.ptr {w : World} {base n cap : Nat} {a : Option Addr} {xs : List Int} (h : OwnI w base (.slice a n cap) xs) (hn : 0 < n) : ∃ g, a = some ⟨g, 0, none⟩ ∧ base ≤ g ∧ g < w.heap.size := by
  rcases h.view with ⟨e, e2⟩ | ⟨g, cp, e, h1, h2, _⟩
  · cases e; omega
  · cases e; exact ⟨g, rfl, h1, h2⟩
theorem OwnI.put {w : World} {base g n cap : Nat} {xs : List Int} (h : OwnI w base (.slice (some ⟨g, 0, none⟩) n cap) xs) (k : Nat) (x : Int) : OwnI (w.setCell ⟨g, k, none⟩ (.int .i64 x)) base (.slice (some ⟨g, 0, none⟩) n cap) (xs.set k x) := by
  have hl := h.sl.2
  subst hl
  have h1 : w.ownsRow base 3 1 (.slice (some ⟨g, 0, none⟩) xs.length cap) xs.length (xs.map (Value.int .i64)) := h
  unfold OwnI
  rw [List.length_set, List.map_set]
  exact (h1.stored k (.int .i64 x)).1

/-- The world behind an access to a row in block g. -/
def accW (w : World) (g : Nat) (a : Nat) : World := w.setCell ⟨g, lnA a, none⟩ (.int .i64 ((a / 2 : Nat) : Int))
theorem accW_row {w : World} {base g cap : Nat} {c : Ca} (h : OwnI w base (.slice (some ⟨g, 0, none⟩) 2 cap) c.l) (a : Nat) : OwnI (accW w g a) base (.slice (some ⟨g, 0, none⟩) 2 cap) (c.acc a).l := by
  have h1 := h.put (lnA a) ((a / 2 : Nat) : Int)
  have e : c.l.set (lnA a) ((a / 2 : Nat) : Int) = (c.acc a).l := by
    unfold Ca.acc Ca.set Ca.l
    have : lnA a = 0 ∨ lnA a = 1 := by unfold lnA; omega
    rcases this with h | h <;> rw [h] <;> rfl
  rw [e] at h1
  exact h1
theorem accW_size (w : World) (g a : Nat) : (accW w g a).heap.size = w.heap.size := by simp [accW, World.setCell]
theorem accW_other (w : World) (g a j : Nat) (h : j ≠ g) : (accW w g a).heap[j]? = w.heap[j]? := Below.heap_setCell _ _ _ _ (by simpa using h)
theorem accW_below {w0 w : World} {B : Nat} (h : Below B w0 w) (g a : Nat) (hg : B ≤ g) : Below B w0 (accW w g a) := h.setCell (p := ⟨g, lnA a, none⟩) hg _

set_option maxHeartbeats 4000000 in
/-- **l10Access.** -/
theorem sAcc_one (c : Ca) (a base g cap : Nat) (w : World) (h : OwnI w base (.slice (some ⟨g, 0, none⟩) 2 cap) c.l) (ha : a < 8) :
    Calls Try.prog 58 #[aggCa (some ⟨g, 0, none⟩) 2 cap, .int .i64 (a : Int)] w fun e w' => e = .returned (.bool (c.hit a)) ∧ w' = accW (w.alloc (.cells #[.slice (some ⟨g, 0, none⟩) 2 cap] 25)) g a := by
  have hown : OwnI (w.alloc (.cells #[.slice (some ⟨g, 0, none⟩) 2 cap] 25)) base (.slice (some ⟨g, 0, none⟩) 2 cap) c.l := h.later ((Below.refl _ w).alloc (Nat.le_refl _) _)
  have hg : g ≠ w.heap.size := by obtain ⟨g', e, _, h2⟩ := h.ptr (by omega); cases e; omega
  obtain ⟨c0, c1⟩ := c
  obtain ⟨m0, n0⟩ := cellI_of hown 0 (by omega)
  obtain ⟨m1, n1⟩ := cellI_of hown 1 (by omega)
  replace m0 : (w.alloc (.cells #[.slice (some ⟨g, 0, none⟩) 2 cap] 25)).cell? ⟨g, 0, none⟩ = some (.int .i64 c0) := m0
  replace m1 : (w.alloc (.cells #[.slice (some ⟨g, 0, none⟩) 2 cap] 25)).cell? ⟨g, 1, none⟩ = some (.int .i64 c1) := m1
  clear hown h
  obtain rfl | rfl | rfl | rfl | rfl | rfl | rfl | rfl : a = 0 ∨ a = 1 ∨ a = 2 ∨ a = 3 ∨ a = 4 ∨ a = 5 ∨ a = 6 ∨ a = 7 := by omega
  all_goals
    go_enter Try.func58, Try.ntmps58
    go_wp2
    go_ret
    exact ⟨rfl, rfl⟩

/-- A cache is handed back whose lines lie in a row of the call's own. -/
def OwnCa (xs : List Int) (w : World) (e : Ending) (w' : World) : Prop := ∃ a n c, e = .returned (aggCa a n c) ∧ xs.length = n ∧ OwnI w' w.heap.size (.slice a n c) xs ∧ Below w.heap.size w w'

set_option maxRecDepth 100000 in
set_option maxHeartbeats 2000000 in
/-- **l10Copy.** -/
theorem sCopy_one (xs : List Int) (a : Option Addr) (n c : Nat) (w : World) (h : SliceI w a n xs) (hm : n ≤ 1048576) :
    Calls Try.prog 57 #[aggCa a n c] w (OwnCa xs w) := by
  obtain ⟨k0, kinf, kj0, kj1, kj2⟩ := info_parts Try.infoI
  obtain ⟨W2, hW2⟩ : ∃ W, (w.alloc (.cells #[.slice a n c] 25)).alloc (.cells #[.slice none 0 0] 25) = W := ⟨_, rfl⟩
  have hz2 : W2.heap.size = w.heap.size + 2 := by rw [← hW2]; simp
  have hB2 : Below w.heap.size w W2 := by rw [← hW2]; exact ((Below.refl _ w).alloc (Nat.le_refl _) _).alloc (by simp) _
  have hR : W2.heap[w.heap.size + 1]? = some (.cells #[.slice none 0 0] 25 (0, 0)) := by
    rw [← hW2]
    have := heap_alloc_new (w.alloc (.cells #[.slice a n c] 25)) (.cells #[.slice none 0 0] 25)
    simpa using this
  have hA : W2.heap[w.heap.size]? = some (.cells #[.slice a n c] 25 (0, 0)) := by
    rw [← hW2, Below.heap_alloc _ _ _ (by simp)]
    exact heap_alloc_new w _
  have hB3 : Below w.heap.size w (W2.alloc (.cells #[] 3)) := hB2.alloc (by omega) _
  have hnews : NewsAt (W2.alloc (.cells #[] 3)) a n (xs.map (Value.int .i64)) := NewsAt.ints (h.below hB3)
  have hlen : (xs.map (Value.int .i64)).length = n * 1 := by rw [← h.2.1]; simp
  have hone : ∀ u ∈ xs.map (Value.int .i64), u.oneCell' = true := by simp [Value.oneCell']
  have hown : (W2.alloc (.cells #[] 3)).ownsRow (w.heap.size + 2) 3 1 (.slice (some ⟨w.heap.size + 1 + 1, 0, none⟩) 0 0) 0 [] := by
    have := World.ownsRow_made W2 (base := w.heap.size + 2) (e := 3) (size := 1) #[] 0 (by omega) (by unfold maxLen; omega) rfl
    rw [hz2] at this
    exact this
  have c0 : (W2.alloc (.cells #[] 3)).cell? ⟨w.heap.size, 0, none⟩ = some (.slice a n c) := by
    rw [cell_at ((Below.heap_alloc _ _ _ (by omega)).trans hA)]; rfl
  have HL := Lib.hid h.2.1
  have HLEN := Lib.hid hlen
  have HW := Lib.hid hW2
  have HZ := Lib.hid hz2
  have hge : w.heap.size + 2 ≤ W2.heap.size := by omega
  have hle : W2.heap.size ≤ w.heap.size + 2 := by omega
  have hB3' := Lib.hid hB3
  have HR : Hid ((W2.alloc (.cells #[] 3)).heap[w.heap.size + 1]? = some (.cells #[.slice none 0 0] 25 (0, 0))) := (Below.heap_alloc _ _ _ (by omega)).trans hR
  clear h hlen hW2 hR hA hB2 hB3 hz2
  go_enter Try.func57, Try.ntmps57
  go_wp2_with (first
    | (at_builtin
       rw [HW.out]
       refine wpList_append_any _ (by rfl) _ _ 23 (by rfl) (w.heap.size + 2) 3 k0 _ 1 8 Try.underlying23 kinf kj0 kj1 kj2 rfl (by omega) (.slice (some ⟨w.heap.size + 1 + 1, 0, none⟩) 0 0) 0 _ (by rfl) hown a n c _ (by rfl) HLEN.out hnews hone (by unfold maxLen; omega) (by omega) (by simp; omega) ?_
       intro v' w6 hap
       obtain ⟨a', c', hv, h1, h2, _⟩ := hap
       rw [Nat.zero_add] at hv h1
       rw [List.nil_append] at h1
       subst hv
       have HO : Hid (OwnI w6 (w.heap.size + 2) (.slice a' n c') xs) := by unfold OwnI; rw [HL.out]; exact h1
       have HB6 : Hid (Below w.heap.size w w6) := hB3'.out.grown h2 (by simp; omega) (fun k e => by have e' := ownS_eq e; omega)
       have hR6 : w6.heap[w.heap.size + 1]? = some (.cells #[.slice none 0 0] 25 (0, 0)) := (h2.block _ (by simp; omega) (fun e => by have e' := ownS_eq e.symm; omega)).trans HR.out
       have r0 := cell_at hR6 0
       have r1 := frozen_of_row _ _ 0 _ _ hR6
       have R2 : Hid ((w6.setCell ⟨w.heap.size + 1, 0, none⟩ (.slice a' n c')).cell? ⟨w.heap.size + 1, 0, none⟩ = some (.slice a' n c')) := World.cell?_setCell_same' _ _ _ (by rw [r0]; rfl)
       have hs1 : (#[Value.slice a' n c'] : Array Value).size = 1 := rfl
       clear h1 h2 hR6 hnews hone hown c0)
    | fail)
  have r2 := R2.out
  refine bodyPost_ret (v := aggCa a' n c') (by simp [results, Try.f57, go_sem, r2]) rfl ?_
  refine ⟨a', n, c', rfl, HL.out, (HO.out.mono (by omega)).far fun g hg hlt => ?_, HB6.out.setCell (p := ⟨w.heap.size + 1, 0, none⟩) (by simp) _⟩
  have := (HO.out.lt g hg).1
  exact Below.heap_setCell _ _ _ _ (by simp; omega)

end Go.Proofs.Yteoaecfjgbkefaa

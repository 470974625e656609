/- Nodes of expression trees by their addresses: what a node is in memory, and the contracts of sameExprNode, branches and isLeaf at them. -/
import Derived.Test.YtjmfnpljkiobkaaRep
import Derived.BigQuiet
import Derived.Deep.QuietTactic
namespace Go.Proofs.Ytjmfnpljkiobkaa
open Go.RowKit Go.ChangeMaps
set_option linter.unusedVariables false

/-- The addresses of the elements of a slice of expressions. -/
def els : Option Addr → Nat → List Addr
  | none, _ => []
  | some a, n => (List.range n).map fun i => ⟨a.block, a.off + i * 3, none⟩
theorem els_at (b o n i : Nat) (hi : i < n) : (els (some ⟨b, o, none⟩) n)[i]? = some ⟨b, o + i * 3, none⟩ := by simp [els, hi]

/-- A slice of nodes. -/
structure SlN (N : Addr → Prop) (a : Option Addr) (n c : Nat) (l : List Addr) : Prop where
  eq : l = els a n
  len : l.length = n
  le : n ≤ c
  max : c ≤ maxLen
  ok : ∀ x ∈ l, N x
  sp : ∀ b, a = some b → 0 < n → b.spot = none
theorem SlN.nil (N : Addr → Prop) : SlN N none 0 0 [] := ⟨rfl, rfl, Nat.le_refl _, by unfold maxLen; omega, by simp, by simp⟩
theorem SlN.at {N : Addr → Prop} {a : Option Addr} {n c : Nat} {l : List Addr} (h : SlN N a n c l) {i : Nat} (hi : i < n) : ∃ b o, a = some ⟨b, o, none⟩ ∧ l[i]? = some ⟨b, o + i * 3, none⟩ ∧ N ⟨b, o + i * 3, none⟩ := by
  cases a with
  | none =>
    have h1 := h.eq
    have h2 := h.len
    rw [h1] at h2
    simp [els] at h2
    omega
  | some a =>
    obtain ⟨b, o, s⟩ := a
    obtain rfl : s = none := h.sp _ rfl (by omega)
    have h1 := els_at b o n i hi
    rw [← h.eq] at h1
    exact ⟨b, o, rfl, h1, h.ok _ (List.mem_of_getElem? h1)⟩

/-- x is a node: its kind and value, and the slice of its operands. -/
structure NodeW (w : World) (N : Addr → Prop) (kd : Addr → List Addr) (kn : Addr → Int × Int) (x : Addr) : Prop where
  pl : PlA w x
  sp : x.spot = none
  c0 : w.cell? ⟨x.block, x.off, none⟩ = some (.int .i64 (kn x).1)
  c1 : w.cell? ⟨x.block, x.off + 1, none⟩ = some (.int .i64 (kn x).2)
  c2 : ∃ a n c, w.cell? ⟨x.block, x.off + 2, none⟩ = some (.slice a n c) ∧ SlN N a n c (kd x)
theorem NodeW.stand {w w' : World} {N : Addr → Prop} {kd : Addr → List Addr} {kn : Addr → Int × Int} {x : Addr} (h : NodeW w N kd kn x) (hs : w'.heap[x.block]? = w.heap[x.block]?) : NodeW w' N kd kn x := by
  obtain ⟨⟨cs, T, h1⟩, h2, h3, h4, a, n, c, h5, h6⟩ := h
  have k : ∀ j, w'.cell? ⟨x.block, j, none⟩ = w.cell? ⟨x.block, j, none⟩ := fun j => World.cell?_of_block (w := w) (a := ⟨x.block, j, none⟩) hs
  exact ⟨⟨cs, T, hs.trans h1⟩, h2, (k _).trans h3, (k _).trans h4, a, n, c, (k _).trans h5, h6⟩

def QNb (b : Bool) (w : World) (e : Ending) (w' : World) : Prop := e = .returned (.bool b) ∧ ∃ m, w' = w.drewN m

set_option maxRecDepth 100000 in
set_option maxHeartbeats 1000000 in
theorem same_one (w : World) (N : Addr → Prop) (kd : Addr → List Addr) (kn : Addr → Int × Int) (x y : Addr) (hx : NodeW w N kd kn x) (hy : NodeW w N kd kn y) :
    Calls Try.prog 30 #[.pointer (some x), .pointer (some y)] w (QNb (decide (kn x = kn y)) w) := by
  obtain ⟨bx, ox, sx⟩ := x
  obtain ⟨by', oy, sy⟩ := y
  obtain rfl : sx = none := hx.sp
  obtain rfl : sy = none := hy.sp
  have c0 := hx.c0
  have c1 := hx.c1
  have d0 := hy.c0
  have d1 := hy.c1
  obtain ⟨⟨k1, v1⟩, hk⟩ : ∃ z, kn ⟨bx, ox, none⟩ = z := ⟨_, rfl⟩
  obtain ⟨⟨k2, v2⟩, hk'⟩ : ∃ z, kn ⟨by', oy, none⟩ = z := ⟨_, rfl⟩
  rw [hk] at c0 c1
  rw [hk'] at d0 d1
  rw [hk, hk']
  simp only at c0 c1 d0 d1
  clear hx hy hk hk'
  have fin : ∀ (b : Bool) (m : Nat), b = decide ((k1, v1) = (k2, v2)) → QNb (decide ((k1, v1) = (k2, v2))) w (.returned (.bool b)) (w.drewN m) := fun b m h => ⟨by rw [h], m, rfl⟩
  have HF := Lib.hid fin
  clear fin
  by_cases h1 : k1 = k2
  · subst h1
    by_cases h2 : v1 = v2
    · subst h2
      go_enter Try.func30, Try.ntmps30
      go_wp2_with fail
      go_quiet (fail)
      go_wp2_with fail
      go_ret
      exact HF.out _ _ (by simp)
    · have h3 : (v1 == v2) = false := by simpa using h2
      go_enter Try.func30, Try.ntmps30
      go_wp2_with fail
      go_quiet (fail)
      go_wp2_with fail
      go_ret
      exact HF.out _ _ (by simp [h2])
  · have h3 : (k1 == k2) = false := by simpa using h1
    go_enter Try.func30, Try.ntmps30
    go_wp2_with fail
    go_quiet (fail)
    go_wp2_with fail
    go_ret
    exact HF.out _ _ (by simp [h1])

/-- Two slices of nodes, as an array. -/
abbrev two (a : Option Addr) (n c : Nat) (a' : Option Addr) (n' c' : Nat) : Value := .agg #[.slice a n c, .slice a' n' c']

set_option maxRecDepth 100000 in
set_option maxHeartbeats 1000000 in
theorem branches_one (w : World) (k v : Int) (a : Option Addr) (n c : Nat) :
    Calls Try.prog 106 #[.agg #[.int .i64 k, .int .i64 v, .slice a n c]] w fun e w' => e = .returned (two a n c none 0 0) ∧ Below w.heap.size w w' := by
  go_enter Try.func106, Try.ntmps106
  go_wp2_with fail
  have hx := heap_alloc_new (w.alloc (.cells #[.int .i64 k, .int .i64 v, .slice a n c] 38)) (.cells #[.slice a n c, .slice none 0 0] 84)
  rw [World.size_alloc] at hx
  have h0 := cell_at hx 0
  have h1 := cell_at hx 1
  exact bodyPost_ret (v := two a n c none 0 0) (by simp [results, Try.f106, go_sem, h0, h1]) rfl ⟨rfl, ((Below.refl _ w).alloc (Nat.le_refl _) _).alloc (by simp) _⟩

set_option maxRecDepth 100000 in
set_option maxHeartbeats 1000000 in
theorem isLeaf_one (w : World) (a : Option Addr) (n c : Nat) (a' : Option Addr) (n' c' : Nat) :
    Calls Try.prog 49 #[two a n c a' n' c'] w fun e w' => e = .returned (.bool (decide (n = 0) && decide (n' = 0))) ∧ Below w.heap.size w w' := by
  by_cases h1 : n = 0
  · subst h1
    by_cases h2 : n' = 0
    · subst h2
      go_enter Try.func49, Try.ntmps49
      go_wp2_with fail
      go_ret
      exact ⟨by simp, (Below.refl _ w).alloc (Nat.le_refl _) _⟩
    · have h3 : ((n' : Int) == 0) = false := by simpa using h2
      go_enter Try.func49, Try.ntmps49
      go_wp2_with fail
      go_ret
      exact ⟨by simp [h2], (Below.refl _ w).alloc (Nat.le_refl _) _⟩
  · have h3 : ((n : Int) == 0) = false := by simpa using h1
    go_enter Try.func49, Try.ntmps49
    go_wp2_with fail
    go_ret
    exact ⟨by simp [h1], (Below.refl _ w).alloc (Nat.le_refl _) _⟩

end Go.Proofs.Ytjmfnpljkiobkaa

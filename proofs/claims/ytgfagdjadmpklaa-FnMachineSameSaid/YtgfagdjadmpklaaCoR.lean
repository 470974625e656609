/- Rows of instructions that a call owns: a spot of one, and one written anew. -/
import Derived.Test.YtgfagdjadmpklaaCgR
import Derived.Test.YtgfagdjadmpklaaIn
import Derived.Test.YtgfagdjadmpklaaMutB
import Derived.Test.YtgfagdjadmpklaaPut
namespace Go.Proofs.Ytgfagdjadmpklaa
open Go.RowKit
set_option linter.unusedVariables false

/-- A row of instructions that a call owns. -/
abbrev RowN (w : World) (base : Nat) (v : Value) (xs : List Ins) : Prop := RowG 118 5 (fun (x : Ins) (_ : Unit) => [.int .i64 x.op, .int .i64 x.fa, .int .i64 x.fb, .int .i64 x.fc, .int .i64 x.fd]) (fun _ _ _ _ => True) w base v xs
theorem hRN : ∀ (w w' : World) (D D' : Nat → Prop) (x : Ins) (k : Unit), Stand D w w' → (∀ j, D j → D' j) → True → True := fun _ _ _ _ _ _ _ _ h => h

theorem RowN.spot {v : World} {base g n cap : Nat} {ys : List Ins} (h : RowN v base (.slice (some ⟨g, 0, none⟩) n cap) ys) (hn : ys.length = n) {o : Nat} (ho : o < n * 5) : (∃ c, v.cell? ⟨g, o, none⟩ = some c) ∧ v.frozen? ⟨g, o, none⟩ = false ∧ base ≤ g ∧ g < v.heap.size := by
  obtain ⟨L, h1, h2, h3⟩ := h
  rw [hn] at h2
  rcases h2.2 with ⟨e, _⟩ | ⟨g', cap', cur, e, hb, hg, hn', hm, hc, ht⟩
  · cases e
  · cases e
    have hle : n * 5 ≤ cap * 5 := Nat.mul_le_mul_right _ hn'
    exact ⟨cell_ex hg o (by omega), frozen_at hg o, hb, (Array.getElem?_eq_some_iff.1 hg).1⟩

theorem RowN.nat {v : World} {base n cap : Nat} {a : Option Addr} {ys : List Ins} (h : RowN v base (.slice a n cap) ys) : NAt v (fun j => base ≤ j ∧ j < v.heap.size) ys a := by
  obtain ⟨L, h1, h2, h3⟩ := h
  rcases h2.2 with ⟨e, e2⟩ | ⟨g, cap', cur, e, hb, hg, hn, hm, hc, ht⟩
  · obtain rfl : ys = [] := List.eq_nil_of_length_eq_zero e2
    exact ⟨Nat.zero_le _, fun i x hx => by simp at hx⟩
  · injection e with e1 e2 e3
    subst e1 e2 e3
    refine ⟨Nat.le_trans hn hm, fun i x hx => ?_⟩
    have hi := (List.getElem?_eq_some_iff.1 hx).1
    obtain ⟨k, hk⟩ : ∃ k, L[i]? = some k := ⟨L[i]'(by omega), List.getElem?_eq_getElem _⟩
    have hcell : ∀ j, j < 5 → v.cell? ⟨g, 0 + i * 5 + j, none⟩ = ([.int .i64 x.op, .int .i64 x.fa, .int .i64 x.fb, .int .i64 x.fc, .int .i64 x.fd] : List Value)[j]? := fun j hj => by
      have := cellsL_at (sz := 5) (C := fun (x : Ins) (_ : Unit) => [.int .i64 x.op, .int .i64 x.fa, .int .i64 x.fb, .int .i64 x.fc, .int .i64 x.fd]) (fun _ _ => rfl) ys L i j x k hx hk hj
      rw [Nat.zero_add, World.ownsRow.cellAt h2 (i * 5 + j) (by omega)]
      exact this
    exact ⟨g, 0, rfl, ⟨hb, (Array.getElem?_eq_some_iff.1 hg).1⟩, hcell 0 (by omega), hcell 1 (by omega), hcell 2 (by omega), hcell 3 (by omega), hcell 4 (by omega)⟩

theorem RowN.set1 {v : World} {base g n cap : Nat} {ys : List Ins} (h : RowN v base (.slice (some ⟨g, 0, none⟩) n cap) ys) (hn : ys.length = n) {i j : Nat} {x x' : Ins} {u : Value} (hx : ys[i]? = some x) (hj : j < 5)
    (hs : ([.int .i64 x.op, .int .i64 x.fa, .int .i64 x.fb, .int .i64 x.fc, .int .i64 x.fd] : List Value).set j u = [.int .i64 x'.op, .int .i64 x'.fa, .int .i64 x'.fb, .int .i64 x'.fc, .int .i64 x'.fd]) :
    RowN (v.setCell ⟨g, i * 5 + j, none⟩ u) base (.slice (some ⟨g, 0, none⟩) n cap) (ys.set i x') := by
  subst hn
  exact RowG.set (T := 118) (sz := 5) (C := fun (x : Ins) (_ : Unit) => [.int .i64 x.op, .int .i64 x.fa, .int .i64 x.fb, .int .i64 x.fc, .int .i64 x.fd]) (R := fun _ _ _ _ => True) (fun _ _ => rfl) hRN h hx hj (fun _ => hs) (fun _ _ _ _ => trivial)

/-- One instruction written anew, field after field. -/
theorem RowN.setI {v : World} {base g n cap : Nat} {ys : List Ins} (h : RowN v base (.slice (some ⟨g, 0, none⟩) n cap) ys) (hn : ys.length = n) {i : Nat} (hi : i < n) (x : Ins) :
    RowN (((((v.setCell ⟨g, i * 5 + 0, none⟩ (.int .i64 x.op)).setCell ⟨g, i * 5 + 1, none⟩ (.int .i64 x.fa)).setCell ⟨g, i * 5 + 2, none⟩ (.int .i64 x.fb)).setCell ⟨g, i * 5 + 3, none⟩ (.int .i64 x.fc)).setCell ⟨g, i * 5 + 4, none⟩ (.int .i64 x.fd)) base (.slice (some ⟨g, 0, none⟩) n cap) (ys.set i x) := by
  obtain ⟨y, hy⟩ : ∃ y, ys[i]? = some y := ⟨ys[i]'(by omega), List.getElem?_eq_getElem _⟩
  have e1 : ∀ (zs : List Ins) (z : Ins), zs.length = n → (zs.set i z)[i]? = some z := fun zs z hz => List.getElem?_set_self (by omega)
  have h0 := h.set1 (j := 0) (x' := { y with op := x.op }) hn hy (by omega) rfl
  have h1 := h0.set1 (j := 1) (x' := { y with op := x.op, fa := x.fa }) (by simpa using hn) (e1 _ _ hn) (by omega) rfl
  rw [List.set_set] at h1
  have h2 := h1.set1 (j := 2) (x' := { y with op := x.op, fa := x.fa, fb := x.fb }) (by simpa using hn) (e1 _ _ hn) (by omega) rfl
  rw [List.set_set] at h2
  have h3 := h2.set1 (j := 3) (x' := { y with op := x.op, fa := x.fa, fb := x.fb, fc := x.fc }) (by simpa using hn) (e1 _ _ hn) (by omega) rfl
  rw [List.set_set] at h3
  have h4 := h3.set1 (j := 4) (x' := x) (by simpa using hn) (e1 _ _ hn) (by omega) rfl
  rw [List.set_set] at h4
  exact h4

/-- The world behind it: nothing but the row's block has changed. -/
theorem ins_oth {v w : World} {B g i : Nat} {a b c d e : Value} (h : Oth B w v) (hg : w.heap.size ≤ g) : Oth B w (((((v.setCell ⟨g, i * 5 + 0, none⟩ a).setCell ⟨g, i * 5 + 1, none⟩ b).setCell ⟨g, i * 5 + 2, none⟩ c).setCell ⟨g, i * 5 + 3, none⟩ d).setCell ⟨g, i * 5 + 4, none⟩ e) := by
  refine ⟨by simpa [World.setCell] using h.1, fun q hq hqB => ?_⟩
  have hne : q ≠ g := by omega
  rw [cell_other _ _ _ _ _ hne, cell_other _ _ _ _ _ hne, cell_other _ _ _ _ _ hne, cell_other _ _ _ _ _ hne, cell_other _ _ _ _ _ hne]
  exact h.2 q hq hqB
theorem ins_blk {v : World} {g i q : Nat} {a b c d e : Value} (hne : q ≠ g) : (((((v.setCell ⟨g, i * 5 + 0, none⟩ a).setCell ⟨g, i * 5 + 1, none⟩ b).setCell ⟨g, i * 5 + 2, none⟩ c).setCell ⟨g, i * 5 + 3, none⟩ d).setCell ⟨g, i * 5 + 4, none⟩ e).heap[q]? = v.heap[q]? := by
  rw [cell_other _ _ _ _ _ hne, cell_other _ _ _ _ _ hne, cell_other _ _ _ _ _ hne, cell_other _ _ _ _ _ hne, cell_other _ _ _ _ _ hne]
theorem ins_below {v w : World} {B g i : Nat} {a b c d e : Value} (h : Below B w v) (hg : B ≤ g) : Below B w (((((v.setCell ⟨g, i * 5 + 0, none⟩ a).setCell ⟨g, i * 5 + 1, none⟩ b).setCell ⟨g, i * 5 + 2, none⟩ c).setCell ⟨g, i * 5 + 3, none⟩ d).setCell ⟨g, i * 5 + 4, none⟩ e) :=
  ((((h.setCell (p := ⟨g, i * 5 + 0, none⟩) hg a).setCell (p := ⟨g, i * 5 + 1, none⟩) hg b).setCell (p := ⟨g, i * 5 + 2, none⟩) hg c).setCell (p := ⟨g, i * 5 + 3, none⟩) hg d).setCell (p := ⟨g, i * 5 + 4, none⟩) hg e

theorem insB_const (nv na n : Nat) (z : Int) (h0 : 0 ≤ z) (h1 : z ≤ 255) : insB nv na n ⟨1, 5, z, 0, 0⟩ = true := by
  have e0 : kdAt ((1 : Int).toNat) 0 = 1 := rfl
  have e1 : kdAt ((1 : Int).toNat) 1 = 2 := rfl
  have e2 : kdAt ((1 : Int).toNat) 2 = 0 := rfl
  have e3 : kdAt ((1 : Int).toNat) 3 = 0 := rfl
  unfold insB
  rw [e0, e1, e2, e3]
  simp [fldB, h0, h1]
theorem insB_loop (nv na n : Nat) (h : 1 < n) : insB nv na n ⟨10, 5, 1, 0, 0⟩ = true := by
  have e0 : kdAt ((10 : Int).toNat) 0 = 1 := rfl
  have e1 : kdAt ((10 : Int).toNat) 1 = 6 := rfl
  have e2 : kdAt ((10 : Int).toNat) 2 = 0 := rfl
  have e3 : kdAt ((10 : Int).toNat) 3 = 0 := rfl
  unfold insB
  rw [e0, e1, e2, e3]
  simp [fldB]
  omega

end Go.Proofs.Ytgfagdjadmpklaa

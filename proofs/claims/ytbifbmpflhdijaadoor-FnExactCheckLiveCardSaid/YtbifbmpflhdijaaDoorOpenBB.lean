/- An argument of type [][]bool, opened: whatever reads as a value of that type lies in memory as a list of lists of bools. -/
import Derived.Test.YtbifbmpflhdijaaDoorBb
import Derived.ChangeSame
import Derived.ChangeArms
namespace Go.Proofs.YtbifbmpflhdijaaDoor
open Go.RowKit Go.ChangeShapes Go.WideShapes Go.Deep
set_option linter.unusedVariables false

theorem bb_add (b o k : Nat) : (⟨b, o, none⟩ : Addr).add k = ⟨b, o + k, none⟩ := by unfold Addr.add; split <;> simp_all
theorem bb_cellsBool : Tryd.prog.cellsOf 4 = 1 := by kernel_rfl
theorem bb_cellsBools : Tryd.prog.cellsOf 47 = 1 := by kernel_rfl

set_option maxRecDepth 100000 in
theorem open_bools {H : Type} {enc : TypeId × Value → H} {w : World} {base : Nat} {sp : Nat → Bool} {hd : Bool} (n : Nat) (c : Value) (x : DataW H × List MemPlace) (h : DataW.trod enc Tryd.prog w base sp hd n 47 [c] = some x) :
    ∃ bs a cap, c = .slice a bs.length cap ∧ BAt w (fun k => k < w.heap.size) bs a := by
  rcases DataW.trod_slice Tryd.underlying47 h with ⟨e2, _⟩ | ⟨a, len, cap, elems, rest, m, rfl, e2, _, _, hlc, hcm, helen, hel, _, _⟩
  · cases e2
    exact ⟨[], none, 0, rfl, by unfold maxLen; simp, fun i x hx => by simp at hx⟩
  · cases e2
    have hE : ∀ i, i < len → ∃ t : Bool, w.cell? (a.add i) = some (.bool t) := fun i hi => by
      have h1 := hel i hi
      rw [bb_cellsBool, List.getElem?_eq_getElem (by omega)] at h1
      obtain ⟨cs', hcs', ht⟩ := Option.bind_eq_some_iff.1 h1
      obtain ⟨_, hl3, hat⟩ := World.cells?_some hcs'
      match cs', hl3 with
      | [c0], _ =>
        obtain ⟨k, e0, _⟩ := DataW.trod_bool Tryd.underlying4 ht
        cases e0
        have := hat 0 (by omega)
        simp only [Nat.mul_one] at this
        exact ⟨k, by simpa [Addr.add] using this⟩
    let F : Nat → Bool := fun i => if h : i < len then Classical.choose (hE i h) else false
    refine ⟨(List.range len).map F, some a, cap, by simp, by simp; omega, fun i x hx => ?_⟩
    obtain ⟨hi, hxe⟩ := List.getElem?_eq_some_iff.1 hx
    have hi' : i < len := by simpa using hi
    have hspec := Classical.choose_spec (hE i hi')
    have e : F i = Classical.choose (hE i hi') := dif_pos hi'
    have hF : x = F i := by rw [← hxe]; simp
    obtain ⟨b, o, sp'⟩ := a
    have hs : sp' = none := by
      obtain ⟨t, q⟩ := hE 0 (by omega)
      simpa [Addr.add] using World.cell?_spot q
    subst hs
    rw [← e, ← hF, bb_add] at hspec
    exact ⟨b, o, rfl, World.block_lt_of_cell? w _ hspec, hspec⟩

set_option maxRecDepth 100000 in
/-- **AN ARGUMENT OF TYPE [][]bool.** -/
theorem open_bbs {H : Type} {enc : TypeId × Value → H} {w : World} {base : Nat} {sp : Nat → Bool} {hd : Bool} (n : Nat) (c : Value) (x : DataW H × List MemPlace) (h : DataW.trod enc Tryd.prog w base sp hd n 36 [c] = some x) :
    ∃ rs a cap, c = .slice a rs.length cap ∧ BBs w (fun k => k < w.heap.size) rs a := by
  rcases DataW.trod_slice Tryd.underlying36 h with ⟨e2, _⟩ | ⟨a, len, cap, elems, rest, m, rfl, e2, _, _, hlc, hcm, helen, hel, _, _⟩
  · cases e2
    exact ⟨[], none, 0, rfl, by unfold maxLen; simp, fun i xs hx => by simp at hx⟩
  · cases e2
    have hE : ∀ i, i < len → ∃ t : List Bool × Option Addr × Nat, w.cell? (a.add i) = some (.slice t.2.1 t.1.length t.2.2) ∧ BAt w (fun k => k < w.heap.size) t.1 t.2.1 := fun i hi => by
      have h1 := hel i hi
      rw [bb_cellsBools, List.getElem?_eq_getElem (by omega)] at h1
      obtain ⟨cs', hcs', ht⟩ := Option.bind_eq_some_iff.1 h1
      obtain ⟨_, hl3, hat⟩ := World.cells?_some hcs'
      match cs', hl3 with
      | [c0], _ =>
        obtain ⟨xs, a', cap', e0, hr⟩ := open_bools _ _ _ ht
        cases e0
        have := hat 0 (by omega)
        simp only [Nat.mul_one] at this
        exact ⟨(xs, a', cap'), by simpa [Addr.add] using this, hr⟩
    let F : Nat → List Bool := fun i => if h : i < len then (Classical.choose (hE i h)).1 else []
    refine ⟨(List.range len).map F, some a, cap, by simp, by simp; omega, fun i xs hx => ?_⟩
    obtain ⟨hi, hxe⟩ := List.getElem?_eq_some_iff.1 hx
    have hi' : i < len := by simpa using hi
    have hF : xs = F i := by rw [← hxe]; simp
    have hspec := Classical.choose_spec (hE i hi')
    have e : F i = (Classical.choose (hE i hi')).1 := dif_pos hi'
    generalize Classical.choose (hE i hi') = t at hspec e
    obtain ⟨ys, a', cap'⟩ := t
    obtain ⟨g, g3⟩ := hspec
    obtain ⟨b, o, sp'⟩ := a
    have hs : sp' = none := by
      obtain ⟨t, q, _⟩ := hE 0 (by omega)
      simpa [Addr.add] using World.cell?_spot q
    subst hs
    rw [bb_add] at g
    have hxs : xs = ys := hF.trans e
    subst hxs
    exact ⟨b, o, a', cap', rfl, World.block_lt_of_cell? w _ g, g, g3⟩

end Go.Proofs.YtbifbmpflhdijaaDoor

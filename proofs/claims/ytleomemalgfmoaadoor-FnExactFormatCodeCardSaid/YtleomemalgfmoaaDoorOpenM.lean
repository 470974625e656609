/- An argument of type Memory, opened: whatever reads as a value of that type lies in memory as a list of ints and a list of lists of ints. -/
import Derived.Test.YtleomemalgfmoaaDoorMm
import Derived.ChangeSame
namespace Go.Proofs.YtleomemalgfmoaaDoor
open Go.RowKit Go.ChangeShapes Go.WideShapes Go.Deep
set_option linter.unusedVariables false

theorem mm_add (b o k : Nat) : (⟨b, o, none⟩ : Addr).add k = ⟨b, o + k, none⟩ := by unfold Addr.add; split <;> simp_all
theorem mm_cellsInt : Tryd.prog.cellsOf 3 = 1 := by kernel_rfl
theorem mm_cellsInts : Tryd.prog.cellsOf 22 = 1 := by kernel_rfl
theorem mm_cellsRows : Tryd.prog.cellsOf 35 = 1 := by kernel_rfl
theorem mm_cellsM : Tryd.prog.cellsOf 37 = 2 := by kernel_rfl

set_option maxRecDepth 100000 in
theorem open_ints' {H : Type} {enc : TypeId × Value → H} {w : World} {base : Nat} {sp : Nat → Bool} {hd : Bool} (n : Nat) (c : Value) (x : DataW H × List MemPlace) (h : DataW.trod enc Tryd.prog w base sp hd n 22 [c] = some x) :
    ∃ xs a cap, c = .slice a xs.length cap ∧ IAt w (fun k => k < w.heap.size) xs a := by
  rcases DataW.trod_slice Tryd.underlying22 h with ⟨e2, _⟩ | ⟨a, len, cap, elems, rest, m, rfl, e2, _, _, hlc, hcm, helen, hel, _, _⟩
  · cases e2
    exact ⟨[], none, 0, rfl, by unfold maxLen; simp, fun i hx => by simp at hx⟩
  · cases e2
    have hE : ∀ i, i < len → ∃ t : Int, w.cell? (a.add i) = some (.int .i64 t) := fun i hi => by
      have h1 := hel i hi
      rw [mm_cellsInt, List.getElem?_eq_getElem (by omega)] at h1
      obtain ⟨cs', hcs', ht⟩ := Option.bind_eq_some_iff.1 h1
      obtain ⟨_, hl3, hat⟩ := World.cells?_some hcs'
      match cs', hl3 with
      | [c0], _ =>
        obtain ⟨k, e0, _, _⟩ := DataW.trod_int Tryd.underlying3 ht
        cases e0
        have := hat 0 (by omega)
        simp only [Nat.mul_one] at this
        exact ⟨k, by simpa [Addr.add] using this⟩
    let F : Nat → Int := fun i => if h : i < len then Classical.choose (hE i h) else 0
    refine ⟨(List.range len).map F, some a, cap, by simp, by simp; omega, fun i hx => ?_⟩
    have hi' : i < len := by simpa using hx
    have hspec := Classical.choose_spec (hE i hi')
    have e : F i = Classical.choose (hE i hi') := dif_pos hi'
    obtain ⟨b, o, sp'⟩ := a
    have hs : sp' = none := by
      obtain ⟨t, q⟩ := hE 0 (by omega)
      simpa [Addr.add] using World.cell?_spot q
    subst hs
    rw [← e, mm_add] at hspec
    refine ⟨b, o, rfl, World.block_lt_of_cell? w _ hspec, ?_⟩
    rw [hspec]; simp [List.getD, hi']

set_option maxRecDepth 100000 in
theorem open_rows {H : Type} {enc : TypeId × Value → H} {w : World} {base : Nat} {sp : Nat → Bool} {hd : Bool} (n : Nat) (c : Value) (x : DataW H × List MemPlace) (h : DataW.trod enc Tryd.prog w base sp hd n 35 [c] = some x) :
    ∃ xss a cap, c = .slice a xss.length cap ∧ RAt w (fun k => k < w.heap.size) xss a := by
  rcases DataW.trod_slice Tryd.underlying35 h with ⟨e2, _⟩ | ⟨a, len, cap, elems, rest, m, rfl, e2, _, _, hlc, hcm, helen, hel, _, _⟩
  · cases e2
    exact ⟨[], none, 0, rfl, by unfold maxLen; simp, fun i xs hx => by simp at hx⟩
  · cases e2
    have hE : ∀ i, i < len → ∃ t : List Int × Option Addr × Nat, w.cell? (a.add i) = some (.slice t.2.1 t.1.length t.2.2) ∧ IAt w (fun k => k < w.heap.size) t.1 t.2.1 := fun i hi => by
      have h1 := hel i hi
      rw [mm_cellsInts, List.getElem?_eq_getElem (by omega)] at h1
      obtain ⟨cs', hcs', ht⟩ := Option.bind_eq_some_iff.1 h1
      obtain ⟨_, hl3, hat⟩ := World.cells?_some hcs'
      match cs', hl3 with
      | [c0], _ =>
        obtain ⟨xs, a', cap', e0, hr⟩ := open_ints' _ _ _ ht
        cases e0
        have := hat 0 (by omega)
        simp only [Nat.mul_one] at this
        exact ⟨(xs, a', cap'), by simpa [Addr.add] using this, hr⟩
    let F : Nat → List Int := fun i => if h : i < len then (Classical.choose (hE i h)).1 else []
    refine ⟨(List.range len).map F, some a, cap, by simp, by simp; omega, fun i xs hx => ?_⟩
    obtain ⟨hi, hxe⟩ := List.getElem?_eq_some_iff.1 hx
    have hi' : i < len := by simpa using hi
    have hF : xs = F i := by rw [← hxe]; simp
    have hspec := Classical.choose_spec (hE i hi')
    have e : F i = (Classical.choose (hE i hi')).1 := dif_pos hi'
    generalize Classical.choose (hE i hi') = t at hspec e
    obtain ⟨ys, a', cap'⟩ := t
    obtain ⟨g, g3⟩ := hspec
    obtain ⟨b, o, sp'⟩ := a
    have hs : sp' = none := by
      obtain ⟨t, q, _⟩ := hE 0 (by omega)
      simpa [Addr.add] using World.cell?_spot q
    subst hs
    rw [mm_add] at g
    have hxs : xs = ys := hF.trans e
    subst hxs
    exact ⟨b, o, a', cap', rfl, World.block_lt_of_cell? w _ g, g, g3⟩

set_option maxRecDepth 100000 in
/-- **AN ARGUMENT OF TYPE Memory.** -/
theorem open_M {H : Type} {enc : TypeId × Value → H} {w : World} {base : Nat} {sp : Nat → Bool} {hd : Bool} (fuel : Nat) (cs : List Value) (x : DataW H × List MemPlace) (h : DataW.trod enc Tryd.prog w base sp hd fuel 37 cs = some x) :
    ∃ m k, cs = (arrM m k).toList ∧ ML w m k := by
  obtain ⟨ys, n, rfl, _, hlen, hyl, hf⟩ := DataW.trod_struct Tryd.underlying37 h
  rw [mm_cellsM] at hlen
  match cs, hlen with
  | [c0, c1], _ =>
    match ys, hyl with
    | [y0, y1], _ =>
      have f0 : DataW.trod enc Tryd.prog w base sp hd n 22 [c0] = some y0 := by simpa [mm_cellsInts] using hf 0 _ rfl
      have f1 : DataW.trod enc Tryd.prog w base sp hd n 35 [c1] = some y1 := by simpa [mm_cellsRows] using hf 1 _ rfl
      obtain ⟨vs, va, vc, rfl, hv⟩ := open_ints' n _ _ f0
      obtain ⟨rs, aa, ac, rfl, ha⟩ := open_rows n _ _ f1
      exact ⟨⟨vs, rs⟩, ⟨va, vc, aa, ac⟩, rfl, hv, ha⟩

end Go.Proofs.YtleomemalgfmoaaDoor

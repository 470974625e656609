/- An argument of type Memory, opened: whatever reads as a value of that type lies in memory as a list of ints and a list of lists of ints. -/
import Derived.Test.YtbifbmpflhdijaaDoorMmB
import Derived.ChangeSame
namespace Go.Proofs.YtbifbmpflhdijaaDoor
open Go.RowKit Go.ChangeShapes Go.WideShapes Go.Deep
set_option linter.unusedVariables false

theorem mm_add (b o k : Nat) : (⟨b, o, none⟩ : Addr).add k = ⟨b, o + k, none⟩ := by unfold Addr.add; split <;> simp_all
theorem mm_cellsInt : Tryd.prog.cellsOf 3 = 1 := by kernel_rfl
theorem mm_cellsInts : Tryd.prog.cellsOf 22 = 1 := by kernel_rfl

set_option maxRecDepth 100000 in
theorem open_ints' {H : Type} {enc : TypeId × Value → H} {w : World} {base : Nat} {sp : Nat → Bool} {hd : Bool} (n : Nat) (c : Value) (x : DataW H × List MemPlace) (h : DataW.trod enc Tryd.prog w base sp hd n 22 [c] = some x) :
    ∃ xs a cap, c = .slice a xs.length cap ∧ IAt w (fun k => k < w.heap.size) xs a := by
  rcases DataW.trod_slice Tryd.underlying22 h with ⟨e2, _⟩ | ⟨a, len, cap, elems, rest, m, rfl, e2, _, _, hlc, hcm, helen, hel, _, _⟩
  · cases e2
    exact ⟨[], none, 0, rfl, by unfold maxLen; simp, fun i hx => by simp at hx⟩
  · cases e2
    have hE : ∀ i, i < len → ∃ t : Int, w.cell? (a.add i) = some (.int .i64 t) := fun i hi => by
      have h1 := hel i hi
      rw [mm_cellsInt, List.getElem?_eq_getElem (by omega)] at h1
      obtain ⟨cs', hcs', ht⟩ := Option.bind_eq_some_iff.1 h1
      obtain ⟨_, hl3, hat⟩ := World.cells?_some hcs'
      match cs', hl3 with
      | [c0], _ =>
        obtain ⟨k, e0, _, _⟩ := DataW.trod_int Tryd.underlying3 ht
        cases e0
        have := hat 0 (by omega)
        simp only [Nat.mul_one] at this
        exact ⟨k, by simpa [Addr.add] using this⟩
    let F : Nat → Int := fun i => if h : i < len then Classical.choose (hE i h) else 0
    refine ⟨(List.range len).map F, some a, cap, by simp, by simp; omega, fun i hx => ?_⟩
    have hi' : i < len := by simpa using hx
    have hspec := Classical.choose_spec (hE i hi')
    have e : F i = Classical.choose (hE i hi') := dif_pos hi'
    obtain ⟨b, o, sp'⟩ := a
    have hs : sp' = none := by
      obtain ⟨t, q⟩ := hE 0 (by omega)
      simpa [Addr.add] using World.cell?_spot q
    subst hs
    rw [← e, mm_add] at hspec
    refine ⟨b, o, rfl, World.block_lt_of_cell? w _ hspec, ?_⟩
    rw [hspec]; simp [List.getD, hi']


end Go.Proofs.YtbifbmpflhdijaaDoor

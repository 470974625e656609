/- An argument of type Expr, opened: whatever reads as a value of that type is a tree in memory. -/
import Derived.Test.YtjmfnpljkiobkaaTree
import Derived.ChangeArms
import Derived.DataReads
import Derived.KernelRfl
namespace Go.Proofs.Ytjmfnpljkiobkaa
open Go.RowKit Go.ChangeShapes Go.WideShapes Go.Deep

theorem IsE.deeper {w : World} {D : Nat → Prop} : ∀ {n m : Nat} {e : E} {cs : List Value}, n ≤ m → IsE w D n e cs → IsE w D m e cs
  | 0, _, _, _, _, h => h.elim
  | _ + 1, 0, _, _, hl, _ => absurd hl (by omega)
  | n + 1, m + 1, _, _, hl, ⟨a, cap, h0, h1, h2, h3⟩ => ⟨a, cap, h0, h1, h2, h3.mono (fun _ _ => rfl) (fun _ x => x) fun _ _ hx => IsE.deeper (by omega) hx⟩

theorem cellsLE : Try.prog.cellsOf 33 = 3 := by kernel_rfl
theorem cellsLS : Try.prog.cellsOf 31 = 1 := by kernel_rfl
theorem cellsInt : Try.prog.cellsOf 3 = 1 := by kernel_rfl

theorem add_plain (b o k : Nat) : (⟨b, o, none⟩ : Addr).add k = ⟨b, o + k, none⟩ := by unfold Addr.add; split <;> simp_all
set_option maxRecDepth 100000 in
theorem open_E {H : Type} {enc : TypeId × Value → H} {w : World} {base : Nat} {sp : Nat → Bool} {hd : Bool} : ∀ (fuel : Nat) (cs : List Value) (x : DataW H × List MemPlace), DataW.trod enc Try.prog w base sp hd fuel 33 cs = some x →
    ∃ e, IsE w (fun k => k < w.heap.size) fuel e cs := by
  intro fuel
  induction fuel using Nat.strongRecOn with
  | _ fuel ih =>
    intro cs x h
    obtain ⟨ys, n, rfl, _, hlen, hyl, hf⟩ := DataW.trod_struct Try.underlying33 h
    rw [cellsLE] at hlen
    match cs, hlen with
    | [c0, c1, c2], _ =>
      match ys, hyl with
      | [y0, y1, y2], _ =>
        have f0 : DataW.trod enc Try.prog w base sp hd n 3 [c0] = some y0 := by simpa [cellsInt] using hf 0 _ rfl
        have f1 : DataW.trod enc Try.prog w base sp hd n 3 [c1] = some y1 := by simpa [cellsInt] using hf 1 _ rfl
        have f2 : DataW.trod enc Try.prog w base sp hd n 31 [c2] = some y2 := by simpa [cellsLS] using hf 2 _ rfl
        obtain ⟨k, e0, _, _⟩ := DataW.trod_int Try.underlying3 f0
        obtain ⟨v, e1, _, _⟩ := DataW.trod_int Try.underlying3 f1
        cases e0
        cases e1
        rcases DataW.trod_slice Try.underlying31 f2 with ⟨e2, _⟩ | ⟨a, len, cap, elems, rest, m, rfl, e2, _, _, hlc, hcm, helen, hel, _, _⟩
        · cases e2
          exact ⟨⟨k, v, []⟩, none, 0, rfl, Nat.le_refl _, by unfold maxLen; omega, fun i x hx => by simp at hx⟩
        · cases e2
          -- each element is a tree
          have hE : ∀ i, i < len → ∃ t : Value × Value × Value × E, w.cell? ((a.add (i * 3)).add 0) = some t.1 ∧ w.cell? ((a.add (i * 3)).add 1) = some t.2.1 ∧ w.cell? ((a.add (i * 3)).add 2) = some t.2.2.1 ∧ IsE w (fun k => k < w.heap.size) m t.2.2.2 [t.1, t.2.1, t.2.2.1] := fun i hi => by
            have h1 := hel i hi
            rw [cellsLE, List.getElem?_eq_getElem (by omega)] at h1
            obtain ⟨cs', hcs', ht⟩ := Option.bind_eq_some_iff.1 h1
            obtain ⟨_, hl3, hat⟩ := World.cells?_some hcs'
            obtain ⟨e, he⟩ := ih m (by omega) cs' _ ht
            match cs', hl3 with
            | [c0, c1, c2], _ => exact ⟨(c0, c1, c2, e), hat 0 (by omega), hat 1 (by omega), hat 2 (by omega), he⟩
          let F : Nat → E := fun i => if h : i < len then (Classical.choose (hE i h)).2.2.2 else ⟨0, 0, []⟩
          refine ⟨⟨k, v, (List.range len).map F⟩, some a, cap, by simp, by simpa using hlc, hcm, fun i x hx => ?_⟩
          obtain ⟨hi, hxe⟩ := List.getElem?_eq_some_iff.1 hx
          have hi' : i < len := by simpa using hi
          have hF : x = F i := by rw [← hxe]; simp
          have hspec := Classical.choose_spec (hE i hi')
          have e : F i = (Classical.choose (hE i hi')).2.2.2 := dif_pos hi'
          generalize Classical.choose (hE i hi') = t at hspec e
          obtain ⟨g0, g1, g2, g3⟩ := hspec
          obtain ⟨b, o, s⟩ := a
          have hs : s = none := by
            obtain ⟨_, q, _⟩ := hE 0 (by omega)
            simpa [Addr.add] using World.cell?_spot q
          subst hs
          rw [add_plain, add_plain] at g0 g1 g2
          have hb := World.block_lt_of_cell? w _ g0
          refine ⟨b, o, t.1, t.2.1, t.2.2.1, rfl, hb, g0, g1, g2, ?_⟩
          rw [hF, e]
          exact g3.deeper (by omega)
end Go.Proofs.Ytjmfnpljkiobkaa

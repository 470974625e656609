/- An argument of type []Event, opened: whatever reads as a value of that type lies in memory as a list of events. -/
import Derived.Test.YteoaecfjgbkefaaEv
import Derived.ChangeSame
namespace Go.Proofs.Yteoaecfjgbkefaa
open Go.RowKit Go.ChangeShapes Go.WideShapes Go.Deep
set_option linter.unusedVariables false

theorem ev_add (b o k : Nat) : (⟨b, o, none⟩ : Addr).add k = ⟨b, o + k, none⟩ := by unfold Addr.add; split <;> simp_all
theorem ev_cellsInt : Try.prog.cellsOf 3 = 1 := by kernel_rfl
theorem ev_cellsE : Try.prog.cellsOf 87 = 2 := by kernel_rfl

set_option maxRecDepth 100000 in
theorem open_evs {H : Type} {enc : TypeId × Value → H} {w : World} {base : Nat} {sp : Nat → Bool} {hd : Bool} (n : Nat) (c : Value) (x : DataW H × List MemPlace) (h : DataW.trod enc Try.prog w base sp hd n 55 [c] = some x) :
    ∃ es a cap, c = .slice a es.length cap ∧ EvL w es a cap := by
  rcases DataW.trod_slice Try.underlying55 h with ⟨e2, _⟩ | ⟨a, len, cap, elems, rest, m, rfl, e2, _, _, hlc, hcm, helen, hel, _, _⟩
  · cases e2
    exact ⟨[], none, 0, rfl, Nat.le_refl _, by unfold maxLen; omega, fun i x hx => by simp at hx⟩
  · cases e2
    have hE : ∀ i, i < len → ∃ t : Ev, w.cell? (a.add (i * 2)) = some (.int .i64 t.kind) ∧ w.cell? ((a.add (i * 2)).add 1) = some (.int .i64 t.value) := fun i hi => by
      have h1 := hel i hi
      rw [ev_cellsE, List.getElem?_eq_getElem (by omega)] at h1
      obtain ⟨cs', hcs', ht⟩ := Option.bind_eq_some_iff.1 h1
      obtain ⟨_, hl3, hat⟩ := World.cells?_some hcs'
      obtain ⟨ys, n', _, _, hlen, hyl, hf⟩ := DataW.trod_struct Try.underlying87 ht
      match cs', hl3 with
      | [c0, c1], _ =>
        match ys, hyl with
        | [y0, y1], _ =>
          have f0 : DataW.trod enc Try.prog w base sp hd n' 3 [c0] = some y0 := by simpa [ev_cellsInt] using hf 0 _ rfl
          have f1 : DataW.trod enc Try.prog w base sp hd n' 3 [c1] = some y1 := by simpa [ev_cellsInt] using hf 1 _ rfl
          obtain ⟨k, e0, _, _⟩ := DataW.trod_int Try.underlying3 f0
          obtain ⟨t, e1, _, _⟩ := DataW.trod_int Try.underlying3 f1
          cases e0
          cases e1
          refine ⟨⟨k, t⟩, ?_, ?_⟩
          · have := hat 0 (by decide); simpa [Addr.add] using this
          · have := hat 1 (by decide); simpa using this
    let F : Nat → Ev := fun i => if h : i < len then Classical.choose (hE i h) else ⟨0, 0⟩
    refine ⟨(List.range len).map F, some a, cap, by simp, by simpa using hlc, hcm, fun i x hx => ?_⟩
    obtain ⟨hi, hxe⟩ := List.getElem?_eq_some_iff.1 hx
    have hi' : i < len := by simpa using hi
    have hF : x = F i := by rw [← hxe]; simp
    have hspec := Classical.choose_spec (hE i hi')
    have e : F i = Classical.choose (hE i hi') := dif_pos hi'
    rw [← e, ← hF] at hspec
    obtain ⟨b, o, sp'⟩ := a
    have hs : sp' = none := by
      obtain ⟨t, q, _⟩ := hE 0 (by omega)
      simpa [Addr.add] using World.cell?_spot q
    subst hs
    have g0 : w.cell? ⟨b, o + i * 2, none⟩ = some (.int .i64 x.kind) := by rw [← ev_add]; exact hspec.1
    have g1 : w.cell? ⟨b, o + i * 2 + 1, none⟩ = some (.int .i64 x.value) := by rw [← ev_add, ← ev_add]; exact hspec.2
    exact ⟨b, o, rfl, World.block_lt_of_cell? w _ g0, g0, g1⟩

end Go.Proofs.Yteoaecfjgbkefaa

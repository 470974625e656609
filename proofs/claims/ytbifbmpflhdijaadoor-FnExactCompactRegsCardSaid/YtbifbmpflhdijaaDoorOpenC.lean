/- An argument of type Code, opened: whatever reads as a value of that type lies in memory as two lists of ints and a list of instructions. -/
import Derived.Test.YtbifbmpflhdijaaDoorCd
import Derived.Test.YtbifbmpflhdijaaDoorOpenMB
namespace Go.Proofs.YtbifbmpflhdijaaDoor
open Go.RowKit Go.ChangeShapes Go.WideShapes Go.Deep
set_option linter.unusedVariables false

theorem cd_cellsI : Tryd.prog.cellsOf 93 = 5 := by kernel_rfl
theorem cd_cellsIs : Tryd.prog.cellsOf 23 = 1 := by kernel_rfl
theorem cd_cellsC : Tryd.prog.cellsOf 25 = 3 := by kernel_rfl

set_option maxRecDepth 100000 in
theorem open_ins {H : Type} {enc : TypeId × Value → H} {w : World} {base : Nat} {sp : Nat → Bool} {hd : Bool} (n : Nat) (c : Value) (x : DataW H × List MemPlace) (h : DataW.trod enc Tryd.prog w base sp hd n 23 [c] = some x) :
    ∃ es a cap, c = .slice a es.length cap ∧ NAt w (fun k => k < w.heap.size) es a := by
  rcases DataW.trod_slice Tryd.underlying23 h with ⟨e2, _⟩ | ⟨a, len, cap, elems, rest, m, rfl, e2, _, _, hlc, hcm, helen, hel, _, _⟩
  · cases e2
    exact ⟨[], none, 0, rfl, by unfold maxLen; simp, fun i x hx => by simp at hx⟩
  · cases e2
    have hE : ∀ i, i < len → ∃ t : Ins, w.cell? (a.add (i * 5)) = some (.int .i64 t.op) ∧ w.cell? ((a.add (i * 5)).add 1) = some (.int .i64 t.fa) ∧ w.cell? ((a.add (i * 5)).add 2) = some (.int .i64 t.fb) ∧ w.cell? ((a.add (i * 5)).add 3) = some (.int .i64 t.fc) ∧ w.cell? ((a.add (i * 5)).add 4) = some (.int .i64 t.fd) := fun i hi => by
      have h1 := hel i hi
      rw [cd_cellsI, List.getElem?_eq_getElem (by omega)] at h1
      obtain ⟨cs', hcs', ht⟩ := Option.bind_eq_some_iff.1 h1
      obtain ⟨_, hl3, hat⟩ := World.cells?_some hcs'
      obtain ⟨ys, n', _, _, hlen, hyl, hf⟩ := DataW.trod_struct Tryd.underlying93 ht
      match cs', hl3 with
      | [c0, c1, c2, c3, c4], _ =>
        match ys, hyl with
        | [y0, y1, y2, y3, y4], _ =>
          have f0 : DataW.trod enc Tryd.prog w base sp hd n' 3 [c0] = some y0 := by simpa [mm_cellsInt] using hf 0 _ rfl
          have f1 : DataW.trod enc Tryd.prog w base sp hd n' 3 [c1] = some y1 := by simpa [mm_cellsInt] using hf 1 _ rfl
          have f2 : DataW.trod enc Tryd.prog w base sp hd n' 3 [c2] = some y2 := by simpa [mm_cellsInt] using hf 2 _ rfl
          have f3 : DataW.trod enc Tryd.prog w base sp hd n' 3 [c3] = some y3 := by simpa [mm_cellsInt] using hf 3 _ rfl
          have f4 : DataW.trod enc Tryd.prog w base sp hd n' 3 [c4] = some y4 := by simpa [mm_cellsInt] using hf 4 _ rfl
          obtain ⟨k0, e0, _, _⟩ := DataW.trod_int Tryd.underlying3 f0
          obtain ⟨k1, e1, _, _⟩ := DataW.trod_int Tryd.underlying3 f1
          obtain ⟨k2, e2, _, _⟩ := DataW.trod_int Tryd.underlying3 f2
          obtain ⟨k3, e3, _, _⟩ := DataW.trod_int Tryd.underlying3 f3
          obtain ⟨k4, e4, _, _⟩ := DataW.trod_int Tryd.underlying3 f4
          cases e0
          cases e1
          cases e2
          cases e3
          cases e4
          refine ⟨⟨k0, k1, k2, k3, k4⟩, ?_, ?_, ?_, ?_, ?_⟩
          · have := hat 0 (by decide); simpa [Addr.add] using this
          · have := hat 1 (by decide); simpa using this
          · have := hat 2 (by decide); simpa using this
          · have := hat 3 (by decide); simpa using this
          · have := hat 4 (by decide); simpa using this
    let F : Nat → Ins := fun i => if h : i < len then Classical.choose (hE i h) else ⟨0, 0, 0, 0, 0⟩
    refine ⟨(List.range len).map F, some a, cap, by simp, by simp; omega, fun i x hx => ?_⟩
    obtain ⟨hi, hxe⟩ := List.getElem?_eq_some_iff.1 hx
    have hi' : i < len := by simpa using hi
    have hF : x = F i := by rw [← hxe]; simp
    have hspec := Classical.choose_spec (hE i hi')
    have e : F i = Classical.choose (hE i hi') := dif_pos hi'
    rw [← e, ← hF] at hspec
    obtain ⟨b, o, sp'⟩ := a
    have hs : sp' = none := by
      obtain ⟨t, q, _⟩ := hE 0 (by omega)
      simpa [Addr.add] using World.cell?_spot q
    subst hs
    obtain ⟨s0, s1, s2, s3, s4⟩ := hspec
    rw [mm_add] at s0
    rw [mm_add, mm_add] at s1 s2 s3 s4
    exact ⟨b, o, rfl, World.block_lt_of_cell? w _ s0, s0, s1, s2, s3, s4⟩

set_option maxRecDepth 100000 in
/-- **AN ARGUMENT OF TYPE Code.** -/
theorem open_C {H : Type} {enc : TypeId × Value → H} {w : World} {base : Nat} {sp : Nat → Bool} {hd : Bool} (fuel : Nat) (cs : List Value) (x : DataW H × List MemPlace) (h : DataW.trod enc Tryd.prog w base sp hd fuel 25 cs = some x) :
    ∃ m k, cs = (arrC m k).toList ∧ CL w m k := by
  obtain ⟨ys, n, rfl, _, hlen, hyl, hf⟩ := DataW.trod_struct Tryd.underlying25 h
  rw [cd_cellsC] at hlen
  match cs, hlen with
  | [c0, c1, c2], _ =>
    match ys, hyl with
    | [y0, y1, y2], _ =>
      have f0 : DataW.trod enc Tryd.prog w base sp hd n 22 [c0] = some y0 := by simpa [mm_cellsInts] using hf 0 _ rfl
      have f1 : DataW.trod enc Tryd.prog w base sp hd n 22 [c1] = some y1 := by simpa [mm_cellsInts] using hf 1 _ rfl
      have f2 : DataW.trod enc Tryd.prog w base sp hd n 23 [c2] = some y2 := by simpa [mm_cellsInts, cd_cellsIs] using hf 2 _ rfl
      obtain ⟨vs, va, vc, rfl, hv⟩ := open_ints' n _ _ f0
      obtain ⟨us, aa, ac, rfl, ha⟩ := open_ints' n _ _ f1
      obtain ⟨ls, la, lc, rfl, hl⟩ := open_ins n _ _ f2
      exact ⟨⟨vs, us, ls⟩, ⟨va, vc, aa, ac, la, lc⟩, rfl, hv, ha, hl⟩

end Go.Proofs.YtbifbmpflhdijaaDoor

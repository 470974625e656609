/- Arguments of type Stmt and Program, opened: whatever reads as a value of such a type lies in memory as a statement, as a program. -/
import Derived.Test.YtnbngjgkmhdijaaDoorOpenE
import Derived.Test.YtnbngjgkmhdijaaDoorTreeP
namespace Go.Proofs.YtnbngjgkmhdijaaDoor
open Go.RowKit Go.ChangeShapes Go.WideShapes Go.Deep
set_option linter.unusedVariables false

theorem cellsLSt : Tryd.prog.cellsOf 63 = 11 := by kernel_rfl
theorem cellsLSs : Tryd.prog.cellsOf 23 = 1 := by kernel_rfl
theorem cellsLP : Tryd.prog.cellsOf 25 = 3 := by kernel_rfl
theorem cellsInts : Tryd.prog.cellsOf 22 = 1 := by kernel_rfl

set_option maxRecDepth 100000 in
/-- A slice whose elements are statements, each with some cells. -/
theorem open_ss {H : Type} {enc : TypeId × Value → H} {w : World} {base : Nat} {sp : Nat → Bool} {hd : Bool} (n N : Nat) (ih : ∀ m, m < n → ∀ (cs : List Value) (x : DataW H × List MemPlace), DataW.trod enc Tryd.prog w base sp hd m 63 cs = some x →
      ∃ s k, cs = (arrS s k).toList ∧ IsS w (fun k => k < w.heap.size) m s k) (hN : n ≤ N + 1) (c : Value) (x : DataW H × List MemPlace) (h : DataW.trod enc Tryd.prog w base sp hd n 23 [c] = some x) :
    ∃ ss a cap, c = .slice a ss.length cap ∧ ss.length ≤ cap ∧ cap ≤ maxLen ∧ SsAt w (fun k => k < w.heap.size) (IsS w (fun k => k < w.heap.size) N) ss a := by
  rcases DataW.trod_slice Tryd.underlying23 h with ⟨e2, _⟩ | ⟨a, len, cap, elems, rest, m, rfl, e2, _, _, hlc, hcm, helen, hel, _, _⟩
  · cases e2
    exact ⟨[], none, 0, rfl, Nat.le_refl _, by unfold maxLen; omega, fun i x hx => by simp at hx⟩
  · cases e2
    have hE : ∀ i, i < len → ∃ t : S × SC, (∀ j v, (arrS t.1 t.2).toList[j]? = some v → w.cell? ((a.add (i * 11)).add j) = some v) ∧ IsS w (fun k => k < w.heap.size) m t.1 t.2 := fun i hi => by
      have h1 := hel i hi
      rw [cellsLSt, List.getElem?_eq_getElem (by omega)] at h1
      obtain ⟨cs', hcs', ht⟩ := Option.bind_eq_some_iff.1 h1
      obtain ⟨_, hl3, hat⟩ := World.cells?_some hcs'
      obtain ⟨s, k, rfl, he⟩ := ih m (by omega) cs' _ ht
      refine ⟨(s, k), fun j v hj => ?_, he⟩
      have hjl : j < (arrS s k).toList.length := (List.getElem?_eq_some_iff.1 hj).1
      have := hat j (by simpa [arrS] using hjl)
      rw [this]; exact hj
    let F : Nat → S := fun i => if h : i < len then (Classical.choose (hE i h)).1 else ⟨0, 0, ⟨0, 0, []⟩, ⟨0, 0, []⟩, 0, [], []⟩
    refine ⟨(List.range len).map F, some a, cap, by simp, by simpa using hlc, hcm, fun i x hx => ?_⟩
    obtain ⟨hi, hxe⟩ := List.getElem?_eq_some_iff.1 hx
    have hi' : i < len := by simpa using hi
    have hF : x = F i := by rw [← hxe]; simp
    have hspec := Classical.choose_spec (hE i hi')
    have e : F i = (Classical.choose (hE i hi')).1 := dif_pos hi'
    generalize Classical.choose (hE i hi') = t at hspec e
    obtain ⟨s, k⟩ := t
    obtain ⟨g, g3⟩ := hspec
    obtain ⟨b, o, sp'⟩ := a
    have hs : sp' = none := by
      obtain ⟨t, q, _⟩ := hE 0 (by omega)
      have := q 0 _ rfl
      simpa [Addr.add] using World.cell?_spot this
    subst hs
    have G : ∀ j v, (arrS s k).toList[j]? = some v → w.cell? ⟨b, o + i * 11 + j, none⟩ = some v := fun j v hj => by
      have := g j v hj
      rwa [add_plain, add_plain] at this
    have hb : b < w.heap.size := World.block_lt_of_cell? w _ (G 0 _ rfl)
    refine ⟨b, o, k, rfl, hb, ?_, ?_⟩
    · rw [hF, e]
      exact ⟨G 0 _ rfl, G 1 _ rfl, G 2 _ rfl, G 3 _ rfl, G 4 _ rfl, G 5 _ rfl, G 6 _ rfl, G 7 _ rfl, G 8 _ rfl, G 9 _ rfl, G 10 _ rfl⟩
    · rw [hF, e]
      exact g3.deeper (by omega)

set_option maxRecDepth 100000 in
theorem open_S {H : Type} {enc : TypeId × Value → H} {w : World} {base : Nat} {sp : Nat → Bool} {hd : Bool} : ∀ (fuel : Nat) (cs : List Value) (x : DataW H × List MemPlace), DataW.trod enc Tryd.prog w base sp hd fuel 63 cs = some x →
    ∃ s k, cs = (arrS s k).toList ∧ IsS w (fun k => k < w.heap.size) fuel s k := by
  intro fuel
  induction fuel using Nat.strongRecOn with
  | _ fuel ih =>
    intro cs x h
    obtain ⟨ys, n, rfl, _, hlen, hyl, hf⟩ := DataW.trod_struct Tryd.underlying63 h
    rw [cellsLSt] at hlen
    match cs, hlen with
    | [c0, c1, c2, c3, c4, c5, c6, c7, c8, c9, c10], _ =>
      match ys, hyl with
      | [y0, y1, y2, y3, y4, y5, y6], _ =>
        have f0 : DataW.trod enc Tryd.prog w base sp hd n 3 [c0] = some y0 := by simpa [cellsInt] using hf 0 _ rfl
        have f1 : DataW.trod enc Tryd.prog w base sp hd n 3 [c1] = some y1 := by simpa [cellsInt] using hf 1 _ rfl
        have f2 : DataW.trod enc Tryd.prog w base sp hd n 28 [c2, c3, c4] = some y2 := by simpa [cellsLE] using hf 2 _ rfl
        have f3 : DataW.trod enc Tryd.prog w base sp hd n 28 [c5, c6, c7] = some y3 := by simpa [cellsLE] using hf 3 _ rfl
        have f4 : DataW.trod enc Tryd.prog w base sp hd n 3 [c8] = some y4 := by simpa [cellsInt] using hf 4 _ rfl
        have f5 : DataW.trod enc Tryd.prog w base sp hd n 23 [c9] = some y5 := by simpa [cellsLSs] using hf 5 _ rfl
        have f6 : DataW.trod enc Tryd.prog w base sp hd n 23 [c10] = some y6 := by simpa [cellsLSs] using hf 6 _ rfl
        obtain ⟨k, e0, _, _⟩ := DataW.trod_int Tryd.underlying3 f0
        obtain ⟨t, e1, _, _⟩ := DataW.trod_int Tryd.underlying3 f1
        obtain ⟨c, e4, _, _⟩ := DataW.trod_int Tryd.underlying3 f4
        cases e0
        cases e1
        cases e4
        obtain ⟨ei, hi⟩ := open_E n _ _ f2
        obtain ⟨ev, hv⟩ := open_E n _ _ f3
        obtain ⟨ia, ic, rfl, rfl, rfl, _, _⟩ := hi.shape
        obtain ⟨va, vc, rfl, rfl, rfl, _, _⟩ := hv.shape
        obtain ⟨bs, ba, bc, rfl, hb1, hb2, hb3⟩ := open_ss n n (fun m hm => ih m (by omega)) (by omega) _ _ f5
        obtain ⟨es, ea, ec, rfl, he1, he2, he3⟩ := open_ss n n (fun m hm => ih m (by omega)) (by omega) _ _ f6
        exact ⟨⟨k, t, ei, ev, c, bs, es⟩, ⟨ia, ic, va, vc, ba, bc, ea, ec⟩, rfl, hi, hv, hb1, hb2, hb3, he1, he2, he3⟩

set_option maxRecDepth 100000 in
theorem open_is {H : Type} {enc : TypeId × Value → H} {w : World} {base : Nat} {sp : Nat → Bool} {hd : Bool} (n : Nat) (c : Value) (x : DataW H × List MemPlace) (h : DataW.trod enc Tryd.prog w base sp hd n 22 [c] = some x) :
    ∃ xs a cap, c = .slice a xs.length cap ∧ xs.length ≤ cap ∧ cap ≤ maxLen ∧ IntsAt w (fun k => k < w.heap.size) xs a := by
  rcases DataW.trod_slice Tryd.underlying22 h with ⟨e2, _⟩ | ⟨a, len, cap, elems, rest, m, rfl, e2, _, _, hlc, hcm, helen, hel, _, _⟩
  · cases e2
    exact ⟨[], none, 0, rfl, Nat.le_refl _, by unfold maxLen; omega, fun i hx => by simp at hx⟩
  · cases e2
    have hE : ∀ i, i < len → ∃ t : Int, w.cell? (a.add i) = some (.int .i64 t) := fun i hi => by
      have h1 := hel i hi
      rw [cellsInt, List.getElem?_eq_getElem (by omega)] at h1
      obtain ⟨cs', hcs', ht⟩ := Option.bind_eq_some_iff.1 h1
      obtain ⟨_, hl3, hat⟩ := World.cells?_some hcs'
      match cs', hl3 with
      | [c0], _ =>
        obtain ⟨k, e0, _, _⟩ := DataW.trod_int Tryd.underlying3 ht
        cases e0
        have := hat 0 (by omega)
        simp only [Nat.mul_one] at this
        exact ⟨k, by simpa [Addr.add] using this⟩
    let F : Nat → Int := fun i => if h : i < len then Classical.choose (hE i h) else 0
    refine ⟨(List.range len).map F, some a, cap, by simp, by simpa using hlc, hcm, fun i hx => ?_⟩
    have hi' : i < len := by simpa using hx
    have hspec := Classical.choose_spec (hE i hi')
    have e : F i = Classical.choose (hE i hi') := dif_pos hi'
    obtain ⟨b, o, sp'⟩ := a
    have hs : sp' = none := by
      obtain ⟨t, q⟩ := hE 0 (by omega)
      simpa [Addr.add] using World.cell?_spot q
    subst hs
    rw [← e, add_plain] at hspec
    refine ⟨b, o, rfl, World.block_lt_of_cell? w _ hspec, ?_⟩
    rw [hspec]; simp [List.getD, hi']

set_option maxRecDepth 100000 in
/-- **AN ARGUMENT OF TYPE Program.** -/
theorem open_P {H : Type} {enc : TypeId × Value → H} {w : World} {base : Nat} {sp : Nat → Bool} {hd : Bool} (fuel : Nat) (cs : List Value) (x : DataW H × List MemPlace) (h : DataW.trod enc Tryd.prog w base sp hd fuel 25 cs = some x) :
    ∃ p k n, cs = (arrP p k).toList ∧ IsP w (fun k => k < w.heap.size) n p k := by
  obtain ⟨ys, n, rfl, _, hlen, hyl, hf⟩ := DataW.trod_struct Tryd.underlying25 h
  rw [cellsLP] at hlen
  match cs, hlen with
  | [c0, c1, c2], _ =>
    match ys, hyl with
    | [y0, y1, y2], _ =>
      have f0 : DataW.trod enc Tryd.prog w base sp hd n 22 [c0] = some y0 := by simpa [cellsInts] using hf 0 _ rfl
      have f1 : DataW.trod enc Tryd.prog w base sp hd n 22 [c1] = some y1 := by simpa [cellsInts] using hf 1 _ rfl
      have f2 : DataW.trod enc Tryd.prog w base sp hd n 23 [c2] = some y2 := by simpa [cellsLSs] using hf 2 _ rfl
      obtain ⟨vs, va, vc, rfl, hv1, hv2, hv3⟩ := open_is n _ _ f0
      obtain ⟨rs, aa, ac, rfl, ha1, ha2, ha3⟩ := open_is n _ _ f1
      obtain ⟨bs, ba, bc, rfl, hb1, hb2, hb3⟩ := open_ss n n (fun m _ => open_S m) (by omega) _ _ f2
      exact ⟨⟨vs, rs, bs⟩, ⟨va, vc, aa, ac, ba, bc⟩, n, rfl, ⟨hv1, hv2, hv3⟩, ⟨ha1, ha2, ha3⟩, hb1, hb2, hb3⟩

end Go.Proofs.YtnbngjgkmhdijaaDoor

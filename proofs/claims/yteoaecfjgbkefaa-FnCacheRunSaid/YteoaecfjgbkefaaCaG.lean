/- The functions that a run tells of its hits: one collects them, one counts the time of misses. -/
import Derived.Test.YteoaecfjgbkefaaCaY
import Derived.Test.YteoaecfjgbkefaaCaB
import Derived.Test.YteoaecfjgbkefaaCaJ
namespace Go.Proofs.Yteoaecfjgbkefaa
open Go.RowKit Go.Shelf
set_option linter.unusedVariables false

/-- What stands: every block of cells but B. -/
def StandC (B : Nat) (u u' : World) : Prop := u.heap.size ≤ u'.heap.size ∧ ∀ (j : Nat) (o : Obj), u.heap[j]? = some o → o.isCells = true → j ≠ B → u'.heap[j]? = some o

/-- The hits that have been told, in a row of the call's own. -/
def Told1 (BH z : Nat) (hs : List Bool) (u : World) : Prop := ∃ a m cp, hs.length = m ∧ Boxed u BH 36 (.slice a m cp) ∧ OwnB u z (.slice a m cp) hs
theorem Told1.stand {BH z B : Nat} {hs : List Bool} {u u' : World} (h : Told1 BH z hs u) (hu : StandC B u u') (h1 : BH ≠ B) (h2 : B < z) : Told1 BH z hs u' := by
  obtain ⟨a, m, cp, hl, hb, ho⟩ := h
  refine ⟨a, m, cp, hl, hu.2 BH _ hb rfl h1, ho.1, ?_⟩
  rcases ho.2 with e | ⟨g, c2, cur, e1, e2, e3, e4⟩
  · exact .inl e
  · exact .inr ⟨g, c2, cur, e1, e2, hu.2 g _ e3 rfl (by omega), e4⟩
theorem Told1.nil {BH : Nat} {u : World} (z : Nat) (h : Boxed u BH 36 (.slice none 0 0)) : Told1 BH z [] u := ⟨none, 0, 0, rfl, h, OwnB.nil _ _⟩

/-- Behind a tell. -/
def TellP (Told : List Bool → World → Prop) (B z : Nat) (hs : List Bool) (b : Bool) (u : World) (e : Ending) (u' : World) : Prop := (∃ v, e = .returned v) ∧ Told (hs ++ [b]) u' ∧ Below B u u' ∧ KeepsOthers u u' ∧ ∀ j, j < u.heap.size → j < z → j ≠ B → u'.heap[j]? = u.heap[j]?

set_option maxRecDepth 100000 in
set_option maxHeartbeats 4000000 in
theorem tell1_one (BH z : Nat) (hs : List Bool) (b : Bool) (u : World) (h : Told1 BH z hs u) (hz : BH < z) (hzu : z ≤ u.heap.size) (hl : hs.length ≤ 1048576) :
    Calls Try.prog 62 #[.bool b, .pointer (some ⟨BH, 0, none⟩)] u (TellP (Told1 BH z) BH z hs b u) := by
  obtain ⟨k0, kinf, kj0, kj1, kj2⟩ := info_parts Try.infoB
  obtain ⟨a, m, cp, hm, hb, ho⟩ := h
  have hm2 : m ≤ 1048576 := by omega
  have HM := Lib.hid hm
  have HBX := Lib.hid hb
  have HO := Lib.hid ho
  have c1 := hb.cell
  have hlt := hb.lt
  have hO : (u.alloc (.cells #[.bool b] 4)).ownsRow z 4 1 (.slice a m cp) m (hs.map Value.bool) := by
    have h := ho
    unfold OwnB at h
    rw [hm] at h
    exact h.alloc _
  have hN := news1 u (.bool b) 4
  clear hb ho hm hl
  go_enter Try.func62, Try.ntmps62
  go_wp2_with (first
    | (at_builtin
       refine wpList_append_any _ (by rfl) _ _ 36 (by rfl) z 4 k0 _ 1 1 Try.underlying36 kinf kj0 kj1 kj2 rfl (by omega) (.slice a m cp) m _ (by rfl) hO (some ⟨u.heap.size, 0, none⟩) 1 1 _ (by rfl) (by rfl) hN (by simp [Value.oneCell']) (by unfold maxLen; omega) (by omega) (by simp; omega) ?_
       intro v' w6 hap
       obtain ⟨a', c', hv, h1, h2, _⟩ := hap
       subst hv
       have hne : ∀ q, (Value.slice a m cp).ownBlock = some q → z ≤ q := fun q hq => (HO.out.lt q hq).1
       have hcell : ∀ (q : Nat) (o : Obj), (Value.slice a m cp).ownBlock = some q → (u.alloc (.cells #[.bool b] 4)).heap[q]? = some o → o.isCells = true := fun q o hq ho => by
         rcases HO.out.2 with ⟨e, _⟩ | ⟨g, c2, cur, e1, _, e3, _⟩
         · rw [e] at hq; cases hq
         · rw [e1] at hq
           have := ownS_eq hq
           subst this
           rw [Below.heap_alloc _ _ _ (Array.getElem?_eq_some_iff.1 e3).1, e3] at ho
           cases ho; rfl
       have hR1 : w6.heap[BH]? = some (.cells #[.slice a m cp] 36 (0, 0)) := (h2.block _ (by simp; omega) (fun e => by have e' := hne _ e.symm; omega)).trans ((Below.heap_alloc _ _ _ hlt).trans HBX.out)
       have r0 := cell_at hR1 0
       have r1 := frozen_of_row _ _ 0 _ _ hR1
       have HOth : Hid (∀ j, j < u.heap.size → j < z → w6.heap[j]? = u.heap[j]?) := fun j hj hjz => (h2.block j (by simp; omega) (fun e => by have e' := hne _ e.symm; omega)).trans (Below.heap_alloc _ _ _ hj)
       have HFIN : Hid (Told1 BH z (hs ++ [b]) (w6.setCell ⟨BH, 0, none⟩ (.slice a' (m + 1) c'))) := by
         refine ⟨a', m + 1, c', by rw [List.length_append, HM.out]; rfl, ?_, ?_⟩
         · exact heap_setCell_same _ _ _ _ _ _ hR1
         · have hO6 : OwnB w6 z (.slice a' (m + 1) c') (hs ++ [b]) := by
             unfold OwnB; rw [List.length_append, HM.out, List.map_append]; exact h1
           exact hO6.far fun g hg _ => Below.heap_setCell _ _ _ _ (by have := (hO6.lt g hg).1; simp; omega)
       have HBL : Hid (Below BH u (w6.setCell ⟨BH, 0, none⟩ (.slice a' (m + 1) c'))) := (((Below.refl BH u).alloc (by omega) _).grown h2 (by simp; omega) (fun q e => by have := hne q e; omega)).setCell (p := ⟨BH, 0, none⟩) (Nat.le_refl _) _
       have HKO : Hid (KeepsOthers u (w6.setCell ⟨BH, 0, none⟩ (.slice a' (m + 1) c'))) := ((KeepsOthers.alloc u _).trans (KeepsOthers.of_grownBy h2 hcell)).trans (KeepsOthers.setCell _ _ _)
       clear h1 h2 hR1 hN hO hne hcell)
    | fail)
  go_end0
  refine ⟨⟨_, rfl⟩, HFIN.out, HBL.out, HKO.out, fun j hj hjz hne => ?_⟩
  rw [Below.heap_setCell _ _ _ _ (by simpa using hne)]
  exact HOth.out j hj hjz

/-- The time of the misses that have been told. -/
def Told2 (BK : Nat) (hs : List Bool) (u : World) : Prop := Boxed u BK 80 (.int .i64 (10 * (misN hs : Int)))
theorem Told2.stand {BK B : Nat} {hs : List Bool} {u u' : World} (h : Told2 BK hs u) (hu : StandC B u u') (h1 : BK ≠ B) : Told2 BK hs u' := hu.2 BK _ h rfl h1

set_option maxHeartbeats 4000000 in
theorem tell2_one (BK z : Nat) (hs : List Bool) (b : Bool) (u : World) (h : Told2 BK hs u) (hl : hs.length ≤ 1048576) :
    Calls Try.prog 64 #[.pointer (some ⟨BK, 0, none⟩), .bool b] u (TellP (Told2 BK) BK z hs b u) := by
  have c1 := Boxed.cell h
  have f1 := Boxed.frozen h
  have hmi := misN_le hs
  have HT := Lib.hid h
  have HM : Hid (∀ b, misN (hs ++ [b]) = misN hs + if b then 0 else 1) := fun b => by rw [misN_app]; cases b <;> rfl
  obtain ⟨m, hm⟩ : ∃ m, misN hs = m := ⟨_, rfl⟩
  rw [hm] at c1 hmi
  have HMM := Lib.hid hm
  clear h hm
  cases b with
  | true =>
    have HFIN : Hid (Told2 BK (hs ++ [true]) u) := by
      show Boxed _ _ _ _
      rw [HM.out]; exact HT.out
    go_enter Try.func64, Try.ntmps64
    go_wp2_with fail
    go_end0
    exact ⟨⟨_, rfl⟩, HFIN.out, Below.refl _ _, KeepsOthers.refl _, fun _ _ _ _ => rfl⟩
  | false =>
    have HFIN : Hid (Told2 BK (hs ++ [false]) (u.setCell ⟨BK, 0, none⟩ (.int .i64 (10 * (m : Int) + 10)))) := by
      have h1 := HT.out.set (.int .i64 (10 * (m : Int) + 10))
      show Boxed _ _ _ _
      rw [HM.out, HMM.out]
      have e : (10 * ((m + if false = true then 0 else 1 : Nat) : Int)) = 10 * (m : Int) + 10 := by simp; omega
      rw [e]
      exact h1
    go_enter Try.func64, Try.ntmps64
    go_wp2_with fail
    go_end0
    exact ⟨⟨_, rfl⟩, HFIN.out, (Below.refl _ _).setCell (p := ⟨BK, 0, none⟩) (Nat.le_refl _) _, KeepsOthers.setCell _ _ _, fun j _ _ hne => Below.heap_setCell _ _ _ _ (by simpa using hne)⟩

end Go.Proofs.Yteoaecfjgbkefaa

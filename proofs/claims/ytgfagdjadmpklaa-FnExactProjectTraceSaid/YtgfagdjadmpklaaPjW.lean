/- spec.ProjectTrace: the projection of a list of events, in a row of the call's own. -/
import Derived.Test.YtgfagdjadmpklaaPjP
namespace Go.Proofs.Ytgfagdjadmpklaa
open Go.RowKit
set_option linter.unusedVariables false

/-- A projection is handed back, in a row of the call's own. -/
def PjR (es : List Ev) (w : World) (f : Ending) (w' : World) : Prop := ∃ a n c, f = .returned (.slice a n c) ∧ (proj es).length = n ∧ RowEv w' w.heap.size (.slice a n c) (proj es) ∧ Below w.heap.size w w'

/-- The state of a projecting loop. -/
def PjL (es : List Ev) (n : Nat) (w : World) (out i : Value) (wr : World) : Prop := ∃ (k m c : Nat) (a : Option Addr), k ≤ n ∧ i = .int .i64 k ∧ out = .slice a m c ∧ (proj (es.take k)).length = m ∧ RowEv wr w.heap.size (.slice a m c) (proj (es.take k)) ∧ Below w.heap.size w wr

/-- One more event is kept. -/
theorem PjL.more {es : List Ev} {n k m c g cp : Nat} {a : Option Addr} {x : Ev} {w w1 w2 : World} (hk : k < n) (hx : es[k]? = some x) (hkp : kept x = true) (hm : (proj (es.take k)).length = m)
    (hb : Below w.heap.size w w1) (hg : ∀ g, (Value.slice a m c).ownBlock = some g → w.heap.size ≤ g) (hgrow : w1.grownBy w2 (Value.slice a m c).ownBlock)
    (hown : w2.ownsRow w.heap.size 92 2 (.slice (some ⟨g, 0, none⟩) (m + 1) cp) (m + 1) (flatE (proj (es.take k)) ++ [.int .i64 x.kind, .int .i64 x.value])) :
    PjL es n w (.slice (some ⟨g, 0, none⟩) (m + 1) cp) (.int .i64 ((k : Int) + 1)) w2 := by
  have hl : (proj (es.take (k + 1))).length = m + 1 := by rw [proj_yes hx hkp, List.length_append, hm]; rfl
  refine ⟨k + 1, m + 1, cp, some ⟨g, 0, none⟩, hk, by go_num, rfl, hl, ?_, hb.grown hgrow hb.size (fun q e => hg q e)⟩
  have h2 : RowEv w2 w.heap.size (.slice (some ⟨g, 0, none⟩) (proj (es.take (k + 1))).length cp) (proj (es.take (k + 1))) := by
    refine RowEv.ofFlat ?_
    rw [hl, proj_yes hx hkp, flatE_app]
    exact hown
  rw [hl] at h2
  exact h2

set_option maxHeartbeats 2000000 in
/-- **spec.ProjectTrace.** -/
theorem sPj_one (es : List Ev) (a : Option Addr) (n cap : Nat) (w : World) (h : EvL w es a cap) (hn : es.length = n) (hs : n ≤ 22453200) :
    Calls Try.prog 17 #[.slice a n cap] w (PjR es w) := by
  have HE : Hid (∀ v, Below w.heap.size w v → EvL v es a cap) := fun v hv => h.below hv
  have HN := Lib.hid hn
  have HB0 : Hid (Below w.heap.size w (w.alloc (.cells #[] 92))) := (Below.refl _ w).alloc (Nat.le_refl _) _
  have HL0 : Hid (PjL es n w (.slice (some ⟨w.heap.size, 0, none⟩) 0 0) (.int .i64 0) (w.alloc (.cells #[] 92))) := ⟨0, 0, 0, _, Nat.zero_le _, rfl, rfl, rfl, RowEv.made w w.heap.size (Nat.le_refl _), HB0.out⟩
  clear h hn
  go_enter Try.func17, Try.ntmps17
  go_wp2_with fail
  go_loopw [3, 4] (fun o i wr => PjL es n w o i wr) (fun _ i _ => n - (intOf i).toNat)
  case atStart => exact HL0.out
  case round =>
    obtain ⟨k, m, c, a1, hk, rfl, rfl, hm, hrow, hbel⟩ := hrel
    have HM := Lib.hid hm
    have HROW := Lib.hid hrow
    have HBEL := Lib.hid hbel
    have hmk : m ≤ k := by rw [← hm]; exact proj_take_len es k
    have hzr := hbel.size
    clear hm hrow hbel HL0 HB0
    by_cases hlt : k < n
    · obtain ⟨x, hx⟩ : ∃ x, es[k]? = some x := ⟨es[k]'(by rw [HN.out]; exact hlt), List.getElem?_eq_getElem _⟩
      obtain ⟨b, o, rfl, hbl, e0, e1⟩ := (HE.out wr HBEL.out).2.2 k x hx
      have HX := Lib.hid hx
      obtain ⟨kd, vl⟩ := x
      dsimp only at e0 e1
      clear hx
      by_cases hkp : kept ⟨kd, vl⟩ = true
      · have hk3 : kd = 2 ∨ kd = 3 ∨ kd = 4 := by unfold kept at hkp; exact of_decide_eq_true hkp
        obtain ⟨i0, hinf, hz0, hz1, hz2⟩ := info_parts infoEv
        have hL : (wr.alloc (.cells #[.int .i64 kd, .int .i64 vl] 92)).ownsRow w.heap.size 92 2 (.slice a1 m c) m (flatE (proj (es.take k))) := by
          have h2 := (HROW.out.stand (w' := wr.alloc (.cells #[.int .i64 kd, .int .i64 vl] 92)) fun g _ hg => Below.heap_alloc _ _ _ hg).flat
          rw [HM.out] at h2
          exact h2
        have hNB : (wr.alloc (.cells #[.int .i64 kd, .int .i64 vl] 92)).heap[wr.heap.size]? = some (.cells #[.int .i64 kd, .int .i64 vl] 92 (0, 0)) := heap_alloc_new wr _
        have HBA : Hid (Below w.heap.size w (wr.alloc (.cells #[.int .i64 kd, .int .i64 vl] 92))) := HBEL.out.alloc hzr _
        have HLT : Hid (∀ g, (Value.slice a1 m c).ownBlock = some g → w.heap.size ≤ g) := fun g hg => (HROW.out.lt g hg).1
        have HKP := Lib.hid hkp
        clear HROW HBEL hkp
        rcases hk3 with rfl | rfl | rfl
        all_goals
          go_wp2_with (at_builtin; refine wpList_append_lies _ (by rfl) _ _ 33 (by rfl) w.heap.size 92 i0 _ 2 16 Try.underlying33 hinf hz0 hz1 hz2 rfl (by omega) (.slice a1 m c) m _ (by rfl) hL ⟨wr.heap.size, 0, none⟩ 1 1 _ (by rfl) (by rfl) (World.news_of_block hNB) (by simp [Value.oneCell']) (by omega) (by unfold maxLen; omega) (by omega) (by simp; omega) (wr.heap.size + 1) (by simp) ?_; intro g cp w6 hown6 hgrow hat hlt6)
          have HREL := Lib.hid (PjL.more hlt HX.out HKP.out HM.out HBA.out HLT.out hgrow hown6)
          clear hown6 hgrow hat hlt6 hL hNB
          go_wp2_with fail
          go_roundw
          case rel => exact HREL.out
          case measure => simp [intOf]; omega
      · have hkf : kept ⟨kd, vl⟩ = false := by simpa using hkp
        have hkn : ¬ (kd = 2 ∨ kd = 3 ∨ kd = 4) := by unfold kept at hkf; exact of_decide_eq_false hkf
        have h2 : (kd == 2) = false := by simp; omega
        have h3 : (kd == 3) = false := by simp; omega
        have h4 : (kd == 4) = false := by simp; omega
        have HREL : Hid (PjL es n w (.slice a1 m c) (.int .i64 ((k : Int) + 1)) wr) := ⟨k + 1, m, c, a1, hlt, by go_num, rfl, by rw [proj_no HX.out hkf]; exact HM.out, by rw [proj_no HX.out hkf]; exact HROW.out, HBEL.out⟩
        clear hkp hkf hkn HROW HBEL
        go_wp2_with fail
        go_roundw
        case rel => exact HREL.out
        case measure => simp [intOf]; omega
    · obtain rfl : k = n := by omega
      have HFIN : Hid (PjR es w (.returned (.slice a1 m c)) wr) := by
        have e := proj_all HN.out
        have h1 := HM.out
        have h2 := HROW.out
        rw [e] at h1 h2
        exact ⟨a1, m, c, rfl, h1, h2, HBEL.out⟩
      clear HROW HBEL
      go_wp2_with fail
      go_ret
      exact HFIN.out

end Go.Proofs.Ytgfagdjadmpklaa

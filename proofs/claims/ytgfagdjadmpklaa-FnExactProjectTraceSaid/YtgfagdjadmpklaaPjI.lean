/- impl.ProjectTrace: the projection of a list of events, in a row of the call's own. -/
import Derived.Test.YtgfagdjadmpklaaPjW
namespace Go.Proofs.Ytgfagdjadmpklaa
open Go.RowKit
set_option linter.unusedVariables false

set_option maxRecDepth 100000 in
set_option maxHeartbeats 2000000 in
/-- **impl.ProjectTrace.** -/
theorem iPj_one (es : List Ev) (a : Option Addr) (n cap : Nat) (w : World) (h : EvL w es a cap) (hn : es.length = n) (hs : n ≤ 22453200) :
    Calls Try.prog 15 #[.slice a n cap] w (PjR es w) := by
  have HE : Hid (∀ v, Below w.heap.size w v → EvL v es a cap) := fun v hv => h.below hv
  have HN := Lib.hid hn
  have HL0 : Hid (PjL es n w (.slice none 0 0) (.int .i64 0) w) := ⟨0, 0, 0, _, Nat.zero_le _, rfl, rfl, rfl, RowG.nil _ _, Below.refl _ _⟩
  clear h hn
  go_enter Try.func15, Try.ntmps15
  go_wp2_with fail
  go_loopw [3, 8] (fun o i wr => PjL es n w o i wr) (fun _ i _ => n - (intOf i).toNat)
  case atStart => exact HL0.out
  case round =>
    obtain ⟨k, m, c, a1, hk, rfl, rfl, hm, hrow, hbel⟩ := hrel
    have HM := Lib.hid hm
    have HROW := Lib.hid hrow
    have HBEL := Lib.hid hbel
    have hmk : m ≤ k := by rw [← hm]; exact proj_take_len es k
    have hzr := hbel.size
    clear hm hrow hbel HL0
    by_cases hlt : k < n
    · obtain ⟨x, hx⟩ : ∃ x, es[k]? = some x := ⟨es[k]'(by rw [HN.out]; exact hlt), List.getElem?_eq_getElem _⟩
      obtain ⟨b, o, rfl, hbl, e0, e1⟩ := (HE.out wr HBEL.out).2.2 k x hx
      have HX := Lib.hid hx
      obtain ⟨kd, vl⟩ := x
      dsimp only at e0 e1
      clear hx
      by_cases hkp : kept ⟨kd, vl⟩ = true
      · have hk3 : kd = 2 ∨ kd = 3 ∨ kd = 4 := by unfold kept at hkp; exact of_decide_eq_true hkp
        obtain ⟨wr0, hwr0⟩ : ∃ u, wr.alloc (.cells #[.int .i64 kd, .int .i64 vl] 92) = u := ⟨_, rfl⟩
        have hzw0 : wr0.heap.size = wr.heap.size + 1 := by rw [← hwr0]; simp
        obtain ⟨i0, hinf, hz0, hz1, hz2⟩ := info_parts infoEv
        have hL : (wr0.alloc (.cells #[.int .i64 kd, .int .i64 vl] 92)).ownsRow w.heap.size 92 2 (.slice a1 m c) m (flatE (proj (es.take k))) := by
          have h2 := ((HROW.out.stand (w' := wr0) fun g _ hg => by rw [← hwr0]; exact Below.heap_alloc _ _ _ hg).stand (w' := wr0.alloc (.cells #[.int .i64 kd, .int .i64 vl] 92)) fun g _ hg => Below.heap_alloc _ _ _ hg).flat
          rw [HM.out] at h2
          exact h2
        have hNB : (wr0.alloc (.cells #[.int .i64 kd, .int .i64 vl] 92)).heap[wr0.heap.size]? = some (.cells #[.int .i64 kd, .int .i64 vl] 92 (0, 0)) := heap_alloc_new wr0 _
        have HBA : Hid (Below w.heap.size w (wr0.alloc (.cells #[.int .i64 kd, .int .i64 vl] 92))) := (show Below w.heap.size w wr0 by rw [← hwr0]; exact HBEL.out.alloc hzr _).alloc (by omega) _
        have HLT : Hid (∀ g, (Value.slice a1 m c).ownBlock = some g → w.heap.size ≤ g) := fun g hg => (HROW.out.lt g hg).1
        have HKP := Lib.hid hkp
        have HWR0 := Lib.hid hwr0
        clear HROW HBEL hkp hwr0
        rcases hk3 with rfl | rfl | rfl
        all_goals
          go_wp2_with (at_builtin; rw [HWR0.out, show wr.heap.size + 1 = wr0.heap.size from hzw0.symm]; refine wpList_append_lies _ (by rfl) _ _ 33 (by rfl) w.heap.size 92 i0 _ 2 16 Try.underlying33 hinf hz0 hz1 hz2 rfl (by omega) (.slice a1 m c) m _ (by rfl) hL ⟨wr0.heap.size, 0, none⟩ 1 1 _ (by rfl) (by rfl) (World.news_of_block hNB) (by simp [Value.oneCell']) (by omega) (by unfold maxLen; omega) (by omega) (by simp; omega) (wr0.heap.size + 1) (by simp) ?_; intro g cp w6 hown6 hgrow hat hlt6)
          have HREL := Lib.hid (PjL.more hlt HX.out HKP.out HM.out HBA.out HLT.out hgrow hown6)
          clear hown6 hgrow hat hlt6 hL hNB
          go_wp2_with fail
          go_roundw
          case rel => exact HREL.out
          case measure => simp [intOf]; omega
      · have hkf : kept ⟨kd, vl⟩ = false := by simpa using hkp
        have hkn : ¬ (kd = 2 ∨ kd = 3 ∨ kd = 4) := by unfold kept at hkf; exact of_decide_eq_false hkf
        have h2 : (kd == 2) = false := by simp; omega
        have h3 : (kd == 3) = false := by simp; omega
        have h4 : (kd == 4) = false := by simp; omega
        have HREL : Hid (PjL es n w (.slice a1 m c) (.int .i64 ((k : Int) + 1)) (wr.alloc (.cells #[.int .i64 kd, .int .i64 vl] 92))) := ⟨k + 1, m, c, a1, hlt, by go_num, rfl, by rw [proj_no HX.out hkf]; exact HM.out, by rw [proj_no HX.out hkf]; exact HROW.out.stand fun g _ hg => Below.heap_alloc _ _ _ hg, HBEL.out.alloc hzr _⟩
        clear hkp hkf hkn HROW HBEL
        go_wp2_with fail
        go_roundw
        case rel => exact HREL.out
        case measure => simp [intOf]; omega
    · obtain rfl : k = n := by omega
      have HFIN : Hid (PjR es w (.returned (.slice a1 m c)) wr) := by
        have e := proj_all HN.out
        have h1 := HM.out
        have h2 := HROW.out
        rw [e] at h1 h2
        exact ⟨a1, m, c, rfl, h1, h2, HBEL.out⟩
      clear HROW HBEL
      go_wp2_with fail
      go_ret
      exact HFIN.out

end Go.Proofs.Ytgfagdjadmpklaa

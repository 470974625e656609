/- The program's reached, walked. -/
import Derived.Test.YtodihpnnajlkdaaDoorRcS
import Derived.Test.YtodihpnnajlkdaaDoorRcI
import Derived.Test.YtodihpnnajlkdaaDoorMu
namespace Go.Proofs.YtodihpnnajlkdaaDoor
open Go.RowKit
set_option linter.unusedVariables false

theorem RcS.start2 {W w1 : World} {S n : Nat} (hst : w1.ownsRow S 4 1 (.slice (some ⟨S, 0, none⟩) n n) n ((List.replicate n false).map Value.bool)) (hb1 : Below S W w1) (hlt : S < w1.heap.size) :
    RcS W S n (List.replicate n false) [0] (.slice (some ⟨w1.heap.size, 0, none⟩) 1 1) (w1.alloc (.cells #[.int .i64 0] 3)) := by
  refine ⟨hst.alloc _, ⟨rfl, .inr ⟨w1.heap.size, 1, #[.int .i64 0], rfl, by omega, heap_alloc_new w1 _, Nat.le_refl _, by unfold maxLen; omega, rfl, rfl⟩⟩, hb1.alloc (by omega) _, by rw [World.size_alloc]; omega⟩
/-- The last one is taken off. -/
theorem RcS.pop {W : World} {S n g k vc : Nat} {sn : List Bool} {q : List Nat} {p : Nat} {w : World} (h : RcS W S n sn (q ++ [p]) (.slice (some ⟨g, 0, none⟩) (k + 1) vc) w) (hk : q.length = k) : RcS W S n sn q (.slice (some ⟨g, 0, none⟩) k vc) w := by
  have hl : (q ++ [p]).length = k + 1 := by rw [List.length_append, hk]; rfl
  have h1 := h.q
  rw [hl] at h1
  have h2 := ownsRow_prefix h1 k (by omega)
  refine ⟨h.b, ?_, h.bel, h.lt⟩
  rw [hk]
  have e : ((natI (q ++ [p])).map (Value.int .i64)).take (k * 1) = (natI q).map (Value.int .i64) := by
    rw [natI_app, List.map_append, Nat.mul_one]
    exact List.take_left' (by rw [List.length_map, natI_len, hk])
  rw [e] at h2
  exact h2
/-- One is found. -/
theorem RcS.found {W : World} {S n : Nat} {sn : List Bool} {q : List Nat} {qv : Value} {w : World} (h : RcS W S n sn q qv w) (p : Nat) : RcS W S n (sn.set p true) q qv (w.setCell ⟨S, p, none⟩ (.bool true)) := by
  refine ⟨?_, ownsRow_setCell_below h.q (a := ⟨S, p, none⟩) (Nat.lt_succ_self _) _, h.bel.setCell (p := ⟨S, p, none⟩) (Nat.le_refl _) _, by simpa [World.setCell] using h.lt⟩
  rw [List.map_set]
  exact (h.b.stored p (.bool true)).1
/-- The rows behind an append. -/
theorem RcS.app {W : World} {S n : Nat} {sn : List Bool} {q r : List Nat} {qv v' : Value} {w w' : World} (h : RcS W S n sn q qv w) (hl : ((natI q).map (Value.int .i64) ++ (natI r).map (Value.int .i64)).length = q.length + (natI r).length) (ha : ApA w (S + 1) 3 1 qv (q.length + (natI r).length) ((natI q).map (Value.int .i64) ++ (natI r).map (Value.int .i64)) v' w') :
    ∃ va vc, v' = .slice va (q ++ r).length vc ∧ RcS W S n sn (q ++ r) (.slice va (q ++ r).length vc) w' := by
  obtain ⟨a, cap, rfl, h1, h2, h3⟩ := ha
  have hq0 : ∀ g, qv.ownBlock = some g → S + 1 ≤ g := fun g hg => (h.q.lt g hg).1
  have e : (q ++ r).length = q.length + (natI r).length := by rw [List.length_append, natI_len]
  refine ⟨a, cap, by rw [e], h.b.kept h2 (.inr fun e => ?_), ?_, h.bel.grown h2 (Nat.le_of_lt h.lt) fun k hk => ?_, Nat.lt_of_lt_of_le h.lt h2.size⟩
  · have := hq0 S (by rw [← e]; rfl)
    omega
  · rw [e, natI_app, List.map_append]; exact h1
  · have := hq0 k hk; omega

/-- The state of the loop, and its measure. -/
def RW (l : List Ins) (W : World) (S n : Nat) (s : Value × World) (m : Nat) : Prop := ∃ (fd : List Bool) (ws : List Nat) (va : Option Addr) (vc : Nat), s.1 = .slice va ws.length vc ∧ WL l fd ws ∧ RcS W S n fd ws (.slice va ws.length vc) s.2 ∧ m = 3 * cntF fd + ws.length

/-- What is found lies in a new row. -/
def FoundB (l : List Ins) (n : Nat) (w : World) (e : Ending) (w' : World) : Prop := ∃ (bs : List Bool), e = .returned (.slice (some ⟨w.heap.size, 0, none⟩) n n) ∧ IsR l bs ∧ w'.ownsRow w.heap.size 4 1 (.slice (some ⟨w.heap.size, 0, none⟩) n n) n (bs.map Value.bool) ∧ Below w.heap.size w w'
theorem OwnI.sl {w : World} {base : Nat} {a : Option Addr} {n c : Nat} {xs : List Int} (h : OwnI w base (.slice a n c) xs) (hn : xs.length = n) : SliceI w a n xs := by
  obtain ⟨a', cap, e, h1⟩ := h.slice
  cases e
  exact h1

set_option maxRecDepth 100000 in
set_option maxHeartbeats 4000000 in
/-- **reached.** -/
theorem reached_one (l : List Ins) (a : Option Addr) (n c : Nat) (w : World) (h : NAt w (fun b => b < w.heap.size) l a) (hn : l.length = n) (hok : Okc l) :
    Calls Tryd.prog 72 #[.slice a n c] w (FoundB l n w) := by
  obtain ⟨i0, hi, hz0, hz1, hz2⟩ := info_parts Tryd.infoB
  obtain ⟨j0, hj, hj0, hj1, hj2⟩ := info_parts Tryd.infoI
  have hp := hok.pos
  have hle := hok.le
  rw [hn] at hp hle
  have HN := Lib.hid hn
  have HO := Lib.hid hok
  have HL : Hid (∀ v, Below w.heap.size w v → NAt v (fun b => b < v.heap.size) l a) := fun v hv => h.below hv
  obtain ⟨mu, hmu⟩ := mu_ex (σ := Value × World) (RW l w w.heap.size n)
  have HMU := Lib.hid hmu
  clear h hn hok hmu
  go_enter Tryd.func72, Tryd.ntmps72
  go_wp2_with (first
    | (at_make
       refine wpList_make_full _ rfl _ _ 54 rfl w.heap.size 4 i0 (.bool false) 1 Tryd.underlying54 hi hz0 hz1 .i64 .i64 (n : Int) (n : Int) n rfl rfl rfl rfl (by rw [hz2]; omega) (by unfold maxLen; omega) (Nat.le_refl _) ?_
       intro w1 hown1 hgrow1
       rw [falses] at hown1
       have hb1 : Below w.heap.size w w1 := (Below.refl _ w).grown hgrow1 (Nat.le_refl _) (fun k e => (by cases e))
       have hlt1 := (hown1.lt w.heap.size rfl).2
       have HR0 := Lib.hid (RcS.start2 hown1 hb1 hlt1)
       obtain ⟨B, hBB⟩ : ∃ B, w1.heap.size = B := ⟨_, rfl⟩
       obtain ⟨W2, hW2⟩ : ∃ W2, w1.alloc (.cells #[.int .i64 0] 3) = W2 := ⟨_, rfl⟩
       rw [hBB, hW2] at HR0
       have HBB := Lib.hid hBB
       have HW2 := Lib.hid hW2
       clear hz0 hz1 hz2 hb1 hgrow1 hown1 hW2 hBB hlt1)
    | fail)
  rw [HW2.out, HBB.out]
  have HQ0 : Hid (∃ m, RW l w w.heap.size n (.slice (some ⟨B, 0, none⟩) 1 1, W2) m) := ⟨_, _, [0], _, 1, rfl, by rw [← HN.out]; exact WL.start HO.out, HR0.out, rfl⟩
  clear HR0 HW2 HBB
  go_loopw [4] (fun qv wr => ∃ m, RW l w w.heap.size n (qv, wr) m) (fun qv wr => mu (qv, wr))
  case atStart => exact HQ0.out
  case round =>
    obtain ⟨⟨fd, ws, va, vc, hv, hwl, hr, hm⟩, hmin⟩ := HMU.out (u4, wr) hrel
    simp only at hv hr
    have HWL := Lib.hid hwl
    have HR := Lib.hid hr
    have HM := Lib.hid hm
    clear hrel hwl hr hm hmin HQ0
    subst hv
    by_cases hz : ws.length = 0
    · have hw0 : ws = [] := List.eq_nil_of_length_eq_zero hz
      subst hw0
      have HFIN : Hid (FoundB l n w (.returned (.slice (some ⟨w.heap.size, 0, none⟩) n n)) wr) := ⟨fd, rfl, HWL.out.done, HR.out.b, HR.out.bel⟩
      clear HM HMU
      go_wp2_with fail
      go_ret
      exact HFIN.out
    obtain ⟨k, hk⟩ : ∃ k, ws.length = k + 1 := ⟨ws.length - 1, by omega⟩
    obtain ⟨q, p, rfl⟩ : ∃ q p, ws = q ++ [p] := ⟨ws.dropLast, ws.getLast (by intro e; rw [e] at hz; exact hz rfl), (List.dropLast_concat_getLast _).symm⟩
    have hqk : q.length = k := by rw [List.length_append] at hk; simpa using hk
    rw [hk] at HR HM ⊢
    have hpp : (q ++ [p])[k]? = some p := by rw [← hqk]; simp
    obtain ⟨g, rfl, hSg, hgs, hqc⟩ := HR.out.qat hpp
    have hpn : p < n := by rw [← HN.out]; exact (HWL.out.wt p (by simp)).lt HO.out
    obtain ⟨x, hx⟩ : ∃ x, l[p]? = some x := ⟨l[p]'(by rw [HN.out]; exact hpn), List.getElem?_eq_getElem _⟩
    obtain ⟨bb, hbb⟩ : ∃ b, fd[p]? = some b := ⟨fd[p]'(by rw [HWL.out.len, HN.out]; exact hpn), List.getElem?_eq_getElem _⟩
    obtain ⟨hc1, hf1⟩ := HR.out.bat hbb hpn
    have HPOP := Lib.hid (HR.out.pop hqk)
    have HX := Lib.hid hx
    have HBB := Lib.hid hbb
    have HQK := Lib.hid hqk
    have hbd : k ≤ 1201 := by have h1 := HWL.out.bd; rw [hk, HN.out] at h1; omega
    have hi1 : k < vc := by
      have h0 := HR.out.q
      rw [hk] at h0
      rcases h0.2 with ⟨h1, _⟩ | ⟨g', cp, cur, h1, _, _, h4, _⟩
      · cases h1
      · cases h1; omega
    clear hk hpp hx hbb hqk hz
    cases bb
    case true =>
      have HREL : Hid (RW l w w.heap.size n (.slice (some ⟨g, 0, none⟩) k vc, wr) (3 * cntF fd + k)) := ⟨fd, q, _, vc, by rw [HQK.out], HWL.out.skip HBB.out, by rw [HQK.out]; exact HPOP.out, by rw [HQK.out]⟩
      have HMS : Hid (mu (.slice (some ⟨g, 0, none⟩) k vc, wr) < 3 * cntF fd + (k + 1)) := Nat.lt_of_le_of_lt ((HMU.out _ ⟨_, HREL.out⟩).2 _ HREL.out) (by omega)
      clear HWL HR HMU
      go_wp2_with fail
      go_roundw
      case rel => exact ⟨_, HREL.out⟩
      case measure => rw [HM.out]; exact HMS.out
    case false =>
      have hzs : (wr.setCell ⟨w.heap.size, p, none⟩ (.bool true)).heap.size = wr.heap.size := by simp [World.setCell]
      have HFD := Lib.hid (HPOP.out.found p)
      obtain ⟨W4, hW4⟩ : ∃ W4, wr.setCell ⟨w.heap.size, p, none⟩ (.bool true) = W4 := ⟨_, rfl⟩
      rw [hW4] at HFD
      have HF4 := Lib.hid (fol_one l a n c p x W4 (HL.out W4 HFD.out.bel) HN.out HO.out HX.out)
      have HW4 := Lib.hid hW4
      clear hW4 hzs
      go_wp2_with (first | rw [HW4.out] | fail)
      refine HF4.out.mono ?_
      rintro e w5 ⟨na, nc, rfl, hon, hb5⟩
      have HR5 := Lib.hid (HFD.out.later hb5)
      obtain ⟨ns, hns⟩ : ∃ ns, natI (folN x p) = ns := ⟨_, rfl⟩
      have hnl : ns.length ≤ 2 := by rw [← hns, natI_len]; exact folN_len x p
      have HNS := Lib.hid hns
      rw [hns] at hon ⊢
      have hnews := NewsAt.ints (hon.sl rfl)
      have hown5 : w5.ownsRow (w.heap.size + 1) 3 1 (.slice (some ⟨g, 0, none⟩) k vc) k ((natI q).map (Value.int .i64)) := by
        have h1 := HR5.out.q
        rw [HQK.out] at h1; exact h1
      have hlt5 := HR5.out.lt
      clear hns hon hb5 HF4
      go_wp2_with (first
        | (at_builtin
           refine wpList_append_any _ (by rfl) _ _ 22 (by rfl) (w.heap.size + 1) 3 j0 _ 1 8 Tryd.underlying22 hj hj0 hj1 hj2 rfl (by omega) (.slice (some ⟨g, 0, none⟩) k vc) k _ (by rfl) hown5 na ns.length nc _ (by rfl) (by simp) hnews (by simp [Value.oneCell']) (by unfold maxLen; omega) (by omega) (by omega) ?_
           intro v' w6 hap)
        | fail)
      have hap2 := hap
      rw [← HNS.out, ← HQK.out] at hap2
      obtain ⟨va2, vc2, hv2, hr2⟩ := HR5.out.app (by simp [natI_len]) (by rw [HQK.out] at hap2 ⊢; exact hap2)
      have HREL : Hid (RW l w w.heap.size n (v', w6) (3 * cntF (fd.set p true) + (q ++ folN x p).length)) := ⟨fd.set p true, q ++ folN x p, va2, vc2, hv2, HWL.out.take HBB.out HX.out, hr2, rfl⟩
      have HMS : Hid (mu (v', w6) < 3 * cntF fd + (k + 1)) := by
        have h1 := (HMU.out _ ⟨_, HREL.out⟩).2 _ HREL.out
        have h2 := cntF_set fd p HBB.out
        have h3 := folN_len x p
        have h4 := HQK.out
        rw [List.length_append] at h1
        exact Nat.lt_of_le_of_lt h1 (by omega)
      clear hap hap2 hr2 hv2 hown5 hnews HWL HR HR5 HMU
      go_wp2_with fail
      go_roundw
      case rel => exact ⟨_, HREL.out⟩
      case measure => rw [HM.out]; exact HMS.out

end Go.Proofs.YtodihpnnajlkdaaDoor

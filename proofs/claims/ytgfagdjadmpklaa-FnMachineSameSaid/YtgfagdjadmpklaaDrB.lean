/- The draw of a block, from the draw of a statement: l2DrawBlock's contract where l2DrawStmt keeps its own; all blocks but the reader's stand. -/
import Derived.Test.YtgfagdjadmpklaaRowS
import Derived.Test.YtgfagdjadmpklaaDrS
import Derived.Test.YtgfagdjadmpklaaTreeP
namespace Go.Proofs.Ytgfagdjadmpklaa
open Go.RowKit
set_option linter.unusedVariables false

/-- A drawn statement of depth n with at most c statements in it; the reader has drawn at most m. -/
def DrSt (n c : Nat) (w : World) (B m : Nat) (f : Ending) (w' : World) : Prop := ∃ s k, f = .returned (aggS s k) ∧ (IsS w' (New w w') n s k ∧ SmS 1048576 n s ∧ cntS s ≤ c) ∧ RdU w' B m ∧ Oth B w w' ∧ Below B w w'
/-- A drawn block: a row of the call's own. -/
def DrBl (n c N : Nat) (w : World) (B m : Nat) (f : Ending) (w' : World) : Prop := ∃ ss a cap, f = .returned (.slice a ss.length cap) ∧ ss.length = N ∧ RowS n w' w.heap.size (.slice a ss.length cap) ss ∧ (∀ x ∈ ss, SmS 1048576 n x ∧ cntS x ≤ c) ∧ RdU w' B m ∧ Oth B w w' ∧ Below B w w'

theorem RowS.deep {n : Nat} {w : World} {base base' : Nat} {v : Value} {es : List S} (h : RowS n w base v es) (hb : base' ≤ base) : RowS n w base' v es := by
  obtain ⟨L, h1, h2, h3⟩ := h
  exact ⟨L, h1, ⟨h2.1, by
    rcases h2.2 with h | ⟨g, cap, cur, e1, e2, r⟩
    · exact .inl h
    · exact .inr ⟨g, cap, cur, e1, by omega, r⟩⟩, fun i x k hx hk => hRS n _ _ _ _ _ _ (fun _ _ => rfl) (fun j hj => ⟨by have := hj.1; omega, hj.2⟩) (h3 i x k hx hk)⟩

def BlRel (n c Q B m N X : Nat) (W : World) (v cc : Value) (wr : World) : Prop := ∃ (i : Nat) (es : List S) (va : Option Addr) (vc : Nat), i ≤ N ∧ cc = .int .i64 i ∧ v = .slice va i vc ∧ es.length = i ∧ RowS n wr X (.slice va i vc) es ∧ (∀ x ∈ es, SmS 1048576 n x ∧ cntS x ≤ c) ∧ RdU wr B (m + i * Q) ∧ (W.heap.size ≤ wr.heap.size ∧ ∀ j, j < X → j ≠ B → wr.heap[j]? = W.heap[j]?) ∧ Below B W wr ∧ X < wr.heap.size

set_option maxRecDepth 100000 in
set_option maxHeartbeats 8000000 in
theorem drBlock_of (p : Pg) (k : PC) (n c Q M : Nat) (hM : M ≤ 1099510000000) (d : Int)
    (ih : ∀ (B m : Nat) (w : World), RdU w B m → m < M → Calls Try.prog 105 #[.pointer (some ⟨B, 0, none⟩), aggP p k, .int .i64 d] w (DrSt n c w B (m + Q)))
    (B m N : Nat) (w : World) (h : RdU w B m) (hN : N ≤ 4) (hm : m + 4 * Q < M) :
    Calls Try.prog 98 #[.pointer (some ⟨B, 0, none⟩), aggP p k, .int .i64 d, .int .i64 (N : Int)] w (DrBl n c N w B (m + N * Q)) := by
  have hlt := h.lt
  have IH := Lib.hid ih
  have HI := Lib.hid Try.infoS
  obtain ⟨X, hX⟩ : ∃ X, w.heap.size + 1 = X := ⟨_, rfl⟩
  obtain ⟨W, hW⟩ : ∃ W, (w.alloc (.cells (arrP p k) 55)).alloc (.cells #[] 107) = W := ⟨_, rfl⟩
  have hBW : Below w.heap.size w W := by rw [← hW]; exact ((Below.refl _ w).alloc (Nat.le_refl _) _).alloc (by simp) _
  have hz : W.heap.size = X + 1 := by rw [← hW, ← hX]; simp
  have e0 : BoxP W w.heap.size p k := by rw [← hW]; exact (BoxP.new w p k _).later (Below.heap_alloc _ _ _ (by simp))
  have HR0 : Hid (RowS n W X (.slice (some ⟨X, 0, none⟩) 0 0) []) := by
    refine ⟨[], rfl, ?_, fun i x k h => by simp at h⟩
    have := World.ownsRow_made (base := X) (size := 11) (e := 107) (w.alloc (.cells (arrP p k) 55)) #[] 0 (by simp; omega) (by unfold maxLen; omega) (by simp)
    rw [World.size_alloc, hX, hW] at this
    exact this
  have HRD0 : Hid (RdU W B m) := h.below hBW hlt
  have HBW := Lib.hid hBW
  have HP := Lib.hid e0
  have HW := Lib.hid hW
  have HX := Lib.hid hX
  have hXw : w.heap.size < X := by omega
  have hX2 : X ≤ w.heap.size + 1 := by omega
  clear hBW e0 hW hX ih h
  go_enter Try.func98, Try.ntmps98
  go_wp2_with fail
  rw [HX.out, HW.out]
  clear HW HX
  go_loopw [9, 10] (fun v cc wr => BlRel n c Q B m N X W v cc wr) (fun _ cc _ => N - (intOf cc).toNat)
  case atStart => exact ⟨0, [], some ⟨X, 0, none⟩, 0, Nat.zero_le _, rfl, rfl, rfl, HR0.out, fun x hx => by simp at hx, by simpa using HRD0.out, ⟨Nat.le_refl _, fun _ _ _ => rfl⟩, Below.refl _ _, by omega⟩
  case round =>
    obtain ⟨i, es, va, vc, hi, rfl, rfl, hel, hrow, hsm, hrd, hoth, hbel, hXs⟩ := hrel
    have HROW := Lib.hid hrow
    have HSM := Lib.hid hsm
    have HRD := Lib.hid hrd
    have HOTH := Lib.hid hoth
    have HBEL := Lib.hid hbel
    have HNN := Lib.hid hel
    clear hrow hsm hrd hoth hbel hel HR0 HRD0
    by_cases hltN : i < N
    · have hP := HP.out.later (HOTH.out.2 w.heap.size (by omega) (by omega))
      have p0 := hP.c0
      have p1 := hP.c1
      have p2 := hP.c2
      have hiQ : i * Q + Q ≤ 4 * Q := by
        have : (i + 1) * Q ≤ 4 * Q := Nat.mul_le_mul_right _ (by omega)
        rwa [Nat.succ_mul] at this
      have HRd : Hid (RdU wr B (m + i * Q)) := HRD.out
      obtain ⟨i0, hinf, hz0, hz1, hz2⟩ := info_parts HI.out
      have j0 : (0 : Int) ≤ (i : Int) := by omega
      have j1 : (i : Int) < (N : Int) := by omega
      clear hP
      go_wp2_with fail
      refine (IH.out B (m + i * Q) _ HRd.out (by omega)).mono ?_
      rintro f u ⟨x, kx, rfl, hx, hr5, ho5, hb5⟩
      have hO5 : Oth B wr u := ho5
      have hb5w : Below B wr u := hb5
      have hs5 := hO5.1
      have hNB := heap_alloc_new u (.cells (arrS x kx) 107)
      obtain ⟨L, hL1, hL2, hL3⟩ := HROW.out.oth (hRS n) (hO5.alloc (.cells (arrS x kx) 107)) (by omega)
      rw [HNN.out] at hL2
      unfold arrS at hL2 hNB
      go_wp2_with (at_builtin; refine wpList_append_lies _ (by rfl) _ _ 53 (by rfl) X 107 i0 _ 11 152 Try.underlying53 hinf hz0 hz1 hz2 rfl (by omega) (.slice va i vc) i _ (by rfl) hL2 ⟨u.heap.size, 0, none⟩ 1 1 _ (by rfl) (by rfl) (World.news_of_block hNB) (by simp [Value.oneCell']) (by omega) (by unfold maxLen; omega) (by omega) (by simp; omega) (u.heap.size + 1) (by simp) ?_; intro g cap w5 hown5 hgrow hat hlt5)
      all_goals
        have HREL : Hid (RowS n w5 X (.slice (some ⟨g, 0, none⟩) (i + 1) cap) (es ++ [x]) ∧ (∀ y ∈ es ++ [x], SmS 1048576 n y ∧ cntS y ≤ c) ∧ RdU w5 B (m + (i + 1) * Q) ∧ (W.heap.size ≤ w5.heap.size ∧ ∀ j, j < X → j ≠ B → w5.heap[j]? = W.heap[j]?) ∧ Below B W w5 ∧ X < w5.heap.size) := by
          have hzu : (u.alloc (.cells (arrS x kx) 107)).heap.size = u.heap.size + 1 := by simp
          have hba : Below u.heap.size u (u.alloc (.cells (arrS x kx) 107)) := (Below.refl _ _).alloc (Nat.le_refl _) _
          have hb5' : Below X (u.alloc (.cells (arrS x kx) 107)) w5 := (Below.refl X _).grown hgrow (by omega) (fun k e => (hL2.lt k e).1)
          have hb6 : Below X u w5 := (hba.mono (by omega)).trans hb5'
          have hrowlt : ∀ j, (Value.slice va i vc).ownBlock = some j → j < wr.heap.size := fun j hj => by
            obtain ⟨L', _, h2, _⟩ := HROW.out
            have h2' : wr.ownsRow _ _ _ _ _ _ := h2
            exact (h2'.lt j hj).2
          have hxx : IsS (u.alloc (.cells (arrS x kx) 107)) (Dv (u.alloc (.cells (arrS x kx) 107)) X (.slice va i vc)) n x kx := hx.1.mono (fun j hj => hba.block j hj.2) fun j hj => ⟨by have := hj.1; omega, by have := hj.2; omega, fun e => by have := hrowlt j e; have := hj.1; omega⟩
          have hgs : (u.alloc (.cells (arrS x kx) 107)).heap.size ≤ w5.heap.size := hgrow.size
          refine ⟨?_, ?_, ?_, ?_, ?_, by omega⟩
          · have hs := RowG.snoc (hRS n) (es := es) (v := .slice va i vc) (base := X) (x := x) (k := kx) hL1 hL3 hxx (by rw [HNN.out]; exact hown5) hgrow (by rcases hat with h | h; exact .inl h; exact .inr (by rw [h, hzu]))
            rw [HNN.out] at hs
            exact hs
          · intro y hy
            rcases List.mem_append.1 hy with hy | hy
            · exact HSM.out y hy
            · simp at hy; subst hy; exact hx.2
          · rw [Nat.succ_mul]
            have := hr5.below hb6 (by omega)
            exact this.mono (by omega)
          · refine ⟨Nat.le_trans (Nat.le_trans HOTH.out.1 hO5.1) hb6.size, fun k hk hB => ?_⟩
            exact (hb6.block k hk).trans ((hO5.2 k (by omega) hB).trans (HOTH.out.2 k hk hB))
          · exact HBEL.out.trans (hb5w.trans (hb6.mono (by omega)))
        clear hx hr5 ho5 hb5 hb5w hO5 hNB hL1 hL2 hL3 hown5 hgrow hat hlt5 HROW HSM HRD HOTH HBEL HRd p0 p1 p2
        go_wp2_with fail
        go_roundw
        case rel => exact ⟨i + 1, es ++ [x], some ⟨g, 0, none⟩, cap, by omega, by go_num, rfl, by simp; exact HNN.out, HREL.out⟩
        case measure => simp [intOf]; omega
    · obtain rfl : i = N := by omega
      have HFIN : Hid (DrBl n c i w B (m + i * Q) (.returned (.slice va i vc)) wr) :=
        ⟨es, va, vc, by rw [HNN.out], HNN.out, by rw [HNN.out]; exact HROW.out.deep (by omega), HSM.out, HRD.out, ⟨Nat.le_trans HBW.out.size HOTH.out.1, fun k hk hB => (HOTH.out.2 k (by omega) hB).trans (HBW.out.block k hk)⟩, (HBW.out.mono (by omega)).trans HBEL.out⟩
      clear HROW HSM HRD HOTH HBEL HP
      go_wp2_with fail
      go_ret
      exact HFIN.out

end Go.Proofs.Ytgfagdjadmpklaa

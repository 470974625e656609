/- The model's copy of an expression: l2CopyExpr returns a copy in new blocks; nothing that was there has changed. Condition: no list of the tree has more than 2^20 elements. -/
import Derived.Test.YtlhdgoindknpfaaDoorDrE
namespace Go.Proofs.YtlhdgoindknpfaaDoor
open Go.RowKit
set_option linter.unusedVariables false

set_option maxRecDepth 100000 in
set_option maxHeartbeats 8000000 in
theorem cpExpr_succ (n : Nat) (ih : ∀ (e : E) (c0 c1 c2 : Value) (D : Nat → Prop) (w : World), IsE w D n e [c0, c1, c2] → (∀ k, D k → k < w.heap.size) → SmE 1048576 n e →
      Calls Tryd.prog 91 #[.agg #[c0, c1, c2]] w (CopyE n e w))
    (e : E) (c0 c1 c2 : Value) (D : Nat → Prop) (w : World) (h : IsE w D (n + 1) e [c0, c1, c2]) (hl : ∀ k, D k → k < w.heap.size) (hs : SmE 1048576 (n + 1) e) :
    Calls Tryd.prog 91 #[.agg #[c0, c1, c2]] w (CopyE (n + 1) e w) := by
  obtain ⟨a, cap, hcs, hcap, hm, hat⟩ := h
  cases hcs
  unfold maxLen at hm
  have HAT := Lib.hid hat
  have IH := Lib.hid ih
  obtain ⟨hsn, hsd, hsk⟩ := hs
  have HSK := Lib.hid hsk
  obtain ⟨es0, hes⟩ : ∃ es0, e.kids = es0 := ⟨_, rfl⟩
  obtain ⟨kd, vl, kids⟩ := e
  dsimp only at hes hcap hat hsn hsk HAT HSK ⊢
  subst hes
  obtain ⟨N, hN⟩ : ∃ N, kids.length = N := ⟨_, rfl⟩
  have HN := Lib.hid hN
  rw [hN] at hcap
  rw [hN]
  clear ih hat hsk
  obtain ⟨X, hX⟩ : ∃ X, w.heap.size + 1 + 1 = X := ⟨_, rfl⟩
  obtain ⟨W, hW⟩ : ∃ W, ((w.alloc (.cells #[.int .i64 kd, .int .i64 vl, .slice a N cap] 29)).alloc (.cells #[.int .i64 0, .int .i64 0, .slice none 0 0] 29)).alloc (.cells #[.int .i64 kd, .int .i64 vl, .slice none 0 0] 29) = W := ⟨_, rfl⟩
  have hBW : Below w.heap.size w W := by rw [← hW]; exact (((Below.refl _ w).alloc (Nat.le_refl _) _).alloc (by simp) _).alloc (by simp; omega) _
  have hz : W.heap.size = X + 1 := by rw [← hW, ← hX]; simp
  have e0 : W.heap[w.heap.size]? = some (.cells #[.int .i64 kd, .int .i64 vl, .slice a N cap] 29 (0, 0)) := by
    rw [← hW]
    exact (Below.heap_alloc _ _ _ (by simp; omega)).trans ((Below.heap_alloc _ _ _ (by simp)).trans (heap_alloc_new w _))
  have e1 : W.heap[w.heap.size + 1]? = some (.cells #[.int .i64 0, .int .i64 0, .slice none 0 0] 29 (0, 0)) := by
    have e1 := heap_alloc_new (w.alloc (.cells #[.int .i64 kd, .int .i64 vl, .slice a N cap] 29)) (.cells #[.int .i64 0, .int .i64 0, .slice none 0 0] 29)
    rw [World.size_alloc] at e1
    rw [← hW]
    exact (Below.heap_alloc _ _ _ (by simp)).trans e1
  have e2 : W.heap[X]? = some (.cells #[.int .i64 kd, .int .i64 vl, .slice none 0 0] 29 (0, 0)) := by
    have e1 := heap_alloc_new ((w.alloc (.cells #[.int .i64 kd, .int .i64 vl, .slice a N cap] 29)).alloc (.cells #[.int .i64 0, .int .i64 0, .slice none 0 0] 29)) (.cells #[.int .i64 kd, .int .i64 vl, .slice none 0 0] 29)
    rw [World.size_alloc, World.size_alloc, hX] at e1
    rw [← hW]; exact e1
  have HBW := Lib.hid hBW
  have HB0 := Lib.hid e0
  have HB1 := Lib.hid e1
  have HB2 := Lib.hid e2
  have HW := Lib.hid hW
  have HX := Lib.hid hX
  have HI := Lib.hid Tryd.infoE
  clear hBW e0 e1 e2 hW hX
  go_enter Tryd.func91, Tryd.ntmps91
  go_wp2_with fail
  rw [HX.out, HW.out]
  have hX1 : w.heap.size + 1 < X := by have := HX.out; omega
  clear HW HX
  go_loopw [4] (fun c wr => ∃ (i : Nat) (es : List E) (va : Option Addr) (vc : Nat), i ≤ N ∧ c = .int .i64 i ∧ es.length = i ∧ es = kids.take i ∧ wr.heap[X]? = some (.cells #[.int .i64 kd, .int .i64 vl, .slice va es.length vc] 29 (0, 0)) ∧ RowE n wr (X + 1) (.slice va es.length vc) es ∧ Below X W wr ∧ X + 1 ≤ wr.heap.size) (fun c _ => N - (intOf c).toNat)
  case atStart => exact ⟨0, [], none, 0, Nat.zero_le _, rfl, rfl, by simp, HB2.out, RowG.nil _ _, Below.refl _ _, by omega⟩
  case round =>
    obtain ⟨i, es, va, vc, hi, rfl, hel, het, hEB, hrow, hbel, hXs⟩ := hrel
    have HEB := Lib.hid hEB
    have HROW := Lib.hid hrow
    have HBEL := Lib.hid hbel
    have HET := Lib.hid het
    have HNN := Lib.hid hel
    have q2 : wr.cell? ⟨X, 2, none⟩ = some (.slice va i vc) := by rw [cell_at hEB, ← hel]; rfl
    have hx0 := (hbel.block w.heap.size (by omega)).trans HB0.out
    have p2 : wr.cell? ⟨w.heap.size, 2, none⟩ = some (.slice a N cap) := by rw [cell_at hx0]; rfl
    clear hEB hrow hbel hel het hx0
    by_cases hlt : i < N
    · obtain ⟨x, hx⟩ : ∃ x, kids[i]? = some x := ⟨kids[i]'(by rw [HN.out]; exact hlt), List.getElem?_eq_getElem _⟩
      obtain ⟨b, o, c0, c1, c2, rfl, hbl, f0, f1, f2, hE⟩ := HAT.out i x hx
      have hbl' := hl _ hbl
      have hst : Stand D w wr := Stand.trans (Stand.of_below HBW.out hl) fun k hk => HBEL.out.block k (by have := hl k hk; omega)
      have r0 := (World.cell?_of_block (w := w) (a := ⟨b, o + i * 3, none⟩) (hst b hbl)).trans f0
      have r1 := (World.cell?_of_block (w := w) (a := ⟨b, o + i * 3 + 1, none⟩) (hst b hbl)).trans f1
      have r2 := (World.cell?_of_block (w := w) (a := ⟨b, o + i * 3 + 2, none⟩) (hst b hbl)).trans f2
      have HE : Hid (IsE wr.drew D n x [c0, c1, c2]) := hE.later (Stand.trans hst fun _ _ => rfl)
      have HDW : Hid (∀ k, D k → k < wr.drew.heap.size) := fun k hk => by show k < wr.heap.size; have := hl k hk; omega
      have HSX : Hid (SmE 1048576 n x) := HSK.out i x hx
      have HTK : Hid (kids.take (i + 1) = es ++ [x]) := by
        show kids.take (i + 1) = es ++ [x]
        obtain ⟨hj, hx'⟩ := List.getElem?_eq_some_iff.1 hx
        rw [List.take_succ_eq_append_getElem hj, HET.out, hx']
      obtain ⟨i0, hinf, hz0, hz1, hz2⟩ := info_parts HI.out
      have j0 : (0 : Int) ≤ (i : Int) := by omega
      have j1 : (i : Int) < (N : Int) := by omega
      have hN20 : N ≤ 1048576 := by omega
      clear hE hx hst f0 f1 f2 HAT HSK
      go_wp2_with fail
      go_region_law (first
        | (go_simp; go_at_call 91; refine (IH.out x c0 c1 c2 D wr.drew HE.out HDW.out HSX.out).mono ?_; rintro f u ⟨m0, m1, m2, rfl, hx2, hb5⟩
           obtain ⟨xa, xc, rfl, rfl, rfl, _, _⟩ := hx2.shape
           have hs5 := hb5.size; have hsd : wr.drew.heap.size = wr.heap.size := rfl; have hO5 : Oth X wr u := ⟨hs5, fun k hk _ => hb5.block k hk⟩; have hEBu := (hb5.block X (by omega)).trans HEB.out; have q2u : u.cell? ⟨X, 2, none⟩ = some (.slice va i vc) := (by rw [cell_at hEBu, HNN.out]; rfl)
           have hEBa : (u.alloc (.cells #[.int .i64 x.kind, .int .i64 x.value, .slice xa x.kids.length xc] 29)).heap[X]? = some (.cells #[.int .i64 kd, .int .i64 vl, .slice va es.length vc] 29 (0, 0)) := (Below.heap_alloc _ _ _ (by omega)).trans hEBu
           have q2a : (u.alloc (.cells #[.int .i64 x.kind, .int .i64 x.value, .slice xa x.kids.length xc] 29)).cell? ⟨X, 2, none⟩ = some (.slice va i vc) := (by rw [cell_at hEBa, HNN.out]; rfl)
           obtain ⟨L, hL1, hL2, hL3⟩ := HROW.out.oth (hRE n) (hO5.alloc (.cells #[.int .i64 x.kind, .int .i64 x.value, .slice xa x.kids.length xc] 29)) (by omega)
           rw [HNN.out] at hL2)
        | (refine step_append_lies _ (by rfl) _ _ _ (by rfl) (X + 1) 29 i0 _ 3 40 Tryd.underlying27 hinf hz0 hz1 hz2 rfl (by omega) (.slice va i vc) i _ (by rfl) hL2 ⟨u.heap.size, 0, none⟩ 1 1 [.int .i64 x.kind, .int .i64 x.value, .slice xa x.kids.length xc] (by rfl) (by rfl) (World.news_of_block (cs := #[.int .i64 x.kind, .int .i64 x.value, .slice xa x.kids.length xc]) (t := 29) (fr := (0, 0)) (heap_alloc_new u _)) (by simp [Value.oneCell']) (by omega) (by unfold maxLen; omega) (by omega) (by simp; omega) (u.heap.size + 1) (by simp) ?_; intro g cap w5 hown5 hgrow hat hlt5
           have hXr : some X ≠ (Value.slice va i vc).ownBlock := fun e => (by have := (hL2.lt X e.symm).1; omega)
           have hEB5 := (hgrow.block X (by simp; omega) hXr).trans hEBa
           have q25 : w5.cell? ⟨X, 2, none⟩ = some (.slice va i vc) := (by rw [cell_at hEB5, HNN.out]; rfl)
           have f25 := frozen_at hEB5 2)
        | fail)
      all_goals
        have HREL : Hid ((put w5 X 2 [.slice (some ⟨g, 0, none⟩) (i + 1) cap]).heap[X]? = some (.cells #[.int .i64 kd, .int .i64 vl, .slice (some ⟨g, 0, none⟩) (es ++ [x]).length cap] 29 (0, 0)) ∧ RowE n (put w5 X 2 [.slice (some ⟨g, 0, none⟩) (i + 1) cap]) (X + 1) (.slice (some ⟨g, 0, none⟩) (es ++ [x]).length cap) (es ++ [x]) ∧
            Below X W (put w5 X 2 [.slice (some ⟨g, 0, none⟩) (i + 1) cap]) ∧ X + 1 ≤ (put w5 X 2 [.slice (some ⟨g, 0, none⟩) (i + 1) cap]).heap.size) := by
          have hzu : (u.alloc (.cells #[.int .i64 x.kind, .int .i64 x.value, .slice xa x.kids.length xc] 29)).heap.size = u.heap.size + 1 := by simp
          have hlen : (es ++ [x]).length = i + 1 := by rw [← HNN.out]; simp
          have hba : Below u.heap.size u (u.alloc (.cells #[.int .i64 x.kind, .int .i64 x.value, .slice xa x.kids.length xc] 29)) := (Below.refl _ _).alloc (Nat.le_refl _) _
          have hb5' : Below (X + 1) (u.alloc (.cells #[.int .i64 x.kind, .int .i64 x.value, .slice xa x.kids.length xc] 29)) w5 := (Below.refl (X + 1) _).grown hgrow (by omega) (fun k e => (hL2.lt k e).1)
          have hb6 : Below X u (put w5 X 2 [.slice (some ⟨g, 0, none⟩) (i + 1) cap]) := put_below _ _ _ X X 2 ((hba.mono (by omega)).trans (hb5'.mono (by omega))) (Nat.le_refl _)
          have hrowlt : ∀ j, (Value.slice va i vc).ownBlock = some j → j < wr.heap.size := fun j hj => by
            obtain ⟨L', _, h2, _⟩ := HROW.out
            rw [HNN.out] at h2
            exact (h2.lt j hj).2
          have hxx : IsE (u.alloc (.cells #[.int .i64 x.kind, .int .i64 x.value, .slice xa x.kids.length xc] 29)) (Dv (u.alloc (.cells #[.int .i64 x.kind, .int .i64 x.value, .slice xa x.kids.length xc] 29)) (X + 1) (.slice va i vc)) n x (cellsI x xa xc) := hx2.mono (fun j hj => hba.block j hj.2) fun j hj => ⟨by have := hj.1; omega, by have := hj.2; omega, fun e => by have := hrowlt j e; have := hj.1; omega⟩
          have hgs := hgrow.size
          refine ⟨?_, ?_, ?_, by rw [put_size]; omega⟩
          · rw [put_row _ _ _ _ _ _ hEB5, hlen]; rfl
          · rw [HNN.out] at hL3 hL1
            have hs := RowG.snoc (hRE n) (es := es) (v := .slice va i vc) (base := X + 1) (x := x) (k := (xa, xc)) (by rw [HNN.out]; exact hL1) hL3 hxx (by rw [HNN.out]; exact hown5) hgrow (by rcases hat with h | h; exact .inl h; exact .inr (by rw [h, hzu]))
            rw [HNN.out] at hs
            rw [hlen]
            exact hs.oth (hRE n) (B := X) ⟨by rw [put_size]; exact Nat.le_refl _, fun k _ hk => put_other _ _ _ _ _ hk⟩ (by omega)
          · exact HBEL.out.trans (((Below.refl X wr).drew.trans (hb5.mono (by omega))).trans hb6)
        clear hx2 hb5 hO5 hEBu q2u hEBa q2a hL1 hL2 hL3 hown5 hgrow hat hlt5 hXr hEB5 q25 f25 HROW HBEL HEB p2 q2
        go_wp2_with fail
        go_roundw
        case rel => exact ⟨i + 1, es ++ [x], some ⟨g, 0, none⟩, cap, by omega, by go_num, by simp; exact HNN.out, HTK.out.symm, HREL.out⟩
        case measure => simp [intOf]; omega
    · obtain rfl : i = N := by omega
      have hx3 := (HBEL.out.block (w.heap.size + 1) (by omega)).trans HB1.out
      obtain ⟨u0, hu0⟩ := cell_ex hx3 0 (by simp)
      obtain ⟨u1, hu1⟩ := cell_ex hx3 1 (by simp)
      obtain ⟨u2, hu2⟩ := cell_ex hx3 2 (by simp)
      have hf0 := frozen_at hx3 0
      have hf1 := frozen_at hx3 1
      have hf2 := frozen_at hx3 2
      have q0 : wr.cell? ⟨X, 0, none⟩ = some (.int .i64 kd) := by rw [cell_at HEB.out]; rfl
      have q1 : wr.cell? ⟨X, 1, none⟩ = some (.int .i64 vl) := by rw [cell_at HEB.out]; rfl
      have HFIN : Hid (CopyE (n + 1) ⟨kd, vl, kids⟩ w (.returned (.agg #[.int .i64 kd, .int .i64 vl, .slice va i vc])) (put wr (w.heap.size + 1) 0 [.int .i64 kd, .int .i64 vl, .slice va i vc])) := by
        have hek : es = kids := by rw [HET.out]; exact List.take_of_length_le (by rw [HN.out]; exact Nat.le_refl _)
        have hr := HROW.out
        rw [hek] at hr
        obtain ⟨ra, rc, e1, e2, e3, e4⟩ := RowE.es hr
        rw [HN.out] at e1 e2
        cases e1
        refine ⟨_, _, _, rfl, ⟨va, vc, by rw [HN.out], by rw [HN.out]; exact e2, e3, e4.wide (fun k hk => put_other _ _ _ _ _ (by have := hk.1; omega)) fun k hk => ⟨by have := hk.1; omega, by rw [put_size]; exact hk.2⟩⟩, ?_⟩
        exact put_below _ _ _ w.heap.size (w.heap.size + 1) 0 (HBW.out.trans (HBEL.out.mono (by omega))) (by omega)
      clear hx3 HROW HBEL HEB HAT
      go_wp2_with fail
      exact bodyPost_ret (v := .agg #[.int .i64 kd, .int .i64 vl, .slice va i vc]) (by simp [results, Tryd.f91, go_sem, hu0, hu1, hu2]) rfl HFIN.out

/-- **l2CopyExpr, AT EVERY EXPRESSION THAT IS NOT TOO BROAD.** -/
theorem cpExpr_one : ∀ (n : Nat) (e : E) (c0 c1 c2 : Value) (D : Nat → Prop) (w : World), IsE w D n e [c0, c1, c2] → (∀ k, D k → k < w.heap.size) → SmE 1048576 n e →
      Calls Tryd.prog 91 #[.agg #[c0, c1, c2]] w (CopyE n e w)
  | 0, e, c0, c1, c2, D, w, h, _, _ => h.elim
  | n + 1, e, c0, c1, c2, D, w, h, hl, hs => cpExpr_succ n (cpExpr_one n) e c0 c1 c2 D w h hl hs

end Go.Proofs.YtlhdgoindknpfaaDoor

/- The copy of a memory of the model's package. -/
import Derived.Test.YtgfagdjadmpklaaL3MB
import Derived.Test.YtgfagdjadmpklaaCpI
import Derived.Test.YtgfagdjadmpklaaPut
import Derived.Deep.RegionHeld3
import Derived.Deep.RegionLaw
namespace Go.Proofs.Ytgfagdjadmpklaa
open Go.RowKit
set_option linter.unusedVariables false

theorem RI.ints {u : World} {lo hi : Nat} {a : Option Addr} : ∀ {n : Nat}, RI u lo hi a n → ∃ xs : List Int, xs.length = n ∧ (∀ x ∈ xs, 0 ≤ x ∧ x ≤ 255) ∧ IntsAt u (fun j => lo ≤ j ∧ j < hi) xs a
  | 0, _ => ⟨[], rfl, by simp, fun k hk => by simp at hk⟩
  | n + 1, h => by
    obtain ⟨xs, h1, h2, h3⟩ := RI.ints (n := n) fun k hk => h k (by omega)
    obtain ⟨b, o, z, e1, e2, e3, e4, e5, e6, _⟩ := h n (by omega)
    refine ⟨xs ++ [z], by simp [h1], fun x hx => ?_, fun k hk => ?_⟩
    · rcases List.mem_append.1 hx with e | e
      · exact h2 x e
      · rw [List.mem_singleton] at e; subst e; exact ⟨e5, e6⟩
    · by_cases hl : k < xs.length
      · obtain ⟨b', o', d1, d2, d3⟩ := h3 k hl
        refine ⟨b', o', d1, d2, ?_⟩
        rw [d3]
        simp [List.getD, List.getElem?_append_left hl]
      · have hk' : k = n := by simp at hk; omega
        subst hk'
        refine ⟨b, o, e1, ⟨e2, e3⟩, ?_⟩
        rw [e4]
        simp [List.getD, ← h1]

/-- The copy's state: what was copied so far. -/
def CpM2 (na X : Nat) (w : World) (vv : Value) (V : World) (i : Value) (wr : World) : Prop := ∃ (qs : List (Option Addr × Nat)) (aa : Option Addr) (j ac : Nat),
  i = .int .i64 (j : Int) ∧ j ≤ na ∧ ArS V.heap.size X vv qs aa j ac wr ∧ Below w.heap.size w wr ∧ V.heap.size ≤ wr.heap.size ∧ (∀ q, q < V.heap.size → q ≠ X → wr.heap[q]? = V.heap[q]?)

/-- The copy of a list of four. -/
def CpI4 (w : World) (base g : Nat) (xs : List Int) (v : Value) (w' : World) : Prop := ∃ a cap, v = .slice a 4 cap ∧ OwnI w' base (.slice a 4 cap) xs ∧ w.grownBy w' (some g) ∧ ((Value.slice a 4 cap).ownBlock = some g ∨ (Value.slice a 4 cap).ownBlock = some w.heap.size)
theorem step_copy4 {ops : Array Oper} {o : Oper} {a : Act} {w : World} {K : Act → World → Prop} {Q : Exit → Act → World → Prop} {E : Prop} (hgd : o.guard = none) (s x : Operand)
    (ho : o.op = .call { callee := .builtin .append, args := #[s, x], argTypes := #[23, 23] })
    (base g : Nat) (hs : a.eval s = .slice (some ⟨g, 0, none⟩) 0 0) (hown : OwnI w base (.slice (some ⟨g, 0, none⟩) 0 0) [])
    (xs : List Int) (hl : xs.length = 4) (A : Option Addr) (c : Nat) (hx : a.eval x = .slice A 4 c) (D : Nat → Prop) (hr : IntsAt w D xs A) (hb : base ≤ w.heap.size)
    (h : ∀ v w', CpI4 w base g xs v w' → K (a.put o.dst v) w') :
    if Region.wanted o (yielded ops a.tmps) = true then Oper.wp Try.prog o a w K Q else E :=
  step_copyI hgd s x ho Try.infoI base g hs hown xs A c (by rw [hl]; exact hx) D hr (by omega) hb fun v w' hc => h v w' (by
    obtain ⟨a, cap, e, r1, r2, r3⟩ := hc
    rw [hl] at e r1 r3
    exact ⟨a, cap, e, r1, r2, r3⟩)

set_option maxRecDepth 100000 in
set_option maxHeartbeats 2000000 in
theorem l3Copy_one (lo hi nv na vc ac : Nat) (va aa : Option Addr) (w : World) (h : RM w lo hi nv na va aa) (hhi : hi ≤ w.heap.size) (hnv : nv ≤ 12) (hna : na ≤ 2) :
    Calls Try.prog 86 #[aggMm va aa nv na vc ac] w fun e w' => ∃ (va' aa' : Option Addr) (vc' ac' : Nat), e = .returned (aggMm va' aa' nv na vc' ac') ∧ Below w.heap.size w w' ∧ RM w' w.heap.size w'.heap.size nv na va' aa' := by
  obtain ⟨xs, hxn, hxv, hxi⟩ := h.vals.ints
  subst hxn
  obtain ⟨W, hW⟩ : ∃ W, (w.alloc (.cells #[.slice va xs.length vc, .slice aa na ac] 26)).alloc (.cells #[.slice none 0 0, .slice none 0 0] 26) = W := ⟨_, rfl⟩
  have hz : W.heap.size = w.heap.size + 2 := by rw [← hW]; simp
  have hB : Below w.heap.size w W := by rw [← hW]; exact ((Below.refl _ w).alloc (Nat.le_refl _) _).alloc (by simp) _
  have e0 : W.heap[w.heap.size]? = some (.cells #[.slice va xs.length vc, .slice aa na ac] 26 (0, 0)) := by
    rw [← hW]; exact (Below.heap_alloc _ _ _ (by simp)).trans (heap_alloc_new w _)
  have e1 : W.heap[w.heap.size + 1]? = some (.cells #[.slice none 0 0, .slice none 0 0] 26 (0, 0)) := by
    have e1 := heap_alloc_new (w.alloc (.cells #[.slice va xs.length vc, .slice aa na ac] 26)) (.cells #[.slice none 0 0, .slice none 0 0] 26)
    rw [World.size_alloc] at e1
    rw [← hW]; exact e1
  have q0 : W.cell? ⟨w.heap.size, 0, none⟩ = some (.slice va xs.length vc) := by rw [cell_at e0]; rfl
  have hM : OwnI (W.alloc (.cells #[] 3)) (w.heap.size + 2) (.slice (some ⟨w.heap.size + 2, 0, none⟩) 0 0) [] := by have := OwnI.made' W (w.heap.size + 2) (by omega); rw [hz] at this; exact this
  have hI0 : IntsAt (W.alloc (.cells #[] 3)) (fun j => lo ≤ j ∧ j < hi) xs va := hxi.wide (fun j hj => (Below.heap_alloc _ _ _ (by omega)).trans (hB.block j (by omega))) (fun _ h => h)
  have H := Lib.hid h
  have HW := Lib.hid hW
  have HB := Lib.hid hB
  have HE0 := Lib.hid e0
  have HE1 := Lib.hid e1
  have HM := Lib.hid hM
  have HI0 := Lib.hid hI0
  clear h hxi hW hB e0 e1 hM hI0
  show Calls Try.prog 86 #[.agg #[.slice va xs.length vc, .slice aa na ac]] w _
  go_enter Try.func86, Try.ntmps86
  go_wp2_with (first | rw [HW.out] | (at_builtin; refine wpList_copyI (by rfl) _ _ (by rfl) Try.infoI (w.heap.size + 2) (w.heap.size + 2) (by rfl) HM.out xs _ _ (by rfl) _ HI0.out (by omega) (by simp; omega) ?_; rintro v w1 ⟨a1, c1, rfl, hv1, hgr1, hat1⟩))
  obtain ⟨n, hn⟩ : ∃ n, xs.length = n := ⟨_, rfl⟩
  obtain ⟨X, hX⟩ : ∃ X, w1.heap.size = X := ⟨_, rfl⟩
  obtain ⟨V, hV⟩ : ∃ V, w1.alloc (.cells #[.slice a1 n c1, .slice none 0 0] 26) = V := ⟨_, rfl⟩
  have hwl := hgr1.size
  rw [World.size_alloc, hz] at hwl
  have hVz : V.heap.size = X + 1 := by rw [← hV, World.size_alloc, hX]
  have hXw : w.heap.size + 3 ≤ X := by omega
  have hBV : Below w.heap.size w V := by
    rw [← hV]
    exact ((HB.out.alloc (by omega) _).grown hgr1 (by simp; omega) (fun k e => by cases e; omega)).alloc (by omega) _
  have hst1 : ∀ q, q < w.heap.size + 2 → V.heap[q]? = W.heap[q]? := fun q hq => by
    rw [← hV, Below.heap_alloc _ _ _ (by omega)]
    exact (hgr1.block q (by simp; omega) (fun e => by cases e; omega)).trans (Below.heap_alloc _ _ _ (by omega))
  have hbx : V.heap[X]? = some (.cells #[.slice a1 n c1, .slice none 0 0] 26 (0, 0)) := by rw [← hV, ← hX]; exact heap_alloc_new w1 _
  rw [hn] at hv1
  have hown : OwnI V (w.heap.size + 2) (.slice a1 n c1) xs := hv1.far fun g hg => by
    have hgl := ((show w1.ownsRow (w.heap.size + 2) 3 1 (.slice a1 n c1) xs.length (xs.map (Value.int .i64)) from hv1).lt g hg).2
    rw [← hV]; exact Below.heap_alloc _ _ _ hgl
  have hownlt : ∀ g, (Value.slice a1 n c1).ownBlock = some g → g < X := fun g hg => by
    have := ((show w1.ownsRow (w.heap.size + 2) 3 1 (.slice a1 n c1) xs.length (xs.map (Value.int .i64)) from hv1).lt g hg).2
    omega
  have HA0 : Hid (CpM2 na X w (.slice a1 n c1) V (.int .i64 0) V) := ⟨[], none, 0, 0, rfl, Nat.zero_le _, ArS.nil hbx, hBV, Nat.le_refl _, fun _ _ _ => rfl⟩
  have HOW := Lib.hid hown
  have HOL := Lib.hid hownlt
  have HBX0 : Hid (V.heap[w.heap.size]? = some (.cells #[.slice va n vc, .slice aa na ac] 26 (0, 0))) := by show _ = _; rw [hst1 _ (by omega), ← hn]; exact HE0.out
  have HBX1 : Hid (V.heap[w.heap.size + 1]? = some (.cells #[.slice none 0 0, .slice none 0 0] 26 (0, 0))) := by show _ = _; rw [hst1 _ (by omega)]; exact HE1.out
  have HN := Lib.hid hn
  have HXV := Lib.hid hxv
  have hww : w1.alloc (.cells #[.slice a1 xs.length c1, .slice none 0 0] 26) = V := by rw [hn]; exact hV
  rw [hww, hX, hn]
  rw [hn] at hnv
  have HRM := Lib.hid H.out
  rw [hn] at HRM
  clear hww hV hX hbx hown hownlt hv1 hgr1 hat1 hst1 hn hxv HM HI0 HE0 HE1 HW q0 H hwl
  go_loopw [4] (fun i wr => CpM2 na X w (.slice a1 n c1) V i wr) (fun i _ => na - (intOf i).toNat)
  case atStart => exact HA0.out
  case round =>
    obtain ⟨qs, ba, j, bc, rfl, hle2, hars, hbel2, hz2, hstd2⟩ := hrel
    have hb0 := (hstd2 w.heap.size (by omega) (by omega)).trans HBX0.out
    have p1 : wr.cell? ⟨w.heap.size, 1, none⟩ = some (.slice aa na ac) := by rw [cell_at hb0]; rfl
    have q1 : wr.cell? ⟨X, 1, none⟩ = some (.slice ba j bc) := by rw [cell_at hars.bx]; rfl
    have HARS := Lib.hid hars
    have HBEL2 := Lib.hid hbel2
    have HSTD2 := Lib.hid hstd2
    clear hars hbel2 hstd2
    by_cases hlt2 : j < na
    · obtain ⟨b, o, av, cv, rfl, hlb, hbh, hcb, hcv, hcm, hri⟩ := HRM.out.arrs j hlt2
      obtain ⟨ys, hyn, hyv, hyi⟩ := hri.ints
      have r1 : wr.cell? ⟨b, o + j, none⟩ = some (.slice av 4 cv) := (World.cell?_of_block (w := w) (a := ⟨b, o + j, none⟩) (HBEL2.out.block b (by omega))).trans hcb
      have HSA : Hid (∀ v : World, (∀ q, q < V.heap.size → v.heap[q]? = wr.heap[q]?) → v.cell? ⟨w.heap.size, 1, none⟩ = some (.slice (some ⟨b, o, none⟩) na ac) ∧ v.cell? ⟨X, 1, none⟩ = some (.slice ba j bc) ∧ v.cell? ⟨b, o + j, none⟩ = some (.slice av 4 cv)) := fun v hv =>
        ⟨(World.cell?_of_block (w := wr) (a := ⟨w.heap.size, 1, none⟩) (hv _ (by show w.heap.size < _; omega))).trans p1, (World.cell?_of_block (w := wr) (a := ⟨X, 1, none⟩) (hv _ (by show X < _; omega))).trans q1, (World.cell?_of_block (w := wr) (a := ⟨b, o + j, none⟩) (hv _ (by show b < _; omega))).trans r1⟩
      obtain ⟨d0, d1, d2⟩ := HSA.out wr.drew fun _ _ => rfl
      obtain ⟨e0, e1, e2⟩ := HSA.out (wr.alloc (.cells #[] 3)) fun q hq => Below.heap_alloc _ _ _ (by omega)
      obtain ⟨f0, f1, f2⟩ := HSA.out (wr.alloc (.cells #[] 3)).drew fun q hq => Below.heap_alloc _ _ _ (by omega)
      have M1 : Hid (OwnI (wr.alloc (.cells #[] 3)) wr.heap.size (.slice (some ⟨wr.heap.size, 0, none⟩) 0 0) []) := OwnI.made' wr wr.heap.size (Nat.le_refl _)
      have M1d : Hid (OwnI (wr.alloc (.cells #[] 3)).drew wr.heap.size (.slice (some ⟨wr.heap.size, 0, none⟩) 0 0) []) := M1.out.drew'
      have HY : Hid (∀ v : World, (∀ q, q < wr.heap.size → v.heap[q]? = wr.heap[q]?) → IntsAt v (fun j => lo ≤ j ∧ j < hi) ys av) := fun v hv => hyi.wide (fun q hq => (hv q (by omega)).trans (HBEL2.out.block q (by omega))) (fun _ h => h)
      have HY1 : Hid (IntsAt (wr.alloc (.cells #[] 3)) (fun j => lo ≤ j ∧ j < hi) ys av) := HY.out _ fun q hq => Below.heap_alloc _ _ _ hq
      have HY1d : Hid (IntsAt (wr.alloc (.cells #[] 3)).drew (fun j => lo ≤ j ∧ j < hi) ys av) := HY.out _ fun q hq => Below.heap_alloc _ _ _ hq
      obtain ⟨i0, hinf, hz0, hz1', hz2'⟩ := info_parts Try.infoSl
      clear hri hyi hcb
      go_wp2_with fail
      go_region_law (first
        | (refine step_copy4 (by rfl) _ _ (by rfl) wr.heap.size wr.heap.size (by rfl) (by first | exact M1.out | exact M1d.out) ys hyn av cv (by rfl) _ (by first | exact HY1.out | exact HY1d.out) (by simp) ?_; rintro v w2 ⟨a2, c2, rfl, hv2, hgr2, hat2⟩; have hs2 : ∀ q, q < wr.heap.size → w2.heap[q]? = wr.heap[q]? := fun q hq => (hgr2.block q (by first | (simp; omega) | (show q < (wr.alloc (.cells #[] 3)).heap.size; simp; omega)) (fun e => (by cases e; omega))).trans (Below.heap_alloc _ _ _ hq)
           have hz2w : wr.heap.size + 1 ≤ w2.heap.size := (by have h := hgr2.size; have h' : (wr.alloc (.cells #[] 3)).heap.size = wr.heap.size + 1 := World.size_alloc _ _; first | omega | exact Nat.le_trans (Nat.le_of_eq h'.symm) h)
           have hs2a : ∀ q, q < wr.heap.size → (w2.alloc (.cells #[.slice a2 4 c2] 23)).heap[q]? = wr.heap[q]? := fun q hq => (Below.heap_alloc _ _ _ (by omega)).trans (hs2 q hq)
           obtain ⟨x0, x1, x2⟩ := HSA.out w2 fun q hq => hs2 q (by omega)
           obtain ⟨y0, y1, y2⟩ := HSA.out (w2.alloc (.cells #[.slice a2 4 c2] 23)) fun q hq => hs2a q (by omega)
           have ha4 := HARS.out.stand (u' := w2.alloc (.cells #[.slice a2 4 c2] 23)) (by simp; omega) (fun q h1 h2 => hs2a q h2) (hs2a X (by omega))
           have hL4 := ha4.own)
        | (refine step_append_lies _ (by rfl) _ _ _ (by rfl) V.heap.size 23 i0 _ 1 24 Try.underlying24 hinf hz0 hz1' hz2' rfl (by omega) (.slice ba j bc) j _ (by rfl) hL4 ⟨w2.heap.size, 0, none⟩ 1 1 [.slice a2 4 c2] (by rfl) (by rfl) (World.news_of_block (cs := #[.slice a2 4 c2]) (t := 23) (fr := (0, 0)) (heap_alloc_new w2 _)) (by simp [Value.oneCell']) (by omega) (by unfold maxLen; omega) (by omega) (by simp; omega) (w2.heap.size + 1) (by simp) ?_; intro g cp w5 hown5 hgrow hat hlt5
           have hXr : some X ≠ (Value.slice ba j bc).ownBlock := fun e => (by have := (hL4.lt _ e.symm).1; omega)
           have hBX5 := (hgrow.block X (by simp; omega) hXr).trans ha4.bx
           have q25 : w5.cell? ⟨X, 1, none⟩ = some (.slice ba j bc) := (by rw [cell_at hBX5]; rfl)
           have f25 : w5.frozen? ⟨X, 1, none⟩ = false := frozen_of_row _ _ 1 _ _ hBX5))
      all_goals
        have HNEW : Hid (CpM2 na X w (.slice a1 n c1) V (.int .i64 ((j : Int) + 1)) (w5.setCell ⟨X, 1, none⟩ (.slice (some ⟨g, 0, none⟩) (j + 1) cp))) := by
          have hXu : X < w2.heap.size := by omega
          have hb5 : Below V.heap.size (w2.alloc (.cells #[.slice a2 4 c2] 23)) w5 := (Below.refl _ _).grown hgrow (by simp; omega) (fun q e => (hL4.lt q e).1)
          have hb2 : Below wr.heap.size wr w2 := by
            first
            | exact ((Below.refl _ wr).alloc (Nat.le_refl _) _).grown hgr2 (by simp) (fun k e => by cases e; omega)
            | exact ((Below.refl _ wr).alloc (Nat.le_refl _) _).drew.grown hgr2 (by show wr.heap.size ≤ (wr.alloc (.cells #[] 3)).heap.size; simp) (fun k e => by cases e; omega)
          have hb6 : Below w.heap.size wr (w5.setCell ⟨X, 1, none⟩ (.slice (some ⟨g, 0, none⟩) (j + 1) cp)) := by
            have hmid : Below w.heap.size wr w5 := ((hb2.mono (by omega)).alloc (by omega) _).trans (hb5.mono (by omega))
            exact hmid.setCell (p := ⟨X, 1, none⟩) (show w.heap.size ≤ X by omega) _
          have hat' : (Value.slice ba j bc).ownBlock = some g ∨ (w2.alloc (.cells #[.slice a2 4 c2] 23)).heap.size ≤ g := by
            rcases hat with h | h
            · exact .inl h
            · exact .inr (by simp; omega)
          have hel4 : ArE (w2.alloc (.cells #[.slice a2 4 c2] 23)) V.heap.size (.slice ba j bc) (a2, c2) := by
            have ho := hv2.stand (w' := w2.alloc (.cells #[.slice a2 4 c2] 23)) (fun q hq hq' => Below.heap_alloc _ _ _ hq')
            exact ArE.of_own ho hyn hyv hz2 fun g hg => (HARS.out.lt g hg).2
          refine ⟨qs ++ [(a2, c2)], some ⟨g, 0, none⟩, j + 1, cp, rfl, by omega, ha4.snoc hel4 hown5 hgrow hat' (by omega) (by simp; omega), HBEL2.out.trans hb6, ?_, ?_⟩
          · exact Nat.le_trans hz2 hb6.size
          · intro q hq hqX
            have hs : (w5.setCell ⟨X, 1, none⟩ (.slice (some ⟨g, 0, none⟩) (j + 1) cp)).heap[q]? = w5.heap[q]? := Below.heap_setCell _ _ _ _ (by simpa using hqX)
            rw [hs]
            exact (hb5.block q hq).trans ((hs2a q (by omega)).trans (HSTD2.out q hq hqX))
        clear x0 x1 x2 y0 y1 y2 d0 d1 d2 e0 e1 e2 f0 f1 f2 ha4 hL4 hs2 hs2a hv2 hgr2 hat2 hown5 hgrow hat hlt5 hXr hBX5 q25 f25 HARS HBEL2 HSTD2 HSA M1 M1d HY HY1 HY1d q1 p1 r1
        go_wp2_with fail
        go_roundw
        case rel => exact HNEW.out
        case measure => simp [intOf]; omega
    · have hjn : j = na := by omega
      subst hjn
      have hr1 : wr.heap[w.heap.size + 1]? = some (.cells #[.slice none 0 0, .slice none 0 0] 26 (0, 0)) := (HSTD2.out (w.heap.size + 1) (by omega) (by omega)).trans HBX1.out
      have g0 : wr.cell? ⟨X, 0, none⟩ = some (.slice a1 n c1) := by rw [cell_at HARS.out.bx]; rfl
      obtain ⟨r0, hr0⟩ := cell_ex hr1 0 (by simp)
      obtain ⟨r1', hr1'⟩ := cell_ex hr1 1 (by simp)
      have f0 := frozen_at hr1 0
      have f1 := frozen_at hr1 1
      have HFIN : Hid (Below w.heap.size w (put wr (w.heap.size + 1) 0 [.slice a1 n c1, .slice ba j bc]) ∧ RM (put wr (w.heap.size + 1) 0 [.slice a1 n c1, .slice ba j bc]) w.heap.size (put wr (w.heap.size + 1) 0 [.slice a1 n c1, .slice ba j bc]).heap.size n j a1 ba) := by
        have hpb : Below w.heap.size wr (put wr (w.heap.size + 1) 0 [.slice a1 n c1, .slice ba j bc]) := put_below _ _ _ w.heap.size (w.heap.size + 1) 0 (Below.refl _ wr) (by omega)
        refine ⟨HBEL2.out.trans hpb, ?_⟩
        have ho : OwnI wr (w.heap.size + 2) (.slice a1 n c1) xs := HOW.out.far fun g hg => HSTD2.out g (by have := HOL.out g hg; omega) (by have := HOL.out g hg; omega)
        have hrm := HARS.out.fin ho HN.out HXV.out (by omega)
        have hrm' := hrm.stand (u' := put wr (w.heap.size + 1) 0 [.slice a1 n c1, .slice ba j bc]) fun q h1 h2 => put_other _ _ _ _ _ (by omega)
        exact hrm'.wide (by omega) (by rw [put_size]; omega)
      clear hr1 HARS HBEL2 HSTD2
      go_wp2_with fail
      exact bodyPost_ret (v := aggMm a1 ba n j c1 bc) (by simp [results, Try.f86, go_sem, hr0, hr1']) rfl (by rw [HN.out]; exact ⟨a1, ba, c1, bc, rfl, HFIN.out⟩)

end Go.Proofs.Ytgfagdjadmpklaa

/- The bend of a program of the model's package. -/
import Derived.Test.YtlhdgoindknpfaaDoorMuW
import Derived.Deep.RegionHeld3
namespace Go.Proofs.YtlhdgoindknpfaaDoor
open Go.RowKit
set_option linter.unusedVariables false

def slLen : Option Value → Nat
  | some (.slice _ n _) => n
  | _ => 0

set_option maxRecDepth 100000 in
set_option maxHeartbeats 8000000 in
theorem mutProgram (p : Pg) (k : PC) (D : Nat → Prop) (B m : Nat) (w : World) (hp : IsP w D 10 p k) (hl : ∀ k, D k → k < w.heap.size) (hs : SmP 1048576 10 p) (hv : p.vars.length ≤ 5) (ha : p.arrs.length ≤ 2) (h : RdU w B m) (hm : m < 1099000000000) :
    Calls Tryd.prog 25 #[.pointer (some ⟨B, 0, none⟩), aggP p k] w (MutPg w B (m + 10)) := by
  have hlt := h.lt
  obtain ⟨W, hW⟩ : ∃ W, (w.alloc (.cells #[.slice k.va p.vars.length k.vc, .slice k.aa p.arrs.length k.ac, .slice k.ba p.body.length k.bc] 26)).alloc (.cells #[.slice none 0 0, .slice none 0 0, .slice none 0 0] 26) = W := ⟨_, rfl⟩
  have hBW : Below w.heap.size w W := by rw [← hW]; exact ((Below.refl _ w).alloc (Nat.le_refl _) _).alloc (by simp) _
  have hz : W.heap.size = w.heap.size + 2 := by rw [← hW]; simp
  have HE1 : Hid (W.heap[w.heap.size + 1]? = some (.cells #[.slice none 0 0, .slice none 0 0, .slice none 0 0] 26 (0, 0))) := by
    have e1 := heap_alloc_new (w.alloc (.cells #[.slice k.va p.vars.length k.vc, .slice k.aa p.arrs.length k.ac, .slice k.ba p.body.length k.bc] 26)) (.cells #[.slice none 0 0, .slice none 0 0, .slice none 0 0] 26)
    rw [World.size_alloc] at e1
    rw [← hW]; exact e1
  have HWW := Lib.hid hW
  have HCP := Lib.hid (cpProgram p k 10 D W (hp.later fun j hj => hBW.block j (hl j hj)) (fun j hj => by have := hl j hj; omega) hs)
  have HRD := Lib.hid (h.below hBW hlt)
  have HBL := Lib.hid hBW
  have HSM := Lib.hid hs
  clear hW hBW hp hs h
  go_enter Tryd.func25, Tryd.ntmps25
  go_wp2_with fail
  simp only [aggP]
  rw [HWW.out]
  clear HWW
  with_reducible refine HCP.out.mono ?_
  rintro f w3 ⟨va, vc, aa, ac, ba, bc, b2, rfl, hb2, hb3, hov, hoa, hdv, hda, hrow, hbw⟩
  obtain ⟨kq, hkq⟩ : ∃ kq, (⟨va, vc, aa, ac, ba, bc⟩ : PC) = kq := ⟨_, rfl⟩
  have hst : MSt w B m w3.heap.size p ⟨va, vc, aa, ac, ba, bc⟩ (w3.alloc (.cells #[.slice va p.vars.length vc, .slice aa p.arrs.length ac, .slice ba p.body.length bc] 26)) := by
    have hr3 := HRD.out.below hbw (by omega)
    have hb' : Below w.heap.size w w3 := HBL.out.trans (hbw.mono (by omega))
    have hst : Stand (fun j => w.heap.size + 1 < j ∧ j < w3.heap.size) w3 (w3.alloc (.cells #[.slice va p.vars.length vc, .slice aa p.arrs.length ac, .slice ba p.body.length bc] 26)) := fun j hj => Below.heap_alloc _ _ _ hj.2
    obtain ⟨a1, c1, e1, i1, j1, k1⟩ := hov.ints
    cases e1
    obtain ⟨a2, c2, e2, i2, j2, k2⟩ := hoa.ints
    cases e2
    obtain ⟨a3, c3, e3, i3, j3, k3⟩ := hrow.ss
    cases e3
    refine ⟨hr3.alloc _, ((Oth.below hb').alloc _), (hb'.mono (by omega)).alloc (by omega) _, heap_alloc_new w3 _, (Below.heap_alloc _ _ _ (by omega)).trans ((hbw.block _ (by omega)).trans HE1.out), hlt, by omega, ?_, HSM.out, by omega, ha⟩
    have hi : IsP w3 (fun j => w.heap.size + 1 < j ∧ j < w3.heap.size) 10 p ⟨va, vc, aa, ac, ba, bc⟩ :=
      ⟨⟨i1, j1, k1.wide (fun _ _ => rfl) fun j hj => ⟨by have := hj.1; omega, hj.2⟩⟩, ⟨i2, j2, k2.wide (fun _ _ => rfl) fun j hj => ⟨by have := hj.1; omega, hj.2⟩⟩, i3, j3, k3.wide (fun _ _ => rfl) fun j hj => ⟨by have := hj.1; omega, hj.2⟩⟩
    exact hi.mono hst fun j hj => ⟨hj.1, by simp; omega⟩
  rw [hkq] at hst
  have HST := Lib.hid hst
  have e0 : (w3.alloc (.cells #[.slice va p.vars.length vc, .slice aa p.arrs.length ac, .slice ba p.body.length bc] 26)).cell? ⟨w3.heap.size, 2, none⟩ = some (.slice ba p.body.length bc) := by rw [cell_at (heap_alloc_new w3 _)]; rfl
  have HOV := Lib.hid hov
  have HOA := Lib.hid hoa
  have HDV := Lib.hid hdv
  have HDA := Lib.hid hda
  have HROW := Lib.hid hrow
  clear hst hov hoa hdv hda hrow HCP
  go_wp2_with fail
  obtain ⟨U0, hU0⟩ : ∃ U0, (w3.alloc (.cells #[.slice va p.vars.length vc, .slice aa p.arrs.length ac, .slice ba p.body.length bc] 26)) = U0 := ⟨_, rfl⟩
  have HOU : Hid (Oth B w3 U0) := by rw [← hU0]; exact (Oth.refl B w3).alloc _
  rw [hU0] at HST e0 ⊢
  clear hU0
  with_reducible refine (pickU B m 60 U0 HST.out.rd (by omega) (by omega) (by omega)).mono ?_
  rintro f U1 ⟨tv, htv, rfl, hr1, ho1, hb1⟩
  have HD := Lib.hid (HST.out.call hr1 ho1 hb1)
  have HO1 := Lib.hid (HOU.out.trans ho1)
  have FIN : Hid (MutPg w B (m + 10) (.returned (aggP p kq)) (put U1 (w.heap.size + 1) 0 (arrP p kq).toList)) := HD.out.fin (by omega)
  have NIL := Lib.hid (HD.out.nil (m' := m + 10) (by omega))
  have hbx : BoxP U1 w3.heap.size p ⟨va, vc, aa, ac, ba, bc⟩ := ⟨_, by rw [hkq]; exact HD.out.bx⟩
  have g0 := hbx.c0
  have g1 := hbx.c1
  have g2 := hbx.c2
  have hbr := HD.out.br
  obtain ⟨r0, hr0⟩ := cell_ex hbr 0 (by simp)
  obtain ⟨r1, hr1'⟩ := cell_ex hbr 1 (by simp)
  obtain ⟨r2, hr2⟩ := cell_ex hbr 2 (by simp)
  have f0 := frozen_at hbr 0
  have f1 := frozen_at hbr 1
  have f2 := frozen_at hbr 2
  subst hkq
  have HR : Hid (MRow (W.heap.size + 2) b2 w3.heap.size p ⟨va, vc, aa, ac, ba, bc⟩ U1) :=
    MRow.oth (B := B) ⟨HOV.out, HOA.out, fun j hj => (HDV.out j hj).1, HDA.out, HROW.out, fun j hj => by
      obtain ⟨L, _, hown, _⟩ := HROW.out
      exact (hown.lt j hj).2⟩ HO1.out (by omega) (by omega)
  have HAP : Hid (∀ j, (Value.slice va p.vars.length vc).ownBlock = some j → (Value.slice aa p.arrs.length ac).ownBlock ≠ some j) := fun j hj => (HDV.out j hj).2
  clear hbr hbx HST HOU hr1 ho1 hb1 e0 HOV HOA HDV HDA
  rcases (show tv = 0 ∨ tv = 1 ∨ tv = 2 ∨ tv = 3 ∨ tv = 4 ∨ tv = 5 ∨ tv = 6 ∨ 7 ≤ tv by omega) with rfl | rfl | rfl | rfl | rfl | rfl | rfl | h7
  · rcases Nat.eq_zero_or_pos p.vars.length with hn | hn
    · have hnn : ¬ (0 : Int) < (p.vars.length : Int) := by omega
      clear hn
      go_wp2_with fail
      exact bodyPost_ret (v := .agg #[.slice va p.vars.length vc, .slice aa p.arrs.length ac, .slice ba p.body.length bc]) (by simp [results, Tryd.f25, go_sem, hr0, hr1', hr2]) rfl FIN.out
    · obtain ⟨gb, hgb, _⟩ := HD.out.writeV HR.out HAP.out (by omega) (by omega) (by omega) hn 0
      cases hgb
      have hgU : w3.heap.size < U1.heap.size := (Array.getElem?_eq_some_iff.1 HD.out.bx).1
      have HS : Hid (∀ v', Oth B U1 v' → v'.cell? ⟨w3.heap.size, 0, none⟩ = some (.slice (some ⟨gb, 0, none⟩) p.vars.length vc)) := fun v' hv' => by
        rw [← g0]; exact World.cell?_of_block (w := U1) (hv'.2 _ hgU (show w3.heap.size ≠ B by omega))
      have hip : (0 : Int) < (p.vars.length : Int) := by omega
      go_wp2_with fail
      go_region_held3 (fun v' => v'.cell? ⟨w3.heap.size, 0, none⟩ = some (.slice (some ⟨gb, 0, none⟩) p.vars.length vc)) (first | assumption | exact HS.out _ (Oth.refl _ _) | exact HS.out _ (Oth.refl _ _).drew | exact hS2 | exact hS3)
         ((go_at_call 50; refine (labelU B (m + 1) _ (by first | exact HD.out.rd | exact HD.out.rd.drew) (by omega)).mono ?_; rintro f V ⟨nv, _, rfl, hr7, ho7, hb7⟩; have hO7 : Oth B U1 V := ho7; have hD7 := HD.out.call hr7 hO7 ((Below.refl B U1).drew.trans hb7); have hS2 := HS.out V hO7; have hR7 := HR.out.oth hO7 (by omega) (by omega)
           obtain ⟨gc, hgc, hgc1, hgc2, hgc3, ⟨y, hy⟩, hfz, hM⟩ := MSt.writeV hD7 hR7 HAP.out (by omega) (by omega) (by omega) hn nv
           cases hgc
           have hS3 : (V.setCell ⟨gb, 0, none⟩ (.int .i64 nv)).cell? ⟨w3.heap.size, 0, none⟩ = some (.slice (some ⟨gb, 0, none⟩) p.vars.length vc) := (by rw [← hS2]; exact World.cell?_of_block (w := V) (put_other [.int .i64 nv] V gb _ _ (show w3.heap.size ≠ gb from fun e => hgc3 e.symm)))))
      all_goals
        have hM' : MSt w B (m + 1 + 2) w3.heap.size { p with vars := p.vars.set 0 nv } ⟨some ⟨gb, 0, none⟩, vc, aa, ac, ba, bc⟩ (V.setCell ⟨gb, 0, none⟩ (.int .i64 nv)) := hM
        obtain ⟨U2, hU2⟩ : ∃ U2, V.setCell ⟨gb, 0, none⟩ (.int .i64 nv) = U2 := ⟨_, rfl⟩
        rw [hU2] at hM' ⊢
        obtain ⟨P, hP⟩ : ∃ P, { p with vars := p.vars.set 0 nv } = P := ⟨_, rfl⟩
        obtain ⟨K, hK⟩ : ∃ K, (⟨some ⟨gb, 0, none⟩, vc, aa, ac, ba, bc⟩ : PC) = K := ⟨_, rfl⟩
        rw [hP, hK] at hM'
        have HF := Lib.hid (hM'.fin (m' := m + 10) (by omega))
        have hbx : BoxP U2 w3.heap.size P K := ⟨_, hM'.bx⟩
        have c0 := hbx.c0
        have c1 := hbx.c1
        have c2 := hbx.c2
        have hbr := hM'.br
        obtain ⟨s0, hs0⟩ := cell_ex hbr 0 (by simp)
        obtain ⟨s1, hs1⟩ := cell_ex hbr 1 (by simp)
        obtain ⟨s2, hs2⟩ := cell_ex hbr 2 (by simp)
        have z0 := frozen_at hbr 0
        have z1 := frozen_at hbr 1
        have z2 := frozen_at hbr 2
        clear hP hK hU2 hM hM' hS3 hgc1 hgc2 hgc3 hy hfz hR7 hS2 hO7 hD7 hr7 ho7 hb7 HS FIN NIL HD HO1 HR HAP hr0 hr1' hr2 f0 f1 f2 g0 g1 g2 hbx hbr
        go_wp2_with fail
        exact bodyPost_ret (v := aggP P K) (by simp [results, Tryd.f25, go_sem, hs0, hs1, hs2]) rfl HF.out
  · have hgU : w3.heap.size < U1.heap.size := (Array.getElem?_eq_some_iff.1 HD.out.bx).1
    clear FIN NIL g0 g1 g2 hr0 hr1' hr2 f0 f1 f2
    go_wp2_with fail
    go_loopw [] (fun wr => ∃ (xs : List Int) (va' : Option Addr) (vc' : Nat), xs.length ≤ 13 ∧ wr.heap[w3.heap.size]? = some (.cells #[.slice va' xs.length vc', .slice aa p.arrs.length ac, .slice ba p.body.length bc] 26 (0, 0)) ∧ OwnI wr (W.heap.size + 2) (.slice va' xs.length vc') xs ∧ (∀ j, (Value.slice va' xs.length vc').ownBlock = some j → (Value.slice va p.vars.length vc).ownBlock = some j ∨ U1.heap.size ≤ j) ∧ U1.heap.size ≤ wr.heap.size ∧ (∀ j, j < U1.heap.size → j ≠ w3.heap.size → (Value.slice va p.vars.length vc).ownBlock ≠ some j → wr.heap[j]? = U1.heap[j]?) ∧ Below (w.heap.size + 2) U1 wr) (fun wr => 13 - slLen (wr.cell? ⟨w3.heap.size, 0, none⟩))
    case atStart => exact ⟨p.vars, va, vc, by omega, HD.out.bx, HR.out.ov, fun j h => .inl h, Nat.le_refl _, fun _ _ _ _ => rfl, Below.refl _ _⟩
    case round =>
      obtain ⟨xs, va', vc', hx13, hEB, hown, hob, hsz, hst, hbel⟩ := hrel
      have q0 : wr.cell? ⟨w3.heap.size, 0, none⟩ = some (.slice va' xs.length vc') := by rw [cell_at hEB]; rfl
      rcases Nat.lt_or_ge 12 xs.length with h12 | h12
      · have hle : ¬ (xs.length : Int) ≤ 12 := by omega
        have hM : MSt w B (m + 1) (w3.heap.size) { p with vars := xs } ⟨va', vc', aa, ac, ba, bc⟩ wr := by
          have hD := HD.out
          have hR := HR.out
          have hgt := hD.gt
          have hz0 := hD.oth.1
          have hbel0 : Below (w.heap.size + 2) U1 wr := hbel
          have hOu : Oth B U1 wr → True := fun _ => trivial
          have hsa : ∀ j, (Value.slice aa p.arrs.length ac).ownBlock = some j → wr.heap[j]? = U1.heap[j]? := fun j hj => hst j (by have := hR.da j hj; omega) (by have := hR.da j hj; omega) (fun e => HAP.out j e hj)
          obtain ⟨a1, c1, e1, i1, j1, k1⟩ := hown.ints
          cases e1
          obtain ⟨a2, c2, e2, i2, j2, k2⟩ := (hR.oa.far (w' := wr) hsa).ints
          cases e2
          obtain ⟨a3, c3, e3, i3, j3, k3⟩ := HROW.out.ss
          cases e3
          refine ⟨hD.rd.below hbel0 (by omega), ⟨by omega, fun j hj hjB => (hbel0.block j (by omega)).trans (hD.oth.2 j hj hjB)⟩, hD.bel.trans (hbel0.mono (by omega)), hEB, (hbel0.block _ (by omega)).trans hD.br, hD.hB, hD.gt, ?_, ⟨by show xs.length ≤ 1048576; omega, hD.sm.2⟩, hx13, hD.la⟩
          exact ⟨⟨i1, j1, k1.wide (fun _ _ => rfl) fun j hj => ⟨by have := hj.1; omega, hj.2⟩⟩, ⟨i2, j2, k2.wide (fun _ _ => rfl) fun j hj => ⟨by have := hj.1; omega, hj.2⟩⟩, i3, j3, k3.wide (fun j hj => (hst j (by have := hj.2; omega) (by have := hj.2; omega) (fun e => by have := hR.dv j e; have := hj.1; omega)).trans (HO1.out.2 j hj.2 (by have := hj.1; omega))) fun j hj => ⟨by have := hj.1; omega, by have := hj.2; omega⟩⟩
        obtain ⟨P, hP⟩ : ∃ P, { p with vars := xs } = P := ⟨_, rfl⟩
        obtain ⟨K, hK⟩ : ∃ K, (⟨va', vc', aa, ac, ba, bc⟩ : PC) = K := ⟨_, rfl⟩
        rw [hP, hK] at hM
        have HF := Lib.hid (hM.fin (m' := m + 10) (by omega))
        obtain ⟨U2, hU2⟩ : ∃ U2, U2 = wr := ⟨_, rfl⟩
        subst hU2
        have hbx : BoxP U2 w3.heap.size P K := ⟨_, hM.bx⟩
        have c0 := hbx.c0
        have c1 := hbx.c1
        have c2 := hbx.c2
        have hbr := hM.br
        obtain ⟨s0, hs0⟩ := cell_ex hbr 0 (by simp)
        obtain ⟨s1, hs1⟩ := cell_ex hbr 1 (by simp)
        obtain ⟨s2, hs2⟩ := cell_ex hbr 2 (by simp)
        have z0 := frozen_at hbr 0
        have z1 := frozen_at hbr 1
        have z2 := frozen_at hbr 2
        have hPx : P.vars.length = xs.length := by rw [← hP]
        have hle' : ¬ (P.vars.length : Int) ≤ 12 := by omega
        clear hP hK hM hbx hbr hEB hown hob hst hbel q0 hle hPx h12
        go_wp2_with fail
        exact bodyPost_ret (v := aggP P K) (by simp [results, Tryd.f25, go_sem, hs0, hs1, hs2]) rfl HF.out
      · have hle : (xs.length : Int) ≤ 12 := by omega
        obtain ⟨i0, hinf, hz0, hz1', hz2⟩ := info_parts (Tryd.infoI)
        have HEB := Lib.hid hEB
        have HOWN := Lib.hid hown
        have HOB := Lib.hid hob
        have HST := Lib.hid hst
        have HBEL := Lib.hid hbel
        have hEBa : (wr.alloc (.cells #[.int .i64 1] 3)).heap[w3.heap.size]? = some (.cells #[.slice va' xs.length vc', .slice aa p.arrs.length ac, .slice ba p.body.length bc] 26 (0, 0)) := (Below.heap_alloc _ _ _ (by omega)).trans hEB
        have hOWA : OwnI (wr.alloc (.cells #[.int .i64 1] 3)) (W.heap.size + 2) (.slice va' xs.length vc') xs := hown.later ((Below.refl _ _).alloc (Nat.le_refl _) _)
        have q0a : (wr.alloc (.cells #[.int .i64 1] 3)).cell? ⟨w3.heap.size, 0, none⟩ = some (.slice va' xs.length vc') := by rw [cell_at hEBa]; rfl
        clear hEB hown hob hst hbel
        go_wp2_with (at_builtin; refine wpList_append_lies _ (by rfl) _ _ _ (by rfl) (W.heap.size + 2) 3 i0 _ 1 8 Tryd.underlying23 hinf hz0 hz1' hz2 rfl (by omega) (.slice va' xs.length vc') xs.length _ (by rfl) hOWA ⟨wr.heap.size, 0, none⟩ 1 1 [.int .i64 1] (by rfl) (by rfl) (World.news_of_block (cs := #[.int .i64 1]) (t := 3) (fr := (0, 0)) (heap_alloc_new wr _)) (by simp [Value.oneCell']) (by omega) (by unfold maxLen; omega) (by omega) (by simp; omega) (wr.heap.size + 1) (by simp) ?_; intro g5 cap w5 hown5 hgrow hat hlt5
                     have hXr : some (w3.heap.size) ≠ (Value.slice va' xs.length vc').ownBlock := fun e => (by
                       rcases HOB.out _ e.symm with h | h
                       · have := HR.out.dv _ h; omega
                       · omega)
                     have hEB5 := (hgrow.block (w3.heap.size) (by simp; omega) hXr).trans hEBa
                     have q25 : w5.cell? ⟨w3.heap.size, 0, none⟩ = some (.slice va' xs.length vc') := (by rw [cell_at hEB5]; rfl)
                     have f25 := frozen_at hEB5 0)
        have hlen : (xs ++ [(1 : Int)]).length = xs.length + 1 := by simp
        have hg5 : (Value.slice va p.vars.length vc).ownBlock = some g5 ∨ U1.heap.size ≤ g5 := by
          rcases hat with h | h
          · exact HOB.out _ h
          · right; omega
        have hg5G : g5 ≠ w3.heap.size := fun e => by
          rcases hg5 with h | h
          · have := HR.out.dv _ h; omega
          · omega
        have hwz : wr.heap.size + 1 ≤ w5.heap.size := by have := hgrow.size; simpa using this
        have HREL : Hid ((xs ++ [1]).length ≤ 13 ∧ (put w5 (w3.heap.size) 0 [.slice (some ⟨g5, 0, none⟩) (xs.length + 1) cap]).heap[w3.heap.size]? = some (.cells #[.slice (some ⟨g5, 0, none⟩) (xs ++ [1]).length cap, .slice aa p.arrs.length ac, .slice ba p.body.length bc] 26 (0, 0)) ∧ OwnI (put w5 (w3.heap.size) 0 [.slice (some ⟨g5, 0, none⟩) (xs.length + 1) cap]) (W.heap.size + 2) (.slice (some ⟨g5, 0, none⟩) (xs ++ [1]).length cap) (xs ++ [1]) ∧ (∀ j, (Value.slice (some ⟨g5, 0, none⟩) (xs ++ [1]).length cap).ownBlock = some j → (Value.slice va p.vars.length vc).ownBlock = some j ∨ U1.heap.size ≤ j) ∧ U1.heap.size ≤ (put w5 (w3.heap.size) 0 [.slice (some ⟨g5, 0, none⟩) (xs.length + 1) cap]).heap.size ∧ (∀ j, j < U1.heap.size → j ≠ w3.heap.size → (Value.slice va p.vars.length vc).ownBlock ≠ some j → (put w5 (w3.heap.size) 0 [.slice (some ⟨g5, 0, none⟩) (xs.length + 1) cap]).heap[j]? = U1.heap[j]?) ∧ Below (w.heap.size + 2) U1 (put w5 (w3.heap.size) 0 [.slice (some ⟨g5, 0, none⟩) (xs.length + 1) cap])) := by
          rw [hlen]
          refine ⟨by omega, ?_, ?_, ?_, ?_, ?_, ?_⟩
          · rw [put_row _ _ _ _ _ _ hEB5]; rfl
          · have ho : OwnI w5 (W.heap.size + 2) (.slice (some ⟨g5, 0, none⟩) (xs.length + 1) cap) (xs ++ [1]) := by
              unfold OwnI
              rw [hlen, List.map_append]
              exact hown5
            exact ho.far fun j hj => put_other _ _ _ _ _ (by cases hj; exact hg5G)
          · intro j hj
            cases hj
            exact hg5
          · rw [put_size]; omega
          · intro j hj hjG hjv
            rw [put_other _ _ _ _ _ hjG]
            refine (hgrow.block j (by simp; omega) (fun e => ?_)).trans ((Below.heap_alloc _ _ _ (by omega)).trans (HST.out j hj hjG hjv))
            rcases HOB.out _ e.symm with h | h
            · exact hjv h
            · omega
          · exact put_below _ _ _ _ _ 0 ((HBEL.out.trans ((Below.refl _ wr).alloc (by omega) _)).trans ((Below.refl _ _).grown hgrow (by simp; omega) (fun j e => by have := ((show (wr.alloc (.cells #[.int .i64 1] 3)).ownsRow (W.heap.size + 2) 3 1 (.slice va' xs.length vc') xs.length (xs.map (Value.int .i64)) from hOWA).lt j e).1; omega))) (by omega)
        clear hown5 hgrow hat hlt5 hXr hEB5 q25 f25 hEBa hOWA q0a
        go_wp2_with fail
        go_roundw
        case rel => exact ⟨xs ++ [1], some ⟨g5, 0, none⟩, cap, HREL.out⟩
        case measure =>
          have e1 : (put w5 (w3.heap.size) 0 [.slice (some ⟨g5, 0, none⟩) (xs.length + 1) cap]).cell? ⟨w3.heap.size, 0, none⟩ = some (.slice (some ⟨g5, 0, none⟩) (xs ++ [(1 : Int)]).length cap) := by rw [cell_at HREL.out.2.1]; rfl
          show 13 - slLen ((put w5 (w3.heap.size) 0 [.slice (some ⟨g5, 0, none⟩) (xs.length + 1) cap]).cell? ⟨w3.heap.size, 0, none⟩) < 13 - slLen (wr.cell? ⟨w3.heap.size, 0, none⟩)
          rw [e1, q0, hlen]
          show 13 - (xs.length + 1) < 13 - xs.length
          omega
  · rcases Nat.eq_zero_or_pos p.body.length with hn | hn
    · have hnn : ¬ (0 : Int) < (p.body.length : Int) := by omega
      clear hn
      go_wp2_with fail
      exact bodyPost_ret (v := .agg #[.slice va p.vars.length vc, .slice aa p.arrs.length ac,   .slice ba p.body.length bc]) (by simp [results, Tryd.f25, go_sem, hr0, hr1', hr2]) rfl FIN.out
    · obtain ⟨gb, hgb, _, _⟩ := HR.out.spot hn (j := 0) (by omega)
      cases hgb
      have HLT : Hid (∀ j, j < 5 → ((U1.alloc (.cells #[.int .i64 0, .int .i64 6, .int .i64 1, .int .i64 5, .int .i64 2] 3)).drew).cell? ⟨U1.heap.size, 0 + j, none⟩ = some (.int .i64 (([0, 6, 1, 5, 2] : List Int).getD j 0))) := lit_cells U1 [0, 6, 1, 5, 2] _
      have HOL : Hid (Oth B U1 ((U1.alloc (.cells #[.int .i64 0, .int .i64 6, .int .i64 1, .int .i64 5, .int .i64 2] 3)).drew)) := ((Oth.refl B U1).alloc _).drew
      have HDL := Lib.hid (HD.out.call ((HD.out.rd.alloc (.cells #[.int .i64 0, .int .i64 6, .int .i64 1, .int .i64 5, .int .i64 2] 3)).drew) HOL.out (((Below.refl B U1).alloc (by have := HD.out.rd.lt; omega) (.cells #[.int .i64 0, .int .i64 6, .int .i64 1, .int .i64 5, .int .i64 2] 3)).drew))
      have hgU : w3.heap.size < U1.heap.size := (Array.getElem?_eq_some_iff.1 HD.out.bx).1
      have HS : Hid (∀ v', Oth B U1 v' → v'.cell? ⟨w3.heap.size, 2, none⟩ = some (.slice (some ⟨gb, 0, none⟩) p.body.length bc)) := fun v' hv' => by
        rw [← g2]; exact World.cell?_of_block (w := U1) (hv'.2 _ hgU (show w3.heap.size ≠ B by omega))
      have HOA : Hid (Oth B U1 (U1.alloc (.cells #[.int .i64 0, .int .i64 6, .int .i64 1, .int .i64 5, .int .i64 2] 3))) := (Oth.refl B U1).alloc _
      have hip : (0 : Int) < (p.body.length : Int) := by omega
      obtain ⟨x, hx⟩ : ∃ x, p.body[0]? = some x := ⟨p.body[0]'(by omega), List.getElem?_eq_getElem _⟩
      go_wp2_with fail
      go_region_held3 (fun v' => v'.cell? ⟨w3.heap.size, 2, none⟩ = some (.slice (some ⟨gb, 0, none⟩) p.body.length bc)) (first | assumption | exact HS.out _ HOL.out | exact HS.out _ HOA.out | exact hS2 | exact hS3)
        (first
        | (go_at_call 24; (with_reducible refine (numU B (m + 1) U1.heap.size 0 5 5 [0, 6, 1, 5, 2] ((U1.alloc (.cells #[.int .i64 0, .int .i64 6, .int .i64 1, .int .i64 5, .int .i64 2] 3)).drew) HDL.out.rd (by omega) (by omega) rfl (by omega) (by omega) HLT.out).mono ?_); rintro f V ⟨nv, hnv, rfl, hr7, ho7, hb7⟩; have hD7 := HDL.out.call hr7 ho7 hb7; have hO7 := HOL.out.trans ho7; have hS2 := HS.out V hO7; have hR7 := HR.out.oth hO7 (by omega) (by omega); obtain ⟨gb', hgb', ⟨y, hy⟩, hfz⟩ := hR7.spot (i := 0) (j := 0) (by omega) (by omega); cases hgb'
           obtain ⟨gc, hgc, hgc1, hgc2, hgc3, hM⟩ := MSt.write (x' := { x with kind := nv }) (v := .int .i64 nv) hD7 hR7 (by omega) (by omega) hx (j := 0) (by omega) (fun _ => rfl) (fun w D k h => h.nums _ _ _) (fun h => h)
           cases hgc
           have hS3 : (V.setCell ⟨gb, 0 * 11 + 0, none⟩ (.int .i64 nv)).cell? ⟨w3.heap.size, 2, none⟩ = some (.slice (some ⟨gb, 0, none⟩) p.body.length bc) := (by rw [← hS2]; exact World.cell?_of_block (w := V) (put_other [.int .i64 nv] V gb _ _ (show w3.heap.size ≠ gb from fun e => hgc3 e.symm))))
        | fail)
      all_goals
        have hM' : MSt w B (m + 1 + 1) w3.heap.size { p with body := p.body.set 0 { x with kind := nv } } ⟨va, vc, aa, ac, some ⟨gb, 0, none⟩, bc⟩ (V.setCell ⟨gb, 0, none⟩ (.int .i64 nv)) := hM
        obtain ⟨U2, hU2⟩ : ∃ U2, V.setCell ⟨gb, 0, none⟩ (.int .i64 nv) = U2 := ⟨_, rfl⟩
        rw [hU2] at hM' ⊢
        obtain ⟨P, hP⟩ : ∃ P, { p with body := p.body.set 0 { x with kind := nv } } = P := ⟨_, rfl⟩
        obtain ⟨K, hK⟩ : ∃ K, (⟨va, vc, aa, ac, some ⟨gb, 0, none⟩, bc⟩ : PC) = K := ⟨_, rfl⟩
        rw [hP, hK] at hM'
        have HF := Lib.hid (hM'.fin (m' := m + 10) (by omega))
        have hbx : BoxP U2 w3.heap.size P K := ⟨_, hM'.bx⟩
        have c0 := hbx.c0
        have c1 := hbx.c1
        have c2 := hbx.c2
        have hbr := hM'.br
        obtain ⟨s0, hs0⟩ := cell_ex hbr 0 (by simp)
        obtain ⟨s1, hs1⟩ := cell_ex hbr 1 (by simp)
        obtain ⟨s2, hs2⟩ := cell_ex hbr 2 (by simp)
        have z0 := frozen_at hbr 0
        have z1 := frozen_at hbr 1
        have z2 := frozen_at hbr 2
        clear hP hK hU2 hM hM' hS3 hgc1 hgc2 hgc3 hy hfz hR7 hS2 hO7 hD7 hr7 ho7 hb7 hnv hx HS HOA HDL HOL HLT FIN NIL HD HO1 HR hr0 hr1' hr2 f0 f1 f2 g0 g1 g2 hbx hbr
        go_wp2_with fail
        exact bodyPost_ret (v := aggP P K) (by simp [results, Tryd.f25, go_sem, hs0, hs1, hs2]) rfl HF.out
  · rcases Nat.eq_zero_or_pos p.body.length with hn | hn
    · have hnn : ¬ (0 : Int) < (p.body.length : Int) := by omega
      clear hn
      go_wp2_with fail
      exact bodyPost_ret (v := .agg #[.slice va p.vars.length vc, .slice aa p.arrs.length ac,   .slice ba p.body.length bc]) (by simp [results, Tryd.f25, go_sem, hr0, hr1', hr2]) rfl FIN.out
    · obtain ⟨gb, hgb, _, _⟩ := HR.out.spot hn (j := 1) (by omega)
      cases hgb
      have HLT : Hid (∀ j, j < 4 → ((U1.alloc (.cells #[.int .i64 (-1), .int .i64 12, .int .i64 1, .int .i64 9223372036854775807] 3)).drew).cell? ⟨U1.heap.size, 0 + j, none⟩ = some (.int .i64 (([-1, 12, 1, 9223372036854775807] : List Int).getD j 0))) := lit_cells U1 [-1, 12, 1, 9223372036854775807] _
      have HOL : Hid (Oth B U1 ((U1.alloc (.cells #[.int .i64 (-1), .int .i64 12, .int .i64 1, .int .i64 9223372036854775807] 3)).drew)) := ((Oth.refl B U1).alloc _).drew
      have HDL := Lib.hid (HD.out.call ((HD.out.rd.alloc (.cells #[.int .i64 (-1), .int .i64 12, .int .i64 1, .int .i64 9223372036854775807] 3)).drew) HOL.out (((Below.refl B U1).alloc (by have := HD.out.rd.lt; omega) (.cells #[.int .i64 (-1), .int .i64 12, .int .i64 1, .int .i64 9223372036854775807] 3)).drew))
      have hgU : w3.heap.size < U1.heap.size := (Array.getElem?_eq_some_iff.1 HD.out.bx).1
      have HS : Hid (∀ v', Oth B U1 v' → v'.cell? ⟨w3.heap.size, 2, none⟩ = some (.slice (some ⟨gb, 0, none⟩) p.body.length bc)) := fun v' hv' => by
        rw [← g2]; exact World.cell?_of_block (w := U1) (hv'.2 _ hgU (show w3.heap.size ≠ B by omega))
      have HOA : Hid (Oth B U1 (U1.alloc (.cells #[.int .i64 (-1), .int .i64 12, .int .i64 1, .int .i64 9223372036854775807] 3))) := (Oth.refl B U1).alloc _
      have hip : (0 : Int) < (p.body.length : Int) := by omega
      obtain ⟨z, hzz⟩ : ∃ z, p.body.length = z + 1 := ⟨p.body.length - 1, by omega⟩
      have hzm : p.body.length ≤ 1048576 := HSM.out.2.2.1
      have hwr : IntKind.i64.wrap ((p.body.length : Int) - 1) = (z : Int) := by rw [show ((p.body.length : Int) - 1) = (z : Int) by omega]; exact IntWalk.i64_in _ (by omega)
      have hzl : (z : Int) < (p.body.length : Int) := by omega
      have HZZ := Lib.hid hzz
      clear hzz
      obtain ⟨x, hx⟩ : ∃ x, p.body[z]? = some x := ⟨p.body[z]'(by have := HZZ.out; omega), List.getElem?_eq_getElem _⟩
      go_wp2_with fail
      go_region_held3 (fun v' => v'.cell? ⟨w3.heap.size, 2, none⟩ = some (.slice (some ⟨gb, 0, none⟩) p.body.length bc)) (first | assumption | exact HS.out _ HOL.out | exact HS.out _ HOA.out | exact hS2 | exact hS3)
        (first
        | (go_at_call 24; (with_reducible refine (numU B (m + 1) U1.heap.size 0 4 4 [-1, 12, 1, 9223372036854775807] ((U1.alloc (.cells #[.int .i64 (-1), .int .i64 12, .int .i64 1, .int .i64 9223372036854775807] 3)).drew) HDL.out.rd (by omega) (by omega) rfl (by omega) (by omega) HLT.out).mono ?_); rintro f V ⟨nv, hnv, rfl, hr7, ho7, hb7⟩; have hD7 := HDL.out.call hr7 ho7 hb7; have hO7 := HOL.out.trans ho7; have hS2 := HS.out V hO7; have hR7 := HR.out.oth hO7 (by omega) (by omega); obtain ⟨gb', hgb', ⟨y, hy⟩, hfz⟩ := hR7.spot (i := z) (j := 1) (by have := HZZ.out; omega) (by omega); cases hgb'
           obtain ⟨gc, hgc, hgc1, hgc2, hgc3, hM⟩ := MSt.write (x' := { x with target := nv }) (v := .int .i64 nv) hD7 hR7 (by omega) (by omega) hx (j := 1) (by omega) (fun _ => rfl) (fun w D k h => h.nums _ _ _) (fun h => h)
           cases hgc
           have hS3 : (V.setCell ⟨gb, z * 11 + 1, none⟩ (.int .i64 nv)).cell? ⟨w3.heap.size, 2, none⟩ = some (.slice (some ⟨gb, 0, none⟩) p.body.length bc) := (by rw [← hS2]; exact World.cell?_of_block (w := V) (put_other [.int .i64 nv] V gb _ _ (show w3.heap.size ≠ gb from fun e => hgc3 e.symm))))
        | fail)
      all_goals
        have hM' : MSt w B (m + 1 + 1) w3.heap.size { p with body := p.body.set z { x with target := nv } } ⟨va, vc, aa, ac, some ⟨gb, 0, none⟩, bc⟩ (V.setCell ⟨gb, z * 11 + 1, none⟩ (.int .i64 nv)) := hM
        obtain ⟨U2, hU2⟩ : ∃ U2, V.setCell ⟨gb, z * 11 + 1, none⟩ (.int .i64 nv) = U2 := ⟨_, rfl⟩
        rw [hU2] at hM' ⊢
        obtain ⟨P, hP⟩ : ∃ P, { p with body := p.body.set z { x with target := nv } } = P := ⟨_, rfl⟩
        obtain ⟨K, hK⟩ : ∃ K, (⟨va, vc, aa, ac, some ⟨gb, 0, none⟩, bc⟩ : PC) = K := ⟨_, rfl⟩
        rw [hP, hK] at hM'
        have HF := Lib.hid (hM'.fin (m' := m + 10) (by omega))
        have hbx : BoxP U2 w3.heap.size P K := ⟨_, hM'.bx⟩
        have c0 := hbx.c0
        have c1 := hbx.c1
        have c2 := hbx.c2
        have hbr := hM'.br
        obtain ⟨s0, hs0⟩ := cell_ex hbr 0 (by simp)
        obtain ⟨s1, hs1⟩ := cell_ex hbr 1 (by simp)
        obtain ⟨s2, hs2⟩ := cell_ex hbr 2 (by simp)
        have z0 := frozen_at hbr 0
        have z1 := frozen_at hbr 1
        have z2 := frozen_at hbr 2
        clear hP hK hU2 hM hM' hS3 hgc1 hgc2 hgc3 hy hfz hR7 hS2 hO7 hD7 hr7 ho7 hb7 hnv hx HS HOA HDL HOL HLT FIN NIL HD HO1 HR hr0 hr1' hr2 f0 f1 f2 g0 g1 g2 hbx hbr
        go_wp2_with fail
        exact bodyPost_ret (v := aggP P K) (by simp [results, Tryd.f25, go_sem, hs0, hs1, hs2]) rfl HF.out
  · rcases Nat.eq_zero_or_pos p.body.length with hn | hn
    · have hnn : ¬ (0 : Int) < (p.body.length : Int) := by omega
      clear hn
      go_wp2_with fail
      exact bodyPost_ret (v := .agg #[.slice va p.vars.length vc, .slice aa p.arrs.length ac,   .slice ba p.body.length bc]) (by simp [results, Tryd.f25, go_sem, hr0, hr1', hr2]) rfl FIN.out
    · obtain ⟨gb, hgb, _, _⟩ := HR.out.spot hn (j := 6) (by omega)
      cases hgb
      have HLT : Hid (∀ j, j < 4 → ((U1.alloc (.cells #[.int .i64 (-1), .int .i64 256, .int .i64 12, .int .i64 1] 3)).drew).cell? ⟨U1.heap.size, 0 + j, none⟩ = some (.int .i64 (([-1, 256, 12, 1] : List Int).getD j 0))) := lit_cells U1 [-1, 256, 12, 1] _
      have HOL : Hid (Oth B U1 ((U1.alloc (.cells #[.int .i64 (-1), .int .i64 256, .int .i64 12, .int .i64 1] 3)).drew)) := ((Oth.refl B U1).alloc _).drew
      have HDL := Lib.hid (HD.out.call ((HD.out.rd.alloc (.cells #[.int .i64 (-1), .int .i64 256, .int .i64 12, .int .i64 1] 3)).drew) HOL.out (((Below.refl B U1).alloc (by have := HD.out.rd.lt; omega) (.cells #[.int .i64 (-1), .int .i64 256, .int .i64 12, .int .i64 1] 3)).drew))
      have hgU : w3.heap.size < U1.heap.size := (Array.getElem?_eq_some_iff.1 HD.out.bx).1
      have HS : Hid (∀ v', Oth B U1 v' → v'.cell? ⟨w3.heap.size, 2, none⟩ = some (.slice (some ⟨gb, 0, none⟩) p.body.length bc)) := fun v' hv' => by
        rw [← g2]; exact World.cell?_of_block (w := U1) (hv'.2 _ hgU (show w3.heap.size ≠ B by omega))
      have HOA : Hid (Oth B U1 (U1.alloc (.cells #[.int .i64 (-1), .int .i64 256, .int .i64 12, .int .i64 1] 3))) := (Oth.refl B U1).alloc _
      have hip : (0 : Int) < (p.body.length : Int) := by omega
      obtain ⟨x, hx⟩ : ∃ x, p.body[0]? = some x := ⟨p.body[0]'(by omega), List.getElem?_eq_getElem _⟩
      go_wp2_with fail
      go_region_held3 (fun v' => v'.cell? ⟨w3.heap.size, 2, none⟩ = some (.slice (some ⟨gb, 0, none⟩) p.body.length bc)) (first | assumption | exact HS.out _ HOL.out | exact HS.out _ HOA.out | exact hS2 | exact hS3)
        (first
        | (go_at_call 24; (with_reducible refine (numU B (m + 1) U1.heap.size 0 4 4 [-1, 256, 12, 1] ((U1.alloc (.cells #[.int .i64 (-1), .int .i64 256, .int .i64 12, .int .i64 1] 3)).drew) HDL.out.rd (by omega) (by omega) rfl (by omega) (by omega) HLT.out).mono ?_); rintro f V ⟨nv, hnv, rfl, hr7, ho7, hb7⟩; have hD7 := HDL.out.call hr7 ho7 hb7; have hO7 := HOL.out.trans ho7; have hS2 := HS.out V hO7; have hR7 := HR.out.oth hO7 (by omega) (by omega); obtain ⟨gb', hgb', ⟨y, hy⟩, hfz⟩ := hR7.spot (i := 0) (j := 6) (by omega) (by omega); cases hgb'
           obtain ⟨gc, hgc, hgc1, hgc2, hgc3, hM⟩ := MSt.write (x' := { x with value := { x.value with value := nv } }) (v := .int .i64 nv) hD7 hR7 (by omega) (by omega) hx (j := 6) (by omega) (fun _ => rfl) (fun w D k h => h.val _) (fun h => h)
           cases hgc
           have hS3 : (V.setCell ⟨gb, 0 * 11 + 6, none⟩ (.int .i64 nv)).cell? ⟨w3.heap.size, 2, none⟩ = some (.slice (some ⟨gb, 0, none⟩) p.body.length bc) := (by rw [← hS2]; exact World.cell?_of_block (w := V) (put_other [.int .i64 nv] V gb _ _ (show w3.heap.size ≠ gb from fun e => hgc3 e.symm))))
        | fail)
      all_goals
        have hM' : MSt w B (m + 1 + 1) w3.heap.size { p with body := p.body.set 0 { x with value := { x.value with value := nv } } } ⟨va, vc, aa, ac, some ⟨gb, 0, none⟩, bc⟩ (V.setCell ⟨gb, 6, none⟩ (.int .i64 nv)) := hM
        obtain ⟨U2, hU2⟩ : ∃ U2, V.setCell ⟨gb, 6, none⟩ (.int .i64 nv) = U2 := ⟨_, rfl⟩
        rw [hU2] at hM' ⊢
        obtain ⟨P, hP⟩ : ∃ P, { p with body := p.body.set 0 { x with value := { x.value with value := nv } } } = P := ⟨_, rfl⟩
        obtain ⟨K, hK⟩ : ∃ K, (⟨va, vc, aa, ac, some ⟨gb, 0, none⟩, bc⟩ : PC) = K := ⟨_, rfl⟩
        rw [hP, hK] at hM'
        have HF := Lib.hid (hM'.fin (m' := m + 10) (by omega))
        have hbx : BoxP U2 w3.heap.size P K := ⟨_, hM'.bx⟩
        have c0 := hbx.c0
        have c1 := hbx.c1
        have c2 := hbx.c2
        have hbr := hM'.br
        obtain ⟨s0, hs0⟩ := cell_ex hbr 0 (by simp)
        obtain ⟨s1, hs1⟩ := cell_ex hbr 1 (by simp)
        obtain ⟨s2, hs2⟩ := cell_ex hbr 2 (by simp)
        have z0 := frozen_at hbr 0
        have z1 := frozen_at hbr 1
        have z2 := frozen_at hbr 2
        clear hP hK hU2 hM hM' hS3 hgc1 hgc2 hgc3 hy hfz hR7 hS2 hO7 hD7 hr7 ho7 hb7 hnv hx HS HOA HDL HOL HLT FIN NIL HD HO1 HR hr0 hr1' hr2 f0 f1 f2 g0 g1 g2 hbx hbr
        go_wp2_with fail
        exact bodyPost_ret (v := aggP P K) (by simp [results, Tryd.f25, go_sem, hs0, hs1, hs2]) rfl HF.out
  · rcases Nat.eq_zero_or_pos p.body.length with hn | hn
    · have hnn : ¬ (0 : Int) < (p.body.length : Int) := by omega
      clear hn
      go_wp2_with fail
      exact bodyPost_ret (v := .agg #[.slice va p.vars.length vc, .slice aa p.arrs.length ac,   .slice ba p.body.length bc]) (by simp [results, Tryd.f25, go_sem, hr0, hr1', hr2]) rfl FIN.out
    · obtain ⟨gb, hgb, _, _⟩ := HR.out.spot hn (j := 8) (by omega)
      cases hgb
      have HLT : Hid (∀ j, j < 4 → ((U1.alloc (.cells #[.int .i64 1, .int .i64 4, .int .i64 (-1), .int .i64 2] 3)).drew).cell? ⟨U1.heap.size, 0 + j, none⟩ = some (.int .i64 (([1, 4, -1, 2] : List Int).getD j 0))) := lit_cells U1 [1, 4, -1, 2] _
      have HOL : Hid (Oth B U1 ((U1.alloc (.cells #[.int .i64 1, .int .i64 4, .int .i64 (-1), .int .i64 2] 3)).drew)) := ((Oth.refl B U1).alloc _).drew
      have HDL := Lib.hid (HD.out.call ((HD.out.rd.alloc (.cells #[.int .i64 1, .int .i64 4, .int .i64 (-1), .int .i64 2] 3)).drew) HOL.out (((Below.refl B U1).alloc (by have := HD.out.rd.lt; omega) (.cells #[.int .i64 1, .int .i64 4, .int .i64 (-1), .int .i64 2] 3)).drew))
      have hgU : w3.heap.size < U1.heap.size := (Array.getElem?_eq_some_iff.1 HD.out.bx).1
      have HS : Hid (∀ v', Oth B U1 v' → v'.cell? ⟨w3.heap.size, 2, none⟩ = some (.slice (some ⟨gb, 0, none⟩) p.body.length bc)) := fun v' hv' => by
        rw [← g2]; exact World.cell?_of_block (w := U1) (hv'.2 _ hgU (show w3.heap.size ≠ B by omega))
      have HOA : Hid (Oth B U1 (U1.alloc (.cells #[.int .i64 1, .int .i64 4, .int .i64 (-1), .int .i64 2] 3))) := (Oth.refl B U1).alloc _
      have hip : (0 : Int) < (p.body.length : Int) := by omega
      obtain ⟨x, hx⟩ : ∃ x, p.body[0]? = some x := ⟨p.body[0]'(by omega), List.getElem?_eq_getElem _⟩
      go_wp2_with fail
      go_region_held3 (fun v' => v'.cell? ⟨w3.heap.size, 2, none⟩ = some (.slice (some ⟨gb, 0, none⟩) p.body.length bc)) (first | assumption | exact HS.out _ HOL.out | exact HS.out _ HOA.out | exact hS2 | exact hS3)
        (first
        | (go_at_call 24; (with_reducible refine (numU B (m + 1) U1.heap.size 0 4 4 [1, 4, -1, 2] ((U1.alloc (.cells #[.int .i64 1, .int .i64 4, .int .i64 (-1), .int .i64 2] 3)).drew) HDL.out.rd (by omega) (by omega) rfl (by omega) (by omega) HLT.out).mono ?_); rintro f V ⟨nv, hnv, rfl, hr7, ho7, hb7⟩; have hD7 := HDL.out.call hr7 ho7 hb7; have hO7 := HOL.out.trans ho7; have hS2 := HS.out V hO7; have hR7 := HR.out.oth hO7 (by omega) (by omega); obtain ⟨gb', hgb', ⟨y, hy⟩, hfz⟩ := hR7.spot (i := 0) (j := 8) (by omega) (by omega); cases hgb'
           obtain ⟨gc, hgc, hgc1, hgc2, hgc3, hM⟩ := MSt.write (x' := { x with count := nv }) (v := .int .i64 nv) hD7 hR7 (by omega) (by omega) hx (j := 8) (by omega) (fun _ => rfl) (fun w D k h => h.nums _ _ _) (fun h => h)
           cases hgc
           have hS3 : (V.setCell ⟨gb, 0 * 11 + 8, none⟩ (.int .i64 nv)).cell? ⟨w3.heap.size, 2, none⟩ = some (.slice (some ⟨gb, 0, none⟩) p.body.length bc) := (by rw [← hS2]; exact World.cell?_of_block (w := V) (put_other [.int .i64 nv] V gb _ _ (show w3.heap.size ≠ gb from fun e => hgc3 e.symm))))
        | fail)
      all_goals
        have hM' : MSt w B (m + 1 + 1) w3.heap.size { p with body := p.body.set 0 { x with count := nv } } ⟨va, vc, aa, ac, some ⟨gb, 0, none⟩, bc⟩ (V.setCell ⟨gb, 8, none⟩ (.int .i64 nv)) := hM
        obtain ⟨U2, hU2⟩ : ∃ U2, V.setCell ⟨gb, 8, none⟩ (.int .i64 nv) = U2 := ⟨_, rfl⟩
        rw [hU2] at hM' ⊢
        obtain ⟨P, hP⟩ : ∃ P, { p with body := p.body.set 0 { x with count := nv } } = P := ⟨_, rfl⟩
        obtain ⟨K, hK⟩ : ∃ K, (⟨va, vc, aa, ac, some ⟨gb, 0, none⟩, bc⟩ : PC) = K := ⟨_, rfl⟩
        rw [hP, hK] at hM'
        have HF := Lib.hid (hM'.fin (m' := m + 10) (by omega))
        have hbx : BoxP U2 w3.heap.size P K := ⟨_, hM'.bx⟩
        have c0 := hbx.c0
        have c1 := hbx.c1
        have c2 := hbx.c2
        have hbr := hM'.br
        obtain ⟨s0, hs0⟩ := cell_ex hbr 0 (by simp)
        obtain ⟨s1, hs1⟩ := cell_ex hbr 1 (by simp)
        obtain ⟨s2, hs2⟩ := cell_ex hbr 2 (by simp)
        have z0 := frozen_at hbr 0
        have z1 := frozen_at hbr 1
        have z2 := frozen_at hbr 2
        clear hP hK hU2 hM hM' hS3 hgc1 hgc2 hgc3 hy hfz hR7 hS2 hO7 hD7 hr7 ho7 hb7 hnv hx HS HOA HDL HOL HLT FIN NIL HD HO1 HR hr0 hr1' hr2 f0 f1 f2 g0 g1 g2 hbx hbr
        go_wp2_with fail
        exact bodyPost_ret (v := aggP P K) (by simp [results, Tryd.f25, go_sem, hs0, hs1, hs2]) rfl HF.out
  · clear FIN
    go_wp2_with fail
    exact bodyPost_ret (v := aggP ⟨[], [], []⟩ ⟨none, 0, none, 0, none, 0⟩) (by simp [results, Tryd.f25, go_sem, hr0, hr1', hr2]) rfl NIL.out
  · have n0 : ¬ tv = 0 := by omega
    have n1 : ¬ tv = 1 := by omega
    have n2 : ¬ tv = 2 := by omega
    have n3 : ¬ tv = 3 := by omega
    have n4 : ¬ tv = 4 := by omega
    have n5 : ¬ tv = 5 := by omega
    have n6 : ¬ tv = 6 := by omega
    clear NIL
    go_wp2_with fail
    exact bodyPost_ret (v := aggP p ⟨va, vc, aa, ac, ba, bc⟩) (by simp [results, Tryd.f25, go_sem, hr0, hr1', hr2]) rfl FIN.out
end Go.Proofs.YtlhdgoindknpfaaDoor

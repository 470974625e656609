/- The draw of a memory. -/
import Derived.Test.YtgfagdjadmpklaaL3MB
import Derived.Test.YtgfagdjadmpklaaPut
import Derived.Deep.RegionHeld3
import Derived.Deep.RegionLaw
import Derived.Deep.AppendLies
import Derived.Laws.Rows
namespace Go.Proofs.Ytgfagdjadmpklaa
open Go.RowKit
set_option linter.unusedVariables false

/-- The state of the first loop. -/
def L3M1 (B m nv X : Nat) (W : World) (i : Value) (wr : World) : Prop := ∃ (xs : List Int) (va : Option Addr) (vc : Nat),
  i = .int .i64 (xs.length : Int) ∧ xs.length ≤ nv ∧ OwnI wr W.heap.size (.slice va xs.length vc) xs ∧ (∀ x ∈ xs, 0 ≤ x ∧ x ≤ 255) ∧ RdU wr B (m + xs.length) ∧ Below B W wr ∧ wr.heap[X]? = some (.cells #[.slice va xs.length vc, .slice none 0 0] 26 (0, 0)) ∧ (∀ j, j < W.heap.size → j ≠ B → j ≠ X → wr.heap[j]? = W.heap[j]?)

set_option maxRecDepth 100000 in
set_option maxHeartbeats 1000000 in
theorem l3Memory_one (B m nv na nb pvc pac pbc : Nat) (pv pa pb : Option Addr) (w : World) (h : RdU w B m) (hm : m < 1099511620000) (hnv : nv ≤ 12) (hna : na ≤ 2) :
    Calls Try.prog 82 #[.pointer (some ⟨B, 0, none⟩), aggPr pv pa pb nv na nb pvc pac pbc] w fun e w' => ∃ (va' aa' : Option Addr) (vc' ac' : Nat), e = .returned (aggMm va' aa' nv na vc' ac') ∧ Below B w w' ∧ Oth B w w' ∧ RdU w' B (m + nv + 4 * na) ∧ RM w' w.heap.size w'.heap.size nv na va' aa' := by
  have hlt := h.lt
  obtain ⟨W1, hW1⟩ : ∃ W, w.alloc (.cells #[.slice pv nv pvc, .slice pa na pac, .slice pb nb pbc] 55) = W := ⟨_, rfl⟩
  obtain ⟨W2, hW2⟩ : ∃ W, W1.alloc (.cells #[.slice none 0 0, .slice none 0 0] 26) = W := ⟨_, rfl⟩
  obtain ⟨W, hW⟩ : ∃ W, W2.alloc (.cells #[.slice none 0 0, .slice none 0 0] 26) = W := ⟨_, rfl⟩
  have hz1 : W1.heap.size = w.heap.size + 1 := by rw [← hW1]; simp
  have hz2 : W2.heap.size = w.heap.size + 2 := by rw [← hW2, World.size_alloc, hz1]
  have hz : W.heap.size = w.heap.size + 3 := by rw [← hW, World.size_alloc, hz2]
  have hB : Below w.heap.size w W := by rw [← hW, ← hW2, ← hW1]; exact (((Below.refl _ w).alloc (Nat.le_refl _) _).alloc (by simp) _).alloc (by simp; omega) _
  have e0 : W.heap[w.heap.size]? = some (.cells #[.slice pv nv pvc, .slice pa na pac, .slice pb nb pbc] 55 (0, 0)) := by
    rw [← hW, Below.heap_alloc _ _ _ (by omega), ← hW2, Below.heap_alloc _ _ _ (by omega), ← hW1]; exact heap_alloc_new w _
  have e2 : W.heap[w.heap.size + 2]? = some (.cells #[.slice none 0 0, .slice none 0 0] 26 (0, 0)) := by rw [← hW, ← hz2]; exact heap_alloc_new W2 _
  have e1 : W.heap[w.heap.size + 1]? = some (.cells #[.slice none 0 0, .slice none 0 0] 26 (0, 0)) := by
    rw [← hW, Below.heap_alloc _ _ _ (by omega), ← hW2, ← hz1]; exact heap_alloc_new W1 _
  have HE1 := Lib.hid e1
  have HM0 : Hid (L3M1 B m nv (w.heap.size + 2) W (.int .i64 0) W) := ⟨[], none, 0, rfl, Nat.zero_le _, World.ownsRow_nil _ _ _ _, by simp, h.below hB hlt, Below.refl _ _, e2, fun _ _ _ _ => rfl⟩
  have hWW : ((w.alloc (.cells #[.slice pv nv pvc, .slice pa na pac, .slice pb nb pbc] 55)).alloc (.cells #[.slice none 0 0, .slice none 0 0] 26)).alloc (.cells #[.slice none 0 0, .slice none 0 0] 26) = W := by rw [hW1, hW2, hW]
  have HW := Lib.hid hWW
  have HE0 := Lib.hid e0
  have HB := Lib.hid hB
  have HZ : Hid (w.heap.size + 3 ≤ W.heap.size) := by show _ ≤ _; omega
  clear h hB e0 e1 e2 hWW hW hW1 hW2 hz1 hz2
  show Calls Try.prog 82 #[.pointer (some ⟨B, 0, none⟩), .agg #[.slice pv nv pvc, .slice pa na pac, .slice pb nb pbc]] w _
  go_enter Try.func82, Try.ntmps82
  go_wp2_with fail
  rw [HW.out]
  have hx : w.heap.size + 1 + 1 = w.heap.size + 2 := rfl
  go_loopw [6] (fun i wr => L3M1 B m nv (w.heap.size + 2) W i wr) (fun i _ => nv - (intOf i).toNat)
  case atStart => exact HM0.out
  case round =>
    obtain ⟨xs, va, vc, rfl, hle, hrow, hval, hrd, hbel, hbx, hstd⟩ := hrel
    obtain ⟨n1, hn⟩ : ∃ n, xs.length = n := ⟨_, rfl⟩
    have HNN := Lib.hid hn
    have HROW := Lib.hid hrow
    have HVAL := Lib.hid hval
    have HBEL := Lib.hid hbel
    have HSTD := Lib.hid hstd
    have hz := hbel.size
    rw [hn] at hle hbx hrd
    have HRD := Lib.hid hrd
    have HBX := Lib.hid hbx
    have HRDd : Hid (RdU wr.drew B (m + n1)) := hrd.drew
    have hlX : w.heap.size + 2 < wr.heap.size := (Array.getElem?_eq_some_iff.1 hbx).1
    have hBr := hrd.lt
    have p0 : wr.cell? ⟨w.heap.size, 0, none⟩ = some (.slice pv nv pvc) := by
      rw [cell_at ((hstd w.heap.size (by have := (Array.getElem?_eq_some_iff.1 HE0.out).1; omega) (by omega) (by omega)).trans HE0.out)]; rfl
    have q2 : wr.cell? ⟨w.heap.size + 2, 0, none⟩ = some (.slice va n1 vc) := by rw [cell_at hbx]; rfl
    clear hrow hval hbel hstd hrd hbx
    rw [hn]
    clear hn
    obtain ⟨i0, hinf, hz0, hz1', hz2⟩ := info_parts Try.infoI
    have hWz : w.heap.size + 3 ≤ W.heap.size := HZ.out
    by_cases hlt1 : n1 < nv
    · go_wp2_with fail
      go_region_law (first
        | (go_simp; go_at_call 84; refine (l3Value_one B (m + n1) wr.drew HRDd.out (by omega)).mono ?_; rintro f u ⟨x, hx, rfl, hr5, ho5, hb5⟩; have hO5 : Oth B wr u := ((Oth.refl B wr).drew).trans ho5; have hs5 := hO5.1; have hBXu := (hO5.2 (w.heap.size + 2) (by omega) (by omega)).trans HBX.out; have q2u : u.cell? ⟨w.heap.size + 2, 0, none⟩ = some (.slice va n1 vc) := (by rw [cell_at hBXu]; rfl)
           have hBXa : (u.alloc (.cells #[.int .i64 x] 3)).heap[(w.heap.size + 2)]? = some (.cells #[.slice va n1 vc, .slice none 0 0] 26 (0, 0)) := (Below.heap_alloc _ _ _ (by omega)).trans hBXu
           have q2a : (u.alloc (.cells #[.int .i64 x] 3)).cell? ⟨w.heap.size + 2, 0, none⟩ = some (.slice va n1 vc) := (by rw [cell_at hBXa]; rfl)
           have hL2 : (u.alloc (.cells #[.int .i64 x] 3)).ownsRow W.heap.size 3 1 (.slice va n1 vc) n1 (xs.map (Value.int .i64)) := (by have := HROW.out.stand (w' := u.alloc (.cells #[.int .i64 x] 3)) (fun j hj hj' => (Below.heap_alloc _ _ _ (by omega)).trans (hO5.2 j hj' (by omega))); unfold OwnI at this; rw [HNN.out] at this; exact this))
        | (refine step_append_lies _ (by rfl) _ _ _ (by rfl) W.heap.size 3 i0 _ 1 8 Try.underlying23 hinf hz0 hz1' hz2 rfl (by omega) (.slice va n1 vc) n1 _ (by rfl) hL2 ⟨u.heap.size, 0, none⟩ 1 1 [.int .i64 x] (by rfl) (by rfl) (World.news_of_block (cs := #[.int .i64 x]) (t := 3) (fr := (0, 0)) (heap_alloc_new u _)) (by simp [Value.oneCell']) (by omega) (by unfold maxLen; omega) (by omega) (by simp; omega) (u.heap.size + 1) (by simp) ?_; intro g cap w5 hown5 hgrow hat hlt5
           have hXr : some (w.heap.size + 2) ≠ (Value.slice va n1 vc).ownBlock := fun e => (by have := (hL2.lt _ e.symm).1; omega)
           have hBX5 := (hgrow.block (w.heap.size + 2) (by simp; omega) hXr).trans hBXa
           have q25 : w5.cell? ⟨w.heap.size + 2, 0, none⟩ = some (.slice va n1 vc) := (by rw [cell_at hBX5]; rfl)
           have f25 := frozen_of_row _ _ 0 _ _ hBX5))
      all_goals
        have hlen : (xs ++ [x]).length = n1 + 1 := by rw [List.length_append, HNN.out]; rfl
        have HREL : Hid (L3M1 B m nv (w.heap.size + 2) W (.int .i64 ((n1 : Int) + 1)) (w5.setCell ⟨w.heap.size + 2, 0, none⟩ (.slice (some ⟨g, 0, none⟩) (n1 + 1) cap))) := by
          have hba : Below u.heap.size u (u.alloc (.cells #[.int .i64 x] 3)) := (Below.refl _ _).alloc (Nat.le_refl _) _
          have hb5' : Below W.heap.size (u.alloc (.cells #[.int .i64 x] 3)) w5 := (Below.refl _ _).grown hgrow (by simp; omega) (fun k e => (hL2.lt k e).1)
          have hst : ∀ q, q ≠ w.heap.size + 2 → ((w5.setCell ⟨w.heap.size + 2, 0, none⟩ (.slice (some ⟨g, 0, none⟩) (n1 + 1) cap))).heap[q]? = w5.heap[q]? := fun q hq => Below.heap_setCell _ _ _ _ (by simpa using hq)
          have hmid : Below (w.heap.size + 2) u w5 := (hba.mono (by omega)).trans (hb5'.mono (by omega))
          have hb6 : Below (w.heap.size + 2) u (w5.setCell ⟨w.heap.size + 2, 0, none⟩ (.slice (some ⟨g, 0, none⟩) (n1 + 1) cap)) := hmid.setCell (p := ⟨w.heap.size + 2, 0, none⟩) (Nat.le_refl _) _
          refine ⟨xs ++ [x], some ⟨g, 0, none⟩, cap, by rw [hlen]; rfl, by rw [hlen]; omega, ?_, ?_, ?_, ?_, ?_, ?_⟩
          · have ho : OwnI w5 W.heap.size (.slice (some ⟨g, 0, none⟩) (xs ++ [x]).length cap) (xs ++ [x]) := by
              unfold OwnI
              rw [hlen, List.map_append]
              exact hown5
            exact ho.stand fun j hj _ => hst j (by omega)
          · intro y hy
            rcases List.mem_append.1 hy with h | h
            · exact HVAL.out y h
            · rw [List.mem_singleton] at h; subst h; exact hx
          · rw [hlen]
            exact (hr5.below hb6 (by omega)).mono (by omega)
          · exact HBEL.out.trans (((Below.refl B wr).drew.trans hb5).trans (hb6.mono (by omega)))
          · rw [blk_set hBX5, hlen]; rfl
          · intro j hj hjB hjX
            rw [hst j hjX]
            exact (hb5'.block j hj).trans ((hba.block j (by omega)).trans ((hO5.2 j (by omega) hjB).trans (HSTD.out j hj hjB hjX)))
        clear hx hr5 ho5 hb5 hO5 hBXu q2u hBXa q2a hL2 hown5 hgrow hat hlt5 hXr hBX5 q25 f25 HROW HRD HBEL HSTD HBX HRDd HVAL q2
        go_wp2_with fail
        go_roundw
        case rel => exact HREL.out
        case measure => simp [intOf]; omega
    · have hnv1 : n1 = nv := by omega
      subst hnv1
      have p1 : wr.cell? ⟨w.heap.size, 1, none⟩ = some (.slice pa na pac) := by
        rw [cell_at ((HSTD.out w.heap.size (by omega) (by omega) (by omega)).trans HE0.out)]; rfl
      obtain ⟨V, hV⟩ : ∃ V, V = wr := ⟨_, rfl⟩
      subst hV
      have HP1 := Lib.hid p1
      have HA0 : Hid (L3M2 B (m + n1) na (w.heap.size + 2) (.slice va n1 vc) V (.int .i64 0) V) := ⟨[], none, 0, 0, rfl, Nat.zero_le _, ArS.nil HBX.out, HRD.out, Below.refl _ _, fun _ _ _ _ => rfl⟩
      go_wp2_with fail
      go_loopw [7] (fun i wr => L3M2 B (m + n1) na (w.heap.size + 2) (.slice va n1 vc) V i wr) (fun i _ => na - (intOf i).toNat)
      case atStart => exact HA0.out
      case round =>
        obtain ⟨qs, aa, j, ac, rfl, hle2, hars, hrd2, hbel2, hstd2⟩ := hrel
        obtain ⟨V2, hV2⟩ : ∃ V2, V2 = wr := ⟨_, rfl⟩
        subst hV2
        have hz2v := hbel2.size
        have p1 : V2.cell? ⟨w.heap.size, 1, none⟩ = some (.slice pa na pac) := (World.cell?_of_block (w := V) (hstd2 w.heap.size (by omega) (by omega) (by omega))).trans HP1.out
        have HARS := Lib.hid hars
        have HRD2 := Lib.hid hrd2
        have HBEL2 := Lib.hid hbel2
        have HSTD2 := Lib.hid hstd2
        have q2 : V2.cell? ⟨w.heap.size + 2, 1, none⟩ = some (.slice aa j ac) := by rw [cell_at hars.bx]; rfl
        have HQ2 := Lib.hid q2
        clear hars hrd2 hbel2 hstd2 q2
        have HC0 : Hid (L3M3 B (m + n1 + 4 * j) V2 (.slice (some ⟨V2.heap.size, 0, none⟩) 0 0) (.int .i64 0) (V2.alloc (.cells #[] 3))) :=
          ⟨[], some ⟨V2.heap.size, 0, none⟩, 0, rfl, rfl, by simp, World.ownsRow_made V2 #[] 0 (Nat.le_refl _) (by unfold maxLen; omega) rfl, by simp, HRD2.out.alloc _, (Below.refl B V2).alloc (by omega) _, fun _ h _ => Below.heap_alloc _ _ _ h⟩
        by_cases hlt2 : j < na
        · go_wp2_with fail
          go_loopw [8, 9] (fun a k u => L3M3 B (m + n1 + 4 * j) V2 a k u) (fun _ k _ => 4 - (intOf k).toNat)
          case atStart => exact HC0.out
          case round =>
            obtain ⟨ys, ya, yc, rfl, rfl, hle3, hown3, hval3, hrd3, hbel3, hstd3⟩ := hrel
            obtain ⟨k, hk⟩ : ∃ k, ys.length = k := ⟨_, rfl⟩
            have HK := Lib.hid hk
            have hz3 := hbel3.size
            rw [hk] at hle3 hrd3
            have HOWN3 := Lib.hid hown3
            have HVAL3 := Lib.hid hval3
            have HRD3 := Lib.hid hrd3
            have HRD3d : Hid (RdU wr.drew B (m + n1 + 4 * j + k)) := hrd3.drew
            have HBEL3 := Lib.hid hbel3
            have HSTD3 := Lib.hid hstd3
            have hBr3 := hrd3.lt
            clear hown3 hval3 hrd3 hbel3 hstd3
            rw [hk]
            clear hk
            by_cases hlt3 : k < 4
            · obtain ⟨i0, hinf, hz0, hz1', hz2⟩ := info_parts Try.infoI
              go_wp2_with fail
              refine (l3Value_one B (m + n1 + 4 * j + k) wr HRD3.out (by omega)).mono ?_
              rintro f u ⟨x, hx, rfl, hr5, ho5, hb5⟩
              have hs5 := ho5.1
              have hL3 : (u.alloc (.cells #[.int .i64 x] 3)).ownsRow V2.heap.size 3 1 (.slice ya k yc) k (ys.map (Value.int .i64)) := by
                have := HOWN3.out.stand (w' := u.alloc (.cells #[.int .i64 x] 3)) (fun q hq hq' => (Below.heap_alloc _ _ _ (by omega)).trans (ho5.2 q hq' (by omega)))
                unfold OwnI at this
                rw [HK.out] at this
                exact this
              have hNB : (u.alloc (.cells #[.int .i64 x] 3)).heap[u.heap.size]? = some (.cells #[.int .i64 x] 3 (0, 0)) := heap_alloc_new u _
              go_wp2_with (at_builtin; refine wpList_append_lies _ (by rfl) _ _ 23 (by rfl) V2.heap.size 3 i0 _ 1 8 Try.underlying23 hinf hz0 hz1' hz2 rfl (by omega) (.slice ya k yc) k _ (by rfl) hL3 ⟨u.heap.size, 0, none⟩ 1 1 _ (by rfl) (by rfl) (World.news_of_block hNB) (by simp [Value.oneCell']) (by omega) (by unfold maxLen; omega) (by omega) (by simp; omega) (u.heap.size + 1) (by simp) ?_; intro g cp w6 hown6 hgrow hat hlt6)
              have hlen : (ys ++ [x]).length = k + 1 := by rw [List.length_append, HK.out]; rfl
              have HNEW : Hid (L3M3 B (m + n1 + 4 * j) V2 (.slice (some ⟨g, 0, none⟩) (k + 1) cp) (.int .i64 ((k : Int) + 1)) w6) := by
                have hba : Below u.heap.size u (u.alloc (.cells #[.int .i64 x] 3)) := (Below.refl _ _).alloc (Nat.le_refl _) _
                have hb6 : Below V2.heap.size (u.alloc (.cells #[.int .i64 x] 3)) w6 := (Below.refl _ _).grown hgrow (by simp; omega) (fun q e => (hL3.lt q e).1)
                have hb7 : Below V2.heap.size u w6 := (hba.mono (by omega)).trans hb6
                refine ⟨ys ++ [x], some ⟨g, 0, none⟩, cp, by rw [hlen], by rw [hlen]; rfl, by omega, ?_, ?_, ?_, ?_, ?_⟩
                · unfold OwnI
                  rw [hlen, List.map_append]
                  exact hown6
                · intro y hy
                  rcases List.mem_append.1 hy with h | h
                  · exact HVAL3.out y h
                  · rw [List.mem_singleton] at h; subst h; exact hx
                · rw [hlen]
                  exact (hr5.below hb7 (by omega)).mono (by omega)
                · exact (HBEL3.out.trans hb5).trans (hb7.mono (by omega))
                · intro q hq hqB
                  exact (hb7.block q hq).trans ((ho5.2 q (by omega) hqB).trans (HSTD3.out q hq hqB))
              clear hx hr5 ho5 hb5 hs5 hL3 hNB hown6 hgrow hat hlt6 HOWN3 HVAL3 HRD3 HRD3d HBEL3 HSTD3 hlen
              go_wp2_with fail
              go_roundw
              case rel => exact HNEW.out
              case measure => simp [intOf]; omega
            · have hk4 : k = 4 := by omega
              subst hk4
              obtain ⟨i0, hinf, hz0, hz1', hz2⟩ := info_parts Try.infoSl
              have hBl : B < w.heap.size := hlt
              have ha3 := HARS.out.stand (u' := wr) hz3 (fun q h1 h2 => HSTD3.out q h2 (by omega)) (HSTD3.out (w.heap.size + 2) (by omega) (by omega))
              have ha4 := ha3.stand (u' := wr.alloc (.cells #[.slice ya 4 yc] 23)) (by simp) (fun q h1 h2 => Below.heap_alloc _ _ _ h2) (Below.heap_alloc _ _ _ (by omega))
              have HA4 := Lib.hid ha4
              have q2w : wr.cell? ⟨w.heap.size + 1 + 1, 1, none⟩ = some (.slice aa j ac) := by rw [show w.heap.size + 1 + 1 = w.heap.size + 2 from rfl, cell_at ha3.bx]; rfl
              have hL4 := ha4.own
              have hNB : (wr.alloc (.cells #[.slice ya 4 yc] 23)).heap[wr.heap.size]? = some (.cells #[.slice ya 4 yc] 23 (0, 0)) := heap_alloc_new wr _
              have hel4 : Hid (ArE (wr.alloc (.cells #[.slice ya 4 yc] 23)) V.heap.size (.slice aa j ac) (ya, yc)) := by
                have ho := HOWN3.out.stand (w' := wr.alloc (.cells #[.slice ya 4 yc] 23)) (fun q hq hq' => Below.heap_alloc _ _ _ hq')
                rw [HK.out] at ho
                exact ArE.of_own ho HK.out HVAL3.out hz2v fun g hg => (HARS.out.lt g hg).2
              clear ha3 ha4
              go_wp2_with (at_builtin; refine wpList_append_lies _ (by rfl) _ _ 24 (by rfl) V.heap.size 23 i0 _ 1 24 Try.underlying24 hinf hz0 hz1' hz2 rfl (by omega) (.slice aa j ac) j _ (by rfl) hL4 ⟨wr.heap.size, 0, none⟩ 1 1 _ (by rfl) (by rfl) (World.news_of_block hNB) (by simp [Value.oneCell']) (by omega) (by unfold maxLen; omega) (by omega) (by simp; omega) (wr.heap.size + 1) (by simp) ?_; intro g cp w5 hown5 hgrow hat hlt5; have hXr : some (w.heap.size + 2) ≠ (Value.slice aa j ac).ownBlock := fun e => (by have := (hL4.lt _ e.symm).1; omega); have hBX5 := (hgrow.block (w.heap.size + 2) (by simp; omega) hXr).trans HA4.out.bx; have q25 : w5.cell? ⟨w.heap.size + 1 + 1, 1, none⟩ = some (.slice aa j ac) := (by rw [show w.heap.size + 1 + 1 = w.heap.size + 2 from rfl, cell_at hBX5]; rfl); have f25 : w5.frozen? ⟨w.heap.size + 1 + 1, 1, none⟩ = false := frozen_of_row _ _ 1 _ _ hBX5)
              have HNEW : Hid (L3M2 B (m + n1) na (w.heap.size + 2) (.slice va n1 vc) V (.int .i64 ((j : Int) + 1)) (w5.setCell ⟨w.heap.size + 2, 1, none⟩ (.slice (some ⟨g, 0, none⟩) (j + 1) cp))) := by
                have hba : Below wr.heap.size wr (wr.alloc (.cells #[.slice ya 4 yc] 23)) := (Below.refl _ _).alloc (Nat.le_refl _) _
                have hb5 : Below V.heap.size (wr.alloc (.cells #[.slice ya 4 yc] 23)) w5 := (Below.refl _ _).grown hgrow (by simp; omega) (fun q e => (hL4.lt q e).1)
                have hmid : Below (w.heap.size + 2) wr w5 := (hba.mono (by omega)).trans (hb5.mono (by omega))
                have hb6 : Below (w.heap.size + 2) wr (w5.setCell ⟨w.heap.size + 2, 1, none⟩ (.slice (some ⟨g, 0, none⟩) (j + 1) cp)) := hmid.setCell (p := ⟨w.heap.size + 2, 1, none⟩) (Nat.le_refl _) _
                have hat' : (Value.slice aa j ac).ownBlock = some g ∨ (wr.alloc (.cells #[.slice ya 4 yc] 23)).heap.size ≤ g := by
                  rcases hat with h | h
                  · exact .inl h
                  · exact .inr (by simp; omega)
                refine ⟨qs ++ [(ya, yc)], some ⟨g, 0, none⟩, j + 1, cp, rfl, by omega, HA4.out.snoc hel4.out hown5 hgrow hat' (by omega) (by simp; omega), ?_, ?_, ?_⟩
                · exact (HRD3.out.below hb6 (by omega)).mono (by omega)
                · exact HBEL2.out.trans (HBEL3.out.trans (hb6.mono (by omega)))
                · intro q hq hqB hqX
                  have hs : (w5.setCell ⟨w.heap.size + 2, 1, none⟩ (.slice (some ⟨g, 0, none⟩) (j + 1) cp)).heap[q]? = w5.heap[q]? := Below.heap_setCell _ _ _ _ (by simpa using hqX)
                  rw [hs]
                  exact (hb5.block q hq).trans ((hba.block q (by omega)).trans ((HSTD3.out q (by omega) hqB).trans (HSTD2.out q hq hqB hqX)))
              clear hL4 hNB hel4 hown5 hgrow hat hlt5 hXr hBX5 HA4 HARS HRD2 HBEL2 HSTD2 HQ2 HOWN3 HVAL3 HRD3 HRD3d HBEL3 HSTD3 q2w
              go_wp2_with fail
              go_roundw
              case rel => exact HNEW.out
              case measure => simp [intOf]; omega
        · have hjn : j = na := by omega
          subst hjn
          have hBl : B < w.heap.size := hlt
          have hr1 : V2.heap[w.heap.size + 1]? = some (.cells #[.slice none 0 0, .slice none 0 0] 26 (0, 0)) := (HSTD2.out (w.heap.size + 1) (by omega) (by omega) (by omega)).trans ((HSTD.out (w.heap.size + 1) (by omega) (by omega) (by omega)).trans HE1.out)
          have g0 : V2.cell? ⟨w.heap.size + 1 + 1, 0, none⟩ = some (.slice va n1 vc) := by rw [show w.heap.size + 1 + 1 = w.heap.size + 2 from rfl, cell_at HARS.out.bx]; rfl
          have g1 : V2.cell? ⟨w.heap.size + 1 + 1, 1, none⟩ = some (.slice aa j ac) := by rw [show w.heap.size + 1 + 1 = w.heap.size + 2 from rfl, cell_at HARS.out.bx]; rfl
          obtain ⟨r0, hr0⟩ := cell_ex hr1 0 (by simp)
          obtain ⟨r1', hr1'⟩ := cell_ex hr1 1 (by simp)
          have f0 := frozen_at hr1 0
          have f1 := frozen_at hr1 1
          have HFIN : Hid (Below B w (put V2 (w.heap.size + 1) 0 [.slice va n1 vc, .slice aa j ac]) ∧ Oth B w (put V2 (w.heap.size + 1) 0 [.slice va n1 vc, .slice aa j ac]) ∧ RdU (put V2 (w.heap.size + 1) 0 [.slice va n1 vc, .slice aa j ac]) B (m + n1 + 4 * j) ∧ RM (put V2 (w.heap.size + 1) 0 [.slice va n1 vc, .slice aa j ac]) w.heap.size (put V2 (w.heap.size + 1) 0 [.slice va n1 vc, .slice aa j ac]).heap.size n1 j va aa) := by
            have hpb : Below (w.heap.size + 1) V2 (put V2 (w.heap.size + 1) 0 [.slice va n1 vc, .slice aa j ac]) := put_below _ _ _ (w.heap.size + 1) (w.heap.size + 1) 0 (Below.refl _ V2) (Nat.le_refl _)
            have hbw := HB.out
            refine ⟨?_, ?_, ?_, ?_⟩
            · exact (((hbw.mono (by omega)).trans HBEL.out).trans HBEL2.out).trans (hpb.mono (by omega))
            · refine ⟨by rw [put_size]; have := hbw.size; omega, fun q hq hqB => ?_⟩
              exact (put_other _ _ _ _ _ (by omega)).trans ((HSTD2.out q (by omega) hqB (by omega)).trans ((HSTD.out q (by omega) hqB (by omega)).trans (hbw.block q hq)))
            · exact HRD2.out.below hpb (by omega)
            · have ho : OwnI V2 W.heap.size (.slice va n1 vc) xs := by
                have := HROW.out.stand (w' := V2) fun q h1 h2 => HSTD2.out q h2 (by omega) (by omega)
                rw [HNN.out] at this
                exact this
              have hrm := HARS.out.fin ho HNN.out HVAL.out hz
              have hrm' := hrm.stand (u' := put V2 (w.heap.size + 1) 0 [.slice va n1 vc, .slice aa j ac]) fun q h1 h2 => put_other _ _ _ _ _ (by omega)
              exact hrm'.wide (by omega) (by rw [put_size]; omega)
          clear hr1 HARS HRD2 HBEL2 HSTD2 HQ2 HC0
          go_wp2_with fail
          exact bodyPost_ret (v := aggMm va aa n1 j vc ac) (by simp [results, Try.f82, go_sem, hr0, hr1']) rfl ⟨va, aa, vc, ac, rfl, HFIN.out⟩

end Go.Proofs.Ytgfagdjadmpklaa

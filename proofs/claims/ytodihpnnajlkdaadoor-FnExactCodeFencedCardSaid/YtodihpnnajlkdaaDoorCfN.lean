/- The program's CodeFenced, walked: it answers whether code is valid and every instruction to which a branch may lead is a fence. -/
import Derived.Test.YtodihpnnajlkdaaDoorBrY
import Derived.Test.YtodihpnnajlkdaaDoorCvU
import Derived.Test.YtodihpnnajlkdaaDoorCvJ
namespace Go.Proofs.YtodihpnnajlkdaaDoor
open Go.RowKit Go.Shelf
set_option linter.unusedVariables false

attribute [local go_sem] Oper.semAt_some

/-- Instruction t is a fence. -/
def okE (l : List Ins) (t : Nat) : Bool := match l[t]? with | some x => x.op == 12 | none => true
theorem okE_at {l : List Ins} {t : Nat} {x : Ins} (h : l[t]? = some x) : okE l t = (x.op == 12) := by unfold okE; rw [h]
def fncL (l : List Ins) : Bool := (bndN l l.length).all (okE l)
/-- What CodeFenced answers. -/
def fncB (m : Cd) : Bool := codeB m && fncL m.list
theorem fncB_no {m : Cd} (h : codeB m = false) : false = fncB m := by unfold fncB; rw [h]; rfl
theorem fncB_yes {m : Cd} (h : codeB m = true) {b : Bool} (h2 : fncL m.list = b) : b = fncB m := by unfold fncB; rw [h, h2]; rfl
theorem fncL_no {l : List Ins} {n : Nat} {pre : List (Fin n)} (hp : pre.map Fin.val <+: bndN l l.length) {t : Fin n} (ht : t ∈ pre) (h : okE l t.val = false) : fncL l = false := by
  unfold fncL
  rw [List.all_eq_false]
  exact ⟨t.val, hp.subset (List.mem_map.2 ⟨t, ht, rfl⟩), by rw [h]; decide⟩
theorem fncL_yes {l : List Ins} {n : Nat} {ys : List (Fin n)} (hp : ys.map Fin.val = bndN l l.length) (h : ∀ t ∈ ys, okE l t.val = true) : fncL l = true := by
  unfold fncL
  rw [List.all_eq_true, ← hp]
  intro x hx
  obtain ⟨t, ht, rfl⟩ := List.mem_map.1 hx
  exact h t ht

set_option maxRecDepth 100000 in
set_option maxHeartbeats 8000000 in
theorem iCf_in (m : Cd) (k : CK) (w : World) (h : CL w m k) (hT : TblF w) :
    CallsIn Fence.wide 8 Tryd.prog 14 #[aggC m k] w (YN (fncB m) w) := by
  obtain ⟨W, hW⟩ : ∃ W, (w.alloc (.cells (arrC m k) 30)).alloc (.cells #[.bool false] 4) = W := ⟨_, rfl⟩
  have hB : Below w.heap.size w W := by rw [← hW]; exact ((Below.refl _ w).alloc (Nat.le_refl _) _).alloc (by simp) _
  have hz : W.heap.size = w.heap.size + 2 := by rw [← hW]; simp
  have hX : BoxC W w.heap.size m k := by rw [← hW]; exact (BoxC.new w m k _).later (Below.heap_alloc _ _ _ (by simp))
  have hR : W.heap[w.heap.size + 1]? = some (.cells #[.bool false] 4 (0, 0)) := by
    have e1 := heap_alloc_new (w.alloc (.cells (arrC m k) 30)) (.cells #[.bool false] 4)
    rw [World.size_alloc] at e1
    rw [← hW]; exact e1
  have HV := Lib.hid (iCV_one m k W (h.below hB) (hT.below hB hT.lt))
  have x0 := hX.c0
  have x1 := hX.c1
  have x2 := hX.c2
  have HC : Hid (∀ v, Below W.heap.size W v → BoxC v w.heap.size m k ∧ CL v m k ∧ v.heap[w.heap.size + 1]? = some (.cells #[.bool false] 4 (0, 0))) := fun v hv => ⟨hX.below hv hX.lt, (h.below hB).below hv, (hv.block _ (by omega)).trans hR⟩
  have HNW : Hid (NAt w (fun b => b < w.heap.size) m.list k.la) := h.2.2
  have HW := Lib.hid hW
  have HB := Lib.hid hB
  unfold arrC at HW
  clear h hT hW hB hX hR
  refine callsIn_of_wp_marks Tryd.func14 rfl trivial ?_ rfl
  simp only [Tryd.ntmps14, List.size_toArray, List.length_cons, List.length_nil, Nat.reduceAdd, Nat.reduceSub, Array.replicate_succ, Array.replicate_zero, List.push_toArray, List.append_toArray, List.nil_append, List.cons_append]
  obtain ⟨q, hq⟩ : ∃ q, codeB m = q := ⟨_, rfl⟩
  have HQ := Lib.hid hq
  rw [hq] at HV
  clear hq
  cases q
  case false =>
    gi_wp2_with (first | rw [HW.out] | (refine ⟨trivial, ?_⟩; gi_at_call 11; refine (callsIn_wide.2 HV.out).mono ?_; rintro e w1 ⟨rfl, hb1⟩; have r0 := cell_at (HC.out w1 hb1).2.2 0; have f0 := frozen_at (HC.out w1 hb1).2.2 0))
    have R0 : (w1.setCell ⟨w.heap.size + 1, 0, none⟩ (.bool false)).cell? ⟨w.heap.size + 1, 0, none⟩ = some (.bool false) := World.cell?_setCell_same' _ _ _ (by rw [r0]; rfl)
    exact ⟨.bool false, by simp [results, Tryd.f14, go_sem, R0], by rw [fncB_no HQ.out]; exact ⟨rfl, (HB.out.trans (hb1.mono HB.out.size)).setCell (p := ⟨w.heap.size + 1, 0, none⟩) (by simp) _⟩⟩
  case true =>
    obtain ⟨n, hn⟩ : ∃ n, m.list.length = n := ⟨_, rfl⟩
    have HN := Lib.hid hn
    have HO := Lib.hid (codeB_ok HQ.out)
    clear hn
    gi_wp2_with (first | (with_reducible rw [HW.out]) | (refine ⟨trivial, ?_⟩; gi_at_call 11; refine (callsIn_wide.2 HV.out).mono ?_; rintro e w1 ⟨rfl, hb1⟩; have z2 : w1.cell? ⟨w.heap.size, 2, none⟩ = some (.slice k.la n k.lc) := (by rw [← HN.out]; exact (HC.out w1 hb1).1.c2)) | (refine ⟨trivial, ?_⟩; gi_at_call 38; refine (brEnds_in _ _ _ _ _).mono ?_; rintro e w2 ⟨rfl, rfl⟩))
    obtain ⟨V, hV⟩ : ∃ V, w1.alloc (.cells #[.slice k.la n k.lc] 28) = V := ⟨_, rfl⟩
    rw [hV]
    have hbV : Below w1.heap.size w1 V := by rw [← hV]; exact (Below.refl _ _).alloc (Nat.le_refl _) _
    have hxV : V.heap[w1.heap.size]? = some (.cells #[.slice k.la n k.lc] 28 (0, 0)) := by rw [← hV]; exact heap_alloc_new w1 _
    have hzV : V.heap.size = w1.heap.size + 1 := by rw [← hV]; simp
    have hz1 := hb1.size
    have hbW : Below W.heap.size W V := hb1.trans (hbV.mono hz1)
    obtain ⟨hXV, hCV, hRV⟩ := HC.out V hbW
    have hBV : Below w.heap.size w V := HB.out.trans (hbW.mono HB.out.size)
    have hNV : NAt V (fun j => j ≠ w.heap.size + 1 ∧ j < V.heap.size) m.list k.la := HNW.out.wide (fun j hj => hBV.block j hj) fun j hj => ⟨by omega, by omega⟩
    have HSEQ := Lib.hid (brEnds_seq (n := n) 7 (by omega) w1.heap.size (fun j => j ≠ w.heap.size + 1 ∧ j < V.heap.size) m.list k.la k.lc V HN.out HO.out (fun j hj => hj.2) hxV ⟨by omega, by omega⟩ hNV)
    -- what stands in every world that a round has left
    have HS : Hid (∀ v, Stays (fun j => j ≠ w.heap.size + 1 ∧ j < V.heap.size) V v → v.cell? ⟨w.heap.size, 2, none⟩ = some (.slice k.la n k.lc) ∧ NAt v (fun b => b < v.heap.size) m.list k.la) := fun v hv =>
      ⟨by rw [← HN.out]; exact (hXV.later (hv.at ⟨by omega, hXV.lt⟩ hXV.lt)).c2, hNV.wide (fun j hj => hv.at hj hj.2) fun j hj => Nat.lt_of_lt_of_le hj.2 hv.size⟩
    have HRV := Lib.hid hRV
    have HBV := Lib.hid hBV
    clear hV hbV hxV hbW hXV hCV hRV hBV hNV HW HV HB z2 hb1 HC x0 x1 x2
    refine wpIn_rangeL (by omega) (gf := 65) (lb := #[.pointer (some ⟨w1.heap.size, 0, none⟩)]) rfl (enters_of Tryd.func65 (by kernel_rfl) rfl)
      HSEQ.out (fun j hj => hj.2) (Below.refl _ _) (fun _ => rfl)
      (fun pre U => (∀ t ∈ pre, okE m.list t.val = true) ∧ Stays (fun j => j ≠ w.heap.size + 1 ∧ j < V.heap.size) V U ∧ Below w.heap.size w U ∧ U.heap[w.heap.size + 1]? = some (.cells #[.bool false] 4 (0, 0)))
      (fun cc pre U => (cc = .ret ∧ ∃ t ∈ pre, okE m.list t.val = false) ∧ Below w.heap.size w U ∧ U.heap[w.heap.size + 1]? = some (.cells #[.bool false] 4 (0, 0)))
      (fun pre X Y row hs hg hr => ⟨hs.1, hs.2.1.trans ⟨hg.size, fun j o hj ho => (hg.block j (Array.getElem?_eq_some_iff.1 ho).1 fun e => by have h1 := (hr j e.symm).1; have h2 := hj.2; omega).trans ho⟩,
        (ownFrom_below (β := List (Fin n)) (Nat.le_refl _) (show w.heap.size ≤ V.heap.size by omega)) pre X Y row hs.2.2.1 hg hr, (hg.block _ (Array.getElem?_eq_some_iff.1 hs.2.2.2).1 fun e => by have := (hr _ e.symm).1; omega).trans hs.2.2.2⟩)
      (fun cc pre X Y row hs hg hr => ⟨hs.1, (ownFrom_below (β := List (Fin n)) (Nat.le_refl _) (show w.heap.size ≤ V.heap.size by omega)) pre X Y row hs.2.1 hg hr, (hg.block _ (Array.getElem?_eq_some_iff.1 hs.2.2).1 fun e => by have := (hr _ e.symm).1; omega).trans hs.2.2⟩)
      ⟨fun t ht => by simp at ht, Stays.refl _ _, HBV.out, HRV.out⟩
      (fun x => { tmps := #[aggC m k, .pointer (some ⟨w.heap.size, 0, none⟩), .pointer (some ⟨w.heap.size + 1, 0, none⟩), .int .i64 (x.val : Int), aggC m k, .bool true, .bool false, .pointer (some ⟨w.heap.size, 2, none⟩), .slice k.la n k.lc, .func (.func 65) #[] #[.pointer (some ⟨w1.heap.size, 0, none⟩)], .int .i64 (x.val : Int), undef, undef, undef, undef, undef, undef, undef], defers := [] }) ?assign ?body ?done ?stop
    case assign =>
      intro l2 x U K hK
      gi_wp2
      exact hK
    case body =>
      rintro l2 pre ⟨t, ht⟩ U ⟨hall, hS, hB, hR⟩
      dsimp only
      obtain ⟨y2, hNA⟩ := HS.out U hS
      obtain ⟨y, hy⟩ : ∃ y, m.list[t]? = some y := ⟨m.list[t]'(by rw [HN.out]; exact ht), List.getElem?_eq_getElem _⟩
      obtain ⟨b, o, ha, hbl, e0, e1, e2, e3, e4⟩ := hNA.2 t y hy
      rw [ha] at y2
      have r0 := cell_at hR 0
      have f0 := frozen_at hR 0
      have HOK := Lib.hid (okE_at hy)
      have HALL := Lib.hid hall
      have HSU := Lib.hid hS
      have HBU := Lib.hid hB
      have HRU := Lib.hid hR
      clear hall hS hB hR hy ha hNA
      by_cases h12 : y.op = 12
      · have b12 : (y.op != 12) = false := by simpa using h12
        have HFIN : Hid (∀ s ∈ pre ++ [(⟨t, ht⟩ : Fin n)], okE m.list s.val = true) := fun s hs => by
          rcases List.mem_append.1 hs with hs | hs
          · exact HALL.out s hs
          · simp at hs
            subst hs
            rw [show okE m.list t = _ from HOK.out]; simpa using h12
        clear h12
        gi_wp2
        exact ⟨Stays.refl _ _, HFIN.out, HSU.out, HBU.out, HRU.out⟩
      · have b12 : (y.op != 12) = true := by simpa using h12
        have HFIN : Hid (∃ s ∈ pre ++ [(⟨t, ht⟩ : Fin n)], okE m.list s.val = false) := ⟨⟨t, ht⟩, by simp, by rw [show okE m.list t = _ from HOK.out]; simpa using h12⟩
        clear h12
        gi_wp2
        exact ⟨(Stays.refl _ _).setCell (p := ⟨w.heap.size + 1, 0, none⟩) (fun h => h.elim (fun h => h.1 rfl) fun h => by simp at h; omega) _, ⟨rfl, HFIN.out⟩, HBU.out.setCell (p := ⟨w.heap.size + 1, 0, none⟩) (by simp) _, heap_setCell_same _ _ _ _ _ _ HRU.out⟩
    case done =>
      rintro d ys U hd hys ⟨hall, hS, hB, hR⟩ hKd
      have hr0 := cell_at hR 0
      have hf0 := frozen_at hR 0
      have hK' := (KeepsOthers.setCell U ⟨w.heap.size + 1, 0, none⟩ (.bool true)).same d _ hKd rfl
      have hne : d ≠ w.heap.size + 1 := by omega
      have R0 : Hid (((U.setCell ⟨w.heap.size + 1, 0, none⟩ (.bool true)).putObj d (.deferred none)).cell? ⟨w.heap.size + 1, 0, none⟩ = some (.bool true)) := by
        show _ = _
        rw [World.cell?_of_block (w := U.setCell ⟨w.heap.size + 1, 0, none⟩ (.bool true)) (a := ⟨w.heap.size + 1, 0, none⟩) (World.putObj_heap_other (fun e => hne e.symm))]
        exact World.cell?_setCell_same' _ _ _ (by rw [hr0]; rfl)
      have HFIN : Hid (YN (fncB m) w (.returned (.bool true)) ((U.setCell ⟨w.heap.size + 1, 0, none⟩ (.bool true)).putObj d (.deferred none))) := by
        rw [← fncB_yes HQ.out (fncL_yes (by rw [HN.out]; exact hys) hall)]
        exact ⟨rfl, (hB.setCell (p := ⟨w.heap.size + 1, 0, none⟩) (by simp) _).trans (belowK_b (w := V) (by omega) _ d _ (.deferred none) hd hK' rfl rfl)⟩
      have HKD := Lib.hid hK'
      clear hall hS hB hR hKd hys hK'
      gi_wp2
      refine ⟨by simp, .inl ⟨_, _, rfl, run_takeDeferred HKD.out, ?_⟩⟩
      have p0 := R0.out
      exact ⟨.bool true, by simp [results, Tryd.f14, go_sem, p0], HFIN.out⟩
    case stop =>
      rintro d cc pre U hd hys ⟨⟨rfl, t, ht, hno⟩, hB, hR⟩ hKd
      have hne : d ≠ w.heap.size + 1 := by omega
      have R0 : Hid ((U.putObj d (.deferred none)).cell? ⟨w.heap.size + 1, 0, none⟩ = some (.bool false)) := by
        show _ = _
        rw [World.cell?_of_block (w := U) (a := ⟨w.heap.size + 1, 0, none⟩) (World.putObj_heap_other (fun e => hne e.symm)), cell_at hR]; rfl
      have HFIN : Hid (YN (fncB m) w (.returned (.bool false)) (U.putObj d (.deferred none))) := by
        rw [← fncB_yes HQ.out (fncL_no (by rw [HN.out]; exact hys) ht hno)]
        exact ⟨rfl, hB.trans (belowK_b (w := V) (by omega) _ d _ (.deferred none) hd hKd rfl rfl)⟩
      have HKD := Lib.hid hKd
      clear hB hR hKd hys hno
      gi_wp2
      refine ⟨by simp, .inl ⟨_, _, rfl, run_takeDeferred HKD.out, ?_⟩⟩
      have p0 := R0.out
      exact ⟨.bool false, by simp [results, Tryd.f14, go_sem, p0], HFIN.out⟩

/-- **impl.CodeFenced.** -/
theorem iCf_one (m : Cd) (k : CK) (w : World) (h : CL w m k) (hT : TblF w) : Calls Tryd.prog 14 #[aggC m k] w (YN (fncB m) w) := callsIn_wide.1 (iCf_in m k w h hT)

end Go.Proofs.YtodihpnnajlkdaaDoor

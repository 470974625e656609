/- impl.ProgramValid and impl.CountStmts of a program without statements. -/
import Derived.Test.YtlhdgoindknpfaaDoorImZ
import Derived.Test.YtlhdgoindknpfaaDoorImP
namespace Go.Proofs.YtlhdgoindknpfaaDoor
open Go.RowKit Go.Shelf
set_option linter.unusedVariables false

attribute [local go_sem] Oper.semAt_some

set_option maxRecDepth 100000 in
set_option maxHeartbeats 8000000 in
theorem iProgramValid_nil (vs rs : List Int) (k : PC) (n : Nat) (D : Nat → Prop) (w : World) (hp : IsP w D n ⟨vs, rs, []⟩ k) (hl : ∀ k, D k → k < w.heap.size) (hw : 2 ≤ w.heap.size) (hq : headsB ⟨vs, rs, []⟩ = true) :
    CallsIn Fence.wide 5 Tryd.prog 9 #[.agg #[.slice k.va vs.length k.vc, .slice k.aa rs.length k.ac, .slice k.ba 0 k.bc]] w (AnsB true w) := by
  have HP := Lib.hid hp
  have HQ := Lib.hid hq
  have hbc : k.bc ≤ maxLen := hp.2.2.2.1
  clear hp hq
  refine callsIn_of_wp_marks Tryd.func9 rfl trivial ?_ rfl
  simp only [Tryd.ntmps9, List.size_toArray, List.length_cons, List.length_nil, Nat.reduceAdd, Nat.reduceSub, Array.replicate_succ, Array.replicate_zero, List.push_toArray, List.append_toArray, List.nil_append, List.cons_append]
  obtain ⟨W, hW⟩ : ∃ W, (w.alloc (.cells #[.slice k.va vs.length k.vc, .slice k.aa rs.length k.ac, .slice k.ba 0 k.bc] 26)).alloc (.cells #[.bool false] 4) = W := ⟨_, rfl⟩
  have hB : Below w.heap.size w W := by rw [← hW]; exact ((Below.refl _ w).alloc (Nat.le_refl _) _).alloc (by simp) _
  have hz : W.heap.size = w.heap.size + 2 := by rw [← hW]; simp
  have e0 : BoxP W w.heap.size ⟨vs, rs, []⟩ k := by
    rw [← hW]; exact (BoxP.new w ⟨vs, rs, []⟩ k _).later (Below.heap_alloc _ _ _ (by simp))
  have e1 : Boxed W (w.heap.size + 1) 4 (.bool false) := by
    have e1 := heap_alloc_new (w.alloc (.cells #[.slice k.va vs.length k.vc, .slice k.aa rs.length k.ac, .slice k.ba 0 k.bc] 26)) (.cells #[.bool false] 4)
    rw [World.size_alloc] at e1
    rw [← hW]; exact e1
  have HB := Lib.hid hB
  have HX := Lib.hid e0
  have HY := Lib.hid e1
  have hs0 := hB.size
  have HW := Lib.hid hW
  clear hW hB e0 e1
  gi_wp2_with (refine ⟨trivial, ?_⟩; first
    | (gi_at_call 26; rw [HW.out]; refine (callsIn_wide.2 (iHeads_one ⟨vs, rs, []⟩ k n D W (HP.out.later (Stand.of_below HB.out hl)) (fun j hj => Nat.lt_of_lt_of_le (hl j hj) hs0))).mono ?_
       rintro g w1 ⟨rfl, hb1⟩
       rw [HQ.out]
       have bX := HX.out.below hb1 (by omega)
       have x0 := bX.c0
       have x1 := bX.c1
       have x2 : w1.cell? ⟨w.heap.size, 2, none⟩ = some (.slice k.ba 0 k.bc) := bX.c2
       have hs1 := hb1.size
       have y2 : (w1.alloc (.cells #[.int .i64 0] 3)).cell? ⟨w.heap.size, 2, none⟩ = some (.slice k.ba 0 k.bc) := (World.cell?_of_block (w := w1) (Below.heap_alloc _ _ _ (by show w.heap.size < w1.heap.size; omega))).trans x2
       have HY1 : Hid (Boxed w1 (w.heap.size + 1) 4 (.bool false)) := (hb1.block _ (by omega)).trans HY.out
       have HB1 := Lib.hid (HB.out.trans (hb1.mono hs0))
       clear hb1 bX HX HY HB)
    | (gi_at_call 30; refine (nodesZ_in _ _ _ _ _).mono ?_; rintro e w2 ⟨rfl, rfl⟩))
  obtain ⟨A6, hA6⟩ : ∃ A6, A6 = (w1.alloc (.cells #[.int .i64 0] 3)).alloc (.cells #[.slice k.ba 0 k.bc] 24) := ⟨_, rfl⟩
  rw [← hA6]
  have z6 : A6.heap.size = w1.heap.size + 2 := by rw [hA6]; simp
  have bR : Boxed A6 (w.heap.size + 1) 4 (.bool false) := by rw [hA6]; exact (HY1.out.alloc _).alloc _
  have bN : A6.heap[w1.heap.size + 1]? = some (.cells #[.slice k.ba 0 k.bc] 24 (0, 0)) := by
    have h := heap_alloc_new (w1.alloc (.cells #[.int .i64 0] 3)) (.cells #[.slice k.ba 0 k.bc] 24)
    rw [← hA6] at h
    simpa using h
  have bB : Below w.heap.size w A6 := by rw [hA6]; exact (HB1.out.alloc (by omega) _).alloc (by simp; omega) _
  have HST := Lib.hid (nodesZ_stops 4 (by omega) (w1.heap.size + 1) k.ba k.bc A6 (fun _ => False) hbc (by omega) bN)
  clear hA6 bN x0 x1 x2 y2 HY1 HB1 HW HP HQ
  refine wpIn_rangeFunc_ownH rfl (by omega) (gf := 59) (lb := #[.pointer (some ⟨w1.heap.size + 1, 0, none⟩)]) rfl trivial (enters_of Tryd.func59 (by kernel_rfl) rfl)
    HST.out Kps.tr (fun W l o o' _ h hc _ => Kps.book W l o o' h hc) (Below.refl _ _) (fun x => x.elim)
    (fun pre W => Boxed W (w.heap.size + 1) 4 (.bool false) ∧ Below w.heap.size w W)
    (fun cc pre W => False)
    (OwnFrom.and (Own.from (boxed_own _ _ _) _) (ownFrom_below (Nat.le_refl _) (by omega)))
    (fun cc => ownFrom_pure _ _)
    ⟨bR, bB⟩
    (fun x a' W => False)
    (fun x a' _ W W' row hs hg hr => hs) ?assign ?body ?done ?stop
  case assign => rintro l pre x; exact x.elim
  case body => rintro l pre x; exact x.elim
  case stop => rintro D0 cc pre W hD hSp h; exact h.elim
  case done =>
    rintro D0 ys W hD hys ⟨hRr, hB⟩ hKd
    have hsz := hB.size
    have rc := hRr.cell
    have rf := hRr.frozen
    have HRr := Lib.hid hRr
    have HB := Lib.hid hB
    have HKd := Lib.hid hKd
    clear hRr hB hKd hys
    gi_wp2
    have hK' := (KeepsOthers.setCell W ⟨w.heap.size + 1, 0, none⟩ (.bool true)).same D0 _ HKd.out rfl
    refine ⟨by simp, .inl ⟨_, _, rfl, run_takeDeferred hK', ?_⟩⟩
    have p0 := cell_kept (HRr.out.set (.bool true)).cell (grownBy_putObj' _ D0 (.deferred none)) (fun r e => by cases e; exact ⟨_, hK', rfl⟩)
    have hb := (HB.out.setCell (p := ⟨w.heap.size + 1, 0, none⟩) (by simp) (.bool true)).trans (belowK_b (w := w) (Nat.le_refl _) _ D0 _ (.deferred none) (by omega) hK' rfl rfl)
    refine ⟨.bool true, ?_, AnsB.of rfl hb⟩
    simp [results, Tryd.f9, go_sem, p0]

theorem iProgramValid_nil' (vs rs : List Int) (k : PC) (n : Nat) (D : Nat → Prop) (w : World) (hp : IsP w D n ⟨vs, rs, []⟩ k) (hl : ∀ k, D k → k < w.heap.size) (hw : 2 ≤ w.heap.size) :
    Calls Tryd.prog 9 #[.agg #[.slice k.va vs.length k.vc, .slice k.aa rs.length k.ac, .slice k.ba 0 k.bc]] w (AnsB (headsB ⟨vs, rs, []⟩) w) := by
  cases hq : headsB ⟨vs, rs, []⟩
  · exact iProgramValid_no ⟨vs, rs, []⟩ k n D w hp hl hq
  · exact callsIn_wide.1 (iProgramValid_nil vs rs k n D w hp hl hw hq)

/-- The number 0 is handed back. -/
def AnsZ (w : World) (e : Ending) (w' : World) : Prop := e = .returned (.int .i64 0) ∧ Below w.heap.size w w'

set_option maxRecDepth 100000 in
set_option maxHeartbeats 8000000 in
theorem iCountStmts_nil (vs rs : List Int) (k : PC) (n : Nat) (D : Nat → Prop) (w : World) (hp : IsP w D n ⟨vs, rs, []⟩ k) (hl : ∀ k, D k → k < w.heap.size) (hw : 2 ≤ w.heap.size) :
    CallsIn Fence.wide 5 Tryd.prog 11 #[.agg #[.slice k.va vs.length k.vc, .slice k.aa rs.length k.ac, .slice k.ba 0 k.bc]] w (AnsZ w) := by
  have HP := Lib.hid hp
  have hbc : k.bc ≤ maxLen := hp.2.2.2.1
  clear hp
  refine callsIn_of_wp_marks Tryd.func11 rfl trivial ?_ rfl
  simp only [Tryd.ntmps11, List.size_toArray, List.length_cons, List.length_nil, Nat.reduceAdd, Nat.reduceSub, Array.replicate_succ, Array.replicate_zero, List.push_toArray, List.append_toArray, List.nil_append, List.cons_append]
  obtain ⟨W, hW⟩ : ∃ W, w.alloc (.cells #[.slice k.va vs.length k.vc, .slice k.aa rs.length k.ac, .slice k.ba 0 k.bc] 26) = W := ⟨_, rfl⟩
  have hB : Below w.heap.size w W := by rw [← hW]; exact (Below.refl _ w).alloc (Nat.le_refl _) _
  have hz : W.heap.size = w.heap.size + 1 := by rw [← hW]; simp
  have e0 : BoxP W w.heap.size ⟨vs, rs, []⟩ k := by
    rw [← hW]; exact BoxP.new w ⟨vs, rs, []⟩ k _
  have HB := Lib.hid hB
  have HX := Lib.hid e0
  have hs0 := hB.size
  have HW := Lib.hid hW
  obtain ⟨q, hq⟩ : ∃ q, headsB ⟨vs, rs, []⟩ = q := ⟨_, rfl⟩
  have HQ := Lib.hid hq
  clear hW hB e0 hq
  cases q
  case false =>
    gi_wp2_with (refine ⟨trivial, ?_⟩
                 gi_at_call 9
                 rw [HW.out]
                 refine (callsIn_wide.2 (iProgramValid_nil' vs rs k n D W (HP.out.later (Stand.of_below HB.out hl)) (fun j hj => Nat.lt_of_lt_of_le (hl j hj) hs0) (by omega))).mono ?_
                 rintro g w1 ⟨rfl, hb1⟩
                 rw [HQ.out]
                 have hs1 := hb1.size
                 have HB1 := Lib.hid (HB.out.trans (hb1.mono hs0))
                 clear hb1 HX HB)
    refine ⟨.int .i64 0, ?_, rfl, HB1.out⟩
    simp [results, Tryd.f11, go_sem]
  case true =>
    gi_wp2_with (refine ⟨trivial, ?_⟩; first
      | (gi_at_call 9; rw [HW.out]; refine (callsIn_wide.2 (iProgramValid_nil' vs rs k n D W (HP.out.later (Stand.of_below HB.out hl)) (fun j hj => Nat.lt_of_lt_of_le (hl j hj) hs0) (by omega))).mono ?_
         rintro g w1 ⟨rfl, hb1⟩
         rw [HQ.out]
         have bX := HX.out.below hb1 (by omega)
         have x2 : w1.cell? ⟨w.heap.size, 2, none⟩ = some (.slice k.ba 0 k.bc) := bX.c2
         have hs1 := hb1.size
         have y2 : (w1.alloc (.cells #[.int .i64 0] 3)).cell? ⟨w.heap.size, 2, none⟩ = some (.slice k.ba 0 k.bc) := (World.cell?_of_block (w := w1) (Below.heap_alloc _ _ _ (by show w.heap.size < w1.heap.size; omega))).trans x2
         have HB1 := Lib.hid (HB.out.trans (hb1.mono hs0))
         clear hb1 bX HX HB)
      | (gi_at_call 30; refine (nodesZ_in _ _ _ _ _).mono ?_; rintro e w2 ⟨rfl, rfl⟩))
    obtain ⟨A6, hA6⟩ : ∃ A6, A6 = (w1.alloc (.cells #[.int .i64 0] 3)).alloc (.cells #[.slice k.ba 0 k.bc] 24) := ⟨_, rfl⟩
    rw [← hA6]
    have z6 : A6.heap.size = w1.heap.size + 2 := by rw [hA6]; simp
    have bR : Boxed A6 w1.heap.size 3 (.int .i64 0) := by rw [hA6]; exact (Boxed.new _ _ _).alloc _
    have bN : A6.heap[w1.heap.size + 1]? = some (.cells #[.slice k.ba 0 k.bc] 24 (0, 0)) := by
      have h := heap_alloc_new (w1.alloc (.cells #[.int .i64 0] 3)) (.cells #[.slice k.ba 0 k.bc] 24)
      rw [← hA6] at h
      simpa using h
    have bB : Below w.heap.size w A6 := by rw [hA6]; exact (HB1.out.alloc (by omega) _).alloc (by simp; omega) _
    have HST := Lib.hid (nodesZ_stops 4 (by omega) (w1.heap.size + 1) k.ba k.bc A6 (fun _ => False) hbc (by omega) bN)
    clear hA6 bN x2 y2 HB1 HW HP HQ
    refine wpIn_rangeFunc_ownH rfl (by omega) (gf := 59) (lb := #[.pointer (some ⟨w1.heap.size + 1, 0, none⟩)]) rfl trivial (enters_of Tryd.func59 (by kernel_rfl) rfl)
      HST.out Kps.tr (fun W l o o' _ h hc _ => Kps.book W l o o' h hc) (Below.refl _ _) (fun x => x.elim)
      (fun pre W => Boxed W w1.heap.size 3 (.int .i64 0) ∧ Below w.heap.size w W)
      (fun cc pre W => False)
      (OwnFrom.and (Own.from (boxed_own _ _ _) _) (ownFrom_below (Nat.le_refl _) (by omega)))
      (fun cc => ownFrom_pure _ _)
      ⟨bR, bB⟩
      (fun x a' W => False)
      (fun x a' _ W W' row hs hg hr => hs) ?assign ?body ?done ?stop
    case assign => rintro l pre x; exact x.elim
    case body => rintro l pre x; exact x.elim
    case stop => rintro D0 cc pre W hD hSp h; exact h.elim
    case done =>
      rintro D0 ys W hD hys ⟨hRr, hB⟩ hKd
      have hsz := hB.size
      have rc := hRr.cell
      have rf := hRr.frozen
      have HRr := Lib.hid hRr
      have HB := Lib.hid hB
      have HKd := Lib.hid hKd
      clear hRr hB hKd hys
      gi_wp2
      refine ⟨by simp, .inl ⟨_, _, rfl, run_takeDeferred HKd.out, ?_⟩⟩
      have hb := HB.out.trans (belowK_b (w := w) (Nat.le_refl _) _ D0 _ (.deferred none) (by omega) HKd.out rfl rfl)
      refine ⟨.int .i64 0, ?_, rfl, hb⟩
      simp [results, Tryd.f11, go_sem]

theorem iCountStmts_nil' (vs rs : List Int) (k : PC) (n : Nat) (D : Nat → Prop) (w : World) (hp : IsP w D n ⟨vs, rs, []⟩ k) (hl : ∀ k, D k → k < w.heap.size) (hw : 2 ≤ w.heap.size) :
    Calls Tryd.prog 11 #[.agg #[.slice k.va vs.length k.vc, .slice k.aa rs.length k.ac, .slice k.ba 0 k.bc]] w (AnsZ w) := callsIn_wide.1 (iCountStmts_nil vs rs k n D w hp hl hw)

end Go.Proofs.YtlhdgoindknpfaaDoor

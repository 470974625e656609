/- The program's FormatLabels, walked: for every list of at most 2^40 numbers it returns what the model's does, and nothing that was there has changed. Condition: the table of letters lies as the program's text lays it. -/
import Derived.Test.YtleomemalgfmoaaDoorIterN
import Derived.Test.YtleomemalgfmoaaDoorBld
namespace Go.Proofs.YtleomemalgfmoaaDoor
open Go.RowKit Go.Shelf

attribute [local go_sem] Oper.semAt_some

theorem builder_kept {W W' : World} {row : Option Nat} {B b : Nat} {bs : List Value} (h : Lib.IsBuilderF 70 5 B b bs W) (hg : W.grownBy W' row) (hr : ∀ r, row = some r → ∃ o : Obj, W.heap[r]? = some o ∧ o.isCells = false) : Lib.IsBuilderF 70 5 B b bs W' := by
  have key : ∀ p, Lib.BuilderAtF 70 5 B b p bs W → Lib.BuilderAtF 70 5 B b p bs W' := by
    rintro p ⟨hB, v, hb, hown, hne⟩
    have hlt : b < W.heap.size := (Array.getElem?_eq_some_iff.1 hb).1
    refine ⟨hB, v, ?_, hown.kept hg ?_, hne⟩
    · refine (hg.block b hlt fun e => ?_).trans hb
      obtain ⟨o, ho, hc⟩ := hr b e.symm
      rw [hb] at ho; cases ho; cases hc
    · cases hv : v.ownBlock with
      | none => exact .inl rfl
      | some g =>
        refine .inr fun e => ?_
        obtain ⟨c, fz, hcells⟩ := Lib.ownsRowF_kind hown g hv
        obtain ⟨o, ho, hc⟩ := hr g e.symm
        rw [hcells] at ho; cases ho; cases hc
  exact h.elim (fun x => .inl (key _ x)) (fun x => .inr (key _ x))

theorem builder_own {β : Type} (B b : Nat) (f : β → List Value) : Own (fun s W => Lib.IsBuilderF 70 5 B b (f s) W) := fun _ _ _ _ hs hg hr => builder_kept hs hg hr

theorem kept_from {W W' : World} {b D : Nat} {p v : Value} (h : Lib.OthersKept 5 (some b) W W') (hsz : W.heap.size ≤ W'.heap.size) (hb : W.heap[b]? = some (.cells #[p, v] 70 (0, 0))) : KeepsFrom D W W' :=
  ⟨hsz, fun k o _ hk hc => h k o hk (fun e => by cases e; rw [hb] at hk; cases hk; cases hc) (fun c fz e => by subst e; cases hc)⟩

theorem builder_block {W : World} {B b : Nat} {bs : List Value} (h : Lib.IsBuilderF 70 5 B b bs W) : ∃ p v, W.heap[b]? = some (.cells #[p, v] 70 (0, 0)) := by
  rcases h with ⟨_, v, hb, _⟩ | ⟨_, v, hb, _⟩
  · exact ⟨_, v, hb⟩
  · exact ⟨_, v, hb⟩

theorem let8_byte {x : Int} (h : Lok3 x = true) : LetterOf x = ((let8 x).toNat : Int) := by
  have h4 : x = 0 ∨ x = 1 ∨ x = 2 ∨ x = 3 := by unfold Lok3 at h; simp at h; omega
  rcases h4 with rfl | rfl | rfl | rfl <;> rfl
theorem Lok3_bounds {x : Int} (h : Lok3 x = true) : 0 ≤ x ∧ x ≤ 3 := by unfold Lok3 at h; simpa using h
theorem LI_ok {x : Int} (h : Lok3 x = true) : LI x = x := by unfold LI; rw [h]; rfl
theorem allOk_app (pre : List Int) (x : Int) : allOk (pre ++ [x]) = (allOk pre && Lok3 x) := by simp [allOk]
theorem allOk_pre {pre l : List Int} (h : pre <+: l) (hp : allOk pre = false) : allOk l = false := by
  obtain ⟨t, rfl⟩ := h
  unfold allOk at *
  rw [List.all_append, hp]; rfl
theorem cells_snoc (pre : List Int) (x : Int) (h : Lok3 x = true) : Lib.byteCells (L8 (pre ++ [x])) = Lib.byteCells (L8 pre) ++ [.int .u8 (LetterOf x)] := by
  rw [let8_byte h]; simp [L8, Lib.byteCells]

/-- A text; nothing that was there has changed. -/
def TextB (l : List UInt8) (w : World) (e : Ending) (w' : World) : Prop := e = .returned (.string ⟨l.toArray⟩) ∧ Below w.heap.size w w'

set_option maxRecDepth 100000 in
set_option maxHeartbeats 2000000 in
theorem iFormat_in (a : Option Addr) (n cap : Nat) (xs : List Int) (w : World) (h : SliceI w a n xs) (hn : n ≤ 1099511627776) (hT : Tbl w) (hw : 1 < w.heap.size) :
    CallsIn Fence.wide 5 Tryd.prog 35 #[.slice a n cap] w (TextB (fmtL xs) w) := by
  have hSB := h.toB
  clear h
  refine callsIn_of_wp_marks Tryd.func35 rfl trivial ?_ rfl
  simp only [Tryd.ntmps35, List.size_toArray, List.length_cons, List.length_nil, Nat.reduceAdd, Nat.reduceSub, Array.replicate_succ, Array.replicate_zero, List.push_toArray, List.append_toArray, List.nil_append, List.cons_append]
  have HSB := Lib.hid hSB
  clear hSB
  gi_wp2_with (refine ⟨trivial, ?_⟩; gi_at_call 61; refine (numbered_in _ a n cap _).mono ?_; rintro e w2 ⟨rfl, rfl⟩)
  obtain ⟨W0, hW0⟩ : ∃ W0, (((w.alloc (.cells #[.string { data := #[] }] 9)).alloc (.cells #[.pointer none, .slice none 0 0] 70)).alloc (.cells #[.slice a n cap] 22)) = W0 := ⟨_, rfl⟩
  have hsz : W0.heap.size = w.heap.size + 3 := by rw [← hW0]; simp
  have b0 : Boxed W0 w.heap.size 9 (.string { data := #[] }) := by rw [← hW0]; exact ((Boxed.new w _ _).alloc _).alloc _
  have b1 : Lib.IsBuilderF 70 5 (w.heap.size + 1) (w.heap.size + 1) (Lib.byteCells (L8 [])) W0 := by
    have e := World.alloc_heap_new (w.alloc (.cells #[.string { data := #[] }] 9)) (.cells #[.pointer none, .slice none 0 0] 70)
    rw [World.size_alloc] at e
    have e2 : W0.heap[w.heap.size + 1]? = some (.cells #[.pointer none, .slice none 0 0] 70 (0, 0)) := by
      rw [← hW0, Below.heap_alloc _ _ _ (by simp)]; exact e
    exact .inl ⟨Nat.le_refl _, .slice none 0 0, e2, World.ownsRowF_nil _ _ _ _, by simp [Value.ownBlock]⟩
  have b2 : Boxed W0 (w.heap.size + 1 + 1) 22 (.slice a n cap) := by
    have := Boxed.new ((w.alloc (.cells #[.string { data := #[] }] 9)).alloc (.cells #[.pointer none, .slice none 0 0] 70)) 22 (.slice a n cap)
    rw [World.size_alloc, World.size_alloc] at this
    rw [← hW0]; exact this
  have hB0 : Below w.heap.size w W0 := by
    rw [← hW0]; exact (((Below.refl _ w).alloc (Nat.le_refl _) _).alloc (by simp) _).alloc (by simp; omega) _
  rw [hW0]
  clear hW0
  have HS0 := Lib.hid (HSB.out.below hB0)
  refine wpIn_rangeFunc_ownG rfl (by omega) (gf := 76) (lb := #[.pointer (some ⟨w.heap.size + 1 + 1, 0, none⟩)]) rfl trivial (enters_of Tryd.func76 (by kernel_rfl) rfl)
    (numbered_stops 4 (by omega) (w.heap.size + 1 + 1) w.heap.size a n cap xs W0 hn (by omega) (by omega) b2.cell HS0.out) belowK_t (belowK_b (by omega)) (Below.refl _ _) (fun _ => rfl)
    (fun pre W => Boxed W w.heap.size 9 (.string { data := #[] }) ∧ Lib.IsBuilderF 70 5 (w.heap.size + 1) (w.heap.size + 1) (Lib.byteCells (L8 pre)) W ∧ allOk pre = true ∧ Below w.heap.size w W)
    (fun c pre W => (c = .ret ∧ allOk pre = false) ∧ Boxed W w.heap.size 9 (.string { data := #[] }) ∧ Below w.heap.size w W)
    (OwnFrom.and (Own.from (boxed_own _ _ _) _) (OwnFrom.and (Own.from (builder_own (w.heap.size + 1) (w.heap.size + 1) (fun pre => Lib.byteCells (L8 pre))) _) (OwnFrom.and (ownFrom_pure _ _) (ownFrom_below (Nat.le_refl _) (by omega)))))
    (fun c => OwnFrom.and (ownFrom_pure _ _) (OwnFrom.and (Own.from (boxed_own _ _ _) _) (ownFrom_below (Nat.le_refl _) (by omega))))
    ⟨b0, b1, rfl, hB0⟩
    (fun x => { tmps := #[.slice a n cap, undef, .pointer (some ⟨w.heap.size, 0, none⟩), .pointer (some ⟨w.heap.size + 1, 0, none⟩), .int .i64 (LI x), .bool (Lok3 x), .slice a n cap, .func (.func 76) #[] #[.pointer (some ⟨w.heap.size + 1 + 1, 0, none⟩)], .int .i64 (LI x), .bool (Lok3 x), undef, undef, undef, undef, undef, undef], defers := [] }) ?assign ?body ?done ?stop
  case assign =>
    intro l x W K hK
    gi_wp2
    exact hK
  case body =>
    rintro l pre x W ⟨q0, q1, hP, hB⟩ hlt
    have HA : Hid (allOk (pre ++ [x]) = (allOk pre && Lok3 x)) := allOk_app pre x
    have HP := Lib.hid hP
    have HB := Lib.hid hB
    have HL := Lib.hid HSB.out.1
    have hpre : pre.length ≤ 1099511627776 := by have := HL.out; omega
    have hWs := hB.size
    have HQ0 := Lib.hid q0
    have HQ1 := Lib.hid q1
    clear hP hlt
    cases hx : Lok3 x
    case false =>
      have c0 := q0.cell
      have f0 := q0.frozen
      clear q0 q1 hB
      gi_wp2
      refine ⟨(KeepsOthers.setCell _ _ _).from _, ⟨rfl, ?_⟩, HQ0.out.set _, HB.out.setCell (p := ⟨w.heap.size, 0, none⟩) (Nat.le_refl _) _⟩
      rw [HA.out, hx]; simp
    case true =>
      have HT := Lib.hid (hT.below hB hw)
      have hlen : (Lib.byteCells (L8 pre)).length + 1 ≤ 140737488355328 := by rw [Lib.byteCells_length]; unfold L8; rw [List.length_map]; omega
      have HLEN := Lib.hid hlen
      have hbd := Lok3_bounds hx
      have HC := Lib.hid (cells_snoc pre x hx)
      have hLI : LI x = x := LI_ok hx
      clear hlen q0 q1 hB
      gi_wp2_with (refine ⟨trivial, ?_⟩; gi_at_call 62; refine (CallsIn.inRound l (callsIn_wide.2 (letter_one x _ HT.out hbd.1 hbd.2))).mono ?_; rintro e w2 ⟨rfl, rfl⟩)
      obtain ⟨pb, vb, hblk⟩ := builder_block HQ1.out
      have hbW : w.heap.size + 1 < W.heap.size := (Array.getElem?_eq_some_iff.1 hblk).1
      have HBLK := Lib.hid hblk
      clear hblk
      refine ⟨trivial, ?_⟩
      refine (CallsIn.inRound l (callsIn_wide.2 (writeByte_k (w.heap.size + 1) (w.heap.size + 1) _ (LetterOf x) _ HQ1.out HLEN.out (by omega)))).mono ?_
      rintro e W3 ⟨rfl, hbd3, hb3, hk3⟩
      have HB3 := Lib.hid hb3
      have HK3 := Lib.hid hk3
      have HBD3 := Lib.hid hbd3
      clear hb3 hk3 hbd3
      gi_wp2
      refine ⟨kept_from HK3.out HB3.out.size HBLK.out, HB3.out.mono (by omega), (HB3.out.block w.heap.size (by omega)).trans HQ0.out, ?_, ?_, HB.out.trans (HB3.out.mono (by omega))⟩
      · rw [HC.out]; exact .inr HBD3.out
      · rw [HA.out, HP.out, hx]; rfl
  case done =>
    rintro D ys W hD rfl ⟨q0, q1, hP, hB⟩ hK
    have HQ0 := Lib.hid q0
    have HQ1 := Lib.hid q1
    have HP := Lib.hid hP
    have HB := Lib.hid hB
    have HK := Lib.hid hK
    obtain ⟨pb, vb, hblk⟩ := builder_block q1
    have hbW : w.heap.size + 1 < W.heap.size := (Array.getElem?_eq_some_iff.1 hblk).1
    have HBLK := Lib.hid hblk
    clear q0 q1 hP hB hK hblk
    gi_wp2_with fail
    refine ⟨trivial, ?_⟩
    refine (callsIn_wide.2 (Tryd.Builder_String_any_k (w.heap.size + 1) (w.heap.size + 1) (L8 ys) _ HQ1.out (by omega))).mono ?_
    rintro e W3 ⟨rfl, hbd3, hb3, hk3⟩
    have HB3 := Lib.hid hb3
    have HK3 := Lib.hid hk3
    clear hb3 hk3 hbd3
    have q3 : Boxed W3 w.heap.size 9 (.string { data := #[] }) := (HB3.out.block w.heap.size (by omega)).trans HQ0.out
    have c0 := q3.cell
    have f0 := q3.frozen
    have HQ3 := Lib.hid q3
    have HK4 : Hid (W3.heap[D]? = some (.deferred (some []))) := HK3.out D _ HK.out (fun e => by cases e; have := HBLK.out; rw [HK.out] at this; cases this) (fun c fz e => by cases e)
    clear q3
    gi_wp2
    have hK' := (KeepsOthers.setCell W3 ⟨w.heap.size, 0, none⟩ (.string ⟨(L8 ys).toArray⟩)).same D _ HK4.out rfl
    refine ⟨by simp, .inl ⟨_, _, rfl, run_takeDeferred hK', ?_⟩⟩
    have B0 := HQ3.out.set (.string ⟨(L8 ys).toArray⟩)
    have p0 := cell_kept B0.cell (grownBy_putObj' _ D (.deferred none)) (fun r e => by cases e; exact ⟨_, hK', rfl⟩)
    have hb := ((HB.out.trans (HB3.out.mono (by omega))).setCell (p := ⟨w.heap.size, 0, none⟩) (Nat.le_refl _) (.string ⟨(L8 ys).toArray⟩)).trans (belowK_b (w := w) (Nat.le_refl _) _ D _ (.deferred none) (by omega) hK' rfl rfl)
    refine ⟨.string ⟨(L8 ys).toArray⟩, ?_, ?_, hb⟩
    · simp [results, Tryd.f35, go_sem, p0]
    · have e : fmtL ys = L8 ys := by unfold fmtL; rw [HP.out]; rfl
      rw [e]
  case stop =>
    rintro D c pre W hD hSp ⟨⟨rfl, hP⟩, q0, hB⟩ hK
    have HQ0 := Lib.hid q0
    have HP := Lib.hid (allOk_pre hSp hP)
    have HB := Lib.hid hB
    have HK := Lib.hid hK
    clear q0 hP hB hK
    gi_wp2
    refine ⟨by simp, .inl ⟨_, _, rfl, run_takeDeferred HK.out, ?_⟩⟩
    have p0 := cell_kept HQ0.out.cell (grownBy_putObj' _ D (.deferred none)) (fun r e => by cases e; exact ⟨_, HK.out, rfl⟩)
    have hb := HB.out.trans (belowK_b (w := w) (Nat.le_refl _) _ D _ (.deferred none) (by omega) HK.out rfl rfl)
    refine ⟨.string { data := #[] }, ?_, ?_, hb⟩
    · simp [results, Tryd.f35, go_sem, p0]
    · have e : fmtL xs = [] := by unfold fmtL; rw [HP.out]; rfl
      rw [e]

/-- **FormatLabels OF THE PROGRAM ANSWERS AS ITS MODEL.** -/
theorem iFormat_one (a : Option Addr) (n cap : Nat) (xs : List Int) (w : World) (h : SliceI w a n xs) (hn : n ≤ 1099511627776) (hT : Tbl w) (hw : 1 < w.heap.size) :
    Calls Tryd.prog 35 #[.slice a n cap] w (TextB (fmtL xs) w) := callsIn_wide.1 (iFormat_in a n cap xs w h hn hT hw)

end Go.Proofs.YtleomemalgfmoaaDoor

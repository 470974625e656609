/- The program's run of a trace, at the two functions that it tells of its hits. -/
import Derived.Test.YteoaecfjgbkefaaCaG
import Derived.RangeFuncWrites
import Derived.RangeFuncNested
import Derived.Deep.RegionWith
namespace Go.Proofs.Yteoaecfjgbkefaa
open Go.RowKit Go.Shelf
set_option linter.unusedVariables false

attribute [local go_sem] Oper.semAt_some

theorem mixedCa : Try.prog.follows .mixedOrders = true := by kernel_rfl
theorem StandC.refl (B : Nat) (u : World) : StandC B u u := ⟨Nat.le_refl _, fun _ _ h _ _ => h⟩
theorem StandC.alloc {B : Nat} {a u : World} (h : StandC B a u) (o : Obj) : StandC B a (u.alloc o) := ⟨by have := h.1; simp; omega, fun j q hq hc hne => by have h1 := h.2 j q hq hc hne; rw [Below.heap_alloc _ _ _ (Array.getElem?_eq_some_iff.1 h1).1]; exact h1⟩
theorem StandC.acc (w : World) (B a : Nat) : StandC B w (accW w B a) := ⟨by rw [accW_size]; exact Nat.le_refl _, fun j o h _ hne => by rw [accW_other _ _ _ _ hne]; exact h⟩
/-- What lies in a block of cells lies on where rows that are no cells turn. -/
theorem cells_turn {A B : World} {row : Option Nat} {n0 j : Nat} {o : Obj} (h : A.heap[j]? = some o) (hc : o.isCells = true) (hg : A.grownBy B row) (hr : ∀ r, row = some r → n0 ≤ r ∧ ∃ o : Obj, A.heap[r]? = some o ∧ o.isCells = false) : B.heap[j]? = some o :=
  (hg.block j (Array.getElem?_eq_some_iff.1 h).1 (fun e => by obtain ⟨_, o', h', hc'⟩ := hr j e.symm; rw [h] at h'; cases h'; rw [hc] at hc'; cases hc')).trans h
theorem stand_turn {A B : World} {row : Option Nat} {n0 : Nat} (C : Nat) (hg : A.grownBy B row) (hr : ∀ r, row = some r → n0 ≤ r ∧ ∃ o : Obj, A.heap[r]? = some o ∧ o.isCells = false) : StandC C A B := ⟨hg.size, fun j o h hc _ => cells_turn h hc hg hr⟩

/-- A run's answer. -/
def RunR (Told : List Bool → World → Prop) (c0 : Ca) (BL : Nat) (vs : List Int) (w : World) (e : Ending) (w' : World) : Prop := Below BL w w' ∧ ((∃ d hs, runV (some (c0, [])) vs = some (d, hs) ∧ e = .returned (.bool true) ∧ BoxLn w' BL d ∧ Told hs w') ∨ (runV (some (c0, [])) vs = none ∧ e = .returned (.bool false)))

set_option maxRecDepth 100000 in
set_option maxHeartbeats 8000000 in
theorem run1_in (c0 : Ca) (BL BT : Nat) (es : List Ev) (ea : Option Addr) (en ec : Nat) (w : World) (hX : BoxLn w BL c0) (hT : Boxed w BT 36 (.slice none 0 0)) (hlt : BL < BT) (hBT : BT < w.heap.size) (hE : EvAt w (fun b => b < BL) es ea) (hen : es.length = en) (hem : en ≤ 1048576) :
    CallsIn Fence.wide 5 Try.prog 61 #[.pointer (some ⟨BL, 0, none⟩), .slice ea en ec, .func (.func 62) #[] #[.pointer (some ⟨BT, 0, none⟩)]] w (fun e w' => ∃ z, w.heap.size ≤ z ∧ RunR (Told1 BT z) c0 BL (vls es) w e w') := by
  obtain ⟨A4, hA4⟩ : ∃ A4, (((w.alloc (.cells #[.pointer (some ⟨BL, 0, none⟩)] 92)).alloc (.cells #[.func (.func 62) #[] #[.pointer (some ⟨BT, 0, none⟩)]] 77)).alloc (.cells #[.bool false] 4)).alloc (.cells #[.slice ea en ec] 33) = A4 := ⟨_, rfl⟩
  have z4 : A4.heap.size = w.heap.size + 4 := by rw [← hA4]; simp
  have b4 : Below w.heap.size w A4 := by
    rw [← hA4]
    exact ((((Below.refl _ w).alloc (Nat.le_refl _) _).alloc (by simp) _).alloc (by simp; omega) _).alloc (by simp; omega) _
  have q0 : Boxed A4 w.heap.size 92 (.pointer (some ⟨BL, 0, none⟩)) := by
    rw [← hA4]
    exact (((Boxed.new w 92 (.pointer (some ⟨BL, 0, none⟩))).alloc _).alloc _).alloc _
  have q1 : Boxed A4 (w.heap.size + 1) 77 (.func (.func 62) #[] #[.pointer (some ⟨BT, 0, none⟩)]) := by
    rw [← hA4]
    have h := Boxed.new (w.alloc (.cells #[.pointer (some ⟨BL, 0, none⟩)] 92)) 77 (.func (.func 62) #[] #[.pointer (some ⟨BT, 0, none⟩)])
    rw [World.size_alloc] at h
    exact (h.alloc _).alloc _
  have q2 : Boxed A4 (w.heap.size + 1 + 1) 4 (.bool false) := by
    rw [← hA4]
    have h := Boxed.new ((w.alloc (.cells #[.pointer (some ⟨BL, 0, none⟩)] 92)).alloc (.cells #[.func (.func 62) #[] #[.pointer (some ⟨BT, 0, none⟩)]] 77)) 4 (.bool false)
    rw [World.size_alloc, World.size_alloc] at h
    exact h.alloc _
  have q3 : A4.heap[w.heap.size + 1 + 1 + 1]? = some (.cells #[.slice ea en ec] 33 (0, 0)) := by
    rw [← hA4]
    have h := heap_alloc_new (((w.alloc (.cells #[.pointer (some ⟨BL, 0, none⟩)] 92)).alloc (.cells #[.func (.func 62) #[] #[.pointer (some ⟨BT, 0, none⟩)]] 77)).alloc (.cells #[.bool false] 4)) (.cells #[.slice ea en ec] 33)
    rw [World.size_alloc, World.size_alloc, World.size_alloc] at h
    exact h
  have hE4 : EvAt A4 (fun b => b < BL) es ea := fun i x hx => by
    obtain ⟨b, o, ha, hbl, h1, h2⟩ := hE i x hx
    exact ⟨b, o, ha, hbl, (b4.cell (p := ⟨b, o + i * 2, none⟩) (show b < w.heap.size by omega)).trans h1, (b4.cell (p := ⟨b, o + i * 2 + 1, none⟩) (show b < w.heap.size by omega)).trans h2⟩
  have hX4 : BoxLn A4 BL c0 := hX.below b4
  have HST := Lib.hid (acc_stops 4 (by omega) (w.heap.size + 1 + 1 + 1) BL es ea en ec A4 hen hem (by omega) (by omega) q3 hE4)
  have HT0 : Hid (Told1 BT A4.heap.size [] A4) := Told1.nil _ ((b4.block BT hBT).trans hT)
  have HB4 : Hid (Below BL w A4) := b4.mono (by omega)
  have HX4 := Lib.hid hX4
  have HQ0 := Lib.hid q0
  have HQ1 := Lib.hid q1
  have HQ2 := Lib.hid q2
  have HA4 := Lib.hid hA4
  have hge : w.heap.size + 4 ≤ A4.heap.size := by omega
  have hle : A4.heap.size ≤ w.heap.size + 4 := by omega
  have hmx := mixedCa
  clear hX hT hE hen hA4 z4 b4 q0 q1 q2 q3 hE4 hX4
  refine callsIn_of_wp_marks Try.func61 rfl trivial ?_ rfl
  simp only [Try.ntmps61, List.size_toArray, List.length_cons, List.length_nil, Nat.reduceAdd, Nat.reduceSub, Array.replicate_succ, Array.replicate_zero, List.push_toArray, List.append_toArray, List.nil_append, List.cons_append]
  gi_wp2_with (refine ⟨trivial, ?_⟩; gi_at_call 78; refine (accesses_in _ _ _ _ _).mono ?_; rintro e w2 ⟨rfl, rfl⟩)
  rw [HA4.out]
  refine wpIn_rangeFunc_ownG rfl (by omega) (gf := 79) (lb := #[.pointer (some ⟨w.heap.size + 1 + 1 + 1, 0, none⟩)]) rfl trivial (enters_of Try.func79 (by kernel_rfl) rfl)
    HST.out belowK_t (belowK_b (by omega)) (Below.refl _ _) (fun _ => rfl)
    (fun pre W => (∃ c hs, runV (some (c0, [])) pre = some (c, hs) ∧ BoxLn W BL c ∧ Told1 BT A4.heap.size hs W) ∧ (Boxed W w.heap.size 92 (.pointer (some ⟨BL, 0, none⟩)) ∧ Boxed W (w.heap.size + 1) 77 (.func (.func 62) #[] #[.pointer (some ⟨BT, 0, none⟩)]) ∧ Boxed W (w.heap.size + 1 + 1) 4 (.bool false)) ∧ Below BL w W ∧ A4.heap.size ≤ W.heap.size)
    (fun cc pre W => (cc = .ret ∧ runV (some (c0, [])) pre = none) ∧ Boxed W (w.heap.size + 1 + 1) 4 (.bool false) ∧ Below BL w W)
    (fun pre A B row hs hg hr => by
      obtain ⟨⟨c, hs', h1, h2, h3⟩, ⟨k0, k1, k2⟩, hb, hz⟩ := hs
      exact ⟨⟨c, hs', h1, cells_turn h2 rfl hg hr, h3.stand (stand_turn BL hg hr) (by omega) (by omega)⟩, ⟨cells_turn k0 rfl hg hr, cells_turn k1 rfl hg hr, cells_turn k2 rfl hg hr⟩, (ownFrom_below (β := List Int) (show BL ≤ w.heap.size by omega) (show BL ≤ A4.heap.size by omega)) pre A B row hb hg hr, Nat.le_trans hz hg.size⟩)
    (fun cc pre A B row hs hg hr => by
      obtain ⟨h1, k2, hb⟩ := hs
      exact ⟨h1, cells_turn k2 rfl hg hr, (ownFrom_below (β := List Int) (show BL ≤ w.heap.size by omega) (show BL ≤ A4.heap.size by omega)) pre A B row hb hg hr⟩)
    ⟨⟨c0, [], rfl, HX4.out, HT0.out⟩, ⟨HQ0.out, HQ1.out, HQ2.out⟩, HB4.out, Nat.le_refl _⟩
    (fun x => { tmps := #[.pointer (some ⟨BL, 0, none⟩), .slice ea en ec, .func (.func 62) #[] #[.pointer (some ⟨BT, 0, none⟩)], .pointer (some ⟨w.heap.size, 0, none⟩), undef, .pointer (some ⟨w.heap.size + 1, 0, none⟩), .pointer (some ⟨w.heap.size + 1 + 1, 0, none⟩), .int .i64 x, .slice ea en ec, .func (.func 79) #[] #[.pointer (some ⟨w.heap.size + 1 + 1 + 1, 0, none⟩)], .int .i64 x, undef, undef, undef, undef, undef, undef, undef, undef], defers := [] }) ?assign ?body ?done ?stop
  case assign =>
    intro l x W K hK
    gi_wp2
    exact hK
  case body =>
    rintro l pre x W ⟨⟨c, hs, hrun, hX, hT⟩, ⟨q0, q1, q2⟩, hB, hz⟩ hpre
    have HRUN := Lib.hid hrun
    have HX := Lib.hid hX
    have HT := Lib.hid hT
    have HB := Lib.hid hB
    have HQ0 := Lib.hid q0
    have HQ1 := Lib.hid q1
    have HQ2 := Lib.hid q2
    have hlen : hs.length ≤ en := by have := runV_len _ _ _ _ _ hrun; simp at this; omega
    clear hrun hX hT hB
    cases hav : adr x with
    | false =>
      have HAV := Lib.hid hav
      have HNO : Hid (runV (some (c0, [])) (pre ++ [x]) = none) := by
        show runV _ _ = _
        rw [runV_snoc, HRUN.out, stV_no hav]
      have c2 := q2.cell
      have f2 := q2.frozen
      clear q0 q1 q2 hav
      gi_wp2_with (refine ⟨trivial, ?_⟩; gi_at_call 53; refine (CallsIn.inRound l (callsIn_wide.2 (isAdr_one x _))).mono ?_; rintro e w2 ⟨rfl, hw2⟩; obtain rfl : W = w2 := hw2.symm; rw [HAV.out])
      exact ⟨(KeepsOthers.setCell _ _ _).from _, ⟨rfl, HNO.out⟩, HQ2.out.set _, HB.out.setCell (p := ⟨w.heap.size + 1 + 1, 0, none⟩) (by simp; omega) _⟩
    | true =>
      obtain ⟨a, rfl, ha⟩ := adr_nat hav
      have HAV := Lib.hid hav
      have HRUN2 : Hid (runV (some (c0, [])) (pre ++ [(a : Int)]) = some (c.acc a, hs ++ [c.hit a])) := by
        show runV _ _ = _
        rw [runV_snoc, HRUN.out, stV_yes ha]
      obtain ⟨u, hu⟩ : ∃ u, accW W.drew BL a = u := ⟨_, rfl⟩
      have hsu : StandC BL W u := by rw [← hu]; exact ⟨(StandC.acc W.drew BL a).1, fun j o h hc hne => (StandC.acc W.drew BL a).2 j o h hc hne⟩
      have HTU : Hid (Told1 BT A4.heap.size hs u) := HT.out.stand hsu (by omega) (by omega)
      have HXU : Hid (BoxLn u BL (c.acc a)) := by rw [← hu]; exact (show BoxLn W.drew BL c from HX.out).acc a
      have HXD : Hid (BoxLn W.drew BL c) := HX.out
      have hzu : W.heap.size ≤ u.heap.size := hsu.1
      have u0 : Boxed u w.heap.size _ _ := hsu.2 _ _ q0 rfl (by omega)
      have u1 : Boxed u (w.heap.size + 1) _ _ := hsu.2 _ _ q1 rfl (by omega)
      have u2 : Boxed u (w.heap.size + 1 + 1) _ _ := hsu.2 _ _ q2 rfl (by omega)
      have HU0 := Lib.hid u0
      have HU1 := Lib.hid u1
      have HU2 := Lib.hid u2
      have HBU : Hid (Below BL W u) := by rw [← hu]; exact accW_below (Below.refl BL W).drew BL a (Nat.le_refl _)
      have HKU : Hid (KeepsOthers W u) := by rw [← hu]; exact (KeepsOthers.drew W).trans (KeepsOthers.setCell _ _ _)
      have HU := Lib.hid hu
      have x0 := q0.cell
      have x1 := q1.cell
      have y0 : W.drew.cell? ⟨w.heap.size, 0, none⟩ = _ := q0.cell
      have y1 : W.drew.cell? ⟨w.heap.size + 1, 0, none⟩ = _ := q1.cell
      have z0 := u0.cell
      have z1 := u1.cell
      clear q0 q1 q2 u0 u1 u2 hsu hu hav
      gi_wp2_with (refine ⟨trivial, ?_⟩; gi_at_call 53; refine (CallsIn.inRound l (callsIn_wide.2 (isAdr_one _ _))).mono ?_; rintro e w2 ⟨rfl, hw2⟩; obtain rfl : W = w2 := hw2.symm; rw [HAV.out])
      gi_region_with_o (refine ⟨trivial, ?_⟩; first
        | (gi_at_call 54; (refine (CallsIn.inRound l (callsIn_wide.2 (iAcc_one c a BL W.drew HXD.out ha))).mono ?_); rintro e v1 ⟨rfl, hv1⟩; obtain rfl : u = v1 := (by rw [hv1]; exact HU.out.symm); clear hv1)
        | (gi_at_call 62; (refine (CallsIn.inRound l (callsIn_wide.2 (tell1_one BT A4.heap.size hs (c.hit a) u HTU.out (by omega) (by omega) (by omega)))).mono ?_); rintro e v2 ⟨⟨vv, rfl⟩, hT2, hB2, hK2, hO2⟩))
      all_goals
        have k0 : Boxed v2 w.heap.size _ _ := (hO2 _ HU0.out.lt (by omega) (by omega)).trans HU0.out
        have k1 : Boxed v2 (w.heap.size + 1) _ _ := (hO2 _ HU1.out.lt (by omega) (by omega)).trans HU1.out
        have k2 : Boxed v2 (w.heap.size + 1 + 1) _ _ := (hO2 _ HU2.out.lt (by omega) (by omega)).trans HU2.out
        have kx : BoxLn v2 BL (c.acc a) := HXU.out.later (hB2.block BL hlt)
        have hbz := hB2.size
        exact ⟨(HKU.out.trans hK2).from _, HBU.out.trans (hB2.mono (by omega)), ⟨c.acc a, hs ++ [c.hit a], HRUN2.out, kx, hT2⟩, ⟨k0, k1, k2⟩, HB.out.trans (HBU.out.trans (hB2.mono (by omega))), by omega⟩
  case done =>
    rintro D ys W hD hys ⟨⟨c, hs, hrun, hX, hT⟩, ⟨q0, q1, q2⟩, hB, hz⟩ hKd
    have hS1 : StandC (w.heap.size + 1 + 1) W (W.setCell ⟨w.heap.size + 1 + 1, 0, none⟩ (.bool true)) := ⟨by simp [World.setCell], fun j o h _ hne => by rw [Below.heap_setCell _ _ _ _ (by simpa using hne)]; exact h⟩
    have hK' := (KeepsOthers.setCell W ⟨w.heap.size + 1 + 1, 0, none⟩ (.bool true)).same D _ hKd rfl
    have hr : ∀ r, some D = some r → A4.heap.size ≤ r ∧ ∃ o : Obj, (W.setCell ⟨w.heap.size + 1 + 1, 0, none⟩ (.bool true)).heap[r]? = some o ∧ o.isCells = false := fun r e => by cases e; exact ⟨hD, _, hK', rfl⟩
    have hg := grownBy_putObj' (W.setCell ⟨w.heap.size + 1 + 1, 0, none⟩ (.bool true)) D (.deferred none)
    have p2 : Boxed ((W.setCell ⟨w.heap.size + 1 + 1, 0, none⟩ (.bool true)).putObj D (.deferred none)) (w.heap.size + 1 + 1) 4 (.bool true) := cells_turn (q2.set (.bool true)) rfl hg hr
    have HP := Lib.hid p2.cell
    have hX2 : BoxLn ((W.setCell ⟨w.heap.size + 1 + 1, 0, none⟩ (.bool true)).putObj D (.deferred none)) BL c := cells_turn (hS1.2 BL _ hX rfl (by omega)) rfl hg hr
    have hT1 : Told1 BT A4.heap.size hs (W.setCell ⟨w.heap.size + 1 + 1, 0, none⟩ (.bool true)) := hT.stand hS1 (by omega) (by omega)
    have hT2 : Told1 BT A4.heap.size hs ((W.setCell ⟨w.heap.size + 1 + 1, 0, none⟩ (.bool true)).putObj D (.deferred none)) := hT1.stand (stand_turn BL hg hr) (by omega) (by omega)
    have hB2 : Below BL w ((W.setCell ⟨w.heap.size + 1 + 1, 0, none⟩ (.bool true)).putObj D (.deferred none)) := (hB.setCell (p := ⟨w.heap.size + 1 + 1, 0, none⟩) (by simp; omega) _).trans (belowK_b (w := A4) (by omega) _ D _ (.deferred none) hD hK' rfl rfl)
    have HFIN : Hid (∃ z, w.heap.size ≤ z ∧ RunR (Told1 BT z) c0 BL (vls es) w (.returned (.bool true)) ((W.setCell ⟨w.heap.size + 1 + 1, 0, none⟩ (.bool true)).putObj D (.deferred none))) :=
      ⟨A4.heap.size, by omega, hB2, .inl ⟨c, hs, by rw [← hys]; exact hrun, rfl, hX2, hT2⟩⟩
    have c2 := q2.cell
    have f2 := q2.frozen
    have HKD := Lib.hid hK'
    clear hrun hX hT q0 q1 q2 hB hKd hS1 hr hg p2 hX2 hT1 hT2 hB2 hys hK'
    gi_wp2
    refine ⟨by simp, .inl ⟨_, _, rfl, run_takeDeferred HKD.out, ?_⟩⟩
    have p0 := HP.out
    refine ⟨.bool true, ?_, HFIN.out⟩
    simp [results, Try.f61, go_sem, p0]
  case stop =>
    rintro D cc pre W hD hSp ⟨⟨rfl, hno⟩, q2, hB⟩ hKd
    have hr : ∀ r, some D = some r → A4.heap.size ≤ r ∧ ∃ o : Obj, W.heap[r]? = some o ∧ o.isCells = false := fun r e => by cases e; exact ⟨hD, _, hKd, rfl⟩
    have hg := grownBy_putObj' W D (.deferred none)
    have p2 : Boxed (W.putObj D (.deferred none)) (w.heap.size + 1 + 1) 4 (.bool false) := cells_turn q2 rfl hg hr
    have HP := Lib.hid p2.cell
    have hB2 : Below BL w (W.putObj D (.deferred none)) := hB.trans (belowK_b (w := A4) (by omega) _ D _ (.deferred none) hD hKd rfl rfl)
    have HFIN : Hid (∃ z, w.heap.size ≤ z ∧ RunR (Told1 BT z) c0 BL (vls es) w (.returned (.bool false)) (W.putObj D (.deferred none))) :=
      ⟨A4.heap.size, by omega, hB2, .inr ⟨runV_pre hSp hno, rfl⟩⟩
    have HKD := Lib.hid hKd
    clear hno q2 hB hKd hr hg p2 hB2 hSp
    gi_wp2
    refine ⟨by simp, .inl ⟨_, _, rfl, run_takeDeferred HKD.out, ?_⟩⟩
    have p0 := HP.out
    refine ⟨.bool false, ?_, HFIN.out⟩
    simp [results, Try.f61, go_sem, p0]

set_option maxRecDepth 100000 in
set_option maxHeartbeats 8000000 in
theorem run2_in (c0 : Ca) (BL BT : Nat) (es : List Ev) (ea : Option Addr) (en ec : Nat) (w : World) (hX : BoxLn w BL c0) (hT : Boxed w BT 80 (.int .i64 0)) (hlt : BL < BT) (hBT : BT < w.heap.size) (hE : EvAt w (fun b => b < BL) es ea) (hen : es.length = en) (hem : en ≤ 1048576) :
    CallsIn Fence.wide 5 Try.prog 61 #[.pointer (some ⟨BL, 0, none⟩), .slice ea en ec, .func (.func 64) #[.pointer (some ⟨BT, 0, none⟩)] #[]] w (fun e w' => ∃ z, w.heap.size ≤ z ∧ RunR (Told2 BT) c0 BL (vls es) w e w') := by
  obtain ⟨A4, hA4⟩ : ∃ A4, (((w.alloc (.cells #[.pointer (some ⟨BL, 0, none⟩)] 92)).alloc (.cells #[.func (.func 64) #[.pointer (some ⟨BT, 0, none⟩)] #[]] 77)).alloc (.cells #[.bool false] 4)).alloc (.cells #[.slice ea en ec] 33) = A4 := ⟨_, rfl⟩
  have z4 : A4.heap.size = w.heap.size + 4 := by rw [← hA4]; simp
  have b4 : Below w.heap.size w A4 := by
    rw [← hA4]
    exact ((((Below.refl _ w).alloc (Nat.le_refl _) _).alloc (by simp) _).alloc (by simp; omega) _).alloc (by simp; omega) _
  have q0 : Boxed A4 w.heap.size 92 (.pointer (some ⟨BL, 0, none⟩)) := by
    rw [← hA4]
    exact (((Boxed.new w 92 (.pointer (some ⟨BL, 0, none⟩))).alloc _).alloc _).alloc _
  have q1 : Boxed A4 (w.heap.size + 1) 77 (.func (.func 64) #[.pointer (some ⟨BT, 0, none⟩)] #[]) := by
    rw [← hA4]
    have h := Boxed.new (w.alloc (.cells #[.pointer (some ⟨BL, 0, none⟩)] 92)) 77 (.func (.func 64) #[.pointer (some ⟨BT, 0, none⟩)] #[])
    rw [World.size_alloc] at h
    exact (h.alloc _).alloc _
  have q2 : Boxed A4 (w.heap.size + 1 + 1) 4 (.bool false) := by
    rw [← hA4]
    have h := Boxed.new ((w.alloc (.cells #[.pointer (some ⟨BL, 0, none⟩)] 92)).alloc (.cells #[.func (.func 64) #[.pointer (some ⟨BT, 0, none⟩)] #[]] 77)) 4 (.bool false)
    rw [World.size_alloc, World.size_alloc] at h
    exact h.alloc _
  have q3 : A4.heap[w.heap.size + 1 + 1 + 1]? = some (.cells #[.slice ea en ec] 33 (0, 0)) := by
    rw [← hA4]
    have h := heap_alloc_new (((w.alloc (.cells #[.pointer (some ⟨BL, 0, none⟩)] 92)).alloc (.cells #[.func (.func 64) #[.pointer (some ⟨BT, 0, none⟩)] #[]] 77)).alloc (.cells #[.bool false] 4)) (.cells #[.slice ea en ec] 33)
    rw [World.size_alloc, World.size_alloc, World.size_alloc] at h
    exact h
  have hE4 : EvAt A4 (fun b => b < BL) es ea := fun i x hx => by
    obtain ⟨b, o, ha, hbl, h1, h2⟩ := hE i x hx
    exact ⟨b, o, ha, hbl, (b4.cell (p := ⟨b, o + i * 2, none⟩) (show b < w.heap.size by omega)).trans h1, (b4.cell (p := ⟨b, o + i * 2 + 1, none⟩) (show b < w.heap.size by omega)).trans h2⟩
  have hX4 : BoxLn A4 BL c0 := hX.below b4
  have HST := Lib.hid (acc_stops 4 (by omega) (w.heap.size + 1 + 1 + 1) BL es ea en ec A4 hen hem (by omega) (by omega) q3 hE4)
  have HT0 : Hid (Told2 BT [] A4) := (b4.block BT hBT).trans hT
  have HB4 : Hid (Below BL w A4) := b4.mono (by omega)
  have HX4 := Lib.hid hX4
  have HQ0 := Lib.hid q0
  have HQ1 := Lib.hid q1
  have HQ2 := Lib.hid q2
  have HA4 := Lib.hid hA4
  have hge : w.heap.size + 4 ≤ A4.heap.size := by omega
  have hle : A4.heap.size ≤ w.heap.size + 4 := by omega
  have hmx := mixedCa
  clear hX hT hE hen hA4 z4 b4 q0 q1 q2 q3 hE4 hX4
  refine callsIn_of_wp_marks Try.func61 rfl trivial ?_ rfl
  simp only [Try.ntmps61, List.size_toArray, List.length_cons, List.length_nil, Nat.reduceAdd, Nat.reduceSub, Array.replicate_succ, Array.replicate_zero, List.push_toArray, List.append_toArray, List.nil_append, List.cons_append]
  gi_wp2_with (refine ⟨trivial, ?_⟩; gi_at_call 78; refine (accesses_in _ _ _ _ _).mono ?_; rintro e w2 ⟨rfl, rfl⟩)
  rw [HA4.out]
  refine wpIn_rangeFunc_ownG rfl (by omega) (gf := 79) (lb := #[.pointer (some ⟨w.heap.size + 1 + 1 + 1, 0, none⟩)]) rfl trivial (enters_of Try.func79 (by kernel_rfl) rfl)
    HST.out belowK_t (belowK_b (by omega)) (Below.refl _ _) (fun _ => rfl)
    (fun pre W => (∃ c hs, runV (some (c0, [])) pre = some (c, hs) ∧ BoxLn W BL c ∧ Told2 BT hs W) ∧ (Boxed W w.heap.size 92 (.pointer (some ⟨BL, 0, none⟩)) ∧ Boxed W (w.heap.size + 1) 77 (.func (.func 64) #[.pointer (some ⟨BT, 0, none⟩)] #[]) ∧ Boxed W (w.heap.size + 1 + 1) 4 (.bool false)) ∧ Below BL w W ∧ A4.heap.size ≤ W.heap.size)
    (fun cc pre W => (cc = .ret ∧ runV (some (c0, [])) pre = none) ∧ Boxed W (w.heap.size + 1 + 1) 4 (.bool false) ∧ Below BL w W)
    (fun pre A B row hs hg hr => by
      obtain ⟨⟨c, hs', h1, h2, h3⟩, ⟨k0, k1, k2⟩, hb, hz⟩ := hs
      exact ⟨⟨c, hs', h1, cells_turn h2 rfl hg hr, h3.stand (stand_turn BL hg hr) (by omega)⟩, ⟨cells_turn k0 rfl hg hr, cells_turn k1 rfl hg hr, cells_turn k2 rfl hg hr⟩, (ownFrom_below (β := List Int) (show BL ≤ w.heap.size by omega) (show BL ≤ A4.heap.size by omega)) pre A B row hb hg hr, Nat.le_trans hz hg.size⟩)
    (fun cc pre A B row hs hg hr => by
      obtain ⟨h1, k2, hb⟩ := hs
      exact ⟨h1, cells_turn k2 rfl hg hr, (ownFrom_below (β := List Int) (show BL ≤ w.heap.size by omega) (show BL ≤ A4.heap.size by omega)) pre A B row hb hg hr⟩)
    ⟨⟨c0, [], rfl, HX4.out, HT0.out⟩, ⟨HQ0.out, HQ1.out, HQ2.out⟩, HB4.out, Nat.le_refl _⟩
    (fun x => { tmps := #[.pointer (some ⟨BL, 0, none⟩), .slice ea en ec, .func (.func 64) #[.pointer (some ⟨BT, 0, none⟩)] #[], .pointer (some ⟨w.heap.size, 0, none⟩), undef, .pointer (some ⟨w.heap.size + 1, 0, none⟩), .pointer (some ⟨w.heap.size + 1 + 1, 0, none⟩), .int .i64 x, .slice ea en ec, .func (.func 79) #[] #[.pointer (some ⟨w.heap.size + 1 + 1 + 1, 0, none⟩)], .int .i64 x, undef, undef, undef, undef, undef, undef, undef, undef], defers := [] }) ?assign ?body ?done ?stop
  case assign =>
    intro l x W K hK
    gi_wp2
    exact hK
  case body =>
    rintro l pre x W ⟨⟨c, hs, hrun, hX, hT⟩, ⟨q0, q1, q2⟩, hB, hz⟩ hpre
    have HRUN := Lib.hid hrun
    have HX := Lib.hid hX
    have HT := Lib.hid hT
    have HB := Lib.hid hB
    have HQ0 := Lib.hid q0
    have HQ1 := Lib.hid q1
    have HQ2 := Lib.hid q2
    have hlen : hs.length ≤ en := by have := runV_len _ _ _ _ _ hrun; simp at this; omega
    clear hrun hX hT hB
    cases hav : adr x with
    | false =>
      have HAV := Lib.hid hav
      have HNO : Hid (runV (some (c0, [])) (pre ++ [x]) = none) := by
        show runV _ _ = _
        rw [runV_snoc, HRUN.out, stV_no hav]
      have c2 := q2.cell
      have f2 := q2.frozen
      clear q0 q1 q2 hav
      gi_wp2_with (refine ⟨trivial, ?_⟩; gi_at_call 53; refine (CallsIn.inRound l (callsIn_wide.2 (isAdr_one x _))).mono ?_; rintro e w2 ⟨rfl, hw2⟩; obtain rfl : W = w2 := hw2.symm; rw [HAV.out])
      exact ⟨(KeepsOthers.setCell _ _ _).from _, ⟨rfl, HNO.out⟩, HQ2.out.set _, HB.out.setCell (p := ⟨w.heap.size + 1 + 1, 0, none⟩) (by simp; omega) _⟩
    | true =>
      obtain ⟨a, rfl, ha⟩ := adr_nat hav
      have HAV := Lib.hid hav
      have HRUN2 : Hid (runV (some (c0, [])) (pre ++ [(a : Int)]) = some (c.acc a, hs ++ [c.hit a])) := by
        show runV _ _ = _
        rw [runV_snoc, HRUN.out, stV_yes ha]
      obtain ⟨u, hu⟩ : ∃ u, accW W.drew BL a = u := ⟨_, rfl⟩
      have hsu : StandC BL W u := by rw [← hu]; exact ⟨(StandC.acc W.drew BL a).1, fun j o h hc hne => (StandC.acc W.drew BL a).2 j o h hc hne⟩
      have HTU : Hid (Told2 BT hs u) := HT.out.stand hsu (by omega)
      have HXU : Hid (BoxLn u BL (c.acc a)) := by rw [← hu]; exact (show BoxLn W.drew BL c from HX.out).acc a
      have HXD : Hid (BoxLn W.drew BL c) := HX.out
      have hzu : W.heap.size ≤ u.heap.size := hsu.1
      have u0 : Boxed u w.heap.size _ _ := hsu.2 _ _ q0 rfl (by omega)
      have u1 : Boxed u (w.heap.size + 1) _ _ := hsu.2 _ _ q1 rfl (by omega)
      have u2 : Boxed u (w.heap.size + 1 + 1) _ _ := hsu.2 _ _ q2 rfl (by omega)
      have HU0 := Lib.hid u0
      have HU1 := Lib.hid u1
      have HU2 := Lib.hid u2
      have HBU : Hid (Below BL W u) := by rw [← hu]; exact accW_below (Below.refl BL W).drew BL a (Nat.le_refl _)
      have HKU : Hid (KeepsOthers W u) := by rw [← hu]; exact (KeepsOthers.drew W).trans (KeepsOthers.setCell _ _ _)
      have HU := Lib.hid hu
      have x0 := q0.cell
      have x1 := q1.cell
      have y0 : W.drew.cell? ⟨w.heap.size, 0, none⟩ = _ := q0.cell
      have y1 : W.drew.cell? ⟨w.heap.size + 1, 0, none⟩ = _ := q1.cell
      have z0 := u0.cell
      have z1 := u1.cell
      clear q0 q1 q2 u0 u1 u2 hsu hu hav
      gi_wp2_with (refine ⟨trivial, ?_⟩; gi_at_call 53; refine (CallsIn.inRound l (callsIn_wide.2 (isAdr_one _ _))).mono ?_; rintro e w2 ⟨rfl, hw2⟩; obtain rfl : W = w2 := hw2.symm; rw [HAV.out])
      gi_region_with_o (refine ⟨trivial, ?_⟩; first
        | (gi_at_call 54; (refine (CallsIn.inRound l (callsIn_wide.2 (iAcc_one c a BL W.drew HXD.out ha))).mono ?_); rintro e v1 ⟨rfl, hv1⟩; obtain rfl : u = v1 := (by rw [hv1]; exact HU.out.symm); clear hv1)
        | (gi_at_call 64; (refine (CallsIn.inRound l (callsIn_wide.2 (tell2_one BT A4.heap.size hs (c.hit a) u HTU.out (by omega)))).mono ?_); rintro e v2 ⟨⟨vv, rfl⟩, hT2, hB2, hK2, hO2⟩))
      all_goals
        have k0 : Boxed v2 w.heap.size _ _ := (hO2 _ HU0.out.lt (by omega) (by omega)).trans HU0.out
        have k1 : Boxed v2 (w.heap.size + 1) _ _ := (hO2 _ HU1.out.lt (by omega) (by omega)).trans HU1.out
        have k2 : Boxed v2 (w.heap.size + 1 + 1) _ _ := (hO2 _ HU2.out.lt (by omega) (by omega)).trans HU2.out
        have kx : BoxLn v2 BL (c.acc a) := HXU.out.later (hB2.block BL hlt)
        have hbz := hB2.size
        exact ⟨(HKU.out.trans hK2).from _, HBU.out.trans (hB2.mono (by omega)), ⟨c.acc a, hs ++ [c.hit a], HRUN2.out, kx, hT2⟩, ⟨k0, k1, k2⟩, HB.out.trans (HBU.out.trans (hB2.mono (by omega))), by omega⟩
  case done =>
    rintro D ys W hD hys ⟨⟨c, hs, hrun, hX, hT⟩, ⟨q0, q1, q2⟩, hB, hz⟩ hKd
    have hS1 : StandC (w.heap.size + 1 + 1) W (W.setCell ⟨w.heap.size + 1 + 1, 0, none⟩ (.bool true)) := ⟨by simp [World.setCell], fun j o h _ hne => by rw [Below.heap_setCell _ _ _ _ (by simpa using hne)]; exact h⟩
    have hK' := (KeepsOthers.setCell W ⟨w.heap.size + 1 + 1, 0, none⟩ (.bool true)).same D _ hKd rfl
    have hr : ∀ r, some D = some r → A4.heap.size ≤ r ∧ ∃ o : Obj, (W.setCell ⟨w.heap.size + 1 + 1, 0, none⟩ (.bool true)).heap[r]? = some o ∧ o.isCells = false := fun r e => by cases e; exact ⟨hD, _, hK', rfl⟩
    have hg := grownBy_putObj' (W.setCell ⟨w.heap.size + 1 + 1, 0, none⟩ (.bool true)) D (.deferred none)
    have p2 : Boxed ((W.setCell ⟨w.heap.size + 1 + 1, 0, none⟩ (.bool true)).putObj D (.deferred none)) (w.heap.size + 1 + 1) 4 (.bool true) := cells_turn (q2.set (.bool true)) rfl hg hr
    have HP := Lib.hid p2.cell
    have hX2 : BoxLn ((W.setCell ⟨w.heap.size + 1 + 1, 0, none⟩ (.bool true)).putObj D (.deferred none)) BL c := cells_turn (hS1.2 BL _ hX rfl (by omega)) rfl hg hr
    have hT1 : Told2 BT hs (W.setCell ⟨w.heap.size + 1 + 1, 0, none⟩ (.bool true)) := hT.stand hS1 (by omega)
    have hT2 : Told2 BT hs ((W.setCell ⟨w.heap.size + 1 + 1, 0, none⟩ (.bool true)).putObj D (.deferred none)) := hT1.stand (stand_turn BL hg hr) (by omega)
    have hB2 : Below BL w ((W.setCell ⟨w.heap.size + 1 + 1, 0, none⟩ (.bool true)).putObj D (.deferred none)) := (hB.setCell (p := ⟨w.heap.size + 1 + 1, 0, none⟩) (by simp; omega) _).trans (belowK_b (w := A4) (by omega) _ D _ (.deferred none) hD hK' rfl rfl)
    have HFIN : Hid (∃ z, w.heap.size ≤ z ∧ RunR (Told2 BT) c0 BL (vls es) w (.returned (.bool true)) ((W.setCell ⟨w.heap.size + 1 + 1, 0, none⟩ (.bool true)).putObj D (.deferred none))) :=
      ⟨A4.heap.size, by omega, hB2, .inl ⟨c, hs, by rw [← hys]; exact hrun, rfl, hX2, hT2⟩⟩
    have c2 := q2.cell
    have f2 := q2.frozen
    have HKD := Lib.hid hK'
    clear hrun hX hT q0 q1 q2 hB hKd hS1 hr hg p2 hX2 hT1 hT2 hB2 hys hK'
    gi_wp2
    refine ⟨by simp, .inl ⟨_, _, rfl, run_takeDeferred HKD.out, ?_⟩⟩
    have p0 := HP.out
    refine ⟨.bool true, ?_, HFIN.out⟩
    simp [results, Try.f61, go_sem, p0]
  case stop =>
    rintro D cc pre W hD hSp ⟨⟨rfl, hno⟩, q2, hB⟩ hKd
    have hr : ∀ r, some D = some r → A4.heap.size ≤ r ∧ ∃ o : Obj, W.heap[r]? = some o ∧ o.isCells = false := fun r e => by cases e; exact ⟨hD, _, hKd, rfl⟩
    have hg := grownBy_putObj' W D (.deferred none)
    have p2 : Boxed (W.putObj D (.deferred none)) (w.heap.size + 1 + 1) 4 (.bool false) := cells_turn q2 rfl hg hr
    have HP := Lib.hid p2.cell
    have hB2 : Below BL w (W.putObj D (.deferred none)) := hB.trans (belowK_b (w := A4) (by omega) _ D _ (.deferred none) hD hKd rfl rfl)
    have HFIN : Hid (∃ z, w.heap.size ≤ z ∧ RunR (Told2 BT) c0 BL (vls es) w (.returned (.bool false)) (W.putObj D (.deferred none))) :=
      ⟨A4.heap.size, by omega, hB2, .inr ⟨runV_pre hSp hno, rfl⟩⟩
    have HKD := Lib.hid hKd
    clear hno q2 hB hKd hr hg p2 hB2 hSp
    gi_wp2
    refine ⟨by simp, .inl ⟨_, _, rfl, run_takeDeferred HKD.out, ?_⟩⟩
    have p0 := HP.out
    refine ⟨.bool false, ?_, HFIN.out⟩
    simp [results, Try.f61, go_sem, p0]

end Go.Proofs.Yteoaecfjgbkefaa

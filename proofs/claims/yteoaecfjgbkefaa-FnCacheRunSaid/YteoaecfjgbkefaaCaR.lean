/- The model's CacheRun. -/
import Derived.Test.YteoaecfjgbkefaaCaK
import Derived.Test.YteoaecfjgbkefaaCaB
import Derived.Test.YteoaecfjgbkefaaRd
import Derived.Deep.RegionLaw
import Derived.Deep.RegionWith
namespace Go.Proofs.Yteoaecfjgbkefaa
open Go.RowKit
set_option linter.unusedVariables false

/-- What a run of a trace answers. -/
def crP (xs : List Int) (es : List Ev) : List Int × List Bool × Bool := match xs with
  | [p, q] => if okCa ⟨p, q⟩ then (match runC ⟨p, q⟩ es with | some (d, hs) => (d.l, hs, true) | none => ([], [], false)) else ([], [], false)
  | _ => ([], [], false)
theorem crP_yes {c d : Ca} {es : List Ev} {hs : List Bool} (h : okCa c = true) (hr : runC c es = some (d, hs)) : crP c.l es = (d.l, hs, true) := by
  show (if okCa c = true then (match runC c es with | some (d, hs) => (d.l, hs, true) | none => ([], [], false)) else ([], [], false)) = _
  rw [if_pos h, hr]
theorem crP_none {c : Ca} {es : List Ev} (hr : runC c es = none) : crP c.l es = ([], [], false) := by
  show (if okCa c = true then (match runC c es with | some (d, hs) => (d.l, hs, true) | none => ([], [], false)) else ([], [], false)) = _
  rw [hr]
  split <;> rfl
theorem crP_bad {xs : List Int} {es : List Ev} (h : okL xs = false) : crP xs es = ([], [], false) := by
  match xs, h with
  | [p, q], h =>
    show (if okCa ⟨p, q⟩ = true then _ else _) = _
    rw [if_neg (by rw [show okCa ⟨p, q⟩ = false from h]; decide)]
  | [], _ => rfl
  | [_], _ => rfl
  | _ :: _ :: _ :: _, _ => rfl

/-- CacheRun's answer, its parts by names. -/
def CrQ (L : List Int) (H : List Bool) (q : Bool) (w : World) (e : Ending) (w' : World) : Prop := ∃ a n c b m d, e = .returned (.tuple #[aggCa a n c, .slice b m d, .bool q]) ∧ L.length = n ∧ H.length = m ∧ OwnI w' w.heap.size (.slice a n c) L ∧ OwnB w' w.heap.size (.slice b m d) H ∧ Below w.heap.size w w'

/-- l10Touches. -/
theorem touch_one (x : Ev) (w : World) :
    Calls Try.prog 63 #[.agg #[.int .i64 x.kind, .int .i64 x.value]] w fun e w' => e = .returned (.bool (tch x)) ∧ w' = w.alloc (.cells #[.int .i64 x.kind, .int .i64 x.value] 43) := by
  obtain ⟨kd, vl⟩ := x
  dsimp only
  by_cases h2 : kd = 2
  · subst h2
    have HT : Hid (tch ⟨2, vl⟩ = true) := rfl
    go_enter Try.func63, Try.ntmps63
    go_wp2
    go_ret
    exact ⟨by rw [HT.out]; rfl, rfl⟩
  · by_cases h3 : kd = 3
    · subst h3
      have HT : Hid (tch ⟨3, vl⟩ = true) := rfl
      clear h2
      go_enter Try.func63, Try.ntmps63
      go_wp2
      go_ret
      exact ⟨by rw [HT.out]; rfl, rfl⟩
    · have HT : Hid (tch ⟨kd, vl⟩ = false) := decide_eq_false (by intro h; rcases h with h | h; exact h2 h; exact h3 h)
      have e2 : (kd == 2) = false := by simpa using h2
      have e3 : (kd == 3) = false := by simpa using h3
      go_enter Try.func63, Try.ntmps63
      go_wp2
      go_ret
      exact ⟨by rw [HT.out]; rfl, rfl⟩

/-- A row of ints and a row of bools lie apart. -/
theorem apartIB {w : World} {b1 b2 : Nat} {v u : Value} {xs : List Int} {bs : List Bool} (h : OwnI w b1 v xs) (k : OwnB w b2 u bs) (g : Nat) (hv : v.ownBlock = some g) : u.ownBlock ≠ some g := by
  intro hu
  rcases h.2 with ⟨e, _⟩ | ⟨g1, c1, cur1, e1, _, h1, _⟩
  · rw [e] at hv; cases hv
  · rcases k.2 with ⟨e, _⟩ | ⟨g2, c2, cur2, e2, _, h2, _⟩
    · rw [e] at hu; cases hu
    · rw [e1] at hv
      rw [e2] at hu
      have q1 := ownS_eq hv
      have q2 := ownS_eq hu
      subst q1
      subst q2
      rw [h1] at h2
      cases h2

/-- The state of a run's loop. -/
def CrL (w : World) (B7 z g c4 n : Nat) (c0 : Ca) (es : List Ev) (o i : Value) (wr : World) : Prop := ∃ (k m cp : Nat) (a : Option Addr) (c : Ca) (hs : List Bool), k ≤ n ∧ m ≤ k ∧ i = .int .i64 (k : Int) ∧ o = .slice a m cp ∧ runC c0 (es.take k) = some (c, hs) ∧ hs.length = m ∧ OwnI wr w.heap.size (.slice (some ⟨g, 0, none⟩) 2 c4) c.l ∧ OwnB wr z (.slice a m cp) hs ∧ BoxCa wr (w.heap.size + 1) none 0 0 ∧ BoxCa wr B7 (some ⟨g, 0, none⟩) 2 c4 ∧ Below w.heap.size w wr ∧ z ≤ wr.heap.size

theorem runC_skip {c0 c : Ca} {es : List Ev} {k : Nat} {x : Ev} {hs : List Bool} (h : runC c0 (es.take k) = some (c, hs)) (hx : es[k]? = some x) (ht : tch x = false) : runC c0 (es.take (k + 1)) = some (c, hs) := by
  unfold runC at h ⊢
  rw [vls_no hx ht]; exact h
theorem runC_step {c0 c : Ca} {es : List Ev} {k a : Nat} {x : Ev} {hs : List Bool} (h : runC c0 (es.take k) = some (c, hs)) (hx : es[k]? = some x) (ht : tch x = true) (hv : x.value = (a : Int)) (ha : a < 8) : runC c0 (es.take (k + 1)) = some (c.acc a, hs ++ [c.hit a]) := by
  unfold runC at h ⊢
  rw [vls_yes hx ht, runV_snoc, h, hv, stV_yes ha]
theorem runC_stop {c0 c : Ca} {es : List Ev} {k : Nat} {x : Ev} {hs : List Bool} (h : runC c0 (es.take k) = some (c, hs)) (hx : es[k]? = some x) (ht : tch x = true) (hv : adr x.value = false) : runC c0 es = none := by
  have h1 : runV (some (c0, [])) (vls (es.take (k + 1))) = none := by
    rw [vls_yes hx ht, runV_snoc, show runV (some (c0, [])) (vls (es.take k)) = some (c, hs) from h, stV_no hv]
  exact runV_pre (vls_take_pre es (k + 1)) h1

set_option maxRecDepth 100000 in
set_option maxHeartbeats 8000000 in
/-- **spec.CacheRun.** -/
theorem sCR_one (xs : List Int) (es : List Ev) (a : Option Addr) (n cp : Nat) (ea : Option Addr) (en ec : Nat) (w : World) (h : SliceI w a n xs) (he : EvL w es ea ec) (hen : es.length = en) (hem : en ≤ 1048576) :
    Calls Try.prog 25 #[aggCa a n cp, .slice ea en ec] w (CrQ (crP xs es).1 (crP xs es).2.1 (crP xs es).2.2 w) := by
  obtain ⟨k0, kinf, kj0, kj1, kj2⟩ := info_parts Try.infoB
  obtain ⟨W2, hW2⟩ : ∃ W, (w.alloc (.cells #[.slice a n cp] 25)).alloc (.cells #[.slice none 0 0] 25) = W := ⟨_, rfl⟩
  have hz2 : w.heap.size + 2 ≤ W2.heap.size := by rw [← hW2]; simp
  have hB2 : Below w.heap.size w W2 := by rw [← hW2]; exact ((Below.refl _ w).alloc (Nat.le_refl _) _).alloc (by simp) _
  have hR : BoxCa W2 (w.heap.size + 1) none 0 0 := by
    rw [← hW2]
    have := BoxCa.new (w.alloc (.cells #[.slice a n cp] 25)) none 0 0 25
    simpa using this
  have hA : BoxCa W2 w.heap.size a n cp := by
    rw [← hW2]
    exact (BoxCa.new w a n cp 25).below ((Below.refl _ _).alloc (Nat.le_refl _) _)
  have HS := Lib.hid (h.below hB2)
  have HE : Hid (∀ v, Below w.heap.size w v → EvL v es ea ec) := fun v hv => he.below hv
  have HN := Lib.hid hen
  have HW := Lib.hid hW2
  have HR := Lib.hid hR
  have HA := Lib.hid hA
  have HB := Lib.hid hB2
  have x0 := hA.c0
  clear hW2 hR hA hB2 h he hen
  have hs1 : (#[Value.slice none 0 0] : Array Value).size = 1 := rfl
  go_enter Try.func25, Try.ntmps25
  go_wp2_with fail
  rw [HW.out]
  refine (sCv_one a n cp xs W2 HS.out).mono ?_
  rintro e w3 ⟨rfl, hb3⟩
  have hR3 := HR.out.below hb3
  have m0 := hR3.c0
  have n0 := hR3.f0
  have x0 := (HA.out.below hb3).c0
  have HR3 := Lib.hid hR3
  have HS3 := Lib.hid (HS.out.below hb3)
  have HB3 : Hid (Below w.heap.size w w3) := HB.out.trans (hb3.mono (by omega))
  have hz3 : w.heap.size + 2 ≤ w3.heap.size := by have := hb3.size; omega
  clear hR3 hb3
  cases hq : okL xs with
  | false =>
    have HBAD := Lib.hid (crP_bad (es := es) hq)
    have k5 : Below w3.heap.size w3 (w3.alloc (.cells #[] 4)) := (Below.refl _ _).alloc (Nat.le_refl _) _
    have hR5 := HR3.out.below k5
    have m5 := hR5.c0
    have n5 := hR5.f0
    have hO : OwnB (w3.alloc (.cells #[] 4)) w3.heap.size (.slice (some ⟨w3.heap.size, 0, none⟩) 0 0) [] := World.ownsRow_made w3 #[] 0 (Nat.le_refl _) (by unfold maxLen; omega) rfl
    have R0 : Hid (((w3.alloc (.cells #[] 4)).setCell ⟨w.heap.size + 1, 0, none⟩ (.slice none 0 0)).cell? ⟨w.heap.size + 1, 0, none⟩ = some (.slice none 0 0)) := World.cell?_setCell_same' _ _ _ (by rw [m5]; rfl)
    have HFIN : Hid (CrQ (crP xs es).1 (crP xs es).2.1 (crP xs es).2.2 w (.returned (.tuple #[aggCa none 0 0, .slice (some ⟨w3.heap.size, 0, none⟩) 0 0, .bool false])) ((w3.alloc (.cells #[] 4)).setCell ⟨w.heap.size + 1, 0, none⟩ (.slice none 0 0))) := by
      rw [HBAD.out]
      exact ⟨none, 0, 0, _, 0, 0, rfl, rfl, rfl, OwnI.nil' _ _, (hO.mono (by omega)).far (fun g hg _ => Below.heap_setCell _ _ _ _ (by have := ownS_eq hg; simp; omega)), (HB3.out.alloc (by omega) _).setCell (p := ⟨w.heap.size + 1, 0, none⟩) (by simp) _⟩
    clear hq hO hR5 k5
    go_wp2_with fail
    have r0 := R0.out
    exact bodyPost_ret (v := .tuple #[aggCa none 0 0, .slice (some ⟨w3.heap.size, 0, none⟩) 0 0, .bool false]) (by simp [results, Try.f25, go_sem, r0]) rfl HFIN.out
  | true =>
    obtain ⟨c0, rfl, hok⟩ := okL_two hq
    have HOK := Lib.hid hok
    have hn : n = 2 := HS3.out.2.1.symm
    subst hn
    clear hq hok m0 n0
    go_wp2_with fail
    refine (sCopy_one c0.l a 2 cp w3 HS3.out (by omega)).mono ?_
    rintro e w4 ⟨a4, n4, c4, rfl, hn4, hown, hb4⟩
    obtain rfl : 2 = n4 := hn4
    obtain ⟨g, rfl, hg1, hg2⟩ := hown.ptr (by omega)
    have hz4 := hb4.size
    obtain ⟨w5, hw5⟩ : ∃ w5, w4.alloc (.cells #[.slice (some ⟨g, 0, none⟩) 2 c4] 25) = w5 := ⟨_, rfl⟩
    have h45 : Below w4.heap.size w4 w5 := by rw [← hw5]; exact (Below.refl _ _).alloc (Nat.le_refl _) _
    have hx5 : BoxCa w5 w4.heap.size (some ⟨g, 0, none⟩) 2 c4 := by rw [← hw5]; exact BoxCa.new _ _ _ _ _
    have hz5 : w5.heap.size = w4.heap.size + 1 := by rw [← hw5]; simp
    have h56 : Below w5.heap.size w5 (w5.alloc (.cells #[] 4)) := (Below.refl _ _).alloc (Nat.le_refl _) _
    have hO6 : OwnB (w5.alloc (.cells #[] 4)) w5.heap.size (.slice (some ⟨w5.heap.size, 0, none⟩) 0 0) [] := World.ownsRow_made w5 #[] 0 (Nat.le_refl _) (by unfold maxLen; omega) rfl
    have h36 : Below w3.heap.size w3 (w5.alloc (.cells #[] 4)) := (hb4.trans (h45.mono hz4)).trans (h56.mono (by omega))
    have HL0 : Hid (CrL w w4.heap.size w5.heap.size g c4 en c0 es (.slice (some ⟨w5.heap.size, 0, none⟩) 0 0) (.int .i64 0) (w5.alloc (.cells #[] 4))) :=
      ⟨0, 0, 0, _, c0, [], Nat.zero_le _, Nat.le_refl _, rfl, rfl, rfl, rfl, ((hown.later h45).later h56).mono (by omega), hO6, HR3.out.below h36, hx5.below h56, HB3.out.trans (h36.mono (by omega)), by simp⟩
    have hz56 : w4.heap.size < w5.heap.size := by omega
    have HW5 := Lib.hid hw5
    have hw5s : w4.heap.size + 1 ≤ w5.heap.size := by omega
    have hw5t : w5.heap.size ≤ w4.heap.size + 1 := by omega
    have HZ5 := Lib.hid hz5
    clear hown hb4 h45 hx5 h56 hO6 h36 hw5 hz5
    go_wp2_with fail
    rw [HW5.out]
    obtain ⟨z, hz⟩ : ∃ z, w5.heap.size = z := ⟨_, rfl⟩
    obtain ⟨B7, hB7⟩ : ∃ B, w4.heap.size = B := ⟨_, rfl⟩
    have hB7z : B7 < z := by omega
    have hwB7 : w.heap.size + 2 ≤ B7 := by omega
    have hgB7 : g < B7 := by omega
    have hwg : w.heap.size + 2 ≤ g := by omega
    have HLX : Hid (CrL w B7 z g c4 en c0 es (.slice (some ⟨B7 + 1, 0, none⟩) 0 0) (.int .i64 0) (w5.alloc (.cells #[] 4))) := by
      have h := HL0.out
      rw [hz, hB7] at h
      have e : z = B7 + 1 := by omega
      rw [e] at h ⊢
      exact h
    rw [hB7]
    clear hz hB7 HL0 hw5s hw5t HZ5 hz56 HW5 HS3 HA HB3 HR3 HS HW HR HB x0 hz4 hg1 hg2
    go_loopw [8, 9] (fun o i wr => CrL w B7 z g c4 en c0 es o i wr) (fun _ i _ => en - (intOf i).toNat)
    case atStart => exact HLX.out
    case round =>
      obtain ⟨k, m, cp1, a1, c, hs, hk, hmk, rfl, rfl, hrun, hlen, hown, hrow, hR1, hX7, hbel, hzr⟩ := hrel
      have HRUN := Lib.hid hrun
      have HLEN := Lib.hid hlen
      have HOWN := Lib.hid hown
      have HROW := Lib.hid hrow
      have HR1 := Lib.hid hR1
      have HX7 := Lib.hid hX7
      have HBEL := Lib.hid hbel
      have hszr := hbel.size
      clear hrun hlen hown hrow hR1 hX7 hbel HLX
      by_cases hlt : k < en
      · obtain ⟨x, hx⟩ : ∃ x, es[k]? = some x := ⟨es[k]'(by rw [HN.out]; exact hlt), List.getElem?_eq_getElem _⟩
        obtain ⟨b, o, rfl, hbl, e0, e1⟩ := (HE.out wr HBEL.out).2.2 k x hx
        have HX := Lib.hid hx
        obtain ⟨kd, vl⟩ := x
        dsimp only at e0 e1
        obtain ⟨v1, hv1⟩ : ∃ v1, wr.alloc (.cells #[.int .i64 kd, .int .i64 vl] 43) = v1 := ⟨_, rfl⟩
        have kv : Below wr.heap.size wr v1 := by rw [← hv1]; exact (Below.refl _ _).alloc (Nat.le_refl _) _
        have d1 : v1.cell? ⟨b, o + k * 2 + 1, none⟩ = some (.int .i64 vl) := (kv.cell (p := ⟨b, o + k * 2 + 1, none⟩) hbl).trans e1
        have HTOU : Hid (∀ u, Calls Try.prog 63 #[.agg #[.int .i64 kd, .int .i64 vl]] u fun e w' => e = .returned (.bool (tch ⟨kd, vl⟩)) ∧ w' = u.alloc (.cells #[.int .i64 kd, .int .i64 vl] 43)) := fun u => touch_one ⟨kd, vl⟩ u
        have HOV := Lib.hid (HOWN.out.later kv)
        have HROWV := Lib.hid (HROW.out.later kv)
        have HR1V := Lib.hid (HR1.out.below kv)
        have HX7V := Lib.hid (HX7.out.below kv)
        have HBELV : Hid (Below w.heap.size w v1) := HBEL.out.trans (kv.mono hszr)
        have hzv := kv.size
        have HV1 := Lib.hid hv1
        clear hx kv hv1 HOWN HROW HR1 HX7 HBEL
        go_wp2_with fail
        refine (HTOU.out wr).mono ?_
        rintro e u1 ⟨rfl, hu1⟩
        obtain rfl : v1 = u1 := by rw [hu1]; exact HV1.out.symm
        clear hu1 e0 e1 HTOU
        cases ht : tch ⟨kd, vl⟩ with
        | false =>
          have HREL : Hid (CrL w B7 z g c4 en c0 es (.slice a1 m cp1) (.int .i64 ((k : Int) + 1)) v1) := ⟨k + 1, m, cp1, a1, c, hs, hlt, by omega, by go_num, rfl, runC_skip HRUN.out HX.out ht, HLEN.out, HOV.out, HROWV.out, HR1V.out, HX7V.out, HBELV.out, by omega⟩
          clear ht d1
          go_wp2_with fail
          go_roundw
          case rel => exact HREL.out
          case measure => simp [intOf]; omega
        | true =>
          cases hav : adr vl with
          | false =>
            have HNO : Hid (crP c0.l es = ([], [], false)) := crP_none (runC_stop HRUN.out HX.out ht hav)
            have hv2 := adr_no hav
            clear ht hav
            have HEND : Hid (∀ u, v1.heap.size ≤ u.heap.size → (∀ j, u.heap[j]? = v1.heap[j]?) → Below w.heap.size w u → (u.alloc (.cells #[] 4)).cell? ⟨w.heap.size + 1, 0, none⟩ = some (.slice none 0 0) ∧ (u.alloc (.cells #[] 4)).frozen? ⟨w.heap.size + 1, 0, none⟩ = false ∧ ((u.alloc (.cells #[] 4)).setCell ⟨w.heap.size + 1, 0, none⟩ (.slice none 0 0)).cell? ⟨w.heap.size + 1, 0, none⟩ = some (.slice none 0 0) ∧ CrQ (crP c0.l es).1 (crP c0.l es).2.1 (crP c0.l es).2.2 w (.returned (.tuple #[aggCa none 0 0, .slice (some ⟨u.heap.size, 0, none⟩) 0 0, .bool false])) ((u.alloc (.cells #[] 4)).setCell ⟨w.heap.size + 1, 0, none⟩ (.slice none 0 0))) := fun u hzu hu hbu => by
              have hR5 : BoxCa (u.alloc (.cells #[] 4)) (w.heap.size + 1) none 0 0 := (HR1V.out.later (hu _)).below ((Below.refl _ _).alloc (Nat.le_refl _) _)
              have hO : OwnB (u.alloc (.cells #[] 4)) u.heap.size (.slice (some ⟨u.heap.size, 0, none⟩) 0 0) [] := World.ownsRow_made u #[] 0 (Nat.le_refl _) (by unfold maxLen; omega) rfl
              refine ⟨hR5.c0, hR5.f0, World.cell?_setCell_same' _ _ _ (by rw [hR5.c0]; rfl), ?_⟩
              rw [HNO.out]
              exact ⟨none, 0, 0, _, 0, 0, rfl, rfl, rfl, OwnI.nil' _ _, (hO.mono (by omega)).far (fun g hg _ => Below.heap_setCell _ _ _ _ (by have := ownS_eq hg; simp; omega)), (hbu.alloc (by omega) _).setCell (p := ⟨w.heap.size + 1, 0, none⟩) (by simp) _⟩
            rcases hv2 with hv | hv
            · have hd : decide (vl < 0) = true := decide_eq_true hv
              go_wp2_with fail
              go_quiet ((go_at_call 56; exact Calls.quiet_of_same (limit_one _)))
              rename_i nq
              obtain ⟨q1, q2, q3, q4⟩ := HEND.out (v1.drewN nq) (Nat.le_refl _) (fun _ => rfl) (below_drewN' HBELV.out nq)
              have Q3 := Lib.hid q3
              have Q4 := Lib.hid q4
              clear q3 q4 HEND
              go_wp2_with fail
              have r0 := Q3.out
              exact bodyPost_ret (v := .tuple #[aggCa none 0 0, .slice (some ⟨(v1.drewN nq).heap.size, 0, none⟩) 0 0, .bool false]) (by simp [results, Try.f25, go_sem, r0]) rfl Q4.out
            · have hd : decide (vl < 0) = false := decide_eq_false (by omega)
              have hd8 : decide (8 ≤ vl) = true := decide_eq_true hv
              go_wp2_with fail
              go_quiet ((go_at_call 56; exact Calls.quiet_of_same (limit_one _)))
              rename_i nq
              obtain ⟨q1, q2, q3, q4⟩ := HEND.out (v1.drewN nq) (Nat.le_refl _) (fun _ => rfl) (below_drewN' HBELV.out nq)
              have Q3 := Lib.hid q3
              have Q4 := Lib.hid q4
              clear q3 q4 HEND
              go_wp2_with fail
              have r0 := Q3.out
              exact bodyPost_ret (v := .tuple #[aggCa none 0 0, .slice (some ⟨(v1.drewN nq).heap.size, 0, none⟩) 0 0, .bool false]) (by simp [results, Try.f25, go_sem, r0]) rfl Q4.out
          | true =>
            obtain ⟨j, rfl, hj⟩ := adr_nat hav
            have hd : decide ((j : Int) < 0) = false := decide_eq_false (by omega)
            have hd8 : decide (8 ≤ (j : Int)) = false := decide_eq_false (by omega)
            have HRUN2 := Lib.hid (runC_step HRUN.out HX.out ht rfl hj)
            clear ht hav
            go_wp2_with fail
            go_quiet ((go_at_call 56; exact Calls.quiet_of_same (limit_one _)))
            rename_i nq
            obtain ⟨v2, hv2⟩ : ∃ v2, v1.drewN nq = v2 := ⟨_, rfl⟩
            have hst : ∀ q : Nat, v2.heap[q]? = v1.heap[q]? := fun q => by rw [← hv2]; rfl
            have hs2 : v2.heap.size = v1.heap.size := by rw [← hv2]; rfl
            have HOV2 : Hid (OwnI v2 w.heap.size (.slice (some ⟨g, 0, none⟩) 2 c4) c.l) := HOV.out.far fun g _ _ => hst g
            have HROW2 : Hid (OwnB v2 z (.slice a1 m cp1) hs) := HROWV.out.far fun g _ _ => hst g
            have HR12 := Lib.hid (HR1V.out.later (hst _))
            have HX72 := Lib.hid (HX7V.out.later (hst _))
            have HBEL2 : Hid (Below w.heap.size w v2) := by rw [← hv2]; exact below_drewN' HBELV.out nq
            have d2 : v2.cell? ⟨b, o + k * 2 + 1, none⟩ = some (.int .i64 (j : Int)) := by rw [← hv2]; exact d1
            have hz2 : v1.heap.size ≤ v2.heap.size := by omega
            rw [hv2]
            have x7 := HX72.out.c0
            have x7d : v2.drew.cell? ⟨B7, 0, none⟩ = some (.slice (some ⟨g, 0, none⟩) 2 c4) := x7
            have d2d : v2.drew.cell? ⟨b, o + k * 2 + 1, none⟩ = some (.int .i64 (j : Int)) := d2
            have HOD : Hid (OwnI v2.drew w.heap.size (.slice (some ⟨g, 0, none⟩) 2 c4) c.l) := HOV2.out.far fun _ _ _ => rfl
            clear hv2 hst hs2 d1 HOV HROWV HR1V HX7V HBELV HV1
            go_wp2_with fail
            go_region_law (first
              | (go_simp; go_at_call 58; refine (sAcc_one c j w.heap.size g c4 v2.drew HOD.out hj).mono ?_; rintro f u ⟨rfl, hu⟩
                 have hzu : v2.heap.size + 1 ≤ u.heap.size := by rw [hu, accW_size, World.size_alloc]; exact Nat.le_refl _
                 have hou : ∀ q, q < v2.heap.size → q ≠ g → u.heap[q]? = v2.heap[q]? := fun q hq hne => by rw [hu, accW_other _ _ _ _ hne]; exact Below.heap_alloc v2.drew _ q hq
                 have hOu : OwnI u w.heap.size (.slice (some ⟨g, 0, none⟩) 2 c4) (c.acc j).l := by rw [hu]; exact accW_row (HOD.out.later ((Below.refl _ _).alloc (Nat.le_refl _) _)) j
                 have hBu : Below w.heap.size w u := by rw [hu]; exact accW_below ((below_drewN' HBEL2.out 1).alloc (show w.heap.size ≤ v2.heap.size from HBEL2.out.size) _) g j (by omega)
                 have HOu := Lib.hid hOu
                 have HBu := Lib.hid hBu
                 have hRu : OwnB u z (.slice a1 m cp1) hs := HROW2.out.far fun q hq hq' => hou q hq' (by have := (HROW2.out.lt q hq).1; omega)
                 have hL2 : (u.alloc (.cells #[.bool (c.hit j)] 4)).ownsRow z 4 1 (.slice a1 m cp1) m (hs.map Value.bool) := by
                   have h := hRu
                   unfold OwnB at h
                   rw [HLEN.out] at h
                   exact h.alloc _
                 have HR1u := Lib.hid (HR12.out.later (hou _ (by have := HR12.out.lt; omega) (by omega)))
                 have HX7u := Lib.hid (HX72.out.later (hou _ (by have := HX72.out.lt; omega) (by omega)))
                 clear hu hou hOu hBu hRu)
              | (refine step_append_lies _ (by rfl) _ _ _ (by rfl) z 4 k0 _ 1 1 Try.underlying36 kinf kj0 kj1 kj2 rfl (by omega) (.slice a1 m cp1) m _ (by rfl) hL2 ⟨u.heap.size, 0, none⟩ 1 1 [.bool (c.hit j)] (by rfl) (by rfl) (World.news_of_block (cs := #[.bool (c.hit j)]) (t := 4) (fr := (0, 0)) (heap_alloc_new u _)) (by simp [Value.oneCell']) (by omega) (by unfold maxLen; omega) (by omega) (by simp; omega) (u.heap.size + 1) (by simp) ?_; intro g6 cp6 w6 hown6 hgrow6 hat6 hlt6))
            all_goals
              have HREL : Hid (CrL w B7 z g c4 en c0 es (.slice (some ⟨g6, 0, none⟩) (m + 1) cp6) (.int .i64 ((k : Int) + 1)) w6) := by
                have hne : ∀ q, (Value.slice a1 m cp1).ownBlock = some q → z ≤ q := fun q hq => (HROW2.out.lt q hq).1
                have hkeep : ∀ q, q < u.heap.size → q < z → w6.heap[q]? = u.heap[q]? := fun q hq hqz => (hgrow6.block q (by simp; omega) (fun e => by have := hne q e.symm; omega)).trans (Below.heap_alloc _ _ _ hq)
                refine ⟨k + 1, m + 1, cp6, some ⟨g6, 0, none⟩, c.acc j, hs ++ [c.hit j], hlt, by omega, by go_num, rfl, HRUN2.out, by rw [List.length_append, HLEN.out]; rfl, HOu.out.far (fun q hq hq' => hkeep q hq' (by have := ownS_eq hq; omega)), ?_, HR1u.out.later (hkeep _ HR1u.out.lt (by omega)), HX7u.out.later (hkeep _ HX7u.out.lt hB7z), (HBu.out.alloc HBu.out.size _).grown hgrow6 (by have := HBu.out.size; simp; omega) (fun q e => by have := hne q e; omega), ?_⟩
                · unfold OwnB
                  rw [List.length_append, HLEN.out, List.map_append]
                  exact hown6
                · have := hgrow6.size
                  simp at this
                  omega
              clear hown6 hgrow6 hat6 hlt6 hL2
              go_wp2_with fail
              go_roundw
              case rel => exact HREL.out
              case measure => simp [intOf]; omega
      · obtain rfl : k = en := by omega
        have HRUN2 : Hid (runC c0 es = some (c, hs)) := by
          have h := HRUN.out
          rw [List.take_of_length_le (by rw [HN.out]; exact Nat.le_refl _)] at h
          exact h
        have HYES := Lib.hid (crP_yes HOK.out HRUN2.out)
        have x7 := HX7.out.c0
        have m0 := HR1.out.c0
        have n0 := HR1.out.f0
        have R0 : Hid ((wr.setCell ⟨w.heap.size + 1, 0, none⟩ (.slice (some ⟨g, 0, none⟩) 2 c4)).cell? ⟨w.heap.size + 1, 0, none⟩ = some (.slice (some ⟨g, 0, none⟩) 2 c4)) := World.cell?_setCell_same' _ _ _ (by rw [m0]; rfl)
        have HFIN : Hid (CrQ (crP c0.l es).1 (crP c0.l es).2.1 (crP c0.l es).2.2 w (.returned (.tuple #[aggCa (some ⟨g, 0, none⟩) 2 c4, .slice a1 m cp1, .bool true])) (wr.setCell ⟨w.heap.size + 1, 0, none⟩ (.slice (some ⟨g, 0, none⟩) 2 c4))) := by
          rw [HYES.out]
          exact ⟨_, 2, c4, a1, m, cp1, rfl, rfl, HLEN.out, HOWN.out.far (fun q hq _ => Below.heap_setCell _ _ _ _ (by have := ownS_eq hq; simp; omega)), (HROW.out.mono (by omega)).far (fun q hq _ => Below.heap_setCell _ _ _ _ (by have := (HROW.out.lt q hq).1; simp; omega)), HBEL.out.setCell (p := ⟨w.heap.size + 1, 0, none⟩) (by simp) _⟩
        clear HRUN HOWN HROW
        go_wp2_with fail
        have r0 := R0.out
        exact bodyPost_ret (v := .tuple #[aggCa (some ⟨g, 0, none⟩) 2 c4, .slice a1 m cp1, .bool true]) (by simp [results, Try.f25, go_sem, r0]) rfl HFIN.out

end Go.Proofs.Yteoaecfjgbkefaa

/- The draw of a list of labels of package spec: whatever bytes came in, the call returns a list of at most six ints in new memory, and nothing that was there has changed. No condition. -/
import Derived.Test.YtmajmchiflggjaaDoorDraw
import Derived.Test.YtmajmchiflggjaaDoorEPar
import Derived.Maps.AppendAt
namespace Go.Proofs.YtmajmchiflggjaaDoor
open Go.RowKit

/-- A drawn list. -/
def DrawnList (w : World) (e : Ending) (w' : World) : Prop := ∃ v xs, e = .returned v ∧ OwnI w' w.heap.size v xs ∧ xs.length ≤ 6 ∧ Below w.heap.size w w'

theorem OwnI.oth {w w' : World} {base B : Nat} {v : Value} {xs : List Int} (h : OwnI w base v xs) (ho : Oth B w w') (hB : B < base) : OwnI w' base v xs := by
  refine ⟨h.1, ?_⟩
  rcases h.2 with h1 | ⟨g, cap, cur, h1, h2, h3, r⟩
  · exact .inl h1
  · exact .inr ⟨g, cap, cur, h1, h2, (ho.2 g (Array.getElem?_eq_some_iff.1 h3).1 (by omega)).trans h3, r⟩

theorem six (w : World) (x0 x1 x2 x3 x4 x5 : Int) (t : TypeId) : ∀ i, i < 6 → (w.alloc (.cells #[.int .i64 x0, .int .i64 x1, .int .i64 x2, .int .i64 x3, .int .i64 x4, .int .i64 x5] t)).cell? ⟨w.heap.size, 0 + i, none⟩ = some (.int .i64 ([x0, x1, x2, x3, x4, x5].getD i 0)) := by
  intro i hi
  obtain rfl | rfl | rfl | rfl | rfl | rfl : i = 0 ∨ i = 1 ∨ i = 2 ∨ i = 3 ∨ i = 4 ∨ i = 5 := by omega
  all_goals simp

theorem six_le (i : Nat) (hi : i < 6) : ∃ k : Nat, ([3, 4, 2, 1, 0, 6] : List Int).getD i 0 = (k : Int) ∧ k ≤ 6 := by
  obtain rfl | rfl | rfl | rfl | rfl | rfl : i = 0 ∨ i = 1 ∨ i = 2 ∨ i = 3 ∨ i = 4 ∨ i = 5 := by omega
  all_goals first | exact ⟨3, rfl, by omega⟩ | exact ⟨4, rfl, by omega⟩ | exact ⟨2, rfl, by omega⟩ | exact ⟨1, rfl, by omega⟩ | exact ⟨0, rfl, by omega⟩ | exact ⟨6, rfl, by omega⟩

set_option maxRecDepth 100000 in
set_option maxHeartbeats 2000000 in
theorem drawFormat_one (a : Option Addr) (len cap : Nat) (zs : List Int) (w : World) (h : IsRow .u8 w a len cap zs) :
    Calls Tryd.prog 6 #[.slice a len cap] w (DrawnList w) := by
  obtain ⟨i0, hi, hz0, hz1, hz2⟩ := info_parts Tryd.infoI
  have H := Lib.hid h
  clear h
  go_enter Tryd.func6, Tryd.ntmps6
  go_wp2_with fail
  refine (open_one a len cap zs _ H.out).mono ?_
  rintro e w1 ⟨a1, len1, cap1, rfl, hb1, hr1⟩
  have HB1 := Lib.hid hb1
  have HR1 := Lib.hid hr1
  have hlt1 := hr1.lt
  clear hb1 hr1
  go_wp2_with fail
  have hA : Below w1.heap.size w1 (w1.alloc (.cells #[] 3)) := (Below.refl _ _).alloc (Nat.le_refl _) _
  have hA2 : Below w1.heap.size w1 ((w1.alloc (.cells #[] 3)).alloc (.cells #[.int .i64 3, .int .i64 4, .int .i64 2, .int .i64 1, .int .i64 0, .int .i64 6] 3)) := hA.alloc (by simp) _
  have HR2 := Lib.hid (HR1.out.below hA2 hlt1)
  have HB2 := Lib.hid (HB1.out.trans (hA2.mono (Nat.le_of_lt hlt1)))
  have HO2 : Hid (OwnI ((w1.alloc (.cells #[] 3)).alloc (.cells #[.int .i64 3, .int .i64 4, .int .i64 2, .int .i64 1, .int .i64 0, .int .i64 6] 3)) (w.heap.size + 1) (.slice (some ⟨w1.heap.size, 0, none⟩) 0 0) []) := (OwnI.made w1 _ (by omega)).later ((Below.refl _ _).alloc (Nat.le_refl _) _)
  have hs6 := six (w1.alloc (.cells #[] 3)) 3 4 2 1 0 6 3
  rw [World.size_alloc] at hs6
  have HS6 := Lib.hid hs6
  clear hA hA2 hs6
  refine (num_one w.heap.size 0 a1 len1 cap1 (w1.heap.size + 1) 0 6 6 [3, 4, 2, 1, 0, 6] _ HR2.out (by omega) (by omega) rfl (by omega) (by omega) HS6.out).mono ?_
  rintro e w2 ⟨i, k2, hi6, rfl, hw2⟩
  obtain ⟨k0, hk0, hk6⟩ := six_le i hi6
  rw [hk0]
  have HR3 : Hid (Rd w2 w.heap.size 1 a1 len1 cap1) := by rw [hw2]; exact HR2.out.next k2
  have HB3 : Hid (Below w.heap.size w w2) := by rw [hw2]; exact HB2.out.trans (Rd.below_step (B := w.heap.size) (p := 0) k2)
  have HO3 : Hid (OwnI w2 (w.heap.size + 1) (.slice (some ⟨w1.heap.size, 0, none⟩) 0 0) []) := by rw [hw2]; exact HO2.out.oth (Oth.step _ _ _) (by omega)
  clear hw2 HR2 HB2 HO2 HS6 HR1 HB1 hk0 hi6
  go_wp2_with fail
  go_loopw [4, 5] (fun u i wr => ∃ (v : Value) (xs : List Int) (k q : Nat), v = u ∧ i = .int .i64 k ∧ k + xs.length ≤ 6 ∧ q + k ≤ 10 ∧ OwnI wr (w.heap.size + 1) v xs ∧ Below w.heap.size w wr ∧ Rd wr w.heap.size q a1 len1 cap1) (fun _ i _ => (intOf i).toNat)
  case atStart => exact ⟨_, [], k0, 1, rfl, rfl, by simpa using hk6, by omega, HO3.out, HB3.out, HR3.out⟩
  case round =>
    obtain ⟨v, xs, k, q, rfl, rfl, hkx, hqk, hO, hB, hR⟩ := hrel
    have HO := Lib.hid hO
    have HB := Lib.hid hB
    have HR := Lib.hid hR
    clear hO hB hR HO3 HB3 HR3
    by_cases hk : 0 < k
    · go_wp2_with fail
      refine (pick_one w.heap.size q a1 len1 cap1 _ _ HR.out (by omega) (by omega) (by omega)).mono ?_
      rintro e w3 ⟨p3, k3, rfl, p30, p31, hw3⟩
      have HR4 : Hid (Rd w3 w.heap.size (q + 1) a1 len1 cap1) := by rw [hw3]; exact HR.out.next k3
      have HB4 : Hid (Below w.heap.size w w3) := by rw [hw3]; exact HB.out.trans (Rd.below_step (B := w.heap.size) (p := q) k3)
      have hO4 : OwnI w3 (w.heap.size + 1) v xs := by rw [hw3]; exact HO.out.oth (Oth.step _ _ _) (by omega)
      have hrow : w3.ownsRow (w.heap.size + 1) 3 1 v xs.length (xs.map (Value.int .i64)) := hO4
      have hlt3 := HR4.out.lt
      clear hw3 HO HB HR hO4
      go_wp2_with (at_builtin; refine wpList_append_own _ rfl _ _ 23 rfl (w.heap.size + 1) 3 i0 (.int .i64 0) 1 8 Tryd.underlying23 hi hz0 hz1 hz2 rfl (by decide) _ _ _ rfl (hrow.alloc _) ⟨w3.heap.size, 0, none⟩ 1 1 [.int .i64 p3] rfl rfl (cell_one_new _ _ _) (by simp [Value.oneCell']) (by unfold maxLen; omega) (by omega) (by simp; omega) ?_; intro v' w4 hown' hgrow _)
      have HO5 : Hid (OwnI w4 (w.heap.size + 1) v' (xs ++ [p3])) := by
        show w4.ownsRow (w.heap.size + 1) 3 1 v' (xs ++ [p3]).length ((xs ++ [p3]).map (Value.int .i64))
        simpa using hown'
      have hb5 : Below (w.heap.size + 1) w3 w4 := ((Below.refl _ w3).alloc (by omega) _).grown hgrow (by simp; omega) (fun j e => (World.ownsRow.lt hrow j e).1)
      have HB5 : Hid (Below w.heap.size w w4) := HB4.out.trans (hb5.mono (by omega))
      have HR5 : Hid (Rd w4 w.heap.size (q + 1) a1 len1 cap1) := HR4.out.below hb5 (by omega)
      clear hrow hown' hgrow HB4 HR4 hb5
      go_wp2
      go_roundw
      case rel => exact ⟨_, xs ++ [p3], k - 1, q + 1, rfl, by go_num, by simp; omega, by omega, HO5.out, HB5.out, HR5.out⟩
      case measure => simp [intOf]; omega
    · obtain rfl : k = 0 := by omega
      obtain ⟨av, capv, rfl⟩ := HO.out.shape
      by_cases hx0 : xs.length = 0
      · go_wp2_with fail
        go_ret
        exact ⟨_, xs, rfl, HO.out.mono (by omega), by omega, HB.out⟩
      · have hx0' : (0 : Int) < (xs.length : Int) := by omega
        go_wp2_with fail
        refine (pick_one w.heap.size q a1 len1 cap1 _ _ HR.out (by omega) (by omega) (by omega)).mono ?_
        rintro e w3 ⟨p3, k3, rfl, p30, p31, hw3⟩
        have HR4 : Hid (Rd w3 w.heap.size (q + 1) a1 len1 cap1) := by rw [hw3]; exact HR.out.next k3
        have HB4 : Hid (Below w.heap.size w w3) := by rw [hw3]; exact HB.out.trans (Rd.below_step (B := w.heap.size) (p := q) k3)
        have HO4 : Hid (OwnI w3 (w.heap.size + 1) (.slice av xs.length capv) xs) := by rw [hw3]; exact HO.out.oth (Oth.step _ _ _) (by omega)
        clear hw3 HO HB HR
        by_cases hp : p3 = 0
        · subst hp
          go_wp2_with fail
          refine (l1Draw_one w.heap.size (q + 1) a1 len1 cap1 _ HR4.out (by omega)).mono ?_
          rintro e w5 ⟨x5, q5, rfl, hb5, hr5, hq5, ho5⟩
          have hO5 := HO4.out.oth ho5 (by omega)
          have HB5 := Lib.hid (HB4.out.trans hb5)
          rcases hO5.view with ⟨e, hnil⟩ | ⟨g, cp, e, hg, hgl, hm⟩
          · exact absurd (by rw [hnil]; rfl) hx0
          · cases e
            have hrow : w5.ownsRow (w.heap.size + 1) 3 1 (.slice (some ⟨g, 0, none⟩) xs.length capv) xs.length (xs.map (Value.int .i64)) := hO5
            have hcell := hrow.cellAt 0 (by omega)
            have hfz := hrow.frozenAt 0
            have hst := hrow.stored 0 (.int .i64 x5)
            have hsome : (w5.cell? ⟨g, 0, none⟩).isSome = true := by rw [hcell]; simp; omega
            obtain ⟨u, hu⟩ := Option.isSome_iff_exists.1 hsome
            have HS : Hid (OwnI (w5.setCell ⟨g, 0, none⟩ (.int .i64 x5)) (w.heap.size + 1) (.slice (some ⟨g, 0, none⟩) xs.length capv) (xs.set 0 x5)) := by
              have := hst.1
              show World.ownsRow _ _ _ _ _ (xs.set 0 x5).length _
              rw [List.length_set, List.map_set]
              exact this
            have HB6 : Hid (Below w.heap.size w (w5.setCell ⟨g, 0, none⟩ (.int .i64 x5))) := HB5.out.setCell (p := ⟨g, 0, none⟩) (by simp; omega) _
            clear hrow hcell hst hsome hO5 HB5 hb5 hr5 hq5 ho5 HR4 HB4 HO4
            go_wp2_with fail
            go_ret
            exact ⟨_, _, rfl, HS.out.mono (by omega), by rw [List.length_set]; omega, HB6.out⟩
        · have hp' : (p3 == 0) = false := by simpa using hp
          go_wp2_with fail
          go_ret
          exact ⟨_, xs, rfl, HO4.out.mono (by omega), by omega, HB4.out⟩

end Go.Proofs.YtmajmchiflggjaaDoor

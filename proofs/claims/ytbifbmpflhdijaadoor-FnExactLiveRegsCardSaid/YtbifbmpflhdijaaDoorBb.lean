/- Lists of lists of bools in memory; the exact laws' helpers on them: szBoolSS measures, toBoolSS makes a copy, eqBoolSS answers whether two are equal. Nothing that was there changes. -/
import Derived.Test.YtbifbmpflhdijaaDoorBlS
namespace Go.Proofs.YtbifbmpflhdijaaDoor
open Go.RowKit
set_option linter.unusedVariables false

/-- A list of lists of bools in blocks of D. -/
def BBs (w : World) (D : Nat → Prop) (rs : List (List Bool)) (a : Option Addr) : Prop := rs.length ≤ maxLen ∧ ∀ (i : Nat) (r : List Bool), rs[i]? = some r → ∃ b o ra rc, a = some ⟨b, o, none⟩ ∧ D b ∧ w.cell? ⟨b, o + i, none⟩ = some (.slice ra r.length rc) ∧ BAt w D r ra
theorem BBs.wide {w w' : World} {D D' : Nat → Prop} {rs : List (List Bool)} {a : Option Addr} (h : BBs w D rs a) (hb : ∀ k, D k → w'.heap[k]? = w.heap[k]?) (hl : ∀ k, D k → D' k) : BBs w' D' rs a := ⟨h.1, fun i r hr => by
  obtain ⟨b, o, ra, rc, ha, hd, h0, h1⟩ := h.2 i r hr
  exact ⟨b, o, ra, rc, ha, hl b hd, (World.cell?_of_block (w := w) (hb b hd)).trans h0, h1.wide hb hl⟩⟩
theorem BBs.below {w w' : World} {rs : List (List Bool)} {a : Option Addr} (h : BBs w (fun k => k < w.heap.size) rs a) (hb : Below w.heap.size w w') : BBs w' (fun k => k < w'.heap.size) rs a := h.wide (fun k hk => hb.block k hk) fun k hk => Nat.lt_of_lt_of_le hk hb.size
theorem BBs.get {w : World} {D : Nat → Prop} {rs : List (List Bool)} {a : Option Addr} (h : BBs w D rs a) {i : Nat} (hi : i < rs.length) : ∃ r b o ra rc, rs[i]? = some r ∧ a = some ⟨b, o, none⟩ ∧ D b ∧ w.cell? ⟨b, o + i, none⟩ = some (.slice ra r.length rc) ∧ BAt w D r ra := by
  have hx : rs[i]? = some rs[i] := List.getElem?_eq_getElem _
  obtain ⟨b, o, ra, rc, h0⟩ := h.2 i _ hx
  exact ⟨_, b, o, ra, rc, hx, h0⟩
theorem ownsRow_far {w w' : World} {base : Nat} {e : TypeId} {size n : Nat} {v : Value} {xs : List Value} (h : w.ownsRow base e size v n xs) (hs : ∀ g, v.ownBlock = some g → g < w.heap.size → w'.heap[g]? = w.heap[g]?) : w'.ownsRow base e size v n xs := by
  refine ⟨h.1, ?_⟩
  rcases h.2 with h1 | ⟨g, cp, cur, rfl, h2, h3, h4⟩
  · exact .inl h1
  · exact .inr ⟨g, cp, cur, rfl, h2, (hs g rfl (Array.getElem?_eq_some_iff.1 h3).1).trans h3, h4⟩

/-- Every list of it is short. -/
def BBm (rs : List (List Bool)) : Prop := rs.length ≤ 1048576 ∧ ∀ r ∈ rs, r.length ≤ 1048576
/-- The answer of a size function. -/
def BBSized (rs : List (List Bool)) (left : Int) (w : World) (e : Ending) (w' : World) : Prop := ∃ v : Int, e = .returned (.int .i64 v) ∧ v ≤ left ∧ (0 ≤ v → BBm rs) ∧ w' = w
theorem szBS_one (a : Option Addr) (n c : Nat) (left : Int) (w : World) (hn : n ≤ maxLen) (h0 : 0 ≤ left) (h1 : left ≤ 1048576) :
    Calls Tryd.prog 58 #[.slice a n c, .int .i64 left] w (fun e w' => ∃ v : Int, e = .returned (.int .i64 v) ∧ v ≤ left ∧ -1 ≤ v ∧ (0 ≤ v → n ≤ 1048576) ∧ w' = w) := by
  unfold maxLen at hn
  by_cases hv : left - (n : Int) < 0
  · go_enter Tryd.func58, Tryd.ntmps58
    go_wp2_with fail
    go_ret
    exact ⟨-1, rfl, by omega, by omega, fun h => by omega, rfl⟩
  · go_enter Tryd.func58, Tryd.ntmps58
    go_wp2_with fail
    go_ret
    exact ⟨_, rfl, by omega, by omega, fun h => by omega, rfl⟩

set_option maxHeartbeats 4000000 in
/-- **szBoolSS.** -/
theorem szBB_one (rs : List (List Bool)) (a : Option Addr) (n c : Nat) (left : Int) (w : World) {D : Nat → Prop} (h : BBs w D rs a) (hn : rs.length = n) (h0 : 0 ≤ left) (h1 : left ≤ 1048576) :
    Calls Tryd.prog 23 #[.slice a n c, .int .i64 left] w (BBSized rs left w) := by
  have hm := h.1
  rw [hn] at hm
  have H := Lib.hid h
  have HN := Lib.hid hn
  unfold maxLen at hm
  clear h hn
  by_cases hv : left - (n : Int) < 0
  · go_enter Tryd.func23, Tryd.ntmps23
    go_wp2_with fail
    go_ret
    exact ⟨-1, rfl, by omega, fun h => by omega, rfl⟩
  have hn20 : n ≤ 1048576 := by omega
  go_enter Tryd.func23, Tryd.ntmps23
  go_wp2_with fail
  go_loopw [1, 5] (fun l i wr => ∃ (k : Nat) (v : Int), k ≤ n ∧ i = .int .i64 k ∧ l = .int .i64 v ∧ 0 ≤ v ∧ v ≤ left - (n : Int) ∧ Hid (∀ (j : Nat) (r : List Bool), j < k → rs[j]? = some r → r.length ≤ 1048576) ∧ wr = w) (fun _ i _ => n - (intOf i).toNat)
  case atStart => exact ⟨0, left - (n : Int), Nat.zero_le _, rfl, by go_num, by omega, by omega, (fun j r hj => absurd hj (Nat.not_lt_zero _) : ∀ (j : Nat) (r : List Bool), j < 0 → rs[j]? = some r → r.length ≤ 1048576), rfl⟩
  case round =>
    obtain ⟨k, v, hk, rfl, rfl, hv0, hv1, HA, rfl⟩ := hrel
    by_cases hlt : k < n
    · obtain ⟨r, b, o, ra, rc, hr, rfl, hd, hc, hb⟩ := H.out.get (i := k) (by rw [HN.out]; exact hlt)
      have hrm := hb.1
      have HR := Lib.hid hr
      obtain ⟨m, hml⟩ : ∃ m, r.length = m := ⟨_, rfl⟩
      have HML := Lib.hid hml
      rw [hml] at hc hrm
      clear hr hb hd H hml
      go_wp2_with fail
      refine (szBS_one ra m rc v _ hrm (by omega) (by omega)).mono ?_
      rintro e w2 ⟨v2, rfl, hv2, hv2', hs, rfl⟩
      by_cases hneg : v2 < 0
      · clear HA
        go_wp2_with fail
        go_ret
        exact ⟨-1, rfl, by omega, fun h => by omega, rfl⟩
      · have HA2 : Hid (∀ (j : Nat) (r : List Bool), j < k + 1 → rs[j]? = some r → r.length ≤ 1048576) := fun j r' hj hr' => by
          by_cases e : j = k
          · subst e
            have h1 := HR.out
            rw [hr'] at h1
            cases h1
            rw [HML.out]
            exact hs (by omega)
          · exact HA.out j r' (by omega) hr'
        have hz2 : ¬ v2 < 0 := hneg
        clear HA hs
        go_wp2_with fail
        go_roundw
        case rel => exact ⟨k + 1, v2, by omega, by go_num, rfl, by omega, by omega, HA2, by first | rfl | trivial⟩
        case measure => simp [intOf]; omega
    · obtain rfl : k = n := by omega
      have HB : Hid (BBm rs) := ⟨by rw [HN.out]; exact hn20, fun r hr => by
        obtain ⟨j, hj, rfl⟩ := List.mem_iff_getElem.1 hr
        exact HA.out j _ (by rw [← HN.out]; exact hj) (List.getElem?_eq_getElem hj)⟩
      clear HA H
      go_wp2_with fail
      go_ret
      exact ⟨v, rfl, by omega, fun _ => HB.out, rfl⟩

def CpyB (L xs : List Bool) (k : Nat) : Prop := L.length = xs.length ∧ ∀ j, j < k → L[j]? = xs[j]?
theorem CpyB.set {L xs : List Bool} {k : Nat} {x : Bool} (h : CpyB L xs k) (hx : xs[k]? = some x) : CpyB (L.set k x) xs (k + 1) := by
  have hk : k < xs.length := (List.getElem?_eq_some_iff.1 hx).1
  refine ⟨by rw [List.length_set]; exact h.1, fun j hj => ?_⟩
  by_cases e : j = k
  · subst e
    rw [List.getElem?_set_self (by rw [h.1]; exact hk), hx]
  · rw [List.getElem?_set_ne (by omega)]
    exact h.2 j (by omega)
theorem CpyB.all {L xs : List Bool} (h : CpyB L xs xs.length) : L = xs := by
  apply List.ext_getElem?
  intro i
  by_cases hi : i < xs.length
  · exact h.2 i hi
  · rw [List.getElem?_eq_none (by rw [h.1]; omega), List.getElem?_eq_none (by omega)]
/-- A copy of a list of bools in a row of its own. -/
def CopyB (bs : List Bool) (n : Nat) (w : World) (e : Ending) (w' : World) : Prop := ∃ a c, e = .returned (.slice a n c) ∧ OwnB w' w.heap.size (.slice a n c) bs ∧ Below w.heap.size w w'

set_option maxRecDepth 100000 in
set_option maxHeartbeats 2000000 in
/-- **toBoolS.** -/
theorem toBS_one (bs : List Bool) (a : Option Addr) (n c : Nat) (w : World) {D : Nat → Prop} (h : BAt w D bs a) (hn : bs.length = n) (hm : n ≤ 1048576) :
    Calls Tryd.prog 62 #[.slice a n c] w (CopyB bs n w) := by
  obtain ⟨i0, hi, hz0, hz1, hz2⟩ := info_parts Tryd.infoB
  have HN := Lib.hid hn
  have HT : Hid (∀ k, k < n → ∃ x b o, bs[k]? = some x ∧ a = some ⟨b, o, none⟩ ∧ b < w.heap.size ∧ w.cell? ⟨b, o + k, none⟩ = some (.bool x)) := fun k hk => by
    have hx : bs[k]? = some (bs[k]'(by omega)) := List.getElem?_eq_getElem _
    obtain ⟨b, o, ha, _, hc⟩ := h.2 k _ hx
    exact ⟨_, b, o, hx, ha, World.block_lt_of_cell? w _ hc, hc⟩
  clear h hn
  go_enter Tryd.func62, Tryd.ntmps62
  go_wp2_with (at_make; refine wpList_make_full _ rfl _ _ 47 rfl w.heap.size 4 i0 (.bool false) 1 Tryd.underlying47 hi hz0 hz1 .i64 .i64 (n : Int) (n : Int) n rfl rfl rfl rfl (by rw [hz2]; omega) (by unfold maxLen; omega) (Nat.le_refl _) ?_; intro w1 hown1 hgrow1; clear hz0 hz1 hz2)
  have HB1 : Hid (Below w.heap.size w w1) := (Below.refl _ w).grown hgrow1 (Nat.le_refl _) (fun k e => by cases e)
  have HO1 : Hid (∃ L : List Bool, CpyB L bs 0 ∧ w1.ownsRow w.heap.size 4 1 (.slice (some ⟨w.heap.size, 0, none⟩) n n) n (L.map Value.bool)) :=
    ⟨List.replicate n false, ⟨by rw [List.length_replicate, HN.out], fun j hj => absurd hj (Nat.not_lt_zero _)⟩, by rw [← falses]; exact hown1⟩
  clear hown1 hgrow1
  go_loopw [4] (fun i wr => ∃ k : Nat, k ≤ n ∧ i = .int .i64 k ∧ Below w.heap.size w wr ∧ ∃ L : List Bool, CpyB L bs k ∧ wr.ownsRow w.heap.size 4 1 (.slice (some ⟨w.heap.size, 0, none⟩) n n) n (L.map Value.bool)) (fun i _ => n - (intOf i).toNat)
  case atStart => exact ⟨0, Nat.zero_le _, rfl, HB1.out, HO1.out⟩
  case round =>
    obtain ⟨k, hk, rfl, hb, L, hC, hO⟩ := hrel
    have HB := Lib.hid hb
    have HC := Lib.hid hC
    have HO := Lib.hid hO
    clear hb hC hO HO1 HB1
    by_cases hlt : k < n
    · obtain ⟨x, b, o, hx, rfl, hbl, hcell⟩ := HT.out k hlt
      have hcell2 : wr.cell? ⟨b, o + k, none⟩ = some (.bool x) := (HB.out.cell (p := ⟨b, o + k, none⟩) hbl).trans hcell
      have hc2 := HO.out.cellAt k (by omega)
      have hfz := HO.out.frozenAt k
      have hst := HO.out.stored k (.bool x)
      have hsome : (wr.cell? ⟨w.heap.size, k, none⟩).isSome = true := by rw [hc2]; simp [HC.out.1, HN.out, hlt]
      obtain ⟨u, hu⟩ := Option.isSome_iff_exists.1 hsome
      have HS : Hid ((wr.setCell ⟨w.heap.size, k, none⟩ (.bool x)).ownsRow w.heap.size 4 1 (.slice (some ⟨w.heap.size, 0, none⟩) n n) n ((L.set k x).map Value.bool)) := by
        rw [List.map_set]; exact hst.1
      have HB2 : Hid (Below w.heap.size w (wr.setCell ⟨w.heap.size, k, none⟩ (.bool x))) := HB.out.setCell (p := ⟨w.heap.size, k, none⟩) (Nat.le_refl _) _
      have HC2 : Hid (CpyB (L.set k x) bs (k + 1)) := HC.out.set hx
      clear hc2 hst hsome HB HO HC HT hcell hx
      go_wp2
      go_roundw
      case rel => exact ⟨k + 1, by omega, by go_num, HB2.out, _, HC2.out, HS.out⟩
      case measure => simp [intOf]; omega
    · obtain rfl : k = n := by omega
      clear HT
      have HFIN : Hid (CopyB bs k w (.returned (.slice (some ⟨w.heap.size, 0, none⟩) k k)) wr) := by
        have e : L = bs := CpyB.all (by rw [HN.out]; exact HC.out)
        refine ⟨_, _, rfl, ?_, HB.out⟩
        unfold OwnB
        rw [HN.out, ← e]
        exact HO.out
      clear HB HC HO
      go_wp2
      go_ret
      exact HFIN.out

theorem Tryd.infoBB : (Tryd.prog.info? 47).map (fun i => (i.zero, i.size, i.bytes)) = some (some (.slice none 0 0), 1, 24) := by kernel_rfl
/-- The first k copies stand in the row G, each in a block of its own. -/
def CpBB (w : World) (G : Nat) (rs : List (List Bool)) (L : List Value) (k : Nat) : Prop := ∀ (i : Nat) (r : List Bool), i < k → rs[i]? = some r → ∃ ra rc, L[i]? = some (.slice ra r.length rc) ∧ BAt w (fun b => G < b ∧ b < w.heap.size) r ra
/-- A copy of a list of lists of bools. -/
def CopyBB (rs : List (List Bool)) (n : Nat) (w : World) (e : Ending) (w' : World) : Prop := ∃ a c, e = .returned (.slice a n c) ∧ BBs w' (fun b => b < w'.heap.size) rs a ∧ Below w.heap.size w w'

set_option maxRecDepth 100000 in
set_option maxHeartbeats 2000000 in
/-- **toBoolSS.** -/
theorem toBB_one (rs : List (List Bool)) (a : Option Addr) (n c : Nat) (w : World) (h : BBs w (fun b => b < w.heap.size) rs a) (hn : rs.length = n) (hm : BBm rs) :
    Calls Tryd.prog 25 #[.slice a n c] w (CopyBB rs n w) := by
  obtain ⟨i0, hi, hz0, hz1, hz2⟩ := info_parts Tryd.infoBB
  have HN := Lib.hid hn
  have HM := Lib.hid hm
  have hn20 : n ≤ 1048576 := by rw [← hn]; exact hm.1
  have HT : Hid (∀ v, Below w.heap.size w v → ∀ k, k < n → ∃ r b o ra rc, rs[k]? = some r ∧ a = some ⟨b, o, none⟩ ∧ v.cell? ⟨b, o + k, none⟩ = some (.slice ra r.length rc) ∧ BAt v (fun b => b < v.heap.size) r ra) := fun v hv k hk => by
    obtain ⟨r, b, o, ra, rc, h1, h2, _, h3, h4⟩ := (h.below hv).get (i := k) (by omega)
    exact ⟨r, b, o, ra, rc, h1, h2, h3, h4⟩
  clear h hn hm
  go_enter Tryd.func25, Tryd.ntmps25
  go_wp2_with (at_make; refine wpList_make_full _ rfl _ _ 36 rfl w.heap.size 47 i0 (.slice none 0 0) 1 Tryd.underlying36 hi hz0 hz1 .i64 .i64 (n : Int) (n : Int) n rfl rfl rfl rfl (by rw [hz2]; omega) (by unfold maxLen; omega) (Nat.le_refl _) ?_; intro w1 hown1 hgrow1; clear hz0 hz1 hz2)
  have HB1 : Hid (Below w.heap.size w w1) := (Below.refl _ w).grown hgrow1 (Nat.le_refl _) (fun k e => by cases e)
  have HO1 : Hid (∃ L : List Value, CpBB w1 w.heap.size rs L 0 ∧ w1.ownsRow w.heap.size 47 1 (.slice (some ⟨w.heap.size, 0, none⟩) n n) n L) :=
    ⟨_, fun j r hj => absurd hj (Nat.not_lt_zero _), hown1⟩
  clear hown1 hgrow1
  go_loopw [4] (fun i wr => ∃ k : Nat, k ≤ n ∧ i = .int .i64 k ∧ Below w.heap.size w wr ∧ ∃ L : List Value, CpBB wr w.heap.size rs L k ∧ wr.ownsRow w.heap.size 47 1 (.slice (some ⟨w.heap.size, 0, none⟩) n n) n L) (fun i _ => n - (intOf i).toNat)
  case atStart => exact ⟨0, Nat.zero_le _, rfl, HB1.out, HO1.out⟩
  case round =>
    obtain ⟨k, hk, rfl, hb, L, hC, hO⟩ := hrel
    have HB := Lib.hid hb
    have HC := Lib.hid hC
    have HO := Lib.hid hO
    have hsz := hb.size
    clear hb hC hO HO1 HB1
    by_cases hlt : k < n
    · obtain ⟨r, b, o, ra, rc, hr, rfl, hcell, hat⟩ := HT.out wr HB.out k hlt
      have HCA := Lib.hid (toBS_one r ra r.length rc wr hat rfl (HM.out.2 r (List.mem_of_getElem? hr)))
      have HR := Lib.hid hr
      have hlt2 := (HO.out.lt w.heap.size rfl).2
      clear hr hat HT
      go_wp2_with fail
      refine HCA.out.mono ?_
      rintro e w2 ⟨a2, c2, rfl, hown, hb2⟩
      have hO2 := ownsRow_far HO.out (w' := w2) (fun g hg hgl => hb2.block g hgl)
      have hc2 := hO2.cellAt k (by omega)
      have hfz := hO2.frozenAt k
      have hst := hO2.stored k (.slice a2 r.length c2)
      have hll : L.length = n := by have := HO.out.1; omega
      have hsome : (w2.cell? ⟨w.heap.size, k, none⟩).isSome = true := by rw [hc2]; simp [hll, hlt]
      obtain ⟨u, hu⟩ := Option.isSome_iff_exists.1 hsome
      have HS : Hid ((w2.setCell ⟨w.heap.size, k, none⟩ (.slice a2 r.length c2)).ownsRow w.heap.size 47 1 (.slice (some ⟨w.heap.size, 0, none⟩) n n) n (L.set k (.slice a2 r.length c2))) := hst.1
      have HB2 : Hid (Below w.heap.size w (w2.setCell ⟨w.heap.size, k, none⟩ (.slice a2 r.length c2))) := (HB.out.trans (hb2.mono hsz)).setCell (p := ⟨w.heap.size, k, none⟩) (Nat.le_refl _) _
      have HC2 : Hid (CpBB (w2.setCell ⟨w.heap.size, k, none⟩ (.slice a2 r.length c2)) w.heap.size rs (L.set k (.slice a2 r.length c2)) (k + 1)) := fun j r' hj hr' => by
        have hst' : ∀ q, q ≠ w.heap.size → (w2.setCell ⟨w.heap.size, k, none⟩ (.slice a2 r.length c2)).heap[q]? = w2.heap[q]? := fun q hq => Below.heap_setCell _ _ _ _ (by simpa using hq)
        have hss : (w2.setCell ⟨w.heap.size, k, none⟩ (.slice a2 r.length c2)).heap.size = w2.heap.size := by simp [World.setCell]
        have hs2 := hb2.size
        by_cases e : j = k
        · subst e
          have h1 := HR.out
          rw [hr'] at h1
          cases h1
          obtain ⟨_, _, _, hbat⟩ := hown.bat
          refine ⟨a2, c2, by rw [List.getElem?_set_self (by omega)], hbat.wide (fun q hq => hst' q (by omega)) fun q hq => ⟨by omega, by rw [hss]; exact hq.2⟩⟩
        · obtain ⟨ra', rc', h1, h2⟩ := HC.out j r' (by omega) hr'
          refine ⟨ra', rc', by rw [List.getElem?_set_ne (by omega)]; exact h1, h2.wide (fun q hq => (hst' q (by omega)).trans (hb2.block q hq.2)) fun q hq => ⟨hq.1, by rw [hss]; omega⟩⟩
      clear hc2 hst hsome HB HO HC hown hb2 hO2 hll hcell
      go_wp2_with fail
      go_roundw
      case rel => exact ⟨k + 1, by omega, by go_num, HB2.out, _, HC2.out, HS.out⟩
      case measure => simp [intOf]; omega
    · obtain rfl : k = n := by omega
      clear HT
      have HFIN : Hid (CopyBB rs k w (.returned (.slice (some ⟨w.heap.size, 0, none⟩) k k)) wr) := by
        refine ⟨_, _, rfl, ⟨by rw [HN.out]; unfold maxLen; omega, fun i r hr => ?_⟩, HB.out⟩
        have hi : i < k := by rw [← HN.out]; exact (List.getElem?_eq_some_iff.1 hr).1
        obtain ⟨ra, rc, h1, h2⟩ := HC.out i r hi hr
        have hc := HO.out.cellAt i (by omega)
        rw [h1] at hc
        exact ⟨w.heap.size, 0, ra, rc, rfl, (HO.out.lt w.heap.size rfl).2, by rw [Nat.zero_add]; exact hc, h2.wide (fun _ _ => rfl) fun q hq => hq.2⟩
      clear HB HC HO
      go_wp2
      go_ret
      exact HFIN.out

set_option maxRecDepth 100000 in
set_option maxHeartbeats 2000000 in
/-- **eqBoolSS.** -/
theorem eqBB_one (rs ss : List (List Bool)) (a a' : Option Addr) (n n' c c' : Nat) (w : World) (h : BBs w (fun b => b < w.heap.size) rs a) (h' : BBs w (fun b => b < w.heap.size) ss a') (hn : rs.length = n) (hn' : ss.length = n') :
    Calls Tryd.prog 20 #[.slice a n c, .slice a' n' c'] w (YN (decide (rs = ss)) w) := by
  have hm := h.1
  have hm' := h'.1
  unfold maxLen at hm hm'
  have HC : Hid (∀ v, Below w.heap.size w v → ∀ k, k < n → ∃ r b o ra rc, rs[k]? = some r ∧ a = some ⟨b, o, none⟩ ∧ v.cell? ⟨b, o + k, none⟩ = some (.slice ra r.length rc) ∧ BAt v (fun b => b < v.heap.size) r ra) := fun v hv k hk => by
    obtain ⟨r, b, o, ra, rc, h1, h2, _, h3, h4⟩ := (h.below hv).get (i := k) (by omega)
    exact ⟨r, b, o, ra, rc, h1, h2, h3, h4⟩
  have HC' : Hid (∀ v, Below w.heap.size w v → ∀ k, k < n' → ∃ r b o ra rc, ss[k]? = some r ∧ a' = some ⟨b, o, none⟩ ∧ v.cell? ⟨b, o + k, none⟩ = some (.slice ra r.length rc) ∧ BAt v (fun b => b < v.heap.size) r ra) := fun v hv k hk => by
    obtain ⟨r, b, o, ra, rc, h1, h2, _, h3, h4⟩ := (h'.below hv).get (i := k) (by omega)
    exact ⟨r, b, o, ra, rc, h1, h2, h3, h4⟩
  have HN := Lib.hid hn
  have HN' := Lib.hid hn'
  rw [hn] at hm
  rw [hn'] at hm'
  clear h h' hn hn'
  by_cases hne : n = n'
  · subst hne
    go_enter Tryd.func20, Tryd.ntmps20
    go_wp2
    go_loopw [5] (fun i wr => ∃ k : Nat, k ≤ n ∧ i = .int .i64 k ∧ SameUp rs ss k ∧ Below w.heap.size w wr) (fun i _ => n - (intOf i).toNat)
    case atStart => exact ⟨0, Nat.zero_le _, rfl, fun j hj => absurd hj (Nat.not_lt_zero _), Below.refl _ _⟩
    case round =>
      obtain ⟨k, hk, rfl, heq, hb⟩ := hrel
      have HE := Lib.hid heq
      have HB := Lib.hid hb
      clear heq hb
      by_cases hlt : k < n
      · obtain ⟨x, b, o, ra, rc, hx, rfl, hc, hat⟩ := HC.out wr HB.out k hlt
        obtain ⟨y, b', o', ra', rc', hy, rfl, hc', hat'⟩ := HC'.out wr HB.out k hlt
        have hD : Below wr.heap.size wr wr.drew := (Below.refl _ _).drew
        have HCA := Lib.hid (eqBS_one x y ra ra' x.length y.length rc rc' wr.drew (hat.below hD) (hat'.below hD) rfl rfl)
        have HX := Lib.hid hx
        have HY := Lib.hid hy
        have HBD : Hid (Below w.heap.size w wr.drew) := HB.out.drew
        clear hx hy HC HC' hat hat' hD
        obtain ⟨q, hq⟩ : ∃ q, decide (x = y) = q := ⟨_, rfl⟩
        have HQ := Lib.hid hq
        rw [hq] at HCA
        clear hq
        cases q
        case true =>
          have HE2 : Hid (SameUp rs ss (k + 1)) := HE.out.succ (by rw [HX.out, HY.out, of_decide_eq_true HQ.out])
          go_wp2_with fail
          go_region_with (go_at_call 55; refine HCA.out.mono ?_; rintro e w3 ⟨rfl, hb3⟩)
          all_goals
            have HB3 : Hid (Below w.heap.size w w3) := HBD.out.trans (hb3.mono HBD.out.size)
            clear hb3
            go_wp2_with fail
            go_roundw
            case rel => exact ⟨k + 1, by omega, by go_num, HE2.out, HB3.out⟩
            case measure => simp [intOf]; omega
        case false =>
          have HNO : Hid (false = decide (rs = ss)) := (decide_eq_false fun e => of_decide_eq_false HQ.out (by have h1 := HX.out; rw [e, HY.out] at h1; cases h1; rfl)).symm
          go_wp2_with fail
          go_region_with (go_at_call 55; refine HCA.out.mono ?_; rintro e w3 ⟨rfl, hb3⟩)
          all_goals
            have HB3 : Hid (Below w.heap.size w w3) := HBD.out.trans (hb3.mono HBD.out.size)
            clear hb3
            go_wp2_with fail
            go_ret
            exact YN.of HNO.out HB3.out
      · obtain rfl : k = n := by omega
        have HY : Hid (true = decide (rs = ss)) := (decide_eq_true (HE.out.all HN.out HN'.out)).symm
        clear HC HC'
        go_wp2
        go_ret
        exact YN.of HY.out HB.out
  · have hne' : ((n : Int) != (n' : Int)) = true := by simp; omega
    have HNO : Hid (false = decide (rs = ss)) := (decide_eq_false fun e => hne (by rw [← HN.out, ← HN'.out, e])).symm
    clear HC HC'
    go_enter Tryd.func20, Tryd.ntmps20
    go_wp2
    go_ret
    exact YN.of HNO.out (Below.refl _ _)

end Go.Proofs.YtbifbmpflhdijaaDoor

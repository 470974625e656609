/- spec.l9Join, walked: the union of two rows in a new row, and whether the first one grows; the rows of the model's search for the least taint map. -/
import Derived.Test.YtjgmhncfijegmaaDoorTnO
import Derived.Test.YtjgmhncfijegmaaDoorNxT
namespace Go.Proofs.YtjgmhncfijegmaaDoor
open Go.RowKit
set_option linter.unusedVariables false

/-- The first j registers are joined. -/
def JnTo (L : List Bool) (mk a j : Nat) : Prop := L.length = 14 ∧ ∀ i, i < 14 → L[i]? = some (if i < j then mk.testBit i || a.testBit i else mk.testBit i)
/-- One of the first j registers is new. -/
def ChTo (ch : Bool) (mk a j : Nat) : Prop := ch = true ↔ ∃ i, i < j ∧ a.testBit i = true ∧ mk.testBit i = false
theorem JnTo.zero {mk a : Nat} (h0 : mk ≠ 0) : JnTo (rowB mk) mk a 0 := ⟨rowB_len h0, fun i hi => by rw [rowB_at h0 hi, if_neg (by omega)]⟩
theorem ChTo.zero {mk a : Nat} : ChTo false mk a 0 := ⟨fun e => (by cases e), fun ⟨i, h, _⟩ => absurd h (Nat.not_lt_zero _)⟩
theorem JnTo.skip {L : List Bool} {mk a j : Nat} (h : JnTo L mk a j) (e : a.testBit j = false ∨ mk.testBit j = true) : JnTo L mk a (j + 1) := ⟨h.1, fun i hi => by
  rw [h.2 i hi]
  by_cases e1 : i = j
  · subst e1
    rw [if_neg (by omega), if_pos (by omega)]
    rcases e with e | e <;> rw [e] <;> simp
  · by_cases e2 : i < j
    · rw [if_pos e2, if_pos (by omega)]
    · rw [if_neg e2, if_neg (by omega)]⟩
theorem ChTo.skip {ch : Bool} {mk a j : Nat} (h : ChTo ch mk a j) (e : a.testBit j = false ∨ mk.testBit j = true) : ChTo ch mk a (j + 1) := h.trans ⟨fun ⟨i, h1, h2⟩ => ⟨i, by omega, h2⟩, fun ⟨i, h1, h2, h3⟩ => by
  by_cases e1 : i = j
  · subst e1
    rcases e with e | e
    · rw [h2] at e; cases e
    · rw [h3] at e; cases e
  · exact ⟨i, by omega, h2, h3⟩⟩
theorem JnTo.set {L : List Bool} {mk a j : Nat} (h : JnTo L mk a j) (hj : j < 14) (e : a.testBit j = true) : JnTo (L.set j true) mk a (j + 1) := ⟨by rw [List.length_set]; exact h.1, fun i hi => by
  by_cases e1 : i = j
  · subst e1
    rw [List.getElem?_set_self (by rw [h.1]; exact hi), if_pos (by omega), e, Bool.or_true]
  · rw [List.getElem?_set_ne (fun e' => e1 e'.symm), h.2 i hi]
    by_cases e2 : i < j
    · rw [if_pos e2, if_pos (by omega)]
    · rw [if_neg e2, if_neg (by omega)]⟩
theorem ChTo.set {ch : Bool} {mk a j : Nat} (e : a.testBit j = true) (e2 : mk.testBit j = false) : ChTo true mk a (j + 1) := ⟨fun _ => ⟨j, by omega, e, e2⟩, fun _ => rfl⟩
theorem JnTo.all {L : List Bool} {mk a : Nat} (h : JnTo L mk a 14) (h14 : a.testBit 14 = true) : L = rowB (mk ||| a) :=
  rowB_ext (bit_ne (Sub.orr mk a 14 h14)) h.1 fun i hi => by rw [h.2 i hi, if_pos hi, Nat.testBit_or]
theorem ChTo.all {ch : Bool} {mk a : Nat} (h : ChTo ch mk a 14) (ha : a < 32768) (h14 : mk.testBit 14 = true) : ch = true ↔ ¬ Sub a mk := h.trans ⟨fun ⟨i, _, h1, h2⟩ hs => (by
     have := hs i h1
     rw [h2] at this
     cases this), fun hs => Classical.byContradiction fun hn => hs fun b hb => by
    by_cases h1 : b < 14
    · cases hq : mk.testBit b
      · exact absurd ⟨b, h1, hb, hq⟩ hn
      · rfl
    · by_cases h2 : b = 14
      · rw [h2]; exact h14
      · rw [bit_lt ha (by omega)] at hb; cases hb⟩

/-- The union in a new row, and whether it is new. -/
def Joined (mk a : Nat) (w : World) (e : Ending) (w' : World) : Prop := ∃ g c ch, e = .returned (.tuple #[.slice (some ⟨g, 0, none⟩) 14 c, .bool ch]) ∧ OwnB w' w.heap.size (.slice (some ⟨g, 0, none⟩) 14 c) (rowB (mk ||| a)) ∧ (ch = true ↔ ¬ Sub a mk) ∧ (rowB (mk ||| a)).length = 14 ∧ Below w.heap.size w w'

set_option maxRecDepth 100000 in
set_option maxHeartbeats 8000000 in
/-- **spec.l9Join.** -/
theorem sJoin_one (mk a : Nat) (ra ta : Option Addr) (n rc tc : Nat) (w : World) (hr : BAt w (fun b => b < w.heap.size) (rowB mk) ra) (ht : BAt w (fun b => b < w.heap.size) (rowB a) ta) (hg : Gm mk) (ha : a < 32768) (h14 : a.testBit 14 = true) (hn : (rowB mk).length = n) :
    Calls Tryd.prog 73 #[.slice ra n rc, .slice ta 14 tc] w (Joined mk a w) := by
  obtain ⟨k0, kinf, kj0, kj1, kj2⟩ := info_parts Tryd.infoB
  obtain ⟨W2, hW2⟩ : ∃ W2, w.alloc (.cells #[] 4) = W2 := ⟨_, rfl⟩
  have hB2 : Below w.heap.size w W2 := by rw [← hW2]; exact (Below.refl _ w).alloc (Nat.le_refl _) _
  have hown : W2.ownsRow w.heap.size 4 1 (.slice (some ⟨w.heap.size, 0, none⟩) 0 0) 0 [] := by rw [← hW2]; exact World.ownsRow_made w #[] 0 (Nat.le_refl _) (by unfold maxLen; omega) rfl
  have hw2 : w.heap.size ≤ W2.heap.size := hB2.size
  have HBG : Hid (∀ w6, W2.grownBy w6 (some w.heap.size) → Below w.heap.size w w6) := fun w6 hg => hB2.grown hg (by omega) (fun q e => by cases e; exact Nat.le_refl _)
  have HW2 := Lib.hid hW2
  have h0l : 14 ≠ 0 := by omega
  by_cases h0 : mk = 0
  · subst h0
    have hn0 : n = 0 := by rw [← hn]; rfl
    subst hn0
    have hnews := NewsAt.bools (ht.wide (fun q hq => hB2.block q hq) fun _ hq => hq) (rowB_len (bit_ne h14))
    have HL : Hid (((rowB a).map Value.bool).length = 14 * 1) := by show _ = _; rw [List.length_map, rowB_len (bit_ne h14)]
    have hone := one_bools (rowB a)
    have HZ : Hid (0 ||| a = a) := Nat.zero_or a
    have HLR : Hid ((rowB a).length = 14) := rowB_len (bit_ne h14)
    have HNS : Hid (¬ Sub a 0) := fun hs => by
      have := hs 14 h14
      rw [Nat.zero_testBit] at this
      cases this
    clear hr ht hg ha h14 hn hB2 hW2
    go_enter Tryd.func73, Tryd.ntmps73
    go_wp2_with (first
      | (at_builtin
         rw [HW2.out]
         refine wpList_append_any _ (by rfl) _ _ 63 (by rfl) w.heap.size 4 k0 _ 1 1 Tryd.underlying63 kinf kj0 kj1 kj2 rfl (by omega) (.slice (some ⟨w.heap.size, 0, none⟩) 0 0) 0 _ (by rfl) hown ta 14 tc _ (by rfl) HL.out hnews hone (by unfold maxLen; omega) (by omega) hw2 ?_
         intro v' w6 hap)
      | fail)
    obtain ⟨g, c, rfl, hown6, hgr⟩ := hap.some
    have HFIN : Hid (Joined 0 a w (.returned (.tuple #[.slice (some ⟨g, 0, none⟩) 14 c, .bool true])) w6) := by
      refine ⟨g, c, true, rfl, ?_, ⟨fun _ => HNS.out, fun _ => rfl⟩, by rw [HZ.out]; exact HLR.out, HBG.out w6 hgr⟩
      rw [HZ.out]
      unfold OwnB
      rw [HLR.out]
      simpa using hown6
    clear hap hown6 hgr hnews hone hown
    go_wp2_with fail
    go_ret2
    exact HFIN.out
  · have hn14 : n = 14 := by rw [← hn, rowB_len h0]
    subst hn14
    have hnews := NewsAt.bools (hr.wide (fun q hq => hB2.block q hq) fun _ hq => hq) (rowB_len h0)
    have HL : Hid (((rowB mk).map Value.bool).length = 14 * 1) := by show _ = _; rw [List.length_map, rowB_len h0]
    have hone := one_bools (rowB mk)
    have HLR : Hid ((rowB (mk ||| a)).length = 14) := rowB_len (bit_ne (Sub.orr mk a 14 h14))
    have HM0 : Hid (JnTo (rowB mk) mk a 0) := JnTo.zero h0
    have HA := Lib.hid ha
    have HA14 := Lib.hid h14
    have HMP : Hid (mk.testBit 14 = true) := hg.pos h0
    obtain ⟨tb, tO, rfl, hta⟩ := regs_at ht (bit_ne h14)
    have HT : Hid (∀ v, Below w.heap.size w v → ∀ r, r < 14 → v.cell? ⟨tb, tO + r, none⟩ = some (.bool (a.testBit r))) := fun v hv r hr' => by
      obtain ⟨b', o', e', hb', hc'⟩ := ht.2 r _ (rowB_at (bit_ne h14) hr')
      cases e'
      exact (hv.cell (p := ⟨tb, tO + r, none⟩) hb').trans hc'
    clear hr ht hg ha h14 hn hB2 hW2 h0 hta
    go_enter Tryd.func73, Tryd.ntmps73
    go_wp2_with (first
      | (at_builtin
         rw [HW2.out]
         refine wpList_append_any _ (by rfl) _ _ 63 (by rfl) w.heap.size 4 k0 _ 1 1 Tryd.underlying63 kinf kj0 kj1 kj2 rfl (by omega) (.slice (some ⟨w.heap.size, 0, none⟩) 0 0) 0 _ (by rfl) hown ra 14 rc _ (by rfl) HL.out hnews hone (by unfold maxLen; omega) (by omega) hw2 ?_
         intro v' w6 hap)
      | fail)
    obtain ⟨g, c, rfl, hown6, hgr⟩ := hap.some
    have HB6 := Lib.hid (HBG.out w6 hgr)
    have HO6 : Hid (w6.ownsRow w.heap.size 4 1 (.slice (some ⟨g, 0, none⟩) 14 c) 14 ((rowB mk).map Value.bool)) := by show World.ownsRow _ _ _ _ _ _ _; simpa using hown6
    clear hap hown6 hgr hnews hone hown HW2 HBG HL hw2
    go_loopw [7, 8] (fun ch i wr => ∃ (j : Nat) (b : Bool) (L : List Bool), j ≤ 14 ∧ i = .int .i64 j ∧ ch = .bool b ∧ Hid (JnTo L mk a j) ∧ Hid (ChTo b mk a j) ∧ Hid (wr.ownsRow w.heap.size 4 1 (.slice (some ⟨g, 0, none⟩) 14 c) 14 (L.map Value.bool)) ∧ Hid (Below w.heap.size w wr)) (fun _ i _ => 14 - (intOf i).toNat)
    case atStart => exact ⟨0, false, _, Nat.zero_le _, rfl, rfl, HM0, (ChTo.zero : ChTo false mk a 0), HO6, HB6⟩
    case round =>
      obtain ⟨j, b, L, hj, rfl, rfl, HJ, HC, HO, HB⟩ := hrel
      clear HO6 HB6
      by_cases hlt : j < 14
      · have y0 := HT.out _ HB.out j hlt
        have hjI : (j : Int) < 14 := by omega
        have y1 : wr.cell? ⟨g, j, none⟩ = some (.bool (mk.testBit j)) := by
          rw [HO.out.cellAt j (by omega), List.getElem?_map, HJ.out.2 j hlt, if_neg (by omega)]; rfl
        have f1 := HO.out.frozenAt j
        obtain ⟨p, hp⟩ : ∃ p, a.testBit j = p := ⟨_, rfl⟩
        obtain ⟨q, hq⟩ : ∃ q, mk.testBit j = q := ⟨_, rfl⟩
        have HP := Lib.hid hp
        have HQ := Lib.hid hq
        rw [hp] at y0
        rw [hq] at y1
        clear hp hq HT
        by_cases hpq : p = true ∧ q = false
        · obtain ⟨rfl, rfl⟩ := hpq
          have hst := (HO.out.stored j (.bool true)).1
          rw [← List.map_set] at hst
          have HJ2 := Lib.hid (HJ.out.set hlt HP.out)
          have HC2 : Hid (ChTo true mk a (j + 1)) := ChTo.set (ch := true) HP.out HQ.out
          have HO2 := Lib.hid hst
          have HB2 : Hid (Below w.heap.size w (wr.setCell ⟨g, j, none⟩ (.bool true))) := HB.out.setCell (p := ⟨g, j, none⟩) (HO.out.lt g rfl).1 _
          clear hst HJ HC HO HB
          go_wp2_with fail
          go_roundw
          case rel => exact ⟨j + 1, true, _, by omega, by go_num, rfl, HJ2, HC2, HO2, HB2⟩
          case measure => simp [intOf]; omega
        · have hs : a.testBit j = false ∨ mk.testBit j = true := by
            rw [HP.out, HQ.out]
            cases p <;> cases q <;> simp_all
          have HJ2 := Lib.hid (HJ.out.skip hs)
          have HC2 := Lib.hid (HC.out.skip hs)
          clear HJ HC hs
          cases p
          case false =>
            clear hpq
            go_wp2_with fail
            go_roundw
            case rel => exact ⟨j + 1, b, _, by omega, by go_num, rfl, HJ2, HC2, HO, HB⟩
            case measure => simp [intOf]; omega
          case true =>
            have hq1 : q = true := by cases q <;> simp_all
            subst hq1
            clear hpq
            go_wp2_with fail
            go_roundw
            case rel => exact ⟨j + 1, b, _, by omega, by go_num, rfl, HJ2, HC2, HO, HB⟩
            case measure => simp [intOf]; omega
      · obtain rfl : j = 14 := by omega
        have HFIN : Hid (Joined mk a w (.returned (.tuple #[.slice (some ⟨g, 0, none⟩) 14 c, .bool b])) wr) := by
          refine ⟨g, c, b, rfl, ?_, HC.out.all HA.out HMP.out, HLR.out, HB.out⟩
          have e := HJ.out.all HA14.out
          rw [← e]
          unfold OwnB
          rw [HJ.out.1]
          exact HO.out
        clear HJ HC HO HB HT
        go_wp2_with fail
        go_ret2
        exact HFIN.out

/-- Blocks of the call's own behind the map's row, but not the queue's. -/
def Frm (S : Nat) (w : World) (qv : Value) (b : Nat) : Prop := S < b ∧ b < w.heap.size ∧ qv.ownBlock ≠ some b
/-- The rows of the search: the map, the queue. -/
structure TnS (W : World) (S n : Nat) (rs q : List Nat) (qv : Value) (w : World) : Prop where
  row : ∃ L, w.ownsRow S 63 1 (.slice (some ⟨S, 0, none⟩) n n) n L ∧ ∀ (i m : Nat), rs[i]? = some m → ∃ ra rc, L[i]? = some (.slice ra (rowB m).length rc) ∧ BAt w (Frm S w qv) (rowB m) ra
  q : w.ownsRow (S + 1) 3 1 qv q.length ((natI q).map (Value.int .i64))
  bel : Below S W w
  lt : S < w.heap.size
theorem TnS.later {W : World} {S n : Nat} {rs q : List Nat} {qv : Value} {w w' : World} (h : TnS W S n rs q qv w) (hb : Below w.heap.size w w') : TnS W S n rs q qv w' := by
  have hg : w.grownBy w' none := ⟨hb.os, hb.tape, hb.output, hb.size, fun k hk _ => hb.block k hk⟩
  obtain ⟨L, h1, h2⟩ := h.row
  exact ⟨⟨L, h1.kept hg (.inr (by simp [Value.ownBlock])), fun i m hm => by
    obtain ⟨ra, rc, e1, e2⟩ := h2 i m hm
    exact ⟨ra, rc, e1, e2.wide (fun k hk => hb.block k hk.2.1) fun k hk => ⟨hk.1, Nat.lt_of_lt_of_le hk.2.1 hb.size, hk.2.2⟩⟩⟩, h.q.kept hg (by cases e : qv.ownBlock <;> simp), h.bel.trans (hb.mono (Nat.le_of_lt h.lt)), Nat.lt_of_lt_of_le h.lt hb.size⟩
theorem TnS.at {W : World} {S n : Nat} {rs q : List Nat} {qv : Value} {w : World} (h : TnS W S n rs q qv w) {i m : Nat} (hm : rs[i]? = some m) (hi : i < n) : ∃ ra rc, w.cell? ⟨S, i, none⟩ = some (.slice ra (rowB m).length rc) ∧ BAt w (Frm S w qv) (rowB m) ra ∧ w.frozen? ⟨S, i, none⟩ = false := by
  obtain ⟨L, h1, h2⟩ := h.row
  obtain ⟨ra, rc, e1, e2⟩ := h2 i m hm
  refine ⟨ra, rc, ?_, e2, h1.frozenAt i⟩
  rw [h1.cellAt i (by omega), e1]
theorem TnS.qat {W : World} {S n : Nat} {rs q : List Nat} {qa : Option Addr} {qn qc : Nat} {w : World} (h : TnS W S n rs q (.slice qa qn qc) w) {t p : Nat} (hp : q[t]? = some p) : ∃ g, qa = some ⟨g, 0, none⟩ ∧ S < g ∧ g < w.heap.size ∧ w.cell? ⟨g, t, none⟩ = some (.int .i64 (p : Int)) := by
  have ht := (List.getElem?_eq_some_iff.1 hp).1
  rcases h.q.2 with ⟨_, h2⟩ | ⟨g, cp, cur, e1, e2, e3, e4⟩
  · omega
  · cases e1
    refine ⟨g, rfl, e2, (Array.getElem?_eq_some_iff.1 e3).1, ?_⟩
    rw [h.q.cellAt t (by omega)]
    simp [natI, hp]
/-- A row is put into the map. -/
theorem TnS.put {W : World} {S n : Nat} {rs q : List Nat} {qv : Value} {w : World} (h : TnS W S n rs q qv w) {j m' : Nat} {ra : Option Addr} {rc : Nat} (hj : j < n) (hb : BAt w (Frm S w qv) (rowB m') ra) (hl : (rowB m').length = 14) : TnS W S n (rs.set j m') q qv (w.setCell ⟨S, j, none⟩ (.slice ra 14 rc)) := by
  obtain ⟨L, h1, h2⟩ := h.row
  have hst : ∀ b, b ≠ S → (w.setCell ⟨S, j, none⟩ (.slice ra 14 rc)).heap[b]? = w.heap[b]? := fun b hb => Below.heap_setCell _ _ _ _ (by simpa using hb)
  have hz : (w.setCell ⟨S, j, none⟩ (.slice ra 14 rc)).heap.size = w.heap.size := by simp [World.setCell]
  have hwd : ∀ {r : List Bool} {A : Option Addr}, BAt w (Frm S w qv) r A → BAt (w.setCell ⟨S, j, none⟩ (.slice ra 14 rc)) (Frm S (w.setCell ⟨S, j, none⟩ (.slice ra 14 rc)) qv) r A := fun hq => hq.wide (fun k hk => hst k (by have := hk.1; omega)) fun k hk => ⟨hk.1, by rw [hz]; exact hk.2.1, hk.2.2⟩
  refine ⟨⟨L.set j (.slice ra 14 rc), (h1.stored j _).1, fun i m hm => ?_⟩, ownsRow_setCell_below h.q (a := ⟨S, j, none⟩) (Nat.lt_succ_self _) _, h.bel.setCell (p := ⟨S, j, none⟩) (Nat.le_refl _) _, by rw [hz]; exact h.lt⟩
  by_cases e : i = j
  · subst e
    have hlen : rs.length > i := by
      rcases Nat.lt_or_ge i rs.length with h | h
      · exact h
      · rw [List.getElem?_eq_none (by rw [List.length_set]; omega)] at hm; cases hm
    rw [List.getElem?_set_self hlen] at hm
    cases hm
    exact ⟨ra, rc, by rw [List.getElem?_set_self (by have := h1.1; omega), hl], hwd hb⟩
  · rw [List.getElem?_set_ne (fun e' => e e'.symm)] at hm
    obtain ⟨ra', rc', e1, e2⟩ := h2 i m hm
    exact ⟨ra', rc', by rw [List.getElem?_set_ne (fun e' => e e'.symm)]; exact e1, hwd e2⟩
/-- Blocks that stand when the queue grows. -/
theorem Frm.push {S : Nat} {w w4 w5 : World} {qv v' : Value} {cs : Array Value} {T : TypeId} (h4 : w4 = w.alloc (.cells cs T)) (hg : w4.grownBy w5 qv.ownBlock) (hat : v'.ownBlock = qv.ownBlock ∨ ∃ g, v'.ownBlock = some g ∧ w.heap.size ≤ g) {b : Nat} (h : Frm S w qv b) : w5.heap[b]? = w.heap[b]? ∧ Frm S w5 v' b := by
  have hz4 : w4.heap.size = w.heap.size + 1 := by rw [h4, World.size_alloc]
  have hs := hg.size
  obtain ⟨h1, h2, h3⟩ := h
  refine ⟨?_, h1, by omega, ?_⟩
  · rw [hg.block b (by omega) (fun e => h3 e.symm), h4, Below.heap_alloc _ _ _ h2]
  · rcases hat with e | ⟨g', e, e2⟩
    · rw [e]; exact h3
    · rw [e]; intro e3; cases e3; omega

end Go.Proofs.YtjgmhncfijegmaaDoor

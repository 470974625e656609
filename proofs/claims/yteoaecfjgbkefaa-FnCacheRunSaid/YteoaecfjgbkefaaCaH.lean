/- The exact laws' helpers on caches: szCache measures, toCache makes a copy, eqCache answers whether two have the same lines, markCache and heldCache write and read marks. -/
import Derived.Test.YteoaecfjgbkefaaEvB
import Derived.Test.YteoaecfjgbkefaaSl
import Derived.Test.YteoaecfjgbkefaaSlM
import Derived.Test.YteoaecfjgbkefaaCelB
namespace Go.Proofs.Yteoaecfjgbkefaa
open Go.RowKit
set_option linter.unusedVariables false

theorem SliceI.below {w w' : World} {a : Option Addr} {n : Nat} {xs : List Int} (h : SliceI w a n xs) (hb : Below w.heap.size w w') : SliceI w' a n xs := by
  obtain ⟨h1, h2, h3⟩ := h
  refine ⟨h1, h2, fun k hk => ?_⟩
  obtain ⟨b, o, ha, hc⟩ := h3 k hk
  exact ⟨b, o, ha, (hb.cell (p := ⟨b, o + k, none⟩) (World.block_lt_of_cell? w _ hc)).trans hc⟩
theorem OwnI.lt {w : World} {base : Nat} {v : Value} {xs : List Int} (h : OwnI w base v xs) (g : Nat) (hg : v.ownBlock = some g) : base ≤ g ∧ g < w.heap.size := by
  have h1 : w.ownsRow base 3 1 v xs.length (xs.map (Value.int .i64)) := h
  exact h1.lt g hg
theorem OwnI.far {w w' : World} {base : Nat} {v : Value} {xs : List Int} (h : OwnI w base v xs) (hs : ∀ g, v.ownBlock = some g → g < w.heap.size → w'.heap[g]? = w.heap[g]?) : OwnI w' base v xs := by
  refine ⟨h.1, ?_⟩
  rcases h.2 with h1 | ⟨g, cap, cur, h1, h2, h3, r⟩
  · exact .inl h1
  · exact .inr ⟨g, cap, cur, h1, h2, (hs g (by rw [h1]; rfl) (Array.getElem?_eq_some_iff.1 h3).1).trans h3, r⟩
theorem OwnI.sl {w : World} {base n cap : Nat} {a : Option Addr} {xs : List Int} (h : OwnI w base (.slice a n cap) xs) : SliceI w a n xs ∧ xs.length = n := by
  obtain ⟨a', cap', e, h2⟩ := h.slice
  cases e
  exact ⟨h2, rfl⟩

/-- The aggregate of a cache. -/
abbrev aggCa (a : Option Addr) (n c : Nat) : Value := .agg #[.slice a n c]

/-- A box that holds a cache. -/
def BoxCa (w : World) (b : Nat) (a : Option Addr) (n c : Nat) : Prop := ∃ T, w.heap[b]? = some (.cells #[.slice a n c] T (0, 0))
theorem BoxCa.new (w : World) (a : Option Addr) (n c : Nat) (T : TypeId) : BoxCa (w.alloc (.cells #[.slice a n c] T)) w.heap.size a n c := ⟨T, heap_alloc_new w _⟩
theorem BoxCa.lt {w : World} {b n c : Nat} {a : Option Addr} (h : BoxCa w b a n c) : b < w.heap.size := by obtain ⟨T, h⟩ := h; exact (Array.getElem?_eq_some_iff.1 h).1
theorem BoxCa.later {w w' : World} {b n c : Nat} {a : Option Addr} (h : BoxCa w b a n c) (hb : w'.heap[b]? = w.heap[b]?) : BoxCa w' b a n c := by obtain ⟨T, h⟩ := h; exact ⟨T, hb.trans h⟩
theorem BoxCa.below {w w' : World} {b n c : Nat} {a : Option Addr} (h : BoxCa w b a n c) (hb : Below w.heap.size w w') : BoxCa w' b a n c := h.later (hb.block b h.lt)
theorem BoxCa.c0 {w : World} {b n c : Nat} {a : Option Addr} (h : BoxCa w b a n c) : w.cell? ⟨b, 0, none⟩ = some (.slice a n c) := by obtain ⟨T, h⟩ := h; rw [cell_at h]; rfl
theorem BoxCa.f0 {w : World} {b n c : Nat} {a : Option Addr} (h : BoxCa w b a n c) : w.frozen? ⟨b, 0, none⟩ = false := by obtain ⟨T, h⟩ := h; exact frozen_of_row _ _ 0 _ _ h

set_option maxHeartbeats 1000000 in
theorem szCa_one (a : Option Addr) (n cap : Nat) (w : World) (hn : n ≤ maxLen) :
    Calls Try.prog 37 #[aggCa a n cap, .int .i64 1048576] w (fun e w' => ∃ v : Int, e = .returned (.int .i64 v) ∧ v ≤ 1048576 ∧ -1 ≤ v ∧ (0 ≤ v → n ≤ 1048576) ∧ Below w.heap.size w w') := by
  have HB : Hid (Below w.heap.size w (w.alloc (.cells #[.slice a n cap] 47))) := (Below.refl _ w).alloc (Nat.le_refl _) _
  unfold maxLen at hn
  by_cases hneg : 1048576 < n
  · go_enter Try.func37, Try.ntmps37
    go_wp2
    go_ret
    exact ⟨-1, rfl, by omega, by omega, fun h => absurd h (by omega), HB.out⟩
  · go_enter Try.func37, Try.ntmps37
    go_wp2
    go_ret
    exact ⟨1048576 - (n : Int), rfl, by omega, by omega, fun _ => by omega, HB.out⟩

/-- A copy of a cache. -/
def CopyCa (xs : List Int) (w : World) (e : Ending) (w' : World) : Prop := ∃ a n c, e = .returned (aggCa a n c) ∧ xs.length = n ∧ OwnI w' w.heap.size (.slice a n c) xs ∧ Below w.heap.size w w'

set_option maxHeartbeats 2000000 in
theorem toCa_one (a : Option Addr) (n cap : Nat) (xs : List Int) (w : World) (h : SliceI w a n xs) (hn : n ≤ 1048576) :
    Calls Try.prog 38 #[aggCa a n cap] w (CopyCa xs w) := by
  have HS : Hid (∀ v, Below w.heap.size w v → SliceI v a n xs) := fun v hv => h.below hv
  have HL := Lib.hid h.2.1
  have HB := Lib.hid ((((Below.refl _ w).alloc (Nat.le_refl _) (.cells #[.slice a n cap] 47)).alloc (by simp) (.cells #[.slice none 0 0] 25)).alloc (by simp; omega) (.cells #[.slice none 0 0] 25))
  obtain ⟨W, hW⟩ : ∃ W, ((w.alloc (.cells #[.slice a n cap] 47)).alloc (.cells #[.slice none 0 0] 25)).alloc (.cells #[.slice none 0 0] 25) = W := ⟨_, rfl⟩
  rw [hW] at HB
  have e1 : W.heap[w.heap.size + 1]? = some (.cells #[.slice none 0 0] 25 (0, 0)) := by
    rw [← hW, Below.heap_alloc _ _ _ (by simp)]
    have := heap_alloc_new (w.alloc (.cells #[.slice a n cap] 47)) (.cells #[.slice none 0 0] 25)
    simpa using this
  have e2 : W.heap[w.heap.size + 1 + 1]? = some (.cells #[.slice none 0 0] 25 (0, 0)) := by
    rw [← hW]
    have := heap_alloc_new ((w.alloc (.cells #[.slice a n cap] 47)).alloc (.cells #[.slice none 0 0] 25)) (.cells #[.slice none 0 0] 25)
    simpa using this
  have hz : w.heap.size + 3 ≤ W.heap.size := by rw [← hW]; simp
  have HW := Lib.hid hW
  have E1 := Lib.hid e1
  have E2 := Lib.hid e2
  clear h hW e1 e2
  go_enter Try.func38, Try.ntmps38
  go_wp2_with fail
  rw [HW.out]
  refine (toInts_one a n cap xs W (HS.out _ HB.out) (by omega)).mono ?_
  rintro e w2 ⟨v, rfl, hown, hb⟩
  obtain ⟨a2, c2, rfl, _⟩ := hown.slice
  have hlen : xs.length = n := HL.out
  rw [hlen] at hown ⊢
  have hsz := hb.size
  have f1 : w2.heap[w.heap.size + 1]? = some (.cells #[.slice none 0 0] 25 (0, 0)) := (hb.block _ (by omega)).trans E1.out
  have f2 : w2.heap[w.heap.size + 1 + 1]? = some (.cells #[.slice none 0 0] 25 (0, 0)) := (hb.block _ (by omega)).trans E2.out
  have g1 := cell_at f1 0
  have g2 := cell_at f2 0
  have k1 := frozen_of_row _ _ 0 _ _ f1
  have k2 := frozen_of_row _ _ 0 _ _ f2
  have HOWN := Lib.hid hown
  have HB2 : Hid (Below w.heap.size w w2) := HB.out.trans (hb.mono (by omega))
  have R1 : Hid (((w2.setCell ⟨w.heap.size + 1 + 1, 0, none⟩ (.slice a2 n c2)).setCell ⟨w.heap.size + 1, 0, none⟩ (.slice a2 n c2)).cell? ⟨w.heap.size + 1, 0, none⟩ = some (.slice a2 n c2)) := by
    refine World.cell?_setCell_same' _ _ _ ?_
    rw [cell_set (x := .slice none 0 0) (by rw [g1]; rfl)]; rfl
  clear hown hb f1 f2
  go_wp2_with fail
  have r1 := R1.out
  refine bodyPost_ret (v := aggCa a2 n c2) (by simp [results, Try.f38, go_sem, r1]) rfl ?_
  refine ⟨a2, n, c2, rfl, HL.out, ?_, ?_⟩
  · exact (HOWN.out.mono (by omega)).far fun g hg hlt => by
      have := (HOWN.out.lt g hg).1
      rw [Below.heap_setCell _ _ _ _ (by simp; omega), Below.heap_setCell _ _ _ _ (by simp; omega)]
  · exact (HB2.out.setCell (p := ⟨w.heap.size + 1 + 1, 0, none⟩) (by simp; omega) _).setCell (p := ⟨w.heap.size + 1, 0, none⟩) (by simp) _

theorem Ans.bel {b : Bool} {w w' : World} {e : Ending} (h : Ans b w e w') : e = .returned (.bool b) ∧ Below w.heap.size w w' := by
  obtain ⟨h1, m, rfl⟩ := h
  exact ⟨h1, rfl, rfl, rfl, Nat.le_refl _, fun _ _ => rfl⟩

set_option maxHeartbeats 1000000 in
theorem eqCa_one (a a' : Option Addr) (n n' c c' : Nat) (xs ys : List Int) (w : World) (h : SliceI w a n xs) (h' : SliceI w a' n' ys) :
    Calls Try.prog 39 #[aggCa a n c, aggCa a' n' c'] w (YN (eqL xs ys) w) := by
  have HB := Lib.hid (((Below.refl _ w).alloc (Nat.le_refl _) (.cells #[.slice a n c] 25)).alloc (by simp) (.cells #[.slice a' n' c'] 25))
  have H := Lib.hid (h.below HB.out)
  have H' := Lib.hid (h'.below HB.out)
  clear h h'
  cases hq : eqL xs ys
  all_goals
    have HQ := Lib.hid hq
    clear hq
    go_enter Try.func39, Try.ntmps39
    go_wp2_with fail
    refine (eqInts_one a a' n c n' c' xs ys _ H.out H'.out).mono ?_
    rintro e w2 hA
    obtain ⟨rfl, hb⟩ := hA.bel
    rw [HQ.out]
    have HB2 : Hid (Below w.heap.size w w2) := HB.out.trans (hb.mono (by simp; omega))
    clear hA hb
    go_wp2_with fail
    go_ret
    exact YN.of rfl HB2.out

/-- The marks from k on. -/
def mkI (k : Int) (n : Nat) : List Int := (List.range n).map fun (i : Nat) => k + (i : Int)
theorem mkI_len (k : Int) (n : Nat) : (mkI k n).length = n := by simp [mkI]
theorem mkI_marked (k : Int) (n : Nat) : Marked (mkI k n) k n := fun j hj => by
  unfold mkI
  rw [List.getD_eq_getElem?_getD, List.getElem?_map, List.getElem?_range hj]; rfl
theorem mkI_all {k : Int} {n : Nat} {L : List Int} (hl : L.length = n) (h : Marked L k n) : L = mkI k n := EqUpto.all (n := n) (fun j hj => by rw [h j hj, mkI_marked k n j hj]) hl (mkI_len k n)

/-- Behind markIntS: the row holds the marks; nothing else has changed. -/
def WroteI (w : World) (base n cap : Nat) (a : Option Addr) (k : Int) (f : Ending) (w' : World) : Prop := f = .returned (.int .i64 (k + (n : Int))) ∧ OwnI w' base (.slice a n cap) (mkI k n) ∧ w'.heap.size = w.heap.size ∧ Below base w w' ∧ ∀ j, (Value.slice a n cap).ownBlock ≠ some j → w'.heap[j]? = w.heap[j]?
/-- The state of the marking loop. -/
def MkIL (w : World) (base n cap : Nat) (a : Option Addr) (k0 : Int) (c i : Value) (wr : World) : Prop := ∃ (k : Nat) (ps : List Int), k ≤ n ∧ i = .int .i64 k ∧ c = .int .i64 (k0 + (k : Int)) ∧ OwnI wr base (.slice a n cap) ps ∧ ps.length = n ∧ Marked ps k0 k ∧ wr.heap.size = w.heap.size ∧ Below base w wr ∧ ∀ j, (Value.slice a n cap).ownBlock ≠ some j → wr.heap[j]? = w.heap[j]?

set_option maxRecDepth 100000 in
set_option maxHeartbeats 2000000 in
theorem markI_one (base n cap : Nat) (a : Option Addr) (k0 : Int) (ps : List Int) (w : World) (h : OwnI w base (.slice a n cap) ps) (hpl : ps.length = n) (hn : n ≤ 1048576) (h0 : 0 ≤ k0) (h1 : k0 ≤ 1000000000) :
    Calls Try.prog 71 #[.slice a n cap, .int .i64 k0] w (WroteI w base n cap a k0) := by
  have HL : Hid (MkIL w base n cap a k0 (.int .i64 k0) (.int .i64 0) w) := ⟨0, ps, Nat.zero_le _, rfl, by simp, h, hpl, fun i hi => absurd hi (Nat.not_lt_zero _), rfl, Below.refl _ _, fun _ _ => rfl⟩
  clear h hpl
  go_enter Try.func71, Try.ntmps71
  go_wp2_with fail
  go_loopw [1, 5] (fun c i wr => MkIL w base n cap a k0 c i wr) (fun _ i _ => n - (intOf i).toNat)
  case atStart => exact HL.out
  case round =>
    obtain ⟨k, ps', hk, rfl, rfl, hrow, hlen, hdone, hsz, hbel, hst⟩ := hrel
    have HROW := Lib.hid hrow
    have HLEN := Lib.hid hlen
    have HD := Lib.hid hdone
    have HSZ := Lib.hid hsz
    have HBEL := Lib.hid hbel
    have HST := Lib.hid hst
    clear hrow hlen hdone hsz hbel hst HL
    by_cases hlt : k < n
    · have hro : wr.ownsRow base 3 1 (.slice a n cap) n (ps'.map (Value.int .i64)) := by have h1 := HROW.out; unfold OwnI at h1; rw [HLEN.out] at h1; exact h1
      obtain ⟨g, rfl, hg, cur, hblk, hcs⟩ : ∃ g, a = some ⟨g, 0, none⟩ ∧ base ≤ g ∧ ∃ cur, wr.heap[g]? = some (.cells cur 3 (0, 0)) ∧ n ≤ cur.size := by
        rcases hro.2 with ⟨e, e2⟩ | ⟨g, cap', cur, e, hb, hg, hn', hm, hc, ht⟩
        · cases e; omega
        · injection e with e1 e2 e3
          exact ⟨g, e1, hb, cur, hg, by omega⟩
      obtain ⟨u0, hu0⟩ : ∃ u, wr.cell? ⟨g, k, none⟩ = some u := ⟨_, by rw [cell_of_row _ _ _ _ _ _ hblk]; exact Array.getElem?_eq_getElem (by omega)⟩
      have f0 := frozen_of_row _ _ k _ _ hblk
      have hr6 := (hro.stored k (.int .i64 (k0 + (k : Int)))).1
      have HREL : Hid (MkIL w base n cap (some ⟨g, 0, none⟩) k0 (.int .i64 (k0 + (k : Int) + 1)) (.int .i64 ((k : Int) + 1)) (wr.setCell ⟨g, k, none⟩ (.int .i64 (k0 + (k : Int))))) := by
        have hl6 : (ps'.set k (k0 + (k : Int))).length = n := by rw [List.length_set]; exact HLEN.out
        refine ⟨k + 1, _, hlt, by go_num, by go_num, ?_, hl6, ?_, by simpa [World.setCell] using HSZ.out, HBEL.out.setCell (p := ⟨g, k, none⟩) hg _, fun j hj => ?_⟩
        · unfold OwnI
          rw [hl6, List.map_set]
          exact hr6
        · exact HD.out.set (by rw [HLEN.out]; exact hlt)
        · have hjg : j ≠ g := fun e => hj (by rw [e]; rfl)
          rw [Below.heap_setCell _ _ _ _ (by simpa using hjg)]
          exact HST.out j hj
      clear HROW hro hblk hr6 HBEL HST HD HSZ
      go_wp2_with fail
      go_roundw
      case rel => exact HREL.out
      case measure => simp [intOf]; omega
    · obtain rfl : k = n := by omega
      have HFIN : Hid (WroteI w base k cap a k0 (.returned (.int .i64 (k0 + (k : Int)))) wr) := ⟨rfl, by rw [← mkI_all HLEN.out HD.out]; exact HROW.out, HSZ.out, HBEL.out, HST.out⟩
      clear HROW HD
      go_wp2_with fail
      go_ret
      exact HFIN.out

/-- Behind markCache: the row holds the marks; blocks other than its own stand. -/
def WroteCa (w : World) (base n cap : Nat) (a : Option Addr) (k : Int) (f : Ending) (w' : World) : Prop := f = .returned (.int .i64 (k + (n : Int))) ∧ OwnI w' base (.slice a n cap) (mkI k n) ∧ w.heap.size ≤ w'.heap.size ∧ Below base w w' ∧ ∀ j, j < w.heap.size → (Value.slice a n cap).ownBlock ≠ some j → w'.heap[j]? = w.heap[j]?

set_option maxHeartbeats 1000000 in
theorem markCa_one (base n cap : Nat) (a : Option Addr) (k0 : Int) (xs : List Int) (w : World) (h : OwnI w base (.slice a n cap) xs) (hb : base ≤ w.heap.size) (hn : n ≤ 1048576) (h0 : 0 ≤ k0) (h1 : k0 ≤ 1000000000) :
    Calls Try.prog 40 #[aggCa a n cap, .int .i64 k0] w (WroteCa w base n cap a k0) := by
  have hl := h.sl.2
  have HB := Lib.hid ((Below.refl w.heap.size w).alloc (Nat.le_refl _) (.cells #[.slice a n cap] 25))
  have H := Lib.hid (h.later HB.out)
  have HL := Lib.hid hl
  clear h hl
  go_enter Try.func40, Try.ntmps40
  go_wp2_with fail
  refine (markI_one base n cap a k0 xs _ H.out HL.out hn h0 h1).mono ?_
  rintro e w2 ⟨rfl, hO, hz, hb2, hst⟩
  have HO := Lib.hid hO
  have HB2 : Hid (Below base w w2) := (HB.out.mono hb).trans hb2
  have HST : Hid (∀ j, j < w.heap.size → (Value.slice a n cap).ownBlock ≠ some j → w2.heap[j]? = w.heap[j]?) := fun j hj hne => (hst j hne).trans (HB.out.block j hj)
  clear hb2 hO hst hz
  go_wp2_with fail
  go_ret
  exact ⟨rfl, HO.out, HB2.out.size, HB2.out, HST.out⟩

set_option maxHeartbeats 1000000 in
theorem heldCa_one (n cap : Nat) (a : Option Addr) (k0 : Int) (w : World) (h : SliceI w a n (mkI k0 n)) (hn : n ≤ 1048576) (h0 : 0 ≤ k0) (h1 : k0 ≤ 1000000000) :
    Calls Try.prog 41 #[aggCa a n cap, .int .i64 k0] w (fun f w' => f = .returned (.int .i64 (k0 + (n : Int))) ∧ Below w.heap.size w w') := by
  have HB := Lib.hid ((Below.refl w.heap.size w).alloc (Nat.le_refl _) (.cells #[.slice a n cap] 25))
  have H := Lib.hid (h.below HB.out)
  clear h
  go_enter Try.func41, Try.ntmps41
  go_wp2_with fail
  refine (held_one a n cap (mkI k0 n) k0 _ H.out (mkI_marked k0 n) (by omega) h0 h1).mono ?_
  rintro e w2 ⟨rfl, rfl⟩
  have hk : ¬ (k0 + (n : Int) < 0) := by omega
  go_wp2_with fail
  go_ret
  exact ⟨rfl, HB.out⟩

end Go.Proofs.Yteoaecfjgbkefaa

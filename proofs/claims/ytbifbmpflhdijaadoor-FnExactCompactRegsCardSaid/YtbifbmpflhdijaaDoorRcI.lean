/- The program's search for the instructions that can be reached, walked: targetOf, followers, reached. -/
import Derived.Test.YtbifbmpflhdijaaDoorRcN
import Derived.Test.YtbifbmpflhdijaaDoorBlSB
import Derived.Test.YtbifbmpflhdijaaDoorAppA
namespace Go.Proofs.YtbifbmpflhdijaaDoor
open Go.RowKit
set_option linter.unusedVariables false

/-- An instruction in cells of its own. -/
def InBx (w : World) (b o : Nat) (x : Ins) : Prop := w.cell? ⟨b, o, none⟩ = some (.int .i64 x.op) ∧ w.cell? ⟨b, o + 1, none⟩ = some (.int .i64 x.fa) ∧ w.cell? ⟨b, o + 2, none⟩ = some (.int .i64 x.fb)
/-- The cell of a target. -/
def tgO (x : Ins) : Option Nat := if x.op = 8 then some 1 else if x.op = 9 ∨ x.op = 10 then some 2 else none
def tgV (x : Ins) (b o : Nat) : Value := match tgO x with | some j => .pointer (some ⟨b, o + j, none⟩) | none => .pointer none
theorem tgO_8 {x : Ins} (h8 : (x.op == 8) = true) : tgO x = some 1 := by unfold tgO; rw [if_pos (by simpa using h8)]
theorem tgO_9 {x : Ins} (h8 : (x.op == 8) = false) (h9 : (x.op == 9) = true) : tgO x = some 2 := by unfold tgO; rw [if_neg (by simpa using h8), if_pos (.inl (by simpa using h9))]
theorem tgO_10 {x : Ins} (h8 : (x.op == 8) = false) (h9 : (x.op == 10) = true) : tgO x = some 2 := by unfold tgO; rw [if_neg (by simpa using h8), if_pos (.inr (by simpa using h9))]
theorem tgO_n {x : Ins} (h8 : (x.op == 8) = false) (h9 : (x.op == 9) = false) (h10 : (x.op == 10) = false) : tgO x = none := by
  have a9 : ¬ x.op = 9 := by simpa using h9
  have a10 : ¬ x.op = 10 := by simpa using h10
  unfold tgO; rw [if_neg (by simpa using h8), if_neg (by omega)]

set_option maxRecDepth 100000 in
set_option maxHeartbeats 2000000 in
/-- **targetOf.** -/
theorem tgOf_one (b o : Nat) (x : Ins) (w : World) (h : w.cell? ⟨b, o, none⟩ = some (.int .i64 x.op)) :
    Calls Tryd.prog 134 #[.pointer (some ⟨b, o, none⟩)] w (fun e w' => e = .returned (tgV x b o) ∧ w' = w) := by
  go_enter Tryd.func134, Tryd.ntmps134
  go_wp2_with fail
  · have h8 : (x.op == 8) = true := by assumption
    go_ret
    exact ⟨by unfold tgV; rw [tgO_8 h8]; rfl, rfl⟩
  · have h8 : (x.op == 8) = false := by assumption
    have h9 : (x.op == 9) = true := by assumption
    go_ret
    exact ⟨by unfold tgV; rw [tgO_9 h8 h9]; rfl, rfl⟩
  · have h8 : (x.op == 8) = false := by assumption
    have h9 : (x.op == 10) = true := by assumption
    go_ret
    exact ⟨by unfold tgV; rw [tgO_10 h8 h9]; rfl, rfl⟩
  · have h8 : (x.op == 8) = false := by assumption
    have h9 : (x.op == 9) = false := by assumption
    have h10 : (x.op == 10) = false := by assumption
    go_ret
    exact ⟨by unfold tgV; rw [tgO_n h8 h9 h10]; rfl, rfl⟩

theorem folI_8 {l : List Ins} (h : Okc l) {i : Nat} {x : Ins} (hx : l[i]? = some x) (h8 : x.op = 8) : natI (folN x i) = [x.fa] := by
  have h1 := h.ja i x hx h8
  unfold folN natI
  rw [if_pos h8]
  simp; omega
theorem folI_9 {l : List Ins} (h : Okc l) {i : Nat} {x : Ins} (hx : l[i]? = some x) (h8 : x.op ≠ 8) (h9 : x.op = 9 ∨ x.op = 10) : natI (folN x i) = [x.fb, (i : Int) + 1] := by
  have h1 := h.jb i x hx h9
  unfold folN natI
  rw [if_neg h8, if_pos h9]
  simp; omega
theorem folI_13 {i : Nat} {x : Ins} (h13 : x.op = 13) : natI (folN x i) = [] := by
  unfold folN natI
  rw [if_neg (by omega), if_neg (by omega), if_pos h13]; rfl
theorem folI_n {i : Nat} {x : Ins} (h8 : x.op ≠ 8) (h9 : ¬ (x.op = 9 ∨ x.op = 10)) (h13 : x.op ≠ 13) : natI (folN x i) = [(i : Int) + 1] := by
  unfold folN natI
  rw [if_neg h8, if_neg h9, if_neg h13]
  simp

/-- A new row grown by one behind a literal. -/
theorem IntsNew.of {w w5 : World} {xs : List Int} {g cp : Nat} (ho : w5.ownsRow w.heap.size 3 1 (.slice (some ⟨g, 0, none⟩) xs.length cp) xs.length (xs.map (Value.int .i64))) (hb : Below w.heap.size w w5) : IntsNew xs w (.returned (.slice (some ⟨g, 0, none⟩) xs.length cp)) w5 := ⟨_, _, rfl, ho, hb⟩

set_option maxRecDepth 100000 in
set_option maxHeartbeats 4000000 in
/-- **followers.** -/
theorem fol_one (l : List Ins) (a : Option Addr) (n c : Nat) (i : Nat) (x : Ins) (w : World) (h : NAt w (fun b => b < w.heap.size) l a) (hn : l.length = n) (hok : Okc l) (hx : l[i]? = some x) :
    Calls Tryd.prog 133 #[.slice a n c, .int .i64 (i : Int)] w (IntsNew (natI (folN x i)) w) := by
  obtain ⟨k0, kinf, kj0, kj1, kj2⟩ := info_parts Tryd.infoI
  have hlt : i < n := by rw [← hn]; exact (List.getElem?_eq_some_iff.1 hx).1
  have hn400 : n ≤ 400 := by rw [← hn]; exact hok.le
  obtain ⟨b, o, rfl, hbl, e0, e1, e2, e3, e4⟩ := h.2 i x hx
  obtain ⟨W, hW⟩ : ∃ W, w.alloc (.cells #[.int .i64 x.op, .int .i64 x.fa, .int .i64 x.fb, .int .i64 x.fc, .int .i64 x.fd] 50) = W := ⟨_, rfl⟩
  have hB : Below w.heap.size w W := by rw [← hW]; exact (Below.refl _ w).alloc (Nat.le_refl _) _
  have hlw : w.heap.size < W.heap.size := by rw [← hW]; simp
  have hbx : W.heap[w.heap.size]? = some (.cells #[.int .i64 x.op, .int .i64 x.fa, .int .i64 x.fb, .int .i64 x.fc, .int .i64 x.fd] 50 (0, 0)) := by rw [← hW]; exact heap_alloc_new w _
  have x0 : W.cell? ⟨w.heap.size, 0, none⟩ = some (.int .i64 x.op) := by rw [cell_at hbx]; rfl
  have x1 : W.cell? ⟨w.heap.size, 1, none⟩ = some (.int .i64 x.fa) := by rw [cell_at hbx]; rfl
  have x2 : W.cell? ⟨w.heap.size, 2, none⟩ = some (.int .i64 x.fb) := by rw [cell_at hbx]; rfl
  have HW := Lib.hid hW
  have HB := Lib.hid hB
  have HBX := Lib.hid hbx
  have HO := Lib.hid hok
  have HX := Lib.hid hx
  clear h hn hok hx hW hB hbx
  have HT := Lib.hid (tgOf_one w.heap.size 0 x W x0)
  have hnb : ∀ k, some k ≠ (Value.slice none 0 0).ownBlock := fun k e => by cases e
  by_cases h8 : x.op = 8
  · have HF := Lib.hid (folI_8 HO.out HX.out h8)
    have ht : tgV x w.heap.size 0 = .pointer (some ⟨w.heap.size, 1, none⟩) := by unfold tgV; rw [tgO_8 (by simpa using h8)]
    have b8 : (x.op != 8) = false := by simpa using h8
    clear h8
    obtain ⟨W4, hW4⟩ : ∃ W4, W.alloc (.cells #[.int .i64 x.fa] 3) = W4 := ⟨_, rfl⟩
    have hz4 : W4.heap.size = W.heap.size + 1 := by rw [← hW4]; simp
    have hblk : W4.heap[W.heap.size]? = some (.cells #[.int .i64 x.fa] 3 (0, 0)) := by rw [← hW4]; exact heap_alloc_new W _
    have hb4 : Below w.heap.size w W4 := by rw [← hW4]; exact HB.out.alloc HB.out.size _
    have hs4 : W4.heap[w.heap.size]? = W.heap[w.heap.size]? := by rw [← hW4]; exact Below.heap_alloc _ _ _ (by omega)
    have HW4 := Lib.hid hW4
    have hown4 : W4.ownsRow w.heap.size 3 1 (.slice none 0 0) 0 [] := World.ownsRow_nil _ _ _ _
    clear hW4
    go_enter Tryd.func133, Tryd.ntmps133
    go_wp2_with (first | rw [HW.out] | fail)
    refine HT.out.mono ?_
    rintro e w2 ⟨rfl, hw2⟩
    subst hw2
    rw [ht]
    clear ht
    go_wp2_with (first
      | (at_builtin
         rw [HW4.out]
         refine wpList_append_lies _ (by rfl) _ _ 22 (by rfl) w.heap.size 3 k0 _ 1 8 Tryd.underlying22 kinf kj0 kj1 kj2 rfl (by omega) (.slice none 0 0) 0 _ (by rfl) hown4 ⟨w2.heap.size, 0, none⟩ 1 1 _ (by rfl) (by rfl) (World.news_of_block hblk) (by simp [Value.oneCell']) (by omega) (by unfold maxLen; omega) (by omega) (by omega) (w2.heap.size + 1) (by omega) ?_
         intro g cp w5 hown5 hgrow hat hlt5
         have hz5 := hgrow.size
         have hx5 := (hgrow.block w.heap.size (by omega) (hnb _)).trans (hs4.trans HBX.out)
         have y0 : w5.cell? ⟨w.heap.size, 0, none⟩ = some (.int .i64 x.op) := (by rw [cell_at hx5]; rfl)
         have HFIN : Hid (IntsNew [x.fa] w (.returned (.slice (some ⟨g, 0, none⟩) 1 cp)) w5) := IntsNew.of (xs := [x.fa]) hown5 (hb4.grown hgrow (by omega) (fun k e => (by cases e)))
         clear hown5 hgrow hat hx5)
      | fail)
    rw [HF.out]
    go_ret
    exact HFIN.out
  · have b8 : (x.op != 8) = true := by simpa using h8
    by_cases h9 : x.op = 9 ∨ x.op = 10
    · have HF := Lib.hid (folI_9 HO.out HX.out h8 h9)
      have ht : tgV x w.heap.size 0 = .pointer (some ⟨w.heap.size, 2, none⟩) := by
        unfold tgV
        rcases h9 with e | e
        · rw [tgO_9 (by simpa using h8) (by simpa using e)]
        · rw [tgO_10 (by simpa using h8) (by simpa using e)]
      have b13 : (x.op != 13) = true := by simp; omega
      clear h8 h9
      obtain ⟨W4, hW4⟩ : ∃ W4, W.alloc (.cells #[.int .i64 x.fb] 3) = W4 := ⟨_, rfl⟩
      have hz4 : W4.heap.size = W.heap.size + 1 := by rw [← hW4]; simp
      have hblk : W4.heap[W.heap.size]? = some (.cells #[.int .i64 x.fb] 3 (0, 0)) := by rw [← hW4]; exact heap_alloc_new W _
      have hb4 : Below w.heap.size w W4 := by rw [← hW4]; exact HB.out.alloc HB.out.size _
      have hs4 : W4.heap[w.heap.size]? = W.heap[w.heap.size]? := by rw [← hW4]; exact Below.heap_alloc _ _ _ (by omega)
      have HW4 := Lib.hid hW4
      have hown4 : W4.ownsRow w.heap.size 3 1 (.slice none 0 0) 0 [] := World.ownsRow_nil _ _ _ _
      clear hW4
      go_enter Tryd.func133, Tryd.ntmps133
      go_wp2_with (first | rw [HW.out] | fail)
      refine HT.out.mono ?_
      rintro e w2 ⟨rfl, hw2⟩
      subst hw2
      rw [ht]
      clear ht
      go_wp2_with (first
        | (at_builtin
           rw [HW4.out]
           refine wpList_append_lies _ (by rfl) _ _ 22 (by rfl) w.heap.size 3 k0 _ 1 8 Tryd.underlying22 kinf kj0 kj1 kj2 rfl (by omega) (.slice none 0 0) 0 _ (by rfl) hown4 ⟨w2.heap.size, 0, none⟩ 1 1 _ (by rfl) (by rfl) (World.news_of_block hblk) (by simp [Value.oneCell']) (by omega) (by unfold maxLen; omega) (by omega) (by omega) (w2.heap.size + 1) (by omega) ?_
           intro g cp w5 hown5 hgrow hat hlt5
           have hz5 := hgrow.size
           have hx5 := (hgrow.block w.heap.size (by omega) (hnb _)).trans (hs4.trans HBX.out)
           have y0 : w5.cell? ⟨w.heap.size, 0, none⟩ = some (.int .i64 x.op) := (by rw [cell_at hx5]; rfl)
           have hb5 : Below w.heap.size w w5 := hb4.grown hgrow (by omega) (fun k e => (by cases e))
           obtain ⟨W6, hW6⟩ : ∃ W6, w5.alloc (.cells #[.int .i64 ((i : Int) + 1)] 3) = W6 := ⟨_, rfl⟩
           have hz6 : W6.heap.size = w5.heap.size + 1 := (by rw [← hW6]; simp)
           have hblk6 : W6.heap[w5.heap.size]? = some (.cells #[.int .i64 ((i : Int) + 1)] 3 (0, 0)) := (by rw [← hW6]; exact heap_alloc_new w5 _)
           have hb6 : Below w.heap.size w W6 := (by rw [← hW6]; exact hb5.alloc (by omega) _)
           have hown6 : W6.ownsRow w.heap.size 3 1 (.slice (some ⟨g, 0, none⟩) 1 cp) 1 [.int .i64 x.fb] := (by rw [← hW6]; exact hown5.alloc _)
           have hgb := (hown5.lt g rfl).1
           have HW6 := Lib.hid hW6
           clear hown5 hgrow hat hx5 hW6 hown4 HW4)
        | (at_builtin
           rw [HW6.out]
           refine wpList_append_lies _ (by rfl) _ _ 22 (by rfl) w.heap.size 3 k0 _ 1 8 Tryd.underlying22 kinf kj0 kj1 kj2 rfl (by omega) (.slice (some ⟨g, 0, none⟩) 1 cp) 1 _ (by rfl) hown6 ⟨w5.heap.size, 0, none⟩ 1 1 _ (by rfl) (by rfl) (World.news_of_block hblk6) (by simp [Value.oneCell']) (by omega) (by unfold maxLen; omega) (by omega) (by omega) (w5.heap.size + 1) (by omega) ?_
           intro g2 cp2 w7 hown7 hgrow7 hat7 hlt7
           have HFIN : Hid (IntsNew [x.fb, (i : Int) + 1] w (.returned (.slice (some ⟨g2, 0, none⟩) 2 cp2)) w7) := IntsNew.of (xs := [x.fb, (i : Int) + 1]) hown7 (hb6.grown hgrow7 (by omega) (fun k e => (by cases e; exact hgb)))
           clear hown7 hgrow7 hat7)
        | fail)
      rw [HF.out]
      go_ret
      exact HFIN.out
    · have ht : tgV x w.heap.size 0 = .pointer none := by unfold tgV; rw [tgO_n (by simpa using h8) (by simp; omega) (by simp; omega)]
      by_cases h13 : x.op = 13
      · have HF := Lib.hid (folI_13 (i := i) h13)
        have b13 : (x.op != 13) = false := by simpa using h13
        have HFIN : Hid (IntsNew [] w (.returned (.slice none 0 0)) W) := ⟨_, _, rfl, World.ownsRow_nil _ _ _ _, HB.out⟩
        clear h8 h9 h13
        go_enter Tryd.func133, Tryd.ntmps133
        go_wp2_with (first | rw [HW.out] | fail)
        refine HT.out.mono ?_
        rintro e w2 ⟨rfl, hw2⟩
        subst hw2
        rw [ht]
        clear ht
        go_wp2_with fail
        rw [HF.out]
        go_ret
        exact HFIN.out
      · have HF := Lib.hid (folI_n (i := i) h8 h9 h13)
        have b13 : (x.op != 13) = true := by simpa using h13
        clear h8 h9 h13
        obtain ⟨W4, hW4⟩ : ∃ W4, W.alloc (.cells #[.int .i64 ((i : Int) + 1)] 3) = W4 := ⟨_, rfl⟩
        have hz4 : W4.heap.size = W.heap.size + 1 := by rw [← hW4]; simp
        have hblk : W4.heap[W.heap.size]? = some (.cells #[.int .i64 ((i : Int) + 1)] 3 (0, 0)) := by rw [← hW4]; exact heap_alloc_new W _
        have hb4 : Below w.heap.size w W4 := by rw [← hW4]; exact HB.out.alloc HB.out.size _
        have HW4 := Lib.hid hW4
        have hown4 : W4.ownsRow w.heap.size 3 1 (.slice none 0 0) 0 [] := World.ownsRow_nil _ _ _ _
        clear hW4
        go_enter Tryd.func133, Tryd.ntmps133
        go_wp2_with (first | rw [HW.out] | fail)
        refine HT.out.mono ?_
        rintro e w2 ⟨rfl, hw2⟩
        subst hw2
        rw [ht]
        clear ht
        go_wp2_with (first
          | (at_builtin
             rw [HW4.out]
             refine wpList_append_lies _ (by rfl) _ _ 22 (by rfl) w.heap.size 3 k0 _ 1 8 Tryd.underlying22 kinf kj0 kj1 kj2 rfl (by omega) (.slice none 0 0) 0 _ (by rfl) hown4 ⟨w2.heap.size, 0, none⟩ 1 1 _ (by rfl) (by rfl) (World.news_of_block hblk) (by simp [Value.oneCell']) (by omega) (by unfold maxLen; omega) (by omega) (by omega) (w2.heap.size + 1) (by omega) ?_
             intro g cp w5 hown5 hgrow hat hlt5
             have HFIN : Hid (IntsNew [(i : Int) + 1] w (.returned (.slice (some ⟨g, 0, none⟩) 1 cp)) w5) := IntsNew.of (xs := [(i : Int) + 1]) hown5 (hb4.grown hgrow (by omega) (fun k e => (by cases e)))
             clear hown5 hgrow hat)
          | fail)
        rw [HF.out]
        go_ret
        exact HFIN.out

end Go.Proofs.YtbifbmpflhdijaaDoor

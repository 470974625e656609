/- The model's l8Target, l8Aim and l8Final, walked. -/
import Derived.Test.YtodihpnnajlkdaaDoorThP
import Derived.Test.YtodihpnnajlkdaaDoorCvU
import Derived.Test.YtodihpnnajlkdaaDoorPut
import Derived.Test.YtodihpnnajlkdaaDoorCpC
import Derived.Deep.RegionWith
import Derived.Test.YtodihpnnajlkdaaDoorTrP
import Derived.Test.YtodihpnnajlkdaaDoorRcS
import Derived.Deep.RegionHeld3
import Derived.Deep.CutRange
import Derived.Deep.AppendLies
namespace Go.Proofs.YtodihpnnajlkdaaDoor
open Go.RowKit
set_option linter.unusedVariables false

abbrev aggI (x : Ins) : Value := .agg #[.int .i64 x.op, .int .i64 x.fa, .int .i64 x.fb, .int .i64 x.fc, .int .i64 x.fd]
/-- The target of an instruction, or -1. -/
def tgZ (x : Ins) : Int := if x.op = 8 then x.fa else if x.op = 9 ∨ x.op = 10 then x.fb else -1

set_option maxRecDepth 100000 in
set_option maxHeartbeats 2000000 in
/-- **l8Target.** -/
theorem l8Tg_one (x : Ins) (w : World) :
    Calls Tryd.prog 39 #[aggI x] w (fun e w' => e = .returned (.int .i64 (tgZ x)) ∧ Below w.heap.size w w') := by
  have HB := Lib.hid ((Below.refl w.heap.size w).alloc (Nat.le_refl _) (.cells #[.int .i64 x.op, .int .i64 x.fa, .int .i64 x.fb, .int .i64 x.fc, .int .i64 x.fd] 46))
  by_cases h8 : x.op = 8
  · have HE : Hid (tgZ x = x.fa) := by have : tgZ x = x.fa := by unfold tgZ; rw [if_pos h8]
                                       exact this
    have b8 : (x.op == 8) = true := by simpa using h8
    clear h8
    go_enter Tryd.func39, Tryd.ntmps39
    go_wp2_with fail
    rw [HE.out]
    go_ret
    exact ⟨rfl, HB.out⟩
  · have b8 : (x.op == 8) = false := by simpa using h8
    by_cases h9 : x.op = 9 ∨ x.op = 10
    · have HE : Hid (tgZ x = x.fb) := by have : tgZ x = x.fb := by unfold tgZ; rw [if_neg h8, if_pos h9]
                                         exact this
      rcases h9 with e | e
      · have b9 : (x.op == 9) = true := by simpa using e
        clear h8 e
        go_enter Tryd.func39, Tryd.ntmps39
        go_wp2_with fail
        rw [HE.out]
        go_ret
        exact ⟨rfl, HB.out⟩
      · have b9 : (x.op == 9) = false := by simp; omega
        have b10 : (x.op == 10) = true := by simpa using e
        clear h8 e
        go_enter Tryd.func39, Tryd.ntmps39
        go_wp2_with fail
        rw [HE.out]
        go_ret
        exact ⟨rfl, HB.out⟩
    · have HE : Hid (tgZ x = -1) := by have : tgZ x = -1 := by unfold tgZ; rw [if_neg h8, if_neg h9]
                                       exact this
      have b9 : (x.op == 9) = false := by simp; omega
      have b10 : (x.op == 10) = false := by simp; omega
      clear h8 h9
      go_enter Tryd.func39, Tryd.ntmps39
      go_wp2_with fail
      rw [HE.out]
      go_ret
      exact ⟨rfl, HB.out⟩

set_option maxRecDepth 100000 in
set_option maxHeartbeats 4000000 in
/-- **l8Final.** -/
theorem l8Final_one (m : Cd) (k : CK) (t : Nat) (w : World) (h : CL w m k) (hok : Okc m.list) (ht : t < m.list.length) :
    Calls Tryd.prog 75 #[aggC m k, .int .i64 (t : Int)] w (fun e w' => e = .returned (.int .i64 (finL m.list t : Int)) ∧ Below w.heap.size w w') := by
  obtain ⟨W, hW⟩ : ∃ W, w.alloc (.cells (arrC m k) 30) = W := ⟨_, rfl⟩
  have hB : Below w.heap.size w W := by rw [← hW]; exact (Below.refl _ w).alloc (Nat.le_refl _) _
  have hX : BoxC W w.heap.size m k := by rw [← hW]; exact BoxC.new _ _ _ _
  have c2 := hX.c2
  obtain ⟨n, hn⟩ : ∃ n, m.list.length = n := ⟨_, rfl⟩
  have hle := hok.le
  rw [hn] at c2 ht hle
  have HN := Lib.hid hn
  have HO := Lib.hid hok
  have HB := Lib.hid hB
  have HW := Lib.hid hW
  have HAT : Hid (∀ i, i < n → ∃ (x : Ins) (b o : Nat), m.list[i]? = some x ∧ k.la = some ⟨b, o, none⟩ ∧ W.cell? ⟨b, o + i * 5, none⟩ = some (.int .i64 x.op) ∧ W.cell? ⟨b, o + i * 5 + 1, none⟩ = some (.int .i64 x.fa)) := fun i hi => by
    obtain ⟨x, b, o, hx, ha, hbl, e0, e1, _⟩ := h.at (by rw [hn]; exact hi)
    exact ⟨x, b, o, hx, ha, (hB.cell (p := ⟨b, o + i * 5, none⟩) hbl).trans e0, (hB.cell (p := ⟨b, o + i * 5 + 1, none⟩) hbl).trans e1⟩
  unfold arrC at HW
  clear h hok hB hX hW hn
  go_enter Tryd.func75, Tryd.ntmps75
  go_wp2_with (first | rw [HW.out] | fail)
  go_loopw [5, 6] (fun x c wr => ∃ j : Nat, j ≤ n ∧ c = .int .i64 j ∧ x = .int .i64 (chase m.list j t : Int) ∧ wr = W) (fun _ c _ => n - (intOf c).toNat)
  case atStart => exact ⟨0, Nat.zero_le _, rfl, rfl, by first | rfl | trivial⟩
  case round =>
    obtain ⟨j, hj, rfl, rfl, rfl⟩ := hrel
    have hcl : chase m.list j t < n := by rw [← HN.out]; exact chase_lt HO.out j (by rw [HN.out]; exact ht)
    obtain ⟨x, b, o, hx, ha, e0, e1⟩ := HAT.out _ hcl
    obtain ⟨p, hp⟩ : ∃ p, chase m.list j t = p := ⟨_, rfl⟩
    have HP := Lib.hid hp
    rw [ha] at c2
    rw [hp] at hcl hx e0 e1 ⊢
    have HX := Lib.hid hx
    clear hp hx ha HAT
    by_cases h8 : x.op = 8
    · have b8 : (x.op == 8) = true := by simpa using h8
      have HJ : Hid (jB m.list p = true) := by rw [jB_at HX.out]; exact b8
      by_cases hlt : j < n
      · have HNX : Hid (x.fa = (chase m.list (j + 1) t : Int)) := by
          have h1 := HO.out.ja p x HX.out h8
          show x.fa = ((nxJ m.list (chase m.list j t) : Nat) : Int)
          rw [HP.out, nxJ_at HX.out h8]; omega
        clear h8
        go_wp2_with fail
        go_roundw
        case rel => exact ⟨j + 1, by omega, by go_num, by rw [← HNX.out], by first | rfl | trivial⟩
        case measure => simp [intOf]; omega
      · obtain rfl : j = n := by omega
        have HF : Hid (finL m.list t = t) := finL_go (by rw [HN.out, HP.out]; exact HJ.out)
        clear h8
        go_wp2_with fail
        rw [HF.out]
        go_ret
        exact ⟨rfl, HB.out⟩
    · have b8 : (x.op == 8) = false := by simpa using h8
      have HF : Hid (finL m.list t = p) := by
        have : finL m.list t = p := by
          rw [finL_stop (k := j) (by rw [HN.out]; exact hj) (by rw [HP.out, jB_at HX.out]; exact b8), HP.out]
        exact this
      clear h8
      by_cases hlt : j < n
      · go_wp2_with fail
        rw [HF.out]
        go_ret
        exact ⟨rfl, HB.out⟩
      · obtain rfl : j = n := by omega
        go_wp2_with fail
        rw [HF.out]
        go_ret
        exact ⟨rfl, HB.out⟩

/-- **l8Aim.** -/
def aimN (x : Ins) (t : Int) : Ins := if x.op = 8 then ⟨x.op, t, x.fb, x.fc, x.fd⟩ else if x.op = 9 ∨ x.op = 10 then ⟨x.op, x.fa, t, x.fc, x.fd⟩ else x

set_option maxRecDepth 100000 in
set_option maxHeartbeats 4000000 in
theorem l8Aim_one (x : Ins) (t : Int) (w : World) :
    Calls Tryd.prog 40 #[aggI x, .int .i64 t] w (fun e w' => e = .returned (aggI (aimN x t)) ∧ Below w.heap.size w w') := by
  have hb : ∀ (A B : Array Value), Below w.heap.size w ((w.alloc (.cells A 46)).alloc (.cells B 46)) := fun A B => ((Below.refl _ w).alloc (Nat.le_refl _) _).alloc (by simp) _
  have HB := Lib.hid hb
  clear hb
  by_cases h8 : x.op = 8
  · have HE : Hid (aimN x t = ⟨x.op, t, x.fb, x.fc, x.fd⟩) := by
      have : aimN x t = ⟨x.op, t, x.fb, x.fc, x.fd⟩ := by unfold aimN; rw [if_pos h8]
      exact this
    have b8 : (x.op == 8) = true := by simpa using h8
    have b9 : (x.op == 9) = false := by simp; omega
    have b10 : (x.op == 10) = false := by simp; omega
    clear h8
    go_enter Tryd.func40, Tryd.ntmps40
    go_wp2_with fail
    rw [HE.out]
    refine bodyPost_ret (v := aggI ⟨x.op, t, x.fb, x.fc, x.fd⟩) (by simp [results, Tryd.f40, go_sem]) rfl ?_
    exact ⟨rfl, HB.out _ _⟩
  · have b8 : (x.op == 8) = false := by simpa using h8
    by_cases h9 : x.op = 9 ∨ x.op = 10
    · have HE : Hid (aimN x t = ⟨x.op, x.fa, t, x.fc, x.fd⟩) := by
        have : aimN x t = ⟨x.op, x.fa, t, x.fc, x.fd⟩ := by unfold aimN; rw [if_neg h8, if_pos h9]
        exact this
      rcases h9 with e | e
      · have b9 : (x.op == 9) = true := by simpa using e
        have b10 : (x.op == 10) = false := by simp; omega
        clear h8 e
        go_enter Tryd.func40, Tryd.ntmps40
        go_wp2_with fail
        rw [HE.out]
        refine bodyPost_ret (v := aggI ⟨x.op, x.fa, t, x.fc, x.fd⟩) (by simp [results, Tryd.f40, go_sem]) rfl ?_
        exact ⟨rfl, HB.out _ _⟩
      · have b9 : (x.op == 9) = false := by simp; omega
        have b10 : (x.op == 10) = true := by simpa using e
        clear h8 e
        go_enter Tryd.func40, Tryd.ntmps40
        go_wp2_with fail
        rw [HE.out]
        refine bodyPost_ret (v := aggI ⟨x.op, x.fa, t, x.fc, x.fd⟩) (by simp [results, Tryd.f40, go_sem]) rfl ?_
        exact ⟨rfl, HB.out _ _⟩
    · have HE : Hid (aimN x t = x) := by
        have : aimN x t = x := by unfold aimN; rw [if_neg h8, if_neg h9]
        exact this
      have b9 : (x.op == 9) = false := by simp; omega
      have b10 : (x.op == 10) = false := by simp; omega
      clear h8 h9
      go_enter Tryd.func40, Tryd.ntmps40
      go_wp2_with fail
      rw [HE.out]
      refine bodyPost_ret (v := aggI x) (by simp [results, Tryd.f40, go_sem]) rfl ?_
      exact ⟨rfl, HB.out _ _⟩

end Go.Proofs.YtodihpnnajlkdaaDoor

namespace Go.Proofs.YtodihpnnajlkdaaDoor
open Go.RowKit
set_option linter.unusedVariables false

theorem aimN_re {l : List Ins} {x : Ins} {t : Nat} (h : tgZ x = (t : Int)) : aimN x (finL l t : Int) = reT (finL l) x := by
  unfold tgZ at h
  unfold aimN reT
  split
  · rename_i h8
    rw [if_pos h8] at h
    rw [h]; rfl
  · rename_i h8
    rw [if_neg h8] at h
    split
    · rename_i h9
      rw [if_pos h9] at h
      rw [h]; rfl
    · rfl
theorem tgZ_ok {l : List Ins} (h : Okc l) {i : Nat} {x : Ins} (hx : l[i]? = some x) : (∃ t : Nat, tgZ x = (t : Int) ∧ t < l.length) ∨ (tgZ x = -1 ∧ ∀ f, reT f x = x) := by
  unfold tgZ
  by_cases h8 : x.op = 8
  · have h1 := h.ja i x hx h8
    rw [if_pos h8]
    exact .inl ⟨x.fa.toNat, by omega, by omega⟩
  · rw [if_neg h8]
    by_cases h9 : x.op = 9 ∨ x.op = 10
    · have h1 := h.jb i x hx h9
      rw [if_pos h9]
      exact .inl ⟨x.fb.toNat, by omega, by omega⟩
    · rw [if_neg h9]
      exact .inr ⟨rfl, fun f => reT_n h8 h9⟩
/-- A row of instructions with one written anew. -/
theorem flat5_set {w : World} {base g n c k : Nat} {ys : List Ins} (hro : w.ownsRow base 46 5 (.slice (some ⟨g, 0, none⟩) n c) n (flatN ys)) (hl : ys.length = n) (hk : k < n) (y : Ins) :
    (((((w.setCell ⟨g, k * 5, none⟩ (.int .i64 y.op)).setCell ⟨g, k * 5 + 1, none⟩ (.int .i64 y.fa)).setCell ⟨g, k * 5 + 2, none⟩ (.int .i64 y.fb)).setCell ⟨g, k * 5 + 3, none⟩ (.int .i64 y.fc)).setCell ⟨g, k * 5 + 4, none⟩ (.int .i64 y.fd)).ownsRow base 46 5 (.slice (some ⟨g, 0, none⟩) n c) n (flatN (ys.set k y)) := by
  have h5 := (((((hro.stored (k * 5) (.int .i64 y.op)).1.stored (k * 5 + 1) (.int .i64 y.fa)).1.stored (k * 5 + 2) (.int .i64 y.fb)).1.stored (k * 5 + 3) (.int .i64 y.fc)).1.stored (k * 5 + 4) (.int .i64 y.fd)).1
  rw [flatN_set ys k y (by rw [hl]; exact hk)] at h5
  exact h5
theorem set5_oth (w : World) (g o j : Nat) (n0 n1 n2 n3 n4 : Value) (h : j ≠ g) : (((((w.setCell ⟨g, o, none⟩ n0).setCell ⟨g, o + 1, none⟩ n1).setCell ⟨g, o + 2, none⟩ n2).setCell ⟨g, o + 3, none⟩ n3).setCell ⟨g, o + 4, none⟩ n4).heap[j]? = w.heap[j]? := by
  rw [Below.heap_setCell _ _ _ _ (by simpa using h), Below.heap_setCell _ _ _ _ (by simpa using h), Below.heap_setCell _ _ _ _ (by simpa using h), Below.heap_setCell _ _ _ _ (by simpa using h), Below.heap_setCell _ _ _ _ (by simpa using h)]

theorem cell_oth {v X : World} {g o : Nat} {a : Value} (h1 : X.heap[g]? = v.heap[g]?) (hf : v.cell? ⟨g, o, none⟩ = some a) : X.cell? ⟨g, o, none⟩ = some a := (World.cell?_of_block (w := v) (a := ⟨g, o, none⟩) h1).trans hf
/-- What the loop reads: the code's box, the copy's list, the instruction. -/
def ThF (wb ob i : Nat) (m : Cd) (k k' : CK) (n b o : Nat) (x : Ins) (v : World) : Prop := (v.cell? ⟨wb, 0, none⟩ = some (.slice k.va m.vars.length k.vc) ∧ v.cell? ⟨wb, 1, none⟩ = some (.slice k.aa m.arrs.length k.ac) ∧ v.cell? ⟨wb, 2, none⟩ = some (.slice (some ⟨b, o, none⟩) n k.lc)) ∧ v.cell? ⟨ob, 2, none⟩ = some (.slice k'.la n k'.lc) ∧ v.cell? ⟨b, o + i * 5, none⟩ = some (.int .i64 x.op) ∧ v.cell? ⟨b, o + i * 5 + 1, none⟩ = some (.int .i64 x.fa) ∧ v.cell? ⟨b, o + i * 5 + 2, none⟩ = some (.int .i64 x.fb) ∧ v.cell? ⟨b, o + i * 5 + 3, none⟩ = some (.int .i64 x.fc) ∧ v.cell? ⟨b, o + i * 5 + 4, none⟩ = some (.int .i64 x.fd)
theorem ThF.stand {wb ob i : Nat} {m : Cd} {k k' : CK} {n b o : Nat} {x : Ins} {v v' : World} (h : ThF wb ob i m k k' n b o x v) (h1 : v'.heap[wb]? = v.heap[wb]?) (h2 : v'.heap[ob]? = v.heap[ob]?) (h3 : v'.heap[b]? = v.heap[b]?) : ThF wb ob i m k k' n b o x v' := by
  obtain ⟨⟨a0, a1, a2⟩, a3, a4, a5, a6, a7, a8⟩ := h
  have q1 : ∀ {j : Nat} {u : Value}, v.cell? ⟨wb, j, none⟩ = some u → v'.cell? ⟨wb, j, none⟩ = some u := fun q => (World.cell?_of_block (w := v) h1).trans q
  have q2 : ∀ {j : Nat} {u : Value}, v.cell? ⟨ob, j, none⟩ = some u → v'.cell? ⟨ob, j, none⟩ = some u := fun q => (World.cell?_of_block (w := v) h2).trans q
  have q3 : ∀ {j : Nat} {u : Value}, v.cell? ⟨b, j, none⟩ = some u → v'.cell? ⟨b, j, none⟩ = some u := fun q => (World.cell?_of_block (w := v) h3).trans q
  exact ⟨⟨q1 a0, q1 a1, q1 a2⟩, q2 a3, q3 a4, q3 a5, q3 a6, q3 a7, q3 a8⟩

/-- The state of the loop. -/
def ThL (m : Cd) (k' : CK) (W2 : World) (ob : Nat) (i : Value) (wr : World) : Prop := ∃ (j : Nat) (ys : List Ins), j ≤ m.list.length ∧ i = .int .i64 (j : Int) ∧ ReTo (finL m.list) m.list ys j ∧ OwnC wr W2.heap.size ⟨m.vars, m.arrs, ys⟩ k' ∧ BoxC wr ob m k' ∧ Below W2.heap.size W2 wr

set_option maxRecDepth 100000 in
set_option maxHeartbeats 8000000 in
/-- **l8Thread.** -/
theorem l8Thr_one (m : Cd) (k : CK) (w : World) (h : CL w m k) (hs : CSm m) (hok : Okc m.list) :
    Calls Tryd.prog 49 #[aggC m k] w (CopyCO ⟨m.vars, m.arrs, thrL m.list⟩ w) := by
  obtain ⟨W, hW⟩ : ∃ W, (w.alloc (.cells (arrC m k) 30)).alloc (.cells #[.slice none 0 0, .slice none 0 0, .slice none 0 0] 30) = W := ⟨_, rfl⟩
  have hB : Below w.heap.size w W := by rw [← hW]; exact ((Below.refl _ w).alloc (Nat.le_refl _) _).alloc (by simp) _
  have hX : BoxC W w.heap.size m k := by rw [← hW]; exact (BoxC.new w m k _).later (Below.heap_alloc _ _ _ (by simp))
  have hE : W.heap[w.heap.size + 1]? = some (.cells #[.slice none 0 0, .slice none 0 0, .slice none 0 0] 30 (0, 0)) := by
    have e1 := heap_alloc_new (w.alloc (.cells (arrC m k) 30)) (.cells #[.slice none 0 0, .slice none 0 0, .slice none 0 0] 30)
    rw [World.size_alloc] at e1
    rw [← hW]; exact e1
  have hlw : w.heap.size + 1 < W.heap.size := (Array.getElem?_eq_some_iff.1 hE).1
  have hle := hok.le
  have hCW := h.below hB
  have HX : Hid (∀ v, Below W.heap.size W v → BoxC v w.heap.size m k) := fun v hv => hX.below hv hX.lt
  have HE : Hid (∀ v, Below W.heap.size W v → v.heap[w.heap.size + 1]? = some (.cells #[.slice none 0 0, .slice none 0 0, .slice none 0 0] 30 (0, 0))) := fun v hv => (hv.block _ hlw).trans hE
  have HCL : Hid (∀ v, Below W.heap.size W v → CL v m k) := fun v hv => hCW.below hv
  have HCW := Lib.hid hCW
  have HCP := Lib.hid (cpCode m k W hCW hs)
  have HB := Lib.hid hB
  have HW := Lib.hid hW
  have HO := Lib.hid hok
  unfold arrC at HW
  have x0 := hX.c0
  have x1 := hX.c1
  have x2 := hX.c2
  clear h hs hW hB hX hE hCW hok
  go_enter Tryd.func49, Tryd.ntmps49
  go_wp2_with (first | rw [HW.out] | fail)
  refine HCP.out.mono ?_
  rintro e w1 ⟨k', rfl, ho1, hb1⟩
  obtain ⟨W2, hW2⟩ : ∃ W2, w1.alloc (.cells (arrC m k') 30) = W2 := ⟨_, rfl⟩
  have hb2 : Below w1.heap.size w1 W2 := by rw [← hW2]; exact (Below.refl _ w1).alloc (Nat.le_refl _) _
  have hX2 : BoxC W2 w1.heap.size m k' := by rw [← hW2]; exact BoxC.new _ _ _ _
  have HL0 : Hid (ThL m k' W w1.heap.size (.int .i64 0) W2) := ⟨0, m.list, Nat.zero_le _, rfl, ReTo.start _ _, ho1.stand fun g _ hg => hb2.block g hg, hX2, hb1.trans (hb2.mono hb1.size)⟩
  have hobW : W.heap.size ≤ w1.heap.size := hb1.size
  have HW2 := Lib.hid hW2
  have HOL : Hid (∀ g, blk k'.la m.list.length = some g → g < w1.heap.size) := fun g hg => (ho1.l.lt g hg).2
  unfold arrC at HW2
  obtain ⟨n, hn⟩ : ∃ n, m.list.length = n := ⟨_, rfl⟩
  have HN := Lib.hid hn
  rw [hn] at hle
  have g0 := hX2.c0
  have g1 := hX2.c1
  have g2 := hX2.c2
  obtain ⟨ob, hob⟩ : ∃ ob, w1.heap.size = ob := ⟨_, rfl⟩
  rw [hob] at HL0 hobW HOL
  have HOB := Lib.hid hob
  clear ho1 hb1 hb2 hX2 hW2 hn hob g0 g1 g2 x0 x1 x2 HCP
  go_wp2_with (first | rw [HW2.out] | fail)
  try rw [HW2.out]
  rw [HOB.out]
  clear HW2 HW
  go_loopw [4] (fun i wr => ThL m k' W ob i wr) (fun i _ => n - (intOf i).toNat)
  case atStart => exact HL0.out
  case round =>
    obtain ⟨i, ys, hi, rfl, hre, how, hbx, hb⟩ := hrel
    rw [HN.out] at hi
    have HRE := Lib.hid hre
    have HOW := Lib.hid how
    have HBX := Lib.hid hbx
    have HBR := Lib.hid hb
    have b2 := hbx.c2
    have c0 := (HX.out wr hb).c0
    have c1 := (HX.out wr hb).c1
    have c2 := (HX.out wr hb).c2
    rw [HN.out] at b2 c2
    clear hre how hbx hb HL0
    by_cases hlt : i < n
    · obtain ⟨x, b, o, hx, ha, hbl, e0, e1, e2, e3, e4⟩ := HCW.out.at (i := i) (by rw [HN.out]; exact hlt)
      rw [ha] at c2
      have HF : Hid (ThF w.heap.size ob i m k k' n b o x wr) := by
        have hw0 : w.heap.size < W.heap.size := by omega
        have q : ∀ {j : Nat} {u : Value}, W.cell? ⟨b, j, none⟩ = some u → wr.cell? ⟨b, j, none⟩ = some u := fun e => (World.cell?_of_block (w := W) (HBR.out.block b hbl)).trans e
        exact ⟨⟨c0, c1, c2⟩, b2, q e0, q e1, q e2, q e3, q e4⟩
      have hobr : ob < wr.heap.size := HBX.out.lt
      have hWr := HBR.out.size
      have HFB : Hid (∀ v, Below wr.heap.size wr v → ThF w.heap.size ob i m k k' n b o x v) := fun v hv => HF.out.stand (hv.block _ (by omega)) (hv.block _ hobr) (hv.block _ (by omega))
      obtain ⟨_, _, r0, r1, r2, r3, r4⟩ := HF.out
      have HXX := Lib.hid hx
      have HT5 := Lib.hid (l8Tg_one x wr)
      clear e0 e1 e2 e3 e4 hx
      go_wp2_with fail
      refine HT5.out.mono ?_
      rintro e w2 ⟨rfl, hb2⟩
      have HB2 := Lib.hid hb2
      clear r0 r1 r2 r3 r4 c0 c1 c2 b2 HT5 hb2
      rcases tgZ_ok HO.out HXX.out with ⟨t, htz, htl⟩ | ⟨htz, hsame⟩
      · rw [HN.out] at htl
        rw [htz]
        have hO2 : OwnC w2 W.heap.size ⟨m.vars, m.arrs, ys⟩ k' := HOW.out.stand fun g _ hg => HB2.out.block g hg
        have hyl : ys.length = n := HRE.out.1.trans HN.out
        have hro2 : w2.ownsRow W.heap.size 46 5 (.slice k'.la n k'.lc) n (flatN ys) := by
          rcases hO2.l with ⟨e, _⟩ | ⟨_, e⟩
          · exact absurd (show ys.length = 0 from e) (by omega)
          · have e' : w2.ownsRow W.heap.size 46 5 (.slice k'.la ys.length k'.lc) ys.length (flatN ys) := e
            rw [hyl] at e'
            exact e'
        obtain ⟨g, hag, hgW⟩ : ∃ g, k'.la = some ⟨g, 0, none⟩ ∧ W.heap.size ≤ g := by
          rcases hro2.2 with ⟨_, e⟩ | ⟨g, cp, cur, e, hg, _⟩
          · omega
          · injection e with e1 e2 e3
            exact ⟨g, e1, hg⟩
        have hgob : g < ob := HOL.out g (by rw [HN.out, blk_pos (c := k'.lc) (by omega), hag]; rfl)
        have HRO2 := Lib.hid hro2
        have HAG := Lib.hid hag
        have hSS2 : ThF w.heap.size ob i m k k' n b o x w2 := HFB.out w2 HB2.out
        obtain ⟨⟨c0, c1, c2⟩, b2, r0, r1, r2, r3, r4⟩ := hSS2
        rw [hag] at b2 HRO2
        have HSD : Hid (∀ v, Below w2.heap.size w2 v → v.cell? ⟨w.heap.size, 0, none⟩ = some (.slice k.va m.vars.length k.vc) ∧ v.cell? ⟨w.heap.size, 1, none⟩ = some (.slice k.aa m.arrs.length k.ac) ∧ v.cell? ⟨w.heap.size, 2, none⟩ = some (.slice (some ⟨b, o, none⟩) n k.lc) ∧ v.cell? ⟨ob, 2, none⟩ = some (.slice (some ⟨g, 0, none⟩) n k'.lc) ∧ v.cell? ⟨b, o + i * 5, none⟩ = some (.int .i64 x.op) ∧ v.cell? ⟨b, o + i * 5 + 1, none⟩ = some (.int .i64 x.fa) ∧ v.cell? ⟨b, o + i * 5 + 2, none⟩ = some (.int .i64 x.fb) ∧ v.cell? ⟨b, o + i * 5 + 3, none⟩ = some (.int .i64 x.fc) ∧ v.cell? ⟨b, o + i * 5 + 4, none⟩ = some (.int .i64 x.fd)) := fun v hv => by
          obtain ⟨⟨a0, a1, a2⟩, a3, a4, a5, a6, a7, a8⟩ := HFB.out v (HB2.out.trans (hv.mono HB2.out.size))
          rw [hag] at a3
          exact ⟨a0, a1, a2, a3, a4, a5, a6, a7, a8⟩
        have hz2 := HB2.out.size
        have HFN : Hid (∀ v, Below w2.heap.size w2 v → Calls Tryd.prog 75 #[.agg #[.slice k.va m.vars.length k.vc, .slice k.aa m.arrs.length k.ac, .slice (some ⟨b, o, none⟩) n k.lc], .int .i64 (t : Int)] v (fun e w' => e = .returned (.int .i64 (finL m.list t : Int)) ∧ Below v.heap.size v w')) := fun v hv => by
          have h9 := l8Final_one m k t v (HCL.out v (HBR.out.trans ((HB2.out.trans (hv.mono hz2)).mono hWr))) HO.out (by rw [HN.out]; exact htl)
          unfold aggC at h9
          rw [HN.out, ha] at h9
          exact h9
        have HTG : Hid (∀ v, Calls Tryd.prog 39 #[.agg #[.int .i64 x.op, .int .i64 x.fa, .int .i64 x.fb, .int .i64 x.fc, .int .i64 x.fd]] v (fun e w' => e = .returned (.int .i64 (t : Int)) ∧ Below v.heap.size v w')) := fun v => by
          have h9 := l8Tg_one x v
          rw [htz] at h9
          exact h9
        have HAM : Hid (∀ v, Calls Tryd.prog 40 #[.agg #[.int .i64 x.op, .int .i64 x.fa, .int .i64 x.fb, .int .i64 x.fc, .int .i64 x.fd], .int .i64 (finL m.list t : Int)] v (fun e w' => e = .returned (aggI (reT (finL m.list) x)) ∧ Below v.heap.size v w')) := fun v => by
          have h9 := l8Aim_one x (finL m.list t : Int) v
          rw [aimN_re htz] at h9
          exact h9
        obtain ⟨y, hy⟩ : ∃ y, reT (finL m.list) x = y := ⟨_, rfl⟩
        have HY := Lib.hid hy
        rw [hy] at HAM
        obtain ⟨ft, hft⟩ : ∃ ft : Int, (finL m.list t : Int) = ft := ⟨_, rfl⟩
        rw [hft] at HFN HAM
        have HBD : Hid (Below w2.heap.size w2 w2.drew) := (Below.refl _ _).drew
        have hSd := HSD.out _ HBD.out
        have hSw := HSD.out _ (Below.refl _ _)
        clear hO2 hro2 hy hft htz ha hag
        go_wp2_with fail
        go_region_held3 (fun v => v.cell? ⟨w.heap.size, 0, none⟩ = some (.slice k.va m.vars.length k.vc) ∧ v.cell? ⟨w.heap.size, 1, none⟩ = some (.slice k.aa m.arrs.length k.ac) ∧ v.cell? ⟨w.heap.size, 2, none⟩ = some (.slice (some ⟨b, o, none⟩) n k.lc) ∧ v.cell? ⟨ob, 2, none⟩ = some (.slice (some ⟨g, 0, none⟩) n k'.lc) ∧ v.cell? ⟨b, o + i * 5, none⟩ = some (.int .i64 x.op) ∧ v.cell? ⟨b, o + i * 5 + 1, none⟩ = some (.int .i64 x.fa) ∧ v.cell? ⟨b, o + i * 5 + 2, none⟩ = some (.int .i64 x.fb) ∧ v.cell? ⟨b, o + i * 5 + 3, none⟩ = some (.int .i64 x.fc) ∧ v.cell? ⟨b, o + i * 5 + 4, none⟩ = some (.int .i64 x.fd)) (first | (with_reducible assumption) | (with_reducible exact hSd) | (with_reducible exact hSw) | fail)
          (first
          | (go_at_call 39; (with_reducible refine (HTG.out _).mono ?_)
             rintro f u1 ⟨rfl, hu1⟩
             have hU1 : Below w2.heap.size w2 u1 := HBD.out.trans hu1
             have hS1 := HSD.out _ hU1)
          | (go_at_call 75; (with_reducible refine (HFN.out _ hU1).mono ?_)
             rintro f u2 ⟨rfl, hu2⟩
             have hU2 : Below w2.heap.size w2 u2 := hU1.trans (hu2.mono hU1.size)
             have hS2 := HSD.out _ hU2)
          | (go_at_call 40; (with_reducible refine (HAM.out _).mono ?_)
             rintro f u3 ⟨rfl, hu3⟩
             have hU3 : Below w2.heap.size w2 u3 := hU2.trans (hu3.mono hU2.size)
             have hS3 := HSD.out _ hU3
             have hro3 := HRO2.out.far5 (w' := u3) (fun g' e hl => hU3.block g' hl)
             obtain ⟨⟨s0, hs0⟩, f0⟩ := ownsRow_cellx hro3 (i * 5) (by omega)
             obtain ⟨⟨s1, hs1⟩, f1⟩ := ownsRow_cellx hro3 (i * 5 + 1) (by omega)
             obtain ⟨⟨s2, hs2⟩, f2⟩ := ownsRow_cellx hro3 (i * 5 + 2) (by omega)
             obtain ⟨⟨s3, hs3⟩, f3⟩ := ownsRow_cellx hro3 (i * 5 + 3) (by omega)
             obtain ⟨⟨s4, hs4⟩, f4⟩ := ownsRow_cellx hro3 (i * 5 + 4) (by omega)
             have hSP : (((((u3.setCell ⟨g, i * 5, none⟩ (.int .i64 y.op)).setCell ⟨g, i * 5 + 1, none⟩ (.int .i64 y.fa)).setCell ⟨g, i * 5 + 2, none⟩ (.int .i64 y.fb)).setCell ⟨g, i * 5 + 3, none⟩ (.int .i64 y.fc)).setCell ⟨g, i * 5 + 4, none⟩ (.int .i64 y.fd)).cell? ⟨w.heap.size, 0, none⟩ = some (.slice k.va m.vars.length k.vc) ∧ (((((u3.setCell ⟨g, i * 5, none⟩ (.int .i64 y.op)).setCell ⟨g, i * 5 + 1, none⟩ (.int .i64 y.fa)).setCell ⟨g, i * 5 + 2, none⟩ (.int .i64 y.fb)).setCell ⟨g, i * 5 + 3, none⟩ (.int .i64 y.fc)).setCell ⟨g, i * 5 + 4, none⟩ (.int .i64 y.fd)).cell? ⟨w.heap.size, 1, none⟩ = some (.slice k.aa m.arrs.length k.ac) ∧ (((((u3.setCell ⟨g, i * 5, none⟩ (.int .i64 y.op)).setCell ⟨g, i * 5 + 1, none⟩ (.int .i64 y.fa)).setCell ⟨g, i * 5 + 2, none⟩ (.int .i64 y.fb)).setCell ⟨g, i * 5 + 3, none⟩ (.int .i64 y.fc)).setCell ⟨g, i * 5 + 4, none⟩ (.int .i64 y.fd)).cell? ⟨w.heap.size, 2, none⟩ = some (.slice (some ⟨b, o, none⟩) n k.lc) ∧ (((((u3.setCell ⟨g, i * 5, none⟩ (.int .i64 y.op)).setCell ⟨g, i * 5 + 1, none⟩ (.int .i64 y.fa)).setCell ⟨g, i * 5 + 2, none⟩ (.int .i64 y.fb)).setCell ⟨g, i * 5 + 3, none⟩ (.int .i64 y.fc)).setCell ⟨g, i * 5 + 4, none⟩ (.int .i64 y.fd)).cell? ⟨ob, 2, none⟩ = some (.slice (some ⟨g, 0, none⟩) n k'.lc) ∧ (((((u3.setCell ⟨g, i * 5, none⟩ (.int .i64 y.op)).setCell ⟨g, i * 5 + 1, none⟩ (.int .i64 y.fa)).setCell ⟨g, i * 5 + 2, none⟩ (.int .i64 y.fb)).setCell ⟨g, i * 5 + 3, none⟩ (.int .i64 y.fc)).setCell ⟨g, i * 5 + 4, none⟩ (.int .i64 y.fd)).cell? ⟨b, o + i * 5, none⟩ = some (.int .i64 x.op) ∧ (((((u3.setCell ⟨g, i * 5, none⟩ (.int .i64 y.op)).setCell ⟨g, i * 5 + 1, none⟩ (.int .i64 y.fa)).setCell ⟨g, i * 5 + 2, none⟩ (.int .i64 y.fb)).setCell ⟨g, i * 5 + 3, none⟩ (.int .i64 y.fc)).setCell ⟨g, i * 5 + 4, none⟩ (.int .i64 y.fd)).cell? ⟨b, o + i * 5 + 1, none⟩ = some (.int .i64 x.fa) ∧ (((((u3.setCell ⟨g, i * 5, none⟩ (.int .i64 y.op)).setCell ⟨g, i * 5 + 1, none⟩ (.int .i64 y.fa)).setCell ⟨g, i * 5 + 2, none⟩ (.int .i64 y.fb)).setCell ⟨g, i * 5 + 3, none⟩ (.int .i64 y.fc)).setCell ⟨g, i * 5 + 4, none⟩ (.int .i64 y.fd)).cell? ⟨b, o + i * 5 + 2, none⟩ = some (.int .i64 x.fb) ∧ (((((u3.setCell ⟨g, i * 5, none⟩ (.int .i64 y.op)).setCell ⟨g, i * 5 + 1, none⟩ (.int .i64 y.fa)).setCell ⟨g, i * 5 + 2, none⟩ (.int .i64 y.fb)).setCell ⟨g, i * 5 + 3, none⟩ (.int .i64 y.fc)).setCell ⟨g, i * 5 + 4, none⟩ (.int .i64 y.fd)).cell? ⟨b, o + i * 5 + 3, none⟩ = some (.int .i64 x.fc) ∧ (((((u3.setCell ⟨g, i * 5, none⟩ (.int .i64 y.op)).setCell ⟨g, i * 5 + 1, none⟩ (.int .i64 y.fa)).setCell ⟨g, i * 5 + 2, none⟩ (.int .i64 y.fb)).setCell ⟨g, i * 5 + 3, none⟩ (.int .i64 y.fc)).setCell ⟨g, i * 5 + 4, none⟩ (.int .i64 y.fd)).cell? ⟨b, o + i * 5 + 4, none⟩ = some (.int .i64 x.fd) := (by
               obtain ⟨a0, a1, a2, a3, a4, a5, a6, a7, a8⟩ := hS3
               have q1 := set5_oth u3 g (i * 5) w.heap.size (.int .i64 y.op) (.int .i64 y.fa) (.int .i64 y.fb) (.int .i64 y.fc) (.int .i64 y.fd) (by omega)
               have q2 := set5_oth u3 g (i * 5) ob (.int .i64 y.op) (.int .i64 y.fa) (.int .i64 y.fb) (.int .i64 y.fc) (.int .i64 y.fd) (by omega)
               have q3 := set5_oth u3 g (i * 5) b (.int .i64 y.op) (.int .i64 y.fa) (.int .i64 y.fb) (.int .i64 y.fc) (.int .i64 y.fd) (by omega)
               exact ⟨cell_oth q1 a0, cell_oth q1 a1, cell_oth q1 a2, cell_oth q2 a3, cell_oth q3 a4, cell_oth q3 a5, cell_oth q3 a6, cell_oth q3 a7, cell_oth q3 a8⟩))
          | fail)
        all_goals
          have HREL : Hid (ThL m k' W ob (.int .i64 ((i : Int) + 1)) (((((u3.setCell ⟨g, i * 5, none⟩ (.int .i64 y.op)).setCell ⟨g, i * 5 + 1, none⟩ (.int .i64 y.fa)).setCell ⟨g, i * 5 + 2, none⟩ (.int .i64 y.fb)).setCell ⟨g, i * 5 + 3, none⟩ (.int .i64 y.fc)).setCell ⟨g, i * 5 + 4, none⟩ (.int .i64 y.fd))) := by
            have hu3W : Below W.heap.size W u3 := HBR.out.trans ((HB2.out.trans (hU3.mono HB2.out.size)).mono hWr)
            have hoth : ∀ j, j ≠ g → (((((u3.setCell ⟨g, i * 5, none⟩ (.int .i64 y.op)).setCell ⟨g, i * 5 + 1, none⟩ (.int .i64 y.fa)).setCell ⟨g, i * 5 + 2, none⟩ (.int .i64 y.fb)).setCell ⟨g, i * 5 + 3, none⟩ (.int .i64 y.fc)).setCell ⟨g, i * 5 + 4, none⟩ (.int .i64 y.fd)).heap[j]? = u3.heap[j]? := fun j hj => set5_oth u3 g (i * 5) j _ _ _ _ _ hj
            have hO3 : OwnC u3 W.heap.size ⟨m.vars, m.arrs, ys⟩ k' := HOW.out.stand fun g' _ hg' => (hU3.block g' (by have := HB2.out.size; omega)).trans (HB2.out.block g' hg')
            have hyl : ys.length = n := HRE.out.1.trans HN.out
            have hbl3 : blk k'.la ys.length = some g := by rw [hyl, blk_pos (c := k'.lc) (by omega), HAG.out]; rfl
            have hl' : (ys.set i y).length = n := by rw [List.length_set]; exact hyl
            refine ⟨i + 1, ys.set i y, by rw [HN.out]; omega, by go_num, by rw [← HY.out]; exact HRE.out.set HXX.out, ⟨?_, ?_, ?_, hO3.va, ?_, ?_⟩, ?_, ((((hu3W.setCell (p := ⟨g, i * 5, none⟩) hgW _).setCell (p := ⟨g, i * 5 + 1, none⟩) hgW _).setCell (p := ⟨g, i * 5 + 2, none⟩) hgW _).setCell (p := ⟨g, i * 5 + 3, none⟩) hgW _).setCell (p := ⟨g, i * 5 + 4, none⟩) hgW _⟩
            · exact hO3.v.far fun g' hg' _ => hoth g' fun e => hO3.vl g' hg' (by rw [e]; exact hbl3)
            · exact hO3.a.far fun g' hg' _ => hoth g' fun e => hO3.al g' hg' (by rw [e]; exact hbl3)
            · have h5 := flat5_set hro3 hyl hlt y
              have h6 := RowX.of h5
              show RowX _ _ _ _ k'.la (ys.set i y).length k'.lc (flatN (ys.set i y))
              rw [hl', HAG.out]
              exact h6
            · show ∀ g', _ → blk k'.la (ys.set i y).length ≠ some g'
              rw [hl', ← hyl]; exact hO3.vl
            · show ∀ g', _ → blk k'.la (ys.set i y).length ≠ some g'
              rw [hl', ← hyl]; exact hO3.al
            · exact HBX.out.later ((hoth ob (by omega)).trans ((hU3.block ob (by have := HB2.out.size; omega)).trans (HB2.out.block ob hobr)))
          clear hS1 hS2 hS3 hSP hU1 hU2 hU3 hu1 hu2 hu3 hro3 HFN HTG HAM HSD HFB HF HOW HRO2 HRE hSd hSw
          go_wp2_with fail
          go_roundw
          case rel => exact HREL.out
          case measure => simp [intOf]; omega
      · have HREL : Hid (ThL m k' W ob (.int .i64 ((i : Int) + 1)) w2) := ⟨i + 1, ys, by rw [HN.out]; omega, by go_num, HRE.out.same HXX.out (hsame _), HOW.out.stand fun g _ hg => HB2.out.block g hg, HBX.out.later (HB2.out.block ob hobr), HBR.out.trans (HB2.out.mono hWr)⟩
        rw [htz]
        clear htz hsame HOW HRE HFB HF ha
        go_wp2_with fail
        go_roundw
        case rel => exact HREL.out
        case measure => simp [intOf]; omega
    · obtain rfl : i = n := by omega
      have hEr := HE.out wr HBR.out
      obtain ⟨s0, hs0⟩ := cell_ex hEr 0 (by simp)
      obtain ⟨s1, hs1⟩ := cell_ex hEr 1 (by simp)
      obtain ⟨s2, hs2⟩ := cell_ex hEr 2 (by simp)
      have f0 := frozen_at hEr 0
      have f1 := frozen_at hEr 1
      have f2 := frozen_at hEr 2
      have b0 := HBX.out.c0
      have b1 := HBX.out.c1
      have HFIN : Hid (CopyCO ⟨m.vars, m.arrs, thrL m.list⟩ w (.returned (.agg #[.slice k'.va m.vars.length k'.vc, .slice k'.aa m.arrs.length k'.ac, .slice k'.la i k'.lc])) (((wr.setCell ⟨w.heap.size + 1, 0, none⟩ (.slice k'.va m.vars.length k'.vc)).setCell ⟨w.heap.size + 1, 1, none⟩ (.slice k'.aa m.arrs.length k'.ac)).setCell ⟨w.heap.size + 1, 2, none⟩ (.slice k'.la i k'.lc))) := by
        have hoth : ∀ j, j ≠ w.heap.size + 1 → (((wr.setCell ⟨w.heap.size + 1, 0, none⟩ (.slice k'.va m.vars.length k'.vc)).setCell ⟨w.heap.size + 1, 1, none⟩ (.slice k'.aa m.arrs.length k'.ac)).setCell ⟨w.heap.size + 1, 2, none⟩ (.slice k'.la i k'.lc)).heap[j]? = wr.heap[j]? := fun j hj => by
          rw [Below.heap_setCell _ _ _ _ (by simpa using hj), Below.heap_setCell _ _ _ _ (by simpa using hj), Below.heap_setCell _ _ _ _ (by simpa using hj)]
        have hys : ys = thrL m.list := HRE.out.all (by rw [HN.out]; exact Nat.le_refl _)
        have hO := HOW.out
        rw [hys] at hO
        refine ⟨k', by show _ = Ending.returned (.agg #[.slice k'.va m.vars.length k'.vc, .slice k'.aa m.arrs.length k'.ac, .slice k'.la (thrL m.list).length k'.lc]); rw [thrL_len, HN.out], (hO.stand fun g h1 _ => hoth g (by omega)).mono HB.out.size, ?_⟩
        exact (((HB.out.trans (HBR.out.mono HB.out.size)).setCell (p := ⟨w.heap.size + 1, 0, none⟩) (by simp) _).setCell (p := ⟨w.heap.size + 1, 1, none⟩) (by simp) _).setCell (p := ⟨w.heap.size + 1, 2, none⟩) (by simp) _
      clear hEr HOW HRE c0 c1 c2
      go_wp2_with fail
      exact bodyPost_ret (v := .agg #[.slice k'.va m.vars.length k'.vc, .slice k'.aa m.arrs.length k'.ac, .slice k'.la i k'.lc]) (by simp [results, Tryd.f49, go_sem, hs0, hs1, hs2]) rfl HFIN.out

end Go.Proofs.YtodihpnnajlkdaaDoor

namespace Go.Proofs.YtodihpnnajlkdaaDoor
open Go.RowKit
set_option linter.unusedVariables false

/-- Two copied lists and a code's box beside them, made behind V. -/
def OutR (m : Cd) (V : World) (ob : Nat) (wx : World) : Prop := ∃ (va aa : Option Addr) (vc ac : Nat), wx.heap[ob]? = some (.cells #[.slice va m.vars.length vc, .slice aa m.arrs.length ac, .slice none 0 0] 30 (0, 0)) ∧
  wx.ownsRow V.heap.size 3 1 (.slice va m.vars.length vc) m.vars.length (m.vars.map (Value.int .i64)) ∧ wx.ownsRow V.heap.size 3 1 (.slice aa m.arrs.length ac) m.arrs.length (m.arrs.map (Value.int .i64)) ∧
  (∀ g, (Value.slice va m.vars.length vc).ownBlock = some g → (Value.slice aa m.arrs.length ac).ownBlock ≠ some g ∧ g ≠ ob) ∧ (∀ g, (Value.slice aa m.arrs.length ac).ownBlock = some g → g ≠ ob) ∧ V.heap.size ≤ ob ∧ Below V.heap.size V wx
theorem out_end1 {m : Cd} {V q : World} {ob : Nat} {va aa : Option Addr} {vc ac : Nat} (h1 : q.ownsRow V.heap.size 3 1 (.slice va m.vars.length vc) m.vars.length (m.vars.map (Value.int .i64))) (h2 : q.ownsRow V.heap.size 3 1 (.slice aa m.arrs.length ac) m.arrs.length (m.arrs.map (Value.int .i64)))
    (d : ∀ g, (Value.slice va m.vars.length vc).ownBlock = some g → (Value.slice aa m.arrs.length ac).ownBlock ≠ some g) (hx : q.heap[ob]? = some (.cells #[.slice none 0 0, .slice none 0 0, .slice none 0 0] 30 (0, 0)))
    (n1 : (Value.slice va m.vars.length vc).ownBlock = some ob → False) (n2 : (Value.slice aa m.arrs.length ac).ownBlock = some ob → False) (hle : V.heap.size ≤ ob) (hb : Below V.heap.size V q) :
    OutR m V ob (((q.setCell ⟨ob, 0, none⟩ (.slice va m.vars.length vc)).setCell ⟨ob, 1, none⟩ (.slice aa m.arrs.length ac)).setCell ⟨ob, 2, none⟩ (.slice none 0 0)) := by
  have hoth : ∀ j, j ≠ ob → (((q.setCell ⟨ob, 0, none⟩ (.slice va m.vars.length vc)).setCell ⟨ob, 1, none⟩ (.slice aa m.arrs.length ac)).setCell ⟨ob, 2, none⟩ (.slice none 0 0)).heap[j]? = q.heap[j]? := fun j hj => by
    rw [Below.heap_setCell _ _ _ _ (by simpa using hj), Below.heap_setCell _ _ _ _ (by simpa using hj), Below.heap_setCell _ _ _ _ (by simpa using hj)]
  refine ⟨va, aa, vc, ac, ?_, h1.far5 fun g hg _ => hoth g fun e => n1 (by rw [← e]; exact hg), h2.far5 fun g hg _ => hoth g fun e => n2 (by rw [← e]; exact hg), fun g hg => ⟨d g hg, fun e => n1 (by rw [← e]; exact hg)⟩, fun g hg e => n2 (by rw [← e]; exact hg), hle, ((hb.setCell (p := ⟨ob, 0, none⟩) hle _).setCell (p := ⟨ob, 1, none⟩) hle _).setCell (p := ⟨ob, 2, none⟩) hle _⟩
  rw [heap_setCell_same _ ob 2 _ _ _ (heap_setCell_same _ ob 1 _ _ _ (heap_setCell_same q ob 0 _ _ (.slice va m.vars.length vc) hx))]; rfl
theorem out_end2 {m : Cd} {V q : World} {va aa : Option Addr} {vc ac b1 : Nat} (h1 : q.ownsRow V.heap.size 3 1 (.slice va m.vars.length vc) m.vars.length (m.vars.map (Value.int .i64))) (h2 : q.ownsRow V.heap.size 3 1 (.slice aa m.arrs.length ac) m.arrs.length (m.arrs.map (Value.int .i64)))
    (d : ∀ g, (Value.slice va m.vars.length vc).ownBlock = some g → (Value.slice aa m.arrs.length ac).ownBlock ≠ some g)
    (n1 : ∀ g, (Value.slice va m.vars.length vc).ownBlock = some g → g < b1) (n2 : ∀ g, (Value.slice aa m.arrs.length ac).ownBlock = some g → g < q.heap.size) (hz : b1 ≤ q.heap.size) (hb : Below V.heap.size V q) :
    OutR m V q.heap.size (q.alloc (.cells #[.slice va m.vars.length vc, .slice aa m.arrs.length ac, .slice none 0 0] 30)) :=
  ⟨va, aa, vc, ac, heap_alloc_new q _, h1.alloc _, h2.alloc _, fun g hg => ⟨d g hg, fun e => by have := n1 g hg; omega⟩, fun g hg e => by have := n2 g hg; omega, hb.size, hb.alloc hb.size _⟩
theorem facts_put2 {w : World} {b b' : Nat} {v0 v1 v2 : Value} (n0 n1 n2 : Value) (hne : b' ≠ b) (h : w.cell? ⟨b', 0, none⟩ = some v0 ∧ w.cell? ⟨b', 1, none⟩ = some v1 ∧ w.cell? ⟨b', 2, none⟩ = some v2) :
    (((w.setCell ⟨b, 0, none⟩ n0).setCell ⟨b, 1, none⟩ n1).setCell ⟨b, 2, none⟩ n2).cell? ⟨b', 0, none⟩ = some v0 ∧ (((w.setCell ⟨b, 0, none⟩ n0).setCell ⟨b, 1, none⟩ n1).setCell ⟨b, 2, none⟩ n2).cell? ⟨b', 1, none⟩ = some v1 ∧ (((w.setCell ⟨b, 0, none⟩ n0).setCell ⟨b, 1, none⟩ n1).setCell ⟨b, 2, none⟩ n2).cell? ⟨b', 2, none⟩ = some v2 := facts_put3 n0 n1 n2 hne h
theorem facts_new {w : World} (o : Obj) {b' : Nat} {v0 v1 v2 : Value} (hlt : b' < w.heap.size) (h : w.cell? ⟨b', 0, none⟩ = some v0 ∧ w.cell? ⟨b', 1, none⟩ = some v1 ∧ w.cell? ⟨b', 2, none⟩ = some v2) :
    (w.alloc o).cell? ⟨b', 0, none⟩ = some v0 ∧ (w.alloc o).cell? ⟨b', 1, none⟩ = some v1 ∧ (w.alloc o).cell? ⟨b', 2, none⟩ = some v2 := by
  have hb : (w.alloc o).heap[b']? = w.heap[b']? := Below.heap_alloc _ _ _ hlt
  exact ⟨(World.cell?_of_block (w := w) (a := ⟨b', 0, none⟩) hb).trans h.1, (World.cell?_of_block (w := w) (a := ⟨b', 1, none⟩) hb).trans h.2.1, (World.cell?_of_block (w := w) (a := ⟨b', 2, none⟩) hb).trans h.2.2⟩
theorem aimN_ref {f : Nat → Nat} {x : Ins} {t : Nat} (h : tgZ x = (t : Int)) : aimN x (f t : Int) = reT f x := by
  unfold tgZ at h
  unfold aimN reT
  split
  · rename_i h8
    rw [if_pos h8] at h
    rw [h]; rfl
  · rename_i h8
    rw [if_neg h8] at h
    split
    · rename_i h9
      rw [if_pos h9] at h
      rw [h]; rfl
    · rfl
theorem put5 {w : World} {b : Nat} {T : TypeId} {x : Ins} (y : Ins) (h : w.heap[b]? = some (.cells #[.int .i64 x.op, .int .i64 x.fa, .int .i64 x.fb, .int .i64 x.fc, .int .i64 x.fd] T (0, 0))) :
    (((((w.setCell ⟨b, 0, none⟩ (.int .i64 y.op)).setCell ⟨b, 1, none⟩ (.int .i64 y.fa)).setCell ⟨b, 2, none⟩ (.int .i64 y.fb)).setCell ⟨b, 3, none⟩ (.int .i64 y.fc)).setCell ⟨b, 4, none⟩ (.int .i64 y.fd)).heap[b]? = some (.cells #[.int .i64 y.op, .int .i64 y.fa, .int .i64 y.fb, .int .i64 y.fc, .int .i64 y.fd] T (0, 0)) := by
  rw [heap_setCell_same _ b 4 _ _ _ (heap_setCell_same _ b 3 _ _ _ (heap_setCell_same _ b 2 _ _ _ (heap_setCell_same _ b 1 _ _ _ (heap_setCell_same w b 0 _ _ _ h))))]; rfl
theorem put5_oth (w : World) (b j : Nat) (n0 n1 n2 n3 n4 : Value) (h : j ≠ b) : (((((w.setCell ⟨b, 0, none⟩ n0).setCell ⟨b, 1, none⟩ n1).setCell ⟨b, 2, none⟩ n2).setCell ⟨b, 3, none⟩ n3).setCell ⟨b, 4, none⟩ n4).heap[j]? = w.heap[j]? := by
  rw [Below.heap_setCell _ _ _ _ (by simpa using h), Below.heap_setCell _ _ _ _ (by simpa using h), Below.heap_setCell _ _ _ _ (by simpa using h), Below.heap_setCell _ _ _ _ (by simpa using h), Below.heap_setCell _ _ _ _ (by simpa using h)]
/-- The third loop: the kept instructions, with new targets. -/
def TrC (m : Cd) (ks : List Bool) (V4 : World) (ob : Nat) (va aa : Option Addr) (vc ac : Nat) (i : Value) (wr : World) : Prop := ∃ (j : Nat) (la : Option Addr) (lc : Nat), j ≤ m.list.length ∧ i = .int .i64 (j : Int) ∧
  wr.heap[ob]? = some (.cells #[.slice va m.vars.length vc, .slice aa m.arrs.length ac, .slice la ((kepN m.list ks j).map (reT (numF ks))).length lc] 30 (0, 0)) ∧
  wr.ownsRow V4.heap.size 3 1 (.slice va m.vars.length vc) m.vars.length (m.vars.map (Value.int .i64)) ∧ wr.ownsRow V4.heap.size 3 1 (.slice aa m.arrs.length ac) m.arrs.length (m.arrs.map (Value.int .i64)) ∧
  wr.ownsRow V4.heap.size 46 5 (.slice la ((kepN m.list ks j).map (reT (numF ks))).length lc) ((kepN m.list ks j).map (reT (numF ks))).length (flatN ((kepN m.list ks j).map (reT (numF ks)))) ∧
  (∀ g, (Value.slice va m.vars.length vc).ownBlock = some g → (Value.slice aa m.arrs.length ac).ownBlock ≠ some g ∧ (Value.slice la ((kepN m.list ks j).map (reT (numF ks))).length lc).ownBlock ≠ some g ∧ g ≠ ob) ∧ (∀ g, (Value.slice aa m.arrs.length ac).ownBlock = some g → (Value.slice la ((kepN m.list ks j).map (reT (numF ks))).length lc).ownBlock ≠ some g ∧ g ≠ ob) ∧ (∀ g, (Value.slice la ((kepN m.list ks j).map (reT (numF ks))).length lc).ownBlock = some g → g ≠ ob) ∧
  V4.heap.size ≤ ob ∧ Below V4.heap.size V4 wr
theorem TrC.step {m : Cd} {ks : List Bool} {V4 wr V5 w5 : World} {ob j rn g cp H : Nat} {va aa la : Option Addr} {vc ac lc : Nat} {L : List Ins} {x y : Ins}
    (hx : m.list[j]? = some x) (hk : ks[j]? = some true) (hkl : ks.length = m.list.length) (hy : reT (numF ks) x = y) (hL : (kepN m.list ks j).map (reT (numF ks)) = L) (hrn : L.length = rn)
    (h1 : wr.heap[ob]? = some (.cells #[.slice va m.vars.length vc, .slice aa m.arrs.length ac, .slice la rn lc] 30 (0, 0)))
    (h2 : wr.ownsRow V4.heap.size 3 1 (.slice va m.vars.length vc) m.vars.length (m.vars.map (Value.int .i64))) (h3 : wr.ownsRow V4.heap.size 3 1 (.slice aa m.arrs.length ac) m.arrs.length (m.arrs.map (Value.int .i64)))
    (h4 : wr.ownsRow V4.heap.size 46 5 (.slice la rn lc) rn (flatN L))
    (d1 : ∀ g, (Value.slice va m.vars.length vc).ownBlock = some g → (Value.slice aa m.arrs.length ac).ownBlock ≠ some g ∧ (Value.slice la rn lc).ownBlock ≠ some g ∧ g ≠ ob) (d2 : ∀ g, (Value.slice aa m.arrs.length ac).ownBlock = some g → (Value.slice la rn lc).ownBlock ≠ some g ∧ g ≠ ob) (d3 : ∀ g, (Value.slice la rn lc).ownBlock = some g → g ≠ ob)
    (hle : V4.heap.size ≤ ob) (hold : ∀ q, q < wr.heap.size → V5.heap[q]? = wr.heap[q]?) (hsz : wr.heap.size ≤ V5.heap.size) (hb : Below V4.heap.size V4 V5)
    (hgrow : V5.grownBy w5 (Value.slice la rn lc).ownBlock) (hat : (Value.slice la rn lc).ownBlock = some g ∨ g = H) (hH : wr.heap.size ≤ H)
    (hown : w5.ownsRow V4.heap.size 46 5 (.slice (some ⟨g, 0, none⟩) (rn + 1) cp) (rn + 1) (flatN L ++ [.int .i64 y.op, .int .i64 y.fa, .int .i64 y.fb, .int .i64 y.fc, .int .i64 y.fd])) :
    TrC m ks V4 ob va aa vc ac (.int .i64 ((j : Int) + 1)) (w5.setCell ⟨ob, 2, none⟩ (.slice (some ⟨g, 0, none⟩) (rn + 1) cp)) := by
  have hjl : j < m.list.length := (List.getElem?_eq_some_iff.1 hx).1
  have hobl : ob < wr.heap.size := (Array.getElem?_eq_some_iff.1 h1).1
  have hgo : g ≠ ob := by
    rcases hat with h | h
    · exact d3 g h
    · omega
  have hoth : ∀ q, q < wr.heap.size → q ≠ ob → some q ≠ (Value.slice la rn lc).ownBlock → (w5.setCell ⟨ob, 2, none⟩ (.slice (some ⟨g, 0, none⟩) (rn + 1) cp)).heap[q]? = wr.heap[q]? := fun q hq hne hno => by
    rw [Below.heap_setCell _ _ _ _ (by simpa using hne)]
    exact (hgrow.block q (by omega) hno).trans (hold q hq)
  have hbx5 : w5.heap[ob]? = some (.cells #[.slice va m.vars.length vc, .slice aa m.arrs.length ac, .slice la rn lc] 30 (0, 0)) := ((hgrow.block ob (by omega) (fun e => d3 ob e.symm rfl)).trans (hold ob hobl)).trans h1
  have hL' : (kepN m.list ks (j + 1)).map (reT (numF ks)) = L ++ [y] := by rw [kepN_t hkl hx hk, List.map_append, hL, ← hy]; rfl
  have hl' : (L ++ [y]).length = rn + 1 := by rw [List.length_append, hrn]; rfl
  have hfl : flatN (L ++ [y]) = flatN L ++ [.int .i64 y.op, .int .i64 y.fa, .int .i64 y.fb, .int .i64 y.fc, .int .i64 y.fd] := by rw [flatN_app]; rfl
  refine ⟨j + 1, some ⟨g, 0, none⟩, cp, by omega, by go_num, ?_⟩
  rw [hL', hl', hfl]
  refine ⟨?_, ?_, ?_, ?_, ?_, ?_, ?_, hle, ?_⟩
  · rw [heap_setCell_same w5 ob 2 _ _ _ hbx5]; rfl
  · exact h2.far5 fun q hq hl => hoth q hl (d1 q hq).2.2 fun e => (d1 q hq).2.1 e.symm
  · exact h3.far5 fun q hq hl => hoth q hl (d2 q hq).2 fun e => (d2 q hq).1 e.symm
  · exact hown.far5 fun q hq hl => Below.heap_setCell _ _ _ _ (by
      have e : g = q := by injection hq
      subst e
      simpa using hgo)
  · refine fun q hq => ⟨(d1 q hq).1, fun e => ?_, (d1 q hq).2.2⟩
    have e : g = q := by injection e
    subst e
    rcases hat with h | h
    · exact (d1 g hq).2.1 h
    · have := (h2.lt g hq).2; omega
  · refine fun q hq => ⟨fun e => ?_, (d2 q hq).2⟩
    have e : g = q := by injection e
    subst e
    rcases hat with h | h
    · exact (d2 g hq).1 h
    · have := (h3.lt g hq).2; omega
  · refine fun q hq => ?_
    have e : g = q := by injection hq
    subst e
    exact hgo
  · exact (hb.grown hgrow hb.size (fun q hq => by have := (h4.lt q hq).1; omega)).setCell (p := ⟨ob, 2, none⟩) hle _
theorem cells5 {w : World} {b : Nat} {T : TypeId} {x : Ins} (h : w.heap[b]? = some (.cells #[.int .i64 x.op, .int .i64 x.fa, .int .i64 x.fb, .int .i64 x.fc, .int .i64 x.fd] T (0, 0))) : w.cell? ⟨b, 0, none⟩ = some (.int .i64 x.op) ∧ w.cell? ⟨b, 1, none⟩ = some (.int .i64 x.fa) ∧ w.cell? ⟨b, 2, none⟩ = some (.int .i64 x.fb) ∧ w.cell? ⟨b, 3, none⟩ = some (.int .i64 x.fc) ∧ w.cell? ⟨b, 4, none⟩ = some (.int .i64 x.fd) :=
  ⟨by rw [cell_at h]; rfl, by rw [cell_at h]; rfl, by rw [cell_at h]; rfl, by rw [cell_at h]; rfl, by rw [cell_at h]; rfl⟩

/-- The first loop: what is kept. -/
def TrA (l : List Ins) (bs : List Bool) (n : Nat) (W : World) (ka : Option Addr) (kc : Nat) (i : Value) (wr : World) : Prop := ∃ (j : Nat) (ks : List Bool), j ≤ n ∧ i = .int .i64 (j : Int) ∧ KpTo l bs ks j ∧ wr.ownsRow W.heap.size 4 1 (.slice ka n kc) n (ks.map Value.bool) ∧ Below W.heap.size W wr
/-- The second loop: the numbers. -/
def TrB (ks : List Bool) (n : Nat) (V : World) (av nv i : Value) (wr : World) : Prop := ∃ (j : Nat) (ba : Option Addr) (bc : Nat), j ≤ n ∧ i = .int .i64 (j : Int) ∧ nv = .int .i64 (numF ks j : Int) ∧ av = .slice ba j bc ∧ wr.ownsRow V.heap.size 3 1 (.slice ba j bc) j ((numL ks j).map (Value.int .i64)) ∧ Below V.heap.size V wr

set_option maxRecDepth 100000 in
set_option maxHeartbeats 40000000 in
/-- **l8Trim.** -/
theorem l8Trim_one (m : Cd) (k : CK) (w : World) (h : CL w m k) (hs : CSm m) (hok : Okc m.list) :
    Calls Tryd.prog 47 #[aggC m k] w (CopyCO ⟨m.vars, m.arrs, trimL m.list⟩ w) := by
  obtain ⟨i0, hi, hi0, hi1, hi2⟩ := info_parts Tryd.infoI
  obtain ⟨j0, jn, jn0, jn1, jn2⟩ := info_parts Tryd.infoN
  obtain ⟨W, hW⟩ : ∃ W, (w.alloc (.cells (arrC m k) 30)).alloc (.cells #[.slice none 0 0, .slice none 0 0, .slice none 0 0] 30) = W := ⟨_, rfl⟩
  have hB : Below w.heap.size w W := by rw [← hW]; exact ((Below.refl _ w).alloc (Nat.le_refl _) _).alloc (by simp) _
  have hX : BoxC W w.heap.size m k := by rw [← hW]; exact (BoxC.new w m k _).later (Below.heap_alloc _ _ _ (by simp))
  have hE : W.heap[w.heap.size + 1]? = some (.cells #[.slice none 0 0, .slice none 0 0, .slice none 0 0] 30 (0, 0)) := by
    have e1 := heap_alloc_new (w.alloc (.cells (arrC m k) 30)) (.cells #[.slice none 0 0, .slice none 0 0, .slice none 0 0] 30)
    rw [World.size_alloc] at e1
    rw [← hW]; exact e1
  have hlw : w.heap.size + 1 < W.heap.size := (Array.getElem?_eq_some_iff.1 hE).1
  have hle := hok.le
  have hpos := hok.pos
  obtain ⟨n, hn⟩ : ∃ n, m.list.length = n := ⟨_, rfl⟩
  rw [hn] at hle hpos
  have hCW := h.below hB
  have HF : Hid (∀ v, Below W.heap.size W v → (v.cell? ⟨w.heap.size, 0, none⟩ = some (.slice k.va m.vars.length k.vc) ∧ v.cell? ⟨w.heap.size, 1, none⟩ = some (.slice k.aa m.arrs.length k.ac) ∧ v.cell? ⟨w.heap.size, 2, none⟩ = some (.slice k.la n k.lc)) ∧ v.heap[w.heap.size + 1]? = some (.cells #[.slice none 0 0, .slice none 0 0, .slice none 0 0] 30 (0, 0))) := fun v hv => by
    have b := hX.below hv hX.lt
    have b2 := b.c2
    rw [hn] at b2
    exact ⟨⟨b.c0, b.c1, b2⟩, (hv.block _ hlw).trans hE⟩
  have HAT : Hid (∀ i, i < n → ∃ (x : Ins) (b o : Nat), m.list[i]? = some x ∧ k.la = some ⟨b, o, none⟩ ∧ b < W.heap.size ∧ ∀ v, Below W.heap.size W v → v.cell? ⟨b, o + i * 5, none⟩ = some (.int .i64 x.op) ∧ v.cell? ⟨b, o + i * 5 + 1, none⟩ = some (.int .i64 x.fa) ∧ v.cell? ⟨b, o + i * 5 + 2, none⟩ = some (.int .i64 x.fb) ∧ v.cell? ⟨b, o + i * 5 + 3, none⟩ = some (.int .i64 x.fc) ∧ v.cell? ⟨b, o + i * 5 + 4, none⟩ = some (.int .i64 x.fd)) := fun i hi => by
    obtain ⟨x, b, o, hx, ha, hbl, e0, e1, e2, e3, e4⟩ := hCW.at (i := i) (by rw [hn]; exact hi)
    refine ⟨x, b, o, hx, ha, hbl, fun v hv => ?_⟩
    have q : ∀ {j : Nat} {u : Value}, W.cell? ⟨b, j, none⟩ = some u → v.cell? ⟨b, j, none⟩ = some u := fun e => (World.cell?_of_block (w := W) (hv.block b hbl)).trans e
    exact ⟨q e0, q e1, q e2, q e3, q e4⟩
  have HRC := l8Reach_one m k W hCW hok
  have HRC := Lib.hid HRC
  have HCL : Hid (∀ v, Below W.heap.size W v → CL v m k) := fun v hv => hCW.below hv
  have HB := Lib.hid hB
  have HW := Lib.hid hW
  have HO := Lib.hid hok
  have HN := Lib.hid hn
  unfold arrC at HW
  obtain ⟨⟨x0, x1, x2⟩, _⟩ := HF.out W (Below.refl _ _)
  rw [← hn] at x2
  clear h hW hB hX hE hCW hok hn
  go_enter Tryd.func47, Tryd.ntmps47
  go_wp2_with (first | rw [HW.out] | fail)
  refine HRC.out.mono ?_
  rintro e w1 ⟨bs, ka, kc, rfl, hbs, hown, hb1⟩
  have hbl : bs.length = n := hbs.1.trans HN.out
  unfold OwnB at hown
  rw [hbl] at hown ⊢
  have HL0 : Hid (TrA m.list bs n W ka kc (.int .i64 0) w1) := ⟨0, bs, Nat.zero_le _, rfl, KpTo.start _ _, hown, hb1⟩
  have HBS := Lib.hid hbs
  have HBL := Lib.hid hbl
  clear hown hb1 HRC x0 x1 x2 hbs hbl HW
  go_wp2_with fail
  go_loopw [4] (fun i wr => TrA m.list bs n W ka kc i wr) (fun i _ => n - (intOf i).toNat)
  case atStart => exact HL0.out
  case round =>
    obtain ⟨j, ks, hj2, rfl, hk, hrow, hb⟩ := hrel
    have HK := Lib.hid hk
    have HROW := Lib.hid hrow
    have HBR := Lib.hid hb
    obtain ⟨⟨c0, c1, c2⟩, _⟩ := HF.out wr hb
    clear hk hrow hb HL0
    by_cases hlt : j < n
    · obtain ⟨x, b, o, hx, ha, hbl, hcl⟩ := HAT.out j hlt
      obtain ⟨r0, r1, _⟩ := hcl wr HBR.out
      rw [ha] at c2
      obtain ⟨g, rfl, hg⟩ : ∃ g, ka = some ⟨g, 0, none⟩ ∧ W.heap.size ≤ g := by
        rcases HROW.out.2 with ⟨_, e⟩ | ⟨g, cp, cur, e, hg, _⟩
        · omega
        · injection e with e1 e2 e3
          exact ⟨g, e1, hg⟩
      have HX := Lib.hid hx
      clear hx hcl ha
      by_cases hs : skp x j = true
      · obtain ⟨⟨s0, hs0⟩, f0⟩ := ownsRow_cellx HROW.out j (by omega)
        have hst := (HROW.out.stored j (.bool false)).1
        rw [← List.map_set] at hst
        have HREL : Hid (TrA m.list bs n W (some ⟨g, 0, none⟩) kc (.int .i64 ((j : Int) + 1)) (wr.setCell ⟨g, j, none⟩ (.bool false))) := ⟨j + 1, ks.set j false, by omega, by go_num, HK.out.drop HX.out hs, hst, HBR.out.setCell (p := ⟨g, j, none⟩) hg _⟩
        have h8 : (x.op == 8) = true := by unfold skp at hs; simp only [Bool.and_eq_true] at hs; exact hs.1
        have h1 : (x.fa == (j : Int) + 1) = true := by unfold skp at hs; simp only [Bool.and_eq_true] at hs; exact hs.2
        clear hs hst HROW HK
        go_wp2_with fail
        go_roundw
        case rel => exact HREL.out
        case measure => simp [intOf]; omega
      · have hs' : skp x j = false := by simpa using hs
        have HREL : Hid (TrA m.list bs n W (some ⟨g, 0, none⟩) kc (.int .i64 ((j : Int) + 1)) wr) := ⟨j + 1, ks, by omega, by go_num, HK.out.keep HX.out hs', HROW.out, HBR.out⟩
        by_cases h8 : (x.op == 8) = true
        · have h1 : (x.fa == (j : Int) + 1) = false := by unfold skp at hs'; rw [h8] at hs'; simpa using hs'
          clear hs hs' HROW HK
          go_wp2_with fail
          go_roundw
          case rel => exact HREL.out
          case measure => simp [intOf]; omega
        · have h8' : (x.op == 8) = false := by simpa using h8
          clear hs hs' h8 HROW HK
          go_wp2_with fail
          go_roundw
          case rel => exact HREL.out
          case measure => simp [intOf]; omega
    · obtain rfl : n = j := by omega
      have hks : ks = kpL m.list bs := HK.out.all (by rw [HBL.out]; exact Nat.le_refl _)
      have hkl : ks.length = n := HK.out.1.trans HBL.out
      have HTR : Hid (trimK m.list ks = trimL m.list) := by
        have : trimK m.list ks = trimL m.list := by unfold trimL; rw [rchL_eq HBS.out, hks]
        exact this
      have HKL := Lib.hid hkl
      have HKB : Hid (∀ v, Below wr.heap.size wr v → ∀ q, q < n → ∃ bb g, ks[q]? = some bb ∧ ka = some ⟨g, 0, none⟩ ∧ g < wr.heap.size ∧ v.cell? ⟨g, q, none⟩ = some (.bool bb)) := fun v hv q hq => by
        have hb : ks[q]? = some (ks[q]'(by rw [hkl]; exact hq)) := List.getElem?_eq_getElem _
        rcases HROW.out.2 with ⟨_, e⟩ | ⟨g, cp, cur, e, hg, hgg, _⟩
        · omega
        · injection e with e1 e2 e3
          subst e1
          refine ⟨_, g, hb, rfl, (Array.getElem?_eq_some_iff.1 hgg).1, ?_⟩
          refine (World.cell?_of_block (w := wr) (a := ⟨g, q, none⟩) (hv.block g (Array.getElem?_eq_some_iff.1 hgg).1)).trans ?_
          rw [HROW.out.cellAt q (by omega), List.getElem?_map, hb]; rfl
      obtain ⟨V, hV⟩ : ∃ V, wr = V := ⟨_, rfl⟩
      subst hV
      obtain ⟨V1, hV1⟩ : ∃ V1, wr.alloc (.cells #[] 3) = V1 := ⟨_, rfl⟩
      have HL1 : Hid (TrB ks n wr (.slice (some ⟨wr.heap.size, 0, none⟩) 0 0) (.int .i64 0) (.int .i64 0) V1) := by
        rw [← hV1]
        exact ⟨0, _, 0, Nat.zero_le _, rfl, by simp [numF, cntT], rfl, World.ownsRow_made wr #[] 0 (Nat.le_refl _) (by unfold maxLen; omega) rfl, (Below.refl _ wr).alloc (Nat.le_refl _) _⟩
      obtain ⟨V, hV⟩ : ∃ V, wr = V := ⟨_, rfl⟩
      rw [hV] at HL1 HKB HBR
      have HVV := Lib.hid hV
      have HV1 := Lib.hid hV1
      have hVW := HBR.out.size
      clear hks hkl HROW HK hV hV1 c0 c1 c2
      go_wp2_with (first | rw [HV1.out] | fail)
      try rw [HV1.out]
      rw [HVV.out]
      clear HV1 HVV
      go_loopw [5, 6, 7] (fun av nv i wr => TrB ks n V av nv i wr) (fun _ _ i _ => n - (intOf i).toNat)
      case atStart => exact HL1.out
      case round =>
        obtain ⟨q, ba, bc, hq, rfl, rfl, rfl, hrow, hb⟩ := hrel
        have HROW := Lib.hid hrow
        have HBV := Lib.hid hb
        have hnu := numF_le ks q
        clear hrow hb HL1
        by_cases hlt : q < n
        · obtain ⟨bb, g, hkq, hkg, hgl, hkc⟩ := HKB.out wr HBV.out q hlt
          subst hkg
          have HKQ := Lib.hid hkq
          obtain ⟨nq, hnq⟩ : ∃ nq, numF ks q = nq := ⟨_, rfl⟩
          have HNQ := Lib.hid hnq
          rw [hnq] at hnu ⊢
          obtain ⟨V3, hV3⟩ : ∃ V3, wr.alloc (.cells #[.int .i64 (nq : Int)] 3) = V3 := ⟨_, rfl⟩
          have hz3 : V3.heap.size = wr.heap.size + 1 := by rw [← hV3]; simp
          have hblk : V3.heap[wr.heap.size]? = some (.cells #[.int .i64 (nq : Int)] 3 (0, 0)) := by rw [← hV3]; exact heap_alloc_new wr _
          have hold : ∀ j, j < wr.heap.size → V3.heap[j]? = wr.heap[j]? := fun j hj => by rw [← hV3]; exact Below.heap_alloc _ _ _ hj
          have hr3 : V3.ownsRow V.heap.size 3 1 (.slice ba q bc) q ((numL ks q).map (Value.int .i64)) := HROW.out.far5 fun g hg hl => hold g hl
          have hVr := HBV.out.size
          have HV3 := Lib.hid hV3
          clear hV3 hold hnq hkq
          cases bb
          case false =>
            go_wp2_with (first
            | (at_builtin
               rw [HV3.out]
               refine wpList_append_lies _ (by rfl) _ _ 22 (by rfl) V.heap.size 3 i0 _ 1 8 Tryd.underlying22 hi hi0 hi1 hi2 rfl (by omega) (.slice ba q bc) q _ (by rfl) hr3 ⟨wr.heap.size, 0, none⟩ 1 1 _ (by rfl) (by rfl) (World.news_of_block hblk) (by simp [Value.oneCell']) (by omega) (by unfold maxLen; omega) (by omega) (by omega) (wr.heap.size + 1) (by omega) ?_
               intro g5 cp w5 hown5 hgrow hat hlt5
               have hb5 : Below V.heap.size V w5 := (by
                 have h3 : Below V.heap.size V V3 := (by rw [← HV3.out]; exact HBV.out.alloc (by omega) _)
                 exact h3.grown hgrow (by omega) (fun j hj => (hr3.lt j hj).1))
               obtain ⟨bb2, g2, hkq2, hkg2, _, hkc2⟩ := HKB.out w5 hb5 q hlt
               have hkq2 := hkq2
               rw [HKQ.out] at hkq2
               cases hkq2
               cases hkg2
               have hkq2 := HKQ.out
               have HR5 : Hid (w5.ownsRow V.heap.size 3 1 (.slice (some ⟨g5, 0, none⟩) (q + 1) cp) (q + 1) ((numL ks (q + 1)).map (Value.int .i64))) := (by
                 rw [numL_succ, List.map_append, HNQ.out]
                 exact hown5)
               have HREL : Hid (TrB ks n V (.slice (some ⟨g5, 0, none⟩) (q + 1) cp) (.int .i64 (nq : Int)) (.int .i64 ((q : Int) + 1)) w5) := ⟨q + 1, _, cp, by omega, by go_num, (by rw [numF_f hkq2, HNQ.out]), rfl, HR5.out, hb5⟩
               clear hown5 hgrow hat hblk hr3 hb5 hkq2 HR5)
            | fail)
            go_roundw
            case rel => exact HREL.out
            case measure => simp [intOf]; omega
          case true =>
            go_wp2_with (first
            | (at_builtin
               rw [HV3.out]
               refine wpList_append_lies _ (by rfl) _ _ 22 (by rfl) V.heap.size 3 i0 _ 1 8 Tryd.underlying22 hi hi0 hi1 hi2 rfl (by omega) (.slice ba q bc) q _ (by rfl) hr3 ⟨wr.heap.size, 0, none⟩ 1 1 _ (by rfl) (by rfl) (World.news_of_block hblk) (by simp [Value.oneCell']) (by omega) (by unfold maxLen; omega) (by omega) (by omega) (wr.heap.size + 1) (by omega) ?_
               intro g5 cp w5 hown5 hgrow hat hlt5
               have hb5 : Below V.heap.size V w5 := (by
                 have h3 : Below V.heap.size V V3 := (by rw [← HV3.out]; exact HBV.out.alloc (by omega) _)
                 exact h3.grown hgrow (by omega) (fun j hj => (hr3.lt j hj).1))
               obtain ⟨bb2, g2, hkq2, hkg2, _, hkc2⟩ := HKB.out w5 hb5 q hlt
               have hkq2 := hkq2
               rw [HKQ.out] at hkq2
               cases hkq2
               cases hkg2
               have hkq2 := HKQ.out
               have HR5 : Hid (w5.ownsRow V.heap.size 3 1 (.slice (some ⟨g5, 0, none⟩) (q + 1) cp) (q + 1) ((numL ks (q + 1)).map (Value.int .i64))) := (by
                 rw [numL_succ, List.map_append, HNQ.out]
                 exact hown5)
               have HREL : Hid (TrB ks n V (.slice (some ⟨g5, 0, none⟩) (q + 1) cp) (.int .i64 ((nq : Int) + 1)) (.int .i64 ((q : Int) + 1)) w5) := ⟨q + 1, _, cp, by omega, by go_num, (by rw [numF_t hkq2, HNQ.out]; go_num), rfl, HR5.out, hb5⟩
               clear hown5 hgrow hat hblk hr3 hb5 hkq2 HR5)
            | fail)
            go_roundw
            case rel => exact HREL.out
            case measure => simp [intOf]; omega
        · obtain rfl : n = q := by omega
          have HAR := Lib.hid HROW.out
          obtain ⟨V4, hV4⟩ : ∃ V4, wr = V4 := ⟨_, rfl⟩
          rw [hV4] at HAR HBV
          have HV4 := Lib.hid hV4
          have hbw : Below W.heap.size W V4 := HBR.out.trans (HBV.out.mono hVW)
          have HBW4 := Lib.hid hbw
          have hw4 := hbw.size
          have hCL4 : ∀ v, Below V4.heap.size V4 v → CL v m k := fun v hv => HCL.out v (hbw.trans (hv.mono hw4))
          have HSV : Hid (∀ v, Below V4.heap.size V4 v → v.cell? ⟨w.heap.size, 0, none⟩ = some (.slice k.va m.vars.length k.vc) ∧ v.cell? ⟨w.heap.size, 1, none⟩ = some (.slice k.aa m.arrs.length k.ac) ∧ v.cell? ⟨w.heap.size, 2, none⟩ = some (.slice k.la n k.lc)) := fun v hv => (HF.out v (hbw.trans (hv.mono hw4))).1
          have HNV : Hid (∀ v, Below V4.heap.size V4 v → NewsAt v k.va m.vars.length (m.vars.map (Value.int .i64))) := fun v hv => NewsAt.ints (hCL4 v hv).1.slice
          have HNA : Hid (∀ v, Below V4.heap.size V4 v → NewsAt v k.aa m.arrs.length (m.arrs.map (Value.int .i64))) := fun v hv => NewsAt.ints (hCL4 v hv).2.1.slice
          have hlv : (m.vars.map (Value.int .i64)).length = m.vars.length * 1 := by simp
          have hla : (m.arrs.map (Value.int .i64)).length = m.arrs.length * 1 := by simp
          have hov : ∀ u ∈ m.vars.map (Value.int .i64), u.oneCell' = true := by simp [Value.oneCell']
          have hoa : ∀ u ∈ m.arrs.map (Value.int .i64), u.oneCell' = true := by simp [Value.oneCell']
          have HLV := Lib.hid hlv
          have HLA := Lib.hid hla
          have HOV := Lib.hid hov
          have HOA := Lib.hid hoa
          obtain ⟨p0, p1, p2⟩ := HSV.out V4 (Below.refl _ _)
          obtain ⟨hs1, hs2, hs3⟩ := hs
          clear HROW hlv hla hov hoa hbw hCL4 hV4
          rw [HV4.out]
          go_upto_region 15 with fail
          go_cut [8] from 57 to 65 (fun s8 wx => ∃ ob, s8 = .pointer (some ⟨ob, 0, none⟩) ∧ Hid (OutR m V4 ob wx))
          case first =>
            go_region_held3 (fun v => v.cell? ⟨w.heap.size, 0, none⟩ = some (.slice k.va m.vars.length k.vc) ∧ v.cell? ⟨w.heap.size, 1, none⟩ = some (.slice k.aa m.arrs.length k.ac) ∧ v.cell? ⟨w.heap.size, 2, none⟩ = some (.slice k.la n k.lc)) (first | (with_reducible assumption) | (refine HSV.out _ ?_; (first | (with_reducible assumption) | exact Below.refl _ _ | exact (Below.refl _ _).drew | (refine Below.alloc ?_ (by first | omega | (simp; done) | (simp; omega)) _; (first | (with_reducible assumption) | exact Below.refl _ _ | exact (Below.refl _ _).drew | (refine Below.alloc ?_ (by first | omega | (simp; done) | (simp; omega)) _; (first | (with_reducible assumption) | exact Below.refl _ _ | exact (Below.refl _ _).drew | (refine Below.alloc ?_ (by first | omega | (simp; done) | (simp; omega)) _; (first | (with_reducible assumption) | exact Below.refl _ _ | exact (Below.refl _ _).drew | fail)) | (refine Below.drew (Below.alloc ?_ (by first | omega | (simp; done) | (simp; omega)) _); (first | (with_reducible assumption) | exact Below.refl _ _ | exact (Below.refl _ _).drew | fail)) | fail)) | (refine Below.drew (Below.alloc ?_ (by first | omega | (simp; done) | (simp; omega)) _); (first | (with_reducible assumption) | exact Below.refl _ _ | exact (Below.refl _ _).drew | (refine Below.alloc ?_ (by first | omega | (simp; done) | (simp; omega)) _; (first | (with_reducible assumption) | exact Below.refl _ _ | exact (Below.refl _ _).drew | fail)) | (refine Below.drew (Below.alloc ?_ (by first | omega | (simp; done) | (simp; omega)) _); (first | (with_reducible assumption) | exact Below.refl _ _ | exact (Below.refl _ _).drew | fail)) | fail)) | fail)) | (refine Below.drew (Below.alloc ?_ (by first | omega | (simp; done) | (simp; omega)) _); (first | (with_reducible assumption) | exact Below.refl _ _ | exact (Below.refl _ _).drew | (refine Below.alloc ?_ (by first | omega | (simp; done) | (simp; omega)) _; (first | (with_reducible assumption) | exact Below.refl _ _ | exact (Below.refl _ _).drew | (refine Below.alloc ?_ (by first | omega | (simp; done) | (simp; omega)) _; (first | (with_reducible assumption) | exact Below.refl _ _ | exact (Below.refl _ _).drew | fail)) | (refine Below.drew (Below.alloc ?_ (by first | omega | (simp; done) | (simp; omega)) _); (first | (with_reducible assumption) | exact Below.refl _ _ | exact (Below.refl _ _).drew | fail)) | fail)) | (refine Below.drew (Below.alloc ?_ (by first | omega | (simp; done) | (simp; omega)) _); (first | (with_reducible assumption) | exact Below.refl _ _ | exact (Below.refl _ _).drew | (refine Below.alloc ?_ (by first | omega | (simp; done) | (simp; omega)) _; (first | (with_reducible assumption) | exact Below.refl _ _ | exact (Below.refl _ _).drew | fail)) | (refine Below.drew (Below.alloc ?_ (by first | omega | (simp; done) | (simp; omega)) _); (first | (with_reducible assumption) | exact Below.refl _ _ | exact (Below.refl _ _).drew | fail)) | fail)) | fail)) | fail)) | fail)
              (first
              | (refine step_append_any _ (by rfl) _ _ 22 (by rfl) V4.heap.size 3 i0 _ 1 8 Tryd.underlying22 hi hi0 hi1 hi2 rfl (by omega) _ 0 [] (by rfl) (by exact ownsRow_empty (by omega) (by (first | (with_reducible assumption) | exact blk_new (by first | omega | (simp; done) | (simp; omega)) | exact blk_newD (by first | omega | (simp; done) | (simp; omega)) | (refine blk_old ?_; (first | (with_reducible assumption) | exact blk_new (by first | omega | (simp; done) | (simp; omega)) | exact blk_newD (by first | omega | (simp; done) | (simp; omega)) | (refine blk_old ?_; (first | (with_reducible assumption) | exact blk_new (by first | omega | (simp; done) | (simp; omega)) | exact blk_newD (by first | omega | (simp; done) | (simp; omega)))) | (refine blk_oldD ?_; (first | (with_reducible assumption) | exact blk_new (by first | omega | (simp; done) | (simp; omega)) | exact blk_newD (by first | omega | (simp; done) | (simp; omega)))))) | (refine blk_oldD ?_; (first | (with_reducible assumption) | exact blk_new (by first | omega | (simp; done) | (simp; omega)) | exact blk_newD (by first | omega | (simp; done) | (simp; omega)) | (refine blk_old ?_; (first | (with_reducible assumption) | exact blk_new (by first | omega | (simp; done) | (simp; omega)) | exact blk_newD (by first | omega | (simp; done) | (simp; omega)))) | (refine blk_oldD ?_; (first | (with_reducible assumption) | exact blk_new (by first | omega | (simp; done) | (simp; omega)) | exact blk_newD (by first | omega | (simp; done) | (simp; omega))))))))) k.va m.vars.length k.vc (m.vars.map (Value.int .i64)) (by rfl) HLV.out (HNV.out _ (by (first | (with_reducible assumption) | exact Below.refl _ _ | exact (Below.refl _ _).drew | (refine Below.alloc ?_ (by first | omega | (simp; done) | (simp; omega)) _; (first | (with_reducible assumption) | exact Below.refl _ _ | exact (Below.refl _ _).drew | (refine Below.alloc ?_ (by first | omega | (simp; done) | (simp; omega)) _; (first | (with_reducible assumption) | exact Below.refl _ _ | exact (Below.refl _ _).drew | (refine Below.alloc ?_ (by first | omega | (simp; done) | (simp; omega)) _; (first | (with_reducible assumption) | exact Below.refl _ _ | exact (Below.refl _ _).drew | fail)) | (refine Below.drew (Below.alloc ?_ (by first | omega | (simp; done) | (simp; omega)) _); (first | (with_reducible assumption) | exact Below.refl _ _ | exact (Below.refl _ _).drew | fail)) | fail)) | (refine Below.drew (Below.alloc ?_ (by first | omega | (simp; done) | (simp; omega)) _); (first | (with_reducible assumption) | exact Below.refl _ _ | exact (Below.refl _ _).drew | (refine Below.alloc ?_ (by first | omega | (simp; done) | (simp; omega)) _; (first | (with_reducible assumption) | exact Below.refl _ _ | exact (Below.refl _ _).drew | fail)) | (refine Below.drew (Below.alloc ?_ (by first | omega | (simp; done) | (simp; omega)) _); (first | (with_reducible assumption) | exact Below.refl _ _ | exact (Below.refl _ _).drew | fail)) | fail)) | fail)) | (refine Below.drew (Below.alloc ?_ (by first | omega | (simp; done) | (simp; omega)) _); (first | (with_reducible assumption) | exact Below.refl _ _ | exact (Below.refl _ _).drew | (refine Below.alloc ?_ (by first | omega | (simp; done) | (simp; omega)) _; (first | (with_reducible assumption) | exact Below.refl _ _ | exact (Below.refl _ _).drew | (refine Below.alloc ?_ (by first | omega | (simp; done) | (simp; omega)) _; (first | (with_reducible assumption) | exact Below.refl _ _ | exact (Below.refl _ _).drew | fail)) | (refine Below.drew (Below.alloc ?_ (by first | omega | (simp; done) | (simp; omega)) _); (first | (with_reducible assumption) | exact Below.refl _ _ | exact (Below.refl _ _).drew | fail)) | fail)) | (refine Below.drew (Below.alloc ?_ (by first | omega | (simp; done) | (simp; omega)) _); (first | (with_reducible assumption) | exact Below.refl _ _ | exact (Below.refl _ _).drew | (refine Below.alloc ?_ (by first | omega | (simp; done) | (simp; omega)) _; (first | (with_reducible assumption) | exact Below.refl _ _ | exact (Below.refl _ _).drew | fail)) | (refine Below.drew (Below.alloc ?_ (by first | omega | (simp; done) | (simp; omega)) _); (first | (with_reducible assumption) | exact Below.refl _ _ | exact (Below.refl _ _).drew | fail)) | fail)) | fail)) | fail))) HOV.out (by unfold maxLen; omega) (by omega) (by first | omega | (simp; done) | (simp; omega)) ?_
                 rintro v q1 ⟨va, vc, hv1, hr1, hgr1, hat1⟩
                 rw [Nat.zero_add] at hv1 hr1 hat1
                 rw [List.nil_append] at hr1
                 subst hv1
                 have hb1 : Below V4.heap.size V4 q1 := Below.grown (by (first | (with_reducible assumption) | exact Below.refl _ _ | exact (Below.refl _ _).drew | (refine Below.alloc ?_ (by first | omega | (simp; done) | (simp; omega)) _; (first | (with_reducible assumption) | exact Below.refl _ _ | exact (Below.refl _ _).drew | (refine Below.alloc ?_ (by first | omega | (simp; done) | (simp; omega)) _; (first | (with_reducible assumption) | exact Below.refl _ _ | exact (Below.refl _ _).drew | (refine Below.alloc ?_ (by first | omega | (simp; done) | (simp; omega)) _; (first | (with_reducible assumption) | exact Below.refl _ _ | exact (Below.refl _ _).drew | fail)) | (refine Below.drew (Below.alloc ?_ (by first | omega | (simp; done) | (simp; omega)) _); (first | (with_reducible assumption) | exact Below.refl _ _ | exact (Below.refl _ _).drew | fail)) | fail)) | (refine Below.drew (Below.alloc ?_ (by first | omega | (simp; done) | (simp; omega)) _); (first | (with_reducible assumption) | exact Below.refl _ _ | exact (Below.refl _ _).drew | (refine Below.alloc ?_ (by first | omega | (simp; done) | (simp; omega)) _; (first | (with_reducible assumption) | exact Below.refl _ _ | exact (Below.refl _ _).drew | fail)) | (refine Below.drew (Below.alloc ?_ (by first | omega | (simp; done) | (simp; omega)) _); (first | (with_reducible assumption) | exact Below.refl _ _ | exact (Below.refl _ _).drew | fail)) | fail)) | fail)) | (refine Below.drew (Below.alloc ?_ (by first | omega | (simp; done) | (simp; omega)) _); (first | (with_reducible assumption) | exact Below.refl _ _ | exact (Below.refl _ _).drew | (refine Below.alloc ?_ (by first | omega | (simp; done) | (simp; omega)) _; (first | (with_reducible assumption) | exact Below.refl _ _ | exact (Below.refl _ _).drew | (refine Below.alloc ?_ (by first | omega | (simp; done) | (simp; omega)) _; (first | (with_reducible assumption) | exact Below.refl _ _ | exact (Below.refl _ _).drew | fail)) | (refine Below.drew (Below.alloc ?_ (by first | omega | (simp; done) | (simp; omega)) _); (first | (with_reducible assumption) | exact Below.refl _ _ | exact (Below.refl _ _).drew | fail)) | fail)) | (refine Below.drew (Below.alloc ?_ (by first | omega | (simp; done) | (simp; omega)) _); (first | (with_reducible assumption) | exact Below.refl _ _ | exact (Below.refl _ _).drew | (refine Below.alloc ?_ (by first | omega | (simp; done) | (simp; omega)) _; (first | (with_reducible assumption) | exact Below.refl _ _ | exact (Below.refl _ _).drew | fail)) | (refine Below.drew (Below.alloc ?_ (by first | omega | (simp; done) | (simp; omega)) _); (first | (with_reducible assumption) | exact Below.refl _ _ | exact (Below.refl _ _).drew | fail)) | fail)) | fail)) | fail)) hgr1 (by first | omega | (simp; done) | (simp; omega)) (fun k e => (by have e := own_lit e; omega))
                 have hs1' := HSV.out q1 hb1
                 have hz1 := hb1.size
                 have hgz1 := hgr1.size
                 (try simp at hgz1)
                 have lt1 : ∀ g, (Value.slice va m.vars.length vc).ownBlock = some g → V4.heap.size ≤ g ∧ g < q1.heap.size := fun g hg => hr1.lt g hg
                 (try have n12 : (Value.slice va m.vars.length vc).ownBlock ≠ some (V4.heap.size) := (fun e => (by rw [e] at hat1; rcases hat1 with h | h; (have h := own_lit h.symm; omega); (have h := some_inj h; first | omega | (simp at h; done) | (simp at h; omega)))))
                 (try have y12a : q1.heap[V4.heap.size]? = some (.cells #[] 3 (0, 0)) := (hgr1.block (V4.heap.size) (by first | omega | (simp; done) | (simp; omega)) (fun e => (by have e := own_lit e.symm; omega))).trans (by (first | (with_reducible assumption) | exact blk_new (by first | omega | (simp; done) | (simp; omega)) | exact blk_newD (by first | omega | (simp; done) | (simp; omega)) | (refine blk_old ?_; (first | (with_reducible assumption) | exact blk_new (by first | omega | (simp; done) | (simp; omega)) | exact blk_newD (by first | omega | (simp; done) | (simp; omega)) | (refine blk_old ?_; (first | (with_reducible assumption) | exact blk_new (by first | omega | (simp; done) | (simp; omega)) | exact blk_newD (by first | omega | (simp; done) | (simp; omega)))) | (refine blk_oldD ?_; (first | (with_reducible assumption) | exact blk_new (by first | omega | (simp; done) | (simp; omega)) | exact blk_newD (by first | omega | (simp; done) | (simp; omega)))))) | (refine blk_oldD ?_; (first | (with_reducible assumption) | exact blk_new (by first | omega | (simp; done) | (simp; omega)) | exact blk_newD (by first | omega | (simp; done) | (simp; omega)) | (refine blk_old ?_; (first | (with_reducible assumption) | exact blk_new (by first | omega | (simp; done) | (simp; omega)) | exact blk_newD (by first | omega | (simp; done) | (simp; omega)))) | (refine blk_oldD ?_; (first | (with_reducible assumption) | exact blk_new (by first | omega | (simp; done) | (simp; omega)) | exact blk_newD (by first | omega | (simp; done) | (simp; omega)))))))))
                 (try have y12c : q1.heap[V4.heap.size]? = some (.cells #[.slice none 0 0, .slice none 0 0, .slice none 0 0] 30 (0, 0)) := (hgr1.block (V4.heap.size) (by first | omega | (simp; done) | (simp; omega)) (fun e => (by have e := own_lit e.symm; omega))).trans (by (first | (with_reducible assumption) | exact blk_new (by first | omega | (simp; done) | (simp; omega)) | exact blk_newD (by first | omega | (simp; done) | (simp; omega)) | (refine blk_old ?_; (first | (with_reducible assumption) | exact blk_new (by first | omega | (simp; done) | (simp; omega)) | exact blk_newD (by first | omega | (simp; done) | (simp; omega)) | (refine blk_old ?_; (first | (with_reducible assumption) | exact blk_new (by first | omega | (simp; done) | (simp; omega)) | exact blk_newD (by first | omega | (simp; done) | (simp; omega)))) | (refine blk_oldD ?_; (first | (with_reducible assumption) | exact blk_new (by first | omega | (simp; done) | (simp; omega)) | exact blk_newD (by first | omega | (simp; done) | (simp; omega)))))) | (refine blk_oldD ?_; (first | (with_reducible assumption) | exact blk_new (by first | omega | (simp; done) | (simp; omega)) | exact blk_newD (by first | omega | (simp; done) | (simp; omega)) | (refine blk_old ?_; (first | (with_reducible assumption) | exact blk_new (by first | omega | (simp; done) | (simp; omega)) | exact blk_newD (by first | omega | (simp; done) | (simp; omega)))) | (refine blk_oldD ?_; (first | (with_reducible assumption) | exact blk_new (by first | omega | (simp; done) | (simp; omega)) | exact blk_newD (by first | omega | (simp; done) | (simp; omega)))))))))
                 (try have n13 : (Value.slice va m.vars.length vc).ownBlock ≠ some (V4.heap.size + 1) := (fun e => (by rw [e] at hat1; rcases hat1 with h | h; (have h := own_lit h.symm; omega); (have h := some_inj h; first | omega | (simp at h; done) | (simp at h; omega)))))
                 (try have y13a : q1.heap[V4.heap.size + 1]? = some (.cells #[] 3 (0, 0)) := (hgr1.block (V4.heap.size + 1) (by first | omega | (simp; done) | (simp; omega)) (fun e => (by have e := own_lit e.symm; omega))).trans (by (first | (with_reducible assumption) | exact blk_new (by first | omega | (simp; done) | (simp; omega)) | exact blk_newD (by first | omega | (simp; done) | (simp; omega)) | (refine blk_old ?_; (first | (with_reducible assumption) | exact blk_new (by first | omega | (simp; done) | (simp; omega)) | exact blk_newD (by first | omega | (simp; done) | (simp; omega)) | (refine blk_old ?_; (first | (with_reducible assumption) | exact blk_new (by first | omega | (simp; done) | (simp; omega)) | exact blk_newD (by first | omega | (simp; done) | (simp; omega)))) | (refine blk_oldD ?_; (first | (with_reducible assumption) | exact blk_new (by first | omega | (simp; done) | (simp; omega)) | exact blk_newD (by first | omega | (simp; done) | (simp; omega)))))) | (refine blk_oldD ?_; (first | (with_reducible assumption) | exact blk_new (by first | omega | (simp; done) | (simp; omega)) | exact blk_newD (by first | omega | (simp; done) | (simp; omega)) | (refine blk_old ?_; (first | (with_reducible assumption) | exact blk_new (by first | omega | (simp; done) | (simp; omega)) | exact blk_newD (by first | omega | (simp; done) | (simp; omega)))) | (refine blk_oldD ?_; (first | (with_reducible assumption) | exact blk_new (by first | omega | (simp; done) | (simp; omega)) | exact blk_newD (by first | omega | (simp; done) | (simp; omega)))))))))
                 (try have y13c : q1.heap[V4.heap.size + 1]? = some (.cells #[.slice none 0 0, .slice none 0 0, .slice none 0 0] 30 (0, 0)) := (hgr1.block (V4.heap.size + 1) (by first | omega | (simp; done) | (simp; omega)) (fun e => (by have e := own_lit e.symm; omega))).trans (by (first | (with_reducible assumption) | exact blk_new (by first | omega | (simp; done) | (simp; omega)) | exact blk_newD (by first | omega | (simp; done) | (simp; omega)) | (refine blk_old ?_; (first | (with_reducible assumption) | exact blk_new (by first | omega | (simp; done) | (simp; omega)) | exact blk_newD (by first | omega | (simp; done) | (simp; omega)) | (refine blk_old ?_; (first | (with_reducible assumption) | exact blk_new (by first | omega | (simp; done) | (simp; omega)) | exact blk_newD (by first | omega | (simp; done) | (simp; omega)))) | (refine blk_oldD ?_; (first | (with_reducible assumption) | exact blk_new (by first | omega | (simp; done) | (simp; omega)) | exact blk_newD (by first | omega | (simp; done) | (simp; omega)))))) | (refine blk_oldD ?_; (first | (with_reducible assumption) | exact blk_new (by first | omega | (simp; done) | (simp; omega)) | exact blk_newD (by first | omega | (simp; done) | (simp; omega)) | (refine blk_old ?_; (first | (with_reducible assumption) | exact blk_new (by first | omega | (simp; done) | (simp; omega)) | exact blk_newD (by first | omega | (simp; done) | (simp; omega)))) | (refine blk_oldD ?_; (first | (with_reducible assumption) | exact blk_new (by first | omega | (simp; done) | (simp; omega)) | exact blk_newD (by first | omega | (simp; done) | (simp; omega)))))))))
                 (try have n14 : (Value.slice va m.vars.length vc).ownBlock ≠ some (V4.heap.size + 2) := (fun e => (by rw [e] at hat1; rcases hat1 with h | h; (have h := own_lit h.symm; omega); (have h := some_inj h; first | omega | (simp at h; done) | (simp at h; omega)))))
                 (try have y14a : q1.heap[V4.heap.size + 2]? = some (.cells #[] 3 (0, 0)) := (hgr1.block (V4.heap.size + 2) (by first | omega | (simp; done) | (simp; omega)) (fun e => (by have e := own_lit e.symm; omega))).trans (by (first | (with_reducible assumption) | exact blk_new (by first | omega | (simp; done) | (simp; omega)) | exact blk_newD (by first | omega | (simp; done) | (simp; omega)) | (refine blk_old ?_; (first | (with_reducible assumption) | exact blk_new (by first | omega | (simp; done) | (simp; omega)) | exact blk_newD (by first | omega | (simp; done) | (simp; omega)) | (refine blk_old ?_; (first | (with_reducible assumption) | exact blk_new (by first | omega | (simp; done) | (simp; omega)) | exact blk_newD (by first | omega | (simp; done) | (simp; omega)))) | (refine blk_oldD ?_; (first | (with_reducible assumption) | exact blk_new (by first | omega | (simp; done) | (simp; omega)) | exact blk_newD (by first | omega | (simp; done) | (simp; omega)))))) | (refine blk_oldD ?_; (first | (with_reducible assumption) | exact blk_new (by first | omega | (simp; done) | (simp; omega)) | exact blk_newD (by first | omega | (simp; done) | (simp; omega)) | (refine blk_old ?_; (first | (with_reducible assumption) | exact blk_new (by first | omega | (simp; done) | (simp; omega)) | exact blk_newD (by first | omega | (simp; done) | (simp; omega)))) | (refine blk_oldD ?_; (first | (with_reducible assumption) | exact blk_new (by first | omega | (simp; done) | (simp; omega)) | exact blk_newD (by first | omega | (simp; done) | (simp; omega)))))))))
                 (try have y14c : q1.heap[V4.heap.size + 2]? = some (.cells #[.slice none 0 0, .slice none 0 0, .slice none 0 0] 30 (0, 0)) := (hgr1.block (V4.heap.size + 2) (by first | omega | (simp; done) | (simp; omega)) (fun e => (by have e := own_lit e.symm; omega))).trans (by (first | (with_reducible assumption) | exact blk_new (by first | omega | (simp; done) | (simp; omega)) | exact blk_newD (by first | omega | (simp; done) | (simp; omega)) | (refine blk_old ?_; (first | (with_reducible assumption) | exact blk_new (by first | omega | (simp; done) | (simp; omega)) | exact blk_newD (by first | omega | (simp; done) | (simp; omega)) | (refine blk_old ?_; (first | (with_reducible assumption) | exact blk_new (by first | omega | (simp; done) | (simp; omega)) | exact blk_newD (by first | omega | (simp; done) | (simp; omega)))) | (refine blk_oldD ?_; (first | (with_reducible assumption) | exact blk_new (by first | omega | (simp; done) | (simp; omega)) | exact blk_newD (by first | omega | (simp; done) | (simp; omega)))))) | (refine blk_oldD ?_; (first | (with_reducible assumption) | exact blk_new (by first | omega | (simp; done) | (simp; omega)) | exact blk_newD (by first | omega | (simp; done) | (simp; omega)) | (refine blk_old ?_; (first | (with_reducible assumption) | exact blk_new (by first | omega | (simp; done) | (simp; omega)) | exact blk_newD (by first | omega | (simp; done) | (simp; omega)))) | (refine blk_oldD ?_; (first | (with_reducible assumption) | exact blk_new (by first | omega | (simp; done) | (simp; omega)) | exact blk_newD (by first | omega | (simp; done) | (simp; omega))))))))))
              | (refine step_append_any _ (by rfl) _ _ 22 (by rfl) V4.heap.size 3 i0 _ 1 8 Tryd.underlying22 hi hi0 hi1 hi2 rfl (by omega) _ 0 [] (by rfl) (by exact ownsRow_empty (by omega) (by (first | (with_reducible assumption) | exact blk_new (by first | omega | (simp; done) | (simp; omega)) | exact blk_newD (by first | omega | (simp; done) | (simp; omega)) | (refine blk_old ?_; (first | (with_reducible assumption) | exact blk_new (by first | omega | (simp; done) | (simp; omega)) | exact blk_newD (by first | omega | (simp; done) | (simp; omega)) | (refine blk_old ?_; (first | (with_reducible assumption) | exact blk_new (by first | omega | (simp; done) | (simp; omega)) | exact blk_newD (by first | omega | (simp; done) | (simp; omega)))) | (refine blk_oldD ?_; (first | (with_reducible assumption) | exact blk_new (by first | omega | (simp; done) | (simp; omega)) | exact blk_newD (by first | omega | (simp; done) | (simp; omega)))))) | (refine blk_oldD ?_; (first | (with_reducible assumption) | exact blk_new (by first | omega | (simp; done) | (simp; omega)) | exact blk_newD (by first | omega | (simp; done) | (simp; omega)) | (refine blk_old ?_; (first | (with_reducible assumption) | exact blk_new (by first | omega | (simp; done) | (simp; omega)) | exact blk_newD (by first | omega | (simp; done) | (simp; omega)))) | (refine blk_oldD ?_; (first | (with_reducible assumption) | exact blk_new (by first | omega | (simp; done) | (simp; omega)) | exact blk_newD (by first | omega | (simp; done) | (simp; omega))))))))) k.aa m.arrs.length k.ac (m.arrs.map (Value.int .i64)) (by rfl) HLA.out (HNA.out _ (by (first | (with_reducible assumption) | exact Below.refl _ _ | exact (Below.refl _ _).drew | (refine Below.alloc ?_ (by first | omega | (simp; done) | (simp; omega)) _; (first | (with_reducible assumption) | exact Below.refl _ _ | exact (Below.refl _ _).drew | (refine Below.alloc ?_ (by first | omega | (simp; done) | (simp; omega)) _; (first | (with_reducible assumption) | exact Below.refl _ _ | exact (Below.refl _ _).drew | (refine Below.alloc ?_ (by first | omega | (simp; done) | (simp; omega)) _; (first | (with_reducible assumption) | exact Below.refl _ _ | exact (Below.refl _ _).drew | fail)) | (refine Below.drew (Below.alloc ?_ (by first | omega | (simp; done) | (simp; omega)) _); (first | (with_reducible assumption) | exact Below.refl _ _ | exact (Below.refl _ _).drew | fail)) | fail)) | (refine Below.drew (Below.alloc ?_ (by first | omega | (simp; done) | (simp; omega)) _); (first | (with_reducible assumption) | exact Below.refl _ _ | exact (Below.refl _ _).drew | (refine Below.alloc ?_ (by first | omega | (simp; done) | (simp; omega)) _; (first | (with_reducible assumption) | exact Below.refl _ _ | exact (Below.refl _ _).drew | fail)) | (refine Below.drew (Below.alloc ?_ (by first | omega | (simp; done) | (simp; omega)) _); (first | (with_reducible assumption) | exact Below.refl _ _ | exact (Below.refl _ _).drew | fail)) | fail)) | fail)) | (refine Below.drew (Below.alloc ?_ (by first | omega | (simp; done) | (simp; omega)) _); (first | (with_reducible assumption) | exact Below.refl _ _ | exact (Below.refl _ _).drew | (refine Below.alloc ?_ (by first | omega | (simp; done) | (simp; omega)) _; (first | (with_reducible assumption) | exact Below.refl _ _ | exact (Below.refl _ _).drew | (refine Below.alloc ?_ (by first | omega | (simp; done) | (simp; omega)) _; (first | (with_reducible assumption) | exact Below.refl _ _ | exact (Below.refl _ _).drew | fail)) | (refine Below.drew (Below.alloc ?_ (by first | omega | (simp; done) | (simp; omega)) _); (first | (with_reducible assumption) | exact Below.refl _ _ | exact (Below.refl _ _).drew | fail)) | fail)) | (refine Below.drew (Below.alloc ?_ (by first | omega | (simp; done) | (simp; omega)) _); (first | (with_reducible assumption) | exact Below.refl _ _ | exact (Below.refl _ _).drew | (refine Below.alloc ?_ (by first | omega | (simp; done) | (simp; omega)) _; (first | (with_reducible assumption) | exact Below.refl _ _ | exact (Below.refl _ _).drew | fail)) | (refine Below.drew (Below.alloc ?_ (by first | omega | (simp; done) | (simp; omega)) _); (first | (with_reducible assumption) | exact Below.refl _ _ | exact (Below.refl _ _).drew | fail)) | fail)) | fail)) | fail))) HOA.out (by unfold maxLen; omega) (by omega) (by first | omega | (simp; done) | (simp; omega)) ?_
                 rintro v q2 ⟨aa, ac, hv2, hr2, hgr2, hat2⟩
                 rw [Nat.zero_add] at hv2 hr2 hat2
                 rw [List.nil_append] at hr2
                 subst hv2
                 have hb2 : Below V4.heap.size V4 q2 := Below.grown (by (first | (with_reducible assumption) | exact Below.refl _ _ | exact (Below.refl _ _).drew | (refine Below.alloc ?_ (by first | omega | (simp; done) | (simp; omega)) _; (first | (with_reducible assumption) | exact Below.refl _ _ | exact (Below.refl _ _).drew | (refine Below.alloc ?_ (by first | omega | (simp; done) | (simp; omega)) _; (first | (with_reducible assumption) | exact Below.refl _ _ | exact (Below.refl _ _).drew | (refine Below.alloc ?_ (by first | omega | (simp; done) | (simp; omega)) _; (first | (with_reducible assumption) | exact Below.refl _ _ | exact (Below.refl _ _).drew | fail)) | (refine Below.drew (Below.alloc ?_ (by first | omega | (simp; done) | (simp; omega)) _); (first | (with_reducible assumption) | exact Below.refl _ _ | exact (Below.refl _ _).drew | fail)) | fail)) | (refine Below.drew (Below.alloc ?_ (by first | omega | (simp; done) | (simp; omega)) _); (first | (with_reducible assumption) | exact Below.refl _ _ | exact (Below.refl _ _).drew | (refine Below.alloc ?_ (by first | omega | (simp; done) | (simp; omega)) _; (first | (with_reducible assumption) | exact Below.refl _ _ | exact (Below.refl _ _).drew | fail)) | (refine Below.drew (Below.alloc ?_ (by first | omega | (simp; done) | (simp; omega)) _); (first | (with_reducible assumption) | exact Below.refl _ _ | exact (Below.refl _ _).drew | fail)) | fail)) | fail)) | (refine Below.drew (Below.alloc ?_ (by first | omega | (simp; done) | (simp; omega)) _); (first | (with_reducible assumption) | exact Below.refl _ _ | exact (Below.refl _ _).drew | (refine Below.alloc ?_ (by first | omega | (simp; done) | (simp; omega)) _; (first | (with_reducible assumption) | exact Below.refl _ _ | exact (Below.refl _ _).drew | (refine Below.alloc ?_ (by first | omega | (simp; done) | (simp; omega)) _; (first | (with_reducible assumption) | exact Below.refl _ _ | exact (Below.refl _ _).drew | fail)) | (refine Below.drew (Below.alloc ?_ (by first | omega | (simp; done) | (simp; omega)) _); (first | (with_reducible assumption) | exact Below.refl _ _ | exact (Below.refl _ _).drew | fail)) | fail)) | (refine Below.drew (Below.alloc ?_ (by first | omega | (simp; done) | (simp; omega)) _); (first | (with_reducible assumption) | exact Below.refl _ _ | exact (Below.refl _ _).drew | (refine Below.alloc ?_ (by first | omega | (simp; done) | (simp; omega)) _; (first | (with_reducible assumption) | exact Below.refl _ _ | exact (Below.refl _ _).drew | fail)) | (refine Below.drew (Below.alloc ?_ (by first | omega | (simp; done) | (simp; omega)) _); (first | (with_reducible assumption) | exact Below.refl _ _ | exact (Below.refl _ _).drew | fail)) | fail)) | fail)) | fail)) hgr2 (by first | omega | (simp; done) | (simp; omega)) (fun k e => (by have e := own_lit e; omega))
                 have hs2' := HSV.out q2 hb2
                 have hz2 := hb2.size
                 have hgz2 := hgr2.size
                 (try simp at hgz2)
                 have lt2 : ∀ g, (Value.slice aa m.arrs.length ac).ownBlock = some g → V4.heap.size ≤ g ∧ g < q2.heap.size := fun g hg => hr2.lt g hg
                 have hz12 : q1.heap.size ≤ q2.heap.size := Nat.le_trans (Below.size (B := 0) (w := q1) (by (first | (exact Below.refl _ _) | exact Below.refl _ _ | exact (Below.refl _ _).drew | (refine Below.alloc ?_ (by first | omega | (simp; done) | (simp; omega)) _; (first | (exact Below.refl _ _) | exact Below.refl _ _ | exact (Below.refl _ _).drew | (refine Below.alloc ?_ (by first | omega | (simp; done) | (simp; omega)) _; (first | (exact Below.refl _ _) | exact Below.refl _ _ | exact (Below.refl _ _).drew | (refine Below.alloc ?_ (by first | omega | (simp; done) | (simp; omega)) _; (first | (exact Below.refl _ _) | exact Below.refl _ _ | exact (Below.refl _ _).drew | fail)) | (refine Below.drew (Below.alloc ?_ (by first | omega | (simp; done) | (simp; omega)) _); (first | (exact Below.refl _ _) | exact Below.refl _ _ | exact (Below.refl _ _).drew | fail)) | fail)) | (refine Below.drew (Below.alloc ?_ (by first | omega | (simp; done) | (simp; omega)) _); (first | (exact Below.refl _ _) | exact Below.refl _ _ | exact (Below.refl _ _).drew | (refine Below.alloc ?_ (by first | omega | (simp; done) | (simp; omega)) _; (first | (exact Below.refl _ _) | exact Below.refl _ _ | exact (Below.refl _ _).drew | fail)) | (refine Below.drew (Below.alloc ?_ (by first | omega | (simp; done) | (simp; omega)) _); (first | (exact Below.refl _ _) | exact Below.refl _ _ | exact (Below.refl _ _).drew | fail)) | fail)) | fail)) | (refine Below.drew (Below.alloc ?_ (by first | omega | (simp; done) | (simp; omega)) _); (first | (exact Below.refl _ _) | exact Below.refl _ _ | exact (Below.refl _ _).drew | (refine Below.alloc ?_ (by first | omega | (simp; done) | (simp; omega)) _; (first | (exact Below.refl _ _) | exact Below.refl _ _ | exact (Below.refl _ _).drew | (refine Below.alloc ?_ (by first | omega | (simp; done) | (simp; omega)) _; (first | (exact Below.refl _ _) | exact Below.refl _ _ | exact (Below.refl _ _).drew | fail)) | (refine Below.drew (Below.alloc ?_ (by first | omega | (simp; done) | (simp; omega)) _); (first | (exact Below.refl _ _) | exact Below.refl _ _ | exact (Below.refl _ _).drew | fail)) | fail)) | (refine Below.drew (Below.alloc ?_ (by first | omega | (simp; done) | (simp; omega)) _); (first | (exact Below.refl _ _) | exact Below.refl _ _ | exact (Below.refl _ _).drew | (refine Below.alloc ?_ (by first | omega | (simp; done) | (simp; omega)) _; (first | (exact Below.refl _ _) | exact Below.refl _ _ | exact (Below.refl _ _).drew | fail)) | (refine Below.drew (Below.alloc ?_ (by first | omega | (simp; done) | (simp; omega)) _); (first | (exact Below.refl _ _) | exact Below.refl _ _ | exact (Below.refl _ _).drew | fail)) | fail)) | fail)) | fail))) hgr2.size
                 have hlq12 : ∀ g, (Value.slice va m.vars.length vc).ownBlock = some g → g < q1.heap.size := fun g hg => (by have := lt1 g hg; omega)
                 have hq12 : ∀ g, (Value.slice va m.vars.length vc).ownBlock = some g → q2.heap[g]? = q1.heap[g]? := fun g hg => grow_then hgr2 (B := q1.heap.size) (by (first | (exact Below.refl _ _) | exact Below.refl _ _ | exact (Below.refl _ _).drew | (refine Below.alloc ?_ (by first | omega | (simp; done) | (simp; omega)) _; (first | (exact Below.refl _ _) | exact Below.refl _ _ | exact (Below.refl _ _).drew | (refine Below.alloc ?_ (by first | omega | (simp; done) | (simp; omega)) _; (first | (exact Below.refl _ _) | exact Below.refl _ _ | exact (Below.refl _ _).drew | (refine Below.alloc ?_ (by first | omega | (simp; done) | (simp; omega)) _; (first | (exact Below.refl _ _) | exact Below.refl _ _ | exact (Below.refl _ _).drew | fail)) | (refine Below.drew (Below.alloc ?_ (by first | omega | (simp; done) | (simp; omega)) _); (first | (exact Below.refl _ _) | exact Below.refl _ _ | exact (Below.refl _ _).drew | fail)) | fail)) | (refine Below.drew (Below.alloc ?_ (by first | omega | (simp; done) | (simp; omega)) _); (first | (exact Below.refl _ _) | exact Below.refl _ _ | exact (Below.refl _ _).drew | (refine Below.alloc ?_ (by first | omega | (simp; done) | (simp; omega)) _; (first | (exact Below.refl _ _) | exact Below.refl _ _ | exact (Below.refl _ _).drew | fail)) | (refine Below.drew (Below.alloc ?_ (by first | omega | (simp; done) | (simp; omega)) _); (first | (exact Below.refl _ _) | exact Below.refl _ _ | exact (Below.refl _ _).drew | fail)) | fail)) | fail)) | (refine Below.drew (Below.alloc ?_ (by first | omega | (simp; done) | (simp; omega)) _); (first | (exact Below.refl _ _) | exact Below.refl _ _ | exact (Below.refl _ _).drew | (refine Below.alloc ?_ (by first | omega | (simp; done) | (simp; omega)) _; (first | (exact Below.refl _ _) | exact Below.refl _ _ | exact (Below.refl _ _).drew | (refine Below.alloc ?_ (by first | omega | (simp; done) | (simp; omega)) _; (first | (exact Below.refl _ _) | exact Below.refl _ _ | exact (Below.refl _ _).drew | fail)) | (refine Below.drew (Below.alloc ?_ (by first | omega | (simp; done) | (simp; omega)) _); (first | (exact Below.refl _ _) | exact Below.refl _ _ | exact (Below.refl _ _).drew | fail)) | fail)) | (refine Below.drew (Below.alloc ?_ (by first | omega | (simp; done) | (simp; omega)) _); (first | (exact Below.refl _ _) | exact Below.refl _ _ | exact (Below.refl _ _).drew | (refine Below.alloc ?_ (by first | omega | (simp; done) | (simp; omega)) _; (first | (exact Below.refl _ _) | exact Below.refl _ _ | exact (Below.refl _ _).drew | fail)) | (refine Below.drew (Below.alloc ?_ (by first | omega | (simp; done) | (simp; omega)) _); (first | (exact Below.refl _ _) | exact Below.refl _ _ | exact (Below.refl _ _).drew | fail)) | fail)) | fail)) | fail)) (hlq12 g hg) (Nat.le_refl _) (fun e => (by have e := own_lit e.symm; subst e; first | exact n12 hg | exact n13 hg | exact n14 hg | (have := lt1 _ hg; omega)))
                 have hr12 := World.ownsRow.far5 (w' := q2) hr1 (fun g hg _ => hq12 g hg)
                 have d12 : ∀ g, (Value.slice va m.vars.length vc).ownBlock = some g → (Value.slice aa m.arrs.length ac).ownBlock ≠ some g := fun g hg e2 => (by
                   have hlg := hlq12 g hg
                   rw [e2] at hat2
                   rcases hat2 with h | h
                   · have h := own_lit h.symm
                     subst h
                     first | exact n12 hg | exact n13 hg | exact n14 hg | (have := lt1 _ hg; omega)
                   · have h := some_inj h
                     first | omega | (simp at h; done) | (simp at h; omega))
                 (try have n22 : (Value.slice aa m.arrs.length ac).ownBlock ≠ some (V4.heap.size) := (fun e => (by rw [e] at hat2; rcases hat2 with h | h; (have h := own_lit h.symm; omega); (have h := some_inj h; first | omega | (simp at h; done) | (simp at h; omega)))))
                 (try have y22c : q2.heap[V4.heap.size]? = some (.cells #[.slice none 0 0, .slice none 0 0, .slice none 0 0] 30 (0, 0)) := (hgr2.block (V4.heap.size) (by first | omega | (simp; done) | (simp; omega)) (fun e => (by have e := own_lit e.symm; omega))).trans (by (first | (with_reducible assumption) | exact blk_new (by first | omega | (simp; done) | (simp; omega)) | exact blk_newD (by first | omega | (simp; done) | (simp; omega)) | (refine blk_old ?_; (first | (with_reducible assumption) | exact blk_new (by first | omega | (simp; done) | (simp; omega)) | exact blk_newD (by first | omega | (simp; done) | (simp; omega)) | (refine blk_old ?_; (first | (with_reducible assumption) | exact blk_new (by first | omega | (simp; done) | (simp; omega)) | exact blk_newD (by first | omega | (simp; done) | (simp; omega)))) | (refine blk_oldD ?_; (first | (with_reducible assumption) | exact blk_new (by first | omega | (simp; done) | (simp; omega)) | exact blk_newD (by first | omega | (simp; done) | (simp; omega)))))) | (refine blk_oldD ?_; (first | (with_reducible assumption) | exact blk_new (by first | omega | (simp; done) | (simp; omega)) | exact blk_newD (by first | omega | (simp; done) | (simp; omega)) | (refine blk_old ?_; (first | (with_reducible assumption) | exact blk_new (by first | omega | (simp; done) | (simp; omega)) | exact blk_newD (by first | omega | (simp; done) | (simp; omega)))) | (refine blk_oldD ?_; (first | (with_reducible assumption) | exact blk_new (by first | omega | (simp; done) | (simp; omega)) | exact blk_newD (by first | omega | (simp; done) | (simp; omega)))))))))
                 (try have x20 : q2.cell? ⟨V4.heap.size, 0, none⟩ = some (.slice none 0 0) := (by rw [cell_at y22c]; rfl))
                 (try have z20 : q2.frozen? ⟨V4.heap.size, 0, none⟩ = false := frozen_at y22c 0)
                 (try have x21 : q2.cell? ⟨V4.heap.size, 1, none⟩ = some (.slice none 0 0) := (by rw [cell_at y22c]; rfl))
                 (try have z21 : q2.frozen? ⟨V4.heap.size, 1, none⟩ = false := frozen_at y22c 1)
                 (try have x22 : q2.cell? ⟨V4.heap.size, 2, none⟩ = some (.slice none 0 0) := (by rw [cell_at y22c]; rfl))
                 (try have z22 : q2.frozen? ⟨V4.heap.size, 2, none⟩ = false := frozen_at y22c 2)
                 (try have HEND2 := Lib.hid (out_end1 hr12 hr2 d12 y22c (fun e => n12 e) (fun e => n22 e) (by omega) hb2))
                 (try have HEND2 := Lib.hid (out_end1 hr12 hr2 d12 y22c (fun e => (by have := lt1 _ e; omega)) (fun e => n22 e) (by omega) hb2))
                 (try have hsp2 := facts_put2 (w := q2) (b := V4.heap.size) (.slice va m.vars.length vc) (.slice aa m.arrs.length ac) (.slice none 0 0) (show w.heap.size ≠ V4.heap.size by omega) hs2')
                 (try have n23 : (Value.slice aa m.arrs.length ac).ownBlock ≠ some (V4.heap.size + 1) := (fun e => (by rw [e] at hat2; rcases hat2 with h | h; (have h := own_lit h.symm; omega); (have h := some_inj h; first | omega | (simp at h; done) | (simp at h; omega)))))
                 (try have y23c : q2.heap[V4.heap.size + 1]? = some (.cells #[.slice none 0 0, .slice none 0 0, .slice none 0 0] 30 (0, 0)) := (hgr2.block (V4.heap.size + 1) (by first | omega | (simp; done) | (simp; omega)) (fun e => (by have e := own_lit e.symm; omega))).trans (by (first | (with_reducible assumption) | exact blk_new (by first | omega | (simp; done) | (simp; omega)) | exact blk_newD (by first | omega | (simp; done) | (simp; omega)) | (refine blk_old ?_; (first | (with_reducible assumption) | exact blk_new (by first | omega | (simp; done) | (simp; omega)) | exact blk_newD (by first | omega | (simp; done) | (simp; omega)) | (refine blk_old ?_; (first | (with_reducible assumption) | exact blk_new (by first | omega | (simp; done) | (simp; omega)) | exact blk_newD (by first | omega | (simp; done) | (simp; omega)))) | (refine blk_oldD ?_; (first | (with_reducible assumption) | exact blk_new (by first | omega | (simp; done) | (simp; omega)) | exact blk_newD (by first | omega | (simp; done) | (simp; omega)))))) | (refine blk_oldD ?_; (first | (with_reducible assumption) | exact blk_new (by first | omega | (simp; done) | (simp; omega)) | exact blk_newD (by first | omega | (simp; done) | (simp; omega)) | (refine blk_old ?_; (first | (with_reducible assumption) | exact blk_new (by first | omega | (simp; done) | (simp; omega)) | exact blk_newD (by first | omega | (simp; done) | (simp; omega)))) | (refine blk_oldD ?_; (first | (with_reducible assumption) | exact blk_new (by first | omega | (simp; done) | (simp; omega)) | exact blk_newD (by first | omega | (simp; done) | (simp; omega)))))))))
                 (try have x30 : q2.cell? ⟨V4.heap.size + 1, 0, none⟩ = some (.slice none 0 0) := (by rw [cell_at y23c]; rfl))
                 (try have z30 : q2.frozen? ⟨V4.heap.size + 1, 0, none⟩ = false := frozen_at y23c 0)
                 (try have x31 : q2.cell? ⟨V4.heap.size + 1, 1, none⟩ = some (.slice none 0 0) := (by rw [cell_at y23c]; rfl))
                 (try have z31 : q2.frozen? ⟨V4.heap.size + 1, 1, none⟩ = false := frozen_at y23c 1)
                 (try have x32 : q2.cell? ⟨V4.heap.size + 1, 2, none⟩ = some (.slice none 0 0) := (by rw [cell_at y23c]; rfl))
                 (try have z32 : q2.frozen? ⟨V4.heap.size + 1, 2, none⟩ = false := frozen_at y23c 2)
                 (try have HEND3 := Lib.hid (out_end1 hr12 hr2 d12 y23c (fun e => n13 e) (fun e => n23 e) (by omega) hb2))
                 (try have HEND3 := Lib.hid (out_end1 hr12 hr2 d12 y23c (fun e => (by have := lt1 _ e; omega)) (fun e => n23 e) (by omega) hb2))
                 (try have hsp3 := facts_put2 (w := q2) (b := V4.heap.size + 1) (.slice va m.vars.length vc) (.slice aa m.arrs.length ac) (.slice none 0 0) (show w.heap.size ≠ V4.heap.size + 1 by omega) hs2')
                 (try have n24 : (Value.slice aa m.arrs.length ac).ownBlock ≠ some (V4.heap.size + 2) := (fun e => (by rw [e] at hat2; rcases hat2 with h | h; (have h := own_lit h.symm; omega); (have h := some_inj h; first | omega | (simp at h; done) | (simp at h; omega)))))
                 (try have y24c : q2.heap[V4.heap.size + 2]? = some (.cells #[.slice none 0 0, .slice none 0 0, .slice none 0 0] 30 (0, 0)) := (hgr2.block (V4.heap.size + 2) (by first | omega | (simp; done) | (simp; omega)) (fun e => (by have e := own_lit e.symm; omega))).trans (by (first | (with_reducible assumption) | exact blk_new (by first | omega | (simp; done) | (simp; omega)) | exact blk_newD (by first | omega | (simp; done) | (simp; omega)) | (refine blk_old ?_; (first | (with_reducible assumption) | exact blk_new (by first | omega | (simp; done) | (simp; omega)) | exact blk_newD (by first | omega | (simp; done) | (simp; omega)) | (refine blk_old ?_; (first | (with_reducible assumption) | exact blk_new (by first | omega | (simp; done) | (simp; omega)) | exact blk_newD (by first | omega | (simp; done) | (simp; omega)))) | (refine blk_oldD ?_; (first | (with_reducible assumption) | exact blk_new (by first | omega | (simp; done) | (simp; omega)) | exact blk_newD (by first | omega | (simp; done) | (simp; omega)))))) | (refine blk_oldD ?_; (first | (with_reducible assumption) | exact blk_new (by first | omega | (simp; done) | (simp; omega)) | exact blk_newD (by first | omega | (simp; done) | (simp; omega)) | (refine blk_old ?_; (first | (with_reducible assumption) | exact blk_new (by first | omega | (simp; done) | (simp; omega)) | exact blk_newD (by first | omega | (simp; done) | (simp; omega)))) | (refine blk_oldD ?_; (first | (with_reducible assumption) | exact blk_new (by first | omega | (simp; done) | (simp; omega)) | exact blk_newD (by first | omega | (simp; done) | (simp; omega)))))))))
                 (try have x40 : q2.cell? ⟨V4.heap.size + 2, 0, none⟩ = some (.slice none 0 0) := (by rw [cell_at y24c]; rfl))
                 (try have z40 : q2.frozen? ⟨V4.heap.size + 2, 0, none⟩ = false := frozen_at y24c 0)
                 (try have x41 : q2.cell? ⟨V4.heap.size + 2, 1, none⟩ = some (.slice none 0 0) := (by rw [cell_at y24c]; rfl))
                 (try have z41 : q2.frozen? ⟨V4.heap.size + 2, 1, none⟩ = false := frozen_at y24c 1)
                 (try have x42 : q2.cell? ⟨V4.heap.size + 2, 2, none⟩ = some (.slice none 0 0) := (by rw [cell_at y24c]; rfl))
                 (try have z42 : q2.frozen? ⟨V4.heap.size + 2, 2, none⟩ = false := frozen_at y24c 2)
                 (try have HEND4 := Lib.hid (out_end1 hr12 hr2 d12 y24c (fun e => n14 e) (fun e => n24 e) (by omega) hb2))
                 (try have HEND4 := Lib.hid (out_end1 hr12 hr2 d12 y24c (fun e => (by have := lt1 _ e; omega)) (fun e => n24 e) (by omega) hb2))
                 (try have hsp4 := facts_put2 (w := q2) (b := V4.heap.size + 2) (.slice va m.vars.length vc) (.slice aa m.arrs.length ac) (.slice none 0 0) (show w.heap.size ≠ V4.heap.size + 2 by omega) hs2')
                 (try have n25 : (Value.slice aa m.arrs.length ac).ownBlock ≠ some (q1.heap.size) := (fun e => (by rw [e] at hat2; rcases hat2 with h | h; (have h := own_lit h.symm; omega); (have h := some_inj h; first | omega | (simp at h; done) | (simp at h; omega)))))
                 (try have y25c : q2.heap[q1.heap.size]? = some (.cells #[.slice none 0 0, .slice none 0 0, .slice none 0 0] 30 (0, 0)) := (hgr2.block (q1.heap.size) (by first | omega | (simp; done) | (simp; omega)) (fun e => (by have e := own_lit e.symm; omega))).trans (by (first | (with_reducible assumption) | exact blk_new (by first | omega | (simp; done) | (simp; omega)) | exact blk_newD (by first | omega | (simp; done) | (simp; omega)) | (refine blk_old ?_; (first | (with_reducible assumption) | exact blk_new (by first | omega | (simp; done) | (simp; omega)) | exact blk_newD (by first | omega | (simp; done) | (simp; omega)) | (refine blk_old ?_; (first | (with_reducible assumption) | exact blk_new (by first | omega | (simp; done) | (simp; omega)) | exact blk_newD (by first | omega | (simp; done) | (simp; omega)))) | (refine blk_oldD ?_; (first | (with_reducible assumption) | exact blk_new (by first | omega | (simp; done) | (simp; omega)) | exact blk_newD (by first | omega | (simp; done) | (simp; omega)))))) | (refine blk_oldD ?_; (first | (with_reducible assumption) | exact blk_new (by first | omega | (simp; done) | (simp; omega)) | exact blk_newD (by first | omega | (simp; done) | (simp; omega)) | (refine blk_old ?_; (first | (with_reducible assumption) | exact blk_new (by first | omega | (simp; done) | (simp; omega)) | exact blk_newD (by first | omega | (simp; done) | (simp; omega)))) | (refine blk_oldD ?_; (first | (with_reducible assumption) | exact blk_new (by first | omega | (simp; done) | (simp; omega)) | exact blk_newD (by first | omega | (simp; done) | (simp; omega)))))))))
                 (try have x50 : q2.cell? ⟨q1.heap.size, 0, none⟩ = some (.slice none 0 0) := (by rw [cell_at y25c]; rfl))
                 (try have z50 : q2.frozen? ⟨q1.heap.size, 0, none⟩ = false := frozen_at y25c 0)
                 (try have x51 : q2.cell? ⟨q1.heap.size, 1, none⟩ = some (.slice none 0 0) := (by rw [cell_at y25c]; rfl))
                 (try have z51 : q2.frozen? ⟨q1.heap.size, 1, none⟩ = false := frozen_at y25c 1)
                 (try have x52 : q2.cell? ⟨q1.heap.size, 2, none⟩ = some (.slice none 0 0) := (by rw [cell_at y25c]; rfl))
                 (try have z52 : q2.frozen? ⟨q1.heap.size, 2, none⟩ = false := frozen_at y25c 2)
                 (try have HEND5 := Lib.hid (out_end1 hr12 hr2 d12 y25c (fun e => n15 e) (fun e => n25 e) (by omega) hb2))
                 (try have HEND5 := Lib.hid (out_end1 hr12 hr2 d12 y25c (fun e => (by have := lt1 _ e; omega)) (fun e => n25 e) (by omega) hb2))
                 (try have hsp5 := facts_put2 (w := q2) (b := q1.heap.size) (.slice va m.vars.length vc) (.slice aa m.arrs.length ac) (.slice none 0 0) (show w.heap.size ≠ q1.heap.size by omega) hs2')
                 (try have n26 : (Value.slice aa m.arrs.length ac).ownBlock ≠ some (q1.heap.size + 1) := (fun e => (by rw [e] at hat2; rcases hat2 with h | h; (have h := own_lit h.symm; omega); (have h := some_inj h; first | omega | (simp at h; done) | (simp at h; omega)))))
                 (try have y26c : q2.heap[q1.heap.size + 1]? = some (.cells #[.slice none 0 0, .slice none 0 0, .slice none 0 0] 30 (0, 0)) := (hgr2.block (q1.heap.size + 1) (by first | omega | (simp; done) | (simp; omega)) (fun e => (by have e := own_lit e.symm; omega))).trans (by (first | (with_reducible assumption) | exact blk_new (by first | omega | (simp; done) | (simp; omega)) | exact blk_newD (by first | omega | (simp; done) | (simp; omega)) | (refine blk_old ?_; (first | (with_reducible assumption) | exact blk_new (by first | omega | (simp; done) | (simp; omega)) | exact blk_newD (by first | omega | (simp; done) | (simp; omega)) | (refine blk_old ?_; (first | (with_reducible assumption) | exact blk_new (by first | omega | (simp; done) | (simp; omega)) | exact blk_newD (by first | omega | (simp; done) | (simp; omega)))) | (refine blk_oldD ?_; (first | (with_reducible assumption) | exact blk_new (by first | omega | (simp; done) | (simp; omega)) | exact blk_newD (by first | omega | (simp; done) | (simp; omega)))))) | (refine blk_oldD ?_; (first | (with_reducible assumption) | exact blk_new (by first | omega | (simp; done) | (simp; omega)) | exact blk_newD (by first | omega | (simp; done) | (simp; omega)) | (refine blk_old ?_; (first | (with_reducible assumption) | exact blk_new (by first | omega | (simp; done) | (simp; omega)) | exact blk_newD (by first | omega | (simp; done) | (simp; omega)))) | (refine blk_oldD ?_; (first | (with_reducible assumption) | exact blk_new (by first | omega | (simp; done) | (simp; omega)) | exact blk_newD (by first | omega | (simp; done) | (simp; omega)))))))))
                 (try have x60 : q2.cell? ⟨q1.heap.size + 1, 0, none⟩ = some (.slice none 0 0) := (by rw [cell_at y26c]; rfl))
                 (try have z60 : q2.frozen? ⟨q1.heap.size + 1, 0, none⟩ = false := frozen_at y26c 0)
                 (try have x61 : q2.cell? ⟨q1.heap.size + 1, 1, none⟩ = some (.slice none 0 0) := (by rw [cell_at y26c]; rfl))
                 (try have z61 : q2.frozen? ⟨q1.heap.size + 1, 1, none⟩ = false := frozen_at y26c 1)
                 (try have x62 : q2.cell? ⟨q1.heap.size + 1, 2, none⟩ = some (.slice none 0 0) := (by rw [cell_at y26c]; rfl))
                 (try have z62 : q2.frozen? ⟨q1.heap.size + 1, 2, none⟩ = false := frozen_at y26c 2)
                 (try have HEND6 := Lib.hid (out_end1 hr12 hr2 d12 y26c (fun e => n16 e) (fun e => n26 e) (by omega) hb2))
                 (try have HEND6 := Lib.hid (out_end1 hr12 hr2 d12 y26c (fun e => (by have := lt1 _ e; omega)) (fun e => n26 e) (by omega) hb2))
                 (try have hsp6 := facts_put2 (w := q2) (b := q1.heap.size + 1) (.slice va m.vars.length vc) (.slice aa m.arrs.length ac) (.slice none 0 0) (show w.heap.size ≠ q1.heap.size + 1 by omega) hs2')
                 have HENDN := Lib.hid (out_end2 hr12 hr2 d12 (fun g e => (lt1 g e).2) (fun g e => (lt2 g e).2) hz12 hb2)
                 have hspn := facts_new (w := q2) (.cells #[.slice va m.vars.length vc, .slice aa m.arrs.length ac, .slice none 0 0] 30) (show w.heap.size < q2.heap.size by omega) hs2')
              | fail)
            all_goals
              go_wp2_with fail
              go_meet
              case rel =>
                refine ⟨_, rfl, ?_⟩
                first
                | with_reducible exact HEND2
                | with_reducible exact HEND3
                | with_reducible exact HEND4
                | with_reducible exact HEND5
                | with_reducible exact HEND6
                | with_reducible exact HENDN
          case rest =>
            obtain ⟨ob, rfl, HOR⟩ := hcut
            obtain ⟨va, aa, vc, ac, ho1, ho2, ho3, ho4, ho5, hle, hbo⟩ := HOR.out
            have HL2 : Hid (TrC m ks V4 ob va aa vc ac (.int .i64 0) wc) := ⟨0, none, 0, Nat.zero_le _, rfl, by rw [kepN_zero]; exact ho1, ho2, ho3, by rw [kepN_zero]; exact ⟨rfl, .inl ⟨rfl, rfl⟩⟩, fun g hg => ⟨(ho4 g hg).1, fun e => by simp [Value.ownBlock] at e, (ho4 g hg).2⟩, fun g hg => ⟨fun e => by simp [Value.ownBlock] at e, ho5 g hg⟩, fun g e => by simp [Value.ownBlock] at e, hle, hbo⟩
            have HNM : Hid (∀ v, Below V4.heap.size V4 v → ∀ t, t < n → ∃ g0, ba = some ⟨g0, 0, none⟩ ∧ g0 < V4.heap.size ∧ v.cell? ⟨g0, t, none⟩ = some (.int .i64 (numF ks t : Int))) := fun v hv t ht => by
              rcases HAR.out.2 with ⟨_, e⟩ | ⟨g, cp, cur, e, hg, hgg, _⟩
              · omega
              · injection e with e1 e2 e3
                subst e1
                refine ⟨g, rfl, (Array.getElem?_eq_some_iff.1 hgg).1, ?_⟩
                refine (World.cell?_of_block (w := V4) (a := ⟨g, t, none⟩) (hv.block g (Array.getElem?_eq_some_iff.1 hgg).1)).trans ?_
                rw [HAR.out.cellAt t (by omega), List.getElem?_map, numL_at ks ht]; rfl
            have HKLM : Hid (ks.length = m.list.length) := HKL.out.trans HN.out.symm
            clear ho1 ho2 ho3 ho4 ho5 hbo HOR HAR HNV HNA HLV HLA HOV HOA p0 p1 p2
            go_wp2_with fail
            go_loopw [9] (fun i wr => TrC m ks V4 ob va aa vc ac i wr) (fun i _ => n - (intOf i).toNat)
            case atStart => exact HL2.out
            case round =>
              obtain ⟨q, la, lc, hq, rfl, hbox, hrv, hra, hrl, d1, d2, d3, _, hb⟩ := hrel
              have hrnq : ((kepN m.list ks q).map (reT (numF ks))).length ≤ q := by
                rw [List.length_map, kepN_len HKLM.out]; exact numF_le ks q
              obtain ⟨L, hL⟩ : ∃ L, (kepN m.list ks q).map (reT (numF ks)) = L := ⟨_, rfl⟩
              rw [hL] at hbox hrl d1 d2 d3 hrnq
              obtain ⟨rn, hrn⟩ : ∃ rn, L.length = rn := ⟨_, rfl⟩
              rw [hrn] at hbox hrl d1 d2 d3 hrnq
              rw [HN.out] at hq
              have hobl : ob < wr.heap.size := (Array.getElem?_eq_some_iff.1 hbox).1
              have HLL := Lib.hid hL
              have HRN := Lib.hid hrn
              have HBOX := Lib.hid hbox
              have HRV := Lib.hid hrv
              have HRA := Lib.hid hra
              have HRL := Lib.hid hrl
              have HD1 := Lib.hid d1
              have HD2 := Lib.hid d2
              have HD3 := Lib.hid d3
              have HBR := Lib.hid hb
              have hbs := hb.size
              clear hL hrn hbox hrv hra hrl d1 d2 d3 hb HL2
              by_cases hlt : q < n
              · obtain ⟨x, b, o, hx, ha, hbl, hcl⟩ := HAT.out q hlt
                have HXX := Lib.hid hx
                obtain ⟨bb, g, hkq, hkg, hgl, hkc⟩ := HKB.out wr (HBV.out.trans (HBR.out.mono HBV.out.size)) q hlt
                subst hkg
                have HKQ := Lib.hid hkq
                obtain ⟨c0, c1, c2⟩ := HSV.out wr HBR.out
                rw [ha] at c2
                obtain ⟨r0, r1, r2, r3, r4⟩ := hcl wr (HBW4.out.trans (HBR.out.mono hw4))
                clear hx hkq hcl ha
                cases bb
                case false =>
                  have HREL : Hid (TrC m ks V4 ob va aa vc ac (.int .i64 ((q : Int) + 1)) wr) := by
                    refine ⟨q + 1, la, lc, by rw [HN.out]; omega, by go_num, ?_⟩
                    rw [kepN_f HKLM.out HXX.out HKQ.out, HLL.out, HRN.out]
                    exact ⟨HBOX.out, HRV.out, HRA.out, HRL.out, HD1.out, HD2.out, HD3.out, hle, HBR.out⟩
                  clear r0 r1 r2 r3 r4 c0 c1 c2
                  go_wp2_with fail
                  go_roundw
                  case rel => exact HREL.out
                  case measure => simp [intOf]; omega
                case true =>
                  obtain ⟨V2, hV2⟩ : ∃ V2, wr.alloc (.cells #[.int .i64 x.op, .int .i64 x.fa, .int .i64 x.fb, .int .i64 x.fc, .int .i64 x.fd] 46) = V2 := ⟨_, rfl⟩
                  have hX2 : V2.heap[wr.heap.size]? = some (.cells #[.int .i64 x.op, .int .i64 x.fa, .int .i64 x.fb, .int .i64 x.fc, .int .i64 x.fd] 46 (0, 0)) := by rw [← hV2]; exact heap_alloc_new wr _
                  have hb2 : Below wr.heap.size wr V2 := by rw [← hV2]; exact (Below.refl _ _).alloc (Nat.le_refl _) _
                  have hl2 : wr.heap.size < V2.heap.size := (Array.getElem?_eq_some_iff.1 hX2).1
                  have HB2 := Lib.hid hb2
                  have HV2 := Lib.hid hV2
                  have HX2 := Lib.hid hX2
                  have HT5 := Lib.hid (l8Tg_one x V2)
                  obtain ⟨x0, x1, x2, x3, x4⟩ := cells5 hX2
                  clear hV2 hX2 hb2
                  go_wp2_with (first | rw [HV2.out] | fail)
                  try rw [HV2.out]
                  refine HT5.out.mono ?_
                  rintro e w2 ⟨rfl, hb3⟩
                  have HB3 : Hid (Below wr.heap.size wr w2) := HB2.out.trans (hb3.mono HB2.out.size)
                  have hl3 := hb3.size
                  have HX3 : Hid (∀ v, Below w2.heap.size w2 v → v.heap[wr.heap.size]? = some (.cells #[.int .i64 x.op, .int .i64 x.fa, .int .i64 x.fb, .int .i64 x.fc, .int .i64 x.fd] 46 (0, 0))) := fun v hv => (hv.block _ (by omega)).trans ((hb3.block _ hl2).trans HX2.out)
                  clear x0 x1 x2 x3 x4 r0 r1 r2 r3 r4 c0 c1 c2 hb3 HT5 hkc
                  rcases tgZ_ok HO.out HXX.out with ⟨t, htz, htl⟩ | ⟨htz, hsame⟩
                  · rw [HN.out] at htl
                    have hbw : Below V4.heap.size V4 w2 := HBR.out.trans (HB3.out.mono HBR.out.size)
                    obtain ⟨g0, hba, hg0, _⟩ := HNM.out w2 hbw t htl
                    subst hba
                    obtain ⟨nt, hnt⟩ : ∃ nt : Int, (numF ks t : Int) = nt := ⟨_, rfl⟩
                    have HNT : Hid (∀ v, Below w2.heap.size w2 v → v.cell? ⟨g0, t, none⟩ = some (.int .i64 nt)) := fun v hv => by
                      obtain ⟨g1, e1, _, h1⟩ := HNM.out v (hbw.trans (hv.mono hbw.size)) t htl
                      cases e1
                      rw [hnt] at h1
                      exact h1
                    obtain ⟨y, hy⟩ : ∃ y, reT (numF ks) x = y := ⟨_, rfl⟩
                    have HY := Lib.hid hy
                    have HTG : Hid (∀ v, Calls Tryd.prog 39 #[.agg #[.int .i64 x.op, .int .i64 x.fa, .int .i64 x.fb, .int .i64 x.fc, .int .i64 x.fd]] v (fun e w' => e = .returned (.int .i64 (t : Int)) ∧ Below v.heap.size v w')) := fun v => by
                      have h9 := l8Tg_one x v
                      rw [htz] at h9
                      exact h9
                    have HAM : Hid (∀ v, Calls Tryd.prog 40 #[.agg #[.int .i64 x.op, .int .i64 x.fa, .int .i64 x.fb, .int .i64 x.fc, .int .i64 x.fd], .int .i64 nt] v (fun e w' => e = .returned (aggI y) ∧ Below v.heap.size v w')) := fun v => by
                      have h9 := l8Aim_one x nt v
                      rw [← hnt, aimN_ref htz, hy] at h9
                      rw [← hnt]
                      exact h9
                    have HBD : Hid (Below w2.heap.size w2 w2.drew) := (Below.refl _ _).drew
                    rw [htz]
                    obtain ⟨x0, x1, x2, x3, x4⟩ := cells5 (HX3.out _ HBD.out)
                    obtain ⟨z0, z1, z2, z3, z4⟩ := cells5 (HX3.out _ (Below.refl _ _))
                    have n0 := HNT.out _ HBD.out
                    clear hy hnt htz hbw
                    go_wp2_with fail
                    go_region_with (first
                      | (go_at_call 39; refine (HTG.out _).mono ?_
                         rintro f u1 ⟨rfl, hu1⟩
                         have hU1 : Below w2.heap.size w2 u1 := HBD.out.trans hu1
                         obtain ⟨y0, y1, y2, y3, y4⟩ := cells5 (HX3.out _ hU1)
                         have n1 := HNT.out _ hU1)
                      | (go_at_call 40; refine (HAM.out _).mono ?_
                         rintro f u2 ⟨rfl, hu2⟩
                         have hU2 : Below w2.heap.size w2 u2 := hU1.trans (hu2.mono hU1.size)
                         have hXu := HX3.out _ hU2
                         obtain ⟨w0, w1', w2', w3', w4⟩ := cells5 hXu
                         have f0 := frozen_at hXu 0
                         have f1 := frozen_at hXu 1
                         have f2 := frozen_at hXu 2
                         have f3 := frozen_at hXu 3
                         have f4 := frozen_at hXu 4)
                      | fail)
                    all_goals
                      obtain ⟨V5, hV5⟩ : ∃ V5, (((((u2.setCell ⟨wr.heap.size, 0, none⟩ (.int .i64 y.op)).setCell ⟨wr.heap.size, 1, none⟩ (.int .i64 y.fa)).setCell ⟨wr.heap.size, 2, none⟩ (.int .i64 y.fb)).setCell ⟨wr.heap.size, 3, none⟩ (.int .i64 y.fc)).setCell ⟨wr.heap.size, 4, none⟩ (.int .i64 y.fd)) = V5 := ⟨_, rfl⟩
                      have HX5 : Hid (V5.heap[wr.heap.size]? = some (.cells #[.int .i64 y.op, .int .i64 y.fa, .int .i64 y.fb, .int .i64 y.fc, .int .i64 y.fd] 46 (0, 0))) := by rw [← hV5]; exact put5 y hXu
                      have hU : Below wr.heap.size wr u2 := HB3.out.trans (hU2.mono HB3.out.size)
                      have HOLD5 : Hid (∀ q, q < wr.heap.size → V5.heap[q]? = wr.heap[q]?) := fun q hq => by rw [← hV5, put5_oth _ _ _ _ _ _ _ _ (by omega)]; exact hU.block q hq
                      have h5s : V5.heap.size = u2.heap.size := by rw [← hV5]; simp [World.setCell]
                      have hus := hU.size
                      have h5l : wr.heap.size ≤ V5.heap.size := by omega
                      have HB5 : Hid (Below V4.heap.size V4 V5) := by
                        have h1 : Below V4.heap.size V4 u2 := HBR.out.trans (hU.mono hbs)
                        rw [← hV5]
                        exact ((((h1.setCell (p := ⟨wr.heap.size, 0, none⟩) hbs _).setCell (p := ⟨wr.heap.size, 1, none⟩) hbs _).setCell (p := ⟨wr.heap.size, 2, none⟩) hbs _).setCell (p := ⟨wr.heap.size, 3, none⟩) hbs _).setCell (p := ⟨wr.heap.size, 4, none⟩) hbs _
                      rw [hV5]
                      clear hV5 h5s hU hu1 hU1 hu2 hU2 hXu y0 y1 y2 y3 y4 n1 w0 w1' w2' w3' w4 f0 f1 f2 f3 f4 x0 x1 x2 x3 x4 z0 z1 z2 z3 z4 n0 HTG HAM HNT HX3
                      obtain ⟨V6, hV6⟩ : ∃ V6, V5.alloc (.cells #[.int .i64 y.op, .int .i64 y.fa, .int .i64 y.fb, .int .i64 y.fc, .int .i64 y.fd] 46) = V6 := ⟨_, rfl⟩
                      have hblk : V6.heap[V5.heap.size]? = some (.cells #[.int .i64 y.op, .int .i64 y.fa, .int .i64 y.fb, .int .i64 y.fc, .int .i64 y.fd] 46 (0, 0)) := by rw [← hV6]; exact heap_alloc_new V5 _
                      have hz6 : V6.heap.size = V5.heap.size + 1 := by rw [← hV6]; simp
                      have hold6 : ∀ q, q < wr.heap.size → V6.heap[q]? = wr.heap[q]? := fun q hq => by rw [← hV6]; exact (Below.heap_alloc _ _ _ (by omega)).trans (HOLD5.out q hq)
                      have hb6 : Below V4.heap.size V4 V6 := by rw [← hV6]; exact HB5.out.alloc HB5.out.size _
                      have hrl6 : V6.ownsRow V4.heap.size 46 5 (.slice la rn lc) rn (flatN L) := HRL.out.far5 fun q _ hl => hold6 q hl
                      have hb5s := HB5.out.size
                      have HV6 := Lib.hid hV6
                      have HOLD6 := Lib.hid hold6
                      have HB6 := Lib.hid hb6
                      have ob2 : V5.cell? ⟨ob, 2, none⟩ = some (.slice la rn lc) := by rw [cell_at ((HOLD5.out ob hobl).trans HBOX.out)]; rfl
                      obtain ⟨v0, v1, v2, v3, v4⟩ := cells5 HX5.out
                      clear hV6 hold6 hb6
                      go_wp2_with (first
                        | (at_builtin
                           rw [HV6.out]
                           refine wpList_append_lies _ (by rfl) _ _ 28 (by rfl) V4.heap.size 46 j0 _ 5 40 Tryd.underlying28 jn jn0 jn1 jn2 rfl (by omega) (.slice la rn lc) rn _ (by rfl) hrl6 ⟨V5.heap.size, 0, none⟩ 1 1 _ (by rfl) (by rfl) (World.news_of_block hblk) (by simp [Value.oneCell']) (by omega) (by unfold maxLen; omega) (by omega) (by omega) (V5.heap.size + 1) (by omega) ?_
                           intro g5 cp w5 hown5 hgrow hat hlt5
                           have hbx5 := ((hgrow.block ob (by omega) (fun e => HD3.out ob e.symm rfl)).trans (HOLD6.out ob hobl)).trans HBOX.out
                           have fz2 := frozen_at hbx5 2
                           obtain ⟨e2, he2⟩ := cell_ex hbx5 2 (by simp)
                           have HREL : Hid (TrC m ks V4 ob va aa vc ac (.int .i64 ((q : Int) + 1)) (w5.setCell ⟨ob, 2, none⟩ (.slice (some ⟨g5, 0, none⟩) (rn + 1) cp))) := TrC.step HXX.out HKQ.out HKLM.out HY.out HLL.out HRN.out HBOX.out HRV.out HRA.out HRL.out HD1.out HD2.out HD3.out hle HOLD6.out (by omega) HB6.out hgrow hat (by omega) hown5
                           clear hown5 hgrow hat hbx5 hblk hrl6)
                        | fail)
                      go_roundw
                      case rel => exact HREL.out
                      case measure => simp [intOf]; omega
                  · have HY : Hid (reT (numF ks) x = x) := hsame _
                    have HX5 : Hid (w2.heap[wr.heap.size]? = some (.cells #[.int .i64 x.op, .int .i64 x.fa, .int .i64 x.fb, .int .i64 x.fc, .int .i64 x.fd] 46 (0, 0))) := HX3.out _ (Below.refl _ _)
                    have HOLD5 : Hid (∀ q, q < wr.heap.size → w2.heap[q]? = wr.heap[q]?) := fun q hq => HB3.out.block q hq
                    have h5l : wr.heap.size ≤ w2.heap.size := by omega
                    have HB5 : Hid (Below V4.heap.size V4 w2) := HBR.out.trans (HB3.out.mono hbs)
                    rw [htz]
                    clear htz hsame HX3
                    obtain ⟨V6, hV6⟩ : ∃ V6, w2.alloc (.cells #[.int .i64 x.op, .int .i64 x.fa, .int .i64 x.fb, .int .i64 x.fc, .int .i64 x.fd] 46) = V6 := ⟨_, rfl⟩
                    have hblk : V6.heap[w2.heap.size]? = some (.cells #[.int .i64 x.op, .int .i64 x.fa, .int .i64 x.fb, .int .i64 x.fc, .int .i64 x.fd] 46 (0, 0)) := by rw [← hV6]; exact heap_alloc_new w2 _
                    have hz6 : V6.heap.size = w2.heap.size + 1 := by rw [← hV6]; simp
                    have hold6 : ∀ q, q < wr.heap.size → V6.heap[q]? = wr.heap[q]? := fun q hq => by rw [← hV6]; exact (Below.heap_alloc _ _ _ (by omega)).trans (HOLD5.out q hq)
                    have hb6 : Below V4.heap.size V4 V6 := by rw [← hV6]; exact HB5.out.alloc HB5.out.size _
                    have hrl6 : V6.ownsRow V4.heap.size 46 5 (.slice la rn lc) rn (flatN L) := HRL.out.far5 fun q _ hl => hold6 q hl
                    have hb5s := HB5.out.size
                    have HV6 := Lib.hid hV6
                    have HOLD6 := Lib.hid hold6
                    have HB6 := Lib.hid hb6
                    have ob2 : w2.cell? ⟨ob, 2, none⟩ = some (.slice la rn lc) := by rw [cell_at ((HOLD5.out ob hobl).trans HBOX.out)]; rfl
                    obtain ⟨v0, v1, v2, v3, v4⟩ := cells5 HX5.out
                    clear hV6 hold6 hb6
                    go_wp2_with (first
                      | (at_builtin
                         rw [HV6.out]
                         refine wpList_append_lies _ (by rfl) _ _ 28 (by rfl) V4.heap.size 46 j0 _ 5 40 Tryd.underlying28 jn jn0 jn1 jn2 rfl (by omega) (.slice la rn lc) rn _ (by rfl) hrl6 ⟨w2.heap.size, 0, none⟩ 1 1 _ (by rfl) (by rfl) (World.news_of_block hblk) (by simp [Value.oneCell']) (by omega) (by unfold maxLen; omega) (by omega) (by omega) (w2.heap.size + 1) (by omega) ?_
                         intro g5 cp w5 hown5 hgrow hat hlt5
                         have hbx5 := ((hgrow.block ob (by omega) (fun e => HD3.out ob e.symm rfl)).trans (HOLD6.out ob hobl)).trans HBOX.out
                         have fz2 := frozen_at hbx5 2
                         obtain ⟨e2, he2⟩ := cell_ex hbx5 2 (by simp)
                         have HREL : Hid (TrC m ks V4 ob va aa vc ac (.int .i64 ((q : Int) + 1)) (w5.setCell ⟨ob, 2, none⟩ (.slice (some ⟨g5, 0, none⟩) (rn + 1) cp))) := TrC.step HXX.out HKQ.out HKLM.out HY.out HLL.out HRN.out HBOX.out HRV.out HRA.out HRL.out HD1.out HD2.out HD3.out hle HOLD6.out (by omega) HB6.out hgrow hat (by omega) hown5
                         clear hown5 hgrow hat hbx5 hblk hrl6)
                      | fail)
                    go_roundw
                    case rel => exact HREL.out
                    case measure => simp [intOf]; omega
              · obtain rfl : n = q := by omega
                have hEr := (HF.out wr (HBW4.out.trans (HBR.out.mono hw4))).2
                obtain ⟨s0, hs0⟩ := cell_ex hEr 0 (by simp)
                obtain ⟨s1, hs1'⟩ := cell_ex hEr 1 (by simp)
                obtain ⟨s2, hs2'⟩ := cell_ex hEr 2 (by simp)
                have f0 := frozen_at hEr 0
                have f1 := frozen_at hEr 1
                have f2 := frozen_at hEr 2
                have b0 : wr.cell? ⟨ob, 0, none⟩ = some (.slice va m.vars.length vc) := by rw [cell_at HBOX.out]; rfl
                have b1 : wr.cell? ⟨ob, 1, none⟩ = some (.slice aa m.arrs.length ac) := by rw [cell_at HBOX.out]; rfl
                have b2 : wr.cell? ⟨ob, 2, none⟩ = some (.slice la rn lc) := by rw [cell_at HBOX.out]; rfl
                have hbw : Below W.heap.size W wr := HBW4.out.trans (HBR.out.mono hw4)
                have HFIN : Hid (CopyCO ⟨m.vars, m.arrs, trimL m.list⟩ w (.returned (.agg #[.slice va m.vars.length vc, .slice aa m.arrs.length ac, .slice la rn lc])) (((wr.setCell ⟨w.heap.size + 1, 0, none⟩ (.slice va m.vars.length vc)).setCell ⟨w.heap.size + 1, 1, none⟩ (.slice aa m.arrs.length ac)).setCell ⟨w.heap.size + 1, 2, none⟩ (.slice la rn lc))) := by
                  have hoth : ∀ j, j ≠ w.heap.size + 1 → (((wr.setCell ⟨w.heap.size + 1, 0, none⟩ (.slice va m.vars.length vc)).setCell ⟨w.heap.size + 1, 1, none⟩ (.slice aa m.arrs.length ac)).setCell ⟨w.heap.size + 1, 2, none⟩ (.slice la rn lc)).heap[j]? = wr.heap[j]? := fun j hj => by
                    rw [Below.heap_setCell _ _ _ _ (by simpa using hj), Below.heap_setCell _ _ _ _ (by simpa using hj), Below.heap_setCell _ _ _ _ (by simpa using hj)]
                  have hLT : L = trimL m.list := by
                    rw [← HLL.out, ← HN.out, kepN_all HKLM.out]
                    exact HTR.out
                  have hrL : (trimL m.list).length = rn := by rw [← hLT]; exact HRN.out
                  have hBs := HB.out.size
                  refine ⟨⟨va, vc, aa, ac, la, lc⟩, by show _ = Ending.returned (.agg #[.slice va m.vars.length vc, .slice aa m.arrs.length ac, .slice la (trimL m.list).length lc]); rw [hrL], ?_, ?_⟩
                  · have hO : OwnC wr V4.heap.size ⟨m.vars, m.arrs, trimL m.list⟩ ⟨va, vc, aa, ac, la, lc⟩ := by
                      refine ⟨RowX.of HRV.out, RowX.of HRA.out, ?_, ?_, ?_, ?_⟩
                      · show RowX _ _ _ _ la (trimL m.list).length lc (flatN (trimL m.list))
                        rw [hrL, ← hLT]
                        exact RowX.of HRL.out
                      · exact fun g h1 h2 => (HD1.out g (blk_own h1)).1 (blk_own h2)
                      · exact fun g h1 h2 => (HD1.out g (blk_own h1)).2.1 (by have h3 : blk la (trimL m.list).length = some g := h2; rw [hrL] at h3; exact blk_own h3)
                      · exact fun g h1 h2 => (HD2.out g (blk_own h1)).1 (by have h3 : blk la (trimL m.list).length = some g := h2; rw [hrL] at h3; exact blk_own h3)
                    exact (hO.stand fun g h1 _ => hoth g (by omega)).mono (by omega)
                  · exact (((HB.out.trans (hbw.mono hBs)).setCell (p := ⟨w.heap.size + 1, 0, none⟩) (by simp) _).setCell (p := ⟨w.heap.size + 1, 1, none⟩) (by simp) _).setCell (p := ⟨w.heap.size + 1, 2, none⟩) (by simp) _
                clear hEr hbw
                go_wp2_with fail
                exact bodyPost_ret (v := .agg #[.slice va m.vars.length vc, .slice aa m.arrs.length ac, .slice la rn lc]) (by simp [results, Tryd.f47, go_sem, hs0, hs1', hs2']) rfl HFIN.out

end Go.Proofs.YtodihpnnajlkdaaDoor

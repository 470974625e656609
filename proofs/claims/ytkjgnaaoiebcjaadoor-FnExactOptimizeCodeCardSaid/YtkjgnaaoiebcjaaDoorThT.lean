/- The model's l8Thread and ThreadJumps, walked. -/
import Derived.Test.YtkjgnaaoiebcjaaDoorCpC
import Derived.Test.YtkjgnaaoiebcjaaDoorThS
import Derived.Deep.RegionWith
namespace Go.Proofs.YtkjgnaaoiebcjaaDoor
open Go.RowKit
set_option linter.unusedVariables false

theorem aimN_re {l : List Ins} {x : Ins} {t : Nat} (h : tgZ x = (t : Int)) : aimN x (finL l t : Int) = reT (finL l) x := by
  unfold tgZ at h
  unfold aimN reT
  split
  · rename_i h8
    rw [if_pos h8] at h
    rw [h]; rfl
  · rename_i h8
    rw [if_neg h8] at h
    split
    · rename_i h9
      rw [if_pos h9] at h
      rw [h]; rfl
    · rfl
theorem tgZ_ok {l : List Ins} (h : Okc l) {i : Nat} {x : Ins} (hx : l[i]? = some x) : (∃ t : Nat, tgZ x = (t : Int) ∧ t < l.length) ∨ (tgZ x = -1 ∧ ∀ f, reT f x = x) := by
  unfold tgZ
  by_cases h8 : x.op = 8
  · have h1 := h.ja i x hx h8
    rw [if_pos h8]
    exact .inl ⟨x.fa.toNat, by omega, by omega⟩
  · rw [if_neg h8]
    by_cases h9 : x.op = 9 ∨ x.op = 10
    · have h1 := h.jb i x hx h9
      rw [if_pos h9]
      exact .inl ⟨x.fb.toNat, by omega, by omega⟩
    · rw [if_neg h9]
      exact .inr ⟨rfl, fun f => reT_n h8 h9⟩
/-- A row of instructions with one written anew. -/
theorem flat5_set {w : World} {base g n c k : Nat} {ys : List Ins} (hro : w.ownsRow base 50 5 (.slice (some ⟨g, 0, none⟩) n c) n (flatN ys)) (hl : ys.length = n) (hk : k < n) (y : Ins) :
    (((((w.setCell ⟨g, k * 5, none⟩ (.int .i64 y.op)).setCell ⟨g, k * 5 + 1, none⟩ (.int .i64 y.fa)).setCell ⟨g, k * 5 + 2, none⟩ (.int .i64 y.fb)).setCell ⟨g, k * 5 + 3, none⟩ (.int .i64 y.fc)).setCell ⟨g, k * 5 + 4, none⟩ (.int .i64 y.fd)).ownsRow base 50 5 (.slice (some ⟨g, 0, none⟩) n c) n (flatN (ys.set k y)) := by
  have h5 := (((((hro.stored (k * 5) (.int .i64 y.op)).1.stored (k * 5 + 1) (.int .i64 y.fa)).1.stored (k * 5 + 2) (.int .i64 y.fb)).1.stored (k * 5 + 3) (.int .i64 y.fc)).1.stored (k * 5 + 4) (.int .i64 y.fd)).1
  rw [flatN_set ys k y (by rw [hl]; exact hk)] at h5
  exact h5
theorem set5_oth (w : World) (g o j : Nat) (n0 n1 n2 n3 n4 : Value) (h : j ≠ g) : (((((w.setCell ⟨g, o, none⟩ n0).setCell ⟨g, o + 1, none⟩ n1).setCell ⟨g, o + 2, none⟩ n2).setCell ⟨g, o + 3, none⟩ n3).setCell ⟨g, o + 4, none⟩ n4).heap[j]? = w.heap[j]? := by
  rw [Below.heap_setCell _ _ _ _ (by simpa using h), Below.heap_setCell _ _ _ _ (by simpa using h), Below.heap_setCell _ _ _ _ (by simpa using h), Below.heap_setCell _ _ _ _ (by simpa using h), Below.heap_setCell _ _ _ _ (by simpa using h)]

theorem cell_oth {v X : World} {g o : Nat} {a : Value} (h1 : X.heap[g]? = v.heap[g]?) (hf : v.cell? ⟨g, o, none⟩ = some a) : X.cell? ⟨g, o, none⟩ = some a := (World.cell?_of_block (w := v) (a := ⟨g, o, none⟩) h1).trans hf
/-- What the loop reads: the code's box, the copy's list, the instruction. -/
def ThF (wb ob i : Nat) (m : Cd) (k k' : CK) (n b o : Nat) (x : Ins) (v : World) : Prop := (v.cell? ⟨wb, 0, none⟩ = some (.slice k.va m.vars.length k.vc) ∧ v.cell? ⟨wb, 1, none⟩ = some (.slice k.aa m.arrs.length k.ac) ∧ v.cell? ⟨wb, 2, none⟩ = some (.slice (some ⟨b, o, none⟩) n k.lc)) ∧ v.cell? ⟨ob, 2, none⟩ = some (.slice k'.la n k'.lc) ∧ v.cell? ⟨b, o + i * 5, none⟩ = some (.int .i64 x.op) ∧ v.cell? ⟨b, o + i * 5 + 1, none⟩ = some (.int .i64 x.fa) ∧ v.cell? ⟨b, o + i * 5 + 2, none⟩ = some (.int .i64 x.fb) ∧ v.cell? ⟨b, o + i * 5 + 3, none⟩ = some (.int .i64 x.fc) ∧ v.cell? ⟨b, o + i * 5 + 4, none⟩ = some (.int .i64 x.fd)
theorem ThF.stand {wb ob i : Nat} {m : Cd} {k k' : CK} {n b o : Nat} {x : Ins} {v v' : World} (h : ThF wb ob i m k k' n b o x v) (h1 : v'.heap[wb]? = v.heap[wb]?) (h2 : v'.heap[ob]? = v.heap[ob]?) (h3 : v'.heap[b]? = v.heap[b]?) : ThF wb ob i m k k' n b o x v' := by
  obtain ⟨⟨a0, a1, a2⟩, a3, a4, a5, a6, a7, a8⟩ := h
  have q1 : ∀ {j : Nat} {u : Value}, v.cell? ⟨wb, j, none⟩ = some u → v'.cell? ⟨wb, j, none⟩ = some u := fun q => (World.cell?_of_block (w := v) h1).trans q
  have q2 : ∀ {j : Nat} {u : Value}, v.cell? ⟨ob, j, none⟩ = some u → v'.cell? ⟨ob, j, none⟩ = some u := fun q => (World.cell?_of_block (w := v) h2).trans q
  have q3 : ∀ {j : Nat} {u : Value}, v.cell? ⟨b, j, none⟩ = some u → v'.cell? ⟨b, j, none⟩ = some u := fun q => (World.cell?_of_block (w := v) h3).trans q
  exact ⟨⟨q1 a0, q1 a1, q1 a2⟩, q2 a3, q3 a4, q3 a5, q3 a6, q3 a7, q3 a8⟩

/-- The state of the loop. -/
def ThL (m : Cd) (k' : CK) (W2 : World) (ob : Nat) (i : Value) (wr : World) : Prop := ∃ (j : Nat) (ys : List Ins), j ≤ m.list.length ∧ i = .int .i64 (j : Int) ∧ ReTo (finL m.list) m.list ys j ∧ OwnC wr W2.heap.size ⟨m.vars, m.arrs, ys⟩ k' ∧ BoxC wr ob m k' ∧ Below W2.heap.size W2 wr

set_option maxRecDepth 100000 in
set_option maxHeartbeats 8000000 in
/-- **l8Thread.** -/
theorem l8Thr_one (m : Cd) (k : CK) (w : World) (h : CL w m k) (hs : CSm m) (hok : Okc m.list) :
    Calls Tryd.prog 44 #[aggC m k] w (CopyCO ⟨m.vars, m.arrs, thrL m.list⟩ w) := by
  obtain ⟨W, hW⟩ : ∃ W, (w.alloc (.cells (arrC m k) 30)).alloc (.cells #[.slice none 0 0, .slice none 0 0, .slice none 0 0] 30) = W := ⟨_, rfl⟩
  have hB : Below w.heap.size w W := by rw [← hW]; exact ((Below.refl _ w).alloc (Nat.le_refl _) _).alloc (by simp) _
  have hX : BoxC W w.heap.size m k := by rw [← hW]; exact (BoxC.new w m k _).later (Below.heap_alloc _ _ _ (by simp))
  have hE : W.heap[w.heap.size + 1]? = some (.cells #[.slice none 0 0, .slice none 0 0, .slice none 0 0] 30 (0, 0)) := by
    have e1 := heap_alloc_new (w.alloc (.cells (arrC m k) 30)) (.cells #[.slice none 0 0, .slice none 0 0, .slice none 0 0] 30)
    rw [World.size_alloc] at e1
    rw [← hW]; exact e1
  have hlw : w.heap.size + 1 < W.heap.size := (Array.getElem?_eq_some_iff.1 hE).1
  have hle := hok.le
  have hCW := h.below hB
  have HX : Hid (∀ v, Below W.heap.size W v → BoxC v w.heap.size m k) := fun v hv => hX.below hv hX.lt
  have HE : Hid (∀ v, Below W.heap.size W v → v.heap[w.heap.size + 1]? = some (.cells #[.slice none 0 0, .slice none 0 0, .slice none 0 0] 30 (0, 0))) := fun v hv => (hv.block _ hlw).trans hE
  have HCL : Hid (∀ v, Below W.heap.size W v → CL v m k) := fun v hv => hCW.below hv
  have HCW := Lib.hid hCW
  have HCP := Lib.hid (cpCode m k W hCW hs)
  have HB := Lib.hid hB
  have HW := Lib.hid hW
  have HO := Lib.hid hok
  unfold arrC at HW
  have x0 := hX.c0
  have x1 := hX.c1
  have x2 := hX.c2
  clear h hs hW hB hX hE hCW hok
  go_enter Tryd.func44, Tryd.ntmps44
  go_wp2_with (first | rw [HW.out] | fail)
  refine HCP.out.mono ?_
  rintro e w1 ⟨k', rfl, ho1, hb1⟩
  obtain ⟨W2, hW2⟩ : ∃ W2, w1.alloc (.cells (arrC m k') 30) = W2 := ⟨_, rfl⟩
  have hb2 : Below w1.heap.size w1 W2 := by rw [← hW2]; exact (Below.refl _ w1).alloc (Nat.le_refl _) _
  have hX2 : BoxC W2 w1.heap.size m k' := by rw [← hW2]; exact BoxC.new _ _ _ _
  have HL0 : Hid (ThL m k' W w1.heap.size (.int .i64 0) W2) := ⟨0, m.list, Nat.zero_le _, rfl, ReTo.start _ _, ho1.stand fun g _ hg => hb2.block g hg, hX2, hb1.trans (hb2.mono hb1.size)⟩
  have hobW : W.heap.size ≤ w1.heap.size := hb1.size
  have HW2 := Lib.hid hW2
  have HOL : Hid (∀ g, blk k'.la m.list.length = some g → g < w1.heap.size) := fun g hg => (ho1.l.lt g hg).2
  unfold arrC at HW2
  obtain ⟨n, hn⟩ : ∃ n, m.list.length = n := ⟨_, rfl⟩
  have HN := Lib.hid hn
  rw [hn] at hle
  have g0 := hX2.c0
  have g1 := hX2.c1
  have g2 := hX2.c2
  obtain ⟨ob, hob⟩ : ∃ ob, w1.heap.size = ob := ⟨_, rfl⟩
  rw [hob] at HL0 hobW HOL
  have HOB := Lib.hid hob
  clear ho1 hb1 hb2 hX2 hW2 hn hob g0 g1 g2 x0 x1 x2 HCP
  go_wp2_with (first | rw [HW2.out] | fail)
  try rw [HW2.out]
  rw [HOB.out]
  clear HW2 HW
  go_loopw [4] (fun i wr => ThL m k' W ob i wr) (fun i _ => n - (intOf i).toNat)
  case atStart => exact HL0.out
  case round =>
    obtain ⟨i, ys, hi, rfl, hre, how, hbx, hb⟩ := hrel
    rw [HN.out] at hi
    have HRE := Lib.hid hre
    have HOW := Lib.hid how
    have HBX := Lib.hid hbx
    have HBR := Lib.hid hb
    have b2 := hbx.c2
    have c0 := (HX.out wr hb).c0
    have c1 := (HX.out wr hb).c1
    have c2 := (HX.out wr hb).c2
    rw [HN.out] at b2 c2
    clear hre how hbx hb HL0
    by_cases hlt : i < n
    · obtain ⟨x, b, o, hx, ha, hbl, e0, e1, e2, e3, e4⟩ := HCW.out.at (i := i) (by rw [HN.out]; exact hlt)
      rw [ha] at c2
      have HF : Hid (ThF w.heap.size ob i m k k' n b o x wr) := by
        have hw0 : w.heap.size < W.heap.size := by omega
        have q : ∀ {j : Nat} {u : Value}, W.cell? ⟨b, j, none⟩ = some u → wr.cell? ⟨b, j, none⟩ = some u := fun e => (World.cell?_of_block (w := W) (HBR.out.block b hbl)).trans e
        exact ⟨⟨c0, c1, c2⟩, b2, q e0, q e1, q e2, q e3, q e4⟩
      have hobr : ob < wr.heap.size := HBX.out.lt
      have hWr := HBR.out.size
      have HFB : Hid (∀ v, Below wr.heap.size wr v → ThF w.heap.size ob i m k k' n b o x v) := fun v hv => HF.out.stand (hv.block _ (by omega)) (hv.block _ hobr) (hv.block _ (by omega))
      obtain ⟨_, _, r0, r1, r2, r3, r4⟩ := HF.out
      have HXX := Lib.hid hx
      have HT5 := Lib.hid (l8Tg_one x wr)
      clear e0 e1 e2 e3 e4 hx
      go_wp2_with fail
      refine HT5.out.mono ?_
      rintro e w2 ⟨rfl, hb2⟩
      have HB2 := Lib.hid hb2
      clear r0 r1 r2 r3 r4 c0 c1 c2 b2 HT5 hb2
      rcases tgZ_ok HO.out HXX.out with ⟨t, htz, htl⟩ | ⟨htz, hsame⟩
      · rw [HN.out] at htl
        rw [htz]
        have hO2 : OwnC w2 W.heap.size ⟨m.vars, m.arrs, ys⟩ k' := HOW.out.stand fun g _ hg => HB2.out.block g hg
        have hyl : ys.length = n := HRE.out.1.trans HN.out
        have hro2 : w2.ownsRow W.heap.size 50 5 (.slice k'.la n k'.lc) n (flatN ys) := by
          rcases hO2.l with ⟨e, _⟩ | ⟨_, e⟩
          · exact absurd (show ys.length = 0 from e) (by omega)
          · have e' : w2.ownsRow W.heap.size 50 5 (.slice k'.la ys.length k'.lc) ys.length (flatN ys) := e
            rw [hyl] at e'
            exact e'
        obtain ⟨g, hag, hgW⟩ : ∃ g, k'.la = some ⟨g, 0, none⟩ ∧ W.heap.size ≤ g := by
          rcases hro2.2 with ⟨_, e⟩ | ⟨g, cp, cur, e, hg, _⟩
          · omega
          · injection e with e1 e2 e3
            exact ⟨g, e1, hg⟩
        have hgob : g < ob := HOL.out g (by rw [HN.out, blk_pos (c := k'.lc) (by omega), hag]; rfl)
        have HRO2 := Lib.hid hro2
        have HAG := Lib.hid hag
        have hSS2 : ThF w.heap.size ob i m k k' n b o x w2 := HFB.out w2 HB2.out
        obtain ⟨⟨c0, c1, c2⟩, b2, r0, r1, r2, r3, r4⟩ := hSS2
        rw [hag] at b2 HRO2
        have HSD : Hid (∀ v, Below w2.heap.size w2 v → v.cell? ⟨w.heap.size, 0, none⟩ = some (.slice k.va m.vars.length k.vc) ∧ v.cell? ⟨w.heap.size, 1, none⟩ = some (.slice k.aa m.arrs.length k.ac) ∧ v.cell? ⟨w.heap.size, 2, none⟩ = some (.slice (some ⟨b, o, none⟩) n k.lc) ∧ v.cell? ⟨ob, 2, none⟩ = some (.slice (some ⟨g, 0, none⟩) n k'.lc) ∧ v.cell? ⟨b, o + i * 5, none⟩ = some (.int .i64 x.op) ∧ v.cell? ⟨b, o + i * 5 + 1, none⟩ = some (.int .i64 x.fa) ∧ v.cell? ⟨b, o + i * 5 + 2, none⟩ = some (.int .i64 x.fb) ∧ v.cell? ⟨b, o + i * 5 + 3, none⟩ = some (.int .i64 x.fc) ∧ v.cell? ⟨b, o + i * 5 + 4, none⟩ = some (.int .i64 x.fd)) := fun v hv => by
          obtain ⟨⟨a0, a1, a2⟩, a3, a4, a5, a6, a7, a8⟩ := HFB.out v (HB2.out.trans (hv.mono HB2.out.size))
          rw [hag] at a3
          exact ⟨a0, a1, a2, a3, a4, a5, a6, a7, a8⟩
        have hz2 := HB2.out.size
        have HFN : Hid (∀ v, Below w2.heap.size w2 v → Calls Tryd.prog 70 #[.agg #[.slice k.va m.vars.length k.vc, .slice k.aa m.arrs.length k.ac, .slice (some ⟨b, o, none⟩) n k.lc], .int .i64 (t : Int)] v (fun e w' => e = .returned (.int .i64 (finL m.list t : Int)) ∧ Below v.heap.size v w')) := fun v hv => by
          have h9 := l8Final_one m k t v (HCL.out v (HBR.out.trans ((HB2.out.trans (hv.mono hz2)).mono hWr))) HO.out (by rw [HN.out]; exact htl)
          unfold aggC at h9
          rw [HN.out, ha] at h9
          exact h9
        have HTG : Hid (∀ v, Calls Tryd.prog 68 #[.agg #[.int .i64 x.op, .int .i64 x.fa, .int .i64 x.fb, .int .i64 x.fc, .int .i64 x.fd]] v (fun e w' => e = .returned (.int .i64 (t : Int)) ∧ Below v.heap.size v w')) := fun v => by
          have h9 := l8Tg_one x v
          rw [htz] at h9
          exact h9
        have HAM : Hid (∀ v, Calls Tryd.prog 69 #[.agg #[.int .i64 x.op, .int .i64 x.fa, .int .i64 x.fb, .int .i64 x.fc, .int .i64 x.fd], .int .i64 (finL m.list t : Int)] v (fun e w' => e = .returned (aggI (reT (finL m.list) x)) ∧ Below v.heap.size v w')) := fun v => by
          have h9 := l8Aim_one x (finL m.list t : Int) v
          rw [aimN_re htz] at h9
          exact h9
        obtain ⟨y, hy⟩ : ∃ y, reT (finL m.list) x = y := ⟨_, rfl⟩
        have HY := Lib.hid hy
        rw [hy] at HAM
        obtain ⟨ft, hft⟩ : ∃ ft : Int, (finL m.list t : Int) = ft := ⟨_, rfl⟩
        rw [hft] at HFN HAM
        have HBD : Hid (Below w2.heap.size w2 w2.drew) := (Below.refl _ _).drew
        have hSd := HSD.out _ HBD.out
        have hSw := HSD.out _ (Below.refl _ _)
        clear hO2 hro2 hy hft htz ha hag
        go_wp2_with fail
        go_region_held3 (fun v => v.cell? ⟨w.heap.size, 0, none⟩ = some (.slice k.va m.vars.length k.vc) ∧ v.cell? ⟨w.heap.size, 1, none⟩ = some (.slice k.aa m.arrs.length k.ac) ∧ v.cell? ⟨w.heap.size, 2, none⟩ = some (.slice (some ⟨b, o, none⟩) n k.lc) ∧ v.cell? ⟨ob, 2, none⟩ = some (.slice (some ⟨g, 0, none⟩) n k'.lc) ∧ v.cell? ⟨b, o + i * 5, none⟩ = some (.int .i64 x.op) ∧ v.cell? ⟨b, o + i * 5 + 1, none⟩ = some (.int .i64 x.fa) ∧ v.cell? ⟨b, o + i * 5 + 2, none⟩ = some (.int .i64 x.fb) ∧ v.cell? ⟨b, o + i * 5 + 3, none⟩ = some (.int .i64 x.fc) ∧ v.cell? ⟨b, o + i * 5 + 4, none⟩ = some (.int .i64 x.fd)) (first | (with_reducible assumption) | (with_reducible exact hSd) | (with_reducible exact hSw) | fail)
          (first
          | (go_at_call 68; (with_reducible refine (HTG.out _).mono ?_)
             rintro f u1 ⟨rfl, hu1⟩
             have hU1 : Below w2.heap.size w2 u1 := HBD.out.trans hu1
             have hS1 := HSD.out _ hU1)
          | (go_at_call 70; (with_reducible refine (HFN.out _ hU1).mono ?_)
             rintro f u2 ⟨rfl, hu2⟩
             have hU2 : Below w2.heap.size w2 u2 := hU1.trans (hu2.mono hU1.size)
             have hS2 := HSD.out _ hU2)
          | (go_at_call 69; (with_reducible refine (HAM.out _).mono ?_)
             rintro f u3 ⟨rfl, hu3⟩
             have hU3 : Below w2.heap.size w2 u3 := hU2.trans (hu3.mono hU2.size)
             have hS3 := HSD.out _ hU3
             have hro3 := HRO2.out.far5 (w' := u3) (fun g' e hl => hU3.block g' hl)
             obtain ⟨⟨s0, hs0⟩, f0⟩ := ownsRow_cellx hro3 (i * 5) (by omega)
             obtain ⟨⟨s1, hs1⟩, f1⟩ := ownsRow_cellx hro3 (i * 5 + 1) (by omega)
             obtain ⟨⟨s2, hs2⟩, f2⟩ := ownsRow_cellx hro3 (i * 5 + 2) (by omega)
             obtain ⟨⟨s3, hs3⟩, f3⟩ := ownsRow_cellx hro3 (i * 5 + 3) (by omega)
             obtain ⟨⟨s4, hs4⟩, f4⟩ := ownsRow_cellx hro3 (i * 5 + 4) (by omega)
             have hSP : (((((u3.setCell ⟨g, i * 5, none⟩ (.int .i64 y.op)).setCell ⟨g, i * 5 + 1, none⟩ (.int .i64 y.fa)).setCell ⟨g, i * 5 + 2, none⟩ (.int .i64 y.fb)).setCell ⟨g, i * 5 + 3, none⟩ (.int .i64 y.fc)).setCell ⟨g, i * 5 + 4, none⟩ (.int .i64 y.fd)).cell? ⟨w.heap.size, 0, none⟩ = some (.slice k.va m.vars.length k.vc) ∧ (((((u3.setCell ⟨g, i * 5, none⟩ (.int .i64 y.op)).setCell ⟨g, i * 5 + 1, none⟩ (.int .i64 y.fa)).setCell ⟨g, i * 5 + 2, none⟩ (.int .i64 y.fb)).setCell ⟨g, i * 5 + 3, none⟩ (.int .i64 y.fc)).setCell ⟨g, i * 5 + 4, none⟩ (.int .i64 y.fd)).cell? ⟨w.heap.size, 1, none⟩ = some (.slice k.aa m.arrs.length k.ac) ∧ (((((u3.setCell ⟨g, i * 5, none⟩ (.int .i64 y.op)).setCell ⟨g, i * 5 + 1, none⟩ (.int .i64 y.fa)).setCell ⟨g, i * 5 + 2, none⟩ (.int .i64 y.fb)).setCell ⟨g, i * 5 + 3, none⟩ (.int .i64 y.fc)).setCell ⟨g, i * 5 + 4, none⟩ (.int .i64 y.fd)).cell? ⟨w.heap.size, 2, none⟩ = some (.slice (some ⟨b, o, none⟩) n k.lc) ∧ (((((u3.setCell ⟨g, i * 5, none⟩ (.int .i64 y.op)).setCell ⟨g, i * 5 + 1, none⟩ (.int .i64 y.fa)).setCell ⟨g, i * 5 + 2, none⟩ (.int .i64 y.fb)).setCell ⟨g, i * 5 + 3, none⟩ (.int .i64 y.fc)).setCell ⟨g, i * 5 + 4, none⟩ (.int .i64 y.fd)).cell? ⟨ob, 2, none⟩ = some (.slice (some ⟨g, 0, none⟩) n k'.lc) ∧ (((((u3.setCell ⟨g, i * 5, none⟩ (.int .i64 y.op)).setCell ⟨g, i * 5 + 1, none⟩ (.int .i64 y.fa)).setCell ⟨g, i * 5 + 2, none⟩ (.int .i64 y.fb)).setCell ⟨g, i * 5 + 3, none⟩ (.int .i64 y.fc)).setCell ⟨g, i * 5 + 4, none⟩ (.int .i64 y.fd)).cell? ⟨b, o + i * 5, none⟩ = some (.int .i64 x.op) ∧ (((((u3.setCell ⟨g, i * 5, none⟩ (.int .i64 y.op)).setCell ⟨g, i * 5 + 1, none⟩ (.int .i64 y.fa)).setCell ⟨g, i * 5 + 2, none⟩ (.int .i64 y.fb)).setCell ⟨g, i * 5 + 3, none⟩ (.int .i64 y.fc)).setCell ⟨g, i * 5 + 4, none⟩ (.int .i64 y.fd)).cell? ⟨b, o + i * 5 + 1, none⟩ = some (.int .i64 x.fa) ∧ (((((u3.setCell ⟨g, i * 5, none⟩ (.int .i64 y.op)).setCell ⟨g, i * 5 + 1, none⟩ (.int .i64 y.fa)).setCell ⟨g, i * 5 + 2, none⟩ (.int .i64 y.fb)).setCell ⟨g, i * 5 + 3, none⟩ (.int .i64 y.fc)).setCell ⟨g, i * 5 + 4, none⟩ (.int .i64 y.fd)).cell? ⟨b, o + i * 5 + 2, none⟩ = some (.int .i64 x.fb) ∧ (((((u3.setCell ⟨g, i * 5, none⟩ (.int .i64 y.op)).setCell ⟨g, i * 5 + 1, none⟩ (.int .i64 y.fa)).setCell ⟨g, i * 5 + 2, none⟩ (.int .i64 y.fb)).setCell ⟨g, i * 5 + 3, none⟩ (.int .i64 y.fc)).setCell ⟨g, i * 5 + 4, none⟩ (.int .i64 y.fd)).cell? ⟨b, o + i * 5 + 3, none⟩ = some (.int .i64 x.fc) ∧ (((((u3.setCell ⟨g, i * 5, none⟩ (.int .i64 y.op)).setCell ⟨g, i * 5 + 1, none⟩ (.int .i64 y.fa)).setCell ⟨g, i * 5 + 2, none⟩ (.int .i64 y.fb)).setCell ⟨g, i * 5 + 3, none⟩ (.int .i64 y.fc)).setCell ⟨g, i * 5 + 4, none⟩ (.int .i64 y.fd)).cell? ⟨b, o + i * 5 + 4, none⟩ = some (.int .i64 x.fd) := (by
               obtain ⟨a0, a1, a2, a3, a4, a5, a6, a7, a8⟩ := hS3
               have q1 := set5_oth u3 g (i * 5) w.heap.size (.int .i64 y.op) (.int .i64 y.fa) (.int .i64 y.fb) (.int .i64 y.fc) (.int .i64 y.fd) (by omega)
               have q2 := set5_oth u3 g (i * 5) ob (.int .i64 y.op) (.int .i64 y.fa) (.int .i64 y.fb) (.int .i64 y.fc) (.int .i64 y.fd) (by omega)
               have q3 := set5_oth u3 g (i * 5) b (.int .i64 y.op) (.int .i64 y.fa) (.int .i64 y.fb) (.int .i64 y.fc) (.int .i64 y.fd) (by omega)
               exact ⟨cell_oth q1 a0, cell_oth q1 a1, cell_oth q1 a2, cell_oth q2 a3, cell_oth q3 a4, cell_oth q3 a5, cell_oth q3 a6, cell_oth q3 a7, cell_oth q3 a8⟩))
          | fail)
        all_goals
          have HREL : Hid (ThL m k' W ob (.int .i64 ((i : Int) + 1)) (((((u3.setCell ⟨g, i * 5, none⟩ (.int .i64 y.op)).setCell ⟨g, i * 5 + 1, none⟩ (.int .i64 y.fa)).setCell ⟨g, i * 5 + 2, none⟩ (.int .i64 y.fb)).setCell ⟨g, i * 5 + 3, none⟩ (.int .i64 y.fc)).setCell ⟨g, i * 5 + 4, none⟩ (.int .i64 y.fd))) := by
            have hu3W : Below W.heap.size W u3 := HBR.out.trans ((HB2.out.trans (hU3.mono HB2.out.size)).mono hWr)
            have hoth : ∀ j, j ≠ g → (((((u3.setCell ⟨g, i * 5, none⟩ (.int .i64 y.op)).setCell ⟨g, i * 5 + 1, none⟩ (.int .i64 y.fa)).setCell ⟨g, i * 5 + 2, none⟩ (.int .i64 y.fb)).setCell ⟨g, i * 5 + 3, none⟩ (.int .i64 y.fc)).setCell ⟨g, i * 5 + 4, none⟩ (.int .i64 y.fd)).heap[j]? = u3.heap[j]? := fun j hj => set5_oth u3 g (i * 5) j _ _ _ _ _ hj
            have hO3 : OwnC u3 W.heap.size ⟨m.vars, m.arrs, ys⟩ k' := HOW.out.stand fun g' _ hg' => (hU3.block g' (by have := HB2.out.size; omega)).trans (HB2.out.block g' hg')
            have hyl : ys.length = n := HRE.out.1.trans HN.out
            have hbl3 : blk k'.la ys.length = some g := by rw [hyl, blk_pos (c := k'.lc) (by omega), HAG.out]; rfl
            have hl' : (ys.set i y).length = n := by rw [List.length_set]; exact hyl
            refine ⟨i + 1, ys.set i y, by rw [HN.out]; omega, by go_num, by rw [← HY.out]; exact HRE.out.set HXX.out, ⟨?_, ?_, ?_, hO3.va, ?_, ?_⟩, ?_, ((((hu3W.setCell (p := ⟨g, i * 5, none⟩) hgW _).setCell (p := ⟨g, i * 5 + 1, none⟩) hgW _).setCell (p := ⟨g, i * 5 + 2, none⟩) hgW _).setCell (p := ⟨g, i * 5 + 3, none⟩) hgW _).setCell (p := ⟨g, i * 5 + 4, none⟩) hgW _⟩
            · exact hO3.v.far fun g' hg' _ => hoth g' fun e => hO3.vl g' hg' (by rw [e]; exact hbl3)
            · exact hO3.a.far fun g' hg' _ => hoth g' fun e => hO3.al g' hg' (by rw [e]; exact hbl3)
            · have h5 := flat5_set hro3 hyl hlt y
              have h6 := RowX.of h5
              show RowX _ _ _ _ k'.la (ys.set i y).length k'.lc (flatN (ys.set i y))
              rw [hl', HAG.out]
              exact h6
            · show ∀ g', _ → blk k'.la (ys.set i y).length ≠ some g'
              rw [hl', ← hyl]; exact hO3.vl
            · show ∀ g', _ → blk k'.la (ys.set i y).length ≠ some g'
              rw [hl', ← hyl]; exact hO3.al
            · exact HBX.out.later ((hoth ob (by omega)).trans ((hU3.block ob (by have := HB2.out.size; omega)).trans (HB2.out.block ob hobr)))
          clear hS1 hS2 hS3 hSP hU1 hU2 hU3 hu1 hu2 hu3 hro3 HFN HTG HAM HSD HFB HF HOW HRO2 HRE hSd hSw
          go_wp2_with fail
          go_roundw
          case rel => exact HREL.out
          case measure => simp [intOf]; omega
      · have HREL : Hid (ThL m k' W ob (.int .i64 ((i : Int) + 1)) w2) := ⟨i + 1, ys, by rw [HN.out]; omega, by go_num, HRE.out.same HXX.out (hsame _), HOW.out.stand fun g _ hg => HB2.out.block g hg, HBX.out.later (HB2.out.block ob hobr), HBR.out.trans (HB2.out.mono hWr)⟩
        rw [htz]
        clear htz hsame HOW HRE HFB HF ha
        go_wp2_with fail
        go_roundw
        case rel => exact HREL.out
        case measure => simp [intOf]; omega
    · obtain rfl : i = n := by omega
      have hEr := HE.out wr HBR.out
      obtain ⟨s0, hs0⟩ := cell_ex hEr 0 (by simp)
      obtain ⟨s1, hs1⟩ := cell_ex hEr 1 (by simp)
      obtain ⟨s2, hs2⟩ := cell_ex hEr 2 (by simp)
      have f0 := frozen_at hEr 0
      have f1 := frozen_at hEr 1
      have f2 := frozen_at hEr 2
      have b0 := HBX.out.c0
      have b1 := HBX.out.c1
      have HFIN : Hid (CopyCO ⟨m.vars, m.arrs, thrL m.list⟩ w (.returned (.agg #[.slice k'.va m.vars.length k'.vc, .slice k'.aa m.arrs.length k'.ac, .slice k'.la i k'.lc])) (((wr.setCell ⟨w.heap.size + 1, 0, none⟩ (.slice k'.va m.vars.length k'.vc)).setCell ⟨w.heap.size + 1, 1, none⟩ (.slice k'.aa m.arrs.length k'.ac)).setCell ⟨w.heap.size + 1, 2, none⟩ (.slice k'.la i k'.lc))) := by
        have hoth : ∀ j, j ≠ w.heap.size + 1 → (((wr.setCell ⟨w.heap.size + 1, 0, none⟩ (.slice k'.va m.vars.length k'.vc)).setCell ⟨w.heap.size + 1, 1, none⟩ (.slice k'.aa m.arrs.length k'.ac)).setCell ⟨w.heap.size + 1, 2, none⟩ (.slice k'.la i k'.lc)).heap[j]? = wr.heap[j]? := fun j hj => by
          rw [Below.heap_setCell _ _ _ _ (by simpa using hj), Below.heap_setCell _ _ _ _ (by simpa using hj), Below.heap_setCell _ _ _ _ (by simpa using hj)]
        have hys : ys = thrL m.list := HRE.out.all (by rw [HN.out]; exact Nat.le_refl _)
        have hO := HOW.out
        rw [hys] at hO
        refine ⟨k', by show _ = Ending.returned (.agg #[.slice k'.va m.vars.length k'.vc, .slice k'.aa m.arrs.length k'.ac, .slice k'.la (thrL m.list).length k'.lc]); rw [thrL_len, HN.out], (hO.stand fun g h1 _ => hoth g (by omega)).mono HB.out.size, ?_⟩
        exact (((HB.out.trans (HBR.out.mono HB.out.size)).setCell (p := ⟨w.heap.size + 1, 0, none⟩) (by simp) _).setCell (p := ⟨w.heap.size + 1, 1, none⟩) (by simp) _).setCell (p := ⟨w.heap.size + 1, 2, none⟩) (by simp) _
      clear hEr HOW HRE c0 c1 c2
      go_wp2_with fail
      exact bodyPost_ret (v := .agg #[.slice k'.va m.vars.length k'.vc, .slice k'.aa m.arrs.length k'.ac, .slice k'.la i k'.lc]) (by simp [results, Tryd.f44, go_sem, hs0, hs1, hs2]) rfl HFIN.out

set_option maxRecDepth 100000 in
set_option maxHeartbeats 4000000 in
/-- **loop.example/constanttime/spec.ThreadJumps.** -/
theorem sTh_one (m : Cd) (k : CK) (w : World) (h : CL w m k)
    (hP : codeB m = true → ∀ v, Below w.heap.size w v → Calls Tryd.prog 44 #[aggC m k] v (CopyCO ⟨m.vars, m.arrs, thrL m.list⟩ v)) :
    Calls Tryd.prog 19 #[aggC m k] w (PassN thrL m w) := by
  obtain ⟨W, hW⟩ : ∃ W, (w.alloc (.cells (arrC m k) 30)).alloc (.cells #[.slice none 0 0, .slice none 0 0, .slice none 0 0] 30) = W := ⟨_, rfl⟩
  have hB : Below w.heap.size w W := by rw [← hW]; exact ((Below.refl _ w).alloc (Nat.le_refl _) _).alloc (by simp) _
  have hX : BoxC W w.heap.size m k := by rw [← hW]; exact (BoxC.new w m k _).later (Below.heap_alloc _ _ _ (by simp))
  have hE : W.heap[w.heap.size + 1]? = some (.cells #[.slice none 0 0, .slice none 0 0, .slice none 0 0] 30 (0, 0)) := by
    have e1 := heap_alloc_new (w.alloc (.cells (arrC m k) 30)) (.cells #[.slice none 0 0, .slice none 0 0, .slice none 0 0] 30)
    rw [World.size_alloc] at e1
    rw [← hW]; exact e1
  have hlw : w.heap.size + 1 < W.heap.size := (Array.getElem?_eq_some_iff.1 hE).1
  have HS : Hid (∀ v, Below W.heap.size W v → (v.cell? ⟨w.heap.size, 0, none⟩ = some (.slice k.va m.vars.length k.vc) ∧ v.cell? ⟨w.heap.size, 1, none⟩ = some (.slice k.aa m.arrs.length k.ac) ∧ v.cell? ⟨w.heap.size, 2, none⟩ = some (.slice k.la m.list.length k.lc))) := fun v hv => by
    have b := hX.below hv hX.lt
    exact ⟨b.c0, b.c1, b.c2⟩
  have HE : Hid (∀ v, Below W.heap.size W v → v.heap[w.heap.size + 1]? = some (.cells #[.slice none 0 0, .slice none 0 0, .slice none 0 0] 30 (0, 0))) := fun v hv => (hv.block _ hlw).trans hE
  have HV := Lib.hid (sCV_one m k W (h.below hB))
  have HP : Hid (codeB m = true → ∀ v, Below W.heap.size W v → Calls Tryd.prog 44 #[aggC m k] v (CopyCO ⟨m.vars, m.arrs, thrL m.list⟩ v)) := fun e v hv => hP e v (hB.trans (hv.mono hB.size))
  have HB := Lib.hid hB
  have HW := Lib.hid hW
  unfold arrC at HW
  obtain ⟨x0, x1, x2⟩ := HS.out W (Below.refl _ _)
  clear h hP hW hB hX hE
  go_enter Tryd.func19, Tryd.ntmps19
  go_wp2_with (first | rw [HW.out] | fail)
  refine HV.out.mono ?_
  rintro e w1 ⟨rfl, hb1⟩
  obtain ⟨q, hq⟩ : ∃ q, codeB m = q := ⟨_, rfl⟩
  have HQ := Lib.hid hq
  have HB1 := Lib.hid hb1
  rw [hq]
  clear hq hb1 HV x0 x1 x2
  cases q
  case false =>
    have hE1 := HE.out w1 HB1.out
    obtain ⟨r0, hr0⟩ := cell_ex hE1 0 (by simp)
    obtain ⟨r1, hr1⟩ := cell_ex hE1 1 (by simp)
    obtain ⟨r2, hr2⟩ := cell_ex hE1 2 (by simp)
    have f0 := frozen_at hE1 0
    have f1 := frozen_at hE1 1
    have f2 := frozen_at hE1 2
    have HFIN : Hid (PassN thrL m w (.returned (.tuple #[.agg #[.slice none 0 0, .slice none 0 0, .slice none 0 0], .bool false])) (((w1.setCell ⟨w.heap.size + 1, 0, none⟩ (.slice none 0 0)).setCell ⟨w.heap.size + 1, 1, none⟩ (.slice none 0 0)).setCell ⟨w.heap.size + 1, 2, none⟩ (.slice none 0 0))) := by
      refine ⟨⟨[], [], []⟩, ⟨none, 0, none, 0, none, 0⟩, false, rfl, ⟨fun e => ?_, fun _ => ⟨rfl, rfl⟩⟩, OwnC.none _ _, ?_⟩
      · rw [HQ.out] at e; cases e
      · exact (((HB.out.trans (HB1.out.mono HB.out.size)).setCell (p := ⟨w.heap.size + 1, 0, none⟩) (by simp) _).setCell (p := ⟨w.heap.size + 1, 1, none⟩) (by simp) _).setCell (p := ⟨w.heap.size + 1, 2, none⟩) (by simp) _
    clear hE1
    go_wp2_with fail
    exact bodyPost_ret (v := .tuple #[.agg #[.slice none 0 0, .slice none 0 0, .slice none 0 0], .bool false]) (by simp [results, Tryd.f19, go_sem, hr0, hr1, hr2]) rfl HFIN.out
  case true =>
    have HP2 := Lib.hid (HP.out HQ.out w1 HB1.out)
    obtain ⟨x0, x1, x2⟩ := HS.out w1 HB1.out
    go_wp2_with fail
    refine HP2.out.mono ?_
    rintro e w2 ⟨k', rfl, ho, hb2⟩
    have hE2 := HE.out w2 (HB1.out.trans (hb2.mono HB1.out.size))
    obtain ⟨r0, hr0⟩ := cell_ex hE2 0 (by simp)
    obtain ⟨r1, hr1⟩ := cell_ex hE2 1 (by simp)
    obtain ⟨r2, hr2⟩ := cell_ex hE2 2 (by simp)
    have f0 := frozen_at hE2 0
    have f1 := frozen_at hE2 1
    have f2 := frozen_at hE2 2
    have hz1 := HB1.out.size
    have HFIN : Hid (PassN thrL m w (.returned (.tuple #[.agg #[.slice k'.va m.vars.length k'.vc, .slice k'.aa m.arrs.length k'.ac, .slice k'.la (thrL m.list).length k'.lc], .bool true])) (((w2.setCell ⟨w.heap.size + 1, 0, none⟩ (.slice k'.va m.vars.length k'.vc)).setCell ⟨w.heap.size + 1, 1, none⟩ (.slice k'.aa m.arrs.length k'.ac)).setCell ⟨w.heap.size + 1, 2, none⟩ (.slice k'.la (thrL m.list).length k'.lc))) := by
      have hoth : ∀ j, j ≠ w.heap.size + 1 → (((w2.setCell ⟨w.heap.size + 1, 0, none⟩ (.slice k'.va m.vars.length k'.vc)).setCell ⟨w.heap.size + 1, 1, none⟩ (.slice k'.aa m.arrs.length k'.ac)).setCell ⟨w.heap.size + 1, 2, none⟩ (.slice k'.la (thrL m.list).length k'.lc)).heap[j]? = w2.heap[j]? := fun j hj => by
        rw [Below.heap_setCell _ _ _ _ (by simpa using hj), Below.heap_setCell _ _ _ _ (by simpa using hj), Below.heap_setCell _ _ _ _ (by simpa using hj)]
      refine ⟨⟨m.vars, m.arrs, thrL m.list⟩, k', true, rfl, ⟨fun _ => ⟨rfl, rfl⟩, fun e => by rw [HQ.out] at e; cases e⟩, (ho.stand fun g h1 _ => hoth g (by omega)).mono (by have := HB.out.size; omega), ?_⟩
      exact (((HB.out.trans ((HB1.out.trans (hb2.mono HB1.out.size)).mono HB.out.size)).setCell (p := ⟨w.heap.size + 1, 0, none⟩) (by simp) _).setCell (p := ⟨w.heap.size + 1, 1, none⟩) (by simp) _).setCell (p := ⟨w.heap.size + 1, 2, none⟩) (by simp) _
    clear hE2 ho hb2 HP2 HP HS HE x0 x1 x2
    go_wp2_with fail
    exact bodyPost_ret (v := .tuple #[.agg #[.slice k'.va m.vars.length k'.vc, .slice k'.aa m.arrs.length k'.ac, .slice k'.la (thrL m.list).length k'.lc], .bool true]) (by simp [results, Tryd.f19, go_sem, hr0, hr1, hr2]) rfl HFIN.out



end Go.Proofs.YtkjgnaaoiebcjaaDoor

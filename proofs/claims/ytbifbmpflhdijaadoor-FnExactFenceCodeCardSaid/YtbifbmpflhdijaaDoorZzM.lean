/- The model's l8Target, l8Aim and l8Final, walked. -/
import Derived.Test.YtbifbmpflhdijaaDoorThP
import Derived.Test.YtbifbmpflhdijaaDoorCvU
import Derived.Test.YtbifbmpflhdijaaDoorPut
import Derived.Test.YtbifbmpflhdijaaDoorCpC
import Derived.Deep.RegionWith
import Derived.Test.YtbifbmpflhdijaaDoorTrP
import Derived.Test.YtbifbmpflhdijaaDoorRcS
import Derived.Deep.RegionHeld3
import Derived.Deep.CutRange
import Derived.Deep.AppendLies
namespace Go.Proofs.YtbifbmpflhdijaaDoor
open Go.RowKit
set_option linter.unusedVariables false

abbrev aggI (x : Ins) : Value := .agg #[.int .i64 x.op, .int .i64 x.fa, .int .i64 x.fb, .int .i64 x.fc, .int .i64 x.fd]
/-- The target of an instruction, or -1. -/
def tgZ (x : Ins) : Int := if x.op = 8 then x.fa else if x.op = 9 ∨ x.op = 10 then x.fb else -1

set_option maxRecDepth 100000 in
set_option maxHeartbeats 2000000 in
/-- **l8Target.** -/
theorem l8Tg_one (x : Ins) (w : World) :
    Calls Tryd.prog 40 #[aggI x] w (fun e w' => e = .returned (.int .i64 (tgZ x)) ∧ Below w.heap.size w w') := by
  have HB := Lib.hid ((Below.refl w.heap.size w).alloc (Nat.le_refl _) (.cells #[.int .i64 x.op, .int .i64 x.fa, .int .i64 x.fb, .int .i64 x.fc, .int .i64 x.fd] 50))
  by_cases h8 : x.op = 8
  · have HE : Hid (tgZ x = x.fa) := by have : tgZ x = x.fa := by unfold tgZ; rw [if_pos h8]
                                       exact this
    have b8 : (x.op == 8) = true := by simpa using h8
    clear h8
    go_enter Tryd.func40, Tryd.ntmps40
    go_wp2_with fail
    rw [HE.out]
    go_ret
    exact ⟨rfl, HB.out⟩
  · have b8 : (x.op == 8) = false := by simpa using h8
    by_cases h9 : x.op = 9 ∨ x.op = 10
    · have HE : Hid (tgZ x = x.fb) := by have : tgZ x = x.fb := by unfold tgZ; rw [if_neg h8, if_pos h9]
                                         exact this
      rcases h9 with e | e
      · have b9 : (x.op == 9) = true := by simpa using e
        clear h8 e
        go_enter Tryd.func40, Tryd.ntmps40
        go_wp2_with fail
        rw [HE.out]
        go_ret
        exact ⟨rfl, HB.out⟩
      · have b9 : (x.op == 9) = false := by simp; omega
        have b10 : (x.op == 10) = true := by simpa using e
        clear h8 e
        go_enter Tryd.func40, Tryd.ntmps40
        go_wp2_with fail
        rw [HE.out]
        go_ret
        exact ⟨rfl, HB.out⟩
    · have HE : Hid (tgZ x = -1) := by have : tgZ x = -1 := by unfold tgZ; rw [if_neg h8, if_neg h9]
                                       exact this
      have b9 : (x.op == 9) = false := by simp; omega
      have b10 : (x.op == 10) = false := by simp; omega
      clear h8 h9
      go_enter Tryd.func40, Tryd.ntmps40
      go_wp2_with fail
      rw [HE.out]
      go_ret
      exact ⟨rfl, HB.out⟩

/-- **l8Aim.** -/
def aimN (x : Ins) (t : Int) : Ins := if x.op = 8 then ⟨x.op, t, x.fb, x.fc, x.fd⟩ else if x.op = 9 ∨ x.op = 10 then ⟨x.op, x.fa, t, x.fc, x.fd⟩ else x

set_option maxRecDepth 100000 in
set_option maxHeartbeats 4000000 in
theorem l8Aim_one (x : Ins) (t : Int) (w : World) :
    Calls Tryd.prog 41 #[aggI x, .int .i64 t] w (fun e w' => e = .returned (aggI (aimN x t)) ∧ Below w.heap.size w w') := by
  have hb : ∀ (A B : Array Value), Below w.heap.size w ((w.alloc (.cells A 50)).alloc (.cells B 50)) := fun A B => ((Below.refl _ w).alloc (Nat.le_refl _) _).alloc (by simp) _
  have HB := Lib.hid hb
  clear hb
  by_cases h8 : x.op = 8
  · have HE : Hid (aimN x t = ⟨x.op, t, x.fb, x.fc, x.fd⟩) := by
      have : aimN x t = ⟨x.op, t, x.fb, x.fc, x.fd⟩ := by unfold aimN; rw [if_pos h8]
      exact this
    have b8 : (x.op == 8) = true := by simpa using h8
    have b9 : (x.op == 9) = false := by simp; omega
    have b10 : (x.op == 10) = false := by simp; omega
    clear h8
    go_enter Tryd.func41, Tryd.ntmps41
    go_wp2_with fail
    rw [HE.out]
    refine bodyPost_ret (v := aggI ⟨x.op, t, x.fb, x.fc, x.fd⟩) (by simp [results, Tryd.f41, go_sem]) rfl ?_
    exact ⟨rfl, HB.out _ _⟩
  · have b8 : (x.op == 8) = false := by simpa using h8
    by_cases h9 : x.op = 9 ∨ x.op = 10
    · have HE : Hid (aimN x t = ⟨x.op, x.fa, t, x.fc, x.fd⟩) := by
        have : aimN x t = ⟨x.op, x.fa, t, x.fc, x.fd⟩ := by unfold aimN; rw [if_neg h8, if_pos h9]
        exact this
      rcases h9 with e | e
      · have b9 : (x.op == 9) = true := by simpa using e
        have b10 : (x.op == 10) = false := by simp; omega
        clear h8 e
        go_enter Tryd.func41, Tryd.ntmps41
        go_wp2_with fail
        rw [HE.out]
        refine bodyPost_ret (v := aggI ⟨x.op, x.fa, t, x.fc, x.fd⟩) (by simp [results, Tryd.f41, go_sem]) rfl ?_
        exact ⟨rfl, HB.out _ _⟩
      · have b9 : (x.op == 9) = false := by simp; omega
        have b10 : (x.op == 10) = true := by simpa using e
        clear h8 e
        go_enter Tryd.func41, Tryd.ntmps41
        go_wp2_with fail
        rw [HE.out]
        refine bodyPost_ret (v := aggI ⟨x.op, x.fa, t, x.fc, x.fd⟩) (by simp [results, Tryd.f41, go_sem]) rfl ?_
        exact ⟨rfl, HB.out _ _⟩
    · have HE : Hid (aimN x t = x) := by
        have : aimN x t = x := by unfold aimN; rw [if_neg h8, if_neg h9]
        exact this
      have b9 : (x.op == 9) = false := by simp; omega
      have b10 : (x.op == 10) = false := by simp; omega
      clear h8 h9
      go_enter Tryd.func41, Tryd.ntmps41
      go_wp2_with fail
      rw [HE.out]
      refine bodyPost_ret (v := aggI x) (by simp [results, Tryd.f41, go_sem]) rfl ?_
      exact ⟨rfl, HB.out _ _⟩

end Go.Proofs.YtbifbmpflhdijaaDoor

namespace Go.Proofs.YtbifbmpflhdijaaDoor
open Go.RowKit
set_option linter.unusedVariables false

theorem aimN_re {l : List Ins} {x : Ins} {t : Nat} (h : tgZ x = (t : Int)) : aimN x (finL l t : Int) = reT (finL l) x := by
  unfold tgZ at h
  unfold aimN reT
  split
  · rename_i h8
    rw [if_pos h8] at h
    rw [h]; rfl
  · rename_i h8
    rw [if_neg h8] at h
    split
    · rename_i h9
      rw [if_pos h9] at h
      rw [h]; rfl
    · rfl
theorem tgZ_ok {l : List Ins} (h : Okc l) {i : Nat} {x : Ins} (hx : l[i]? = some x) : (∃ t : Nat, tgZ x = (t : Int) ∧ t < l.length) ∨ (tgZ x = -1 ∧ ∀ f, reT f x = x) := by
  unfold tgZ
  by_cases h8 : x.op = 8
  · have h1 := h.ja i x hx h8
    rw [if_pos h8]
    exact .inl ⟨x.fa.toNat, by omega, by omega⟩
  · rw [if_neg h8]
    by_cases h9 : x.op = 9 ∨ x.op = 10
    · have h1 := h.jb i x hx h9
      rw [if_pos h9]
      exact .inl ⟨x.fb.toNat, by omega, by omega⟩
    · rw [if_neg h9]
      exact .inr ⟨rfl, fun f => reT_n h8 h9⟩
/-- A row of instructions with one written anew. -/
theorem flat5_set {w : World} {base g n c k : Nat} {ys : List Ins} (hro : w.ownsRow base 50 5 (.slice (some ⟨g, 0, none⟩) n c) n (flatN ys)) (hl : ys.length = n) (hk : k < n) (y : Ins) :
    (((((w.setCell ⟨g, k * 5, none⟩ (.int .i64 y.op)).setCell ⟨g, k * 5 + 1, none⟩ (.int .i64 y.fa)).setCell ⟨g, k * 5 + 2, none⟩ (.int .i64 y.fb)).setCell ⟨g, k * 5 + 3, none⟩ (.int .i64 y.fc)).setCell ⟨g, k * 5 + 4, none⟩ (.int .i64 y.fd)).ownsRow base 50 5 (.slice (some ⟨g, 0, none⟩) n c) n (flatN (ys.set k y)) := by
  have h5 := (((((hro.stored (k * 5) (.int .i64 y.op)).1.stored (k * 5 + 1) (.int .i64 y.fa)).1.stored (k * 5 + 2) (.int .i64 y.fb)).1.stored (k * 5 + 3) (.int .i64 y.fc)).1.stored (k * 5 + 4) (.int .i64 y.fd)).1
  rw [flatN_set ys k y (by rw [hl]; exact hk)] at h5
  exact h5
theorem set5_oth (w : World) (g o j : Nat) (n0 n1 n2 n3 n4 : Value) (h : j ≠ g) : (((((w.setCell ⟨g, o, none⟩ n0).setCell ⟨g, o + 1, none⟩ n1).setCell ⟨g, o + 2, none⟩ n2).setCell ⟨g, o + 3, none⟩ n3).setCell ⟨g, o + 4, none⟩ n4).heap[j]? = w.heap[j]? := by
  rw [Below.heap_setCell _ _ _ _ (by simpa using h), Below.heap_setCell _ _ _ _ (by simpa using h), Below.heap_setCell _ _ _ _ (by simpa using h), Below.heap_setCell _ _ _ _ (by simpa using h), Below.heap_setCell _ _ _ _ (by simpa using h)]

theorem cell_oth {v X : World} {g o : Nat} {a : Value} (h1 : X.heap[g]? = v.heap[g]?) (hf : v.cell? ⟨g, o, none⟩ = some a) : X.cell? ⟨g, o, none⟩ = some a := (World.cell?_of_block (w := v) (a := ⟨g, o, none⟩) h1).trans hf
/-- What the loop reads: the code's box, the copy's list, the instruction. -/
def ThF (wb ob i : Nat) (m : Cd) (k k' : CK) (n b o : Nat) (x : Ins) (v : World) : Prop := (v.cell? ⟨wb, 0, none⟩ = some (.slice k.va m.vars.length k.vc) ∧ v.cell? ⟨wb, 1, none⟩ = some (.slice k.aa m.arrs.length k.ac) ∧ v.cell? ⟨wb, 2, none⟩ = some (.slice (some ⟨b, o, none⟩) n k.lc)) ∧ v.cell? ⟨ob, 2, none⟩ = some (.slice k'.la n k'.lc) ∧ v.cell? ⟨b, o + i * 5, none⟩ = some (.int .i64 x.op) ∧ v.cell? ⟨b, o + i * 5 + 1, none⟩ = some (.int .i64 x.fa) ∧ v.cell? ⟨b, o + i * 5 + 2, none⟩ = some (.int .i64 x.fb) ∧ v.cell? ⟨b, o + i * 5 + 3, none⟩ = some (.int .i64 x.fc) ∧ v.cell? ⟨b, o + i * 5 + 4, none⟩ = some (.int .i64 x.fd)
theorem ThF.stand {wb ob i : Nat} {m : Cd} {k k' : CK} {n b o : Nat} {x : Ins} {v v' : World} (h : ThF wb ob i m k k' n b o x v) (h1 : v'.heap[wb]? = v.heap[wb]?) (h2 : v'.heap[ob]? = v.heap[ob]?) (h3 : v'.heap[b]? = v.heap[b]?) : ThF wb ob i m k k' n b o x v' := by
  obtain ⟨⟨a0, a1, a2⟩, a3, a4, a5, a6, a7, a8⟩ := h
  have q1 : ∀ {j : Nat} {u : Value}, v.cell? ⟨wb, j, none⟩ = some u → v'.cell? ⟨wb, j, none⟩ = some u := fun q => (World.cell?_of_block (w := v) h1).trans q
  have q2 : ∀ {j : Nat} {u : Value}, v.cell? ⟨ob, j, none⟩ = some u → v'.cell? ⟨ob, j, none⟩ = some u := fun q => (World.cell?_of_block (w := v) h2).trans q
  have q3 : ∀ {j : Nat} {u : Value}, v.cell? ⟨b, j, none⟩ = some u → v'.cell? ⟨b, j, none⟩ = some u := fun q => (World.cell?_of_block (w := v) h3).trans q
  exact ⟨⟨q1 a0, q1 a1, q1 a2⟩, q2 a3, q3 a4, q3 a5, q3 a6, q3 a7, q3 a8⟩

/-- The state of the loop. -/
def ThL (m : Cd) (k' : CK) (W2 : World) (ob : Nat) (i : Value) (wr : World) : Prop := ∃ (j : Nat) (ys : List Ins), j ≤ m.list.length ∧ i = .int .i64 (j : Int) ∧ ReTo (finL m.list) m.list ys j ∧ OwnC wr W2.heap.size ⟨m.vars, m.arrs, ys⟩ k' ∧ BoxC wr ob m k' ∧ Below W2.heap.size W2 wr

end Go.Proofs.YtbifbmpflhdijaaDoor

namespace Go.Proofs.YtbifbmpflhdijaaDoor
open Go.RowKit
set_option linter.unusedVariables false

/-- Two copied lists and a code's box beside them, made behind V. -/
def OutR (m : Cd) (V : World) (ob : Nat) (wx : World) : Prop := ∃ (va aa : Option Addr) (vc ac : Nat), wx.heap[ob]? = some (.cells #[.slice va m.vars.length vc, .slice aa m.arrs.length ac, .slice none 0 0] 29 (0, 0)) ∧
  wx.ownsRow V.heap.size 3 1 (.slice va m.vars.length vc) m.vars.length (m.vars.map (Value.int .i64)) ∧ wx.ownsRow V.heap.size 3 1 (.slice aa m.arrs.length ac) m.arrs.length (m.arrs.map (Value.int .i64)) ∧
  (∀ g, (Value.slice va m.vars.length vc).ownBlock = some g → (Value.slice aa m.arrs.length ac).ownBlock ≠ some g ∧ g ≠ ob) ∧ (∀ g, (Value.slice aa m.arrs.length ac).ownBlock = some g → g ≠ ob) ∧ V.heap.size ≤ ob ∧ Below V.heap.size V wx
theorem out_end1 {m : Cd} {V q : World} {ob : Nat} {va aa : Option Addr} {vc ac : Nat} (h1 : q.ownsRow V.heap.size 3 1 (.slice va m.vars.length vc) m.vars.length (m.vars.map (Value.int .i64))) (h2 : q.ownsRow V.heap.size 3 1 (.slice aa m.arrs.length ac) m.arrs.length (m.arrs.map (Value.int .i64)))
    (d : ∀ g, (Value.slice va m.vars.length vc).ownBlock = some g → (Value.slice aa m.arrs.length ac).ownBlock ≠ some g) (hx : q.heap[ob]? = some (.cells #[.slice none 0 0, .slice none 0 0, .slice none 0 0] 29 (0, 0)))
    (n1 : (Value.slice va m.vars.length vc).ownBlock = some ob → False) (n2 : (Value.slice aa m.arrs.length ac).ownBlock = some ob → False) (hle : V.heap.size ≤ ob) (hb : Below V.heap.size V q) :
    OutR m V ob (((q.setCell ⟨ob, 0, none⟩ (.slice va m.vars.length vc)).setCell ⟨ob, 1, none⟩ (.slice aa m.arrs.length ac)).setCell ⟨ob, 2, none⟩ (.slice none 0 0)) := by
  have hoth : ∀ j, j ≠ ob → (((q.setCell ⟨ob, 0, none⟩ (.slice va m.vars.length vc)).setCell ⟨ob, 1, none⟩ (.slice aa m.arrs.length ac)).setCell ⟨ob, 2, none⟩ (.slice none 0 0)).heap[j]? = q.heap[j]? := fun j hj => by
    rw [Below.heap_setCell _ _ _ _ (by simpa using hj), Below.heap_setCell _ _ _ _ (by simpa using hj), Below.heap_setCell _ _ _ _ (by simpa using hj)]
  refine ⟨va, aa, vc, ac, ?_, h1.far5 fun g hg _ => hoth g fun e => n1 (by rw [← e]; exact hg), h2.far5 fun g hg _ => hoth g fun e => n2 (by rw [← e]; exact hg), fun g hg => ⟨d g hg, fun e => n1 (by rw [← e]; exact hg)⟩, fun g hg e => n2 (by rw [← e]; exact hg), hle, ((hb.setCell (p := ⟨ob, 0, none⟩) hle _).setCell (p := ⟨ob, 1, none⟩) hle _).setCell (p := ⟨ob, 2, none⟩) hle _⟩
  rw [heap_setCell_same _ ob 2 _ _ _ (heap_setCell_same _ ob 1 _ _ _ (heap_setCell_same q ob 0 _ _ (.slice va m.vars.length vc) hx))]; rfl
theorem out_end2 {m : Cd} {V q : World} {va aa : Option Addr} {vc ac b1 : Nat} (h1 : q.ownsRow V.heap.size 3 1 (.slice va m.vars.length vc) m.vars.length (m.vars.map (Value.int .i64))) (h2 : q.ownsRow V.heap.size 3 1 (.slice aa m.arrs.length ac) m.arrs.length (m.arrs.map (Value.int .i64)))
    (d : ∀ g, (Value.slice va m.vars.length vc).ownBlock = some g → (Value.slice aa m.arrs.length ac).ownBlock ≠ some g)
    (n1 : ∀ g, (Value.slice va m.vars.length vc).ownBlock = some g → g < b1) (n2 : ∀ g, (Value.slice aa m.arrs.length ac).ownBlock = some g → g < q.heap.size) (hz : b1 ≤ q.heap.size) (hb : Below V.heap.size V q) :
    OutR m V q.heap.size (q.alloc (.cells #[.slice va m.vars.length vc, .slice aa m.arrs.length ac, .slice none 0 0] 29)) :=
  ⟨va, aa, vc, ac, heap_alloc_new q _, h1.alloc _, h2.alloc _, fun g hg => ⟨d g hg, fun e => by have := n1 g hg; omega⟩, fun g hg e => by have := n2 g hg; omega, hb.size, hb.alloc hb.size _⟩
theorem facts_put2 {w : World} {b b' : Nat} {v0 v1 v2 : Value} (n0 n1 n2 : Value) (hne : b' ≠ b) (h : w.cell? ⟨b', 0, none⟩ = some v0 ∧ w.cell? ⟨b', 1, none⟩ = some v1 ∧ w.cell? ⟨b', 2, none⟩ = some v2) :
    (((w.setCell ⟨b, 0, none⟩ n0).setCell ⟨b, 1, none⟩ n1).setCell ⟨b, 2, none⟩ n2).cell? ⟨b', 0, none⟩ = some v0 ∧ (((w.setCell ⟨b, 0, none⟩ n0).setCell ⟨b, 1, none⟩ n1).setCell ⟨b, 2, none⟩ n2).cell? ⟨b', 1, none⟩ = some v1 ∧ (((w.setCell ⟨b, 0, none⟩ n0).setCell ⟨b, 1, none⟩ n1).setCell ⟨b, 2, none⟩ n2).cell? ⟨b', 2, none⟩ = some v2 := facts_put3 n0 n1 n2 hne h
theorem facts_new {w : World} (o : Obj) {b' : Nat} {v0 v1 v2 : Value} (hlt : b' < w.heap.size) (h : w.cell? ⟨b', 0, none⟩ = some v0 ∧ w.cell? ⟨b', 1, none⟩ = some v1 ∧ w.cell? ⟨b', 2, none⟩ = some v2) :
    (w.alloc o).cell? ⟨b', 0, none⟩ = some v0 ∧ (w.alloc o).cell? ⟨b', 1, none⟩ = some v1 ∧ (w.alloc o).cell? ⟨b', 2, none⟩ = some v2 := by
  have hb : (w.alloc o).heap[b']? = w.heap[b']? := Below.heap_alloc _ _ _ hlt
  exact ⟨(World.cell?_of_block (w := w) (a := ⟨b', 0, none⟩) hb).trans h.1, (World.cell?_of_block (w := w) (a := ⟨b', 1, none⟩) hb).trans h.2.1, (World.cell?_of_block (w := w) (a := ⟨b', 2, none⟩) hb).trans h.2.2⟩
theorem aimN_ref {f : Nat → Nat} {x : Ins} {t : Nat} (h : tgZ x = (t : Int)) : aimN x (f t : Int) = reT f x := by
  unfold tgZ at h
  unfold aimN reT
  split
  · rename_i h8
    rw [if_pos h8] at h
    rw [h]; rfl
  · rename_i h8
    rw [if_neg h8] at h
    split
    · rename_i h9
      rw [if_pos h9] at h
      rw [h]; rfl
    · rfl
theorem put5 {w : World} {b : Nat} {T : TypeId} {x : Ins} (y : Ins) (h : w.heap[b]? = some (.cells #[.int .i64 x.op, .int .i64 x.fa, .int .i64 x.fb, .int .i64 x.fc, .int .i64 x.fd] T (0, 0))) :
    (((((w.setCell ⟨b, 0, none⟩ (.int .i64 y.op)).setCell ⟨b, 1, none⟩ (.int .i64 y.fa)).setCell ⟨b, 2, none⟩ (.int .i64 y.fb)).setCell ⟨b, 3, none⟩ (.int .i64 y.fc)).setCell ⟨b, 4, none⟩ (.int .i64 y.fd)).heap[b]? = some (.cells #[.int .i64 y.op, .int .i64 y.fa, .int .i64 y.fb, .int .i64 y.fc, .int .i64 y.fd] T (0, 0)) := by
  rw [heap_setCell_same _ b 4 _ _ _ (heap_setCell_same _ b 3 _ _ _ (heap_setCell_same _ b 2 _ _ _ (heap_setCell_same _ b 1 _ _ _ (heap_setCell_same w b 0 _ _ _ h))))]; rfl
theorem put5_oth (w : World) (b j : Nat) (n0 n1 n2 n3 n4 : Value) (h : j ≠ b) : (((((w.setCell ⟨b, 0, none⟩ n0).setCell ⟨b, 1, none⟩ n1).setCell ⟨b, 2, none⟩ n2).setCell ⟨b, 3, none⟩ n3).setCell ⟨b, 4, none⟩ n4).heap[j]? = w.heap[j]? := by
  rw [Below.heap_setCell _ _ _ _ (by simpa using h), Below.heap_setCell _ _ _ _ (by simpa using h), Below.heap_setCell _ _ _ _ (by simpa using h), Below.heap_setCell _ _ _ _ (by simpa using h), Below.heap_setCell _ _ _ _ (by simpa using h)]
/-- The third loop: the kept instructions, with new targets. -/
def TrC (m : Cd) (ks : List Bool) (V4 : World) (ob : Nat) (va aa : Option Addr) (vc ac : Nat) (i : Value) (wr : World) : Prop := ∃ (j : Nat) (la : Option Addr) (lc : Nat), j ≤ m.list.length ∧ i = .int .i64 (j : Int) ∧
  wr.heap[ob]? = some (.cells #[.slice va m.vars.length vc, .slice aa m.arrs.length ac, .slice la ((kepN m.list ks j).map (reT (numF ks))).length lc] 29 (0, 0)) ∧
  wr.ownsRow V4.heap.size 3 1 (.slice va m.vars.length vc) m.vars.length (m.vars.map (Value.int .i64)) ∧ wr.ownsRow V4.heap.size 3 1 (.slice aa m.arrs.length ac) m.arrs.length (m.arrs.map (Value.int .i64)) ∧
  wr.ownsRow V4.heap.size 50 5 (.slice la ((kepN m.list ks j).map (reT (numF ks))).length lc) ((kepN m.list ks j).map (reT (numF ks))).length (flatN ((kepN m.list ks j).map (reT (numF ks)))) ∧
  (∀ g, (Value.slice va m.vars.length vc).ownBlock = some g → (Value.slice aa m.arrs.length ac).ownBlock ≠ some g ∧ (Value.slice la ((kepN m.list ks j).map (reT (numF ks))).length lc).ownBlock ≠ some g ∧ g ≠ ob) ∧ (∀ g, (Value.slice aa m.arrs.length ac).ownBlock = some g → (Value.slice la ((kepN m.list ks j).map (reT (numF ks))).length lc).ownBlock ≠ some g ∧ g ≠ ob) ∧ (∀ g, (Value.slice la ((kepN m.list ks j).map (reT (numF ks))).length lc).ownBlock = some g → g ≠ ob) ∧
  V4.heap.size ≤ ob ∧ Below V4.heap.size V4 wr
theorem TrC.step {m : Cd} {ks : List Bool} {V4 wr V5 w5 : World} {ob j rn g cp H : Nat} {va aa la : Option Addr} {vc ac lc : Nat} {L : List Ins} {x y : Ins}
    (hx : m.list[j]? = some x) (hk : ks[j]? = some true) (hkl : ks.length = m.list.length) (hy : reT (numF ks) x = y) (hL : (kepN m.list ks j).map (reT (numF ks)) = L) (hrn : L.length = rn)
    (h1 : wr.heap[ob]? = some (.cells #[.slice va m.vars.length vc, .slice aa m.arrs.length ac, .slice la rn lc] 29 (0, 0)))
    (h2 : wr.ownsRow V4.heap.size 3 1 (.slice va m.vars.length vc) m.vars.length (m.vars.map (Value.int .i64))) (h3 : wr.ownsRow V4.heap.size 3 1 (.slice aa m.arrs.length ac) m.arrs.length (m.arrs.map (Value.int .i64)))
    (h4 : wr.ownsRow V4.heap.size 50 5 (.slice la rn lc) rn (flatN L))
    (d1 : ∀ g, (Value.slice va m.vars.length vc).ownBlock = some g → (Value.slice aa m.arrs.length ac).ownBlock ≠ some g ∧ (Value.slice la rn lc).ownBlock ≠ some g ∧ g ≠ ob) (d2 : ∀ g, (Value.slice aa m.arrs.length ac).ownBlock = some g → (Value.slice la rn lc).ownBlock ≠ some g ∧ g ≠ ob) (d3 : ∀ g, (Value.slice la rn lc).ownBlock = some g → g ≠ ob)
    (hle : V4.heap.size ≤ ob) (hold : ∀ q, q < wr.heap.size → V5.heap[q]? = wr.heap[q]?) (hsz : wr.heap.size ≤ V5.heap.size) (hb : Below V4.heap.size V4 V5)
    (hgrow : V5.grownBy w5 (Value.slice la rn lc).ownBlock) (hat : (Value.slice la rn lc).ownBlock = some g ∨ g = H) (hH : wr.heap.size ≤ H)
    (hown : w5.ownsRow V4.heap.size 50 5 (.slice (some ⟨g, 0, none⟩) (rn + 1) cp) (rn + 1) (flatN L ++ [.int .i64 y.op, .int .i64 y.fa, .int .i64 y.fb, .int .i64 y.fc, .int .i64 y.fd])) :
    TrC m ks V4 ob va aa vc ac (.int .i64 ((j : Int) + 1)) (w5.setCell ⟨ob, 2, none⟩ (.slice (some ⟨g, 0, none⟩) (rn + 1) cp)) := by
  have hjl : j < m.list.length := (List.getElem?_eq_some_iff.1 hx).1
  have hobl : ob < wr.heap.size := (Array.getElem?_eq_some_iff.1 h1).1
  have hgo : g ≠ ob := by
    rcases hat with h | h
    · exact d3 g h
    · omega
  have hoth : ∀ q, q < wr.heap.size → q ≠ ob → some q ≠ (Value.slice la rn lc).ownBlock → (w5.setCell ⟨ob, 2, none⟩ (.slice (some ⟨g, 0, none⟩) (rn + 1) cp)).heap[q]? = wr.heap[q]? := fun q hq hne hno => by
    rw [Below.heap_setCell _ _ _ _ (by simpa using hne)]
    exact (hgrow.block q (by omega) hno).trans (hold q hq)
  have hbx5 : w5.heap[ob]? = some (.cells #[.slice va m.vars.length vc, .slice aa m.arrs.length ac, .slice la rn lc] 29 (0, 0)) := ((hgrow.block ob (by omega) (fun e => d3 ob e.symm rfl)).trans (hold ob hobl)).trans h1
  have hL' : (kepN m.list ks (j + 1)).map (reT (numF ks)) = L ++ [y] := by rw [kepN_t hkl hx hk, List.map_append, hL, ← hy]; rfl
  have hl' : (L ++ [y]).length = rn + 1 := by rw [List.length_append, hrn]; rfl
  have hfl : flatN (L ++ [y]) = flatN L ++ [.int .i64 y.op, .int .i64 y.fa, .int .i64 y.fb, .int .i64 y.fc, .int .i64 y.fd] := by rw [flatN_app]; rfl
  refine ⟨j + 1, some ⟨g, 0, none⟩, cp, by omega, by go_num, ?_⟩
  rw [hL', hl', hfl]
  refine ⟨?_, ?_, ?_, ?_, ?_, ?_, ?_, hle, ?_⟩
  · rw [heap_setCell_same w5 ob 2 _ _ _ hbx5]; rfl
  · exact h2.far5 fun q hq hl => hoth q hl (d1 q hq).2.2 fun e => (d1 q hq).2.1 e.symm
  · exact h3.far5 fun q hq hl => hoth q hl (d2 q hq).2 fun e => (d2 q hq).1 e.symm
  · exact hown.far5 fun q hq hl => Below.heap_setCell _ _ _ _ (by
      have e : g = q := by injection hq
      subst e
      simpa using hgo)
  · refine fun q hq => ⟨(d1 q hq).1, fun e => ?_, (d1 q hq).2.2⟩
    have e : g = q := by injection e
    subst e
    rcases hat with h | h
    · exact (d1 g hq).2.1 h
    · have := (h2.lt g hq).2; omega
  · refine fun q hq => ⟨fun e => ?_, (d2 q hq).2⟩
    have e : g = q := by injection e
    subst e
    rcases hat with h | h
    · exact (d2 g hq).1 h
    · have := (h3.lt g hq).2; omega
  · refine fun q hq => ?_
    have e : g = q := by injection hq
    subst e
    exact hgo
  · exact (hb.grown hgrow hb.size (fun q hq => by have := (h4.lt q hq).1; omega)).setCell (p := ⟨ob, 2, none⟩) hle _
theorem cells5 {w : World} {b : Nat} {T : TypeId} {x : Ins} (h : w.heap[b]? = some (.cells #[.int .i64 x.op, .int .i64 x.fa, .int .i64 x.fb, .int .i64 x.fc, .int .i64 x.fd] T (0, 0))) : w.cell? ⟨b, 0, none⟩ = some (.int .i64 x.op) ∧ w.cell? ⟨b, 1, none⟩ = some (.int .i64 x.fa) ∧ w.cell? ⟨b, 2, none⟩ = some (.int .i64 x.fb) ∧ w.cell? ⟨b, 3, none⟩ = some (.int .i64 x.fc) ∧ w.cell? ⟨b, 4, none⟩ = some (.int .i64 x.fd) :=
  ⟨by rw [cell_at h]; rfl, by rw [cell_at h]; rfl, by rw [cell_at h]; rfl, by rw [cell_at h]; rfl, by rw [cell_at h]; rfl⟩

/-- The first loop: what is kept. -/
def TrA (l : List Ins) (bs : List Bool) (n : Nat) (W : World) (ka : Option Addr) (kc : Nat) (i : Value) (wr : World) : Prop := ∃ (j : Nat) (ks : List Bool), j ≤ n ∧ i = .int .i64 (j : Int) ∧ KpTo l bs ks j ∧ wr.ownsRow W.heap.size 4 1 (.slice ka n kc) n (ks.map Value.bool) ∧ Below W.heap.size W wr
/-- The second loop: the numbers. -/
def TrB (ks : List Bool) (n : Nat) (V : World) (av nv i : Value) (wr : World) : Prop := ∃ (j : Nat) (ba : Option Addr) (bc : Nat), j ≤ n ∧ i = .int .i64 (j : Int) ∧ nv = .int .i64 (numF ks j : Int) ∧ av = .slice ba j bc ∧ wr.ownsRow V.heap.size 3 1 (.slice ba j bc) j ((numL ks j).map (Value.int .i64)) ∧ Below V.heap.size V wr

end Go.Proofs.YtbifbmpflhdijaaDoor

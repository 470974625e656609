/- The program's writer of an instruction, walked: it appends the text of an instruction whose operation is one and whose fields are from 0 to 400 to a builder of the call's own; every block below the call's own stands. Condition: the table of forms and the library's table of powers lie as the program's text lays them. -/
import Derived.Test.YtleomemalgfmoaaDoorBdr
import Derived.Test.YtleomemalgfmoaaDoorCfS
import Derived.Test.YtleomemalgfmoaaDoorCvI
import Derived.Deep.RegionHeld3
import Derived.Deep.CutRange
namespace Go.Proofs.YtleomemalgfmoaaDoor
open Go.RowKit Go.Shelf
set_option linter.unusedVariables false

def BelW (U v : World) : Prop := Below U.heap.size U v
theorem BelW.refl (U : World) : BelW U U := Below.refl _ _
theorem BelW.drew {U v : World} (h : BelW U v) : BelW U v.drew := Below.drew h
theorem BelW.alloc {U v : World} (h : BelW U v) (o : Obj) : BelW U (v.alloc o) := Below.alloc h (Below.size h) o
theorem BelW.call {U v v' : World} (h : BelW U v) (k : Below v.heap.size v v') : BelW U v' := Below.trans h (k.mono (Below.size h))
theorem BelW.set {U v : World} (h : BelW U v) {g : Nat} (hg : U.heap.size ≤ g) (o : Nat) (x : Value) : BelW U (v.setCell ⟨g, o, none⟩ x) := Below.setCell (p := ⟨g, o, none⟩) h hg x
/-- A form's box and an array's box that no store has met yet. -/
def BA (v : World) (g : Nat) : Prop := v.heap[g]? = some (.cells #[.string ⟨#[]⟩, .int .i64 0, .int .i64 0, .int .i64 0, .int .i64 0] 96 (0, 0))
def BB (v : World) (g : Nat) : Prop := v.heap[g]? = some (.cells #[.int .i64 0, .int .i64 0, .int .i64 0, .int .i64 0] 91 (0, 0))
theorem BA.lt {v : World} {g : Nat} (h : BA v g) : g < v.heap.size := (Array.getElem?_eq_some_iff.1 h).1
theorem BB.lt {v : World} {g : Nat} (h : BB v g) : g < v.heap.size := (Array.getElem?_eq_some_iff.1 h).1
theorem ba_new (v : World) : BA (v.alloc (.cells #[.string ⟨#[]⟩, .int .i64 0, .int .i64 0, .int .i64 0, .int .i64 0] 96)) v.heap.size := heap_alloc_new v _
theorem bb_new (v : World) : BB (v.alloc (.cells #[.int .i64 0, .int .i64 0, .int .i64 0, .int .i64 0] 91)) v.heap.size := heap_alloc_new v _
theorem ba_old {v : World} {g : Nat} {o : Obj} (h : BA v g) : BA (v.alloc o) g := (Below.heap_alloc _ _ _ h.lt).trans h
theorem bb_old {v : World} {g : Nat} {o : Obj} (h : BB v g) : BB (v.alloc o) g := (Below.heap_alloc _ _ _ h.lt).trans h
theorem ba_new2 (v : World) {o : Obj} : BA ((v.alloc o).alloc (.cells #[.string ⟨#[]⟩, .int .i64 0, .int .i64 0, .int .i64 0, .int .i64 0] 96)) (v.heap.size + 1) := by
  have h := ba_new (v.alloc o)
  rw [World.size_alloc] at h
  exact h
theorem bb_new2 (v : World) {o : Obj} : BB ((v.alloc o).alloc (.cells #[.int .i64 0, .int .i64 0, .int .i64 0, .int .i64 0] 91)) (v.heap.size + 1) := by
  have h := bb_new (v.alloc o)
  rw [World.size_alloc] at h
  exact h
theorem frz_of {w : World} {b : Nat} {cs : Array Value} {T : TypeId} (h : w.heap[b]? = some (.cells cs T (0, 0))) (o : Nat) : w.frozen? ⟨b, o, none⟩ = false := frozen_of_row w b o cs T h
theorem setA_same {u : World} {g : Nat} (h : BA u g) (s0 : ByteArray) (a1 a2 a3 a4 : Int) : (((((u.setCell ⟨g, 0, none⟩ (.string s0)).setCell ⟨g, 1, none⟩ (.int .i64 a1)).setCell ⟨g, 2, none⟩ (.int .i64 a2)).setCell ⟨g, 3, none⟩ (.int .i64 a3)).setCell ⟨g, 4, none⟩ (.int .i64 a4)).heap[g]? = some (.cells #[.string s0, .int .i64 a1, .int .i64 a2, .int .i64 a3, .int .i64 a4] 96 (0, 0)) := (heap_setCell_same _ g 4 _ _ _ (heap_setCell_same _ g 3 _ _ _ (heap_setCell_same _ g 2 _ _ _ (heap_setCell_same _ g 1 _ _ _ (heap_setCell_same _ g 0 _ _ _ h)))))
theorem setB_same {u : World} {g : Nat} (h : BB u g) (b0 b1 b2 b3 : Int) : ((((u.setCell ⟨g, 0, none⟩ (.int .i64 b0)).setCell ⟨g, 1, none⟩ (.int .i64 b1)).setCell ⟨g, 2, none⟩ (.int .i64 b2)).setCell ⟨g, 3, none⟩ (.int .i64 b3)).heap[g]? = some (.cells #[.int .i64 b0, .int .i64 b1, .int .i64 b2, .int .i64 b3] 91 (0, 0)) := (heap_setCell_same _ g 3 _ _ _ (heap_setCell_same _ g 2 _ _ _ (heap_setCell_same _ g 1 _ _ _ (heap_setCell_same _ g 0 _ _ _ h))))
theorem set1_other {u : World} {g b o : Nat} {x : Value} (hne : b ≠ g) : (u.setCell ⟨g, o, none⟩ x).heap[b]? = u.heap[b]? := Below.heap_setCell _ _ _ _ (by simpa using hne)
theorem setA_other {u : World} {g b : Nat} (hne : b ≠ g) (x0 x1 x2 x3 x4 : Value) : (((((u.setCell ⟨g, 0, none⟩ x0).setCell ⟨g, 1, none⟩ x1).setCell ⟨g, 2, none⟩ x2).setCell ⟨g, 3, none⟩ x3).setCell ⟨g, 4, none⟩ x4).heap[b]? = u.heap[b]? := by
  rw [set1_other hne, set1_other hne, set1_other hne, set1_other hne, set1_other hne]
theorem setB_other {u : World} {g b : Nat} (hne : b ≠ g) (x0 x1 x2 x3 : Value) : ((((u.setCell ⟨g, 0, none⟩ x0).setCell ⟨g, 1, none⟩ x1).setCell ⟨g, 2, none⟩ x2).setCell ⟨g, 3, none⟩ x3).heap[b]? = u.heap[b]? := by
  rw [set1_other hne, set1_other hne, set1_other hne, set1_other hne]
theorem setA_size (u : World) (g : Nat) (x0 x1 x2 x3 x4 : Value) : (((((u.setCell ⟨g, 0, none⟩ x0).setCell ⟨g, 1, none⟩ x1).setCell ⟨g, 2, none⟩ x2).setCell ⟨g, 3, none⟩ x3).setCell ⟨g, 4, none⟩ x4).heap.size = u.heap.size := by simp [World.setCell]
theorem setB_size (u : World) (g : Nat) (x0 x1 x2 x3 : Value) : ((((u.setCell ⟨g, 0, none⟩ x0).setCell ⟨g, 1, none⟩ x1).setCell ⟨g, 2, none⟩ x2).setCell ⟨g, 3, none⟩ x3).heap.size = u.heap.size := by simp [World.setCell]
theorem setA_bel {U u : World} (h : BelW U u) {g : Nat} (hg : U.heap.size ≤ g) (x0 x1 x2 x3 x4 : Value) : BelW U (((((u.setCell ⟨g, 0, none⟩ x0).setCell ⟨g, 1, none⟩ x1).setCell ⟨g, 2, none⟩ x2).setCell ⟨g, 3, none⟩ x3).setCell ⟨g, 4, none⟩ x4) := ((((h.set hg 0 _).set hg 1 _).set hg 2 _).set hg 3 _).set hg 4 _
theorem setB_bel {U u : World} (h : BelW U u) {g : Nat} (hg : U.heap.size ≤ g) (x0 x1 x2 x3 : Value) : BelW U ((((u.setCell ⟨g, 0, none⟩ x0).setCell ⟨g, 1, none⟩ x1).setCell ⟨g, 2, none⟩ x2).setCell ⟨g, 3, none⟩ x3) := (((h.set hg 0 _).set hg 1 _).set hg 2 _).set hg 3 _
/-- Behind the region: both boxes are filled. -/
structure FxT (U : World) (g4 g5 : Nat) (s0 : ByteArray) (a1 a2 a3 a4 : Int) (b0 b1 b2 b3 : Int) (X : World) : Prop where
  bel : BelW U X
  hA : X.heap[g4]? = some (.cells #[.string s0, .int .i64 a1, .int .i64 a2, .int .i64 a3, .int .i64 a4] 96 (0, 0))
  hB : X.heap[g5]? = some (.cells #[.int .i64 b0, .int .i64 b1, .int .i64 b2, .int .i64 b3] 91 (0, 0))
section
variable {s0 : ByteArray} {a1 a2 a3 a4 b0 b1 b2 b3 : Int}
theorem fx1 {U u : World} (h : BelW U u) : FxT U u.heap.size (u.heap.size + 1) s0 a1 a2 a3 a4 b0 b1 b2 b3 ((u.alloc (.cells #[.string s0, .int .i64 a1, .int .i64 a2, .int .i64 a3, .int .i64 a4] 96)).alloc (.cells #[.int .i64 b0, .int .i64 b1, .int .i64 b2, .int .i64 b3] 91)) := by
  have h1 := heap_alloc_new (u.alloc (.cells #[.string s0, .int .i64 a1, .int .i64 a2, .int .i64 a3, .int .i64 a4] 96)) (.cells #[.int .i64 b0, .int .i64 b1, .int .i64 b2, .int .i64 b3] 91)
  rw [World.size_alloc] at h1
  exact ⟨(h.alloc _).alloc _, (Below.heap_alloc _ _ _ (by simp)).trans (heap_alloc_new u _), h1⟩
theorem fx1' {U u : World} (h : BelW U u) : FxT U (u.heap.size + 1) u.heap.size s0 a1 a2 a3 a4 b0 b1 b2 b3 ((u.alloc (.cells #[.int .i64 b0, .int .i64 b1, .int .i64 b2, .int .i64 b3] 91)).alloc (.cells #[.string s0, .int .i64 a1, .int .i64 a2, .int .i64 a3, .int .i64 a4] 96)) := by
  have h1 := heap_alloc_new (u.alloc (.cells #[.int .i64 b0, .int .i64 b1, .int .i64 b2, .int .i64 b3] 91)) (.cells #[.string s0, .int .i64 a1, .int .i64 a2, .int .i64 a3, .int .i64 a4] 96)
  rw [World.size_alloc] at h1
  exact ⟨(h.alloc _).alloc _, h1, (Below.heap_alloc _ _ _ (by simp)).trans (heap_alloc_new u _)⟩
theorem fx2 {U u : World} (h : BelW U u) {g : Nat} (hb : BA u g) (hg : U.heap.size ≤ g) : FxT U g u.heap.size s0 a1 a2 a3 a4 b0 b1 b2 b3 ((((((u.setCell ⟨g, 0, none⟩ (.string s0)).setCell ⟨g, 1, none⟩ (.int .i64 a1)).setCell ⟨g, 2, none⟩ (.int .i64 a2)).setCell ⟨g, 3, none⟩ (.int .i64 a3)).setCell ⟨g, 4, none⟩ (.int .i64 a4)).alloc (.cells #[.int .i64 b0, .int .i64 b1, .int .i64 b2, .int .i64 b3] 91)) := by
  have h1 := heap_alloc_new (((((u.setCell ⟨g, 0, none⟩ (.string s0)).setCell ⟨g, 1, none⟩ (.int .i64 a1)).setCell ⟨g, 2, none⟩ (.int .i64 a2)).setCell ⟨g, 3, none⟩ (.int .i64 a3)).setCell ⟨g, 4, none⟩ (.int .i64 a4)) (.cells #[.int .i64 b0, .int .i64 b1, .int .i64 b2, .int .i64 b3] 91)
  rw [setA_size] at h1
  exact ⟨(setA_bel h hg _ _ _ _ _).alloc _, (Below.heap_alloc _ _ _ (by rw [setA_size]; exact hb.lt)).trans (setA_same hb s0 a1 a2 a3 a4), h1⟩
theorem fx2' {U u : World} (h : BelW U u) {g : Nat} (hb : BB u g) (hg : U.heap.size ≤ g) : FxT U u.heap.size g s0 a1 a2 a3 a4 b0 b1 b2 b3 (((((u.setCell ⟨g, 0, none⟩ (.int .i64 b0)).setCell ⟨g, 1, none⟩ (.int .i64 b1)).setCell ⟨g, 2, none⟩ (.int .i64 b2)).setCell ⟨g, 3, none⟩ (.int .i64 b3)).alloc (.cells #[.string s0, .int .i64 a1, .int .i64 a2, .int .i64 a3, .int .i64 a4] 96)) := by
  have h1 := heap_alloc_new ((((u.setCell ⟨g, 0, none⟩ (.int .i64 b0)).setCell ⟨g, 1, none⟩ (.int .i64 b1)).setCell ⟨g, 2, none⟩ (.int .i64 b2)).setCell ⟨g, 3, none⟩ (.int .i64 b3)) (.cells #[.string s0, .int .i64 a1, .int .i64 a2, .int .i64 a3, .int .i64 a4] 96)
  rw [setB_size] at h1
  exact ⟨(setB_bel h hg _ _ _ _).alloc _, h1, (Below.heap_alloc _ _ _ (by rw [setB_size]; exact hb.lt)).trans (setB_same hb b0 b1 b2 b3)⟩
theorem fx3 {U u : World} (h : BelW U u) {g g' : Nat} (hb : BA u g) (hb' : BB u g') (hne : g ≠ g') (hg : U.heap.size ≤ g) (hg' : U.heap.size ≤ g') : FxT U g g' s0 a1 a2 a3 a4 b0 b1 b2 b3 (((((((((u.setCell ⟨g, 0, none⟩ (.string s0)).setCell ⟨g, 1, none⟩ (.int .i64 a1)).setCell ⟨g, 2, none⟩ (.int .i64 a2)).setCell ⟨g, 3, none⟩ (.int .i64 a3)).setCell ⟨g, 4, none⟩ (.int .i64 a4)).setCell ⟨g', 0, none⟩ (.int .i64 b0)).setCell ⟨g', 1, none⟩ (.int .i64 b1)).setCell ⟨g', 2, none⟩ (.int .i64 b2)).setCell ⟨g', 3, none⟩ (.int .i64 b3)) := by
  have hb2 : BB (((((u.setCell ⟨g, 0, none⟩ (.string s0)).setCell ⟨g, 1, none⟩ (.int .i64 a1)).setCell ⟨g, 2, none⟩ (.int .i64 a2)).setCell ⟨g, 3, none⟩ (.int .i64 a3)).setCell ⟨g, 4, none⟩ (.int .i64 a4)) g' := (setA_other (fun e => hne e.symm) _ _ _ _ _).trans hb'
  exact ⟨setB_bel (setA_bel h hg _ _ _ _ _) hg' _ _ _ _, (setB_other hne _ _ _ _).trans (setA_same hb s0 a1 a2 a3 a4), setB_same hb2 b0 b1 b2 b3⟩
end

set_option maxRecDepth 100000 in
set_option maxHeartbeats 8000000 in
theorem write_one (x : Ins) (B b : Nat) (bs : List UInt8) (w : World) (h1 : 1 ≤ x.op) (h13 : x.op ≤ 13) (hp : ∀ j, j < 4 → 0 ≤ x.part j ∧ x.part j ≤ 400) (h : IsB B b bs w) (hlen : bs.length ≤ 900000) (hT : TblF w) (hP : TabP w)
    (hF : 0 < B) (hPB : 2 < B) (hBw : B ≤ w.heap.size) :
    Calls Tryd.prog 37 #[.agg #[.int .i64 x.op, .int .i64 x.fa, .int .i64 x.fb, .int .i64 x.fc, .int .i64 x.fd], .pointer (some ⟨b, 0, none⟩)] w (Wr B b bs (insT x) w) := by
  obtain ⟨hBb, hbw⟩ := isB_lt h
  obtain ⟨op, hop⟩ : ∃ op : Nat, x.op = op := ⟨x.op.toNat, by omega⟩
  obtain ⟨x0, hx⟩ : ∃ x0 : Ins, x0 = x := ⟨_, rfl⟩
  have HX := Lib.hid hx
  have hlp := insP_len hp
  rw [← hx] at hp hlp
  have HPP := Lib.hid hp
  have HLEN := Lib.hid hlp
  have HOP : Hid (x0.op = op) := by
    have : x0.op = op := by rw [hx, hop]
    exact this
  obtain ⟨xop, fa, fb, fc, fd⟩ := x
  simp only at hop h1 h13
  subst hop
  have HXE : Hid (insT ⟨op, fa, fb, fc, fd⟩ = insT x0) := by
    have : insT ⟨op, fa, fb, fc, fd⟩ = insT x0 := by rw [hx]
    exact this
  clear hx hp hlp
  have h14 : op < 14 := by omega
  have hi0 : (0 : Int) ≤ (op : Int) := by omega
  have hi1 : (op : Int) < 14 := by omega
  obtain ⟨k0, hk0⟩ : ∃ z, kdAt op 0 = z := ⟨_, rfl⟩
  obtain ⟨k1, hk1⟩ : ∃ z, kdAt op 1 = z := ⟨_, rfl⟩
  obtain ⟨k2, hk2⟩ : ∃ z, kdAt op 2 = z := ⟨_, rfl⟩
  obtain ⟨k3, hk3⟩ : ∃ z, kdAt op 3 = z := ⟨_, rfl⟩
  have HKD : Hid (kdAt op 0 = k0 ∧ kdAt op 1 = k1 ∧ kdAt op 2 = k2 ∧ kdAt op 3 = k3) := ⟨hk0, hk1, hk2, hk3⟩
  have HB := Lib.hid ((Below.refl w.heap.size w).alloc (Nat.le_refl _) (.cells #[.int .i64 op, .int .i64 fa, .int .i64 fb, .int .i64 fc, .int .i64 fd] 57))
  have hix := heap_alloc_new w (.cells #[.int .i64 op, .int .i64 fa, .int .i64 fb, .int .i64 fc, .int .i64 fd] 57)
  have HI := Lib.hid (isB_kept h (World.grownBy_alloc w (.cells #[.int .i64 op, .int .i64 fa, .int .i64 fb, .int .i64 fc, .int .i64 fd] 57) none))
  have HTT : Hid (∀ v, Below w.heap.size w v → TblF v) := fun v hv => hT.below hv hT.lt
  have HPT : Hid (∀ v, Below B w v → TabP v) := fun v hv => hP.below hv hPB
  have HIX := Lib.hid hix
  clear hix h hT hP hk0 hk1 hk2 hk3
  go_enter Tryd.func37, Tryd.ntmps37
  go_wp2_with fail
  obtain ⟨W, hW⟩ : ∃ W, w.alloc (.cells #[.int .i64 op, .int .i64 fa, .int .i64 fb, .int .i64 fc, .int .i64 fd] 57) = W := ⟨_, rfl⟩
  have hzW : w.heap.size < W.heap.size := by rw [← hW]; simp
  rw [hW] at HB HIX HI ⊢
  clear hW
  have HS5 : Hid (∀ v, BelW W v → ((v.cell? ⟨w.heap.size, 0, none⟩ = some (.int .i64 op) ∧ v.cell? ⟨w.heap.size, 1, none⟩ = some (.int .i64 fa) ∧ v.cell? ⟨w.heap.size, 2, none⟩ = some (.int .i64 fb) ∧ v.cell? ⟨w.heap.size, 3, none⟩ = some (.int .i64 fc) ∧ v.cell? ⟨w.heap.size, 4, none⟩ = some (.int .i64 fd)) ∧ v.cell? ⟨0, op * 5, none⟩ = some (.string ⟨(nmT op).toArray⟩) ∧ v.cell? ⟨0, op * 5 + 1, none⟩ = some (.int .i64 k0) ∧ v.cell? ⟨0, op * 5 + 1 + 1, none⟩ = some (.int .i64 k1) ∧ v.cell? ⟨0, op * 5 + 1 + 2, none⟩ = some (.int .i64 k2) ∧ v.cell? ⟨0, op * 5 + 1 + 3, none⟩ = some (.int .i64 k3))) := fun v hv => by
    have r := (Below.block hv w.heap.size (by omega)).trans HIX.out
    obtain ⟨t0, t1, t2, t3, t4⟩ := (HTT.out v (HB.out.trans (Below.mono hv HB.out.size))).at op h14
    rw [HKD.out.1] at t1
    rw [HKD.out.2.1] at t2
    rw [HKD.out.2.2.1] at t3
    rw [HKD.out.2.2.2] at t4
    exact ⟨⟨by rw [cell_of_row _ _ _ _ _ _ r]; rfl, by rw [cell_of_row _ _ _ _ _ _ r]; rfl, by rw [cell_of_row _ _ _ _ _ _ r]; rfl, by rw [cell_of_row _ _ _ _ _ _ r]; rfl, by rw [cell_of_row _ _ _ _ _ _ r]; rfl⟩, t0, t1, t2, t3, t4⟩
  have hS0 := HS5.out W (BelW.refl _)
  go_cut [4, 5] from 8 to 36 (fun s4 s5 wx => ∃ g4 g5 : Nat, s4 = .pointer (some ⟨g4, 0, none⟩) ∧ s5 = .pointer (some ⟨g5, 0, none⟩) ∧ Hid (FxT W g4 g5 ⟨(nmT op).toArray⟩ k0 k1 k2 k3 fa fb fc fd wx))
  case first =>
    go_region_held3 (fun v => ((v.cell? ⟨w.heap.size, 0, none⟩ = some (.int .i64 op) ∧ v.cell? ⟨w.heap.size, 1, none⟩ = some (.int .i64 fa) ∧ v.cell? ⟨w.heap.size, 2, none⟩ = some (.int .i64 fb) ∧ v.cell? ⟨w.heap.size, 3, none⟩ = some (.int .i64 fc) ∧ v.cell? ⟨w.heap.size, 4, none⟩ = some (.int .i64 fd)) ∧ v.cell? ⟨0, op * 5, none⟩ = some (.string ⟨(nmT op).toArray⟩) ∧ v.cell? ⟨0, op * 5 + 1, none⟩ = some (.int .i64 k0) ∧ v.cell? ⟨0, op * 5 + 1 + 1, none⟩ = some (.int .i64 k1) ∧ v.cell? ⟨0, op * 5 + 1 + 2, none⟩ = some (.int .i64 k2) ∧ v.cell? ⟨0, op * 5 + 1 + 3, none⟩ = some (.int .i64 k3))) (first | (with_reducible assumption) | (with_reducible exact HS5.out _ (by (repeat (first | (with_reducible assumption) | (with_reducible exact BelW.refl _) | (with_reducible refine BelW.drew ?_) | (with_reducible refine BelW.alloc ?_ _) | (with_reducible refine BelW.set ?_ (by omega) _ _))))))
      ((go_at_call 54; (with_reducible refine (iFields_one ⟨op, fa, fb, fc, fd⟩ _).mono ?_); rintro e u1 ⟨rfl, hb1⟩
        have hU1 : BelW W u1 := BelW.call (by (repeat (first | (with_reducible assumption) | (with_reducible exact BelW.refl _) | (with_reducible refine BelW.drew ?_) | (with_reducible refine BelW.alloc ?_ _) | (with_reducible refine BelW.set ?_ (by omega) _ _)))) hb1
        have hS1 := HS5.out u1 hU1
        have hz1 : W.heap.size ≤ u1.heap.size := Below.size hU1
        try have a0 : BA u1 W.heap.size := (hb1.block W.heap.size (by simp)).trans (ba_new W)
        try have a0 : BA u1 W.heap.size := (hb1.block W.heap.size (by simp; omega)).trans (ba_old (ba_new W))
        try have b0 : BB u1 W.heap.size := (hb1.block W.heap.size (by simp)).trans (bb_new W)
        try have b0 : BB u1 W.heap.size := (hb1.block W.heap.size (by simp; omega)).trans (bb_old (bb_new W))
        try have a1 : BA u1 (W.heap.size + 1) := (hb1.block (W.heap.size + 1) (by simp)).trans (ba_new2 W)
        try have b1 : BB u1 (W.heap.size + 1) := (hb1.block (W.heap.size + 1) (by simp)).trans (bb_new2 W)
        try have a0l := a0.lt
        try have a0c0 : u1.cell? ⟨W.heap.size, 0, none⟩ = some (.string ⟨#[]⟩) := cellAtM a0 0
        try have a0f0 : u1.frozen? ⟨W.heap.size, 0, none⟩ = false := frz_of a0 0
        try have a0c1 : u1.cell? ⟨W.heap.size, 1, none⟩ = some (.int .i64 0) := cellAtM a0 1
        try have a0f1 : u1.frozen? ⟨W.heap.size, 1, none⟩ = false := frz_of a0 1
        try have a0c2 : u1.cell? ⟨W.heap.size, 2, none⟩ = some (.int .i64 0) := cellAtM a0 2
        try have a0f2 : u1.frozen? ⟨W.heap.size, 2, none⟩ = false := frz_of a0 2
        try have a0c3 : u1.cell? ⟨W.heap.size, 3, none⟩ = some (.int .i64 0) := cellAtM a0 3
        try have a0f3 : u1.frozen? ⟨W.heap.size, 3, none⟩ = false := frz_of a0 3
        try have a0c4 : u1.cell? ⟨W.heap.size, 4, none⟩ = some (.int .i64 0) := cellAtM a0 4
        try have a0f4 : u1.frozen? ⟨W.heap.size, 4, none⟩ = false := frz_of a0 4
        try have a1l := a1.lt
        try have a1c0 : u1.cell? ⟨W.heap.size + 1, 0, none⟩ = some (.string ⟨#[]⟩) := cellAtM a1 0
        try have a1f0 : u1.frozen? ⟨W.heap.size + 1, 0, none⟩ = false := frz_of a1 0
        try have a1c1 : u1.cell? ⟨W.heap.size + 1, 1, none⟩ = some (.int .i64 0) := cellAtM a1 1
        try have a1f1 : u1.frozen? ⟨W.heap.size + 1, 1, none⟩ = false := frz_of a1 1
        try have a1c2 : u1.cell? ⟨W.heap.size + 1, 2, none⟩ = some (.int .i64 0) := cellAtM a1 2
        try have a1f2 : u1.frozen? ⟨W.heap.size + 1, 2, none⟩ = false := frz_of a1 2
        try have a1c3 : u1.cell? ⟨W.heap.size + 1, 3, none⟩ = some (.int .i64 0) := cellAtM a1 3
        try have a1f3 : u1.frozen? ⟨W.heap.size + 1, 3, none⟩ = false := frz_of a1 3
        try have a1c4 : u1.cell? ⟨W.heap.size + 1, 4, none⟩ = some (.int .i64 0) := cellAtM a1 4
        try have a1f4 : u1.frozen? ⟨W.heap.size + 1, 4, none⟩ = false := frz_of a1 4
        try have b0l := b0.lt
        try have b0c0 : u1.cell? ⟨W.heap.size, 0, none⟩ = some (.int .i64 0) := cellAtM b0 0
        try have b0f0 : u1.frozen? ⟨W.heap.size, 0, none⟩ = false := frz_of b0 0
        try have b0c1 : u1.cell? ⟨W.heap.size, 1, none⟩ = some (.int .i64 0) := cellAtM b0 1
        try have b0f1 : u1.frozen? ⟨W.heap.size, 1, none⟩ = false := frz_of b0 1
        try have b0c2 : u1.cell? ⟨W.heap.size, 2, none⟩ = some (.int .i64 0) := cellAtM b0 2
        try have b0f2 : u1.frozen? ⟨W.heap.size, 2, none⟩ = false := frz_of b0 2
        try have b0c3 : u1.cell? ⟨W.heap.size, 3, none⟩ = some (.int .i64 0) := cellAtM b0 3
        try have b0f3 : u1.frozen? ⟨W.heap.size, 3, none⟩ = false := frz_of b0 3
        try have b1l := b1.lt
        try have b1c0 : u1.cell? ⟨W.heap.size + 1, 0, none⟩ = some (.int .i64 0) := cellAtM b1 0
        try have b1f0 : u1.frozen? ⟨W.heap.size + 1, 0, none⟩ = false := frz_of b1 0
        try have b1c1 : u1.cell? ⟨W.heap.size + 1, 1, none⟩ = some (.int .i64 0) := cellAtM b1 1
        try have b1f1 : u1.frozen? ⟨W.heap.size + 1, 1, none⟩ = false := frz_of b1 1
        try have b1c2 : u1.cell? ⟨W.heap.size + 1, 2, none⟩ = some (.int .i64 0) := cellAtM b1 2
        try have b1f2 : u1.frozen? ⟨W.heap.size + 1, 2, none⟩ = false := frz_of b1 2
        try have b1c3 : u1.cell? ⟨W.heap.size + 1, 3, none⟩ = some (.int .i64 0) := cellAtM b1 3
        try have b1f3 : u1.frozen? ⟨W.heap.size + 1, 3, none⟩ = false := frz_of b1 3
        try have qa0 : BB (((((u1.setCell ⟨W.heap.size, 0, none⟩ (.string ⟨(nmT op).toArray⟩)).setCell ⟨W.heap.size, 1, none⟩ (.int .i64 k0)).setCell ⟨W.heap.size, 2, none⟩ (.int .i64 k1)).setCell ⟨W.heap.size, 3, none⟩ (.int .i64 k2)).setCell ⟨W.heap.size, 4, none⟩ (.int .i64 k3)) (W.heap.size + 1) := (setA_other (by omega) _ _ _ _ _).trans b1
        try have qa0c0 : (((((u1.setCell ⟨W.heap.size, 0, none⟩ (.string ⟨(nmT op).toArray⟩)).setCell ⟨W.heap.size, 1, none⟩ (.int .i64 k0)).setCell ⟨W.heap.size, 2, none⟩ (.int .i64 k1)).setCell ⟨W.heap.size, 3, none⟩ (.int .i64 k2)).setCell ⟨W.heap.size, 4, none⟩ (.int .i64 k3)).cell? ⟨W.heap.size + 1, 0, none⟩ = some (.int .i64 0) := cellAtM qa0 0
        try have qa0f0 : (((((u1.setCell ⟨W.heap.size, 0, none⟩ (.string ⟨(nmT op).toArray⟩)).setCell ⟨W.heap.size, 1, none⟩ (.int .i64 k0)).setCell ⟨W.heap.size, 2, none⟩ (.int .i64 k1)).setCell ⟨W.heap.size, 3, none⟩ (.int .i64 k2)).setCell ⟨W.heap.size, 4, none⟩ (.int .i64 k3)).frozen? ⟨W.heap.size + 1, 0, none⟩ = false := frz_of qa0 0
        try have qa0c1 : (((((u1.setCell ⟨W.heap.size, 0, none⟩ (.string ⟨(nmT op).toArray⟩)).setCell ⟨W.heap.size, 1, none⟩ (.int .i64 k0)).setCell ⟨W.heap.size, 2, none⟩ (.int .i64 k1)).setCell ⟨W.heap.size, 3, none⟩ (.int .i64 k2)).setCell ⟨W.heap.size, 4, none⟩ (.int .i64 k3)).cell? ⟨W.heap.size + 1, 1, none⟩ = some (.int .i64 0) := cellAtM qa0 1
        try have qa0f1 : (((((u1.setCell ⟨W.heap.size, 0, none⟩ (.string ⟨(nmT op).toArray⟩)).setCell ⟨W.heap.size, 1, none⟩ (.int .i64 k0)).setCell ⟨W.heap.size, 2, none⟩ (.int .i64 k1)).setCell ⟨W.heap.size, 3, none⟩ (.int .i64 k2)).setCell ⟨W.heap.size, 4, none⟩ (.int .i64 k3)).frozen? ⟨W.heap.size + 1, 1, none⟩ = false := frz_of qa0 1
        try have qa0c2 : (((((u1.setCell ⟨W.heap.size, 0, none⟩ (.string ⟨(nmT op).toArray⟩)).setCell ⟨W.heap.size, 1, none⟩ (.int .i64 k0)).setCell ⟨W.heap.size, 2, none⟩ (.int .i64 k1)).setCell ⟨W.heap.size, 3, none⟩ (.int .i64 k2)).setCell ⟨W.heap.size, 4, none⟩ (.int .i64 k3)).cell? ⟨W.heap.size + 1, 2, none⟩ = some (.int .i64 0) := cellAtM qa0 2
        try have qa0f2 : (((((u1.setCell ⟨W.heap.size, 0, none⟩ (.string ⟨(nmT op).toArray⟩)).setCell ⟨W.heap.size, 1, none⟩ (.int .i64 k0)).setCell ⟨W.heap.size, 2, none⟩ (.int .i64 k1)).setCell ⟨W.heap.size, 3, none⟩ (.int .i64 k2)).setCell ⟨W.heap.size, 4, none⟩ (.int .i64 k3)).frozen? ⟨W.heap.size + 1, 2, none⟩ = false := frz_of qa0 2
        try have qa0c3 : (((((u1.setCell ⟨W.heap.size, 0, none⟩ (.string ⟨(nmT op).toArray⟩)).setCell ⟨W.heap.size, 1, none⟩ (.int .i64 k0)).setCell ⟨W.heap.size, 2, none⟩ (.int .i64 k1)).setCell ⟨W.heap.size, 3, none⟩ (.int .i64 k2)).setCell ⟨W.heap.size, 4, none⟩ (.int .i64 k3)).cell? ⟨W.heap.size + 1, 3, none⟩ = some (.int .i64 0) := cellAtM qa0 3
        try have qa0f3 : (((((u1.setCell ⟨W.heap.size, 0, none⟩ (.string ⟨(nmT op).toArray⟩)).setCell ⟨W.heap.size, 1, none⟩ (.int .i64 k0)).setCell ⟨W.heap.size, 2, none⟩ (.int .i64 k1)).setCell ⟨W.heap.size, 3, none⟩ (.int .i64 k2)).setCell ⟨W.heap.size, 4, none⟩ (.int .i64 k3)).frozen? ⟨W.heap.size + 1, 3, none⟩ = false := frz_of qa0 3
        try have qa1 : BB (((((u1.setCell ⟨W.heap.size + 1, 0, none⟩ (.string ⟨(nmT op).toArray⟩)).setCell ⟨W.heap.size + 1, 1, none⟩ (.int .i64 k0)).setCell ⟨W.heap.size + 1, 2, none⟩ (.int .i64 k1)).setCell ⟨W.heap.size + 1, 3, none⟩ (.int .i64 k2)).setCell ⟨W.heap.size + 1, 4, none⟩ (.int .i64 k3)) (W.heap.size) := (setA_other (by omega) _ _ _ _ _).trans b0
        try have qa1c0 : (((((u1.setCell ⟨W.heap.size + 1, 0, none⟩ (.string ⟨(nmT op).toArray⟩)).setCell ⟨W.heap.size + 1, 1, none⟩ (.int .i64 k0)).setCell ⟨W.heap.size + 1, 2, none⟩ (.int .i64 k1)).setCell ⟨W.heap.size + 1, 3, none⟩ (.int .i64 k2)).setCell ⟨W.heap.size + 1, 4, none⟩ (.int .i64 k3)).cell? ⟨W.heap.size, 0, none⟩ = some (.int .i64 0) := cellAtM qa1 0
        try have qa1f0 : (((((u1.setCell ⟨W.heap.size + 1, 0, none⟩ (.string ⟨(nmT op).toArray⟩)).setCell ⟨W.heap.size + 1, 1, none⟩ (.int .i64 k0)).setCell ⟨W.heap.size + 1, 2, none⟩ (.int .i64 k1)).setCell ⟨W.heap.size + 1, 3, none⟩ (.int .i64 k2)).setCell ⟨W.heap.size + 1, 4, none⟩ (.int .i64 k3)).frozen? ⟨W.heap.size, 0, none⟩ = false := frz_of qa1 0
        try have qa1c1 : (((((u1.setCell ⟨W.heap.size + 1, 0, none⟩ (.string ⟨(nmT op).toArray⟩)).setCell ⟨W.heap.size + 1, 1, none⟩ (.int .i64 k0)).setCell ⟨W.heap.size + 1, 2, none⟩ (.int .i64 k1)).setCell ⟨W.heap.size + 1, 3, none⟩ (.int .i64 k2)).setCell ⟨W.heap.size + 1, 4, none⟩ (.int .i64 k3)).cell? ⟨W.heap.size, 1, none⟩ = some (.int .i64 0) := cellAtM qa1 1
        try have qa1f1 : (((((u1.setCell ⟨W.heap.size + 1, 0, none⟩ (.string ⟨(nmT op).toArray⟩)).setCell ⟨W.heap.size + 1, 1, none⟩ (.int .i64 k0)).setCell ⟨W.heap.size + 1, 2, none⟩ (.int .i64 k1)).setCell ⟨W.heap.size + 1, 3, none⟩ (.int .i64 k2)).setCell ⟨W.heap.size + 1, 4, none⟩ (.int .i64 k3)).frozen? ⟨W.heap.size, 1, none⟩ = false := frz_of qa1 1
        try have qa1c2 : (((((u1.setCell ⟨W.heap.size + 1, 0, none⟩ (.string ⟨(nmT op).toArray⟩)).setCell ⟨W.heap.size + 1, 1, none⟩ (.int .i64 k0)).setCell ⟨W.heap.size + 1, 2, none⟩ (.int .i64 k1)).setCell ⟨W.heap.size + 1, 3, none⟩ (.int .i64 k2)).setCell ⟨W.heap.size + 1, 4, none⟩ (.int .i64 k3)).cell? ⟨W.heap.size, 2, none⟩ = some (.int .i64 0) := cellAtM qa1 2
        try have qa1f2 : (((((u1.setCell ⟨W.heap.size + 1, 0, none⟩ (.string ⟨(nmT op).toArray⟩)).setCell ⟨W.heap.size + 1, 1, none⟩ (.int .i64 k0)).setCell ⟨W.heap.size + 1, 2, none⟩ (.int .i64 k1)).setCell ⟨W.heap.size + 1, 3, none⟩ (.int .i64 k2)).setCell ⟨W.heap.size + 1, 4, none⟩ (.int .i64 k3)).frozen? ⟨W.heap.size, 2, none⟩ = false := frz_of qa1 2
        try have qa1c3 : (((((u1.setCell ⟨W.heap.size + 1, 0, none⟩ (.string ⟨(nmT op).toArray⟩)).setCell ⟨W.heap.size + 1, 1, none⟩ (.int .i64 k0)).setCell ⟨W.heap.size + 1, 2, none⟩ (.int .i64 k1)).setCell ⟨W.heap.size + 1, 3, none⟩ (.int .i64 k2)).setCell ⟨W.heap.size + 1, 4, none⟩ (.int .i64 k3)).cell? ⟨W.heap.size, 3, none⟩ = some (.int .i64 0) := cellAtM qa1 3
        try have qa1f3 : (((((u1.setCell ⟨W.heap.size + 1, 0, none⟩ (.string ⟨(nmT op).toArray⟩)).setCell ⟨W.heap.size + 1, 1, none⟩ (.int .i64 k0)).setCell ⟨W.heap.size + 1, 2, none⟩ (.int .i64 k1)).setCell ⟨W.heap.size + 1, 3, none⟩ (.int .i64 k2)).setCell ⟨W.heap.size + 1, 4, none⟩ (.int .i64 k3)).frozen? ⟨W.heap.size, 3, none⟩ = false := frz_of qa1 3
        try have a0o : (u1.alloc (.cells #[.int .i64 0, .int .i64 0, .int .i64 0, .int .i64 0] 91)).heap[W.heap.size]? = u1.heap[W.heap.size]? := Below.heap_alloc _ _ _ a0l
        try have a0d0 : (u1.alloc (.cells #[.int .i64 0, .int .i64 0, .int .i64 0, .int .i64 0] 91)).cell? ⟨W.heap.size, 0, none⟩ = some (.string ⟨#[]⟩) := cellAtM (a0o.trans a0) 0
        try have a0g0 : (u1.alloc (.cells #[.int .i64 0, .int .i64 0, .int .i64 0, .int .i64 0] 91)).frozen? ⟨W.heap.size, 0, none⟩ = false := frz_of (a0o.trans a0) 0
        try have a0d1 : (u1.alloc (.cells #[.int .i64 0, .int .i64 0, .int .i64 0, .int .i64 0] 91)).cell? ⟨W.heap.size, 1, none⟩ = some (.int .i64 0) := cellAtM (a0o.trans a0) 1
        try have a0g1 : (u1.alloc (.cells #[.int .i64 0, .int .i64 0, .int .i64 0, .int .i64 0] 91)).frozen? ⟨W.heap.size, 1, none⟩ = false := frz_of (a0o.trans a0) 1
        try have a0d2 : (u1.alloc (.cells #[.int .i64 0, .int .i64 0, .int .i64 0, .int .i64 0] 91)).cell? ⟨W.heap.size, 2, none⟩ = some (.int .i64 0) := cellAtM (a0o.trans a0) 2
        try have a0g2 : (u1.alloc (.cells #[.int .i64 0, .int .i64 0, .int .i64 0, .int .i64 0] 91)).frozen? ⟨W.heap.size, 2, none⟩ = false := frz_of (a0o.trans a0) 2
        try have a0d3 : (u1.alloc (.cells #[.int .i64 0, .int .i64 0, .int .i64 0, .int .i64 0] 91)).cell? ⟨W.heap.size, 3, none⟩ = some (.int .i64 0) := cellAtM (a0o.trans a0) 3
        try have a0g3 : (u1.alloc (.cells #[.int .i64 0, .int .i64 0, .int .i64 0, .int .i64 0] 91)).frozen? ⟨W.heap.size, 3, none⟩ = false := frz_of (a0o.trans a0) 3
        try have a0d4 : (u1.alloc (.cells #[.int .i64 0, .int .i64 0, .int .i64 0, .int .i64 0] 91)).cell? ⟨W.heap.size, 4, none⟩ = some (.int .i64 0) := cellAtM (a0o.trans a0) 4
        try have a0g4 : (u1.alloc (.cells #[.int .i64 0, .int .i64 0, .int .i64 0, .int .i64 0] 91)).frozen? ⟨W.heap.size, 4, none⟩ = false := frz_of (a0o.trans a0) 4
        try have b0o : (u1.alloc (.cells #[.string ⟨(nmT op).toArray⟩, .int .i64 k0, .int .i64 k1, .int .i64 k2, .int .i64 k3] 96)).heap[W.heap.size]? = u1.heap[W.heap.size]? := Below.heap_alloc _ _ _ b0l
        try have b0d0 : (u1.alloc (.cells #[.string ⟨(nmT op).toArray⟩, .int .i64 k0, .int .i64 k1, .int .i64 k2, .int .i64 k3] 96)).cell? ⟨W.heap.size, 0, none⟩ = some (.int .i64 0) := cellAtM (b0o.trans b0) 0
        try have b0g0 : (u1.alloc (.cells #[.string ⟨(nmT op).toArray⟩, .int .i64 k0, .int .i64 k1, .int .i64 k2, .int .i64 k3] 96)).frozen? ⟨W.heap.size, 0, none⟩ = false := frz_of (b0o.trans b0) 0
        try have b0d1 : (u1.alloc (.cells #[.string ⟨(nmT op).toArray⟩, .int .i64 k0, .int .i64 k1, .int .i64 k2, .int .i64 k3] 96)).cell? ⟨W.heap.size, 1, none⟩ = some (.int .i64 0) := cellAtM (b0o.trans b0) 1
        try have b0g1 : (u1.alloc (.cells #[.string ⟨(nmT op).toArray⟩, .int .i64 k0, .int .i64 k1, .int .i64 k2, .int .i64 k3] 96)).frozen? ⟨W.heap.size, 1, none⟩ = false := frz_of (b0o.trans b0) 1
        try have b0d2 : (u1.alloc (.cells #[.string ⟨(nmT op).toArray⟩, .int .i64 k0, .int .i64 k1, .int .i64 k2, .int .i64 k3] 96)).cell? ⟨W.heap.size, 2, none⟩ = some (.int .i64 0) := cellAtM (b0o.trans b0) 2
        try have b0g2 : (u1.alloc (.cells #[.string ⟨(nmT op).toArray⟩, .int .i64 k0, .int .i64 k1, .int .i64 k2, .int .i64 k3] 96)).frozen? ⟨W.heap.size, 2, none⟩ = false := frz_of (b0o.trans b0) 2
        try have b0d3 : (u1.alloc (.cells #[.string ⟨(nmT op).toArray⟩, .int .i64 k0, .int .i64 k1, .int .i64 k2, .int .i64 k3] 96)).cell? ⟨W.heap.size, 3, none⟩ = some (.int .i64 0) := cellAtM (b0o.trans b0) 3
        try have b0g3 : (u1.alloc (.cells #[.string ⟨(nmT op).toArray⟩, .int .i64 k0, .int .i64 k1, .int .i64 k2, .int .i64 k3] 96)).frozen? ⟨W.heap.size, 3, none⟩ = false := frz_of (b0o.trans b0) 3))
    all_goals
      go_wp2_with fail
      go_meet
      case rel =>
        refine ⟨_, _, rfl, rfl, Lib.hid ?_⟩
        first
        | with_reducible exact fx1 hU1
        | with_reducible exact fx1' hU1
        | with_reducible exact fx2 hU1 a0 (Nat.le_refl _)
        | with_reducible exact fx2' hU1 b0 (Nat.le_refl _)
        | with_reducible exact fx3 hU1 a0 b1 (by omega) (Nat.le_refl _) (by omega)
        | with_reducible exact fx3 hU1 a1 b0 (by omega) (by omega) (Nat.le_refl _)
  case rest =>
    obtain ⟨g4, g5, rfl, rfl, HFX⟩ := hcut
    have hbel := HFX.out.bel
    have HIC := Lib.hid (isB_kept HI.out (Lib.grownBy_below (grown_refl W) hbel))
    have n0 : wc.cell? ⟨g4, 0, none⟩ = some (.string ⟨(nmT op).toArray⟩) := cellAtM HFX.out.hA 0
    have HBC : Hid (Below B w wc) := (HB.out.trans (Below.mono hbel HB.out.size)).mono hBw
    have HKC : Hid (Lib.OthersKept 5 (some b) w wc) := kept_below (HB.out.trans (Below.mono hbel HB.out.size))
    have hzc := HBC.out.size
    have HA4 : Hid (b ≠ g4) := fun e => by
      subst e
      have h9 := HFX.out.hA
      rcases HIC.out with ⟨_, v, hb, _⟩ | ⟨_, v, hb, _⟩ <;> (rw [hb] at h9; cases h9)
    have HA5 : Hid (b ≠ g5) := fun e => by
      subst e
      have h9 := HFX.out.hB
      rcases HIC.out with ⟨_, v, hb, _⟩ | ⟨_, v, hb, _⟩ <;> (rw [hb] at h9; cases h9)
    have hnl := nmT_len op
    have HN0 : Hid (nmT op = insP x0 0) := by
      have : nmT op = insP x0 0 := by rw [insP, HOP.out, show ((op : Nat) : Int).toNat = op from by simp]
      exact this
    clear hbel hS0
    go_wp2_with fail
    refine (wStr B b bs (nmT op) wc HIC.out (by omega) (by omega) (by omega)).mono ?_
    rintro e w2 ⟨rfl, hi2, hb2, hk2⟩
    have HI2 : Hid (IsB B b (bs ++ insP x0 0) w2) := by
      have : IsB B b (bs ++ insP x0 0) w2 := by rw [← HN0.out]; exact hi2
      exact this
    have HB2 := Lib.hid (HBC.out.trans hb2)
    have HK2 := Lib.hid (HKC.out.trans hk2)
    have HG4 := Lib.hid (hk2 g4 _ HFX.out.hA (fun e => HA4.out (by cases e; rfl)) (fun cs fz e => by cases e))
    have HG5 := Lib.hid (hk2 g5 _ HFX.out.hB (fun e => HA5.out (by cases e; rfl)) (fun cs fz e => by cases e))
    have m1 : w2.cell? ⟨g4, 1, none⟩ = some (.int .i64 k0) := cellAtM HG4.out 1
    have m2 : w2.cell? ⟨g4, 1 + 1, none⟩ = some (.int .i64 k1) := cellAtM HG4.out 2
    have m3 : w2.cell? ⟨g4, 1 + 2, none⟩ = some (.int .i64 k2) := cellAtM HG4.out 3
    have m4 : w2.cell? ⟨g4, 1 + 3, none⟩ = some (.int .i64 k3) := cellAtM HG4.out 4
    clear hi2 hb2 hk2 n0
    go_wp2_with fail
    clear m1 m2 m3 m4 HG4
    have HPR : Hid (x0.part 0 = fa ∧ x0.part 1 = fb ∧ x0.part 2 = fc ∧ x0.part 3 = fd) := by
      have : x0.part 0 = fa ∧ x0.part 1 = fb ∧ x0.part 2 = fc ∧ x0.part 3 = fd := by rw [HX.out]; exact ⟨rfl, rfl, rfl, rfl⟩
      exact this
    go_loopw [20] (fun i wr => ∃ j : Nat, j ≤ 4 ∧ i = .int .i64 j ∧ Hid (IsB B b (bs ++ insP x0 j) wr) ∧ Below B w wr ∧ Hid (Lib.OthersKept 5 (some b) w wr) ∧ Hid (wr.heap[g5]? = some (.cells #[.int .i64 fa, .int .i64 fb, .int .i64 fc, .int .i64 fd] 91 (0, 0)))) (fun i _ => 4 - (intOf i).toNat)
    case atStart => exact ⟨0, by omega, rfl, HI2, HB2.out, HK2, HG5⟩
    case round =>
      obtain ⟨j, hj, rfl, HIR, hb, HKR, HGR⟩ := hrel
      have HBR := Lib.hid hb
      have hlj := HLEN.out j hj
      have hzr := HBR.out.size
      clear hb
      by_cases hlt : j < 4
      · obtain rfl | rfl | rfl | rfl : j = 0 ∨ j = 1 ∨ j = 2 ∨ j = 3 := by omega
        · have hix := fun v => ix4_0 (k0 : Int) (k1 : Int) (k2 : Int) (k3 : Int) v
          rw [show ((0 : Nat) : Int) = 0 from rfl]
          have hpb := HPP.out 0 (by omega)
          rw [HPR.out.1] at hpb
          obtain ⟨v, hv⟩ : ∃ v : Nat, fa = v := ⟨fa.toNat, by omega⟩
          have hl0 : (bs ++ insP x0 0).length ≤ 1000000 := by rw [List.length_append]; omega
          by_cases hk0 : k0 = 0
          · have HE : Hid (insP x0 (0 + 1) = insP x0 0) := by
              have : insP x0 (0 + 1) = insP x0 0 := by
                show insP x0 0 ++ fldT x0 0 = _
                rw [fldT, HOP.out, show ((op : Nat) : Int).toNat = op from by simp, HKD.out.1, if_pos hk0, List.append_nil]
              exact this
            have hkb : ((k0 : Int) != 0) = false := by simpa using hk0
            have HI5 : Hid (IsB B b (bs ++ insP x0 (0 + 1)) wr) := by
              have : IsB B b (bs ++ insP x0 (0 + 1)) wr := by rw [HE.out]; exact HIR.out
              exact this
            clear hk0 hv hpb
            go_wp2_with fail
            go_roundw
            case rel => exact ⟨0 + 1, by omega, by go_num, HI5, HBR.out, HKR, HGR⟩
            case measure => simp [intOf]
          · have HE : Hid (insP x0 (0 + 1) = insP x0 0 ++ (32 :: Lib.decDigits v)) := by
              have : insP x0 (0 + 1) = insP x0 0 ++ (32 :: Lib.decDigits v) := by
                show insP x0 0 ++ fldT x0 0 = _
                rw [fldT, HOP.out, show ((op : Nat) : Int).toNat = op from by simp, HKD.out.1, if_neg hk0, HPR.out.1, hv]
                simp
              exact this
            have hkb : ((k0 : Int) != 0) = true := by simpa using hk0
            have hv4 : v ≤ 400 := by omega
            have HVF := Lib.hid hv
            obtain ⟨dd, hdd⟩ : ∃ dd, Lib.decDigits v = dd := ⟨_, rfl⟩
            have hdl := dec_len400 v hv4
            rw [hdd] at HE hdl
            have HDD := Lib.hid hdd
            clear hk0 hv hpb hdd
            go_wp2_with fail
            refine (wByte B b _ 32 _ HIR.out hl0 (by omega)).mono ?_
            rintro e w3 ⟨rfl, hi3, hb3, hk3⟩
            have HI3 := Lib.hid hi3
            have HB3 := Lib.hid (HBR.out.trans hb3)
            have HK3 := Lib.hid (HKR.out.trans hk3)
            have HG3 := Lib.hid (hk3 g5 _ HGR.out (fun e => HA5.out (by cases e; rfl)) (fun cs fz e => by cases e))
            have r0 : w3.cell? ⟨g5, 0, none⟩ = some (.int .i64 (v : Int)) := by
              have := cellAtM HG3.out 0
              rw [this]
              show some (Value.int .i64 fa) = _
              rw [HVF.out]
            have hz3 := HB3.out.size
            clear hi3 hb3 hk3
            go_wp2_with fail
            refine (Tryd.strconv_Itoa (v : Int) (by omega) (by omega) w3 (HPT.out w3 HB3.out).1).mono ?_
            rintro e W4' ⟨rfl, kk, os, rfl⟩
            have hb4 := Lib.below_grow w3.heap.size w3 (Nat.le_refl _) kk os
            obtain ⟨W4, hW4⟩ : ∃ W4, Sort.grow (w3.drewN kk) os = W4 := ⟨_, rfl⟩
            rw [hW4] at hb4 ⊢
            rw [Lib.itoa_nonneg v, HDD.out]
            have HI4 := Lib.hid (isB_kept HI3.out (Lib.grownBy_below (grown_refl w3) hb4))
            have HB4 := Lib.hid (HB3.out.trans (hb4.mono (by omega)))
            have HK4 := Lib.hid (HK3.out.trans (kept_below (b := b) hb4))
            have HG4 := Lib.hid ((hb4.block g5 (Array.getElem?_eq_some_iff.1 HG3.out).1).trans HG3.out)
            have hz4 := HB4.out.size
            have hl4 : (bs ++ insP x0 0 ++ [32]).length ≤ 1000000 := by rw [List.length_append, List.length_append]; simp; omega
            clear hW4 hb4 r0
            go_wp2_with fail
            refine (wStr B b _ dd W4 HI4.out hl4 (by omega) (by omega)).mono ?_
            rintro e w5 ⟨rfl, hi5, hb5, hk5⟩
            have HI5 : Hid (IsB B b (bs ++ insP x0 (0 + 1)) w5) := by
              have : IsB B b (bs ++ insP x0 (0 + 1)) w5 := by
                rw [HE.out]
                have e9 : bs ++ (insP x0 0 ++ 32 :: dd) = bs ++ insP x0 0 ++ [32] ++ dd := by simp
                rw [e9]
                exact hi5
              exact this
            have HB5 := Lib.hid (HB4.out.trans hb5)
            have HK5 := Lib.hid (HK4.out.trans hk5)
            have HG5' := Lib.hid (hk5 g5 _ HG4.out (fun e => HA5.out (by cases e; rfl)) (fun cs fz e => by cases e))
            clear hi5 hb5 hk5
            go_wp2_with fail
            go_roundw
            case rel => exact ⟨0 + 1, by omega, by go_num, HI5, HB5.out, HK5, HG5'⟩
            case measure => simp [intOf]
        · have hix := fun v => ix4_1 (k0 : Int) (k1 : Int) (k2 : Int) (k3 : Int) v
          rw [show ((1 : Nat) : Int) = 1 from rfl]
          have hpb := HPP.out 1 (by omega)
          rw [HPR.out.2.1] at hpb
          obtain ⟨v, hv⟩ : ∃ v : Nat, fb = v := ⟨fb.toNat, by omega⟩
          have hl0 : (bs ++ insP x0 1).length ≤ 1000000 := by rw [List.length_append]; omega
          by_cases hk0 : k1 = 0
          · have HE : Hid (insP x0 (1 + 1) = insP x0 1) := by
              have : insP x0 (1 + 1) = insP x0 1 := by
                show insP x0 1 ++ fldT x0 1 = _
                rw [fldT, HOP.out, show ((op : Nat) : Int).toNat = op from by simp, HKD.out.2.1, if_pos hk0, List.append_nil]
              exact this
            have hkb : ((k1 : Int) != 0) = false := by simpa using hk0
            have HI5 : Hid (IsB B b (bs ++ insP x0 (1 + 1)) wr) := by
              have : IsB B b (bs ++ insP x0 (1 + 1)) wr := by rw [HE.out]; exact HIR.out
              exact this
            clear hk0 hv hpb
            go_wp2_with fail
            go_roundw
            case rel => exact ⟨1 + 1, by omega, by go_num, HI5, HBR.out, HKR, HGR⟩
            case measure => simp [intOf]
          · have HE : Hid (insP x0 (1 + 1) = insP x0 1 ++ (32 :: Lib.decDigits v)) := by
              have : insP x0 (1 + 1) = insP x0 1 ++ (32 :: Lib.decDigits v) := by
                show insP x0 1 ++ fldT x0 1 = _
                rw [fldT, HOP.out, show ((op : Nat) : Int).toNat = op from by simp, HKD.out.2.1, if_neg hk0, HPR.out.2.1, hv]
                simp
              exact this
            have hkb : ((k1 : Int) != 0) = true := by simpa using hk0
            have hv4 : v ≤ 400 := by omega
            have HVF := Lib.hid hv
            obtain ⟨dd, hdd⟩ : ∃ dd, Lib.decDigits v = dd := ⟨_, rfl⟩
            have hdl := dec_len400 v hv4
            rw [hdd] at HE hdl
            have HDD := Lib.hid hdd
            clear hk0 hv hpb hdd
            go_wp2_with fail
            refine (wByte B b _ 32 _ HIR.out hl0 (by omega)).mono ?_
            rintro e w3 ⟨rfl, hi3, hb3, hk3⟩
            have HI3 := Lib.hid hi3
            have HB3 := Lib.hid (HBR.out.trans hb3)
            have HK3 := Lib.hid (HKR.out.trans hk3)
            have HG3 := Lib.hid (hk3 g5 _ HGR.out (fun e => HA5.out (by cases e; rfl)) (fun cs fz e => by cases e))
            have r0 : w3.cell? ⟨g5, 1, none⟩ = some (.int .i64 (v : Int)) := by
              have := cellAtM HG3.out 1
              rw [this]
              show some (Value.int .i64 fb) = _
              rw [HVF.out]
            have hz3 := HB3.out.size
            clear hi3 hb3 hk3
            go_wp2_with fail
            refine (Tryd.strconv_Itoa (v : Int) (by omega) (by omega) w3 (HPT.out w3 HB3.out).1).mono ?_
            rintro e W4' ⟨rfl, kk, os, rfl⟩
            have hb4 := Lib.below_grow w3.heap.size w3 (Nat.le_refl _) kk os
            obtain ⟨W4, hW4⟩ : ∃ W4, Sort.grow (w3.drewN kk) os = W4 := ⟨_, rfl⟩
            rw [hW4] at hb4 ⊢
            rw [Lib.itoa_nonneg v, HDD.out]
            have HI4 := Lib.hid (isB_kept HI3.out (Lib.grownBy_below (grown_refl w3) hb4))
            have HB4 := Lib.hid (HB3.out.trans (hb4.mono (by omega)))
            have HK4 := Lib.hid (HK3.out.trans (kept_below (b := b) hb4))
            have HG4 := Lib.hid ((hb4.block g5 (Array.getElem?_eq_some_iff.1 HG3.out).1).trans HG3.out)
            have hz4 := HB4.out.size
            have hl4 : (bs ++ insP x0 1 ++ [32]).length ≤ 1000000 := by rw [List.length_append, List.length_append]; simp; omega
            clear hW4 hb4 r0
            go_wp2_with fail
            refine (wStr B b _ dd W4 HI4.out hl4 (by omega) (by omega)).mono ?_
            rintro e w5 ⟨rfl, hi5, hb5, hk5⟩
            have HI5 : Hid (IsB B b (bs ++ insP x0 (1 + 1)) w5) := by
              have : IsB B b (bs ++ insP x0 (1 + 1)) w5 := by
                rw [HE.out]
                have e9 : bs ++ (insP x0 1 ++ 32 :: dd) = bs ++ insP x0 1 ++ [32] ++ dd := by simp
                rw [e9]
                exact hi5
              exact this
            have HB5 := Lib.hid (HB4.out.trans hb5)
            have HK5 := Lib.hid (HK4.out.trans hk5)
            have HG5' := Lib.hid (hk5 g5 _ HG4.out (fun e => HA5.out (by cases e; rfl)) (fun cs fz e => by cases e))
            clear hi5 hb5 hk5
            go_wp2_with fail
            go_roundw
            case rel => exact ⟨1 + 1, by omega, by go_num, HI5, HB5.out, HK5, HG5'⟩
            case measure => simp [intOf]
        · have hix := fun v => ix4_2 (k0 : Int) (k1 : Int) (k2 : Int) (k3 : Int) v
          rw [show ((2 : Nat) : Int) = 2 from rfl]
          have hpb := HPP.out 2 (by omega)
          rw [HPR.out.2.2.1] at hpb
          obtain ⟨v, hv⟩ : ∃ v : Nat, fc = v := ⟨fc.toNat, by omega⟩
          have hl0 : (bs ++ insP x0 2).length ≤ 1000000 := by rw [List.length_append]; omega
          by_cases hk0 : k2 = 0
          · have HE : Hid (insP x0 (2 + 1) = insP x0 2) := by
              have : insP x0 (2 + 1) = insP x0 2 := by
                show insP x0 2 ++ fldT x0 2 = _
                rw [fldT, HOP.out, show ((op : Nat) : Int).toNat = op from by simp, HKD.out.2.2.1, if_pos hk0, List.append_nil]
              exact this
            have hkb : ((k2 : Int) != 0) = false := by simpa using hk0
            have HI5 : Hid (IsB B b (bs ++ insP x0 (2 + 1)) wr) := by
              have : IsB B b (bs ++ insP x0 (2 + 1)) wr := by rw [HE.out]; exact HIR.out
              exact this
            clear hk0 hv hpb
            go_wp2_with fail
            go_roundw
            case rel => exact ⟨2 + 1, by omega, by go_num, HI5, HBR.out, HKR, HGR⟩
            case measure => simp [intOf]
          · have HE : Hid (insP x0 (2 + 1) = insP x0 2 ++ (32 :: Lib.decDigits v)) := by
              have : insP x0 (2 + 1) = insP x0 2 ++ (32 :: Lib.decDigits v) := by
                show insP x0 2 ++ fldT x0 2 = _
                rw [fldT, HOP.out, show ((op : Nat) : Int).toNat = op from by simp, HKD.out.2.2.1, if_neg hk0, HPR.out.2.2.1, hv]
                simp
              exact this
            have hkb : ((k2 : Int) != 0) = true := by simpa using hk0
            have hv4 : v ≤ 400 := by omega
            have HVF := Lib.hid hv
            obtain ⟨dd, hdd⟩ : ∃ dd, Lib.decDigits v = dd := ⟨_, rfl⟩
            have hdl := dec_len400 v hv4
            rw [hdd] at HE hdl
            have HDD := Lib.hid hdd
            clear hk0 hv hpb hdd
            go_wp2_with fail
            refine (wByte B b _ 32 _ HIR.out hl0 (by omega)).mono ?_
            rintro e w3 ⟨rfl, hi3, hb3, hk3⟩
            have HI3 := Lib.hid hi3
            have HB3 := Lib.hid (HBR.out.trans hb3)
            have HK3 := Lib.hid (HKR.out.trans hk3)
            have HG3 := Lib.hid (hk3 g5 _ HGR.out (fun e => HA5.out (by cases e; rfl)) (fun cs fz e => by cases e))
            have r0 : w3.cell? ⟨g5, 2, none⟩ = some (.int .i64 (v : Int)) := by
              have := cellAtM HG3.out 2
              rw [this]
              show some (Value.int .i64 fc) = _
              rw [HVF.out]
            have hz3 := HB3.out.size
            clear hi3 hb3 hk3
            go_wp2_with fail
            refine (Tryd.strconv_Itoa (v : Int) (by omega) (by omega) w3 (HPT.out w3 HB3.out).1).mono ?_
            rintro e W4' ⟨rfl, kk, os, rfl⟩
            have hb4 := Lib.below_grow w3.heap.size w3 (Nat.le_refl _) kk os
            obtain ⟨W4, hW4⟩ : ∃ W4, Sort.grow (w3.drewN kk) os = W4 := ⟨_, rfl⟩
            rw [hW4] at hb4 ⊢
            rw [Lib.itoa_nonneg v, HDD.out]
            have HI4 := Lib.hid (isB_kept HI3.out (Lib.grownBy_below (grown_refl w3) hb4))
            have HB4 := Lib.hid (HB3.out.trans (hb4.mono (by omega)))
            have HK4 := Lib.hid (HK3.out.trans (kept_below (b := b) hb4))
            have HG4 := Lib.hid ((hb4.block g5 (Array.getElem?_eq_some_iff.1 HG3.out).1).trans HG3.out)
            have hz4 := HB4.out.size
            have hl4 : (bs ++ insP x0 2 ++ [32]).length ≤ 1000000 := by rw [List.length_append, List.length_append]; simp; omega
            clear hW4 hb4 r0
            go_wp2_with fail
            refine (wStr B b _ dd W4 HI4.out hl4 (by omega) (by omega)).mono ?_
            rintro e w5 ⟨rfl, hi5, hb5, hk5⟩
            have HI5 : Hid (IsB B b (bs ++ insP x0 (2 + 1)) w5) := by
              have : IsB B b (bs ++ insP x0 (2 + 1)) w5 := by
                rw [HE.out]
                have e9 : bs ++ (insP x0 2 ++ 32 :: dd) = bs ++ insP x0 2 ++ [32] ++ dd := by simp
                rw [e9]
                exact hi5
              exact this
            have HB5 := Lib.hid (HB4.out.trans hb5)
            have HK5 := Lib.hid (HK4.out.trans hk5)
            have HG5' := Lib.hid (hk5 g5 _ HG4.out (fun e => HA5.out (by cases e; rfl)) (fun cs fz e => by cases e))
            clear hi5 hb5 hk5
            go_wp2_with fail
            go_roundw
            case rel => exact ⟨2 + 1, by omega, by go_num, HI5, HB5.out, HK5, HG5'⟩
            case measure => simp [intOf]
        · have hix := fun v => ix4_3 (k0 : Int) (k1 : Int) (k2 : Int) (k3 : Int) v
          rw [show ((3 : Nat) : Int) = 3 from rfl]
          have hpb := HPP.out 3 (by omega)
          rw [HPR.out.2.2.2] at hpb
          obtain ⟨v, hv⟩ : ∃ v : Nat, fd = v := ⟨fd.toNat, by omega⟩
          have hl0 : (bs ++ insP x0 3).length ≤ 1000000 := by rw [List.length_append]; omega
          by_cases hk0 : k3 = 0
          · have HE : Hid (insP x0 (3 + 1) = insP x0 3) := by
              have : insP x0 (3 + 1) = insP x0 3 := by
                show insP x0 3 ++ fldT x0 3 = _
                rw [fldT, HOP.out, show ((op : Nat) : Int).toNat = op from by simp, HKD.out.2.2.2, if_pos hk0, List.append_nil]
              exact this
            have hkb : ((k3 : Int) != 0) = false := by simpa using hk0
            have HI5 : Hid (IsB B b (bs ++ insP x0 (3 + 1)) wr) := by
              have : IsB B b (bs ++ insP x0 (3 + 1)) wr := by rw [HE.out]; exact HIR.out
              exact this
            clear hk0 hv hpb
            go_wp2_with fail
            go_roundw
            case rel => exact ⟨3 + 1, by omega, by go_num, HI5, HBR.out, HKR, HGR⟩
            case measure => simp [intOf]
          · have HE : Hid (insP x0 (3 + 1) = insP x0 3 ++ (32 :: Lib.decDigits v)) := by
              have : insP x0 (3 + 1) = insP x0 3 ++ (32 :: Lib.decDigits v) := by
                show insP x0 3 ++ fldT x0 3 = _
                rw [fldT, HOP.out, show ((op : Nat) : Int).toNat = op from by simp, HKD.out.2.2.2, if_neg hk0, HPR.out.2.2.2, hv]
                simp
              exact this
            have hkb : ((k3 : Int) != 0) = true := by simpa using hk0
            have hv4 : v ≤ 400 := by omega
            have HVF := Lib.hid hv
            obtain ⟨dd, hdd⟩ : ∃ dd, Lib.decDigits v = dd := ⟨_, rfl⟩
            have hdl := dec_len400 v hv4
            rw [hdd] at HE hdl
            have HDD := Lib.hid hdd
            clear hk0 hv hpb hdd
            go_wp2_with fail
            refine (wByte B b _ 32 _ HIR.out hl0 (by omega)).mono ?_
            rintro e w3 ⟨rfl, hi3, hb3, hk3⟩
            have HI3 := Lib.hid hi3
            have HB3 := Lib.hid (HBR.out.trans hb3)
            have HK3 := Lib.hid (HKR.out.trans hk3)
            have HG3 := Lib.hid (hk3 g5 _ HGR.out (fun e => HA5.out (by cases e; rfl)) (fun cs fz e => by cases e))
            have r0 : w3.cell? ⟨g5, 3, none⟩ = some (.int .i64 (v : Int)) := by
              have := cellAtM HG3.out 3
              rw [this]
              show some (Value.int .i64 fd) = _
              rw [HVF.out]
            have hz3 := HB3.out.size
            clear hi3 hb3 hk3
            go_wp2_with fail
            refine (Tryd.strconv_Itoa (v : Int) (by omega) (by omega) w3 (HPT.out w3 HB3.out).1).mono ?_
            rintro e W4' ⟨rfl, kk, os, rfl⟩
            have hb4 := Lib.below_grow w3.heap.size w3 (Nat.le_refl _) kk os
            obtain ⟨W4, hW4⟩ : ∃ W4, Sort.grow (w3.drewN kk) os = W4 := ⟨_, rfl⟩
            rw [hW4] at hb4 ⊢
            rw [Lib.itoa_nonneg v, HDD.out]
            have HI4 := Lib.hid (isB_kept HI3.out (Lib.grownBy_below (grown_refl w3) hb4))
            have HB4 := Lib.hid (HB3.out.trans (hb4.mono (by omega)))
            have HK4 := Lib.hid (HK3.out.trans (kept_below (b := b) hb4))
            have HG4 := Lib.hid ((hb4.block g5 (Array.getElem?_eq_some_iff.1 HG3.out).1).trans HG3.out)
            have hz4 := HB4.out.size
            have hl4 : (bs ++ insP x0 3 ++ [32]).length ≤ 1000000 := by rw [List.length_append, List.length_append]; simp; omega
            clear hW4 hb4 r0
            go_wp2_with fail
            refine (wStr B b _ dd W4 HI4.out hl4 (by omega) (by omega)).mono ?_
            rintro e w5 ⟨rfl, hi5, hb5, hk5⟩
            have HI5 : Hid (IsB B b (bs ++ insP x0 (3 + 1)) w5) := by
              have : IsB B b (bs ++ insP x0 (3 + 1)) w5 := by
                rw [HE.out]
                have e9 : bs ++ (insP x0 3 ++ 32 :: dd) = bs ++ insP x0 3 ++ [32] ++ dd := by simp
                rw [e9]
                exact hi5
              exact this
            have HB5 := Lib.hid (HB4.out.trans hb5)
            have HK5 := Lib.hid (HK4.out.trans hk5)
            have HG5' := Lib.hid (hk5 g5 _ HG4.out (fun e => HA5.out (by cases e; rfl)) (fun cs fz e => by cases e))
            clear hi5 hb5 hk5
            go_wp2_with fail
            go_roundw
            case rel => exact ⟨3 + 1, by omega, by go_num, HI5, HB5.out, HK5, HG5'⟩
            case measure => simp [intOf]
      · obtain rfl : j = 4 := by omega
        have hl4 : (bs ++ insP x0 4).length ≤ 1000000 := by rw [List.length_append]; omega
        go_wp2_with fail
        refine (wByte B b _ 10 _ HIR.out hl4 (by omega)).mono ?_
        rintro e w3 ⟨rfl, hi3, hb3, hk3⟩
        have HI3 : Hid (IsB B b (bs ++ insT ⟨op, fa, fb, fc, fd⟩) w3) := by
          have : IsB B b (bs ++ insT ⟨op, fa, fb, fc, fd⟩) w3 := by rw [HXE.out, insT, ← List.append_assoc]; exact hi3
          exact this
        have HB3 := Lib.hid (HBR.out.trans hb3)
        have HK3 := Lib.hid (HKR.out.trans hk3)
        clear hi3 hb3 hk3
        go_wp2_with fail
        go_end0
        exact ⟨rfl, HI3.out, HB3.out, HK3.out⟩

end Go.Proofs.YtleomemalgfmoaaDoor


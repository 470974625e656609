/- writeExpr of the program at every valid expression down to five levels, and FormatExpr of the program. Condition: the tables lie as the program's text lays them. -/
import Derived.Test.YtomgnnhbabnckaaDoorWrJ
import Derived.Test.YtomgnnhbabnckaaDoorSpF
namespace Go.Proofs.YtomgnnhbabnckaaDoor
open Go.RowKit Go.Shelf
set_option linter.unusedVariables false

/-- A box stands where a builder is written. -/
theorem box_facts {w : World} {kd vl : Int} {a : Option Addr} {m cap : Nat} :
    ∀ v', Below (w.alloc (.cells #[.int .i64 kd, .int .i64 vl, .slice a m cap] 29)).heap.size (w.alloc (.cells #[.int .i64 kd, .int .i64 vl, .slice a m cap] 29)) v' →
      v'.cell? ⟨w.heap.size, 0, none⟩ = some (.int .i64 kd) ∧ v'.cell? ⟨w.heap.size, 1, none⟩ = some (.int .i64 vl) ∧ v'.cell? ⟨w.heap.size, 2, none⟩ = some (.slice a m cap) := fun v' hv' => by
  have hrow := heap_alloc_new w (.cells #[.int .i64 kd, .int .i64 vl, .slice a m cap] 29)
  have hlt : w.heap.size < (w.alloc (.cells #[.int .i64 kd, .int .i64 vl, .slice a m cap] 29)).heap.size := by simp
  have k0 : ∀ j, v'.cell? ⟨w.heap.size, j, none⟩ = (w.alloc (.cells #[.int .i64 kd, .int .i64 vl, .slice a m cap] 29)).cell? ⟨w.heap.size, j, none⟩ := fun j => hv'.cell (p := ⟨w.heap.size, j, none⟩) hlt
  exact ⟨by rw [k0, cell_of_row _ _ _ _ _ _ hrow]; rfl, by rw [k0, cell_of_row _ _ _ _ _ _ hrow]; rfl, by rw [k0, cell_of_row _ _ _ _ _ _ hrow]; rfl⟩

set_option maxRecDepth 100000 in
set_option maxHeartbeats 4000000 in
theorem wr_read (nv na d : Nat) (ih : SayW nv na d) (n v : Nat) (hv : v < 12) (x : E) (a : Option Addr) (cap : Nat) (D : Nat → Prop) (B b : Nat) (bs : List UInt8) (w : World)
    (hat : EsAt w D (IsE w D n) [x] a) (hl : ∀ k, D k → k < B) (hs : shapeB nv na d x = true) (h : IsB B b bs w) (hlen : bs.length + 24 * 4 ^ (d + 1) ≤ 1000000) (hT : TabW w) (hB : 5 ≤ B) :
    Calls Tryd.prog 41 #[.pointer (some ⟨b, 0, none⟩), .agg #[.int .i64 3, .int .i64 (v : Int), .slice a 1 cap]] w (Wr B b bs (UInt8.ofNat (80 + v) :: 91 :: (txE d x ++ [93])) w) := by
  obtain ⟨hBb, hbw⟩ := isB_lt h
  obtain ⟨bk, o, ax, cx, rfl, hDb, e0, e1, e2, hEx⟩ := kid_at hat 0 x rfl
  simp only [Nat.zero_mul, Nat.add_zero] at e0 e1 e2
  have hlb := hl bk hDb
  have hB0 : Below w.heap.size w (w.alloc (.cells #[.int .i64 3, .int .i64 (v : Int), .slice (some ⟨bk, o, none⟩) 1 cap] 29)) := (Below.refl _ w).alloc (Nat.le_refl _) _
  have hrow := heap_alloc_new w (.cells #[.int .i64 3, .int .i64 (v : Int), .slice (some ⟨bk, o, none⟩) 1 cap] 29)
  have HB0 := Lib.hid hB0
  have HK0 := Lib.hid (kept_below (b := b) hB0)
  have HI := Lib.hid (isB_kept h (World.grownBy_alloc w (.cells #[.int .i64 3, .int .i64 (v : Int), .slice (some ⟨bk, o, none⟩) 1 cap] 29) none))
  obtain ⟨W, hW⟩ : ∃ W, w.alloc (.cells #[.int .i64 3, .int .i64 (v : Int), .slice (some ⟨bk, o, none⟩) 1 cap] 29) = W := ⟨_, rfl⟩
  rw [hW] at hB0 HB0 HK0 HI hrow
  have HS : Hid (∀ v', Lib.OthersKept 5 (some b) W v' → Below B W v' → v'.cell? ⟨w.heap.size, 0, none⟩ = some (.int .i64 3) ∧ v'.cell? ⟨w.heap.size, 1, none⟩ = some (.int .i64 (v : Int)) ∧ v'.cell? ⟨w.heap.size, 2, none⟩ = some (.slice (some ⟨bk, o, none⟩) 1 cap) ∧ v'.cell? ⟨bk, o, none⟩ = some (.int .i64 x.kind) ∧ v'.cell? ⟨bk, o + 1, none⟩ = some (.int .i64 x.value) ∧ v'.cell? ⟨bk, o + 2, none⟩ = some (.slice ax x.kids.length cx)) := fun v' hk hv' => by
    have hr := hk _ _ hrow (fun e => by cases e; omega) (fun cs fz e => by cases e)
    have k1 : ∀ j, v'.cell? ⟨bk, j, none⟩ = w.cell? ⟨bk, j, none⟩ := fun j => (hv'.cell (p := ⟨bk, j, none⟩) hlb).trans (hB0.cell (p := ⟨bk, j, none⟩) (show bk < w.heap.size by omega))
    exact ⟨by rw [cell_of_row _ _ _ _ _ _ hr]; rfl, by rw [cell_of_row _ _ _ _ _ _ hr]; rfl, by rw [cell_of_row _ _ _ _ _ _ hr]; rfl, by rw [k1]; exact e0, by rw [k1]; exact e1, by rw [k1]; exact e2⟩
  have hz := hB0.size
  have HE := Lib.hid (hEx.later (Stand.of_below (hB0.mono (show B ≤ w.heap.size by omega)) hl))
  have HT := Lib.hid (hT.below hB0 hT.2.2)
  have HBD : Hid (Below W.heap.size W W.drew) := (Below.refl _ _).drew
  have HID : Hid (IsB B b bs W.drew) := isB_kept HI.out (Lib.grownBy_below (grown_refl W) HBD.out)
  have HED : Hid (IsE W.drew D n x [.int .i64 x.kind, .int .i64 x.value, .slice ax x.kids.length cx]) := HE.out.later fun _ _ => rfl
  have HTD : Hid (TabW W.drew) := HT.out.below HBD.out HT.out.2.2
  have IH := Lib.hid ih
  obtain ⟨p0, p1, p2, q0, q1, q2⟩ := HS.out W (Lib.OthersKept.refl _ _ _) (Below.refl _ _)
  have HWW := Lib.hid hW
  clear hat e0 e1 e2 hEx hB0 h hT ih hrow
  go_enter Tryd.func41, Tryd.ntmps41
  go_wp2_with fail
  clear hW
  go_region_held3 (fun v' => v'.cell? ⟨w.heap.size, 0, none⟩ = some (.int .i64 3) ∧ v'.cell? ⟨w.heap.size, 1, none⟩ = some (.int .i64 (v : Int)) ∧ v'.cell? ⟨w.heap.size, 2, none⟩ = some (.slice (some ⟨bk, o, none⟩) 1 cap) ∧ v'.cell? ⟨bk, o, none⟩ = some (.int .i64 x.kind) ∧ v'.cell? ⟨bk, o + 1, none⟩ = some (.int .i64 x.value) ∧ v'.cell? ⟨bk, o + 2, none⟩ = some (.slice ax x.kids.length cx)) (first | assumption | exact ⟨p0, p1, p2, q0, q1, q2⟩)
    (first
    | (go_at_call 72; (with_reducible refine (wElement nv na d IH.out n v hv x ax cx D B b bs W.drew HED.out hl hs HID.out hlen HTD.out hB).mono ?_); rintro f u0 ⟨rfl, h0, hA, hK⟩; have hS0 := HS.out u0 hK ((HBD.out.mono (show B ≤ W.heap.size by omega)).trans hA))
    | fail)
  all_goals
    have H5 := Lib.hid h0
    have HB5 : Hid (Below B w u0) := (HB0.out.mono (show B ≤ w.heap.size by omega)).trans ((HBD.out.mono (show B ≤ W.heap.size by omega)).trans hA)
    have HK5 := Lib.hid (HK0.out.trans hK)
    clear h0 hA hK hS0
    go_wp2_with fail
    go_end0
    exact ⟨rfl, H5.out, HB5.out, HK5.out⟩

set_option maxRecDepth 100000 in
set_option maxHeartbeats 4000000 in
theorem wr_sel (nv na d : Nat) (ih : SayW nv na d) (n : Nat) (x y z : E) (a : Option Addr) (cap : Nat) (D : Nat → Prop) (B b : Nat) (bs : List UInt8) (w : World)
    (hat : EsAt w D (IsE w D n) [x, y, z] a) (hl : ∀ k, D k → k < B) (hx : shapeB nv na d x = true) (hy : shapeB nv na d y = true) (hz' : shapeB nv na d z = true) (h : IsB B b bs w) (hlen : bs.length + 24 * 4 ^ (d + 1) ≤ 1000000) (hT : TabW w) (hB : 5 ≤ B) :
    Calls Tryd.prog 41 #[.pointer (some ⟨b, 0, none⟩), .agg #[.int .i64 11, .int .i64 0, .slice a 3 cap]] w (Wr B b bs (40 :: (txE d x ++ 63 :: (txE d y ++ 58 :: (txE d z ++ [41])))) w) := by
  obtain ⟨hBb, hbw⟩ := isB_lt h
  have hB0 : Below w.heap.size w ((w.alloc (.cells #[.int .i64 11, .int .i64 0, .slice a 3 cap] 29)).alloc (.cells #[.string { data := #[63] }, .string { data := #[58] }] 9)) := ((Below.refl _ w).alloc (Nat.le_refl _) _).alloc (by simp) _
  have HB0 := Lib.hid hB0
  have HK0 := Lib.hid (kept_below (b := b) hB0)
  have HI := Lib.hid (isB_kept (isB_kept h (World.grownBy_alloc w (.cells #[.int .i64 11, .int .i64 0, .slice a 3 cap] 29) none)) (World.grownBy_alloc (w.alloc (.cells #[.int .i64 11, .int .i64 0, .slice a 3 cap] 29)) (.cells #[.string { data := #[63] }, .string { data := #[58] }] 9) none))
  have hrow := heap_alloc_new (w.alloc (.cells #[.int .i64 11, .int .i64 0, .slice a 3 cap] 29)) (.cells #[.string { data := #[63] }, .string { data := #[58] }] 9)
  rw [World.size_alloc] at hrow
  have HR : Hid (RowT ((w.alloc (.cells #[.int .i64 11, .int .i64 0, .slice a 3 cap] 29)).alloc (.cells #[.string { data := #[63] }, .string { data := #[58] }] 9)) (w.heap.size + 1) [[63], [58]]) := ⟨_, hrow⟩
  have hz := hB0.size
  have HAT := Lib.hid (hat.later (Stand.of_below (hB0.mono (show B ≤ w.heap.size by omega)) hl))
  have HT := Lib.hid (hT.below hB0 hT.2.2)
  have IH := Lib.hid ih
  clear hat hB0 h hT ih hrow
  go_enter Tryd.func41, Tryd.ntmps41
  go_wp2_with fail
  obtain ⟨W, hW⟩ : ∃ W, (w.alloc (.cells #[.int .i64 11, .int .i64 0, .slice a 3 cap] 29)).alloc (.cells #[.string { data := #[63] }, .string { data := #[58] }] 9) = W := ⟨_, rfl⟩
  rw [hW] at HB0 HK0 HI HR HAT HT hz ⊢
  clear hW
  refine (wJoined nv na d IH.out n [x, y, z] [[63], [58]] a cap (w.heap.size + 1) D B b bs W HAT.out hl (by simp; exact ⟨hx, hy, hz'⟩) (by simp) (by simp) (by simp) HR.out (by omega) HI.out hlen HT.out hB).mono ?_
  rintro e u ⟨rfl, h5, hb5, hk5⟩
  have e5 : joinT d [x, y, z] [[63], [58]] [x, y, z].length ++ [41] = 40 :: (txE d x ++ 63 :: (txE d y ++ 58 :: (txE d z ++ [41]))) := by simp [joinT, kidD]
  rw [e5] at h5
  have H5 := Lib.hid h5
  have HB5 := Lib.hid ((HB0.out.mono (show B ≤ w.heap.size by omega)).trans hb5)
  have HK5 := Lib.hid (HK0.out.trans hk5)
  clear h5 hb5 hk5 e5
  go_wp2_with fail
  go_end0
  exact ⟨rfl, H5.out, HB5.out, HK5.out⟩

set_option maxRecDepth 100000 in
set_option maxHeartbeats 4000000 in
theorem wr_bin4 (nv na d : Nat) (ih : SayW nv na d) (n : Nat) (x y : E) (a : Option Addr) (cap : Nat) (D : Nat → Prop) (B b : Nat) (bs : List UInt8) (w : World)
    (hat : EsAt w D (IsE w D n) [x, y] a) (hl : ∀ k, D k → k < B) (hx : shapeB nv na d x = true) (hy : shapeB nv na d y = true) (h : IsB B b bs w) (hlen : bs.length + 24 * 4 ^ (d + 1) ≤ 1000000) (hT : TabW w) (hB : 5 ≤ B) :
    Calls Tryd.prog 41 #[.pointer (some ⟨b, 0, none⟩), .agg #[.int .i64 4, .int .i64 0, .slice a 2 cap]] w (Wr B b bs (40 :: (txE d x ++ 43 :: (txE d y ++ [41]))) w) := by
  obtain ⟨hBb, hbw⟩ := isB_lt h
  have hB0 : Below w.heap.size w (w.alloc (.cells #[.int .i64 4, .int .i64 0, .slice a 2 cap] 29)) := (Below.refl _ w).alloc (Nat.le_refl _) _
  have hrow := heap_alloc_new w (.cells #[.int .i64 4, .int .i64 0, .slice a 2 cap] 29)
  have HB0 := Lib.hid hB0
  have HK0 := Lib.hid (kept_below (b := b) hB0)
  have HI := Lib.hid (isB_kept h (World.grownBy_alloc w (.cells #[.int .i64 4, .int .i64 0, .slice a 2 cap] 29) none))
  have hz := hB0.size
  have hTW := hT.below hB0 hT.2.2
  obtain ⟨W, hW⟩ : ∃ W, w.alloc (.cells #[.int .i64 4, .int .i64 0, .slice a 2 cap] 29) = W := ⟨_, rfl⟩
  have hzW : W.heap.size = w.heap.size + 1 := by rw [← hW]; simp
  rw [hW] at hB0 HB0 HK0 HI hrow hz hTW
  have HS : Hid (∀ v', Lib.OthersKept 5 (some b) W v' → Below B W v' → v'.cell? ⟨w.heap.size, 0, none⟩ = some (.int .i64 4) ∧ v'.cell? ⟨w.heap.size, 2, none⟩ = some (.slice a 2 cap) ∧ v'.cell? ⟨0, 4, none⟩ = some (.string { data := #[43] })) := fun v' hk hv' => by
    have hr := hk _ _ hrow (fun e => by cases e; omega) (fun cs fz e => by cases e)
    exact ⟨by rw [cell_of_row _ _ _ _ _ _ hr]; rfl, by rw [cell_of_row _ _ _ _ _ _ hr]; rfl, (hv'.cell (p := ⟨0, 4, none⟩) (show 0 < B by omega)).trans (hTW.2.1 4 (by omega))⟩
  have HBD : Hid (Below W.heap.size W ((W.alloc (.cells #[.string { data := #[43] }] 9)).drew)) := ((Below.refl _ _).alloc (Nat.le_refl _) _).drew
  have hrow2 : ((W.alloc (.cells #[.string { data := #[43] }] 9)).drew).heap[W.heap.size]? = some (.cells #[.string { data := #[43] }] 9 (0, 0)) := heap_alloc_new W (.cells #[.string { data := #[43] }] 9)
  have HR : Hid (RowT ((W.alloc (.cells #[.string { data := #[43] }] 9)).drew) W.heap.size [[43]]) := ⟨_, hrow2⟩
  have HKD := Lib.hid (kept_below (b := b) HBD.out)
  have HID : Hid (IsB B b bs ((W.alloc (.cells #[.string { data := #[43] }] 9)).drew)) := isB_kept HI.out (Lib.grownBy_below (grown_refl W) HBD.out)
  have HAT := Lib.hid (hat.later (Stand.of_below ((hB0.trans (HBD.out.mono hz)).mono (show B ≤ w.heap.size by omega)) hl))
  have HTD : Hid (TabW ((W.alloc (.cells #[.string { data := #[43] }] 9)).drew)) := hTW.below HBD.out hTW.2.2
  have IH := Lib.hid ih
  have HXY : Hid (∀ q ∈ [x, y], shapeB nv na d q = true) := by
    have : ∀ q ∈ [x, y], shapeB nv na d q = true := by simp; exact ⟨hx, hy⟩
    exact this
  obtain ⟨p0, p2, q0⟩ := HS.out W (Lib.OthersKept.refl _ _ _) (Below.refl _ _)
  have hSa := HS.out _ HKD.out (HBD.out.mono (show B ≤ W.heap.size by omega))
  have HSA := Lib.hid hSa
  clear hat hB0 h hT ih hrow hrow2 hTW hx hy hSa
  go_enter Tryd.func41, Tryd.ntmps41
  go_wp2_with fail
  clear hW
  have hne : W.heap.size ≠ b := by omega
  have hBW : B ≤ W.heap.size := by omega
  clear hzW
  go_region_held3 (fun v' => v'.cell? ⟨w.heap.size, 0, none⟩ = some (.int .i64 4) ∧ v'.cell? ⟨w.heap.size, 2, none⟩ = some (.slice a 2 cap) ∧ v'.cell? ⟨0, 4, none⟩ = some (.string { data := #[43] })) (first | assumption | exact ⟨p0, p2, q0⟩ | exact HSA.out)
    (first
    | (go_at_call 73; (refine (wJoined nv na d IH.out n [x, y] [[43]] a cap W.heap.size D B b bs ((W.alloc (.cells #[.string { data := #[43] }] 9)).drew) HAT.out hl HXY.out (by simp) (by simp) (by simp) HR.out hne HID.out hlen HTD.out hB).mono ?_); rintro f u0 ⟨rfl, h0, hA, hK⟩; have hS0 := HS.out u0 (HKD.out.trans hK) ((HBD.out.mono hBW).trans hA))
    | fail)
  all_goals
    have e5 : joinT d [x, y] [[43]] [x, y].length ++ [41] = 40 :: (txE d x ++ 43 :: (txE d y ++ [41])) := by simp [joinT, kidD]
    rw [e5] at h0
    have H5 := Lib.hid h0
    have HB5 : Hid (Below B w u0) := (HB0.out.mono (show B ≤ w.heap.size by omega)).trans ((HBD.out.mono hBW).trans hA)
    have HK5 := Lib.hid (HK0.out.trans (HKD.out.trans hK))
    clear h0 hA hK hS0 e5
    go_wp2_with fail
    go_end0
    exact ⟨rfl, H5.out, HB5.out, HK5.out⟩

set_option maxRecDepth 100000 in
set_option maxHeartbeats 4000000 in
theorem wr_bin5 (nv na d : Nat) (ih : SayW nv na d) (n : Nat) (x y : E) (a : Option Addr) (cap : Nat) (D : Nat → Prop) (B b : Nat) (bs : List UInt8) (w : World)
    (hat : EsAt w D (IsE w D n) [x, y] a) (hl : ∀ k, D k → k < B) (hx : shapeB nv na d x = true) (hy : shapeB nv na d y = true) (h : IsB B b bs w) (hlen : bs.length + 24 * 4 ^ (d + 1) ≤ 1000000) (hT : TabW w) (hB : 5 ≤ B) :
    Calls Tryd.prog 41 #[.pointer (some ⟨b, 0, none⟩), .agg #[.int .i64 5, .int .i64 0, .slice a 2 cap]] w (Wr B b bs (40 :: (txE d x ++ 45 :: (txE d y ++ [41]))) w) := by
  obtain ⟨hBb, hbw⟩ := isB_lt h
  have hB0 : Below w.heap.size w (w.alloc (.cells #[.int .i64 5, .int .i64 0, .slice a 2 cap] 29)) := (Below.refl _ w).alloc (Nat.le_refl _) _
  have hrow := heap_alloc_new w (.cells #[.int .i64 5, .int .i64 0, .slice a 2 cap] 29)
  have HB0 := Lib.hid hB0
  have HK0 := Lib.hid (kept_below (b := b) hB0)
  have HI := Lib.hid (isB_kept h (World.grownBy_alloc w (.cells #[.int .i64 5, .int .i64 0, .slice a 2 cap] 29) none))
  have hz := hB0.size
  have hTW := hT.below hB0 hT.2.2
  obtain ⟨W, hW⟩ : ∃ W, w.alloc (.cells #[.int .i64 5, .int .i64 0, .slice a 2 cap] 29) = W := ⟨_, rfl⟩
  have hzW : W.heap.size = w.heap.size + 1 := by rw [← hW]; simp
  rw [hW] at hB0 HB0 HK0 HI hrow hz hTW
  have HS : Hid (∀ v', Lib.OthersKept 5 (some b) W v' → Below B W v' → v'.cell? ⟨w.heap.size, 0, none⟩ = some (.int .i64 5) ∧ v'.cell? ⟨w.heap.size, 2, none⟩ = some (.slice a 2 cap) ∧ v'.cell? ⟨0, 5, none⟩ = some (.string { data := #[45] })) := fun v' hk hv' => by
    have hr := hk _ _ hrow (fun e => by cases e; omega) (fun cs fz e => by cases e)
    exact ⟨by rw [cell_of_row _ _ _ _ _ _ hr]; rfl, by rw [cell_of_row _ _ _ _ _ _ hr]; rfl, (hv'.cell (p := ⟨0, 5, none⟩) (show 0 < B by omega)).trans (hTW.2.1 5 (by omega))⟩
  have HBD : Hid (Below W.heap.size W ((W.alloc (.cells #[.string { data := #[45] }] 9)).drew)) := ((Below.refl _ _).alloc (Nat.le_refl _) _).drew
  have hrow2 : ((W.alloc (.cells #[.string { data := #[45] }] 9)).drew).heap[W.heap.size]? = some (.cells #[.string { data := #[45] }] 9 (0, 0)) := heap_alloc_new W (.cells #[.string { data := #[45] }] 9)
  have HR : Hid (RowT ((W.alloc (.cells #[.string { data := #[45] }] 9)).drew) W.heap.size [[45]]) := ⟨_, hrow2⟩
  have HKD := Lib.hid (kept_below (b := b) HBD.out)
  have HID : Hid (IsB B b bs ((W.alloc (.cells #[.string { data := #[45] }] 9)).drew)) := isB_kept HI.out (Lib.grownBy_below (grown_refl W) HBD.out)
  have HAT := Lib.hid (hat.later (Stand.of_below ((hB0.trans (HBD.out.mono hz)).mono (show B ≤ w.heap.size by omega)) hl))
  have HTD : Hid (TabW ((W.alloc (.cells #[.string { data := #[45] }] 9)).drew)) := hTW.below HBD.out hTW.2.2
  have IH := Lib.hid ih
  have HXY : Hid (∀ q ∈ [x, y], shapeB nv na d q = true) := by
    have : ∀ q ∈ [x, y], shapeB nv na d q = true := by simp; exact ⟨hx, hy⟩
    exact this
  obtain ⟨p0, p2, q0⟩ := HS.out W (Lib.OthersKept.refl _ _ _) (Below.refl _ _)
  have hSa := HS.out _ HKD.out (HBD.out.mono (show B ≤ W.heap.size by omega))
  have HSA := Lib.hid hSa
  clear hat hB0 h hT ih hrow hrow2 hTW hx hy hSa
  go_enter Tryd.func41, Tryd.ntmps41
  go_wp2_with fail
  clear hW
  have hne : W.heap.size ≠ b := by omega
  have hBW : B ≤ W.heap.size := by omega
  clear hzW
  go_region_held3 (fun v' => v'.cell? ⟨w.heap.size, 0, none⟩ = some (.int .i64 5) ∧ v'.cell? ⟨w.heap.size, 2, none⟩ = some (.slice a 2 cap) ∧ v'.cell? ⟨0, 5, none⟩ = some (.string { data := #[45] })) (first | assumption | exact ⟨p0, p2, q0⟩ | exact HSA.out)
    (first
    | (go_at_call 73; (refine (wJoined nv na d IH.out n [x, y] [[45]] a cap W.heap.size D B b bs ((W.alloc (.cells #[.string { data := #[45] }] 9)).drew) HAT.out hl HXY.out (by simp) (by simp) (by simp) HR.out hne HID.out hlen HTD.out hB).mono ?_); rintro f u0 ⟨rfl, h0, hA, hK⟩; have hS0 := HS.out u0 (HKD.out.trans hK) ((HBD.out.mono hBW).trans hA))
    | fail)
  all_goals
    have e5 : joinT d [x, y] [[45]] [x, y].length ++ [41] = 40 :: (txE d x ++ 45 :: (txE d y ++ [41])) := by simp [joinT, kidD]
    rw [e5] at h0
    have H5 := Lib.hid h0
    have HB5 : Hid (Below B w u0) := (HB0.out.mono (show B ≤ w.heap.size by omega)).trans ((HBD.out.mono hBW).trans hA)
    have HK5 := Lib.hid (HK0.out.trans (HKD.out.trans hK))
    clear h0 hA hK hS0 e5
    go_wp2_with fail
    go_end0
    exact ⟨rfl, H5.out, HB5.out, HK5.out⟩

set_option maxRecDepth 100000 in
set_option maxHeartbeats 4000000 in
theorem wr_bin6 (nv na d : Nat) (ih : SayW nv na d) (n : Nat) (x y : E) (a : Option Addr) (cap : Nat) (D : Nat → Prop) (B b : Nat) (bs : List UInt8) (w : World)
    (hat : EsAt w D (IsE w D n) [x, y] a) (hl : ∀ k, D k → k < B) (hx : shapeB nv na d x = true) (hy : shapeB nv na d y = true) (h : IsB B b bs w) (hlen : bs.length + 24 * 4 ^ (d + 1) ≤ 1000000) (hT : TabW w) (hB : 5 ≤ B) :
    Calls Tryd.prog 41 #[.pointer (some ⟨b, 0, none⟩), .agg #[.int .i64 6, .int .i64 0, .slice a 2 cap]] w (Wr B b bs (40 :: (txE d x ++ 42 :: (txE d y ++ [41]))) w) := by
  obtain ⟨hBb, hbw⟩ := isB_lt h
  have hB0 : Below w.heap.size w (w.alloc (.cells #[.int .i64 6, .int .i64 0, .slice a 2 cap] 29)) := (Below.refl _ w).alloc (Nat.le_refl _) _
  have hrow := heap_alloc_new w (.cells #[.int .i64 6, .int .i64 0, .slice a 2 cap] 29)
  have HB0 := Lib.hid hB0
  have HK0 := Lib.hid (kept_below (b := b) hB0)
  have HI := Lib.hid (isB_kept h (World.grownBy_alloc w (.cells #[.int .i64 6, .int .i64 0, .slice a 2 cap] 29) none))
  have hz := hB0.size
  have hTW := hT.below hB0 hT.2.2
  obtain ⟨W, hW⟩ : ∃ W, w.alloc (.cells #[.int .i64 6, .int .i64 0, .slice a 2 cap] 29) = W := ⟨_, rfl⟩
  have hzW : W.heap.size = w.heap.size + 1 := by rw [← hW]; simp
  rw [hW] at hB0 HB0 HK0 HI hrow hz hTW
  have HS : Hid (∀ v', Lib.OthersKept 5 (some b) W v' → Below B W v' → v'.cell? ⟨w.heap.size, 0, none⟩ = some (.int .i64 6) ∧ v'.cell? ⟨w.heap.size, 2, none⟩ = some (.slice a 2 cap) ∧ v'.cell? ⟨0, 6, none⟩ = some (.string { data := #[42] })) := fun v' hk hv' => by
    have hr := hk _ _ hrow (fun e => by cases e; omega) (fun cs fz e => by cases e)
    exact ⟨by rw [cell_of_row _ _ _ _ _ _ hr]; rfl, by rw [cell_of_row _ _ _ _ _ _ hr]; rfl, (hv'.cell (p := ⟨0, 6, none⟩) (show 0 < B by omega)).trans (hTW.2.1 6 (by omega))⟩
  have HBD : Hid (Below W.heap.size W ((W.alloc (.cells #[.string { data := #[42] }] 9)).drew)) := ((Below.refl _ _).alloc (Nat.le_refl _) _).drew
  have hrow2 : ((W.alloc (.cells #[.string { data := #[42] }] 9)).drew).heap[W.heap.size]? = some (.cells #[.string { data := #[42] }] 9 (0, 0)) := heap_alloc_new W (.cells #[.string { data := #[42] }] 9)
  have HR : Hid (RowT ((W.alloc (.cells #[.string { data := #[42] }] 9)).drew) W.heap.size [[42]]) := ⟨_, hrow2⟩
  have HKD := Lib.hid (kept_below (b := b) HBD.out)
  have HID : Hid (IsB B b bs ((W.alloc (.cells #[.string { data := #[42] }] 9)).drew)) := isB_kept HI.out (Lib.grownBy_below (grown_refl W) HBD.out)
  have HAT := Lib.hid (hat.later (Stand.of_below ((hB0.trans (HBD.out.mono hz)).mono (show B ≤ w.heap.size by omega)) hl))
  have HTD : Hid (TabW ((W.alloc (.cells #[.string { data := #[42] }] 9)).drew)) := hTW.below HBD.out hTW.2.2
  have IH := Lib.hid ih
  have HXY : Hid (∀ q ∈ [x, y], shapeB nv na d q = true) := by
    have : ∀ q ∈ [x, y], shapeB nv na d q = true := by simp; exact ⟨hx, hy⟩
    exact this
  obtain ⟨p0, p2, q0⟩ := HS.out W (Lib.OthersKept.refl _ _ _) (Below.refl _ _)
  have hSa := HS.out _ HKD.out (HBD.out.mono (show B ≤ W.heap.size by omega))
  have HSA := Lib.hid hSa
  clear hat hB0 h hT ih hrow hrow2 hTW hx hy hSa
  go_enter Tryd.func41, Tryd.ntmps41
  go_wp2_with fail
  clear hW
  have hne : W.heap.size ≠ b := by omega
  have hBW : B ≤ W.heap.size := by omega
  clear hzW
  go_region_held3 (fun v' => v'.cell? ⟨w.heap.size, 0, none⟩ = some (.int .i64 6) ∧ v'.cell? ⟨w.heap.size, 2, none⟩ = some (.slice a 2 cap) ∧ v'.cell? ⟨0, 6, none⟩ = some (.string { data := #[42] })) (first | assumption | exact ⟨p0, p2, q0⟩ | exact HSA.out)
    (first
    | (go_at_call 73; (refine (wJoined nv na d IH.out n [x, y] [[42]] a cap W.heap.size D B b bs ((W.alloc (.cells #[.string { data := #[42] }] 9)).drew) HAT.out hl HXY.out (by simp) (by simp) (by simp) HR.out hne HID.out hlen HTD.out hB).mono ?_); rintro f u0 ⟨rfl, h0, hA, hK⟩; have hS0 := HS.out u0 (HKD.out.trans hK) ((HBD.out.mono hBW).trans hA))
    | fail)
  all_goals
    have e5 : joinT d [x, y] [[42]] [x, y].length ++ [41] = 40 :: (txE d x ++ 42 :: (txE d y ++ [41])) := by simp [joinT, kidD]
    rw [e5] at h0
    have H5 := Lib.hid h0
    have HB5 : Hid (Below B w u0) := (HB0.out.mono (show B ≤ w.heap.size by omega)).trans ((HBD.out.mono hBW).trans hA)
    have HK5 := Lib.hid (HK0.out.trans (HKD.out.trans hK))
    clear h0 hA hK hS0 e5
    go_wp2_with fail
    go_end0
    exact ⟨rfl, H5.out, HB5.out, HK5.out⟩

set_option maxRecDepth 100000 in
set_option maxHeartbeats 4000000 in
theorem wr_bin7 (nv na d : Nat) (ih : SayW nv na d) (n : Nat) (x y : E) (a : Option Addr) (cap : Nat) (D : Nat → Prop) (B b : Nat) (bs : List UInt8) (w : World)
    (hat : EsAt w D (IsE w D n) [x, y] a) (hl : ∀ k, D k → k < B) (hx : shapeB nv na d x = true) (hy : shapeB nv na d y = true) (h : IsB B b bs w) (hlen : bs.length + 24 * 4 ^ (d + 1) ≤ 1000000) (hT : TabW w) (hB : 5 ≤ B) :
    Calls Tryd.prog 41 #[.pointer (some ⟨b, 0, none⟩), .agg #[.int .i64 7, .int .i64 0, .slice a 2 cap]] w (Wr B b bs (40 :: (txE d x ++ 38 :: (txE d y ++ [41]))) w) := by
  obtain ⟨hBb, hbw⟩ := isB_lt h
  have hB0 : Below w.heap.size w (w.alloc (.cells #[.int .i64 7, .int .i64 0, .slice a 2 cap] 29)) := (Below.refl _ w).alloc (Nat.le_refl _) _
  have hrow := heap_alloc_new w (.cells #[.int .i64 7, .int .i64 0, .slice a 2 cap] 29)
  have HB0 := Lib.hid hB0
  have HK0 := Lib.hid (kept_below (b := b) hB0)
  have HI := Lib.hid (isB_kept h (World.grownBy_alloc w (.cells #[.int .i64 7, .int .i64 0, .slice a 2 cap] 29) none))
  have hz := hB0.size
  have hTW := hT.below hB0 hT.2.2
  obtain ⟨W, hW⟩ : ∃ W, w.alloc (.cells #[.int .i64 7, .int .i64 0, .slice a 2 cap] 29) = W := ⟨_, rfl⟩
  have hzW : W.heap.size = w.heap.size + 1 := by rw [← hW]; simp
  rw [hW] at hB0 HB0 HK0 HI hrow hz hTW
  have HS : Hid (∀ v', Lib.OthersKept 5 (some b) W v' → Below B W v' → v'.cell? ⟨w.heap.size, 0, none⟩ = some (.int .i64 7) ∧ v'.cell? ⟨w.heap.size, 2, none⟩ = some (.slice a 2 cap) ∧ v'.cell? ⟨0, 7, none⟩ = some (.string { data := #[38] })) := fun v' hk hv' => by
    have hr := hk _ _ hrow (fun e => by cases e; omega) (fun cs fz e => by cases e)
    exact ⟨by rw [cell_of_row _ _ _ _ _ _ hr]; rfl, by rw [cell_of_row _ _ _ _ _ _ hr]; rfl, (hv'.cell (p := ⟨0, 7, none⟩) (show 0 < B by omega)).trans (hTW.2.1 7 (by omega))⟩
  have HBD : Hid (Below W.heap.size W ((W.alloc (.cells #[.string { data := #[38] }] 9)).drew)) := ((Below.refl _ _).alloc (Nat.le_refl _) _).drew
  have hrow2 : ((W.alloc (.cells #[.string { data := #[38] }] 9)).drew).heap[W.heap.size]? = some (.cells #[.string { data := #[38] }] 9 (0, 0)) := heap_alloc_new W (.cells #[.string { data := #[38] }] 9)
  have HR : Hid (RowT ((W.alloc (.cells #[.string { data := #[38] }] 9)).drew) W.heap.size [[38]]) := ⟨_, hrow2⟩
  have HKD := Lib.hid (kept_below (b := b) HBD.out)
  have HID : Hid (IsB B b bs ((W.alloc (.cells #[.string { data := #[38] }] 9)).drew)) := isB_kept HI.out (Lib.grownBy_below (grown_refl W) HBD.out)
  have HAT := Lib.hid (hat.later (Stand.of_below ((hB0.trans (HBD.out.mono hz)).mono (show B ≤ w.heap.size by omega)) hl))
  have HTD : Hid (TabW ((W.alloc (.cells #[.string { data := #[38] }] 9)).drew)) := hTW.below HBD.out hTW.2.2
  have IH := Lib.hid ih
  have HXY : Hid (∀ q ∈ [x, y], shapeB nv na d q = true) := by
    have : ∀ q ∈ [x, y], shapeB nv na d q = true := by simp; exact ⟨hx, hy⟩
    exact this
  obtain ⟨p0, p2, q0⟩ := HS.out W (Lib.OthersKept.refl _ _ _) (Below.refl _ _)
  have hSa := HS.out _ HKD.out (HBD.out.mono (show B ≤ W.heap.size by omega))
  have HSA := Lib.hid hSa
  clear hat hB0 h hT ih hrow hrow2 hTW hx hy hSa
  go_enter Tryd.func41, Tryd.ntmps41
  go_wp2_with fail
  clear hW
  have hne : W.heap.size ≠ b := by omega
  have hBW : B ≤ W.heap.size := by omega
  clear hzW
  go_region_held3 (fun v' => v'.cell? ⟨w.heap.size, 0, none⟩ = some (.int .i64 7) ∧ v'.cell? ⟨w.heap.size, 2, none⟩ = some (.slice a 2 cap) ∧ v'.cell? ⟨0, 7, none⟩ = some (.string { data := #[38] })) (first | assumption | exact ⟨p0, p2, q0⟩ | exact HSA.out)
    (first
    | (go_at_call 73; (refine (wJoined nv na d IH.out n [x, y] [[38]] a cap W.heap.size D B b bs ((W.alloc (.cells #[.string { data := #[38] }] 9)).drew) HAT.out hl HXY.out (by simp) (by simp) (by simp) HR.out hne HID.out hlen HTD.out hB).mono ?_); rintro f u0 ⟨rfl, h0, hA, hK⟩; have hS0 := HS.out u0 (HKD.out.trans hK) ((HBD.out.mono hBW).trans hA))
    | fail)
  all_goals
    have e5 : joinT d [x, y] [[38]] [x, y].length ++ [41] = 40 :: (txE d x ++ 38 :: (txE d y ++ [41])) := by simp [joinT, kidD]
    rw [e5] at h0
    have H5 := Lib.hid h0
    have HB5 : Hid (Below B w u0) := (HB0.out.mono (show B ≤ w.heap.size by omega)).trans ((HBD.out.mono hBW).trans hA)
    have HK5 := Lib.hid (HK0.out.trans (HKD.out.trans hK))
    clear h0 hA hK hS0 e5
    go_wp2_with fail
    go_end0
    exact ⟨rfl, H5.out, HB5.out, HK5.out⟩

set_option maxRecDepth 100000 in
set_option maxHeartbeats 4000000 in
theorem wr_bin8 (nv na d : Nat) (ih : SayW nv na d) (n : Nat) (x y : E) (a : Option Addr) (cap : Nat) (D : Nat → Prop) (B b : Nat) (bs : List UInt8) (w : World)
    (hat : EsAt w D (IsE w D n) [x, y] a) (hl : ∀ k, D k → k < B) (hx : shapeB nv na d x = true) (hy : shapeB nv na d y = true) (h : IsB B b bs w) (hlen : bs.length + 24 * 4 ^ (d + 1) ≤ 1000000) (hT : TabW w) (hB : 5 ≤ B) :
    Calls Tryd.prog 41 #[.pointer (some ⟨b, 0, none⟩), .agg #[.int .i64 8, .int .i64 0, .slice a 2 cap]] w (Wr B b bs (40 :: (txE d x ++ 94 :: (txE d y ++ [41]))) w) := by
  obtain ⟨hBb, hbw⟩ := isB_lt h
  have hB0 : Below w.heap.size w (w.alloc (.cells #[.int .i64 8, .int .i64 0, .slice a 2 cap] 29)) := (Below.refl _ w).alloc (Nat.le_refl _) _
  have hrow := heap_alloc_new w (.cells #[.int .i64 8, .int .i64 0, .slice a 2 cap] 29)
  have HB0 := Lib.hid hB0
  have HK0 := Lib.hid (kept_below (b := b) hB0)
  have HI := Lib.hid (isB_kept h (World.grownBy_alloc w (.cells #[.int .i64 8, .int .i64 0, .slice a 2 cap] 29) none))
  have hz := hB0.size
  have hTW := hT.below hB0 hT.2.2
  obtain ⟨W, hW⟩ : ∃ W, w.alloc (.cells #[.int .i64 8, .int .i64 0, .slice a 2 cap] 29) = W := ⟨_, rfl⟩
  have hzW : W.heap.size = w.heap.size + 1 := by rw [← hW]; simp
  rw [hW] at hB0 HB0 HK0 HI hrow hz hTW
  have HS : Hid (∀ v', Lib.OthersKept 5 (some b) W v' → Below B W v' → v'.cell? ⟨w.heap.size, 0, none⟩ = some (.int .i64 8) ∧ v'.cell? ⟨w.heap.size, 2, none⟩ = some (.slice a 2 cap) ∧ v'.cell? ⟨0, 8, none⟩ = some (.string { data := #[94] })) := fun v' hk hv' => by
    have hr := hk _ _ hrow (fun e => by cases e; omega) (fun cs fz e => by cases e)
    exact ⟨by rw [cell_of_row _ _ _ _ _ _ hr]; rfl, by rw [cell_of_row _ _ _ _ _ _ hr]; rfl, (hv'.cell (p := ⟨0, 8, none⟩) (show 0 < B by omega)).trans (hTW.2.1 8 (by omega))⟩
  have HBD : Hid (Below W.heap.size W ((W.alloc (.cells #[.string { data := #[94] }] 9)).drew)) := ((Below.refl _ _).alloc (Nat.le_refl _) _).drew
  have hrow2 : ((W.alloc (.cells #[.string { data := #[94] }] 9)).drew).heap[W.heap.size]? = some (.cells #[.string { data := #[94] }] 9 (0, 0)) := heap_alloc_new W (.cells #[.string { data := #[94] }] 9)
  have HR : Hid (RowT ((W.alloc (.cells #[.string { data := #[94] }] 9)).drew) W.heap.size [[94]]) := ⟨_, hrow2⟩
  have HKD := Lib.hid (kept_below (b := b) HBD.out)
  have HID : Hid (IsB B b bs ((W.alloc (.cells #[.string { data := #[94] }] 9)).drew)) := isB_kept HI.out (Lib.grownBy_below (grown_refl W) HBD.out)
  have HAT := Lib.hid (hat.later (Stand.of_below ((hB0.trans (HBD.out.mono hz)).mono (show B ≤ w.heap.size by omega)) hl))
  have HTD : Hid (TabW ((W.alloc (.cells #[.string { data := #[94] }] 9)).drew)) := hTW.below HBD.out hTW.2.2
  have IH := Lib.hid ih
  have HXY : Hid (∀ q ∈ [x, y], shapeB nv na d q = true) := by
    have : ∀ q ∈ [x, y], shapeB nv na d q = true := by simp; exact ⟨hx, hy⟩
    exact this
  obtain ⟨p0, p2, q0⟩ := HS.out W (Lib.OthersKept.refl _ _ _) (Below.refl _ _)
  have hSa := HS.out _ HKD.out (HBD.out.mono (show B ≤ W.heap.size by omega))
  have HSA := Lib.hid hSa
  clear hat hB0 h hT ih hrow hrow2 hTW hx hy hSa
  go_enter Tryd.func41, Tryd.ntmps41
  go_wp2_with fail
  clear hW
  have hne : W.heap.size ≠ b := by omega
  have hBW : B ≤ W.heap.size := by omega
  clear hzW
  go_region_held3 (fun v' => v'.cell? ⟨w.heap.size, 0, none⟩ = some (.int .i64 8) ∧ v'.cell? ⟨w.heap.size, 2, none⟩ = some (.slice a 2 cap) ∧ v'.cell? ⟨0, 8, none⟩ = some (.string { data := #[94] })) (first | assumption | exact ⟨p0, p2, q0⟩ | exact HSA.out)
    (first
    | (go_at_call 73; (refine (wJoined nv na d IH.out n [x, y] [[94]] a cap W.heap.size D B b bs ((W.alloc (.cells #[.string { data := #[94] }] 9)).drew) HAT.out hl HXY.out (by simp) (by simp) (by simp) HR.out hne HID.out hlen HTD.out hB).mono ?_); rintro f u0 ⟨rfl, h0, hA, hK⟩; have hS0 := HS.out u0 (HKD.out.trans hK) ((HBD.out.mono hBW).trans hA))
    | fail)
  all_goals
    have e5 : joinT d [x, y] [[94]] [x, y].length ++ [41] = 40 :: (txE d x ++ 94 :: (txE d y ++ [41])) := by simp [joinT, kidD]
    rw [e5] at h0
    have H5 := Lib.hid h0
    have HB5 : Hid (Below B w u0) := (HB0.out.mono (show B ≤ w.heap.size by omega)).trans ((HBD.out.mono hBW).trans hA)
    have HK5 := Lib.hid (HK0.out.trans (HKD.out.trans hK))
    clear h0 hA hK hS0 e5
    go_wp2_with fail
    go_end0
    exact ⟨rfl, H5.out, HB5.out, HK5.out⟩

set_option maxRecDepth 100000 in
set_option maxHeartbeats 4000000 in
theorem wr_bin9 (nv na d : Nat) (ih : SayW nv na d) (n : Nat) (x y : E) (a : Option Addr) (cap : Nat) (D : Nat → Prop) (B b : Nat) (bs : List UInt8) (w : World)
    (hat : EsAt w D (IsE w D n) [x, y] a) (hl : ∀ k, D k → k < B) (hx : shapeB nv na d x = true) (hy : shapeB nv na d y = true) (h : IsB B b bs w) (hlen : bs.length + 24 * 4 ^ (d + 1) ≤ 1000000) (hT : TabW w) (hB : 5 ≤ B) :
    Calls Tryd.prog 41 #[.pointer (some ⟨b, 0, none⟩), .agg #[.int .i64 9, .int .i64 0, .slice a 2 cap]] w (Wr B b bs (40 :: (txE d x ++ 61 :: (txE d y ++ [41]))) w) := by
  obtain ⟨hBb, hbw⟩ := isB_lt h
  have hB0 : Below w.heap.size w (w.alloc (.cells #[.int .i64 9, .int .i64 0, .slice a 2 cap] 29)) := (Below.refl _ w).alloc (Nat.le_refl _) _
  have hrow := heap_alloc_new w (.cells #[.int .i64 9, .int .i64 0, .slice a 2 cap] 29)
  have HB0 := Lib.hid hB0
  have HK0 := Lib.hid (kept_below (b := b) hB0)
  have HI := Lib.hid (isB_kept h (World.grownBy_alloc w (.cells #[.int .i64 9, .int .i64 0, .slice a 2 cap] 29) none))
  have hz := hB0.size
  have hTW := hT.below hB0 hT.2.2
  obtain ⟨W, hW⟩ : ∃ W, w.alloc (.cells #[.int .i64 9, .int .i64 0, .slice a 2 cap] 29) = W := ⟨_, rfl⟩
  have hzW : W.heap.size = w.heap.size + 1 := by rw [← hW]; simp
  rw [hW] at hB0 HB0 HK0 HI hrow hz hTW
  have HS : Hid (∀ v', Lib.OthersKept 5 (some b) W v' → Below B W v' → v'.cell? ⟨w.heap.size, 0, none⟩ = some (.int .i64 9) ∧ v'.cell? ⟨w.heap.size, 2, none⟩ = some (.slice a 2 cap) ∧ v'.cell? ⟨0, 9, none⟩ = some (.string { data := #[61] })) := fun v' hk hv' => by
    have hr := hk _ _ hrow (fun e => by cases e; omega) (fun cs fz e => by cases e)
    exact ⟨by rw [cell_of_row _ _ _ _ _ _ hr]; rfl, by rw [cell_of_row _ _ _ _ _ _ hr]; rfl, (hv'.cell (p := ⟨0, 9, none⟩) (show 0 < B by omega)).trans (hTW.2.1 9 (by omega))⟩
  have HBD : Hid (Below W.heap.size W ((W.alloc (.cells #[.string { data := #[61] }] 9)).drew)) := ((Below.refl _ _).alloc (Nat.le_refl _) _).drew
  have hrow2 : ((W.alloc (.cells #[.string { data := #[61] }] 9)).drew).heap[W.heap.size]? = some (.cells #[.string { data := #[61] }] 9 (0, 0)) := heap_alloc_new W (.cells #[.string { data := #[61] }] 9)
  have HR : Hid (RowT ((W.alloc (.cells #[.string { data := #[61] }] 9)).drew) W.heap.size [[61]]) := ⟨_, hrow2⟩
  have HKD := Lib.hid (kept_below (b := b) HBD.out)
  have HID : Hid (IsB B b bs ((W.alloc (.cells #[.string { data := #[61] }] 9)).drew)) := isB_kept HI.out (Lib.grownBy_below (grown_refl W) HBD.out)
  have HAT := Lib.hid (hat.later (Stand.of_below ((hB0.trans (HBD.out.mono hz)).mono (show B ≤ w.heap.size by omega)) hl))
  have HTD : Hid (TabW ((W.alloc (.cells #[.string { data := #[61] }] 9)).drew)) := hTW.below HBD.out hTW.2.2
  have IH := Lib.hid ih
  have HXY : Hid (∀ q ∈ [x, y], shapeB nv na d q = true) := by
    have : ∀ q ∈ [x, y], shapeB nv na d q = true := by simp; exact ⟨hx, hy⟩
    exact this
  obtain ⟨p0, p2, q0⟩ := HS.out W (Lib.OthersKept.refl _ _ _) (Below.refl _ _)
  have hSa := HS.out _ HKD.out (HBD.out.mono (show B ≤ W.heap.size by omega))
  have HSA := Lib.hid hSa
  clear hat hB0 h hT ih hrow hrow2 hTW hx hy hSa
  go_enter Tryd.func41, Tryd.ntmps41
  go_wp2_with fail
  clear hW
  have hne : W.heap.size ≠ b := by omega
  have hBW : B ≤ W.heap.size := by omega
  clear hzW
  go_region_held3 (fun v' => v'.cell? ⟨w.heap.size, 0, none⟩ = some (.int .i64 9) ∧ v'.cell? ⟨w.heap.size, 2, none⟩ = some (.slice a 2 cap) ∧ v'.cell? ⟨0, 9, none⟩ = some (.string { data := #[61] })) (first | assumption | exact ⟨p0, p2, q0⟩ | exact HSA.out)
    (first
    | (go_at_call 73; (refine (wJoined nv na d IH.out n [x, y] [[61]] a cap W.heap.size D B b bs ((W.alloc (.cells #[.string { data := #[61] }] 9)).drew) HAT.out hl HXY.out (by simp) (by simp) (by simp) HR.out hne HID.out hlen HTD.out hB).mono ?_); rintro f u0 ⟨rfl, h0, hA, hK⟩; have hS0 := HS.out u0 (HKD.out.trans hK) ((HBD.out.mono hBW).trans hA))
    | fail)
  all_goals
    have e5 : joinT d [x, y] [[61]] [x, y].length ++ [41] = 40 :: (txE d x ++ 61 :: (txE d y ++ [41])) := by simp [joinT, kidD]
    rw [e5] at h0
    have H5 := Lib.hid h0
    have HB5 : Hid (Below B w u0) := (HB0.out.mono (show B ≤ w.heap.size by omega)).trans ((HBD.out.mono hBW).trans hA)
    have HK5 := Lib.hid (HK0.out.trans (HKD.out.trans hK))
    clear h0 hA hK hS0 e5
    go_wp2_with fail
    go_end0
    exact ⟨rfl, H5.out, HB5.out, HK5.out⟩

set_option maxRecDepth 100000 in
set_option maxHeartbeats 4000000 in
theorem wr_bin10 (nv na d : Nat) (ih : SayW nv na d) (n : Nat) (x y : E) (a : Option Addr) (cap : Nat) (D : Nat → Prop) (B b : Nat) (bs : List UInt8) (w : World)
    (hat : EsAt w D (IsE w D n) [x, y] a) (hl : ∀ k, D k → k < B) (hx : shapeB nv na d x = true) (hy : shapeB nv na d y = true) (h : IsB B b bs w) (hlen : bs.length + 24 * 4 ^ (d + 1) ≤ 1000000) (hT : TabW w) (hB : 5 ≤ B) :
    Calls Tryd.prog 41 #[.pointer (some ⟨b, 0, none⟩), .agg #[.int .i64 10, .int .i64 0, .slice a 2 cap]] w (Wr B b bs (40 :: (txE d x ++ 60 :: (txE d y ++ [41]))) w) := by
  obtain ⟨hBb, hbw⟩ := isB_lt h
  have hB0 : Below w.heap.size w (w.alloc (.cells #[.int .i64 10, .int .i64 0, .slice a 2 cap] 29)) := (Below.refl _ w).alloc (Nat.le_refl _) _
  have hrow := heap_alloc_new w (.cells #[.int .i64 10, .int .i64 0, .slice a 2 cap] 29)
  have HB0 := Lib.hid hB0
  have HK0 := Lib.hid (kept_below (b := b) hB0)
  have HI := Lib.hid (isB_kept h (World.grownBy_alloc w (.cells #[.int .i64 10, .int .i64 0, .slice a 2 cap] 29) none))
  have hz := hB0.size
  have hTW := hT.below hB0 hT.2.2
  obtain ⟨W, hW⟩ : ∃ W, w.alloc (.cells #[.int .i64 10, .int .i64 0, .slice a 2 cap] 29) = W := ⟨_, rfl⟩
  have hzW : W.heap.size = w.heap.size + 1 := by rw [← hW]; simp
  rw [hW] at hB0 HB0 HK0 HI hrow hz hTW
  have HS : Hid (∀ v', Lib.OthersKept 5 (some b) W v' → Below B W v' → v'.cell? ⟨w.heap.size, 0, none⟩ = some (.int .i64 10) ∧ v'.cell? ⟨w.heap.size, 2, none⟩ = some (.slice a 2 cap) ∧ v'.cell? ⟨0, 10, none⟩ = some (.string { data := #[60] })) := fun v' hk hv' => by
    have hr := hk _ _ hrow (fun e => by cases e; omega) (fun cs fz e => by cases e)
    exact ⟨by rw [cell_of_row _ _ _ _ _ _ hr]; rfl, by rw [cell_of_row _ _ _ _ _ _ hr]; rfl, (hv'.cell (p := ⟨0, 10, none⟩) (show 0 < B by omega)).trans (hTW.2.1 10 (by omega))⟩
  have HBD : Hid (Below W.heap.size W ((W.alloc (.cells #[.string { data := #[60] }] 9)).drew)) := ((Below.refl _ _).alloc (Nat.le_refl _) _).drew
  have hrow2 : ((W.alloc (.cells #[.string { data := #[60] }] 9)).drew).heap[W.heap.size]? = some (.cells #[.string { data := #[60] }] 9 (0, 0)) := heap_alloc_new W (.cells #[.string { data := #[60] }] 9)
  have HR : Hid (RowT ((W.alloc (.cells #[.string { data := #[60] }] 9)).drew) W.heap.size [[60]]) := ⟨_, hrow2⟩
  have HKD := Lib.hid (kept_below (b := b) HBD.out)
  have HID : Hid (IsB B b bs ((W.alloc (.cells #[.string { data := #[60] }] 9)).drew)) := isB_kept HI.out (Lib.grownBy_below (grown_refl W) HBD.out)
  have HAT := Lib.hid (hat.later (Stand.of_below ((hB0.trans (HBD.out.mono hz)).mono (show B ≤ w.heap.size by omega)) hl))
  have HTD : Hid (TabW ((W.alloc (.cells #[.string { data := #[60] }] 9)).drew)) := hTW.below HBD.out hTW.2.2
  have IH := Lib.hid ih
  have HXY : Hid (∀ q ∈ [x, y], shapeB nv na d q = true) := by
    have : ∀ q ∈ [x, y], shapeB nv na d q = true := by simp; exact ⟨hx, hy⟩
    exact this
  obtain ⟨p0, p2, q0⟩ := HS.out W (Lib.OthersKept.refl _ _ _) (Below.refl _ _)
  have hSa := HS.out _ HKD.out (HBD.out.mono (show B ≤ W.heap.size by omega))
  have HSA := Lib.hid hSa
  clear hat hB0 h hT ih hrow hrow2 hTW hx hy hSa
  go_enter Tryd.func41, Tryd.ntmps41
  go_wp2_with fail
  clear hW
  have hne : W.heap.size ≠ b := by omega
  have hBW : B ≤ W.heap.size := by omega
  clear hzW
  go_region_held3 (fun v' => v'.cell? ⟨w.heap.size, 0, none⟩ = some (.int .i64 10) ∧ v'.cell? ⟨w.heap.size, 2, none⟩ = some (.slice a 2 cap) ∧ v'.cell? ⟨0, 10, none⟩ = some (.string { data := #[60] })) (first | assumption | exact ⟨p0, p2, q0⟩ | exact HSA.out)
    (first
    | (go_at_call 73; (refine (wJoined nv na d IH.out n [x, y] [[60]] a cap W.heap.size D B b bs ((W.alloc (.cells #[.string { data := #[60] }] 9)).drew) HAT.out hl HXY.out (by simp) (by simp) (by simp) HR.out hne HID.out hlen HTD.out hB).mono ?_); rintro f u0 ⟨rfl, h0, hA, hK⟩; have hS0 := HS.out u0 (HKD.out.trans hK) ((HBD.out.mono hBW).trans hA))
    | fail)
  all_goals
    have e5 : joinT d [x, y] [[60]] [x, y].length ++ [41] = 40 :: (txE d x ++ 60 :: (txE d y ++ [41])) := by simp [joinT, kidD]
    rw [e5] at h0
    have H5 := Lib.hid h0
    have HB5 : Hid (Below B w u0) := (HB0.out.mono (show B ≤ w.heap.size by omega)).trans ((HBD.out.mono hBW).trans hA)
    have HK5 := Lib.hid (HK0.out.trans (HKD.out.trans hK))
    clear h0 hA hK hS0 e5
    go_wp2_with fail
    go_end0
    exact ⟨rfl, H5.out, HB5.out, HK5.out⟩

end Go.Proofs.YtomgnnhbabnckaaDoor

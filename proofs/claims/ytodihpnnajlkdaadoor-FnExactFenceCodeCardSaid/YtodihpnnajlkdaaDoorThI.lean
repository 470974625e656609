/- The program's finalTarget and retargeted (at threaded's closure), walked. -/
import Derived.Test.YtodihpnnajlkdaaDoorThP
import Derived.Test.YtodihpnnajlkdaaDoorThC
import Derived.Test.YtodihpnnajlkdaaDoorRcI
namespace Go.Proofs.YtodihpnnajlkdaaDoor
open Go.RowKit
set_option linter.unusedVariables false

set_option maxRecDepth 100000 in
set_option maxHeartbeats 2000000 in
/-- **finalTarget.** -/
theorem finT_one (l : List Ins) (a : Option Addr) (n c t : Nat) (w : World) (h : NAt w (fun b => b < w.heap.size) l a) (hn : l.length = n) (hok : Okc l) (ht : t < n) :
    Calls Tryd.prog 93 #[.slice a n c, .int .i64 (t : Int)] w (fun e w' => e = .returned (.int .i64 (finL l t : Int)) ∧ Below w.heap.size w w') := by
  have hle := hok.le
  rw [hn] at hle
  have HN := Lib.hid hn
  have HO := Lib.hid hok
  have HAT : Hid (∀ i, i < n → ∃ (x : Ins) (b o : Nat), l[i]? = some x ∧ a = some ⟨b, o, none⟩ ∧ w.cell? ⟨b, o + i * 5, none⟩ = some (.int .i64 x.op) ∧ w.cell? ⟨b, o + i * 5 + 1, none⟩ = some (.int .i64 x.fa)) := fun i hi => by
    have hx : l[i]? = some (l[i]'(by rw [hn]; exact hi)) := List.getElem?_eq_getElem _
    obtain ⟨b, o, ha, _, e0, e1, _⟩ := h.2 i _ hx
    exact ⟨_, b, o, hx, ha, e0, e1⟩
  clear h hn hok
  go_enter Tryd.func93, Tryd.ntmps93
  go_wp2_with fail
  go_loopw [5, 9] (fun x c wr => ∃ j : Nat, j ≤ n ∧ c = .int .i64 (j : Int) ∧ x = .int .i64 (chase l j t : Int) ∧ (∀ i, i < j → jB l (chase l i t) = true) ∧ wr = w) (fun _ c _ => n - (intOf c).toNat)
  case atStart => exact ⟨0, Nat.zero_le _, rfl, rfl, fun i hi => absurd hi (Nat.not_lt_zero _), by first | rfl | trivial⟩
  case round =>
    obtain ⟨j, hj, rfl, rfl, hall, rfl⟩ := hrel
    have HALL := Lib.hid hall
    clear hall
    have hcl : chase l j t < n := by rw [← HN.out]; exact chase_lt HO.out j (by rw [HN.out]; exact ht)
    obtain ⟨x, b, o, hx, rfl, e0, e1⟩ := HAT.out _ hcl
    obtain ⟨p, hp⟩ : ∃ p, chase l j t = p := ⟨_, rfl⟩
    have HP := Lib.hid hp
    rw [hp] at hcl hx e0 e1 ⊢
    have HX := Lib.hid hx
    clear hp hx HAT
    by_cases hlt : j < n
    · by_cases h8 : x.op = 8
      · have b8 : (x.op != 8) = false := by simpa using h8
        have HREL : Hid (x.fa = (chase l (j + 1) t : Int) ∧ ∀ i, i < j + 1 → jB l (chase l i t) = true) := by
          have h1 := HO.out.ja p x HX.out h8
          refine ⟨?_, fun i hi => ?_⟩
          · show x.fa = ((nxJ l (chase l j t) : Nat) : Int)
            rw [HP.out, nxJ_at HX.out h8]; omega
          · by_cases e : i = j
            · rw [e, HP.out, jB_at HX.out]; simpa using h8
            · exact HALL.out i (by omega)
        clear h8
        go_wp2_with fail
        go_roundw
        case rel => exact ⟨j + 1, by omega, by go_num, by rw [← HREL.out.1], HREL.out.2, by first | rfl | trivial⟩
        case measure => simp [intOf]; omega
      · have b8 : (x.op != 8) = true := by simpa using h8
        have HF : Hid (finL l t = p) := by
          have : finL l t = p := by
            rw [finL_stop (k := j) (by rw [HN.out]; exact hj) (by rw [HP.out, jB_at HX.out]; simpa using h8), HP.out]
          exact this
        clear h8
        go_wp2_with fail
        rw [HF.out]
        go_ret
        exact ⟨rfl, Below.refl _ _⟩
    · obtain rfl : j = n := by omega
      have HF : Hid (finL l t = t) := finL_cycle HO.out (by rw [HN.out]; exact ht) fun i hi => HALL.out i (by rw [← HN.out]; exact hi)
      go_wp2_with fail
      rw [HF.out]
      go_ret
      exact ⟨rfl, Below.refl _ _⟩

set_option maxRecDepth 100000 in
set_option maxHeartbeats 2000000 in
/-- **threaded's closure.** -/
theorem thC_one (l : List Ins) (a : Option Addr) (n c t cb : Nat) (w : World) (h : NAt w (fun b => b < w.heap.size) l a) (hn : l.length = n) (hok : Okc l) (ht : t < n) (hb : w.cell? ⟨cb, 0, none⟩ = some (.slice a n c)) :
    Calls Tryd.prog 92 #[.int .i64 (t : Int), .pointer (some ⟨cb, 0, none⟩)] w (fun e w' => e = .returned (.int .i64 (finL l t : Int)) ∧ Below w.heap.size w w') := by
  have HF := Lib.hid (finT_one l a n c t w h hn hok ht)
  clear h hn hok ht
  go_enter Tryd.func92, Tryd.ntmps92
  go_wp2_with fail
  refine HF.out.mono ?_
  rintro e w2 ⟨rfl, hb2⟩
  have HB := Lib.hid hb2
  clear hb2 HF
  go_wp2_with fail
  go_ret
  exact ⟨rfl, HB.out⟩

theorem flatN_set1 : ∀ (ys : List Ins) (i : Nat) (y : Ins) (v : Int), ys[i]? = some y → (flatN ys).set (i * 5 + 1) (.int .i64 v) = flatN (ys.set i ⟨y.op, v, y.fb, y.fc, y.fd⟩)
  | [], i, y, v, h => by simp at h
  | z :: zs, 0, y, v, h => by simp at h; subst h; simp [flatN]
  | z :: zs, i + 1, y, v, h => by
    have e : (i + 1) * 5 + 1 = i * 5 + 1 + 1 + 1 + 1 + 1 + 1 := by omega
    simp only [e, flatN, List.set_cons_succ]
    rw [flatN_set1 zs i y v (by simpa using h)]
theorem flatN_set2 : ∀ (ys : List Ins) (i : Nat) (y : Ins) (v : Int), ys[i]? = some y → (flatN ys).set (i * 5 + 2) (.int .i64 v) = flatN (ys.set i ⟨y.op, y.fa, v, y.fc, y.fd⟩)
  | [], i, y, v, h => by simp at h
  | z :: zs, 0, y, v, h => by simp at h; subst h; simp [flatN]
  | z :: zs, i + 1, y, v, h => by
    have e : (i + 1) * 5 + 2 = i * 5 + 2 + 1 + 1 + 1 + 1 + 1 := by omega
    simp only [e, flatN, List.set_cons_succ]
    rw [flatN_set2 zs i y v (by simpa using h)]
theorem ownsRow_cellx {w : World} {base : Nat} {e : TypeId} {size g n cap : Nat} {xs : List Value} (h : w.ownsRow base e size (.slice (some ⟨g, 0, none⟩) n cap) n xs) (j : Nat) (hj : j < n * size) : (∃ u, w.cell? ⟨g, j, none⟩ = some u) ∧ w.frozen? ⟨g, j, none⟩ = false := by
  refine ⟨?_, h.frozenAt j⟩
  rw [h.cellAt j hj]
  exact ⟨_, List.getElem?_eq_getElem (by rw [h.1]; exact hj)⟩
theorem _root_.Go.World.ownsRow.far5 {w w' : World} {base : Nat} {e : TypeId} {size n : Nat} {v : Value} {xs : List Value} (h : w.ownsRow base e size v n xs) (hs : ∀ g, v.ownBlock = some g → g < w.heap.size → w'.heap[g]? = w.heap[g]?) : w'.ownsRow base e size v n xs := by
  refine ⟨h.1, ?_⟩
  rcases h.2 with e | ⟨g, cp, cur, rfl, e2, e3, e4⟩
  · exact .inl e
  · exact .inr ⟨g, cp, cur, rfl, e2, (hs g rfl (Array.getElem?_eq_some_iff.1 e3).1).trans e3, e4⟩
/-- The state of the loop: the first instructions of the copy have been replaced. -/
def RTL (f : Nat → Nat) (l : List Ins) (w : World) (n : Nat) (ca : Option Addr) (cc : Nat) (i : Value) (wr : World) : Prop := ∃ (k : Nat) (ys : List Ins), k ≤ n ∧ i = .int .i64 (k : Int) ∧ ReTo f l ys k ∧ wr.ownsRow w.heap.size 46 5 (.slice ca n cc) n (flatN ys) ∧ Below w.heap.size w wr

set_option maxRecDepth 100000 in
set_option maxHeartbeats 4000000 in
/-- **retargeted** at loop.example/constanttime/impl.threaded$1. -/
theorem retTh_one (f : Nat → Nat) (N : Nat) (cb : Nat) (l : List Ins) (a : Option Addr) (n c : Nat) (w : World) (h : NAt w (fun b => b < w.heap.size) l a) (hn : l.length = n) (hm : n ≤ 400)
    (hT : ∀ (i : Nat) (x : Ins), l[i]? = some x → (x.op = 8 → 0 ≤ x.fa ∧ x.fa.toNat < N) ∧ (x.op = 9 ∨ x.op = 10 → 0 ≤ x.fb ∧ x.fb.toNat < N))
    (hC : ∀ (v : World) (t : Nat), Below w.heap.size w v → t < N → Calls Tryd.prog 92 #[.int .i64 (t : Int), .pointer (some ⟨cb, 0, none⟩)] v (fun e w' => e = .returned (.int .i64 (f t : Int)) ∧ Below v.heap.size v w')) :
    Calls Tryd.prog 88 #[.slice a n c, .func (.func 92) #[] #[.pointer (some ⟨cb, 0, none⟩)]] w (CloneN (l.map (reT f)) n w) := by
  have HC := Lib.hid hC
  have HT := Lib.hid hT
  have HN := Lib.hid hn
  have H1 := Lib.hid (cloneN_one l a n c w h hn (by omega))
  clear hC hT hn h
  go_enter Tryd.func88, Tryd.ntmps88
  go_wp2_with fail
  refine H1.out.mono ?_
  rintro e w1 ⟨ca, cc, rfl, hown, hb1⟩
  have HL0 : Hid (RTL f l w n ca cc (.int .i64 0) w1) := ⟨0, l, Nat.zero_le _, rfl, ReTo.start f l, hown, hb1⟩
  clear hown hb1 H1
  go_wp2_with fail
  go_loopw [12] (fun i wr => RTL f l w n ca cc i wr) (fun i _ => n - (intOf i).toNat)
  case atStart => exact HL0.out
  case round =>
    obtain ⟨k, ys, hk, rfl, hre, hrow, hb⟩ := hrel
    have HRE := Lib.hid hre
    have HROW := Lib.hid hrow
    have HB := Lib.hid hb
    clear hre hrow hb HL0
    by_cases hlt : k < n
    · obtain ⟨x, hx⟩ : ∃ x, l[k]? = some x := ⟨l[k]'(by rw [HN.out]; exact hlt), List.getElem?_eq_getElem _⟩
      have hyk : ys[k]? = some x := (HRE.out.2.2 k (Nat.le_refl _)).trans hx
      obtain ⟨g, rfl, hg, cur, hblk, hcs⟩ : ∃ g, ca = some ⟨g, 0, none⟩ ∧ w.heap.size ≤ g ∧ ∃ cur, wr.heap[g]? = some (.cells cur 46 (0, 0)) ∧ n * 5 ≤ cur.size := by
        rcases HROW.out.2 with ⟨e, e2⟩ | ⟨g, cap', cur, e, hb, hg, hn', hm', hc, ht⟩
        · omega
        · injection e with e1 e2 e3
          exact ⟨g, e1, hb, cur, hg, by rw [hc]; exact Nat.mul_le_mul_right _ hn'⟩
      have hgl : g < wr.heap.size := (Array.getElem?_eq_some_iff.1 hblk).1
      have hf := flatN_at ys k x hyk
      have hcell : ∀ j, j < 5 → wr.cell? ⟨g, k * 5 + j, none⟩ = (flatN ys)[k * 5 + j]? := fun j hj => HROW.out.cellAt (k * 5 + j) (by omega)
      have d0 : wr.cell? ⟨g, k * 5, none⟩ = some (.int .i64 x.op) := (hcell 0 (by omega)).trans hf.1
      have d1 : wr.cell? ⟨g, k * 5 + 1, none⟩ = some (.int .i64 x.fa) := (hcell 1 (by omega)).trans hf.2.1
      have d2 : wr.cell? ⟨g, k * 5 + 2, none⟩ = some (.int .i64 x.fb) := (hcell 2 (by omega)).trans hf.2.2.1
      have HTG := Lib.hid (tgOf_one g (k * 5) x wr d0)
      have HX := Lib.hid hx
      have HYK := Lib.hid hyk
      have HKL : Hid (k < ys.length) := by
        have := (List.getElem?_eq_some_iff.1 hyk).1
        exact this
      clear hx hyk hf hcell hblk
      by_cases h8 : x.op = 8
      · have htv : tgV x g (k * 5) = .pointer (some ⟨g, k * 5 + 1, none⟩) := by unfold tgV; rw [tgO_8 (by simpa using h8)]
        obtain ⟨h0, h1⟩ := (HT.out k x HX.out).1 h8
        have HRT := Lib.hid (reT_8 (f := f) h8)
        obtain ⟨t, ht⟩ : ∃ t : Nat, x.fa = (t : Int) := ⟨x.fa.toNat, by omega⟩
        have htt : x.fa.toNat = t := by rw [ht]; rfl
        rw [htt] at h1
        have HRT2 := HRT.out
        rw [htt] at HRT2
        have HRT3 := Lib.hid HRT2
        rw [ht] at d1
        have HCL := Lib.hid (HC.out wr t HB.out h1)
        clear h8 ht htt h0 HRT HRT2
        go_wp2_with fail
        refine HTG.out.mono ?_
        rintro e w2 ⟨rfl, hw2⟩
        subst hw2
        rw [htv]
        clear htv HTG
        go_wp2_with fail
        refine HCL.out.mono ?_
        rintro e w3 ⟨rfl, hb3⟩
        have hblk3 := HROW.out.far5 (fun g' e hl => hb3.block g' hl)
        obtain ⟨⟨u0, hu0⟩, f0⟩ := ownsRow_cellx hblk3 (k * 5 + 1) (by omega)
        have HREL : Hid (RTL f l w n (some ⟨g, 0, none⟩) cc (.int .i64 ((k : Int) + 1)) (w3.setCell ⟨g, k * 5 + 1, none⟩ (.int .i64 (f t : Int)))) := by
          refine ⟨k + 1, ys.set k (reT f x), hlt, by go_num, HRE.out.set HX.out, ?_, (HB.out.trans (hb3.mono HB.out.size)).setCell (p := ⟨g, k * 5 + 1, none⟩) hg _⟩
          have hs := (hblk3.stored (k * 5 + 1) (.int .i64 (f t : Int))).1
          rw [flatN_set1 ys k x _ HYK.out] at hs
          rw [HRT3.out]; exact hs
        clear hb3 hblk3 HROW HRE HCL d0 d1 d2
        go_wp2_with fail
        go_roundw
        case rel => exact HREL.out
        case measure => simp [intOf]; omega
      · by_cases h9 : x.op = 9 ∨ x.op = 10
        · have htv : tgV x g (k * 5) = .pointer (some ⟨g, k * 5 + 2, none⟩) := by
            unfold tgV
            rcases h9 with e | e
            · rw [tgO_9 (by simpa using h8) (by simpa using e)]
            · rw [tgO_10 (by simpa using h8) (by simpa using e)]
          obtain ⟨h0, h1⟩ := (HT.out k x HX.out).2 h9
          have HRT := Lib.hid (reT_9 (f := f) h8 h9)
          obtain ⟨t, ht⟩ : ∃ t : Nat, x.fb = (t : Int) := ⟨x.fb.toNat, by omega⟩
          have htt : x.fb.toNat = t := by rw [ht]; rfl
          rw [htt] at h1
          have HRT2 := HRT.out
          rw [htt] at HRT2
          have HRT3 := Lib.hid HRT2
          rw [ht] at d2
          have HCL := Lib.hid (HC.out wr t HB.out h1)
          clear h8 h9 ht htt h0 HRT HRT2
          go_wp2_with fail
          refine HTG.out.mono ?_
          rintro e w2 ⟨rfl, hw2⟩
          subst hw2
          rw [htv]
          clear htv HTG
          go_wp2_with fail
          refine HCL.out.mono ?_
          rintro e w3 ⟨rfl, hb3⟩
          have hblk3 := HROW.out.far5 (fun g' e hl => hb3.block g' hl)
          obtain ⟨⟨u0, hu0⟩, f0⟩ := ownsRow_cellx hblk3 (k * 5 + 2) (by omega)
          have HREL : Hid (RTL f l w n (some ⟨g, 0, none⟩) cc (.int .i64 ((k : Int) + 1)) (w3.setCell ⟨g, k * 5 + 2, none⟩ (.int .i64 (f t : Int)))) := by
            refine ⟨k + 1, ys.set k (reT f x), hlt, by go_num, HRE.out.set HX.out, ?_, (HB.out.trans (hb3.mono HB.out.size)).setCell (p := ⟨g, k * 5 + 2, none⟩) hg _⟩
            have hs := (hblk3.stored (k * 5 + 2) (.int .i64 (f t : Int))).1
            rw [flatN_set2 ys k x _ HYK.out] at hs
            rw [HRT3.out]; exact hs
          clear hb3 hblk3 HROW HRE HCL d0 d1 d2
          go_wp2_with fail
          go_roundw
          case rel => exact HREL.out
          case measure => simp [intOf]; omega
        · have htv : tgV x g (k * 5) = .pointer none := by unfold tgV; rw [tgO_n (by simpa using h8) (by simp; omega) (by simp; omega)]
          have HREL : Hid (RTL f l w n (some ⟨g, 0, none⟩) cc (.int .i64 ((k : Int) + 1)) wr) := ⟨k + 1, ys, hlt, by go_num, HRE.out.same HX.out (reT_n h8 h9), HROW.out, HB.out⟩
          clear h8 h9 HROW HRE d0 d1 d2
          go_wp2_with fail
          refine HTG.out.mono ?_
          rintro e w2 ⟨rfl, hw2⟩
          subst hw2
          rw [htv]
          clear htv HTG
          go_wp2_with fail
          go_roundw
          case rel => exact HREL.out
          case measure => simp [intOf]; omega
    · obtain rfl : k = n := by omega
      have HFIN : Hid (CloneN (l.map (reT f)) k w (.returned (.slice ca k cc)) wr) := ⟨ca, cc, rfl, by rw [← HRE.out.all (by rw [HN.out]; exact Nat.le_refl _)]; exact HROW.out, HB.out⟩
      clear HROW HRE
      go_wp2_with fail
      go_ret
      exact HFIN.out


set_option maxRecDepth 100000 in
set_option maxHeartbeats 2000000 in
/-- **threaded.** -/
theorem threaded_one (l : List Ins) (a : Option Addr) (n c : Nat) (w : World) (h : NAt w (fun b => b < w.heap.size) l a) (hn : l.length = n) (hok : Okc l) :
    Calls Tryd.prog 78 #[.slice a n c] w (CloneN (thrL l) n w) := by
  obtain ⟨W, hW⟩ : ∃ W, w.alloc (.cells #[.slice a n c] 28) = W := ⟨_, rfl⟩
  have hB : Below w.heap.size w W := by rw [← hW]; exact (Below.refl _ w).alloc (Nat.le_refl _) _
  have hx : W.heap[w.heap.size]? = some (.cells #[.slice a n c] 28 (0, 0)) := by rw [← hW]; exact heap_alloc_new w _
  have hz : w.heap.size < W.heap.size := (Array.getElem?_eq_some_iff.1 hx).1
  have x0 : W.cell? ⟨w.heap.size, 0, none⟩ = some (.slice a n c) := by rw [cell_at hx]; rfl
  have hle := hok.le
  rw [hn] at hle
  have HR := Lib.hid (retTh_one (finL l) n w.heap.size l a n c W (h.below hB) hn hle (fun i x hx => ⟨fun e => by have := hok.ja i x hx e; omega, fun e => by have := hok.jb i x hx e; omega⟩) fun v t hv ht =>
    thC_one l a n c t w.heap.size v ((h.below hB).below hv) hn hok ht ((hv.cell (p := ⟨w.heap.size, 0, none⟩) hz).trans x0))
  have HW := Lib.hid hW
  have HB := Lib.hid hB
  clear h hn hok hW hB hx
  go_enter Tryd.func78, Tryd.ntmps78
  go_wp2_with (first | rw [HW.out] | fail)
  refine HR.out.mono ?_
  rintro e w2 ⟨ca, cc, rfl, hown, hb2⟩
  have HFIN : Hid (CloneN (thrL l) n w (.returned (.slice ca n cc)) w2) := ⟨ca, cc, rfl, ownsRow_mono hown HB.out.size, HB.out.trans (hb2.mono HB.out.size)⟩
  clear hown hb2 HR
  go_wp2_with fail
  go_ret
  exact HFIN.out

end Go.Proofs.YtodihpnnajlkdaaDoor

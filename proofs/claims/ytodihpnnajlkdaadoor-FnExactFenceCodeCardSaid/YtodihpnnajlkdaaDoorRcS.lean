/- The model's search for the instructions that can be reached, walked. -/
import Derived.Test.YtodihpnnajlkdaaDoorNxT
import Derived.Test.YtodihpnnajlkdaaDoorBlSB
import Derived.Test.YtodihpnnajlkdaaDoorAppA
import Derived.Deep.RegionWith
import Derived.Deep.RegionHeld3
namespace Go.Proofs.YtodihpnnajlkdaaDoor
open Go.RowKit
set_option linter.unusedVariables false

/-- The rows of the search: what is seen, the queue. -/
structure RcS (W : World) (S n : Nat) (sn : List Bool) (q : List Nat) (qv : Value) (wr : World) : Prop where
  b : wr.ownsRow S 4 1 (.slice (some ⟨S, 0, none⟩) n n) n (sn.map Value.bool)
  q : wr.ownsRow (S + 1) 3 1 qv q.length ((natI q).map (Value.int .i64))
  bel : Below S W wr
  lt : S < wr.heap.size

theorem RcS.start {W w1 : World} {S n : Nat} (hst : (w1.setCell ⟨S, 0, none⟩ (.bool true)).ownsRow S 4 1 (.slice (some ⟨S, 0, none⟩) n n) n (((List.replicate n false).set 0 true).map Value.bool)) (hb1 : Below S W w1) (hlt : S < w1.heap.size) :
    RcS W S n ((List.replicate n false).set 0 true) [0] (.slice (some ⟨w1.heap.size, 0, none⟩) 1 1) ((w1.setCell ⟨S, 0, none⟩ (.bool true)).alloc (.cells #[.int .i64 0] 3)) := by
  have hz : (w1.setCell ⟨S, 0, none⟩ (.bool true)).heap.size = w1.heap.size := by simp [World.setCell]
  refine ⟨hst.alloc _, ⟨rfl, .inr ⟨w1.heap.size, 1, #[.int .i64 0], rfl, by omega, ?_, Nat.le_refl _, by unfold maxLen; omega, rfl, rfl⟩⟩, (hb1.setCell (p := ⟨S, 0, none⟩) (Nat.le_refl _) _).alloc (by rw [hz]; omega) _, by rw [World.size_alloc, hz]; omega⟩
  have h1 := heap_alloc_new (w1.setCell ⟨S, 0, none⟩ (.bool true)) (.cells #[.int .i64 0] 3)
  rw [hz] at h1
  exact h1
theorem RcS.later {W : World} {S n : Nat} {sn : List Bool} {q : List Nat} {qv : Value} {w w' : World} (h : RcS W S n sn q qv w) (hb : Below w.heap.size w w') : RcS W S n sn q qv w' := by
  have hg : w.grownBy w' none := ⟨hb.os, hb.tape, hb.output, hb.size, fun k hk _ => hb.block k hk⟩
  exact ⟨h.b.kept hg (.inr (by simp [Value.ownBlock])), h.q.kept hg (by cases e : qv.ownBlock <;> simp), h.bel.trans (hb.mono (Nat.le_of_lt h.lt)), Nat.lt_of_lt_of_le h.lt hb.size⟩
theorem RcS.qat {W : World} {S n : Nat} {sn : List Bool} {q : List Nat} {qa : Option Addr} {qn qc : Nat} {w : World} (h : RcS W S n sn q (.slice qa qn qc) w) {t p : Nat} (hp : q[t]? = some p) : ∃ g, qa = some ⟨g, 0, none⟩ ∧ S < g ∧ g < w.heap.size ∧ w.cell? ⟨g, t, none⟩ = some (.int .i64 (p : Int)) := by
  have ht := (List.getElem?_eq_some_iff.1 hp).1
  rcases h.q.2 with ⟨_, h2⟩ | ⟨g, cp, cur, e1, e2, e3, e4⟩
  · omega
  · cases e1
    refine ⟨g, rfl, e2, (Array.getElem?_eq_some_iff.1 e3).1, ?_⟩
    rw [h.q.cellAt t (by omega)]
    simp [natI, hp]
theorem RcS.bat {W : World} {S n : Nat} {sn : List Bool} {q : List Nat} {qv : Value} {w : World} (h : RcS W S n sn q qv w) {j : Nat} {b : Bool} (hj : sn[j]? = some b) (hn : j < n) : w.cell? ⟨S, j, none⟩ = some (.bool b) ∧ w.frozen? ⟨S, j, none⟩ = false := by
  refine ⟨?_, h.b.frozenAt j⟩
  rw [h.b.cellAt j (by omega)]
  simp [hj]

/-- The rows behind a push. -/
theorem RcS.push {W : World} {S n : Nat} {sn : List Bool} {q : List Nat} {qv : Value} {w w4 w5 : World} {j : Nat} {v' : Value} (h : RcS W S n sn q qv w) (hjn : j < n)
    (h4 : w4 = (w.setCell ⟨S, j, none⟩ (.bool true)).alloc (.cells #[.int .i64 (j : Int)] 3)) (hg : w4.grownBy w5 qv.ownBlock) (ho : w5.ownsRow (S + 1) 3 1 v' (q.length + 1) ((natI q).map (Value.int .i64) ++ [.int .i64 (j : Int)])) : RcS W S n (sn.set j true) (q ++ [j]) v' w5 := by
  have hz : (w.setCell ⟨S, j, none⟩ (.bool true)).heap.size = w.heap.size := by simp [World.setCell]
  have hz4 : w4.heap.size = w.heap.size + 1 := by rw [h4, World.size_alloc, hz]
  have hlt := h.lt
  have hq0 : ∀ g, qv.ownBlock = some g → S + 1 ≤ g := fun g hg => (h.q.lt g hg).1
  have hb4 : Below S W w4 := by rw [h4]; exact (h.bel.setCell (p := ⟨S, j, none⟩) (Nat.le_refl _) _).alloc (by rw [hz]; omega) _
  have hrow4 : w4.ownsRow S 4 1 (.slice (some ⟨S, 0, none⟩) n n) n ((sn.set j true).map Value.bool) := by
    rw [h4, List.map_set]
    exact ((h.b.stored j (.bool true)).1).alloc _
  refine ⟨hrow4.kept hg (.inr fun e => ?_), ?_, hb4.grown hg (by omega) fun k hk => ?_, by have := hg.size; omega⟩
  · have := hq0 S (by rw [← e]; rfl)
    omega
  · rw [natI_app, List.map_append, List.length_append]; exact ho
  · have := hq0 k hk; omega
theorem NxT.push {w w4 w5 : World} {S j : Nat} {na : Option Addr} {ns : List Int} {qv v' : Value} (h : NxT w S na ns qv)
    (h4 : w4 = (w.setCell ⟨S, j, none⟩ (.bool true)).alloc (.cells #[.int .i64 (j : Int)] 3)) (hg : w4.grownBy w5 qv.ownBlock) (hat : v'.ownBlock = qv.ownBlock ∨ ∃ g, v'.ownBlock = some g ∧ w.heap.size ≤ g) : NxT w5 S na ns v' := fun s z hz => by
  obtain ⟨g, h1, h2, h3, h5, h6⟩ := h s z hz
  have hzs : (w.setCell ⟨S, j, none⟩ (.bool true)).heap.size = w.heap.size := by simp [World.setCell]
  have hz4 : w4.heap.size = w.heap.size + 1 := by rw [h4, World.size_alloc, hzs]
  refine ⟨g, h1, h2, by have := hg.size; omega, ?_, ?_⟩
  · rcases hat with e | ⟨g', e, e2⟩
    · rw [e]; exact h5
    · rw [e]; intro e3; cases e3; omega
  · have hb : w5.heap[g]? = w.heap[g]? := by
      rw [hg.block g (by omega) (fun e => h5 e.symm), h4, Below.heap_alloc _ _ _ (by rw [hzs]; exact h3)]
      exact Below.heap_setCell _ _ _ _ (by simpa using h2)
    exact (World.cell?_of_block (w := w) (a := ⟨g, s, none⟩) hb).trans h6

/-- The state of the outer loop. -/
def RQ (l : List Ins) (W : World) (S n : Nat) (qv i : Value) (wr : World) : Prop := ∃ (sn : List Bool) (q : List Nat) (t : Nat) (qa : Option Addr) (qc : Nat), qv = .slice qa q.length qc ∧ i = .int .i64 (t : Int) ∧ QL l sn q t ∧ RcS W S n sn q (.slice qa q.length qc) wr
/-- The state of the inner loop. -/
def RN (l : List Ins) (W : World) (S n t p : Nat) (ns : List Int) (na : Option Addr) (qv i : Value) (wr : World) : Prop := ∃ (sn : List Bool) (q : List Nat) (t2 : Nat) (qa : Option Addr) (qc : Nat), qv = .slice qa q.length qc ∧ i = .int .i64 (t2 : Int) ∧ t2 ≤ ns.length ∧ QL l sn q t ∧ q[t]? = some p ∧ (∀ s j : Nat, s < t2 → ns[s]? = some (j : Int) → sn[j]? = some true) ∧ RcS W S n sn q (.slice qa q.length qc) wr ∧ NxT wr S na ns (.slice qa q.length qc)
set_option maxRecDepth 100000 in
set_option maxHeartbeats 4000000 in
theorem l8Reach_one (m : Cd) (k : CK) (w : World) (h : CL w m k) (hok : Okc m.list) :
    Calls Tryd.prog 71 #[aggC m k] w (fun e w' => ∃ (bs : List Bool) (a : Option Addr) (c : Nat), e = .returned (.slice a bs.length c) ∧ IsR m.list bs ∧ OwnB w' w.heap.size (.slice a bs.length c) bs ∧ Below w.heap.size w w') := by
  obtain ⟨i0, hi, hz0, hz1, hz2⟩ := info_parts Tryd.infoB
  obtain ⟨j0, hj, hj0, hj1, hj2⟩ := info_parts Tryd.infoI
  obtain ⟨W, hW⟩ : ∃ W, w.alloc (.cells (arrC m k) 30) = W := ⟨_, rfl⟩
  have hB : Below w.heap.size w W := by rw [← hW]; exact (Below.refl _ w).alloc (Nat.le_refl _) _
  have hX : BoxC W w.heap.size m k := by rw [← hW]; exact BoxC.new _ _ _ _
  have hz : W.heap.size = w.heap.size + 1 := by rw [← hW]; simp
  have H : Hid (∀ v, Below W.heap.size W v → BoxC v w.heap.size m k ∧ CL v m k) := fun v hv => ⟨hX.below hv hX.lt, (h.below hB).below hv⟩
  obtain ⟨n, hn⟩ : ∃ n, m.list.length = n := ⟨_, rfl⟩
  have hp := hok.pos
  have hle := hok.le
  rw [hn] at hp hle
  have c2 := hX.c2
  rw [hn] at c2
  have HN := Lib.hid hn
  have HW := Lib.hid hW
  have HB := Lib.hid hB
  have HO := Lib.hid hok
  unfold arrC at HW
  have HWZ : Hid (W.heap.size = w.heap.size + 1) := hz
  have HCA : Hid (∀ (v : World) (p : Nat) (x : Ins), CL v m k → m.list[p]? = some x → p < 400 → Calls Tryd.prog 90 #[.agg #[.slice k.va m.vars.length k.vc, .slice k.aa m.arrs.length k.ac, .slice k.la n k.lc], .int .i64 (p : Int)] v (IntsNew (folS x p) v)) := fun v p x h1 h2 h3 => by
    have h9 := l8Next_one m k p x v h1 h2 h3
    unfold aggC at h9
    rw [hn] at h9
    exact h9
  clear h hok hB hX hW hz hn
  go_enter Tryd.func71, Tryd.ntmps71
  go_wp2_with (first
    | rw [HW.out]
    | (at_make
       refine wpList_make_full _ rfl _ _ 54 rfl W.heap.size 4 i0 (.bool false) 1 Tryd.underlying54 hi hz0 hz1 .i64 .i64 (n : Int) (n : Int) n rfl rfl rfl rfl (by rw [hz2]; omega) (by unfold maxLen; omega) (Nat.le_refl _) ?_
       intro w1 hown1 hgrow1
       rw [falses] at hown1
       have hb1 : Below W.heap.size W w1 := (Below.refl _ W).grown hgrow1 (Nat.le_refl _) (fun k e => (by cases e))
       have hlt1 := (hown1.lt W.heap.size rfl).2
       have hc0 : w1.cell? ⟨W.heap.size, 0, none⟩ = some (.bool false) := (by rw [hown1.cellAt 0 (by omega), List.getElem?_map, List.getElem?_replicate, if_pos (by omega)]; rfl)
       have hf0 := hown1.frozenAt 0
       have hst := (hown1.stored 0 (.bool true)).1
       rw [← List.map_set] at hst
       have HR0 := Lib.hid (RcS.start hst hb1 hlt1)
       obtain ⟨B, hBB⟩ : ∃ B, w1.heap.size = B := ⟨_, rfl⟩
       obtain ⟨W2, hW2⟩ : ∃ W2, (w1.setCell ⟨W.heap.size, 0, none⟩ (.bool true)).alloc (.cells #[.int .i64 0] 3) = W2 := ⟨_, rfl⟩
       rw [hBB, hW2] at HR0
       have HBB := Lib.hid hBB
       have HW2 := Lib.hid hW2
       clear hz0 hz1 hz2 hst hb1 hgrow1 hown1 hW2 hBB))
  rw [HW2.out, HBB.out]
  have HQ0 : Hid (RQ m.list W W.heap.size n (.slice (some ⟨B, 0, none⟩) 1 1) (.int .i64 0) W2) := ⟨_, [0], 0, _, 1, rfl, rfl, by rw [← HN.out]; exact QL.start HO.out, HR0.out⟩
  clear HR0 hc0 hf0 hlt1 c2 HW2 HBB HW
  go_loopw [4, 5] (fun qv i wr => RQ m.list W W.heap.size n qv i wr) (fun _ i _ => n - (intOf i).toNat)
  case atStart => exact HQ0.out
  case round =>
    obtain ⟨sn, q, t, qa, qc, rfl, rfl, hq, hr⟩ := hrel
    obtain ⟨nq, hnq⟩ : ∃ nq, q.length = nq := ⟨_, rfl⟩
    have htq : t ≤ nq := by rw [← hnq]; exact hq.tq
    have hqn : nq ≤ n := by have h1 := hq.bd; rw [hnq, HN.out] at h1; omega
    rw [hnq] at hr ⊢
    have HQ := Lib.hid hq
    have HR := Lib.hid hr
    have HNQ := Lib.hid hnq
    obtain ⟨hbx, hcl⟩ := H.out wr hr.bel
    have x0 := hbx.c0
    have x1 := hbx.c1
    have x2 := hbx.c2
    rw [HN.out] at x2
    have HCL : Hid (CL wr.drew m k) := hcl.below (Below.refl _ wr).drew
    clear hq hr hnq HQ0 hbx hcl
    by_cases hlt : t < nq
    · obtain ⟨p, hp⟩ : ∃ p, q[t]? = some p := ⟨q[t]'(by rw [HNQ.out]; exact hlt), List.getElem?_eq_getElem _⟩
      have hpl : p < n := by rw [← HN.out]; exact (HQ.out.snd p (List.mem_of_getElem? hp)).lt HO.out
      obtain ⟨x, hx⟩ : ∃ x, m.list[p]? = some x := ⟨m.list[p]'(by rw [HN.out]; exact hpl), List.getElem?_eq_getElem _⟩
      obtain ⟨g, rfl, hSg, hgs, hqc⟩ := HR.out.qat hp
      have HP := Lib.hid hp
      have HX := Lib.hid hx
      clear hp hx
      go_wp2_with fail
      go_region_with (go_at_call 90; refine (HCA.out _ p x HCL.out HX.out (by omega)).mono ?_; rintro e w3 ⟨na, nc, rfl, hon, hb3⟩)
      all_goals
        have hB3 : Below wr.heap.size wr w3 := (Below.refl _ wr).drew.trans hb3
        have hon' : OwnI w3 wr.heap.size (.slice na (folS x p).length nc) (folS x p) := hon
        have HNX : Hid (NxT w3 W.heap.size na (folS x p) (.slice (some ⟨g, 0, none⟩) nq qc)) := NxT.of_own hon' HR.out.lt (fun g' e => by cases e; exact hgs)
        have HR3 := Lib.hid (HR.out.later hB3)
        obtain ⟨ns, hns⟩ : ∃ ns, folS x p = ns := ⟨_, rfl⟩
        have HNS := Lib.hid hns
        have hnl : ns.length ≤ 2 := by rw [← hns]; exact folS_len x p
        rw [hns] at HNX ⊢
        have HN0 : Hid (RN m.list W W.heap.size n t p ns na (.slice (some ⟨g, 0, none⟩) nq qc) (.int .i64 0) w3) := ⟨sn, q, 0, some ⟨g, 0, none⟩, qc, by rw [HNQ.out], rfl, Nat.zero_le _, HQ.out, HP.out, fun s j hs => absurd hs (Nat.not_lt_zero _), by rw [HNQ.out]; exact HR3.out, by rw [HNQ.out]; exact HNX.out⟩
        clear hon hon' hb3 hB3 hns HNX HR3 HR x0 x1 x2 hqc
        obtain ⟨nl, hnl'⟩ : ∃ nl, ns.length = nl := ⟨_, rfl⟩
        have HNL := Lib.hid hnl'
        rw [hnl'] at hnl ⊢
        clear hnl'
        go_wp2_with fail
        go_loopw [4, 7] (fun qv i wr2 => RN m.list W W.heap.size n t p ns na qv i wr2) (fun _ i _ => nl - (intOf i).toNat)
        case atStart => exact HN0.out
        case round =>
          obtain ⟨sn2, q2, t2, qa2, qc2, rfl, rfl, ht2, hq2, hp2, hall, hr2, hnx⟩ := hrel
          obtain ⟨nq2, hnq2⟩ : ∃ nq, q2.length = nq := ⟨_, rfl⟩
          have hqn2 : nq2 ≤ n := by have h1 := hq2.bd; rw [hnq2, HN.out] at h1; omega
          rw [hnq2] at hr2 hnx ⊢
          rw [HNL.out] at ht2
          have HQ2 := Lib.hid hq2
          have HP2 := Lib.hid hp2
          have HALL := Lib.hid hall
          have HR2 := Lib.hid hr2
          have HNX2 := Lib.hid hnx
          have HNQ2 := Lib.hid hnq2
          clear hq2 hp2 hall hr2 hnx hnq2 HN0
          by_cases hlt2 : t2 < nl
          · obtain ⟨z, hz⟩ : ∃ z, ns[t2]? = some z := ⟨ns[t2]'(by rw [HNL.out]; exact hlt2), List.getElem?_eq_getElem _⟩
            obtain ⟨j, hzj, hjf⟩ := (folS_mem HO.out HX.out z).1 (by rw [HNS.out]; exact List.mem_of_getElem? hz)
            subst hzj
            have hjn : j < n := by rw [← HN.out]; exact HO.out.fol HX.out hjf
            obtain ⟨gn, rfl, hgnS, hgnl, hgno, hgc⟩ := HNX2.out t2 _ hz
            obtain ⟨bb, hbb⟩ : ∃ b, sn2[j]? = some b := ⟨sn2[j]'(by rw [HQ2.out.len, HN.out]; exact hjn), List.getElem?_eq_getElem _⟩
            obtain ⟨hc1, hf1⟩ := HR2.out.bat hbb hjn
            have HZ2 := Lib.hid hz
            have HJF := Lib.hid hjf
            have HBB2 := Lib.hid hbb
            have HGN := Lib.hid hgno
            clear hz hjf hbb hgno
            cases bb
            case true =>
              have HREL : Hid (RN m.list W W.heap.size n t p ns (some ⟨gn, 0, none⟩) (.slice qa2 nq2 qc2) (.int .i64 ((t2 : Int) + 1)) wr) := by
                refine ⟨sn2, q2, t2 + 1, qa2, qc2, by rw [HNQ2.out], by go_num, by rw [HNL.out]; omega, HQ2.out, HP2.out, fun s j' hs hsj => ?_, by rw [HNQ2.out]; exact HR2.out, by rw [HNQ2.out]; exact HNX2.out⟩
                by_cases e : s = t2
                · subst e
                  rw [HZ2.out] at hsj
                  have : j' = j := by injection hsj with e; omega
                  rw [this]; exact HBB2.out
                · exact HALL.out s j' (by omega) hsj
              go_wp2_with fail
              go_roundw
              case rel => exact HREL.out
              case measure => simp [intOf]; omega
            case false =>
              obtain ⟨W4, hW4⟩ : ∃ W4, (wr.setCell ⟨W.heap.size, j, none⟩ (.bool true)).alloc (.cells #[.int .i64 (j : Int)] 3) = W4 := ⟨_, rfl⟩
              have hzs : (wr.setCell ⟨W.heap.size, j, none⟩ (.bool true)).heap.size = wr.heap.size := by simp [World.setCell]
              have hz4 : W4.heap.size = wr.heap.size + 1 := by rw [← hW4, World.size_alloc, hzs]
              have hblk : W4.heap[wr.heap.size]? = some (.cells #[.int .i64 (j : Int)] 3 (0, 0)) := by
                have h1 := heap_alloc_new (wr.setCell ⟨W.heap.size, j, none⟩ (.bool true)) (.cells #[.int .i64 (j : Int)] 3)
                rw [hzs] at h1
                rw [← hW4]; exact h1
              have hlS := HR2.out.lt
              have hown4 : W4.ownsRow (W.heap.size + 1) 3 1 (.slice qa2 nq2 qc2) nq2 ((natI q2).map (Value.int .i64)) := by
                have h1 := HR2.out.q
                rw [HNQ2.out] at h1
                rw [← hW4]
                exact (ownsRow_setCell_below h1 (a := ⟨W.heap.size, j, none⟩) (Nat.lt_succ_self _) _).alloc _
              have hg4 : W4.cell? ⟨gn, t2, none⟩ = some (.int .i64 (j : Int)) := by
                rw [← hW4]
                exact (World.cell?_of_block (w := wr) (a := ⟨gn, t2, none⟩) ((Below.heap_alloc _ _ _ (by rw [hzs]; exact hgnl)).trans (Below.heap_setCell _ _ _ _ (by simpa using hgnS)))).trans hgc
              have hg3 : (wr.setCell ⟨W.heap.size, j, none⟩ (.bool true)).cell? ⟨gn, t2, none⟩ = some (.int .i64 (j : Int)) := (World.cell?_of_block (w := wr) (a := ⟨gn, t2, none⟩) (Below.heap_setCell _ _ _ _ (by simpa using hgnS))).trans hgc
              have HW4 := Lib.hid hW4
              clear hW4 hg4
              go_wp2_with (first
                | (at_builtin
                   rw [HW4.out]
                   refine wpList_append_lies _ (by rfl) _ _ 22 (by rfl) (W.heap.size + 1) 3 j0 _ 1 8 Tryd.underlying22 hj hj0 hj1 hj2 rfl (by omega) (.slice qa2 nq2 qc2) nq2 _ (by rfl) hown4 ⟨wr.heap.size, 0, none⟩ 1 1 _ (by rfl) (by rfl) (World.news_of_block hblk) (by simp [Value.oneCell']) (by omega) (by unfold maxLen; omega) (by omega) (by omega) (wr.heap.size + 1) (by omega) ?_
                   intro g3 cp w5 hown5 hgrow hat hlt5)
                | fail)
              have HREL : Hid (RN m.list W W.heap.size n t p ns (some ⟨gn, 0, none⟩) (.slice (some ⟨g3, 0, none⟩) (nq2 + 1) cp) (.int .i64 ((t2 : Int) + 1)) w5) := by
                have hl2 : (q2 ++ [j]).length = nq2 + 1 := by rw [List.length_append, HNQ2.out]; rfl
                refine ⟨sn2.set j true, q2 ++ [j], t2 + 1, some ⟨g3, 0, none⟩, cp, by rw [hl2], by go_num, by rw [HNL.out]; omega, HQ2.out.push HP2.out HX.out HJF.out HBB2.out, ?_, fun s j' hs hsj => ?_, ?_, ?_⟩
                · rw [List.getElem?_append_left (List.getElem?_eq_some_iff.1 HP2.out).1]; exact HP2.out
                · rw [set_true (by rw [HQ2.out.len, HN.out]; exact hjn)]
                  by_cases e : s = t2
                  · subst e
                    rw [HZ2.out] at hsj
                    left; injection hsj with e; omega
                  · exact .inr (HALL.out s j' (by omega) hsj)
                · rw [hl2]
                  exact HR2.out.push hjn HW4.out.symm hgrow (by rw [HNQ2.out]; exact hown5)
                · rw [hl2]
                  refine HNX2.out.push HW4.out.symm hgrow ?_
                  rcases hat with e | e
                  · left; rw [e]; rfl
                  · right; exact ⟨g3, rfl, by omega⟩
              clear hown5 hgrow hat hblk hown4
              go_wp2_with fail
              go_roundw
              case rel => exact HREL.out
              case measure => simp [intOf]; omega
          · obtain rfl : t2 = nl := by omega
            have HREL : Hid (RQ m.list W W.heap.size n (.slice qa2 nq2 qc2) (.int .i64 ((t : Int) + 1)) wr) := by
              refine ⟨sn2, q2, t + 1, qa2, qc2, by rw [HNQ2.out], by go_num, HQ2.out.next HP2.out HX.out fun j hjf => ?_, by rw [HNQ2.out]; exact HR2.out⟩
              have hm := (folS_mem HO.out HX.out (j : Int)).2 ⟨j, rfl, hjf⟩
              rw [HNS.out] at hm
              obtain ⟨s, hs⟩ := List.mem_iff_getElem?.1 hm
              exact HALL.out s j (by rw [← HNL.out]; exact (List.getElem?_eq_some_iff.1 hs).1) hs
            go_wp2_with fail
            go_roundw
            case rel => exact HREL.out
            case measure => simp [intOf]; omega
    · obtain rfl : t = nq := by omega
      have HFIN : Hid (∃ (bs : List Bool) (a : Option Addr) (c : Nat), Ending.returned (.slice (some ⟨W.heap.size, 0, none⟩) n n) = .returned (.slice a bs.length c) ∧ IsR m.list bs ∧ OwnB wr w.heap.size (.slice a bs.length c) bs ∧ Below w.heap.size w wr) := by
        have hl : sn.length = n := HQ.out.len.trans HN.out
        have hq := HQ.out
        rw [← HNQ.out] at hq
        refine ⟨sn, some ⟨W.heap.size, 0, none⟩, n, by rw [hl], hq.done, ?_, HB.out.trans (HR.out.bel.mono HB.out.size)⟩
        unfold OwnB
        rw [hl]
        exact ownsRow_mono HR.out.b HB.out.size
      clear HR x0 x1 x2
      go_wp2_with fail
      go_ret
      exact HFIN.out

end Go.Proofs.YtodihpnnajlkdaaDoor

/- spec.l9Infer, walked: it hands back the least taint map of valid code. -/
import Derived.Test.YtjgmhncfijegmaaDoorTnJ
import Derived.Test.YtjgmhncfijegmaaDoorBb
namespace Go.Proofs.YtjgmhncfijegmaaDoor
open Go.RowKit
set_option linter.unusedVariables false

theorem rowB_start : (List.replicate 14 false) = rowB 16384 := by decide
theorem slices0 (n : Nat) : (madeCells (Value.slice none 0 0).cells (n * 1)).toList = List.replicate n (.slice none 0 0) := by
  rw [Nat.mul_one]
  exact toList_madeCells_one _ _
theorem TnS.first {W : World} {S n : Nat} {rs : List Nat} {w : World} (h : TnS W S n rs [] (.slice none 0 0) w) : TnS W S n rs [0] (.slice (some ⟨w.heap.size, 0, none⟩) 1 1) (w.alloc (.cells #[.int .i64 0] 3)) := by
  have hb : Below w.heap.size w (w.alloc (.cells #[.int .i64 0] 3)) := (Below.refl _ w).alloc (Nat.le_refl _) _
  obtain ⟨L, h1, h2⟩ := h.row
  have hlt := h.lt
  refine ⟨⟨L, h1.alloc _, fun i m hm => ?_⟩, ⟨rfl, .inr ⟨w.heap.size, 1, #[.int .i64 0], rfl, by omega, heap_alloc_new w _, Nat.le_refl _, by unfold maxLen; omega, rfl, rfl⟩⟩, h.bel.alloc (by omega) _, by rw [World.size_alloc]; omega⟩
  obtain ⟨ra, rc, e1, e2⟩ := h2 i m hm
  exact ⟨ra, rc, e1, e2.wide (fun k hk => hb.block k hk.2.1) fun k hk => ⟨hk.1, by rw [World.size_alloc]; have := hk.2.1; omega, fun e => by
    have e' : w.heap.size = k := by simpa [Value.ownBlock] using e
    have := hk.2.1
    omega⟩⟩
theorem TnS.start {W w1 w2 : World} {S n : Nat} (hn : 0 < n) (h1 : w1.ownsRow S 63 1 (.slice (some ⟨S, 0, none⟩) n n) n (List.replicate n (.slice none 0 0))) (hb1 : Below S W w1) (h2 : w2.ownsRow w1.heap.size 4 1 (.slice (some ⟨w1.heap.size, 0, none⟩) 14 14) 14 ((List.replicate 14 false).map Value.bool)) (hb2 : Below w1.heap.size w1 w2) :
    TnS W S n ((List.replicate n 0).set 0 16384) [0] (.slice (some ⟨w2.heap.size, 0, none⟩) 1 1) ((w2.setCell ⟨S, 0, none⟩ (.slice (some ⟨w1.heap.size, 0, none⟩) 14 14)).alloc (.cells #[.int .i64 0] 3)) := by
  have hS := (h1.lt S rfl).2
  have hs2 := hb2.size
  have hg : w1.grownBy w2 none := ⟨hb2.os, hb2.tape, hb2.output, hb2.size, fun k hk _ => hb2.block k hk⟩
  have hz : (w2.setCell ⟨S, 0, none⟩ (.slice (some ⟨w1.heap.size, 0, none⟩) 14 14)).heap.size = w2.heap.size := by simp [World.setCell]
  have h0 : TnS W S n (List.replicate n 0) [] (.slice none 0 0) w2 := ⟨⟨_, h1.kept hg (.inr (by simp [Value.ownBlock])), fun i m hm => by
    have hm' : m = 0 ∧ i < n := by
      rw [List.getElem?_replicate] at hm
      split at hm
      · rename_i hi
        injection hm with hm
        exact ⟨hm.symm, hi⟩
      · cases hm
    obtain ⟨rfl, hi⟩ := hm'
    refine ⟨none, 0, by rw [List.getElem?_replicate, if_pos hi]; rfl, ⟨by rw [rowB_0]; simp, fun i x hx => by rw [rowB_0] at hx; simp at hx⟩⟩⟩, World.ownsRow_nil _ _ _ _, hb1.trans (hb2.mono (by omega)), by omega⟩
  have hob : OwnB w2 w1.heap.size (.slice (some ⟨w1.heap.size, 0, none⟩) 14 14) (List.replicate 14 false) := by unfold OwnB; rw [List.length_replicate]; exact h2
  obtain ⟨_, _, _, hbat⟩ := hob.bat
  rw [rowB_start] at hbat
  have h3 := (h0.put (j := 0) (m' := 16384) (ra := some ⟨w1.heap.size, 0, none⟩) (rc := 14) hn (hbat.wide (fun _ _ => rfl) fun k hk => ⟨by omega, hk.2, by simp [Value.ownBlock]⟩) (by decide)).first
  rw [hz] at h3
  exact h3
theorem TnS.push {W : World} {S n : Nat} {rs q : List Nat} {qv v' : Value} {w w4 w5 : World} {j : Nat} {T : TypeId} (h : TnS W S n rs q qv w)
    (h4 : w4 = w.alloc (.cells #[.int .i64 (j : Int)] T)) (hg : w4.grownBy w5 qv.ownBlock) (hat : v'.ownBlock = qv.ownBlock ∨ ∃ g, v'.ownBlock = some g ∧ w.heap.size ≤ g) (ho : w5.ownsRow (S + 1) 3 1 v' (q.length + 1) ((natI q).map (Value.int .i64) ++ [.int .i64 (j : Int)])) : TnS W S n rs (q ++ [j]) v' w5 := by
  have hlt := h.lt
  have hq0 : ∀ g, qv.ownBlock = some g → S + 1 ≤ g := fun g hg => (h.q.lt g hg).1
  have hb4 : Below S W w4 := by rw [h4]; exact h.bel.alloc (by omega) _
  have hz4 : w4.heap.size = w.heap.size + 1 := by rw [h4, World.size_alloc]
  obtain ⟨L, h1, h2⟩ := h.row
  have h1' : w4.ownsRow S 63 1 (.slice (some ⟨S, 0, none⟩) n n) n L := by rw [h4]; exact h1.alloc _
  refine ⟨⟨L, h1'.kept hg (.inr fun e => ?_), fun i m hm => ?_⟩, ?_, hb4.grown hg (by omega) fun k hk => ?_, by have := hg.size; omega⟩
  · have := hq0 S (by rw [← e]; rfl)
    omega
  · obtain ⟨ra, rc, e1, e2⟩ := h2 i m hm
    exact ⟨ra, rc, e1, e2.wide (fun k hk => (hk.push h4 hg hat).1) fun k hk => (hk.push h4 hg hat).2⟩
  · rw [natI_app, List.map_append, List.length_append]; exact ho
  · have := hq0 k hk; omega

/-- The numbers under look lie in a row of their own. -/
def NxF (w : World) (S : Nat) (na : Option Addr) (ns : List Int) (qv : Value) : Prop := ∀ (s : Nat) (z : Int), ns[s]? = some z → ∃ g, na = some ⟨g, 0, none⟩ ∧ Frm S w qv g ∧ w.cell? ⟨g, s, none⟩ = some (.int .i64 z)
theorem NxF.of_own {w3 : World} {base S nc : Nat} {na : Option Addr} {ns : List Int} {qv : Value} (h : OwnI w3 base (.slice na ns.length nc) ns) (hS : S < base) (hq : ∀ g, qv.ownBlock = some g → g < base) : NxF w3 S na ns qv := fun s z hz => by
  have hs := (List.getElem?_eq_some_iff.1 hz).1
  rcases h.2 with ⟨_, h2⟩ | ⟨g, cp, cur, e1, e2, e3, e4⟩
  · omega
  · cases e1
    refine ⟨g, rfl, ⟨by omega, (Array.getElem?_eq_some_iff.1 e3).1, fun e => by have := hq g e; omega⟩, ?_⟩
    have h' : w3.ownsRow base 3 1 (.slice (some ⟨g, 0, none⟩) ns.length nc) ns.length (ns.map (Value.int .i64)) := h
    rw [h'.cellAt s (by omega)]
    simp [hz]
theorem NxF.move {w w' : World} {S : Nat} {na : Option Addr} {ns : List Int} {qv v' : Value} (h : NxF w S na ns qv) (hm : ∀ b, Frm S w qv b → w'.heap[b]? = w.heap[b]? ∧ Frm S w' v' b) : NxF w' S na ns v' := fun s z hz => by
  obtain ⟨g, h1, h2, h3⟩ := h s z hz
  obtain ⟨h4, h5⟩ := hm g h2
  exact ⟨g, h1, h5, (World.cell?_of_block (w := w) (a := ⟨g, s, none⟩) h4).trans h3⟩
theorem BAt.move {w w' : World} {S : Nat} {r : List Bool} {A : Option Addr} {qv v' : Value} (h : BAt w (Frm S w qv) r A) (hm : ∀ b, Frm S w qv b → w'.heap[b]? = w.heap[b]? ∧ Frm S w' v' b) : BAt w' (Frm S w' v') r A := h.wide (fun k hk => (hm k hk).1) fun k hk => (hm k hk).2
theorem Frm.later {S : Nat} {w w' : World} {qv : Value} (hb : Below w.heap.size w w') (b : Nat) (h : Frm S w qv b) : w'.heap[b]? = w.heap[b]? ∧ Frm S w' qv b := ⟨hb.block b h.2.1, h.1, Nat.lt_of_lt_of_le h.2.1 hb.size, h.2.2⟩
theorem Frm.put {S : Nat} {w : World} {qv : Value} (j : Nat) (u : Value) (b : Nat) (h : Frm S w qv b) : (w.setCell ⟨S, j, none⟩ u).heap[b]? = w.heap[b]? ∧ Frm S (w.setCell ⟨S, j, none⟩ u) qv b := ⟨Below.heap_setCell _ _ _ _ (by have := h.1; simp; omega), h.1, by simpa [World.setCell] using h.2.1, h.2.2⟩

/-- The state of the outer loop. -/
def RQt (sv sa : Nat → Bool) (l : List Ins) (W : World) (S n : Nat) (qv i : Value) (wr : World) : Prop := ∃ (rs q : List Nat) (t : Nat) (qa : Option Addr) (qc : Nat), qv = .slice qa q.length qc ∧ i = .int .i64 (t : Int) ∧ t ≤ q.length ∧ TL sv sa l rs (q.drop t) t ∧ TnS W S n rs q (.slice qa q.length qc) wr
/-- The followers that have been looked at. -/
def doneN (ns : List Int) (s : Nat) : List Nat := (ns.take s).map Int.toNat
theorem doneN_succ {ns : List Int} {s j : Nat} (h : ns[s]? = some (j : Int)) : doneN ns (s + 1) = doneN ns s ++ [j] := by
  unfold doneN
  rw [List.take_add_one, h]
  simp
/-- The state of the inner loop. -/
def RNt (sv sa : Nat → Bool) (l : List Ins) (W : World) (S n t p m0 : Nat) (x : Ins) (ns : List Int) (na ta : Option Addr) (qv i : Value) (wr : World) : Prop := ∃ (rs q : List Nat) (s : Nat) (qa : Option Addr) (qc : Nat), qv = .slice qa q.length qc ∧ i = .int .i64 (s : Int) ∧ s ≤ ns.length ∧ t < q.length ∧ TI sv sa l rs (q.drop (t + 1)) t p m0 x (doneN ns s) ∧ TnS W S n rs q (.slice qa q.length qc) wr ∧ NxF wr S na ns (.slice qa q.length qc) ∧ BAt wr (Frm S wr (.slice qa q.length qc)) (rowB (aftM sv sa x m0)) ta
theorem RQt.q {sv sa : Nat → Bool} {l : List Ins} {rs q : List Nat} {t : Nat} (h : TL sv sa l rs (q.drop t) t) (ht : t ≤ q.length) : q.length ≤ 15 * l.length := by
  have h1 := h.few
  rw [List.length_drop] at h1
  omega
theorem TI.q {sv sa : Nat → Bool} {l : List Ins} {rs q : List Nat} {t p m0 : Nat} {x : Ins} {dn : List Nat} (h : TI sv sa l rs (q.drop (t + 1)) t p m0 x dn) (ht : t < q.length) : q.length ≤ 15 * l.length := by
  have h1 := h.few
  rw [List.length_drop] at h1
  omega

/-- The least map lies in memory. -/
def TntN (sv sa : Nat → Bool) (l : List Ins) (n : Nat) (w : World) (e : Ending) (w' : World) : Prop := ∃ (rs : List Nat) (a : Option Addr) (c : Nat), e = .returned (.slice a n c) ∧ IsT sv sa l rs ∧ BBs w' (fun b => b < w'.heap.size) (rs.map rowB) a ∧ Below w.heap.size w w'
theorem TnS.bbs {W : World} {S n : Nat} {rs q : List Nat} {qv : Value} {w : World} (h : TnS W S n rs q qv w) (hl : rs.length = n) (hm : n ≤ maxLen) : BBs w (fun b => b < w.heap.size) (rs.map rowB) (some ⟨S, 0, none⟩) := by
  refine ⟨by rw [List.length_map, hl]; exact hm, fun i r hr => ?_⟩
  rw [List.getElem?_map] at hr
  cases hq : rs[i]? with
  | none => rw [hq] at hr; cases hr
  | some m =>
    rw [hq] at hr
    cases hr
    have hi : i < n := by rw [← hl]; exact (List.getElem?_eq_some_iff.1 hq).1
    obtain ⟨ra, rc, h1, h2, _⟩ := h.at hq hi
    exact ⟨S, 0, ra, rc, rfl, h.lt, by rw [Nat.zero_add]; exact h1, h2.wide (fun _ _ => rfl) fun k hk => hk.2.1⟩

set_option maxRecDepth 100000 in
set_option maxHeartbeats 8000000 in
/-- **spec.l9Infer.** -/
theorem sInf_one (m : Cd) (k : CK) (w : World) (h : CL w m k) (hcb : codeB m = true) :
    Calls Tryd.prog 41 #[aggC m k] w (TntN (secN m.vars) (secN m.arrs) m.list m.list.length w) := by
  obtain ⟨i0, hi, hz0, hz1, hz2⟩ := info_parts Tryd.infoBB
  obtain ⟨b0, hbi, hbz0, hbz1, hbz2⟩ := info_parts Tryd.infoB
  obtain ⟨j0, hj, hj0, hj1, hj2⟩ := info_parts Tryd.infoI
  obtain ⟨W, hW⟩ : ∃ W, w.alloc (.cells (arrC m k) 30) = W := ⟨_, rfl⟩
  have hB : Below w.heap.size w W := by rw [← hW]; exact (Below.refl _ w).alloc (Nat.le_refl _) _
  have hX : BoxC W w.heap.size m k := by rw [← hW]; exact BoxC.new _ _ _ _
  have hz : W.heap.size = w.heap.size + 1 := by rw [← hW]; simp
  have H : Hid (∀ v, Below W.heap.size W v → BoxC v w.heap.size m k ∧ CL v m k) := fun v hv => ⟨hX.below hv hX.lt, (h.below hB).below hv⟩
  obtain ⟨n, hn⟩ : ∃ n, m.list.length = n := ⟨_, rfl⟩
  have hok := codeB_ok hcb
  have hp := hok.pos
  have hle := hok.le
  rw [hn] at hp hle
  have c2 := hX.c2
  rw [hn] at c2
  have HN := Lib.hid hn
  have HW := Lib.hid hW
  have HB := Lib.hid hB
  have HO := Lib.hid hok
  have HD := Lib.hid (codeB_decl hcb)
  have HIT : Hid (∀ (i : Nat) (x : Ins), m.list[i]? = some x → InsT m.vars.length m.arrs.length x) := fun i x hx => codeB_ins hcb hx
  unfold arrC at HW
  have HWZ : Hid (W.heap.size = w.heap.size + 1) := hz
  have HCA : Hid (∀ (v : World) (p : Nat) (x : Ins), CL v m k → m.list[p]? = some x → p < 400 → Calls Tryd.prog 54 #[.agg #[.slice k.va m.vars.length k.vc, .slice k.aa m.arrs.length k.ac, .slice k.la n k.lc], .int .i64 (p : Int)] v (IntsNew (folS x p) v)) := fun v p x h1 h2 h3 => by
    have h9 := l8Next_one m k p x v h1 h2 h3
    unfold aggC at h9
    rw [hn] at h9
    exact h9
  rw [hn]
  clear h hok hcb hB hX hW hz hn
  go_enter Tryd.func41, Tryd.ntmps41
  go_wp2_with (first
    | rw [HW.out]
    | (at_make
       refine wpList_make_full _ rfl _ _ 36 rfl W.heap.size 63 i0 (.slice none 0 0) 1 Tryd.underlying36 hi hz0 hz1 .i64 .i64 (n : Int) (n : Int) n rfl rfl rfl rfl (by rw [hz2]; omega) (by unfold maxLen; omega) (Nat.le_refl _) ?_
       intro w1 hown1 hgrow1
       rw [slices0] at hown1
       have hb1 : Below W.heap.size W w1 := (Below.refl _ W).grown hgrow1 (Nat.le_refl _) (fun k e => (by cases e)))
    | (at_make
       refine wpList_make_full _ rfl _ _ 63 rfl w1.heap.size 4 b0 (.bool false) 1 Tryd.underlying63 hbi hbz0 hbz1 .i64 .i64 14 14 14 rfl rfl rfl rfl (by rw [hbz2]; omega) (by unfold maxLen; omega) (Nat.le_refl _) ?_
       intro w2 hown2 hgrow2
       rw [falses] at hown2
       have hb2 : Below w1.heap.size w1 w2 := (Below.refl _ w1).grown hgrow2 (Nat.le_refl _) (fun k e => (by cases e))
       have hS1 := (hown1.lt W.heap.size rfl).2
       have hown12 := hown1.kept hgrow2 (.inr (by simp [Value.ownBlock]))
       have hc0 : w2.cell? ⟨W.heap.size, 0, none⟩ = some (.slice none 0 0) := (by rw [hown12.cellAt 0 (by omega), List.getElem?_replicate, if_pos (by omega)])
       have hf0 := hown12.frozenAt 0
       have HR0 := Lib.hid (TnS.start (by omega) hown1 hb1 hown2 hb2)
       clear hown1 hown2 hgrow1 hgrow2 hb1 hown12)
    | fail)
  obtain ⟨B, hBB⟩ : ∃ B, w2.heap.size = B := ⟨_, rfl⟩
  have hzs : (w2.setCell ⟨W.heap.size, 0, none⟩ (.slice (some ⟨w1.heap.size, 0, none⟩) 14 14)).heap.size = w2.heap.size := by simp [World.setCell]
  obtain ⟨W3, hW3⟩ : ∃ W3, (w2.setCell ⟨W.heap.size, 0, none⟩ (.slice (some ⟨w1.heap.size, 0, none⟩) 14 14)).alloc (.cells #[.int .i64 0] 3) = W3 := ⟨_, rfl⟩
  rw [hBB, hW3] at HR0
  rw [hW3, hBB]
  have HQ0 : Hid (RQt (secN m.vars) (secN m.arrs) m.list W W.heap.size n (.slice (some ⟨B, 0, none⟩) 1 1) (.int .i64 0) W3) := by
    have h1 := TL.start (sv := secN m.vars) (sa := secN m.arrs) HO.out
    rw [HN.out] at h1
    exact ⟨_, [0], 0, _, 1, rfl, rfl, Nat.zero_le _, h1, HR0.out⟩
  clear HR0 hc0 hf0 hS1 c2 hW3 HW hzs hb2 hBB hi hz0 hz1 hz2 hbi hbz0 hbz1 hbz2
  have hcap : 15 * n ≤ 6000 := by omega
  go_loopw [4, 5] (fun qv i wr => RQt (secN m.vars) (secN m.arrs) m.list W W.heap.size n qv i wr) (fun _ i _ => 15 * n - (intOf i).toNat)
  case atStart => exact HQ0.out
  case round =>
    obtain ⟨rs, q, t, qa, qc, rfl, rfl, htq, htl, hts⟩ := hrel
    obtain ⟨nq, hnq⟩ : ∃ nq, q.length = nq := ⟨_, rfl⟩
    have hqn : nq ≤ 15 * n := by have h1 := RQt.q htl htq; rw [hnq, HN.out] at h1; exact h1
    rw [hnq] at hts htq ⊢
    have HTL := Lib.hid htl
    have HTS := Lib.hid hts
    have HNQ := Lib.hid hnq
    obtain ⟨hbx, hcl⟩ := H.out wr hts.bel
    have x0 := hbx.c0
    have x1 := hbx.c1
    have x2 := hbx.c2
    rw [HN.out] at x2
    have HCL : Hid (CL wr m k) := hcl
    have HBX : Hid (BoxC wr w.heap.size m k) := hbx
    clear htl hts hnq HQ0 hbx hcl
    by_cases hlt : t < nq
    · obtain ⟨p, hp'⟩ : ∃ p, q[t]? = some p := ⟨q[t]'(by rw [HNQ.out]; exact hlt), List.getElem?_eq_getElem _⟩
      have hdrop : q.drop t = p :: q.drop (t + 1) := by
        rw [List.drop_eq_getElem_cons (by rw [HNQ.out]; exact hlt)]
        rw [List.getElem?_eq_getElem (by rw [HNQ.out]; exact hlt)] at hp'
        injection hp' with hp'
        rw [hp']
      have htl2 := HTL.out
      rw [hdrop] at htl2
      obtain ⟨x, m0, hx, hm0, hti⟩ := htl2.take
      have hpn : p < n := by rw [← HN.out]; exact (List.getElem?_eq_some_iff.1 hx).1
      obtain ⟨g, rfl, hSg, hgs, hqc⟩ := HTS.out.qat hp'
      obtain ⟨pa, pc, hpc, hpb, _⟩ := HTS.out.at hm0 hpn
      have h0 : m0 ≠ 0 := bit_ne hti.g0.2
      rw [rowB_len h0] at hpc
      obtain ⟨bi, oi, hla, hbil, e0, e1, e2, e3, e4⟩ := HCL.out.2.2.2 p x hx
      have HTI := Lib.hid hti
      have HX := Lib.hid hx
      have HAFT : Hid (Calls Tryd.prog 53 #[.agg #[.slice k.va m.vars.length k.vc, .slice k.aa m.arrs.length k.ac, .slice (some ⟨bi, oi, none⟩) n k.lc], aggI x, .slice pa 14 pc] wr.drew (RowN (rowB (aftM (secN m.vars) (secN m.arrs) x m0)) wr.drew)) := by
        have h9 := sAft_one m k x m0 pa pc wr.drew (HCL.out.below (Below.refl _ wr).drew) HD.out (HIT.out p x hx) hti.g0.1 hti.g0.2 (hpb.wide (fun _ _ => rfl) fun b hb => hb.2.1)
        unfold aggC at h9
        rw [HN.out, hla] at h9
        exact h9
      have HSB : Hid (∀ v, Below wr.heap.size wr v → v.cell? ⟨w.heap.size, 0, none⟩ = some (.slice k.va m.vars.length k.vc) ∧ v.cell? ⟨w.heap.size, 1, none⟩ = some (.slice k.aa m.arrs.length k.ac) ∧ v.cell? ⟨w.heap.size, 2, none⟩ = some (.slice (some ⟨bi, oi, none⟩) n k.lc) ∧ v.cell? ⟨bi, oi + p * 5, none⟩ = some (.int .i64 x.op) ∧ v.cell? ⟨bi, oi + p * 5 + 1, none⟩ = some (.int .i64 x.fa) ∧ v.cell? ⟨bi, oi + p * 5 + 2, none⟩ = some (.int .i64 x.fb) ∧ v.cell? ⟨bi, oi + p * 5 + 3, none⟩ = some (.int .i64 x.fc) ∧ v.cell? ⟨bi, oi + p * 5 + 4, none⟩ = some (.int .i64 x.fd) ∧ v.cell? ⟨W.heap.size, p, none⟩ = some (.slice pa 14 pc)) := fun v hv => by
        have b := HBX.out.below hv HBX.out.lt
        have b2 := b.c2
        rw [HN.out, hla] at b2
        exact ⟨b.c0, b.c1, b2, (hv.cell (p := ⟨bi, _, none⟩) hbil).trans e0, (hv.cell (p := ⟨bi, _, none⟩) hbil).trans e1, (hv.cell (p := ⟨bi, _, none⟩) hbil).trans e2, (hv.cell (p := ⟨bi, _, none⟩) hbil).trans e3, (hv.cell (p := ⟨bi, _, none⟩) hbil).trans e4, (hv.cell (p := ⟨W.heap.size, p, none⟩) HTS.out.lt).trans hpc⟩
      have HLA := Lib.hid hla
      rw [hla] at x2
      clear hp' hx hdrop htl2 hti hpb hpc h0 e0 e1 e2 e3 e4 hbil hla hm0
      go_wp2_with fail
      refine wp_region_held_drew (S := fun v => v.cell? ⟨w.heap.size, 0, none⟩ = some (.slice k.va m.vars.length k.vc) ∧ v.cell? ⟨w.heap.size, 1, none⟩ = some (.slice k.aa m.arrs.length k.ac) ∧ v.cell? ⟨w.heap.size, 2, none⟩ = some (.slice (some ⟨bi, oi, none⟩) n k.lc) ∧ v.cell? ⟨bi, oi + p * 5, none⟩ = some (.int .i64 x.op) ∧ v.cell? ⟨bi, oi + p * 5 + 1, none⟩ = some (.int .i64 x.fa) ∧ v.cell? ⟨bi, oi + p * 5 + 2, none⟩ = some (.int .i64 x.fb) ∧ v.cell? ⟨bi, oi + p * 5 + 3, none⟩ = some (.int .i64 x.fc) ∧ v.cell? ⟨bi, oi + p * 5 + 4, none⟩ = some (.int .i64 x.fd) ∧ v.cell? ⟨W.heap.size, p, none⟩ = some (.slice pa 14 pc)) (by kernel_rfl) (HSB.out wr (Below.refl _ _)) (fun hHeld => ?_)
      refine wpAnyH_take (i := 0) (oi := ⟨some 30, _, _, _, _, _⟩) (v := ?_) rfl (by kernel_rfl) (by kernel_rfl) (by kernel_rfl) (fun _ _ _ h => h) (Or.inl ⟨by rfl, ?_⟩) (by assumption) ?_
      rotate_left
      · intro w hSw; (try dsimp only at hSw); go_simp; (try with_reducible rfl)
      simp only [Act.put, List.setIfInBounds_toArray, List.set_cons_zero, List.set_cons_succ]
      refine wpAnyH_take (i := 1) (oi := ⟨some 31, _, _, _, _, _⟩) (v := ?_) rfl (by kernel_rfl) (by kernel_rfl) (by kernel_rfl) (fun _ _ _ h => h) (Or.inl ⟨by rfl, ?_⟩) (by assumption) ?_
      rotate_left
      · intro w hSw; (try dsimp only at hSw); go_simp; (try with_reducible rfl)
      simp only [Act.put, List.setIfInBounds_toArray, List.set_cons_zero, List.set_cons_succ]
      refine wpAnyH_take (i := 2) (oi := ⟨some 32, _, _, _, _, _⟩) (v := ?_) rfl (by kernel_rfl) (by kernel_rfl) (by kernel_rfl) (fun _ _ _ h => h) (Or.inl ⟨by rfl, ?_⟩) (by assumption) ?_
      rotate_left
      · intro w hSw; (try dsimp only at hSw); go_simp; (try with_reducible rfl)
      simp only [Act.put, List.setIfInBounds_toArray, List.set_cons_zero, List.set_cons_succ]
      refine wpAnyH_take (i := 3) (oi := ⟨some 33, _, _, _, _, _⟩) (v := ?_) rfl (by kernel_rfl) (by kernel_rfl) (by kernel_rfl) (fun _ _ _ h => h) (Or.inl ⟨by rfl, ?_⟩) (by assumption) ?_
      rotate_left
      · intro w hSw; (try dsimp only at hSw); go_simp; (try with_reducible rfl)
      simp only [Act.put, List.setIfInBounds_toArray, List.set_cons_zero, List.set_cons_succ]
      refine wpAnyH_take (i := 4) (oi := ⟨some 34, _, _, _, _, _⟩) (v := ?_) rfl (by kernel_rfl) (by kernel_rfl) (by kernel_rfl) (fun _ _ _ h => h) (Or.inl ⟨by rfl, ?_⟩) (by assumption) ?_
      rotate_left
      · intro w hSw; (try dsimp only at hSw); go_simp; (try with_reducible rfl)
      simp only [Act.put, List.setIfInBounds_toArray, List.set_cons_zero, List.set_cons_succ]
      refine wpAnyH_take (i := 5) (oi := ⟨some 35, _, _, _, _, _⟩) (v := ?_) rfl (by kernel_rfl) (by kernel_rfl) (by kernel_rfl) (fun _ _ _ h => h) (Or.inl ⟨by rfl, ?_⟩) (by assumption) ?_
      rotate_left
      · intro w hSw; (try dsimp only at hSw); go_simp; (try with_reducible rfl)
      simp only [Act.put, List.setIfInBounds_toArray, List.set_cons_zero, List.set_cons_succ]
      refine wpAnyH_take (i := 6) (oi := ⟨some 36, _, _, _, _, _⟩) (v := ?_) rfl (by kernel_rfl) (by kernel_rfl) (by kernel_rfl) (fun _ _ _ h => h) (Or.inl ⟨by rfl, ?_⟩) (by assumption) ?_
      rotate_left
      · intro w hSw; (try dsimp only at hSw); go_simp; (try with_reducible rfl)
      simp only [Act.put, List.setIfInBounds_toArray, List.set_cons_zero, List.set_cons_succ]
      refine wpAnyH_take (i := 7) (oi := ⟨some 37, _, _, _, _, _⟩) (v := ?_) rfl (by kernel_rfl) (by kernel_rfl) (by kernel_rfl) (fun _ _ _ h => h) (Or.inl ⟨by rfl, ?_⟩) (by assumption) ?_
      rotate_left
      · intro w hSw; (try dsimp only at hSw); go_simp; (try with_reducible rfl)
      simp only [Act.put, List.setIfInBounds_toArray, List.set_cons_zero, List.set_cons_succ]
      refine wpAnyH_take (i := 8) (oi := ⟨some 38, _, _, _, _, _⟩) (v := ?_) rfl (by kernel_rfl) (by kernel_rfl) (by kernel_rfl) (fun _ _ _ h => h) (Or.inl ⟨by rfl, ?_⟩) (by assumption) ?_
      rotate_left
      · intro w hSw; (try dsimp only at hSw); go_simp; (try with_reducible rfl)
      simp only [Act.put, List.setIfInBounds_toArray, List.set_cons_zero, List.set_cons_succ]
      refine wpAnyH_take (i := 9) (oi := ⟨some 39, _, _, _, _, _⟩) (v := ?_) rfl (by kernel_rfl) (by kernel_rfl) (by kernel_rfl) (fun _ _ _ h => h) (Or.inl ⟨by rfl, ?_⟩) (by assumption) ?_
      rotate_left
      · intro w hSw; (try dsimp only at hSw); go_simp; (try with_reducible rfl)
      simp only [Act.put, List.setIfInBounds_toArray, List.set_cons_zero, List.set_cons_succ]
      refine wpAnyH_ready (rs := [10]) (by kernel_rfl) (by simp) ?_
      refine AllReadyH.cons (o := ⟨some 40, _, _, _, _, _⟩) rfl (fun K hK => ?_) AllReadyH.nil
      go_simp
      refine (HAFT.out).mono ?_
      rintro e w3 ⟨ta, tc, rfl, hto, htl, hb3⟩
      have hB3 : Below wr.heap.size wr w3 := (Below.refl _ wr).drew.trans hb3
      have hS3 := HSB.out w3 hB3
      go_wp2_with fail
      refine hK.out _ _ hS3 (fun hHeld => ?_)
      clear hK K
      try simp only [Act.put, List.setIfInBounds_toArray, List.set_cons_zero, List.set_cons_succ]
      refine wpAnyH_take (i := 11) (oi := ⟨some 7, _, _, _, _, _⟩) (v := ?_) rfl (by kernel_rfl) (by kernel_rfl) (by kernel_rfl) (fun _ _ _ h => h) (Or.inl ⟨by rfl, ?_⟩) (by assumption) ?_
      rotate_left
      · intro w hSw; (try dsimp only at hSw); go_simp; (try with_reducible rfl)
      simp only [Act.put, List.setIfInBounds_toArray, List.set_cons_zero, List.set_cons_succ]
      refine wpAnyH_done (by kernel_rfl) ?_ _
      have hB03 : Below wr.heap.size wr w3 := hB3
      have HTS3 := Lib.hid (HTS.out.later hB03)
      have hCL3 := HCL.out.below hB03
      have hbx3 := HBX.out.below hB03 HBX.out.lt
      have y0 := hbx3.c0
      have y1 := hbx3.c1
      have y2 := hbx3.c2
      rw [HN.out, HLA.out] at y2
      obtain ⟨_, _, _, hbat⟩ := hto.bat
      have hqb : ∀ g', (Value.slice (some ⟨g, 0, none⟩) nq qc).ownBlock = some g' → g' < wr.heap.size := fun g' e => by cases e; exact hgs
      have hta : BAt w3 (Frm W.heap.size w3 (.slice (some ⟨g, 0, none⟩) nq qc)) (rowB (aftM (secN m.vars) (secN m.arrs) x m0)) ta := by
        refine hbat.wide (fun _ _ => rfl) fun b hb => ?_
        have hb1 : wr.heap.size ≤ b := hb.1
        exact ⟨by have := HTS.out.lt; omega, hb.2, fun e => by have := hqb b e; omega⟩
      have HTA := Lib.hid hta
      have HTAL := Lib.hid htl
      have HC3 : Hid (Calls Tryd.prog 54 #[.agg #[.slice k.va m.vars.length k.vc, .slice k.aa m.arrs.length k.ac, .slice (some ⟨bi, oi, none⟩) n k.lc], .int .i64 (p : Int)] w3 (IntsNew (folS x p) w3)) := by
        have h9 := HCA.out w3 p x hCL3 HX.out (by omega)
        rw [HLA.out] at h9
        exact h9
      clear hto htl hta hbat hS3 hb3 hCL3 hbx3 hB3 x0 x1 x2 hqc HAFT HSB
      go_wp2_with fail
      refine HC3.out.mono ?_
      rintro e w5 ⟨na, nc, rfl, hon, hb5⟩
      have HTS5 := Lib.hid (HTS3.out.later hb5)
      have HTA5 := Lib.hid (HTA.out.move (Frm.later hb5))
      have HNX5 : Hid (NxF w5 W.heap.size na (folS x p) (.slice (some ⟨g, 0, none⟩) nq qc)) := NxF.of_own hon HTS3.out.lt (fun g' e => by have := hqb g' e; have := hB03.size; omega)
      obtain ⟨ns, hns⟩ : ∃ ns, folS x p = ns := ⟨_, rfl⟩
      have HNS := Lib.hid hns
      have hnl : ns.length ≤ 2 := by rw [← hns]; exact folS_len x p
      rw [hns] at HNX5 ⊢
      have HN0 : Hid (RNt (secN m.vars) (secN m.arrs) m.list W W.heap.size n t p m0 x ns na ta (.slice (some ⟨g, 0, none⟩) nq qc) (.int .i64 0) w5) := ⟨rs, q, 0, some ⟨g, 0, none⟩, qc, by rw [HNQ.out], rfl, Nat.zero_le _, by rw [HNQ.out]; exact hlt, HTI.out, by rw [HNQ.out]; exact HTS5.out, by rw [HNQ.out]; exact HNX5.out, by rw [HNQ.out]; exact HTA5.out⟩
      clear hon hb5 hns HNX5 HTS3 HTS5 HTS HTA HTA5 HTI y0 y1 y2 hqb HC3 HTL HCL HBX hB03
      obtain ⟨nl, hnl'⟩ : ∃ nl, ns.length = nl := ⟨_, rfl⟩
      have HNL := Lib.hid hnl'
      rw [hnl'] at hnl ⊢
      clear hnl'
      go_wp2_with fail
      go_loopw [4, 9] (fun qv i wr2 => RNt (secN m.vars) (secN m.arrs) m.list W W.heap.size n t p m0 x ns na ta qv i wr2) (fun _ i _ => nl - (intOf i).toNat)
      case atStart => exact HN0.out
      case round =>
        obtain ⟨rs2, q2, s, qa2, qc2, rfl, rfl, hsn, htq2, hti2, hts2, hnx2, hta2⟩ := hrel
        obtain ⟨nq2, hnq2⟩ : ∃ nq, q2.length = nq := ⟨_, rfl⟩
        have hqn2 : nq2 ≤ 15 * n := by have h1 := TI.q hti2 htq2; rw [hnq2, HN.out] at h1; exact h1
        rw [hnq2] at hts2 hnx2 hta2 htq2 ⊢
        rw [HNL.out] at hsn
        have HTI2 := Lib.hid hti2
        have HTS2 := Lib.hid hts2
        have HNX2 := Lib.hid hnx2
        have HTA2 := Lib.hid hta2
        have HNQ2 := Lib.hid hnq2
        clear hti2 hts2 hnx2 hta2 hnq2 HN0
        by_cases hlt2 : s < nl
        · obtain ⟨z, hz⟩ : ∃ z, ns[s]? = some z := ⟨ns[s]'(by rw [HNL.out]; exact hlt2), List.getElem?_eq_getElem _⟩
          obtain ⟨j, hzj, hjf⟩ := (folS_mem HO.out HX.out z).1 (by rw [HNS.out]; exact List.mem_of_getElem? hz)
          subst hzj
          have hjn : j < n := by rw [← HN.out]; exact HO.out.fol HX.out hjf
          obtain ⟨gn, rfl, hgf, hgc⟩ := HNX2.out s _ hz
          obtain ⟨mj, hmj⟩ : ∃ mj, rs2[j]? = some mj := ⟨rs2[j]'(by rw [HTI2.out.tb.len, HN.out]; exact hjn), List.getElem?_eq_getElem _⟩
          obtain ⟨ja, jc, hjc, hjb, hjf0⟩ := HTS2.out.at hmj hjn
          have hgm := HTI2.out.tb.gm j mj hmj
          have hit := HIT.out p x HX.out
          have hal := aftM_lt (sv := secN m.vars) (sa := secN m.arrs) hit HTI2.out.g0.1
          have ha14 := aftM_14 (sv := secN m.vars) (sa := secN m.arrs) hit HTI2.out.g0.1 HTI2.out.g0.2
          obtain ⟨lj, hlj⟩ : ∃ lj, (rowB mj).length = lj := ⟨_, rfl⟩
          have HJO := Lib.hid (sJoin_one mj (aftM (secN m.vars) (secN m.arrs) x m0) ja ta lj jc tc wr (hjb.wide (fun _ _ => rfl) fun b hb => hb.2.1) (HTA2.out.wide (fun _ _ => rfl) fun b hb => hb.2.1) hgm hal ha14 hlj)
          rw [hlj] at hjc
          have HZ2 := Lib.hid hz
          have HJF := Lib.hid hjf
          have HMJ := Lib.hid hmj
          have HGF := Lib.hid hgf
          have HIX := Lib.hid hit
          have hqb2 : Hid (∀ g', (Value.slice qa2 nq2 qc2).ownBlock = some g' → g' < wr.heap.size) := fun g' e => (HTS2.out.q.lt g' e).2
          clear hz hjf hmj hjb hjf0 hgm hit hal ha14 hlj hgf
          go_wp2_with fail
          refine HJO.out.mono ?_
          rintro e w6 ⟨gj, cj, ch, rfl, hoj, hch, hlen, hb6⟩
          have HTS6 := Lib.hid (HTS2.out.later hb6)
          have HNX6 := Lib.hid (HNX2.out.move (Frm.later hb6))
          have HTA6 := Lib.hid (HTA2.out.move (Frm.later hb6))
          have HB6 := Lib.hid hb6
          have HCH := Lib.hid hch
          have HOJ := Lib.hid hoj
          have HLEN := Lib.hid hlen
          have hgc6 : w6.cell? ⟨gn, s, none⟩ = some (.int .i64 (j : Int)) := (hb6.cell (p := ⟨gn, s, none⟩) HGF.out.2.1).trans hgc
          clear hb6 hch hoj hlen HTS2 HNX2 HTA2 HJO hjc hgc
          cases ch
          case false =>
            have hsub : Sub (aftM (secN m.vars) (secN m.arrs) x m0) mj := Classical.byContradiction fun hn => by have := HCH.out.2 hn; cases this
            have HREL : Hid (RNt (secN m.vars) (secN m.arrs) m.list W W.heap.size n t p m0 x ns (some ⟨gn, 0, none⟩) ta (.slice qa2 nq2 qc2) (.int .i64 ((s : Int) + 1)) w6) := by
              refine ⟨rs2, q2, s + 1, qa2, qc2, by rw [HNQ2.out], by go_num, by rw [HNL.out]; omega, by rw [HNQ2.out]; exact htq2, ?_, by rw [HNQ2.out]; exact HTS6.out, by rw [HNQ2.out]; exact HNX6.out, by rw [HNQ2.out]; exact HTA6.out⟩
              rw [doneN_succ HZ2.out]
              exact HTI2.out.skip HMJ.out hsub
            clear hsub HTS6 HNX6 HTA6 HTI2
            go_wp2_with fail
            go_roundw
            case rel => exact HREL.out
            case measure => simp [intOf]; omega
          case true =>
            have hns' : ¬ Sub (aftM (secN m.vars) (secN m.arrs) x m0) mj := HCH.out.1 rfl
            obtain ⟨_, _, _, hbj⟩ := HOJ.out.bat
            have hbj' : BAt w6 (Frm W.heap.size w6 (.slice qa2 nq2 qc2)) (rowB (mj ||| aftM (secN m.vars) (secN m.arrs) x m0)) (some ⟨gj, 0, none⟩) := hbj.wide (fun _ _ => rfl) fun b hb => by
              have hb1 : wr.heap.size ≤ b := hb.1
              have hS := HTS6.out.bel.size
              exact ⟨by have := HNX6.out s _ HZ2.out; obtain ⟨_, _, h3, _⟩ := this; have := HGF.out.1; have := HGF.out.2.1; omega, hb.2, fun e => by have := hqb2.out b e; omega⟩
            obtain ⟨ua, uc, hu, _, hf⟩ := HTS6.out.at HMJ.out hjn
            have HTS7 := Lib.hid (HTS6.out.put (m' := mj ||| aftM (secN m.vars) (secN m.arrs) x m0) (rc := cj) hjn hbj' HLEN.out)
            have HNX7 := Lib.hid (HNX6.out.move (Frm.put (S := W.heap.size) (w := w6) (qv := .slice qa2 nq2 qc2) j (.slice (some ⟨gj, 0, none⟩) 14 cj)))
            have HTA7 := Lib.hid (HTA6.out.move (Frm.put (S := W.heap.size) (w := w6) (qv := .slice qa2 nq2 qc2) j (.slice (some ⟨gj, 0, none⟩) 14 cj)))
            have HTI3 := Lib.hid (HTI2.out.grow HIX.out HJF.out HMJ.out hns')
            obtain ⟨w7, hw7⟩ : ∃ w7, w6.setCell ⟨W.heap.size, j, none⟩ (.slice (some ⟨gj, 0, none⟩) 14 cj) = w7 := ⟨_, rfl⟩
            rw [hw7] at HTS7 HNX7 HTA7
            have hgc7 : w7.cell? ⟨gn, s, none⟩ = some (.int .i64 (j : Int)) := by
              obtain ⟨g', e', _, h'⟩ := HNX7.out s _ HZ2.out
              cases e'
              exact h'
            have hgl7 : gn < w7.heap.size := by
              obtain ⟨g', e', h', _⟩ := HNX7.out s _ HZ2.out
              cases e'
              exact h'.2.1
            obtain ⟨w8, hw8⟩ : ∃ w8, w7.alloc (.cells #[.int .i64 (j : Int)] 3) = w8 := ⟨_, rfl⟩
            have hz8 : w8.heap.size = w7.heap.size + 1 := by rw [← hw8, World.size_alloc]
            have hblk : w8.heap[w7.heap.size]? = some (.cells #[.int .i64 (j : Int)] 3 (0, 0)) := by rw [← hw8]; exact heap_alloc_new w7 _
            have hgc8 : w8.cell? ⟨gn, s, none⟩ = some (.int .i64 (j : Int)) := by rw [← hw8]; exact (World.cell?_of_block (w := w7) (a := ⟨gn, s, none⟩) (Below.heap_alloc _ _ _ hgl7)).trans hgc7
            have hlS := HTS7.out.lt
            have hown8 : w8.ownsRow (W.heap.size + 1) 3 1 (.slice qa2 nq2 qc2) nq2 ((natI q2).map (Value.int .i64)) := by
              have h1 := HTS7.out.q
              rw [HNQ2.out] at h1
              rw [← hw8]
              exact h1.alloc _
            have HW7 := Lib.hid hw7
            have HW8 := Lib.hid hw8
            clear hw7 hw8 HTS6 HNX6 HTA6 HTI2 hbj hbj' hns'
            go_wp2_with (first
              | rw [HW7.out]
              | (at_builtin
                 rw [HW8.out]
                 refine wpList_append_lies _ (by rfl) _ _ 22 (by rfl) (W.heap.size + 1) 3 j0 _ 1 8 Tryd.underlying22 hj hj0 hj1 hj2 rfl (by omega) (.slice qa2 nq2 qc2) nq2 _ (by rfl) hown8 ⟨w7.heap.size, 0, none⟩ 1 1 _ (by rfl) (by rfl) (World.news_of_block hblk) (by simp [Value.oneCell']) (by omega) (by unfold maxLen; omega) (by omega) (by omega) (w7.heap.size + 1) (by omega) ?_
                 intro g3 cp w9 hown9 hgrow hat hlt9)
              | fail)
            have HREL : Hid (RNt (secN m.vars) (secN m.arrs) m.list W W.heap.size n t p m0 x ns (some ⟨gn, 0, none⟩) ta (.slice (some ⟨g3, 0, none⟩) (nq2 + 1) cp) (.int .i64 ((s : Int) + 1)) w9) := by
              have hl2 : (q2 ++ [j]).length = nq2 + 1 := by rw [List.length_append, HNQ2.out]; rfl
              have hat' : (Value.slice (some ⟨g3, 0, none⟩) (nq2 + 1) cp).ownBlock = (Value.slice qa2 nq2 qc2).ownBlock ∨ ∃ g, (Value.slice (some ⟨g3, 0, none⟩) (nq2 + 1) cp).ownBlock = some g ∧ w7.heap.size ≤ g := by
                rcases hat with e | e
                · left; rw [e]; rfl
                · right; exact ⟨g3, rfl, by omega⟩
              have hmv : ∀ b, Frm W.heap.size w7 (.slice qa2 nq2 qc2) b → w9.heap[b]? = w7.heap[b]? ∧ Frm W.heap.size w9 (.slice (some ⟨g3, 0, none⟩) (nq2 + 1) cp) b := fun b hb => hb.push HW8.out.symm hgrow hat'
              have hdr : (q2 ++ [j]).drop (t + 1) = q2.drop (t + 1) ++ [j] := by rw [List.drop_append_of_le_length (by rw [HNQ2.out]; omega)]
              refine ⟨rs2.set j (mj ||| aftM (secN m.vars) (secN m.arrs) x m0), q2 ++ [j], s + 1, some ⟨g3, 0, none⟩, cp, by rw [hl2], by go_num, by rw [HNL.out]; omega, by rw [hl2]; omega, ?_, ?_, ?_, ?_⟩
              · rw [doneN_succ HZ2.out, hdr]
                exact HTI3.out
              · rw [hl2]
                have h7 := HTS7.out
                exact h7.push HW8.out.symm hgrow hat' (by rw [HNQ2.out]; exact hown9)
              · rw [hl2]
                exact HNX7.out.move hmv
              · rw [hl2]
                exact HTA7.out.move hmv
            clear hown9 hgrow hat hblk hown8
            go_wp2_with fail
            go_roundw
            case rel => exact HREL.out
            case measure => simp [intOf]; omega
        · obtain rfl : s = nl := by omega
          have HREL : Hid (RQt (secN m.vars) (secN m.arrs) m.list W W.heap.size n (.slice qa2 nq2 qc2) (.int .i64 ((t : Int) + 1)) wr) := by
            refine ⟨rs2, q2, t + 1, qa2, qc2, by rw [HNQ2.out], by go_num, by rw [HNQ2.out]; omega, HTI2.out.done fun j hjf => ?_, by rw [HNQ2.out]; exact HTS2.out⟩
            have hm := (folS_mem HO.out HX.out (j : Int)).2 ⟨j, rfl, hjf⟩
            rw [HNS.out] at hm
            unfold doneN
            rw [← HNL.out, List.take_length]
            exact List.mem_map.2 ⟨_, hm, rfl⟩
          go_wp2_with fail
          go_roundw
          case rel => exact HREL.out
          case measure => simp [intOf]; omega
    · obtain rfl : t = nq := by omega
      have HFIN : Hid (TntN (secN m.vars) (secN m.arrs) m.list n w (.returned (.slice (some ⟨W.heap.size, 0, none⟩) n n)) wr) := by
        have h1 := HTL.out
        rw [← HNQ.out, List.drop_length] at h1
        exact ⟨rs, _, n, rfl, h1.done, HTS.out.bbs (h1.tb.len.trans HN.out) (by unfold maxLen; omega), HB.out.trans (HTS.out.bel.mono HB.out.size)⟩
      clear HTS x0 x1 x2 HTL HCL HBX
      go_wp2_with fail
      go_ret
      exact HFIN.out

end Go.Proofs.YtjgmhncfijegmaaDoor

/- The iterator branchEnds, a loop over the iterator edges, as a contract for whatever loop body that keeps the list: it yields where the branches may lead, in order. -/
import Derived.Test.YtodihpnnajlkdaaDoorEdY
import Derived.RangeFuncWrites
namespace Go.Proofs.YtodihpnnajlkdaaDoor
open Go.RowKit Go.Shelf
set_option linter.unusedVariables false

attribute [local go_sem] Oper.semAt_some

/-- A branch. -/
def brB (x : Ins) : Bool := x.op == 9 || x.op == 10
def brAt (l : List Ins) (k : Nat) : Bool := match l[k]? with | some x => brB x | none => false
theorem brAt_at {l : List Ins} {k : Nat} {x : Ins} (h : l[k]? = some x) : brAt l k = brB x := by unfold brAt; rw [h]
/-- Where the branches among the first k instructions may lead. -/
def bndN (l : List Ins) : Nat → List Nat
  | 0 => []
  | k + 1 => bndN l k ++ (if brAt l k = true then folAt l k else [])
theorem bndN_eq (l : List Ins) : ∀ k, ((edgN l k).filter fun p => brAt l p.1).map (·.2) = bndN l k
  | 0 => rfl
  | k + 1 => by
    show (((edgN l k ++ _).filter _).map _) = bndN l k ++ _
    rw [List.filter_append, List.map_append, bndN_eq l k]
    congr 1
    cases hb : brAt l k
    · have : ((folAt l k).map fun t => (k, t)).filter (fun p => brAt l p.1) = [] := by
        rw [List.filter_eq_nil_iff]
        intro p hp
        obtain ⟨t, _, rfl⟩ := List.mem_map.1 hp
        simp [hb]
      rw [this]; simp
    · have : ((folAt l k).map fun t => (k, t)).filter (fun p => brAt l p.1) = (folAt l k).map fun t => (k, t) := by
        rw [List.filter_eq_self]
        intro p hp
        obtain ⟨t, _, rfl⟩ := List.mem_map.1 hp
        exact hb
      rw [this, List.map_map, if_pos rfl]
      exact (List.map_congr_left fun _ _ => rfl).trans (List.map_id _)
abbrev encF {n : Nat} (x : Fin n) : Array Value := #[.int .i64 (x.val : Int)]
/-- Of the edges that have come: the ends of branches. -/
def bF {n : Nat} (l : List Ins) (pre : List (Fin n × Fin n)) : List (Fin n) := (pre.filter fun p => brAt l p.1.val).map (·.2)
theorem bF_val {n : Nat} (l : List Ins) (pre : List (Fin n × Fin n)) : (bF l pre).map Fin.val = ((pre.map valE).filter fun p => brAt l p.1).map (·.2) := by
  unfold bF
  rw [List.map_map, List.filter_map, List.map_map]; rfl
theorem bF_t {n : Nat} {l : List Ins} {pre : List (Fin n × Fin n)} {x : Fin n × Fin n} (h : brAt l x.1.val = true) : bF l (pre ++ [x]) = bF l pre ++ [x.2] := by
  unfold bF; rw [List.filter_append, List.map_append]; simp [h]
theorem bF_f {n : Nat} {l : List Ins} {pre : List (Fin n × Fin n)} {x : Fin n × Fin n} (h : brAt l x.1.val = false) : bF l (pre ++ [x]) = bF l pre := by
  unfold bF; rw [List.filter_append, List.map_append]; simp [h]
theorem bF_all {n : Nat} {l : List Ins} {ys : List (Fin n × Fin n)} (h : ys.map valE = edgN l n) : (bF l ys).map Fin.val = bndN l n := by rw [bF_val, h, bndN_eq]
theorem bF_pre {n : Nat} {l : List Ins} {ys : List (Fin n × Fin n)} (h : ys.map valE <+: edgN l n) : (bF l ys).map Fin.val <+: bndN l n := by
  rw [bF_val, ← bndN_eq]
  exact (h.filter _).map _

theorem roundIn_wide {l2 m m' l : Nat} {P : Program} {f : FuncId} {tmps : Array Value} {assign body : Code} {w : World} {R : Ending → World → Prop} (h : RoundIn Fence.wide m P l f tmps assign body w R) : RoundIn (Fence.wide.inRound l2) m' P l f tmps assign body w R := ⟨h.1, fun c cs _ => h.2 c cs (room_wide _)⟩

set_option maxRecDepth 100000 in
set_option maxHeartbeats 2000000 in
/-- **isBranch.** -/
theorem iBr_one (x : Ins) (w : World) :
    Calls Tryd.prog 67 #[.agg #[.int .i64 x.op, .int .i64 x.fa, .int .i64 x.fb, .int .i64 x.fc, .int .i64 x.fd]] w (YN (brB x) w) := by
  have HB := Lib.hid ((Below.refl w.heap.size w).alloc (Nat.le_refl _) (.cells #[.int .i64 x.op, .int .i64 x.fa, .int .i64 x.fb, .int .i64 x.fc, .int .i64 x.fd] 46))
  obtain ⟨q, hq⟩ : ∃ q, brB x = q := ⟨_, rfl⟩
  have HQ := Lib.hid hq
  rw [hq]
  unfold brB at hq
  cases h9 : (x.op == 9)
  · rw [h9] at hq
    simp only [Bool.false_or] at hq
    clear HQ
    go_enter Tryd.func67, Tryd.ntmps67
    go_wp2_with fail
    go_ret
    exact ⟨rfl, HB.out⟩
  · rw [h9] at hq
    simp only [Bool.true_or] at hq
    subst hq
    clear HQ
    go_enter Tryd.func67, Tryd.ntmps67
    go_wp2_with fail
    go_ret
    exact ⟨rfl, HB.out⟩

set_option maxRecDepth 100000 in
set_option maxHeartbeats 8000000 in
theorem bre1_in {n : Nat} (m : Nat) (hm : 4 ≤ m) (lp Bn B : Nat) (D : Nat → Prop) (l : List Ins) (a : Option Addr) (c : Nat) (J Jx : List (Fin n) → World → Prop) (hn : l.length = n) (hok : Okc l) (hJ : OwnFrom B J) (hJx : OwnFrom B Jx)
    (hY : ∀ pre x W1, J pre W1 → YieldAt Fence.wide (m - 1) Tryd.prog lp (encF x) W1 fun e W' =>
      ((e = .returned (.bool true) ∧ J (pre ++ [x]) W') ∨ (e = .returned (.bool false) ∧ Jx (pre ++ [x]) W')) ∧ Stays (fun k => D k ∨ B ≤ k) W1 W')
    (W : World) (hB : W.heap.size = B) (hDB : ∀ k, D k → k < B) (hBn : W.heap[Bn]? = some (.cells #[.slice a n c] 28 (0, 0))) (hDn : D Bn) (hL : NAt W D l a) (h0 : J [] W) :
    CallsIn Fence.wide m Tryd.prog 65 #[.func (.yield lp) #[] #[], .pointer (some ⟨Bn, 0, none⟩)] W fun e W' => (∃ v, e = .returned v) ∧
      ((∃ ys : List (Fin n), ys.map Fin.val = bndN l n ∧ J ys W') ∨ (∃ pre : List (Fin n), pre.map Fin.val <+: bndN l n ∧ Jx pre W')) := by
  obtain ⟨V, hV⟩ : ∃ V, (W.alloc (.cells #[.func (.yield lp) #[] #[]] 65)).alloc (.cells #[.slice a n c] 28) = V := ⟨_, rfl⟩
  have hz : V.heap.size = B + 2 := by rw [← hV]; simp [hB]
  have hbV : Below W.heap.size W V := by rw [← hV]; exact ((Below.refl _ W).alloc (Nat.le_refl _) _).alloc (by simp) _
  have hq0 : V.heap[B]? = some (.cells #[.func (.yield lp) #[] #[]] 65 (0, 0)) := by
    rw [← hV, Below.heap_alloc _ _ _ (by simp [hB]), ← hB]; exact heap_alloc_new W _
  have hq1 : V.heap[B + 1]? = some (.cells #[.slice a n c] 28 (0, 0)) := by
    have h1 := heap_alloc_new (W.alloc (.cells #[.func (.yield lp) #[] #[]] 65)) (.cells #[.slice a n c] 28)
    rw [World.size_alloc, hB] at h1
    rw [← hV]; exact h1
  have hq2 : V.heap[Bn]? = some (.cells #[.slice a n c] 28 (0, 0)) := (hbV.block Bn (by rw [hB]; exact hDB _ hDn)).trans hBn
  have hLV : NAt V (fun k => D k ∨ (B ≤ k ∧ k < V.heap.size)) l a := hL.wide (fun k hk => hbV.block k (by rw [hB]; exact hDB k hk)) fun k hk => .inl hk
  have hD2 : ∀ k, (D k ∨ (B ≤ k ∧ k < V.heap.size)) → k < V.heap.size := fun k hk => hk.elim (fun h => by have := hDB k h; omega) fun h => h.2
  have HSEQ := Lib.hid (edges_seq (n := n) (m - 1) (by omega) (B + 1) (fun k => D k ∨ (B ≤ k ∧ k < V.heap.size)) l a c V hn hok hD2 hq1 (.inr ⟨by omega, by omega⟩) hLV)
  have x0 : W.cell? ⟨Bn, 0, none⟩ = some (.slice a n c) := by rw [cell_at hBn]; rfl
  have x1 : (W.alloc (.cells #[.func (.yield lp) #[] #[]] 65)).cell? ⟨Bn, 0, none⟩ = some (.slice a n c) := by
    rw [cell_at ((Below.heap_alloc W _ _ (by rw [hB]; exact hDB _ hDn)).trans hBn)]; rfl
  -- what stands in every world that a round has left
  have HS : Hid (∀ v, Stays (fun k => D k ∨ (B ≤ k ∧ k < V.heap.size)) V v → v.heap[Bn]? = some (.cells #[.slice a n c] 28 (0, 0)) ∧ v.heap[B]? = some (.cells #[.func (.yield lp) #[] #[]] 65 (0, 0)) ∧ NAt v (fun b => b < v.heap.size) l a) := fun v hv =>
    ⟨hv.same _ _ (.inl hDn) hq2, hv.same _ _ (.inr ⟨Nat.le_refl _, by omega⟩) hq0, hLV.wide (fun k hk => hv.at hk (hD2 k hk)) fun k hk => Nat.lt_of_lt_of_le (hD2 k hk) hv.size⟩
  have HY := Lib.hid hY
  have HJ := Lib.hid hJ
  have HJX := Lib.hid hJx
  have HV := Lib.hid hV
  have HD2 := Lib.hid hD2
  have HJ0 : Hid (J [] V) := own_below hJ h0 hbV
  clear hY hJ hJx hV hq0 hq1 hq2 hLV hbV hBn hL h0 hD2
  subst hB
  refine callsIn_of_wp_marks Tryd.func65 rfl trivial ?_ rfl
  simp only [Tryd.ntmps65, List.size_toArray, List.length_cons, List.length_nil, Nat.reduceAdd, Nat.reduceSub, Array.replicate_succ, Array.replicate_zero, List.push_toArray, List.append_toArray, List.nil_append, List.cons_append]
  have h1m : 1 ≤ m := by omega
  have h2m : 1 ≤ m - 1 - 1 := by omega
  gi_wp2_with (refine ⟨trivial, ?_⟩; gi_at_call 66; refine (edges_in _ _ _ _ _).mono ?_; rintro e w2 ⟨rfl, rfl⟩)
  rw [HV.out]
  refine wpIn_rangeL h1m (gf := 85) (lb := #[.pointer (some ⟨W.heap.size + 1, 0, none⟩)]) rfl (enters_of Tryd.func85 (by kernel_rfl) rfl)
    HSEQ.out HD2.out (Below.refl _ _) (fun _ => rfl)
    (fun pre U => J (bF l pre) U ∧ Stays (fun k => D k ∨ (W.heap.size ≤ k ∧ k < V.heap.size)) V U)
    (fun cc pre U => cc = .ret ∧ Jx (bF l pre) U)
    (fun pre X Y row hs hg hr => ⟨HJ.out _ X Y row hs.1 hg (fun r e => ⟨by have := (hr r e).1; omega, (hr r e).2⟩), hs.2.trans ⟨hg.size, fun k o hk ho => by
      have h1 : k < V.heap.size := HD2.out k hk
      exact (hg.block k (Array.getElem?_eq_some_iff.1 ho).1 fun e => by have := (hr k e.symm).1; omega).trans ho⟩⟩)
    (fun cc pre X Y row hs hg hr => ⟨hs.1, HJX.out _ X Y row hs.2 hg (fun r e => ⟨by have := (hr r e).1; omega, (hr r e).2⟩)⟩)
    ⟨HJ0.out, Stays.refl _ _⟩
    (fun x => { tmps := #[.func (.yield lp) #[] #[], .pointer (some ⟨Bn, 0, none⟩), .pointer (some ⟨W.heap.size, 0, none⟩), .int .i64 (x.1.val : Int), .int .i64 (x.2.val : Int), .slice a n c, .func (.func 85) #[] #[.pointer (some ⟨W.heap.size + 1, 0, none⟩)], .int .i64 (x.1.val : Int), .int .i64 (x.2.val : Int), undef, undef, undef, undef, undef, undef, undef, undef, undef, undef, undef], defers := [] }) ?assign ?body ?done ?stop
  case assign =>
    intro l2 x U K hK
    gi_wp2
    exact hK
  case body =>
    rintro l2 pre x U ⟨hJ1, hS1⟩
    obtain ⟨⟨xk, hxk⟩, ⟨xt, hxt⟩⟩ := x
    dsimp only
    obtain ⟨hb0, hb1, hNA⟩ := HS.out U hS1
    obtain ⟨y, hy⟩ : ∃ y, l[xk]? = some y := ⟨l[xk]'(by rw [hn]; exact hxk), List.getElem?_eq_getElem _⟩
    obtain ⟨b, o, rfl, hbl, e0, e1, e2, e3, e4⟩ := hNA.2 xk y hy
    have HYK := Lib.hid (brAt_at hy)
    have HJ1 := Lib.hid hJ1
    have HS1 := Lib.hid hS1
    have HB1 := Lib.hid hb1
    have y0 : U.cell? ⟨Bn, 0, none⟩ = some (.slice (some ⟨b, o, none⟩) n c) := by rw [cell_at hb0]; rfl
    obtain ⟨q, hq⟩ : ∃ q, brB y = q := ⟨_, rfl⟩
    have HQ := Lib.hid hq
    have HI := Lib.hid (iBr_one y U)
    have hblt := (Array.getElem?_eq_some_iff.1 hb1).1
    clear hq hy hNA hJ1 hS1 hb0 hb1 x0 x1
    cases q
    case false =>
      gi_wp2_with (refine ⟨trivial, ?_⟩; gi_at_call 67; refine (CallsIn.inRound l2 (callsIn_wide.2 HI.out)).mono ?_; rintro e w2 ⟨rfl, hb2⟩; rw [HQ.out]; have hJ2 := own_below HJ.out HJ1.out hb2; have hS2 := HS1.out.below hb2)
      refine ⟨fun _ h => (by cases h), ?_⟩
      have HFIN : Hid (Stays (fun k => (D k ∨ (W.heap.size ≤ k ∧ k < V.heap.size)) ∨ V.heap.size ≤ k) U w2 ∧ J (bF l (pre ++ [((⟨xk, hxk⟩ : Fin n), (⟨xt, hxt⟩ : Fin n))])) w2 ∧ Stays (fun k => D k ∨ (W.heap.size ≤ k ∧ k < V.heap.size)) V w2) :=
        ⟨(Stays.refl _ _).below hb2, by rw [bF_f (HYK.out.trans HQ.out)]; exact hJ2, hS2⟩
      clear hJ2 hS2 hb2
      gi_wp2
      exact HFIN.out
    case true =>
      gi_wp2_with (refine ⟨trivial, ?_⟩; gi_at_call 67; refine (CallsIn.inRound l2 (callsIn_wide.2 HI.out)).mono ?_; rintro e w2 ⟨rfl, hb2⟩; rw [HQ.out]; have hJ2 := own_below HJ.out HJ1.out hb2; have hS2 := HS1.out.below hb2; have z0 : w2.cell? ⟨W.heap.size, 0, none⟩ = some (.func (.yield lp) #[] #[]) := (by rw [cell_at ((hb2.block _ hblt).trans HB1.out)]; rfl); obtain ⟨fn, tmps, assign, body, hy, hR⟩ := HY.out (bF l pre) ⟨xt, hxt⟩ w2 hJ2; dsimp only [encF] at hy; have HR := Lib.hid (roundIn_wide (l2 := l2) (m' := m - 1 - 1 - 1) hR); clear hR)
      refine HR.out.mono ?_
      clear HR hy
      rintro e W3 ⟨hans, hst⟩
      have HST : Hid (Stays (fun k => (D k ∨ (W.heap.size ≤ k ∧ k < V.heap.size)) ∨ V.heap.size ≤ k) U W3) :=
        ((Stays.refl _ U).below hb2).trans (hst.mono fun k _ h => h.elim (fun h => h.elim .inl fun h => .inr h.1) fun h => .inr (by omega))
      have HS3 : Hid (Stays (fun k => D k ∨ (W.heap.size ≤ k ∧ k < V.heap.size)) V W3) := hS2.trans (hst.mono fun k _ h => h.elim .inl fun h => .inr h.1)
      have HBT := Lib.hid (bF_t (pre := pre) (x := ((⟨xk, hxk⟩ : Fin n), (⟨xt, hxt⟩ : Fin n))) (HYK.out.trans HQ.out))
      clear hst hS2 hb2 hJ2
      rcases hans with ⟨rfl, hJ3⟩ | ⟨rfl, hJ3⟩
      · have HFIN : Hid (J (bF l (pre ++ [((⟨xk, hxk⟩ : Fin n), (⟨xt, hxt⟩ : Fin n))])) W3) := by rw [HBT.out]; exact hJ3
        clear hJ3
        gi_wp2
        exact ⟨HST.out, HFIN.out, HS3.out⟩
      · have HFIN : Hid (Jx (bF l (pre ++ [((⟨xk, hxk⟩ : Fin n), (⟨xt, hxt⟩ : Fin n))])) W3) := by rw [HBT.out]; exact hJ3
        clear hJ3
        gi_wp2
        exact ⟨HST.out, rfl, HFIN.out⟩
  case done =>
    rintro d ys U hd hys ⟨hJ1, hS1⟩ hKd
    have HFIN : Hid (∃ zs : List (Fin n), zs.map Fin.val = bndN l n ∧ J zs (U.putObj d (.deferred none))) := ⟨bF l ys, bF_all hys, HJ.out.putObj _ hJ1 (by omega) hKd rfl⟩
    have HKD := Lib.hid hKd
    clear hJ1 hS1 hKd hys
    gi_wp2
    refine ⟨by simp, .inl ⟨_, _, rfl, run_takeDeferred HKD.out, ?_⟩⟩
    exact ⟨_, results_none rfl _ _ _, ⟨_, rfl⟩, .inl HFIN.out⟩
  case stop =>
    rintro d cc pre U hd hys ⟨rfl, hJ1⟩ hKd
    have HFIN : Hid (∃ zs : List (Fin n), zs.map Fin.val <+: bndN l n ∧ Jx zs (U.putObj d (.deferred none))) := ⟨bF l pre, bF_pre hys, HJX.out.putObj _ hJ1 (by omega) hKd rfl⟩
    have HKD := Lib.hid hKd
    clear hJ1 hKd hys
    gi_wp2
    refine ⟨by simp, .inl ⟨_, _, rfl, run_takeDeferred HKD.out, ?_⟩⟩
    exact ⟨_, results_none rfl _ _ _, ⟨_, rfl⟩, .inr HFIN.out⟩

theorem brEnds_in (n : Nat) (a : Option Addr) (m c : Nat) (w : World) :
    CallsIn Fence.wide n Tryd.prog 38 #[.slice a m c] w fun e w' => e = .returned (.func (.func 65) #[] #[.pointer (some ⟨w.heap.size, 0, none⟩)]) ∧ w' = w.alloc (.cells #[.slice a m c] 28) := by
  refine callsIn_of_wp Tryd.func38 rfl trivial ?_ rfl
  simp only [Tryd.ntmps38, List.size_toArray, List.length_cons, List.length_nil, Nat.reduceAdd, Nat.reduceSub, Array.replicate_succ, Array.replicate_zero, List.push_toArray, List.append_toArray, List.nil_append, List.cons_append]
  gi_wp2
  go_ret
  exact ⟨rfl, rfl⟩

/-- **What branchEnds hands back, for every loop body that keeps the list and its box.** -/
theorem brEnds_seq {n : Nat} (m : Nat) (hm : 4 ≤ m) (Bn : Nat) (D : Nat → Prop) (l : List Ins) (a : Option Addr) (c : Nat) (w : World) (hn : l.length = n) (hok : Okc l)
    (hDB : ∀ k, D k → k < w.heap.size) (hBn : w.heap[Bn]? = some (.cells #[.slice a n c] 28 (0, 0))) (hDn : D Bn) (hL : NAt w D l a) :
    SeqL m Tryd.prog 65 #[.pointer (some ⟨Bn, 0, none⟩)] (encF (n := n)) D (fun ys => ys.map Fin.val = bndN l n) (fun pre => pre.map Fin.val <+: bndN l n) w := fun lp J Jx W hW hl hJ hJx hY h0 =>
  bre1_in m hm lp Bn W.heap.size D l a c J Jx hn hok hJ hJx hY W rfl (fun k hk => Nat.lt_of_lt_of_le (hDB k hk) hW.size) ((hW.block Bn (hDB _ hDn)).trans hBn) hDn (hL.wide (fun k hk => hW.block k (hDB k hk)) fun _ h => h) h0

end Go.Proofs.YtodihpnnajlkdaaDoor

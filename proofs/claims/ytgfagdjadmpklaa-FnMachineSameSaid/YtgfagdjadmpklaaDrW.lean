/- The draw of a statement of the model's package, told the draw of a block one level less. -/
import Derived.Test.YtgfagdjadmpklaaDrT
namespace Go.Proofs.Ytgfagdjadmpklaa
open Go.RowKit
set_option linter.unusedVariables false

theorem DSt.start {p : Pg} {k : PC} {w u : World} {B m n c : Nat} (hn : 1 ≤ n) (hc : 1 ≤ c) (hB : B < w.heap.size) (hr : RdU u B m) (ho : Oth B w u) (hb : Below B w u) (hbp : BoxP u w.heap.size p k)
    (hbr : u.heap[w.heap.size + 1]? = some (.cells (arrS (zS 0) zK) 107 (0, 0))) (kd : Int) : DSt p k w B m u.heap.size n c (zS kd) zK (u.alloc (.cells (arrS (zS kd) zK) 107)) := by
  have hlt := (Array.getElem?_eq_some_iff.1 hbr).1
  refine ⟨hr.alloc _, ho.alloc _, hb.alloc (by have := ho.1; omega) _, hbp.later (Below.heap_alloc _ _ _ hbp.lt), (Below.heap_alloc _ _ _ hlt).trans hbr, heap_alloc_new u _, hlt, hB, isS_zero _ _ _ hn kd, smS_zero _ _, ?_⟩
  simp [cntS, cntSs]; exact hc

/-- A number field has been stored. -/
theorem DSt.num {p : Pg} {k : PC} {w u : World} {B m g n c : Nat} {s : S} {ks : SC} (h : DSt p k w B m g n c s ks u) (kd tg ct : Int) (o : Nat) (v : Int) (he : setL (arrS s ks) o [.int .i64 v] = arrS { s with kind := kd, target := tg, count := ct } ks) :
    DSt p k w B m g n c { s with kind := kd, target := tg, count := ct } ks (put u g o [.int .i64 v]) := by
  refine h.store o _ he ?_ ?_ ?_
  · exact h.is
  · exact h.sm
  · have := h.ct
    cases s
    simpa [cntS] using this

/-- The index has been stored. -/
theorem DSt.idx {p : Pg} {k : PC} {w u v : World} {B m m' g n c : Nat} {s : S} {ks : SC} (h : DSt p k w B m g n c s ks u) {e : E} {a : Option Addr} {cc : Nat} {d : Nat} (hd : d ≤ n) (hg : g < u.heap.size) (hx : IsE v (New u v) d e (cellsI e a cc)) (hs : SmE 1048576 d e) (hr : RdU v B m') (ho : Oth B u v) (hb : Below B u v) :
    DSt p k w B m' g n c { s with index := e } { ks with ia := a, ic := cc } (put v g 2 (cellsI e a cc)) := by
  have hv := h.call hr ho hb
  have hz := h.oth.1
  have hgt := h.gt
  have hx' : IsE v (Dq w v g) n e (cellsI e a cc) := (hx.mono (fun _ _ => rfl) fun j hj => ⟨by have := hj.1; omega, hj.2, by have := hj.1; omega⟩).deeper' hd
  refine hv.store 2 _ rfl ⟨hx', hv.is.2⟩ ⟨SmE.deeper hd hx hs, hv.sm.2⟩ ?_
  have := h.ct
  cases s
  simpa [cntS] using this
/-- The value has been stored. -/
theorem DSt.val {p : Pg} {k : PC} {w u v : World} {B m m' g n c : Nat} {s : S} {ks : SC} (h : DSt p k w B m g n c s ks u) {e : E} {a : Option Addr} {cc : Nat} {d : Nat} (hd : d ≤ n) (hg : g < u.heap.size) (hx : IsE v (New u v) d e (cellsI e a cc)) (hs : SmE 1048576 d e) (hr : RdU v B m') (ho : Oth B u v) (hb : Below B u v) :
    DSt p k w B m' g n c { s with value := e } { ks with va := a, vc := cc } (put v g 5 (cellsI e a cc)) := by
  have hv := h.call hr ho hb
  have hz := h.oth.1
  have hgt := h.gt
  have hx' : IsE v (Dq w v g) n e (cellsI e a cc) := (hx.mono (fun _ _ => rfl) fun j hj => ⟨by have := hj.1; omega, hj.2, by have := hj.1; omega⟩).deeper' hd
  refine hv.store 5 _ rfl ⟨hv.is.1, hx', hv.is.2.2⟩ ⟨hv.sm.1, SmE.deeper hd hx hs, hv.sm.2.2⟩ ?_
  have := h.ct
  cases s
  simpa [cntS] using this
theorem cntSs_all {c : Nat} : ∀ (ss : List S), (∀ x ∈ ss, cntS x ≤ c) → cntSs ss ≤ ss.length * c
  | [], _ => by simp [cntSs]
  | x :: xs, h => by
    have h1 := h x (List.mem_cons_self ..)
    have h2 := cntSs_all xs fun y hy => h y (List.mem_cons_of_mem _ hy)
    rw [cntSs, List.length_cons, Nat.succ_mul]
    omega
/-- The body has been stored. -/
theorem DSt.body {p : Pg} {k : PC} {w u v : World} {B m m' g n c N cb : Nat} {s : S} {ks : SC} (h : DSt p k w B m g n c s ks u) (hg : g < u.heap.size) {ss : List S} {a : Option Addr} {cap : Nat} (hN : ss.length ≤ N) (hNN : N ≤ 1048576) (hrow : RowS n v u.heap.size (.slice a ss.length cap) ss) (hsm : ∀ x ∈ ss, SmS 1048576 n x ∧ cntS x ≤ cb) (hr : RdU v B m') (ho : Oth B u v) (hb : Below B u v) (hc : 1 + N * cb + cntSs s.els ≤ c) :
    DSt p k w B m' g n c { s with body := ss } { ks with ba := a, bc := cap } (put v g 9 [.slice a ss.length cap]) := by
  have hv := h.call hr ho hb
  have hz := h.oth.1
  have hgt := h.gt
  obtain ⟨a', cap', he, h1, h2, h3⟩ := hrow.ss
  cases he
  have h3' : SsAt v (Dq w v g) (IsS v (Dq w v g) n) ss a := h3.wide (fun _ _ => rfl) fun j hj => ⟨by have := hj.1; omega, hj.2, by have := hj.1; omega⟩
  refine hv.store 9 _ rfl ⟨hv.is.1, hv.is.2.1, h1, h2, h3', hv.is.2.2.2.2.2⟩ ⟨hv.sm.1, hv.sm.2.1, by show ss.length ≤ 1048576; omega, fun i x hx => (hsm x (List.mem_of_getElem? hx)).1, hv.sm.2.2.2.2⟩ ?_
  have hcc := cntSs_all ss fun x hx => (hsm x hx).2
  have : ss.length * cb ≤ N * cb := Nat.mul_le_mul_right _ hN
  cases s
  simp only [cntS] at *
  omega
/-- The other body has been stored. -/
theorem DSt.els {p : Pg} {k : PC} {w u v : World} {B m m' g n c N cb : Nat} {s : S} {ks : SC} (h : DSt p k w B m g n c s ks u) (hg : g < u.heap.size) {ss : List S} {a : Option Addr} {cap : Nat} (hN : ss.length ≤ N) (hNN : N ≤ 1048576) (hrow : RowS n v u.heap.size (.slice a ss.length cap) ss) (hsm : ∀ x ∈ ss, SmS 1048576 n x ∧ cntS x ≤ cb) (hr : RdU v B m') (ho : Oth B u v) (hb : Below B u v) (hc : 1 + cntSs s.body + N * cb ≤ c) :
    DSt p k w B m' g n c { s with els := ss } { ks with ea := a, ec := cap } (put v g 10 [.slice a ss.length cap]) := by
  have hv := h.call hr ho hb
  have hz := h.oth.1
  have hgt := h.gt
  obtain ⟨a', cap', he, h1, h2, h3⟩ := hrow.ss
  cases he
  have h3' : SsAt v (Dq w v g) (IsS v (Dq w v g) n) ss a := h3.wide (fun _ _ => rfl) fun j hj => ⟨by have := hj.1; omega, hj.2, by have := hj.1; omega⟩
  refine hv.store 10 _ rfl ⟨hv.is.1, hv.is.2.1, hv.is.2.2.1, hv.is.2.2.2.1, hv.is.2.2.2.2.1, h1, h2, h3'⟩ ⟨hv.sm.1, hv.sm.2.1, hv.sm.2.2.1, hv.sm.2.2.2.1, by show ss.length ≤ 1048576; omega, fun i x hx => (hsm x (List.mem_of_getElem? hx)).1⟩ ?_
  have hcc := cntSs_all ss fun x hx => (hsm x hx).2
  have : ss.length * cb ≤ N * cb := Nat.mul_le_mul_right _ hN
  cases s
  simp only [cntS] at *
  omega

end Go.Proofs.Ytgfagdjadmpklaa

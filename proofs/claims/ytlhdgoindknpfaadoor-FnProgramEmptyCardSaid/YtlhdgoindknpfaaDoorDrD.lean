/- The draw of a program and an expression of the model's package, each at times bent. -/
import Derived.Test.YtlhdgoindknpfaaDoorMu
namespace Go.Proofs.YtlhdgoindknpfaaDoor
open Go.RowKit
set_option linter.unusedVariables false

theorem IsRow.later {k : IntKind} {w w' : World} {a : Option Addr} {len cap : Nat} {zs : List Int} (h : IsRow k w a len cap zs) (hb : Below w.heap.size w w') : IsRow k w' a len cap zs := by
  rcases h with h | ⟨x, rfl, hlen, hcap, hz, hc, hw⟩
  · exact .inl h
  · exact .inr ⟨x, rfl, hlen, hcap, hz, fun i hi => (World.cell?_of_block (w := w) (hb.block _ (World.block_lt_of_cell? w _ (hc i hi)))).trans (hc i hi), hw⟩

/-- A program and an expression stand in their boxes, drawn. -/
structure ESt (w W : World) (m d gp ge : Nat) (p : Pg) (k : PC) (e : E) (a : Option Addr) (c : Nat) (u : World) : Prop where
  rd : RdU u (w.heap.size + 2) m
  bel : Below (w.heap.size + 2) W u
  bp : BoxP u gp p k
  gB : w.heap.size + 2 < gp
  gpe : gp < ge
  ip : IsP u (fun j => w.heap.size + 2 < j ∧ j < gp) 10 p k
  be : u.heap[ge]? = some (.cells #[.int .i64 e.kind, .int .i64 e.value, .slice a e.kids.length c] 29 (0, 0))
  ie : IsE u (fun j => w.heap.size + 2 < j ∧ j < u.heap.size ∧ j ≠ ge) (d + 1) e (cellsI e a c)
  cn : cntE e ≤ 1048569 + d

section
variable {w W : World} {m m' d gp ge : Nat} {p : Pg} {k : PC} {e : E} {a : Option Addr} {c : Nat} {u v : World}
theorem ESt.lt (h : ESt w W m d gp ge p k e a c u) : ge < u.heap.size := (Array.getElem?_eq_some_iff.1 h.be).1

theorem ESt.call (h : ESt w W m d gp ge p k e a c u) (hr : RdU v (w.heap.size + 2) m') (ho : Oth (w.heap.size + 2) u v) (hb : Below (w.heap.size + 2) u v) : ESt w W m' d gp ge p k e a c v := by
  have hlt := h.lt
  have hgB := h.gB
  have hgpe := h.gpe
  exact ⟨hr, h.bel.trans hb, h.bp.later (ho.2 _ (by omega) (by omega)), hgB, hgpe, h.ip.later fun j hj => ho.2 j (by have := hj.2; omega) (by have := hj.1; omega),
    (ho.2 _ hlt (by omega)).trans h.be, h.ie.mono (fun j hj => ho.2 j hj.2.1 (by have := hj.1; omega)) fun j hj => ⟨hj.1, Nat.lt_of_lt_of_le hj.2.1 ho.1, hj.2.2⟩, h.cn⟩
theorem ESt.alloc (h : ESt w W m d gp ge p k e a c u) (o : Obj) : ESt w W m d gp ge p k e a c (u.alloc o) :=
  h.call (h.rd.alloc o) ((Oth.refl _ _).alloc o) ((Below.refl _ _).alloc (by have := h.gB; have := h.gpe; have := h.lt; omega) o)

theorem IsE.nums {D : Nat → Prop} {n : Nat} {e e' : E} (h : IsE u D n e (cellsI e a c)) (hk : e'.kids = e.kids) : IsE u D n e' (cellsI e' a c) := by
  cases n with
  | zero => exact h.elim
  | succ n =>
    obtain ⟨a', c', hcs, h1, h2, h3⟩ := h
    obtain ⟨ek, ev, es⟩ := e
    obtain ⟨ek', ev', es'⟩ := e'
    cases hk
    simp at hcs
    obtain ⟨rfl, rfl⟩ := hcs
    exact ⟨a, c, rfl, h1, h2, h3⟩
theorem set3_oth (w : World) (g : Nat) (x y z : Value) (j : Nat) (hj : j ≠ g) : (((w.setCell ⟨g, 0, none⟩ x).setCell ⟨g, 1, none⟩ y).setCell ⟨g, 2, none⟩ z).heap[j]? = w.heap[j]? :=
  (Below.heap_setCell _ _ _ _ (by simpa using hj)).trans ((Below.heap_setCell _ _ _ _ (by simpa using hj)).trans (Below.heap_setCell _ _ _ _ (by simpa using hj)))

theorem facts_oth {v X : World} {g h : Nat} {a0 a1 a2 a3 a4 a5 : Value} (h1 : X.heap[g]? = v.heap[g]?) (h2 : X.heap[h]? = v.heap[h]?)
    (hf : v.cell? ⟨g, 0, none⟩ = some a0 ∧ v.cell? ⟨g, 1, none⟩ = some a1 ∧ v.cell? ⟨g, 2, none⟩ = some a2 ∧ v.cell? ⟨h, 0, none⟩ = some a3 ∧ v.cell? ⟨h, 1, none⟩ = some a4 ∧ v.cell? ⟨h, 2, none⟩ = some a5) :
    X.cell? ⟨g, 0, none⟩ = some a0 ∧ X.cell? ⟨g, 1, none⟩ = some a1 ∧ X.cell? ⟨g, 2, none⟩ = some a2 ∧ X.cell? ⟨h, 0, none⟩ = some a3 ∧ X.cell? ⟨h, 1, none⟩ = some a4 ∧ X.cell? ⟨h, 2, none⟩ = some a5 :=
  ⟨(World.cell?_of_block (w := v) (a := ⟨g, 0, none⟩) h1).trans hf.1, (World.cell?_of_block (w := v) (a := ⟨g, 1, none⟩) h1).trans hf.2.1, (World.cell?_of_block (w := v) (a := ⟨g, 2, none⟩) h1).trans hf.2.2.1, (World.cell?_of_block (w := v) (a := ⟨h, 0, none⟩) h2).trans hf.2.2.2.1, (World.cell?_of_block (w := v) (a := ⟨h, 1, none⟩) h2).trans hf.2.2.2.2.1, (World.cell?_of_block (w := v) (a := ⟨h, 2, none⟩) h2).trans hf.2.2.2.2.2⟩
theorem cell_oth {v X : World} {g o : Nat} {a : Value} (h1 : X.heap[g]? = v.heap[g]?) (hf : v.cell? ⟨g, o, none⟩ = some a) : X.cell? ⟨g, o, none⟩ = some a := (World.cell?_of_block (w := v) (a := ⟨g, o, none⟩) h1).trans hf

theorem set3_below {A w : World} {B g : Nat} (h : Below B A w) (hg : B ≤ g) (x y z : Value) : Below B A (((w.setCell ⟨g, 0, none⟩ x).setCell ⟨g, 1, none⟩ y).setCell ⟨g, 2, none⟩ z) :=
  ((h.setCell (p := ⟨g, 0, none⟩) hg x).setCell (p := ⟨g, 1, none⟩) hg y).setCell (p := ⟨g, 2, none⟩) hg z
theorem set3_size (w : World) (g : Nat) (x y z : Value) : (((w.setCell ⟨g, 0, none⟩ x).setCell ⟨g, 1, none⟩ y).setCell ⟨g, 2, none⟩ z).heap.size = w.heap.size := by simp [World.setCell]

/-- The expression has become the operand of a read. -/
theorem ESt.wrap (h : ESt w W m d gp ge p k e a c u) : ESt w W m (d + 1) gp ge p k ⟨3, 0, [e]⟩ (some ⟨u.heap.size, 0, none⟩) 1
    ((((u.setCell ⟨ge, 0, none⟩ (.int .i64 3)).setCell ⟨ge, 1, none⟩ (.int .i64 0)).setCell ⟨ge, 2, none⟩ (.slice (some ⟨u.heap.size, 0, none⟩) 1 1)).alloc (.cells #[.int .i64 e.kind, .int .i64 e.value, .slice a e.kids.length c] 29)) := by
  have hlt := h.lt
  have hgB := h.gB
  have hgpe := h.gpe
  obtain ⟨V, hV⟩ : ∃ V, ((u.setCell ⟨ge, 0, none⟩ (.int .i64 3)).setCell ⟨ge, 1, none⟩ (.int .i64 0)).setCell ⟨ge, 2, none⟩ (.slice (some ⟨u.heap.size, 0, none⟩) 1 1) = V := ⟨_, rfl⟩
  have hst : ∀ b, b ≠ ge → V.heap[b]? = u.heap[b]? := fun b hb => by rw [← hV]; exact set3_oth _ _ _ _ _ _ hb
  have hsz : V.heap.size = u.heap.size := by rw [← hV]; exact set3_size _ _ _ _ _
  have hbV : ∀ {A : World} {B : Nat}, Below B A u → B ≤ ge → Below B A V := fun hb hg => by rw [← hV]; exact set3_below hb hg _ _ _
  have hbe : V.heap[ge]? = some (.cells #[.int .i64 3, .int .i64 0, .slice (some ⟨u.heap.size, 0, none⟩) 1 1] 29 (0, 0)) := by
    have h1 := heap_setCell_same u ge 0 _ _ (.int .i64 3) h.be
    have h2 := heap_setCell_same _ ge 1 _ _ (.int .i64 0) h1
    have h3 := heap_setCell_same _ ge 2 _ _ (.slice (some ⟨u.heap.size, 0, none⟩) 1 1) h2
    rw [← hV]
    exact h3
  rw [hV]
  clear hV
  have hal : ∀ b, b < u.heap.size → (V.alloc (.cells #[.int .i64 e.kind, .int .i64 e.value, .slice a e.kids.length c] 29)).heap[b]? = V.heap[b]? := fun b hb => Below.heap_alloc _ _ _ (by omega)
  have hnew : (V.alloc (.cells #[.int .i64 e.kind, .int .i64 e.value, .slice a e.kids.length c] 29)).heap[u.heap.size]? = some (.cells #[.int .i64 e.kind, .int .i64 e.value, .slice a e.kids.length c] 29 (0, 0)) := by
    rw [← hsz]; exact heap_alloc_new V _
  refine ⟨(h.rd.below (hbV (Below.refl ge u) (Nat.le_refl _)) (by omega)).alloc _, (hbV h.bel (by omega)).alloc (by omega) _, h.bp.later ((hal _ (by omega)).trans (hst _ (by omega))), hgB, hgpe,
    h.ip.later fun j hj => (hal j (by have := hj.2; omega)).trans (hst j (by have := hj.2; omega)), (hal _ hlt).trans hbe, ⟨_, 1, rfl, Nat.le_refl _, by unfold maxLen; omega, fun i x hx => ?_⟩, ?_⟩
  · have hi0 : i = 0 := by
      have := (List.getElem?_eq_some_iff.1 hx).1
      simp at this; omega
    subst hi0
    cases hx
    refine ⟨u.heap.size, 0, _, _, _, rfl, ⟨by omega, by rw [World.size_alloc]; omega, by omega⟩, by rw [cell_at hnew]; rfl, by rw [cell_at hnew]; rfl, by rw [cell_at hnew]; rfl, ?_⟩
    exact h.ie.mono (fun j hj => (hal j hj.2.1).trans (hst j hj.2.2)) fun j hj => ⟨hj.1, by rw [World.size_alloc]; have := hj.2.1; omega, hj.2.2⟩
  · have := h.cn
    simp only [cntE, cntEs]
    omega

/-- A number of the expression has been written anew. -/
theorem ESt.num (h : ESt w W m d gp ge p k e a c u) (e' : E) (hk : e'.kids = e.kids) (o : Nat) (x : Value) (hs : (#[.int .i64 e.kind, .int .i64 e.value, .slice a e.kids.length c] : Array Value).setIfInBounds o x = #[.int .i64 e'.kind, .int .i64 e'.value, .slice a e'.kids.length c]) : ESt w W m d gp ge p k e' a c (u.setCell ⟨ge, o, none⟩ x) := by
  have hlt := h.lt
  have hgB := h.gB
  have hgpe := h.gpe
  have hst : ∀ b, b ≠ ge → (u.setCell ⟨ge, o, none⟩ x).heap[b]? = u.heap[b]? := fun b hb => Below.heap_setCell _ _ _ _ (by simpa using hb)
  have hsz : (u.setCell ⟨ge, o, none⟩ x).heap.size = u.heap.size := by simp [World.setCell]
  refine ⟨h.rd.below ((Below.refl ge u).setCell (p := ⟨ge, o, none⟩) (Nat.le_refl _) x) (by omega), h.bel.setCell (p := ⟨ge, o, none⟩) (by show _ ≤ ge; omega) x, h.bp.later (hst _ (by omega)), hgB, hgpe, h.ip.later fun j hj => hst j (by have := hj.2; omega), ?_,
    IsE.nums (h.ie.mono (fun j hj => hst j hj.2.2) fun j hj => ⟨hj.1, by rw [hsz]; exact hj.2.1, hj.2.2⟩) hk, by rw [cntE_eq, hk, ← cntE_eq]; exact h.cn⟩
  rw [← hs]
  exact heap_setCell_same u ge _ _ _ x h.be
end

/-- A program and an expression have been drawn: both lie there, whole and short. -/
def DrPE (w : World) (f : Ending) (w' : World) : Prop := ∃ p k e a c, f = .returned (.tuple #[aggP p k, .agg #[.int .i64 e.kind, .int .i64 e.value, .slice a e.kids.length c]]) ∧ CP w' p k ∧ RE w' e a c ∧ cntE e ≤ 1048578 ∧ p.vars.length ≤ 13 ∧ Below w.heap.size w w'

set_option maxRecDepth 100000 in
set_option maxHeartbeats 8000000 in
theorem drExprValid (a : Option Addr) (len cap : Nat) (zs : List Int) (w : World) (hrow : IsRow .u8 w a len cap zs) : Calls Tryd.prog 6 #[.slice a len cap] w (DrPE w) := by
  obtain ⟨W, hW⟩ : ∃ W, (w.alloc (.cells #[.slice none 0 0, .slice none 0 0, .slice none 0 0] 26)).alloc (.cells #[.int .i64 0, .int .i64 0, .slice none 0 0] 29) = W := ⟨_, rfl⟩
  have hBW : Below w.heap.size w W := by rw [← hW]; exact ((Below.refl _ w).alloc (Nat.le_refl _) _).alloc (by simp) _
  have hz : W.heap.size = w.heap.size + 2 := by rw [← hW]; simp
  have HX0 : Hid (W.heap[w.heap.size]? = some (.cells #[.slice none 0 0, .slice none 0 0, .slice none 0 0] 26 (0, 0))) := by
    rw [← hW]; exact (Below.heap_alloc _ _ _ (by simp)).trans (heap_alloc_new w _)
  have HX1 : Hid (W.heap[w.heap.size + 1]? = some (.cells #[.int .i64 0, .int .i64 0, .slice none 0 0] 29 (0, 0))) := by
    have e1 := heap_alloc_new (w.alloc (.cells #[.slice none 0 0, .slice none 0 0, .slice none 0 0] 26)) (.cells #[.int .i64 0, .int .i64 0, .slice none 0 0] 29)
    rw [World.size_alloc] at e1
    rw [← hW]; exact e1
  have HWW := Lib.hid hW
  have HBL := Lib.hid hBW
  have HROW : Hid (IsRow .u8 W a len cap zs) := hrow.later hBW
  clear hW hBW hrow
  go_enter Tryd.func6, Tryd.ntmps6
  go_wp2_with fail
  rw [HWW.out]
  clear HWW
  with_reducible refine (open_one a len cap zs W HROW.out).mono ?_
  rintro f u0 ⟨a', len', cap', rfl, hb0, hr0⟩
  rw [hz] at hr0 hb0
  have hr0' : RdU u0 (w.heap.size + 2) 0 := ⟨a', len', cap', 0, hr0, Nat.le_refl _⟩
  have hb0' := hb0.size
  have HR0 := Lib.hid hr0'
  have HB0 := Lib.hid hb0
  clear hr0 hr0' hb0
  go_wp2_with fail
  with_reducible refine (drProgram (w.heap.size + 2) 0 u0 HR0.out (by omega)).mono ?_
  rintro f u1 ⟨p, k, rfl, hip, hsp, hpv, hl1, hl5, hla, hr1, ho1, hb1⟩
  obtain ⟨U1, hU1⟩ : ∃ U1, u1.alloc (.cells #[.slice k.va p.vars.length k.vc, .slice k.aa p.arrs.length k.ac, .slice k.ba p.body.length k.bc] 26) = U1 := ⟨_, rfl⟩
  have hlt0 := HR0.out.lt
  have hs1 := ho1.1
  have hz1 : U1.heap.size = u1.heap.size + 1 := by rw [← hU1]; simp
  have HPX : Hid (BoxP U1 u1.heap.size p k) := by rw [← hU1]; exact BoxP.new u1 p k _
  have HB1 : Hid (Below (w.heap.size + 2) u0 U1) := by rw [← hU1]; exact hb1.alloc (by omega) _
  have HO1 : Hid (Oth (w.heap.size + 2) u0 U1) := by rw [← hU1]; exact ho1.alloc _
  have HR1 : Hid (RdU U1 (w.heap.size + 2) 6000000) := by rw [← hU1]; exact hr1.alloc _
  have HIP : Hid (IsP U1 (fun j => w.heap.size + 2 < j ∧ j < u1.heap.size) 10 p k) := by
    rw [← hU1]; exact hip.mono (fun j hj => Below.heap_alloc _ _ _ hj.2) fun j hj => ⟨by have := hj.1; omega, hj.2⟩
  have HSP := Lib.hid hsp
  have HU1 := Lib.hid hU1
  have q0 : (u1.alloc (.cells #[.slice k.va p.vars.length k.vc, .slice k.aa p.arrs.length k.ac, .slice k.ba p.body.length k.bc] 26)).cell? ⟨u1.heap.size, 0, none⟩ = _ := (BoxP.new u1 p k _).c0
  have q1 : (u1.alloc (.cells #[.slice k.va p.vars.length k.vc, .slice k.aa p.arrs.length k.ac, .slice k.ba p.body.length k.bc] 26)).cell? ⟨u1.heap.size, 1, none⟩ = _ := (BoxP.new u1 p k _).c1
  have q2 : (u1.alloc (.cells #[.slice k.va p.vars.length k.vc, .slice k.aa p.arrs.length k.ac, .slice k.ba p.body.length k.bc] 26)).cell? ⟨u1.heap.size, 2, none⟩ = _ := (BoxP.new u1 p k _).c2
  clear hU1 hip hsp hr1 ho1 hb1 hpv
  go_wp2_with fail
  rw [HU1.out]
  clear HU1 q0 q1 q2
  with_reducible refine (drSmall p k hl1 (by omega) (by omega) (w.heap.size + 2) 6000000 U1 HR1.out (by omega)).mono ?_
  rintro f u2 ⟨e, ea, ec, rfl, ⟨n, hn, hie, hse⟩, hr2, ho2, hb2⟩
  obtain ⟨U2, hU2⟩ : ∃ U2, u2.alloc (.cells #[.int .i64 e.kind, .int .i64 e.value, .slice ea e.kids.length ec] 29) = U2 := ⟨_, rfl⟩
  have hs2 := ho2.1
  have hz2 : U2.heap.size = u2.heap.size + 1 := by rw [← hU2]; simp
  have HEX : Hid (U2.heap[u2.heap.size]? = some (.cells #[.int .i64 e.kind, .int .i64 e.value, .slice ea e.kids.length ec] 29 (0, 0))) := by rw [← hU2]; exact heap_alloc_new u2 _
  have HB2 : Hid (Below (w.heap.size + 2) U1 U2) := by rw [← hU2]; exact hb2.alloc (by omega) _
  have HO2 : Hid (Oth (w.heap.size + 2) U1 U2) := by rw [← hU2]; exact ho2.alloc _
  have HST : Hid (ESt w W 6020000 8 u1.heap.size u2.heap.size p k e ea ec U2) := by
    have hcn0 : cntE e ≤ 1048569 + 8 := by
      cases n with
      | zero => exact hie.elim
      | succ n => have := hse.2.1; rw [cntE_eq]; omega
    have h1 : ESt w W 6020000 8 u1.heap.size u2.heap.size p k e ea ec U2 :=
      ⟨by rw [← hU2]; exact (hr2.mono (by omega)).alloc _, (HB0.out.trans (HB1.out.trans HB2.out)), HPX.out.later (HO2.out.2 _ (by omega) (by omega)), by omega, by omega,
        HIP.out.later fun j hj => HO2.out.2 j (by have := hj.2; omega) (by have := hj.1; omega), HEX.out, by
          rw [← hU2]; exact (hie.mono (fun j hj => Below.heap_alloc _ _ _ hj.2) fun j hj => ⟨by have := hj.1; omega, by rw [World.size_alloc]; have := hj.2; omega, by have := hj.2; omega⟩).deeper' (by omega), hcn0⟩
    exact h1
  have HU2 := Lib.hid hU2
  clear hU2 hie hse hr2 ho2 hb2 HEX HB2 HO2 HIP HR1 HO1 HB1 HPX HB0 HR0
  go_wp2_with fail
  rw [HU2.out]
  clear HU2
  with_reducible refine (pickU (w.heap.size + 2) 6020000 16 U2 HST.out.rd (by omega) (by omega) (by omega)).mono ?_
  rintro f u3 ⟨v, ⟨v0, v1⟩, rfl, hr3, ho3, hb3⟩
  have HS3 := Lib.hid (HST.out.call hr3 ho3 hb3)
  have hlt3 := HS3.out.lt
  clear HST hr3 ho3 hb3
  by_cases h0 : v = 0
  case pos =>
    subst h0
    go_wp2_with fail
    obtain ⟨W4, hW4⟩ : ∃ W4, u3.alloc (.cells #[.int .i64 (-1), .int .i64 256, .int .i64 1, .int .i64 12] 3) = W4 := ⟨_, rfl⟩
    have HL4 : Hid (∀ i, i < 4 → W4.cell? ⟨u3.heap.size, 0 + i, none⟩ = some (.int .i64 (([-1, 256, 1, 12] : List Int).getD i 0))) := by
      rw [← hW4]; exact lit_cells u3 [-1, 256, 1, 12] _
    have HS4 : Hid (ESt w W 6020001 8 u1.heap.size u2.heap.size p k e ea ec W4) := by rw [← hW4]; exact HS3.out.alloc _
    rw [hW4]
    clear hW4
    with_reducible refine (numU (w.heap.size + 2) 6020001 u3.heap.size 0 4 4 [-1, 256, 1, 12] W4 HS4.out.rd (by omega) (by omega) rfl (by omega) (by omega) HL4.out).mono ?_
    rintro f u5 ⟨z, _, rfl, hr5, ho5, hb5⟩
    have HS5 := Lib.hid (HS4.out.call hr5 ho5 hb5)
    have x1 := cell_at HS5.out.be (o := 1)
    have f1 := frozen_at HS5.out.be 1
    clear hr5 ho5 hb5 HL4 HS4 HS3
    go_wp2_with fail
    clear x1 f1
    obtain ⟨U, hU⟩ : ∃ U, u5.setCell ⟨u2.heap.size, 1, none⟩ (.int .i64 z) = U := ⟨_, rfl⟩
    have HSU : Hid (ESt w W 6020002 8 u1.heap.size u2.heap.size p k ⟨e.kind, z, e.kids⟩ ea ec U) := by rw [← hU]; exact HS5.out.num ⟨e.kind, z, e.kids⟩ rfl 1 _ rfl
    rw [hU]
    clear hU HS5
    have HS : Hid (∀ v', Oth (w.heap.size + 2) U v' → v'.cell? ⟨u1.heap.size, 0, none⟩ = some (.slice k.va p.vars.length k.vc) ∧ v'.cell? ⟨u1.heap.size, 1, none⟩ = some (.slice k.aa p.arrs.length k.ac) ∧ v'.cell? ⟨u1.heap.size, 2, none⟩ = some (.slice k.ba p.body.length k.bc) ∧ v'.cell? ⟨u2.heap.size, 0, none⟩ = some (.int .i64 e.kind) ∧ v'.cell? ⟨u2.heap.size, 1, none⟩ = some (.int .i64 z) ∧ v'.cell? ⟨u2.heap.size, 2, none⟩ = some (.slice ea e.kids.length ec)) := fun v' hv => by
      have hb := HSU.out.bp.later (hv.2 _ (by have := HSU.out.lt; have := HSU.out.gpe; omega) (by omega))
      have he := (hv.2 _ HSU.out.lt (by omega)).trans HSU.out.be
      exact ⟨hb.c0, hb.c1, hb.c2, by rw [cell_at he]; rfl, by rw [cell_at he]; rfl, by rw [cell_at he]; rfl⟩
    have HIP1 : Hid (IsP U (fun j => w.heap.size + 2 < j ∧ j < u1.heap.size) 10 p k) := HSU.out.ip
    have HIP2 : Hid (IsP U.drew (fun j => w.heap.size + 2 < j ∧ j < u1.heap.size) 10 p k) := HSU.out.ip.later fun _ _ => rfl
    have HJL1 : Hid (∀ j, (w.heap.size + 2 < j ∧ j < u1.heap.size) → j < U.heap.size) := fun j hj => by have h1 := HSU.out.lt; have h2 := HSU.out.gpe; have h3 := hj.2; omega
    have HJL2 : Hid (∀ j, (w.heap.size + 2 < j ∧ j < u1.heap.size) → j < U.drew.heap.size) := HJL1.out
    have HRU1 := Lib.hid HSU.out.rd
    have HRU2 := Lib.hid HSU.out.rd.drew
    have hgB := HSU.out.gB
    have hgpe := HSU.out.gpe
    have hglt := HSU.out.lt
    obtain ⟨p0, p1, p2, x0, x1, x2⟩ := HS.out U (Oth.refl _ _)
    have HSa := Lib.hid (HS.out U (Oth.refl _ _))
    have HSb := Lib.hid (HS.out U.drew (Oth.refl _ _).drew)
    go_region_held3 (fun v' => v'.cell? ⟨u1.heap.size, 0, none⟩ = some (.slice k.va p.vars.length k.vc) ∧ v'.cell? ⟨u1.heap.size, 1, none⟩ = some (.slice k.aa p.arrs.length k.ac) ∧ v'.cell? ⟨u1.heap.size, 2, none⟩ = some (.slice k.ba p.body.length k.bc) ∧ v'.cell? ⟨u2.heap.size, 0, none⟩ = some (.int .i64 e.kind) ∧ v'.cell? ⟨u2.heap.size, 1, none⟩ = some (.int .i64 z) ∧ v'.cell? ⟨u2.heap.size, 2, none⟩ = some (.slice ea e.kids.length ec)) (first | (with_reducible assumption) | (with_reducible exact HSa.out) | (with_reducible exact HSb.out))
      ((go_at_call 25; (with_reducible refine (mutProgram p k (fun j => w.heap.size + 2 < j ∧ j < u1.heap.size) (w.heap.size + 2) 6020002 _ (by first | exact HIP1.out | exact HIP2.out) (by first | exact HJL1.out | exact HJL2.out) HSP.out hl5 hla (by first | exact HRU1.out | exact HRU2.out) (by omega)).mono ?_)
        rintro f v ⟨q, kq, rfl, hiq, hsq, hlq, hlq2, hrq, hoq, hbq⟩
        have hO7 : Oth (w.heap.size + 2) U v := hoq
        have hB7 : Below (w.heap.size + 2) U v := (Below.refl _ U).drew.trans hbq
        have hS2 := HS.out v hO7
        simp only [aggP]
        have hb7 := hB7.size
        have hq0 := (hB7.block w.heap.size (by omega)).trans ((HSU.out.bel.block w.heap.size (by omega)).trans HX0.out)
        have hq1 := (hB7.block (w.heap.size + 1) (by omega)).trans ((HSU.out.bel.block (w.heap.size + 1) (by omega)).trans HX1.out)
        obtain ⟨r0, hr0⟩ := cell_ex hq0 0 (by simp)
        obtain ⟨r1, hr1⟩ := cell_ex hq0 1 (by simp)
        obtain ⟨r2, hr2⟩ := cell_ex hq0 2 (by simp)
        have f0 := frozen_at hq0 0
        have f1 := frozen_at hq0 1
        have f2 := frozen_at hq0 2
        have ho8 : ∀ j, j ≠ w.heap.size → (((v.setCell ⟨w.heap.size, 0, none⟩ (.slice kq.va q.vars.length kq.vc)).setCell ⟨w.heap.size, 1, none⟩ (.slice kq.aa q.arrs.length kq.ac)).setCell ⟨w.heap.size, 2, none⟩ (.slice kq.ba q.body.length kq.bc)).heap[j]? = v.heap[j]? := fun j hj => set3_oth v w.heap.size _ _ _ j hj
        have hq2 := (ho8 (w.heap.size + 1) (by omega)).trans hq1
        obtain ⟨s0, hs0⟩ := cell_ex hq1 0 (by simp)
        obtain ⟨s1, hs1'⟩ := cell_ex hq1 1 (by simp)
        obtain ⟨s2, hs2'⟩ := cell_ex hq1 2 (by simp)
        have g0 := frozen_at hq1 0
        have g1 := frozen_at hq1 1
        have g2 := frozen_at hq1 2
        have hx8 := ho8 (w.heap.size + 1) (by omega)
        have t0 : (((v.setCell ⟨w.heap.size, 0, none⟩ (.slice kq.va q.vars.length kq.vc)).setCell ⟨w.heap.size, 1, none⟩ (.slice kq.aa q.arrs.length kq.ac)).setCell ⟨w.heap.size, 2, none⟩ (.slice kq.ba q.body.length kq.bc)).cell? ⟨w.heap.size + 1, 0, none⟩ = some s0 := cell_oth hx8 hs0
        have t1 : (((v.setCell ⟨w.heap.size, 0, none⟩ (.slice kq.va q.vars.length kq.vc)).setCell ⟨w.heap.size, 1, none⟩ (.slice kq.aa q.arrs.length kq.ac)).setCell ⟨w.heap.size, 2, none⟩ (.slice kq.ba q.body.length kq.bc)).cell? ⟨w.heap.size + 1, 1, none⟩ = some s1 := cell_oth hx8 hs1'
        have t2 : (((v.setCell ⟨w.heap.size, 0, none⟩ (.slice kq.va q.vars.length kq.vc)).setCell ⟨w.heap.size, 1, none⟩ (.slice kq.aa q.arrs.length kq.ac)).setCell ⟨w.heap.size, 2, none⟩ (.slice kq.ba q.body.length kq.bc)).cell? ⟨w.heap.size + 1, 2, none⟩ = some s2 := cell_oth hx8 hs2'
        have k0 : (((v.setCell ⟨w.heap.size, 0, none⟩ (.slice kq.va q.vars.length kq.vc)).setCell ⟨w.heap.size, 1, none⟩ (.slice kq.aa q.arrs.length kq.ac)).setCell ⟨w.heap.size, 2, none⟩ (.slice kq.ba q.body.length kq.bc)).frozen? ⟨w.heap.size + 1, 0, none⟩ = false := frozen_at hq2 0
        have k1 : (((v.setCell ⟨w.heap.size, 0, none⟩ (.slice kq.va q.vars.length kq.vc)).setCell ⟨w.heap.size, 1, none⟩ (.slice kq.aa q.arrs.length kq.ac)).setCell ⟨w.heap.size, 2, none⟩ (.slice kq.ba q.body.length kq.bc)).frozen? ⟨w.heap.size + 1, 1, none⟩ = false := frozen_at hq2 1
        have k2 : (((v.setCell ⟨w.heap.size, 0, none⟩ (.slice kq.va q.vars.length kq.vc)).setCell ⟨w.heap.size, 1, none⟩ (.slice kq.aa q.arrs.length kq.ac)).setCell ⟨w.heap.size, 2, none⟩ (.slice kq.ba q.body.length kq.bc)).frozen? ⟨w.heap.size + 1, 2, none⟩ = false := frozen_at hq2 2
        have hS3 : (((v.setCell ⟨w.heap.size, 0, none⟩ (.slice kq.va q.vars.length kq.vc)).setCell ⟨w.heap.size, 1, none⟩ (.slice kq.aa q.arrs.length kq.ac)).setCell ⟨w.heap.size, 2, none⟩ (.slice kq.ba q.body.length kq.bc)).cell? ⟨u1.heap.size, 0, none⟩ = some (.slice k.va p.vars.length k.vc) ∧ (((v.setCell ⟨w.heap.size, 0, none⟩ (.slice kq.va q.vars.length kq.vc)).setCell ⟨w.heap.size, 1, none⟩ (.slice kq.aa q.arrs.length kq.ac)).setCell ⟨w.heap.size, 2, none⟩ (.slice kq.ba q.body.length kq.bc)).cell? ⟨u1.heap.size, 1, none⟩ = some (.slice k.aa p.arrs.length k.ac) ∧ (((v.setCell ⟨w.heap.size, 0, none⟩ (.slice kq.va q.vars.length kq.vc)).setCell ⟨w.heap.size, 1, none⟩ (.slice kq.aa q.arrs.length kq.ac)).setCell ⟨w.heap.size, 2, none⟩ (.slice kq.ba q.body.length kq.bc)).cell? ⟨u1.heap.size, 2, none⟩ = some (.slice k.ba p.body.length k.bc) ∧ (((v.setCell ⟨w.heap.size, 0, none⟩ (.slice kq.va q.vars.length kq.vc)).setCell ⟨w.heap.size, 1, none⟩ (.slice kq.aa q.arrs.length kq.ac)).setCell ⟨w.heap.size, 2, none⟩ (.slice kq.ba q.body.length kq.bc)).cell? ⟨u2.heap.size, 0, none⟩ = some (.int .i64 e.kind) ∧ (((v.setCell ⟨w.heap.size, 0, none⟩ (.slice kq.va q.vars.length kq.vc)).setCell ⟨w.heap.size, 1, none⟩ (.slice kq.aa q.arrs.length kq.ac)).setCell ⟨w.heap.size, 2, none⟩ (.slice kq.ba q.body.length kq.bc)).cell? ⟨u2.heap.size, 1, none⟩ = some (.int .i64 z) ∧ (((v.setCell ⟨w.heap.size, 0, none⟩ (.slice kq.va q.vars.length kq.vc)).setCell ⟨w.heap.size, 1, none⟩ (.slice kq.aa q.arrs.length kq.ac)).setCell ⟨w.heap.size, 2, none⟩ (.slice kq.ba q.body.length kq.bc)).cell? ⟨u2.heap.size, 2, none⟩ = some (.slice ea e.kids.length ec) := facts_oth (ho8 u1.heap.size (by omega)) (ho8 u2.heap.size (by omega)) hS2
        have ho9 : ∀ j, j ≠ w.heap.size → j ≠ w.heap.size + 1 → (((((((v.setCell ⟨w.heap.size, 0, none⟩ (.slice kq.va q.vars.length kq.vc)).setCell ⟨w.heap.size, 1, none⟩ (.slice kq.aa q.arrs.length kq.ac)).setCell ⟨w.heap.size, 2, none⟩ (.slice kq.ba q.body.length kq.bc)).setCell ⟨w.heap.size + 1, 0, none⟩ (.int .i64 e.kind)).setCell ⟨w.heap.size + 1, 1, none⟩ (.int .i64 z)).setCell ⟨w.heap.size + 1, 2, none⟩ (.slice ea e.kids.length ec))).heap[j]? = v.heap[j]? := fun j hj hj1 => (set3_oth _ (w.heap.size + 1) _ _ _ j hj1).trans (ho8 j hj)
        have hS4 : ((((((v.setCell ⟨w.heap.size, 0, none⟩ (.slice kq.va q.vars.length kq.vc)).setCell ⟨w.heap.size, 1, none⟩ (.slice kq.aa q.arrs.length kq.ac)).setCell ⟨w.heap.size, 2, none⟩ (.slice kq.ba q.body.length kq.bc)).setCell ⟨w.heap.size + 1, 0, none⟩ (.int .i64 e.kind)).setCell ⟨w.heap.size + 1, 1, none⟩ (.int .i64 z)).setCell ⟨w.heap.size + 1, 2, none⟩ (.slice ea e.kids.length ec)).cell? ⟨u1.heap.size, 0, none⟩ = some (.slice k.va p.vars.length k.vc) ∧ ((((((v.setCell ⟨w.heap.size, 0, none⟩ (.slice kq.va q.vars.length kq.vc)).setCell ⟨w.heap.size, 1, none⟩ (.slice kq.aa q.arrs.length kq.ac)).setCell ⟨w.heap.size, 2, none⟩ (.slice kq.ba q.body.length kq.bc)).setCell ⟨w.heap.size + 1, 0, none⟩ (.int .i64 e.kind)).setCell ⟨w.heap.size + 1, 1, none⟩ (.int .i64 z)).setCell ⟨w.heap.size + 1, 2, none⟩ (.slice ea e.kids.length ec)).cell? ⟨u1.heap.size, 1, none⟩ = some (.slice k.aa p.arrs.length k.ac) ∧ ((((((v.setCell ⟨w.heap.size, 0, none⟩ (.slice kq.va q.vars.length kq.vc)).setCell ⟨w.heap.size, 1, none⟩ (.slice kq.aa q.arrs.length kq.ac)).setCell ⟨w.heap.size, 2, none⟩ (.slice kq.ba q.body.length kq.bc)).setCell ⟨w.heap.size + 1, 0, none⟩ (.int .i64 e.kind)).setCell ⟨w.heap.size + 1, 1, none⟩ (.int .i64 z)).setCell ⟨w.heap.size + 1, 2, none⟩ (.slice ea e.kids.length ec)).cell? ⟨u1.heap.size, 2, none⟩ = some (.slice k.ba p.body.length k.bc) ∧ ((((((v.setCell ⟨w.heap.size, 0, none⟩ (.slice kq.va q.vars.length kq.vc)).setCell ⟨w.heap.size, 1, none⟩ (.slice kq.aa q.arrs.length kq.ac)).setCell ⟨w.heap.size, 2, none⟩ (.slice kq.ba q.body.length kq.bc)).setCell ⟨w.heap.size + 1, 0, none⟩ (.int .i64 e.kind)).setCell ⟨w.heap.size + 1, 1, none⟩ (.int .i64 z)).setCell ⟨w.heap.size + 1, 2, none⟩ (.slice ea e.kids.length ec)).cell? ⟨u2.heap.size, 0, none⟩ = some (.int .i64 e.kind) ∧ ((((((v.setCell ⟨w.heap.size, 0, none⟩ (.slice kq.va q.vars.length kq.vc)).setCell ⟨w.heap.size, 1, none⟩ (.slice kq.aa q.arrs.length kq.ac)).setCell ⟨w.heap.size, 2, none⟩ (.slice kq.ba q.body.length kq.bc)).setCell ⟨w.heap.size + 1, 0, none⟩ (.int .i64 e.kind)).setCell ⟨w.heap.size + 1, 1, none⟩ (.int .i64 z)).setCell ⟨w.heap.size + 1, 2, none⟩ (.slice ea e.kids.length ec)).cell? ⟨u2.heap.size, 1, none⟩ = some (.int .i64 z) ∧ ((((((v.setCell ⟨w.heap.size, 0, none⟩ (.slice kq.va q.vars.length kq.vc)).setCell ⟨w.heap.size, 1, none⟩ (.slice kq.aa q.arrs.length kq.ac)).setCell ⟨w.heap.size, 2, none⟩ (.slice kq.ba q.body.length kq.bc)).setCell ⟨w.heap.size + 1, 0, none⟩ (.int .i64 e.kind)).setCell ⟨w.heap.size + 1, 1, none⟩ (.int .i64 z)).setCell ⟨w.heap.size + 1, 2, none⟩ (.slice ea e.kids.length ec)).cell? ⟨u2.heap.size, 2, none⟩ = some (.slice ea e.kids.length ec) := facts_oth (ho9 u1.heap.size (by omega) (by omega)) (ho9 u2.heap.size (by omega) (by omega)) hS2))
    all_goals
      have hzx : (((((((v.setCell ⟨w.heap.size, 0, none⟩ (.slice kq.va q.vars.length kq.vc)).setCell ⟨w.heap.size, 1, none⟩ (.slice kq.aa q.arrs.length kq.ac)).setCell ⟨w.heap.size, 2, none⟩ (.slice kq.ba q.body.length kq.bc)).setCell ⟨w.heap.size + 1, 0, none⟩ (.int .i64 e.kind)).setCell ⟨w.heap.size + 1, 1, none⟩ (.int .i64 z)).setCell ⟨w.heap.size + 1, 2, none⟩ (.slice ea e.kids.length ec))).heap.size = v.heap.size := (set3_size _ _ _ _ _).trans (set3_size _ _ _ _ _)
      have HF : Hid (DrPE w (.returned (.tuple #[aggP q kq, .agg #[.int .i64 e.kind, .int .i64 z, .slice ea e.kids.length ec]])) (((((((v.setCell ⟨w.heap.size, 0, none⟩ (.slice kq.va q.vars.length kq.vc)).setCell ⟨w.heap.size, 1, none⟩ (.slice kq.aa q.arrs.length kq.ac)).setCell ⟨w.heap.size, 2, none⟩ (.slice kq.ba q.body.length kq.bc)).setCell ⟨w.heap.size + 1, 0, none⟩ (.int .i64 e.kind)).setCell ⟨w.heap.size + 1, 1, none⟩ (.int .i64 z)).setCell ⟨w.heap.size + 1, 2, none⟩ (.slice ea e.kids.length ec)))) := by
        have hz7 : U.drew.heap.size = U.heap.size := rfl
        refine ⟨q, kq, ⟨e.kind, z, e.kids⟩, ea, ec, rfl, ⟨_, 10, fun j hj => by rw [hzx]; exact hj.2, hiq.later fun j hj => ho9 j (by have := hj.1; omega) (by have := hj.1; omega), hsq⟩, ⟨_, 9, fun j hj => ?_, (HSU.out.ie.later fun j hj => hO7.2 j hj.2.1 (by have := hj.1; omega)).later fun j hj => ho9 j (by have := hj.1; omega) (by have := hj.1; omega)⟩, (by have := HSU.out.cn; omega), hlq, ?_⟩
        · rw [hzx]; have := hj.2.1; omega
        · exact set3_below (set3_below ((HBL.out.trans ((HSU.out.bel.trans hB7).mono (by omega)))) (Nat.le_refl _) _ _ _) (by omega) _ _ _
      clear hS2 hS3 hS4 ho9 ho8 hzx hiq hsq hrq hoq hbq hO7 hB7 HSU HS HSa HSb HIP1 HIP2 HJL1 HJL2 HRU1 HRU2
      go_wp2_with fail
      exact bodyPost_ret (v := .tuple #[aggP q kq, .agg #[.int .i64 e.kind, .int .i64 z, .slice ea e.kids.length ec]]) (by simp [results, Tryd.f6, go_sem, hr0, hr1, hr2, t0, t1, t2, aggP]) rfl HF.out
  have d0 : (v == 0) = false := by simpa using h0
  by_cases h1 : v = 1
  case pos =>
    subst h1
    go_wp2_with fail
    obtain ⟨W4, hW4⟩ : ∃ W4, u3.alloc (.cells #[.int .i64 0, .int .i64 12, .int .i64 3, .int .i64 4, .int .i64 11] 3) = W4 := ⟨_, rfl⟩
    have HL4 : Hid (∀ i, i < 5 → W4.cell? ⟨u3.heap.size, 0 + i, none⟩ = some (.int .i64 (([0, 12, 3, 4, 11] : List Int).getD i 0))) := by
      rw [← hW4]; exact lit_cells u3 [0, 12, 3, 4, 11] _
    have HS4 : Hid (ESt w W 6020001 8 u1.heap.size u2.heap.size p k e ea ec W4) := by rw [← hW4]; exact HS3.out.alloc _
    rw [hW4]
    clear hW4
    with_reducible refine (numU (w.heap.size + 2) 6020001 u3.heap.size 0 5 5 [0, 12, 3, 4, 11] W4 HS4.out.rd (by omega) (by omega) rfl (by omega) (by omega) HL4.out).mono ?_
    rintro f u5 ⟨z, _, rfl, hr5, ho5, hb5⟩
    have HS5 := Lib.hid (HS4.out.call hr5 ho5 hb5)
    have x1 := cell_at HS5.out.be (o := 0)
    have f1 := frozen_at HS5.out.be 0
    clear hr5 ho5 hb5 HL4 HS4 HS3
    go_wp2_with fail
    clear x1 f1
    obtain ⟨U, hU⟩ : ∃ U, u5.setCell ⟨u2.heap.size, 0, none⟩ (.int .i64 z) = U := ⟨_, rfl⟩
    have HSU : Hid (ESt w W 6020002 8 u1.heap.size u2.heap.size p k ⟨z, e.value, e.kids⟩ ea ec U) := by rw [← hU]; exact HS5.out.num ⟨z, e.value, e.kids⟩ rfl 0 _ rfl
    rw [hU]
    clear hU HS5
    have HS : Hid (∀ v', Oth (w.heap.size + 2) U v' → v'.cell? ⟨u1.heap.size, 0, none⟩ = some (.slice k.va p.vars.length k.vc) ∧ v'.cell? ⟨u1.heap.size, 1, none⟩ = some (.slice k.aa p.arrs.length k.ac) ∧ v'.cell? ⟨u1.heap.size, 2, none⟩ = some (.slice k.ba p.body.length k.bc) ∧ v'.cell? ⟨u2.heap.size, 0, none⟩ = some (.int .i64 z) ∧ v'.cell? ⟨u2.heap.size, 1, none⟩ = some (.int .i64 e.value) ∧ v'.cell? ⟨u2.heap.size, 2, none⟩ = some (.slice ea e.kids.length ec)) := fun v' hv => by
      have hb := HSU.out.bp.later (hv.2 _ (by have := HSU.out.lt; have := HSU.out.gpe; omega) (by omega))
      have he := (hv.2 _ HSU.out.lt (by omega)).trans HSU.out.be
      exact ⟨hb.c0, hb.c1, hb.c2, by rw [cell_at he]; rfl, by rw [cell_at he]; rfl, by rw [cell_at he]; rfl⟩
    have HIP1 : Hid (IsP U (fun j => w.heap.size + 2 < j ∧ j < u1.heap.size) 10 p k) := HSU.out.ip
    have HIP2 : Hid (IsP U.drew (fun j => w.heap.size + 2 < j ∧ j < u1.heap.size) 10 p k) := HSU.out.ip.later fun _ _ => rfl
    have HJL1 : Hid (∀ j, (w.heap.size + 2 < j ∧ j < u1.heap.size) → j < U.heap.size) := fun j hj => by have h1 := HSU.out.lt; have h2 := HSU.out.gpe; have h3 := hj.2; omega
    have HJL2 : Hid (∀ j, (w.heap.size + 2 < j ∧ j < u1.heap.size) → j < U.drew.heap.size) := HJL1.out
    have HRU1 := Lib.hid HSU.out.rd
    have HRU2 := Lib.hid HSU.out.rd.drew
    have hgB := HSU.out.gB
    have hgpe := HSU.out.gpe
    have hglt := HSU.out.lt
    obtain ⟨p0, p1, p2, x0, x1, x2⟩ := HS.out U (Oth.refl _ _)
    have HSa := Lib.hid (HS.out U (Oth.refl _ _))
    have HSb := Lib.hid (HS.out U.drew (Oth.refl _ _).drew)
    go_region_held3 (fun v' => v'.cell? ⟨u1.heap.size, 0, none⟩ = some (.slice k.va p.vars.length k.vc) ∧ v'.cell? ⟨u1.heap.size, 1, none⟩ = some (.slice k.aa p.arrs.length k.ac) ∧ v'.cell? ⟨u1.heap.size, 2, none⟩ = some (.slice k.ba p.body.length k.bc) ∧ v'.cell? ⟨u2.heap.size, 0, none⟩ = some (.int .i64 z) ∧ v'.cell? ⟨u2.heap.size, 1, none⟩ = some (.int .i64 e.value) ∧ v'.cell? ⟨u2.heap.size, 2, none⟩ = some (.slice ea e.kids.length ec)) (first | (with_reducible assumption) | (with_reducible exact HSa.out) | (with_reducible exact HSb.out))
      ((go_at_call 25; (with_reducible refine (mutProgram p k (fun j => w.heap.size + 2 < j ∧ j < u1.heap.size) (w.heap.size + 2) 6020002 _ (by first | exact HIP1.out | exact HIP2.out) (by first | exact HJL1.out | exact HJL2.out) HSP.out hl5 hla (by first | exact HRU1.out | exact HRU2.out) (by omega)).mono ?_)
        rintro f v ⟨q, kq, rfl, hiq, hsq, hlq, hlq2, hrq, hoq, hbq⟩
        have hO7 : Oth (w.heap.size + 2) U v := hoq
        have hB7 : Below (w.heap.size + 2) U v := (Below.refl _ U).drew.trans hbq
        have hS2 := HS.out v hO7
        simp only [aggP]
        have hb7 := hB7.size
        have hq0 := (hB7.block w.heap.size (by omega)).trans ((HSU.out.bel.block w.heap.size (by omega)).trans HX0.out)
        have hq1 := (hB7.block (w.heap.size + 1) (by omega)).trans ((HSU.out.bel.block (w.heap.size + 1) (by omega)).trans HX1.out)
        obtain ⟨r0, hr0⟩ := cell_ex hq0 0 (by simp)
        obtain ⟨r1, hr1⟩ := cell_ex hq0 1 (by simp)
        obtain ⟨r2, hr2⟩ := cell_ex hq0 2 (by simp)
        have f0 := frozen_at hq0 0
        have f1 := frozen_at hq0 1
        have f2 := frozen_at hq0 2
        have ho8 : ∀ j, j ≠ w.heap.size → (((v.setCell ⟨w.heap.size, 0, none⟩ (.slice kq.va q.vars.length kq.vc)).setCell ⟨w.heap.size, 1, none⟩ (.slice kq.aa q.arrs.length kq.ac)).setCell ⟨w.heap.size, 2, none⟩ (.slice kq.ba q.body.length kq.bc)).heap[j]? = v.heap[j]? := fun j hj => set3_oth v w.heap.size _ _ _ j hj
        have hq2 := (ho8 (w.heap.size + 1) (by omega)).trans hq1
        obtain ⟨s0, hs0⟩ := cell_ex hq1 0 (by simp)
        obtain ⟨s1, hs1'⟩ := cell_ex hq1 1 (by simp)
        obtain ⟨s2, hs2'⟩ := cell_ex hq1 2 (by simp)
        have g0 := frozen_at hq1 0
        have g1 := frozen_at hq1 1
        have g2 := frozen_at hq1 2
        have hx8 := ho8 (w.heap.size + 1) (by omega)
        have t0 : (((v.setCell ⟨w.heap.size, 0, none⟩ (.slice kq.va q.vars.length kq.vc)).setCell ⟨w.heap.size, 1, none⟩ (.slice kq.aa q.arrs.length kq.ac)).setCell ⟨w.heap.size, 2, none⟩ (.slice kq.ba q.body.length kq.bc)).cell? ⟨w.heap.size + 1, 0, none⟩ = some s0 := cell_oth hx8 hs0
        have t1 : (((v.setCell ⟨w.heap.size, 0, none⟩ (.slice kq.va q.vars.length kq.vc)).setCell ⟨w.heap.size, 1, none⟩ (.slice kq.aa q.arrs.length kq.ac)).setCell ⟨w.heap.size, 2, none⟩ (.slice kq.ba q.body.length kq.bc)).cell? ⟨w.heap.size + 1, 1, none⟩ = some s1 := cell_oth hx8 hs1'
        have t2 : (((v.setCell ⟨w.heap.size, 0, none⟩ (.slice kq.va q.vars.length kq.vc)).setCell ⟨w.heap.size, 1, none⟩ (.slice kq.aa q.arrs.length kq.ac)).setCell ⟨w.heap.size, 2, none⟩ (.slice kq.ba q.body.length kq.bc)).cell? ⟨w.heap.size + 1, 2, none⟩ = some s2 := cell_oth hx8 hs2'
        have k0 : (((v.setCell ⟨w.heap.size, 0, none⟩ (.slice kq.va q.vars.length kq.vc)).setCell ⟨w.heap.size, 1, none⟩ (.slice kq.aa q.arrs.length kq.ac)).setCell ⟨w.heap.size, 2, none⟩ (.slice kq.ba q.body.length kq.bc)).frozen? ⟨w.heap.size + 1, 0, none⟩ = false := frozen_at hq2 0
        have k1 : (((v.setCell ⟨w.heap.size, 0, none⟩ (.slice kq.va q.vars.length kq.vc)).setCell ⟨w.heap.size, 1, none⟩ (.slice kq.aa q.arrs.length kq.ac)).setCell ⟨w.heap.size, 2, none⟩ (.slice kq.ba q.body.length kq.bc)).frozen? ⟨w.heap.size + 1, 1, none⟩ = false := frozen_at hq2 1
        have k2 : (((v.setCell ⟨w.heap.size, 0, none⟩ (.slice kq.va q.vars.length kq.vc)).setCell ⟨w.heap.size, 1, none⟩ (.slice kq.aa q.arrs.length kq.ac)).setCell ⟨w.heap.size, 2, none⟩ (.slice kq.ba q.body.length kq.bc)).frozen? ⟨w.heap.size + 1, 2, none⟩ = false := frozen_at hq2 2
        have hS3 : (((v.setCell ⟨w.heap.size, 0, none⟩ (.slice kq.va q.vars.length kq.vc)).setCell ⟨w.heap.size, 1, none⟩ (.slice kq.aa q.arrs.length kq.ac)).setCell ⟨w.heap.size, 2, none⟩ (.slice kq.ba q.body.length kq.bc)).cell? ⟨u1.heap.size, 0, none⟩ = some (.slice k.va p.vars.length k.vc) ∧ (((v.setCell ⟨w.heap.size, 0, none⟩ (.slice kq.va q.vars.length kq.vc)).setCell ⟨w.heap.size, 1, none⟩ (.slice kq.aa q.arrs.length kq.ac)).setCell ⟨w.heap.size, 2, none⟩ (.slice kq.ba q.body.length kq.bc)).cell? ⟨u1.heap.size, 1, none⟩ = some (.slice k.aa p.arrs.length k.ac) ∧ (((v.setCell ⟨w.heap.size, 0, none⟩ (.slice kq.va q.vars.length kq.vc)).setCell ⟨w.heap.size, 1, none⟩ (.slice kq.aa q.arrs.length kq.ac)).setCell ⟨w.heap.size, 2, none⟩ (.slice kq.ba q.body.length kq.bc)).cell? ⟨u1.heap.size, 2, none⟩ = some (.slice k.ba p.body.length k.bc) ∧ (((v.setCell ⟨w.heap.size, 0, none⟩ (.slice kq.va q.vars.length kq.vc)).setCell ⟨w.heap.size, 1, none⟩ (.slice kq.aa q.arrs.length kq.ac)).setCell ⟨w.heap.size, 2, none⟩ (.slice kq.ba q.body.length kq.bc)).cell? ⟨u2.heap.size, 0, none⟩ = some (.int .i64 z) ∧ (((v.setCell ⟨w.heap.size, 0, none⟩ (.slice kq.va q.vars.length kq.vc)).setCell ⟨w.heap.size, 1, none⟩ (.slice kq.aa q.arrs.length kq.ac)).setCell ⟨w.heap.size, 2, none⟩ (.slice kq.ba q.body.length kq.bc)).cell? ⟨u2.heap.size, 1, none⟩ = some (.int .i64 e.value) ∧ (((v.setCell ⟨w.heap.size, 0, none⟩ (.slice kq.va q.vars.length kq.vc)).setCell ⟨w.heap.size, 1, none⟩ (.slice kq.aa q.arrs.length kq.ac)).setCell ⟨w.heap.size, 2, none⟩ (.slice kq.ba q.body.length kq.bc)).cell? ⟨u2.heap.size, 2, none⟩ = some (.slice ea e.kids.length ec) := facts_oth (ho8 u1.heap.size (by omega)) (ho8 u2.heap.size (by omega)) hS2
        have ho9 : ∀ j, j ≠ w.heap.size → j ≠ w.heap.size + 1 → (((((((v.setCell ⟨w.heap.size, 0, none⟩ (.slice kq.va q.vars.length kq.vc)).setCell ⟨w.heap.size, 1, none⟩ (.slice kq.aa q.arrs.length kq.ac)).setCell ⟨w.heap.size, 2, none⟩ (.slice kq.ba q.body.length kq.bc)).setCell ⟨w.heap.size + 1, 0, none⟩ (.int .i64 z)).setCell ⟨w.heap.size + 1, 1, none⟩ (.int .i64 e.value)).setCell ⟨w.heap.size + 1, 2, none⟩ (.slice ea e.kids.length ec))).heap[j]? = v.heap[j]? := fun j hj hj1 => (set3_oth _ (w.heap.size + 1) _ _ _ j hj1).trans (ho8 j hj)
        have hS4 : ((((((v.setCell ⟨w.heap.size, 0, none⟩ (.slice kq.va q.vars.length kq.vc)).setCell ⟨w.heap.size, 1, none⟩ (.slice kq.aa q.arrs.length kq.ac)).setCell ⟨w.heap.size, 2, none⟩ (.slice kq.ba q.body.length kq.bc)).setCell ⟨w.heap.size + 1, 0, none⟩ (.int .i64 z)).setCell ⟨w.heap.size + 1, 1, none⟩ (.int .i64 e.value)).setCell ⟨w.heap.size + 1, 2, none⟩ (.slice ea e.kids.length ec)).cell? ⟨u1.heap.size, 0, none⟩ = some (.slice k.va p.vars.length k.vc) ∧ ((((((v.setCell ⟨w.heap.size, 0, none⟩ (.slice kq.va q.vars.length kq.vc)).setCell ⟨w.heap.size, 1, none⟩ (.slice kq.aa q.arrs.length kq.ac)).setCell ⟨w.heap.size, 2, none⟩ (.slice kq.ba q.body.length kq.bc)).setCell ⟨w.heap.size + 1, 0, none⟩ (.int .i64 z)).setCell ⟨w.heap.size + 1, 1, none⟩ (.int .i64 e.value)).setCell ⟨w.heap.size + 1, 2, none⟩ (.slice ea e.kids.length ec)).cell? ⟨u1.heap.size, 1, none⟩ = some (.slice k.aa p.arrs.length k.ac) ∧ ((((((v.setCell ⟨w.heap.size, 0, none⟩ (.slice kq.va q.vars.length kq.vc)).setCell ⟨w.heap.size, 1, none⟩ (.slice kq.aa q.arrs.length kq.ac)).setCell ⟨w.heap.size, 2, none⟩ (.slice kq.ba q.body.length kq.bc)).setCell ⟨w.heap.size + 1, 0, none⟩ (.int .i64 z)).setCell ⟨w.heap.size + 1, 1, none⟩ (.int .i64 e.value)).setCell ⟨w.heap.size + 1, 2, none⟩ (.slice ea e.kids.length ec)).cell? ⟨u1.heap.size, 2, none⟩ = some (.slice k.ba p.body.length k.bc) ∧ ((((((v.setCell ⟨w.heap.size, 0, none⟩ (.slice kq.va q.vars.length kq.vc)).setCell ⟨w.heap.size, 1, none⟩ (.slice kq.aa q.arrs.length kq.ac)).setCell ⟨w.heap.size, 2, none⟩ (.slice kq.ba q.body.length kq.bc)).setCell ⟨w.heap.size + 1, 0, none⟩ (.int .i64 z)).setCell ⟨w.heap.size + 1, 1, none⟩ (.int .i64 e.value)).setCell ⟨w.heap.size + 1, 2, none⟩ (.slice ea e.kids.length ec)).cell? ⟨u2.heap.size, 0, none⟩ = some (.int .i64 z) ∧ ((((((v.setCell ⟨w.heap.size, 0, none⟩ (.slice kq.va q.vars.length kq.vc)).setCell ⟨w.heap.size, 1, none⟩ (.slice kq.aa q.arrs.length kq.ac)).setCell ⟨w.heap.size, 2, none⟩ (.slice kq.ba q.body.length kq.bc)).setCell ⟨w.heap.size + 1, 0, none⟩ (.int .i64 z)).setCell ⟨w.heap.size + 1, 1, none⟩ (.int .i64 e.value)).setCell ⟨w.heap.size + 1, 2, none⟩ (.slice ea e.kids.length ec)).cell? ⟨u2.heap.size, 1, none⟩ = some (.int .i64 e.value) ∧ ((((((v.setCell ⟨w.heap.size, 0, none⟩ (.slice kq.va q.vars.length kq.vc)).setCell ⟨w.heap.size, 1, none⟩ (.slice kq.aa q.arrs.length kq.ac)).setCell ⟨w.heap.size, 2, none⟩ (.slice kq.ba q.body.length kq.bc)).setCell ⟨w.heap.size + 1, 0, none⟩ (.int .i64 z)).setCell ⟨w.heap.size + 1, 1, none⟩ (.int .i64 e.value)).setCell ⟨w.heap.size + 1, 2, none⟩ (.slice ea e.kids.length ec)).cell? ⟨u2.heap.size, 2, none⟩ = some (.slice ea e.kids.length ec) := facts_oth (ho9 u1.heap.size (by omega) (by omega)) (ho9 u2.heap.size (by omega) (by omega)) hS2))
    all_goals
      have hzx : (((((((v.setCell ⟨w.heap.size, 0, none⟩ (.slice kq.va q.vars.length kq.vc)).setCell ⟨w.heap.size, 1, none⟩ (.slice kq.aa q.arrs.length kq.ac)).setCell ⟨w.heap.size, 2, none⟩ (.slice kq.ba q.body.length kq.bc)).setCell ⟨w.heap.size + 1, 0, none⟩ (.int .i64 z)).setCell ⟨w.heap.size + 1, 1, none⟩ (.int .i64 e.value)).setCell ⟨w.heap.size + 1, 2, none⟩ (.slice ea e.kids.length ec))).heap.size = v.heap.size := (set3_size _ _ _ _ _).trans (set3_size _ _ _ _ _)
      have HF : Hid (DrPE w (.returned (.tuple #[aggP q kq, .agg #[.int .i64 z, .int .i64 e.value, .slice ea e.kids.length ec]])) (((((((v.setCell ⟨w.heap.size, 0, none⟩ (.slice kq.va q.vars.length kq.vc)).setCell ⟨w.heap.size, 1, none⟩ (.slice kq.aa q.arrs.length kq.ac)).setCell ⟨w.heap.size, 2, none⟩ (.slice kq.ba q.body.length kq.bc)).setCell ⟨w.heap.size + 1, 0, none⟩ (.int .i64 z)).setCell ⟨w.heap.size + 1, 1, none⟩ (.int .i64 e.value)).setCell ⟨w.heap.size + 1, 2, none⟩ (.slice ea e.kids.length ec)))) := by
        have hz7 : U.drew.heap.size = U.heap.size := rfl
        refine ⟨q, kq, ⟨z, e.value, e.kids⟩, ea, ec, rfl, ⟨_, 10, fun j hj => by rw [hzx]; exact hj.2, hiq.later fun j hj => ho9 j (by have := hj.1; omega) (by have := hj.1; omega), hsq⟩, ⟨_, 9, fun j hj => ?_, (HSU.out.ie.later fun j hj => hO7.2 j hj.2.1 (by have := hj.1; omega)).later fun j hj => ho9 j (by have := hj.1; omega) (by have := hj.1; omega)⟩, (by have := HSU.out.cn; omega), hlq, ?_⟩
        · rw [hzx]; have := hj.2.1; omega
        · exact set3_below (set3_below ((HBL.out.trans ((HSU.out.bel.trans hB7).mono (by omega)))) (Nat.le_refl _) _ _ _) (by omega) _ _ _
      clear hS2 hS3 hS4 ho9 ho8 hzx hiq hsq hrq hoq hbq hO7 hB7 HSU HS HSa HSb HIP1 HIP2 HJL1 HJL2 HRU1 HRU2
      go_wp2_with fail
      exact bodyPost_ret (v := .tuple #[aggP q kq, .agg #[.int .i64 z, .int .i64 e.value, .slice ea e.kids.length ec]]) (by simp [results, Tryd.f6, go_sem, hr0, hr1, hr2, t0, t1, t2, aggP]) rfl HF.out
  have d1 : (v == 1) = false := by simpa using h1
  by_cases h2 : v = 2
  case pos =>
    subst h2
    have x0 := cell_at HS3.out.be (o := 0)
    have x1 := cell_at HS3.out.be (o := 1)
    have x2 := cell_at HS3.out.be (o := 2)
    have f0 := frozen_at HS3.out.be 0
    have f1 := frozen_at HS3.out.be 1
    have f2 := frozen_at HS3.out.be 2
    go_wp2_with fail
    clear x0 x1 x2 f0 f1 f2
    obtain ⟨U, hU⟩ : ∃ U, (((u3.setCell ⟨u2.heap.size, 0, none⟩ (.int .i64 3)).setCell ⟨u2.heap.size, 1, none⟩ (.int .i64 0)).setCell ⟨u2.heap.size, 2, none⟩ (.slice (some ⟨u3.heap.size, 0, none⟩) 1 1)).alloc (.cells #[.int .i64 e.kind, .int .i64 e.value, .slice ea e.kids.length ec] 29) = U := ⟨_, rfl⟩
    have HSU : Hid (ESt w W 6020001 9 u1.heap.size u2.heap.size p k ⟨3, 0, [e]⟩ (some ⟨u3.heap.size, 0, none⟩) 1 U) := by rw [← hU]; exact HS3.out.wrap
    rw [hU]
    clear hU HS3
    have HS : Hid (∀ v', Oth (w.heap.size + 2) U v' → v'.cell? ⟨u1.heap.size, 0, none⟩ = some (.slice k.va p.vars.length k.vc) ∧ v'.cell? ⟨u1.heap.size, 1, none⟩ = some (.slice k.aa p.arrs.length k.ac) ∧ v'.cell? ⟨u1.heap.size, 2, none⟩ = some (.slice k.ba p.body.length k.bc) ∧ v'.cell? ⟨u2.heap.size, 0, none⟩ = some (.int .i64 3) ∧ v'.cell? ⟨u2.heap.size, 1, none⟩ = some (.int .i64 0) ∧ v'.cell? ⟨u2.heap.size, 2, none⟩ = some (.slice (some ⟨u3.heap.size, 0, none⟩) 1 1)) := fun v' hv => by
      have hb := HSU.out.bp.later (hv.2 _ (by have := HSU.out.lt; have := HSU.out.gpe; omega) (by omega))
      have he := (hv.2 _ HSU.out.lt (by omega)).trans HSU.out.be
      exact ⟨hb.c0, hb.c1, hb.c2, by rw [cell_at he]; rfl, by rw [cell_at he]; rfl, by rw [cell_at he]; rfl⟩
    have HIP1 : Hid (IsP U (fun j => w.heap.size + 2 < j ∧ j < u1.heap.size) 10 p k) := HSU.out.ip
    have HIP2 : Hid (IsP U.drew (fun j => w.heap.size + 2 < j ∧ j < u1.heap.size) 10 p k) := HSU.out.ip.later fun _ _ => rfl
    have HJL1 : Hid (∀ j, (w.heap.size + 2 < j ∧ j < u1.heap.size) → j < U.heap.size) := fun j hj => by have h1 := HSU.out.lt; have h2 := HSU.out.gpe; have h3 := hj.2; omega
    have HJL2 : Hid (∀ j, (w.heap.size + 2 < j ∧ j < u1.heap.size) → j < U.drew.heap.size) := HJL1.out
    have HRU1 := Lib.hid HSU.out.rd
    have HRU2 := Lib.hid HSU.out.rd.drew
    have hgB := HSU.out.gB
    have hgpe := HSU.out.gpe
    have hglt := HSU.out.lt
    obtain ⟨p0, p1, p2, x0, x1, x2⟩ := HS.out U (Oth.refl _ _)
    have HSa := Lib.hid (HS.out U (Oth.refl _ _))
    have HSb := Lib.hid (HS.out U.drew (Oth.refl _ _).drew)
    go_region_held3 (fun v' => v'.cell? ⟨u1.heap.size, 0, none⟩ = some (.slice k.va p.vars.length k.vc) ∧ v'.cell? ⟨u1.heap.size, 1, none⟩ = some (.slice k.aa p.arrs.length k.ac) ∧ v'.cell? ⟨u1.heap.size, 2, none⟩ = some (.slice k.ba p.body.length k.bc) ∧ v'.cell? ⟨u2.heap.size, 0, none⟩ = some (.int .i64 3) ∧ v'.cell? ⟨u2.heap.size, 1, none⟩ = some (.int .i64 0) ∧ v'.cell? ⟨u2.heap.size, 2, none⟩ = some (.slice (some ⟨u3.heap.size, 0, none⟩) 1 1)) (first | (with_reducible assumption) | (with_reducible exact HSa.out) | (with_reducible exact HSb.out))
      ((go_at_call 25; (with_reducible refine (mutProgram p k (fun j => w.heap.size + 2 < j ∧ j < u1.heap.size) (w.heap.size + 2) 6020001 _ (by first | exact HIP1.out | exact HIP2.out) (by first | exact HJL1.out | exact HJL2.out) HSP.out hl5 hla (by first | exact HRU1.out | exact HRU2.out) (by omega)).mono ?_)
        rintro f v ⟨q, kq, rfl, hiq, hsq, hlq, hlq2, hrq, hoq, hbq⟩
        have hO7 : Oth (w.heap.size + 2) U v := hoq
        have hB7 : Below (w.heap.size + 2) U v := (Below.refl _ U).drew.trans hbq
        have hS2 := HS.out v hO7
        simp only [aggP]
        have hb7 := hB7.size
        have hq0 := (hB7.block w.heap.size (by omega)).trans ((HSU.out.bel.block w.heap.size (by omega)).trans HX0.out)
        have hq1 := (hB7.block (w.heap.size + 1) (by omega)).trans ((HSU.out.bel.block (w.heap.size + 1) (by omega)).trans HX1.out)
        obtain ⟨r0, hr0⟩ := cell_ex hq0 0 (by simp)
        obtain ⟨r1, hr1⟩ := cell_ex hq0 1 (by simp)
        obtain ⟨r2, hr2⟩ := cell_ex hq0 2 (by simp)
        have f0 := frozen_at hq0 0
        have f1 := frozen_at hq0 1
        have f2 := frozen_at hq0 2
        have ho8 : ∀ j, j ≠ w.heap.size → (((v.setCell ⟨w.heap.size, 0, none⟩ (.slice kq.va q.vars.length kq.vc)).setCell ⟨w.heap.size, 1, none⟩ (.slice kq.aa q.arrs.length kq.ac)).setCell ⟨w.heap.size, 2, none⟩ (.slice kq.ba q.body.length kq.bc)).heap[j]? = v.heap[j]? := fun j hj => set3_oth v w.heap.size _ _ _ j hj
        have hq2 := (ho8 (w.heap.size + 1) (by omega)).trans hq1
        obtain ⟨s0, hs0⟩ := cell_ex hq1 0 (by simp)
        obtain ⟨s1, hs1'⟩ := cell_ex hq1 1 (by simp)
        obtain ⟨s2, hs2'⟩ := cell_ex hq1 2 (by simp)
        have g0 := frozen_at hq1 0
        have g1 := frozen_at hq1 1
        have g2 := frozen_at hq1 2
        have hx8 := ho8 (w.heap.size + 1) (by omega)
        have t0 : (((v.setCell ⟨w.heap.size, 0, none⟩ (.slice kq.va q.vars.length kq.vc)).setCell ⟨w.heap.size, 1, none⟩ (.slice kq.aa q.arrs.length kq.ac)).setCell ⟨w.heap.size, 2, none⟩ (.slice kq.ba q.body.length kq.bc)).cell? ⟨w.heap.size + 1, 0, none⟩ = some s0 := cell_oth hx8 hs0
        have t1 : (((v.setCell ⟨w.heap.size, 0, none⟩ (.slice kq.va q.vars.length kq.vc)).setCell ⟨w.heap.size, 1, none⟩ (.slice kq.aa q.arrs.length kq.ac)).setCell ⟨w.heap.size, 2, none⟩ (.slice kq.ba q.body.length kq.bc)).cell? ⟨w.heap.size + 1, 1, none⟩ = some s1 := cell_oth hx8 hs1'
        have t2 : (((v.setCell ⟨w.heap.size, 0, none⟩ (.slice kq.va q.vars.length kq.vc)).setCell ⟨w.heap.size, 1, none⟩ (.slice kq.aa q.arrs.length kq.ac)).setCell ⟨w.heap.size, 2, none⟩ (.slice kq.ba q.body.length kq.bc)).cell? ⟨w.heap.size + 1, 2, none⟩ = some s2 := cell_oth hx8 hs2'
        have k0 : (((v.setCell ⟨w.heap.size, 0, none⟩ (.slice kq.va q.vars.length kq.vc)).setCell ⟨w.heap.size, 1, none⟩ (.slice kq.aa q.arrs.length kq.ac)).setCell ⟨w.heap.size, 2, none⟩ (.slice kq.ba q.body.length kq.bc)).frozen? ⟨w.heap.size + 1, 0, none⟩ = false := frozen_at hq2 0
        have k1 : (((v.setCell ⟨w.heap.size, 0, none⟩ (.slice kq.va q.vars.length kq.vc)).setCell ⟨w.heap.size, 1, none⟩ (.slice kq.aa q.arrs.length kq.ac)).setCell ⟨w.heap.size, 2, none⟩ (.slice kq.ba q.body.length kq.bc)).frozen? ⟨w.heap.size + 1, 1, none⟩ = false := frozen_at hq2 1
        have k2 : (((v.setCell ⟨w.heap.size, 0, none⟩ (.slice kq.va q.vars.length kq.vc)).setCell ⟨w.heap.size, 1, none⟩ (.slice kq.aa q.arrs.length kq.ac)).setCell ⟨w.heap.size, 2, none⟩ (.slice kq.ba q.body.length kq.bc)).frozen? ⟨w.heap.size + 1, 2, none⟩ = false := frozen_at hq2 2
        have hS3 : (((v.setCell ⟨w.heap.size, 0, none⟩ (.slice kq.va q.vars.length kq.vc)).setCell ⟨w.heap.size, 1, none⟩ (.slice kq.aa q.arrs.length kq.ac)).setCell ⟨w.heap.size, 2, none⟩ (.slice kq.ba q.body.length kq.bc)).cell? ⟨u1.heap.size, 0, none⟩ = some (.slice k.va p.vars.length k.vc) ∧ (((v.setCell ⟨w.heap.size, 0, none⟩ (.slice kq.va q.vars.length kq.vc)).setCell ⟨w.heap.size, 1, none⟩ (.slice kq.aa q.arrs.length kq.ac)).setCell ⟨w.heap.size, 2, none⟩ (.slice kq.ba q.body.length kq.bc)).cell? ⟨u1.heap.size, 1, none⟩ = some (.slice k.aa p.arrs.length k.ac) ∧ (((v.setCell ⟨w.heap.size, 0, none⟩ (.slice kq.va q.vars.length kq.vc)).setCell ⟨w.heap.size, 1, none⟩ (.slice kq.aa q.arrs.length kq.ac)).setCell ⟨w.heap.size, 2, none⟩ (.slice kq.ba q.body.length kq.bc)).cell? ⟨u1.heap.size, 2, none⟩ = some (.slice k.ba p.body.length k.bc) ∧ (((v.setCell ⟨w.heap.size, 0, none⟩ (.slice kq.va q.vars.length kq.vc)).setCell ⟨w.heap.size, 1, none⟩ (.slice kq.aa q.arrs.length kq.ac)).setCell ⟨w.heap.size, 2, none⟩ (.slice kq.ba q.body.length kq.bc)).cell? ⟨u2.heap.size, 0, none⟩ = some (.int .i64 3) ∧ (((v.setCell ⟨w.heap.size, 0, none⟩ (.slice kq.va q.vars.length kq.vc)).setCell ⟨w.heap.size, 1, none⟩ (.slice kq.aa q.arrs.length kq.ac)).setCell ⟨w.heap.size, 2, none⟩ (.slice kq.ba q.body.length kq.bc)).cell? ⟨u2.heap.size, 1, none⟩ = some (.int .i64 0) ∧ (((v.setCell ⟨w.heap.size, 0, none⟩ (.slice kq.va q.vars.length kq.vc)).setCell ⟨w.heap.size, 1, none⟩ (.slice kq.aa q.arrs.length kq.ac)).setCell ⟨w.heap.size, 2, none⟩ (.slice kq.ba q.body.length kq.bc)).cell? ⟨u2.heap.size, 2, none⟩ = some (.slice (some ⟨u3.heap.size, 0, none⟩) 1 1) := facts_oth (ho8 u1.heap.size (by omega)) (ho8 u2.heap.size (by omega)) hS2
        have ho9 : ∀ j, j ≠ w.heap.size → j ≠ w.heap.size + 1 → (((((((v.setCell ⟨w.heap.size, 0, none⟩ (.slice kq.va q.vars.length kq.vc)).setCell ⟨w.heap.size, 1, none⟩ (.slice kq.aa q.arrs.length kq.ac)).setCell ⟨w.heap.size, 2, none⟩ (.slice kq.ba q.body.length kq.bc)).setCell ⟨w.heap.size + 1, 0, none⟩ (.int .i64 3)).setCell ⟨w.heap.size + 1, 1, none⟩ (.int .i64 0)).setCell ⟨w.heap.size + 1, 2, none⟩ (.slice (some ⟨u3.heap.size, 0, none⟩) 1 1))).heap[j]? = v.heap[j]? := fun j hj hj1 => (set3_oth _ (w.heap.size + 1) _ _ _ j hj1).trans (ho8 j hj)
        have hS4 : ((((((v.setCell ⟨w.heap.size, 0, none⟩ (.slice kq.va q.vars.length kq.vc)).setCell ⟨w.heap.size, 1, none⟩ (.slice kq.aa q.arrs.length kq.ac)).setCell ⟨w.heap.size, 2, none⟩ (.slice kq.ba q.body.length kq.bc)).setCell ⟨w.heap.size + 1, 0, none⟩ (.int .i64 3)).setCell ⟨w.heap.size + 1, 1, none⟩ (.int .i64 0)).setCell ⟨w.heap.size + 1, 2, none⟩ (.slice (some ⟨u3.heap.size, 0, none⟩) 1 1)).cell? ⟨u1.heap.size, 0, none⟩ = some (.slice k.va p.vars.length k.vc) ∧ ((((((v.setCell ⟨w.heap.size, 0, none⟩ (.slice kq.va q.vars.length kq.vc)).setCell ⟨w.heap.size, 1, none⟩ (.slice kq.aa q.arrs.length kq.ac)).setCell ⟨w.heap.size, 2, none⟩ (.slice kq.ba q.body.length kq.bc)).setCell ⟨w.heap.size + 1, 0, none⟩ (.int .i64 3)).setCell ⟨w.heap.size + 1, 1, none⟩ (.int .i64 0)).setCell ⟨w.heap.size + 1, 2, none⟩ (.slice (some ⟨u3.heap.size, 0, none⟩) 1 1)).cell? ⟨u1.heap.size, 1, none⟩ = some (.slice k.aa p.arrs.length k.ac) ∧ ((((((v.setCell ⟨w.heap.size, 0, none⟩ (.slice kq.va q.vars.length kq.vc)).setCell ⟨w.heap.size, 1, none⟩ (.slice kq.aa q.arrs.length kq.ac)).setCell ⟨w.heap.size, 2, none⟩ (.slice kq.ba q.body.length kq.bc)).setCell ⟨w.heap.size + 1, 0, none⟩ (.int .i64 3)).setCell ⟨w.heap.size + 1, 1, none⟩ (.int .i64 0)).setCell ⟨w.heap.size + 1, 2, none⟩ (.slice (some ⟨u3.heap.size, 0, none⟩) 1 1)).cell? ⟨u1.heap.size, 2, none⟩ = some (.slice k.ba p.body.length k.bc) ∧ ((((((v.setCell ⟨w.heap.size, 0, none⟩ (.slice kq.va q.vars.length kq.vc)).setCell ⟨w.heap.size, 1, none⟩ (.slice kq.aa q.arrs.length kq.ac)).setCell ⟨w.heap.size, 2, none⟩ (.slice kq.ba q.body.length kq.bc)).setCell ⟨w.heap.size + 1, 0, none⟩ (.int .i64 3)).setCell ⟨w.heap.size + 1, 1, none⟩ (.int .i64 0)).setCell ⟨w.heap.size + 1, 2, none⟩ (.slice (some ⟨u3.heap.size, 0, none⟩) 1 1)).cell? ⟨u2.heap.size, 0, none⟩ = some (.int .i64 3) ∧ ((((((v.setCell ⟨w.heap.size, 0, none⟩ (.slice kq.va q.vars.length kq.vc)).setCell ⟨w.heap.size, 1, none⟩ (.slice kq.aa q.arrs.length kq.ac)).setCell ⟨w.heap.size, 2, none⟩ (.slice kq.ba q.body.length kq.bc)).setCell ⟨w.heap.size + 1, 0, none⟩ (.int .i64 3)).setCell ⟨w.heap.size + 1, 1, none⟩ (.int .i64 0)).setCell ⟨w.heap.size + 1, 2, none⟩ (.slice (some ⟨u3.heap.size, 0, none⟩) 1 1)).cell? ⟨u2.heap.size, 1, none⟩ = some (.int .i64 0) ∧ ((((((v.setCell ⟨w.heap.size, 0, none⟩ (.slice kq.va q.vars.length kq.vc)).setCell ⟨w.heap.size, 1, none⟩ (.slice kq.aa q.arrs.length kq.ac)).setCell ⟨w.heap.size, 2, none⟩ (.slice kq.ba q.body.length kq.bc)).setCell ⟨w.heap.size + 1, 0, none⟩ (.int .i64 3)).setCell ⟨w.heap.size + 1, 1, none⟩ (.int .i64 0)).setCell ⟨w.heap.size + 1, 2, none⟩ (.slice (some ⟨u3.heap.size, 0, none⟩) 1 1)).cell? ⟨u2.heap.size, 2, none⟩ = some (.slice (some ⟨u3.heap.size, 0, none⟩) 1 1) := facts_oth (ho9 u1.heap.size (by omega) (by omega)) (ho9 u2.heap.size (by omega) (by omega)) hS2))
    all_goals
      have hzx : (((((((v.setCell ⟨w.heap.size, 0, none⟩ (.slice kq.va q.vars.length kq.vc)).setCell ⟨w.heap.size, 1, none⟩ (.slice kq.aa q.arrs.length kq.ac)).setCell ⟨w.heap.size, 2, none⟩ (.slice kq.ba q.body.length kq.bc)).setCell ⟨w.heap.size + 1, 0, none⟩ (.int .i64 3)).setCell ⟨w.heap.size + 1, 1, none⟩ (.int .i64 0)).setCell ⟨w.heap.size + 1, 2, none⟩ (.slice (some ⟨u3.heap.size, 0, none⟩) 1 1))).heap.size = v.heap.size := (set3_size _ _ _ _ _).trans (set3_size _ _ _ _ _)
      have HF : Hid (DrPE w (.returned (.tuple #[aggP q kq, .agg #[.int .i64 3, .int .i64 0, .slice (some ⟨u3.heap.size, 0, none⟩) 1 1]])) (((((((v.setCell ⟨w.heap.size, 0, none⟩ (.slice kq.va q.vars.length kq.vc)).setCell ⟨w.heap.size, 1, none⟩ (.slice kq.aa q.arrs.length kq.ac)).setCell ⟨w.heap.size, 2, none⟩ (.slice kq.ba q.body.length kq.bc)).setCell ⟨w.heap.size + 1, 0, none⟩ (.int .i64 3)).setCell ⟨w.heap.size + 1, 1, none⟩ (.int .i64 0)).setCell ⟨w.heap.size + 1, 2, none⟩ (.slice (some ⟨u3.heap.size, 0, none⟩) 1 1)))) := by
        have hz7 : U.drew.heap.size = U.heap.size := rfl
        refine ⟨q, kq, ⟨3, 0, [e]⟩, (some ⟨u3.heap.size, 0, none⟩), 1, rfl, ⟨_, 10, fun j hj => by rw [hzx]; exact hj.2, hiq.later fun j hj => ho9 j (by have := hj.1; omega) (by have := hj.1; omega), hsq⟩, ⟨_, 10, fun j hj => ?_, (HSU.out.ie.later fun j hj => hO7.2 j hj.2.1 (by have := hj.1; omega)).later fun j hj => ho9 j (by have := hj.1; omega) (by have := hj.1; omega)⟩, (by have := HSU.out.cn; omega), hlq, ?_⟩
        · rw [hzx]; have := hj.2.1; omega
        · exact set3_below (set3_below ((HBL.out.trans ((HSU.out.bel.trans hB7).mono (by omega)))) (Nat.le_refl _) _ _ _) (by omega) _ _ _
      clear hS2 hS3 hS4 ho9 ho8 hzx hiq hsq hrq hoq hbq hO7 hB7 HSU HS HSa HSb HIP1 HIP2 HJL1 HJL2 HRU1 HRU2
      go_wp2_with fail
      exact bodyPost_ret (v := .tuple #[aggP q kq, .agg #[.int .i64 3, .int .i64 0, .slice (some ⟨u3.heap.size, 0, none⟩) 1 1]]) (by simp [results, Tryd.f6, go_sem, hr0, hr1, hr2, t0, t1, t2, aggP]) rfl HF.out
  have d2 : (v == 2) = false := by simpa using h2
  go_wp2_with fail
  obtain ⟨U, hU⟩ : ∃ U, U = u3 := ⟨_, rfl⟩
  subst hU
  have HSU : Hid (ESt w W 6020002 8 u1.heap.size u2.heap.size p k e ea ec U) := HS3.out.call (HS3.out.rd.mono (by omega)) (Oth.refl _ _) (Below.refl _ _)
  clear HS3
  have HS : Hid (∀ v', Oth (w.heap.size + 2) U v' → v'.cell? ⟨u1.heap.size, 0, none⟩ = some (.slice k.va p.vars.length k.vc) ∧ v'.cell? ⟨u1.heap.size, 1, none⟩ = some (.slice k.aa p.arrs.length k.ac) ∧ v'.cell? ⟨u1.heap.size, 2, none⟩ = some (.slice k.ba p.body.length k.bc) ∧ v'.cell? ⟨u2.heap.size, 0, none⟩ = some (.int .i64 e.kind) ∧ v'.cell? ⟨u2.heap.size, 1, none⟩ = some (.int .i64 e.value) ∧ v'.cell? ⟨u2.heap.size, 2, none⟩ = some (.slice ea e.kids.length ec)) := fun v' hv => by
    have hb := HSU.out.bp.later (hv.2 _ (by have := HSU.out.lt; have := HSU.out.gpe; omega) (by omega))
    have he := (hv.2 _ HSU.out.lt (by omega)).trans HSU.out.be
    exact ⟨hb.c0, hb.c1, hb.c2, by rw [cell_at he]; rfl, by rw [cell_at he]; rfl, by rw [cell_at he]; rfl⟩
  have HIP1 : Hid (IsP U (fun j => w.heap.size + 2 < j ∧ j < u1.heap.size) 10 p k) := HSU.out.ip
  have HIP2 : Hid (IsP U.drew (fun j => w.heap.size + 2 < j ∧ j < u1.heap.size) 10 p k) := HSU.out.ip.later fun _ _ => rfl
  have HJL1 : Hid (∀ j, (w.heap.size + 2 < j ∧ j < u1.heap.size) → j < U.heap.size) := fun j hj => by have h1 := HSU.out.lt; have h2 := HSU.out.gpe; have h3 := hj.2; omega
  have HJL2 : Hid (∀ j, (w.heap.size + 2 < j ∧ j < u1.heap.size) → j < U.drew.heap.size) := HJL1.out
  have HRU1 := Lib.hid HSU.out.rd
  have HRU2 := Lib.hid HSU.out.rd.drew
  have hgB := HSU.out.gB
  have hgpe := HSU.out.gpe
  have hglt := HSU.out.lt
  obtain ⟨p0, p1, p2, x0, x1, x2⟩ := HS.out U (Oth.refl _ _)
  have HSa := Lib.hid (HS.out U (Oth.refl _ _))
  have HSb := Lib.hid (HS.out U.drew (Oth.refl _ _).drew)
  go_region_held3 (fun v' => v'.cell? ⟨u1.heap.size, 0, none⟩ = some (.slice k.va p.vars.length k.vc) ∧ v'.cell? ⟨u1.heap.size, 1, none⟩ = some (.slice k.aa p.arrs.length k.ac) ∧ v'.cell? ⟨u1.heap.size, 2, none⟩ = some (.slice k.ba p.body.length k.bc) ∧ v'.cell? ⟨u2.heap.size, 0, none⟩ = some (.int .i64 e.kind) ∧ v'.cell? ⟨u2.heap.size, 1, none⟩ = some (.int .i64 e.value) ∧ v'.cell? ⟨u2.heap.size, 2, none⟩ = some (.slice ea e.kids.length ec)) (first | (with_reducible assumption) | (with_reducible exact HSa.out) | (with_reducible exact HSb.out))
    ((go_at_call 25; (with_reducible refine (mutProgram p k (fun j => w.heap.size + 2 < j ∧ j < u1.heap.size) (w.heap.size + 2) 6020002 _ (by first | exact HIP1.out | exact HIP2.out) (by first | exact HJL1.out | exact HJL2.out) HSP.out hl5 hla (by first | exact HRU1.out | exact HRU2.out) (by omega)).mono ?_)
      rintro f v ⟨q, kq, rfl, hiq, hsq, hlq, hlq2, hrq, hoq, hbq⟩
      have hO7 : Oth (w.heap.size + 2) U v := hoq
      have hB7 : Below (w.heap.size + 2) U v := (Below.refl _ U).drew.trans hbq
      have hS2 := HS.out v hO7
      simp only [aggP]
      have hb7 := hB7.size
      have hq0 := (hB7.block w.heap.size (by omega)).trans ((HSU.out.bel.block w.heap.size (by omega)).trans HX0.out)
      have hq1 := (hB7.block (w.heap.size + 1) (by omega)).trans ((HSU.out.bel.block (w.heap.size + 1) (by omega)).trans HX1.out)
      obtain ⟨r0, hr0⟩ := cell_ex hq0 0 (by simp)
      obtain ⟨r1, hr1⟩ := cell_ex hq0 1 (by simp)
      obtain ⟨r2, hr2⟩ := cell_ex hq0 2 (by simp)
      have f0 := frozen_at hq0 0
      have f1 := frozen_at hq0 1
      have f2 := frozen_at hq0 2
      have ho8 : ∀ j, j ≠ w.heap.size → (((v.setCell ⟨w.heap.size, 0, none⟩ (.slice kq.va q.vars.length kq.vc)).setCell ⟨w.heap.size, 1, none⟩ (.slice kq.aa q.arrs.length kq.ac)).setCell ⟨w.heap.size, 2, none⟩ (.slice kq.ba q.body.length kq.bc)).heap[j]? = v.heap[j]? := fun j hj => set3_oth v w.heap.size _ _ _ j hj
      have hq2 := (ho8 (w.heap.size + 1) (by omega)).trans hq1
      obtain ⟨s0, hs0⟩ := cell_ex hq1 0 (by simp)
      obtain ⟨s1, hs1'⟩ := cell_ex hq1 1 (by simp)
      obtain ⟨s2, hs2'⟩ := cell_ex hq1 2 (by simp)
      have g0 := frozen_at hq1 0
      have g1 := frozen_at hq1 1
      have g2 := frozen_at hq1 2
      have hx8 := ho8 (w.heap.size + 1) (by omega)
      have t0 : (((v.setCell ⟨w.heap.size, 0, none⟩ (.slice kq.va q.vars.length kq.vc)).setCell ⟨w.heap.size, 1, none⟩ (.slice kq.aa q.arrs.length kq.ac)).setCell ⟨w.heap.size, 2, none⟩ (.slice kq.ba q.body.length kq.bc)).cell? ⟨w.heap.size + 1, 0, none⟩ = some s0 := cell_oth hx8 hs0
      have t1 : (((v.setCell ⟨w.heap.size, 0, none⟩ (.slice kq.va q.vars.length kq.vc)).setCell ⟨w.heap.size, 1, none⟩ (.slice kq.aa q.arrs.length kq.ac)).setCell ⟨w.heap.size, 2, none⟩ (.slice kq.ba q.body.length kq.bc)).cell? ⟨w.heap.size + 1, 1, none⟩ = some s1 := cell_oth hx8 hs1'
      have t2 : (((v.setCell ⟨w.heap.size, 0, none⟩ (.slice kq.va q.vars.length kq.vc)).setCell ⟨w.heap.size, 1, none⟩ (.slice kq.aa q.arrs.length kq.ac)).setCell ⟨w.heap.size, 2, none⟩ (.slice kq.ba q.body.length kq.bc)).cell? ⟨w.heap.size + 1, 2, none⟩ = some s2 := cell_oth hx8 hs2'
      have k0 : (((v.setCell ⟨w.heap.size, 0, none⟩ (.slice kq.va q.vars.length kq.vc)).setCell ⟨w.heap.size, 1, none⟩ (.slice kq.aa q.arrs.length kq.ac)).setCell ⟨w.heap.size, 2, none⟩ (.slice kq.ba q.body.length kq.bc)).frozen? ⟨w.heap.size + 1, 0, none⟩ = false := frozen_at hq2 0
      have k1 : (((v.setCell ⟨w.heap.size, 0, none⟩ (.slice kq.va q.vars.length kq.vc)).setCell ⟨w.heap.size, 1, none⟩ (.slice kq.aa q.arrs.length kq.ac)).setCell ⟨w.heap.size, 2, none⟩ (.slice kq.ba q.body.length kq.bc)).frozen? ⟨w.heap.size + 1, 1, none⟩ = false := frozen_at hq2 1
      have k2 : (((v.setCell ⟨w.heap.size, 0, none⟩ (.slice kq.va q.vars.length kq.vc)).setCell ⟨w.heap.size, 1, none⟩ (.slice kq.aa q.arrs.length kq.ac)).setCell ⟨w.heap.size, 2, none⟩ (.slice kq.ba q.body.length kq.bc)).frozen? ⟨w.heap.size + 1, 2, none⟩ = false := frozen_at hq2 2
      have hS3 : (((v.setCell ⟨w.heap.size, 0, none⟩ (.slice kq.va q.vars.length kq.vc)).setCell ⟨w.heap.size, 1, none⟩ (.slice kq.aa q.arrs.length kq.ac)).setCell ⟨w.heap.size, 2, none⟩ (.slice kq.ba q.body.length kq.bc)).cell? ⟨u1.heap.size, 0, none⟩ = some (.slice k.va p.vars.length k.vc) ∧ (((v.setCell ⟨w.heap.size, 0, none⟩ (.slice kq.va q.vars.length kq.vc)).setCell ⟨w.heap.size, 1, none⟩ (.slice kq.aa q.arrs.length kq.ac)).setCell ⟨w.heap.size, 2, none⟩ (.slice kq.ba q.body.length kq.bc)).cell? ⟨u1.heap.size, 1, none⟩ = some (.slice k.aa p.arrs.length k.ac) ∧ (((v.setCell ⟨w.heap.size, 0, none⟩ (.slice kq.va q.vars.length kq.vc)).setCell ⟨w.heap.size, 1, none⟩ (.slice kq.aa q.arrs.length kq.ac)).setCell ⟨w.heap.size, 2, none⟩ (.slice kq.ba q.body.length kq.bc)).cell? ⟨u1.heap.size, 2, none⟩ = some (.slice k.ba p.body.length k.bc) ∧ (((v.setCell ⟨w.heap.size, 0, none⟩ (.slice kq.va q.vars.length kq.vc)).setCell ⟨w.heap.size, 1, none⟩ (.slice kq.aa q.arrs.length kq.ac)).setCell ⟨w.heap.size, 2, none⟩ (.slice kq.ba q.body.length kq.bc)).cell? ⟨u2.heap.size, 0, none⟩ = some (.int .i64 e.kind) ∧ (((v.setCell ⟨w.heap.size, 0, none⟩ (.slice kq.va q.vars.length kq.vc)).setCell ⟨w.heap.size, 1, none⟩ (.slice kq.aa q.arrs.length kq.ac)).setCell ⟨w.heap.size, 2, none⟩ (.slice kq.ba q.body.length kq.bc)).cell? ⟨u2.heap.size, 1, none⟩ = some (.int .i64 e.value) ∧ (((v.setCell ⟨w.heap.size, 0, none⟩ (.slice kq.va q.vars.length kq.vc)).setCell ⟨w.heap.size, 1, none⟩ (.slice kq.aa q.arrs.length kq.ac)).setCell ⟨w.heap.size, 2, none⟩ (.slice kq.ba q.body.length kq.bc)).cell? ⟨u2.heap.size, 2, none⟩ = some (.slice ea e.kids.length ec) := facts_oth (ho8 u1.heap.size (by omega)) (ho8 u2.heap.size (by omega)) hS2
      have ho9 : ∀ j, j ≠ w.heap.size → j ≠ w.heap.size + 1 → (((((((v.setCell ⟨w.heap.size, 0, none⟩ (.slice kq.va q.vars.length kq.vc)).setCell ⟨w.heap.size, 1, none⟩ (.slice kq.aa q.arrs.length kq.ac)).setCell ⟨w.heap.size, 2, none⟩ (.slice kq.ba q.body.length kq.bc)).setCell ⟨w.heap.size + 1, 0, none⟩ (.int .i64 e.kind)).setCell ⟨w.heap.size + 1, 1, none⟩ (.int .i64 e.value)).setCell ⟨w.heap.size + 1, 2, none⟩ (.slice ea e.kids.length ec))).heap[j]? = v.heap[j]? := fun j hj hj1 => (set3_oth _ (w.heap.size + 1) _ _ _ j hj1).trans (ho8 j hj)
      have hS4 : ((((((v.setCell ⟨w.heap.size, 0, none⟩ (.slice kq.va q.vars.length kq.vc)).setCell ⟨w.heap.size, 1, none⟩ (.slice kq.aa q.arrs.length kq.ac)).setCell ⟨w.heap.size, 2, none⟩ (.slice kq.ba q.body.length kq.bc)).setCell ⟨w.heap.size + 1, 0, none⟩ (.int .i64 e.kind)).setCell ⟨w.heap.size + 1, 1, none⟩ (.int .i64 e.value)).setCell ⟨w.heap.size + 1, 2, none⟩ (.slice ea e.kids.length ec)).cell? ⟨u1.heap.size, 0, none⟩ = some (.slice k.va p.vars.length k.vc) ∧ ((((((v.setCell ⟨w.heap.size, 0, none⟩ (.slice kq.va q.vars.length kq.vc)).setCell ⟨w.heap.size, 1, none⟩ (.slice kq.aa q.arrs.length kq.ac)).setCell ⟨w.heap.size, 2, none⟩ (.slice kq.ba q.body.length kq.bc)).setCell ⟨w.heap.size + 1, 0, none⟩ (.int .i64 e.kind)).setCell ⟨w.heap.size + 1, 1, none⟩ (.int .i64 e.value)).setCell ⟨w.heap.size + 1, 2, none⟩ (.slice ea e.kids.length ec)).cell? ⟨u1.heap.size, 1, none⟩ = some (.slice k.aa p.arrs.length k.ac) ∧ ((((((v.setCell ⟨w.heap.size, 0, none⟩ (.slice kq.va q.vars.length kq.vc)).setCell ⟨w.heap.size, 1, none⟩ (.slice kq.aa q.arrs.length kq.ac)).setCell ⟨w.heap.size, 2, none⟩ (.slice kq.ba q.body.length kq.bc)).setCell ⟨w.heap.size + 1, 0, none⟩ (.int .i64 e.kind)).setCell ⟨w.heap.size + 1, 1, none⟩ (.int .i64 e.value)).setCell ⟨w.heap.size + 1, 2, none⟩ (.slice ea e.kids.length ec)).cell? ⟨u1.heap.size, 2, none⟩ = some (.slice k.ba p.body.length k.bc) ∧ ((((((v.setCell ⟨w.heap.size, 0, none⟩ (.slice kq.va q.vars.length kq.vc)).setCell ⟨w.heap.size, 1, none⟩ (.slice kq.aa q.arrs.length kq.ac)).setCell ⟨w.heap.size, 2, none⟩ (.slice kq.ba q.body.length kq.bc)).setCell ⟨w.heap.size + 1, 0, none⟩ (.int .i64 e.kind)).setCell ⟨w.heap.size + 1, 1, none⟩ (.int .i64 e.value)).setCell ⟨w.heap.size + 1, 2, none⟩ (.slice ea e.kids.length ec)).cell? ⟨u2.heap.size, 0, none⟩ = some (.int .i64 e.kind) ∧ ((((((v.setCell ⟨w.heap.size, 0, none⟩ (.slice kq.va q.vars.length kq.vc)).setCell ⟨w.heap.size, 1, none⟩ (.slice kq.aa q.arrs.length kq.ac)).setCell ⟨w.heap.size, 2, none⟩ (.slice kq.ba q.body.length kq.bc)).setCell ⟨w.heap.size + 1, 0, none⟩ (.int .i64 e.kind)).setCell ⟨w.heap.size + 1, 1, none⟩ (.int .i64 e.value)).setCell ⟨w.heap.size + 1, 2, none⟩ (.slice ea e.kids.length ec)).cell? ⟨u2.heap.size, 1, none⟩ = some (.int .i64 e.value) ∧ ((((((v.setCell ⟨w.heap.size, 0, none⟩ (.slice kq.va q.vars.length kq.vc)).setCell ⟨w.heap.size, 1, none⟩ (.slice kq.aa q.arrs.length kq.ac)).setCell ⟨w.heap.size, 2, none⟩ (.slice kq.ba q.body.length kq.bc)).setCell ⟨w.heap.size + 1, 0, none⟩ (.int .i64 e.kind)).setCell ⟨w.heap.size + 1, 1, none⟩ (.int .i64 e.value)).setCell ⟨w.heap.size + 1, 2, none⟩ (.slice ea e.kids.length ec)).cell? ⟨u2.heap.size, 2, none⟩ = some (.slice ea e.kids.length ec) := facts_oth (ho9 u1.heap.size (by omega) (by omega)) (ho9 u2.heap.size (by omega) (by omega)) hS2))
  all_goals
    have hzx : (((((((v.setCell ⟨w.heap.size, 0, none⟩ (.slice kq.va q.vars.length kq.vc)).setCell ⟨w.heap.size, 1, none⟩ (.slice kq.aa q.arrs.length kq.ac)).setCell ⟨w.heap.size, 2, none⟩ (.slice kq.ba q.body.length kq.bc)).setCell ⟨w.heap.size + 1, 0, none⟩ (.int .i64 e.kind)).setCell ⟨w.heap.size + 1, 1, none⟩ (.int .i64 e.value)).setCell ⟨w.heap.size + 1, 2, none⟩ (.slice ea e.kids.length ec))).heap.size = v.heap.size := (set3_size _ _ _ _ _).trans (set3_size _ _ _ _ _)
    have HF : Hid (DrPE w (.returned (.tuple #[aggP q kq, .agg #[.int .i64 e.kind, .int .i64 e.value, .slice ea e.kids.length ec]])) (((((((v.setCell ⟨w.heap.size, 0, none⟩ (.slice kq.va q.vars.length kq.vc)).setCell ⟨w.heap.size, 1, none⟩ (.slice kq.aa q.arrs.length kq.ac)).setCell ⟨w.heap.size, 2, none⟩ (.slice kq.ba q.body.length kq.bc)).setCell ⟨w.heap.size + 1, 0, none⟩ (.int .i64 e.kind)).setCell ⟨w.heap.size + 1, 1, none⟩ (.int .i64 e.value)).setCell ⟨w.heap.size + 1, 2, none⟩ (.slice ea e.kids.length ec)))) := by
      have hz7 : U.drew.heap.size = U.heap.size := rfl
      refine ⟨q, kq, e, ea, ec, rfl, ⟨_, 10, fun j hj => by rw [hzx]; exact hj.2, hiq.later fun j hj => ho9 j (by have := hj.1; omega) (by have := hj.1; omega), hsq⟩, ⟨_, 9, fun j hj => ?_, (HSU.out.ie.later fun j hj => hO7.2 j hj.2.1 (by have := hj.1; omega)).later fun j hj => ho9 j (by have := hj.1; omega) (by have := hj.1; omega)⟩, (by have := HSU.out.cn; omega), hlq, ?_⟩
      · rw [hzx]; have := hj.2.1; omega
      · exact set3_below (set3_below ((HBL.out.trans ((HSU.out.bel.trans hB7).mono (by omega)))) (Nat.le_refl _) _ _ _) (by omega) _ _ _
    clear hS2 hS3 hS4 ho9 ho8 hzx hiq hsq hrq hoq hbq hO7 hB7 HSU HS HSa HSb HIP1 HIP2 HJL1 HJL2 HRU1 HRU2
    go_wp2_with fail
    exact bodyPost_ret (v := .tuple #[aggP q kq, .agg #[.int .i64 e.kind, .int .i64 e.value, .slice ea e.kids.length ec]]) (by simp [results, Tryd.f6, go_sem, hr0, hr1, hr2, t0, t1, t2, aggP]) rfl HF.out
end Go.Proofs.YtlhdgoindknpfaaDoor

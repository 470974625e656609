/- The copy of a state. -/
import Derived.Test.YtgfagdjadmpklaaMcM
import Derived.Test.YtgfagdjadmpklaaMwM
import Derived.Deep.RegionLaw
namespace Go.Proofs.Ytgfagdjadmpklaa
open Go.RowKit
set_option linter.unusedVariables false

theorem MLD.wide2 {w w' : World} {m : Mm} {k : MC} (h : ML w m k) (hb : ∀ q, q < w.heap.size → w'.heap[q]? = w.heap[q]?) (hz : w.heap.size ≤ w'.heap.size) : ML w' m k := ⟨h.1.wide hb fun b hb => Nat.lt_of_lt_of_le hb hz, h.2.wide hb fun b hb => Nat.lt_of_lt_of_le hb hz⟩
/-- A copied state. -/
def CpS (s : Ms) (w : World) (f : Ending) (w' : World) : Prop := ∃ k, f = .returned (aggS4 s k) ∧ (IAt w' (fun b => w.heap.size ≤ b ∧ b < w'.heap.size) s.regs k.ra ∧ MLD w' (fun b => w.heap.size ≤ b ∧ b < w'.heap.size) s.mem k.me) ∧ Below w.heap.size w w'

theorem cps_fin {pc : Int} {rs : List Int} {m : Mm} {w w1 w2 : World} {a2 : Option Addr} {c2 nr nv na Z : Nat} {k' : MC} {qs : List Qw} (hnr : rs.length = nr) (hnv : m.vals.length = nv) (hna : m.arrs.length = na) (hv : OwnI w1 (w.heap.size + 2) (.slice a2 nr c2) rs) (hz : w.heap.size + 2 ≤ w1.heap.size) (hw1 : Below w.heap.size w w1) (hb2 : Below w1.heap.size w1 w2) (hom : OMw w2 w1.heap.size Z m k' qs) :
    CpS ⟨pc, rs, m⟩ w (.returned (.agg #[.int .i64 pc, .slice a2 nr c2, .slice k'.va nv k'.vc, .slice k'.aa na k'.ac])) ((((w2.setCell ⟨w.heap.size + 1, 0, none⟩ (.int .i64 pc)).setCell ⟨w.heap.size + 1, 1, none⟩ (.slice a2 nr c2)).setCell ⟨w.heap.size + 1, 2, none⟩ (.slice k'.va nv k'.vc)).setCell ⟨w.heap.size + 1, 3, none⟩ (.slice k'.aa na k'.ac)) := by
  subst hnr hnv hna
  obtain ⟨W, hW⟩ : ∃ W, ((((w2.setCell ⟨w.heap.size + 1, 0, none⟩ (.int .i64 pc)).setCell ⟨w.heap.size + 1, 1, none⟩ (.slice a2 rs.length c2)).setCell ⟨w.heap.size + 1, 2, none⟩ (.slice k'.va m.vals.length k'.vc)).setCell ⟨w.heap.size + 1, 3, none⟩ (.slice k'.aa m.arrs.length k'.ac)) = W := ⟨_, rfl⟩
  have hst : ∀ q, q ≠ w.heap.size + 1 → W.heap[q]? = w2.heap[q]? := fun q hq => by
    rw [← hW, Below.heap_setCell _ _ _ _ (by simpa using hq), Below.heap_setCell _ _ _ _ (by simpa using hq), Below.heap_setCell _ _ _ _ (by simpa using hq), Below.heap_setCell _ _ _ _ (by simpa using hq)]
  have hb : Below w.heap.size w2 W := by
    rw [← hW]
    exact ((((Below.refl w.heap.size w2).setCell (p := ⟨w.heap.size + 1, 0, none⟩) (show w.heap.size ≤ w.heap.size + 1 by omega) _).setCell (p := ⟨w.heap.size + 1, 1, none⟩) (show w.heap.size ≤ w.heap.size + 1 by omega) _).setCell (p := ⟨w.heap.size + 1, 2, none⟩) (show w.heap.size ≤ w.heap.size + 1 by omega) _).setCell (p := ⟨w.heap.size + 1, 3, none⟩) (show w.heap.size ≤ w.heap.size + 1 by omega) _
  have hsz := hb.size
  have hs1 := hw1.size
  have hs2 := hb2.size
  rw [hW]
  refine ⟨⟨a2, c2, k'⟩, rfl, ⟨?_, ?_⟩, hw1.trans ((hb2.mono hs1).trans hb)⟩
  · obtain ⟨a', c', e, hi⟩ := hv.iat
    have e2 : a2 = a' := by injection e
    subst e2
    exact hi.wide (fun b hb => (hst b (by omega)).trans (hb2.block b hb.2)) fun b hb => ⟨by omega, by have := hb.2; omega⟩
  · have hm := hom.mld
    exact hm.wide (fun b hb => hst b (by omega)) fun b hb => ⟨by omega, by have := hb.2; omega⟩
theorem CpS.drew {s : Ms} {w w' : World} {f : Ending} (h : CpS s w f w') : CpS s w f w'.drew := by
  obtain ⟨k, e, h1, h2⟩ := h
  exact ⟨k, e, ⟨h1.1.wide (fun _ _ => rfl) fun _ h => h, h1.2.wide (fun _ _ => rfl) fun _ h => h⟩, h2.drew⟩

set_option maxRecDepth 100000 in
set_option maxHeartbeats 2000000 in
theorem l6Copy_one (s : Ms) (k : MK) (w : World) (h : SL w s k) (hs : SSm s) :
    Calls Try.prog 50 #[aggS4 s k] w (CpS s w) := by
  obtain ⟨pc, rs, m⟩ := s
  obtain ⟨ra, rc, km⟩ := k
  obtain ⟨nr, hnr⟩ : ∃ nr, rs.length = nr := ⟨_, rfl⟩
  obtain ⟨nv, hnv⟩ : ∃ nv, m.vals.length = nv := ⟨_, rfl⟩
  obtain ⟨na, hna⟩ : ∃ na, m.arrs.length = na := ⟨_, rfl⟩
  have HNR := Lib.hid hnr
  have HNV := Lib.hid hnv
  have HNA := Lib.hid hna
  obtain ⟨W0, hW0⟩ : ∃ W0, (w.alloc (.cells #[.int .i64 pc, .slice ra nr rc, .slice km.va nv km.vc, .slice km.aa na km.ac] 28)).alloc (.cells #[.int .i64 0, .slice none 0 0, .slice none 0 0, .slice none 0 0] 28) = W0 := ⟨_, rfl⟩
  have hz0 : W0.heap.size = w.heap.size + 2 := by rw [← hW0]; simp
  have hb0 : Below w.heap.size w W0 := by rw [← hW0]; exact ((Below.refl _ w).alloc (Nat.le_refl _) _).alloc (by simp) _
  have hsb : W0.heap[w.heap.size]? = some (.cells #[.int .i64 pc, .slice ra nr rc, .slice km.va nv km.vc, .slice km.aa na km.ac] 28 (0, 0)) := by
    rw [← hW0, Below.heap_alloc _ _ _ (by simp)]; exact heap_alloc_new w _
  have hrb : W0.heap[w.heap.size + 1]? = some (.cells #[.int .i64 0, .slice none 0 0, .slice none 0 0, .slice none 0 0] 28 (0, 0)) := by
    have e1 := heap_alloc_new (w.alloc (.cells #[.int .i64 pc, .slice ra nr rc, .slice km.va nv km.vc, .slice km.aa na km.ac] 28)) (.cells #[.int .i64 0, .slice none 0 0, .slice none 0 0, .slice none 0 0] 28)
    rw [World.size_alloc] at e1
    rw [← hW0]; exact e1
  have p0 : W0.cell? ⟨w.heap.size, 0, none⟩ = some (.int .i64 pc) := by rw [cell_at hsb]; rfl
  have p1 : W0.cell? ⟨w.heap.size, 1, none⟩ = some (.slice ra nr rc) := by rw [cell_at hsb]; rfl
  have p2 : W0.cell? ⟨w.heap.size, 2, none⟩ = some (.slice km.va nv km.vc) := by rw [cell_at hsb]; rfl
  have p3 : W0.cell? ⟨w.heap.size, 3, none⟩ = some (.slice km.aa na km.ac) := by rw [cell_at hsb]; rfl
  have HW0 := Lib.hid hW0
  have HB0 := Lib.hid hb0
  have HSB := Lib.hid hsb
  have HRB := Lib.hid hrb
  have HL := Lib.hid (h.below hb0)
  have hrl : nr ≤ 1048576 := by rw [← hnr]; exact hs.1
  have HSM : Hid (MSm m) := hs.2
  show Calls Try.prog 50 #[.agg #[.int .i64 pc, .slice ra rs.length rc, .slice km.va m.vals.length km.vc, .slice km.aa m.arrs.length km.ac]] w _
  rw [hnr, hnv, hna]
  clear h hs hW0 hb0 hsb hrb hnr hnv hna
  go_enter Try.func50, Try.ntmps50
  go_wp2_with (first | rw [HW0.out] | fail)
  have HSA : Hid (∀ v : World, (∀ q, q < W0.heap.size → v.heap[q]? = W0.heap[q]?) → (v.cell? ⟨w.heap.size, 0, none⟩ = some (.int .i64 pc) ∧ v.cell? ⟨w.heap.size, 1, none⟩ = some (.slice ra nr rc)) ∧ v.cell? ⟨w.heap.size, 2, none⟩ = some (.slice km.va nv km.vc) ∧ v.cell? ⟨w.heap.size, 3, none⟩ = some (.slice km.aa na km.ac)) := fun v hv =>
    ⟨⟨(World.cell?_of_block (w := W0) (a := ⟨w.heap.size, 0, none⟩) (hv _ (by show w.heap.size < _; omega))).trans p0, (World.cell?_of_block (w := W0) (a := ⟨w.heap.size, 1, none⟩) (hv _ (by show w.heap.size < _; omega))).trans p1⟩, (World.cell?_of_block (w := W0) (a := ⟨w.heap.size, 2, none⟩) (hv _ (by show w.heap.size < _; omega))).trans p2, (World.cell?_of_block (w := W0) (a := ⟨w.heap.size, 3, none⟩) (hv _ (by show w.heap.size < _; omega))).trans p3⟩
  obtain ⟨⟨d0, d1⟩, d2, d3⟩ := HSA.out W0.drew fun _ _ => rfl
  obtain ⟨⟨e0, e1⟩, e2, e3⟩ := HSA.out (W0.alloc (.cells #[] 3)) fun q hq => Below.heap_alloc _ _ _ hq
  obtain ⟨⟨f0, f1⟩, f2, f3⟩ := HSA.out (W0.alloc (.cells #[] 3)).drew fun q hq => Below.heap_alloc _ _ _ hq
  have M1 : Hid (OwnI (W0.alloc (.cells #[] 3)) (w.heap.size + 2) (.slice (some ⟨w.heap.size + 2, 0, none⟩) 0 0) []) := by have h := OwnI.made' W0 W0.heap.size (Nat.le_refl _); rw [hz0] at h; exact h
  have M1d : Hid (OwnI (W0.alloc (.cells #[] 3)).drew (w.heap.size + 2) (.slice (some ⟨w.heap.size + 2, 0, none⟩) 0 0) []) := M1.out.drew'
  have HY : Hid (∀ v : World, (∀ q, q < W0.heap.size → v.heap[q]? = W0.heap[q]?) → IntsAt v (fun b => b < W0.heap.size) rs ra) := fun v hv => (HL.out.1.wide (D' := fun b => b < W0.heap.size) (fun q hq => hv q hq) (fun _ h => h)).2
  have HY1 : Hid (IntsAt (W0.alloc (.cells #[] 3)) (fun b => b < W0.heap.size) rs ra) := HY.out _ fun q hq => Below.heap_alloc _ _ _ hq
  have HY1d : Hid (IntsAt (W0.alloc (.cells #[] 3)).drew (fun b => b < W0.heap.size) rs ra) := HY.out _ fun q hq => Below.heap_alloc _ _ _ hq
  have HCALL : Hid (∀ v : World, ML v m km → Calls Try.prog 86 #[.agg #[.slice km.va nv km.vc, .slice km.aa na km.ac]] v fun e w' => ∃ k' Z qs, e = .returned (.agg #[.slice k'.va nv k'.vc, .slice k'.aa na k'.ac]) ∧ Below v.heap.size v w' ∧ OMw w' v.heap.size Z m k' qs) := fun v hv => by
    have h1 := l3CopyW m km v hv HSM.out
    rw [show aggM m km = .agg #[.slice km.va nv km.vc, .slice km.aa na km.ac] by show Value.agg #[.slice km.va m.vals.length km.vc, .slice km.aa m.arrs.length km.ac] = _; rw [HNV.out, HNA.out]] at h1
    refine h1.mono ?_
    rintro e w' ⟨k', Z, qs, rfl, hb, ho⟩
    exact ⟨k', Z, qs, by show Ending.returned (.agg #[.slice k'.va m.vals.length k'.vc, .slice k'.aa m.arrs.length k'.ac]) = _; rw [HNV.out, HNA.out], hb, ho⟩
  go_region_law (first
    | (refine step_copyN (by rfl) _ _ (by rfl) (w.heap.size + 2) (w.heap.size + 2) (by rfl) (by first | exact M1.out | exact M1d.out) rs nr HNR.out ra rc (by rfl) _ (by first | exact HY1.out | exact HY1d.out) hrl (by simp; omega) ?_; rintro v w1 ⟨a2, c2, rfl, hv2, hgr2, hat2⟩
       have hs2 : ∀ q, q < W0.heap.size → w1.heap[q]? = W0.heap[q]? := fun q hq => (hgr2.block q (by first | (simp; omega) | (show q < (W0.alloc (.cells #[] 3)).heap.size; simp; omega)) (fun e => (by cases e; omega))).trans (Below.heap_alloc _ _ _ hq)
       have hz2w : W0.heap.size + 1 ≤ w1.heap.size := (by have h := hgr2.size; have h' : (W0.alloc (.cells #[] 3)).heap.size = W0.heap.size + 1 := World.size_alloc _ _; first | omega | exact Nat.le_trans (Nat.le_of_eq h'.symm) h)
       obtain ⟨⟨x0, x1⟩, x2, x3⟩ := HSA.out w1 hs2
       have hw1 : Below w.heap.size w w1 := (by
         first
         | exact HB0.out.trans (((Below.refl _ W0).alloc (by omega) _).grown hgr2 (by simp; omega) (fun k e => (by cases e; omega)))
         | exact HB0.out.trans (((Below.refl _ W0).alloc (by omega) _).drew.grown hgr2 (by show w.heap.size ≤ (W0.alloc (.cells #[] 3)).heap.size; simp; omega) (fun k e => (by cases e; omega))))
       have hml1 : ML w1 m km := MLD.wide2 HL.out.2 hs2 (by omega))
    | (go_simp; go_at_call 86; refine (HCALL.out w1 hml1).mono ?_; rintro f w2 ⟨k', Z, qs, rfl, hb2, hom⟩
       have hz3 := hb2.size
       have hs3 : ∀ q, q < W0.heap.size → w2.heap[q]? = W0.heap[q]? := fun q hq => (hb2.block q (by omega)).trans (hs2 q hq)
       obtain ⟨⟨y0, y1⟩, y2, y3⟩ := HSA.out w2 hs3
       have hrb2 := (hs3 (w.heap.size + 1) (by omega)).trans HRB.out
       obtain ⟨r0, hr0⟩ := cell_ex hrb2 0 (by simp)
       obtain ⟨r1, hr1⟩ := cell_ex hrb2 1 (by simp)
       obtain ⟨r2, hr2⟩ := cell_ex hrb2 2 (by simp)
       obtain ⟨r3, hr3⟩ := cell_ex hrb2 3 (by simp)
       have fr0 := frozen_at hrb2 0
       have fr1 := frozen_at hrb2 1
       have fr2 := frozen_at hrb2 2
       have fr3 := frozen_at hrb2 3
       have HFIN := Lib.hid (cps_fin (pc := pc) HNR.out HNV.out HNA.out hv2 (by omega) hw1 hb2 hom))
    | fail)
  all_goals
    go_wp2_with fail
    first
    | exact bodyPost_ret (v := .agg #[.int .i64 pc, .slice a2 nr c2, .slice k'.va nv k'.vc, .slice k'.aa na k'.ac]) (by simp [results, Try.f50, go_sem, hr0, hr1, hr2, hr3]) rfl HFIN.out
    | exact bodyPost_ret (v := .agg #[.int .i64 pc, .slice a2 nr c2, .slice k'.va nv k'.vc, .slice k'.aa na k'.ac]) (by simp [results, Try.f50, go_sem, hr0, hr1, hr2, hr3]) rfl HFIN.out.drew

end Go.Proofs.Ytgfagdjadmpklaa

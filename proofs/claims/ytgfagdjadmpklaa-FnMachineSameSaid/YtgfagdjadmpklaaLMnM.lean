/- The declarations of a code as a program. -/
import Derived.Test.YtgfagdjadmpklaaCd
import Derived.Test.YtgfagdjadmpklaaTreeS
import Derived.Test.YtgfagdjadmpklaaCoR
import Derived.Test.YtgfagdjadmpklaaCgR
import Derived.Test.YtgfagdjadmpklaaDrQ
import Derived.Test.YtgfagdjadmpklaaMutB
import Derived.Deep.CutRange
import Derived.Deep.RegionLaw
import Derived.Test.YtgfagdjadmpklaaMwM
import Derived.Test.YtgfagdjadmpklaaMcM
import Derived.Test.YtgfagdjadmpklaaCpSM
namespace Go.Proofs.Ytgfagdjadmpklaa
open Go.RowKit
set_option linter.unusedVariables false

set_option maxHeartbeats 2000000 in
theorem l6Heads_one (m : Cd) (k : CK) (w : World) :
    Calls Try.prog 83 #[aggC m k] w fun e w' => e = .returned (.agg #[.slice k.va m.vars.length k.vc, .slice k.aa m.arrs.length k.ac, .slice none 0 0]) ∧ Below w.heap.size w w' := by
  go_enter Try.func83, Try.ntmps83
  go_wp2_with fail
  have hx := heap_alloc_new (w.alloc (.cells (arrC m k) 70)) (.cells #[.slice k.va m.vars.length k.vc, .slice k.aa m.arrs.length k.ac, .slice none 0 0] 55)
  rw [World.size_alloc] at hx
  have h0 := cell_at hx (o := 0)
  have h1 := cell_at hx (o := 1)
  have h2 := cell_at hx (o := 2)
  unfold arrC at h0 h1 h2
  exact bodyPost_ret (v := .agg #[.slice k.va m.vars.length k.vc, .slice k.aa m.arrs.length k.ac, .slice none 0 0]) (by simp [results, Try.f83, go_sem, h0, h1, h2]) rfl ⟨rfl, ((Below.refl _ w).alloc (Nat.le_refl _) _).alloc (by simp) _⟩

end Go.Proofs.Ytgfagdjadmpklaa

namespace Go.Proofs.Ytgfagdjadmpklaa
open Go.RowKit
set_option linter.unusedVariables false

/-- The state of the loop that draws the instructions. -/
def CoL (B M X nv na vc ac n : Nat) (va aa : Option Addr) (W : World) (i : Value) (v : World) : Prop := ∃ (xs : List Ins) (la : Option Addr) (lc : Nat),
  i = .int .i64 (xs.length : Int) ∧ xs.length ≤ n - 1 ∧ RowN v W.heap.size (.slice la xs.length lc) xs ∧ (∀ x ∈ xs, insB nv na n x = true) ∧ RdU v B (M + 5 * xs.length) ∧ Below B W v ∧ v.heap[X]? = some (.cells #[.slice va nv vc, .slice aa na ac, .slice la xs.length lc] 70 (0, 0)) ∧ ∀ q, q < W.heap.size → q ≠ B → q ≠ X → v.heap[q]? = W.heap[q]?

/-- The state behind the loop: all instructions are there, the last is the halt. -/
def CoE (B M X nv na vc ac n : Nat) (va aa : Option Addr) (W v : World) : Prop := ∃ (ys : List Ins) (g lc : Nat),
  ys.length = n ∧ RowN v W.heap.size (.slice (some ⟨g, 0, none⟩) n lc) ys ∧ (∀ x ∈ ys, insB nv na n x = true) ∧ ys[n - 1]? = some ⟨13, 0, 0, 0, 0⟩ ∧ RdU v B M ∧ Below B W v ∧ v.heap[X]? = some (.cells #[.slice va nv vc, .slice aa na ac, .slice (some ⟨g, 0, none⟩) n lc] 70 (0, 0)) ∧ ∀ q, q < W.heap.size → q ≠ B → q ≠ X → v.heap[q]? = W.heap[q]?
theorem CoE.draw {B M M' X nv na vc ac n : Nat} {va aa : Option Addr} {W v v' : World} (h : CoE B M X nv na vc ac n va aa W v) (hB : B < W.heap.size) (hX : X < W.heap.size) (hXB : B ≠ X) (hr : RdU v' B M') (ho : Oth B v v') (hb : Below B v v') : CoE B M' X nv na vc ac n va aa W v' := by
  obtain ⟨ys, g, lc, h1, h2, h3, h4, h5, h6, h7, h8⟩ := h
  have hz := h6.size
  exact ⟨ys, g, lc, h1, h2.oth hRN ho hB, h3, h4, hr, h6.trans hb, (ho.2 X (by omega) (by omega)).trans h7, fun q hq hqB hqX => (ho.2 q (by omega) hqB).trans (h8 q hq hqB hqX)⟩

theorem insB_halt (nv na n : Nat) : insB nv na n ⟨13, 0, 0, 0, 0⟩ = true := by
  have e : ∀ j, kdAt ((13 : Int).toNat) j = 0 := fun j => rfl
  unfold insB
  rw [e, e, e, e]
  rfl

set_option maxRecDepth 100000 in
set_option maxHeartbeats 4000000 in
theorem l6Code_one (B m : Nat) (w : World) (h : RdU w B m) (hm : m < 1098000000000) :
    Calls Try.prog 47 #[.pointer (some ⟨B, 0, none⟩)] w fun e w' => ∃ c k, e = .returned (aggC c k) ∧ codeB c = true ∧ c.list.length ≤ 12 ∧ c.vars.length ≤ 5 ∧ c.arrs.length ≤ 2 ∧ CL w' c k ∧ Below B w w' ∧ Oth B w w' ∧ RdU w' B (m + 6000100) := by
  have hlt := h.lt
  obtain ⟨w0, hw0⟩ : ∃ w0, w.alloc (.cells #[.slice none 0 0, .slice none 0 0, .slice none 0 0] 70) = w0 := ⟨_, rfl⟩
  have hr0 : RdU w0 B m := by rw [← hw0]; exact h.alloc _
  have hb0 : Below w.heap.size w w0 := by rw [← hw0]; exact (Below.refl _ _).alloc (Nat.le_refl _) _
  have hR0 : w0.heap[w.heap.size]? = some (.cells #[.slice none 0 0, .slice none 0 0, .slice none 0 0] 70 (0, 0)) := by rw [← hw0]; exact heap_alloc_new w _
  have HW0 := Lib.hid hw0
  have HR0 := Lib.hid hr0
  have HB0 := Lib.hid hb0
  have HRB := Lib.hid hR0
  clear h hw0 hr0 hb0 hR0
  go_enter Try.func47, Try.ntmps47
  go_wp2_with fail
  rw [HW0.out]
  clear HW0
  refine (drProgramC B m w0 HR0.out (by omega)).mono ?_
  rintro e w1 ⟨p, k, rfl, hp, hsm, hpv, hv1, hv5, ha2, hr1, ho1, hb1, _⟩
  obtain ⟨W2, hW2⟩ : ∃ W, (w1.alloc (.cells #[.slice k.va p.vars.length k.vc, .slice k.aa p.arrs.length k.ac, .slice k.ba p.body.length k.bc] 55)).alloc (.cells #[.slice k.va p.vars.length k.vc, .slice k.aa p.arrs.length k.ac, .slice none 0 0] 70) = W := ⟨_, rfl⟩
  obtain ⟨W, hW⟩ : ∃ W, W2.alloc (.cells #[.int .i64 6, .int .i64 8, .int .i64 4, .int .i64 10, .int .i64 1, .int .i64 12] 3) = W := ⟨_, rfl⟩
  obtain ⟨P, hP⟩ : ∃ P, w1.heap.size = P := ⟨_, rfl⟩
  have hz2 : W2.heap.size = P + 2 := by rw [← hW2, World.size_alloc, World.size_alloc, hP]
  have hz : W.heap.size = P + 3 := by rw [← hW, World.size_alloc, hz2]
  have hl2 : ∀ i, i < 6 → W.cell? ⟨P + 2, 0 + i, none⟩ = some (.int .i64 (([6, 8, 4, 10, 1, 12] : List Int).getD i 0)) := by
    rw [← hW, ← hz2]; exact lit_cells W2 [6, 8, 4, 10, 1, 12] _
  have hb2 : Below P w1 W := by
    rw [← hW, ← hW2]
    exact ((((Below.refl P w1).alloc (by omega) _).alloc (by rw [World.size_alloc]; omega) _)).alloc (by rw [World.size_alloc, World.size_alloc]; omega) _
  have hx0 : W.heap[P + 1]? = some (.cells #[.slice k.va p.vars.length k.vc, .slice k.aa p.arrs.length k.ac, .slice none 0 0] 70 (0, 0)) := by
    rw [← hW, Below.heap_alloc _ _ _ (by omega), ← hW2]
    have := heap_alloc_new (w1.alloc (.cells #[.slice k.va p.vars.length k.vc, .slice k.aa p.arrs.length k.ac, .slice k.ba p.body.length k.bc] 55)) (.cells #[.slice k.va p.vars.length k.vc, .slice k.aa p.arrs.length k.ac, .slice none 0 0] 70)
    rw [World.size_alloc, hP] at this
    exact this
  have hB1 : B < P := by have := hr1.lt; omega
  have hr2 : RdU W B (m + 6000000) := hr1.below (by rw [hP]; exact hb2) hr1.lt
  have HW2 := Lib.hid hW2
  have HW := Lib.hid hW
  have HZ := Lib.hid hz
  have HL2 := Lib.hid hl2
  have HB2 := Lib.hid hb2
  have HX0 := Lib.hid hx0
  have HR2 := Lib.hid hr2
  have HP := Lib.hid hP
  have HPP := Lib.hid hp
  have HPV := Lib.hid hpv
  have HO1 := Lib.hid ho1
  have HB1 := Lib.hid hb1
  have hsz1 : w.heap.size < P := by have := ho1.1; have := (Array.getElem?_eq_some_iff.1 HRB.out).1; omega
  clear hp hsm hpv hr1 ho1 hb1 hW2 hW hz2 hz hl2 hb2 hx0 hr2
  go_wp2_with fail
  rw [HW2.out, HW.out]
  clear HW2 HW hP
  refine (numU B (m + 6000000) (P + 2) 0 6 6 [6, 8, 4, 10, 1, 12] W HR2.out (by omega) (by omega) rfl (by omega) (by omega) HL2.out).mono ?_
  rintro f w3 ⟨u, hu, rfl, hr3, ho3, hb3⟩
  obtain ⟨n, hnn⟩ : ∃ n : Nat, (n : Int) = u := ⟨u.toNat, by simp only [List.mem_cons, List.not_mem_nil, or_false] at hu; omega⟩
  subst hnn
  have hnr : 1 ≤ n ∧ n ≤ 12 := by
    simp only [List.mem_cons, List.not_mem_nil, or_false] at hu
    omega
  clear hu
  obtain ⟨nv, hnv⟩ : ∃ nv, p.vars.length = nv := ⟨_, rfl⟩
  obtain ⟨na, hna⟩ : ∃ na, p.arrs.length = na := ⟨_, rfl⟩
  obtain ⟨va, hva⟩ : ∃ va, k.va = va := ⟨_, rfl⟩
  obtain ⟨aa, haa⟩ : ∃ aa, k.aa = aa := ⟨_, rfl⟩
  obtain ⟨vc, hvc⟩ : ∃ vc, k.vc = vc := ⟨_, rfl⟩
  obtain ⟨ac, hac⟩ : ∃ ac, k.ac = ac := ⟨_, rfl⟩
  have hx3 : w3.heap[P + 1]? = some (.cells #[.slice va nv vc, .slice aa na ac, .slice none 0 0] 70 (0, 0)) := by
    have := (ho3.2 (P + 1) (by rw [HZ.out]; omega) (by omega)).trans HX0.out
    rw [hnv, hna, hva, haa, hvc, hac] at this
    exact this
  have hsz3 : P + 3 ≤ w3.heap.size := by have := ho3.1; rw [HZ.out] at this; exact this
  rw [hnv] at hv1 hv5 ⊢
  rw [hna] at ha2 ⊢
  rw [hva, haa, hvc, hac]
  have HK := Lib.hid (show k.va = va ∧ k.aa = aa ∧ k.vc = vc ∧ k.ac = ac ∧ p.vars.length = nv ∧ p.arrs.length = na from ⟨hva, haa, hvc, hac, hnv, hna⟩)
  clear hva haa hvc hac hnv hna
  have HL0 : Hid (CoL B (m + 6000001) (P + 1) nv na vc ac n va aa w3 (.int .i64 0) w3) := ⟨[], none, 0, rfl, Nat.zero_le _, RowG.nil _ _, by simp, hr3, Below.refl _ _, hx3, fun _ _ _ _ => rfl⟩
  have HO3 := Lib.hid ho3
  have HB3 := Lib.hid hb3
  clear hr3 ho3 hb3 hx3
  go_wp2_with fail
  go_loopw [6] (fun i v => CoL B (m + 6000001) (P + 1) nv na vc ac n va aa w3 i v) (fun i _ => n - (intOf i).toNat)
  case atStart => exact HL0.out
  case round =>
    obtain ⟨xs, la, lc, rfl, hle, hrow, hval, hrd, hbel, hbx, hstd⟩ := hrel
    obtain ⟨n1, hn1⟩ : ∃ n1, xs.length = n1 := ⟨_, rfl⟩
    have HNN := Lib.hid hn1
    have HROW := Lib.hid hrow
    have HVAL := Lib.hid hval
    have HBEL := Lib.hid hbel
    have HSTD := Lib.hid hstd
    have hzr := hbel.size
    rw [hn1] at hle hbx hrd
    have HRD := Lib.hid hrd
    have HBX := Lib.hid hbx
    have HRDd : Hid (RdU wr.drew B (m + 6000001 + 5 * n1)) := hrd.drew
    have hBr := hrd.lt
    have hl1 : 1 ≤ n := hnr.1
    have q0 : wr.cell? ⟨P + 1, 0, none⟩ = some (.slice va nv vc) := by rw [cell_at hbx]; rfl
    have q1 : wr.cell? ⟨P + 1, 1, none⟩ = some (.slice aa na ac) := by rw [cell_at hbx]; rfl
    have q2 : wr.cell? ⟨P + 1, 2, none⟩ = some (.slice la n1 lc) := by rw [cell_at hbx]; rfl
    clear hrow hval hbel hstd hrd hbx
    rw [hn1]
    clear hn1
    obtain ⟨i0, hinf, hz0, hz1', hz2⟩ := info_parts Try.infoIn
    have hwr : IntKind.i64.wrap ((n : Int) - 1) = ((n : Int) - 1) := IntWalk.i64_in _ (by omega)
    by_cases hlt1 : (n1 : Int) < (n : Int) - 1
    · go_wp2_with fail
      go_region_law (first
        | (go_simp; go_at_call 81; refine (l6Random_one B (m + 6000001 + 5 * n1) nv na n1 vc ac lc n1 n va aa la wr.drew HRDd.out (by omega) (by omega) (by omega) (by omega) (by omega) (by omega)).mono ?_; rintro f u ⟨x, rfl, hib, hb5, ho5, hr5⟩; have hO5 : Oth B wr u := (Oth.refl B wr).drew.trans ho5; have hs5 := hO5.1; have hBXu := (hO5.2 (P + 1) (by omega) (by omega)).trans HBX.out; have q2u : u.cell? ⟨P + 1, 2, none⟩ = some (.slice la n1 lc) := (by rw [cell_at hBXu]; rfl)
           have hBXa : (u.alloc (.cells #[.int .i64 x.op, .int .i64 x.fa, .int .i64 x.fb, .int .i64 x.fc, .int .i64 x.fd] 118)).heap[P + 1]? = some (.cells #[.slice va nv vc, .slice aa na ac, .slice la n1 lc] 70 (0, 0)) := (Below.heap_alloc _ _ _ (by omega)).trans hBXu
           have q2a : (u.alloc (.cells #[.int .i64 x.op, .int .i64 x.fa, .int .i64 x.fb, .int .i64 x.fc, .int .i64 x.fd] 118)).cell? ⟨P + 1, 2, none⟩ = some (.slice la n1 lc) := (by rw [cell_at hBXa]; rfl)
           obtain ⟨L, hL1, hL2, hL3⟩ := HROW.out.oth hRN (hO5.alloc (.cells #[.int .i64 x.op, .int .i64 x.fa, .int .i64 x.fb, .int .i64 x.fc, .int .i64 x.fd] 118)) (by omega)
           rw [HNN.out] at hL2)
        | (refine step_append_lies _ (by rfl) _ _ _ (by rfl) w3.heap.size 118 i0 _ 5 40 Try.underlying68 hinf hz0 hz1' hz2 rfl (by omega) (.slice la n1 lc) n1 _ (by rfl) hL2 ⟨u.heap.size, 0, none⟩ 1 1 [.int .i64 x.op, .int .i64 x.fa, .int .i64 x.fb, .int .i64 x.fc, .int .i64 x.fd] (by rfl) (by rfl) (World.news_of_block (cs := #[.int .i64 x.op, .int .i64 x.fa, .int .i64 x.fb, .int .i64 x.fc, .int .i64 x.fd]) (t := 118) (fr := (0, 0)) (heap_alloc_new u _)) (by simp [Value.oneCell']) (by omega) (by unfold maxLen; omega) (by omega) (by simp; omega) (u.heap.size + 1) (by simp) ?_; intro g cap w5 hown5 hgrow hat hlt5
           have hXr : some (P + 1) ≠ (Value.slice la n1 lc).ownBlock := fun e => (by have := (hL2.lt _ e.symm).1; omega)
           have hBX5 := (hgrow.block (P + 1) (by simp; omega) hXr).trans hBXa
           have q25 : w5.cell? ⟨P + 1, 2, none⟩ = some (.slice la n1 lc) := (by rw [cell_at hBX5]; rfl)
           have f25 := frozen_of_row _ _ 2 _ _ hBX5))
      all_goals
        have hlen : (xs ++ [x]).length = n1 + 1 := by rw [List.length_append, HNN.out]; rfl
        have HREL : Hid (CoL B (m + 6000001) (P + 1) nv na vc ac n va aa w3 (.int .i64 ((n1 : Int) + 1)) (w5.setCell ⟨P + 1, 2, none⟩ (.slice (some ⟨g, 0, none⟩) (n1 + 1) cap))) := by
          have hzu : (u.alloc (.cells #[.int .i64 x.op, .int .i64 x.fa, .int .i64 x.fb, .int .i64 x.fc, .int .i64 x.fd] 118)).heap.size = u.heap.size + 1 := by simp
          have hba : Below u.heap.size u (u.alloc (.cells #[.int .i64 x.op, .int .i64 x.fa, .int .i64 x.fb, .int .i64 x.fc, .int .i64 x.fd] 118)) := (Below.refl _ _).alloc (Nat.le_refl _) _
          have hb5' : Below w3.heap.size (u.alloc (.cells #[.int .i64 x.op, .int .i64 x.fa, .int .i64 x.fb, .int .i64 x.fc, .int .i64 x.fd] 118)) w5 := (Below.refl _ _).grown hgrow (by omega) (fun q e => (hL2.lt q e).1)
          have hst : ∀ q, q ≠ P + 1 → (w5.setCell ⟨P + 1, 2, none⟩ (.slice (some ⟨g, 0, none⟩) (n1 + 1) cap)).heap[q]? = w5.heap[q]? := fun q hq => cell_other _ _ _ _ _ hq
          have hmid : Below (P + 1) u w5 := (hba.mono (by omega)).trans (hb5'.mono (by omega))
          have hb6 : Below (P + 1) u (w5.setCell ⟨P + 1, 2, none⟩ (.slice (some ⟨g, 0, none⟩) (n1 + 1) cap)) := below_cell hmid
          refine ⟨xs ++ [x], some ⟨g, 0, none⟩, cap, by rw [hlen]; rfl, by rw [hlen]; omega, ?_, ?_, ?_, ?_, ?_, ?_⟩
          · rw [HNN.out] at hL3 hL1
            have hs := RowG.snoc hRN (es := xs) (v := .slice la n1 lc) (base := w3.heap.size) (x := x) (k := ()) (by rw [HNN.out]; exact hL1) hL3 trivial (by rw [HNN.out]; exact hown5) hgrow (by rcases hat with h | h; exact .inl h; exact .inr (by rw [h, hzu]))
            rw [HNN.out] at hs
            rw [hlen]
            exact hs.oth hRN (B := P + 1) ⟨by exact Nat.le_of_eq (by simp [World.setCell]), fun q _ hq => hst q hq⟩ (by omega)
          · intro y hy
            rcases List.mem_append.1 hy with h | h
            · exact HVAL.out y h
            · rw [List.mem_singleton] at h; subst h; exact hib
          · rw [hlen]
            exact (hr5.below hb6 (by omega)).mono (by omega)
          · exact HBEL.out.trans (((Below.refl B wr).drew.trans hb5).trans (hb6.mono (by omega)))
          · rw [blk_set hBX5, hlen]; rfl
          · intro j hj hjB hjX
            rw [hst j hjX]
            exact (hb5'.block j hj).trans ((hba.block j (by omega)).trans ((hO5.2 j (by omega) hjB).trans (HSTD.out j hj hjB hjX)))
        clear hib hr5 ho5 hb5 hO5 hBXu q2u hBXa q2a hL1 hL2 hL3 hown5 hgrow hat hlt5 hXr hBX5 q25 f25 HROW HRD HBEL HSTD HBX HRDd HVAL q0 q1 q2 hs5
        go_wp2_with fail
        go_roundw
        case rel => exact HREL.out
        case measure => simp [intOf]; omega
    · obtain ⟨L, hL1, hL2, hL3⟩ := HROW.out.oth hRN ((Oth.refl B wr).alloc (.cells #[.int .i64 13, .int .i64 0, .int .i64 0, .int .i64 0, .int .i64 0] 118)) (by omega)
      rw [HNN.out] at hL2
      have hBXa : (wr.alloc (.cells #[.int .i64 13, .int .i64 0, .int .i64 0, .int .i64 0, .int .i64 0] 118)).heap[P + 1]? = some (.cells #[.slice va nv vc, .slice aa na ac, .slice la n1 lc] 70 (0, 0)) := (Below.heap_alloc _ _ _ (by omega)).trans HBX.out
      have q2a : (wr.alloc (.cells #[.int .i64 13, .int .i64 0, .int .i64 0, .int .i64 0, .int .i64 0] 118)).cell? ⟨P + 1, 2, none⟩ = some (.slice la n1 lc) := (by rw [cell_at hBXa]; rfl)
      have hNB : (wr.alloc (.cells #[.int .i64 13, .int .i64 0, .int .i64 0, .int .i64 0, .int .i64 0] 118)).heap[wr.heap.size]? = some (.cells #[.int .i64 13, .int .i64 0, .int .i64 0, .int .i64 0, .int .i64 0] 118 (0, 0)) := heap_alloc_new wr _
      have HNE : Hid (n = n1 + 1) := by show n = n1 + 1; omega
      go_upto_region 8 with fail
      go_cut [] from 7 to 58 (fun v => Hid (CoE B (m + 6000001 + 5 * n) (P + 1) nv na vc ac n va aa w3 v))
      case first =>
        go_wp2_with (at_builtin; refine wpList_append_lies _ (by rfl) _ _ 68 (by rfl) w3.heap.size 118 i0 _ 5 40 Try.underlying68 hinf hz0 hz1' hz2 rfl (by omega) (.slice la n1 lc) n1 _ (by rfl) hL2 ⟨wr.heap.size, 0, none⟩ 1 1 _ (by rfl) (by rfl) (World.news_of_block hNB) (by simp [Value.oneCell']) (by omega) (by unfold maxLen; omega) (by omega) (by simp; omega) (wr.heap.size + 1) (by simp) ?_; intro g cap w5 hown5 hgrow hat hlt5
                     have hXr : some (P + 1) ≠ (Value.slice la n1 lc).ownBlock := fun e => (by have := (hL2.lt _ e.symm).1; omega)
                     have hBX5 := (hgrow.block (P + 1) (by simp; omega) hXr).trans hBXa
                     have q25 : w5.cell? ⟨P + 1, 2, none⟩ = some (.slice la n1 lc) := (by rw [cell_at hBX5]; rfl)
                     have f25 := frozen_of_row _ _ 2 _ _ hBX5)
        have HREL : Hid (CoE B (m + 6000001 + 5 * n) (P + 1) nv na vc ac n va aa w3 (w5.setCell ⟨P + 1, 2, none⟩ (.slice (some ⟨g, 0, none⟩) (n1 + 1) cap))) := by
          have hlen : (xs ++ [(⟨13, 0, 0, 0, 0⟩ : Ins)]).length = n1 + 1 := by rw [List.length_append, HNN.out]; rfl
          have hzu : (wr.alloc (.cells #[.int .i64 13, .int .i64 0, .int .i64 0, .int .i64 0, .int .i64 0] 118)).heap.size = wr.heap.size + 1 := by simp
          have hba : Below wr.heap.size wr (wr.alloc (.cells #[.int .i64 13, .int .i64 0, .int .i64 0, .int .i64 0, .int .i64 0] 118)) := (Below.refl _ _).alloc (Nat.le_refl _) _
          have hb5' : Below w3.heap.size (wr.alloc (.cells #[.int .i64 13, .int .i64 0, .int .i64 0, .int .i64 0, .int .i64 0] 118)) w5 := (Below.refl _ _).grown hgrow (by omega) (fun q e => (hL2.lt q e).1)
          have hst : ∀ q, q ≠ P + 1 → (w5.setCell ⟨P + 1, 2, none⟩ (.slice (some ⟨g, 0, none⟩) (n1 + 1) cap)).heap[q]? = w5.heap[q]? := fun q hq => cell_other _ _ _ _ _ hq
          have hmid : Below (P + 1) wr w5 := (hba.mono (by omega)).trans (hb5'.mono (by omega))
          have hb6 : Below (P + 1) wr (w5.setCell ⟨P + 1, 2, none⟩ (.slice (some ⟨g, 0, none⟩) (n1 + 1) cap)) := below_cell hmid
          have hn := HNE.out
          refine ⟨xs ++ [⟨13, 0, 0, 0, 0⟩], g, cap, by rw [hlen]; exact hn.symm, ?_, ?_, ?_, ?_, ?_, ?_, ?_⟩
          · try rw [HNN.out] at hL3
            try rw [HNN.out] at hL1
            have hs := RowG.snoc hRN (es := xs) (v := .slice la n1 lc) (base := w3.heap.size) (x := ⟨13, 0, 0, 0, 0⟩) (k := ()) (by rw [HNN.out]; exact hL1) hL3 trivial (by rw [HNN.out]; exact hown5) hgrow (by rcases hat with h | h; exact .inl h; exact .inr (by rw [h, hzu]))
            rw [HNN.out] at hs
            rw [hn]
            exact hs.oth hRN (B := P + 1) ⟨by exact Nat.le_of_eq (by simp [World.setCell]), fun q _ hq => hst q hq⟩ (by omega)
          · intro y hy
            rcases List.mem_append.1 hy with h | h
            · exact HVAL.out y h
            · rw [List.mem_singleton] at h; subst h; exact insB_halt nv na n
          · rw [hn, Nat.add_sub_cancel, ← HNN.out, List.getElem?_append_right (Nat.le_refl _), Nat.sub_self]; rfl
          · exact (HRD.out.below hb6 (by omega)).mono (by omega)
          · exact HBEL.out.trans (hb6.mono (by omega))
          · rw [blk_set hBX5, hn]; rfl
          · intro j hj hjB hjX
            rw [hst j hjX]
            exact (hb5'.block j (by omega)).trans ((hba.block j (by omega)).trans (HSTD.out j hj hjB hjX))
        go_meet
        case rel => exact HREL
      case rest =>
        have hX3 : P + 1 < w3.heap.size := by omega
        have hB3 : B < w3.heap.size := by omega
        clear hL1 hL2 hL3 hBXa q2a hNB HROW HVAL HBEL HSTD HRD HBX HRDd q0 q1 q2 HNN hwr hlt1 HNE
        go_upto_region 9 with fail
        go_cut [45] from 7 to 58 (fun s45 v => ∃ b : Bool, s45 = .bool b ∧ (b = true → 3 < n) ∧ Hid (CoE B (m + 6000001 + 5 * n + 1) (P + 1) nv na vc ac n va aa w3 v))
        case first =>
          by_cases h3 : 3 < n
          · have h3' : (3 : Int) < (n : Int) := by omega
            have HRc : Hid (RdU wc B (m + 6000001 + 5 * n)) := by
              obtain ⟨_, _, _, _, _, _, _, h5, _⟩ := hcut.out
              exact h5
            go_wp2_with fail
            refine (pickU B (m + 6000001 + 5 * n) 4 wc HRc.out (by omega) (by omega) (by omega)).mono ?_
            rintro f u ⟨z, hz, rfl, hr5, ho5, hb5⟩
            have HC2 : Hid (CoE B (m + 6000001 + 5 * n + 1) (P + 1) nv na vc ac n va aa w3 u) := hcut.out.draw hB3 hX3 (by omega) hr5 ho5 hb5
            clear hr5 ho5 hb5 HRc
            by_cases hz0' : z = 0
            · subst hz0'
              go_wp2_with fail
              go_meet
              case rel => exact ⟨true, rfl, fun _ => h3, HC2⟩
            · have hz1 : (z == 0) = false := by simp; exact hz0'
              go_wp2_with fail
              go_meet
              case rel => exact ⟨false, rfl, (fun h => nomatch h), HC2⟩
          · have h3' : ¬ ((n : Int) > 3) := by omega
            have HC2 : Hid (CoE B (m + 6000001 + 5 * n + 1) (P + 1) nv na vc ac n va aa w3 wc) := by
              obtain ⟨ys, g, lc, h1, h2, h3, h4, h5, h6⟩ := hcut.out
              exact ⟨ys, g, lc, h1, h2, h3, h4, h5.mono (by omega), h6⟩
            go_wp2_with fail
            go_meet
            case rel => exact ⟨false, rfl, (fun h => nomatch h), HC2⟩
        case rest =>
          obtain ⟨b, rfl, hb, HC⟩ := hcut
          go_upto_if 45 with fail
          go_cut [] from 7 to 58 (fun v => Hid (CoE B (m + 6000001 + 5 * n + 2) (P + 1) nv na vc ac n va aa w3 v))
          case first =>
            cases b
            · have HC2 : Hid (CoE B (m + 6000001 + 5 * n + 2) (P + 1) nv na vc ac n va aa w3 wc) := by
                obtain ⟨ys, g, lc, h1, h2, h3, h4, h5, h6⟩ := HC.out
                exact ⟨ys, g, lc, h1, h2, h3, h4, h5.mono (by omega), h6⟩
              clear hb
              go_wp2_with fail
              go_meet
              case rel => exact HC2
            · have h3 := hb rfl
              obtain ⟨ys, g, lc, h1, h2, h4, h5, h6, h7, h8, h9⟩ := HC.out
              have HRc := Lib.hid h6
              have q2 : wc.cell? ⟨P + 1, 2, none⟩ = some (.slice (some ⟨g, 0, none⟩) n lc) := by rw [cell_at h8]; rfl
              have hyl := h1
              have hrw := h2
              have hbl := h7
              have HH := Lib.hid (And.intro h4 (And.intro h5 h9))
              have HBXc := Lib.hid h8
              clear hb h1 h2 h4 h5 h6 h7 h8 h9
              have hn0 : 0 < n := by omega
              have HRcd : Hid (RdU wc.drew B (m + 6000001 + 5 * n + 1)) := HRc.out.drew
              have HSP : Hid (∀ u, Oth B wc u → ∀ o, o < n * 5 → (∃ c, u.cell? ⟨g, o, none⟩ = some c) ∧ u.frozen? ⟨g, o, none⟩ = false ∧ w3.heap.size ≤ g ∧ g < u.heap.size) := fun u ho o hlo => RowN.spot (hrw.oth hRN ho hB3) hyl hlo
              go_wp2_with fail
              go_region_law (first
                | (go_simp; go_at_call 49; refine (pickU B (m + 6000001 + 5 * n + 1) 3 wc.drew HRcd.out (by omega) (by omega) (by omega)).mono ?_; rintro f u ⟨z, hz, rfl, hr5, ho5, hb5⟩
                   have hO5 : Oth B wc u := (Oth.refl B wc).drew.trans ho5
                   have q2u : u.cell? ⟨P + 1, 2, none⟩ = some (.slice (some ⟨g, 0, none⟩) n lc) := (by rw [← q2]; exact World.cell?_of_block (w := wc) (hO5.2 (P + 1) (by have := hbl.size; omega) (by omega)))
                   obtain ⟨⟨c0, hc0⟩, f0, _, hgl⟩ := HSP.out u hO5 0 (by omega)
                   obtain ⟨⟨c1, hc1⟩, f1, _⟩ := HSP.out u hO5 1 (by omega)
                   obtain ⟨⟨c2, hc2⟩, f2, _⟩ := HSP.out u hO5 2 (by omega)
                   obtain ⟨⟨c3, hc3⟩, f3, _⟩ := HSP.out u hO5 3 (by omega)
                   obtain ⟨⟨c4, hc4⟩, f4, _⟩ := HSP.out u hO5 4 (by omega))
                | fail)
              all_goals
                have hwz : IntKind.i64.wrap (1 + z) = 1 + z := IntWalk.i64_in _ (by omega)
                rw [hwz]
                obtain ⟨w7, hw7⟩ : ∃ w7, (((((u.setCell ⟨g, 0, none⟩ (.int .i64 1)).setCell ⟨g, 1, none⟩ (.int .i64 5)).setCell ⟨g, 2, none⟩ (.int .i64 (1 + z))).setCell ⟨g, 3, none⟩ (.int .i64 0)).setCell ⟨g, 4, none⟩ (.int .i64 0)) = w7 := ⟨_, rfl⟩
                have hg3 : w3.heap.size ≤ g := (HSP.out u hO5 0 (by omega)).2.2.1
                have hu7 : Oth B wc u := hO5
                have hrow7 : RowN w7 w3.heap.size (.slice (some ⟨g, 0, none⟩) n lc) (ys.set 0 ⟨1, 5, 1 + z, 0, 0⟩) := by
                  have := RowN.setI (hrw.oth hRN hu7 hB3) hyl (i := 0) hn0 ⟨1, 5, 1 + z, 0, 0⟩
                  simp only [Nat.zero_mul, Nat.zero_add] at this
                  rw [← hw7]; exact this
                have hb7 : Below w3.heap.size u w7 := by
                  have := ins_below (i := 0) (a := .int .i64 1) (b := .int .i64 5) (c := .int .i64 (1 + z)) (d := .int .i64 0) (e := .int .i64 0) (Below.refl w3.heap.size u) hg3
                  simp only [Nat.zero_mul, Nat.zero_add] at this
                  rw [← hw7]; exact this
                have hk7 : ∀ q, q ≠ g → w7.heap[q]? = u.heap[q]? := fun q hq => by
                  have := ins_blk (v := u) (g := g) (i := 0) (q := q) (a := .int .i64 1) (b := .int .i64 5) (c := .int .i64 (1 + z)) (d := .int .i64 0) (e := .int .i64 0) hq
                  simp only [Nat.zero_mul, Nat.zero_add] at this
                  rw [← hw7]; exact this
                rw [hw7]
                have hl7 : (ys.set 0 (⟨1, 5, 1 + z, 0, 0⟩ : Ins)).length = n := by rw [List.length_set]; exact hyl
                have hcz := hbl.size
                have q27 : w7.cell? ⟨P + 1, 2, none⟩ = some (.slice (some ⟨g, 0, none⟩) n lc) := by rw [← q2u]; exact World.cell?_of_block (w := u) (hk7 (P + 1) (by omega))
                obtain ⟨⟨d0, hd0⟩, j0, _, _⟩ := RowN.spot hrow7 hl7 (o := (n - 2) * 5) (by omega)
                obtain ⟨⟨d1, hd1⟩, j1, _, _⟩ := RowN.spot hrow7 hl7 (o := (n - 2) * 5 + 1) (by omega)
                obtain ⟨⟨d2, hd2⟩, j2, _, _⟩ := RowN.spot hrow7 hl7 (o := (n - 2) * 5 + 2) (by omega)
                obtain ⟨⟨d3, hd3⟩, j3, _, _⟩ := RowN.spot hrow7 hl7 (o := (n - 2) * 5 + 3) (by omega)
                obtain ⟨⟨d4, hd4⟩, j4, _, _⟩ := RowN.spot hrow7 hl7 (o := (n - 2) * 5 + 4) (by omega)
                have hn2 : ((n : Int) - 2).toNat = n - 2 := by omega
                have hn2' : (0 : Int) ≤ (n : Int) - 2 := by omega
                have hn3' : (n : Int) - 2 < (n : Int) := by omega
                have hw2 : IntKind.i64.wrap ((n : Int) - 2) = (n : Int) - 2 := IntWalk.i64_in _ (by omega)
                have HMEET : Hid (CoE B (m + 6000001 + 5 * n + 2) (P + 1) nv na vc ac n va aa w3 (((((w7.setCell ⟨g, (n - 2) * 5, none⟩ (.int .i64 10)).setCell ⟨g, (n - 2) * 5 + 1, none⟩ (.int .i64 5)).setCell ⟨g, (n - 2) * 5 + 2, none⟩ (.int .i64 1)).setCell ⟨g, (n - 2) * 5 + 3, none⟩ (.int .i64 0)).setCell ⟨g, (n - 2) * 5 + 4, none⟩ (.int .i64 0))) := by
                  obtain ⟨k4, k5, k9⟩ := HH.out
                  have hr8 := RowN.setI hrow7 hl7 (i := n - 2) (by omega) ⟨10, 5, 1, 0, 0⟩
                  have hb8 := ins_below (i := n - 2) (a := .int .i64 10) (b := .int .i64 5) (c := .int .i64 1) (d := .int .i64 0) (e := .int .i64 0) hb7 hg3
                  have hk8 : ∀ q, q ≠ g → _ := fun q hq => ins_blk (v := w7) (g := g) (i := n - 2) (q := q) (a := .int .i64 10) (b := .int .i64 5) (c := .int .i64 1) (d := .int .i64 0) (e := .int .i64 0) hq
                  simp only [Nat.add_zero] at hr8 hb8 hk8
                  have hbu : Below B wc u := (Below.refl B wc).drew.trans hb5
                  refine ⟨_, g, lc, ?_, hr8, ?_, ?_, ?_, ?_, ?_, ?_⟩
                  · rw [List.length_set, List.length_set]; exact hyl
                  · intro x hx
                    rcases List.mem_or_eq_of_mem_set hx with h | rfl
                    · rcases List.mem_or_eq_of_mem_set h with h | rfl
                      · exact k4 x h
                      · exact insB_const nv na n _ (by omega) (by omega)
                    · exact insB_loop nv na n (by omega)
                  · rw [List.getElem?_set_ne (by omega), List.getElem?_set_ne (by omega)]; exact k5
                  · exact (hr5.below hb8 (by omega)).mono (by omega)
                  · exact hbl.trans (hbu.trans (hb8.mono (by omega)))
                  · exact (hk8 (P + 1) (by omega)).trans ((hk7 (P + 1) (by omega)).trans ((hO5.2 (P + 1) (by omega) (by omega)).trans HBXc.out))
                  · intro q hq hqB hqX
                    exact (hk8 q (by omega)).trans ((hk7 q (by omega)).trans ((hO5.2 q (by omega) hqB).trans (k9 q hq hqB hqX)))
                clear hw7 hrow7 hb7 hk7 hr5 ho5 hb5 hO5 hu7 hwz q2u q2 hc0 hc1 hc2 hc3 hc4 f0 f1 f2 f3 f4 HRc HRcd HSP HBXc hrw hbl
                go_wp2_with fail
                go_meet
                case rel => exact HMEET
          case rest =>
            obtain ⟨ys, g, lc, h1, h2, h4, h5, h6, h7, h8, h9⟩ := hcut.out
            have q0 : wc.cell? ⟨P + 1, 0, none⟩ = some (.slice va nv vc) := by rw [cell_at h8]; rfl
            have q1 : wc.cell? ⟨P + 1, 1, none⟩ = some (.slice aa na ac) := by rw [cell_at h8]; rfl
            have q2 : wc.cell? ⟨P + 1, 2, none⟩ = some (.slice (some ⟨g, 0, none⟩) n lc) := by rw [cell_at h8]; rfl
            have hw0 : w.heap.size < w0.heap.size := (Array.getElem?_eq_some_iff.1 HRB.out).1
            have e1 := (HO1.out.2 w.heap.size hw0 (by omega)).trans HRB.out
            have e2 := (HB2.out.block w.heap.size (by omega)).trans e1
            have e3 := (HO3.out.2 w.heap.size (by rw [HZ.out]; omega) (by omega)).trans e2
            have e4 := (h9 w.heap.size (by omega) (by omega) (by omega)).trans e3
            have f0 := frozen_of_row _ _ 0 _ _ e4
            have f1 := frozen_of_row _ _ 1 _ _ e4
            have f2 := frozen_of_row _ _ 2 _ _ e4
            obtain ⟨r0, hr0⟩ := cell_ex e4 0 (by simp)
            obtain ⟨r1, hr1⟩ := cell_ex e4 1 (by simp)
            obtain ⟨r2, hr2⟩ := cell_ex e4 2 (by simp)
            obtain ⟨W9, hW9⟩ : ∃ W9, ((wc.setCell ⟨w.heap.size, 0, none⟩ (.slice va nv vc)).setCell ⟨w.heap.size, 1, none⟩ (.slice aa na ac)).setCell ⟨w.heap.size, 2, none⟩ (.slice (some ⟨g, 0, none⟩) n lc) = W9 := ⟨_, rfl⟩
            have b9 : Below w.heap.size wc W9 := by rw [← hW9]; exact below_cell (below_cell (below_cell (Below.refl _ _)))
            have o9 : ∀ q, q ≠ w.heap.size → W9.heap[q]? = wc.heap[q]? := fun q hq => by rw [← hW9, cell_other _ _ _ _ _ hq, cell_other _ _ _ _ _ hq, cell_other _ _ _ _ _ hq]
            have p9 : W9.heap[w.heap.size]? = some (.cells #[.slice va nv vc, .slice aa na ac, .slice (some ⟨g, 0, none⟩) n lc] 70 (0, 0)) := by
              rw [← hW9, blk_set (blk_set (blk_set e4 _) _) _]; rfl
            have z0 : W9.cell? ⟨w.heap.size, 0, none⟩ = some (.slice va nv vc) := by rw [cell_at p9]; rfl
            have z1 : W9.cell? ⟨w.heap.size, 1, none⟩ = some (.slice aa na ac) := by rw [cell_at p9]; rfl
            have z2 : W9.cell? ⟨w.heap.size, 2, none⟩ = some (.slice (some ⟨g, 0, none⟩) n lc) := by rw [cell_at p9]; rfl
            have HFIN : Hid (∃ (c : Cd) (k' : CK), Ending.returned (.agg #[.slice va nv vc, .slice aa na ac, .slice (some ⟨g, 0, none⟩) n lc]) = .returned (aggC c k') ∧ codeB c = true ∧ c.list.length ≤ 12 ∧ c.vars.length ≤ 5 ∧ c.arrs.length ≤ 2 ∧ CL W9 c k' ∧ Below B w W9 ∧ Oth B w W9 ∧ RdU W9 B (m + 6000100)) := by
              obtain ⟨k1, k2, _, _, k5, k6⟩ := HK.out
              have hh : headsB p = true := by
                have := HPV.out
                unfold progV at this
                rw [Bool.and_eq_true] at this
                exact this.1
              have hst : ∀ j, New w0 w1 j → W9.heap[j]? = w1.heap[j]? := fun j hj => by
                have j1 := hj.1
                have j2 := hj.2
                rw [HP.out] at j2
                exact (o9 j (by omega)).trans ((h9 j (by omega) (by omega) (by omega)).trans ((HO3.out.2 j (by rw [HZ.out]; omega) (by omega)).trans (HB2.out.block j (by omega))))
              have hsz9 : ∀ j, New w0 w1 j → j < W9.heap.size := fun j hj => by
                have j2 := hj.2
                rw [HP.out] at j2
                have := h7.size
                have := b9.size
                omega
              have hcl : CL W9 ⟨p.vars, p.arrs, ys⟩ ⟨va, vc, aa, ac, some ⟨g, 0, none⟩, lc⟩ := by
                have hpp := HPP.out
                refine ⟨⟨by show p.vars.length ≤ _; unfold maxLen; omega, ?_⟩, ⟨by show p.arrs.length ≤ _; unfold maxLen; omega, ?_⟩, ?_⟩
                · have := hpp.1.2.2.wide (w' := W9) (D' := fun b => b < W9.heap.size) hst hsz9
                  rw [k1] at this; exact this
                · have := hpp.2.1.2.2.wide (w' := W9) (D' := fun b => b < W9.heap.size) hst hsz9
                  rw [k2] at this; exact this
                · have := RowN.nat (h2.oth hRN (B := w.heap.size) (w' := W9) ⟨b9.size, fun q hq hqw => o9 q hqw⟩ (by omega))
                  exact this.wide (fun _ _ => rfl) fun j hj => hj.2
              refine ⟨⟨p.vars, p.arrs, ys⟩, ⟨va, vc, aa, ac, some ⟨g, 0, none⟩, lc⟩, by unfold aggC; simp only [k5, k6, h1], ?_, by simp only [h1]; omega, by simp only [k5]; omega, by simp only [k6]; omega, hcl, ?_, ?_, (h6.below b9 (by omega)).mono (by omega)⟩
              · have ha : ys.all (insB p.vars.length p.arrs.length ys.length) = true := by
                  rw [List.all_eq_true, k5, k6, h1]; exact h4
                have hl : lastB ys = true := by rw [lastB_at (x := ⟨13, 0, 0, 0, 0⟩) (by rw [h1]; exact h5)]; rfl
                have h2' : headsB (Cd.heads ⟨p.vars, p.arrs, ys⟩) = true := hh
                unfold codeB
                rw [h2', ha, hl, decide_eq_true (show 1 ≤ ys.length by omega), decide_eq_true (show ys.length ≤ 400 by omega)]
                rfl
              · exact ((((HB0.out.mono (by omega)).trans HB1.out).trans (HB2.out.mono (by omega))).trans (HB3.out.trans (h7.mono (by omega)))).trans (b9.mono (by omega))
              · refine ⟨?_, fun q hq hqB => ?_⟩
                · have := HO1.out.1; have := HB2.out.size; have := HO3.out.1; have := h7.size; have := b9.size; omega
                · have j1 := HO1.out.1
                  exact (o9 q (by omega)).trans ((h9 q (by omega) hqB (by omega)).trans ((HO3.out.2 q (by rw [HZ.out]; omega) hqB).trans ((HB2.out.block q (by omega)).trans ((HO1.out.2 q (by omega) hqB).trans (HB0.out.block q hq)))))
            clear h1 h2 h4 h5 h6 h7 h8 h9 e1 e2 e3 e4 p9 o9 b9
            go_wp2_with fail
            try rw [hW9]
            exact bodyPost_ret (v := .agg #[.slice va nv vc, .slice aa na ac, .slice (some ⟨g, 0, none⟩) n lc]) (by simp [results, Try.f47, go_sem, z0, z1, z2]) rfl HFIN.out

end Go.Proofs.Ytgfagdjadmpklaa

namespace Go.Proofs.Ytgfagdjadmpklaa
open Go.RowKit
set_option linter.unusedVariables false

/-- A run's memory, as lists. -/
theorem RM.mld {u : World} {lo hi nv na vc ac : Nat} {va aa : Option Addr} (h : RM u lo hi nv na va aa) (hnv : nv ≤ 1000) (hna : na ≤ 1000) : ∃ m : Mm, m.vals.length = nv ∧ m.arrs.length = na ∧ (∀ xs ∈ m.arrs, 3 ≤ xs.length ∧ xs.length ≤ 4) ∧ MLD u (fun b => lo ≤ b ∧ b < hi) m ⟨va, vc, aa, ac⟩ := by
  obtain ⟨xs, hx, _, hi1⟩ := h.vals.ints
  have hE : ∀ i, i < na → ∃ ys : List Int, ys.length = 4 ∧ ∃ b o a c, aa = some ⟨b, o, none⟩ ∧ lo ≤ b ∧ b < hi ∧ u.cell? ⟨b, o + i, none⟩ = some (.slice a 4 c) ∧ IntsAt u (fun j => lo ≤ j ∧ j < hi) ys a := fun i hi => by
    obtain ⟨b, o, a, c, e1, e2, e3, e4, e5, e6, e7⟩ := h.arrs i hi
    obtain ⟨ys, h1, _, h3⟩ := e7.ints
    exact ⟨ys, h1, b, o, a, c, e1, e2, e3, e4, h3⟩
  let F : Nat → List Int := fun i => if h : i < na then Classical.choose (hE i h) else [0, 0, 0, 0]
  have hF : ∀ i (h : i < na), F i = Classical.choose (hE i h) := fun i h => dif_pos h
  refine ⟨⟨xs, (List.range na).map F⟩, hx, by simp, ?_, ⟨by show xs.length ≤ _; unfold maxLen; omega, hi1⟩, by show ((List.range na).map F).length ≤ _; simp; unfold maxLen; omega, ?_⟩
  · intro ys hy
    obtain ⟨i, hi, rfl⟩ := List.mem_map.1 hy
    have hi' : i < na := by simpa using hi
    rw [hF i hi', (Classical.choose_spec (hE i hi')).1]
    omega
  · intro i ys hy
    have hy : ((List.range na).map F)[i]? = some ys := hy
    have hil := (List.getElem?_eq_some_iff.1 hy).1
    have hi' : i < na := by simpa using hil
    rw [List.getElem?_map, List.getElem?_range hi'] at hy
    have hy2 : F i = ys := by simpa using hy
    obtain ⟨h4, b, o, a, c, e1, e2, e3, e4, e5⟩ := Classical.choose_spec (hE i hi')
    rw [← hF i hi', hy2] at h4 e5
    exact ⟨b, o, a, c, e1, ⟨e2, e3⟩, by rw [h4]; exact e4, by unfold maxLen; omega, e5⟩

/-- A state in blocks of D. -/
def StD (w : World) (D : Nat → Prop) (s : Ms) (k : MK) : Prop := IAt w D s.regs k.ra ∧ MLD w D s.mem k.me
theorem StD.wide {w w' : World} {D D' : Nat → Prop} {s : Ms} {k : MK} (h : StD w D s k) (hb : ∀ j, D j → w'.heap[j]? = w.heap[j]?) (hl : ∀ j, D j → D' j) : StD w' D' s k := ⟨h.1.wide hb hl, h.2.wide hb hl⟩
/-- It is short. -/
def StS (s : Ms) : Prop := s.regs.length ≤ 14 ∧ s.mem.vals.length ≤ 20 ∧ s.mem.arrs.length ≤ 2 ∧ ∀ xs ∈ s.mem.arrs, 3 ≤ xs.length ∧ xs.length ≤ 4

/-- A drawn state: it lies in new blocks. -/
def StW (B M : Nat) (w : World) (f : Ending) (w' : World) : Prop := ∃ (s : Ms) (k : MK), f = .returned (aggS4 s k) ∧ StD w' (fun b => w.heap.size ≤ b ∧ b < w'.heap.size) s k ∧ StS s ∧ RdU w' B (M + 100) ∧ Oth B w w' ∧ Below B w w'
theorem StW.drew {B M : Nat} {w w' : World} {f : Ending} (h : StW B M w f w') : StW B M w f w'.drew := by
  obtain ⟨s, k, e, h1, h2, h3, h4, h5⟩ := h
  exact ⟨s, k, e, h1.wide (fun _ _ => rfl) (fun _ h => h), h2, h3.drew, h4.drew, h5.drew⟩

theorem IAt.take13 {w : World} {D : Nat → Prop} {xs : List Int} {a : Option Addr} (h : IAt w D xs a) : IAt w D (xs.take 13) a := by
  refine ⟨by rw [List.length_take]; exact Nat.le_trans (Nat.min_le_right _ _) h.1, fun k hk => ?_⟩
  rw [List.length_take] at hk
  obtain ⟨b, o, h1, h2, h3⟩ := h.2 k (by omega)
  refine ⟨b, o, h1, h2, ?_⟩
  rw [h3]
  have hk13 : k < 13 := by omega
  simp [List.getD, hk13]

/-- Behind the switch. -/
def StX (B M R O : Nat) (w u : World) : Prop := ∃ (s : Ms) (k : MK), u.heap[O]? = some (.cells (arrS4 s k) 28 (0, 0)) ∧ u.heap[R]? = some (.cells #[.int .i64 0, .slice none 0 0, .slice none 0 0, .slice none 0 0] 28 (0, 0)) ∧ StD u (fun b => R < b ∧ b < u.heap.size) s k ∧ StS s ∧ (B < R ∧ R = w.heap.size + 1 ∧ RdU u B (M + 100)) ∧ Oth B w u ∧ Below B w u
theorem StX.rb {B M R O : Nat} {w u : World} (h : StX B M R O w u) : u.heap[R]? = some (.cells #[.int .i64 0, .slice none 0 0, .slice none 0 0, .slice none 0 0] 28 (0, 0)) := by
  obtain ⟨_, _, _, h, _⟩ := h
  exact h
theorem StX.fin {B M R O : Nat} {w u : World} (h : StX B M R O w u) {v0 v1 v2 v3 : Value} (y0 : u.cell? ⟨O, 0, none⟩ = some v0) (y1 : u.cell? ⟨O, 1, none⟩ = some v1) (y2 : u.cell? ⟨O, 2, none⟩ = some v2) (y3 : u.cell? ⟨O, 3, none⟩ = some v3) :
    StW B M w (.returned (.agg #[v0, v1, v2, v3])) ((((u.setCell ⟨R, 0, none⟩ v0).setCell ⟨R, 1, none⟩ v1).setCell ⟨R, 2, none⟩ v2).setCell ⟨R, 3, none⟩ v3) := by
  obtain ⟨s, k, ob, rb, hm, h1, ⟨h4, h5, h6⟩, h7, h8⟩ := h
  rw [cell_at ob] at y0 y1 y2 y3
  have e0 : Value.int .i64 s.pc = v0 := by simpa using y0
  have e1 : Value.slice k.ra s.regs.length k.rc = v1 := by simpa using y1
  have e2 : Value.slice k.me.va s.mem.vals.length k.me.vc = v2 := by simpa using y2
  have e3 : Value.slice k.me.aa s.mem.arrs.length k.me.ac = v3 := by simpa using y3
  obtain ⟨W, hW⟩ : ∃ W, ((((u.setCell ⟨R, 0, none⟩ v0).setCell ⟨R, 1, none⟩ v1).setCell ⟨R, 2, none⟩ v2).setCell ⟨R, 3, none⟩ v3) = W := ⟨_, rfl⟩
  have hsz : W.heap.size = u.heap.size := by rw [← hW]; simp [World.setCell]
  have hst : ∀ q, q ≠ R → W.heap[q]? = u.heap[q]? := fun q hq => by
    rw [← hW, Below.heap_setCell _ _ _ _ (by simpa using hq), Below.heap_setCell _ _ _ _ (by simpa using hq), Below.heap_setCell _ _ _ _ (by simpa using hq), Below.heap_setCell _ _ _ _ (by simpa using hq)]
  have hb : Below R u W := by
    rw [← hW]
    exact ((((Below.refl R u).setCell (p := ⟨R, 0, none⟩) (Nat.le_refl _) _).setCell (p := ⟨R, 1, none⟩) (Nat.le_refl _) _).setCell (p := ⟨R, 2, none⟩) (Nat.le_refl _) _).setCell (p := ⟨R, 3, none⟩) (Nat.le_refl _) _
  rw [hW]
  exact ⟨s, k, by unfold aggS4; rw [← e0, ← e1, ← e2, ← e3], hm.wide (fun b hb => hst b (by omega)) (fun b hb => ⟨by omega, by rw [hsz]; exact hb.2⟩), h1, h6.below hb h4, ⟨by rw [hsz]; exact h7.1, fun q hq hqB => (hst q (by omega)).trans (h7.2 q hq hqB)⟩, h8.trans (hb.mono (by omega))⟩

theorem StX.of {B M R O : Nat} {w u : World} {pc : Int} {rs : List Int} {ra : Option Addr} {rc nr nv na : Nat} {m : Mm} {km : MC} (hO : u.heap[O]? = some (.cells #[.int .i64 pc, .slice ra nr rc, .slice km.va nv km.vc, .slice km.aa na km.ac] 28 (0, 0))) (hr : rs.length = nr) (hv : m.vals.length = nv) (ha : m.arrs.length = na)
    (hR : u.heap[R]? = some (.cells #[.int .i64 0, .slice none 0 0, .slice none 0 0, .slice none 0 0] 28 (0, 0))) (h1 : IAt u (fun b => R < b ∧ b < u.heap.size) rs ra) (h2 : MLD u (fun b => R < b ∧ b < u.heap.size) m km) (hs : nr ≤ 14 ∧ nv ≤ 20 ∧ na ≤ 2) (he : ∀ xs ∈ m.arrs, 3 ≤ xs.length ∧ xs.length ≤ 4)
    (hB : B < R ∧ R = w.heap.size + 1) (hrd : RdU u B (M + 100)) (ho : Oth B w u) (hb : Below B w u) : StX B M R O w u := by
  subst hr hv ha
  exact ⟨⟨pc, rs, m⟩, ⟨ra, rc, km⟩, hO, hR, ⟨h1, h2⟩, ⟨hs.1, hs.2.1, hs.2.2, he⟩, ⟨hB.1, hB.2, hrd⟩, ho, hb⟩

/-- The state of the loop that draws the registers. -/
def StL (B M O : Nat) (V : World) (pc : Int) (c2 c3 : Value) (i : Value) (v : World) : Prop := ∃ (rs : List Int) (ra : Option Addr) (rc : Nat), i = .int .i64 (rs.length : Int) ∧ rs.length ≤ 14 ∧ OwnI v V.heap.size (.slice ra rs.length rc) rs ∧ RdU v B (M + rs.length) ∧ Below B V v ∧ v.heap[O]? = some (.cells #[.int .i64 pc, .slice ra rs.length rc, c2, c3] 28 (0, 0)) ∧ ∀ q, q < V.heap.size → q ≠ B → q ≠ O → v.heap[q]? = V.heap[q]?

set_option maxRecDepth 100000 in
set_option maxHeartbeats 4000000 in
theorem l6State_one (c : Cd) (k : CK) (B M : Nat) (w : World) (hv : c.vars.length ≤ 5) (ha : c.arrs.length ≤ 2) (hl1 : 1 ≤ c.list.length) (hl : c.list.length ≤ 12) (hr : RdU w B M) (hM : M < 1099511600000) :
    Calls Try.prog 48 #[.pointer (some ⟨B, 0, none⟩), aggC c k] w (StW B M w) := by
  have hlt := hr.lt
  obtain ⟨R, hR⟩ : ∃ R, w.heap.size + 1 = R := ⟨_, rfl⟩
  obtain ⟨W0, hW0⟩ : ∃ W0, (w.alloc (.cells #[.slice k.va c.vars.length k.vc, .slice k.aa c.arrs.length k.ac, .slice k.la c.list.length k.lc] 70)).alloc (.cells #[.int .i64 0, .slice none 0 0, .slice none 0 0, .slice none 0 0] 28) = W0 := ⟨_, rfl⟩
  have hz0 : W0.heap.size = R + 1 := by rw [← hW0, ← hR]; simp
  have hb0 : Below w.heap.size w W0 := by rw [← hW0]; exact ((Below.refl _ w).alloc (Nat.le_refl _) _).alloc (by simp) _
  have hcb : W0.heap[w.heap.size]? = some (.cells #[.slice k.va c.vars.length k.vc, .slice k.aa c.arrs.length k.ac, .slice k.la c.list.length k.lc] 70 (0, 0)) := by
    rw [← hW0, Below.heap_alloc _ _ _ (by simp)]; exact heap_alloc_new w _
  have hrb : W0.heap[R]? = some (.cells #[.int .i64 0, .slice none 0 0, .slice none 0 0, .slice none 0 0] 28 (0, 0)) := by
    have e1 := heap_alloc_new (w.alloc (.cells #[.slice k.va c.vars.length k.vc, .slice k.aa c.arrs.length k.ac, .slice k.la c.list.length k.lc] 70)) (.cells #[.int .i64 0, .slice none 0 0, .slice none 0 0, .slice none 0 0] 28)
    rw [World.size_alloc, hR] at e1
    rw [← hW0]; exact e1
  have HW0 := Lib.hid hW0
  have HR := Lib.hid hR
  have HB0 := Lib.hid hb0
  have HCB := Lib.hid hcb
  have HRB := Lib.hid hrb
  have HRD := Lib.hid hr
  clear hW0 hb0 hcb hrb hr
  go_enter Try.func48, Try.ntmps48
  go_wp2_with fail
  rw [HW0.out]
  refine (l6Heads_one c k W0).mono ?_
  rintro f w1 ⟨rfl, hb1⟩
  have hz1 := hb1.size
  have hrd1 : RdU w1 B M := (HRD.out.below HB0.out hlt).below hb1 (by omega)
  have HRD1 := Lib.hid hrd1
  have HB1 := Lib.hid hb1
  clear hrd1 hb1
  go_wp2_with fail
  refine (l3Memory_one B M c.vars.length c.arrs.length 0 k.vc k.ac 0 k.va k.aa none w1 HRD1.out (by omega) (by omega) ha).mono ?_
  rintro f w2 ⟨va, aa, vc, ac, rfl, hb2, ho2, hr2, hm2⟩
  obtain ⟨m, hmv, hma, hme, hmd⟩ := hm2.mld (vc := vc) (ac := ac) (by omega) (by omega)
  obtain ⟨O, hO⟩ : ∃ O, w2.heap.size = O := ⟨_, rfl⟩
  obtain ⟨nv, hnv⟩ : ∃ nv, c.vars.length = nv := ⟨_, rfl⟩
  obtain ⟨na, hna⟩ : ∃ na, c.arrs.length = na := ⟨_, rfl⟩
  obtain ⟨nl, hnl⟩ : ∃ nl, c.list.length = nl := ⟨_, rfl⟩
  rw [hnv] at hmv hv
  rw [hna] at hma ha
  rw [hnl] at hl hl1
  obtain ⟨W2, hW2⟩ : ∃ W2, w2.alloc (.cells #[.int .i64 0, .slice none 0 0, .slice va nv vc, .slice aa na ac] 28) = W2 := ⟨_, rfl⟩
  have hzw2 : W2.heap.size = O + 1 := by rw [← hW2, World.size_alloc, hO]
  have hz2 := ho2.1
  have hRO : R < O := by omega
  have hob : W2.heap[O]? = some (.cells #[.int .i64 0, .slice none 0 0, .slice va nv vc, .slice aa na ac] 28 (0, 0)) := by rw [← hW2, ← hO]; exact heap_alloc_new w2 _
  have hst2 : ∀ q, q < O → q ≠ B → q < w1.heap.size → W2.heap[q]? = w1.heap[q]? := fun q hq hqB h1 => by
    rw [← hW2, Below.heap_alloc _ _ _ (by omega)]; exact ho2.2 q h1 hqB
  have HOB := Lib.hid hob
  have HRB2 : Hid (W2.heap[R]? = some (.cells #[.int .i64 0, .slice none 0 0, .slice none 0 0, .slice none 0 0] 28 (0, 0))) := (hst2 R (by omega) (by omega) (by omega)).trans ((HB1.out.block R (by omega)).trans HRB.out)
  have hcb2 : W2.heap[w.heap.size]? = some (.cells #[.slice k.va c.vars.length k.vc, .slice k.aa c.arrs.length k.ac, .slice k.la c.list.length k.lc] 70 (0, 0)) := (hst2 w.heap.size (by omega) (by omega) (by omega)).trans ((HB1.out.block w.heap.size (by omega)).trans HCB.out)
  have p2 : W2.cell? ⟨w.heap.size, 2, none⟩ = some (.slice k.la nl k.lc) := by rw [cell_at hcb2, hnl]; rfl
  have hrd2 : RdU W2 B (M + 13) := by
    rw [← hW2]
    exact (hr2.alloc _).mono (by omega)
  have HRD2 := Lib.hid hrd2
  have HOT2 : Hid (Oth B w W2) := ⟨by omega, fun q hq hqB => (hst2 q (by omega) hqB (by omega)).trans ((HB1.out.block q (by omega)).trans (HB0.out.block q hq))⟩
  have HBE2 : Hid (Below B w W2) := by
    have h1 : Below B w w1 := (HB0.out.mono (by omega)).trans (HB1.out.mono (by omega))
    have h2 : Below B w2 W2 := by rw [← hW2]; exact (Below.refl B w2).alloc (by omega) _
    exact h1.trans (hb2.trans h2)
  have HMD : Hid (MLD W2 (fun b => R < b ∧ b < O) m ⟨va, vc, aa, ac⟩) := hmd.wide (fun b hb => by rw [← hW2]; exact Below.heap_alloc _ _ _ hb.2) fun b hb => ⟨by omega, by omega⟩
  have HME := Lib.hid hme
  have HNV := Lib.hid hmv
  have HNA := Lib.hid hma
  have HW2 := Lib.hid hW2
  have HO := Lib.hid hO
  rw [hnv, hna]
  try simp only [hnl]
  clear hb2 ho2 hr2 hm2 hmd hme hmv hma hW2 hob hst2 hcb2 hrd2 hO HB0 HB1 HCB HRB HRD HRD1 HW0 hnv hna
  go_wp2_with (first | rw [HW2.out] | fail)
  try rw [HW2.out]
  try rw [HO.out]
  refine (pickU B (M + 13) nl W2 HRD2.out (by omega) (by omega) (by omega)).mono ?_
  rintro f u ⟨pc, hpc, rfl, hr3, ho3, hb3⟩
  have hz3 := ho3.1
  have hob3 : u.heap[O]? = some (.cells #[.int .i64 0, .slice none 0 0, .slice va nv vc, .slice aa na ac] 28 (0, 0)) := (ho3.2 O (by omega) (by omega)).trans HOB.out
  have q0 : u.cell? ⟨O, 0, none⟩ = some (.int .i64 0) := by rw [cell_at hob3]; rfl
  have f0 := frozen_at hob3 0
  obtain ⟨V, hV⟩ : ∃ V, u.setCell ⟨O, 0, none⟩ (.int .i64 pc) = V := ⟨_, rfl⟩
  have hzV : V.heap.size = u.heap.size := by rw [← hV]; simp [World.setCell]
  have hsV : ∀ q, q ≠ O → V.heap[q]? = u.heap[q]? := fun q hq => by rw [← hV]; exact Below.heap_setCell _ _ _ _ (by simpa using hq)
  have hbV : Below O u V := by rw [← hV]; exact (Below.refl O u).setCell (p := ⟨O, 0, none⟩) (Nat.le_refl _) _
  have hoV : V.heap[O]? = some (.cells #[.int .i64 pc, .slice none 0 0, .slice va nv vc, .slice aa na ac] 28 (0, 0)) := by rw [← hV, blk_set hob3]; rfl
  have HL0 : Hid (StL B (M + 14) O V pc (.slice va nv vc) (.slice aa na ac) (.int .i64 0) V) := ⟨[], none, 0, rfl, Nat.zero_le _, OwnI.nil' _ _, hr3.below hbV (by omega), Below.refl _ _, hoV, fun _ _ _ _ => rfl⟩
  have hVO : O < V.heap.size := by omega
  have HRBV : Hid (V.heap[R]? = some (.cells #[.int .i64 0, .slice none 0 0, .slice none 0 0, .slice none 0 0] 28 (0, 0))) := (hsV R (by omega)).trans ((ho3.2 R (by omega) (by omega)).trans HRB2.out)
  have HMDV : Hid (MLD V (fun b => R < b ∧ b < O) m ⟨va, vc, aa, ac⟩) := HMD.out.wide (fun b hb => (hsV b (by omega)).trans (ho3.2 b (by omega) (by omega))) fun _ h => h
  have HOTV : Hid (Oth B w V) := ⟨by have := HOT2.out.1; omega, fun q hq hqB => (hsV q (by omega)).trans ((ho3.2 q (by have := HOT2.out.1; omega) hqB).trans (HOT2.out.2 q hq hqB))⟩
  have HBEV : Hid (Below B w V) := HBE2.out.trans (hb3.trans (hbV.mono (by omega)))
  have HV := Lib.hid hV
  clear hr3 ho3 hb3 hob3 hV hbV hoV hsV HOB HRB2 HRD2 HOT2 HBE2 HMD HW2 p2
  go_wp2_with (first | rw [HV.out] | fail)
  try rw [HV.out]
  go_loopw [6] (fun i v => StL B (M + 14) O V pc (.slice va nv vc) (.slice aa na ac) i v) (fun i _ => 14 - (intOf i).toNat)
  case atStart => exact HL0.out
  case round =>
    obtain ⟨rs, ra, rc, rfl, hle, hrow, hrd, hbel, hbx, hstd⟩ := hrel
    obtain ⟨j, hj⟩ : ∃ j, rs.length = j := ⟨_, rfl⟩
    have HJ := Lib.hid hj
    have HROW : Hid (OwnI wr V.heap.size (.slice ra j rc) rs) := by rw [hj] at hrow; exact hrow
    have HBEL := Lib.hid hbel
    have HSTD := Lib.hid hstd
    have hzr := hbel.size
    rw [hj] at hle hbx hrd
    have HRD := Lib.hid hrd
    have HRDd : Hid (RdU wr.drew B (M + 14 + j)) := hrd.drew
    have HBX := Lib.hid hbx
    have q1 : wr.cell? ⟨O, 1, none⟩ = some (.slice ra j rc) := by rw [cell_at hbx]; rfl
    have hBr := hrd.lt
    rw [hj]
    clear hrow hbel hstd hbx hrd hj HL0
    obtain ⟨i0, hinf, hj0, hj1, hj2⟩ := info_parts Try.infoI
    by_cases hlt1 : (j : Int) < 14
    · go_wp2_with fail
      go_region_law (first
        | (go_simp; go_at_call 84; refine (l3Value_one B (M + 14 + j) _ (by first | exact HRD.out | exact HRDd.out) (by omega)).mono ?_; rintro f u2 ⟨z, hz, rfl, hr5, ho5, hb5⟩
           have hO5 : Oth B wr u2 := (by first | exact ho5 | exact (Oth.refl B wr).drew.trans ho5)
           have hb5' : Below B wr u2 := (by first | exact hb5 | exact (Below.refl B wr).drew.trans hb5)
           have hs5 := hO5.1
           have hBXu := (hO5.2 O (by omega) (by omega)).trans HBX.out
           have q1u : u2.cell? ⟨O, 1, none⟩ = some (.slice ra j rc) := (by rw [cell_at hBXu]; rfl)
           have hBXa : (u2.alloc (.cells #[.int .i64 z] 3)).heap[O]? = some (.cells #[.int .i64 pc, .slice ra j rc, .slice va nv vc, .slice aa na ac] 28 (0, 0)) := (Below.heap_alloc _ _ _ (by omega)).trans hBXu
           have q1a : (u2.alloc (.cells #[.int .i64 z] 3)).cell? ⟨O, 1, none⟩ = some (.slice ra j rc) := (by rw [cell_at hBXa]; rfl)
           have hL2 : (u2.alloc (.cells #[.int .i64 z] 3)).ownsRow V.heap.size 3 1 (.slice ra j rc) j (rs.map (Value.int .i64)) := (by
             have h1 := HROW.out.stand (w' := u2.alloc (.cells #[.int .i64 z] 3)) fun q h1 h2 => (Below.heap_alloc _ _ _ (by omega)).trans (hO5.2 q h2 (by omega))
             unfold OwnI at h1
             rw [HJ.out] at h1
             exact h1))
        | (refine step_append_lies _ (by rfl) _ _ _ (by rfl) V.heap.size 3 i0 _ 1 8 Try.underlying23 hinf hj0 hj1 hj2 rfl (by omega) (.slice ra j rc) j _ (by rfl) hL2 ⟨u2.heap.size, 0, none⟩ 1 1 [.int .i64 z] (by rfl) (by rfl) (World.news_of_block (cs := #[.int .i64 z]) (t := 3) (fr := (0, 0)) (heap_alloc_new u2 _)) (by simp [Value.oneCell']) (by omega) (by unfold maxLen; omega) (by omega) (by simp; omega) (u2.heap.size + 1) (by simp) ?_; intro g cap w5 hown5 hgrow hat hlt5
           have hXr : some O ≠ (Value.slice ra j rc).ownBlock := fun e => (by have := (hL2.lt _ e.symm).1; omega)
           have hBX5 := (hgrow.block O (by simp; omega) hXr).trans hBXa
           have q15 : w5.cell? ⟨O, 1, none⟩ = some (.slice ra j rc) := (by rw [cell_at hBX5]; rfl)
           have f15 := frozen_of_row _ _ 1 _ _ hBX5))
      all_goals
        have HREL : Hid (StL B (M + 14) O V pc (.slice va nv vc) (.slice aa na ac) (.int .i64 ((j : Int) + 1)) (w5.setCell ⟨O, 1, none⟩ (.slice (some ⟨g, 0, none⟩) (j + 1) cap))) := by
          have hlen : (rs ++ [z]).length = j + 1 := by rw [List.length_append, HJ.out]; rfl
          have hzu : (u2.alloc (.cells #[.int .i64 z] 3)).heap.size = u2.heap.size + 1 := by simp
          have hba : Below u2.heap.size u2 (u2.alloc (.cells #[.int .i64 z] 3)) := (Below.refl _ _).alloc (Nat.le_refl _) _
          have hb6 : Below V.heap.size (u2.alloc (.cells #[.int .i64 z] 3)) w5 := (Below.refl _ _).grown hgrow (by omega) (fun q e => (hL2.lt q e).1)
          have hst : ∀ q, q ≠ O → (w5.setCell ⟨O, 1, none⟩ (.slice (some ⟨g, 0, none⟩) (j + 1) cap)).heap[q]? = w5.heap[q]? := fun q hq => Below.heap_setCell _ _ _ _ (by simpa using hq)
          have hmid : Below O u2 w5 := (hba.mono (by omega)).trans (hb6.mono (by omega))
          have hb7 : Below O u2 (w5.setCell ⟨O, 1, none⟩ (.slice (some ⟨g, 0, none⟩) (j + 1) cap)) := hmid.setCell (p := ⟨O, 1, none⟩) (Nat.le_refl _) _
          refine ⟨rs ++ [z], some ⟨g, 0, none⟩, cap, by rw [hlen]; rfl, by rw [hlen]; omega, ?_, ?_, ?_, ?_, ?_⟩
          · rw [hlen]
            have ho : OwnI w5 V.heap.size (.slice (some ⟨g, 0, none⟩) (j + 1) cap) (rs ++ [z]) := by
              unfold OwnI
              rw [hlen, List.map_append]
              exact hown5
            exact ho.stand fun q h1 h2 => hst q (by omega)
          · rw [hlen]
            exact (hr5.below hb7 (by omega)).mono (by omega)
          · exact HBEL.out.trans (hb5'.trans (hb7.mono (by omega)))
          · rw [blk_set hBX5, hlen]; rfl
          · intro q hq hqB hqO
            rw [hst q hqO]
            exact (hb6.block q hq).trans ((hba.block q (by omega)).trans ((hO5.2 q (by omega) hqB).trans (HSTD.out q hq hqB hqO)))
        clear hr5 ho5 hb5 hb5' hO5 hs5 hBXu q1u hBXa q1a hL2 hown5 hgrow hat hlt5 hXr hBX5 q15 f15 HROW HRD HBEL HSTD HBX HRDd q1
        go_wp2_with fail
        go_roundw
        case rel => exact HREL.out
        case measure => simp [intOf]; omega
    · have hj14 : j = 14 := by omega
      have hj14' : ((j : Int) < 14) = False := by simp; omega
      go_wp2_with fail
      refine (pickU B (M + 14 + j) 40 wr HRD.out (by omega) (by omega) (by omega)).mono ?_
      rintro f u ⟨z, hzz, rfl, hr6, ho6, hb6⟩
      subst hj14
      have hz6 := ho6.1
      have HOu : Hid (u.heap[O]? = some (.cells #[.int .i64 pc, .slice ra 14 rc, .slice va nv vc, .slice aa na ac] 28 (0, 0))) := (ho6.2 O (by omega) (by omega)).trans HBX.out
      have HRBu : Hid (u.heap[R]? = some (.cells #[.int .i64 0, .slice none 0 0, .slice none 0 0, .slice none 0 0] 28 (0, 0))) := (ho6.2 R (by omega) (by omega)).trans ((HSTD.out R (by omega) (by omega) (by omega)).trans HRBV.out)
      have HRDu : Hid (RdU u B (M + 29)) := hr6
      have HROWu : Hid (OwnI u V.heap.size (.slice ra 14 rc) rs) := HROW.out.stand fun q h1 h2 => ho6.2 q h2 (by omega)
      have HMDu : Hid (MLD u (fun b => R < b ∧ b < O) m ⟨va, vc, aa, ac⟩) := HMDV.out.wide (fun b hb => (ho6.2 b (by omega) (by omega)).trans (HSTD.out b (by omega) (by omega) (by omega))) fun _ h => h
      have HOTu : Hid (Oth B w u) := ⟨by have := HOTV.out.1; omega, fun q hq hqB => (ho6.2 q (by have := HOTV.out.1; omega) hqB).trans ((HSTD.out q (by have := HOTV.out.1; omega) hqB (by omega)).trans (HOTV.out.2 q hq hqB))⟩
      have HBEu : Hid (Below B w u) := HBEV.out.trans (HBEL.out.trans hb6)
      have hwR : w.heap.size < R := by omega
      clear hr6 ho6 hb6 HROW HRD HRDd HBEL HSTD HBX HRBV HMDV HOTV HBEV q1
      have HREG : Hid (∀ v : World, u.heap.size ≤ v.heap.size → (∀ q, V.heap.size ≤ q → q < u.heap.size → v.heap[q]? = u.heap[q]?) → IAt v (fun b => R < b ∧ b < v.heap.size) rs ra) := fun v hvz hvs => by
        obtain ⟨a', c', e, hi⟩ := (HROWu.out.stand (w' := v) hvs).iat
        have e2 : ra = a' := by injection e
        subst e2
        exact hi.wide (fun _ _ => rfl) fun b hb => ⟨by omega, hb.2⟩
      have HMEM : Hid (∀ v : World, u.heap.size ≤ v.heap.size → (∀ q, R < q → q < O → v.heap[q]? = u.heap[q]?) → MLD v (fun b => R < b ∧ b < v.heap.size) m ⟨va, vc, aa, ac⟩) := fun v hvz hvs => HMDu.out.wide (fun b hb => hvs b hb.1 hb.2) fun b hb => ⟨hb.1, by omega⟩
      have hcap : 14 ≤ rc ∧ ∃ g, ra = some ⟨g, 0, none⟩ ∧ V.heap.size ≤ g ∧ g < u.heap.size := by
        rcases HROWu.out.2 with ⟨e1, _⟩ | ⟨g, cap, cur, e1, h1, h2, h3, _⟩
        · cases e1
        · have hj := HJ.out
          injection e1 with a1 a2 a3
          exact ⟨by omega, g, a1, h1, (Array.getElem?_eq_some_iff.1 h2).1⟩
      obtain ⟨hrc, g, rfl, hgV, hgu⟩ := hcap
      have hOl : u.heap[O]? = some (.cells #[.int .i64 pc, .slice (some ⟨g, 0, none⟩) 14 rc, .slice va nv vc, .slice aa na ac] 28 (0, 0)) := HOu.out
      have p0 : u.cell? ⟨O, 0, none⟩ = some (.int .i64 pc) := by rw [cell_at hOl]; rfl
      have p1 : u.cell? ⟨O, 1, none⟩ = some (.slice (some ⟨g, 0, none⟩) 14 rc) := by rw [cell_at hOl]; rfl
      have p2 : u.cell? ⟨O, 2, none⟩ = some (.slice va nv vc) := by rw [cell_at hOl]; rfl
      have p3 : u.cell? ⟨O, 3, none⟩ = some (.slice aa na ac) := by rw [cell_at hOl]; rfl
      have fo0 := frozen_at hOl 0
      have fo1 := frozen_at hOl 1
      have HX0 : Hid (StX B M R O w u) := StX.of (m := m) (km := ⟨va, vc, aa, ac⟩) hOl HJ.out HNV.out HNA.out HRBu.out (HREG.out u (Nat.le_refl _) fun _ _ _ => rfl) (HMEM.out u (Nat.le_refl _) fun _ _ _ => rfl) ⟨by omega, by omega, by omega⟩ HME.out ⟨by omega, by omega⟩ (HRDu.out.mono (by omega)) HOTu.out HBEu.out
      by_cases h0 : z = 0
      · subst h0
        have HLT : Hid (∀ i, i < 3 → (u.alloc (.cells #[.int .i64 (-1), .int .i64 400, .int .i64 0] 3)).cell? ⟨u.heap.size, 0 + i, none⟩ = some (.int .i64 (([-1, 400, 0] : List Int).getD i 0))) := lit_cells u [-1, 400, 0] _
        have HRa : Hid (RdU (u.alloc (.cells #[.int .i64 (-1), .int .i64 400, .int .i64 0] 3)) B (M + 29)) := HRDu.out.alloc _
        go_wp2_with fail
        refine (numU B (M + 29) u.heap.size 0 3 3 [-1, 400, 0] _ HRa.out (by omega) (by omega) rfl (by omega) (by omega) HLT.out).mono ?_
        rintro f v ⟨y, hy, rfl, hr7, ho7, hb7⟩
        have hsv : ∀ q, q < u.heap.size → q ≠ B → v.heap[q]? = u.heap[q]? := fun q hq hqB => (ho7.2 q (by simp; omega) hqB).trans (Below.heap_alloc _ _ _ hq)
        have hzv : u.heap.size + 1 ≤ v.heap.size := by have h := ho7.1; rw [World.size_alloc] at h; exact h
        have hOv := (hsv O (by omega) (by omega)).trans hOl
        have hRv := (hsv R (by omega) (by omega)).trans HRBu.out
        have hOV : (v.setCell ⟨O, 0, none⟩ (.int .i64 y)).heap[O]? = some (.cells #[.int .i64 y, .slice (some ⟨g, 0, none⟩) 14 rc, .slice va nv vc, .slice aa na ac] 28 (0, 0)) := by rw [blk_set hOv]; rfl
        have hse : ∀ q, q ≠ O → (v.setCell ⟨O, 0, none⟩ (.int .i64 y)).heap[q]? = v.heap[q]? := fun q hq => Below.heap_setCell _ _ _ _ (by simpa using hq)
        have hbs : Below O v (v.setCell ⟨O, 0, none⟩ (.int .i64 y)) := (Below.refl O v).setCell (p := ⟨O, 0, none⟩) (Nat.le_refl _) _
        have hze := hbs.size
        have HX : Hid (StX B M R O w (v.setCell ⟨O, 0, none⟩ (.int .i64 y))) := StX.of (m := m) (km := ⟨va, vc, aa, ac⟩) hOV HJ.out HNV.out HNA.out ((hse R (by omega)).trans hRv) (HREG.out _ (by omega) fun q h1 h2 => (hse q (by omega)).trans (hsv q h2 (by omega))) (HMEM.out _ (by omega) fun q h1 h2 => (hse q (by omega)).trans (hsv q (by omega) (by omega))) ⟨by omega, by omega, by omega⟩ HME.out ⟨by omega, by omega⟩ ((hr7.below hbs (by omega)).mono (by omega)) ⟨by have := HOTu.out.1; omega, fun q hq hqB => (hse q (by omega)).trans ((hsv q (by have := HOTu.out.1; omega) hqB).trans (HOTu.out.2 q hq hqB))⟩ (HBEu.out.trans (((Below.refl B u).alloc (by omega) _).trans (hb7.trans (hbs.mono (by omega)))))
        have x0 : v.cell? ⟨O, 0, none⟩ = some (.int .i64 pc) := by rw [cell_at hOv]; rfl
        have xf0 := frozen_at hOv 0
        obtain ⟨r0, hr0⟩ := cell_ex hRv 0 (by simp)
        have fr0 := frozen_at hRv 0
        have x1 : v.cell? ⟨O, 1, none⟩ = some (.slice (some ⟨g, 0, none⟩) 14 rc) := by rw [cell_at hOv]; rfl
        have xf1 := frozen_at hOv 1
        obtain ⟨r1, hr1⟩ := cell_ex hRv 1 (by simp)
        have fr1 := frozen_at hRv 1
        have x2 : v.cell? ⟨O, 2, none⟩ = some (.slice va nv vc) := by rw [cell_at hOv]; rfl
        have xf2 := frozen_at hOv 2
        obtain ⟨r2, hr2⟩ := cell_ex hRv 2 (by simp)
        have fr2 := frozen_at hRv 2
        have x3 : v.cell? ⟨O, 3, none⟩ = some (.slice aa na ac) := by rw [cell_at hOv]; rfl
        have xf3 := frozen_at hOv 3
        obtain ⟨r3, hr3⟩ := cell_ex hRv 3 (by simp)
        have fr3 := frozen_at hRv 3
        have y0 : (v.setCell ⟨O, 0, none⟩ (.int .i64 y)).cell? ⟨O, 0, none⟩ = some (.int .i64 y) := by rw [cell_at hOV]; rfl
        have y1 : (v.setCell ⟨O, 0, none⟩ (.int .i64 y)).cell? ⟨O, 1, none⟩ = some (.slice (some ⟨g, 0, none⟩) 14 rc) := by rw [cell_at hOV]; rfl
        have y2 : (v.setCell ⟨O, 0, none⟩ (.int .i64 y)).cell? ⟨O, 2, none⟩ = some (.slice va nv vc) := by rw [cell_at hOV]; rfl
        have y3 : (v.setCell ⟨O, 0, none⟩ (.int .i64 y)).cell? ⟨O, 3, none⟩ = some (.slice aa na ac) := by rw [cell_at hOV]; rfl
        have HFIN := Lib.hid (StX.fin HX.out y0 y1 y2 y3)
        clear HX y0 y1 y2 y3
        go_wp2_with fail
        exact bodyPost_ret (v := .agg #[.int .i64 y, .slice (some ⟨g, 0, none⟩) 14 rc, .slice va nv vc, .slice aa na ac]) (by simp [results, Try.f48, go_sem, hr0, hr1, hr2, hr3]) rfl HFIN.out
      by_cases h1 : z = 1
      · subst h1
        have hi13 : (13 : Int) ≤ (rc : Int) := by omega
        have hi13n : 13 ≤ rc := by omega
        have hOV : (u.setCell ⟨O, 1, none⟩ (.slice (some ⟨g, 0, none⟩) 13 rc)).heap[O]? = some (.cells #[.int .i64 pc, .slice (some ⟨g, 0, none⟩) 13 rc, .slice va nv vc, .slice aa na ac] 28 (0, 0)) := by rw [blk_set hOl]; rfl
        have hse : ∀ q, q ≠ O → (u.setCell ⟨O, 1, none⟩ (.slice (some ⟨g, 0, none⟩) 13 rc)).heap[q]? = u.heap[q]? := fun q hq => Below.heap_setCell _ _ _ _ (by simpa using hq)
        have hbs : Below O u (u.setCell ⟨O, 1, none⟩ (.slice (some ⟨g, 0, none⟩) 13 rc)) := (Below.refl O u).setCell (p := ⟨O, 1, none⟩) (Nat.le_refl _) _
        have hze := hbs.size
        have hl13 : (rs.take 13).length = 13 := by rw [List.length_take, HJ.out]; rfl
        have hreg := HREG.out _ hze fun q h1 h2 => hse q (by omega)
        have HX : Hid (StX B M R O w (u.setCell ⟨O, 1, none⟩ (.slice (some ⟨g, 0, none⟩) 13 rc))) := StX.of (rs := rs.take 13) (m := m) (km := ⟨va, vc, aa, ac⟩) hOV hl13 HNV.out HNA.out ((hse R (by omega)).trans HRBu.out) hreg.take13 (HMEM.out _ hze fun q h1 h2 => hse q (by omega)) ⟨by omega, by omega, by omega⟩ HME.out ⟨by omega, by omega⟩ ((HRDu.out.below hbs (by omega)).mono (by omega)) ⟨by have := HOTu.out.1; omega, fun q hq hqB => (hse q (by omega)).trans (HOTu.out.2 q hq hqB)⟩ (HBEu.out.trans (hbs.mono (by omega)))
        have hOv := hOl
        have hRv := HRBu.out
        clear hreg
        have x0 : u.cell? ⟨O, 0, none⟩ = some (.int .i64 pc) := by rw [cell_at hOv]; rfl
        have xf0 := frozen_at hOv 0
        obtain ⟨r0, hr0⟩ := cell_ex hRv 0 (by simp)
        have fr0 := frozen_at hRv 0
        have x1 : u.cell? ⟨O, 1, none⟩ = some (.slice (some ⟨g, 0, none⟩) 14 rc) := by rw [cell_at hOv]; rfl
        have xf1 := frozen_at hOv 1
        obtain ⟨r1, hr1⟩ := cell_ex hRv 1 (by simp)
        have fr1 := frozen_at hRv 1
        have x2 : u.cell? ⟨O, 2, none⟩ = some (.slice va nv vc) := by rw [cell_at hOv]; rfl
        have xf2 := frozen_at hOv 2
        obtain ⟨r2, hr2⟩ := cell_ex hRv 2 (by simp)
        have fr2 := frozen_at hRv 2
        have x3 : u.cell? ⟨O, 3, none⟩ = some (.slice aa na ac) := by rw [cell_at hOv]; rfl
        have xf3 := frozen_at hOv 3
        obtain ⟨r3, hr3⟩ := cell_ex hRv 3 (by simp)
        have fr3 := frozen_at hRv 3
        have y0 : (u.setCell ⟨O, 1, none⟩ (.slice (some ⟨g, 0, none⟩) 13 rc)).cell? ⟨O, 0, none⟩ = some (.int .i64 pc) := by rw [cell_at hOV]; rfl
        have y1 : (u.setCell ⟨O, 1, none⟩ (.slice (some ⟨g, 0, none⟩) 13 rc)).cell? ⟨O, 1, none⟩ = some (.slice (some ⟨g, 0, none⟩) 13 rc) := by rw [cell_at hOV]; rfl
        have y2 : (u.setCell ⟨O, 1, none⟩ (.slice (some ⟨g, 0, none⟩) 13 rc)).cell? ⟨O, 2, none⟩ = some (.slice va nv vc) := by rw [cell_at hOV]; rfl
        have y3 : (u.setCell ⟨O, 1, none⟩ (.slice (some ⟨g, 0, none⟩) 13 rc)).cell? ⟨O, 3, none⟩ = some (.slice aa na ac) := by rw [cell_at hOV]; rfl
        have HFIN := Lib.hid (StX.fin HX.out y0 y1 y2 y3)
        clear HX y0 y1 y2 y3
        go_wp2_with fail
        exact bodyPost_ret (v := .agg #[.int .i64 pc, .slice (some ⟨g, 0, none⟩) 13 rc, .slice va nv vc, .slice aa na ac]) (by simp [results, Try.f48, go_sem, hr0, hr1, hr2, hr3]) rfl HFIN.out
      by_cases h2 : z = 2
      · subst h2
        have HLT : Hid (∀ i, i < 2 → (u.alloc (.cells #[.int .i64 (-1), .int .i64 256] 3)).cell? ⟨u.heap.size, 0 + i, none⟩ = some (.int .i64 (([-1, 256] : List Int).getD i 0))) := lit_cells u [-1, 256] _
        have HLTd : Hid (∀ i, i < 2 → (u.alloc (.cells #[.int .i64 (-1), .int .i64 256] 3)).drew.cell? ⟨u.heap.size, 0 + i, none⟩ = some (.int .i64 (([-1, 256] : List Int).getD i 0))) := HLT.out
        have HRa : Hid (RdU (u.alloc (.cells #[.int .i64 (-1), .int .i64 256] 3)) B (M + 29)) := HRDu.out.alloc _
        have HRad : Hid (RdU (u.alloc (.cells #[.int .i64 (-1), .int .i64 256] 3)).drew B (M + 29)) := HRa.out.drew
        have HVO2 : Hid (u.ownsRow V.heap.size 3 1 (.slice (some ⟨g, 0, none⟩) 14 rc) 14 (rs.map (Value.int .i64))) := by have h := HROWu.out; unfold OwnI at h; rw [HJ.out] at h; exact h
        have pd1 : u.drew.cell? ⟨O, 1, none⟩ = some (.slice (some ⟨g, 0, none⟩) 14 rc) := p1
        have pa1 : (u.alloc (.cells #[.int .i64 (-1), .int .i64 256] 3)).cell? ⟨O, 1, none⟩ = some (.slice (some ⟨g, 0, none⟩) 14 rc) := (World.cell?_of_block (w := u) (a := ⟨O, 1, none⟩) (Below.heap_alloc _ _ O (by omega))).trans p1
        have pad1 : (u.alloc (.cells #[.int .i64 (-1), .int .i64 256] 3)).drew.cell? ⟨O, 1, none⟩ = some (.slice (some ⟨g, 0, none⟩) 14 rc) := pa1
        have HSTA : Hid (∀ v, Oth B (u.alloc (.cells #[.int .i64 (-1), .int .i64 256] 3)) v → ∀ q, q < u.heap.size → q ≠ B → v.heap[q]? = u.heap[q]?) := fun v hv q hq hqB => (hv.2 q (by simp; omega) hqB).trans (Below.heap_alloc _ _ _ hq)
        go_wp2_with fail
        go_region_law (first
          | (go_simp; go_at_call 80
             with_reducible refine (numU B (M + 29) u.heap.size 0 2 2 [-1, 256] _ (by first | exact HRa.out | exact HRad.out) (by omega) (by omega) rfl (by omega) (by omega) (by first | exact HLT.out | exact HLTd.out)).mono ?_
             rintro f v ⟨y, hy, rfl, hr7, ho7, hb7⟩
             have hO7 : Oth B (u.alloc (.cells #[.int .i64 (-1), .int .i64 256] 3)) v := (by first | exact ho7 | exact (Oth.refl _ _).drew.trans ho7)
             have hb7' : Below B (u.alloc (.cells #[.int .i64 (-1), .int .i64 256] 3)) v := (by first | exact hb7 | exact (Below.refl _ _).drew.trans hb7)
             have hzv : u.heap.size + 1 ≤ v.heap.size := (by have h := hO7.1; rw [World.size_alloc] at h; exact h)
             have hsv := HSTA.out v hO7
             have pv1 : v.cell? ⟨O, 1, none⟩ = some (.slice (some ⟨g, 0, none⟩) 14 rc) := (World.cell?_of_block (w := u) (a := ⟨O, 1, none⟩) (hsv O (by omega) (by omega))).trans p1
             obtain ⟨gc, hgc⟩ : ∃ c, u.cell? ⟨g, 0, none⟩ = some c := ⟨(rs.map (Value.int .i64))[0]'(by rw [List.length_map, HJ.out]; omega), by rw [HVO2.out.cellAt 0 (by omega)]; exact List.getElem?_eq_getElem _⟩
             have pg0 : v.cell? ⟨g, 0, none⟩ = some gc := (World.cell?_of_block (w := u) (a := ⟨g, 0, none⟩) (hsv g (by omega) (by omega))).trans hgc
             have fg0 : v.frozen? ⟨g, 0, none⟩ = false := (frozen_stand (hsv g (by omega) (by omega))).trans (HVO2.out.frozenAt 0))
          | fail)
        all_goals
          have hOV : (v.setCell ⟨g, 0, none⟩ (.int .i64 y)).heap[O]? = some (.cells #[.int .i64 pc, .slice (some ⟨g, 0, none⟩) 14 rc, .slice va nv vc, .slice aa na ac] 28 (0, 0)) := by
            rw [Below.heap_setCell _ _ _ _ (by simp; omega), hsv O (by omega) (by omega)]; exact HOu.out
          have hse : ∀ q, q ≠ g → (v.setCell ⟨g, 0, none⟩ (.int .i64 y)).heap[q]? = v.heap[q]? := fun q hq => Below.heap_setCell _ _ _ _ (by simpa using hq)
          have hbs : Below V.heap.size v (v.setCell ⟨g, 0, none⟩ (.int .i64 y)) := (Below.refl _ v).setCell (p := ⟨g, 0, none⟩) hgV _
          have hze := hbs.size
          have hl14 : (rs.set 0 y).length = 14 := by rw [List.length_set, HJ.out]
          have hreg : IAt (v.setCell ⟨g, 0, none⟩ (.int .i64 y)) (fun b => R < b ∧ b < (v.setCell ⟨g, 0, none⟩ (.int .i64 y)).heap.size) (rs.set 0 y) (some ⟨g, 0, none⟩) := by
            have hov : v.ownsRow V.heap.size 3 1 (.slice (some ⟨g, 0, none⟩) 14 rc) 14 (rs.map (Value.int .i64)) := by
              refine ⟨HVO2.out.1, ?_⟩
              rcases HVO2.out.2 with e | ⟨g', cp, cur, e1, e2, e3, e4⟩
              · exact .inl e
              · cases e1
                exact .inr ⟨g, _, cur, rfl, e2, (hsv g (by omega) (by omega)).trans e3, e4⟩
            have hos : OwnI (v.setCell ⟨g, 0, none⟩ (.int .i64 y)) V.heap.size (.slice (some ⟨g, 0, none⟩) 14 rc) (rs.set 0 y) := by
              unfold OwnI
              rw [hl14, List.map_set]
              exact (hov.stored 0 (.int .i64 y)).1
            obtain ⟨a', c', e, hi⟩ := hos.iat
            have e2 : (some ⟨g, 0, none⟩ : Option Addr) = a' := by injection e
            subst e2
            exact hi.wide (fun _ _ => rfl) fun b hb => ⟨by omega, hb.2⟩
          have HX : Hid (StX B M R O w (v.setCell ⟨g, 0, none⟩ (.int .i64 y))) := StX.of (rs := rs.set 0 y) (m := m) (km := ⟨va, vc, aa, ac⟩) hOV hl14 HNV.out HNA.out ((hse R (by omega)).trans ((hsv R (by omega) (by omega)).trans HRBu.out)) hreg (HMEM.out _ (by omega) fun q h1 h2 => (hse q (by omega)).trans (hsv q (by omega) (by omega))) ⟨by omega, by omega, by omega⟩ HME.out ⟨by omega, by omega⟩ ((hr7.below hbs (by omega)).mono (by omega)) ⟨by have := HOTu.out.1; omega, fun q hq hqB => (hse q (by omega)).trans ((hsv q (by have := HOTu.out.1; omega) hqB).trans (HOTu.out.2 q hq hqB))⟩ (HBEu.out.trans (((Below.refl B u).alloc (by omega) _).trans (hb7'.trans (hbs.mono (by omega)))))
          clear hreg hr7 ho7 hb7 hO7 hb7' hsv pv1 pg0 fg0 hgc HRa HRad HLT HLTd HSTA pd1 pa1 pad1 p0 p1 p2 p3
          have y0 : (v.setCell ⟨g, 0, none⟩ (.int .i64 y)).cell? ⟨O, 0, none⟩ = some (.int .i64 pc) := by rw [cell_at hOV]; rfl
          have y1 : (v.setCell ⟨g, 0, none⟩ (.int .i64 y)).cell? ⟨O, 1, none⟩ = some (.slice (some ⟨g, 0, none⟩) 14 rc) := by rw [cell_at hOV]; rfl
          have y2 : (v.setCell ⟨g, 0, none⟩ (.int .i64 y)).cell? ⟨O, 2, none⟩ = some (.slice va nv vc) := by rw [cell_at hOV]; rfl
          have y3 : (v.setCell ⟨g, 0, none⟩ (.int .i64 y)).cell? ⟨O, 3, none⟩ = some (.slice aa na ac) := by rw [cell_at hOV]; rfl
          have vrb := HX.out.rb
          obtain ⟨r0, hr0⟩ := cell_ex vrb 0 (by simp)
          have fr0 := frozen_at vrb 0
          obtain ⟨r1, hr1⟩ := cell_ex vrb 1 (by simp)
          have fr1 := frozen_at vrb 1
          obtain ⟨r2, hr2⟩ := cell_ex vrb 2 (by simp)
          have fr2 := frozen_at vrb 2
          obtain ⟨r3, hr3⟩ := cell_ex vrb 3 (by simp)
          have fr3 := frozen_at vrb 3
          have HFIN := Lib.hid (StX.fin HX.out y0 y1 y2 y3)
          clear HX vrb
          go_wp2_with fail
          exact bodyPost_ret (v := .agg #[.int .i64 pc, .slice (some ⟨g, 0, none⟩) 14 rc, .slice va nv vc, .slice aa na ac]) (by simp [results, Try.f48, go_sem, hr0, hr1, hr2, hr3]) rfl HFIN.out
      by_cases h3 : z = 3
      · subst h3
        have hML : ML u m ⟨va, vc, aa, ac⟩ := (HMEM.out u (Nat.le_refl _) fun _ _ _ => rfl).wide (fun _ _ => rfl) fun b hb => hb.2
        have HML := Lib.hid hML
        clear hML
        have HBEND : Hid (Calls Try.prog 85 #[.pointer (some ⟨B, 0, none⟩), .agg #[.slice va nv vc, .slice aa na ac]] u (BdW m B (M + 29) u)) := by
          have h := l3BendW m ⟨va, vc, aa, ac⟩ B (M + 29) u HML.out (by have := HNV.out; omega) (by have := HNA.out; omega) HME.out HRDu.out (by omega)
          have e : aggM m ⟨va, vc, aa, ac⟩ = .agg #[.slice va nv vc, .slice aa na ac] := by show Value.agg #[.slice va m.vals.length vc, .slice aa m.arrs.length ac] = _; rw [HNV.out, HNA.out]
          rw [e] at h
          exact h
        go_wp2_with fail
        refine HBEND.out.mono ?_
        rintro f v ⟨m2, k2, rfl, hm2, hn2, ha2, he2, hr7, ho7, hb7⟩
        rw [HNV.out] at hn2
        rw [HNA.out] at ha2
        have HM2 : Hid (ML v m2 k2) := hm2.wide (fun _ _ => rfl) fun b hb => hb.2
        have HE2 := Lib.hid he2
        have HR7 := Lib.hid hr7
        have hz7 := ho7.1
        have hsv7 : ∀ q, q < u.heap.size → q ≠ B → v.heap[q]? = u.heap[q]? := fun q hq hqB => ho7.2 q hq hqB
        have HB7 := Lib.hid hb7
        have HSV7 := Lib.hid hsv7
        clear hm2 he2 hr7 ho7 hb7 hsv7 HBEND HML
        go_wp2_with fail
        refine (l3BendW m2 k2 B (M + 31) v HM2.out (by omega) (by omega) HE2.out HR7.out (by omega)).mono ?_
        rintro f v2 ⟨m3, k3, rfl, hm3, hn3, ha3, he3, hr8, ho8, hb8⟩
        have hz8 := ho8.1
        have hsv : ∀ q, q < u.heap.size → q ≠ B → v2.heap[q]? = u.heap[q]? := fun q hq hqB => (ho8.2 q (by omega) hqB).trans (HSV7.out q hq hqB)
        have hOv := (hsv O (by omega) (by omega)).trans hOl
        have hRv := (hsv R (by omega) (by omega)).trans HRBu.out
        have hOV : ((v2.setCell ⟨O, 2, none⟩ (.slice k3.va m3.vals.length k3.vc)).setCell ⟨O, 3, none⟩ (.slice k3.aa m3.arrs.length k3.ac)).heap[O]? = some (.cells #[.int .i64 pc, .slice (some ⟨g, 0, none⟩) 14 rc, .slice k3.va m3.vals.length k3.vc, .slice k3.aa m3.arrs.length k3.ac] 28 (0, 0)) := by rw [blk_set (blk_set hOv _)]; rfl
        have hse : ∀ q, q ≠ O → ((v2.setCell ⟨O, 2, none⟩ (.slice k3.va m3.vals.length k3.vc)).setCell ⟨O, 3, none⟩ (.slice k3.aa m3.arrs.length k3.ac)).heap[q]? = v2.heap[q]? := fun q hq => by rw [Below.heap_setCell _ _ _ _ (by simpa using hq), Below.heap_setCell _ _ _ _ (by simpa using hq)]
        have hbs : Below O v2 ((v2.setCell ⟨O, 2, none⟩ (.slice k3.va m3.vals.length k3.vc)).setCell ⟨O, 3, none⟩ (.slice k3.aa m3.arrs.length k3.ac)) := ((Below.refl O v2).setCell (p := ⟨O, 2, none⟩) (Nat.le_refl _) _).setCell (p := ⟨O, 3, none⟩) (Nat.le_refl _) _
        have hze := hbs.size
        have HX : Hid (StX B M R O w ((v2.setCell ⟨O, 2, none⟩ (.slice k3.va m3.vals.length k3.vc)).setCell ⟨O, 3, none⟩ (.slice k3.aa m3.arrs.length k3.ac))) := StX.of (m := m3) (km := k3) hOV HJ.out rfl rfl ((hse R (by omega)).trans hRv) (HREG.out _ (by omega) fun q h1 h2 => (hse q (by omega)).trans (hsv q h2 (by omega))) (hm3.wide (fun b hb => hse b (by omega)) fun b hb => ⟨by omega, by omega⟩) ⟨by omega, by omega, by omega⟩ he3 ⟨by omega, by omega⟩ ((hr8.below hbs (by omega)).mono (by omega)) ⟨by have := HOTu.out.1; omega, fun q hq hqB => (hse q (by omega)).trans ((hsv q (by have := HOTu.out.1; omega) hqB).trans (HOTu.out.2 q hq hqB))⟩ (HBEu.out.trans (HB7.out.trans (hb8.trans (hbs.mono (by omega)))))
        clear hm3 he3 hr8 ho8 hb8
        have x0 : v2.cell? ⟨O, 0, none⟩ = some (.int .i64 pc) := by rw [cell_at hOv]; rfl
        have xf0 := frozen_at hOv 0
        obtain ⟨r0, hr0⟩ := cell_ex hRv 0 (by simp)
        have fr0 := frozen_at hRv 0
        have x1 : v2.cell? ⟨O, 1, none⟩ = some (.slice (some ⟨g, 0, none⟩) 14 rc) := by rw [cell_at hOv]; rfl
        have xf1 := frozen_at hOv 1
        obtain ⟨r1, hr1⟩ := cell_ex hRv 1 (by simp)
        have fr1 := frozen_at hRv 1
        have x2 : v2.cell? ⟨O, 2, none⟩ = some (.slice va nv vc) := by rw [cell_at hOv]; rfl
        have xf2 := frozen_at hOv 2
        obtain ⟨r2, hr2⟩ := cell_ex hRv 2 (by simp)
        have fr2 := frozen_at hRv 2
        have x3 : v2.cell? ⟨O, 3, none⟩ = some (.slice aa na ac) := by rw [cell_at hOv]; rfl
        have xf3 := frozen_at hOv 3
        obtain ⟨r3, hr3⟩ := cell_ex hRv 3 (by simp)
        have fr3 := frozen_at hRv 3
        have y0 : ((v2.setCell ⟨O, 2, none⟩ (.slice k3.va m3.vals.length k3.vc)).setCell ⟨O, 3, none⟩ (.slice k3.aa m3.arrs.length k3.ac)).cell? ⟨O, 0, none⟩ = some (.int .i64 pc) := by rw [cell_at hOV]; rfl
        have y1 : ((v2.setCell ⟨O, 2, none⟩ (.slice k3.va m3.vals.length k3.vc)).setCell ⟨O, 3, none⟩ (.slice k3.aa m3.arrs.length k3.ac)).cell? ⟨O, 1, none⟩ = some (.slice (some ⟨g, 0, none⟩) 14 rc) := by rw [cell_at hOV]; rfl
        have y2 : ((v2.setCell ⟨O, 2, none⟩ (.slice k3.va m3.vals.length k3.vc)).setCell ⟨O, 3, none⟩ (.slice k3.aa m3.arrs.length k3.ac)).cell? ⟨O, 2, none⟩ = some (.slice k3.va m3.vals.length k3.vc) := by rw [cell_at hOV]; rfl
        have y3 : ((v2.setCell ⟨O, 2, none⟩ (.slice k3.va m3.vals.length k3.vc)).setCell ⟨O, 3, none⟩ (.slice k3.aa m3.arrs.length k3.ac)).cell? ⟨O, 3, none⟩ = some (.slice k3.aa m3.arrs.length k3.ac) := by rw [cell_at hOV]; rfl
        have HFIN := Lib.hid (StX.fin HX.out y0 y1 y2 y3)
        clear HX y0 y1 y2 y3
        go_wp2_with fail
        exact bodyPost_ret (v := .agg #[.int .i64 pc, .slice (some ⟨g, 0, none⟩) 14 rc, .slice k3.va m3.vals.length k3.vc, .slice k3.aa m3.arrs.length k3.ac]) (by simp [results, Try.f48, go_sem, hr0, hr1, hr2, hr3]) rfl HFIN.out
      have d0 : (z == 0) = false := by simpa using h0
      have d1 : (z == 1) = false := by simpa using h1
      have d2 : (z == 2) = false := by simpa using h2
      have d3 : (z == 3) = false := by simpa using h3
      have HX := HX0
      have y0 : u.cell? ⟨O, 0, none⟩ = some (.int .i64 pc) := by rw [cell_at hOl]; rfl
      have y1 : u.cell? ⟨O, 1, none⟩ = some (.slice (some ⟨g, 0, none⟩) 14 rc) := by rw [cell_at hOl]; rfl
      have y2 : u.cell? ⟨O, 2, none⟩ = some (.slice va nv vc) := by rw [cell_at hOl]; rfl
      have y3 : u.cell? ⟨O, 3, none⟩ = some (.slice aa na ac) := by rw [cell_at hOl]; rfl
      have vrb := HX.out.rb
      obtain ⟨r0, hr0⟩ := cell_ex vrb 0 (by simp)
      have fr0 := frozen_at vrb 0
      obtain ⟨r1, hr1⟩ := cell_ex vrb 1 (by simp)
      have fr1 := frozen_at vrb 1
      obtain ⟨r2, hr2⟩ := cell_ex vrb 2 (by simp)
      have fr2 := frozen_at vrb 2
      obtain ⟨r3, hr3⟩ := cell_ex vrb 3 (by simp)
      have fr3 := frozen_at vrb 3
      have HFIN := Lib.hid (StX.fin HX.out y0 y1 y2 y3)
      clear HX vrb
      go_wp2_with fail
      exact bodyPost_ret (v := .agg #[.int .i64 pc, .slice (some ⟨g, 0, none⟩) 14 rc, .slice va nv vc, .slice aa na ac]) (by simp [results, Try.f48, go_sem, hr0, hr1, hr2, hr3]) rfl HFIN.out

end Go.Proofs.Ytgfagdjadmpklaa

namespace Go.Proofs.Ytgfagdjadmpklaa
open Go.RowKit
set_option linter.unusedVariables false

/-- Two states have been drawn. -/
def DrMS (w : World) (f : Ending) (w' : World) : Prop := ∃ (s t : Ms) (k l : MK), f = .returned (.tuple #[aggS4 s k, aggS4 t l]) ∧ SL w' s k ∧ SL w' t l ∧ Below w.heap.size w w'

theorem IsRow.laterM {k : IntKind} {w w' : World} {a : Option Addr} {len cap : Nat} {zs : List Int} (h : IsRow k w a len cap zs) (hb : Below w.heap.size w w') : IsRow k w' a len cap zs := by
  rcases h with h | ⟨x, rfl, hlen, hcap, hz, hc, hw⟩
  · exact .inl h
  · exact .inr ⟨x, rfl, hlen, hcap, hz, fun i hi => (World.cell?_of_block (w := w) (hb.block _ (World.block_lt_of_cell? w _ (hc i hi)))).trans (hc i hi), hw⟩
theorem codeB_len {c : Cd} (h : codeB c = true) : 1 ≤ c.list.length := by
  unfold codeB at h
  simp only [Bool.and_eq_true, decide_eq_true_iff] at h
  omega
theorem StD.sl {w : World} {D : Nat → Prop} {s : Ms} {k : MK} (h : StD w D s k) (hd : ∀ b, D b → b < w.heap.size) : SL w s k := ⟨h.1.wide (fun _ _ => rfl) hd, h.2.wide (fun _ _ => rfl) hd⟩
theorem DrMS.drew {w w' : World} {f : Ending} (h : DrMS w f w') : DrMS w f w'.drew := by
  obtain ⟨s, t, k, l, e, h1, h2, h3⟩ := h
  exact ⟨s, t, k, l, e, ⟨h1.1.wide (fun _ _ => rfl) fun _ h => h, ⟨h1.2.1.wide (fun _ _ => rfl) fun _ h => h, h1.2.2.wide (fun _ _ => rfl) fun _ h => h⟩⟩, ⟨h2.1.wide (fun _ _ => rfl) fun _ h => h, ⟨h2.2.1.wide (fun _ _ => rfl) fun _ h => h, h2.2.2.wide (fun _ _ => rfl) fun _ h => h⟩⟩, h3.drew⟩
theorem drms_fin {w u : World} {R : Nat} {s t : Ms} {k l : MK} (g1 : StD u (fun b => R + 1 < b ∧ b < u.heap.size) s k) (g2 : StD u (fun b => R + 1 < b ∧ b < u.heap.size) t l) (hb : Below w.heap.size w u) (hR : R = w.heap.size) :
    DrMS w (.returned (.tuple #[aggS4 s k, aggS4 t l])) ((((((((u.setCell ⟨R, 0, none⟩ (.int .i64 s.pc)).setCell ⟨R, 1, none⟩ (.slice k.ra s.regs.length k.rc)).setCell ⟨R, 2, none⟩ (.slice k.me.va s.mem.vals.length k.me.vc)).setCell ⟨R, 3, none⟩ (.slice k.me.aa s.mem.arrs.length k.me.ac)).setCell ⟨(R + 1), 0, none⟩ (.int .i64 t.pc)).setCell ⟨(R + 1), 1, none⟩ (.slice l.ra t.regs.length l.rc)).setCell ⟨(R + 1), 2, none⟩ (.slice l.me.va t.mem.vals.length l.me.vc)).setCell ⟨(R + 1), 3, none⟩ (.slice l.me.aa t.mem.arrs.length l.me.ac)) := by
  obtain ⟨W, hW⟩ : ∃ W, ((((((((u.setCell ⟨R, 0, none⟩ (.int .i64 s.pc)).setCell ⟨R, 1, none⟩ (.slice k.ra s.regs.length k.rc)).setCell ⟨R, 2, none⟩ (.slice k.me.va s.mem.vals.length k.me.vc)).setCell ⟨R, 3, none⟩ (.slice k.me.aa s.mem.arrs.length k.me.ac)).setCell ⟨(R + 1), 0, none⟩ (.int .i64 t.pc)).setCell ⟨(R + 1), 1, none⟩ (.slice l.ra t.regs.length l.rc)).setCell ⟨(R + 1), 2, none⟩ (.slice l.me.va t.mem.vals.length l.me.vc)).setCell ⟨(R + 1), 3, none⟩ (.slice l.me.aa t.mem.arrs.length l.me.ac)) = W := ⟨_, rfl⟩
  have hst : ∀ q, q ≠ R → q ≠ R + 1 → W.heap[q]? = u.heap[q]? := fun q h1 h2 => by
    rw [← hW, Below.heap_setCell _ _ _ _ (by simpa using h2), Below.heap_setCell _ _ _ _ (by simpa using h2), Below.heap_setCell _ _ _ _ (by simpa using h2), Below.heap_setCell _ _ _ _ (by simpa using h2), Below.heap_setCell _ _ _ _ (by simpa using h1), Below.heap_setCell _ _ _ _ (by simpa using h1), Below.heap_setCell _ _ _ _ (by simpa using h1), Below.heap_setCell _ _ _ _ (by simpa using h1)]
  have hsz : W.heap.size = u.heap.size := by rw [← hW]; simp [World.setCell]
  have h0 : w.heap.size ≤ R := by omega
  have h1 : w.heap.size ≤ R + 1 := by omega
  have hbW : Below w.heap.size u W := by
    rw [← hW]
    exact (((((((((Below.refl w.heap.size u).setCell (p := ⟨R, 0, none⟩) h0 _).setCell (p := ⟨R, 1, none⟩) h0 _).setCell (p := ⟨R, 2, none⟩) h0 _).setCell (p := ⟨R, 3, none⟩) h0 _).setCell (p := ⟨R + 1, 0, none⟩) h1 _).setCell (p := ⟨R + 1, 1, none⟩) h1 _).setCell (p := ⟨R + 1, 2, none⟩) h1 _).setCell (p := ⟨R + 1, 3, none⟩) h1 _)
  rw [hW]
  exact ⟨s, t, k, l, rfl, (g1.wide (fun b hb => hst b (by omega) (by omega)) fun b hb => (by rw [hsz]; exact hb.2 : b < W.heap.size)).sl fun b hb => hb, (g2.wide (fun b hb => hst b (by omega) (by omega)) fun b hb => (by rw [hsz]; exact hb.2 : b < W.heap.size)).sl fun b hb => hb, hb.trans hbW⟩

set_option maxRecDepth 100000 in
set_option maxHeartbeats 8000000 in
theorem drMachineSame (a : Option Addr) (len cap : Nat) (zs : List Int) (w : World) (hrow : IsRow .u8 w a len cap zs) : Calls Try.prog 11 #[.slice a len cap] w (DrMS w) := by
  obtain ⟨W0, hW0⟩ : ∃ W0, (w.alloc (.cells #[.int .i64 0, .slice none 0 0, .slice none 0 0, .slice none 0 0] 28)).alloc (.cells #[.int .i64 0, .slice none 0 0, .slice none 0 0, .slice none 0 0] 28) = W0 := ⟨_, rfl⟩
  have hz0 : W0.heap.size = w.heap.size + 2 := by rw [← hW0]; simp
  have hb0 : Below w.heap.size w W0 := by rw [← hW0]; exact ((Below.refl _ w).alloc (Nat.le_refl _) _).alloc (by simp) _
  have hr1 : W0.heap[w.heap.size]? = some (.cells #[.int .i64 0, .slice none 0 0, .slice none 0 0, .slice none 0 0] 28 (0, 0)) := by
    rw [← hW0, Below.heap_alloc _ _ _ (by simp)]; exact heap_alloc_new w _
  have hr2 : W0.heap[w.heap.size + 1]? = some (.cells #[.int .i64 0, .slice none 0 0, .slice none 0 0, .slice none 0 0] 28 (0, 0)) := by
    have e1 := heap_alloc_new (w.alloc (.cells #[.int .i64 0, .slice none 0 0, .slice none 0 0, .slice none 0 0] 28)) (.cells #[.int .i64 0, .slice none 0 0, .slice none 0 0, .slice none 0 0] 28)
    rw [World.size_alloc] at e1
    rw [← hW0]; exact e1
  have HROW : Hid (IsRow .u8 W0 a len cap zs) := hrow.laterM hb0
  have HW0 := Lib.hid hW0
  have HB0 := Lib.hid hb0
  have HR1 := Lib.hid hr1
  have HR2 := Lib.hid hr2
  clear hrow hW0 hb0 hr1 hr2
  obtain ⟨B, hB⟩ : ∃ B, W0.heap.size = B := ⟨_, rfl⟩
  go_enter Try.func11, Try.ntmps11
  go_wp2_with (first | rw [HW0.out] | fail)
  try rw [HW0.out]
  with_reducible refine (open_one a len cap zs W0 HROW.out).mono ?_
  rintro f u0 ⟨a', len', cap', rfl, hb1, hr0⟩
  have hr0' : RdU u0 W0.heap.size 0 := ⟨a', len', cap', 0, hr0, Nat.le_refl _⟩
  have hz1 := hb1.size
  have hlt0 := hr0'.lt
  rw [hB] at hr0' hb1 hz1 hlt0
  have HRD0 := Lib.hid hr0'
  have HB1 := Lib.hid hb1
  simp only [hB]
  clear hr0 hr0' hb1
  go_wp2_with fail
  refine (l6Code_one B 0 u0 HRD0.out (by omega)).mono ?_
  rintro f u1 ⟨c, kc, rfl, hcb, hl, hv, ha, _, hb2, ho2, hr2⟩
  have hl1 := codeB_len hcb
  have hz2 := ho2.1
  obtain ⟨X, hX⟩ : ∃ X, u1.heap.size = X := ⟨_, rfl⟩
  obtain ⟨W1, hW1⟩ : ∃ W1, u1.alloc (.cells #[.slice kc.va c.vars.length kc.vc, .slice kc.aa c.arrs.length kc.ac, .slice kc.la c.list.length kc.lc] 70) = W1 := ⟨_, rfl⟩
  have hzW1 : W1.heap.size = X + 1 := by rw [← hW1, ← hX]; simp
  have HCB : Hid (W1.heap[X]? = some (.cells #[.slice kc.va c.vars.length kc.vc, .slice kc.aa c.arrs.length kc.ac, .slice kc.la c.list.length kc.lc] 70 (0, 0))) := by
    have := heap_alloc_new u1 (.cells #[.slice kc.va c.vars.length kc.vc, .slice kc.aa c.arrs.length kc.ac, .slice kc.la c.list.length kc.lc] 70)
    rw [hW1, hX] at this; exact this
  have HRD1 : Hid (RdU W1 B (0 + 6000100)) := by rw [← hW1]; exact hr2.alloc _
  have HO2 : Hid (Oth B u0 W1) := by rw [← hW1]; exact ho2.alloc _
  have HB2 : Hid (Below B u0 W1) := by rw [← hW1]; exact hb2.alloc (by omega) _
  have HW1 := Lib.hid hW1
  have qc0 : W1.cell? ⟨X, 0, none⟩ = some (.slice kc.va c.vars.length kc.vc) := by rw [cell_at HCB.out]; rfl
  have qc1 : W1.cell? ⟨X, 1, none⟩ = some (.slice kc.aa c.arrs.length kc.ac) := by rw [cell_at HCB.out]; rfl
  have qc2 : W1.cell? ⟨X, 2, none⟩ = some (.slice kc.la c.list.length kc.lc) := by rw [cell_at HCB.out]; rfl
  clear hcb hb2 ho2 hr2 hW1
  try rw [hX]
  go_wp2_with (first | rw [HW1.out] | fail)
  try rw [HW1.out]
  refine (l6State_one c kc B (0 + 6000100) W1 hv ha hl1 hl HRD1.out (by omega)).mono ?_
  rintro f u2 ⟨s, ks, rfl, hs2, hss, hr3, ho3, hb3⟩
  obtain ⟨Y, hY⟩ : ∃ Y, u2.heap.size = Y := ⟨_, rfl⟩
  obtain ⟨W2, hW2⟩ : ∃ W2, u2.alloc (.cells #[.int .i64 s.pc, .slice ks.ra s.regs.length ks.rc, .slice ks.me.va s.mem.vals.length ks.me.vc, .slice ks.me.aa s.mem.arrs.length ks.me.ac] 28) = W2 := ⟨_, rfl⟩
  have hzW2 : W2.heap.size = Y + 1 := by rw [← hW2, ← hY]; simp
  have hz3 := ho3.1
  have HSB : Hid (W2.heap[Y]? = some (.cells #[.int .i64 s.pc, .slice ks.ra s.regs.length ks.rc, .slice ks.me.va s.mem.vals.length ks.me.vc, .slice ks.me.aa s.mem.arrs.length ks.me.ac] 28 (0, 0))) := by
    have := heap_alloc_new u2 (.cells #[.int .i64 s.pc, .slice ks.ra s.regs.length ks.rc, .slice ks.me.va s.mem.vals.length ks.me.vc, .slice ks.me.aa s.mem.arrs.length ks.me.ac] 28)
    rw [hW2, hY] at this; exact this
  have hal : ∀ q, q < Y → W2.heap[q]? = u2.heap[q]? := fun q hq => by rw [← hW2]; exact Below.heap_alloc _ _ _ (by omega)
  have HS2 : Hid (StD W2 (fun b => W1.heap.size ≤ b ∧ b < Y) s ks) := hs2.wide (fun b hb => hal b (by omega)) fun b hb => ⟨hb.1, by omega⟩
  have HSS := Lib.hid hss
  have HRD2 : Hid (RdU W2 B (0 + 6000100 + 100)) := by rw [← hW2]; exact hr3.alloc _
  have HO3b : Hid (∀ q, q < W1.heap.size → q ≠ B → W2.heap[q]? = W1.heap[q]?) := fun q hq hqB => (hal q (by omega)).trans (ho3.2 q hq hqB)
  have HO3 : Hid (Oth B u0 W2) := by rw [← hW2]; exact (HO2.out.trans ho3).alloc _
  have HB3 : Hid (Below B u0 W2) := by rw [← hW2]; exact (HB2.out.trans hb3).alloc (by omega) _
  have HW2 := Lib.hid hW2
  clear hs2 hss hr3 ho3 hb3 hW2 hal
  try rw [hY]
  go_wp2_with (first | rw [HW2.out] | fail)
  try rw [HW2.out]
  refine (pickU B (0 + 6000100 + 100) 3 W2 HRD2.out (by omega) (by omega) (by omega)).mono ?_
  rintro f u3 ⟨z, hzz, rfl, hr4, ho4, hb4⟩
  have hz4 := ho4.1
  have HS3 : Hid (StD u3 (fun b => W1.heap.size ≤ b ∧ b < Y) s ks) := HS2.out.wide (fun b hb => ho4.2 b (by omega) (by omega)) fun b hb => hb
  have HSB3 : Hid (u3.heap[Y]? = some (.cells #[.int .i64 s.pc, .slice ks.ra s.regs.length ks.rc, .slice ks.me.va s.mem.vals.length ks.me.vc, .slice ks.me.aa s.mem.arrs.length ks.me.ac] 28 (0, 0))) := (ho4.2 Y (by omega) (by omega)).trans HSB.out
  have HRD3 := Lib.hid hr4
  have ho4b : ∀ q, q < W1.heap.size → q ≠ B → u3.heap[q]? = W1.heap[q]? := fun q hq hqB => (ho4.2 q (by omega) hqB).trans (HO3b.out q hq hqB)
  have HO4 : Hid (Oth B u0 u3) := HO3.out.trans ho4
  have HB4 : Hid (Below B u0 u3) := HB3.out.trans hb4
  clear hr4 ho4 hb4
  have hcb3 := (ho4b X (by omega) (by omega)).trans HCB.out
  have pc0 : u3.cell? ⟨X, 0, none⟩ = some (.slice kc.va c.vars.length kc.vc) := by rw [cell_at hcb3]; rfl
  have pc1 : u3.cell? ⟨X, 1, none⟩ = some (.slice kc.aa c.arrs.length kc.ac) := by rw [cell_at hcb3]; rfl
  have pc2 : u3.cell? ⟨X, 2, none⟩ = some (.slice kc.la c.list.length kc.lc) := by rw [cell_at hcb3]; rfl
  clear ho4b hcb3
  have ps0 : u3.cell? ⟨Y, 0, none⟩ = some (.int .i64 s.pc) := by rw [cell_at HSB3.out]; rfl
  have ps1 : u3.cell? ⟨Y, 1, none⟩ = some (.slice ks.ra s.regs.length ks.rc) := by rw [cell_at HSB3.out]; rfl
  have ps2 : u3.cell? ⟨Y, 2, none⟩ = some (.slice ks.me.va s.mem.vals.length ks.me.vc) := by rw [cell_at HSB3.out]; rfl
  have ps3 : u3.cell? ⟨Y, 3, none⟩ = some (.slice ks.me.aa s.mem.arrs.length ks.me.ac) := by rw [cell_at HSB3.out]; rfl
  by_cases h0 : z = 0
  · subst h0
    have HRD3d : Hid (RdU u3.drew B (0 + 6000100 + 100 + 1)) := HRD3.out.drew
    have qd0 : u3.drew.cell? ⟨X, 0, none⟩ = some (.slice kc.va c.vars.length kc.vc) := pc0
    have qd1 : u3.drew.cell? ⟨X, 1, none⟩ = some (.slice kc.aa c.arrs.length kc.ac) := pc1
    have qd2 : u3.drew.cell? ⟨X, 2, none⟩ = some (.slice kc.la c.list.length kc.lc) := pc2
    have pd0 : u3.drew.cell? ⟨Y, 0, none⟩ = some (.int .i64 s.pc) := ps0
    have pd1 : u3.drew.cell? ⟨Y, 1, none⟩ = some (.slice ks.ra s.regs.length ks.rc) := ps1
    have pd2 : u3.drew.cell? ⟨Y, 2, none⟩ = some (.slice ks.me.va s.mem.vals.length ks.me.vc) := ps2
    have pd3 : u3.drew.cell? ⟨Y, 3, none⟩ = some (.slice ks.me.aa s.mem.arrs.length ks.me.ac) := ps3
    go_wp2_with fail
    go_region_law (first
      | (go_simp; go_at_call 48
         refine (l6State_one c kc B (0 + 6000100 + 100 + 1) _ hv ha hl1 hl (by first | exact HRD3.out | exact HRD3d.out) (by omega)).mono ?_
         rintro f u4 ⟨t, kt, rfl, ht4a, _, _, ho5a, hb5a⟩
         have ho5 : Oth B u3 u4 := (by first | exact ho5a | exact (Oth.refl _ _).drew.trans ho5a)
         have hb5 : Below B u3 u4 := (by first | exact hb5a | exact (Below.refl _ _).drew.trans hb5a)
         have ht4 : StD u4 (fun b => u3.heap.size ≤ b ∧ b < u4.heap.size) t kt := ht4a
         have hz5 := ho5.1
         have HO5 : Hid (Oth B u0 u4) := HO4.out.trans ho5
         have hsb4 := (ho5.2 Y (by omega) (by omega)).trans HSB3.out
         have pt0 : u4.cell? ⟨Y, 0, none⟩ = some (.int .i64 s.pc) := (by rw [cell_at hsb4]; rfl)
         have pt1 : u4.cell? ⟨Y, 1, none⟩ = some (.slice ks.ra s.regs.length ks.rc) := (by rw [cell_at hsb4]; rfl)
         have pt2 : u4.cell? ⟨Y, 2, none⟩ = some (.slice ks.me.va s.mem.vals.length ks.me.vc) := (by rw [cell_at hsb4]; rfl)
         have pt3 : u4.cell? ⟨Y, 3, none⟩ = some (.slice ks.me.aa s.mem.arrs.length ks.me.ac) := (by rw [cell_at hsb4]; rfl)
         have hR1 : u4.heap[w.heap.size]? = some (.cells #[.int .i64 0, .slice none 0 0, .slice none 0 0, .slice none 0 0] 28 (0, 0)) := (HO5.out.2 _ (by omega) (by omega)).trans ((HB1.out.block _ (by omega)).trans HR1.out)
         have hR2 : u4.heap[w.heap.size + 1]? = some (.cells #[.int .i64 0, .slice none 0 0, .slice none 0 0, .slice none 0 0] 28 (0, 0)) := (HO5.out.2 _ (by omega) (by omega)).trans ((HB1.out.block _ (by omega)).trans HR2.out)
         have HFIN := Lib.hid (drms_fin (R := w.heap.size) (HS3.out.wide (w' := u4) (D' := fun b => w.heap.size + 1 < b ∧ b < u4.heap.size) (fun b hb => ho5.2 b (by omega) (by omega)) fun b hb => ⟨by omega, by omega⟩) (ht4.wide (w' := u4) (D' := fun b => w.heap.size + 1 < b ∧ b < u4.heap.size) (fun b hb => rfl) fun b hb => ⟨by omega, hb.2⟩) (HB0.out.trans ((HB1.out.mono (by omega)).trans ((HB4.out.trans hb5).mono (by omega)))) rfl)
         obtain ⟨ra0, hra0⟩ := cell_ex hR1 0 (by simp)
         obtain ⟨ra1, hra1⟩ := cell_ex hR1 1 (by simp)
         obtain ⟨ra2, hra2⟩ := cell_ex hR1 2 (by simp)
         obtain ⟨ra3, hra3⟩ := cell_ex hR1 3 (by simp)
         obtain ⟨rb0, hrb0⟩ := cell_ex hR2 0 (by simp)
         obtain ⟨rb1, hrb1⟩ := cell_ex hR2 1 (by simp)
         obtain ⟨rb2, hrb2⟩ := cell_ex hR2 2 (by simp)
         obtain ⟨rb3, hrb3⟩ := cell_ex hR2 3 (by simp)
         have fa0 := frozen_at hR1 0
         have fa1 := frozen_at hR1 1
         have fa2 := frozen_at hR1 2
         have fa3 := frozen_at hR1 3
         have fb0 := frozen_at hR2 0
         have fb1 := frozen_at hR2 1
         have fb2 := frozen_at hR2 2
         have fb3 := frozen_at hR2 3)
      | fail)
    all_goals
      go_wp2_with fail
      first
      | exact bodyPost_ret (v := .tuple #[aggS4 s ks, aggS4 t kt]) (by simp [results, Try.f11, go_sem, hra0, hra1, hra2, hra3, hrb0, hrb1, hrb2, hrb3]) rfl HFIN.out
      | exact bodyPost_ret (v := .tuple #[aggS4 s ks, aggS4 t kt]) (by simp [results, Try.f11, go_sem, hra0, hra1, hra2, hra3, hrb0, hrb1, hrb2, hrb3]) rfl HFIN.out.drew
  · have hq : (z == 0) = false := by simpa using h0
    have hsl : SL u3 s ks := HS3.out.sl fun b hb => by omega
    have hsm : SSm s := by
      obtain ⟨a1, a2, a3, a4⟩ := HSS.out
      exact ⟨by omega, by omega, by omega, fun i xs hx => by have := (a4 xs (List.mem_of_getElem? hx)).2; omega⟩
    have HSL := Lib.hid hsl
    have HSM := Lib.hid hsm
    clear hsl hsm
    go_wp2_with fail
    refine (l6Copy_one s ks u3 HSL.out HSM.out).mono ?_
    rintro f u4 ⟨kt, rfl, ht4, hb5⟩
    obtain ⟨T, hT⟩ : ∃ T, u4.heap.size = T := ⟨_, rfl⟩
    obtain ⟨W4, hW4⟩ : ∃ W4, u4.alloc (.cells #[.int .i64 s.pc, .slice kt.ra s.regs.length kt.rc, .slice kt.me.va s.mem.vals.length kt.me.vc, .slice kt.me.aa s.mem.arrs.length kt.me.ac] 28) = W4 := ⟨_, rfl⟩
    have hzW4 : W4.heap.size = T + 1 := by rw [← hW4, ← hT]; simp
    have hz5 := hb5.size
    have HTB : Hid (W4.heap[T]? = some (.cells #[.int .i64 s.pc, .slice kt.ra s.regs.length kt.rc, .slice kt.me.va s.mem.vals.length kt.me.vc, .slice kt.me.aa s.mem.arrs.length kt.me.ac] 28 (0, 0))) := by
      have := heap_alloc_new u4 (.cells #[.int .i64 s.pc, .slice kt.ra s.regs.length kt.rc, .slice kt.me.va s.mem.vals.length kt.me.vc, .slice kt.me.aa s.mem.arrs.length kt.me.ac] 28)
      rw [hW4, hT] at this; exact this
    have hal : ∀ q, q < T → W4.heap[q]? = u4.heap[q]? := fun q hq => by rw [← hW4]; exact Below.heap_alloc _ _ _ (by omega)
    have hal3 : ∀ q, q < u3.heap.size → W4.heap[q]? = u3.heap[q]? := fun q hq => (hal q (by omega)).trans (hb5.block q hq)
    have HS4 : Hid (StD W4 (fun b => W1.heap.size ≤ b ∧ b < Y) s ks) := HS3.out.wide (fun b hb => hal3 b (by omega)) fun b hb => hb
    have HT4 : Hid (StD W4 (fun b => u3.heap.size ≤ b ∧ b < T) s kt) := StD.wide (w := u4) (D := fun b => u3.heap.size ≤ b ∧ b < u4.heap.size) ht4 (fun b hb => hal b (by omega)) fun b hb => ⟨hb.1, by omega⟩
    have HSB4 : Hid (W4.heap[Y]? = some (.cells #[.int .i64 s.pc, .slice ks.ra s.regs.length ks.rc, .slice ks.me.va s.mem.vals.length ks.me.vc, .slice ks.me.aa s.mem.arrs.length ks.me.ac] 28 (0, 0))) := (hal3 Y (by omega)).trans HSB3.out
    have HRD4 : Hid (RdU W4 B (0 + 6000100 + 100 + 1)) := by rw [← hW4]; exact (HRD3.out.below hb5 (by omega)).alloc _
    have HO5 : Hid (Oth B u0 W4) := ⟨by have := HO4.out.1; omega, fun q hq hqB => (hal3 q (by have := HO4.out.1; omega)).trans (HO4.out.2 q hq hqB)⟩
    have HB5 : Hid (Below B u0 W4) := by rw [← hW4]; exact (HB4.out.trans (hb5.mono (by omega))).alloc (by omega) _
    have HW4 := Lib.hid hW4
    clear ht4 hb5 hW4 hal hal3 HS3 HSB3 HRD3 HO4 HB4 HSL
    try rw [hT]
    go_wp2_with (first | rw [HW4.out] | fail)
    try rw [HW4.out]
    refine (pickU B (0 + 6000100 + 100 + 1) 2 W4 HRD4.out (by omega) (by omega) (by omega)).mono ?_
    rintro f u5 ⟨y, hyy, rfl, hr6, ho6, hb6⟩
    have hz6 := ho6.1
    have HO6 : Hid (Oth B u0 u5) := HO5.out.trans ho6
    have HB6 : Hid (Below w.heap.size w u5) := HB0.out.trans ((HB1.out.mono (by omega)).trans ((HB5.out.trans hb6).mono (by omega)))
    have hsb5 := (ho6.2 Y (by omega) (by omega)).trans HSB4.out
    have htb5 := (ho6.2 T (by omega) (by omega)).trans HTB.out
    have hs5 : StD u5 (fun b => W1.heap.size ≤ b ∧ b < Y) s ks := HS4.out.wide (fun b hb => ho6.2 b (by omega) (by omega)) fun b hb => hb
    have ht5 : StD u5 (fun b => u3.heap.size ≤ b ∧ b < T) s kt := HT4.out.wide (fun b hb => ho6.2 b (by omega) (by omega)) fun b hb => hb
    have HS5 := Lib.hid hs5
    have HT5 := Lib.hid ht5
    have fT0 := frozen_at htb5 0
    have hQ1 : u5.heap[w.heap.size]? = some (.cells #[.int .i64 0, .slice none 0 0, .slice none 0 0, .slice none 0 0] 28 (0, 0)) := (HO6.out.2 _ (by omega) (by omega)).trans ((HB1.out.block _ (by omega)).trans HR1.out)
    have hQ2 : u5.heap[w.heap.size + 1]? = some (.cells #[.int .i64 0, .slice none 0 0, .slice none 0 0, .slice none 0 0] 28 (0, 0)) := (HO6.out.2 _ (by omega) (by omega)).trans ((HB1.out.block _ (by omega)).trans HR2.out)
    clear hr6 ho6 hb6 hs5 ht5 HS4 HT4 HO5 HB5 HSB4
    by_cases hy0 : y = 0
    · subst hy0
      obtain ⟨p, hp⟩ : ∃ p, IntKind.i64.wrap (s.pc + 1) = p := ⟨_, rfl⟩
      obtain ⟨v, hv⟩ : ∃ v, u5.setCell ⟨T, 0, none⟩ (.int .i64 p) = v := ⟨_, rfl⟩
      have hse : ∀ q, q ≠ T → v.heap[q]? = u5.heap[q]? := fun q hq => by rw [← hv]; exact Below.heap_setCell _ _ _ _ (by simpa using hq)
      have hvz : v.heap.size = u5.heap.size := by rw [← hv]; simp [World.setCell]
      have hvb : Below w.heap.size w v := by rw [← hv]; exact HB6.out.setCell (p := ⟨T, 0, none⟩) (show w.heap.size ≤ T by omega) _
      have hTb : v.heap[T]? = some (.cells #[.int .i64 p, .slice kt.ra s.regs.length kt.rc, .slice kt.me.va s.mem.vals.length kt.me.vc, .slice kt.me.aa s.mem.arrs.length kt.me.ac] 28 (0, 0)) := by rw [← hv, blk_set htb5]; rfl
      have hYb := (hse Y (by omega)).trans hsb5
      have hR1 := (hse w.heap.size (by omega)).trans hQ1
      have hR2 := (hse (w.heap.size + 1) (by omega)).trans hQ2
      have ht7 : StD v (fun b => w.heap.size + 1 < b ∧ b < v.heap.size) ⟨p, s.regs, s.mem⟩ kt := StD.wide (w := u5) (D := fun b => u3.heap.size ≤ b ∧ b < T) (show StD u5 _ ⟨p, s.regs, s.mem⟩ kt from HT5.out) (fun b hb => hse b (by omega)) fun b hb => ⟨by omega, by omega⟩
      have HFIN := Lib.hid (drms_fin (R := w.heap.size) (HS5.out.wide (w' := v) (D' := fun b => w.heap.size + 1 < b ∧ b < v.heap.size) (fun b hb => hse b (by omega)) fun b hb => ⟨by omega, by omega⟩) ht7 hvb rfl)
      have HV := Lib.hid hv
      have pt0 : u5.cell? ⟨T, 0, none⟩ = some (.int .i64 s.pc) := by rw [cell_at htb5]; rfl
      clear ht7 hvb hse hv
      go_wp2_with (first | rw [HV.out] | fail)
      try rw [HV.out]
      have pu0 : v.cell? ⟨Y, 0, none⟩ = some (.int .i64 s.pc) := by rw [cell_at hYb]; rfl
      have pud0 : v.drew.cell? ⟨Y, 0, none⟩ = some (.int .i64 s.pc) := pu0
      have pu1 : v.cell? ⟨Y, 1, none⟩ = some (.slice ks.ra s.regs.length ks.rc) := by rw [cell_at hYb]; rfl
      have pud1 : v.drew.cell? ⟨Y, 1, none⟩ = some (.slice ks.ra s.regs.length ks.rc) := pu1
      have pu2 : v.cell? ⟨Y, 2, none⟩ = some (.slice ks.me.va s.mem.vals.length ks.me.vc) := by rw [cell_at hYb]; rfl
      have pud2 : v.drew.cell? ⟨Y, 2, none⟩ = some (.slice ks.me.va s.mem.vals.length ks.me.vc) := pu2
      have pu3 : v.cell? ⟨Y, 3, none⟩ = some (.slice ks.me.aa s.mem.arrs.length ks.me.ac) := by rw [cell_at hYb]; rfl
      have pud3 : v.drew.cell? ⟨Y, 3, none⟩ = some (.slice ks.me.aa s.mem.arrs.length ks.me.ac) := pu3
      have pw0 : v.cell? ⟨T, 0, none⟩ = some (.int .i64 p) := by rw [cell_at hTb]; rfl
      have pwd0 : v.drew.cell? ⟨T, 0, none⟩ = some (.int .i64 p) := pw0
      have pw1 : v.cell? ⟨T, 1, none⟩ = some (.slice kt.ra s.regs.length kt.rc) := by rw [cell_at hTb]; rfl
      have pwd1 : v.drew.cell? ⟨T, 1, none⟩ = some (.slice kt.ra s.regs.length kt.rc) := pw1
      have pw2 : v.cell? ⟨T, 2, none⟩ = some (.slice kt.me.va s.mem.vals.length kt.me.vc) := by rw [cell_at hTb]; rfl
      have pwd2 : v.drew.cell? ⟨T, 2, none⟩ = some (.slice kt.me.va s.mem.vals.length kt.me.vc) := pw2
      have pw3 : v.cell? ⟨T, 3, none⟩ = some (.slice kt.me.aa s.mem.arrs.length kt.me.ac) := by rw [cell_at hTb]; rfl
      have pwd3 : v.drew.cell? ⟨T, 3, none⟩ = some (.slice kt.me.aa s.mem.arrs.length kt.me.ac) := pw3
      obtain ⟨ra0, hra0⟩ := cell_ex hR1 0 (by simp)
      have fa0 := frozen_at hR1 0
      have hrda0 : v.drew.cell? ⟨w.heap.size, 0, none⟩ = some ra0 := hra0
      have fda0 : v.drew.frozen? ⟨w.heap.size, 0, none⟩ = false := fa0
      obtain ⟨rb0, hrb0⟩ := cell_ex hR2 0 (by simp)
      have fb0 := frozen_at hR2 0
      have hrdb0 : v.drew.cell? ⟨w.heap.size + 1, 0, none⟩ = some rb0 := hrb0
      have fdb0 : v.drew.frozen? ⟨w.heap.size + 1, 0, none⟩ = false := fb0
      obtain ⟨ra1, hra1⟩ := cell_ex hR1 1 (by simp)
      have fa1 := frozen_at hR1 1
      have hrda1 : v.drew.cell? ⟨w.heap.size, 1, none⟩ = some ra1 := hra1
      have fda1 : v.drew.frozen? ⟨w.heap.size, 1, none⟩ = false := fa1
      obtain ⟨rb1, hrb1⟩ := cell_ex hR2 1 (by simp)
      have fb1 := frozen_at hR2 1
      have hrdb1 : v.drew.cell? ⟨w.heap.size + 1, 1, none⟩ = some rb1 := hrb1
      have fdb1 : v.drew.frozen? ⟨w.heap.size + 1, 1, none⟩ = false := fb1
      obtain ⟨ra2, hra2⟩ := cell_ex hR1 2 (by simp)
      have fa2 := frozen_at hR1 2
      have hrda2 : v.drew.cell? ⟨w.heap.size, 2, none⟩ = some ra2 := hra2
      have fda2 : v.drew.frozen? ⟨w.heap.size, 2, none⟩ = false := fa2
      obtain ⟨rb2, hrb2⟩ := cell_ex hR2 2 (by simp)
      have fb2 := frozen_at hR2 2
      have hrdb2 : v.drew.cell? ⟨w.heap.size + 1, 2, none⟩ = some rb2 := hrb2
      have fdb2 : v.drew.frozen? ⟨w.heap.size + 1, 2, none⟩ = false := fb2
      obtain ⟨ra3, hra3⟩ := cell_ex hR1 3 (by simp)
      have fa3 := frozen_at hR1 3
      have hrda3 : v.drew.cell? ⟨w.heap.size, 3, none⟩ = some ra3 := hra3
      have fda3 : v.drew.frozen? ⟨w.heap.size, 3, none⟩ = false := fa3
      obtain ⟨rb3, hrb3⟩ := cell_ex hR2 3 (by simp)
      have fb3 := frozen_at hR2 3
      have hrdb3 : v.drew.cell? ⟨w.heap.size + 1, 3, none⟩ = some rb3 := hrb3
      have fdb3 : v.drew.frozen? ⟨w.heap.size + 1, 3, none⟩ = false := fb3
      clear hR1 hR2 hYb hTb
      go_region_law (fail)
      all_goals
        go_wp2_with fail
        exact bodyPost_ret (v := .tuple #[aggS4 s ks, aggS4 (⟨p, s.regs, s.mem⟩ : Ms) kt]) (by simp [results, Try.f11, go_sem, hra0, hrb0, hra1, hrb1, hra2, hrb2, hra3, hrb3]) rfl HFIN.out.drew
    · have hq2 : (y == 0) = false := by simpa using hy0
      have HFIN := Lib.hid (drms_fin (R := w.heap.size) (HS5.out.wide (w' := u5) (D' := fun b => w.heap.size + 1 < b ∧ b < u5.heap.size) (fun b hb => rfl) fun b hb => ⟨by omega, by omega⟩) (HT5.out.wide (w' := u5) (D' := fun b => w.heap.size + 1 < b ∧ b < u5.heap.size) (fun b hb => rfl) fun b hb => ⟨by omega, by omega⟩) HB6.out rfl)
      have hYb := hsb5
      have hTb := htb5
      have hR1 := hQ1
      have hR2 := hQ2
      go_wp2_with fail
      have pu0 : u5.cell? ⟨Y, 0, none⟩ = some (.int .i64 s.pc) := by rw [cell_at hYb]; rfl
      have pud0 : u5.drew.cell? ⟨Y, 0, none⟩ = some (.int .i64 s.pc) := pu0
      have pu1 : u5.cell? ⟨Y, 1, none⟩ = some (.slice ks.ra s.regs.length ks.rc) := by rw [cell_at hYb]; rfl
      have pud1 : u5.drew.cell? ⟨Y, 1, none⟩ = some (.slice ks.ra s.regs.length ks.rc) := pu1
      have pu2 : u5.cell? ⟨Y, 2, none⟩ = some (.slice ks.me.va s.mem.vals.length ks.me.vc) := by rw [cell_at hYb]; rfl
      have pud2 : u5.drew.cell? ⟨Y, 2, none⟩ = some (.slice ks.me.va s.mem.vals.length ks.me.vc) := pu2
      have pu3 : u5.cell? ⟨Y, 3, none⟩ = some (.slice ks.me.aa s.mem.arrs.length ks.me.ac) := by rw [cell_at hYb]; rfl
      have pud3 : u5.drew.cell? ⟨Y, 3, none⟩ = some (.slice ks.me.aa s.mem.arrs.length ks.me.ac) := pu3
      have pw0 : u5.cell? ⟨T, 0, none⟩ = some (.int .i64 s.pc) := by rw [cell_at hTb]; rfl
      have pwd0 : u5.drew.cell? ⟨T, 0, none⟩ = some (.int .i64 s.pc) := pw0
      have pw1 : u5.cell? ⟨T, 1, none⟩ = some (.slice kt.ra s.regs.length kt.rc) := by rw [cell_at hTb]; rfl
      have pwd1 : u5.drew.cell? ⟨T, 1, none⟩ = some (.slice kt.ra s.regs.length kt.rc) := pw1
      have pw2 : u5.cell? ⟨T, 2, none⟩ = some (.slice kt.me.va s.mem.vals.length kt.me.vc) := by rw [cell_at hTb]; rfl
      have pwd2 : u5.drew.cell? ⟨T, 2, none⟩ = some (.slice kt.me.va s.mem.vals.length kt.me.vc) := pw2
      have pw3 : u5.cell? ⟨T, 3, none⟩ = some (.slice kt.me.aa s.mem.arrs.length kt.me.ac) := by rw [cell_at hTb]; rfl
      have pwd3 : u5.drew.cell? ⟨T, 3, none⟩ = some (.slice kt.me.aa s.mem.arrs.length kt.me.ac) := pw3
      obtain ⟨ra0, hra0⟩ := cell_ex hR1 0 (by simp)
      have fa0 := frozen_at hR1 0
      have hrda0 : u5.drew.cell? ⟨w.heap.size, 0, none⟩ = some ra0 := hra0
      have fda0 : u5.drew.frozen? ⟨w.heap.size, 0, none⟩ = false := fa0
      obtain ⟨rb0, hrb0⟩ := cell_ex hR2 0 (by simp)
      have fb0 := frozen_at hR2 0
      have hrdb0 : u5.drew.cell? ⟨w.heap.size + 1, 0, none⟩ = some rb0 := hrb0
      have fdb0 : u5.drew.frozen? ⟨w.heap.size + 1, 0, none⟩ = false := fb0
      obtain ⟨ra1, hra1⟩ := cell_ex hR1 1 (by simp)
      have fa1 := frozen_at hR1 1
      have hrda1 : u5.drew.cell? ⟨w.heap.size, 1, none⟩ = some ra1 := hra1
      have fda1 : u5.drew.frozen? ⟨w.heap.size, 1, none⟩ = false := fa1
      obtain ⟨rb1, hrb1⟩ := cell_ex hR2 1 (by simp)
      have fb1 := frozen_at hR2 1
      have hrdb1 : u5.drew.cell? ⟨w.heap.size + 1, 1, none⟩ = some rb1 := hrb1
      have fdb1 : u5.drew.frozen? ⟨w.heap.size + 1, 1, none⟩ = false := fb1
      obtain ⟨ra2, hra2⟩ := cell_ex hR1 2 (by simp)
      have fa2 := frozen_at hR1 2
      have hrda2 : u5.drew.cell? ⟨w.heap.size, 2, none⟩ = some ra2 := hra2
      have fda2 : u5.drew.frozen? ⟨w.heap.size, 2, none⟩ = false := fa2
      obtain ⟨rb2, hrb2⟩ := cell_ex hR2 2 (by simp)
      have fb2 := frozen_at hR2 2
      have hrdb2 : u5.drew.cell? ⟨w.heap.size + 1, 2, none⟩ = some rb2 := hrb2
      have fdb2 : u5.drew.frozen? ⟨w.heap.size + 1, 2, none⟩ = false := fb2
      obtain ⟨ra3, hra3⟩ := cell_ex hR1 3 (by simp)
      have fa3 := frozen_at hR1 3
      have hrda3 : u5.drew.cell? ⟨w.heap.size, 3, none⟩ = some ra3 := hra3
      have fda3 : u5.drew.frozen? ⟨w.heap.size, 3, none⟩ = false := fa3
      obtain ⟨rb3, hrb3⟩ := cell_ex hR2 3 (by simp)
      have fb3 := frozen_at hR2 3
      have hrdb3 : u5.drew.cell? ⟨w.heap.size + 1, 3, none⟩ = some rb3 := hrb3
      have fdb3 : u5.drew.frozen? ⟨w.heap.size + 1, 3, none⟩ = false := fb3
      clear hR1 hR2 hYb hTb
      go_region_law (fail)
      all_goals
        go_wp2_with fail
        exact bodyPost_ret (v := .tuple #[aggS4 s ks, aggS4 s kt]) (by simp [results, Try.f11, go_sem, hra0, hrb0, hra1, hrb1, hra2, hrb2, hra3, hrb3]) rfl HFIN.out.drew

end Go.Proofs.Ytgfagdjadmpklaa

namespace Go.Proofs.Ytgfagdjadmpklaa
open Go.RowKit
set_option linter.unusedVariables false

set_option maxRecDepth 100000 in
set_option maxHeartbeats 4000000 in
theorem law_FnMachineSame (a : Option Addr) (len cap : Nat) (zs : List Int) (w : World) (hrow : IsRow .u8 w a len cap zs) :
    Calls Try.prog 3 #[.slice a len cap] w (YN true w) := by
  have HROW := Lib.hid hrow
  clear hrow
  go_enter Try.func3, Try.ntmps3
  by_cases hlen : len > 1048576
  · go_wp2_with fail
    go_ret
    exact YN.of rfl (Below.refl _ _)
  go_wp2_with fail
  with_reducible refine (drMachineSame a len cap zs w HROW.out).mono ?_
  rintro f w1 ⟨s, t, k, l, rfl, hs, ht, hb1⟩
  have H : Hid (∀ v, Below w1.heap.size w1 v → SL v s k ∧ SL v t l) := fun v hv => ⟨hs.below hv, ht.below hv⟩
  have HB := Lib.hid hb1
  clear hs ht hb1
  obtain ⟨q, hq⟩ : ∃ q, decide (s = t) = q := ⟨_, rfl⟩
  have hq' : decide (t = s) = q := by
    rw [← hq]
    by_cases h : s = t
    · rw [decide_eq_true h, decide_eq_true h.symm]
    · rw [decide_eq_false h, decide_eq_false fun e => h e.symm]
  have HQ := Lib.hid hq
  have HQ' := Lib.hid hq'
  clear hq hq'
  obtain ⟨W1, hW1⟩ : ∃ W, (w1.alloc (.cells #[.int .i64 s.pc, .slice k.ra s.regs.length k.rc, .slice k.me.va s.mem.vals.length k.me.vc, .slice k.me.aa s.mem.arrs.length k.me.ac] 28)).alloc (.cells #[.int .i64 t.pc, .slice l.ra t.regs.length l.rc, .slice l.me.va t.mem.vals.length l.me.vc, .slice l.me.aa t.mem.arrs.length l.me.ac] 28) = W := ⟨_, rfl⟩
  have hbW : Below w1.heap.size w1 W1 := by rw [← hW1]; exact ((Below.refl _ w1).alloc (Nat.le_refl _) _).alloc (by simp) _
  have hzW : W1.heap.size = w1.heap.size + 2 := by rw [← hW1]; simp
  have ea : W1.heap[w1.heap.size]? = some (.cells #[.int .i64 s.pc, .slice k.ra s.regs.length k.rc, .slice k.me.va s.mem.vals.length k.me.vc, .slice k.me.aa s.mem.arrs.length k.me.ac] 28 (0, 0)) := by
    rw [← hW1, Below.heap_alloc _ _ _ (by simp)]; exact heap_alloc_new w1 _
  have eb : W1.heap[w1.heap.size + 1]? = some (.cells #[.int .i64 t.pc, .slice l.ra t.regs.length l.rc, .slice l.me.va t.mem.vals.length l.me.vc, .slice l.me.aa t.mem.arrs.length l.me.ac] 28 (0, 0)) := by
    have e1 := heap_alloc_new (w1.alloc (.cells #[.int .i64 s.pc, .slice k.ra s.regs.length k.rc, .slice k.me.va s.mem.vals.length k.me.vc, .slice k.me.aa s.mem.arrs.length k.me.ac] 28)) (.cells #[.int .i64 t.pc, .slice l.ra t.regs.length l.rc, .slice l.me.va t.mem.vals.length l.me.vc, .slice l.me.aa t.mem.arrs.length l.me.ac] 28)
    rw [World.size_alloc] at e1
    rw [← hW1]; exact e1
  obtain ⟨X, hX⟩ : ∃ X, w1.heap.size = X := ⟨_, rfl⟩
  have HC : Hid (∀ v, Below W1.heap.size W1 v → (v.cell? ⟨X, 0, none⟩ = some (.int .i64 s.pc) ∧ v.cell? ⟨X, 1, none⟩ = some (.slice k.ra s.regs.length k.rc) ∧ v.cell? ⟨X, 2, none⟩ = some (.slice k.me.va s.mem.vals.length k.me.vc) ∧ v.cell? ⟨X, 3, none⟩ = some (.slice k.me.aa s.mem.arrs.length k.me.ac)) ∧ v.cell? ⟨(X + 1), 0, none⟩ = some (.int .i64 t.pc) ∧ v.cell? ⟨(X + 1), 1, none⟩ = some (.slice l.ra t.regs.length l.rc) ∧ v.cell? ⟨(X + 1), 2, none⟩ = some (.slice l.me.va t.mem.vals.length l.me.vc) ∧ v.cell? ⟨(X + 1), 3, none⟩ = some (.slice l.me.aa t.mem.arrs.length l.me.ac)) := fun v hv => by
    have ha := (hv.block w1.heap.size (by omega)).trans ea
    have hb := (hv.block (w1.heap.size + 1) (by omega)).trans eb
    rw [hX] at ha hb
    refine ⟨⟨?_, ?_, ?_, ?_⟩, ?_, ?_, ?_, ?_⟩ <;> first | (rw [cell_at ha]; rfl) | (rw [cell_at hb]; rfl)
  have H1 : Hid (∀ v, Below W1.heap.size W1 v → SL v s k ∧ SL v t l) := fun v hv => H.out v (hbW.trans (hv.mono (by omega)))
  have HBW : Hid (Below w.heap.size w W1) := HB.out.trans (hbW.mono HB.out.size)
  have HW1 := Lib.hid hW1
  have HB0 : Hid (Below W1.heap.size W1 W1) := Below.refl _ _
  obtain ⟨⟨p00, p01, p02, p03⟩, r00, r01, r02, r03⟩ := HC.out W1 HB0.out
  have hqq : (q == q) = true := by cases q <;> rfl
  clear hbW ea eb hW1
  go_wp2_with (first | rw [HW1.out] | fail)
  try rw [HW1.out]
  refine (iSS_one s t k l W1 (H1.out W1 HB0.out).1 (H1.out W1 HB0.out).2).mono ?_
  rintro f w2 ⟨rfl, hb2⟩
  have HB2 : Hid (Below W1.heap.size W1 w2) := hb2
  rw [HQ.out]
  clear hb2 HW1
  obtain ⟨⟨p20, p21, p22, p23⟩, r20, r21, r22, r23⟩ := HC.out w2 HB2.out
  go_wp2_with fail
  refine (sSS_one s t k l w2 (H1.out w2 HB2.out).1 (H1.out w2 HB2.out).2).mono ?_
  rintro f w3 ⟨rfl, hb3⟩
  have HB3 := Lib.hid (HB2.out.trans (hb3.mono HB2.out.size))
  rw [HQ.out]
  clear hb3 HB2
  obtain ⟨⟨p30, p31, p32, p33⟩, r30, r31, r32, r33⟩ := HC.out w3 HB3.out
  go_wp2_with fail
  refine (iSS_one t s l k w3 (H1.out w3 HB3.out).2 (H1.out w3 HB3.out).1).mono ?_
  rintro f w4 ⟨rfl, hb4⟩
  have HB4 := Lib.hid (HB3.out.trans (hb4.mono HB3.out.size))
  rw [HQ'.out]
  clear hb4 HB3
  obtain ⟨⟨p40, p41, p42, p43⟩, r40, r41, r42, r43⟩ := HC.out w4 HB4.out
  go_wp2_with fail
  refine (iSS_one s s k k w4 (H1.out w4 HB4.out).1 (H1.out w4 HB4.out).1).mono ?_
  rintro f w5 ⟨rfl, hb5⟩
  have HB5 := Lib.hid (HB4.out.trans (hb5.mono HB4.out.size))
  rw [show decide (s = s) = true from decide_eq_true rfl]
  clear hb5 HB4
  go_wp2_with fail
  go_ret
  exact YN.of rfl (HBW.out.trans (HB5.out.mono HBW.out.size))

end Go.Proofs.Ytgfagdjadmpklaa

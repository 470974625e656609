/- The size function of the exact laws on programs. -/
import Derived.Test.YtgfagdjadmpklaaSzS
import Derived.Test.YtgfagdjadmpklaaTreeP
namespace Go.Proofs.Ytgfagdjadmpklaa
open Go.RowKit
set_option linter.unusedVariables false

set_option maxHeartbeats 1000000 in
theorem szInts_one (a : Option Addr) (n cap : Nat) (left : Int) (w : World) (h0 : 0 ≤ left) (h1 : left ≤ 1048576) (hn : n ≤ maxLen) :
    Calls Try.prog 60 #[.slice a n cap, .int .i64 left] w (Sized (n ≤ 1048576) left w) := by
  unfold maxLen at hn
  by_cases hneg : left < n
  · go_enter Try.func60, Try.ntmps60
    go_wp2_with fail
    go_ret
    exact ⟨-1, rfl, by omega, fun h => absurd h (by omega), Below.refl _ _⟩
  · go_enter Try.func60, Try.ntmps60
    go_wp2_with fail
    go_ret
    exact ⟨left - n, rfl, by omega, fun _ => by omega, Below.refl _ _⟩

set_option maxHeartbeats 2000000 in
/-- **szProgram.** -/
theorem szProg_one (n : Nat) (p : Pg) (k : PC) (D : Nat → Prop) (left : Int) (w : World) (h : IsP w D n p k) (hl : ∀ k, D k → k < w.heap.size) (h0 : 0 ≤ left) (h1 : left ≤ 1048576) :
    Calls Try.prog 23 #[aggP p k, .int .i64 left] w (SizedS (cntSs p.body) (SmP 1048576 n p) left w) := by
  obtain ⟨⟨hv0, hv1, _⟩, ⟨ha0, ha1, _⟩, hb0, hb1, hbat⟩ := h
  have HBA := Lib.hid hbat
  clear hbat
  have HBX := Lib.hid (BoxP.new w p k 50)
  have HW := Lib.hid ((Below.refl w.heap.size w).alloc (Nat.le_refl _) (.cells (arrP p k) 50))
  go_enter Try.func23, Try.ntmps23
  go_wp2_with fail
  obtain ⟨W, hW⟩ : ∃ W, w.alloc (.cells (arrP p k) 50) = W := ⟨_, rfl⟩
  unfold arrP at hW
  rw [hW] at HBX HW ⊢
  clear hW
  refine (szInts_one k.va p.vars.length k.vc left W h0 h1 (Nat.le_trans hv0 hv1)).mono ?_
  rintro f w1 ⟨v1, rfl, hv1', hs1, hb1'⟩
  have HB1 := Lib.hid (HW.out.trans (hb1'.mono HW.out.size))
  have HP1 := Lib.hid hs1
  have b1 := HBX.out.below hb1' HBX.out.lt
  have q1 := b1.c1
  have BX1 := Lib.hid b1
  clear hb1' hs1 b1 HW HBX
  by_cases hn1 : v1 < 0
  · go_wp2_with fail
    go_ret
    exact SizedS.no h0 HB1.out
  go_wp2_with fail
  refine (szInts_one k.aa p.arrs.length k.ac v1 _ (by omega) (by omega) (Nat.le_trans ha0 ha1)).mono ?_
  rintro f w2 ⟨v2, rfl, hv2', hs2, hb2'⟩
  have HB2 := Lib.hid (HB1.out.trans (hb2'.mono HB1.out.size))
  have HP2 := Lib.hid hs2
  have b2 := BX1.out.below hb2' BX1.out.lt
  have q2 := b2.c2
  clear hb2' hs2 b2 HB1 BX1 q1
  by_cases hn2 : v2 < 0
  · go_wp2_with fail
    go_ret
    exact SizedS.no h0 HB2.out
  go_wp2_with fail
  refine (szStmtS_of n (szStmt_one n) p.body k.ba k.bc D v2 _ hb0 hb1 (HBA.out.later (Stand.of_below HB2.out hl)) (fun j hj => Nat.lt_of_lt_of_le (hl j hj) HB2.out.size) (by omega) (by omega)).mono ?_
  rintro f w3 ⟨v3, rfl, hv3, hs3, hb3⟩
  have HB3 := Lib.hid (HB2.out.trans (hb3.mono HB2.out.size))
  have HP3 := Lib.hid hs3
  clear hb3 hs3 HB2 HBA q2
  by_cases hn3 : v3 < 0
  · go_wp2_with fail
    go_ret
    exact SizedS.no h0 HB3.out
  have HF : Hid (SmP 1048576 n p ∧ v3 + (cntSs p.body : Nat) ≤ left) := by
    have e3 := (HP3.out (by omega)).2
    exact ⟨⟨HP1.out (by omega), HP2.out (by omega), (HP3.out (by omega)).1.1, (HP3.out (by omega)).1.2⟩, by omega⟩
  go_wp2_with fail
  go_ret
  exact ⟨v3, rfl, by omega, fun _ => HF.out, HB3.out⟩

end Go.Proofs.Ytgfagdjadmpklaa

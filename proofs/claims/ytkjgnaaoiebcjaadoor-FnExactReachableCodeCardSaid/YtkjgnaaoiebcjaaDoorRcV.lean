/- ReachableCode, the model's and the program's, walked: both hand back, in a new row, which instructions of valid code can be reached. -/
import Derived.Test.YtkjgnaaoiebcjaaDoorRcR
import Derived.Test.YtkjgnaaoiebcjaaDoorCvJ
namespace Go.Proofs.YtkjgnaaoiebcjaaDoor
open Go.RowKit
set_option linter.unusedVariables false

/-- What ReachableCode answers. -/
def ReachV (m : Cd) (bs : List Bool) : Prop := (codeB m = true → IsR m.list bs) ∧ (codeB m = false → bs = [])
theorem ReachV.uniq {m : Cd} {bs cs : List Bool} (h : ReachV m bs) (h' : ReachV m cs) : bs = cs := by
  cases hq : codeB m
  · rw [h.2 hq, h'.2 hq]
  · exact (h.1 hq).uniq (h'.1 hq)
/-- A list of bools in a new row, of which P holds. -/
def BoolsN (P : List Bool → Prop) (w : World) (e : Ending) (w' : World) : Prop := ∃ (bs : List Bool) (a : Option Addr) (n c : Nat), e = .returned (.slice a n c) ∧ bs.length = n ∧ P bs ∧ OwnB w' w.heap.size (.slice a n c) bs ∧ Below w.heap.size w w'

set_option maxRecDepth 100000 in
set_option maxHeartbeats 4000000 in
/-- **spec.ReachableCode.** -/
theorem sRC_one (m : Cd) (k : CK) (w : World) (h : CL w m k) : Calls Tryd.prog 13 #[aggC m k] w (BoolsN (ReachV m) w) := by
  obtain ⟨W, hW⟩ : ∃ W, w.alloc (.cells (arrC m k) 30) = W := ⟨_, rfl⟩
  have hB : Below w.heap.size w W := by rw [← hW]; exact (Below.refl _ w).alloc (Nat.le_refl _) _
  have hX : BoxC W w.heap.size m k := by rw [← hW]; exact BoxC.new _ _ _ _
  have H : Hid (∀ v, Below W.heap.size W v → BoxC v w.heap.size m k ∧ CL v m k) := fun v hv => ⟨hX.below hv hX.lt, (h.below hB).below hv⟩
  have c0 := hX.c0
  have c1 := hX.c1
  have c2 := hX.c2
  have HW := Lib.hid hW
  have HB := Lib.hid hB
  unfold arrC at HW
  have HV := Lib.hid (sCV_one m k W (h.below hB))
  clear h hB hX hW
  go_enter Tryd.func13, Tryd.ntmps13
  go_wp2_with (first | rw [HW.out] | fail)
  refine HV.out.mono ?_
  rintro e w2 ⟨rfl, hb2⟩
  have HB2 := Lib.hid hb2
  obtain ⟨x0, x1, x2⟩ : w2.cell? ⟨w.heap.size, 0, none⟩ = some (.slice k.va m.vars.length k.vc) ∧ w2.cell? ⟨w.heap.size, 1, none⟩ = some (.slice k.aa m.arrs.length k.ac) ∧ w2.cell? ⟨w.heap.size, 2, none⟩ = some (.slice k.la m.list.length k.lc) := by
    have b := (H.out w2 hb2).1
    exact ⟨b.c0, b.c1, b.c2⟩
  have HC2 := Lib.hid (H.out w2 hb2).2
  obtain ⟨q, hq⟩ : ∃ q, codeB m = q := ⟨_, rfl⟩
  have HQ := Lib.hid hq
  rw [hq]
  clear hb2 hq HV
  cases q
  case false =>
    have HFIN : Hid (BoolsN (ReachV m) w (.returned (.slice (some ⟨w2.heap.size, 0, none⟩) 0 0)) (w2.alloc (.cells #[] 4))) := by
      have hb : Below w.heap.size w w2 := HB.out.trans (HB2.out.mono HB.out.size)
      refine ⟨[], _, 0, 0, rfl, rfl, ⟨(fun e => (by rw [HQ.out] at e; cases e)), fun _ => rfl⟩, World.ownsRow_made w2 #[] 0 hb.size (by unfold maxLen; omega) rfl, hb.alloc hb.size _⟩
    go_wp2_with fail
    go_ret
    exact HFIN.out
  case true =>
    have HR := Lib.hid (l8Reach_one m k w2 HC2.out (codeB_ok HQ.out))
    go_wp2_with fail
    refine HR.out.mono ?_
    rintro e w3 ⟨bs, a, c, rfl, hbs, hown, hb3⟩
    have HFIN : Hid (BoolsN (ReachV m) w (.returned (.slice a bs.length c)) w3) := by
      have hb : Below w.heap.size w w2 := HB.out.trans (HB2.out.mono HB.out.size)
      exact ⟨bs, a, bs.length, c, rfl, rfl, ⟨fun _ => hbs, fun e => by rw [HQ.out] at e; cases e⟩, ownsRow_mono hown hb.size, hb.trans (hb3.mono hb.size)⟩
    clear hbs hown hb3 HR
    go_wp2_with fail
    go_ret
    exact HFIN.out

set_option maxRecDepth 100000 in
set_option maxHeartbeats 4000000 in
/-- **impl.ReachableCode.** -/
theorem iRC_one (m : Cd) (k : CK) (w : World) (h : CL w m k) (hT : TblF w) : Calls Tryd.prog 14 #[aggC m k] w (BoolsN (ReachV m) w) := by
  obtain ⟨W, hW⟩ : ∃ W, w.alloc (.cells (arrC m k) 30) = W := ⟨_, rfl⟩
  have hB : Below w.heap.size w W := by rw [← hW]; exact (Below.refl _ w).alloc (Nat.le_refl _) _
  have hX : BoxC W w.heap.size m k := by rw [← hW]; exact BoxC.new _ _ _ _
  have H : Hid (∀ v, Below W.heap.size W v → BoxC v w.heap.size m k ∧ CL v m k) := fun v hv => ⟨hX.below hv hX.lt, (h.below hB).below hv⟩
  have c0 := hX.c0
  have c1 := hX.c1
  have c2 := hX.c2
  have HW := Lib.hid hW
  have HB := Lib.hid hB
  unfold arrC at HW
  have HV := Lib.hid (iCV_one m k W (h.below hB) (hT.below hB hT.lt))
  clear h hT hB hX hW
  go_enter Tryd.func14, Tryd.ntmps14
  go_wp2_with (first | rw [HW.out] | fail)
  refine HV.out.mono ?_
  rintro e w2 ⟨rfl, hb2⟩
  have HB2 := Lib.hid hb2
  have x2 : w2.cell? ⟨w.heap.size, 2, none⟩ = some (.slice k.la m.list.length k.lc) := (H.out w2 hb2).1.c2
  have HC2 := Lib.hid (H.out w2 hb2).2
  obtain ⟨q, hq⟩ : ∃ q, codeB m = q := ⟨_, rfl⟩
  have HQ := Lib.hid hq
  rw [hq]
  clear hb2 hq HV
  cases q
  case false =>
    have HFIN : Hid (BoolsN (ReachV m) w (.returned (.slice none 0 0)) w2) := by
      have hb : Below w.heap.size w w2 := HB.out.trans (HB2.out.mono HB.out.size)
      exact ⟨[], none, 0, 0, rfl, rfl, ⟨(fun e => (by rw [HQ.out] at e; cases e)), fun _ => rfl⟩, World.ownsRow_nil _ _ _ _, hb⟩
    go_wp2_with fail
    go_ret
    exact HFIN.out
  case true =>
    have HR := Lib.hid (reached_one m.list k.la m.list.length k.lc w2 HC2.out.2.2 rfl (codeB_ok HQ.out))
    go_wp2_with fail
    refine HR.out.mono ?_
    rintro e w3 ⟨bs, rfl, hbs, hown, hb3⟩
    have HFIN : Hid (BoolsN (ReachV m) w (.returned (.slice (some ⟨w2.heap.size, 0, none⟩) m.list.length m.list.length)) w3) := by
      have hb : Below w.heap.size w w2 := HB.out.trans (HB2.out.mono HB.out.size)
      refine ⟨bs, _, m.list.length, m.list.length, rfl, hbs.1, ⟨fun _ => hbs, fun e => by rw [HQ.out] at e; cases e⟩, ?_, hb.trans (hb3.mono hb.size)⟩
      unfold OwnB
      rw [hbs.1]
      exact ownsRow_mono hown hb.size
    clear hbs hown hb3 HR
    go_wp2_with fail
    go_ret
    exact HFIN.out

end Go.Proofs.YtkjgnaaoiebcjaaDoor

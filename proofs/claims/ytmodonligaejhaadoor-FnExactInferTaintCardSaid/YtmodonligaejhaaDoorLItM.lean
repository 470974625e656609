/- Rows of bools of one's own: an outer row of slices, each an own row, apart from one another. The marks of the laws on them. -/
import Derived.Test.YtmodonligaejhaaDoorBlS
import Derived.Test.YtmodonligaejhaaDoorBb
import Derived.Test.YtmodonligaejhaaDoorTnV
import Derived.Test.YtmodonligaejhaaDoorRcN
import Derived.Test.YtmodonligaejhaaDoorAppA
import Derived.Deep.RegionWith
import Derived.Deep.RegionHeld3
import Derived.Test.YtmodonligaejhaaDoorTnO
import Derived.Test.YtmodonligaejhaaDoorProg
import Derived.WalkKit
import Derived.Conc.LoneCalls
import Derived.Conc.LoneSelect
import Derived.Test.YtmodonligaejhaaDoorTnF
import Derived.Test.YtmodonligaejhaaDoorRcI
import Derived.Test.YtmodonligaejhaaDoorTnL
import Derived.Deep.CutRange
import Derived.Test.YtmodonligaejhaaDoorInB
import Derived.Test.YtmodonligaejhaaDoorTreeS
import Derived.Test.YtmodonligaejhaaDoorSlB
import Derived.Deep.AppendLies
import Derived.Test.YtmodonligaejhaaDoorPut
import Derived.Test.YtmodonligaejhaaDoorMmB
import Derived.Test.YtmodonligaejhaaDoorCd
import Derived.Test.YtmodonligaejhaaDoorIn
import Derived.Test.YtmodonligaejhaaDoorCdE
import Derived.Test.YtmodonligaejhaaDoorCdT
namespace Go.Proofs.YtmodonligaejhaaDoor
open Go.RowKit
set_option linter.unusedVariables false

theorem OwnB.monoB {w : World} {base base' : Nat} {v : Value} {bs : List Bool} (h : OwnB w base v bs) (hb : base' ≤ base) : OwnB w base' v bs := by
  refine ⟨h.1, ?_⟩
  rcases h.2 with e | ⟨g, cp, cur, e1, e2, e3, e4⟩
  · exact .inl e
  · exact .inr ⟨g, cp, cur, e1, Nat.le_trans hb e2, e3, e4⟩

structure OwBB (w : World) (base : Nat) (rs : List (List Bool)) (a : Option Addr) (n c : Nat) (vs : List Value) : Prop where
  len : rs.length = n
  row : w.ownsRow base 63 1 (.slice a n c) n vs
  inn : ∀ (i : Nat) (r : List Bool), rs[i]? = some r → ∃ ai ci, vs[i]? = some (.slice ai r.length ci) ∧ OwnB w base (.slice ai r.length ci) r
  ap : ∀ (i : Nat) (v : Value) (g : Nat), vs[i]? = some v → v.ownBlock = some g → (Value.slice a n c).ownBlock ≠ some g
  dj : ∀ (i j : Nat) (v u : Value) (g : Nat), vs[i]? = some v → vs[j]? = some u → v.ownBlock = some g → u.ownBlock = some g → i = j
theorem OwBB.far {w w' : World} {base n c : Nat} {rs : List (List Bool)} {a : Option Addr} {vs : List Value} (h : OwBB w base rs a n c vs) (hs : ∀ g, base ≤ g → g < w.heap.size → w'.heap[g]? = w.heap[g]?) : OwBB w' base rs a n c vs :=
  ⟨h.len, ownsRow_far h.row (fun g hg hl => hs g (h.row.lt g hg).1 hl), fun i r hr => by
    obtain ⟨ai, ci, h1, h2⟩ := h.inn i r hr
    exact ⟨ai, ci, h1, h2.far fun g hg hl => hs g (h2.lt g hg).1 hl⟩, h.ap, h.dj⟩
theorem OwBB.later {w w' : World} {base n c : Nat} {rs : List (List Bool)} {a : Option Addr} {vs : List Value} (h : OwBB w base rs a n c vs) (hb : Below w.heap.size w w') : OwBB w' base rs a n c vs := h.far fun g _ hl => hb.block g hl
theorem OwBB.nil (w : World) (base : Nat) : OwBB w base [] none 0 0 [] := ⟨rfl, World.ownsRow_nil _ _ _ _, fun i r hr => by simp at hr, fun i v g hv => by simp at hv, fun i j v u g hv => by simp at hv⟩
/-- The block of the outer row. -/
theorem OwBB.at {w : World} {base n c : Nat} {rs : List (List Bool)} {a : Option Addr} {vs : List Value} (h : OwBB w base rs a n c vs) {i : Nat} {r : List Bool} (hr : rs[i]? = some r) : ∃ g ai ci, a = some ⟨g, 0, none⟩ ∧ base ≤ g ∧ g < w.heap.size ∧ vs[i]? = some (.slice ai r.length ci) ∧ w.cell? ⟨g, i, none⟩ = some (.slice ai r.length ci) ∧ OwnB w base (.slice ai r.length ci) r := by
  have hi : i < n := by rw [← h.len]; exact (List.getElem?_eq_some_iff.1 hr).1
  obtain ⟨ai, ci, h1, h2⟩ := h.inn i r hr
  have hrow := h.row
  obtain ⟨g, rfl, hg⟩ : ∃ g, a = some ⟨g, 0, none⟩ ∧ base ≤ g := by
    rcases hrow.2 with ⟨e, e2⟩ | ⟨g, cap', cur, e, hb, hg, hn', hm, hc, ht⟩
    · omega
    · injection e with e1 e2 e3
      exact ⟨g, e1, hb⟩
  have hc := hrow.cellAt i (by omega)
  rw [h1] at hc
  exact ⟨g, ai, ci, rfl, hg, (hrow.lt g rfl).2, h1, hc, h2⟩
theorem OwBB.bbs {w : World} {base n c : Nat} {rs : List (List Bool)} {a : Option Addr} {vs : List Value} (h : OwBB w base rs a n c vs) (hn : n ≤ 1048576) : BBs w (fun b => base ≤ b ∧ b < w.heap.size) rs a :=
  ⟨by rw [h.len]; unfold maxLen; omega, fun i r hr => by
    obtain ⟨g, ai, ci, rfl, h1, h2, h3, h4, h5⟩ := h.at hr
    obtain ⟨_, _, _, hbat⟩ := h5.bat
    exact ⟨g, 0, ai, ci, rfl, ⟨h1, h2⟩, by rw [Nat.zero_add]; exact h4, hbat⟩⟩
theorem OwBB.mark {w w' : World} {base n c i ci : Nat} {rs : List (List Bool)} {a ai : Option Addr} {vs : List Value} {r : List Bool} {k : Int} (h : OwBB w base rs a n c vs) (hr : rs[i]? = some r) (hv : vs[i]? = some (.slice ai r.length ci)) (hw : OwnB w' base (.slice ai r.length ci) (mkBl k r.length)) (hs : ∀ j, (Value.slice ai r.length ci).ownBlock ≠ some j → w'.heap[j]? = w.heap[j]?) : OwBB w' base (rs.set i (mkBl k r.length)) a n c vs :=
  ⟨by rw [List.length_set]; exact h.len, ownsRow_far h.row (fun g hg _ => hs g (fun e => h.ap i _ g hv e hg)), fun j s hj => by
    by_cases e : j = i
    · subst e
      rw [List.getElem?_set_self (List.getElem?_eq_some_iff.1 hr).1] at hj
      cases hj
      exact ⟨ai, ci, by rw [mkBl_len]; exact hv, by rw [mkBl_len]; exact hw⟩
    · rw [List.getElem?_set_ne (fun e2 => e e2.symm)] at hj
      obtain ⟨aj, cj, h1, h2⟩ := h.inn j s hj
      exact ⟨aj, cj, h1, h2.far fun g hg _ => hs g fun e2 => e (h.dj j i _ _ g h1 hv hg e2)⟩, h.ap, h.dj⟩

theorem OwBB.put {w w2 : World} {base n c g i l2 c2 : Nat} {rs : List (List Bool)} {a2 : Option Addr} {vs : List Value} {r2 : List Bool} (h : OwBB w base rs (some ⟨g, 0, none⟩) n c vs) (hi : i < n) (hb : Below w.heap.size w w2) (hown : OwnB w2 w.heap.size (.slice a2 l2 c2) r2) (hl : r2.length = l2) (hbase : base ≤ w.heap.size) : OwBB (w2.setCell ⟨g, i, none⟩ (.slice a2 l2 c2)) base (rs.set i r2) (some ⟨g, 0, none⟩) n c (vs.set i (.slice a2 l2 c2)) := by
  subst hl
  have h2 := h.later hb
  have hg := (h.row.lt g rfl).2
  have hvl : vs.length = n := by have := h.row.1; omega
  have hst : ∀ q, q ≠ g → (w2.setCell ⟨g, i, none⟩ (.slice a2 r2.length c2)).heap[q]? = w2.heap[q]? := fun q hq => Below.heap_setCell _ _ _ _ (by simpa using hq)
  have hold : ∀ (j : Nat) (v : Value) (q : Nat), vs[j]? = some v → v.ownBlock = some q → q < w.heap.size := fun j v q hv hq => by
    have hj : j < n := by rw [← hvl]; exact (List.getElem?_eq_some_iff.1 hv).1
    obtain ⟨ai, ci, h1, h3⟩ := h.inn j _ (List.getElem?_eq_getElem (by rw [h.len]; exact hj))
    rw [hv] at h1
    cases h1
    exact (h3.lt q hq).2
  refine ⟨by rw [List.length_set]; exact h.len, (h2.row.stored i (.slice a2 r2.length c2)).1, fun j s hj => ?_, fun j v q hv hq => ?_, fun j j' v u q hv hu hq hq' => ?_⟩
  · by_cases e : j = i
    · subst e
      rw [List.getElem?_set_self (by rw [h.len]; exact hi)] at hj
      cases hj
      refine ⟨a2, c2, List.getElem?_set_self (by rw [hvl]; exact hi), (hown.far fun q hq _ => hst q (fun e => ?_)).monoB hbase⟩
      have := (hown.lt q hq).1
      omega
    · rw [List.getElem?_set_ne (fun e2 => e e2.symm)] at hj
      obtain ⟨aj, cj, h1, h3⟩ := h2.inn j s hj
      refine ⟨aj, cj, by rw [List.getElem?_set_ne (fun e2 => e e2.symm)]; exact h1, h3.far fun q hq _ => hst q (fun e2 => ?_)⟩
      subst e2
      exact h.ap j _ q h1 hq rfl
  · by_cases e : j = i
    · subst e
      rw [List.getElem?_set_self (by rw [hvl]; exact hi)] at hv
      cases hv
      have := (hown.lt q hq).1
      intro e2
      have e3 : g = q := Option.some.inj e2
      omega
    · rw [List.getElem?_set_ne (fun e2 => e e2.symm)] at hv
      exact h.ap j v q hv hq
  · by_cases e : j = i
    · by_cases e' : j' = i
      · rw [e, e']
      · subst e
        rw [List.getElem?_set_self (by rw [hvl]; exact hi)] at hv
        cases hv
        rw [List.getElem?_set_ne (fun e2 => e' e2.symm)] at hu
        have h1 := (hown.lt q hq).1
        have h3 := hold j' u q hu hq'
        omega
    · rw [List.getElem?_set_ne (fun e2 => e e2.symm)] at hv
      by_cases e' : j' = i
      · subst e'
        rw [List.getElem?_set_self (by rw [hvl]; exact hi)] at hu
        cases hu
        have h1 := (hown.lt q hq').1
        have h3 := hold j v q hv hq
        omega
      · rw [List.getElem?_set_ne (fun e2 => e' e2.symm)] at hu
        exact h.dj j j' v u q hv hu hq hq'

/-- How many bools lie before the row. -/
def sumL (rs : List (List Bool)) : Nat → Nat
  | 0 => 0
  | j + 1 => sumL rs j + (rs.getD j []).length
theorem sumL_le {rs : List (List Bool)} (h : ∀ (i : Nat) (r : List Bool), rs[i]? = some r → r.length ≤ 14) : ∀ j, sumL rs j ≤ 14 * j
  | 0 => Nat.le_refl _
  | j + 1 => by
    have h1 := sumL_le h j
    have h2 : (rs.getD j []).length ≤ 14 := by
      rw [List.getD_eq_getElem?_getD]
      cases e : rs[j]? with
      | none => simp
      | some r => exact h j r e
    unfold sumL
    omega
theorem sumL_succ {rs : List (List Bool)} {j : Nat} {r : List Bool} (h : rs[j]? = some r) : sumL rs (j + 1) = sumL rs j + r.length := by
  show sumL rs j + (rs.getD j []).length = _
  rw [List.getD_eq_getElem?_getD, h]; rfl
/-- The first j rows hold the marks. -/
structure MkBB (k0 : Int) (rs ps : List (List Bool)) (j : Nat) : Prop where
  len : ps.length = rs.length
  same : ∀ (i : Nat) (r : List Bool), rs[i]? = some r → ∃ p, ps[i]? = some p ∧ p.length = r.length
  mkd : ∀ (i : Nat) (r : List Bool), i < j → rs[i]? = some r → ps[i]? = some (mkBl (k0 + (sumL rs i : Int)) r.length)
theorem MkBB.zero (k0 : Int) (rs : List (List Bool)) : MkBB k0 rs rs 0 := ⟨rfl, fun i r h => ⟨r, h, rfl⟩, fun i r hi => absurd hi (Nat.not_lt_zero _)⟩
theorem MkBB.succ {k0 : Int} {rs ps : List (List Bool)} {j : Nat} {r : List Bool} (h : MkBB k0 rs ps j) (hr : rs[j]? = some r) : MkBB k0 rs (ps.set j (mkBl (k0 + (sumL rs j : Int)) r.length)) (j + 1) := by
  have hj : j < ps.length := by rw [h.len]; exact (List.getElem?_eq_some_iff.1 hr).1
  refine ⟨by rw [List.length_set]; exact h.len, fun i s hs => ?_, fun i s hi hs => ?_⟩
  · by_cases e : i = j
    · subst e
      rw [hr] at hs
      cases hs
      exact ⟨_, List.getElem?_set_self hj, mkBl_len _ _⟩
    · obtain ⟨p, h1, h2⟩ := h.same i s hs
      exact ⟨p, by rw [List.getElem?_set_ne (fun e2 => e e2.symm)]; exact h1, h2⟩
  · by_cases e : i = j
    · subst e
      rw [hr] at hs
      cases hs
      exact List.getElem?_set_self hj
    · rw [List.getElem?_set_ne (fun e2 => e e2.symm)]
      exact h.mkd i s (by omega) hs
def WroteBB (w : World) (base : Nat) (rs : List (List Bool)) (a : Option Addr) (n c : Nat) (vs : List Value) (k0 : Int) (f : Ending) (w' : World) : Prop := ∃ ps, f = .returned (.int .i64 (k0 + (sumL rs n : Int))) ∧ OwBB w' base ps a n c vs ∧ MkBB k0 rs ps n ∧ Below base w w'
def MkBBL (w : World) (base : Nat) (rs : List (List Bool)) (a : Option Addr) (n c : Nat) (vs : List Value) (k0 : Int) (cv i : Value) (wr : World) : Prop := ∃ (j : Nat) (ps : List (List Bool)), j ≤ n ∧ i = .int .i64 (j : Int) ∧ cv = .int .i64 (k0 + (sumL rs j : Int)) ∧ OwBB wr base ps a n c vs ∧ MkBB k0 rs ps j ∧ Below base w wr

set_option maxRecDepth 100000 in
set_option maxHeartbeats 4000000 in
/-- **markBoolSS.** -/
theorem markBB_one (base n c : Nat) (a : Option Addr) (k0 : Int) (rs : List (List Bool)) (vs : List Value) (w : World) (h : OwBB w base rs a n c vs) (hn : n ≤ 400) (hB : ∀ (i : Nat) (r : List Bool), rs[i]? = some r → r.length ≤ 14) (h0 : 0 ≤ k0) (h1 : k0 ≤ 1000) :
    Calls Tryd.prog 22 #[.slice a n c, .int .i64 k0] w (WroteBB w base rs a n c vs k0) := by
  have HL : Hid (MkBBL w base rs a n c vs k0 (.int .i64 k0) (.int .i64 0) w) := ⟨0, rs, Nat.zero_le _, rfl, by simp [sumL], h, MkBB.zero _ _, Below.refl _ _⟩
  have HLEN : Hid (rs.length = n) := h.len
  have HB := Lib.hid hB
  clear h hB
  go_enter Tryd.func22, Tryd.ntmps22
  go_wp2_with fail
  go_loopw [1, 5] (fun cv i wr => MkBBL w base rs a n c vs k0 cv i wr) (fun _ i _ => n - (intOf i).toNat)
  case atStart => exact HL.out
  case round =>
    obtain ⟨j, ps, hj, rfl, rfl, hown, hmk, hb⟩ := hrel
    have HOWN := Lib.hid hown
    have HMK := Lib.hid hmk
    have HBE := Lib.hid hb
    clear hown hmk hb HL
    by_cases hlt : j < n
    · obtain ⟨r, hr⟩ : ∃ r, rs[j]? = some r := ⟨rs[j]'(by rw [HLEN.out]; exact hlt), List.getElem?_eq_getElem _⟩
      obtain ⟨p, hp, hpl⟩ := HMK.out.same j r hr
      obtain ⟨g, ai, ci, rfl, hg, hgs, hv, hcell, hin⟩ := HOWN.out.at hp
      have hr14 := HB.out j r hr
      have hsl := sumL_le HB.out j
      obtain ⟨pl, hpl2⟩ : ∃ pl, p.length = pl := ⟨_, rfl⟩
      rw [hpl2] at hcell
      have HMA := Lib.hid (markBS_one base pl ci ai (k0 + (sumL rs j : Int)) p wr (by rw [← hpl2]; exact hin) hpl2 (by omega) (by omega) (by omega))
      have HR := Lib.hid hr
      have HP := Lib.hid hp
      have HV := Lib.hid hv
      have HPL := Lib.hid hpl
      have HPL2 := Lib.hid hpl2
      clear hr hp hpl hpl2 hv hin
      go_wp2_with fail
      refine HMA.out.mono ?_
      rintro e w2 ⟨rfl, hw, hsz, hbe, hst⟩
      have HREL : Hid (MkBBL w base rs (some ⟨g, 0, none⟩) n c vs k0 (.int .i64 (k0 + (sumL rs j : Int) + (pl : Int))) (.int .i64 ((j : Int) + 1)) w2) := by
        have e1 : p.length = pl := HPL2.out
        have e2 : p.length = r.length := HPL.out
        subst e1
        refine ⟨j + 1, _, hlt, by go_num, ?_, HOWN.out.mark HP.out HV.out hw hst, ?_, HBE.out.trans hbe⟩
        · rw [sumL_succ HR.out, e2]
          go_num
        · rw [e2]
          exact HMK.out.succ HR.out
      clear hw hsz hbe hst HOWN HMK HBE hcell
      go_wp2_with fail
      go_roundw
      case rel => exact HREL.out
      case measure => simp [intOf]; omega
    · obtain rfl : j = n := by omega
      have HFIN : Hid (WroteBB w base rs a j c vs k0 (.returned (.int .i64 (k0 + (sumL rs j : Int)))) wr) := ⟨ps, rfl, HOWN.out, HMK.out, HBE.out⟩
      clear HOWN HMK HBE
      go_wp2_with fail
      go_ret
      exact HFIN.out

def HeldBB (rs : List (List Bool)) (n : Nat) (k0 : Int) (w : World) (f : Ending) (w' : World) : Prop := f = .returned (.int .i64 (k0 + (sumL rs n : Int))) ∧ Below w.heap.size w w'

set_option maxRecDepth 100000 in
set_option maxHeartbeats 4000000 in
/-- **heldBoolSS.** -/
theorem heldBB_one (n c : Nat) (a : Option Addr) (k0 : Int) (rs ps : List (List Bool)) (w : World) (h : BBs w (fun b => b < w.heap.size) ps a) (hm : MkBB k0 rs ps n) (hl : rs.length = n) (hn : n ≤ 400) (hB : ∀ (i : Nat) (r : List Bool), rs[i]? = some r → r.length ≤ 14) (h0 : 0 ≤ k0) (h1 : k0 ≤ 1000) :
    Calls Tryd.prog 23 #[.slice a n c, .int .i64 k0] w (HeldBB rs n k0 w) := by
  have H : Hid (∀ v, Below w.heap.size w v → BBs v (fun b => b < v.heap.size) ps a) := fun v hv => h.below hv
  have HM := Lib.hid hm
  have HLEN := Lib.hid hl
  have HB := Lib.hid hB
  clear h hm hl hB
  go_enter Tryd.func23, Tryd.ntmps23
  go_wp2_with fail
  go_loopw [1, 5] (fun cv i wr => ∃ j : Nat, j ≤ n ∧ i = .int .i64 (j : Int) ∧ cv = .int .i64 (k0 + (sumL rs j : Int)) ∧ Below w.heap.size w wr) (fun _ i _ => n - (intOf i).toNat)
  case atStart => exact ⟨0, Nat.zero_le _, rfl, by simp [sumL], Below.refl _ _⟩
  case round =>
    obtain ⟨j, hj, rfl, rfl, hb⟩ := hrel
    have HBE := Lib.hid hb
    clear hb
    by_cases hlt : j < n
    · obtain ⟨r, hr⟩ : ∃ r, rs[j]? = some r := ⟨rs[j]'(by rw [HLEN.out]; exact hlt), List.getElem?_eq_getElem _⟩
      obtain ⟨g, o, ai, ci, rfl, hg, hcell, hat⟩ := (H.out wr HBE.out).2 j _ (HM.out.mkd j r hlt hr)
      have hr14 := HB.out j r hr
      have hsl := sumL_le HB.out j
      obtain ⟨rl, hrl⟩ : ∃ rl, r.length = rl := ⟨_, rfl⟩
      have hss := sumL_succ hr
      rw [mkBl_len] at hcell
      rw [hrl] at hcell hat hr14 hss
      have HHE := Lib.hid (heldBS_one rl ci ai (k0 + (sumL rs j : Int)) wr hat (by omega) (by omega) (by omega))
      have HSS := Lib.hid hss
      clear hr hrl hat hss
      go_wp2_with fail
      refine HHE.out.mono ?_
      rintro e w2 ⟨rfl, hb2⟩
      have HREL : Hid (∃ j' : Nat, j' ≤ n ∧ Value.int .i64 ((j : Int) + 1) = .int .i64 (j' : Int) ∧ Value.int .i64 (k0 + (sumL rs j : Int) + (rl : Int)) = .int .i64 (k0 + (sumL rs j' : Int)) ∧ Below w.heap.size w w2) :=
        ⟨j + 1, hlt, by go_num, by rw [HSS.out]; go_num, HBE.out.trans (hb2.mono HBE.out.size)⟩
      clear hb2 HBE hcell
      go_wp2_with fail
      go_roundw
      case rel => exact HREL.out
      case measure => simp [intOf]; omega
    · obtain rfl : j = n := by omega
      have HFIN : Hid (HeldBB rs j k0 w (.returned (.int .i64 (k0 + (sumL rs j : Int)))) wr) := ⟨rfl, HBE.out⟩
      clear HBE
      go_wp2_with fail
      go_ret
      exact HFIN.out

end Go.Proofs.YtmodonligaejhaaDoor

namespace Go.Proofs.YtmodonligaejhaaDoor
open Go.RowKit
set_option linter.unusedVariables false

/-- A new row of the registers of m. -/
def FlgN (m : Nat) (w : World) (e : Ending) (w' : World) : Prop := ∃ a c, e = .returned (.slice a 14 c) ∧ OwnB w' w.heap.size (.slice a 14 c) ((List.range 14).map m.testBit) ∧ Below w.heap.size w w'
def FlgL (m : Nat) (w : World) (i : Value) (wr : World) : Prop := ∃ (j : Nat) (L : List Bool), j ≤ 14 ∧ i = .int .i64 (j : Int) ∧ L.length = 14 ∧ OwnB wr w.heap.size (.slice (some ⟨w.heap.size, 0, none⟩) 14 14) L ∧ (∀ q, q < j → L[q]? = some (m.testBit q)) ∧ Below w.heap.size w wr

set_option maxRecDepth 100000 in
set_option maxHeartbeats 4000000 in
/-- **flags.** -/
theorem flg_one (m : Nat) (w : World) (hm : m < 32768) :
    Calls Tryd.prog 52 #[.int .u16 (m : Int)] w (FlgN m w) := by
  obtain ⟨b0, hbi, hbz0, hbz1, hbz2⟩ := info_parts Tryd.infoB
  go_enter Tryd.func52, Tryd.ntmps52
  go_wp2_with (at_make; refine wpList_make_full _ rfl _ _ 63 rfl w.heap.size 4 b0 (.bool false) 1 Tryd.underlying63 hbi hbz0 hbz1 .i64 .i64 14 14 14 rfl rfl rfl rfl (by rw [hbz2]; omega) (by unfold maxLen; omega) (Nat.le_refl _) ?_; intro w1 hown1 hgrow1; rw [falses] at hown1)
  have HL : Hid (FlgL m w (.int .i64 0) w1) := ⟨0, List.replicate 14 false, Nat.zero_le _, rfl, by simp, by unfold OwnB; rw [List.length_replicate]; exact hown1, fun q hq => absurd hq (Nat.not_lt_zero _), (Below.refl _ w).grown hgrow1 (Nat.le_refl _) (fun k e => (by cases e))⟩
  clear hown1 hgrow1 hbi hbz0 hbz1 hbz2
  go_loopw [8] (fun i wr => FlgL m w i wr) (fun i _ => 14 - (intOf i).toNat)
  case atStart => exact HL.out
  case round =>
    obtain ⟨j, L, hj, rfl, hll, hown, hdn, hb⟩ := hrel
    have HLL := Lib.hid hll
    have HOWN := Lib.hid hown
    have HDN := Lib.hid hdn
    have HB := Lib.hid hb
    clear hll hown hdn hb HL
    by_cases hlt : j < 14
    · have hro : wr.ownsRow w.heap.size 4 1 (.slice (some ⟨w.heap.size, 0, none⟩) 14 14) 14 (L.map Value.bool) := by have h1 := HOWN.out; unfold OwnB at h1; rw [HLL.out] at h1; exact h1
      have hc := hro.cellAt j (by omega)
      obtain ⟨x, hx⟩ : ∃ x, L[j]? = some x := ⟨L[j]'(by rw [HLL.out]; exact hlt), List.getElem?_eq_getElem _⟩
      rw [List.getElem?_map, hx] at hc
      have hc' : wr.cell? ⟨w.heap.size, j, none⟩ = some (.bool x) := hc
      have hfz := hro.frozenAt j
      have hst := (hro.stored j (.bool (m.testBit j))).1
      have HREL : Hid (FlgL m w (.int .i64 ((j : Int) + 1)) (wr.setCell ⟨w.heap.size, j, none⟩ (.bool (m.testBit j)))) := by
        have hl6 : (L.set j (m.testBit j)).length = 14 := by rw [List.length_set]; exact HLL.out
        refine ⟨j + 1, _, hlt, by go_num, hl6, ?_, fun q hq => ?_, HB.out.setCell (p := ⟨w.heap.size, j, none⟩) (Nat.le_refl _) _⟩
        · unfold OwnB
          rw [hl6, List.map_set]
          exact hst
        · by_cases e : q = j
          · subst e
            exact List.getElem?_set_self (by rw [HLL.out]; exact hlt)
          · rw [List.getElem?_set_ne (fun e2 => e e2.symm)]
            exact HDN.out q (by omega)
      have HH := Lib.hid (has_one m j wr hm hlt)
      clear hro hc hx hst
      go_wp2_with fail
      refine HH.out.mono ?_
      rintro e w2 ⟨rfl, rfl⟩
      clear HH HOWN HB
      go_wp2_with fail
      go_roundw
      case rel => exact HREL.out
      case measure => simp [intOf]; omega
    · obtain rfl : j = 14 := by omega
      have HFIN : Hid (FlgN m w (.returned (.slice (some ⟨w.heap.size, 0, none⟩) 14 14)) wr) := by
        refine ⟨_, _, rfl, ?_, HB.out⟩
        have e : L = (List.range 14).map m.testBit := by
          apply List.ext_getElem?
          intro q
          by_cases hq : q < 14
          · rw [HDN.out q hq, List.getElem?_map, List.getElem?_range hq]; rfl
          · rw [List.getElem?_eq_none (by rw [HLL.out]; omega), List.getElem?_eq_none (by simp; omega)]
        rw [← e]
        exact HOWN.out
      clear HOWN HB HDN
      go_wp2_with fail
      go_ret
      exact HFIN.out

end Go.Proofs.YtmodonligaejhaaDoor

namespace Go.Proofs.YtmodonligaejhaaDoor
open Go.RowKit
set_option linter.unusedVariables false

/-- The numbers under look lie in a row of their own. -/
def NxT (w : World) (S : Nat) (na : Option Addr) (ns : List Int) (qv : Value) : Prop := ∀ (s : Nat) (z : Int), ns[s]? = some z → ∃ g, na = some ⟨g, 0, none⟩ ∧ g ≠ S ∧ g < w.heap.size ∧ qv.ownBlock ≠ some g ∧ w.cell? ⟨g, s, none⟩ = some (.int .i64 z)
theorem NxT.of_own {w3 : World} {base S nc : Nat} {na : Option Addr} {ns : List Int} {qv : Value} (h : OwnI w3 base (.slice na ns.length nc) ns) (hS : S < base) (hq : ∀ g, qv.ownBlock = some g → g < base) : NxT w3 S na ns qv := fun s z hz => by
  have hs := (List.getElem?_eq_some_iff.1 hz).1
  rcases h.2 with ⟨_, h2⟩ | ⟨g, cp, cur, e1, e2, e3, e4⟩
  · omega
  · cases e1
    refine ⟨g, rfl, by omega, (Array.getElem?_eq_some_iff.1 e3).1, fun e => by have := hq g e; omega, ?_⟩
    have h' : w3.ownsRow base 3 1 (.slice (some ⟨g, 0, none⟩) ns.length nc) ns.length (ns.map (Value.int .i64)) := h
    rw [h'.cellAt s (by omega)]
    simp [hz]

end Go.Proofs.YtmodonligaejhaaDoor

namespace Go.Proofs.YtmodonligaejhaaDoor
open Go.RowKit
set_option linter.unusedVariables false

/-- The first j registers are joined. -/
def JnTo (L : List Bool) (mk a j : Nat) : Prop := L.length = 14 ∧ ∀ i, i < 14 → L[i]? = some (if i < j then mk.testBit i || a.testBit i else mk.testBit i)
/-- One of the first j registers is new. -/
def ChTo (ch : Bool) (mk a j : Nat) : Prop := ch = true ↔ ∃ i, i < j ∧ a.testBit i = true ∧ mk.testBit i = false
theorem JnTo.zero {mk a : Nat} (h0 : mk ≠ 0) : JnTo (rowB mk) mk a 0 := ⟨rowB_len h0, fun i hi => by rw [rowB_at h0 hi, if_neg (by omega)]⟩
theorem ChTo.zero {mk a : Nat} : ChTo false mk a 0 := ⟨fun e => (by cases e), fun ⟨i, h, _⟩ => absurd h (Nat.not_lt_zero _)⟩
theorem JnTo.skip {L : List Bool} {mk a j : Nat} (h : JnTo L mk a j) (e : a.testBit j = false ∨ mk.testBit j = true) : JnTo L mk a (j + 1) := ⟨h.1, fun i hi => by
  rw [h.2 i hi]
  by_cases e1 : i = j
  · subst e1
    rw [if_neg (by omega), if_pos (by omega)]
    rcases e with e | e <;> rw [e] <;> simp
  · by_cases e2 : i < j
    · rw [if_pos e2, if_pos (by omega)]
    · rw [if_neg e2, if_neg (by omega)]⟩
theorem ChTo.skip {ch : Bool} {mk a j : Nat} (h : ChTo ch mk a j) (e : a.testBit j = false ∨ mk.testBit j = true) : ChTo ch mk a (j + 1) := h.trans ⟨fun ⟨i, h1, h2⟩ => ⟨i, by omega, h2⟩, fun ⟨i, h1, h2, h3⟩ => by
  by_cases e1 : i = j
  · subst e1
    rcases e with e | e
    · rw [h2] at e; cases e
    · rw [h3] at e; cases e
  · exact ⟨i, by omega, h2, h3⟩⟩
theorem JnTo.set {L : List Bool} {mk a j : Nat} (h : JnTo L mk a j) (hj : j < 14) (e : a.testBit j = true) : JnTo (L.set j true) mk a (j + 1) := ⟨by rw [List.length_set]; exact h.1, fun i hi => by
  by_cases e1 : i = j
  · subst e1
    rw [List.getElem?_set_self (by rw [h.1]; exact hi), if_pos (by omega), e, Bool.or_true]
  · rw [List.getElem?_set_ne (fun e' => e1 e'.symm), h.2 i hi]
    by_cases e2 : i < j
    · rw [if_pos e2, if_pos (by omega)]
    · rw [if_neg e2, if_neg (by omega)]⟩
theorem ChTo.set {ch : Bool} {mk a j : Nat} (e : a.testBit j = true) (e2 : mk.testBit j = false) : ChTo true mk a (j + 1) := ⟨fun _ => ⟨j, by omega, e, e2⟩, fun _ => rfl⟩
theorem JnTo.all {L : List Bool} {mk a : Nat} (h : JnTo L mk a 14) (h14 : a.testBit 14 = true) : L = rowB (mk ||| a) :=
  rowB_ext (bit_ne (Sub.orr mk a 14 h14)) h.1 fun i hi => by rw [h.2 i hi, if_pos hi, Nat.testBit_or]
theorem ChTo.all {ch : Bool} {mk a : Nat} (h : ChTo ch mk a 14) (ha : a < 32768) (h14 : mk.testBit 14 = true) : ch = true ↔ ¬ Sub a mk := h.trans ⟨fun ⟨i, _, h1, h2⟩ hs => (by
     have := hs i h1
     rw [h2] at this
     cases this), fun hs => Classical.byContradiction fun hn => hs fun b hb => by
    by_cases h1 : b < 14
    · cases hq : mk.testBit b
      · exact absurd ⟨b, h1, hb, hq⟩ hn
      · rfl
    · by_cases h2 : b = 14
      · rw [h2]; exact h14
      · rw [bit_lt ha (by omega)] at hb; cases hb⟩

/-- The union in a new row, and whether it is new. -/
def Joined (mk a : Nat) (w : World) (e : Ending) (w' : World) : Prop := ∃ g c ch, e = .returned (.tuple #[.slice (some ⟨g, 0, none⟩) 14 c, .bool ch]) ∧ OwnB w' w.heap.size (.slice (some ⟨g, 0, none⟩) 14 c) (rowB (mk ||| a)) ∧ (ch = true ↔ ¬ Sub a mk) ∧ (rowB (mk ||| a)).length = 14 ∧ Below w.heap.size w w'

set_option maxRecDepth 100000 in
set_option maxHeartbeats 8000000 in
/-- **spec.l9Join.** -/
theorem sJoin_one (mk a : Nat) (ra ta : Option Addr) (n rc tc : Nat) (w : World) (hr : BAt w (fun b => b < w.heap.size) (rowB mk) ra) (ht : BAt w (fun b => b < w.heap.size) (rowB a) ta) (hg : Gm mk) (ha : a < 32768) (h14 : a.testBit 14 = true) (hn : (rowB mk).length = n) :
    Calls Tryd.prog 69 #[.slice ra n rc, .slice ta 14 tc] w (Joined mk a w) := by
  obtain ⟨k0, kinf, kj0, kj1, kj2⟩ := info_parts Tryd.infoB
  obtain ⟨W2, hW2⟩ : ∃ W2, w.alloc (.cells #[] 4) = W2 := ⟨_, rfl⟩
  have hB2 : Below w.heap.size w W2 := by rw [← hW2]; exact (Below.refl _ w).alloc (Nat.le_refl _) _
  have hown : W2.ownsRow w.heap.size 4 1 (.slice (some ⟨w.heap.size, 0, none⟩) 0 0) 0 [] := by rw [← hW2]; exact World.ownsRow_made w #[] 0 (Nat.le_refl _) (by unfold maxLen; omega) rfl
  have hw2 : w.heap.size ≤ W2.heap.size := hB2.size
  have HBG : Hid (∀ w6, W2.grownBy w6 (some w.heap.size) → Below w.heap.size w w6) := fun w6 hg => hB2.grown hg (by omega) (fun q e => by cases e; exact Nat.le_refl _)
  have HW2 := Lib.hid hW2
  have h0l : 14 ≠ 0 := by omega
  by_cases h0 : mk = 0
  · subst h0
    have hn0 : n = 0 := by rw [← hn]; rfl
    subst hn0
    have hnews := NewsAt.bools (ht.wide (fun q hq => hB2.block q hq) fun _ hq => hq) (rowB_len (bit_ne h14))
    have HL : Hid (((rowB a).map Value.bool).length = 14 * 1) := by show _ = _; rw [List.length_map, rowB_len (bit_ne h14)]
    have hone := one_bools (rowB a)
    have HZ : Hid (0 ||| a = a) := Nat.zero_or a
    have HLR : Hid ((rowB a).length = 14) := rowB_len (bit_ne h14)
    have HNS : Hid (¬ Sub a 0) := fun hs => by
      have := hs 14 h14
      rw [Nat.zero_testBit] at this
      cases this
    clear hr ht hg ha h14 hn hB2 hW2
    go_enter Tryd.func69, Tryd.ntmps69
    go_wp2_with (first
      | (at_builtin
         rw [HW2.out]
         refine wpList_append_any _ (by rfl) _ _ 63 (by rfl) w.heap.size 4 k0 _ 1 1 Tryd.underlying63 kinf kj0 kj1 kj2 rfl (by omega) (.slice (some ⟨w.heap.size, 0, none⟩) 0 0) 0 _ (by rfl) hown ta 14 tc _ (by rfl) HL.out hnews hone (by unfold maxLen; omega) (by omega) hw2 ?_
         intro v' w6 hap)
      | fail)
    obtain ⟨g, c, rfl, hown6, hgr⟩ := hap.some
    have HFIN : Hid (Joined 0 a w (.returned (.tuple #[.slice (some ⟨g, 0, none⟩) 14 c, .bool true])) w6) := by
      refine ⟨g, c, true, rfl, ?_, ⟨fun _ => HNS.out, fun _ => rfl⟩, by rw [HZ.out]; exact HLR.out, HBG.out w6 hgr⟩
      rw [HZ.out]
      unfold OwnB
      rw [HLR.out]
      simpa using hown6
    clear hap hown6 hgr hnews hone hown
    go_wp2_with fail
    go_ret2
    exact HFIN.out
  · have hn14 : n = 14 := by rw [← hn, rowB_len h0]
    subst hn14
    have hnews := NewsAt.bools (hr.wide (fun q hq => hB2.block q hq) fun _ hq => hq) (rowB_len h0)
    have HL : Hid (((rowB mk).map Value.bool).length = 14 * 1) := by show _ = _; rw [List.length_map, rowB_len h0]
    have hone := one_bools (rowB mk)
    have HLR : Hid ((rowB (mk ||| a)).length = 14) := rowB_len (bit_ne (Sub.orr mk a 14 h14))
    have HM0 : Hid (JnTo (rowB mk) mk a 0) := JnTo.zero h0
    have HA := Lib.hid ha
    have HA14 := Lib.hid h14
    have HMP : Hid (mk.testBit 14 = true) := hg.pos h0
    obtain ⟨tb, tO, rfl, hta⟩ := regs_at ht (bit_ne h14)
    have HT : Hid (∀ v, Below w.heap.size w v → ∀ r, r < 14 → v.cell? ⟨tb, tO + r, none⟩ = some (.bool (a.testBit r))) := fun v hv r hr' => by
      obtain ⟨b', o', e', hb', hc'⟩ := ht.2 r _ (rowB_at (bit_ne h14) hr')
      cases e'
      exact (hv.cell (p := ⟨tb, tO + r, none⟩) hb').trans hc'
    clear hr ht hg ha h14 hn hB2 hW2 h0 hta
    go_enter Tryd.func69, Tryd.ntmps69
    go_wp2_with (first
      | (at_builtin
         rw [HW2.out]
         refine wpList_append_any _ (by rfl) _ _ 63 (by rfl) w.heap.size 4 k0 _ 1 1 Tryd.underlying63 kinf kj0 kj1 kj2 rfl (by omega) (.slice (some ⟨w.heap.size, 0, none⟩) 0 0) 0 _ (by rfl) hown ra 14 rc _ (by rfl) HL.out hnews hone (by unfold maxLen; omega) (by omega) hw2 ?_
         intro v' w6 hap)
      | fail)
    obtain ⟨g, c, rfl, hown6, hgr⟩ := hap.some
    have HB6 := Lib.hid (HBG.out w6 hgr)
    have HO6 : Hid (w6.ownsRow w.heap.size 4 1 (.slice (some ⟨g, 0, none⟩) 14 c) 14 ((rowB mk).map Value.bool)) := by show World.ownsRow _ _ _ _ _ _ _; simpa using hown6
    clear hap hown6 hgr hnews hone hown HW2 HBG HL hw2
    go_loopw [7, 8] (fun ch i wr => ∃ (j : Nat) (b : Bool) (L : List Bool), j ≤ 14 ∧ i = .int .i64 j ∧ ch = .bool b ∧ Hid (JnTo L mk a j) ∧ Hid (ChTo b mk a j) ∧ Hid (wr.ownsRow w.heap.size 4 1 (.slice (some ⟨g, 0, none⟩) 14 c) 14 (L.map Value.bool)) ∧ Hid (Below w.heap.size w wr)) (fun _ i _ => 14 - (intOf i).toNat)
    case atStart => exact ⟨0, false, _, Nat.zero_le _, rfl, rfl, HM0, (ChTo.zero : ChTo false mk a 0), HO6, HB6⟩
    case round =>
      obtain ⟨j, b, L, hj, rfl, rfl, HJ, HC, HO, HB⟩ := hrel
      clear HO6 HB6
      by_cases hlt : j < 14
      · have y0 := HT.out _ HB.out j hlt
        have hjI : (j : Int) < 14 := by omega
        have y1 : wr.cell? ⟨g, j, none⟩ = some (.bool (mk.testBit j)) := by
          rw [HO.out.cellAt j (by omega), List.getElem?_map, HJ.out.2 j hlt, if_neg (by omega)]; rfl
        have f1 := HO.out.frozenAt j
        obtain ⟨p, hp⟩ : ∃ p, a.testBit j = p := ⟨_, rfl⟩
        obtain ⟨q, hq⟩ : ∃ q, mk.testBit j = q := ⟨_, rfl⟩
        have HP := Lib.hid hp
        have HQ := Lib.hid hq
        rw [hp] at y0
        rw [hq] at y1
        clear hp hq HT
        by_cases hpq : p = true ∧ q = false
        · obtain ⟨rfl, rfl⟩ := hpq
          have hst := (HO.out.stored j (.bool true)).1
          rw [← List.map_set] at hst
          have HJ2 := Lib.hid (HJ.out.set hlt HP.out)
          have HC2 : Hid (ChTo true mk a (j + 1)) := ChTo.set (ch := true) HP.out HQ.out
          have HO2 := Lib.hid hst
          have HB2 : Hid (Below w.heap.size w (wr.setCell ⟨g, j, none⟩ (.bool true))) := HB.out.setCell (p := ⟨g, j, none⟩) (HO.out.lt g rfl).1 _
          clear hst HJ HC HO HB
          go_wp2_with fail
          go_roundw
          case rel => exact ⟨j + 1, true, _, by omega, by go_num, rfl, HJ2, HC2, HO2, HB2⟩
          case measure => simp [intOf]; omega
        · have hs : a.testBit j = false ∨ mk.testBit j = true := by
            rw [HP.out, HQ.out]
            cases p <;> cases q <;> simp_all
          have HJ2 := Lib.hid (HJ.out.skip hs)
          have HC2 := Lib.hid (HC.out.skip hs)
          clear HJ HC hs
          cases p
          case false =>
            clear hpq
            go_wp2_with fail
            go_roundw
            case rel => exact ⟨j + 1, b, _, by omega, by go_num, rfl, HJ2, HC2, HO, HB⟩
            case measure => simp [intOf]; omega
          case true =>
            have hq1 : q = true := by cases q <;> simp_all
            subst hq1
            clear hpq
            go_wp2_with fail
            go_roundw
            case rel => exact ⟨j + 1, b, _, by omega, by go_num, rfl, HJ2, HC2, HO, HB⟩
            case measure => simp [intOf]; omega
      · obtain rfl : j = 14 := by omega
        have HFIN : Hid (Joined mk a w (.returned (.tuple #[.slice (some ⟨g, 0, none⟩) 14 c, .bool b])) wr) := by
          refine ⟨g, c, b, rfl, ?_, HC.out.all HA.out HMP.out, HLR.out, HB.out⟩
          have e := HJ.out.all HA14.out
          rw [← e]
          unfold OwnB
          rw [HJ.out.1]
          exact HO.out
        clear HJ HC HO HB HT
        go_wp2_with fail
        go_ret2
        exact HFIN.out

/-- Blocks of the call's own behind the map's row, but not the queue's. -/
def Frm (S : Nat) (w : World) (qv : Value) (b : Nat) : Prop := S < b ∧ b < w.heap.size ∧ qv.ownBlock ≠ some b
/-- The rows of the search: the map, the queue. -/
structure TnS (W : World) (S n : Nat) (rs q : List Nat) (qv : Value) (w : World) : Prop where
  row : ∃ L, w.ownsRow S 63 1 (.slice (some ⟨S, 0, none⟩) n n) n L ∧ ∀ (i m : Nat), rs[i]? = some m → ∃ ra rc, L[i]? = some (.slice ra (rowB m).length rc) ∧ BAt w (Frm S w qv) (rowB m) ra
  q : w.ownsRow (S + 1) 3 1 qv q.length ((natI q).map (Value.int .i64))
  bel : Below S W w
  lt : S < w.heap.size
theorem TnS.later {W : World} {S n : Nat} {rs q : List Nat} {qv : Value} {w w' : World} (h : TnS W S n rs q qv w) (hb : Below w.heap.size w w') : TnS W S n rs q qv w' := by
  have hg : w.grownBy w' none := ⟨hb.os, hb.tape, hb.output, hb.size, fun k hk _ => hb.block k hk⟩
  obtain ⟨L, h1, h2⟩ := h.row
  exact ⟨⟨L, h1.kept hg (.inr (by simp [Value.ownBlock])), fun i m hm => by
    obtain ⟨ra, rc, e1, e2⟩ := h2 i m hm
    exact ⟨ra, rc, e1, e2.wide (fun k hk => hb.block k hk.2.1) fun k hk => ⟨hk.1, Nat.lt_of_lt_of_le hk.2.1 hb.size, hk.2.2⟩⟩⟩, h.q.kept hg (by cases e : qv.ownBlock <;> simp), h.bel.trans (hb.mono (Nat.le_of_lt h.lt)), Nat.lt_of_lt_of_le h.lt hb.size⟩
theorem TnS.at {W : World} {S n : Nat} {rs q : List Nat} {qv : Value} {w : World} (h : TnS W S n rs q qv w) {i m : Nat} (hm : rs[i]? = some m) (hi : i < n) : ∃ ra rc, w.cell? ⟨S, i, none⟩ = some (.slice ra (rowB m).length rc) ∧ BAt w (Frm S w qv) (rowB m) ra ∧ w.frozen? ⟨S, i, none⟩ = false := by
  obtain ⟨L, h1, h2⟩ := h.row
  obtain ⟨ra, rc, e1, e2⟩ := h2 i m hm
  refine ⟨ra, rc, ?_, e2, h1.frozenAt i⟩
  rw [h1.cellAt i (by omega), e1]
theorem TnS.qat {W : World} {S n : Nat} {rs q : List Nat} {qa : Option Addr} {qn qc : Nat} {w : World} (h : TnS W S n rs q (.slice qa qn qc) w) {t p : Nat} (hp : q[t]? = some p) : ∃ g, qa = some ⟨g, 0, none⟩ ∧ S < g ∧ g < w.heap.size ∧ w.cell? ⟨g, t, none⟩ = some (.int .i64 (p : Int)) := by
  have ht := (List.getElem?_eq_some_iff.1 hp).1
  rcases h.q.2 with ⟨_, h2⟩ | ⟨g, cp, cur, e1, e2, e3, e4⟩
  · omega
  · cases e1
    refine ⟨g, rfl, e2, (Array.getElem?_eq_some_iff.1 e3).1, ?_⟩
    rw [h.q.cellAt t (by omega)]
    simp [natI, hp]
/-- A row is put into the map. -/
theorem TnS.put {W : World} {S n : Nat} {rs q : List Nat} {qv : Value} {w : World} (h : TnS W S n rs q qv w) {j m' : Nat} {ra : Option Addr} {rc : Nat} (hj : j < n) (hb : BAt w (Frm S w qv) (rowB m') ra) (hl : (rowB m').length = 14) : TnS W S n (rs.set j m') q qv (w.setCell ⟨S, j, none⟩ (.slice ra 14 rc)) := by
  obtain ⟨L, h1, h2⟩ := h.row
  have hst : ∀ b, b ≠ S → (w.setCell ⟨S, j, none⟩ (.slice ra 14 rc)).heap[b]? = w.heap[b]? := fun b hb => Below.heap_setCell _ _ _ _ (by simpa using hb)
  have hz : (w.setCell ⟨S, j, none⟩ (.slice ra 14 rc)).heap.size = w.heap.size := by simp [World.setCell]
  have hwd : ∀ {r : List Bool} {A : Option Addr}, BAt w (Frm S w qv) r A → BAt (w.setCell ⟨S, j, none⟩ (.slice ra 14 rc)) (Frm S (w.setCell ⟨S, j, none⟩ (.slice ra 14 rc)) qv) r A := fun hq => hq.wide (fun k hk => hst k (by have := hk.1; omega)) fun k hk => ⟨hk.1, by rw [hz]; exact hk.2.1, hk.2.2⟩
  refine ⟨⟨L.set j (.slice ra 14 rc), (h1.stored j _).1, fun i m hm => ?_⟩, ownsRow_setCell_below h.q (a := ⟨S, j, none⟩) (Nat.lt_succ_self _) _, h.bel.setCell (p := ⟨S, j, none⟩) (Nat.le_refl _) _, by rw [hz]; exact h.lt⟩
  by_cases e : i = j
  · subst e
    have hlen : rs.length > i := by
      rcases Nat.lt_or_ge i rs.length with h | h
      · exact h
      · rw [List.getElem?_eq_none (by rw [List.length_set]; omega)] at hm; cases hm
    rw [List.getElem?_set_self hlen] at hm
    cases hm
    exact ⟨ra, rc, by rw [List.getElem?_set_self (by have := h1.1; omega), hl], hwd hb⟩
  · rw [List.getElem?_set_ne (fun e' => e e'.symm)] at hm
    obtain ⟨ra', rc', e1, e2⟩ := h2 i m hm
    exact ⟨ra', rc', by rw [List.getElem?_set_ne (fun e' => e e'.symm)]; exact e1, hwd e2⟩
/-- Blocks that stand when the queue grows. -/
theorem Frm.push {S : Nat} {w w4 w5 : World} {qv v' : Value} {cs : Array Value} {T : TypeId} (h4 : w4 = w.alloc (.cells cs T)) (hg : w4.grownBy w5 qv.ownBlock) (hat : v'.ownBlock = qv.ownBlock ∨ ∃ g, v'.ownBlock = some g ∧ w.heap.size ≤ g) {b : Nat} (h : Frm S w qv b) : w5.heap[b]? = w.heap[b]? ∧ Frm S w5 v' b := by
  have hz4 : w4.heap.size = w.heap.size + 1 := by rw [h4, World.size_alloc]
  have hs := hg.size
  obtain ⟨h1, h2, h3⟩ := h
  refine ⟨?_, h1, by omega, ?_⟩
  · rw [hg.block b (by omega) (fun e => h3 e.symm), h4, Below.heap_alloc _ _ _ h2]
  · rcases hat with e | ⟨g', e, e2⟩
    · rw [e]; exact h3
    · rw [e]; intro e3; cases e3; omega

end Go.Proofs.YtmodonligaejhaaDoor

namespace Go.Proofs.YtmodonligaejhaaDoor
open Go.RowKit
set_option linter.unusedVariables false

theorem rowB_start : (List.replicate 14 false) = rowB 16384 := by decide
theorem slices0 (n : Nat) : (madeCells (Value.slice none 0 0).cells (n * 1)).toList = List.replicate n (.slice none 0 0) := by
  rw [Nat.mul_one]
  exact toList_madeCells_one _ _
theorem TnS.first {W : World} {S n : Nat} {rs : List Nat} {w : World} (h : TnS W S n rs [] (.slice none 0 0) w) : TnS W S n rs [0] (.slice (some ⟨w.heap.size, 0, none⟩) 1 1) (w.alloc (.cells #[.int .i64 0] 3)) := by
  have hb : Below w.heap.size w (w.alloc (.cells #[.int .i64 0] 3)) := (Below.refl _ w).alloc (Nat.le_refl _) _
  obtain ⟨L, h1, h2⟩ := h.row
  have hlt := h.lt
  refine ⟨⟨L, h1.alloc _, fun i m hm => ?_⟩, ⟨rfl, .inr ⟨w.heap.size, 1, #[.int .i64 0], rfl, by omega, heap_alloc_new w _, Nat.le_refl _, by unfold maxLen; omega, rfl, rfl⟩⟩, h.bel.alloc (by omega) _, by rw [World.size_alloc]; omega⟩
  obtain ⟨ra, rc, e1, e2⟩ := h2 i m hm
  exact ⟨ra, rc, e1, e2.wide (fun k hk => hb.block k hk.2.1) fun k hk => ⟨hk.1, by rw [World.size_alloc]; have := hk.2.1; omega, fun e => by
    have e' : w.heap.size = k := by simpa [Value.ownBlock] using e
    have := hk.2.1
    omega⟩⟩
theorem TnS.start {W w1 w2 : World} {S n : Nat} (hn : 0 < n) (h1 : w1.ownsRow S 63 1 (.slice (some ⟨S, 0, none⟩) n n) n (List.replicate n (.slice none 0 0))) (hb1 : Below S W w1) (h2 : w2.ownsRow w1.heap.size 4 1 (.slice (some ⟨w1.heap.size, 0, none⟩) 14 14) 14 ((List.replicate 14 false).map Value.bool)) (hb2 : Below w1.heap.size w1 w2) :
    TnS W S n ((List.replicate n 0).set 0 16384) [0] (.slice (some ⟨w2.heap.size, 0, none⟩) 1 1) ((w2.setCell ⟨S, 0, none⟩ (.slice (some ⟨w1.heap.size, 0, none⟩) 14 14)).alloc (.cells #[.int .i64 0] 3)) := by
  have hS := (h1.lt S rfl).2
  have hs2 := hb2.size
  have hg : w1.grownBy w2 none := ⟨hb2.os, hb2.tape, hb2.output, hb2.size, fun k hk _ => hb2.block k hk⟩
  have hz : (w2.setCell ⟨S, 0, none⟩ (.slice (some ⟨w1.heap.size, 0, none⟩) 14 14)).heap.size = w2.heap.size := by simp [World.setCell]
  have h0 : TnS W S n (List.replicate n 0) [] (.slice none 0 0) w2 := ⟨⟨_, h1.kept hg (.inr (by simp [Value.ownBlock])), fun i m hm => by
    have hm' : m = 0 ∧ i < n := by
      rw [List.getElem?_replicate] at hm
      split at hm
      · rename_i hi
        injection hm with hm
        exact ⟨hm.symm, hi⟩
      · cases hm
    obtain ⟨rfl, hi⟩ := hm'
    refine ⟨none, 0, by rw [List.getElem?_replicate, if_pos hi]; rfl, ⟨by rw [rowB_0]; simp, fun i x hx => by rw [rowB_0] at hx; simp at hx⟩⟩⟩, World.ownsRow_nil _ _ _ _, hb1.trans (hb2.mono (by omega)), by omega⟩
  have hob : OwnB w2 w1.heap.size (.slice (some ⟨w1.heap.size, 0, none⟩) 14 14) (List.replicate 14 false) := by unfold OwnB; rw [List.length_replicate]; exact h2
  obtain ⟨_, _, _, hbat⟩ := hob.bat
  rw [rowB_start] at hbat
  have h3 := (h0.put (j := 0) (m' := 16384) (ra := some ⟨w1.heap.size, 0, none⟩) (rc := 14) hn (hbat.wide (fun _ _ => rfl) fun k hk => ⟨by omega, hk.2, by simp [Value.ownBlock]⟩) (by decide)).first
  rw [hz] at h3
  exact h3
theorem TnS.push {W : World} {S n : Nat} {rs q : List Nat} {qv v' : Value} {w w4 w5 : World} {j : Nat} {T : TypeId} (h : TnS W S n rs q qv w)
    (h4 : w4 = w.alloc (.cells #[.int .i64 (j : Int)] T)) (hg : w4.grownBy w5 qv.ownBlock) (hat : v'.ownBlock = qv.ownBlock ∨ ∃ g, v'.ownBlock = some g ∧ w.heap.size ≤ g) (ho : w5.ownsRow (S + 1) 3 1 v' (q.length + 1) ((natI q).map (Value.int .i64) ++ [.int .i64 (j : Int)])) : TnS W S n rs (q ++ [j]) v' w5 := by
  have hlt := h.lt
  have hq0 : ∀ g, qv.ownBlock = some g → S + 1 ≤ g := fun g hg => (h.q.lt g hg).1
  have hb4 : Below S W w4 := by rw [h4]; exact h.bel.alloc (by omega) _
  have hz4 : w4.heap.size = w.heap.size + 1 := by rw [h4, World.size_alloc]
  obtain ⟨L, h1, h2⟩ := h.row
  have h1' : w4.ownsRow S 63 1 (.slice (some ⟨S, 0, none⟩) n n) n L := by rw [h4]; exact h1.alloc _
  refine ⟨⟨L, h1'.kept hg (.inr fun e => ?_), fun i m hm => ?_⟩, ?_, hb4.grown hg (by omega) fun k hk => ?_, by have := hg.size; omega⟩
  · have := hq0 S (by rw [← e]; rfl)
    omega
  · obtain ⟨ra, rc, e1, e2⟩ := h2 i m hm
    exact ⟨ra, rc, e1, e2.wide (fun k hk => (hk.push h4 hg hat).1) fun k hk => (hk.push h4 hg hat).2⟩
  · rw [natI_app, List.map_append, List.length_append]; exact ho
  · have := hq0 k hk; omega

/-- The numbers under look lie in a row of their own. -/
def NxF (w : World) (S : Nat) (na : Option Addr) (ns : List Int) (qv : Value) : Prop := ∀ (s : Nat) (z : Int), ns[s]? = some z → ∃ g, na = some ⟨g, 0, none⟩ ∧ Frm S w qv g ∧ w.cell? ⟨g, s, none⟩ = some (.int .i64 z)
theorem NxF.of_own {w3 : World} {base S nc : Nat} {na : Option Addr} {ns : List Int} {qv : Value} (h : OwnI w3 base (.slice na ns.length nc) ns) (hS : S < base) (hq : ∀ g, qv.ownBlock = some g → g < base) : NxF w3 S na ns qv := fun s z hz => by
  have hs := (List.getElem?_eq_some_iff.1 hz).1
  rcases h.2 with ⟨_, h2⟩ | ⟨g, cp, cur, e1, e2, e3, e4⟩
  · omega
  · cases e1
    refine ⟨g, rfl, ⟨by omega, (Array.getElem?_eq_some_iff.1 e3).1, fun e => by have := hq g e; omega⟩, ?_⟩
    have h' : w3.ownsRow base 3 1 (.slice (some ⟨g, 0, none⟩) ns.length nc) ns.length (ns.map (Value.int .i64)) := h
    rw [h'.cellAt s (by omega)]
    simp [hz]
theorem NxF.move {w w' : World} {S : Nat} {na : Option Addr} {ns : List Int} {qv v' : Value} (h : NxF w S na ns qv) (hm : ∀ b, Frm S w qv b → w'.heap[b]? = w.heap[b]? ∧ Frm S w' v' b) : NxF w' S na ns v' := fun s z hz => by
  obtain ⟨g, h1, h2, h3⟩ := h s z hz
  obtain ⟨h4, h5⟩ := hm g h2
  exact ⟨g, h1, h5, (World.cell?_of_block (w := w) (a := ⟨g, s, none⟩) h4).trans h3⟩
theorem BAt.move {w w' : World} {S : Nat} {r : List Bool} {A : Option Addr} {qv v' : Value} (h : BAt w (Frm S w qv) r A) (hm : ∀ b, Frm S w qv b → w'.heap[b]? = w.heap[b]? ∧ Frm S w' v' b) : BAt w' (Frm S w' v') r A := h.wide (fun k hk => (hm k hk).1) fun k hk => (hm k hk).2
theorem Frm.later {S : Nat} {w w' : World} {qv : Value} (hb : Below w.heap.size w w') (b : Nat) (h : Frm S w qv b) : w'.heap[b]? = w.heap[b]? ∧ Frm S w' qv b := ⟨hb.block b h.2.1, h.1, Nat.lt_of_lt_of_le h.2.1 hb.size, h.2.2⟩
theorem Frm.put {S : Nat} {w : World} {qv : Value} (j : Nat) (u : Value) (b : Nat) (h : Frm S w qv b) : (w.setCell ⟨S, j, none⟩ u).heap[b]? = w.heap[b]? ∧ Frm S (w.setCell ⟨S, j, none⟩ u) qv b := ⟨Below.heap_setCell _ _ _ _ (by have := h.1; simp; omega), h.1, by simpa [World.setCell] using h.2.1, h.2.2⟩

/-- The state of the outer loop. -/
def RQt (sv sa : Nat → Bool) (l : List Ins) (W : World) (S n : Nat) (qv i : Value) (wr : World) : Prop := ∃ (rs q : List Nat) (t : Nat) (qa : Option Addr) (qc : Nat), qv = .slice qa q.length qc ∧ i = .int .i64 (t : Int) ∧ t ≤ q.length ∧ TL sv sa l rs (q.drop t) t ∧ TnS W S n rs q (.slice qa q.length qc) wr
/-- The followers that have been looked at. -/
def doneN (ns : List Int) (s : Nat) : List Nat := (ns.take s).map Int.toNat
theorem doneN_succ {ns : List Int} {s j : Nat} (h : ns[s]? = some (j : Int)) : doneN ns (s + 1) = doneN ns s ++ [j] := by
  unfold doneN
  rw [List.take_add_one, h]
  simp
/-- The state of the inner loop. -/
def RNt (sv sa : Nat → Bool) (l : List Ins) (W : World) (S n t p m0 : Nat) (x : Ins) (ns : List Int) (na ta : Option Addr) (qv i : Value) (wr : World) : Prop := ∃ (rs q : List Nat) (s : Nat) (qa : Option Addr) (qc : Nat), qv = .slice qa q.length qc ∧ i = .int .i64 (s : Int) ∧ s ≤ ns.length ∧ t < q.length ∧ TI sv sa l rs (q.drop (t + 1)) t p m0 x (doneN ns s) ∧ TnS W S n rs q (.slice qa q.length qc) wr ∧ NxF wr S na ns (.slice qa q.length qc) ∧ BAt wr (Frm S wr (.slice qa q.length qc)) (rowB (aftM sv sa x m0)) ta
theorem RQt.q {sv sa : Nat → Bool} {l : List Ins} {rs q : List Nat} {t : Nat} (h : TL sv sa l rs (q.drop t) t) (ht : t ≤ q.length) : q.length ≤ 15 * l.length := by
  have h1 := h.few
  rw [List.length_drop] at h1
  omega
theorem TI.q {sv sa : Nat → Bool} {l : List Ins} {rs q : List Nat} {t p m0 : Nat} {x : Ins} {dn : List Nat} (h : TI sv sa l rs (q.drop (t + 1)) t p m0 x dn) (ht : t < q.length) : q.length ≤ 15 * l.length := by
  have h1 := h.few
  rw [List.length_drop] at h1
  omega

/-- The least map lies in memory. -/
def TntN (sv sa : Nat → Bool) (l : List Ins) (n : Nat) (w : World) (e : Ending) (w' : World) : Prop := ∃ (rs : List Nat) (a : Option Addr) (c : Nat), e = .returned (.slice a n c) ∧ IsT sv sa l rs ∧ BBs w' (fun b => b < w'.heap.size) (rs.map rowB) a ∧ Below w.heap.size w w'
theorem TnS.bbs {W : World} {S n : Nat} {rs q : List Nat} {qv : Value} {w : World} (h : TnS W S n rs q qv w) (hl : rs.length = n) (hm : n ≤ maxLen) : BBs w (fun b => b < w.heap.size) (rs.map rowB) (some ⟨S, 0, none⟩) := by
  refine ⟨by rw [List.length_map, hl]; exact hm, fun i r hr => ?_⟩
  rw [List.getElem?_map] at hr
  cases hq : rs[i]? with
  | none => rw [hq] at hr; cases hr
  | some m =>
    rw [hq] at hr
    cases hr
    have hi : i < n := by rw [← hl]; exact (List.getElem?_eq_some_iff.1 hq).1
    obtain ⟨ra, rc, h1, h2, _⟩ := h.at hq hi
    exact ⟨S, 0, ra, rc, rfl, h.lt, by rw [Nat.zero_add]; exact h1, h2.wide (fun _ _ => rfl) fun k hk => hk.2.1⟩

set_option maxRecDepth 100000 in
set_option maxHeartbeats 8000000 in
/-- **spec.l9Infer.** -/
theorem sInf_one (m : Cd) (k : CK) (w : World) (h : CL w m k) (hcb : codeB m = true) :
    Calls Tryd.prog 38 #[aggC m k] w (TntN (secN m.vars) (secN m.arrs) m.list m.list.length w) := by
  obtain ⟨i0, hi, hz0, hz1, hz2⟩ := info_parts Tryd.infoBB
  obtain ⟨b0, hbi, hbz0, hbz1, hbz2⟩ := info_parts Tryd.infoB
  obtain ⟨j0, hj, hj0, hj1, hj2⟩ := info_parts Tryd.infoI
  obtain ⟨W, hW⟩ : ∃ W, w.alloc (.cells (arrC m k) 30) = W := ⟨_, rfl⟩
  have hB : Below w.heap.size w W := by rw [← hW]; exact (Below.refl _ w).alloc (Nat.le_refl _) _
  have hX : BoxC W w.heap.size m k := by rw [← hW]; exact BoxC.new _ _ _ _
  have hz : W.heap.size = w.heap.size + 1 := by rw [← hW]; simp
  have H : Hid (∀ v, Below W.heap.size W v → BoxC v w.heap.size m k ∧ CL v m k) := fun v hv => ⟨hX.below hv hX.lt, (h.below hB).below hv⟩
  obtain ⟨n, hn⟩ : ∃ n, m.list.length = n := ⟨_, rfl⟩
  have hok := codeB_ok hcb
  have hp := hok.pos
  have hle := hok.le
  rw [hn] at hp hle
  have c2 := hX.c2
  rw [hn] at c2
  have HN := Lib.hid hn
  have HW := Lib.hid hW
  have HB := Lib.hid hB
  have HO := Lib.hid hok
  have HD := Lib.hid (codeB_decl hcb)
  have HIT : Hid (∀ (i : Nat) (x : Ins), m.list[i]? = some x → InsT m.vars.length m.arrs.length x) := fun i x hx => codeB_ins hcb hx
  unfold arrC at HW
  have HWZ : Hid (W.heap.size = w.heap.size + 1) := hz
  have HCA : Hid (∀ (v : World) (p : Nat) (x : Ins), CL v m k → m.list[p]? = some x → p < 400 → Calls Tryd.prog 45 #[.agg #[.slice k.va m.vars.length k.vc, .slice k.aa m.arrs.length k.ac, .slice k.la n k.lc], .int .i64 (p : Int)] v (IntsNew (folS x p) v)) := fun v p x h1 h2 h3 => by
    have h9 := l8Next_one m k p x v h1 h2 h3
    unfold aggC at h9
    rw [hn] at h9
    exact h9
  rw [hn]
  clear h hok hcb hB hX hW hz hn
  go_enter Tryd.func38, Tryd.ntmps38
  go_wp2_with (first
    | rw [HW.out]
    | (at_make
       refine wpList_make_full _ rfl _ _ 36 rfl W.heap.size 63 i0 (.slice none 0 0) 1 Tryd.underlying36 hi hz0 hz1 .i64 .i64 (n : Int) (n : Int) n rfl rfl rfl rfl (by rw [hz2]; omega) (by unfold maxLen; omega) (Nat.le_refl _) ?_
       intro w1 hown1 hgrow1
       rw [slices0] at hown1
       have hb1 : Below W.heap.size W w1 := (Below.refl _ W).grown hgrow1 (Nat.le_refl _) (fun k e => (by cases e)))
    | (at_make
       refine wpList_make_full _ rfl _ _ 63 rfl w1.heap.size 4 b0 (.bool false) 1 Tryd.underlying63 hbi hbz0 hbz1 .i64 .i64 14 14 14 rfl rfl rfl rfl (by rw [hbz2]; omega) (by unfold maxLen; omega) (Nat.le_refl _) ?_
       intro w2 hown2 hgrow2
       rw [falses] at hown2
       have hb2 : Below w1.heap.size w1 w2 := (Below.refl _ w1).grown hgrow2 (Nat.le_refl _) (fun k e => (by cases e))
       have hS1 := (hown1.lt W.heap.size rfl).2
       have hown12 := hown1.kept hgrow2 (.inr (by simp [Value.ownBlock]))
       have hc0 : w2.cell? ⟨W.heap.size, 0, none⟩ = some (.slice none 0 0) := (by rw [hown12.cellAt 0 (by omega), List.getElem?_replicate, if_pos (by omega)])
       have hf0 := hown12.frozenAt 0
       have HR0 := Lib.hid (TnS.start (by omega) hown1 hb1 hown2 hb2)
       clear hown1 hown2 hgrow1 hgrow2 hb1 hown12)
    | fail)
  obtain ⟨B, hBB⟩ : ∃ B, w2.heap.size = B := ⟨_, rfl⟩
  have hzs : (w2.setCell ⟨W.heap.size, 0, none⟩ (.slice (some ⟨w1.heap.size, 0, none⟩) 14 14)).heap.size = w2.heap.size := by simp [World.setCell]
  obtain ⟨W3, hW3⟩ : ∃ W3, (w2.setCell ⟨W.heap.size, 0, none⟩ (.slice (some ⟨w1.heap.size, 0, none⟩) 14 14)).alloc (.cells #[.int .i64 0] 3) = W3 := ⟨_, rfl⟩
  rw [hBB, hW3] at HR0
  rw [hW3, hBB]
  have HQ0 : Hid (RQt (secN m.vars) (secN m.arrs) m.list W W.heap.size n (.slice (some ⟨B, 0, none⟩) 1 1) (.int .i64 0) W3) := by
    have h1 := TL.start (sv := secN m.vars) (sa := secN m.arrs) HO.out
    rw [HN.out] at h1
    exact ⟨_, [0], 0, _, 1, rfl, rfl, Nat.zero_le _, h1, HR0.out⟩
  clear HR0 hc0 hf0 hS1 c2 hW3 HW hzs hb2 hBB hi hz0 hz1 hz2 hbi hbz0 hbz1 hbz2
  have hcap : 15 * n ≤ 6000 := by omega
  go_loopw [4, 5] (fun qv i wr => RQt (secN m.vars) (secN m.arrs) m.list W W.heap.size n qv i wr) (fun _ i _ => 15 * n - (intOf i).toNat)
  case atStart => exact HQ0.out
  case round =>
    obtain ⟨rs, q, t, qa, qc, rfl, rfl, htq, htl, hts⟩ := hrel
    obtain ⟨nq, hnq⟩ : ∃ nq, q.length = nq := ⟨_, rfl⟩
    have hqn : nq ≤ 15 * n := by have h1 := RQt.q htl htq; rw [hnq, HN.out] at h1; exact h1
    rw [hnq] at hts htq ⊢
    have HTL := Lib.hid htl
    have HTS := Lib.hid hts
    have HNQ := Lib.hid hnq
    obtain ⟨hbx, hcl⟩ := H.out wr hts.bel
    have x0 := hbx.c0
    have x1 := hbx.c1
    have x2 := hbx.c2
    rw [HN.out] at x2
    have HCL : Hid (CL wr m k) := hcl
    have HBX : Hid (BoxC wr w.heap.size m k) := hbx
    clear htl hts hnq HQ0 hbx hcl
    by_cases hlt : t < nq
    · obtain ⟨p, hp'⟩ : ∃ p, q[t]? = some p := ⟨q[t]'(by rw [HNQ.out]; exact hlt), List.getElem?_eq_getElem _⟩
      have hdrop : q.drop t = p :: q.drop (t + 1) := by
        rw [List.drop_eq_getElem_cons (by rw [HNQ.out]; exact hlt)]
        rw [List.getElem?_eq_getElem (by rw [HNQ.out]; exact hlt)] at hp'
        injection hp' with hp'
        rw [hp']
      have htl2 := HTL.out
      rw [hdrop] at htl2
      obtain ⟨x, m0, hx, hm0, hti⟩ := htl2.take
      have hpn : p < n := by rw [← HN.out]; exact (List.getElem?_eq_some_iff.1 hx).1
      obtain ⟨g, rfl, hSg, hgs, hqc⟩ := HTS.out.qat hp'
      obtain ⟨pa, pc, hpc, hpb, _⟩ := HTS.out.at hm0 hpn
      have h0 : m0 ≠ 0 := bit_ne hti.g0.2
      rw [rowB_len h0] at hpc
      obtain ⟨bi, oi, hla, hbil, e0, e1, e2, e3, e4⟩ := HCL.out.2.2.2 p x hx
      have HTI := Lib.hid hti
      have HX := Lib.hid hx
      have HAFT : Hid (Calls Tryd.prog 44 #[.agg #[.slice k.va m.vars.length k.vc, .slice k.aa m.arrs.length k.ac, .slice (some ⟨bi, oi, none⟩) n k.lc], aggI x, .slice pa 14 pc] wr.drew (RowN (rowB (aftM (secN m.vars) (secN m.arrs) x m0)) wr.drew)) := by
        have h9 := sAft_one m k x m0 pa pc wr.drew (HCL.out.below (Below.refl _ wr).drew) HD.out (HIT.out p x hx) hti.g0.1 hti.g0.2 (hpb.wide (fun _ _ => rfl) fun b hb => hb.2.1)
        unfold aggC at h9
        rw [HN.out, hla] at h9
        exact h9
      have HSB : Hid (∀ v, Below wr.heap.size wr v → v.cell? ⟨w.heap.size, 0, none⟩ = some (.slice k.va m.vars.length k.vc) ∧ v.cell? ⟨w.heap.size, 1, none⟩ = some (.slice k.aa m.arrs.length k.ac) ∧ v.cell? ⟨w.heap.size, 2, none⟩ = some (.slice (some ⟨bi, oi, none⟩) n k.lc) ∧ v.cell? ⟨bi, oi + p * 5, none⟩ = some (.int .i64 x.op) ∧ v.cell? ⟨bi, oi + p * 5 + 1, none⟩ = some (.int .i64 x.fa) ∧ v.cell? ⟨bi, oi + p * 5 + 2, none⟩ = some (.int .i64 x.fb) ∧ v.cell? ⟨bi, oi + p * 5 + 3, none⟩ = some (.int .i64 x.fc) ∧ v.cell? ⟨bi, oi + p * 5 + 4, none⟩ = some (.int .i64 x.fd) ∧ v.cell? ⟨W.heap.size, p, none⟩ = some (.slice pa 14 pc)) := fun v hv => by
        have b := HBX.out.below hv HBX.out.lt
        have b2 := b.c2
        rw [HN.out, hla] at b2
        exact ⟨b.c0, b.c1, b2, (hv.cell (p := ⟨bi, _, none⟩) hbil).trans e0, (hv.cell (p := ⟨bi, _, none⟩) hbil).trans e1, (hv.cell (p := ⟨bi, _, none⟩) hbil).trans e2, (hv.cell (p := ⟨bi, _, none⟩) hbil).trans e3, (hv.cell (p := ⟨bi, _, none⟩) hbil).trans e4, (hv.cell (p := ⟨W.heap.size, p, none⟩) HTS.out.lt).trans hpc⟩
      have HLA := Lib.hid hla
      rw [hla] at x2
      clear hp' hx hdrop htl2 hti hpb hpc h0 e0 e1 e2 e3 e4 hbil hla hm0
      go_wp2_with fail
      refine wp_region_held_drew (S := fun v => v.cell? ⟨w.heap.size, 0, none⟩ = some (.slice k.va m.vars.length k.vc) ∧ v.cell? ⟨w.heap.size, 1, none⟩ = some (.slice k.aa m.arrs.length k.ac) ∧ v.cell? ⟨w.heap.size, 2, none⟩ = some (.slice (some ⟨bi, oi, none⟩) n k.lc) ∧ v.cell? ⟨bi, oi + p * 5, none⟩ = some (.int .i64 x.op) ∧ v.cell? ⟨bi, oi + p * 5 + 1, none⟩ = some (.int .i64 x.fa) ∧ v.cell? ⟨bi, oi + p * 5 + 2, none⟩ = some (.int .i64 x.fb) ∧ v.cell? ⟨bi, oi + p * 5 + 3, none⟩ = some (.int .i64 x.fc) ∧ v.cell? ⟨bi, oi + p * 5 + 4, none⟩ = some (.int .i64 x.fd) ∧ v.cell? ⟨W.heap.size, p, none⟩ = some (.slice pa 14 pc)) (by kernel_rfl) (HSB.out wr (Below.refl _ _)) (fun hHeld => ?_)
      refine wpAnyH_take (i := 0) (oi := ⟨some 30, _, _, _, _, _⟩) (v := ?_) rfl (by kernel_rfl) (by kernel_rfl) (by kernel_rfl) (fun _ _ _ h => h) (Or.inl ⟨by rfl, ?_⟩) (by assumption) ?_
      rotate_left
      · intro w hSw; (try dsimp only at hSw); go_simp; (try with_reducible rfl)
      simp only [Act.put, List.setIfInBounds_toArray, List.set_cons_zero, List.set_cons_succ]
      refine wpAnyH_take (i := 1) (oi := ⟨some 31, _, _, _, _, _⟩) (v := ?_) rfl (by kernel_rfl) (by kernel_rfl) (by kernel_rfl) (fun _ _ _ h => h) (Or.inl ⟨by rfl, ?_⟩) (by assumption) ?_
      rotate_left
      · intro w hSw; (try dsimp only at hSw); go_simp; (try with_reducible rfl)
      simp only [Act.put, List.setIfInBounds_toArray, List.set_cons_zero, List.set_cons_succ]
      refine wpAnyH_take (i := 2) (oi := ⟨some 32, _, _, _, _, _⟩) (v := ?_) rfl (by kernel_rfl) (by kernel_rfl) (by kernel_rfl) (fun _ _ _ h => h) (Or.inl ⟨by rfl, ?_⟩) (by assumption) ?_
      rotate_left
      · intro w hSw; (try dsimp only at hSw); go_simp; (try with_reducible rfl)
      simp only [Act.put, List.setIfInBounds_toArray, List.set_cons_zero, List.set_cons_succ]
      refine wpAnyH_take (i := 3) (oi := ⟨some 33, _, _, _, _, _⟩) (v := ?_) rfl (by kernel_rfl) (by kernel_rfl) (by kernel_rfl) (fun _ _ _ h => h) (Or.inl ⟨by rfl, ?_⟩) (by assumption) ?_
      rotate_left
      · intro w hSw; (try dsimp only at hSw); go_simp; (try with_reducible rfl)
      simp only [Act.put, List.setIfInBounds_toArray, List.set_cons_zero, List.set_cons_succ]
      refine wpAnyH_take (i := 4) (oi := ⟨some 34, _, _, _, _, _⟩) (v := ?_) rfl (by kernel_rfl) (by kernel_rfl) (by kernel_rfl) (fun _ _ _ h => h) (Or.inl ⟨by rfl, ?_⟩) (by assumption) ?_
      rotate_left
      · intro w hSw; (try dsimp only at hSw); go_simp; (try with_reducible rfl)
      simp only [Act.put, List.setIfInBounds_toArray, List.set_cons_zero, List.set_cons_succ]
      refine wpAnyH_take (i := 5) (oi := ⟨some 35, _, _, _, _, _⟩) (v := ?_) rfl (by kernel_rfl) (by kernel_rfl) (by kernel_rfl) (fun _ _ _ h => h) (Or.inl ⟨by rfl, ?_⟩) (by assumption) ?_
      rotate_left
      · intro w hSw; (try dsimp only at hSw); go_simp; (try with_reducible rfl)
      simp only [Act.put, List.setIfInBounds_toArray, List.set_cons_zero, List.set_cons_succ]
      refine wpAnyH_take (i := 6) (oi := ⟨some 36, _, _, _, _, _⟩) (v := ?_) rfl (by kernel_rfl) (by kernel_rfl) (by kernel_rfl) (fun _ _ _ h => h) (Or.inl ⟨by rfl, ?_⟩) (by assumption) ?_
      rotate_left
      · intro w hSw; (try dsimp only at hSw); go_simp; (try with_reducible rfl)
      simp only [Act.put, List.setIfInBounds_toArray, List.set_cons_zero, List.set_cons_succ]
      refine wpAnyH_take (i := 7) (oi := ⟨some 37, _, _, _, _, _⟩) (v := ?_) rfl (by kernel_rfl) (by kernel_rfl) (by kernel_rfl) (fun _ _ _ h => h) (Or.inl ⟨by rfl, ?_⟩) (by assumption) ?_
      rotate_left
      · intro w hSw; (try dsimp only at hSw); go_simp; (try with_reducible rfl)
      simp only [Act.put, List.setIfInBounds_toArray, List.set_cons_zero, List.set_cons_succ]
      refine wpAnyH_take (i := 8) (oi := ⟨some 38, _, _, _, _, _⟩) (v := ?_) rfl (by kernel_rfl) (by kernel_rfl) (by kernel_rfl) (fun _ _ _ h => h) (Or.inl ⟨by rfl, ?_⟩) (by assumption) ?_
      rotate_left
      · intro w hSw; (try dsimp only at hSw); go_simp; (try with_reducible rfl)
      simp only [Act.put, List.setIfInBounds_toArray, List.set_cons_zero, List.set_cons_succ]
      refine wpAnyH_take (i := 9) (oi := ⟨some 39, _, _, _, _, _⟩) (v := ?_) rfl (by kernel_rfl) (by kernel_rfl) (by kernel_rfl) (fun _ _ _ h => h) (Or.inl ⟨by rfl, ?_⟩) (by assumption) ?_
      rotate_left
      · intro w hSw; (try dsimp only at hSw); go_simp; (try with_reducible rfl)
      simp only [Act.put, List.setIfInBounds_toArray, List.set_cons_zero, List.set_cons_succ]
      refine wpAnyH_ready (rs := [10]) (by kernel_rfl) (by simp) ?_
      refine AllReadyH.cons (o := ⟨some 40, _, _, _, _, _⟩) rfl (fun K hK => ?_) AllReadyH.nil
      go_simp
      refine (HAFT.out).mono ?_
      rintro e w3 ⟨ta, tc, rfl, hto, htl, hb3⟩
      have hB3 : Below wr.heap.size wr w3 := (Below.refl _ wr).drew.trans hb3
      have hS3 := HSB.out w3 hB3
      go_wp2_with fail
      refine hK.out _ _ hS3 (fun hHeld => ?_)
      clear hK K
      try simp only [Act.put, List.setIfInBounds_toArray, List.set_cons_zero, List.set_cons_succ]
      refine wpAnyH_take (i := 11) (oi := ⟨some 7, _, _, _, _, _⟩) (v := ?_) rfl (by kernel_rfl) (by kernel_rfl) (by kernel_rfl) (fun _ _ _ h => h) (Or.inl ⟨by rfl, ?_⟩) (by assumption) ?_
      rotate_left
      · intro w hSw; (try dsimp only at hSw); go_simp; (try with_reducible rfl)
      simp only [Act.put, List.setIfInBounds_toArray, List.set_cons_zero, List.set_cons_succ]
      refine wpAnyH_done (by kernel_rfl) ?_ _
      have hB03 : Below wr.heap.size wr w3 := hB3
      have HTS3 := Lib.hid (HTS.out.later hB03)
      have hCL3 := HCL.out.below hB03
      have hbx3 := HBX.out.below hB03 HBX.out.lt
      have y0 := hbx3.c0
      have y1 := hbx3.c1
      have y2 := hbx3.c2
      rw [HN.out, HLA.out] at y2
      obtain ⟨_, _, _, hbat⟩ := hto.bat
      have hqb : ∀ g', (Value.slice (some ⟨g, 0, none⟩) nq qc).ownBlock = some g' → g' < wr.heap.size := fun g' e => by cases e; exact hgs
      have hta : BAt w3 (Frm W.heap.size w3 (.slice (some ⟨g, 0, none⟩) nq qc)) (rowB (aftM (secN m.vars) (secN m.arrs) x m0)) ta := by
        refine hbat.wide (fun _ _ => rfl) fun b hb => ?_
        have hb1 : wr.heap.size ≤ b := hb.1
        exact ⟨by have := HTS.out.lt; omega, hb.2, fun e => by have := hqb b e; omega⟩
      have HTA := Lib.hid hta
      have HTAL := Lib.hid htl
      have HC3 : Hid (Calls Tryd.prog 45 #[.agg #[.slice k.va m.vars.length k.vc, .slice k.aa m.arrs.length k.ac, .slice (some ⟨bi, oi, none⟩) n k.lc], .int .i64 (p : Int)] w3 (IntsNew (folS x p) w3)) := by
        have h9 := HCA.out w3 p x hCL3 HX.out (by omega)
        rw [HLA.out] at h9
        exact h9
      clear hto htl hta hbat hS3 hb3 hCL3 hbx3 hB3 x0 x1 x2 hqc HAFT HSB
      go_wp2_with fail
      refine HC3.out.mono ?_
      rintro e w5 ⟨na, nc, rfl, hon, hb5⟩
      have HTS5 := Lib.hid (HTS3.out.later hb5)
      have HTA5 := Lib.hid (HTA.out.move (Frm.later hb5))
      have HNX5 : Hid (NxF w5 W.heap.size na (folS x p) (.slice (some ⟨g, 0, none⟩) nq qc)) := NxF.of_own hon HTS3.out.lt (fun g' e => by have := hqb g' e; have := hB03.size; omega)
      obtain ⟨ns, hns⟩ : ∃ ns, folS x p = ns := ⟨_, rfl⟩
      have HNS := Lib.hid hns
      have hnl : ns.length ≤ 2 := by rw [← hns]; exact folS_len x p
      rw [hns] at HNX5 ⊢
      have HN0 : Hid (RNt (secN m.vars) (secN m.arrs) m.list W W.heap.size n t p m0 x ns na ta (.slice (some ⟨g, 0, none⟩) nq qc) (.int .i64 0) w5) := ⟨rs, q, 0, some ⟨g, 0, none⟩, qc, by rw [HNQ.out], rfl, Nat.zero_le _, by rw [HNQ.out]; exact hlt, HTI.out, by rw [HNQ.out]; exact HTS5.out, by rw [HNQ.out]; exact HNX5.out, by rw [HNQ.out]; exact HTA5.out⟩
      clear hon hb5 hns HNX5 HTS3 HTS5 HTS HTA HTA5 HTI y0 y1 y2 hqb HC3 HTL HCL HBX hB03
      obtain ⟨nl, hnl'⟩ : ∃ nl, ns.length = nl := ⟨_, rfl⟩
      have HNL := Lib.hid hnl'
      rw [hnl'] at hnl ⊢
      clear hnl'
      go_wp2_with fail
      go_loopw [4, 9] (fun qv i wr2 => RNt (secN m.vars) (secN m.arrs) m.list W W.heap.size n t p m0 x ns na ta qv i wr2) (fun _ i _ => nl - (intOf i).toNat)
      case atStart => exact HN0.out
      case round =>
        obtain ⟨rs2, q2, s, qa2, qc2, rfl, rfl, hsn, htq2, hti2, hts2, hnx2, hta2⟩ := hrel
        obtain ⟨nq2, hnq2⟩ : ∃ nq, q2.length = nq := ⟨_, rfl⟩
        have hqn2 : nq2 ≤ 15 * n := by have h1 := TI.q hti2 htq2; rw [hnq2, HN.out] at h1; exact h1
        rw [hnq2] at hts2 hnx2 hta2 htq2 ⊢
        rw [HNL.out] at hsn
        have HTI2 := Lib.hid hti2
        have HTS2 := Lib.hid hts2
        have HNX2 := Lib.hid hnx2
        have HTA2 := Lib.hid hta2
        have HNQ2 := Lib.hid hnq2
        clear hti2 hts2 hnx2 hta2 hnq2 HN0
        by_cases hlt2 : s < nl
        · obtain ⟨z, hz⟩ : ∃ z, ns[s]? = some z := ⟨ns[s]'(by rw [HNL.out]; exact hlt2), List.getElem?_eq_getElem _⟩
          obtain ⟨j, hzj, hjf⟩ := (folS_mem HO.out HX.out z).1 (by rw [HNS.out]; exact List.mem_of_getElem? hz)
          subst hzj
          have hjn : j < n := by rw [← HN.out]; exact HO.out.fol HX.out hjf
          obtain ⟨gn, rfl, hgf, hgc⟩ := HNX2.out s _ hz
          obtain ⟨mj, hmj⟩ : ∃ mj, rs2[j]? = some mj := ⟨rs2[j]'(by rw [HTI2.out.tb.len, HN.out]; exact hjn), List.getElem?_eq_getElem _⟩
          obtain ⟨ja, jc, hjc, hjb, hjf0⟩ := HTS2.out.at hmj hjn
          have hgm := HTI2.out.tb.gm j mj hmj
          have hit := HIT.out p x HX.out
          have hal := aftM_lt (sv := secN m.vars) (sa := secN m.arrs) hit HTI2.out.g0.1
          have ha14 := aftM_14 (sv := secN m.vars) (sa := secN m.arrs) hit HTI2.out.g0.1 HTI2.out.g0.2
          obtain ⟨lj, hlj⟩ : ∃ lj, (rowB mj).length = lj := ⟨_, rfl⟩
          have HJO := Lib.hid (sJoin_one mj (aftM (secN m.vars) (secN m.arrs) x m0) ja ta lj jc tc wr (hjb.wide (fun _ _ => rfl) fun b hb => hb.2.1) (HTA2.out.wide (fun _ _ => rfl) fun b hb => hb.2.1) hgm hal ha14 hlj)
          rw [hlj] at hjc
          have HZ2 := Lib.hid hz
          have HJF := Lib.hid hjf
          have HMJ := Lib.hid hmj
          have HGF := Lib.hid hgf
          have HIX := Lib.hid hit
          have hqb2 : Hid (∀ g', (Value.slice qa2 nq2 qc2).ownBlock = some g' → g' < wr.heap.size) := fun g' e => (HTS2.out.q.lt g' e).2
          clear hz hjf hmj hjb hjf0 hgm hit hal ha14 hlj hgf
          go_wp2_with fail
          refine HJO.out.mono ?_
          rintro e w6 ⟨gj, cj, ch, rfl, hoj, hch, hlen, hb6⟩
          have HTS6 := Lib.hid (HTS2.out.later hb6)
          have HNX6 := Lib.hid (HNX2.out.move (Frm.later hb6))
          have HTA6 := Lib.hid (HTA2.out.move (Frm.later hb6))
          have HB6 := Lib.hid hb6
          have HCH := Lib.hid hch
          have HOJ := Lib.hid hoj
          have HLEN := Lib.hid hlen
          have hgc6 : w6.cell? ⟨gn, s, none⟩ = some (.int .i64 (j : Int)) := (hb6.cell (p := ⟨gn, s, none⟩) HGF.out.2.1).trans hgc
          clear hb6 hch hoj hlen HTS2 HNX2 HTA2 HJO hjc hgc
          cases ch
          case false =>
            have hsub : Sub (aftM (secN m.vars) (secN m.arrs) x m0) mj := Classical.byContradiction fun hn => by have := HCH.out.2 hn; cases this
            have HREL : Hid (RNt (secN m.vars) (secN m.arrs) m.list W W.heap.size n t p m0 x ns (some ⟨gn, 0, none⟩) ta (.slice qa2 nq2 qc2) (.int .i64 ((s : Int) + 1)) w6) := by
              refine ⟨rs2, q2, s + 1, qa2, qc2, by rw [HNQ2.out], by go_num, by rw [HNL.out]; omega, by rw [HNQ2.out]; exact htq2, ?_, by rw [HNQ2.out]; exact HTS6.out, by rw [HNQ2.out]; exact HNX6.out, by rw [HNQ2.out]; exact HTA6.out⟩
              rw [doneN_succ HZ2.out]
              exact HTI2.out.skip HMJ.out hsub
            clear hsub HTS6 HNX6 HTA6 HTI2
            go_wp2_with fail
            go_roundw
            case rel => exact HREL.out
            case measure => simp [intOf]; omega
          case true =>
            have hns' : ¬ Sub (aftM (secN m.vars) (secN m.arrs) x m0) mj := HCH.out.1 rfl
            obtain ⟨_, _, _, hbj⟩ := HOJ.out.bat
            have hbj' : BAt w6 (Frm W.heap.size w6 (.slice qa2 nq2 qc2)) (rowB (mj ||| aftM (secN m.vars) (secN m.arrs) x m0)) (some ⟨gj, 0, none⟩) := hbj.wide (fun _ _ => rfl) fun b hb => by
              have hb1 : wr.heap.size ≤ b := hb.1
              have hS := HTS6.out.bel.size
              exact ⟨by have := HNX6.out s _ HZ2.out; obtain ⟨_, _, h3, _⟩ := this; have := HGF.out.1; have := HGF.out.2.1; omega, hb.2, fun e => by have := hqb2.out b e; omega⟩
            obtain ⟨ua, uc, hu, _, hf⟩ := HTS6.out.at HMJ.out hjn
            have HTS7 := Lib.hid (HTS6.out.put (m' := mj ||| aftM (secN m.vars) (secN m.arrs) x m0) (rc := cj) hjn hbj' HLEN.out)
            have HNX7 := Lib.hid (HNX6.out.move (Frm.put (S := W.heap.size) (w := w6) (qv := .slice qa2 nq2 qc2) j (.slice (some ⟨gj, 0, none⟩) 14 cj)))
            have HTA7 := Lib.hid (HTA6.out.move (Frm.put (S := W.heap.size) (w := w6) (qv := .slice qa2 nq2 qc2) j (.slice (some ⟨gj, 0, none⟩) 14 cj)))
            have HTI3 := Lib.hid (HTI2.out.grow HIX.out HJF.out HMJ.out hns')
            obtain ⟨w7, hw7⟩ : ∃ w7, w6.setCell ⟨W.heap.size, j, none⟩ (.slice (some ⟨gj, 0, none⟩) 14 cj) = w7 := ⟨_, rfl⟩
            rw [hw7] at HTS7 HNX7 HTA7
            have hgc7 : w7.cell? ⟨gn, s, none⟩ = some (.int .i64 (j : Int)) := by
              obtain ⟨g', e', _, h'⟩ := HNX7.out s _ HZ2.out
              cases e'
              exact h'
            have hgl7 : gn < w7.heap.size := by
              obtain ⟨g', e', h', _⟩ := HNX7.out s _ HZ2.out
              cases e'
              exact h'.2.1
            obtain ⟨w8, hw8⟩ : ∃ w8, w7.alloc (.cells #[.int .i64 (j : Int)] 3) = w8 := ⟨_, rfl⟩
            have hz8 : w8.heap.size = w7.heap.size + 1 := by rw [← hw8, World.size_alloc]
            have hblk : w8.heap[w7.heap.size]? = some (.cells #[.int .i64 (j : Int)] 3 (0, 0)) := by rw [← hw8]; exact heap_alloc_new w7 _
            have hgc8 : w8.cell? ⟨gn, s, none⟩ = some (.int .i64 (j : Int)) := by rw [← hw8]; exact (World.cell?_of_block (w := w7) (a := ⟨gn, s, none⟩) (Below.heap_alloc _ _ _ hgl7)).trans hgc7
            have hlS := HTS7.out.lt
            have hown8 : w8.ownsRow (W.heap.size + 1) 3 1 (.slice qa2 nq2 qc2) nq2 ((natI q2).map (Value.int .i64)) := by
              have h1 := HTS7.out.q
              rw [HNQ2.out] at h1
              rw [← hw8]
              exact h1.alloc _
            have HW7 := Lib.hid hw7
            have HW8 := Lib.hid hw8
            clear hw7 hw8 HTS6 HNX6 HTA6 HTI2 hbj hbj' hns'
            go_wp2_with (first
              | rw [HW7.out]
              | (at_builtin
                 rw [HW8.out]
                 refine wpList_append_lies _ (by rfl) _ _ 22 (by rfl) (W.heap.size + 1) 3 j0 _ 1 8 Tryd.underlying22 hj hj0 hj1 hj2 rfl (by omega) (.slice qa2 nq2 qc2) nq2 _ (by rfl) hown8 ⟨w7.heap.size, 0, none⟩ 1 1 _ (by rfl) (by rfl) (World.news_of_block hblk) (by simp [Value.oneCell']) (by omega) (by unfold maxLen; omega) (by omega) (by omega) (w7.heap.size + 1) (by omega) ?_
                 intro g3 cp w9 hown9 hgrow hat hlt9)
              | fail)
            have HREL : Hid (RNt (secN m.vars) (secN m.arrs) m.list W W.heap.size n t p m0 x ns (some ⟨gn, 0, none⟩) ta (.slice (some ⟨g3, 0, none⟩) (nq2 + 1) cp) (.int .i64 ((s : Int) + 1)) w9) := by
              have hl2 : (q2 ++ [j]).length = nq2 + 1 := by rw [List.length_append, HNQ2.out]; rfl
              have hat' : (Value.slice (some ⟨g3, 0, none⟩) (nq2 + 1) cp).ownBlock = (Value.slice qa2 nq2 qc2).ownBlock ∨ ∃ g, (Value.slice (some ⟨g3, 0, none⟩) (nq2 + 1) cp).ownBlock = some g ∧ w7.heap.size ≤ g := by
                rcases hat with e | e
                · left; rw [e]; rfl
                · right; exact ⟨g3, rfl, by omega⟩
              have hmv : ∀ b, Frm W.heap.size w7 (.slice qa2 nq2 qc2) b → w9.heap[b]? = w7.heap[b]? ∧ Frm W.heap.size w9 (.slice (some ⟨g3, 0, none⟩) (nq2 + 1) cp) b := fun b hb => hb.push HW8.out.symm hgrow hat'
              have hdr : (q2 ++ [j]).drop (t + 1) = q2.drop (t + 1) ++ [j] := by rw [List.drop_append_of_le_length (by rw [HNQ2.out]; omega)]
              refine ⟨rs2.set j (mj ||| aftM (secN m.vars) (secN m.arrs) x m0), q2 ++ [j], s + 1, some ⟨g3, 0, none⟩, cp, by rw [hl2], by go_num, by rw [HNL.out]; omega, by rw [hl2]; omega, ?_, ?_, ?_, ?_⟩
              · rw [doneN_succ HZ2.out, hdr]
                exact HTI3.out
              · rw [hl2]
                have h7 := HTS7.out
                exact h7.push HW8.out.symm hgrow hat' (by rw [HNQ2.out]; exact hown9)
              · rw [hl2]
                exact HNX7.out.move hmv
              · rw [hl2]
                exact HTA7.out.move hmv
            clear hown9 hgrow hat hblk hown8
            go_wp2_with fail
            go_roundw
            case rel => exact HREL.out
            case measure => simp [intOf]; omega
        · obtain rfl : s = nl := by omega
          have HREL : Hid (RQt (secN m.vars) (secN m.arrs) m.list W W.heap.size n (.slice qa2 nq2 qc2) (.int .i64 ((t : Int) + 1)) wr) := by
            refine ⟨rs2, q2, t + 1, qa2, qc2, by rw [HNQ2.out], by go_num, by rw [HNQ2.out]; omega, HTI2.out.done fun j hjf => ?_, by rw [HNQ2.out]; exact HTS2.out⟩
            have hm := (folS_mem HO.out HX.out (j : Int)).2 ⟨j, rfl, hjf⟩
            rw [HNS.out] at hm
            unfold doneN
            rw [← HNL.out, List.take_length]
            exact List.mem_map.2 ⟨_, hm, rfl⟩
          go_wp2_with fail
          go_roundw
          case rel => exact HREL.out
          case measure => simp [intOf]; omega
    · obtain rfl : t = nq := by omega
      have HFIN : Hid (TntN (secN m.vars) (secN m.arrs) m.list n w (.returned (.slice (some ⟨W.heap.size, 0, none⟩) n n)) wr) := by
        have h1 := HTL.out
        rw [← HNQ.out, List.drop_length] at h1
        exact ⟨rs, _, n, rfl, h1.done, HTS.out.bbs (h1.tb.len.trans HN.out) (by unfold maxLen; omega), HB.out.trans (HTS.out.bel.mono HB.out.size)⟩
      clear HTS x0 x1 x2 HTL HCL HBX
      go_wp2_with fail
      go_ret
      exact HFIN.out

end Go.Proofs.YtmodonligaejhaaDoor

namespace Go.Proofs.YtmodonligaejhaaDoor
open Go.RowKit Go.Conc
set_option linter.unusedVariables false

section
variable {P : Program} {Q : Exit → Act → World → Prop} {a : Act} {w : World}

/-- The statement comes to an end of which Q holds, in every frame of an ordinary call. -/
def CwN (P : Program) (c : Code) (Q : Exit → Act → World → Prop) (a : Act) (w : World) : Prop :=
  ∀ (b : Frame) (k : List Item) (cs : List Frame), b.kind ≠ .early → ∃ e a' w', Q e a' w' ∧ Arrives P (lone (b.at a (.code c :: k)) cs w) b k cs e a' w'
theorem CwN.of_wp {c : Code} (h : c.wp P Q a w) : CwN P c Q a w := fun b k cs _ => h b k cs
theorem CwN.mono {c : Code} {Q' : Exit → Act → World → Prop} (h : CwN P c Q a w) (hq : ∀ e a w, Q e a w → Q' e a w) : CwN P c Q' a w :=
  fun b k cs hb => let ⟨e, a', w', q, r⟩ := h b k cs hb; ⟨e, a', w', hq _ _ _ q, r⟩
theorem CwN.seq {x y : Code} (h : CwN P x (Exit.then (CwN P y Q) Q) a w) : CwN P (.seq x y) Q a w := by
  intro b k cs hb
  obtain ⟨e, a₁, w₁, hq, harr⟩ := h b (.code y :: k) cs hb
  cases e with
  | normal =>
    obtain ⟨e₂, a₂, w₂, hq₂, harr₂⟩ := hq b k cs hb
    exact ⟨e₂, a₂, w₂, hq₂, .of_steps (.head step_seq harr) harr₂⟩
  | exit id => exact ⟨_, a₁, w₁, hq, .of_steps (.one step_seq) (.pass (x := .code y) rfl (fun _ _ => .inl (by simp)) harr)⟩
  | goto l => exact ⟨_, a₁, w₁, hq, .of_steps (.one step_seq) (.pass (x := .code y) rfl (fun _ _ => .inl (by simp)) harr)⟩
  | ret => exact ⟨_, a₁, w₁, hq, .of_steps (.one step_seq) (.pass (x := .code y) rfl (fun _ _ => .inl (by simp)) harr)⟩
  | panic ch => exact ⟨_, a₁, w₁, hq, .of_steps (.one step_seq) (.pass (x := .code y) rfl (fun _ _ => .inl (by simp)) harr)⟩
  | outgrown => exact ⟨_, a₁, w₁, hq, .of_steps (.one step_seq) (.pass (x := .code y) rfl (fun _ _ => .inl (by simp)) harr)⟩
/-- The first part is walked by the kit's walk; what follows stands behind a variable. -/
theorem CwN.seqK {x y : Code} (h : ∀ K : Act → World → Prop, (∀ a w, CwN P y Q a w → K a w) → x.wp P (Exit.then K Q) a w) : CwN P (.seq x y) Q a w :=
  CwN.seq (CwN.of_wp (h _ fun _ _ h => h))
theorem CwN.cond_t {c : Operand} {x y : Code} (hc : a.eval c = .bool true) (h : CwN P x Q a w) : CwN P (.cond c x y) Q a w :=
  fun b k cs hb => let ⟨e, a', w', q, r⟩ := h b k cs hb; ⟨e, a', w', q, .of_steps (.one (step_cond hc)) r⟩
theorem CwN.cond_f {c : Operand} {x y : Code} (hc : a.eval c = .bool false) (h : CwN P y Q a w) : CwN P (.cond c x y) Q a w :=
  fun b k cs hb => let ⟨e, a', w', q, r⟩ := h b k cs hb; ⟨e, a', w', q, .of_steps (.one (step_cond hc)) r⟩
theorem CwN.block {id : Nat} {c : Code} (h : CwN P c (Exit.inBlock id Q) a w) : CwN P (.block id c) Q a w := by
  intro b k cs hb
  obtain ⟨e, a₁, w₁, hq, harr⟩ := h b (.inBlock id :: k) cs hb
  cases e with
  | normal => exact ⟨.normal, a₁, w₁, hq, .head step_block (Steps.trans harr (.one step_inBlock))⟩
  | exit id' =>
    by_cases hid : id' = id
    · simp only [Exit.inBlock, hid, if_true] at hq
      exact ⟨.normal, a₁, w₁, hq, .head step_block (harr k (by simp [exitTo, hid]))⟩
    · simp only [Exit.inBlock, hid, if_false] at hq
      refine ⟨.exit id', a₁, w₁, hq, fun k' hk => .head step_block (harr k' ?_)⟩
      have : (id == id') = false := by simp; exact fun h => hid h.symm
      simp [exitTo, this, hk]
  | goto l => exact ⟨_, a₁, w₁, hq, fun k' hk => .head step_block (harr k' (by simp [gotoIn, hk]))⟩
  | ret => exact ⟨_, a₁, w₁, hq, .of_steps (.one step_block) harr⟩
  | panic ch => exact ⟨_, a₁, w₁, hq, .of_steps (.one step_block) harr⟩
  | outgrown => exact ⟨_, a₁, w₁, hq, .of_steps (b := b) (k := k) (cs := cs) (e := .outgrown) (.one step_block) harr⟩
theorem CwN.loop {c : Code} (I : Act → World → Nat → Prop) (n₀ : Nat) (h₀ : I a w n₀)
    (round : ∀ a w n, I a w n → CwN P c (Exit.then (fun a' w' => ∃ n', I a' w' n' ∧ n' < n) Q) a w) : CwN P (.loop c) Q a w := by
  intro b k cs hb
  have key : ∀ n a w, I a w n →
      ∃ e a' w', Q e a' w' ∧ Arrives P (lone (b.at a (.code c :: .inLoop c :: k)) cs w) b k cs e a' w' := by
    intro n
    induction n using Nat.strongRecOn with
    | _ n ih =>
      intro a w hI
      obtain ⟨e, a₁, w₁, hq, harr⟩ := round a w n hI b (.inLoop c :: k) cs hb
      cases e with
      | normal =>
        obtain ⟨n', hI₁, hlt⟩ := hq
        obtain ⟨e₂, a₂, w₂, hq₂, harr₂⟩ := ih n' hlt a₁ w₁ hI₁
        exact ⟨e₂, a₂, w₂, hq₂, .of_steps (Steps.trans harr (.one step_inLoop)) harr₂⟩
      | exit id => exact ⟨_, a₁, w₁, hq, .pass (x := .inLoop c) rfl (fun _ _ => .inl (by simp)) harr⟩
      | goto l => exact ⟨_, a₁, w₁, hq, .pass (x := .inLoop c) rfl (fun _ _ => .inl (by simp)) harr⟩
      | ret => exact ⟨_, a₁, w₁, hq, .pass (x := .inLoop c) rfl (fun _ _ => .inl (by simp)) harr⟩
      | panic ch => exact ⟨_, a₁, w₁, hq, .pass (x := .inLoop c) rfl (fun _ _ => .inl (by simp)) harr⟩
      | outgrown => exact ⟨_, a₁, w₁, hq, .pass (x := .inLoop c) rfl (fun _ _ => .inl (by simp)) harr⟩
  obtain ⟨e, a', w', hq, harr⟩ := key _ a w h₀
  exact ⟨e, a', w', hq, .of_steps (.one step_loop) harr⟩

/-- The operations of a region from here on. -/
def OpN (P : Program) (ops : Array Oper) (Q : Exit → Act → World → Prop) (l : List Nat) (a : Act) (w : World) : Prop :=
  ∀ (b : Frame) (k : List Item) (cs : List Frame), b.kind ≠ .early → ∃ e a' w', Q e a' w' ∧ Arrives P (lone (b.at a (.inRegion ops l :: k)) cs w) b k cs e a' w'
theorem CwN.region {id : Nat} {ops : Array Oper} (h : OpN P ops Q (List.range ops.size) a w) : CwN P (.region id ops false) Q a w :=
  fun b k cs hb => let ⟨e, a', w', q, r⟩ := h b k cs hb; ⟨e, a', w', q, .of_steps (.one step_region) r⟩
theorem OpN.nil {ops : Array Oper} (h : Q .normal a w) : OpN P ops Q [] a w := fun b k cs _ => ⟨.normal, a, w, h, .one step_region_end⟩
section
variable {ops : Array Oper} {i : Nat} {rest : List Nat} {o : Oper}
theorem OpN.val {v : Value} {w' : World} (ho : ops[i]? = some o) (hw : Region.wanted o (yielded ops a.tmps) = true) (hr : (execOp a.eval o).run P w = .ok (.value v) w') (h : OpN P ops Q rest (a.put o.dst v) w') : OpN P ops Q (i :: rest) a w := by
  intro b k cs hb
  obtain ⟨e, a', w₂, hq, harr⟩ := h b k cs hb
  refine ⟨e, a', w₂, hq, .of_steps (.one (step_lone_go ?_)) harr⟩
  have hg := stepG_op (P := P) (b := b) (k := k) (cs := cs) (w := w) (rest := rest) ho hw
  have hfin : (b.at a (.inRegion ops (i :: rest) :: k)).finish v = b.at (a.put o.dst v) (.inRegion ops rest :: k) := by
    rw [Frame.finish_at, ho]; rfl
  rw [hg, ← hfin]; simp [stepG.apply, hr]
theorem OpN.send {c cap s r : Nat} {buf : Array Value} {z v : Value} {tm : Bool} {w₁ : World} (ho : ops[i]? = some o) (hw : Region.wanted o (yielded ops a.tmps) = true) (hr : (execOp a.eval o).run P w = .ok (.comm #[scase c v z] true .send) w₁)
    (hc : w₁.heap[c]? = some (.chan cap buf false s r tm)) (hroom : buf.size < cap) (h : OpN P ops Q rest (a.put o.dst undef) (w₁.setChan c cap (buf.push v) false (s + 1) r tm)) : OpN P ops Q (i :: rest) a w := by
  intro b k cs hb
  obtain ⟨e, a', w₂, hq, harr⟩ := h b k cs hb
  refine ⟨e, a', w₂, hq, .of_steps (.one ?_) harr⟩
  have hs := step_lone_send_room (stepG_comm (P := P) (main := true) (b := b) (k := k) (cs := cs) (rest := rest) ho hw hb hr) hc hroom
  rw [Frame.finish_at, ho] at hs
  exact hs
theorem OpN.recv {c cap s r : Nat} {buf : Array Value} {z : Value} {tm closed : Bool} {w₁ : World} (ho : ops[i]? = some o) (hw : Region.wanted o (yielded ops a.tmps) = true) (hr : (execOp a.eval o).run P w = .ok (.comm #[rcase c z] false .select) w₁)
    (hc : w₁.heap[c]? = some (.chan cap buf closed s r tm)) (hsome : 0 < buf.size) (h : OpN P ops Q rest (a.put o.dst (.tuple #[goInt 0, .bool true, buf.getD 0 undef])) (w₁.setChan c cap (buf.extract 1 buf.size) closed s (r + 1) tm)) : OpN P ops Q (i :: rest) a w := by
  intro b k cs hb
  obtain ⟨e, a', w₂, hq, harr⟩ := h b k cs hb
  refine ⟨e, a', w₂, hq, .of_steps (.one ?_) harr⟩
  have hs := step_lone_select_recv_buf (stepG_comm (P := P) (main := true) (b := b) (k := k) (cs := cs) (rest := rest) ho hw hb hr) hc hsome
  rw [Frame.finish_at, ho] at hs
  exact hs
theorem OpN.dflt {c cap s r : Nat} {z : Value} {tm : Bool} {w₁ : World} (ho : ops[i]? = some o) (hw : Region.wanted o (yielded ops a.tmps) = true) (hr : (execOp a.eval o).run P w = .ok (.comm #[rcase c z] false .select) w₁)
    (hc : w₁.heap[c]? = some (.chan cap #[] false s r tm)) (h : OpN P ops Q rest (a.put o.dst (.tuple #[goInt (-1), .bool false, z])) w₁) : OpN P ops Q (i :: rest) a w := by
  intro b k cs hb
  obtain ⟨e, a', w₂, hq, harr⟩ := h b k cs hb
  refine ⟨e, a', w₂, hq, .of_steps (.one ?_) harr⟩
  have hs := step_lone_select_default (stepG_comm (P := P) (main := true) (b := b) (k := k) (cs := cs) (rest := rest) ho hw hb hr) hc
  rw [Frame.finish_at, ho] at hs
  exact hs
end

theorem calls_of_cwN {f : FuncId} {fn : Func} {c : Code} {args : Array Value} {R : Ending → World → Prop}
    (hf : P.funcs[f]? = some fn) (hb : fn.body = some c)
    (h : CwN P c (bodyPost P fn R) { tmps := args ++ Array.replicate (fn.ntmps - args.size) undef, defers := [] } w) :
    Calls P f args w R := by
  intro cs
  let b : Frame := { (default : Frame) with fn := f, kind := .normal }
  have henter : Frame.enter P f args .normal =
      b.at { tmps := args ++ Array.replicate (fn.ntmps - args.size) undef, defers := [] } [.code c] := by
    simp [Frame.enter, Frame.at, hf, hb, b]
  obtain ⟨e, a', w', hq, harr⟩ := h b [] cs (by simp [b])
  rw [← henter] at harr
  cases e with
  | normal =>
    obtain ⟨hd, v, hr, hR⟩ := hq
    exact ⟨.returned v, w', _, hR, Steps.trans harr (.one step_end), rfl, rfl, hd, rfl, fn, hf, hr⟩
  | ret =>
    obtain ⟨hd, v, hr, hR⟩ := hq
    obtain ⟨todo, hs⟩ := harr
    exact ⟨.returned v, w', _, hR, hs, rfl, rfl, hd, rfl, fn, hf, hr⟩
  | panic chain =>
    obtain ⟨hd, hR⟩ := hq
    obtain ⟨todo, hs⟩ := harr
    exact ⟨.panicked chain, w', _, hR, hs, rfl, rfl, hd, fn, hf⟩
  | exit id => exact hq.elim
  | goto l => exact hq.elim
  | outgrown => exact ⟨.outgrown, w', b, hq, harr.resolve_left (by simp [b]), rfl, trivial⟩
end

end Go.Proofs.YtmodonligaejhaaDoor

namespace Go.Proofs.YtmodonligaejhaaDoor
open Go.RowKit Go.Conc
set_option linter.unusedVariables false

theorem Tryd.infoR : (Tryd.prog.info? 81).map (fun i => (i.zero, i.size, i.bytes)) = some (some (.int .u16 0), 1, 2) := by kernel_rfl
def v16 (m : Nat) : Value := .int .u16 (m : Int)
def vI (m : Nat) : Value := .int .i64 (m : Int)
theorem regs0 (n : Nat) : (madeCells (Value.int .u16 0).cells (n * 1)).toList = (List.replicate n 0).map v16 := by
  rw [Nat.mul_one, List.map_replicate]
  exact toList_madeCells_one _ _
/-- The rows and the channel. -/
structure RCh (W : World) (S C n : Nat) (rs ws : List Nat) (w : World) : Prop where
  row : w.ownsRow S 81 1 (.slice (some ⟨S, 0, none⟩) n n) n (rs.map v16)
  ch : ∃ s r, w.heap[C]? = some (.chan (15 * n) (ws.map vI).toArray false s r false)
  bel : Below S W w
  sc : S < C
theorem RCh.lt {W : World} {S C n : Nat} {rs ws : List Nat} {w : World} (h : RCh W S C n rs ws w) : C < w.heap.size := by
  obtain ⟨s, r, h⟩ := h.ch
  exact (Array.getElem?_eq_some_iff.1 h).1
theorem RCh.later {W : World} {S C n : Nat} {rs ws : List Nat} {w w' : World} (h : RCh W S C n rs ws w) (hb : Below w.heap.size w w') : RCh W S C n rs ws w' := by
  have hg : w.grownBy w' none := ⟨hb.os, hb.tape, hb.output, hb.size, fun k hk _ => hb.block k hk⟩
  have hl := h.lt
  have hs := h.sc
  obtain ⟨s, r, hc⟩ := h.ch
  exact ⟨h.row.kept hg (.inr (by simp [Value.ownBlock])), ⟨s, r, (hb.block _ hl).trans hc⟩, h.bel.trans (hb.mono (by omega)), h.sc⟩
theorem RCh.at {W : World} {S C n : Nat} {rs ws : List Nat} {w : World} (h : RCh W S C n rs ws w) {i m : Nat} (hm : rs[i]? = some m) (hi : i < n) : w.cell? ⟨S, i, none⟩ = some (.int .u16 (m : Int)) ∧ w.frozen? ⟨S, i, none⟩ = false := by
  refine ⟨?_, h.row.frozenAt i⟩
  rw [h.row.cellAt i (by omega), List.getElem?_map, hm]; rfl
theorem RCh.put {W : World} {S C n : Nat} {rs ws : List Nat} {w : World} (h : RCh W S C n rs ws w) (j m' : Nat) : RCh W S C n (rs.set j m') ws (w.setCell ⟨S, j, none⟩ (.int .u16 (m' : Int))) := by
  have hs := h.sc
  obtain ⟨s, r, hc⟩ := h.ch
  refine ⟨?_, ⟨s, r, (Below.heap_setCell _ _ _ _ (by simp; omega)).trans hc⟩, h.bel.setCell (p := ⟨S, j, none⟩) (Nat.le_refl _) _, h.sc⟩
  rw [List.map_set]
  exact (h.row.stored j _).1
theorem RCh.chan {W : World} {S C n : Nat} {rs ws ws' : List Nat} {w : World} (h : RCh W S C n rs ws w) (s r : Nat) {buf : Array Value} (hb : buf = (ws'.map vI).toArray) : RCh W S C n rs ws' (w.setChan C (15 * n) buf false s r false) := by
  have hl := h.lt
  have hs := h.sc
  refine ⟨ownsRow_far h.row fun g hg hgl => ?_, ⟨s, r, by rw [heap_setChan _ _ _ _ _ _ _ _ hl, hb]⟩, below_setChan h.bel (by omega) _ _ _ _ _ _, h.sc⟩
  cases hg
  simp only [World.setChan]
  rw [Array.getElem?_setIfInBounds_ne (by omega)]
theorem ch_cell {w : World} {c cap : Nat} {buf : Array Value} {cl : Bool} {s r : Nat} {tm : Bool} {b : Nat} (hb : b ≠ c) (o : Nat) : (w.setChan c cap buf cl s r tm).cell? ⟨b, o, none⟩ = w.cell? ⟨b, o, none⟩ := by
  have e : (w.setChan c cap buf cl s r tm).heap[b]? = w.heap[b]? := by
    simp only [World.setChan]
    rw [Array.getElem?_setIfInBounds_ne (fun e => hb e.symm)]
  exact World.cell?_of_block (w := w) (a := ⟨b, o, none⟩) e

/-- The least map in a row of its own. -/
def LeastN (sv sa : Nat → Bool) (l : List Ins) (n : Nat) (w : World) (e : Ending) (w' : World) : Prop := ∃ (rs : List Nat) (S : Nat), e = .returned (.slice (some ⟨S, 0, none⟩) n n) ∧ IsT sv sa l rs ∧ w'.ownsRow w.heap.size 81 1 (.slice (some ⟨S, 0, none⟩) n n) n (rs.map v16) ∧ Below w.heap.size w w'
/-- Followers under look. -/
def dnF (fs : List Nat) (s : Nat) : List Nat := fs.take s
theorem dnF_succ {fs : List Nat} {s j : Nat} (h : fs[s]? = some j) : dnF fs (s + 1) = dnF fs s ++ [j] := by
  unfold dnF; rw [List.take_add_one, h]; rfl
theorem grow_no {mj af : Nat} (hm : mj < 32768) (ha : af < 32768) (h : Sub af mj) : (bits .andNot .u16 (af : Int) (mj : Int) != 0) = false := by
  rw [u16_andNot_nat af mj (by omega) (by omega), (sub_iff hm ha).2 h]; rfl
theorem grow_yes {mj af : Nat} (hm : mj < 32768) (ha : af < 32768) (h : ¬ Sub af mj) : (bits .andNot .u16 (af : Int) (mj : Int) != 0) = true := by
  rw [u16_andNot_nat af mj (by omega) (by omega)]
  have h1 : af &&& (65535 - mj) ≠ 0 := fun e => h ((sub_iff hm ha).1 e)
  simp only [bne_iff_ne, ne_eq]
  omega
theorem then_exit {id : Nat} {K : Act → World → Prop} {Q : Exit → Act → World → Prop} {a : Act} {w : World} (h : Q (.exit id) a w) : Exit.then K Q (.exit id) a w := h
theorem inBlock_exit {id : Nat} {Q : Exit → Act → World → Prop} {a : Act} {w : World} (h : Q .normal a w) : Exit.inBlock id Q (.exit id) a w := by
  simp [Exit.inBlock, h]
/-- A frame of which some slots are known. -/
theorem frmA {a : Act} {v0 v1 v3 v4 : Value} (h : a.defers = [] ∧ a.tmps.size = 64 ∧ a.tmps[0]? = some v0 ∧ a.tmps[1]? = some v1 ∧ a.tmps[3]? = some v3 ∧ a.tmps[4]? = some v4) : ∃ u : Nat → Value, a = { tmps := #[v0, v1, (u 2), v3, v4, (u 5), (u 6), (u 7), (u 8), (u 9), (u 10), (u 11), (u 12), (u 13), (u 14), (u 15), (u 16), (u 17), (u 18), (u 19), (u 20), (u 21), (u 22), (u 23), (u 24), (u 25), (u 26), (u 27), (u 28), (u 29), (u 30), (u 31), (u 32), (u 33), (u 34), (u 35), (u 36), (u 37), (u 38), (u 39), (u 40), (u 41), (u 42), (u 43), (u 44), (u 45), (u 46), (u 47), (u 48), (u 49), (u 50), (u 51), (u 52), (u 53), (u 54), (u 55), (u 56), (u 57), (u 58), (u 59), (u 60), (u 61), (u 62), (u 63)], defers := [] } := by
  obtain ⟨hd, hs, h0, h1, h3, h4⟩ := h
  have gs : ∀ i, i < 64 → a.tmps[i]? = some (a.tmps.getD i undef) := fun i hi => by
    have hl : i < a.tmps.size := by omega
    rw [Array.getElem?_eq_getElem hl]
    simp [Array.getD, hl]
  refine ⟨fun i => a.tmps.getD i undef, ?_⟩
  obtain ⟨t, d⟩ := a
  simp only at hd hs h0 h1 h3 h4 gs
  subst hd
  congr 1
  apply Array.ext_getElem?
  intro i
  by_cases hi : i < 64
  · match i, hi with
    | 0, _ => exact (h0).trans rfl
    | 1, _ => exact (h1).trans rfl
    | 2, _ => exact (gs 2 (by omega)).trans rfl
    | 3, _ => exact (h3).trans rfl
    | 4, _ => exact (h4).trans rfl
    | 5, _ => exact (gs 5 (by omega)).trans rfl
    | 6, _ => exact (gs 6 (by omega)).trans rfl
    | 7, _ => exact (gs 7 (by omega)).trans rfl
    | 8, _ => exact (gs 8 (by omega)).trans rfl
    | 9, _ => exact (gs 9 (by omega)).trans rfl
    | 10, _ => exact (gs 10 (by omega)).trans rfl
    | 11, _ => exact (gs 11 (by omega)).trans rfl
    | 12, _ => exact (gs 12 (by omega)).trans rfl
    | 13, _ => exact (gs 13 (by omega)).trans rfl
    | 14, _ => exact (gs 14 (by omega)).trans rfl
    | 15, _ => exact (gs 15 (by omega)).trans rfl
    | 16, _ => exact (gs 16 (by omega)).trans rfl
    | 17, _ => exact (gs 17 (by omega)).trans rfl
    | 18, _ => exact (gs 18 (by omega)).trans rfl
    | 19, _ => exact (gs 19 (by omega)).trans rfl
    | 20, _ => exact (gs 20 (by omega)).trans rfl
    | 21, _ => exact (gs 21 (by omega)).trans rfl
    | 22, _ => exact (gs 22 (by omega)).trans rfl
    | 23, _ => exact (gs 23 (by omega)).trans rfl
    | 24, _ => exact (gs 24 (by omega)).trans rfl
    | 25, _ => exact (gs 25 (by omega)).trans rfl
    | 26, _ => exact (gs 26 (by omega)).trans rfl
    | 27, _ => exact (gs 27 (by omega)).trans rfl
    | 28, _ => exact (gs 28 (by omega)).trans rfl
    | 29, _ => exact (gs 29 (by omega)).trans rfl
    | 30, _ => exact (gs 30 (by omega)).trans rfl
    | 31, _ => exact (gs 31 (by omega)).trans rfl
    | 32, _ => exact (gs 32 (by omega)).trans rfl
    | 33, _ => exact (gs 33 (by omega)).trans rfl
    | 34, _ => exact (gs 34 (by omega)).trans rfl
    | 35, _ => exact (gs 35 (by omega)).trans rfl
    | 36, _ => exact (gs 36 (by omega)).trans rfl
    | 37, _ => exact (gs 37 (by omega)).trans rfl
    | 38, _ => exact (gs 38 (by omega)).trans rfl
    | 39, _ => exact (gs 39 (by omega)).trans rfl
    | 40, _ => exact (gs 40 (by omega)).trans rfl
    | 41, _ => exact (gs 41 (by omega)).trans rfl
    | 42, _ => exact (gs 42 (by omega)).trans rfl
    | 43, _ => exact (gs 43 (by omega)).trans rfl
    | 44, _ => exact (gs 44 (by omega)).trans rfl
    | 45, _ => exact (gs 45 (by omega)).trans rfl
    | 46, _ => exact (gs 46 (by omega)).trans rfl
    | 47, _ => exact (gs 47 (by omega)).trans rfl
    | 48, _ => exact (gs 48 (by omega)).trans rfl
    | 49, _ => exact (gs 49 (by omega)).trans rfl
    | 50, _ => exact (gs 50 (by omega)).trans rfl
    | 51, _ => exact (gs 51 (by omega)).trans rfl
    | 52, _ => exact (gs 52 (by omega)).trans rfl
    | 53, _ => exact (gs 53 (by omega)).trans rfl
    | 54, _ => exact (gs 54 (by omega)).trans rfl
    | 55, _ => exact (gs 55 (by omega)).trans rfl
    | 56, _ => exact (gs 56 (by omega)).trans rfl
    | 57, _ => exact (gs 57 (by omega)).trans rfl
    | 58, _ => exact (gs 58 (by omega)).trans rfl
    | 59, _ => exact (gs 59 (by omega)).trans rfl
    | 60, _ => exact (gs 60 (by omega)).trans rfl
    | 61, _ => exact (gs 61 (by omega)).trans rfl
    | 62, _ => exact (gs 62 (by omega)).trans rfl
    | 63, _ => exact (gs 63 (by omega)).trans rfl
    | q + 64, h => exact absurd h (by omega)
  · rw [Array.getElem?_eq_none (by omega), Array.getElem?_eq_none (by simp; omega)]
/-- A frame of which some slots are known. -/
theorem frmB {a : Act} {v0 v1 v3 v4 v5 v6 v41 v42 v43 : Value} (h : a.defers = [] ∧ a.tmps.size = 64 ∧ a.tmps[0]? = some v0 ∧ a.tmps[1]? = some v1 ∧ a.tmps[3]? = some v3 ∧ a.tmps[4]? = some v4 ∧ a.tmps[5]? = some v5 ∧ a.tmps[6]? = some v6 ∧ a.tmps[41]? = some v41 ∧ a.tmps[42]? = some v42 ∧ a.tmps[43]? = some v43) : ∃ u : Nat → Value, a = { tmps := #[v0, v1, (u 2), v3, v4, v5, v6, (u 7), (u 8), (u 9), (u 10), (u 11), (u 12), (u 13), (u 14), (u 15), (u 16), (u 17), (u 18), (u 19), (u 20), (u 21), (u 22), (u 23), (u 24), (u 25), (u 26), (u 27), (u 28), (u 29), (u 30), (u 31), (u 32), (u 33), (u 34), (u 35), (u 36), (u 37), (u 38), (u 39), (u 40), v41, v42, v43, (u 44), (u 45), (u 46), (u 47), (u 48), (u 49), (u 50), (u 51), (u 52), (u 53), (u 54), (u 55), (u 56), (u 57), (u 58), (u 59), (u 60), (u 61), (u 62), (u 63)], defers := [] } := by
  obtain ⟨hd, hs, h0, h1, h3, h4, h5, h6, h41, h42, h43⟩ := h
  have gs : ∀ i, i < 64 → a.tmps[i]? = some (a.tmps.getD i undef) := fun i hi => by
    have hl : i < a.tmps.size := by omega
    rw [Array.getElem?_eq_getElem hl]
    simp [Array.getD, hl]
  refine ⟨fun i => a.tmps.getD i undef, ?_⟩
  obtain ⟨t, d⟩ := a
  simp only at hd hs h0 h1 h3 h4 h5 h6 h41 h42 h43 gs
  subst hd
  congr 1
  apply Array.ext_getElem?
  intro i
  by_cases hi : i < 64
  · match i, hi with
    | 0, _ => exact (h0).trans rfl
    | 1, _ => exact (h1).trans rfl
    | 2, _ => exact (gs 2 (by omega)).trans rfl
    | 3, _ => exact (h3).trans rfl
    | 4, _ => exact (h4).trans rfl
    | 5, _ => exact (h5).trans rfl
    | 6, _ => exact (h6).trans rfl
    | 7, _ => exact (gs 7 (by omega)).trans rfl
    | 8, _ => exact (gs 8 (by omega)).trans rfl
    | 9, _ => exact (gs 9 (by omega)).trans rfl
    | 10, _ => exact (gs 10 (by omega)).trans rfl
    | 11, _ => exact (gs 11 (by omega)).trans rfl
    | 12, _ => exact (gs 12 (by omega)).trans rfl
    | 13, _ => exact (gs 13 (by omega)).trans rfl
    | 14, _ => exact (gs 14 (by omega)).trans rfl
    | 15, _ => exact (gs 15 (by omega)).trans rfl
    | 16, _ => exact (gs 16 (by omega)).trans rfl
    | 17, _ => exact (gs 17 (by omega)).trans rfl
    | 18, _ => exact (gs 18 (by omega)).trans rfl
    | 19, _ => exact (gs 19 (by omega)).trans rfl
    | 20, _ => exact (gs 20 (by omega)).trans rfl
    | 21, _ => exact (gs 21 (by omega)).trans rfl
    | 22, _ => exact (gs 22 (by omega)).trans rfl
    | 23, _ => exact (gs 23 (by omega)).trans rfl
    | 24, _ => exact (gs 24 (by omega)).trans rfl
    | 25, _ => exact (gs 25 (by omega)).trans rfl
    | 26, _ => exact (gs 26 (by omega)).trans rfl
    | 27, _ => exact (gs 27 (by omega)).trans rfl
    | 28, _ => exact (gs 28 (by omega)).trans rfl
    | 29, _ => exact (gs 29 (by omega)).trans rfl
    | 30, _ => exact (gs 30 (by omega)).trans rfl
    | 31, _ => exact (gs 31 (by omega)).trans rfl
    | 32, _ => exact (gs 32 (by omega)).trans rfl
    | 33, _ => exact (gs 33 (by omega)).trans rfl
    | 34, _ => exact (gs 34 (by omega)).trans rfl
    | 35, _ => exact (gs 35 (by omega)).trans rfl
    | 36, _ => exact (gs 36 (by omega)).trans rfl
    | 37, _ => exact (gs 37 (by omega)).trans rfl
    | 38, _ => exact (gs 38 (by omega)).trans rfl
    | 39, _ => exact (gs 39 (by omega)).trans rfl
    | 40, _ => exact (gs 40 (by omega)).trans rfl
    | 41, _ => exact (h41).trans rfl
    | 42, _ => exact (h42).trans rfl
    | 43, _ => exact (h43).trans rfl
    | 44, _ => exact (gs 44 (by omega)).trans rfl
    | 45, _ => exact (gs 45 (by omega)).trans rfl
    | 46, _ => exact (gs 46 (by omega)).trans rfl
    | 47, _ => exact (gs 47 (by omega)).trans rfl
    | 48, _ => exact (gs 48 (by omega)).trans rfl
    | 49, _ => exact (gs 49 (by omega)).trans rfl
    | 50, _ => exact (gs 50 (by omega)).trans rfl
    | 51, _ => exact (gs 51 (by omega)).trans rfl
    | 52, _ => exact (gs 52 (by omega)).trans rfl
    | 53, _ => exact (gs 53 (by omega)).trans rfl
    | 54, _ => exact (gs 54 (by omega)).trans rfl
    | 55, _ => exact (gs 55 (by omega)).trans rfl
    | 56, _ => exact (gs 56 (by omega)).trans rfl
    | 57, _ => exact (gs 57 (by omega)).trans rfl
    | 58, _ => exact (gs 58 (by omega)).trans rfl
    | 59, _ => exact (gs 59 (by omega)).trans rfl
    | 60, _ => exact (gs 60 (by omega)).trans rfl
    | 61, _ => exact (gs 61 (by omega)).trans rfl
    | 62, _ => exact (gs 62 (by omega)).trans rfl
    | 63, _ => exact (gs 63 (by omega)).trans rfl
    | q + 64, h => exact absurd h (by omega)
  · rw [Array.getElem?_eq_none (by omega), Array.getElem?_eq_none (by simp; omega)]

/-- The numbers of the followers lie in a row of their own. -/
def NxC (w : World) (S C : Nat) (na : Option Addr) (fs : List Nat) : Prop := ∀ (s j : Nat), fs[s]? = some j → ∃ g, na = some ⟨g, 0, none⟩ ∧ g ≠ S ∧ g ≠ C ∧ g < w.heap.size ∧ w.cell? ⟨g, s, none⟩ = some (.int .i64 (j : Int))
theorem NxC.of_own {w3 : World} {base S C n nc : Nat} {na : Option Addr} {fs : List Nat} (h : OwnI w3 base (.slice na n nc) (natI fs)) (hS : S < base) (hC : C < base) : NxC w3 S C na fs := fun s j hj => by
  have hs := (List.getElem?_eq_some_iff.1 hj).1
  rcases h.2 with ⟨_, h2⟩ | ⟨g, cp, cur, e1, e2, e3, e4⟩
  · rw [natI_len] at h2; omega
  · have hl := h.1
    cases e1
    refine ⟨g, rfl, by omega, by omega, (Array.getElem?_eq_some_iff.1 e3).1, ?_⟩
    have h' : w3.ownsRow base 3 1 (.slice (some ⟨g, 0, none⟩) (natI fs).length nc) (natI fs).length ((natI fs).map (Value.int .i64)) := h
    rw [h'.cellAt s (by rw [natI_len]; omega)]
    simp [natI, hj]
theorem NxC.put {w : World} {S C : Nat} {na : Option Addr} {fs : List Nat} (h : NxC w S C na fs) (j : Nat) (u : Value) : NxC (w.setCell ⟨S, j, none⟩ u) S C na fs := fun s z hz => by
  obtain ⟨g, h1, h2, h3, h4, h5⟩ := h s z hz
  exact ⟨g, h1, h2, h3, by simpa [World.setCell] using h4, (World.cell?_of_block (w := w) (a := ⟨g, s, none⟩) (Below.heap_setCell _ _ _ _ (by simpa using h2))).trans h5⟩
theorem NxC.chan {w : World} {S C : Nat} {na : Option Addr} {fs : List Nat} (h : NxC w S C na fs) (cap : Nat) (buf : Array Value) (s r : Nat) : NxC (w.setChan C cap buf false s r false) S C na fs := fun s' z hz => by
  obtain ⟨g, h1, h2, h3, h4, h5⟩ := h s' z hz
  exact ⟨g, h1, h2, h3, by rw [size_setChan]; exact h4, (ch_cell h3 s').trans h5⟩

set_option maxRecDepth 100000 in
set_option maxHeartbeats 8000000 in
/-- **leastRows.** -/
theorem least_one (m : Cd) (l : List Ins) (la : Option Addr) (n lc : Nat) (f : Nat → Nat) (w : World) (h : NAt w (fun b => b < w.heap.size) l la) (hn : l.length = n) (hok : Okc l) (hf : KnT m f) (hit : ∀ (i : Nat) (x : Ins), l[i]? = some x → InsT m.vars.length m.arrs.length x) :
    Calls Tryd.prog 42 #[.agg (arrV la n lc f)] w (LeastN (secN m.vars) (secN m.arrs) l n w) := by
  obtain ⟨i0, hi, hz0, hz1, hz2⟩ := info_parts Tryd.infoR
  obtain ⟨j0, hj, hj0, hj1, hj2⟩ := info_parts Tryd.infoI
  obtain ⟨W, hW⟩ : ∃ W, w.alloc (.cells (arrV la n lc f) 69) = W := ⟨_, rfl⟩
  have hB : Below w.heap.size w W := by rw [← hW]; exact (Below.refl _ w).alloc (Nat.le_refl _) _
  have hbx : W.heap[w.heap.size]? = some (.cells (arrV la n lc f) 69 (0, 0)) := by rw [← hW]; exact heap_alloc_new w _
  have hz : W.heap.size = w.heap.size + 1 := by rw [← hW]; simp
  have hp := hok.pos
  have hle := hok.le
  rw [hn] at hp hle
  have H : Hid (∀ v, Below W.heap.size W v → v.heap[w.heap.size]? = some (.cells (arrV la n lc f) 69 (0, 0)) ∧ NAt v (fun b => b < v.heap.size) l la ∧ NAt v (fun b => b < w.heap.size) l la) := fun v hv => by
    have hb := hB.trans (hv.mono hB.size)
    exact ⟨(hv.block _ (by omega)).trans hbx, h.below hb, h.wide (fun k hk => hb.block k hk) fun _ hk => hk⟩
  have HN := Lib.hid hn
  have HO := Lib.hid hok
  have HF := Lib.hid hf
  have HIT := Lib.hid hit
  have HW := Lib.hid hW
  have HB := Lib.hid hB
  have HZ : Hid (W.heap.size = w.heap.size + 1) := hz
  have hmul : (n : Int) * 15 = ((15 * n : Nat) : Int) := by omega
  have hmk : ∀ v : World, (Instr.makeChan 107 (.int .i64 ((n : Int) * 15))).run Tryd.prog v = .ok (.chan (some v.heap.size)) (v.alloc (.chan (15 * n) #[] false 0 0 false)) := fun v => by
    rw [hmul]
    exact run_makeChan (P := Tryd.prog) (w := v) Tryd.underlying107 hj .i64 (15 * n) (by omega) (by rw [hj2]; omega)
  have v0 : W.cell? ⟨w.heap.size, 0, none⟩ = some (.slice la n lc) := by rw [cell_at hbx]; rfl
  clear h hn hok hf hit hW hB hz hbx hmul
  unfold arrV at HW
  refine calls_of_cwN Tryd.func42 rfl ?_
  simp only [Tryd.ntmps42, List.size_toArray, List.length_cons, List.length_nil, Nat.reduceAdd, Nat.reduceSub, Array.replicate_succ, Array.replicate_zero, List.push_toArray, List.append_toArray, List.nil_append, List.cons_append]
  refine CwN.seqK (fun K hK => ?_)
  go_wp2_with (first | rw [HW.out] | fail)
  refine CwN.seqK (fun K hK => ?_)
  go_wp2_with (first
    | (at_make
       refine wpList_make_full _ rfl _ _ 72 rfl W.heap.size 81 i0 (.int .u16 0) 1 Tryd.underlying72 hi hz0 hz1 .i64 .i64 (n : Int) (n : Int) n rfl rfl rfl rfl (by rw [hz2]; omega) (by unfold maxLen; omega) (Nat.le_refl _) ?_
       intro w1 hown1 hgrow1
       rw [regs0] at hown1
       have hb1 : Below W.heap.size W w1 := (Below.refl _ W).grown hgrow1 (Nat.le_refl _) (fun k e => (by cases e)))
    | fail)
  have v1 : w1.cell? ⟨w.heap.size, 0, none⟩ = some (.slice la n lc) := by rw [cell_at (H.out w1 hb1).1]; rfl
  obtain ⟨C, hC⟩ : ∃ C, w1.heap.size = C := ⟨_, rfl⟩
  obtain ⟨w2, hw2⟩ : ∃ w2, w1.alloc (.chan (15 * n) #[] false 0 0 false) = w2 := ⟨_, rfl⟩
  have hS1 := (hown1.lt W.heap.size rfl).2
  have HR2 : Hid (RCh W W.heap.size C n (List.replicate n 0) [] w2) := by
    have hbk : w2.heap[C]? = some (.chan (15 * n) #[] false 0 0 false) := by rw [← hw2, ← hC]; exact heap_alloc_new w1 _
    exact ⟨by rw [← hw2]; exact hown1.alloc _, ⟨0, 0, hbk⟩, by rw [← hw2]; exact hb1.alloc (by omega) _, by omega⟩
  have HW2 := Lib.hid hw2
  have HC := Lib.hid hC
  refine CwN.seqK (fun K hK => ?_)
  clear hown1 hgrow1 hi hz0 hz1 hz2 v0 HW
  go_wp2_with (first | rw [HW2.out] | fail)
  clear hmk v1 HW2 hS1 hb1 hw2 hC
  have h0r : (List.replicate n 0)[0]? = some 0 := by rw [List.getElem?_replicate, if_pos (by omega)]
  obtain ⟨c0, f0⟩ := HR2.out.at h0r (by omega)
  have HR3 := Lib.hid (HR2.out.put 0 16384)
  obtain ⟨w3, hw3⟩ : ∃ w3, w2.setCell ⟨W.heap.size, 0, none⟩ (.int .u16 ((16384 : Nat) : Int)) = w3 := ⟨_, rfl⟩
  have hw3' : w2.setCell ⟨W.heap.size, 0, none⟩ (.int .u16 16384) = w3 := hw3
  rw [hw3] at HR3
  have HW3 := Lib.hid hw3'
  clear hw3 hw3' h0r HR2
  refine CwN.seqK (fun K hK => ?_)
  go_wp2_with fail
  rw [HW3.out]
  clear c0 f0 HW3 HC
  have hcb : ∃ s r, w3.heap[C]? = some (.chan (15 * n) #[] false s r false) := HR3.out.ch
  obtain ⟨s1, r1, hcb⟩ := hcb
  have HR4 := Lib.hid (HR3.out.chan (ws' := [0]) (s1 + 1) r1 (buf := (#[] : Array Value).push (.int .i64 0)) rfl)
  refine CwN.seq (CwN.region ?_)
  show OpN _ _ _ [0, 1] _ _
  refine OpN.val (v := .chan (some C)) (w' := w3) rfl rfl (by simp [go_sem, execOp, Act.eval]) ?_
  simp only [Act.put, List.setIfInBounds_toArray]
  refine OpN.send (c := C) (cap := 15 * n) (buf := #[]) (s := s1) (r := r1) (z := .tuple #[]) (v := .int .i64 0) (tm := false) rfl rfl (by simp [go_sem, execOp, scase, Act.eval]) hcb (by simp; omega) ?_
  simp only [Act.put]
  refine OpN.nil ?_
  show CwN _ _ _ _ _
  obtain ⟨w4, hw4⟩ : ∃ w4, w3.setChan C (15 * n) ((#[] : Array Value).push (.int .i64 0)) false (s1 + 1) r1 false = w4 := ⟨_, rfl⟩
  rw [hw4] at HR4 ⊢
  clear hw4 hcb HR3
  refine CwN.block ?_
  have hTL0 := TL.start (sv := secN m.vars) (sa := secN m.arrs) HO.out
  rw [HN.out] at hTL0
  refine CwN.loop (fun a wr N => ∃ (rs ws : List Nat) (kk : Nat), (a.defers = [] ∧ a.tmps.size = 64 ∧ a.tmps[0]? = some (.agg (arrV la n lc f)) ∧ a.tmps[1]? = some (.pointer (some ⟨w.heap.size, 0, none⟩)) ∧ a.tmps[3]? = some (.slice (some ⟨W.heap.size, 0, none⟩) n n) ∧ a.tmps[4]? = some (.chan (some C))) ∧ TL (secN m.vars) (secN m.arrs) l rs ws kk ∧ RCh W W.heap.size C n rs ws wr ∧ N = 15 * n - kk) (15 * n) ⟨_, [0], 0, ⟨rfl, rfl, rfl, rfl, rfl, rfl⟩, hTL0, HR4.out, by omega⟩ ?_
  clear hTL0 HR4
  rintro a wr N ⟨rs, ws, kk, hfr, htl, hrc, rfl⟩
  obtain ⟨u, rfl⟩ := frmA hfr
  clear hfr
  have HTL := Lib.hid htl
  have HRC := Lib.hid hrc
  have hfew := htl.few
  rw [HN.out] at hfew
  clear htl hrc
  refine CwN.block ?_
  refine CwN.seqK (fun K hK => ?_)
  go_wp2_with fail
  refine CwN.seq (CwN.region ?_)
  show OpN _ _ _ [0, 1, 2] _ _
  obtain ⟨s2, r2, hcb⟩ := HRC.out.ch
  cases ws with
  | nil =>
    have hcb0 : wr.heap[C]? = some (.chan (15 * n) #[] false s2 r2 false) := hcb
    have HFIN : Hid (LeastN (secN m.vars) (secN m.arrs) l n w (.returned (.slice (some ⟨W.heap.size, 0, none⟩) n n)) wr) := ⟨rs, W.heap.size, rfl, HTL.out.done, ownsRow_mono HRC.out.row HB.out.size, HB.out.trans (HRC.out.bel.mono HB.out.size)⟩
    clear hcb
    refine OpN.dflt (c := C) (cap := 15 * n) (s := s2) (r := r2) (z := .int .i64 0) (tm := false) (w₁ := wr) rfl rfl (by simp [go_sem, execOp, rcase, Act.eval]) hcb0 ?_
    simp only [Act.put, List.setIfInBounds_toArray]
    refine OpN.val (v := goInt (-1)) (w' := wr) rfl rfl (by simp [go_sem, execOp, Act.eval]) ?_
    simp only [Act.put]
    refine OpN.val (v := .bool false) (w' := wr) rfl rfl (by simp [go_sem, execOp, Act.eval, goInt]) ?_
    simp only [Act.put]
    refine OpN.nil ?_
    show CwN _ _ _ _ _
    refine CwN.block ?_
    refine CwN.cond_f rfl ?_
    refine CwN.seqK (fun K hK => ?_)
    clear hcb0
    go_wp2_with fail
    refine CwN.of_wp (wp_ret ?_)
    show bodyPost _ _ _ .ret _ _
    exact bodyPost_ret (v := .slice (some ⟨W.heap.size, 0, none⟩) n n) (by simp [results, Tryd.f42]) rfl HFIN.out
  | cons p ws =>
    have hex : ((p :: ws).map vI).toArray.extract 1 ((p :: ws).map vI).toArray.size = (ws.map vI).toArray := by
      simp
      exact List.take_of_length_le (by simp)
    have hgd : ((p :: ws).map vI).toArray.getD 0 undef = .int .i64 (p : Int) := rfl
    obtain ⟨x, m0, hx, hm0, hti⟩ := HTL.out.take
    have hpn : p < n := by rw [← HN.out]; exact (List.getElem?_eq_some_iff.1 hx).1
    have HR5 := Lib.hid (HRC.out.chan (ws' := ws) s2 (r2 + 1) rfl)
    refine OpN.recv (c := C) (cap := 15 * n) (buf := ((p :: ws).map vI).toArray) (closed := false) (s := s2) (r := r2) (z := .int .i64 0) (tm := false) (w₁ := wr) rfl rfl (by simp [go_sem, execOp, rcase, Act.eval]) hcb (by simp) ?_
    rw [hex, hgd]
    obtain ⟨w5, hw5⟩ : ∃ w5, wr.setChan C (15 * n) (ws.map vI).toArray false s2 (r2 + 1) false = w5 := ⟨_, rfl⟩
    rw [hw5] at HR5 ⊢
    clear hex hgd hcb hw5 HRC
    simp only [Act.put, List.setIfInBounds_toArray]
    refine OpN.val (v := goInt 0) (w' := w5) rfl rfl (by simp [go_sem, execOp, Act.eval]) ?_
    simp only [Act.put]
    refine OpN.val (v := .bool true) (w' := w5) rfl rfl (by simp [go_sem, execOp, Act.eval, goInt]) ?_
    simp only [Act.put]
    refine OpN.nil ?_
    show CwN _ _ _ _ _
    refine CwN.block ?_
    refine CwN.cond_t rfl ?_
    refine CwN.seqK (fun K hK => ?_)
    go_wp2_with fail
    obtain ⟨bi, oi, rfl, hbil, e0, e1, e2, e3, e4⟩ := (H.out w5 HR5.out.bel).2.2.2 p x hx
    have hbxv := (H.out w5 HR5.out.bel).1
    have HM0 := Lib.hid (HR5.out.at hm0 hpn).1
    have hS5 := HR5.out.lt
    have hSC := HR5.out.sc
    have HSB : Hid (∀ v, Below w5.heap.size w5 v → v.cell? ⟨w.heap.size, 0, none⟩ = some (.slice (some ⟨bi, oi, none⟩) n lc) ∧ v.cell? ⟨w.heap.size, 1, none⟩ = some (.int .i64 (f 0 : Int)) ∧ v.cell? ⟨w.heap.size, 2, none⟩ = some (.int .i64 (f 1 : Int)) ∧ v.cell? ⟨w.heap.size, 3, none⟩ = some (.int .i64 (f 2 : Int)) ∧ v.cell? ⟨w.heap.size, 4, none⟩ = some (.int .i64 (f 3 : Int)) ∧ v.cell? ⟨w.heap.size, 5, none⟩ = some (.int .i64 (f 4 : Int)) ∧ v.cell? ⟨w.heap.size, 6, none⟩ = some (.int .i64 (f 5 : Int)) ∧ v.cell? ⟨w.heap.size, 7, none⟩ = some (.int .i64 (f 6 : Int)) ∧ v.cell? ⟨w.heap.size, 8, none⟩ = some (.int .i64 (f 7 : Int)) ∧ v.cell? ⟨w.heap.size, 9, none⟩ = some (.int .i64 (f 8 : Int)) ∧ v.cell? ⟨w.heap.size, 10, none⟩ = some (.int .i64 (f 9 : Int)) ∧ v.cell? ⟨w.heap.size, 11, none⟩ = some (.int .i64 (f 10 : Int)) ∧ v.cell? ⟨w.heap.size, 12, none⟩ = some (.int .i64 (f 11 : Int)) ∧ v.cell? ⟨w.heap.size, 13, none⟩ = some (.int .i64 (f 12 : Int)) ∧ v.cell? ⟨w.heap.size, 14, none⟩ = some (.int .i64 (f 13 : Int)) ∧ v.cell? ⟨bi, oi + p * 5, none⟩ = some (.int .i64 x.op) ∧ v.cell? ⟨bi, oi + p * 5 + 1, none⟩ = some (.int .i64 x.fa) ∧ v.cell? ⟨bi, oi + p * 5 + 2, none⟩ = some (.int .i64 x.fb) ∧ v.cell? ⟨bi, oi + p * 5 + 3, none⟩ = some (.int .i64 x.fc) ∧ v.cell? ⟨bi, oi + p * 5 + 4, none⟩ = some (.int .i64 x.fd) ∧ v.cell? ⟨W.heap.size, p, none⟩ = some (.int .u16 (m0 : Int))) := fun v hv => by
      have hb := HR5.out.bel.trans (hv.mono (by omega))
      have hvx := (H.out v hb).1
      have hz := HZ.out
      have hw5 : w.heap.size < w5.heap.size := by omega
      exact ⟨(by rw [cell_at hvx]; rfl), (by rw [cell_at hvx]; rfl), (by rw [cell_at hvx]; rfl), (by rw [cell_at hvx]; rfl), (by rw [cell_at hvx]; rfl), (by rw [cell_at hvx]; rfl), (by rw [cell_at hvx]; rfl), (by rw [cell_at hvx]; rfl), (by rw [cell_at hvx]; rfl), (by rw [cell_at hvx]; rfl), (by rw [cell_at hvx]; rfl), (by rw [cell_at hvx]; rfl), (by rw [cell_at hvx]; rfl), (by rw [cell_at hvx]; rfl), (by rw [cell_at hvx]; rfl), (hv.cell (p := ⟨bi, _, none⟩) (by show bi < _; omega)).trans e0, (hv.cell (p := ⟨bi, _, none⟩) (by show bi < _; omega)).trans e1, (hv.cell (p := ⟨bi, _, none⟩) (by show bi < _; omega)).trans e2, (hv.cell (p := ⟨bi, _, none⟩) (by show bi < _; omega)).trans e3, (hv.cell (p := ⟨bi, _, none⟩) (by show bi < _; omega)).trans e4, (hv.cell (p := ⟨W.heap.size, p, none⟩) (by show W.heap.size < _; omega)).trans HM0.out⟩
    have HAFT := Lib.hid (after_one m (some ⟨bi, oi, none⟩) n lc f x m0 w5.drew HF.out (HIT.out p x hx) hti.g0.1)
    have HTI := Lib.hid hti
    have HX := Lib.hid hx
    have HIX := Lib.hid (HIT.out p x hx)
    have hfew2 := hti.few
    rw [HN.out] at hfew2
    obtain ⟨af, haf⟩ : ∃ af, aftM (secN m.vars) (secN m.arrs) x m0 = af := ⟨_, rfl⟩
    have HAF := Lib.hid haf
    have HAFL : Hid (af < 32768) := by show _ < _; rw [← haf]; exact aftM_lt HIX.out hti.g0.1
    rw [haf] at HAFT
    clear haf hti hx hm0 e0 e1 e2 e3 e4 hbil hbxv HM0 HTL hfew
    refine CwN.seqK (fun K hK => ?_)
    refine wp_region_held_drew (S := fun v => v.cell? ⟨w.heap.size, 0, none⟩ = some (.slice (some ⟨bi, oi, none⟩) n lc) ∧ v.cell? ⟨w.heap.size, 1, none⟩ = some (.int .i64 (f 0 : Int)) ∧ v.cell? ⟨w.heap.size, 2, none⟩ = some (.int .i64 (f 1 : Int)) ∧ v.cell? ⟨w.heap.size, 3, none⟩ = some (.int .i64 (f 2 : Int)) ∧ v.cell? ⟨w.heap.size, 4, none⟩ = some (.int .i64 (f 3 : Int)) ∧ v.cell? ⟨w.heap.size, 5, none⟩ = some (.int .i64 (f 4 : Int)) ∧ v.cell? ⟨w.heap.size, 6, none⟩ = some (.int .i64 (f 5 : Int)) ∧ v.cell? ⟨w.heap.size, 7, none⟩ = some (.int .i64 (f 6 : Int)) ∧ v.cell? ⟨w.heap.size, 8, none⟩ = some (.int .i64 (f 7 : Int)) ∧ v.cell? ⟨w.heap.size, 9, none⟩ = some (.int .i64 (f 8 : Int)) ∧ v.cell? ⟨w.heap.size, 10, none⟩ = some (.int .i64 (f 9 : Int)) ∧ v.cell? ⟨w.heap.size, 11, none⟩ = some (.int .i64 (f 10 : Int)) ∧ v.cell? ⟨w.heap.size, 12, none⟩ = some (.int .i64 (f 11 : Int)) ∧ v.cell? ⟨w.heap.size, 13, none⟩ = some (.int .i64 (f 12 : Int)) ∧ v.cell? ⟨w.heap.size, 14, none⟩ = some (.int .i64 (f 13 : Int)) ∧ v.cell? ⟨bi, oi + p * 5, none⟩ = some (.int .i64 x.op) ∧ v.cell? ⟨bi, oi + p * 5 + 1, none⟩ = some (.int .i64 x.fa) ∧ v.cell? ⟨bi, oi + p * 5 + 2, none⟩ = some (.int .i64 x.fb) ∧ v.cell? ⟨bi, oi + p * 5 + 3, none⟩ = some (.int .i64 x.fc) ∧ v.cell? ⟨bi, oi + p * 5 + 4, none⟩ = some (.int .i64 x.fd) ∧ v.cell? ⟨W.heap.size, p, none⟩ = some (.int .u16 (m0 : Int))) (by kernel_rfl) (HSB.out w5 (Below.refl _ _)) (fun hHeld => ?_)
    refine wpAnyH_take (i := 0) (oi := ⟨some 27, _, _, _, _, _⟩) (v := ?_) rfl (by kernel_rfl) (by kernel_rfl) (by kernel_rfl) (fun _ _ _ h => h) (Or.inl ⟨by rfl, ?_⟩) (by assumption) ?_
    rotate_left
    · intro w hSw; (try dsimp only at hSw); go_simp; (try with_reducible rfl)
    simp only [Act.put, List.setIfInBounds_toArray, List.set_cons_zero, List.set_cons_succ]
    refine wpAnyH_take (i := 1) (oi := ⟨some 28, _, _, _, _, _⟩) (v := ?_) rfl (by kernel_rfl) (by kernel_rfl) (by kernel_rfl) (fun _ _ _ h => h) (Or.inl ⟨by rfl, ?_⟩) (by assumption) ?_
    rotate_left
    · intro w hSw; (try dsimp only at hSw); go_simp; (try with_reducible rfl)
    simp only [Act.put, List.setIfInBounds_toArray, List.set_cons_zero, List.set_cons_succ]
    refine wpAnyH_take (i := 2) (oi := ⟨some 29, _, _, _, _, _⟩) (v := ?_) rfl (by kernel_rfl) (by kernel_rfl) (by kernel_rfl) (fun _ _ _ h => h) (Or.inl ⟨by rfl, ?_⟩) (by assumption) ?_
    rotate_left
    · intro w hSw; (try dsimp only at hSw); go_simp; (try with_reducible rfl)
    simp only [Act.put, List.setIfInBounds_toArray, List.set_cons_zero, List.set_cons_succ]
    refine wpAnyH_take (i := 3) (oi := ⟨some 30, _, _, _, _, _⟩) (v := ?_) rfl (by kernel_rfl) (by kernel_rfl) (by kernel_rfl) (fun _ _ _ h => h) (Or.inl ⟨by rfl, ?_⟩) (by assumption) ?_
    rotate_left
    · intro w hSw; (try dsimp only at hSw); go_simp; (try with_reducible rfl)
    simp only [Act.put, List.setIfInBounds_toArray, List.set_cons_zero, List.set_cons_succ]
    refine wpAnyH_take (i := 4) (oi := ⟨some 31, _, _, _, _, _⟩) (v := ?_) rfl (by kernel_rfl) (by kernel_rfl) (by kernel_rfl) (fun _ _ _ h => h) (Or.inl ⟨by rfl, ?_⟩) (by assumption) ?_
    rotate_left
    · intro w hSw; (try dsimp only at hSw); go_simp; (try with_reducible rfl)
    simp only [Act.put, List.setIfInBounds_toArray, List.set_cons_zero, List.set_cons_succ]
    refine wpAnyH_take (i := 5) (oi := ⟨some 32, _, _, _, _, _⟩) (v := ?_) rfl (by kernel_rfl) (by kernel_rfl) (by kernel_rfl) (fun _ _ _ h => h) (Or.inl ⟨by rfl, ?_⟩) (by assumption) ?_
    rotate_left
    · intro w hSw; (try dsimp only at hSw); go_simp; (try with_reducible rfl)
    simp only [Act.put, List.setIfInBounds_toArray, List.set_cons_zero, List.set_cons_succ]
    refine wpAnyH_take (i := 6) (oi := ⟨some 33, _, _, _, _, _⟩) (v := ?_) rfl (by kernel_rfl) (by kernel_rfl) (by kernel_rfl) (fun _ _ _ h => h) (Or.inl ⟨by rfl, ?_⟩) (by assumption) ?_
    rotate_left
    · intro w hSw; (try dsimp only at hSw); go_simp; (try with_reducible rfl)
    simp only [Act.put, List.setIfInBounds_toArray, List.set_cons_zero, List.set_cons_succ]
    refine wpAnyH_take (i := 7) (oi := ⟨some 34, _, _, _, _, _⟩) (v := ?_) rfl (by kernel_rfl) (by kernel_rfl) (by kernel_rfl) (fun _ _ _ h => h) (Or.inl ⟨by rfl, ?_⟩) (by assumption) ?_
    rotate_left
    · intro w hSw; (try dsimp only at hSw); go_simp; (try with_reducible rfl)
    simp only [Act.put, List.setIfInBounds_toArray, List.set_cons_zero, List.set_cons_succ]
    refine wpAnyH_take (i := 8) (oi := ⟨some 35, _, _, _, _, _⟩) (v := ?_) rfl (by kernel_rfl) (by kernel_rfl) (by kernel_rfl) (fun _ _ _ h => h) (Or.inl ⟨by rfl, ?_⟩) (by assumption) ?_
    rotate_left
    · intro w hSw; (try dsimp only at hSw); go_simp; (try with_reducible rfl)
    simp only [Act.put, List.setIfInBounds_toArray, List.set_cons_zero, List.set_cons_succ]
    refine wpAnyH_take (i := 9) (oi := ⟨some 36, _, _, _, _, _⟩) (v := ?_) rfl (by kernel_rfl) (by kernel_rfl) (by kernel_rfl) (fun _ _ _ h => h) (Or.inl ⟨by rfl, ?_⟩) (by assumption) ?_
    rotate_left
    · intro w hSw; (try dsimp only at hSw); go_simp; (try with_reducible rfl)
    simp only [Act.put, List.setIfInBounds_toArray, List.set_cons_zero, List.set_cons_succ]
    refine wpAnyH_ready (rs := [10]) (by kernel_rfl) (by simp) ?_
    refine AllReadyH.cons (o := ⟨some 37, _, _, _, _, _⟩) rfl (fun K2 hK2 => ?_) AllReadyH.nil
    go_simp
    refine (HAFT.out).mono ?_
    rintro e w6 ⟨rfl, hb6⟩
    have HB3 : Below w5.heap.size w5 w6 := (Below.refl _ w5).drew.trans hb6
    have hS3 := HSB.out w6 HB3
    go_wp2_with fail
    refine hK2.out _ _ hS3 (fun hHeld => ?_)
    clear hK2 K2 hb6
    try simp only [Act.put, List.setIfInBounds_toArray, List.set_cons_zero, List.set_cons_succ]
    refine wpAnyH_take (i := 11) (oi := ⟨some 6, _, _, _, _, _⟩) (v := ?_) rfl (by kernel_rfl) (by kernel_rfl) (by kernel_rfl) (fun _ _ _ h => h) (Or.inl ⟨by rfl, ?_⟩) (by assumption) ?_
    rotate_left
    · intro w hSw; (try dsimp only at hSw); go_simp; (try with_reducible rfl)
    simp only [Act.put, List.setIfInBounds_toArray, List.set_cons_zero, List.set_cons_succ]
    refine wpAnyH_done (by kernel_rfl) ?_ _
    go_wp2_with fail
    have HBL3 : Below w5.heap.size w5 w6 := HB3
    have HR6 := Lib.hid (HR5.out.later HBL3)
    have q0 := (HSB.out w6 HBL3).1
    have HFOL : Hid (Calls Tryd.prog 74 #[.slice (some ⟨bi, oi, none⟩) n lc, .int .i64 (p : Int)] w6 (IntsNew (natI (folN x p)) w6)) := fol_one l (some ⟨bi, oi, none⟩) n lc p x w6 (H.out w6 HR6.out.bel).2.1 HN.out HO.out HX.out
    clear HB3 HBL3 hS3 HSB HAFT HR5
    refine CwN.seqK (fun K hK => ?_)
    go_wp2_with fail
    refine HFOL.out.mono ?_
    rintro e w7 ⟨na, nc, rfl, hon, hb7⟩
    have HR7 := Lib.hid (HR6.out.later hb7)
    have hlS6 := HR6.out.lt
    have HNX7 : Hid (NxC w7 W.heap.size C na (folN x p)) := NxC.of_own hon (by omega) hlS6
    obtain ⟨nl, hnl⟩ : ∃ nl, (natI (folN x p)).length = nl := ⟨_, rfl⟩
    have HNL : Hid ((folN x p).length = nl) := by show _ = _; rw [← hnl, natI_len]
    have hnl2 : nl ≤ 2 := by rw [← hnl, natI_len]; exact folN_len x p
    rw [hnl]
    clear hon hb7 hnl HR6 q0 HFOL hlS6
    go_wp2_with fail
    refine CwN.block ?_
    refine CwN.loop (fun a wr N => ∃ (rs ws : List Nat) (s : Nat), (a.defers = [] ∧ a.tmps.size = 64 ∧ a.tmps[0]? = some (.agg (arrV (some ⟨bi, oi, none⟩) n lc f)) ∧ a.tmps[1]? = some (.pointer (some ⟨w.heap.size, 0, none⟩)) ∧ a.tmps[3]? = some (.slice (some ⟨W.heap.size, 0, none⟩) n n) ∧ a.tmps[4]? = some (.chan (some C)) ∧ a.tmps[5]? = some (.int .i64 (p : Int)) ∧ a.tmps[6]? = some (.int .u16 (af : Int)) ∧ a.tmps[41]? = some (.slice na nl nc) ∧ a.tmps[42]? = some (.int .i64 (nl : Int)) ∧ a.tmps[43]? = some (.int .i64 (s : Int))) ∧ TI (secN m.vars) (secN m.arrs) l rs ws kk p m0 x (dnF (folN x p) s) ∧ RCh W W.heap.size C n rs ws wr ∧ NxC wr W.heap.size C na (folN x p) ∧ s ≤ nl ∧ N = nl - s) nl ⟨rs, ws, 0, ⟨rfl, rfl, rfl, rfl, rfl, rfl, rfl, rfl, rfl, rfl, rfl⟩, HTI.out, HR7.out, HNX7.out, Nat.zero_le _, rfl⟩ ?_
    clear HTI HR7 HNX7
    clear u
    rintro a wi N ⟨rs, ws, s, hfr, hti, hrc, hnx, hsl, rfl⟩
    obtain ⟨u, rfl⟩ := frmB hfr
    clear hfr
    have HTI := Lib.hid hti
    have HRC := Lib.hid hrc
    have HNX := Lib.hid hnx
    have hfew3 := hti.few
    rw [HN.out] at hfew3
    clear hti hrc hnx
    by_cases hlt : s < nl
    · obtain ⟨j, hj'⟩ : ∃ j, (folN x p)[s]? = some j := ⟨(folN x p)[s]'(by rw [HNL.out]; exact hlt), List.getElem?_eq_getElem _⟩
      have hjf : j ∈ folN x p := List.mem_of_getElem? hj'
      have hjn : j < n := by rw [← HN.out]; exact HO.out.fol HX.out hjf
      obtain ⟨gn, rfl, hg1, hg2, hg3, hgc⟩ := HNX.out s j hj'
      obtain ⟨mj, hmj⟩ : ∃ mj, rs[j]? = some mj := ⟨rs[j]'(by rw [HTI.out.tb.len, HN.out]; exact hjn), List.getElem?_eq_getElem _⟩
      obtain ⟨cj, fj⟩ := HRC.out.at hmj hjn
      have hml := (HTI.out.tb.gm j mj hmj).1
      have HML := Lib.hid hml
      have hor : bits .or .u16 (mj : Int) (af : Int) = ((mj ||| af : Nat) : Int) := u16_or_nat mj af (by omega) (by have := HAFL.out; omega)
      have HJ := Lib.hid hj'
      have HJF := Lib.hid hjf
      have HMJ := Lib.hid hmj
      have HG1 : Hid (gn ≠ W.heap.size) := hg1
      have HG2 : Hid (gn ≠ C) := hg2
      clear hj' hjf hmj hml hg1 hg2
      refine CwN.seqK (fun K hK => ?_)
      go_wp2_with fail
      refine CwN.seq (CwN.cond_t rfl (CwN.of_wp (wp_skip ?_)))
      show CwN _ _ _ _ _
      refine CwN.seq (CwN.block ?_)
      refine CwN.seqK (fun K hK => ?_)
      go_wp2_with fail
      by_cases hs : Sub af mj
      · have hgr := grow_no HML.out HAFL.out hs
        have HTI2 : Hid (TI (secN m.vars) (secN m.arrs) l rs ws kk p m0 x (dnF (folN x p) (s + 1))) := by
          have h := HTI.out.skip HMJ.out (by rw [HAF.out]; exact hs)
          rw [← dnF_succ HJ.out] at h
          exact h
        clear hs hor fj HTI
        refine CwN.seqK (fun K hK => ?_)
        go_wp2_with fail
        clear hgr cj hgc
        refine CwN.cond_f rfl (CwN.of_wp (wp_skip ?_))
        show CwN _ _ _ _ _
        refine CwN.of_wp ?_
        go_wp2_with fail
        refine ⟨nl - (s + 1), ⟨rs, ws, s + 1, (by first | exact ⟨rfl, rfl, rfl, rfl, rfl, rfl, rfl, rfl, rfl, rfl, rfl⟩ | simp), HTI2.out, HRC.out, HNX.out, by omega, by first | rfl | trivial⟩, by omega⟩
      · have hgr := grow_yes HML.out HAFL.out hs
        have HTI2 : Hid (TI (secN m.vars) (secN m.arrs) l (rs.set j (mj ||| af)) (ws ++ [j]) kk p m0 x (dnF (folN x p) (s + 1))) := by
          have h := HTI.out.grow HIX.out HJF.out HMJ.out (by rw [HAF.out]; exact hs)
          rw [← dnF_succ HJ.out, HAF.out] at h
          exact h
        have HR8 := Lib.hid (HRC.out.put j (mj ||| af))
        have HNX8 := Lib.hid (HNX.out.put j (.int .u16 ((mj ||| af : Nat) : Int)))
        obtain ⟨w8, hw8⟩ : ∃ w8, wi.setCell ⟨W.heap.size, j, none⟩ (.int .u16 ((mj ||| af : Nat) : Int)) = w8 := ⟨_, rfl⟩
        rw [hw8] at HR8 HNX8
        have HW8 := Lib.hid hw8
        clear hs HTI hw8
        refine CwN.seqK (fun K hK => ?_)
        go_wp2_with fail
        refine CwN.cond_t rfl ?_
        refine CwN.seqK (fun K hK => ?_)
        clear hgr
        go_wp2_with fail
        rw [HW8.out]
        clear cj fj hgc hor HRC HNX HW8
        obtain ⟨s8, r8, hc8⟩ := HR8.out.ch
        have HR9 := Lib.hid (HR8.out.chan (ws' := ws ++ [j]) (s8 + 1) r8 (buf := (ws.map vI).toArray.push (vI j)) (by simp))
        have HNX9 := Lib.hid (HNX8.out.chan (15 * n) ((ws.map vI).toArray.push (vI j)) (s8 + 1) r8)
        refine CwN.region ?_
        show OpN _ _ _ [0, 1, 2] _ _
        refine OpN.val (v := .chan (some C)) (w' := w8) rfl rfl (by simp [go_sem, execOp, Act.eval]) ?_
        simp only [Act.put, List.setIfInBounds_toArray]
        refine OpN.val (v := .int .i64 (j : Int)) (w' := w8) rfl rfl (by simp [go_sem, execOp, Act.eval]) ?_
        simp only [Act.put]
        refine OpN.send (c := C) (cap := 15 * n) (buf := (ws.map vI).toArray) (s := s8) (r := r8) (z := .tuple #[]) (v := .int .i64 (j : Int)) (tm := false) rfl rfl (by simp [go_sem, execOp, scase, Act.eval]) hc8 (by simp; omega) ?_
        simp only [Act.put]
        refine OpN.nil ?_
        show CwN _ _ _ _ _
        obtain ⟨w9, hw9⟩ : ∃ w9, w8.setChan C (15 * n) ((ws.map vI).toArray.push (vI j)) false (s8 + 1) r8 false = w9 := ⟨_, rfl⟩
        show CwN _ _ _ _ (w8.setChan C (15 * n) ((ws.map vI).toArray.push (vI j)) false (s8 + 1) r8 false)
        rw [hw9] at HR9 HNX9 ⊢
        clear hw9 hc8 HR8 HNX8
        refine CwN.of_wp ?_
        go_wp2_with fail
        refine ⟨nl - (s + 1), ⟨_, _, s + 1, (by first | exact ⟨rfl, rfl, rfl, rfl, rfl, rfl, rfl, rfl, rfl, rfl, rfl⟩ | simp), HTI2.out, HR9.out, HNX9.out, by omega, by first | rfl | trivial⟩, by omega⟩
    · obtain rfl : s = nl := by omega
      have HTL2 : Hid (TL (secN m.vars) (secN m.arrs) l rs ws (kk + 1)) := HTI.out.done fun j hjf => by
        unfold dnF
        rw [← HNL.out, List.take_length]
        exact hjf
      refine CwN.seqK (fun K hK => ?_)
      go_wp2_with fail
      refine CwN.seq (CwN.cond_f rfl (CwN.of_wp (wp_exit ?_)))
      refine then_exit (then_exit (inBlock_exit ?_))
      show ∃ N', _ ∧ _
      exact ⟨15 * n - (kk + 1), ⟨rs, ws, kk + 1, ⟨rfl, rfl, rfl, rfl, rfl, rfl⟩, HTL2.out, HRC.out, rfl⟩, by omega⟩

end Go.Proofs.YtmodonligaejhaaDoor

namespace Go.Proofs.YtmodonligaejhaaDoor
open Go.RowKit
set_option linter.unusedVariables false

/-- A list of masks in blocks of D. -/
def RsAt (w : World) (D : Nat → Prop) (rs : List Nat) (a : Option Addr) : Prop := ∀ (i m : Nat), rs[i]? = some m → ∃ b o, a = some ⟨b, o, none⟩ ∧ D b ∧ w.cell? ⟨b, o + i, none⟩ = some (.int .u16 (m : Int))
theorem RsAt.wide {w w' : World} {D D' : Nat → Prop} {rs : List Nat} {a : Option Addr} (h : RsAt w D rs a) (hb : ∀ k, D k → w'.heap[k]? = w.heap[k]?) (hl : ∀ k, D k → D' k) : RsAt w' D' rs a := fun i m hm => by
  obtain ⟨b, o, ha, hd, h0⟩ := h i m hm
  exact ⟨b, o, ha, hl b hd, (World.cell?_of_block (w := w) (hb b hd)).trans h0⟩
/-- The first result. -/
def FstN (sv sa : Nat → Bool) (l : List Ins) (rs : List Nat) (w : World) (e : Ending) (w' : World) : Prop := ∃ c i, e = .returned (.tuple #[.int .i64 c, .int .i64 i]) ∧ FstL sv sa l rs c i ∧ Below w.heap.size w w'

set_option maxRecDepth 100000 in
set_option maxHeartbeats 8000000 in
/-- **firstLeak.** -/
theorem fstL_one (m : Cd) (l : List Ins) (la ra : Option Addr) (n lc rc : Nat) (f : Nat → Nat) (rs : List Nat) (w : World) (h : NAt w (fun b => b < w.heap.size) l la) (hn : l.length = n) (hrn : rs.length = n) (hm : n ≤ 400) (hf : KnT m f) (hit : ∀ (i : Nat) (x : Ins), l[i]? = some x → InsT m.vars.length m.arrs.length x) (hr : RsAt w (fun b => b < w.heap.size) rs ra) (hlt : ∀ (i q : Nat), rs[i]? = some q → q < 32768) :
    Calls Tryd.prog 41 #[.agg (arrV la n lc f), .slice ra n rc] w (FstN (secN m.vars) (secN m.arrs) l rs w) := by
  obtain ⟨W, hW⟩ : ∃ W, w.alloc (.cells (arrV la n lc f) 69) = W := ⟨_, rfl⟩
  have hB : Below w.heap.size w W := by rw [← hW]; exact (Below.refl _ w).alloc (Nat.le_refl _) _
  have hbx : W.heap[w.heap.size]? = some (.cells (arrV la n lc f) 69 (0, 0)) := by rw [← hW]; exact heap_alloc_new w _
  have hz : W.heap.size = w.heap.size + 1 := by rw [← hW]; simp
  have H : Hid (∀ v, Below W.heap.size W v → v.heap[w.heap.size]? = some (.cells (arrV la n lc f) 69 (0, 0)) ∧ NAt v (fun b => b < w.heap.size) l la ∧ RsAt v (fun b => b < w.heap.size) rs ra) := fun v hv => by
    have hb := hB.trans (hv.mono hB.size)
    exact ⟨(hv.block _ (by omega)).trans hbx, h.wide (fun k hk => hb.block k hk) fun _ hk => hk, hr.wide (fun k hk => hb.block k hk) fun _ hk => hk⟩
  have v0 : W.cell? ⟨w.heap.size, 0, none⟩ = some (.slice la n lc) := by rw [cell_at hbx]; rfl
  have HN := Lib.hid hn
  have HRN := Lib.hid hrn
  have HF := Lib.hid hf
  have HIT := Lib.hid hit
  have HLT := Lib.hid hlt
  have HW := Lib.hid hW
  have HB := Lib.hid hB
  have HZ : Hid (W.heap.size = w.heap.size + 1) := hz
  clear h hn hrn hf hit hr hlt hW hB hz hbx
  unfold arrV at HW
  go_enter Tryd.func41, Tryd.ntmps41
  go_wp2_with (first | rw [HW.out] | fail)
  clear v0
  go_loopw [12] (fun i wr => ∃ j : Nat, j ≤ n ∧ i = .int .i64 j ∧ Hid (NoLk (secN m.vars) (secN m.arrs) l rs j) ∧ Hid (Below W.heap.size W wr)) (fun i _ => n - (intOf i).toNat)
  case atStart => exact ⟨0, Nat.zero_le _, rfl, (fun q x mq hq => absurd hq (Nat.not_lt_zero _) : NoLk (secN m.vars) (secN m.arrs) l rs 0), Below.refl _ _⟩
  case round =>
    obtain ⟨j, hj, rfl, HNL, HBR⟩ := hrel
    by_cases hjn : j < n
    · obtain ⟨x, hx⟩ : ∃ x, l[j]? = some x := ⟨l[j]'(by rw [HN.out]; exact hjn), List.getElem?_eq_getElem _⟩
      obtain ⟨mj, hmj⟩ : ∃ mj, rs[j]? = some mj := ⟨rs[j]'(by rw [HRN.out]; exact hjn), List.getElem?_eq_getElem _⟩
      obtain ⟨hbv, hnat, hrs⟩ := H.out wr HBR.out
      obtain ⟨bi, oi, rfl, hbil, e0, e1, e2, e3, e4⟩ := hnat.2 j x hx
      obtain ⟨rb, ro, rfl, hrbl, d0⟩ := hrs j mj hmj
      have hszr := HBR.out.size
      have hszw := HZ.out
      obtain ⟨W1, hW1⟩ : ∃ W1, wr.alloc (.cells #[.int .i64 0, .int .i64 0, .int .i64 0, .int .i64 0, .int .i64 0] 54) = W1 := ⟨_, rfl⟩
      have hrow : W1.heap[wr.heap.size]? = some (.cells #[.int .i64 0, .int .i64 0, .int .i64 0, .int .i64 0, .int .i64 0] 54 (0, 0)) := by rw [← hW1]; exact heap_alloc_new wr _
      have hB1 : Below wr.heap.size wr W1 := by rw [← hW1]; exact (Below.refl _ wr).alloc (Nat.le_refl _) _
      have r0 : ∃ u, W1.cell? ⟨wr.heap.size, 0, none⟩ = some u := cell_ex hrow 0 (by simp)
      obtain ⟨u0', r0⟩ := r0
      have z0 := frozen_at hrow 0
      have r1 : ∃ u, W1.cell? ⟨wr.heap.size, 1, none⟩ = some u := cell_ex hrow 1 (by simp)
      obtain ⟨u1', r1⟩ := r1
      have z1 := frozen_at hrow 1
      have r2 : ∃ u, W1.cell? ⟨wr.heap.size, 2, none⟩ = some u := cell_ex hrow 2 (by simp)
      obtain ⟨u2', r2⟩ := r2
      have z2 := frozen_at hrow 2
      have r3 : ∃ u, W1.cell? ⟨wr.heap.size, 3, none⟩ = some u := cell_ex hrow 3 (by simp)
      obtain ⟨u3', r3⟩ := r3
      have z3 := frozen_at hrow 3
      have r4 : ∃ u, W1.cell? ⟨wr.heap.size, 4, none⟩ = some u := cell_ex hrow 4 (by simp)
      obtain ⟨u4', r4⟩ := r4
      have z4 := frozen_at hrow 4
      have h9 := put_row [.int .i64 x.op, .int .i64 x.fa, .int .i64 x.fb, .int .i64 x.fc, .int .i64 x.fd] W1 wr.heap.size 0 _ _ hrow
      have h9b := put_below [.int .i64 x.op, .int .i64 x.fa, .int .i64 x.fb, .int .i64 x.fc, .int .i64 x.fd] wr W1 wr.heap.size wr.heap.size 0 hB1 (Nat.le_refl _)
      have h9s := put_size [.int .i64 x.op, .int .i64 x.fa, .int .i64 x.fb, .int .i64 x.fc, .int .i64 x.fd] W1 wr.heap.size 0
      obtain ⟨W2, hW2⟩ : ∃ W2, put W1 wr.heap.size 0 [.int .i64 x.op, .int .i64 x.fa, .int .i64 x.fb, .int .i64 x.fc, .int .i64 x.fd] = W2 := ⟨_, rfl⟩
      rw [hW2] at h9 h9b h9s
      have hz1 : W1.heap.size = wr.heap.size + 1 := by rw [← hW1]; simp
      have h9v : W2.heap[wr.heap.size]? = some (.cells (arrI x) 54 (0, 0)) := by
        have e : setL #[.int .i64 0, .int .i64 0, .int .i64 0, .int .i64 0, .int .i64 0] 0 [.int .i64 x.op, .int .i64 x.fa, .int .i64 x.fb, .int .i64 x.fc, .int .i64 x.fd] = arrI x := by simp [setL]
        rw [← e]; exact h9
      have HSB : Hid (∀ v, Below W2.heap.size W2 v → v.cell? ⟨w.heap.size, 0, none⟩ = some (.slice (some ⟨bi, oi, none⟩) n lc) ∧ v.cell? ⟨w.heap.size, 1, none⟩ = some (.int .i64 (f 0 : Int)) ∧ v.cell? ⟨w.heap.size, 2, none⟩ = some (.int .i64 (f 1 : Int)) ∧ v.cell? ⟨w.heap.size, 3, none⟩ = some (.int .i64 (f 2 : Int)) ∧ v.cell? ⟨w.heap.size, 4, none⟩ = some (.int .i64 (f 3 : Int)) ∧ v.cell? ⟨w.heap.size, 5, none⟩ = some (.int .i64 (f 4 : Int)) ∧ v.cell? ⟨w.heap.size, 6, none⟩ = some (.int .i64 (f 5 : Int)) ∧ v.cell? ⟨w.heap.size, 7, none⟩ = some (.int .i64 (f 6 : Int)) ∧ v.cell? ⟨w.heap.size, 8, none⟩ = some (.int .i64 (f 7 : Int)) ∧ v.cell? ⟨w.heap.size, 9, none⟩ = some (.int .i64 (f 8 : Int)) ∧ v.cell? ⟨w.heap.size, 10, none⟩ = some (.int .i64 (f 9 : Int)) ∧ v.cell? ⟨w.heap.size, 11, none⟩ = some (.int .i64 (f 10 : Int)) ∧ v.cell? ⟨w.heap.size, 12, none⟩ = some (.int .i64 (f 11 : Int)) ∧ v.cell? ⟨w.heap.size, 13, none⟩ = some (.int .i64 (f 12 : Int)) ∧ v.cell? ⟨w.heap.size, 14, none⟩ = some (.int .i64 (f 13 : Int)) ∧ v.cell? ⟨wr.heap.size, 0, none⟩ = some (.int .i64 x.op) ∧ v.cell? ⟨wr.heap.size, 1, none⟩ = some (.int .i64 x.fa) ∧ v.cell? ⟨wr.heap.size, 2, none⟩ = some (.int .i64 x.fb) ∧ v.cell? ⟨wr.heap.size, 3, none⟩ = some (.int .i64 x.fc) ∧ v.cell? ⟨wr.heap.size, 4, none⟩ = some (.int .i64 x.fd) ∧ v.cell? ⟨rb, ro + j, none⟩ = some (.int .u16 (mj : Int))) := fun v hv => by
        have hb := h9b.trans (hv.mono (by omega))
        have h1 := (hb.block w.heap.size (by omega)).trans hbv
        have h2 := (hv.block wr.heap.size (by omega)).trans h9v
        exact ⟨(by rw [cell_at h1]; rfl), (by rw [cell_at h1]; rfl), (by rw [cell_at h1]; rfl), (by rw [cell_at h1]; rfl), (by rw [cell_at h1]; rfl), (by rw [cell_at h1]; rfl), (by rw [cell_at h1]; rfl), (by rw [cell_at h1]; rfl), (by rw [cell_at h1]; rfl), (by rw [cell_at h1]; rfl), (by rw [cell_at h1]; rfl), (by rw [cell_at h1]; rfl), (by rw [cell_at h1]; rfl), (by rw [cell_at h1]; rfl), (by rw [cell_at h1]; rfl), (by rw [cell_at h2]; rfl), (by rw [cell_at h2]; rfl), (by rw [cell_at h2]; rfl), (by rw [cell_at h2]; rfl), (by rw [cell_at h2]; rfl), (hb.cell (p := ⟨rb, _, none⟩) (by show rb < _; omega)).trans d0⟩
      have HLK := Lib.hid (leak_one m (some ⟨bi, oi, none⟩) n lc f x mj W2.drew HF.out (HIT.out j x hx) (HLT.out j mj hmj))
      have HX := Lib.hid hx
      have HMJ := Lib.hid hmj
      have HW1 := Lib.hid hW1
      have HW2 := Lib.hid hW2
      have HB2 : Hid (Below W.heap.size W W2) := HBR.out.trans (h9b.mono hszr)
      have HZ2 : Hid (W.heap.size ≤ W2.heap.size) := by show _ ≤ _; omega
      clear hx hmj hbv hnat hrs hbil hrbl d0 hW1 hrow hB1 h9 h9b h9s hW2 hz1 h9v
      obtain ⟨c, hc⟩ : ∃ c, leakM (secN m.vars) (secN m.arrs) x mj = c := ⟨_, rfl⟩
      have HC := Lib.hid hc
      rw [hc] at HLK
      clear hc
      go_upto_region 4 with (first | rw [HW1.out] | fail)
      show Code.wp _ _ _ _ (put W1 wr.heap.size 0 [.int .i64 x.op, .int .i64 x.fa, .int .i64 x.fb, .int .i64 x.fc, .int .i64 x.fd])
      rw [HW2.out]
      clear r0 z0 r1 z1 r2 z2 r3 z3 r4 z4 e0 e1 e2 e3 e4 HW1 HW2
      by_cases hc0 : c = 0
      · have hcb : (c != 0) = false := by simpa using hc0
        have HNL2 : Hid (NoLk (secN m.vars) (secN m.arrs) l rs (j + 1)) := HNL.out.succ HX.out HMJ.out (by rw [HC.out]; exact hc0)
        clear hc0
        refine wp_region_held_drew (S := fun v => v.cell? ⟨w.heap.size, 0, none⟩ = some (.slice (some ⟨bi, oi, none⟩) n lc) ∧ v.cell? ⟨w.heap.size, 1, none⟩ = some (.int .i64 (f 0 : Int)) ∧ v.cell? ⟨w.heap.size, 2, none⟩ = some (.int .i64 (f 1 : Int)) ∧ v.cell? ⟨w.heap.size, 3, none⟩ = some (.int .i64 (f 2 : Int)) ∧ v.cell? ⟨w.heap.size, 4, none⟩ = some (.int .i64 (f 3 : Int)) ∧ v.cell? ⟨w.heap.size, 5, none⟩ = some (.int .i64 (f 4 : Int)) ∧ v.cell? ⟨w.heap.size, 6, none⟩ = some (.int .i64 (f 5 : Int)) ∧ v.cell? ⟨w.heap.size, 7, none⟩ = some (.int .i64 (f 6 : Int)) ∧ v.cell? ⟨w.heap.size, 8, none⟩ = some (.int .i64 (f 7 : Int)) ∧ v.cell? ⟨w.heap.size, 9, none⟩ = some (.int .i64 (f 8 : Int)) ∧ v.cell? ⟨w.heap.size, 10, none⟩ = some (.int .i64 (f 9 : Int)) ∧ v.cell? ⟨w.heap.size, 11, none⟩ = some (.int .i64 (f 10 : Int)) ∧ v.cell? ⟨w.heap.size, 12, none⟩ = some (.int .i64 (f 11 : Int)) ∧ v.cell? ⟨w.heap.size, 13, none⟩ = some (.int .i64 (f 12 : Int)) ∧ v.cell? ⟨w.heap.size, 14, none⟩ = some (.int .i64 (f 13 : Int)) ∧ v.cell? ⟨wr.heap.size, 0, none⟩ = some (.int .i64 x.op) ∧ v.cell? ⟨wr.heap.size, 1, none⟩ = some (.int .i64 x.fa) ∧ v.cell? ⟨wr.heap.size, 2, none⟩ = some (.int .i64 x.fb) ∧ v.cell? ⟨wr.heap.size, 3, none⟩ = some (.int .i64 x.fc) ∧ v.cell? ⟨wr.heap.size, 4, none⟩ = some (.int .i64 x.fd) ∧ v.cell? ⟨rb, ro + j, none⟩ = some (.int .u16 (mj : Int))) (by kernel_rfl) (HSB.out W2 (Below.refl _ _)) (fun hHeld => ?_)
        refine wpAnyH_take (i := 0) (oi := ⟨some 17, _, _, _, _, _⟩) (v := ?_) rfl (by kernel_rfl) (by kernel_rfl) (by kernel_rfl) (fun _ _ _ h => h) (Or.inl ⟨by rfl, ?_⟩) (by assumption) ?_
        rotate_left
        · intro w hSw; (try dsimp only at hSw); go_simp; (try with_reducible rfl)
        simp only [Act.put, List.setIfInBounds_toArray, List.set_cons_zero, List.set_cons_succ]
        refine wpAnyH_take (i := 1) (oi := ⟨some 18, _, _, _, _, _⟩) (v := ?_) rfl (by kernel_rfl) (by kernel_rfl) (by kernel_rfl) (fun _ _ _ h => h) (Or.inl ⟨by rfl, ?_⟩) (by assumption) ?_
        rotate_left
        · intro w hSw; (try dsimp only at hSw); go_simp; (try with_reducible rfl)
        simp only [Act.put, List.setIfInBounds_toArray, List.set_cons_zero, List.set_cons_succ]
        refine wpAnyH_take (i := 2) (oi := ⟨some 19, _, _, _, _, _⟩) (v := ?_) rfl (by kernel_rfl) (by kernel_rfl) (by kernel_rfl) (fun _ _ _ h => h) (Or.inl ⟨by rfl, ?_⟩) (by assumption) ?_
        rotate_left
        · intro w hSw; (try dsimp only at hSw); go_simp; (try with_reducible rfl)
        simp only [Act.put, List.setIfInBounds_toArray, List.set_cons_zero, List.set_cons_succ]
        refine wpAnyH_take (i := 3) (oi := ⟨some 20, _, _, _, _, _⟩) (v := ?_) rfl (by kernel_rfl) (by kernel_rfl) (by kernel_rfl) (fun _ _ _ h => h) (Or.inl ⟨by rfl, ?_⟩) (by assumption) ?_
        rotate_left
        · intro w hSw; (try dsimp only at hSw); go_simp; (try with_reducible rfl)
        simp only [Act.put, List.setIfInBounds_toArray, List.set_cons_zero, List.set_cons_succ]
        refine wpAnyH_take (i := 4) (oi := ⟨some 21, _, _, _, _, _⟩) (v := ?_) rfl (by kernel_rfl) (by kernel_rfl) (by kernel_rfl) (fun _ _ _ h => h) (Or.inl ⟨by rfl, ?_⟩) (by assumption) ?_
        rotate_left
        · intro w hSw; (try dsimp only at hSw); go_simp; (try with_reducible rfl)
        simp only [Act.put, List.setIfInBounds_toArray, List.set_cons_zero, List.set_cons_succ]
        refine wpAnyH_take (i := 5) (oi := ⟨some 22, _, _, _, _, _⟩) (v := ?_) rfl (by kernel_rfl) (by kernel_rfl) (by kernel_rfl) (fun _ _ _ h => h) (Or.inl ⟨by rfl, ?_⟩) (by assumption) ?_
        rotate_left
        · intro w hSw; (try dsimp only at hSw); go_simp; (try with_reducible rfl)
        simp only [Act.put, List.setIfInBounds_toArray, List.set_cons_zero, List.set_cons_succ]
        refine wpAnyH_ready (rs := [6]) (by kernel_rfl) (by simp) ?_
        refine AllReadyH.cons (o := ⟨some 23, _, _, _, _, _⟩) rfl (fun K hK => ?_) AllReadyH.nil
        go_simp
        refine (HLK.out).mono ?_
        rintro e w6 ⟨rfl, hb6⟩
        have HB6 : Below W2.heap.size W2 w6 := (Below.refl _ W2).drew.trans hb6
        have hS6 := HSB.out w6 HB6
        go_wp2_with fail
        refine hK.out _ _ hS6 (fun hHeld => ?_)
        clear hK K hb6
        try simp only [Act.put, List.setIfInBounds_toArray, List.set_cons_zero, List.set_cons_succ]
        refine wpAnyH_take (i := 7) (oi := ⟨some 8, _, _, _, _, _⟩) (v := ?_) rfl (by kernel_rfl) (by kernel_rfl) (by kernel_rfl) (fun _ _ _ h => h) (Or.inl ⟨by rfl, ?_⟩) (by assumption) ?_
        rotate_left
        · intro w hSw; (try dsimp only at hSw); go_simp; (try with_reducible rfl)
        simp only [Act.put, List.setIfInBounds_toArray, List.set_cons_zero, List.set_cons_succ]
        refine wpAnyH_done (by kernel_rfl) ?_ _
        have HB7 : Hid (Below W.heap.size W w6) := HB2.out.trans (HB6.mono HZ2.out)
        clear HB6 hS6
        go_wp2_with fail
        go_roundw
        case rel => exact ⟨j + 1, by omega, by go_num, HNL2, HB7⟩
        case measure => simp [intOf]; omega
      · have hcb : (c != 0) = true := by simpa using hc0
        have HC0 : Hid (c ≠ 0) := hc0
        clear hc0
        refine wp_region_held_drew (S := fun v => v.cell? ⟨w.heap.size, 0, none⟩ = some (.slice (some ⟨bi, oi, none⟩) n lc) ∧ v.cell? ⟨w.heap.size, 1, none⟩ = some (.int .i64 (f 0 : Int)) ∧ v.cell? ⟨w.heap.size, 2, none⟩ = some (.int .i64 (f 1 : Int)) ∧ v.cell? ⟨w.heap.size, 3, none⟩ = some (.int .i64 (f 2 : Int)) ∧ v.cell? ⟨w.heap.size, 4, none⟩ = some (.int .i64 (f 3 : Int)) ∧ v.cell? ⟨w.heap.size, 5, none⟩ = some (.int .i64 (f 4 : Int)) ∧ v.cell? ⟨w.heap.size, 6, none⟩ = some (.int .i64 (f 5 : Int)) ∧ v.cell? ⟨w.heap.size, 7, none⟩ = some (.int .i64 (f 6 : Int)) ∧ v.cell? ⟨w.heap.size, 8, none⟩ = some (.int .i64 (f 7 : Int)) ∧ v.cell? ⟨w.heap.size, 9, none⟩ = some (.int .i64 (f 8 : Int)) ∧ v.cell? ⟨w.heap.size, 10, none⟩ = some (.int .i64 (f 9 : Int)) ∧ v.cell? ⟨w.heap.size, 11, none⟩ = some (.int .i64 (f 10 : Int)) ∧ v.cell? ⟨w.heap.size, 12, none⟩ = some (.int .i64 (f 11 : Int)) ∧ v.cell? ⟨w.heap.size, 13, none⟩ = some (.int .i64 (f 12 : Int)) ∧ v.cell? ⟨w.heap.size, 14, none⟩ = some (.int .i64 (f 13 : Int)) ∧ v.cell? ⟨wr.heap.size, 0, none⟩ = some (.int .i64 x.op) ∧ v.cell? ⟨wr.heap.size, 1, none⟩ = some (.int .i64 x.fa) ∧ v.cell? ⟨wr.heap.size, 2, none⟩ = some (.int .i64 x.fb) ∧ v.cell? ⟨wr.heap.size, 3, none⟩ = some (.int .i64 x.fc) ∧ v.cell? ⟨wr.heap.size, 4, none⟩ = some (.int .i64 x.fd) ∧ v.cell? ⟨rb, ro + j, none⟩ = some (.int .u16 (mj : Int))) (by kernel_rfl) (HSB.out W2 (Below.refl _ _)) (fun hHeld => ?_)
        refine wpAnyH_take (i := 0) (oi := ⟨some 17, _, _, _, _, _⟩) (v := ?_) rfl (by kernel_rfl) (by kernel_rfl) (by kernel_rfl) (fun _ _ _ h => h) (Or.inl ⟨by rfl, ?_⟩) (by assumption) ?_
        rotate_left
        · intro w hSw; (try dsimp only at hSw); go_simp; (try with_reducible rfl)
        simp only [Act.put, List.setIfInBounds_toArray, List.set_cons_zero, List.set_cons_succ]
        refine wpAnyH_take (i := 1) (oi := ⟨some 18, _, _, _, _, _⟩) (v := ?_) rfl (by kernel_rfl) (by kernel_rfl) (by kernel_rfl) (fun _ _ _ h => h) (Or.inl ⟨by rfl, ?_⟩) (by assumption) ?_
        rotate_left
        · intro w hSw; (try dsimp only at hSw); go_simp; (try with_reducible rfl)
        simp only [Act.put, List.setIfInBounds_toArray, List.set_cons_zero, List.set_cons_succ]
        refine wpAnyH_take (i := 2) (oi := ⟨some 19, _, _, _, _, _⟩) (v := ?_) rfl (by kernel_rfl) (by kernel_rfl) (by kernel_rfl) (fun _ _ _ h => h) (Or.inl ⟨by rfl, ?_⟩) (by assumption) ?_
        rotate_left
        · intro w hSw; (try dsimp only at hSw); go_simp; (try with_reducible rfl)
        simp only [Act.put, List.setIfInBounds_toArray, List.set_cons_zero, List.set_cons_succ]
        refine wpAnyH_take (i := 3) (oi := ⟨some 20, _, _, _, _, _⟩) (v := ?_) rfl (by kernel_rfl) (by kernel_rfl) (by kernel_rfl) (fun _ _ _ h => h) (Or.inl ⟨by rfl, ?_⟩) (by assumption) ?_
        rotate_left
        · intro w hSw; (try dsimp only at hSw); go_simp; (try with_reducible rfl)
        simp only [Act.put, List.setIfInBounds_toArray, List.set_cons_zero, List.set_cons_succ]
        refine wpAnyH_take (i := 4) (oi := ⟨some 21, _, _, _, _, _⟩) (v := ?_) rfl (by kernel_rfl) (by kernel_rfl) (by kernel_rfl) (fun _ _ _ h => h) (Or.inl ⟨by rfl, ?_⟩) (by assumption) ?_
        rotate_left
        · intro w hSw; (try dsimp only at hSw); go_simp; (try with_reducible rfl)
        simp only [Act.put, List.setIfInBounds_toArray, List.set_cons_zero, List.set_cons_succ]
        refine wpAnyH_take (i := 5) (oi := ⟨some 22, _, _, _, _, _⟩) (v := ?_) rfl (by kernel_rfl) (by kernel_rfl) (by kernel_rfl) (fun _ _ _ h => h) (Or.inl ⟨by rfl, ?_⟩) (by assumption) ?_
        rotate_left
        · intro w hSw; (try dsimp only at hSw); go_simp; (try with_reducible rfl)
        simp only [Act.put, List.setIfInBounds_toArray, List.set_cons_zero, List.set_cons_succ]
        refine wpAnyH_ready (rs := [6]) (by kernel_rfl) (by simp) ?_
        refine AllReadyH.cons (o := ⟨some 23, _, _, _, _, _⟩) rfl (fun K hK => ?_) AllReadyH.nil
        go_simp
        refine (HLK.out).mono ?_
        rintro e w6 ⟨rfl, hb6⟩
        have HB6 : Below W2.heap.size W2 w6 := (Below.refl _ W2).drew.trans hb6
        have hS6 := HSB.out w6 HB6
        go_wp2_with fail
        refine hK.out _ _ hS6 (fun hHeld => ?_)
        clear hK K hb6
        try simp only [Act.put, List.setIfInBounds_toArray, List.set_cons_zero, List.set_cons_succ]
        refine wpAnyH_take (i := 7) (oi := ⟨some 8, _, _, _, _, _⟩) (v := ?_) rfl (by kernel_rfl) (by kernel_rfl) (by kernel_rfl) (fun _ _ _ h => h) (Or.inl ⟨by rfl, ?_⟩) (by assumption) ?_
        rotate_left
        · intro w hSw; (try dsimp only at hSw); go_simp; (try with_reducible rfl)
        simp only [Act.put, List.setIfInBounds_toArray, List.set_cons_zero, List.set_cons_succ]
        refine wpAnyH_done (by kernel_rfl) ?_ _
        have HFIN : Hid (FstN (secN m.vars) (secN m.arrs) l rs w (.returned (.tuple #[.int .i64 c, .int .i64 (j : Int)])) w6) := ⟨c, j, rfl, .inl ⟨j, x, mj, HX.out, HMJ.out, HC.out, HC0.out, rfl, HNL.out⟩, HB.out.trans ((HB2.out.trans (HB6.mono HZ2.out)).mono HB.out.size)⟩
        clear HB6 hS6
        go_wp2_with fail
        go_ret2
        exact HFIN.out
    · obtain rfl : j = n := by omega
      have HFIN : Hid (FstN (secN m.vars) (secN m.arrs) l rs w (.returned (.tuple #[.int .i64 0, .int .i64 (-1)])) wr) := ⟨0, -1, rfl, .inr ⟨by rw [HN.out]; exact HNL.out, rfl, rfl⟩, HB.out.trans (HBR.out.mono HB.out.size)⟩
      clear HNL H
      go_wp2_with fail
      go_ret2
      exact HFIN.out

end Go.Proofs.YtmodonligaejhaaDoor

namespace Go.Proofs.YtmodonligaejhaaDoor
open Go.RowKit
set_option linter.unusedVariables false

/-- What CheckCode answers. -/
def CkV (m : Cd) (c i : Int) : Prop := (codeB m = true → ∃ rs, IsT (secN m.vars) (secN m.arrs) m.list rs ∧ FstL (secN m.vars) (secN m.arrs) m.list rs c i) ∧ (codeB m = false → c = 5 ∧ i = -1)
theorem CkV.uniq {m : Cd} {c i c' i' : Int} (h : CkV m c i) (h' : CkV m c' i') : c = c' ∧ i = i' := by
  cases hq : codeB m
  · obtain ⟨rfl, rfl⟩ := h.2 hq
    obtain ⟨rfl, rfl⟩ := h'.2 hq
    exact ⟨rfl, rfl⟩
  · obtain ⟨rs, h1, h2⟩ := h.1 hq
    obtain ⟨rs', h3, h4⟩ := h'.1 hq
    obtain rfl := h1.uniq h3
    exact h2.uniq h4
def CkN (m : Cd) (w : World) (e : Ending) (w' : World) : Prop := ∃ c i, e = .returned (.tuple #[.int .i64 c, .int .i64 i]) ∧ CkV m c i ∧ Below w.heap.size w w'

set_option maxRecDepth 100000 in
set_option maxHeartbeats 8000000 in
/-- **spec.CheckCode.** -/
theorem sCC_one (m : Cd) (k : CK) (w : World) (h : CL w m k) : Calls Tryd.prog 12 #[aggC m k] w (CkN m w) := by
  obtain ⟨W, hW⟩ : ∃ W, w.alloc (.cells (arrC m k) 30) = W := ⟨_, rfl⟩
  have hB : Below w.heap.size w W := by rw [← hW]; exact (Below.refl _ w).alloc (Nat.le_refl _) _
  have hX : BoxC W w.heap.size m k := by rw [← hW]; exact BoxC.new _ _ _ _
  have H : Hid (∀ v, Below W.heap.size W v → BoxC v w.heap.size m k ∧ CL v m k) := fun v hv => ⟨hX.below hv hX.lt, (h.below hB).below hv⟩
  have c0 := hX.c0
  have c1 := hX.c1
  have c2 := hX.c2
  have HW := Lib.hid hW
  have HB := Lib.hid hB
  unfold arrC at HW
  have HV := Lib.hid (sCV_one m k W (h.below hB))
  clear h hB hX hW
  go_enter Tryd.func12, Tryd.ntmps12
  go_wp2_with (first | rw [HW.out] | fail)
  refine HV.out.mono ?_
  rintro e w2 ⟨rfl, hb2⟩
  have HB2 : Hid (Below w.heap.size w w2) := HB.out.trans (hb2.mono HB.out.size)
  have HL2 : Hid (Below W.heap.size W w2) := hb2
  obtain ⟨x0, x1, x2⟩ : w2.cell? ⟨w.heap.size, 0, none⟩ = some (.slice k.va m.vars.length k.vc) ∧ w2.cell? ⟨w.heap.size, 1, none⟩ = some (.slice k.aa m.arrs.length k.ac) ∧ w2.cell? ⟨w.heap.size, 2, none⟩ = some (.slice k.la m.list.length k.lc) := by
    have b := (H.out w2 hb2).1
    exact ⟨b.c0, b.c1, b.c2⟩
  obtain ⟨q, hq⟩ : ∃ q, codeB m = q := ⟨_, rfl⟩
  have HQ := Lib.hid hq
  rw [hq]
  clear hb2 hq HV c0 c1 c2
  cases q
  case false =>
    have HFIN : Hid (CkN m w (.returned (.tuple #[.int .i64 5, .int .i64 (-1)])) w2) := ⟨5, -1, rfl, ⟨fun e => (by rw [HQ.out] at e; cases e), fun _ => ⟨rfl, rfl⟩⟩, HB2.out⟩
    go_wp2_with fail
    go_ret2
    exact HFIN.out
  case true =>
    have HI := Lib.hid (sInf_one m k w2 (H.out w2 HL2.out).2 HQ.out)
    go_wp2_with fail
    refine HI.out.mono ?_
    rintro e w3 ⟨rs, ta, tc, rfl, hist, hbbs, hb3⟩
    have HIS := Lib.hid hist
    have HL3 : Hid (Below W.heap.size W w3) := HL2.out.trans (hb3.mono HL2.out.size)
    have HBS : Hid (∀ v, Below w3.heap.size w3 v → BBs v (fun b => b < v.heap.size) (rs.map rowB) ta) := fun v hv => hbbs.below hv
    obtain ⟨n, hn⟩ : ∃ n, m.list.length = n := ⟨_, rfl⟩
    have HN := Lib.hid hn
    have HIT : Hid (∀ (i : Nat) (x : Ins), m.list[i]? = some x → InsT m.vars.length m.arrs.length x) := fun i x hx => codeB_ins HQ.out hx
    have HD := Lib.hid (codeB_decl HQ.out)
    have hn4 : n ≤ 400 := by rw [← hn]; exact (codeB_ok HQ.out).le
    rw [hn]
    clear hist hbbs hb3 HI hn x0 x1 x2
    go_wp2_with fail
    go_loopw [5] (fun i wr => ∃ j : Nat, j ≤ n ∧ i = .int .i64 j ∧ Hid (NoLk (secN m.vars) (secN m.arrs) m.list rs j) ∧ Hid (Below w3.heap.size w3 wr)) (fun i _ => n - (intOf i).toNat)
    case atStart => exact ⟨0, Nat.zero_le _, rfl, (fun q x mq hq => absurd hq (Nat.not_lt_zero _) : NoLk (secN m.vars) (secN m.arrs) m.list rs 0), Below.refl _ _⟩
    case round =>
      obtain ⟨j, hj, rfl, HNL, HBR⟩ := hrel
      have HWR : Hid (Below W.heap.size W wr) := HL3.out.trans (HBR.out.mono HL3.out.size)
      obtain ⟨hbx, hcl⟩ := H.out wr HWR.out
      have x0 := hbx.c0
      have x1 := hbx.c1
      have x2 := hbx.c2
      rw [HN.out] at x2
      have HBX := Lib.hid hbx
      have HCL := Lib.hid hcl
      clear hbx hcl
      by_cases hjn : j < n
      · obtain ⟨x, hx⟩ : ∃ x, m.list[j]? = some x := ⟨m.list[j]'(by rw [HN.out]; exact hjn), List.getElem?_eq_getElem _⟩
        obtain ⟨mj, hmj⟩ : ∃ mj, rs[j]? = some mj := ⟨rs[j]'(by rw [HIS.out.1, HN.out]; exact hjn), List.getElem?_eq_getElem _⟩
        obtain ⟨tb, tO, pa, pc, rfl, htb, hpc, hpb⟩ := (HBS.out wr HBR.out).2 j (rowB mj) (by rw [List.getElem?_map, hmj]; rfl)
        obtain ⟨bi, oi, hla, hbil, e0, e1, e2, e3, e4⟩ := HCL.out.2.2.2 j x hx
        have HX := Lib.hid hx
        have HMJ := Lib.hid hmj
        have HGM := Lib.hid (HIS.out.2.1 j mj hmj)
        by_cases hm0 : mj = 0
        · have HNL2 : Hid (NoLk (secN m.vars) (secN m.arrs) m.list rs (j + 1)) := HNL.out.succ HX.out HMJ.out (by rw [hm0]; exact leakM_0 _ _ _)
          rw [hm0] at hpc
          have hpc' : wr.cell? ⟨tb, tO + j, none⟩ = some (.slice pa 0 pc) := hpc
          clear hpc hm0 hx hmj hpb e0 e1 e2 e3 e4 hla hbil
          go_wp2_with fail
          go_roundw
          case rel => exact ⟨j + 1, by omega, by go_num, HNL2, HBR⟩
          case measure => simp [intOf]; omega
        · rw [rowB_len hm0] at hpc
          have HOW : Hid (Calls Tryd.prog 39 #[.agg #[.slice k.va m.vars.length k.vc, .slice k.aa m.arrs.length k.ac, .slice (some ⟨bi, oi, none⟩) n k.lc], aggI x, .slice pa 14 pc] wr.drew (NumB (leakM (secN m.vars) (secN m.arrs) x mj) wr.drew)) := by
            have h9 := sOwn_one m k x mj pa pc wr.drew (HCL.out.below (Below.refl _ wr).drew) HD.out (HIT.out j x hx) hm0 (hpb.wide (fun _ _ => rfl) fun _ hb => hb)
            unfold aggC at h9
            rw [HN.out, hla] at h9
            exact h9
          have HSB : Hid (∀ v, Below wr.heap.size wr v → v.cell? ⟨w.heap.size, 0, none⟩ = some (.slice k.va m.vars.length k.vc) ∧ v.cell? ⟨w.heap.size, 1, none⟩ = some (.slice k.aa m.arrs.length k.ac) ∧ v.cell? ⟨w.heap.size, 2, none⟩ = some (.slice (some ⟨bi, oi, none⟩) n k.lc) ∧ v.cell? ⟨bi, oi + j * 5, none⟩ = some (.int .i64 x.op) ∧ v.cell? ⟨bi, oi + j * 5 + 1, none⟩ = some (.int .i64 x.fa) ∧ v.cell? ⟨bi, oi + j * 5 + 2, none⟩ = some (.int .i64 x.fb) ∧ v.cell? ⟨bi, oi + j * 5 + 3, none⟩ = some (.int .i64 x.fc) ∧ v.cell? ⟨bi, oi + j * 5 + 4, none⟩ = some (.int .i64 x.fd) ∧ v.cell? ⟨tb, tO + j, none⟩ = some (.slice pa 14 pc)) := fun v hv => by
            have b := HBX.out.below hv HBX.out.lt
            have b2 := b.c2
            rw [HN.out, hla] at b2
            exact ⟨b.c0, b.c1, b2, (hv.cell (p := ⟨bi, _, none⟩) hbil).trans e0, (hv.cell (p := ⟨bi, _, none⟩) hbil).trans e1, (hv.cell (p := ⟨bi, _, none⟩) hbil).trans e2, (hv.cell (p := ⟨bi, _, none⟩) hbil).trans e3, (hv.cell (p := ⟨bi, _, none⟩) hbil).trans e4, (hv.cell (p := ⟨tb, _, none⟩) htb).trans hpc⟩
          obtain ⟨c, hc⟩ : ∃ c, leakM (secN m.vars) (secN m.arrs) x mj = c := ⟨_, rfl⟩
          have HC := Lib.hid hc
          rw [hc] at HOW
          rw [hla] at x2
          have hb3r := HBR.out.size
          clear hc hm0 hx hmj hpb e0 e1 e2 e3 e4 hla hbil
          by_cases hc0 : c = 0
          · have hcb : (c != 0) = false := by simpa using hc0
            have HNL2 : Hid (NoLk (secN m.vars) (secN m.arrs) m.list rs (j + 1)) := HNL.out.succ HX.out HMJ.out (by rw [HC.out]; exact hc0)
            clear hc0
            go_wp2_with fail
            refine wp_region_held_drew (S := fun v => v.cell? ⟨w.heap.size, 0, none⟩ = some (.slice k.va m.vars.length k.vc) ∧ v.cell? ⟨w.heap.size, 1, none⟩ = some (.slice k.aa m.arrs.length k.ac) ∧ v.cell? ⟨w.heap.size, 2, none⟩ = some (.slice (some ⟨bi, oi, none⟩) n k.lc) ∧ v.cell? ⟨bi, oi + j * 5, none⟩ = some (.int .i64 x.op) ∧ v.cell? ⟨bi, oi + j * 5 + 1, none⟩ = some (.int .i64 x.fa) ∧ v.cell? ⟨bi, oi + j * 5 + 2, none⟩ = some (.int .i64 x.fb) ∧ v.cell? ⟨bi, oi + j * 5 + 3, none⟩ = some (.int .i64 x.fc) ∧ v.cell? ⟨bi, oi + j * 5 + 4, none⟩ = some (.int .i64 x.fd) ∧ v.cell? ⟨tb, tO + j, none⟩ = some (.slice pa 14 pc)) (by kernel_rfl) (HSB.out wr (Below.refl _ _)) (fun hHeld => ?_)
            refine wpAnyH_take (i := 0) (oi := ⟨some 25, _, _, _, _, _⟩) (v := ?_) rfl (by kernel_rfl) (by kernel_rfl) (by kernel_rfl) (fun _ _ _ h => h) (Or.inl ⟨by rfl, ?_⟩) (by assumption) ?_
            rotate_left
            · intro w hSw; (try dsimp only at hSw); go_simp; (try with_reducible rfl)
            simp only [Act.put, List.setIfInBounds_toArray, List.set_cons_zero, List.set_cons_succ]
            refine wpAnyH_take (i := 1) (oi := ⟨some 26, _, _, _, _, _⟩) (v := ?_) rfl (by kernel_rfl) (by kernel_rfl) (by kernel_rfl) (fun _ _ _ h => h) (Or.inl ⟨by rfl, ?_⟩) (by assumption) ?_
            rotate_left
            · intro w hSw; (try dsimp only at hSw); go_simp; (try with_reducible rfl)
            simp only [Act.put, List.setIfInBounds_toArray, List.set_cons_zero, List.set_cons_succ]
            refine wpAnyH_take (i := 2) (oi := ⟨some 27, _, _, _, _, _⟩) (v := ?_) rfl (by kernel_rfl) (by kernel_rfl) (by kernel_rfl) (fun _ _ _ h => h) (Or.inl ⟨by rfl, ?_⟩) (by assumption) ?_
            rotate_left
            · intro w hSw; (try dsimp only at hSw); go_simp; (try with_reducible rfl)
            simp only [Act.put, List.setIfInBounds_toArray, List.set_cons_zero, List.set_cons_succ]
            refine wpAnyH_take (i := 3) (oi := ⟨some 28, _, _, _, _, _⟩) (v := ?_) rfl (by kernel_rfl) (by kernel_rfl) (by kernel_rfl) (fun _ _ _ h => h) (Or.inl ⟨by rfl, ?_⟩) (by assumption) ?_
            rotate_left
            · intro w hSw; (try dsimp only at hSw); go_simp; (try with_reducible rfl)
            simp only [Act.put, List.setIfInBounds_toArray, List.set_cons_zero, List.set_cons_succ]
            refine wpAnyH_take (i := 4) (oi := ⟨some 29, _, _, _, _, _⟩) (v := ?_) rfl (by kernel_rfl) (by kernel_rfl) (by kernel_rfl) (fun _ _ _ h => h) (Or.inl ⟨by rfl, ?_⟩) (by assumption) ?_
            rotate_left
            · intro w hSw; (try dsimp only at hSw); go_simp; (try with_reducible rfl)
            simp only [Act.put, List.setIfInBounds_toArray, List.set_cons_zero, List.set_cons_succ]
            refine wpAnyH_take (i := 5) (oi := ⟨some 30, _, _, _, _, _⟩) (v := ?_) rfl (by kernel_rfl) (by kernel_rfl) (by kernel_rfl) (fun _ _ _ h => h) (Or.inl ⟨by rfl, ?_⟩) (by assumption) ?_
            rotate_left
            · intro w hSw; (try dsimp only at hSw); go_simp; (try with_reducible rfl)
            simp only [Act.put, List.setIfInBounds_toArray, List.set_cons_zero, List.set_cons_succ]
            refine wpAnyH_take (i := 6) (oi := ⟨some 31, _, _, _, _, _⟩) (v := ?_) rfl (by kernel_rfl) (by kernel_rfl) (by kernel_rfl) (fun _ _ _ h => h) (Or.inl ⟨by rfl, ?_⟩) (by assumption) ?_
            rotate_left
            · intro w hSw; (try dsimp only at hSw); go_simp; (try with_reducible rfl)
            simp only [Act.put, List.setIfInBounds_toArray, List.set_cons_zero, List.set_cons_succ]
            refine wpAnyH_take (i := 7) (oi := ⟨some 32, _, _, _, _, _⟩) (v := ?_) rfl (by kernel_rfl) (by kernel_rfl) (by kernel_rfl) (fun _ _ _ h => h) (Or.inl ⟨by rfl, ?_⟩) (by assumption) ?_
            rotate_left
            · intro w hSw; (try dsimp only at hSw); go_simp; (try with_reducible rfl)
            simp only [Act.put, List.setIfInBounds_toArray, List.set_cons_zero, List.set_cons_succ]
            refine wpAnyH_take (i := 8) (oi := ⟨some 33, _, _, _, _, _⟩) (v := ?_) rfl (by kernel_rfl) (by kernel_rfl) (by kernel_rfl) (fun _ _ _ h => h) (Or.inl ⟨by rfl, ?_⟩) (by assumption) ?_
            rotate_left
            · intro w hSw; (try dsimp only at hSw); go_simp; (try with_reducible rfl)
            simp only [Act.put, List.setIfInBounds_toArray, List.set_cons_zero, List.set_cons_succ]
            refine wpAnyH_take (i := 9) (oi := ⟨some 34, _, _, _, _, _⟩) (v := ?_) rfl (by kernel_rfl) (by kernel_rfl) (by kernel_rfl) (fun _ _ _ h => h) (Or.inl ⟨by rfl, ?_⟩) (by assumption) ?_
            rotate_left
            · intro w hSw; (try dsimp only at hSw); go_simp; (try with_reducible rfl)
            simp only [Act.put, List.setIfInBounds_toArray, List.set_cons_zero, List.set_cons_succ]
            refine wpAnyH_ready (rs := [10]) (by kernel_rfl) (by simp) ?_
            refine AllReadyH.cons (o := ⟨some 35, _, _, _, _, _⟩) rfl (fun K hK => ?_) AllReadyH.nil
            go_simp
            refine (HOW.out).mono ?_
            rintro e w6 ⟨rfl, hb6⟩
            have HB6 : Below wr.heap.size wr w6 := (Below.refl _ wr).drew.trans hb6
            have hS6 := HSB.out w6 HB6
            go_wp2_with fail
            refine hK.out _ _ hS6 (fun hHeld => ?_)
            clear hK K hb6
            try simp only [Act.put, List.setIfInBounds_toArray, List.set_cons_zero, List.set_cons_succ]
            refine wpAnyH_take (i := 11) (oi := ⟨some 6, _, _, _, _, _⟩) (v := ?_) rfl (by kernel_rfl) (by kernel_rfl) (by kernel_rfl) (fun _ _ _ h => h) (Or.inl ⟨by rfl, ?_⟩) (by assumption) ?_
            rotate_left
            · intro w hSw; (try dsimp only at hSw); go_simp; (try with_reducible rfl)
            simp only [Act.put, List.setIfInBounds_toArray, List.set_cons_zero, List.set_cons_succ]
            refine wpAnyH_done (by kernel_rfl) ?_ _
            have HB7 : Hid (Below w3.heap.size w3 w6) := HBR.out.trans (HB6.mono hb3r)
            clear HB6 hS6
            go_wp2_with fail
            go_roundw
            case rel => exact ⟨j + 1, by omega, by go_num, HNL2, HB7⟩
            case measure => simp [intOf]; omega
          · have hcb : (c != 0) = true := by simpa using hc0
            have HC0 : Hid (c ≠ 0) := hc0
            clear hc0
            go_wp2_with fail
            refine wp_region_held_drew (S := fun v => v.cell? ⟨w.heap.size, 0, none⟩ = some (.slice k.va m.vars.length k.vc) ∧ v.cell? ⟨w.heap.size, 1, none⟩ = some (.slice k.aa m.arrs.length k.ac) ∧ v.cell? ⟨w.heap.size, 2, none⟩ = some (.slice (some ⟨bi, oi, none⟩) n k.lc) ∧ v.cell? ⟨bi, oi + j * 5, none⟩ = some (.int .i64 x.op) ∧ v.cell? ⟨bi, oi + j * 5 + 1, none⟩ = some (.int .i64 x.fa) ∧ v.cell? ⟨bi, oi + j * 5 + 2, none⟩ = some (.int .i64 x.fb) ∧ v.cell? ⟨bi, oi + j * 5 + 3, none⟩ = some (.int .i64 x.fc) ∧ v.cell? ⟨bi, oi + j * 5 + 4, none⟩ = some (.int .i64 x.fd) ∧ v.cell? ⟨tb, tO + j, none⟩ = some (.slice pa 14 pc)) (by kernel_rfl) (HSB.out wr (Below.refl _ _)) (fun hHeld => ?_)
            refine wpAnyH_take (i := 0) (oi := ⟨some 25, _, _, _, _, _⟩) (v := ?_) rfl (by kernel_rfl) (by kernel_rfl) (by kernel_rfl) (fun _ _ _ h => h) (Or.inl ⟨by rfl, ?_⟩) (by assumption) ?_
            rotate_left
            · intro w hSw; (try dsimp only at hSw); go_simp; (try with_reducible rfl)
            simp only [Act.put, List.setIfInBounds_toArray, List.set_cons_zero, List.set_cons_succ]
            refine wpAnyH_take (i := 1) (oi := ⟨some 26, _, _, _, _, _⟩) (v := ?_) rfl (by kernel_rfl) (by kernel_rfl) (by kernel_rfl) (fun _ _ _ h => h) (Or.inl ⟨by rfl, ?_⟩) (by assumption) ?_
            rotate_left
            · intro w hSw; (try dsimp only at hSw); go_simp; (try with_reducible rfl)
            simp only [Act.put, List.setIfInBounds_toArray, List.set_cons_zero, List.set_cons_succ]
            refine wpAnyH_take (i := 2) (oi := ⟨some 27, _, _, _, _, _⟩) (v := ?_) rfl (by kernel_rfl) (by kernel_rfl) (by kernel_rfl) (fun _ _ _ h => h) (Or.inl ⟨by rfl, ?_⟩) (by assumption) ?_
            rotate_left
            · intro w hSw; (try dsimp only at hSw); go_simp; (try with_reducible rfl)
            simp only [Act.put, List.setIfInBounds_toArray, List.set_cons_zero, List.set_cons_succ]
            refine wpAnyH_take (i := 3) (oi := ⟨some 28, _, _, _, _, _⟩) (v := ?_) rfl (by kernel_rfl) (by kernel_rfl) (by kernel_rfl) (fun _ _ _ h => h) (Or.inl ⟨by rfl, ?_⟩) (by assumption) ?_
            rotate_left
            · intro w hSw; (try dsimp only at hSw); go_simp; (try with_reducible rfl)
            simp only [Act.put, List.setIfInBounds_toArray, List.set_cons_zero, List.set_cons_succ]
            refine wpAnyH_take (i := 4) (oi := ⟨some 29, _, _, _, _, _⟩) (v := ?_) rfl (by kernel_rfl) (by kernel_rfl) (by kernel_rfl) (fun _ _ _ h => h) (Or.inl ⟨by rfl, ?_⟩) (by assumption) ?_
            rotate_left
            · intro w hSw; (try dsimp only at hSw); go_simp; (try with_reducible rfl)
            simp only [Act.put, List.setIfInBounds_toArray, List.set_cons_zero, List.set_cons_succ]
            refine wpAnyH_take (i := 5) (oi := ⟨some 30, _, _, _, _, _⟩) (v := ?_) rfl (by kernel_rfl) (by kernel_rfl) (by kernel_rfl) (fun _ _ _ h => h) (Or.inl ⟨by rfl, ?_⟩) (by assumption) ?_
            rotate_left
            · intro w hSw; (try dsimp only at hSw); go_simp; (try with_reducible rfl)
            simp only [Act.put, List.setIfInBounds_toArray, List.set_cons_zero, List.set_cons_succ]
            refine wpAnyH_take (i := 6) (oi := ⟨some 31, _, _, _, _, _⟩) (v := ?_) rfl (by kernel_rfl) (by kernel_rfl) (by kernel_rfl) (fun _ _ _ h => h) (Or.inl ⟨by rfl, ?_⟩) (by assumption) ?_
            rotate_left
            · intro w hSw; (try dsimp only at hSw); go_simp; (try with_reducible rfl)
            simp only [Act.put, List.setIfInBounds_toArray, List.set_cons_zero, List.set_cons_succ]
            refine wpAnyH_take (i := 7) (oi := ⟨some 32, _, _, _, _, _⟩) (v := ?_) rfl (by kernel_rfl) (by kernel_rfl) (by kernel_rfl) (fun _ _ _ h => h) (Or.inl ⟨by rfl, ?_⟩) (by assumption) ?_
            rotate_left
            · intro w hSw; (try dsimp only at hSw); go_simp; (try with_reducible rfl)
            simp only [Act.put, List.setIfInBounds_toArray, List.set_cons_zero, List.set_cons_succ]
            refine wpAnyH_take (i := 8) (oi := ⟨some 33, _, _, _, _, _⟩) (v := ?_) rfl (by kernel_rfl) (by kernel_rfl) (by kernel_rfl) (fun _ _ _ h => h) (Or.inl ⟨by rfl, ?_⟩) (by assumption) ?_
            rotate_left
            · intro w hSw; (try dsimp only at hSw); go_simp; (try with_reducible rfl)
            simp only [Act.put, List.setIfInBounds_toArray, List.set_cons_zero, List.set_cons_succ]
            refine wpAnyH_take (i := 9) (oi := ⟨some 34, _, _, _, _, _⟩) (v := ?_) rfl (by kernel_rfl) (by kernel_rfl) (by kernel_rfl) (fun _ _ _ h => h) (Or.inl ⟨by rfl, ?_⟩) (by assumption) ?_
            rotate_left
            · intro w hSw; (try dsimp only at hSw); go_simp; (try with_reducible rfl)
            simp only [Act.put, List.setIfInBounds_toArray, List.set_cons_zero, List.set_cons_succ]
            refine wpAnyH_ready (rs := [10]) (by kernel_rfl) (by simp) ?_
            refine AllReadyH.cons (o := ⟨some 35, _, _, _, _, _⟩) rfl (fun K hK => ?_) AllReadyH.nil
            go_simp
            refine (HOW.out).mono ?_
            rintro e w6 ⟨rfl, hb6⟩
            have HB6 : Below wr.heap.size wr w6 := (Below.refl _ wr).drew.trans hb6
            have hS6 := HSB.out w6 HB6
            go_wp2_with fail
            refine hK.out _ _ hS6 (fun hHeld => ?_)
            clear hK K hb6
            try simp only [Act.put, List.setIfInBounds_toArray, List.set_cons_zero, List.set_cons_succ]
            refine wpAnyH_take (i := 11) (oi := ⟨some 6, _, _, _, _, _⟩) (v := ?_) rfl (by kernel_rfl) (by kernel_rfl) (by kernel_rfl) (fun _ _ _ h => h) (Or.inl ⟨by rfl, ?_⟩) (by assumption) ?_
            rotate_left
            · intro w hSw; (try dsimp only at hSw); go_simp; (try with_reducible rfl)
            simp only [Act.put, List.setIfInBounds_toArray, List.set_cons_zero, List.set_cons_succ]
            refine wpAnyH_done (by kernel_rfl) ?_ _
            have HFIN : Hid (CkN m w (.returned (.tuple #[.int .i64 c, .int .i64 (j : Int)])) w6) := ⟨c, j, rfl, ⟨fun _ => ⟨rs, HIS.out, .inl ⟨j, x, mj, HX.out, HMJ.out, HC.out, HC0.out, rfl, HNL.out⟩⟩, fun e => (by rw [HQ.out] at e; cases e)⟩, HB.out.trans ((HWR.out.trans (HB6.mono HWR.out.size)).mono HB.out.size)⟩
            clear HB6 hS6
            go_wp2_with fail
            go_ret2
            exact HFIN.out
      · obtain rfl : j = n := by omega
        have HFIN : Hid (CkN m w (.returned (.tuple #[.int .i64 0, .int .i64 (-1)])) wr) := ⟨0, -1, rfl, ⟨fun _ => ⟨rs, HIS.out, .inr ⟨by rw [HN.out]; exact HNL.out, rfl, rfl⟩⟩, fun e => (by rw [HQ.out] at e; cases e)⟩, HB.out.trans (HWR.out.mono HB.out.size)⟩
        clear HNL H
        go_wp2_with fail
        go_ret2
        exact HFIN.out

end Go.Proofs.YtmodonligaejhaaDoor

namespace Go.Proofs.YtmodonligaejhaaDoor
open Go.RowKit
set_option linter.unusedVariables false

theorem RsAt.of_own {w : World} {base n S : Nat} {rs : List Nat} (h : w.ownsRow base 81 1 (.slice (some ⟨S, 0, none⟩) n n) n (rs.map v16)) (hl : rs.length = n) : RsAt w (fun b => b < w.heap.size) rs (some ⟨S, 0, none⟩) := fun i m hm => by
  have hi : i < n := by rw [← hl]; exact (List.getElem?_eq_some_iff.1 hm).1
  refine ⟨S, 0, rfl, (h.lt S rfl).2, ?_⟩
  rw [Nat.zero_add, h.cellAt i (by omega), List.getElem?_map, hm]; rfl

set_option maxRecDepth 100000 in
set_option maxHeartbeats 8000000 in
/-- **impl.CheckCode.** -/
theorem iCC_one (m : Cd) (k : CK) (w : World) (h : CL w m k) (hT : TblF w) : Calls Tryd.prog 13 #[aggC m k] w (CkN m w) := by
  obtain ⟨W, hW⟩ : ∃ W, w.alloc (.cells (arrC m k) 30) = W := ⟨_, rfl⟩
  have hB : Below w.heap.size w W := by rw [← hW]; exact (Below.refl _ w).alloc (Nat.le_refl _) _
  have hX : BoxC W w.heap.size m k := by rw [← hW]; exact BoxC.new _ _ _ _
  have H : Hid (∀ v, Below W.heap.size W v → BoxC v w.heap.size m k ∧ CL v m k) := fun v hv => ⟨hX.below hv hX.lt, (h.below hB).below hv⟩
  have c0 := hX.c0
  have c1 := hX.c1
  have c2 := hX.c2
  have HW := Lib.hid hW
  have HB := Lib.hid hB
  unfold arrC at HW
  have HV := Lib.hid (iCV_one m k W (h.below hB) (hT.below hB hT.lt))
  clear h hT hB hX hW
  go_enter Tryd.func13, Tryd.ntmps13
  go_wp2_with (first | rw [HW.out] | fail)
  refine HV.out.mono ?_
  rintro e w2 ⟨rfl, hb2⟩
  have HB2 : Hid (Below w.heap.size w w2) := HB.out.trans (hb2.mono HB.out.size)
  have HL2 : Hid (Below W.heap.size W w2) := hb2
  obtain ⟨x0, x1, x2⟩ : w2.cell? ⟨w.heap.size, 0, none⟩ = some (.slice k.va m.vars.length k.vc) ∧ w2.cell? ⟨w.heap.size, 1, none⟩ = some (.slice k.aa m.arrs.length k.ac) ∧ w2.cell? ⟨w.heap.size, 2, none⟩ = some (.slice k.la m.list.length k.lc) := by
    have b := (H.out w2 hb2).1
    exact ⟨b.c0, b.c1, b.c2⟩
  obtain ⟨q, hq⟩ : ∃ q, codeB m = q := ⟨_, rfl⟩
  have HQ := Lib.hid hq
  rw [hq]
  clear hb2 hq HV c0 c1 c2
  cases q
  case false =>
    have HFIN : Hid (CkN m w (.returned (.tuple #[.int .i64 5, .int .i64 (-1)])) w2) := ⟨5, -1, rfl, ⟨fun e => (by rw [HQ.out] at e; cases e), fun _ => ⟨rfl, rfl⟩⟩, HB2.out⟩
    go_wp2_with fail
    go_ret2
    exact HFIN.out
  case true =>
    have ho := vOf_one m k w2 (H.out w2 HL2.out).2 HQ.out
    unfold aggC at ho
    obtain ⟨n, hn⟩ : ∃ n, m.list.length = n := ⟨_, rfl⟩
    have HN := Lib.hid hn
    have HIT : Hid (∀ (i : Nat) (x : Ins), m.list[i]? = some x → InsT m.vars.length m.arrs.length x) := fun i x hx => codeB_ins HQ.out hx
    have HKN := Lib.hid (knl_T HQ.out)
    have HOK := Lib.hid (codeB_ok HQ.out)
    have hn4 : n ≤ 400 := by rw [← hn]; exact (codeB_ok HQ.out).le
    rw [hn] at ho x2
    have HO := Lib.hid ho
    clear hn ho
    go_upto_region 4 with fail
    refine HO.out.mono ?_
    rintro e w3 ⟨rfl, hb3⟩
    have HL3 : Hid (Below W.heap.size W w3) := HL2.out.trans (hb3.mono HL2.out.size)
    obtain ⟨W4, hW4⟩ : ∃ W4, w3.alloc (.cells #[.slice none 0 0, .int .i64 0, .int .i64 0, .int .i64 0, .int .i64 0, .int .i64 0, .int .i64 0, .int .i64 0, .int .i64 0, .int .i64 0, .int .i64 0, .int .i64 0, .int .i64 0, .int .i64 0, .int .i64 0] 69) = W4 := ⟨_, rfl⟩
    have hrow : W4.heap[w3.heap.size]? = some (.cells #[.slice none 0 0, .int .i64 0, .int .i64 0, .int .i64 0, .int .i64 0, .int .i64 0, .int .i64 0, .int .i64 0, .int .i64 0, .int .i64 0, .int .i64 0, .int .i64 0, .int .i64 0, .int .i64 0, .int .i64 0] 69 (0, 0)) := by rw [← hW4]; exact heap_alloc_new w3 _
    have hB4 : Below w3.heap.size w3 W4 := by rw [← hW4]; exact (Below.refl _ w3).alloc (Nat.le_refl _) _
    have r0 : ∃ u, W4.cell? ⟨w3.heap.size, 0, none⟩ = some u := cell_ex hrow 0 (by simp)
    obtain ⟨u0', r0⟩ := r0
    have z0 := frozen_at hrow 0
    have r1 : ∃ u, W4.cell? ⟨w3.heap.size, 1, none⟩ = some u := cell_ex hrow 1 (by simp)
    obtain ⟨u1', r1⟩ := r1
    have z1 := frozen_at hrow 1
    have r2 : ∃ u, W4.cell? ⟨w3.heap.size, 2, none⟩ = some u := cell_ex hrow 2 (by simp)
    obtain ⟨u2', r2⟩ := r2
    have z2 := frozen_at hrow 2
    have r3 : ∃ u, W4.cell? ⟨w3.heap.size, 3, none⟩ = some u := cell_ex hrow 3 (by simp)
    obtain ⟨u3', r3⟩ := r3
    have z3 := frozen_at hrow 3
    have r4 : ∃ u, W4.cell? ⟨w3.heap.size, 4, none⟩ = some u := cell_ex hrow 4 (by simp)
    obtain ⟨u4', r4⟩ := r4
    have z4 := frozen_at hrow 4
    have r5 : ∃ u, W4.cell? ⟨w3.heap.size, 5, none⟩ = some u := cell_ex hrow 5 (by simp)
    obtain ⟨u5', r5⟩ := r5
    have z5 := frozen_at hrow 5
    have r6 : ∃ u, W4.cell? ⟨w3.heap.size, 6, none⟩ = some u := cell_ex hrow 6 (by simp)
    obtain ⟨u6', r6⟩ := r6
    have z6 := frozen_at hrow 6
    have r7 : ∃ u, W4.cell? ⟨w3.heap.size, 7, none⟩ = some u := cell_ex hrow 7 (by simp)
    obtain ⟨u7', r7⟩ := r7
    have z7 := frozen_at hrow 7
    have r8 : ∃ u, W4.cell? ⟨w3.heap.size, 8, none⟩ = some u := cell_ex hrow 8 (by simp)
    obtain ⟨u8', r8⟩ := r8
    have z8 := frozen_at hrow 8
    have r9 : ∃ u, W4.cell? ⟨w3.heap.size, 9, none⟩ = some u := cell_ex hrow 9 (by simp)
    obtain ⟨u9', r9⟩ := r9
    have z9 := frozen_at hrow 9
    have r10 : ∃ u, W4.cell? ⟨w3.heap.size, 10, none⟩ = some u := cell_ex hrow 10 (by simp)
    obtain ⟨u10', r10⟩ := r10
    have z10 := frozen_at hrow 10
    have r11 : ∃ u, W4.cell? ⟨w3.heap.size, 11, none⟩ = some u := cell_ex hrow 11 (by simp)
    obtain ⟨u11', r11⟩ := r11
    have z11 := frozen_at hrow 11
    have r12 : ∃ u, W4.cell? ⟨w3.heap.size, 12, none⟩ = some u := cell_ex hrow 12 (by simp)
    obtain ⟨u12', r12⟩ := r12
    have z12 := frozen_at hrow 12
    have r13 : ∃ u, W4.cell? ⟨w3.heap.size, 13, none⟩ = some u := cell_ex hrow 13 (by simp)
    obtain ⟨u13', r13⟩ := r13
    have z13 := frozen_at hrow 13
    have r14 : ∃ u, W4.cell? ⟨w3.heap.size, 14, none⟩ = some u := cell_ex hrow 14 (by simp)
    obtain ⟨u14', r14⟩ := r14
    have z14 := frozen_at hrow 14
    have h9 := put_row [.slice k.la n k.lc, .int .i64 (knl m.heads 0 : Int), .int .i64 (knl m.heads 1 : Int), .int .i64 (knl m.heads 2 : Int), .int .i64 (knl m.heads 3 : Int), .int .i64 (knl m.heads 4 : Int), .int .i64 (knl m.heads 5 : Int), .int .i64 (knl m.heads 6 : Int), .int .i64 (knl m.heads 7 : Int), .int .i64 (knl m.heads 8 : Int), .int .i64 (knl m.heads 9 : Int), .int .i64 (knl m.heads 10 : Int), .int .i64 (knl m.heads 11 : Int), .int .i64 (knl m.heads 12 : Int), .int .i64 (knl m.heads 13 : Int)] W4 w3.heap.size 0 _ _ hrow
    have h9b := put_below [.slice k.la n k.lc, .int .i64 (knl m.heads 0 : Int), .int .i64 (knl m.heads 1 : Int), .int .i64 (knl m.heads 2 : Int), .int .i64 (knl m.heads 3 : Int), .int .i64 (knl m.heads 4 : Int), .int .i64 (knl m.heads 5 : Int), .int .i64 (knl m.heads 6 : Int), .int .i64 (knl m.heads 7 : Int), .int .i64 (knl m.heads 8 : Int), .int .i64 (knl m.heads 9 : Int), .int .i64 (knl m.heads 10 : Int), .int .i64 (knl m.heads 11 : Int), .int .i64 (knl m.heads 12 : Int), .int .i64 (knl m.heads 13 : Int)] w3 W4 w3.heap.size w3.heap.size 0 hB4 (Nat.le_refl _)
    have h9s := put_size [.slice k.la n k.lc, .int .i64 (knl m.heads 0 : Int), .int .i64 (knl m.heads 1 : Int), .int .i64 (knl m.heads 2 : Int), .int .i64 (knl m.heads 3 : Int), .int .i64 (knl m.heads 4 : Int), .int .i64 (knl m.heads 5 : Int), .int .i64 (knl m.heads 6 : Int), .int .i64 (knl m.heads 7 : Int), .int .i64 (knl m.heads 8 : Int), .int .i64 (knl m.heads 9 : Int), .int .i64 (knl m.heads 10 : Int), .int .i64 (knl m.heads 11 : Int), .int .i64 (knl m.heads 12 : Int), .int .i64 (knl m.heads 13 : Int)] W4 w3.heap.size 0
    obtain ⟨W5, hW5⟩ : ∃ W5, put W4 w3.heap.size 0 [.slice k.la n k.lc, .int .i64 (knl m.heads 0 : Int), .int .i64 (knl m.heads 1 : Int), .int .i64 (knl m.heads 2 : Int), .int .i64 (knl m.heads 3 : Int), .int .i64 (knl m.heads 4 : Int), .int .i64 (knl m.heads 5 : Int), .int .i64 (knl m.heads 6 : Int), .int .i64 (knl m.heads 7 : Int), .int .i64 (knl m.heads 8 : Int), .int .i64 (knl m.heads 9 : Int), .int .i64 (knl m.heads 10 : Int), .int .i64 (knl m.heads 11 : Int), .int .i64 (knl m.heads 12 : Int), .int .i64 (knl m.heads 13 : Int)] = W5 := ⟨_, rfl⟩
    rw [hW5] at h9 h9b h9s
    have hz4 : W4.heap.size = w3.heap.size + 1 := by rw [← hW4]; simp
    have h9v : W5.heap[w3.heap.size]? = some (.cells (arrV k.la n k.lc (knl m.heads)) 69 (0, 0)) := by rw [← arrV_set]; exact h9
    have HSB : Hid (∀ v, Below W5.heap.size W5 v → v.cell? ⟨w3.heap.size, 0, none⟩ = some (.slice k.la n k.lc) ∧ v.cell? ⟨w3.heap.size, 1, none⟩ = some (.int .i64 (knl m.heads 0 : Int)) ∧ v.cell? ⟨w3.heap.size, 2, none⟩ = some (.int .i64 (knl m.heads 1 : Int)) ∧ v.cell? ⟨w3.heap.size, 3, none⟩ = some (.int .i64 (knl m.heads 2 : Int)) ∧ v.cell? ⟨w3.heap.size, 4, none⟩ = some (.int .i64 (knl m.heads 3 : Int)) ∧ v.cell? ⟨w3.heap.size, 5, none⟩ = some (.int .i64 (knl m.heads 4 : Int)) ∧ v.cell? ⟨w3.heap.size, 6, none⟩ = some (.int .i64 (knl m.heads 5 : Int)) ∧ v.cell? ⟨w3.heap.size, 7, none⟩ = some (.int .i64 (knl m.heads 6 : Int)) ∧ v.cell? ⟨w3.heap.size, 8, none⟩ = some (.int .i64 (knl m.heads 7 : Int)) ∧ v.cell? ⟨w3.heap.size, 9, none⟩ = some (.int .i64 (knl m.heads 8 : Int)) ∧ v.cell? ⟨w3.heap.size, 10, none⟩ = some (.int .i64 (knl m.heads 9 : Int)) ∧ v.cell? ⟨w3.heap.size, 11, none⟩ = some (.int .i64 (knl m.heads 10 : Int)) ∧ v.cell? ⟨w3.heap.size, 12, none⟩ = some (.int .i64 (knl m.heads 11 : Int)) ∧ v.cell? ⟨w3.heap.size, 13, none⟩ = some (.int .i64 (knl m.heads 12 : Int)) ∧ v.cell? ⟨w3.heap.size, 14, none⟩ = some (.int .i64 (knl m.heads 13 : Int))) := fun v hv => by
      have h2 := (hv.block w3.heap.size (by omega)).trans h9v
      exact ⟨(by rw [cell_at h2]; rfl), (by rw [cell_at h2]; rfl), (by rw [cell_at h2]; rfl), (by rw [cell_at h2]; rfl), (by rw [cell_at h2]; rfl), (by rw [cell_at h2]; rfl), (by rw [cell_at h2]; rfl), (by rw [cell_at h2]; rfl), (by rw [cell_at h2]; rfl), (by rw [cell_at h2]; rfl), (by rw [cell_at h2]; rfl), (by rw [cell_at h2]; rfl), (by rw [cell_at h2]; rfl), (by rw [cell_at h2]; rfl), (by rw [cell_at h2]; rfl)⟩
    have HL5 : Hid (Below W.heap.size W W5) := HL3.out.trans (h9b.mono HL3.out.size)
    have HNA : Hid (∀ v, Below W5.heap.size W5 v → NAt v (fun b => b < v.heap.size) m.list k.la) := fun v hv => (H.out v (HL5.out.trans (hv.mono HL5.out.size))).2.2.2
    have HLE := Lib.hid (least_one m m.list k.la n k.lc (knl m.heads) W5.drew (HNA.out _ (Below.refl _ W5).drew) HN.out HOK.out HKN.out HIT.out)
    have HW4 := Lib.hid hW4
    have HW5 := Lib.hid hW5
    clear hb3 hW4 hrow hB4 h9 h9b h9s hW5 hz4 h9v HO
    go_upto_region 4 with (first | rw [HW4.out] | fail)
    show Code.wp _ _ _ _ (put W4 w3.heap.size 0 [.slice k.la n k.lc, .int .i64 (knl m.heads 0 : Int), .int .i64 (knl m.heads 1 : Int), .int .i64 (knl m.heads 2 : Int), .int .i64 (knl m.heads 3 : Int), .int .i64 (knl m.heads 4 : Int), .int .i64 (knl m.heads 5 : Int), .int .i64 (knl m.heads 6 : Int), .int .i64 (knl m.heads 7 : Int), .int .i64 (knl m.heads 8 : Int), .int .i64 (knl m.heads 9 : Int), .int .i64 (knl m.heads 10 : Int), .int .i64 (knl m.heads 11 : Int), .int .i64 (knl m.heads 12 : Int), .int .i64 (knl m.heads 13 : Int)])
    rw [HW5.out]
    clear r0 z0 r1 z1 r2 z2 r3 z3 r4 z4 r5 z5 r6 z6 r7 z7 r8 z8 r9 z9 r10 z10 r11 z11 r12 z12 r13 z13 r14 z14 x0 x1 x2 HW4 HW5
    refine wp_region_held_drew (S := fun v => v.cell? ⟨w3.heap.size, 0, none⟩ = some (.slice k.la n k.lc) ∧ v.cell? ⟨w3.heap.size, 1, none⟩ = some (.int .i64 (knl m.heads 0 : Int)) ∧ v.cell? ⟨w3.heap.size, 2, none⟩ = some (.int .i64 (knl m.heads 1 : Int)) ∧ v.cell? ⟨w3.heap.size, 3, none⟩ = some (.int .i64 (knl m.heads 2 : Int)) ∧ v.cell? ⟨w3.heap.size, 4, none⟩ = some (.int .i64 (knl m.heads 3 : Int)) ∧ v.cell? ⟨w3.heap.size, 5, none⟩ = some (.int .i64 (knl m.heads 4 : Int)) ∧ v.cell? ⟨w3.heap.size, 6, none⟩ = some (.int .i64 (knl m.heads 5 : Int)) ∧ v.cell? ⟨w3.heap.size, 7, none⟩ = some (.int .i64 (knl m.heads 6 : Int)) ∧ v.cell? ⟨w3.heap.size, 8, none⟩ = some (.int .i64 (knl m.heads 7 : Int)) ∧ v.cell? ⟨w3.heap.size, 9, none⟩ = some (.int .i64 (knl m.heads 8 : Int)) ∧ v.cell? ⟨w3.heap.size, 10, none⟩ = some (.int .i64 (knl m.heads 9 : Int)) ∧ v.cell? ⟨w3.heap.size, 11, none⟩ = some (.int .i64 (knl m.heads 10 : Int)) ∧ v.cell? ⟨w3.heap.size, 12, none⟩ = some (.int .i64 (knl m.heads 11 : Int)) ∧ v.cell? ⟨w3.heap.size, 13, none⟩ = some (.int .i64 (knl m.heads 12 : Int)) ∧ v.cell? ⟨w3.heap.size, 14, none⟩ = some (.int .i64 (knl m.heads 13 : Int))) (by kernel_rfl) (HSB.out W5 (Below.refl _ _)) (fun hHeld => ?_)
    refine wpAnyH_take (i := 0) (oi := ⟨some 10, _, _, _, _, _⟩) (v := ?_) rfl (by kernel_rfl) (by kernel_rfl) (by kernel_rfl) (fun _ _ _ h => h) (Or.inl ⟨by rfl, ?_⟩) (by assumption) ?_
    rotate_left
    · intro w hSw; (try dsimp only at hSw); go_simp; (try with_reducible rfl)
    simp only [Act.put, List.setIfInBounds_toArray, List.set_cons_zero, List.set_cons_succ]
    refine wpAnyH_take (i := 1) (oi := ⟨some 11, _, _, _, _, _⟩) (v := ?_) rfl (by kernel_rfl) (by kernel_rfl) (by kernel_rfl) (fun _ _ _ h => h) (Or.inl ⟨by rfl, ?_⟩) (by assumption) ?_
    rotate_left
    · intro w hSw; (try dsimp only at hSw); go_simp; (try with_reducible rfl)
    simp only [Act.put, List.setIfInBounds_toArray, List.set_cons_zero, List.set_cons_succ]
    refine wpAnyH_ready (rs := [2]) (by kernel_rfl) (by simp) ?_
    refine AllReadyH.cons (o := ⟨some 12, _, _, _, _, _⟩) rfl (fun K hK => ?_) AllReadyH.nil
    go_simp
    refine (HLE.out).mono ?_
    rintro e w6 ⟨rs, S, rfl, hist, hown, hb6⟩
    have HB6 : Below W5.heap.size W5 w6 := (Below.refl _ W5).drew.trans hb6
    have hS6 := HSB.out w6 HB6
    go_wp2_with fail
    refine hK.out _ _ hS6 (fun hHeld => ?_)
    clear hK K hb6
    try simp only [Act.put, List.setIfInBounds_toArray, List.set_cons_zero, List.set_cons_succ]
    have HIS := Lib.hid hist
    have HFL := Lib.hid (fstL_one m m.list k.la (some ⟨S, 0, none⟩) n k.lc n (knl m.heads) rs w6 (HNA.out w6 HB6) HN.out (hist.1.trans HN.out) hn4 HKN.out HIT.out (RsAt.of_own hown (hist.1.trans HN.out)) (fun i q hq => (hist.2.1 i q hq).1))
    clear hown hist
    refine wpAnyH_ready (rs := [3]) (by kernel_rfl) (by simp) ?_
    refine AllReadyH.cons (o := ⟨some 13, _, _, _, _, _⟩) rfl (fun K hK => ?_) AllReadyH.nil
    go_simp
    refine (HFL.out).mono ?_
    rintro e w7 ⟨c, i, rfl, hfst, hb7⟩
    have HB7 : Below W5.heap.size W5 w7 := HB6.trans (hb7.mono HB6.size)
    have hS7 := HSB.out w7 HB7
    have HFST := Lib.hid hfst
    go_wp2_with fail
    refine hK.out _ _ hS7 (fun hHeld => ?_)
    clear hK K hb7 hfst
    try simp only [Act.put, List.setIfInBounds_toArray, List.set_cons_zero, List.set_cons_succ]
    refine wpAnyH_take (i := 4) (oi := ⟨some 14, _, _, _, _, _⟩) (v := ?_) rfl (by kernel_rfl) (by kernel_rfl) (by kernel_rfl) (fun _ _ _ h => h) (Or.inl ⟨by rfl, ?_⟩) (by assumption) ?_
    rotate_left
    · intro w hSw; (try dsimp only at hSw); go_simp; (try with_reducible rfl)
    simp only [Act.put, List.setIfInBounds_toArray, List.set_cons_zero, List.set_cons_succ]
    refine wpAnyH_take (i := 5) (oi := ⟨some 15, _, _, _, _, _⟩) (v := ?_) rfl (by kernel_rfl) (by kernel_rfl) (by kernel_rfl) (fun _ _ _ h => h) (Or.inl ⟨by rfl, ?_⟩) (by assumption) ?_
    rotate_left
    · intro w hSw; (try dsimp only at hSw); go_simp; (try with_reducible rfl)
    simp only [Act.put, List.setIfInBounds_toArray, List.set_cons_zero, List.set_cons_succ]
    refine wpAnyH_take (i := 6) (oi := ⟨some 2, _, _, _, _, _⟩) (v := ?_) rfl (by kernel_rfl) (by kernel_rfl) (by kernel_rfl) (fun _ _ _ h => h) (Or.inl ⟨by rfl, ?_⟩) (by assumption) ?_
    rotate_left
    · intro w hSw; (try dsimp only at hSw); go_simp; (try with_reducible rfl)
    simp only [Act.put, List.setIfInBounds_toArray, List.set_cons_zero, List.set_cons_succ]
    refine wpAnyH_take (i := 7) (oi := ⟨some 3, _, _, _, _, _⟩) (v := ?_) rfl (by kernel_rfl) (by kernel_rfl) (by kernel_rfl) (fun _ _ _ h => h) (Or.inl ⟨by rfl, ?_⟩) (by assumption) ?_
    rotate_left
    · intro w hSw; (try dsimp only at hSw); go_simp; (try with_reducible rfl)
    simp only [Act.put, List.setIfInBounds_toArray, List.set_cons_zero, List.set_cons_succ]
    refine wpAnyH_done (by kernel_rfl) ?_ _
    have HFIN : Hid (CkN m w (.returned (.tuple #[.int .i64 c, .int .i64 i])) w7) := ⟨c, i, rfl, ⟨fun _ => ⟨rs, HIS.out, HFST.out⟩, fun e => (by rw [HQ.out] at e; cases e)⟩, HB.out.trans ((HL5.out.trans (HB7.mono HL5.out.size)).mono HB.out.size)⟩
    clear HB6 HB7 hS6 hS7
    go_wp2_with fail
    go_ret2
    exact HFIN.out

end Go.Proofs.YtmodonligaejhaaDoor

namespace Go.Proofs.YtmodonligaejhaaDoor
open Go.RowKit
set_option linter.unusedVariables false

/-- What InferTaint answers. -/
def ItV (m : Cd) (rs : List (List Bool)) (b : Bool) : Prop := ∃ c i, CkV m c i ∧ (c = 0 → b = true ∧ ∃ ms, IsT (secN m.vars) (secN m.arrs) m.list ms ∧ rs = ms.map rowB) ∧ (c ≠ 0 → b = false ∧ rs = [])
theorem ItV.uniq {m : Cd} {rs rs' : List (List Bool)} {b b' : Bool} (h : ItV m rs b) (h' : ItV m rs' b') : rs = rs' ∧ b = b' := by
  obtain ⟨c, i, h1, h2, h3⟩ := h
  obtain ⟨c', i', h1', h2', h3'⟩ := h'
  obtain ⟨rfl, rfl⟩ := h1.uniq h1'
  by_cases hc : c = 0
  · obtain ⟨rfl, ms, hm, rfl⟩ := h2 hc
    obtain ⟨rfl, ms', hm', rfl⟩ := h2' hc
    obtain rfl := hm.uniq hm'
    exact ⟨rfl, rfl⟩
  · obtain ⟨rfl, rfl⟩ := h3 hc
    obtain ⟨rfl, rfl⟩ := h3' hc
    exact ⟨rfl, rfl⟩
theorem CkV.okc {m : Cd} {c i : Int} (h : CkV m c i) (hc : c = 0) : codeB m = true := by
  cases hq : codeB m
  · have := (h.2 hq).1
    omega
  · rfl
theorem ItV.small {m : Cd} {rs : List (List Bool)} {b : Bool} (h : ItV m rs b) : rs.length ≤ 400 ∧ ∀ (i : Nat) (r : List Bool), rs[i]? = some r → r.length ≤ 14 := by
  obtain ⟨c, i, h1, h2, h3⟩ := h
  by_cases hc : c = 0
  · obtain ⟨rfl, ms, hm, rfl⟩ := h2 hc
    refine ⟨by rw [List.length_map, hm.1]; exact (codeB_ok (h1.okc hc)).le, fun j r hj => ?_⟩
    rw [List.getElem?_map] at hj
    cases hq : ms[j]? with
    | none => rw [hq] at hj; cases hj
    | some q =>
      rw [hq] at hj
      cases hj
      unfold rowB
      split <;> simp
  · obtain ⟨rfl, rfl⟩ := h3 hc
    exact ⟨by simp, fun j r hj => by simp at hj⟩
def ItN (m : Cd) (w : World) (e : Ending) (w' : World) : Prop := ∃ rs b a n c vs, e = .returned (.tuple #[.slice a n c, .bool b]) ∧ ItV m rs b ∧ OwBB w' w.heap.size rs a n c vs ∧ Below w.heap.size w w'
theorem ownsRow_monoB {w : World} {base base' : Nat} {e : TypeId} {size n : Nat} {v : Value} {xs : List Value} (h : w.ownsRow base e size v n xs) (hb : base' ≤ base) : w.ownsRow base' e size v n xs := by
  refine ⟨h.1, ?_⟩
  rcases h.2 with e | ⟨g, cp, cur, e1, e2, e3, e4⟩
  · exact .inl e
  · exact .inr ⟨g, cp, cur, e1, Nat.le_trans hb e2, e3, e4⟩
theorem OwBB.mono {w : World} {base base' n c : Nat} {rs : List (List Bool)} {a : Option Addr} {vs : List Value} (h : OwBB w base rs a n c vs) (hb : base' ≤ base) : OwBB w base' rs a n c vs :=
  ⟨h.len, ownsRow_monoB h.row hb, fun i r hr => by
    obtain ⟨ai, ci, h1, h2⟩ := h.inn i r hr
    exact ⟨ai, ci, h1, h2.monoB hb⟩, h.ap, h.dj⟩
def ItL (ms : List Nat) (n S base : Nat) (w : World) (i : Value) (wr : World) : Prop := ∃ (j : Nat) (rs : List (List Bool)) (vs : List Value), j ≤ n ∧ i = .int .i64 (j : Int) ∧ OwBB wr base rs (some ⟨S, 0, none⟩) n n vs ∧ (∀ q x, q < j → ms[q]? = some x → rs[q]? = some (rowB x)) ∧ (∀ q, j ≤ q → q < n → rs[q]? = some []) ∧ Below w.heap.size w wr
theorem Tryd.infoSS : (Tryd.prog.info? 63).map (fun i => (i.zero, i.size, i.bytes)) = some (some (.slice none 0 0), 1, 24) := by kernel_rfl
theorem OwBB.start {w : World} {base S n : Nat} (h : w.ownsRow base 63 1 (.slice (some ⟨S, 0, none⟩) n n) n (List.replicate n (.slice none 0 0))) : OwBB w base (List.replicate n []) (some ⟨S, 0, none⟩) n n (List.replicate n (.slice none 0 0)) := by
  refine ⟨by simp, h, fun i r hr => ?_, fun i v g hv hg => ?_, fun i j v u g hv hu hg => ?_⟩
  · rw [List.getElem?_replicate] at hr
    split at hr
    · rename_i hi
      cases hr
      exact ⟨none, 0, by rw [List.getElem?_replicate, if_pos hi]; rfl, World.ownsRow_nil _ _ _ _⟩
    · cases hr
  · rw [List.getElem?_replicate] at hv
    split at hv
    · cases hv; cases hg
    · cases hv
  · rw [List.getElem?_replicate] at hv
    split at hv
    · cases hv; cases hg
    · cases hv

set_option maxRecDepth 100000 in
set_option maxHeartbeats 16000000 in
/-- **impl.InferTaint.** -/
theorem iIt_one (m : Cd) (k : CK) (w : World) (h : CL w m k) (hT : TblF w) : Calls Tryd.prog 20 #[aggC m k] w (ItN m w) := by
  obtain ⟨i0, hi, hz0, hz1, hz2⟩ := info_parts Tryd.infoSS
  obtain ⟨W, hW⟩ : ∃ W, w.alloc (.cells (arrC m k) 30) = W := ⟨_, rfl⟩
  have hB : Below w.heap.size w W := by rw [← hW]; exact (Below.refl _ w).alloc (Nat.le_refl _) _
  have hX : BoxC W w.heap.size m k := by rw [← hW]; exact BoxC.new _ _ _ _
  have H : Hid (∀ v, Below W.heap.size W v → BoxC v w.heap.size m k ∧ CL v m k) := fun v hv => ⟨hX.below hv hX.lt, (h.below hB).below hv⟩
  have c0 := hX.c0
  have c1 := hX.c1
  have c2 := hX.c2
  have HW := Lib.hid hW
  have HB := Lib.hid hB
  unfold arrC at HW
  have HV := Lib.hid (iCV_one m k W (h.below hB) (hT.below hB hT.lt))
  clear h hT hB hX hW
  go_enter Tryd.func20, Tryd.ntmps20
  go_wp2_with (first | rw [HW.out] | fail)
  refine HV.out.mono ?_
  rintro e w2 ⟨rfl, hb2⟩
  have HB2 : Hid (Below w.heap.size w w2) := HB.out.trans (hb2.mono HB.out.size)
  have HL2 : Hid (Below W.heap.size W w2) := hb2
  have hz02 := HB.out.size
  have hz22 := hb2.size
  obtain ⟨x0, x1, x2⟩ : w2.cell? ⟨w.heap.size, 0, none⟩ = some (.slice k.va m.vars.length k.vc) ∧ w2.cell? ⟨w.heap.size, 1, none⟩ = some (.slice k.aa m.arrs.length k.ac) ∧ w2.cell? ⟨w.heap.size, 2, none⟩ = some (.slice k.la m.list.length k.lc) := by
    have b := (H.out w2 hb2).1
    exact ⟨b.c0, b.c1, b.c2⟩
  obtain ⟨q, hq⟩ : ∃ q, codeB m = q := ⟨_, rfl⟩
  have HQ := Lib.hid hq
  rw [hq]
  clear hb2 hq HV c0 c1 c2
  cases q
  case false =>
    have HFIN : Hid (ItN m w (.returned (.tuple #[.slice none 0 0, .bool false])) w2) := ⟨[], false, none, 0, 0, [], rfl, ⟨5, -1, ⟨fun e => (by rw [HQ.out] at e; cases e), fun _ => ⟨rfl, rfl⟩⟩, fun e => (by cases e), fun _ => ⟨rfl, rfl⟩⟩, OwBB.nil _ _, HB2.out⟩
    go_wp2_with fail
    go_ret2
    exact HFIN.out
  case true =>
    have HIT : Hid (∀ (i : Nat) (x : Ins), m.list[i]? = some x → InsT m.vars.length m.arrs.length x) := fun i x hx => codeB_ins HQ.out hx
    have HKN := Lib.hid (knl_T HQ.out)
    have HOK := Lib.hid (codeB_ok HQ.out)
    have hn4 : m.list.length ≤ 400 := (codeB_ok HQ.out).le
    have HVO := Lib.hid (vOf_one m k w2 (H.out w2 HL2.out).2 HQ.out)
    obtain ⟨n, hn⟩ : ∃ n, m.list.length = n := ⟨_, rfl⟩
    have HN := Lib.hid hn
    rw [hn] at hn4 HVO x2
    unfold aggC at HVO
    rw [hn] at HVO
    clear hn
    go_wp2_with fail
    refine HVO.out.mono ?_
    rintro e w5 ⟨rfl, hb5⟩
    obtain ⟨W6, hW6⟩ : ∃ W6, w5.alloc (.cells (arrV k.la n k.lc (knl m.heads)) 69) = W6 := ⟨_, rfl⟩
    have hbx : W6.heap[w5.heap.size]? = some (.cells (arrV k.la n k.lc (knl m.heads)) 69 (0, 0)) := by rw [← hW6]; exact heap_alloc_new w5 _
    have hb6 : Below w2.heap.size w2 W6 := hb5.trans (by rw [← hW6]; exact (Below.refl _ w5).alloc hb5.size _)
    have hWW : Below W.heap.size W W6 := HL2.out.trans (hb6.mono HL2.out.size)
    have HLE := Lib.hid (least_one m m.list k.la n k.lc (knl m.heads) W6 (H.out W6 hWW).2.2.2 HN.out HOK.out HKN.out HIT.out)
    have HBX := Lib.hid hbx
    have HB6 : Hid (Below w.heap.size w W6) := HB2.out.trans (hb6.mono (by omega))
    have HWW := Lib.hid hWW
    have HW6 := Lib.hid hW6
    unfold arrV at HW6
    have z0 := cell_at hbx 0
    have z1 := cell_at hbx 1
    have z2 := cell_at hbx 2
    have z3 := cell_at hbx 3
    have z4 := cell_at hbx 4
    have z5 := cell_at hbx 5
    have z6 := cell_at hbx 6
    have z7 := cell_at hbx 7
    have z8 := cell_at hbx 8
    have z9 := cell_at hbx 9
    have z10 := cell_at hbx 10
    have z11 := cell_at hbx 11
    have z12 := cell_at hbx 12
    have z13 := cell_at hbx 13
    have z14 := cell_at hbx 14
    clear hW6 hbx hb5 hb6 hWW HVO x0 x1 x2
    go_wp2_with (first | rw [HW6.out] | fail)
    refine HLE.out.mono ?_
    rintro e w7 ⟨ms, S, rfl, hist, hown, hb7⟩
    have HIS := Lib.hid hist
    have HML : Hid (ms.length = n) := hist.1.trans HN.out
    have HLT : Hid (∀ (i q : Nat), ms[i]? = some q → q < 32768) := fun i q hq => (hist.2.1 i q hq).1
    have HGM : Hid (∀ (i q : Nat), ms[i]? = some q → Gm q) := fun i q hq => hist.2.1 i q hq
    have HOWN := Lib.hid hown
    have HB7 : Hid (Below w.heap.size w w7) := HB6.out.trans (hb7.mono HB6.out.size)
    have HW7 : Hid (Below W.heap.size W w7) := HWW.out.trans (hb7.mono HWW.out.size)
    have hbx7 := (hb7.block _ (Array.getElem?_eq_some_iff.1 HBX.out).1).trans HBX.out
    have HFL := Lib.hid (fstL_one m m.list k.la (some ⟨S, 0, none⟩) n k.lc n (knl m.heads) ms w7 (H.out w7 HW7.out).2.2.2 HN.out HML.out hn4 HKN.out HIT.out (RsAt.of_own hown HML.out) HLT.out)
    have y0 := cell_at hbx7 0
    have y1 := cell_at hbx7 1
    have y2 := cell_at hbx7 2
    have y3 := cell_at hbx7 3
    have y4 := cell_at hbx7 4
    have y5 := cell_at hbx7 5
    have y6 := cell_at hbx7 6
    have y7 := cell_at hbx7 7
    have y8 := cell_at hbx7 8
    have y9 := cell_at hbx7 9
    have y10 := cell_at hbx7 10
    have y11 := cell_at hbx7 11
    have y12 := cell_at hbx7 12
    have y13 := cell_at hbx7 13
    have y14 := cell_at hbx7 14
    clear z0 z1 z2 z3 z4 z5 z6 z7 z8 z9 z10 z11 z12 z13 z14 hist hown hb7 hbx7 HLE HBX
    go_wp2_with fail
    refine HFL.out.mono ?_
    rintro e w8 ⟨c, i, rfl, hfst, hb8⟩
    have HFST := Lib.hid hfst
    have HB8 : Hid (Below w.heap.size w w8) := HB7.out.trans (hb8.mono HB7.out.size)
    have HOWN8 := Lib.hid (ownsRow_far HOWN.out fun g _ hg => hb8.block g hg)
    have hS8 := (HOWN8.out.lt S rfl).2
    have hz78 := hb8.size
    have hz7 := HB7.out.size
    clear y0 y1 y2 y3 y4 y5 y6 y7 y8 y9 y10 y11 y12 y13 y14 hfst hb8 HFL HOWN
    by_cases hc0 : c = 0
    · subst hc0
      have HCK : Hid (CkV m 0 i) := ⟨fun _ => ⟨ms, HIS.out, HFST.out⟩, fun e => (by rw [HQ.out] at e; cases e)⟩
      clear HFST
      go_wp2_with (at_make; refine wpList_make_full _ rfl _ _ 36 rfl w8.heap.size 63 i0 (.slice none 0 0) 1 Tryd.underlying36 hi hz0 hz1 .i64 .i64 (n : Int) (n : Int) n rfl rfl rfl rfl (by rw [hz2]; omega) (by unfold maxLen; omega) (Nat.le_refl _) ?_; intro w9 hown9 hgrow9; clear hz0 hz1 hz2)
      rw [slices0] at hown9
      have hb9 : Below w8.heap.size w8 w9 := (Below.refl _ w8).grown hgrow9 (Nat.le_refl _) (fun k e => (by cases e))
      have HL0 : Hid (ItL ms n w8.heap.size w8.heap.size w8 (.int .i64 0) w9) := ⟨0, _, _, Nat.zero_le _, rfl, OwBB.start hown9, fun q x hq => absurd hq (Nat.not_lt_zero _), fun q _ hq => by rw [List.getElem?_replicate, if_pos hq], hb9⟩
      clear hown9 hgrow9 hb9
      go_loopw [31] (fun i wr => ItL ms n w8.heap.size w8.heap.size w8 i wr) (fun i _ => n - (intOf i).toNat)
      case atStart => exact HL0.out
      case round =>
        obtain ⟨j, rs, vs, hj, rfl, how, hlo, hhi, hb⟩ := hrel
        have HOW := Lib.hid how
        have HLO := Lib.hid hlo
        have HHI := Lib.hid hhi
        have HBR := Lib.hid hb
        have hrw := ownsRow_far HOWN8.out (w' := wr) fun g _ hg => hb.block g hg
        have hz8 := hb.size
        clear how hlo hhi hb HL0
        by_cases hlt : j < n
        · obtain ⟨mj, hmj⟩ : ∃ mj, ms[j]? = some mj := ⟨ms[j]'(by rw [HML.out]; exact hlt), List.getElem?_eq_getElem _⟩
          have hc := hrw.cellAt j (by omega)
          rw [List.getElem?_map, hmj] at hc
          have hcm : wr.cell? ⟨S, j, none⟩ = some (.int .u16 (mj : Int)) := hc
          have HRJ : Hid (rs[j]? = some []) := HHI.out j (Nat.le_refl _) hlt
          have HMJ := Lib.hid hmj
          have hml := HLT.out j mj hmj
          clear hc hrw hmj
          by_cases h0 : mj = 0
          · have b0 : ((mj : Int) != 0) = false := by simp [h0]
            have HREL : Hid (ItL ms n w8.heap.size w8.heap.size w8 (.int .i64 ((j : Int) + 1)) wr) := ⟨j + 1, rs, vs, hlt, by go_num, HOW.out, fun q x hq hx => by
              by_cases e : q = j
              · subst e
                have h1 := HMJ.out
                rw [hx] at h1
                cases h1
                rw [h0]
                exact HRJ.out
              · exact HLO.out q x (by omega) hx, fun q h1 h2 => HHI.out q (by omega) h2, HBR.out⟩
            clear h0 HOW HLO HHI HBR
            go_wp2_with fail
            go_roundw
            case rel => exact HREL.out
            case measure => simp [intOf]; omega
          · have b0 : ((mj : Int) != 0) = true := by simp; omega
            have HFG := Lib.hid (flg_one mj wr hml)
            have HM0 := Lib.hid h0
            clear h0
            go_wp2_with fail
            refine HFG.out.mono ?_
            rintro e w10 ⟨fa, fc, rfl, hof, hbf⟩
            have hput := HOW.out.put hlt hbf hof (by simp) hz8
            have how10 := HOW.out.later hbf
            obtain ⟨g, ai, ci, e1, _, _, _, hc10, _⟩ := how10.at HRJ.out
            cases e1
            have hfz := how10.row.frozenAt j
            have HREL : Hid (ItL ms n w8.heap.size w8.heap.size w8 (.int .i64 ((j : Int) + 1)) (w10.setCell ⟨w8.heap.size, j, none⟩ (.slice fa 14 fc))) := ⟨j + 1, _, _, hlt, by go_num, hput, fun q x hq hx => by
              by_cases e : q = j
              · subst e
                have h1 := HMJ.out
                rw [hx] at h1
                cases h1
                rw [List.getElem?_set_self (List.getElem?_eq_some_iff.1 HRJ.out).1]
                unfold rowB
                rw [if_neg HM0.out]
              · rw [List.getElem?_set_ne (fun e2 => e e2.symm)]
                exact HLO.out q x (by omega) hx, fun q h1 h2 => by
                rw [List.getElem?_set_ne (by omega)]
                exact HHI.out q (by omega) h2, (HBR.out.trans (hbf.mono hz8)).setCell (p := ⟨w8.heap.size, j, none⟩) (Nat.le_refl _) _⟩
            clear hput how10 hof hbf HFG HOW HLO HHI HBR
            go_wp2_with fail
            go_roundw
            case rel => exact HREL.out
            case measure => simp [intOf]; omega
        · obtain rfl : j = n := by omega
          have HFIN : Hid (ItN m w (.returned (.tuple #[.slice (some ⟨w8.heap.size, 0, none⟩) j j, .bool true])) wr) := by
            have e : rs = ms.map rowB := by
              apply List.ext_getElem?
              intro q
              by_cases hq : q < j
              · have h1 : ms[q]? = some (ms[q]'(by rw [HML.out]; exact hq)) := List.getElem?_eq_getElem _
                rw [HLO.out q _ hq h1, List.getElem?_map, h1]
                rfl
              · rw [List.getElem?_eq_none (by rw [HOW.out.len]; omega), List.getElem?_eq_none (by rw [List.length_map, HML.out]; omega)]
            exact ⟨rs, true, _, _, _, vs, rfl, ⟨0, i, HCK.out, fun _ => ⟨rfl, ms, HIS.out, e⟩, fun e0 => absurd rfl e0⟩, HOW.out.mono (by omega), HB8.out.trans (HBR.out.mono (by omega))⟩
          clear HOW HLO HHI HBR hrw
          go_wp2_with fail
          go_ret2
          exact HFIN.out
    · have hcb : (c != 0) = true := by simpa using hc0
      have HFIN : Hid (ItN m w (.returned (.tuple #[.slice none 0 0, .bool false])) w8) := ⟨[], false, none, 0, 0, [], rfl, ⟨c, i, ⟨fun _ => ⟨ms, HIS.out, HFST.out⟩, fun e => (by rw [HQ.out] at e; cases e)⟩, fun e => absurd e hc0, fun _ => ⟨rfl, rfl⟩⟩, OwBB.nil _ _, HB8.out⟩
      clear hc0 HFST HOWN8
      go_wp2_with fail
      go_ret2
      exact HFIN.out

end Go.Proofs.YtmodonligaejhaaDoor

namespace Go.Proofs.YtmodonligaejhaaDoor
open Go.RowKit
set_option linter.unusedVariables false

def SpItN (m : Cd) (w : World) (e : Ending) (w' : World) : Prop := ∃ rs b a n c, e = .returned (.tuple #[.slice a n c, .bool b]) ∧ ItV m rs b ∧ rs.length = n ∧ BBs w' (fun b => b < w'.heap.size) rs a ∧ Below w.heap.size w w'

set_option maxRecDepth 100000 in
set_option maxHeartbeats 8000000 in
/-- **spec.InferTaint.** -/
theorem sIt_one (m : Cd) (k : CK) (w : World) (h : CL w m k) : Calls Tryd.prog 19 #[aggC m k] w (SpItN m w) := by
  obtain ⟨W, hW⟩ : ∃ W, w.alloc (.cells (arrC m k) 30) = W := ⟨_, rfl⟩
  have hB : Below w.heap.size w W := by rw [← hW]; exact (Below.refl _ w).alloc (Nat.le_refl _) _
  have hX : BoxC W w.heap.size m k := by rw [← hW]; exact BoxC.new _ _ _ _
  have H : Hid (∀ v, Below W.heap.size W v → BoxC v w.heap.size m k ∧ CL v m k) := fun v hv => ⟨hX.below hv hX.lt, (h.below hB).below hv⟩
  have c0 := hX.c0
  have c1 := hX.c1
  have c2 := hX.c2
  have HW := Lib.hid hW
  have HB := Lib.hid hB
  unfold arrC at HW
  have HC := Lib.hid (sCC_one m k W (h.below hB))
  clear h hB hX hW
  go_enter Tryd.func19, Tryd.ntmps19
  go_wp2_with (first | rw [HW.out] | fail)
  refine HC.out.mono ?_
  rintro e w2 ⟨c, i, rfl, hck, hb2⟩
  have HCK := Lib.hid hck
  have HL2 : Hid (Below W.heap.size W w2) := hb2
  have HB2 : Hid (Below w.heap.size w w2) := HB.out.trans (hb2.mono HB.out.size)
  have hz2 := HB2.out.size
  have b2 := (H.out w2 HL2.out).1
  have x0 := b2.c0
  have x1 := b2.c1
  have x2 := b2.c2
  clear hck hb2 HC c0 c1 c2 b2
  by_cases hc0 : c = 0
  · subst hc0
    have HI := Lib.hid (sInf_one m k w2 (H.out w2 HL2.out).2 (HCK.out.okc rfl))
    go_wp2_with fail
    refine HI.out.mono ?_
    rintro e w3 ⟨ms, a, cp, rfl, hist, hbb, hb3⟩
    have HFIN : Hid (SpItN m w (.returned (.tuple #[.slice a m.list.length cp, .bool true])) w3) := ⟨ms.map rowB, true, a, _, cp, rfl, ⟨0, i, HCK.out, fun _ => ⟨rfl, ms, hist, rfl⟩, fun e => absurd rfl e⟩, by rw [List.length_map]; exact hist.1, hbb, HB2.out.trans (hb3.mono hz2)⟩
    clear hist hbb hb3 HI x0 x1 x2
    go_wp2_with fail
    go_ret2
    exact HFIN.out
  · have hcb : (c != 0) = true := by simpa using hc0
    have HV : Hid (ItV m [] false) := ⟨c, i, HCK.out, fun e => absurd e hc0, fun _ => ⟨rfl, rfl⟩⟩
    clear hc0 x0 x1 x2
    go_wp2_with fail
    go_ret2
    exact ⟨[], false, _, _, _, rfl, HV.out, rfl, ⟨Nat.zero_le _, fun i r hr => by simp at hr⟩, HB2.out.alloc hz2 _⟩

end Go.Proofs.YtmodonligaejhaaDoor

namespace Go.Proofs.YtmodonligaejhaaDoor
open Go.RowKit
set_option linter.unusedVariables false

/-- The cells of a list of instructions. -/
def flatN : List Ins → List Value
  | [] => []
  | x :: xs => .int .i64 x.op :: .int .i64 x.fa :: .int .i64 x.fb :: .int .i64 x.fc :: .int .i64 x.fd :: flatN xs
theorem flatN_app : ∀ (xs ys : List Ins), flatN (xs ++ ys) = flatN xs ++ flatN ys
  | [], ys => rfl
  | x :: xs, ys => by simp only [List.cons_append, flatN, flatN_app xs ys]
theorem flatN_len : ∀ (xs : List Ins), (flatN xs).length = xs.length * 5
  | [] => rfl
  | x :: xs => by simp only [flatN, List.length_cons, flatN_len xs]; omega
theorem flatN_at : ∀ (xs : List Ins) (i : Nat) (x : Ins), xs[i]? = some x → (flatN xs)[i * 5]? = some (.int .i64 x.op) ∧ (flatN xs)[i * 5 + 1]? = some (.int .i64 x.fa) ∧ (flatN xs)[i * 5 + 2]? = some (.int .i64 x.fb) ∧ (flatN xs)[i * 5 + 3]? = some (.int .i64 x.fc) ∧ (flatN xs)[i * 5 + 4]? = some (.int .i64 x.fd)
  | [], i, x, h => by simp at h
  | y :: ys, 0, x, h => by simp at h; subst h; exact ⟨rfl, rfl, rfl, rfl, rfl⟩
  | y :: ys, i + 1, x, h => by
    obtain ⟨h0, h1, h2, h3, h4⟩ := flatN_at ys i x (by simpa using h)
    rw [show (i + 1) * 5 = i * 5 + 1 + 1 + 1 + 1 + 1 by omega]
    simp only [flatN]
    exact ⟨by simpa using h0, by simpa using h1, by simpa using h2, by simpa using h3, by simpa using h4⟩
/-- A row of instructions of the call's own. -/
def OwnN (w : World) (base : Nat) (v : Value) (xs : List Ins) : Prop := w.ownsRow base 54 5 v xs.length (flatN xs)
theorem OwnN.nil (w : World) (base : Nat) : OwnN w base (.slice none 0 0) [] := World.ownsRow_nil _ _ _ _
theorem OwnN.far {w w' : World} {base : Nat} {v : Value} {xs : List Ins} (h : OwnN w base v xs) (hs : ∀ g, v.ownBlock = some g → g < w.heap.size → w'.heap[g]? = w.heap[g]?) : OwnN w' base v xs := by
  refine ⟨h.1, ?_⟩
  rcases h.2 with e | ⟨g, cp, cur, rfl, e2, e3, e4⟩
  · exact .inl e
  · exact .inr ⟨g, cp, cur, rfl, e2, (hs g rfl (Array.getElem?_eq_some_iff.1 e3).1).trans e3, e4⟩
theorem OwnN.nat {v : World} {base n cap : Nat} {a : Option Addr} {ys : List Ins} (h : OwnN v base (.slice a n cap) ys) : ys.length = n ∧ n ≤ cap ∧ cap ≤ maxLen ∧ NAt v (fun j => base ≤ j ∧ j < v.heap.size) ys a := by
  rcases h.2 with ⟨e, e2⟩ | ⟨g, cap', cur, e, hb, hg, hn, hm, hc, ht⟩
  · cases e
    obtain rfl : ys = [] := List.eq_nil_of_length_eq_zero e2
    exact ⟨rfl, Nat.le_refl _, by unfold maxLen; omega, Nat.zero_le _, fun i x hx => by simp at hx⟩
  · injection e with e1 e2 e3
    subst e1 e2 e3
    refine ⟨rfl, hn, hm, Nat.le_trans hn hm, fun i x hx => ?_⟩
    have hi := (List.getElem?_eq_some_iff.1 hx).1
    obtain ⟨h0, h1, h2, h3, h4⟩ := flatN_at ys i x hx
    have hcell : ∀ j, j < 5 → v.cell? ⟨g, 0 + i * 5 + j, none⟩ = (flatN ys)[i * 5 + j]? := fun j hj => by
      rw [Nat.zero_add]
      exact World.ownsRow.cellAt h (i * 5 + j) (by omega)
    exact ⟨g, 0, rfl, ⟨hb, (Array.getElem?_eq_some_iff.1 hg).1⟩, (hcell 0 (by omega)).trans h0, (hcell 1 (by omega)).trans h1, (hcell 2 (by omega)).trans h2, (hcell 3 (by omega)).trans h3, (hcell 4 (by omega)).trans h4⟩

theorem Tryd.infoN : (Tryd.prog.info? 54).map (fun i => (i.zero, i.size, i.bytes)) = some (some (.agg #[.int .i64 0, .int .i64 0, .int .i64 0, .int .i64 0, .int .i64 0]), 5, 40) := by kernel_rfl

end Go.Proofs.YtmodonligaejhaaDoor

namespace Go.Proofs.YtmodonligaejhaaDoor
open Go.RowKit
set_option linter.unusedVariables false

theorem flatN_set : ∀ (ys : List Ins) (i : Nat) (y : Ins), i < ys.length → (((((flatN ys).set (i * 5) (.int .i64 y.op)).set (i * 5 + 1) (.int .i64 y.fa)).set (i * 5 + 2) (.int .i64 y.fb)).set (i * 5 + 3) (.int .i64 y.fc)).set (i * 5 + 4) (.int .i64 y.fd) = flatN (ys.set i y)
  | [], i, y, h => by simp at h
  | z :: zs, 0, y, h => by simp [flatN]
  | z :: zs, i + 1, y, h => by
    have e : (i + 1) * 5 = i * 5 + 1 + 1 + 1 + 1 + 1 := by omega
    simp only [e, flatN, List.set_cons_succ]
    rw [flatN_set zs i y (by simpa using h)]
/-- The marks from k on. -/
def mkN (k : Int) (n : Nat) : List Ins := (List.range n).map fun (i : Nat) => ⟨k + 5 * (i : Int), k + 5 * (i : Int) + 1, k + 5 * (i : Int) + 1 + 1, k + 5 * (i : Int) + 1 + 1 + 1, k + 5 * (i : Int) + 1 + 1 + 1 + 1⟩
theorem mkN_len (k : Int) (n : Nat) : (mkN k n).length = n := by simp [mkN]
theorem mkN_at (k : Int) {n i : Nat} (h : i < n) : (mkN k n)[i]? = some ⟨k + 5 * (i : Int), k + 5 * (i : Int) + 1, k + 5 * (i : Int) + 1 + 1, k + 5 * (i : Int) + 1 + 1 + 1, k + 5 * (i : Int) + 1 + 1 + 1 + 1⟩ := by
  unfold mkN
  rw [List.getElem?_map, List.getElem?_range h]; rfl
theorem mkN_all {k : Int} {n : Nat} {ps : List Ins} (hl : ps.length = n) (h : ∀ i : Nat, i < n → ps[i]? = some ⟨k + 5 * (i : Int), k + 5 * (i : Int) + 1, k + 5 * (i : Int) + 1 + 1, k + 5 * (i : Int) + 1 + 1 + 1, k + 5 * (i : Int) + 1 + 1 + 1 + 1⟩) : ps = mkN k n := by
  apply List.ext_getElem?
  intro i
  by_cases hi : i < n
  · rw [h i hi, mkN_at k hi]
  · rw [List.getElem?_eq_none (by omega), List.getElem?_eq_none (by rw [mkN_len]; omega)]

/-- Behind markInstrS: the row holds k, k + 1, ..; nothing else has changed. -/
def WroteN (w : World) (base n cap : Nat) (a : Option Addr) (k : Int) (f : Ending) (w' : World) : Prop := f = .returned (.int .i64 (k + 5 * (n : Int))) ∧ OwnN w' base (.slice a n cap) (mkN k n) ∧ w'.heap.size = w.heap.size ∧ Below base w w' ∧ ∀ j, (Value.slice a n cap).ownBlock ≠ some j → w'.heap[j]? = w.heap[j]?
/-- The state of the marking loop. -/
def MkNL (w : World) (base n cap : Nat) (a : Option Addr) (k0 : Int) (c i : Value) (wr : World) : Prop := ∃ (k : Nat) (ps : List Ins), k ≤ n ∧ i = .int .i64 k ∧ c = .int .i64 (k0 + 5 * (k : Int)) ∧ OwnN wr base (.slice a n cap) ps ∧ ps.length = n ∧ (∀ i : Nat, i < k → ps[i]? = some ⟨k0 + 5 * (i : Int), k0 + 5 * (i : Int) + 1, k0 + 5 * (i : Int) + 1 + 1, k0 + 5 * (i : Int) + 1 + 1 + 1, k0 + 5 * (i : Int) + 1 + 1 + 1 + 1⟩) ∧ wr.heap.size = w.heap.size ∧ Below base w wr ∧ ∀ j, (Value.slice a n cap).ownBlock ≠ some j → wr.heap[j]? = w.heap[j]?

set_option maxRecDepth 100000 in
set_option maxHeartbeats 2000000 in
theorem markInS_one (base n cap : Nat) (a : Option Addr) (k0 : Int) (ps : List Ins) (w : World) (h : OwnN w base (.slice a n cap) ps) (hpl : ps.length = n) (hn : n ≤ 1048576) (h0 : 0 ≤ k0) (h1 : k0 ≤ 1000000000) :
    Calls Tryd.prog 54 #[.slice a n cap, .int .i64 k0] w (WroteN w base n cap a k0) := by
  have HL : Hid (MkNL w base n cap a k0 (.int .i64 k0) (.int .i64 0) w) := ⟨0, ps, Nat.zero_le _, rfl, by simp, h, hpl, fun i hi => absurd hi (Nat.not_lt_zero _), rfl, Below.refl _ _, fun _ _ => rfl⟩
  clear h hpl
  go_enter Tryd.func54, Tryd.ntmps54
  go_wp2_with fail
  go_loopw [1, 5] (fun c i wr => MkNL w base n cap a k0 c i wr) (fun _ i _ => n - (intOf i).toNat)
  case atStart => exact HL.out
  case round =>
    obtain ⟨k, ps', hk, rfl, rfl, hrow, hlen, hdone, hsz, hbel, hst⟩ := hrel
    have HROW := Lib.hid hrow
    have HLEN := Lib.hid hlen
    have HD := Lib.hid hdone
    have HSZ := Lib.hid hsz
    have HBEL := Lib.hid hbel
    have HST := Lib.hid hst
    clear hrow hlen hdone hsz hbel hst HL
    by_cases hlt : k < n
    · have hro : wr.ownsRow base 54 5 (.slice a n cap) n (flatN ps') := by have h1 := HROW.out; unfold OwnN at h1; rw [HLEN.out] at h1; exact h1
      obtain ⟨g, rfl, hg, cur, hblk, hcs⟩ : ∃ g, a = some ⟨g, 0, none⟩ ∧ base ≤ g ∧ ∃ cur, wr.heap[g]? = some (.cells cur 54 (0, 0)) ∧ n * 5 ≤ cur.size := by
        rcases hro.2 with ⟨e, e2⟩ | ⟨g, cap', cur, e, hb, hg, hn', hm, hc, ht⟩
        · cases e; omega
        · injection e with e1 e2 e3
          exact ⟨g, e1, hb, cur, hg, by rw [hc]; exact Nat.mul_le_mul_right _ hn'⟩
      obtain ⟨u0, hu0⟩ := cell_ex hblk (k * 5) (by omega)
      obtain ⟨u1, hu1⟩ := cell_ex hblk (k * 5 + 1) (by omega)
      obtain ⟨u2, hu2⟩ := cell_ex hblk (k * 5 + 2) (by omega)
      obtain ⟨u3, hu3⟩ := cell_ex hblk (k * 5 + 3) (by omega)
      obtain ⟨u4, hu4⟩ := cell_ex hblk (k * 5 + 4) (by omega)
      have f0 := frozen_at hblk (k * 5)
      have f1 := frozen_at hblk (k * 5 + 1)
      have f2 := frozen_at hblk (k * 5 + 2)
      have f3 := frozen_at hblk (k * 5 + 3)
      have f4 := frozen_at hblk (k * 5 + 4)
      have hr5 := ((((hro.stored (k * 5) (.int .i64 (k0 + 5 * (k : Int)))).1.stored (k * 5 + 1) (.int .i64 (k0 + 5 * (k : Int) + 1))).1.stored (k * 5 + 2) (.int .i64 (k0 + 5 * (k : Int) + 1 + 1))).1.stored (k * 5 + 3) (.int .i64 (k0 + 5 * (k : Int) + 1 + 1 + 1))).1.stored (k * 5 + 4) (.int .i64 (k0 + 5 * (k : Int) + 1 + 1 + 1 + 1))
      have hr6 := hr5.1
      rw [flatN_set ps' k ⟨k0 + 5 * (k : Int), k0 + 5 * (k : Int) + 1, k0 + 5 * (k : Int) + 1 + 1, k0 + 5 * (k : Int) + 1 + 1 + 1, k0 + 5 * (k : Int) + 1 + 1 + 1 + 1⟩ (by rw [HLEN.out]; exact hlt)] at hr6
      have HREL : Hid (MkNL w base n cap (some ⟨g, 0, none⟩) k0 (.int .i64 (k0 + 5 * (k : Int) + 1 + 1 + 1 + 1 + 1)) (.int .i64 ((k : Int) + 1)) (((((wr.setCell ⟨g, k * 5, none⟩ (.int .i64 (k0 + 5 * (k : Int)))).setCell ⟨g, k * 5 + 1, none⟩ (.int .i64 (k0 + 5 * (k : Int) + 1))).setCell ⟨g, k * 5 + 2, none⟩ (.int .i64 (k0 + 5 * (k : Int) + 1 + 1))).setCell ⟨g, k * 5 + 2 + 1, none⟩ (.int .i64 (k0 + 5 * (k : Int) + 1 + 1 + 1))).setCell ⟨g, k * 5 + 2 + 1 + 1, none⟩ (.int .i64 (k0 + 5 * (k : Int) + 1 + 1 + 1 + 1)))) := by
        have hl6 : (ps'.set k ⟨k0 + 5 * (k : Int), k0 + 5 * (k : Int) + 1, k0 + 5 * (k : Int) + 1 + 1, k0 + 5 * (k : Int) + 1 + 1 + 1, k0 + 5 * (k : Int) + 1 + 1 + 1 + 1⟩).length = n := by rw [List.length_set]; exact HLEN.out
        refine ⟨k + 1, _, hlt, by go_num, by go_num, ?_, hl6, ?_, by simpa [World.setCell] using HSZ.out, ((((HBEL.out.setCell (p := ⟨g, k * 5, none⟩) hg _).setCell (p := ⟨g, k * 5 + 1, none⟩) hg _).setCell (p := ⟨g, k * 5 + 2, none⟩) hg _).setCell (p := ⟨g, k * 5 + 2 + 1, none⟩) hg _).setCell (p := ⟨g, k * 5 + 2 + 1 + 1, none⟩) hg _, fun j hj => ?_⟩
        · unfold OwnN
          rw [hl6]
          exact hr6
        · intro i hi
          by_cases hik : i = k
          · subst hik
            rw [List.getElem?_set_self (by rw [HLEN.out]; exact hlt)]
          · rw [List.getElem?_set_ne (by omega)]
            exact HD.out i (by omega)
        · have hjg : j ≠ g := fun e => hj (by rw [e]; rfl)
          rw [Below.heap_setCell _ _ _ _ (by simpa using hjg), Below.heap_setCell _ _ _ _ (by simpa using hjg), Below.heap_setCell _ _ _ _ (by simpa using hjg), Below.heap_setCell _ _ _ _ (by simpa using hjg), Below.heap_setCell _ _ _ _ (by simpa using hjg)]
          exact HST.out j hj
      clear HROW hro hblk hr5 hr6 HBEL HST HD HSZ
      go_wp2_with fail
      go_roundw
      case rel => exact HREL.out
      case measure => simp [intOf]; omega
    · obtain rfl : k = n := by omega
      have HFIN : Hid (WroteN w base k cap a k0 (.returned (.int .i64 (k0 + 5 * (k : Int)))) wr) := ⟨rfl, by rw [← mkN_all HLEN.out HD.out]; exact HROW.out, HSZ.out, HBEL.out, HST.out⟩
      clear HROW HD
      go_wp2_with fail
      go_ret
      exact HFIN.out

end Go.Proofs.YtmodonligaejhaaDoor

namespace Go.Proofs.YtmodonligaejhaaDoor
open Go.RowKit
set_option linter.unusedVariables false

/-- The block of a slice's elements, where it has any. -/
def blk (a : Option Addr) (n : Nat) : Option Nat := if n = 0 then none else (Value.slice a n n).ownBlock
theorem blk_pos {a : Option Addr} {n c : Nat} (h : 0 < n) : blk a n = (Value.slice a n c).ownBlock := by
  unfold blk; rw [if_neg (by omega)]; cases a <;> rfl
theorem blk_zero (a : Option Addr) : blk a 0 = none := rfl

/-- A row of the call's own; an empty one may lie anywhere. -/
def RowX (w : World) (base : Nat) (T : TypeId) (sz : Nat) (a : Option Addr) (n c : Nat) (xs : List Value) : Prop := (n = 0 ∧ xs = []) ∨ (0 < n ∧ w.ownsRow base T sz (.slice a n c) n xs)
theorem RowX.of {w : World} {base : Nat} {T : TypeId} {sz : Nat} {a : Option Addr} {n c : Nat} {xs : List Value} (h : w.ownsRow base T sz (.slice a n c) n xs) : RowX w base T sz a n c xs := by
  by_cases hn : n = 0
  · exact .inl ⟨hn, List.eq_nil_of_length_eq_zero (by rw [h.1, hn]; simp)⟩
  · exact .inr ⟨by omega, h⟩
theorem RowX.lt {w : World} {base : Nat} {T : TypeId} {sz : Nat} {a : Option Addr} {n c : Nat} {xs : List Value} (h : RowX w base T sz a n c xs) : ∀ g, blk a n = some g → base ≤ g ∧ g < w.heap.size := fun g hg => by
  rcases h with ⟨rfl, _⟩ | ⟨hp, h⟩
  · rw [blk_zero] at hg; cases hg
  · exact h.lt g (by rw [← blk_pos hp]; exact hg)
theorem RowX.far {w w' : World} {base : Nat} {T : TypeId} {sz : Nat} {a : Option Addr} {n c : Nat} {xs : List Value} (h : RowX w base T sz a n c xs) (hs : ∀ g, blk a n = some g → g < w.heap.size → w'.heap[g]? = w.heap[g]?) : RowX w' base T sz a n c xs := by
  rcases h with h | ⟨hp, h⟩
  · exact .inl h
  · refine .inr ⟨hp, h.1, ?_⟩
    rcases h.2 with e | ⟨g, cp, cur, e1, e2, e3, e4⟩
    · exact .inl e
    · exact .inr ⟨g, cp, cur, e1, e2, (hs g (by rw [blk_pos (c := c) hp, e1]; rfl) (Array.getElem?_eq_some_iff.1 e3).1).trans e3, e4⟩
theorem RowX.mono {w : World} {base base' : Nat} {T : TypeId} {sz : Nat} {a : Option Addr} {n c : Nat} {xs : List Value} (h : RowX w base T sz a n c xs) (hb : base' ≤ base) : RowX w base' T sz a n c xs := by
  rcases h with h | ⟨hp, h⟩
  · exact .inl h
  · refine .inr ⟨hp, h.1, ?_⟩
    rcases h.2 with e | ⟨g, cp, cur, e1, e2, e3⟩
    · exact .inl e
    · exact .inr ⟨g, cp, cur, e1, by omega, e3⟩
theorem RowX.iat {w : World} {base : Nat} {a : Option Addr} {n c : Nat} {xs : List Int} (h : RowX w base 3 1 a n c (xs.map (Value.int .i64))) (hn : xs.length = n) : IAt w (fun b => base ≤ b ∧ b < w.heap.size) xs a := by
  rcases h with ⟨e1, e2⟩ | ⟨hp, h⟩
  · obtain rfl : xs = [] := List.eq_nil_of_length_eq_zero (by omega)
    exact ⟨Nat.zero_le _, fun k hk => absurd hk (Nat.not_lt_zero _)⟩
  · have h' : OwnI w base (.slice a n c) xs := by unfold OwnI; rw [hn]; exact h
    obtain ⟨a', cap, e, h2⟩ := h'.iat
    cases e
    exact h2
theorem RowX.nat {w : World} {base : Nat} {a : Option Addr} {n c : Nat} {xs : List Ins} (h : RowX w base 54 5 a n c (flatN xs)) (hn : xs.length = n) : NAt w (fun b => base ≤ b ∧ b < w.heap.size) xs a := by
  rcases h with ⟨e1, e2⟩ | ⟨hp, h⟩
  · obtain rfl : xs = [] := List.eq_nil_of_length_eq_zero (by omega)
    exact ⟨Nat.zero_le _, fun i x hx => by simp at hx⟩
  · have h' : OwnN w base (.slice a n c) xs := by unfold OwnN; rw [hn]; exact h
    exact h'.nat.2.2.2

/-- The marks from k on, of a list of ints. -/
def mkI (k : Int) (n : Nat) : List Int := (List.range n).map fun (i : Nat) => k + (i : Int)
theorem mkI_len (k : Int) (n : Nat) : (mkI k n).length = n := by simp [mkI]
theorem mkI_at (k : Int) {n i : Nat} (h : i < n) : (mkI k n)[i]? = some (k + (i : Int)) := by
  unfold mkI
  rw [List.getElem?_map, List.getElem?_range h]; rfl
theorem mkI_all {k : Int} {n : Nat} {ps : List Int} (hl : ps.length = n) (h : ∀ i : Nat, i < n → ps[i]? = some (k + (i : Int))) : ps = mkI k n := by
  apply List.ext_getElem?
  intro i
  by_cases hi : i < n
  · rw [h i hi, mkI_at k hi]
  · rw [List.getElem?_eq_none (by omega), List.getElem?_eq_none (by rw [mkI_len]; omega)]

/-- Behind a mark of a row: it holds the marks; nothing else has changed. -/
def WroteX (T : TypeId) (sz : Nat) (xs : List Value) (w : World) (base n c : Nat) (a : Option Addr) (k : Int) (f : Ending) (w' : World) : Prop := f = .returned (.int .i64 k) ∧ RowX w' base T sz a n c xs ∧ w'.heap.size = w.heap.size ∧ Below base w w' ∧ ∀ j, blk a n ≠ some j → w'.heap[j]? = w.heap[j]?
/-- The state of the marking loop. -/
def MkIL (w : World) (base n cap : Nat) (a : Option Addr) (k0 : Int) (c i : Value) (wr : World) : Prop := ∃ (k : Nat) (ps : List Int), k ≤ n ∧ i = .int .i64 k ∧ c = .int .i64 (k0 + (k : Int)) ∧ RowX wr base 3 1 a n cap (ps.map (Value.int .i64)) ∧ ps.length = n ∧ (∀ i : Nat, i < k → ps[i]? = some (k0 + (i : Int))) ∧ wr.heap.size = w.heap.size ∧ Below base w wr ∧ ∀ j, blk a n ≠ some j → wr.heap[j]? = w.heap[j]?

set_option maxRecDepth 100000 in
set_option maxHeartbeats 2000000 in
theorem markIX_one (base n cap : Nat) (a : Option Addr) (k0 : Int) (ps : List Int) (w : World) (h : RowX w base 3 1 a n cap (ps.map (Value.int .i64))) (hpl : ps.length = n) (hn : n ≤ 1048576) (h0 : 0 ≤ k0) (h1 : k0 ≤ 1000000000) :
    Calls Tryd.prog 53 #[.slice a n cap, .int .i64 k0] w (WroteX 3 1 ((mkI k0 n).map (Value.int .i64)) w base n cap a (k0 + (n : Int))) := by
  have HL : Hid (MkIL w base n cap a k0 (.int .i64 k0) (.int .i64 0) w) := ⟨0, ps, Nat.zero_le _, rfl, by simp, h, hpl, fun i hi => absurd hi (Nat.not_lt_zero _), rfl, Below.refl _ _, fun _ _ => rfl⟩
  clear h hpl
  go_enter Tryd.func53, Tryd.ntmps53
  go_wp2_with fail
  go_loopw [1, 5] (fun c i wr => MkIL w base n cap a k0 c i wr) (fun _ i _ => n - (intOf i).toNat)
  case atStart => exact HL.out
  case round =>
    obtain ⟨k, ps', hk, rfl, rfl, hrow, hlen, hdone, hsz, hbel, hst⟩ := hrel
    have HROW := Lib.hid hrow
    have HLEN := Lib.hid hlen
    have HD := Lib.hid hdone
    have HSZ := Lib.hid hsz
    have HBEL := Lib.hid hbel
    have HST := Lib.hid hst
    clear hrow hlen hdone hsz hbel hst HL
    by_cases hlt : k < n
    · obtain ⟨hp, hro⟩ := HROW.out.resolve_left (fun e => by have := e.1; omega)
      obtain ⟨g, rfl, hg, cur, hblk, hcs⟩ : ∃ g, a = some ⟨g, 0, none⟩ ∧ base ≤ g ∧ ∃ cur, wr.heap[g]? = some (.cells cur 3 (0, 0)) ∧ n ≤ cur.size := by
        rcases hro.2 with ⟨e, e2⟩ | ⟨g, cap', cur, e, hb, hg, hn', hm, hc, ht⟩
        · cases e; omega
        · injection e with e1 e2 e3
          exact ⟨g, e1, hb, cur, hg, by omega⟩
      obtain ⟨u0, hu0⟩ := cell_ex hblk k (by omega)
      have f0 := frozen_at hblk k
      have hr6 := (hro.stored k (.int .i64 (k0 + (k : Int)))).1
      have HREL : Hid (MkIL w base n cap (some ⟨g, 0, none⟩) k0 (.int .i64 (k0 + (k : Int) + 1)) (.int .i64 ((k : Int) + 1)) (wr.setCell ⟨g, k, none⟩ (.int .i64 (k0 + (k : Int))))) := by
        have hl6 : (ps'.set k (k0 + (k : Int))).length = n := by rw [List.length_set]; exact HLEN.out
        refine ⟨k + 1, _, hlt, by go_num, by go_num, ?_, hl6, ?_, by simpa [World.setCell] using HSZ.out, HBEL.out.setCell (p := ⟨g, k, none⟩) hg _, fun j hj => ?_⟩
        · rw [List.map_set]
          exact .inr ⟨hp, hr6⟩
        · intro i hi
          by_cases hik : i = k
          · subst hik
            rw [List.getElem?_set_self (by rw [HLEN.out]; exact hlt)]
          · rw [List.getElem?_set_ne (by omega)]
            exact HD.out i (by omega)
        · have hjg : j ≠ g := fun e => hj (by rw [blk_pos (c := cap) hp, e]; rfl)
          rw [Below.heap_setCell _ _ _ _ (by simpa using hjg)]
          exact HST.out j hj
      clear HROW hro hblk hr6 HBEL HST HD HSZ
      go_wp2_with fail
      go_roundw
      case rel => exact HREL.out
      case measure => simp [intOf]; omega
    · obtain rfl : k = n := by omega
      have HFIN : Hid (WroteX 3 1 ((mkI k0 k).map (Value.int .i64)) w base k cap a (k0 + (k : Int)) (.returned (.int .i64 (k0 + (k : Int)))) wr) := ⟨rfl, by rw [← mkI_all HLEN.out HD.out]; exact HROW.out, HSZ.out, HBEL.out, HST.out⟩
      clear HROW HD
      go_wp2_with fail
      go_ret
      exact HFIN.out

theorem markNX_one (base n cap : Nat) (a : Option Addr) (k0 : Int) (ps : List Ins) (w : World) (h : RowX w base 54 5 a n cap (flatN ps)) (hpl : ps.length = n) (hn : n ≤ 1048576) (h0 : 0 ≤ k0) (h1 : k0 ≤ 1000000000) :
    Calls Tryd.prog 54 #[.slice a n cap, .int .i64 k0] w (WroteX 54 5 (flatN (mkN k0 n)) w base n cap a (k0 + 5 * (n : Int))) := by
  rcases h with ⟨rfl, e⟩ | ⟨hp, h⟩
  · have HFIN : Hid (WroteX 54 5 (flatN (mkN k0 0)) w base 0 cap a (k0 + 5 * ((0 : Nat) : Int)) (.returned (.int .i64 k0)) w) := ⟨by simp, .inl ⟨rfl, rfl⟩, rfl, Below.refl _ _, fun _ _ => rfl⟩
    clear hpl
    go_enter Tryd.func54, Tryd.ntmps54
    go_wp2_with fail
    go_loopw [1, 5] (fun c i wr => c = .int .i64 k0 ∧ i = .int .i64 0 ∧ wr = w) (fun _ i _ => 0)
    case atStart => exact ⟨rfl, rfl, rfl⟩
    case round =>
      obtain ⟨rfl, rfl, rfl⟩ := hrel
      go_wp2_with fail
      go_ret
      exact HFIN.out
  · have ho : OwnN w base (.slice a n cap) ps := by unfold OwnN; rw [hpl]; exact h
    refine (markInS_one base n cap a k0 ps w ho hpl hn h0 h1).mono ?_
    rintro f w' ⟨rfl, h2, h3, h4, h5⟩
    refine ⟨rfl, .inr ⟨hp, ?_⟩, h3, h4, fun j hj => h5 j (by rw [← blk_pos hp]; exact hj)⟩
    unfold OwnN at h2
    rw [mkN_len] at h2
    exact h2

end Go.Proofs.YtmodonligaejhaaDoor

namespace Go.Proofs.YtmodonligaejhaaDoor
open Go.RowKit
set_option linter.unusedVariables false

theorem flatN_of {es : List Ins} {cur : Array Value} {n : Nat} (hn : es.length = n) (hc : cur.size = n * 5) (h : ∀ (j : Nat) (x : Ins), j < n → es[j]? = some x → cur[j * 5]? = some (.int .i64 x.op) ∧ cur[j * 5 + 1]? = some (.int .i64 x.fa) ∧ cur[j * 5 + 2]? = some (.int .i64 x.fb) ∧ cur[j * 5 + 3]? = some (.int .i64 x.fc) ∧ cur[j * 5 + 4]? = some (.int .i64 x.fd)) : cur.toList = flatN es := by
  have hfl : (flatN es).length = n * 5 := by rw [flatN_len, hn]
  apply List.ext_getElem?
  intro q
  by_cases hq : q < n * 5
  · have hj : q / 5 < n := by omega
    obtain ⟨x, hx⟩ : ∃ x, es[q / 5]? = some x := ⟨es[q / 5]'(by omega), List.getElem?_eq_getElem _⟩
    obtain ⟨h0, h1, h2, h3, h4⟩ := h (q / 5) x hj hx
    obtain ⟨k0, k1, k2, k3, k4⟩ := flatN_at es (q / 5) x hx
    rw [Array.getElem?_toList]
    have hm : q % 5 = 0 ∨ q % 5 = 1 ∨ q % 5 = 2 ∨ q % 5 = 3 ∨ q % 5 = 4 := by omega
    rcases hm with e | e | e | e | e
    · rw [show q = q / 5 * 5 by omega, h0, k0]
    · rw [show q = q / 5 * 5 + 1 by omega, h1, k1]
    · rw [show q = q / 5 * 5 + 2 by omega, h2, k2]
    · rw [show q = q / 5 * 5 + 3 by omega, h3, k3]
    · rw [show q = q / 5 * 5 + 4 by omega, h4, k4]
  · rw [List.getElem?_eq_none (by rw [Array.length_toList]; omega), List.getElem?_eq_none (by omega)]

/-- A list of instructions is handed back in a row of its own. -/
def CopyInO (es : List Ins) (w : World) (f : Ending) (w' : World) : Prop := ∃ a cap, f = .returned (.slice a es.length cap) ∧ OwnN w' w.heap.size (.slice a es.length cap) es ∧ Below w.heap.size w w'

set_option maxHeartbeats 4000000 in
/-- **toInstrS**, told of the copy as a row of its own. -/
theorem toInSO_one (es : List Ins) (a : Option Addr) (cap : Nat) (w : World) (h : NAt w (fun b => b < w.heap.size) es a) (hs : es.length ≤ 1048576) :
    Calls Tryd.prog 30 #[.slice a es.length cap] w (CopyInO es w) := by
  obtain ⟨i0, hi, hz0, hz1, hz2⟩ := info_parts Tryd.infoIn
  obtain ⟨hm, h⟩ := h
  obtain ⟨len, hlen⟩ : ∃ len, es.length = len := ⟨_, rfl⟩
  have HLEN := Lib.hid hlen
  rw [hlen] at hs ⊢
  have H := Lib.hid h
  clear h hlen hm
  go_enter Tryd.func30, Tryd.ntmps30
  go_wp2_with (at_make; refine wpList_make_full _ rfl _ _ 28 rfl w.heap.size 54 i0 (.agg #[.int .i64 0, .int .i64 0, .int .i64 0, .int .i64 0, .int .i64 0]) 5 Tryd.underlying28 hi hz0 hz1 .i64 .i64 (len : Int) (len : Int) len rfl rfl rfl rfl (by rw [hz2]; omega) (by unfold maxLen; omega) (Nat.le_refl _) ?_; intro w1 hown1 hgrow1; clear hz0 hz1 hz2)
  have HB1 : Hid (Below w.heap.size w w1) := (Below.refl _ w).grown hgrow1 (Nat.le_refl _) (fun k e => by cases e)
  have HO1 : Hid (∃ cur : Array Value, cur.size = len * 5 ∧ w1.heap[w.heap.size]? = some (.cells cur 54 (0, 0))) := by
    rcases hown1.2 with ⟨h', _⟩ | ⟨g, cp, cur, h', _, hg, _, _, hcs, _⟩
    · cases h'
    · cases h'
      exact ⟨cur, hcs, hg⟩
  clear hown1 hgrow1
  go_loopw [4] (fun i wr => ∃ k : Nat, k ≤ len ∧ i = .int .i64 k ∧ Below w.heap.size w wr ∧ w.heap.size < wr.heap.size ∧ ∃ cur : Array Value, cur.size = len * 5 ∧ wr.heap[w.heap.size]? = some (.cells cur 54 (0, 0)) ∧
      ∀ (j : Nat) (x : Ins), j < k → es[j]? = some x → cur[j * 5]? = some (.int .i64 x.op) ∧ cur[j * 5 + 1]? = some (.int .i64 x.fa) ∧ cur[j * 5 + 2]? = some (.int .i64 x.fb) ∧ cur[j * 5 + 3]? = some (.int .i64 x.fc) ∧ cur[j * 5 + 4]? = some (.int .i64 x.fd)) (fun i _ => len - (intOf i).toNat)
  case atStart =>
    obtain ⟨cur, h1, h2⟩ := HO1.out
    exact ⟨0, Nat.zero_le _, rfl, HB1.out, (Array.getElem?_eq_some_iff.1 h2).1, cur, h1, h2, fun j x hj => absurd hj (Nat.not_lt_zero _)⟩
  case round =>
    obtain ⟨k, hk, rfl, hB, hgt, cur, hcs, hblk, hdone⟩ := hrel
    have HB := Lib.hid hB
    have HCS := Lib.hid hcs
    have HBLK := Lib.hid hblk
    have HD := Lib.hid hdone
    clear hB hcs hblk hdone HO1 HB1
    by_cases hlt : k < len
    · obtain ⟨x, hx⟩ : ∃ x, es[k]? = some x := ⟨es[k]'(by rw [HLEN.out]; exact hlt), List.getElem?_eq_getElem _⟩
      obtain ⟨b, o, rfl, hbl, e0, e1, e2, e3, e4⟩ := H.out k x hx
      have d0 := (HB.out.cell (p := ⟨b, o + k * 5, none⟩) hbl).trans e0
      have d1 := (HB.out.cell (p := ⟨b, o + k * 5 + 1, none⟩) hbl).trans e1
      have d2 := (HB.out.cell (p := ⟨b, o + k * 5 + 2, none⟩) hbl).trans e2
      have d3 := (HB.out.cell (p := ⟨b, o + k * 5 + 3, none⟩) hbl).trans e3
      have d4 := (HB.out.cell (p := ⟨b, o + k * 5 + 4, none⟩) hbl).trans e4
      clear e0 e1 e2 e3 e4
      have hsz := HB.out.size
      have HX := Lib.hid hx
      clear hx
      go_wp2_with fail
      refine (toIn_one x _).mono ?_
      rintro f w2 ⟨rfl, hb2⟩
      have hsz2 := hb2.size
      have hblk2 : w2.heap[w.heap.size]? = some (.cells cur 54 (0, 0)) := (hb2.block _ hgt).trans HBLK.out
      have hb3 : k * 5 + 4 < cur.size := by rw [HCS.out]; omega
      obtain ⟨⟨u0, u1, u2, u3, u4, hu0, hu1, hu2, hu3, hu4⟩, hf0, hf1, hf2, hf3, hf4⟩ := in_cells (o := k * 5) hblk2 hb3
      have HST := Lib.hid (in_store (o := k * 5) hblk2 (.int .i64 x.op) (.int .i64 x.fa) (.int .i64 x.fb) (.int .i64 x.fc) (.int .i64 x.fd))
      have HSM3 := Lib.hid (in_set_same cur (k * 5) (.int .i64 x.op) (.int .i64 x.fa) (.int .i64 x.fb) (.int .i64 x.fc) (.int .i64 x.fd) hb3)
      have HB3 : Hid (Below w.heap.size w (((((w2.setCell ⟨w.heap.size, k * 5, none⟩ (.int .i64 x.op)).setCell ⟨w.heap.size, k * 5 + 1, none⟩ (.int .i64 x.fa)).setCell ⟨w.heap.size, k * 5 + 2, none⟩ (.int .i64 x.fb)).setCell ⟨w.heap.size, k * 5 + 3, none⟩ (.int .i64 x.fc)).setCell ⟨w.heap.size, k * 5 + 4, none⟩ (.int .i64 x.fd))) := ((((((HB.out.trans (hb2.mono hsz)).setCell (p := ⟨w.heap.size, k * 5, none⟩) (Nat.le_refl _) (.int .i64 x.op)).setCell (p := ⟨w.heap.size, k * 5 + 1, none⟩) (Nat.le_refl _) (.int .i64 x.fa)).setCell (p := ⟨w.heap.size, k * 5 + 2, none⟩) (Nat.le_refl _) (.int .i64 x.fb)).setCell (p := ⟨w.heap.size, k * 5 + 3, none⟩) (Nat.le_refl _) (.int .i64 x.fc)).setCell (p := ⟨w.heap.size, k * 5 + 4, none⟩) (Nat.le_refl _) (.int .i64 x.fd))
      have HSZW : Hid ((((((w2.setCell ⟨w.heap.size, k * 5, none⟩ (.int .i64 x.op)).setCell ⟨w.heap.size, k * 5 + 1, none⟩ (.int .i64 x.fa)).setCell ⟨w.heap.size, k * 5 + 2, none⟩ (.int .i64 x.fb)).setCell ⟨w.heap.size, k * 5 + 3, none⟩ (.int .i64 x.fc)).setCell ⟨w.heap.size, k * 5 + 4, none⟩ (.int .i64 x.fd)).heap.size = w2.heap.size) := by
        have : (((((w2.setCell ⟨w.heap.size, k * 5, none⟩ (.int .i64 x.op)).setCell ⟨w.heap.size, k * 5 + 1, none⟩ (.int .i64 x.fa)).setCell ⟨w.heap.size, k * 5 + 2, none⟩ (.int .i64 x.fb)).setCell ⟨w.heap.size, k * 5 + 3, none⟩ (.int .i64 x.fc)).setCell ⟨w.heap.size, k * 5 + 4, none⟩ (.int .i64 x.fd)).heap.size = w2.heap.size := by simp [World.setCell]
        exact this
      clear hb2 hblk2 HBLK HB d0 d1 d2 d3 d4
      go_wp2_with fail
      go_roundw
      case rel =>
        refine ⟨k + 1, by omega, by go_num, HB3.out, by rw [HSZW.out]; omega, _, ?_, HST.out, ?_⟩
        · simp [HCS.out]
        · intro j y hj hy
          by_cases hjk : j = k
          · subst hjk
            rw [HX.out] at hy
            cases hy
            exact HSM3.out
          · obtain ⟨h0, h1, h2, h3, h4⟩ := HD.out j y (by omega) hy
            exact ⟨by rw [in_set_other _ _ _ _ _ _ _ _ (by omega)]; exact h0, by rw [in_set_other _ _ _ _ _ _ _ _ (by omega)]; exact h1, by rw [in_set_other _ _ _ _ _ _ _ _ (by omega)]; exact h2, by rw [in_set_other _ _ _ _ _ _ _ _ (by omega)]; exact h3, by rw [in_set_other _ _ _ _ _ _ _ _ (by omega)]; exact h4⟩
      case measure => simp [intOf]; omega
    · obtain rfl : k = len := by omega
      clear H
      go_wp2_with fail
      go_ret
      refine ⟨some ⟨w.heap.size, 0, none⟩, k, by rw [HLEN.out]; rfl, ⟨by rw [flatN_len], .inr ⟨w.heap.size, k, cur, by rw [HLEN.out], Nat.le_refl _, HBLK.out, by rw [HLEN.out]; exact Nat.le_refl _, by unfold maxLen; omega, HCS.out, ?_⟩⟩, HB.out⟩
      rw [HLEN.out, flatN_of HLEN.out HCS.out HD.out]
      exact List.take_of_length_le (by rw [flatN_len, HLEN.out]; exact Nat.le_refl _)

/-- The rows of a code are of the call's own, and lie apart. -/
structure OwnC (w : World) (base : Nat) (m : Cd) (k : CK) : Prop where
  v : RowX w base 3 1 k.va m.vars.length k.vc (m.vars.map (Value.int .i64))
  a : RowX w base 3 1 k.aa m.arrs.length k.ac (m.arrs.map (Value.int .i64))
  l : RowX w base 54 5 k.la m.list.length k.lc (flatN m.list)
  va : ∀ g, blk k.va m.vars.length = some g → blk k.aa m.arrs.length ≠ some g
  vl : ∀ g, blk k.va m.vars.length = some g → blk k.la m.list.length ≠ some g
  al : ∀ g, blk k.aa m.arrs.length = some g → blk k.la m.list.length ≠ some g
theorem OwnC.cl {w : World} {base : Nat} {m : Cd} {k : CK} (h : OwnC w base m k) : CL w m k :=
  ⟨(h.v.iat rfl).wide (fun _ _ => rfl) fun b hb => hb.2, (h.a.iat rfl).wide (fun _ _ => rfl) fun b hb => hb.2, (h.l.nat rfl).wide (fun _ _ => rfl) fun b hb => hb.2⟩
/-- It stands where its blocks stand. -/
theorem OwnC.stand {w w' : World} {base : Nat} {m : Cd} {k : CK} (h : OwnC w base m k) (hs : ∀ g, base ≤ g → g < w.heap.size → w'.heap[g]? = w.heap[g]?) : OwnC w' base m k :=
  ⟨h.v.far fun g hg hl => hs g (h.v.lt g hg).1 hl, h.a.far fun g hg hl => hs g (h.a.lt g hg).1 hl, h.l.far fun g hg hl => hs g (h.l.lt g hg).1 hl, h.va, h.vl, h.al⟩
theorem OwnC.mono {w : World} {base base' : Nat} {m : Cd} {k : CK} (h : OwnC w base m k) (hb : base' ≤ base) : OwnC w base' m k := ⟨h.v.mono hb, h.a.mono hb, h.l.mono hb, h.va, h.vl, h.al⟩
/-- Code is handed back in rows of its own. -/
def CopyCO (m : Cd) (w : World) (f : Ending) (w' : World) : Prop := ∃ k, f = .returned (aggC m k) ∧ OwnC w' w.heap.size m k ∧ Below w.heap.size w w'

set_option maxHeartbeats 8000000 in
/-- **toCode**, told of its rows. -/
theorem toCO_one (m : Cd) (k : CK) (w : World) (h : CL w m k) (hs : CSm m) :
    Calls Tryd.prog 9 #[aggC m k] w (CopyCO m w) := by
  obtain ⟨hs1, hs2, hs3⟩ := hs
  have H : Hid (∀ v, Below w.heap.size w v → CL v m k) := fun v hv => h.below hv
  clear h
  go_enter Tryd.func9, Tryd.ntmps9
  go_wp2_with fail
  obtain ⟨W, hW⟩ : ∃ W, (((w.alloc (.cells (arrC m k) 25)).alloc (.cells #[.slice none 0 0, .slice none 0 0, .slice none 0 0] 30)).alloc (.cells #[.slice none 0 0, .slice none 0 0, .slice none 0 0] 30)) = W := ⟨_, rfl⟩
  have hB : Below w.heap.size w W := by rw [← hW]; exact (((Below.refl w.heap.size w).alloc (Nat.le_refl _) _).alloc (by simp) _).alloc (by simp; omega) _
  have hz : W.heap.size = w.heap.size + 3 := by rw [← hW]; simp
  have q0 : BoxC W w.heap.size m k := by
    rw [← hW]
    exact ((BoxC.new w m k 25).later (Below.heap_alloc _ _ _ (by simp))).later (Below.heap_alloc _ _ _ (by simp; omega))
  have q1 : W.heap[w.heap.size + 1]? = some (.cells #[.slice none 0 0, .slice none 0 0, .slice none 0 0] 30 (0, 0)) := by
    rw [← hW, Below.heap_alloc _ _ _ (by simp)]
    have := heap_alloc_new (w.alloc (.cells (arrC m k) 25)) (.cells #[.slice none 0 0, .slice none 0 0, .slice none 0 0] 30)
    rw [World.size_alloc] at this
    exact this
  have q2 : W.heap[w.heap.size + 1 + 1]? = some (.cells #[.slice none 0 0, .slice none 0 0, .slice none 0 0] 30 (0, 0)) := by
    rw [← hW]
    have := heap_alloc_new ((w.alloc (.cells (arrC m k) 25)).alloc (.cells #[.slice none 0 0, .slice none 0 0, .slice none 0 0] 30)) (.cells #[.slice none 0 0, .slice none 0 0, .slice none 0 0] 30)
    rw [World.size_alloc, World.size_alloc] at this
    exact this
  unfold arrC at hW
  rw [hW]
  clear hW
  have HB := Lib.hid hB
  have HZ := Lib.hid hz
  have Q0 := Lib.hid q0
  have Q1 := Lib.hid q1
  have Q2 := Lib.hid q2
  clear hB hz q0 q1 q2
  refine (toInts_one k.va m.vars.length k.vc m.vars W (H.out W HB.out).1.slice (by omega)).mono ?_
  rintro f v0 ⟨v, rfl, hown, hb⟩
  obtain ⟨a0, c0, rfl, _⟩ := hown.iat
  have hi := RowX.of hown
  have hil := hi.lt
  have z1 := hb.size
  have zz := HZ.out
  have p0 := Q0.out.below hb (by omega)
  have p1 := (hb.block (w.heap.size + 1) (by omega)).trans Q1.out
  have p2 := (hb.block (w.heap.size + 1 + 1) (by omega)).trans Q2.out
  obtain ⟨⟨u, hu⟩, hf⟩ := row_set (o := 0) p2 (by simp)
  have hst := heap_setCell_same v0 (w.heap.size + 1 + 1) 0 _ _ (.slice a0 m.vars.length c0) p2
  have hB2 : Below w.heap.size w (v0.setCell ⟨w.heap.size + 1 + 1, 0, none⟩ (.slice a0 m.vars.length c0)) := (HB.out.trans (hb.mono HB.out.size)).setCell (p := ⟨w.heap.size + 1 + 1, 0, none⟩) (by simp; omega) _
  have hoth : ∀ j, j ≠ w.heap.size + 1 + 1 → (v0.setCell ⟨w.heap.size + 1 + 1, 0, none⟩ (.slice a0 m.vars.length c0)).heap[j]? = v0.heap[j]? := fun j hj => Below.heap_setCell _ _ _ _ (fun e => hj (by simpa using e))
  have hsz : (v0.setCell ⟨w.heap.size + 1 + 1, 0, none⟩ (.slice a0 m.vars.length c0)).heap.size = v0.heap.size := by simp [World.setCell]
  obtain ⟨u1, hw⟩ : ∃ u, v0.setCell ⟨w.heap.size + 1 + 1, 0, none⟩ (.slice a0 m.vars.length c0) = u := ⟨_, rfl⟩
  rw [hw] at hst hB2 hoth hsz
  have BX1 : Hid (BoxC u1 w.heap.size m k) := p0.later (hoth _ (by omega))
  have R1 : Hid (u1.heap[w.heap.size + 1]? = some (.cells #[.slice none 0 0, .slice none 0 0, .slice none 0 0] 30 (0, 0))) := (hoth _ (by omega)).trans p1
  have ST1 := Lib.hid hst
  have HB1 := Lib.hid hB2
  have HZ1 : Hid (W.heap.size ≤ u1.heap.size ∧ W.heap.size = w.heap.size + 3) := ⟨by rw [hsz]; exact z1, zz⟩
  have I0_1 := Lib.hid (hi.far (w' := u1) fun g hg _ => hoth g (by have := hil g hg; omega))
  have L0_1 : Hid (∀ g, blk a0 m.vars.length = some g → W.heap.size ≤ g ∧ g < u1.heap.size) := fun g hg => by have := hil g hg; omega
  have y1 := BX1.out.c1
  clear hi hil hown hb p0 p1 p2 hst hoth hsz hB2 HB Q1 Q2 Q0 HZ z1 zz
  go_wp2_with fail
  clear hw hu hf y1
  refine (toInts_one k.aa m.arrs.length k.ac m.arrs u1 (H.out u1 HB1.out).2.1.slice (by omega)).mono ?_
  rintro f v1 ⟨v, rfl, hown, hb⟩
  obtain ⟨a1, c1, rfl, _⟩ := hown.iat
  have hi := RowX.of hown
  have hil := hi.lt
  have z1 := hb.size
  have zz := HZ1.out
  have p0 := BX1.out.below hb (by omega)
  have p1 := (hb.block (w.heap.size + 1) (by omega)).trans R1.out
  have p2 := (hb.block (w.heap.size + 1 + 1) (by omega)).trans ST1.out
  have hk0 := I0_1.out.far (w' := v1) fun g hg hlt => hb.block g hlt
  obtain ⟨⟨u, hu⟩, hf⟩ := row_set (o := 1) p2 (by simp)
  have hst := heap_setCell_same v1 (w.heap.size + 1 + 1) 1 _ _ (.slice a1 m.arrs.length c1) p2
  have hB2 : Below w.heap.size w (v1.setCell ⟨w.heap.size + 1 + 1, 1, none⟩ (.slice a1 m.arrs.length c1)) := (HB1.out.trans (hb.mono HB1.out.size)).setCell (p := ⟨w.heap.size + 1 + 1, 1, none⟩) (by simp; omega) _
  have hoth : ∀ j, j ≠ w.heap.size + 1 + 1 → (v1.setCell ⟨w.heap.size + 1 + 1, 1, none⟩ (.slice a1 m.arrs.length c1)).heap[j]? = v1.heap[j]? := fun j hj => Below.heap_setCell _ _ _ _ (fun e => hj (by simpa using e))
  have hsz : (v1.setCell ⟨w.heap.size + 1 + 1, 1, none⟩ (.slice a1 m.arrs.length c1)).heap.size = v1.heap.size := by simp [World.setCell]
  obtain ⟨u2, hw⟩ : ∃ u, v1.setCell ⟨w.heap.size + 1 + 1, 1, none⟩ (.slice a1 m.arrs.length c1) = u := ⟨_, rfl⟩
  rw [hw] at hst hB2 hoth hsz
  have BX2 : Hid (BoxC u2 w.heap.size m k) := p0.later (hoth _ (by omega))
  have R2 : Hid (u2.heap[w.heap.size + 1]? = some (.cells #[.slice none 0 0, .slice none 0 0, .slice none 0 0] 30 (0, 0))) := (hoth _ (by omega)).trans p1
  have ST2 := Lib.hid hst
  have HB2 := Lib.hid hB2
  have HZ2 : Hid (W.heap.size ≤ u2.heap.size ∧ W.heap.size = w.heap.size + 3) := ⟨by rw [hsz]; omega, zz.2⟩
  have I0_2 := Lib.hid (hk0.far (w' := u2) fun g hg _ => hoth g (by have := L0_1.out g hg; omega))
  have I1_2 := Lib.hid (hi.far (w' := u2) fun g hg _ => hoth g (by have := hil g hg; omega))
  have L1_2 : Hid (∀ g, blk a1 m.arrs.length = some g → u1.heap.size ≤ g ∧ g < u2.heap.size) := fun g hg => by have := hil g hg; omega
  have HZ12 : Hid (W.heap.size ≤ u1.heap.size ∧ u1.heap.size ≤ u2.heap.size) := ⟨zz.1, by omega⟩
  have y2 := BX2.out.c2
  clear hi hil hown hb p0 p1 p2 hst hoth hsz hB2 HB1 R1 ST1 BX1 HZ1 z1 zz hk0 I0_1
  go_wp2_with fail
  clear hw hu hf y2
  refine (toInSO_one m.list k.la k.lc u2 (H.out u2 HB2.out).2.2 hs3).mono ?_
  rintro f v2 ⟨a2, c2, rfl, hown, hb⟩
  have hi := RowX.of hown
  have hil := hi.lt
  have z1 := hb.size
  have zz := HZ2.out
  have p0 := BX2.out.below hb (by omega)
  have p1 := (hb.block (w.heap.size + 1) (by omega)).trans R2.out
  have p2 := (hb.block (w.heap.size + 1 + 1) (by omega)).trans ST2.out
  have hk0 := I0_2.out.far (w' := v2) fun g hg hlt => hb.block g hlt
  have hk1 := I1_2.out.far (w' := v2) fun g hg hlt => hb.block g hlt
  obtain ⟨⟨u, hu⟩, hf⟩ := row_set (o := 2) p2 (by simp)
  have hst := heap_setCell_same v2 (w.heap.size + 1 + 1) 2 _ _ (.slice a2 m.list.length c2) p2
  have hB2 : Below w.heap.size w (v2.setCell ⟨w.heap.size + 1 + 1, 2, none⟩ (.slice a2 m.list.length c2)) := (HB2.out.trans (hb.mono HB2.out.size)).setCell (p := ⟨w.heap.size + 1 + 1, 2, none⟩) (by simp; omega) _
  have hoth : ∀ j, j ≠ w.heap.size + 1 + 1 → (v2.setCell ⟨w.heap.size + 1 + 1, 2, none⟩ (.slice a2 m.list.length c2)).heap[j]? = v2.heap[j]? := fun j hj => Below.heap_setCell _ _ _ _ (fun e => hj (by simpa using e))
  have hsz : (v2.setCell ⟨w.heap.size + 1 + 1, 2, none⟩ (.slice a2 m.list.length c2)).heap.size = v2.heap.size := by simp [World.setCell]
  obtain ⟨u3, hw⟩ : ∃ u, v2.setCell ⟨w.heap.size + 1 + 1, 2, none⟩ (.slice a2 m.list.length c2) = u := ⟨_, rfl⟩
  rw [hw] at hst hB2 hoth hsz
  have BX3 : Hid (BoxC u3 w.heap.size m k) := p0.later (hoth _ (by omega))
  have R3 : Hid (u3.heap[w.heap.size + 1]? = some (.cells #[.slice none 0 0, .slice none 0 0, .slice none 0 0] 30 (0, 0))) := (hoth _ (by omega)).trans p1
  have ST3 := Lib.hid hst
  have HB3 := Lib.hid hB2
  have HZ3 : Hid (W.heap.size ≤ u3.heap.size ∧ W.heap.size = w.heap.size + 3) := ⟨by rw [hsz]; omega, zz.2⟩
  have I0_3 := Lib.hid (hk0.far (w' := u3) fun g hg _ => hoth g (by have := L0_1.out g hg; have := HZ12.out; omega))
  have I1_3 := Lib.hid (hk1.far (w' := u3) fun g hg _ => hoth g (by have := L1_2.out g hg; have := HZ12.out; omega))
  have I2_3 := Lib.hid (hi.far (w' := u3) fun g hg _ => hoth g (by have := hil g hg; omega))
  have L2_3 : Hid (∀ g, blk a2 m.list.length = some g → u2.heap.size ≤ g) := fun g hg => (hil g hg).1
  clear hi hil hown hb p0 p1 p2 hst hoth hsz hB2 HB2 R2 ST2 BX2 HZ2 z1 zz hk0 I0_2 hk1 I1_2
  have hst := ST3.out
  have hr := R3.out
  have zz := HZ3.out
  obtain ⟨⟨s0, hs0'⟩, hg0⟩ := row_set (o := 0) hr (by simp)
  obtain ⟨⟨s1, hs1'⟩, hg1⟩ := row_set (o := 1) hr (by simp)
  obtain ⟨⟨s2, hs2'⟩, hg2⟩ := row_set (o := 2) hr (by simp)
  have t0 : u3.cell? ⟨w.heap.size + 1 + 1, 0, none⟩ = some (.slice a0 m.vars.length c0) := by rw [cell_of_row _ _ _ _ _ _ hst]; rfl
  have t1 : u3.cell? ⟨w.heap.size + 1 + 1, 1, none⟩ = some (.slice a1 m.arrs.length c1) := by rw [cell_of_row _ _ _ _ _ _ hst]; rfl
  have t2 : u3.cell? ⟨w.heap.size + 1 + 1, 2, none⟩ = some (.slice a2 m.list.length c2) := by rw [cell_of_row _ _ _ _ _ _ hst]; rfl
  clear hst hr
  go_wp2_with fail
  have HOT : Hid (∀ j, W.heap.size ≤ j → (((u3.setCell ⟨w.heap.size + 1, 0, none⟩ (.slice a0 m.vars.length c0)).setCell ⟨w.heap.size + 1, 1, none⟩ (.slice a1 m.arrs.length c1)).setCell ⟨w.heap.size + 1, 2, none⟩ (.slice a2 m.list.length c2)).heap[j]? = u3.heap[j]?) := fun j hj => by
    rw [Below.heap_setCell _ _ _ _ (by simp; omega), Below.heap_setCell _ _ _ _ (by simp; omega), Below.heap_setCell _ _ _ _ (by simp; omega)]
  have HSZ : Hid ((((u3.setCell ⟨w.heap.size + 1, 0, none⟩ (.slice a0 m.vars.length c0)).setCell ⟨w.heap.size + 1, 1, none⟩ (.slice a1 m.arrs.length c1)).setCell ⟨w.heap.size + 1, 2, none⟩ (.slice a2 m.list.length c2)).heap.size = u3.heap.size) := by
    have : (((u3.setCell ⟨w.heap.size + 1, 0, none⟩ (.slice a0 m.vars.length c0)).setCell ⟨w.heap.size + 1, 1, none⟩ (.slice a1 m.arrs.length c1)).setCell ⟨w.heap.size + 1, 2, none⟩ (.slice a2 m.list.length c2)).heap.size = u3.heap.size := by simp [World.setCell]
    exact this
  clear hw
  refine bodyPost_ret (v := .agg #[.slice a0 m.vars.length c0, .slice a1 m.arrs.length c1, .slice a2 m.list.length c2]) (by simp [results, Tryd.f9, go_sem, hs0', hs1', hs2']) rfl ?_
  have hz12 := HZ12.out
  refine ⟨⟨a0, c0, a1, c1, a2, c2⟩, rfl, ⟨?_, ?_, ?_, fun g h1 h2 => ?_, fun g h1 h2 => ?_, fun g h1 h2 => ?_⟩, ?_⟩
  · exact (I0_3.out.far fun g hg _ => HOT.out g (L0_1.out g hg).1).mono (by omega)
  · exact (I1_3.out.far fun g hg _ => HOT.out g (by have := L1_2.out g hg; omega)).mono (by omega)
  · exact (I2_3.out.far fun g hg _ => HOT.out g (by have := L2_3.out g hg; omega)).mono (by omega)
  · have := L0_1.out g h1
    have := L1_2.out g h2
    omega
  · have := L0_1.out g h1
    have := L2_3.out g h2
    omega
  · have := L1_2.out g h1
    have := L2_3.out g h2
    omega
  exact ((HB3.out.setCell (p := ⟨w.heap.size + 1, 0, none⟩) (by simp) _).setCell (p := ⟨w.heap.size + 1, 1, none⟩) (by simp) _).setCell (p := ⟨w.heap.size + 1, 2, none⟩) (by simp) _

end Go.Proofs.YtmodonligaejhaaDoor

namespace Go.Proofs.YtmodonligaejhaaDoor
open Go.RowKit
set_option linter.unusedVariables false

/-- The marks of a code. -/
def mkCd (k : Int) (m : Cd) : Cd := ⟨mkI k m.vars.length, mkI (k + (m.vars.length : Int)) m.arrs.length, mkN (k + (m.vars.length : Int) + (m.arrs.length : Int)) m.list.length⟩
def mkEnd (k : Int) (m : Cd) : Int := k + (m.vars.length : Int) + (m.arrs.length : Int) + 5 * (m.list.length : Int)
/-- Its rows hold the marks; no other block has changed. -/
def WroteC (w : World) (base : Nat) (m : Cd) (k : CK) (k0 : Int) (f : Ending) (w' : World) : Prop := f = .returned (.int .i64 (mkEnd k0 m)) ∧ OwnC w' base (mkCd k0 m) k ∧ Below base w w' ∧ w.heap.size ≤ w'.heap.size ∧ ∀ j, j < w.heap.size → blk k.va m.vars.length ≠ some j → blk k.aa m.arrs.length ≠ some j → blk k.la m.list.length ≠ some j → w'.heap[j]? = w.heap[j]?

set_option maxRecDepth 100000 in
set_option maxHeartbeats 4000000 in
/-- **markCode.** -/
theorem markC_one (base : Nat) (m : Cd) (k : CK) (k0 : Int) (w : World) (h : OwnC w base m k) (hb : base ≤ w.heap.size) (hs : CSm m) (h0 : 0 ≤ k0) (h1 : k0 ≤ 1000) :
    Calls Tryd.prog 21 #[aggC m k, .int .i64 k0] w (WroteC w base m k k0) := by
  obtain ⟨hs1, hs2, hs3⟩ := hs
  obtain ⟨W, hW⟩ : ∃ W, w.alloc (.cells (arrC m k) 30) = W := ⟨_, rfl⟩
  have hB : Below w.heap.size w W := by rw [← hW]; exact (Below.refl _ w).alloc (Nat.le_refl _) _
  have hX : BoxC W w.heap.size m k := by rw [← hW]; exact BoxC.new _ _ _ _
  have hz : W.heap.size = w.heap.size + 1 := by rw [← hW]; simp
  have hO : OwnC W base m k := h.stand fun g _ hg => hB.block g hg
  have lv := h.v.lt
  have la := h.a.lt
  have ll := h.l.lt
  have LV := Lib.hid lv
  have LA := Lib.hid la
  have LL := Lib.hid ll
  have HO := Lib.hid hO
  have HX := Lib.hid hX
  have HB := Lib.hid hB
  have HW := Lib.hid hW
  have HZ := Lib.hid hz
  unfold arrC at HW
  have x0 := hX.c0
  obtain ⟨nv, hnv⟩ : ∃ n, m.vars.length = n := ⟨_, rfl⟩
  obtain ⟨na, hna⟩ : ∃ n, m.arrs.length = n := ⟨_, rfl⟩
  obtain ⟨nl, hnl⟩ : ∃ n, m.list.length = n := ⟨_, rfl⟩
  have HNV := Lib.hid hnv
  have HNA := Lib.hid hna
  have HNL := Lib.hid hnl
  rw [hnv] at hs1 x0
  rw [hna] at hs2
  rw [hnl] at hs3
  have M1 := Lib.hid (markIX_one base nv k.vc k.va k0 m.vars W (by have := hO.v; rw [hnv] at this; exact this) hnv hs1 h0 (by omega))
  clear hW hB hX hz hO lv la ll h hnv hna hnl
  go_enter Tryd.func21, Tryd.ntmps21
  go_wp2_with (first | rw [HW.out] | fail)
  refine M1.out.mono ?_
  rintro f w1 ⟨rfl, hr1, hz1, hb1, hst1⟩
  have hx1 : BoxC w1 w.heap.size m k := HX.out.later (hst1 _ fun e => by have h1 := LV.out; rw [HNV.out] at h1; have := h1 _ e; omega)
  have x1 := hx1.c1
  rw [HNA.out] at x1
  have ha1 : RowX w1 base 3 1 k.aa na k.ac (m.arrs.map (Value.int .i64)) := by
    have h1 := HO.out.a
    rw [HNA.out] at h1
    refine h1.far fun g hg _ => hst1 g fun e => ?_
    have h2 := HO.out.va
    rw [HNV.out, HNA.out] at h2
    exact h2 g e hg
  have hl1 : RowX w1 base 54 5 k.la nl k.lc (flatN m.list) := by
    have h1 := HO.out.l
    rw [HNL.out] at h1
    refine h1.far fun g hg _ => hst1 g fun e => ?_
    have h2 := HO.out.vl
    rw [HNV.out, HNL.out] at h2
    exact h2 g e hg
  have M2 := Lib.hid (markIX_one base na k.ac k.aa (k0 + (nv : Int)) m.arrs w1 ha1 HNA.out hs2 (by omega) (by omega))
  have HR1 := Lib.hid hr1
  have HX1 := Lib.hid hx1
  have HL1 := Lib.hid hl1
  have HB1 := Lib.hid hb1
  have HST1 := Lib.hid hst1
  have HZ1 := Lib.hid hz1
  clear hr1 hx1 ha1 hl1 hb1 hst1 hz1 x0 M1
  go_wp2_with fail
  refine M2.out.mono ?_
  rintro f w2 ⟨rfl, hr2, hz2, hb2, hst2⟩
  have hx2 : BoxC w2 w.heap.size m k := HX1.out.later (hst2 _ fun e => by have h1 := LA.out; rw [HNA.out] at h1; have := h1 _ e; omega)
  have x2 := hx2.c2
  rw [HNL.out] at x2
  have hv2 : RowX w2 base 3 1 k.va nv k.vc ((mkI k0 nv).map (Value.int .i64)) := HR1.out.far fun g hg _ => hst2 g fun e => by
    have h2 := HO.out.va
    rw [HNV.out, HNA.out] at h2
    exact h2 g hg e
  have hl2 : RowX w2 base 54 5 k.la nl k.lc (flatN m.list) := HL1.out.far fun g hg _ => hst2 g fun e => by
    have h2 := HO.out.al
    rw [HNA.out, HNL.out] at h2
    exact h2 g e hg
  have M3 := Lib.hid (markNX_one base nl k.lc k.la (k0 + (nv : Int) + (na : Int)) m.list w2 hl2 HNL.out hs3 (by omega) (by omega))
  have HV2 := Lib.hid hv2
  have HR2 := Lib.hid hr2
  have HB2 := Lib.hid hb2
  have HST2 := Lib.hid hst2
  have HZ2 := Lib.hid hz2
  clear hr2 hx2 hv2 hl2 hb2 hst2 hz2 x1 M2 HR1 HL1
  go_wp2_with fail
  refine M3.out.mono ?_
  rintro f w3 ⟨rfl, hr3, hz3, hb3, hst3⟩
  have HFIN : Hid (WroteC w base m k k0 (.returned (.int .i64 (k0 + (nv : Int) + (na : Int) + 5 * (nl : Int)))) w3) := by
    have hv3 : RowX w3 base 3 1 k.va nv k.vc ((mkI k0 nv).map (Value.int .i64)) := HV2.out.far fun g hg _ => hst3 g fun e => by
      have h2 := HO.out.vl
      rw [HNV.out, HNL.out] at h2
      exact h2 g hg e
    have ha3 : RowX w3 base 3 1 k.aa na k.ac ((mkI (k0 + (nv : Int)) na).map (Value.int .i64)) := HR2.out.far fun g hg _ => hst3 g fun e => by
      have h2 := HO.out.al
      rw [HNA.out, HNL.out] at h2
      exact h2 g hg e
    have hva := HO.out.va
    have hvl := HO.out.vl
    have hal := HO.out.al
    unfold WroteC
    rw [HNV.out, HNA.out] at hva
    rw [HNV.out, HNL.out] at hvl
    rw [HNA.out, HNL.out] at hal
    refine ⟨by unfold mkEnd; rw [HNV.out, HNA.out, HNL.out], ?_, (((HB.out.mono hb).trans HB1.out).trans HB2.out).trans hb3, by rw [hz3, HZ2.out, HZ1.out]; exact HB.out.size, fun j hj n1 n2 n3 => ?_⟩
    · have e1 : (mkCd k0 m).vars.length = nv := by show (mkI _ _).length = nv; rw [mkI_len, HNV.out]
      have e2 : (mkCd k0 m).arrs.length = na := by show (mkI _ _).length = na; rw [mkI_len, HNA.out]
      have e3 : (mkCd k0 m).list.length = nl := by show (mkN _ _).length = nl; rw [mkN_len, HNL.out]
      refine ⟨?_, ?_, ?_, by rw [e1, e2]; exact hva, by rw [e1, e3]; exact hvl, by rw [e2, e3]; exact hal⟩
      · rw [e1]; show RowX _ _ _ _ _ _ _ ((mkI k0 m.vars.length).map _); rw [HNV.out]; exact hv3
      · rw [e2]; show RowX _ _ _ _ _ _ _ ((mkI (k0 + (m.vars.length : Int)) m.arrs.length).map _); rw [HNV.out, HNA.out]; exact ha3
      · rw [e3]; show RowX _ _ _ _ _ _ _ (flatN (mkN (k0 + (m.vars.length : Int) + (m.arrs.length : Int)) m.list.length)); rw [HNV.out, HNA.out, HNL.out]; exact hr3
    · rw [HNV.out] at n1
      rw [HNA.out] at n2
      rw [HNL.out] at n3
      exact (hst3 j n3).trans ((HST2.out j n2).trans ((HST1.out j n1).trans (HB.out.block j hj)))
  clear hr3 hz3 hb3 hst3 HV2 HR2 HO M3
  go_wp2_with fail
  go_ret
  exact HFIN.out

end Go.Proofs.YtmodonligaejhaaDoor

namespace Go.Proofs.YtmodonligaejhaaDoor
open Go.RowKit
set_option linter.unusedVariables false

theorem eqBB_same (rs : List (List Bool)) (a a' : Option Addr) (n n' c c' : Nat) (w : World) (h : BBs w (fun b => b < w.heap.size) rs a) (h' : BBs w (fun b => b < w.heap.size) rs a') (hn : rs.length = n) (hn' : rs.length = n') :
    Calls Tryd.prog 18 #[.slice a n c, .slice a' n' c'] w (YN true w) := by
  have h1 := eqBB_one rs rs a a' n n' c c' w h h' hn hn'
  rw [decide_eq_true rfl] at h1
  exact h1
theorem OwBB.bb {w : World} {base n c : Nat} {rs : List (List Bool)} {a : Option Addr} {vs : List Value} (h : OwBB w base rs a n c vs) (hn : n ≤ 400) : BBs w (fun b => b < w.heap.size) rs a := (h.bbs (by omega)).wide (fun _ _ => rfl) fun _ hk => hk.2

set_option maxRecDepth 100000 in
set_option maxHeartbeats 16000000 in
theorem law_FnExactInferTaint (m : Cd) (k : CK) (w : World) (hT : TblF w) (hg : 0 < w.heap.size) (h : CL w m k) :
    Calls Tryd.prog 6 #[aggC m k] w (YN true w) := by
  have HM : Hid (∀ v, Below w.heap.size w v → CL v m k) := fun v hv => h.below hv
  have HT : Hid (∀ v, Below w.heap.size w v → TblF v) := fun v hv => hT.below hv hg
  clear h hT hg
  have HB := Lib.hid ((Below.refl w.heap.size w).alloc (Nat.le_refl _) (.cells (arrC m k) 25))
  have HX := Lib.hid (BoxC.new w m k 25)
  go_enter Tryd.func6, Tryd.ntmps6
  go_wp2_with fail
  obtain ⟨W, hW⟩ : ∃ W, (w.alloc (.cells (arrC m k) 25)) = W := ⟨_, rfl⟩
  unfold arrC at hW
  rw [hW] at HB HX ⊢
  clear hW
  refine (szC_one m k 1048576 W (HM.out _ HB.out) (by omega) (by omega)).mono ?_
  rintro f w1 ⟨v1, rfl, hv1, hs1, hb1⟩
  have HS1 := Lib.hid hs1
  have HB1 := Lib.hid (HB.out.trans (hb1.mono HB.out.size))
  have HX1 := Lib.hid (HX.out.below hb1 HX.out.lt)
  have hx1 := HX1.out.lt
  clear hs1 hb1 HX HB
  by_cases n1 : v1 < 0
  · go_wp2_with fail
    go_ret
    exact YN.of rfl HB1.out
  have HMS : Hid (CSm m) := HS1.out (by omega)
  have c0 := HX1.out.c0
  have c1 := HX1.out.c1
  have c2 := HX1.out.c2
  clear HS1
  -- the model's answer
  go_wp2_with fail
  refine (toC_one m k w1 (HM.out _ HB1.out) HMS.out).mono ?_
  rintro f u1 ⟨k1, rfl, hm1, hb1⟩
  have HM1 := Lib.hid hm1
  have HBu1 := Lib.hid hb1
  clear hm1 hb1 c0 c1 c2
  go_wp2_with fail
  refine (sIt_one m k1 u1 HM1.out).mono ?_
  rintro f u2 ⟨rs, b, wa, wn, wc, rfl, hbs, hwn, hwo, hb2⟩
  have HBS := Lib.hid hbs
  have HWN := Lib.hid hwn
  have HSM := Lib.hid hbs.small
  have HBw : Hid (Below w.heap.size w u2) := HB1.out.trans ((HBu1.out.trans (hb2.mono HBu1.out.size)).mono HB1.out.size)
  have HX2 : Hid (BoxC u2 w.heap.size m k) := HX1.out.below (HBu1.out.trans (hb2.mono HBu1.out.size)) hx1
  have hwnl : wn ≤ 400 := by rw [← hwn]; exact HSM.out.1
  have HS : Hid (∀ v, Below u2.heap.size u2 v → (v.cell? ⟨w.heap.size, 0, none⟩ = some (.slice k.va m.vars.length k.vc) ∧ v.cell? ⟨w.heap.size, 1, none⟩ = some (.slice k.aa m.arrs.length k.ac) ∧ v.cell? ⟨w.heap.size, 2, none⟩ = some (.slice k.la m.list.length k.lc)) ∧ CL v m k ∧ TblF v ∧ BBs v (fun j => j < v.heap.size) rs wa) := fun v hv => by
    have bx := HX2.out.below hv HX2.out.lt
    have hb := HBw.out.trans (hv.mono HBw.out.size)
    exact ⟨⟨bx.c0, bx.c1, bx.c2⟩, HM.out _ hb, HT.out _ hb, hwo.below hv⟩
  obtain ⟨⟨x0, x1, x2⟩, _⟩ := HS.out u2 (Below.refl _ _)
  have hs2 := HBw.out.size
  have hnb : (b != b) = false := by cases b <;> rfl
  clear HM1 HBu1 HX1 hwo hwn hbs hb2 HX2 HM HT HB1
  -- the argument
  go_wp2_with fail
  refine (toCO_one m k u2 (HS.out _ (Below.refl _ _)).2.1 HMS.out).mono ?_
  rintro f u3 ⟨k2, rfl, ho3, hb3⟩
  obtain ⟨u4, hu4⟩ : ∃ u4, u3.alloc (.cells (arrC m k2) 30) = u4 := ⟨_, rfl⟩
  have hX4 : BoxC u4 u3.heap.size m k2 := by rw [← hu4]; exact BoxC.new _ _ _ _
  have hb34 : Below u3.heap.size u3 u4 := by rw [← hu4]; exact (Below.refl _ _).alloc (Nat.le_refl _) _
  have HO4 : Hid (OwnC u4 u2.heap.size m k2) := ho3.stand fun g _ hg => hb34.block g hg
  have hlt4 : u3.heap.size < u4.heap.size := hX4.lt
  have HB4 : Hid (Below u2.heap.size u2 u4) := hb3.trans (hb34.mono hb3.size)
  have LV := Lib.hid ho3.v.lt
  have LA := Lib.hid ho3.a.lt
  have LL := Lib.hid ho3.l.lt
  have g0 := hX4.c0
  have g1 := hX4.c1
  have g2 := hX4.c2
  have HX4 := Lib.hid hX4
  have hs3 := hb3.size
  unfold arrC at hu4
  have HU4 := Lib.hid hu4
  clear ho3 hX4 hb34 hu4 hb3 x0 x1 x2
  go_wp2_with (first | rw [HU4.out] | fail)
  refine (iIt_one m k2 u4 HO4.out.cl (HS.out _ HB4.out).2.2.1).mono ?_
  rintro f u5 ⟨gs, gb, ga, gn, gc, vs, rfl, hgs, hgo, hb5⟩
  obtain ⟨hgb, hgb2⟩ := hgs.uniq HBS.out
  subst hgb
  subst hgb2
  obtain rfl : gn = wn := by rw [← hgo.len]; exact HWN.out
  have HG5 := Lib.hid hgo
  have HB5 : Hid (Below u2.heap.size u2 u5) := HB4.out.trans (hb5.mono HB4.out.size)
  have HO5 : Hid (OwnC u5 u2.heap.size m k2) := HO4.out.stand fun g _ hg => hb5.block g hg
  have HX5 : Hid (BoxC u5 u3.heap.size m k2) := HX4.out.below hb5 hlt4
  have hs4 := HB4.out.size
  have hs5 := hb5.size
  clear hgs hgo hb5 g0 g1 g2 HX4 HO4
  have E5 := Lib.hid (eqBB_same gs ga wa gn gn gc wc u5 (HG5.out.bb hwnl) (HS.out _ HB5.out).2.2.2 HWN.out HWN.out)
  go_wp2_with fail
  refine E5.out.mono ?_
  rintro f u6 ⟨rfl, hb6⟩
  have HB6 : Hid (Below u2.heap.size u2 u6) := HB5.out.trans (hb6.mono HB5.out.size)
  have HG6 : Hid (OwBB u6 u4.heap.size gs ga gn gc vs) := HG5.out.later hb6
  have HO6 : Hid (OwnC u6 u2.heap.size m k2) := HO5.out.stand fun g _ hg => hb6.block g hg
  have HX6 : Hid (BoxC u6 u3.heap.size m k2) := HX5.out.below hb6 HX5.out.lt
  have hs6 := hb6.size
  have HSQ : Hid (∀ v, Below u6.heap.size u6 v → v.cell? ⟨w.heap.size, 0, none⟩ = some (.slice k.va m.vars.length k.vc) ∧ v.cell? ⟨w.heap.size, 1, none⟩ = some (.slice k.aa m.arrs.length k.ac) ∧ v.cell? ⟨w.heap.size, 2, none⟩ = some (.slice k.la m.list.length k.lc) ∧ v.cell? ⟨u3.heap.size, 0, none⟩ = some (.slice k2.va m.vars.length k2.vc) ∧ v.cell? ⟨u3.heap.size, 1, none⟩ = some (.slice k2.aa m.arrs.length k2.ac) ∧ v.cell? ⟨u3.heap.size, 2, none⟩ = some (.slice k2.la m.list.length k2.lc)) := fun v hv => by
    obtain ⟨⟨f0, f1, f2⟩, _⟩ := HS.out v (HB6.out.trans (hv.mono HB6.out.size))
    have h := HX6.out.below hv HX6.out.lt
    exact ⟨f0, f1, f2, h.c0, h.c1, h.c2⟩
  obtain ⟨f0, f1, f2, q0, q1, q2⟩ := HSQ.out u6 (Below.refl _ _)
  have HWQ : Hid (∀ v, Below u6.heap.size u6 v → CL v m k) := fun v hv => (HS.out _ (HB6.out.trans (hv.mono HB6.out.size))).2.1
  have HC6 : Hid (CL u6 m k2) := HO6.out.cl
  have HBD6 : Hid (Below u6.heap.size u6 u6.drew) := (Below.refl _ _).drew
  clear hb6 HG5 HO5 HX5 HB5 E5
  go_wp2_with fail
  go_region_held3 (fun v => v.cell? ⟨w.heap.size, 0, none⟩ = some (.slice k.va m.vars.length k.vc) ∧ v.cell? ⟨w.heap.size, 1, none⟩ = some (.slice k.aa m.arrs.length k.ac) ∧ v.cell? ⟨w.heap.size, 2, none⟩ = some (.slice k.la m.list.length k.lc) ∧ v.cell? ⟨u3.heap.size, 0, none⟩ = some (.slice k2.va m.vars.length k2.vc) ∧ v.cell? ⟨u3.heap.size, 1, none⟩ = some (.slice k2.aa m.arrs.length k2.ac) ∧ v.cell? ⟨u3.heap.size, 2, none⟩ = some (.slice k2.la m.list.length k2.lc)) (first | assumption | exact ⟨f0, f1, f2, q0, q1, q2⟩)
    (first
    | (go_at_call 9; (with_reducible refine (toC_one m k u6.drew (HWQ.out _ HBD6.out) HMS.out).mono ?_); rintro f u9 ⟨k3, rfl, hm3, hA⟩; have hA2 := HBD6.out.trans hA; have hS1 := HSQ.out _ hA2)
    | (go_at_call 11; (with_reducible refine (eqC_one m m k2 k3 u9 (HC6.out.below hA2) hm3).mono ?_); rintro f u7 ⟨rfl, hE⟩; rw [show decide (m = m) = true from decide_eq_true rfl]; have hB7 := hA2.trans (hE.mono hA2.size); have hS2 := HSQ.out _ hB7)
    | fail)
  have HB7 : Hid (Below u2.heap.size u2 u7) := HB6.out.trans (hB7.mono HB6.out.size)
  have HG7 : Hid (OwBB u7 u4.heap.size gs ga gn gc vs) := HG6.out.later hB7
  have HO7 : Hid (OwnC u7 u2.heap.size m k2) := HO6.out.stand fun g _ hg => hB7.block g hg
  have HX7 : Hid (BoxC u7 u3.heap.size m k2) := HX6.out.below hB7 HX6.out.lt
  obtain ⟨_, _, _, y0, y1, y2⟩ := hS2
  have hs7 := hB7.size
  clear hB7 hA hA2 hE hS1 q0 q1 q2 f0 f1 f2 HSQ HC6 HWQ HG6 HO6 HX6 hm3 HBD6
  -- the marks of the argument
  have MC := Lib.hid (markC_one u2.heap.size m k2 1 u7 HO7.out HB7.out.size HMS.out (by omega) (by omega))
  go_wp2_with fail
  refine MC.out.mono ?_
  rintro f u8 ⟨rfl, _, hb8, hs8, hst8⟩
  have HG8 : Hid (OwBB u8 u4.heap.size gs ga gn gc vs) := HG7.out.far fun g hbg hlt => hst8 g hlt (fun e => by have := LV.out g e; omega) (fun e => by have := LA.out g e; omega) (fun e => by have := LL.out g e; omega)
  have HB8 : Hid (Below u2.heap.size u2 u8) := HB7.out.trans hb8
  obtain ⟨ke, hke⟩ : ∃ ke, mkEnd 1 m = ke := ⟨_, rfl⟩
  have hk1 : ¬ (ke < 0) := by rw [← hke]; unfold mkEnd; omega
  rw [hke]
  clear hb8 hst8 MC HG7 HO7 HX7 y0 y1 y2 hke
  have E8 := Lib.hid (eqBB_same gs ga wa gn gn gc wc u8 (HG8.out.bb hwnl) (HS.out _ HB8.out).2.2.2 HWN.out HWN.out)
  go_wp2_with fail
  refine E8.out.mono ?_
  rintro f u9 ⟨rfl, hb9⟩
  have HG9 : Hid (OwBB u9 u4.heap.size gs ga gn gc vs) := HG8.out.later hb9
  have HB9 : Hid (Below u2.heap.size u2 u9) := HB8.out.trans (hb9.mono HB8.out.size)
  clear hb9 E8 HG8
  -- the marks of the answer
  have M9 := Lib.hid (markBB_one u4.heap.size gn gc ga 1 gs vs u9 HG9.out hwnl HSM.out.2 (by omega) (by omega))
  go_wp2_with fail
  refine M9.out.mono ?_
  rintro f u10 ⟨ps, rfl, hg10, hmk, hb10⟩
  have HG10 := Lib.hid hg10
  have HMK := Lib.hid hmk
  have HB10 : Hid (Below u2.heap.size u2 u10) := HB9.out.trans (hb10.mono hs4)
  clear hg10 hmk hb10 M9 HG9
  have H10 := Lib.hid (heldBB_one gn gc ga 1 gs ps u10 (HG10.out.bb hwnl) HMK.out HWN.out hwnl HSM.out.2 (by omega) (by omega))
  obtain ⟨sl, hsl⟩ : ∃ sl, sumL gs gn = sl := ⟨_, rfl⟩
  have HSL := Lib.hid hsl
  unfold HeldBB at H10
  rw [hsl] at H10 ⊢
  clear hsl
  go_wp2_with fail
  refine H10.out.mono ?_
  rintro f u11 ⟨rfl, hb11⟩
  have HG11 : Hid (OwBB u11 u4.heap.size ps ga gn gc vs) := HG10.out.later hb11
  have HB11 : Hid (Below u2.heap.size u2 u11) := HB10.out.trans (hb11.mono HB10.out.size)
  have hk2 : ¬ ((1 : Int) + (sl : Int) < 0) := by omega
  obtain ⟨⟨z0, z1, z2⟩, _⟩ := HS.out u11 HB11.out
  clear hb11 H10 HG10
  -- again
  have T11 := Lib.hid (toC_one m k u11 (HS.out _ HB11.out).2.1 HMS.out)
  go_wp2_with fail
  refine T11.out.mono ?_
  rintro f u12 ⟨k4, rfl, hm4, hb12⟩
  have HG12 : Hid (OwBB u12 u4.heap.size ps ga gn gc vs) := HG11.out.later hb12
  have HB12 : Hid (Below u2.heap.size u2 u12) := HB11.out.trans (hb12.mono HB11.out.size)
  have R12 := Lib.hid (iIt_one m k4 u12 hm4 (HS.out _ HB12.out).2.2.1)
  clear hm4 hb12 T11 HG11 z0 z1 z2
  go_wp2_with fail
  refine R12.out.mono ?_
  rintro f u13 ⟨hs, hb, ha, hn, hc, vs', rfl, hhs, hho, hb13⟩
  obtain ⟨hhb, hhb2⟩ := hhs.uniq HBS.out
  subst hhb
  subst hhb2
  obtain rfl : hn = gn := by rw [← hho.len]; exact HWN.out
  have HG13 : Hid (OwBB u13 u4.heap.size ps ga hn gc vs) := HG12.out.later hb13
  have HB13 : Hid (Below u2.heap.size u2 u13) := HB12.out.trans (hb13.mono HB12.out.size)
  have E13 := Lib.hid (eqBB_same hs ha wa hn hn hc wc u13 (hho.bb hwnl) (HS.out _ HB13.out).2.2.2 HWN.out HWN.out)
  clear hhs hho hb13 R12 HG12
  go_wp2_with fail
  refine E13.out.mono ?_
  rintro f u14 ⟨rfl, hb14⟩
  have HG14 : Hid (OwBB u14 u4.heap.size ps ga hn gc vs) := HG13.out.later hb14
  have HB14 : Hid (Below u2.heap.size u2 u14) := HB13.out.trans (hb14.mono HB13.out.size)
  have H14 := Lib.hid (heldBB_one hn gc ga 1 hs ps u14 (HG14.out.bb hwnl) HMK.out HWN.out hwnl HSM.out.2 (by omega) (by omega))
  unfold HeldBB at H14
  rw [HSL.out] at H14
  clear hb14 E13 HG13
  go_wp2_with fail
  refine H14.out.mono ?_
  rintro f u15 ⟨rfl, hb15⟩
  have HFIN : Hid (Below w.heap.size w u15) := HBw.out.trans ((HB14.out.trans (hb15.mono HB14.out.size)).mono hs2)
  clear hb15 H14
  go_wp2_with fail
  go_ret
  exact YN.of rfl HFIN.out

end Go.Proofs.YtmodonligaejhaaDoor

/- classes.representative and classes.merge at expressions: a union-find over addresses. -/
import Derived.Test.YtjmfnpljkiobkaaMapP
namespace Go.Proofs.Ytjmfnpljkiobkaa
open Go.RowKit Go.ChangeMaps
set_option linter.unusedVariables false

theorem infoPE : (Try.prog.info? 86).map (fun i => (i.zero, i.size, i.bytes)) = some (some (.pointer none), 1, 8) := by kernel_rfl
theorem infoXE : ∃ j, Try.prog.info? 38 = some j ∧ j.size ≠ 0 := by
  have h : (Try.prog.info? 38).map (fun i => i.size) = some 3 := by kernel_rfl
  obtain ⟨j, hj, hz⟩ := Option.map_eq_some_iff.1 h
  exact ⟨j, hj, by rw [hz]; decide⟩
theorem zeroPE (w : World) : (zeroValue 86).run Try.prog w = .ok (.pointer none) w := by
  obtain ⟨i, hi, hz, _, _⟩ := info_parts infoPE
  simp [zeroValue, typeInfo, hi, hz]
theorem clsUnd : Try.prog.underlying 60 = some (.map 86 86) := Try.underlying60

theorem wpList_lookS {ops : Array Oper} {rest : List Oper} {o : Oper} {a : Act} {w : World} {Q : Exit → Act → World → Prop} (hgd : o.guard = none) (m x : Operand)
    (ho : o.op = Op.lookup 60 m x true) (M : Nat) (f : Addr → Option Addr) (hm : a.eval m = .map (some M)) (hM : MapF w M f) (p q : Addr) (hx : a.eval x = .pointer (some p)) (hp : PlA w p) (hf : f p = some q)
    (h : wpList Try.prog ops Q rest (a.put o.dst (.tuple #[.pointer (some q), .bool true])) w) : wpList Try.prog ops Q (o :: rest) a w :=
  wpList_plain hgd fun _ hK => by
    obtain ⟨j, hj, hz⟩ := infoXE
    have hrun := run_lookupP clsUnd Try.underlying86 hj hz (zeroPE w) hM hp
    rw [hf] at hrun
    unfold Oper.wp
    simp [execOp, ho, hm, hx, hrun, Result.andThen]
    exact hK _ _ h
theorem wpList_lookN {ops : Array Oper} {rest : List Oper} {o : Oper} {a : Act} {w : World} {Q : Exit → Act → World → Prop} (hgd : o.guard = none) (m x : Operand)
    (ho : o.op = Op.lookup 60 m x true) (M : Nat) (f : Addr → Option Addr) (hm : a.eval m = .map (some M)) (hM : MapF w M f) (p : Addr) (hx : a.eval x = .pointer (some p)) (hp : PlA w p) (hf : f p = none)
    (h : wpList Try.prog ops Q rest (a.put o.dst (.tuple #[.pointer none, .bool false])) w) : wpList Try.prog ops Q (o :: rest) a w :=
  wpList_plain hgd fun _ hK => by
    obtain ⟨j, hj, hz⟩ := infoXE
    have hrun := run_lookupP clsUnd Try.underlying86 hj hz (zeroPE w) hM hp
    rw [hf] at hrun
    unfold Oper.wp
    simp [execOp, ho, hm, hx, hrun, Result.andThen]
    exact hK _ _ h
theorem wpList_putP {ops : Array Oper} {rest : List Oper} {o : Oper} {a : Act} {w : World} {Q : Exit → Act → World → Prop} (hgd : o.guard = none) (m x v : Operand)
    (ho : o.op = Op.mapUpdate 60 m x v) (M : Nat) (f : Addr → Option Addr) (hm : a.eval m = .map (some M)) (hM : MapF w M f) (p q : Addr) (hx : a.eval x = .pointer (some p)) (hv : a.eval v = .pointer (some q)) (hp : PlA w p) (hq : PlA w q)
    (h : ∀ w', MapF w' M (fun z => if z = p then some q else f z) → (∃ ob, w' = setBlock w M ob) → wpList Try.prog ops Q rest (a.put o.dst undef) w') : wpList Try.prog ops Q (o :: rest) a w :=
  wpList_plain hgd fun _ hK => by
    obtain ⟨j, hj, hz⟩ := infoXE
    obtain ⟨w', hrun, h1, h2⟩ := run_updateP clsUnd Try.underlying86 hj hz hM hp hq
    unfold Oper.wp
    simp [execOp, ho, hm, hx, hv, hrun, Result.andThen]
    exact hK _ _ (h w' h1 h2)

theorem run_eqlP {a b : Addr} {w : World} (ha : PlA w a) (hb : PlA w b) : (binOp .eql 86 (.pointer (some a)) (.pointer (some b))).run Try.prog w = .ok (.bool (decide (a = b))) w := by
  obtain ⟨j, hj, hz⟩ := infoXE
  have h := run_equal_ptr Try.underlying86 hj hz ha hb
  simp [binOp, h]

/-- Nothing but block M has changed. -/
def OnlyM (M : Nat) (w w' : World) : Prop := Below M w w' ∧ w'.heap.size = w.heap.size ∧ ∀ b, b ≠ M → w'.heap[b]? = w.heap[b]?
theorem OnlyM.refl (M : Nat) (w : World) : OnlyM M w w := ⟨Below.refl _ _, rfl, fun _ _ => rfl⟩
theorem OnlyM.trans {M : Nat} {a b c : World} (h : OnlyM M a b) (k : OnlyM M b c) : OnlyM M a c := ⟨h.1.trans k.1, k.2.1.trans h.2.1, fun i hi => (k.2.2 i hi).trans (h.2.2 i hi)⟩
theorem OnlyM.set (M : Nat) (w : World) (o : Obj) : OnlyM M w (setBlock w M o) := by
  have h2 : ∀ b, b ≠ M → (setBlock w M o).heap[b]? = w.heap[b]? := fun b hb => by simp [setBlock, Array.getElem?_setIfInBounds_ne (fun e => hb e.symm)]
  exact ⟨⟨rfl, rfl, rfl, by simp [setBlock], fun b hb => h2 b (by omega)⟩, by simp [setBlock], h2⟩
theorem PlA.only {M : Nat} {w w' : World} {f : Addr → Option Addr} (hM : MapF w M f) (ho : OnlyM M w w') {a : Addr} (h : PlA w a) : PlA w' a := by
  obtain ⟨cs, T, h⟩ := h
  obtain ⟨es, cl, hb, _⟩ := hM
  exact ⟨cs, T, (ho.2.2 a.block (fun e => by rw [e, hb] at h; cases h)).trans h⟩

theorem MapF.stand {w w' : World} {M : Nat} {f : Addr → Option Addr} (h : MapF w M f) (ho : ∀ b, b < w.heap.size → w'.heap[b]? = w.heap[b]?) : MapF w' M f := by
  obtain ⟨es, cl, hb, hE, rfl⟩ := h
  have hp : ∀ a, PlA w a → PlA w' a := fun a h => by
    obtain ⟨cs, T, h⟩ := h
    exact ⟨cs, T, (ho _ (Array.getElem?_eq_some_iff.1 h).1).trans h⟩
  exact ⟨es, cl, (ho M (Array.getElem?_eq_some_iff.1 hb).1).trans hb, fun e he => by
    obtain ⟨x, y, h1, h2, h3, h4⟩ := hE e he
    exact ⟨x, y, h1, h2, hp x h3, hp y h4⟩, rfl⟩
theorem MapF.alloc {w : World} {M : Nat} {f : Addr → Option Addr} (h : MapF w M f) (o : Obj) : MapF (w.alloc o) M f := h.stand fun b hb => Below.heap_alloc _ _ _ hb

/-- An equivalence. -/
structure Eqv (Q : Addr → Addr → Prop) : Prop where
  refl : ∀ a, Q a a
  symm : ∀ {a b}, Q a b → Q b a
  trans : ∀ {a b c}, Q a b → Q b c → Q a c
def HoldsF (f : Addr → Option Addr) (Q : Addr → Addr → Prop) : Prop := ∀ a b, f a = some b → Q a b
def RankF (rk : Addr → Nat) (f : Addr → Option Addr) : Prop := ∀ a b, f a = some b → rk b < rk a
def setF (f : Addr → Option Addr) (a b : Addr) : Addr → Option Addr := fun z => if z = a then some b else f z
theorem setF_holds {f : Addr → Option Addr} {Q : Addr → Addr → Prop} (h : HoldsF f Q) {a b : Addr} (hq : Q a b) : HoldsF (setF f a b) Q := fun x y hx => by
  unfold setF at hx
  split at hx
  · rename_i e; subst e; cases hx; exact hq
  · exact h x y hx
theorem setF_rank {f : Addr → Option Addr} {rk : Addr → Nat} (h : RankF rk f) {a b : Addr} (hq : rk b < rk a) : RankF rk (setF f a b) := fun x y hx => by
  unfold setF at hx
  split at hx
  · rename_i e; subst e; cases hx; exact hq
  · exact h x y hx
theorem MapF.pl {w : World} {M : Nat} {f : Addr → Option Addr} (h : MapF w M f) {a b : Addr} (hf : f a = some b) : PlA w b := by
  obtain ⟨es, cl, _, hE, rfl⟩ := h
  have : ∀ (l : List MapEntry), (∀ e ∈ l, EntP w e) → lkE l a = some b → PlA w b := fun l => by
    induction l with
    | nil => intro _ h; cases h
    | cons e l ih =>
      intro hl h
      obtain ⟨x, y, c, rfl, hx, hy⟩ := (hl e (by simp)).eq
      simp only [lkE] at h
      split at h
      · cases h; exact hy
      · exact ih (fun e he => hl e (by simp [he])) h
  exact this _ hE hf

/-- What representative hands back. -/
def RepA (M : Nat) (f : Addr → Option Addr) (rk : Addr → Nat) (p : Addr) (w : World) (e : Ending) (w' : World) : Prop := ∃ r f', e = .returned (.pointer (some r)) ∧ f' r = none ∧ MapF w' M f' ∧ RankF rk f' ∧ PlA w' r ∧ (∀ Q, Eqv Q → HoldsF f Q → HoldsF f' Q ∧ Q p r) ∧ (∀ a, f' a = none ↔ f a = none) ∧ OnlyM M w w'

structure RepB (M : Nat) (f : Addr → Option Addr) (rk : Addr → Nat) (p : Addr) (w : World) (p' : Addr) (f' : Addr → Option Addr) (wr : World) : Prop where
  map : MapF wr M f'
  rank : RankF rk f'
  pl : PlA wr p'
  eqv : ∀ Q, Eqv Q → HoldsF f Q → HoldsF f' Q ∧ Q p p'
  dom : ∀ a, f' a = none ↔ f a = none
  only : OnlyM M w wr
theorem RepB.step {M : Nat} {f f' : Addr → Option Addr} {rk : Addr → Nat} {p p' q : Addr} {w wr : World} (h : RepB M f rk p w p' f' wr) (h1 : f' p' = some q) (hq : PlA wr q) : RepB M f rk p w q f' wr :=
  ⟨h.map, h.rank, hq, fun Q hQ hf => by
    obtain ⟨h2, h3⟩ := h.eqv Q hQ hf
    exact ⟨h2, hQ.trans h3 (h2 _ _ h1)⟩, h.dom, h.only⟩
theorem RepB.half {M : Nat} {f f' : Addr → Option Addr} {rk : Addr → Nat} {p p' q r : Addr} {w wr : World} {ob : Obj} (h : RepB M f rk p w p' f' wr) (h1 : f' p' = some q) (h2 : f' q = some r) (hq : PlA wr q) (hm : MapF (setBlock wr M ob) M (setF f' p' r)) : RepB M f rk p w q (setF f' p' r) (setBlock wr M ob) := by
  have ho := OnlyM.set M wr ob
  refine ⟨hm, setF_rank h.rank (Nat.lt_trans (h.rank _ _ h2) (h.rank _ _ h1)), hq.only h.map ho, fun Q hQ hf => ?_, fun a => ?_, h.only.trans ho⟩
  · obtain ⟨h3, h4⟩ := h.eqv Q hQ hf
    exact ⟨setF_holds h3 (hQ.trans (h3 _ _ h1) (h3 _ _ h2)), hQ.trans h4 (h3 _ _ h1)⟩
  · rw [← h.dom a]
    unfold setF
    split
    · rename_i e; subst e; rw [h1]; simp
    · exact Iff.rfl

set_option maxRecDepth 100000 in
set_option maxHeartbeats 1000000 in
theorem rep_one (M : Nat) (f : Addr → Option Addr) (rk : Addr → Nat) (p : Addr) (w : World) (hM : MapF w M f) (hr : RankF rk f) (hp : PlA w p) :
    Calls Try.prog 61 #[.map (some M), .pointer (some p)] w (RepA M f rk p w) := by
  have HM0 := Lib.hid hM
  have HR0 := Lib.hid hr
  have HP0 := Lib.hid hp
  clear hM hr hp
  go_enter Try.func61, Try.ntmps61
  go_wp2_with fail
  go_loopw [1] (fun nd wr => ∃ p' f', nd = .pointer (some p') ∧ Hid (RepB M f rk p w p' f' wr)) (fun nd _ => match nd with | .pointer (some a) => rk a | _ => 0)
  case atStart => exact ⟨p, f, rfl, ⟨HM0.out, HR0.out, HP0.out, fun Q hQ h => ⟨h, hQ.refl _⟩, fun _ => Iff.rfl, OnlyM.refl _ _⟩⟩
  case round =>
    obtain ⟨p', f', rfl, HS⟩ := hrel
    cases hf1 : f' p' with
    | none =>
      have HF1 := Lib.hid hf1
      clear hf1
      go_wp2_with (first | (at_lookup; refine wpList_lookN (by rfl) _ _ (by rfl) M f' (by rfl) HS.out.map p' (by rfl) HS.out.pl HF1.out ?_) | fail)
      go_ret
      exact ⟨p', f', rfl, HF1.out, HS.out.map, HS.out.rank, HS.out.pl, HS.out.eqv, HS.out.dom, HS.out.only⟩
    | some q =>
      have HF1 := Lib.hid hf1
      have HQ : Hid (PlA wr q) := HS.out.map.pl hf1
      have hrk := HS.out.rank _ _ hf1
      clear hf1
      cases hf2 : f' q with
      | none =>
        have HF2 := Lib.hid hf2
        clear hf2
        go_wp2_with (first | (at_lookup; refine wpList_lookS (by rfl) _ _ (by rfl) M f' (by rfl) HS.out.map p' q (by rfl) HS.out.pl HF1.out ?_) | (at_lookup; refine wpList_lookN (by rfl) _ _ (by rfl) M f' (by rfl) HS.out.map q (by rfl) HQ.out HF2.out ?_) | fail)
        go_roundw
        case rel => exact ⟨q, f', rfl, HS.out.step HF1.out HQ.out⟩
        case measure => exact hrk
      | some r =>
        have HF2 := Lib.hid hf2
        have HR : Hid (PlA wr r) := HS.out.map.pl hf2
        clear hf2
        go_wp2_with (first | (at_lookup; refine wpList_lookS (by rfl) _ _ (by rfl) M f' (by rfl) HS.out.map p' q (by rfl) HS.out.pl HF1.out ?_) | (at_lookup; refine wpList_lookS (by rfl) _ _ (by rfl) M f' (by rfl) HS.out.map q r (by rfl) HQ.out HF2.out ?_) | (at_mapUpdate; refine wpList_putP (by rfl) _ _ _ (by rfl) M f' (by rfl) HS.out.map p' r (by rfl) (by rfl) HS.out.pl HR.out ?_; rintro w2 hm2 ⟨ob, rfl⟩) | fail)
        go_roundw
        case rel => exact ⟨q, setF f' p' r, rfl, HS.out.half HF1.out HF2.out HQ.out hm2⟩
        case measure => exact hrk

/-- What merge hands back. -/
def MerA (M : Nat) (f : Addr → Option Addr) (p q : Addr) (w : World) (e : Ending) (w' : World) : Prop := ∃ (t : Bool) (f' : Addr → Option Addr), e = .returned (.bool t) ∧ MapF w' M f' ∧ (∃ rk, RankF rk f') ∧ OnlyM M w w' ∧ (t = false → ∀ Q, Eqv Q → HoldsF f Q → HoldsF f' Q ∧ Q p q) ∧ (t = true → ∀ Q, Eqv Q → HoldsF f Q → Q p q → HoldsF f' Q)

set_option maxRecDepth 100000 in
set_option maxHeartbeats 1000000 in
theorem merge_one (M : Nat) (f : Addr → Option Addr) (rk : Addr → Nat) (p q : Addr) (w : World) (hM : MapF w M f) (hr : RankF rk f) (hp : PlA w p) (hq : PlA w q) :
    Calls Try.prog 50 #[.map (some M), .pointer (some p), .pointer (some q)] w (MerA M f p q w) := by
  have HM0 := Lib.hid hM
  have HR0 := Lib.hid hr
  have HP0 := Lib.hid hp
  have HQ0 := Lib.hid hq
  clear hM hr hp hq
  go_enter Try.func50, Try.ntmps50
  go_wp2_with fail
  refine (rep_one M f rk p w HM0.out HR0.out HP0.out).mono ?_
  rintro e w1 ⟨r1, f1, rfl, hn1, hm1, hk1, hl1, he1, hd1, ho1⟩
  have HM1 := Lib.hid hm1
  have HK1 := Lib.hid hk1
  have HL1 := Lib.hid hl1
  have HE1 := Lib.hid he1
  have HN1 := Lib.hid hn1
  have HO1 := Lib.hid ho1
  have HQ1 : Hid (PlA w1 q) := HQ0.out.only HM0.out ho1
  clear hn1 hm1 hk1 hl1 he1 hd1 ho1
  go_wp2_with fail
  refine (rep_one M f1 rk q w1 HM1.out HK1.out HQ1.out).mono ?_
  rintro e w2 ⟨r2, f2, rfl, hn2, hm2, hk2, hl2, he2, hd2, ho2⟩
  have HM2 := Lib.hid hm2
  have HK2 := Lib.hid hk2
  have HL2 := Lib.hid hl2
  have HE2 := Lib.hid he2
  have HN2 := Lib.hid hn2
  have HN1' : Hid (f2 r1 = none) := (hd2 r1).2 HN1.out
  have HO2 := Lib.hid (HO1.out.trans ho2)
  have HL1' : Hid (PlA w2 r1) := HL1.out.only HM1.out ho2
  clear hn2 hm2 hk2 hl2 he2 hd2 ho2
  by_cases hrr : r1 = r2
  · subst hrr
    have hb := run_eqlP HL1'.out HL1'.out
    rw [decide_eq_true rfl] at hb
    go_wp2_with fail
    go_ret
    refine ⟨false, f2, rfl, HM2.out, ⟨_, HK2.out⟩, HO2.out, fun _ Q hQ hf => ?_, fun h => by cases h⟩
    obtain ⟨h1, h2⟩ := HE1.out Q hQ hf
    obtain ⟨h3, h4⟩ := HE2.out Q hQ h1
    exact ⟨h3, hQ.trans h2 (hQ.symm h4)⟩
  · have hb := run_eqlP HL1'.out HL2.out
    rw [decide_eq_false hrr] at hb
    go_wp2_with (first | (at_mapUpdate; refine wpList_putP (by rfl) _ _ _ (by rfl) M f2 (by rfl) HM2.out r1 r2 (by rfl) (by rfl) HL1'.out HL2.out ?_; rintro w3 hm3 ⟨ob, rfl⟩) | fail)
    go_ret
    refine ⟨true, setF f2 r1 r2, rfl, hm3, ⟨fun z => if z = r2 then 0 else rk z + 1, fun x y hx => ?_⟩, HO2.out.trans (OnlyM.set _ _ _), (fun h => by cases h), fun _ Q hQ hf hpq => ?_⟩
    · unfold setF at hx
      split at hx
      · rename_i e
        cases hx
        subst e
        show (if r2 = r2 then 0 else rk r2 + 1) < (if x = r2 then 0 else rk x + 1)
        rw [if_pos rfl, if_neg hrr]
        omega
      · have hx2 : x ≠ r2 := fun e => by rw [e, HN2.out] at hx; cases hx
        have h9 := HK2.out _ _ hx
        show (if y = r2 then 0 else rk y + 1) < (if x = r2 then 0 else rk x + 1)
        rw [if_neg hx2]
        split <;> omega
    · obtain ⟨h1, h2⟩ := HE1.out Q hQ hf
      obtain ⟨h3, h4⟩ := HE2.out Q hQ h1
      exact setF_holds h3 (hQ.trans (hQ.symm h2) (hQ.trans hpq h4))

end Go.Proofs.Ytjmfnpljkiobkaa

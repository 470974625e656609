/- Rows of bools as masks; spec.l9After, walked: it hands back, in a new row, what an instruction makes of a row. -/
import Derived.Test.YtmodonligaejhaaDoorLsS
import Derived.Test.YtmodonligaejhaaDoorBlS
import Derived.Test.YtmodonligaejhaaDoorAppA
import Derived.Test.YtmodonligaejhaaDoorCvU
import Derived.StillTailTactics
import Derived.Deep.CutRange
namespace Go.Proofs.YtmodonligaejhaaDoor
open Go.RowKit
set_option linter.unusedVariables false


section
variable {P : Program} {ops : Array Oper} {w : World} {Q : Act → Prop} {a : Act} {o : Oper} {rest : List Oper}
/-- A region's head, kept shut: what it says is not looked into. -/
def WpS (P : Program) (ops : Array Oper) (w : World) (Q : Act → Prop) (l : List Oper) (a : Act) : Prop := True → wpStill P ops w Q l a
/-- A step of a region's head, without a guard. -/
theorem WpS.ng (hg : o.guard = none) (h : ∀ K : Act → Prop, (∀ a, WpS P ops w Q rest a → K a) → o.still P a w K) : WpS P ops w Q (o :: rest) a := fun _ => by
  unfold wpStill
  rw [if_pos (by unfold Region.wanted; rw [hg])]
  exact h _ fun _ h => h trivial
/-- A step whose guard says yes. -/
theorem WpS.on (hw : Region.wanted o (yielded ops a.tmps) = true) (h : ∀ K : Act → Prop, (∀ a, WpS P ops w Q rest a → K a) → o.still P a w K) : WpS P ops w Q (o :: rest) a := fun _ => by
  unfold wpStill
  rw [if_pos hw]
  exact h _ fun _ h => h trivial
/-- A step whose guard says no. -/
theorem WpS.off (hw : Region.wanted o (yielded ops a.tmps) = false) (h : ∀ K : Act → Prop, (∀ a, WpS P ops w Q rest a → K a) → K (a.put o.dst undef)) : WpS P ops w Q (o :: rest) a := fun _ => by
  unfold wpStill
  rw [if_neg (by rw [hw]; simp)]
  exact h _ fun _ h => h trivial
theorem WpS.nil (h : Q a) : WpS P ops w Q [] a := fun _ => h
/-- A region that draws its order: its head reads, its tail has one order. -/
theorem wp_head_tail {id : Nat} {Q : Exit → Act → World → Prop} {l : List Oper} (n : Nat) (hm : P.follows .mixedOrders = true) (hB : Region.lexTailB .any l.toArray n = true)
    (h : WpS P l.toArray { w with drawn := w.drawn + 1 } (fun a' => wpList P l.toArray Q (l.drop n) a' { w with drawn := w.drawn + 1 }) (l.take n) a) : (Code.region id l.toArray true).wp P Q a w :=
  wp_region_still_tail n hm hB (h trivial)
end
/-- The row of a mask. -/
def rowB (m : Nat) : List Bool := if m = 0 then [] else (List.range 14).map fun i => m.testBit i
theorem rowB_0 : rowB 0 = [] := rfl
theorem rowB_len {m : Nat} (h : m ≠ 0) : (rowB m).length = 14 := by unfold rowB; rw [if_neg h]; simp
theorem rowB_at {m i : Nat} (h : m ≠ 0) (hi : i < 14) : (rowB m)[i]? = some (m.testBit i) := by unfold rowB; rw [if_neg h, List.getElem?_map, List.getElem?_range hi]; rfl
theorem rowB_ext {m : Nat} {bs : List Bool} (h : m ≠ 0) (hl : bs.length = 14) (he : ∀ i, i < 14 → bs[i]? = some (m.testBit i)) : bs = rowB m := by
  apply List.ext_getElem?
  intro i
  by_cases hi : i < 14
  · rw [he i hi, rowB_at h hi]
  · rw [List.getElem?_eq_none (by omega), List.getElem?_eq_none (by rw [rowB_len h]; omega)]
theorem rowB_set {m r : Nat} {v : Bool} (hm : m < 32768) (h14 : m.testBit 14 = true) (hr : r < 14) : (rowB m).set r v = rowB (sb m r v) := by
  have h0 := bit_ne h14
  have h14' : (sb m r v).testBit 14 = true := by rw [sb_bit hm (by omega), if_neg (by omega)]; exact h14
  refine rowB_ext (bit_ne h14') (by rw [List.length_set, rowB_len h0]) fun i hi => ?_
  by_cases e : i = r
  · subst e
    rw [List.getElem?_set_self (by rw [rowB_len h0]; exact hr), sb_bit hm (by omega), if_pos rfl]
  · rw [List.getElem?_set_ne (fun e' => e e'.symm), rowB_at h0 hi, sb_bit hm (by omega), if_neg e]
theorem rowB_inj {m m' : Nat} (h : Gm m) (h' : Gm m') (e : rowB m = rowB m') : m = m' := by
  by_cases h0 : m = 0
  · subst h0
    by_cases h1 : m' = 0
    · exact h1.symm
    · have := rowB_len h1
      rw [← e, rowB_0] at this
      simp at this
  · have h1 : m' ≠ 0 := fun e1 => by
      have := rowB_len h0
      rw [e, e1, rowB_0] at this
      simp at this
    apply Nat.eq_of_testBit_eq
    intro b
    by_cases hb : b < 14
    · have h2 := rowB_at h0 hb
      rw [e, rowB_at h1 hb] at h2
      injection h2 with h2
      exact h2.symm
    · by_cases hb14 : b = 14
      · subst hb14; rw [h.pos h0, h'.pos h1]
      · rw [bit_lt h.1 (by omega), bit_lt h'.1 (by omega)]
theorem NewsAt.bools {w : World} {D : Nat → Prop} {A : Option Addr} {m : Nat} {xs : List Bool} (h : BAt w D xs A) (hm : xs.length = m) : NewsAt w A m (xs.map Value.bool) := by
  rcases A with _ | ad
  · by_cases h0 : m = 0
    · exact .inl ⟨rfl, h0⟩
    · obtain ⟨b, o, e, _⟩ := h.2 0 xs[0] (List.getElem?_eq_getElem (by omega))
      cases e
  · refine .inr ⟨ad, rfl, fun j u hu => ?_⟩
    rw [List.getElem?_map] at hu
    cases hx : xs[j]? with
    | none => rw [hx] at hu; cases hu
    | some x =>
      rw [hx] at hu
      cases hu
      obtain ⟨b, o, e, _, hc⟩ := h.2 j x hx
      cases e
      rw [add_none]
      exact hc
theorem one_bools (xs : List Bool) : ∀ u ∈ xs.map Value.bool, u.oneCell' = true := fun u hu => by
  obtain ⟨b, _, rfl⟩ := List.mem_map.1 hu
  rfl

/-- What the code's declarations say. -/
structure Decl (m : Cd) : Prop where
  nv : m.vars.length ≤ 12
  na : m.arrs.length ≤ 2
  lv : ∀ x ∈ m.vars, 0 ≤ x ∧ x ≤ 3
  la : ∀ x ∈ m.arrs, 0 ≤ x ∧ x ≤ 3
theorem codeB_decl {m : Cd} (h : codeB m = true) : Decl m := by
  unfold codeB at h
  simp only [Bool.and_eq_true] at h
  have hh := h.1.1
  unfold headsB at hh
  simp only [Bool.and_eq_true, decide_eq_true_iff, List.all_eq_true] at hh
  obtain ⟨⟨⟨⟨h1, h2⟩, _⟩, h3⟩, h4⟩ := hh
  have key : ∀ x, lokB x = true → 0 ≤ x ∧ x ≤ 3 := fun x hx => by unfold lokB at hx; simpa using hx
  exact ⟨h3, h4, fun x hx => key x (h1 x hx), fun x hx => key x (h2 x hx)⟩
theorem codeB_ins {m : Cd} (h : codeB m = true) {i : Nat} {x : Ins} (hx : m.list[i]? = some x) : InsT m.vars.length m.arrs.length x := by
  unfold codeB at h
  simp only [Bool.and_eq_true] at h
  exact insB_T (List.all_eq_true.1 h.2.1 x (List.mem_of_getElem? hx))
/-- An instruction as a value, and in a box. -/
abbrev aggI (x : Ins) : Value := .agg #[.int .i64 x.op, .int .i64 x.fa, .int .i64 x.fb, .int .i64 x.fc, .int .i64 x.fd]
abbrev arrI (x : Ins) : Array Value := #[.int .i64 x.op, .int .i64 x.fa, .int .i64 x.fb, .int .i64 x.fc, .int .i64 x.fd]
theorem label_at {w : World} {xs : List Int} {a : Option Addr} (h : IAt w (fun b => b < w.heap.size) xs a) (hl : ∀ x ∈ xs, 0 ≤ x ∧ x ≤ 3) {n : Nat} (hn : n < xs.length) : ∃ z b o, a = some ⟨b, o, none⟩ ∧ b < w.heap.size ∧ w.cell? ⟨b, o + n, none⟩ = some (.int .i64 z) ∧ 0 ≤ z ∧ z ≤ 3 ∧ (z % 2 == 1) = secN xs n := by
  obtain ⟨b, o, ha, hb, hc⟩ := h.2 n hn
  have hx := hl (xs.getD n 0) (by rw [List.getD_eq_getElem?_getD, List.getElem?_eq_getElem hn]; exact List.getElem_mem _)
  exact ⟨_, b, o, ha, hb, hc, hx.1, hx.2, rfl⟩

/-- A row handed back in a new row. -/
def RowN (r : List Bool) (w : World) (e : Ending) (w' : World) : Prop := ∃ a c, e = .returned (.slice a 14 c) ∧ OwnB w' w.heap.size (.slice a 14 c) r ∧ r.length = 14 ∧ Below w.heap.size w w'

/-- Behind the copy of the row: the boxes, the copy, the arguments. -/
structure AfS (m : Cd) (k : CK) (x : Ins) (mk : Nat) (ra : Option Addr) (w w6 : World) (g c : Nat) : Prop where
  box : BoxC w6 w.heap.size m k
  ins : w6.heap[w.heap.size + 1]? = some (.cells (arrI x) 54 (0, 0))
  own : w6.ownsRow w.heap.size 4 1 (.slice (some ⟨g, 0, none⟩) 14 c) 14 ((rowB mk).map Value.bool)
  cl : CL w6 m k
  row : BAt w6 (fun b => b < w.heap.size) (rowB mk) ra
  bel : Below w.heap.size w w6
theorem AfS.drew {m : Cd} {k : CK} {x : Ins} {mk : Nat} {ra : Option Addr} {w w6 : World} {g c : Nat} (h : AfS m k x mk ra w w6 g c) : AfS m k x mk ra w w6.drew g c := ⟨h.box, h.ins, h.own, h.cl, h.row, h.bel.drew⟩
theorem AfS.fin {m : Cd} {k : CK} {x : Ins} {mk : Nat} {ra : Option Addr} {w w6 : World} {g c : Nat} (h : AfS m k x mk ra w w6 g c) (hm : mk < 32768) (h14 : mk.testBit 14 = true) {sv sa : Nat → Bool} (r : Nat) (v : Bool) (hr : r < 14) (hrx : x.fa.toNat = r) (hw : wrA x = true) (hv : newV sv sa x mk = v) : RowN (rowB (aftM sv sa x mk)) w (.returned (.slice (some ⟨g, 0, none⟩) 14 c)) (w6.setCell ⟨g, r, none⟩ (.bool v)) := by
  have e : rowB (aftM sv sa x mk) = (rowB mk).set r v := by unfold aftM; rw [if_pos hw, hrx, hv, rowB_set hm h14 hr]
  have hl : ((rowB mk).set r v).length = 14 := by rw [List.length_set, rowB_len (bit_ne h14)]
  have hg : w.heap.size ≤ g := (h.own.lt g rfl).1
  refine ⟨_, c, rfl, ?_, by rw [e, hl], h.bel.setCell (p := ⟨g, r, none⟩) hg _⟩
  rw [e]
  unfold OwnB
  rw [hl, List.map_set]
  exact (h.own.stored r (.bool v)).1
theorem AfS.same {m : Cd} {k : CK} {x : Ins} {mk : Nat} {ra : Option Addr} {w w6 : World} {g c : Nat} (h : AfS m k x mk ra w w6 g c) (h14 : mk.testBit 14 = true) {sv sa : Nat → Bool} (hw : wrA x = false) : RowN (rowB (aftM sv sa x mk)) w (.returned (.slice (some ⟨g, 0, none⟩) 14 c)) w6 := by
  have e : rowB (aftM sv sa x mk) = rowB mk := by unfold aftM; rw [if_neg (by rw [hw]; simp)]
  refine ⟨_, c, rfl, ?_, by rw [e, rowB_len (bit_ne h14)], h.bel⟩
  rw [e]
  unfold OwnB
  rw [rowB_len (bit_ne h14)]
  exact h.own
theorem AfS.cell {m : Cd} {k : CK} {x : Ins} {mk : Nat} {ra : Option Addr} {w w6 : World} {g c : Nat} (h : AfS m k x mk ra w w6 g c) (h14 : mk.testBit 14 = true) {r : Nat} (hr : r < 14) : (∃ u, w6.cell? ⟨g, r, none⟩ = some u) ∧ w6.frozen? ⟨g, r, none⟩ = false := by
  refine ⟨⟨.bool (mk.testBit r), ?_⟩, h.own.frozenAt r⟩
  rw [h.own.cellAt r (by omega), List.getElem?_map, rowB_at (bit_ne h14) hr]; rfl
theorem AfS.reg {m : Cd} {k : CK} {x : Ins} {mk : Nat} {ra : Option Addr} {w w6 : World} {g c : Nat} (h : AfS m k x mk ra w w6 g c) (h14 : mk.testBit 14 = true) : ∃ b o, ra = some ⟨b, o, none⟩ ∧ ∀ r, r < 14 → w6.cell? ⟨b, o + r, none⟩ = some (.bool (mk.testBit r)) := by
  obtain ⟨b, o, e, _, _⟩ := h.row.2 0 _ (rowB_at (bit_ne h14) (by omega))
  refine ⟨b, o, e, fun r hr => ?_⟩
  obtain ⟨b', o', e', _, hc⟩ := h.row.2 r _ (rowB_at (bit_ne h14) hr)
  rw [e] at e'
  cases e'
  exact hc
theorem ApA.some {w w6 : World} {base : Nat} {v : Value} {xs : List Value} {v' : Value} (h : ApA w base 4 1 v (0 + 14) xs v' w6) : ∃ g c, v' = .slice (some ⟨g, 0, none⟩) 14 c ∧ w6.ownsRow base 4 1 (.slice (some ⟨g, 0, none⟩) 14 c) 14 xs ∧ w.grownBy w6 v.ownBlock := by
  obtain ⟨a, cap, rfl, h1, h2, _⟩ := h
  rcases h1.2 with ⟨e, e2⟩ | ⟨g, cp, cur, e, _⟩
  · omega
  · cases e
    exact ⟨g, cap, rfl, h1, h2⟩

set_option maxRecDepth 100000 in
set_option maxHeartbeats 8000000 in
/-- **spec.l9After.** -/
theorem sAft_one (m : Cd) (k : CK) (x : Ins) (mk : Nat) (ra : Option Addr) (rc : Nat) (w : World) (h : CL w m k) (hd : Decl m) (hx : InsT m.vars.length m.arrs.length x) (hm : mk < 32768) (h14 : mk.testBit 14 = true) (hr : BAt w (fun b => b < w.heap.size) (rowB mk) ra) :
    Calls Tryd.prog 44 #[aggC m k, aggI x, .slice ra 14 rc] w (RowN (rowB (aftM (secN m.vars) (secN m.arrs) x mk)) w) := by
  obtain ⟨k0, kinf, kj0, kj1, kj2⟩ := info_parts Tryd.infoB
  have hne := bit_ne h14
  obtain ⟨W, hW⟩ : ∃ W, (w.alloc (.cells (arrC m k) 30)).alloc (.cells (arrI x) 54) = W := ⟨_, rfl⟩
  have hz : W.heap.size = w.heap.size + 2 := by rw [← hW]; simp
  have hB : Below w.heap.size w W := by rw [← hW]; exact ((Below.refl _ w).alloc (Nat.le_refl _) _).alloc (by simp) _
  have hX : BoxC W w.heap.size m k := by rw [← hW]; exact (BoxC.new w m k _).later (Below.heap_alloc _ _ _ (by simp))
  have hbx : W.heap[w.heap.size + 1]? = some (.cells (arrI x) 54 (0, 0)) := by
    have h1 := heap_alloc_new (w.alloc (.cells (arrC m k) 30)) (.cells (arrI x) 54)
    rw [World.size_alloc] at h1
    rw [← hW]; exact h1
  obtain ⟨W2, hW2⟩ : ∃ W2, W.alloc (.cells #[] 4) = W2 := ⟨_, rfl⟩
  have hB2 : Below W.heap.size W W2 := by rw [← hW2]; exact (Below.refl _ W).alloc (Nat.le_refl _) _
  have hown : W2.ownsRow w.heap.size 4 1 (.slice (some ⟨W.heap.size, 0, none⟩) 0 0) 0 [] := by rw [← hW2]; exact World.ownsRow_made W #[] 0 (by omega) (by unfold maxLen; omega) rfl
  have hb02 : Below w.heap.size w W2 := hB.trans (hB2.mono hB.size)
  have hnews := NewsAt.bools (hr.wide (fun q hq => hb02.block q hq) fun _ hq => hq) (rowB_len hne)
  have HL : Hid (((rowB mk).map Value.bool).length = 14 * 1) := by show _ = _; rw [List.length_map, rowB_len hne]
  have hone := one_bools (rowB mk)
  have HK : Hid (∀ g c w6, w6.ownsRow w.heap.size 4 1 (.slice (some ⟨g, 0, none⟩) 14 c) 14 ((rowB mk).map Value.bool) → W2.grownBy w6 (some W.heap.size) → AfS m k x mk ra w w6 g c) := fun g c w6 h1 h2 => by
    have hb6 : Below W.heap.size W w6 := hB2.grown h2 (by have := hB2.size; omega) (fun q e => by cases e; exact Nat.le_refl _)
    have hb06 : Below w.heap.size w w6 := hB.trans (hb6.mono hB.size)
    exact ⟨hX.below hb6 (by omega), (hb6.block _ (by omega)).trans hbx, h1, h.below hb06, hr.wide (fun q hq => hb06.block q hq) fun _ hq => hq, hb06⟩
  have HW := Lib.hid hW
  have HW2 := Lib.hid hW2
  have hz2 : W2.heap.size = W.heap.size + 1 := by rw [← hW2]; simp
  have HV := Lib.hid (fun w6 (hc : CL w6 m k) (n : Nat) (hn : n < m.vars.length) => label_at hc.1 hd.lv hn)
  have HA := Lib.hid (fun w6 (hc : CL w6 m k) (n : Nat) (hn : n < m.arrs.length) => label_at hc.2.1 hd.la hn)
  have HX := Lib.hid hx
  have HM := Lib.hid hm
  have H14 := Lib.hid h14
  have hnv := hd.nv
  have hna := hd.na
  have hw2 : w.heap.size ≤ W2.heap.size := by omega
  clear h hd hx hr hX hbx hB hB2 hb02 hW hW2 hm h14 hne hz hz2
  unfold arrC arrI at HW
  go_enter Tryd.func44, Tryd.ntmps44
  go_upto_region 2 with (first
    | rw [HW.out]
    | (at_builtin
       rw [HW2.out]
       refine wpList_append_any _ (by rfl) _ _ 63 (by rfl) w.heap.size 4 k0 _ 1 1 Tryd.underlying63 kinf kj0 kj1 kj2 rfl (by omega) (.slice (some ⟨W.heap.size, 0, none⟩) 0 0) 0 _ (by rfl) hown ra 14 rc _ (by rfl) HL.out hnews hone (by unfold maxLen; omega) (by omega) hw2 ?_
       intro v' w6 hap)
    | fail)
  obtain ⟨g, c, rfl, hown6, hgr⟩ := hap.some
  have HS : Hid (AfS m k x mk ra w w6 g c) := HK.out g c w6 (by simpa using hown6) hgr
  clear hap hown6 hgr HK hown hnews hone HL HW2 HW hw2 kinf kj0 kj1 kj2
  have x0 : w6.cell? ⟨w.heap.size + 1, 0, none⟩ = some (.int .i64 x.op) := by rw [cell_at HS.out.ins]; rfl
  have x1 : w6.cell? ⟨w.heap.size + 1, 1, none⟩ = some (.int .i64 x.fa) := by rw [cell_at HS.out.ins]; rfl
  have x2 : w6.cell? ⟨w.heap.size + 1, 2, none⟩ = some (.int .i64 x.fb) := by rw [cell_at HS.out.ins]; rfl
  have x3 : w6.cell? ⟨w.heap.size + 1, 3, none⟩ = some (.int .i64 x.fc) := by rw [cell_at HS.out.ins]; rfl
  have x4 : w6.cell? ⟨w.heap.size + 1, 4, none⟩ = some (.int .i64 x.fd) := by rw [cell_at HS.out.ins]; rfl
  by_cases hw : wrA x = true
  case neg =>
    have hwf : wrA x = false := by simpa using hw
    have HF := Lib.hid (HS.out.same (sv := secN m.vars) (sa := secN m.arrs) H14.out hwf)
    have hwf' := hwf
    unfold wrA at hwf'
    simp only [Bool.or_eq_false_iff] at hwf'
    obtain ⟨⟨⟨⟨⟨e1, e11⟩, e2⟩, e4⟩, e6⟩, e7⟩ := hwf'
    clear hw hwf
    go_wp2_with fail
    go_ret
    exact HF.out
  obtain ⟨r, hr⟩ : ∃ r : Nat, x.fa = r := ⟨x.fa.toNat, by have := HX.out.ra (.inl hw); omega⟩
  have hr14 : r < 14 := by have := HX.out.ra (.inl hw); omega
  have hrI : (r : Int) < 14 := by omega
  have HR : Hid (x.fa.toNat = r) := by show _ = _; rw [hr]; rfl
  have HWA := Lib.hid hw
  obtain ⟨⟨u0, d0⟩, f0⟩ := HS.out.cell H14.out hr14
  obtain ⟨tb, tO, rfl, hreg⟩ := HS.out.reg H14.out
  have HREG := Lib.hid hreg
  have c0 := HS.out.box.c0
  have c1 := HS.out.box.c1
  rw [hr] at x1
  have hops : x.op = 1 ∨ x.op = 11 ∨ x.op = 2 ∨ x.op = 4 ∨ x.op = 6 ∨ x.op = 7 := by
    unfold wrA at hw
    simp only [Bool.or_eq_true, beq_iff_eq] at hw
    omega
  clear hw hr hreg
  rcases hops with ho | ho | ho | ho | ho | ho
  · have HF := Lib.hid (HS.out.fin (sv := secN m.vars) (sa := secN m.arrs) HM.out H14.out r false hr14 HR.out HWA.out (by unfold newV; rw [if_neg (by omega), if_neg (by omega), if_neg (by omega), if_neg (by omega)]))
    have e1 : (x.op == 1) = true := by simpa using ho
    clear ho
    go_wp2_with fail
    go_ret
    exact HF.out
  · have HF := Lib.hid (HS.out.fin (sv := secN m.vars) (sa := secN m.arrs) HM.out H14.out r false hr14 HR.out HWA.out (by unfold newV; rw [if_neg (by omega), if_neg (by omega), if_neg (by omega), if_neg (by omega)]))
    have e1 : (x.op == 1) = false := by rw [ho]; rfl
    have e11 : (x.op == 11) = true := by simpa using ho
    clear ho
    go_wp2_with fail
    go_ret
    exact HF.out
  · obtain ⟨bn, hb⟩ : ∃ q : Nat, x.fb = q := ⟨x.fb.toNat, by have := HX.out.vb ho; omega⟩
    have hbl : bn < m.vars.length := by have := HX.out.vb ho; omega
    have hbI : (bn : Int) < m.vars.length := by omega
    obtain ⟨z, vb, vo, hva, hvb, hvc, hz0, hz1, hzq⟩ := HV.out w6 HS.out.cl bn hbl
    obtain ⟨q, hq⟩ : ∃ q, secN m.vars bn = q := ⟨_, rfl⟩
    have HQ : Hid ((z % 2 == 1) = q) := hzq.trans hq
    have HF := Lib.hid (HS.out.drew.fin (sv := secN m.vars) (sa := secN m.arrs) HM.out H14.out r q hr14 HR.out HWA.out (by unfold newV; rw [if_pos ho, hb, ← hq]; rfl))
    have e1 : (x.op == 1) = false := by rw [ho]; rfl
    have e11 : (x.op == 11) = false := by rw [ho]; rfl
    have e2 : (x.op == 2) = true := by simpa using ho
    rw [hb] at x2
    rw [hva] at c0
    clear ho hq hzq hb hva hvb
    obtain ⟨w7, hw7⟩ : ∃ w7, w6.drew = w7 := ⟨_, rfl⟩
    have d7 : w7.cell? ⟨g, r, none⟩ = some u0 := by rw [← hw7]; exact d0
    have f7 : w7.frozen? ⟨g, r, none⟩ = false := by rw [← hw7]; exact f0
    rw [hw7] at HF
    have HW7 := Lib.hid hw7
    clear hw7
    go_wp2_with fail
    refine wp_head_tail 11 (by kernel_rfl) (by kernel_rfl) ?_
    simp only [List.take_succ_cons, List.take_zero, List.drop_succ_cons, List.drop_zero]
    iterate 9
      refine WpS.ng rfl (fun K hK => ?_)
      go_simp
      refine hK _ ?_
      clear hK K
    refine WpS.ng rfl (fun K hK => ?_)
    go_simp
    refine ⟨_, (sSecret_one z _ hz0 hz1), hK _ ?_⟩
    clear hK K
    rw [show (z % 2 == 1) = _ from HQ.out]
    iterate 1
      refine WpS.ng rfl (fun K hK => ?_)
      go_simp
      refine hK _ ?_
      clear hK K
    refine WpS.nil ?_
    show wpList _ _ _ _ _ w6.drew
    rw [HW7.out]
    clear d0 f0 x0 x1 x2 x3 x4 c0 c1 HW7
    go_wp2_with fail
    go_ret
    exact HF.out
  · obtain ⟨bn, hb⟩ : ∃ q : Nat, x.fb = q := ⟨x.fb.toNat, by have := HX.out.ab ho; omega⟩
    have hbl : bn < m.arrs.length := by have := HX.out.ab ho; omega
    have hbI : (bn : Int) < m.arrs.length := by omega
    obtain ⟨cn, hc⟩ : ∃ q : Nat, x.fc = q := ⟨x.fc.toNat, by have := HX.out.rc (.inl ho); omega⟩
    have hcl : cn < 14 := by have := HX.out.rc (.inl ho); omega
    have hcI : (cn : Int) < 14 := by omega
    obtain ⟨z, vb, vo, hva, hvb, hvc, hz0, hz1, hzq⟩ := HA.out w6 HS.out.cl bn hbl
    obtain ⟨q, hq⟩ : ∃ q, secN m.arrs bn = q := ⟨_, rfl⟩
    have HQ : Hid ((z % 2 == 1) = q) := hzq.trans hq
    have y3 := HREG.out cn hcl
    have HNV : Hid (newV (secN m.vars) (secN m.arrs) x mk = (q || mk.testBit cn)) := by
      show _ = _
      unfold newV
      rw [if_neg (by omega), if_pos ho, hb, hc, ← hq]; rfl
    have e1 : (x.op == 1) = false := by rw [ho]; rfl
    have e11 : (x.op == 11) = false := by rw [ho]; rfl
    have e2 : (x.op == 2) = false := by rw [ho]; rfl
    have e4 : (x.op == 4) = true := by simpa using ho
    rw [hb] at x2
    rw [hc] at x3
    rw [hva] at c1
    clear ho hq hzq hb hc hva hvb
    obtain ⟨p, hp⟩ : ∃ p, mk.testBit cn = p := ⟨_, rfl⟩
    rw [hp] at y3 HNV
    clear hp
    cases q
    case false =>
      have HF := Lib.hid (HS.out.drew.fin (sv := secN m.vars) (sa := secN m.arrs) HM.out H14.out r _ hr14 HR.out HWA.out HNV.out)
      simp only [Bool.false_or] at HF
      obtain ⟨w7, hw7⟩ : ∃ w7, w6.drew = w7 := ⟨_, rfl⟩
      have d7 : w7.cell? ⟨g, r, none⟩ = some u0 := by rw [← hw7]; exact d0
      have f7 : w7.frozen? ⟨g, r, none⟩ = false := by rw [← hw7]; exact f0
      rw [hw7] at HF
      have HW7 := Lib.hid hw7
      clear hw7
      go_wp2_with fail
      refine wp_head_tail 18 (by kernel_rfl) (by kernel_rfl) ?_
      simp only [List.take_succ_cons, List.take_zero, List.drop_succ_cons, List.drop_zero]
      iterate 9
        refine WpS.ng rfl (fun K hK => ?_)
        go_simp
        refine hK _ ?_
        clear hK K
      refine WpS.ng rfl (fun K hK => ?_)
      go_simp
      refine ⟨_, (sSecret_one z _ hz0 hz1), hK _ ?_⟩
      clear hK K
      rw [show (z % 2 == 1) = _ from HQ.out]
      iterate 1
        refine WpS.ng rfl (fun K hK => ?_)
        go_simp
        refine hK _ ?_
        clear hK K
      refine @WpS.on _ _ _ _ _ _ _ ?g1 ?h1
      case g1 => simp only [Region.wanted, yielded]; rfl
      intro K hK
      go_simp
      refine hK _ ?_
      clear hK K
      refine @WpS.on _ _ _ _ _ _ _ ?g2 ?h2
      case g2 => simp only [Region.wanted, yielded]; rfl
      intro K hK
      go_simp
      refine hK _ ?_
      clear hK K
      refine @WpS.on _ _ _ _ _ _ _ ?g3 ?h3
      case g3 => simp only [Region.wanted, yielded]; rfl
      intro K hK
      go_simp
      refine hK _ ?_
      clear hK K
      refine @WpS.on _ _ _ _ _ _ _ ?g4 ?h4
      case g4 => simp only [Region.wanted, yielded]; rfl
      intro K hK
      go_simp
      refine hK _ ?_
      clear hK K
      refine @WpS.on _ _ _ _ _ _ _ ?g5 ?h5
      case g5 => simp only [Region.wanted, yielded]; rfl
      intro K hK
      go_simp
      refine hK _ ?_
      clear hK K
      iterate 2
        refine WpS.ng rfl (fun K hK => ?_)
        go_simp
        refine hK _ ?_
        clear hK K
      refine WpS.nil ?_
      show wpList _ _ _ _ _ w6.drew
      rw [HW7.out]
      clear d0 f0 x0 x1 x2 x3 x4 c0 c1 HW7
      go_wp2_with fail
      go_ret
      exact HF.out
    case true =>
      have HF := Lib.hid (HS.out.drew.fin (sv := secN m.vars) (sa := secN m.arrs) HM.out H14.out r _ hr14 HR.out HWA.out HNV.out)
      simp only [Bool.true_or] at HF
      obtain ⟨w7, hw7⟩ : ∃ w7, w6.drew = w7 := ⟨_, rfl⟩
      have d7 : w7.cell? ⟨g, r, none⟩ = some u0 := by rw [← hw7]; exact d0
      have f7 : w7.frozen? ⟨g, r, none⟩ = false := by rw [← hw7]; exact f0
      rw [hw7] at HF
      have HW7 := Lib.hid hw7
      clear hw7
      go_wp2_with fail
      refine wp_head_tail 18 (by kernel_rfl) (by kernel_rfl) ?_
      simp only [List.take_succ_cons, List.take_zero, List.drop_succ_cons, List.drop_zero]
      iterate 9
        refine WpS.ng rfl (fun K hK => ?_)
        go_simp
        refine hK _ ?_
        clear hK K
      refine WpS.ng rfl (fun K hK => ?_)
      go_simp
      refine ⟨_, (sSecret_one z _ hz0 hz1), hK _ ?_⟩
      clear hK K
      rw [show (z % 2 == 1) = _ from HQ.out]
      iterate 1
        refine WpS.ng rfl (fun K hK => ?_)
        go_simp
        refine hK _ ?_
        clear hK K
      refine @WpS.off _ _ _ _ _ _ _ ?g6 ?h6
      case g6 => simp only [Region.wanted, yielded]; rfl
      intro K hK
      go_simp
      refine hK _ ?_
      clear hK K
      refine @WpS.off _ _ _ _ _ _ _ ?g7 ?h7
      case g7 => simp only [Region.wanted, yielded]; rfl
      intro K hK
      go_simp
      refine hK _ ?_
      clear hK K
      refine @WpS.off _ _ _ _ _ _ _ ?g8 ?h8
      case g8 => simp only [Region.wanted, yielded]; rfl
      intro K hK
      go_simp
      refine hK _ ?_
      clear hK K
      refine @WpS.off _ _ _ _ _ _ _ ?g9 ?h9
      case g9 => simp only [Region.wanted, yielded]; rfl
      intro K hK
      go_simp
      refine hK _ ?_
      clear hK K
      refine @WpS.off _ _ _ _ _ _ _ ?g10 ?h10
      case g10 => simp only [Region.wanted, yielded]; rfl
      intro K hK
      go_simp
      refine hK _ ?_
      clear hK K
      iterate 2
        refine WpS.ng rfl (fun K hK => ?_)
        go_simp
        refine hK _ ?_
        clear hK K
      refine WpS.nil ?_
      show wpList _ _ _ _ _ w6.drew
      rw [HW7.out]
      clear d0 f0 x0 x1 x2 x3 x4 c0 c1 HW7
      go_wp2_with fail
      go_ret
      exact HF.out
  · obtain ⟨cn, hc⟩ : ∃ q : Nat, x.fc = q := ⟨x.fc.toNat, by have := HX.out.rc (.inr (.inr (.inl ho))); omega⟩
    have hcl : cn < 14 := by have := HX.out.rc (.inr (.inr (.inl ho))); omega
    have hcI : (cn : Int) < 14 := by omega
    obtain ⟨dn, hd⟩ : ∃ q : Nat, x.fd = q := ⟨x.fd.toNat, by have := HX.out.rd (.inl ho); omega⟩
    have hdl : dn < 14 := by have := HX.out.rd (.inl ho); omega
    have hdI : (dn : Int) < 14 := by omega
    have y3 := HREG.out cn hcl
    have y4 := HREG.out dn hdl
    have HNV : Hid (newV (secN m.vars) (secN m.arrs) x mk = (mk.testBit cn || mk.testBit dn)) := by
      show _ = _
      unfold newV
      rw [if_neg (by omega), if_neg (by omega), if_pos ho, hc, hd]; rfl
    have e1 : (x.op == 1) = false := by rw [ho]; rfl
    have e11 : (x.op == 11) = false := by rw [ho]; rfl
    have e2 : (x.op == 2) = false := by rw [ho]; rfl
    have e4 : (x.op == 4) = false := by rw [ho]; rfl
    have e6 : (x.op == 6) = true := by simpa using ho
    rw [hc] at x3
    rw [hd] at x4
    clear ho hc hd
    obtain ⟨p, hp⟩ : ∃ p, mk.testBit cn = p := ⟨_, rfl⟩
    obtain ⟨p', hp'⟩ : ∃ p, mk.testBit dn = p := ⟨_, rfl⟩
    rw [hp] at y3 HNV
    rw [hp'] at y4 HNV
    clear hp hp'
    cases p
    case false =>
      have HF := Lib.hid (HS.out.drew.fin (sv := secN m.vars) (sa := secN m.arrs) HM.out H14.out r _ hr14 HR.out HWA.out HNV.out)
      simp only [Bool.false_or] at HF
      obtain ⟨w7, hw7⟩ : ∃ w7, w6.drew = w7 := ⟨_, rfl⟩
      have d7 : w7.cell? ⟨g, r, none⟩ = some u0 := by rw [← hw7]; exact d0
      have f7 : w7.frozen? ⟨g, r, none⟩ = false := by rw [← hw7]; exact f0
      rw [hw7] at HF
      have HW7 := Lib.hid hw7
      clear hw7
      go_wp2_with fail
      refine wp_head_tail 16 (by kernel_rfl) (by kernel_rfl) ?_
      simp only [List.take_succ_cons, List.take_zero, List.drop_succ_cons, List.drop_zero]
      iterate 9
        refine WpS.ng rfl (fun K hK => ?_)
        go_simp
        refine hK _ ?_
        clear hK K
      refine @WpS.on _ _ _ _ _ _ _ ?g11 ?h11
      case g11 => simp only [Region.wanted, yielded]; rfl
      intro K hK
      go_simp
      refine hK _ ?_
      clear hK K
      refine @WpS.on _ _ _ _ _ _ _ ?g12 ?h12
      case g12 => simp only [Region.wanted, yielded]; rfl
      intro K hK
      go_simp
      refine hK _ ?_
      clear hK K
      refine @WpS.on _ _ _ _ _ _ _ ?g13 ?h13
      case g13 => simp only [Region.wanted, yielded]; rfl
      intro K hK
      go_simp
      refine hK _ ?_
      clear hK K
      refine @WpS.on _ _ _ _ _ _ _ ?g14 ?h14
      case g14 => simp only [Region.wanted, yielded]; rfl
      intro K hK
      go_simp
      refine hK _ ?_
      clear hK K
      refine @WpS.on _ _ _ _ _ _ _ ?g15 ?h15
      case g15 => simp only [Region.wanted, yielded]; rfl
      intro K hK
      go_simp
      refine hK _ ?_
      clear hK K
      iterate 2
        refine WpS.ng rfl (fun K hK => ?_)
        go_simp
        refine hK _ ?_
        clear hK K
      refine WpS.nil ?_
      show wpList _ _ _ _ _ w6.drew
      rw [HW7.out]
      clear d0 f0 x0 x1 x2 x3 x4 c0 c1 HW7
      go_wp2_with fail
      go_ret
      exact HF.out
    case true =>
      have HF := Lib.hid (HS.out.drew.fin (sv := secN m.vars) (sa := secN m.arrs) HM.out H14.out r _ hr14 HR.out HWA.out HNV.out)
      simp only [Bool.true_or] at HF
      obtain ⟨w7, hw7⟩ : ∃ w7, w6.drew = w7 := ⟨_, rfl⟩
      have d7 : w7.cell? ⟨g, r, none⟩ = some u0 := by rw [← hw7]; exact d0
      have f7 : w7.frozen? ⟨g, r, none⟩ = false := by rw [← hw7]; exact f0
      rw [hw7] at HF
      have HW7 := Lib.hid hw7
      clear hw7
      go_wp2_with fail
      refine wp_head_tail 16 (by kernel_rfl) (by kernel_rfl) ?_
      simp only [List.take_succ_cons, List.take_zero, List.drop_succ_cons, List.drop_zero]
      iterate 9
        refine WpS.ng rfl (fun K hK => ?_)
        go_simp
        refine hK _ ?_
        clear hK K
      refine @WpS.off _ _ _ _ _ _ _ ?g16 ?h16
      case g16 => simp only [Region.wanted, yielded]; rfl
      intro K hK
      go_simp
      refine hK _ ?_
      clear hK K
      refine @WpS.off _ _ _ _ _ _ _ ?g17 ?h17
      case g17 => simp only [Region.wanted, yielded]; rfl
      intro K hK
      go_simp
      refine hK _ ?_
      clear hK K
      refine @WpS.off _ _ _ _ _ _ _ ?g18 ?h18
      case g18 => simp only [Region.wanted, yielded]; rfl
      intro K hK
      go_simp
      refine hK _ ?_
      clear hK K
      refine @WpS.off _ _ _ _ _ _ _ ?g19 ?h19
      case g19 => simp only [Region.wanted, yielded]; rfl
      intro K hK
      go_simp
      refine hK _ ?_
      clear hK K
      refine @WpS.off _ _ _ _ _ _ _ ?g20 ?h20
      case g20 => simp only [Region.wanted, yielded]; rfl
      intro K hK
      go_simp
      refine hK _ ?_
      clear hK K
      iterate 2
        refine WpS.ng rfl (fun K hK => ?_)
        go_simp
        refine hK _ ?_
        clear hK K
      refine WpS.nil ?_
      show wpList _ _ _ _ _ w6.drew
      rw [HW7.out]
      clear d0 f0 x0 x1 x2 x3 x4 c0 c1 HW7
      go_wp2_with fail
      go_ret
      exact HF.out
  · obtain ⟨bn, hb⟩ : ∃ q : Nat, x.fb = q := ⟨x.fb.toNat, by have := HX.out.rb (.inr (.inr ho)); omega⟩
    have hbl : bn < 14 := by have := HX.out.rb (.inr (.inr ho)); omega
    have hbI : (bn : Int) < 14 := by omega
    obtain ⟨cn, hc⟩ : ∃ q : Nat, x.fc = q := ⟨x.fc.toNat, by have := HX.out.rc (.inr (.inr (.inr ho))); omega⟩
    have hcl : cn < 14 := by have := HX.out.rc (.inr (.inr (.inr ho))); omega
    have hcI : (cn : Int) < 14 := by omega
    obtain ⟨dn, hd⟩ : ∃ q : Nat, x.fd = q := ⟨x.fd.toNat, by have := HX.out.rd (.inr ho); omega⟩
    have hdl : dn < 14 := by have := HX.out.rd (.inr ho); omega
    have hdI : (dn : Int) < 14 := by omega
    have y2 := HREG.out bn hbl
    have y3 := HREG.out cn hcl
    have y4 := HREG.out dn hdl
    have HNV : Hid (newV (secN m.vars) (secN m.arrs) x mk = (mk.testBit bn || mk.testBit cn || mk.testBit dn)) := by
      show _ = _
      unfold newV
      rw [if_neg (by omega), if_neg (by omega), if_neg (by omega), if_pos ho, hb, hc, hd]; rfl
    have e1 : (x.op == 1) = false := by rw [ho]; rfl
    have e11 : (x.op == 11) = false := by rw [ho]; rfl
    have e2 : (x.op == 2) = false := by rw [ho]; rfl
    have e4 : (x.op == 4) = false := by rw [ho]; rfl
    have e6 : (x.op == 6) = false := by rw [ho]; rfl
    have e7 : (x.op == 7) = true := by simpa using ho
    rw [hb] at x2
    rw [hc] at x3
    rw [hd] at x4
    clear ho hb hc hd
    obtain ⟨p, hp⟩ : ∃ p, mk.testBit bn = p := ⟨_, rfl⟩
    obtain ⟨p', hp'⟩ : ∃ p, mk.testBit cn = p := ⟨_, rfl⟩
    obtain ⟨p2, hp2⟩ : ∃ p, mk.testBit dn = p := ⟨_, rfl⟩
    rw [hp] at y2 HNV
    rw [hp'] at y3 HNV
    rw [hp2] at y4 HNV
    clear hp hp' hp2
    cases p <;> cases p'
    case false.false =>
      have HF := Lib.hid (HS.out.drew.fin (sv := secN m.vars) (sa := secN m.arrs) HM.out H14.out r _ hr14 HR.out HWA.out HNV.out)
      simp only [Bool.false_or] at HF
      obtain ⟨w7, hw7⟩ : ∃ w7, w6.drew = w7 := ⟨_, rfl⟩
      have d7 : w7.cell? ⟨g, r, none⟩ = some u0 := by rw [← hw7]; exact d0
      have f7 : w7.frozen? ⟨g, r, none⟩ = false := by rw [← hw7]; exact f0
      rw [hw7] at HF
      have HW7 := Lib.hid hw7
      clear hw7
      go_wp2_with fail
      refine wp_head_tail 23 (by kernel_rfl) (by kernel_rfl) ?_
      simp only [List.take_succ_cons, List.take_zero, List.drop_succ_cons, List.drop_zero]
      iterate 9
        refine WpS.ng rfl (fun K hK => ?_)
        go_simp
        refine hK _ ?_
        clear hK K
      refine @WpS.on _ _ _ _ _ _ _ ?g21 ?h21
      case g21 => simp only [Region.wanted, yielded]; rfl
      intro K hK
      go_simp
      refine hK _ ?_
      clear hK K
      refine @WpS.on _ _ _ _ _ _ _ ?g22 ?h22
      case g22 => simp only [Region.wanted, yielded]; rfl
      intro K hK
      go_simp
      refine hK _ ?_
      clear hK K
      refine @WpS.on _ _ _ _ _ _ _ ?g23 ?h23
      case g23 => simp only [Region.wanted, yielded]; rfl
      intro K hK
      go_simp
      refine hK _ ?_
      clear hK K
      refine @WpS.on _ _ _ _ _ _ _ ?g24 ?h24
      case g24 => simp only [Region.wanted, yielded]; rfl
      intro K hK
      go_simp
      refine hK _ ?_
      clear hK K
      refine @WpS.on _ _ _ _ _ _ _ ?g25 ?h25
      case g25 => simp only [Region.wanted, yielded]; rfl
      intro K hK
      go_simp
      refine hK _ ?_
      clear hK K
      iterate 2
        refine WpS.ng rfl (fun K hK => ?_)
        go_simp
        refine hK _ ?_
        clear hK K
      refine @WpS.on _ _ _ _ _ _ _ ?g26 ?h26
      case g26 => simp only [Region.wanted, yielded]; rfl
      intro K hK
      go_simp
      refine hK _ ?_
      clear hK K
      refine @WpS.on _ _ _ _ _ _ _ ?g27 ?h27
      case g27 => simp only [Region.wanted, yielded]; rfl
      intro K hK
      go_simp
      refine hK _ ?_
      clear hK K
      refine @WpS.on _ _ _ _ _ _ _ ?g28 ?h28
      case g28 => simp only [Region.wanted, yielded]; rfl
      intro K hK
      go_simp
      refine hK _ ?_
      clear hK K
      refine @WpS.on _ _ _ _ _ _ _ ?g29 ?h29
      case g29 => simp only [Region.wanted, yielded]; rfl
      intro K hK
      go_simp
      refine hK _ ?_
      clear hK K
      refine @WpS.on _ _ _ _ _ _ _ ?g30 ?h30
      case g30 => simp only [Region.wanted, yielded]; rfl
      intro K hK
      go_simp
      refine hK _ ?_
      clear hK K
      iterate 2
        refine WpS.ng rfl (fun K hK => ?_)
        go_simp
        refine hK _ ?_
        clear hK K
      refine WpS.nil ?_
      show wpList _ _ _ _ _ w6.drew
      rw [HW7.out]
      clear d0 f0 x0 x1 x2 x3 x4 c0 c1 HW7
      go_wp2_with fail
      go_ret
      exact HF.out
    case false.true =>
      have HF := Lib.hid (HS.out.drew.fin (sv := secN m.vars) (sa := secN m.arrs) HM.out H14.out r _ hr14 HR.out HWA.out HNV.out)
      simp only [Bool.false_or, Bool.true_or] at HF
      obtain ⟨w7, hw7⟩ : ∃ w7, w6.drew = w7 := ⟨_, rfl⟩
      have d7 : w7.cell? ⟨g, r, none⟩ = some u0 := by rw [← hw7]; exact d0
      have f7 : w7.frozen? ⟨g, r, none⟩ = false := by rw [← hw7]; exact f0
      rw [hw7] at HF
      have HW7 := Lib.hid hw7
      clear hw7
      go_wp2_with fail
      refine wp_head_tail 23 (by kernel_rfl) (by kernel_rfl) ?_
      simp only [List.take_succ_cons, List.take_zero, List.drop_succ_cons, List.drop_zero]
      iterate 9
        refine WpS.ng rfl (fun K hK => ?_)
        go_simp
        refine hK _ ?_
        clear hK K
      refine @WpS.on _ _ _ _ _ _ _ ?g31 ?h31
      case g31 => simp only [Region.wanted, yielded]; rfl
      intro K hK
      go_simp
      refine hK _ ?_
      clear hK K
      refine @WpS.on _ _ _ _ _ _ _ ?g32 ?h32
      case g32 => simp only [Region.wanted, yielded]; rfl
      intro K hK
      go_simp
      refine hK _ ?_
      clear hK K
      refine @WpS.on _ _ _ _ _ _ _ ?g33 ?h33
      case g33 => simp only [Region.wanted, yielded]; rfl
      intro K hK
      go_simp
      refine hK _ ?_
      clear hK K
      refine @WpS.on _ _ _ _ _ _ _ ?g34 ?h34
      case g34 => simp only [Region.wanted, yielded]; rfl
      intro K hK
      go_simp
      refine hK _ ?_
      clear hK K
      refine @WpS.on _ _ _ _ _ _ _ ?g35 ?h35
      case g35 => simp only [Region.wanted, yielded]; rfl
      intro K hK
      go_simp
      refine hK _ ?_
      clear hK K
      iterate 2
        refine WpS.ng rfl (fun K hK => ?_)
        go_simp
        refine hK _ ?_
        clear hK K
      refine @WpS.off _ _ _ _ _ _ _ ?g36 ?h36
      case g36 => simp only [Region.wanted, yielded]; rfl
      intro K hK
      go_simp
      refine hK _ ?_
      clear hK K
      refine @WpS.off _ _ _ _ _ _ _ ?g37 ?h37
      case g37 => simp only [Region.wanted, yielded]; rfl
      intro K hK
      go_simp
      refine hK _ ?_
      clear hK K
      refine @WpS.off _ _ _ _ _ _ _ ?g38 ?h38
      case g38 => simp only [Region.wanted, yielded]; rfl
      intro K hK
      go_simp
      refine hK _ ?_
      clear hK K
      refine @WpS.off _ _ _ _ _ _ _ ?g39 ?h39
      case g39 => simp only [Region.wanted, yielded]; rfl
      intro K hK
      go_simp
      refine hK _ ?_
      clear hK K
      refine @WpS.off _ _ _ _ _ _ _ ?g40 ?h40
      case g40 => simp only [Region.wanted, yielded]; rfl
      intro K hK
      go_simp
      refine hK _ ?_
      clear hK K
      iterate 2
        refine WpS.ng rfl (fun K hK => ?_)
        go_simp
        refine hK _ ?_
        clear hK K
      refine WpS.nil ?_
      show wpList _ _ _ _ _ w6.drew
      rw [HW7.out]
      clear d0 f0 x0 x1 x2 x3 x4 c0 c1 HW7
      go_wp2_with fail
      go_ret
      exact HF.out
    case true.false =>
      have HF := Lib.hid (HS.out.drew.fin (sv := secN m.vars) (sa := secN m.arrs) HM.out H14.out r _ hr14 HR.out HWA.out HNV.out)
      simp only [Bool.true_or, Bool.or_false] at HF
      obtain ⟨w7, hw7⟩ : ∃ w7, w6.drew = w7 := ⟨_, rfl⟩
      have d7 : w7.cell? ⟨g, r, none⟩ = some u0 := by rw [← hw7]; exact d0
      have f7 : w7.frozen? ⟨g, r, none⟩ = false := by rw [← hw7]; exact f0
      rw [hw7] at HF
      have HW7 := Lib.hid hw7
      clear hw7
      go_wp2_with fail
      refine wp_head_tail 23 (by kernel_rfl) (by kernel_rfl) ?_
      simp only [List.take_succ_cons, List.take_zero, List.drop_succ_cons, List.drop_zero]
      iterate 9
        refine WpS.ng rfl (fun K hK => ?_)
        go_simp
        refine hK _ ?_
        clear hK K
      refine @WpS.off _ _ _ _ _ _ _ ?g41 ?h41
      case g41 => simp only [Region.wanted, yielded]; rfl
      intro K hK
      go_simp
      refine hK _ ?_
      clear hK K
      refine @WpS.off _ _ _ _ _ _ _ ?g42 ?h42
      case g42 => simp only [Region.wanted, yielded]; rfl
      intro K hK
      go_simp
      refine hK _ ?_
      clear hK K
      refine @WpS.off _ _ _ _ _ _ _ ?g43 ?h43
      case g43 => simp only [Region.wanted, yielded]; rfl
      intro K hK
      go_simp
      refine hK _ ?_
      clear hK K
      refine @WpS.off _ _ _ _ _ _ _ ?g44 ?h44
      case g44 => simp only [Region.wanted, yielded]; rfl
      intro K hK
      go_simp
      refine hK _ ?_
      clear hK K
      refine @WpS.off _ _ _ _ _ _ _ ?g45 ?h45
      case g45 => simp only [Region.wanted, yielded]; rfl
      intro K hK
      go_simp
      refine hK _ ?_
      clear hK K
      iterate 2
        refine WpS.ng rfl (fun K hK => ?_)
        go_simp
        refine hK _ ?_
        clear hK K
      refine @WpS.off _ _ _ _ _ _ _ ?g46 ?h46
      case g46 => simp only [Region.wanted, yielded]; rfl
      intro K hK
      go_simp
      refine hK _ ?_
      clear hK K
      refine @WpS.off _ _ _ _ _ _ _ ?g47 ?h47
      case g47 => simp only [Region.wanted, yielded]; rfl
      intro K hK
      go_simp
      refine hK _ ?_
      clear hK K
      refine @WpS.off _ _ _ _ _ _ _ ?g48 ?h48
      case g48 => simp only [Region.wanted, yielded]; rfl
      intro K hK
      go_simp
      refine hK _ ?_
      clear hK K
      refine @WpS.off _ _ _ _ _ _ _ ?g49 ?h49
      case g49 => simp only [Region.wanted, yielded]; rfl
      intro K hK
      go_simp
      refine hK _ ?_
      clear hK K
      refine @WpS.off _ _ _ _ _ _ _ ?g50 ?h50
      case g50 => simp only [Region.wanted, yielded]; rfl
      intro K hK
      go_simp
      refine hK _ ?_
      clear hK K
      iterate 2
        refine WpS.ng rfl (fun K hK => ?_)
        go_simp
        refine hK _ ?_
        clear hK K
      refine WpS.nil ?_
      show wpList _ _ _ _ _ w6.drew
      rw [HW7.out]
      clear d0 f0 x0 x1 x2 x3 x4 c0 c1 HW7
      go_wp2_with fail
      go_ret
      exact HF.out
    case true.true =>
      have HF := Lib.hid (HS.out.drew.fin (sv := secN m.vars) (sa := secN m.arrs) HM.out H14.out r _ hr14 HR.out HWA.out HNV.out)
      simp only [Bool.true_or] at HF
      obtain ⟨w7, hw7⟩ : ∃ w7, w6.drew = w7 := ⟨_, rfl⟩
      have d7 : w7.cell? ⟨g, r, none⟩ = some u0 := by rw [← hw7]; exact d0
      have f7 : w7.frozen? ⟨g, r, none⟩ = false := by rw [← hw7]; exact f0
      rw [hw7] at HF
      have HW7 := Lib.hid hw7
      clear hw7
      go_wp2_with fail
      refine wp_head_tail 23 (by kernel_rfl) (by kernel_rfl) ?_
      simp only [List.take_succ_cons, List.take_zero, List.drop_succ_cons, List.drop_zero]
      iterate 9
        refine WpS.ng rfl (fun K hK => ?_)
        go_simp
        refine hK _ ?_
        clear hK K
      refine @WpS.off _ _ _ _ _ _ _ ?g51 ?h51
      case g51 => simp only [Region.wanted, yielded]; rfl
      intro K hK
      go_simp
      refine hK _ ?_
      clear hK K
      refine @WpS.off _ _ _ _ _ _ _ ?g52 ?h52
      case g52 => simp only [Region.wanted, yielded]; rfl
      intro K hK
      go_simp
      refine hK _ ?_
      clear hK K
      refine @WpS.off _ _ _ _ _ _ _ ?g53 ?h53
      case g53 => simp only [Region.wanted, yielded]; rfl
      intro K hK
      go_simp
      refine hK _ ?_
      clear hK K
      refine @WpS.off _ _ _ _ _ _ _ ?g54 ?h54
      case g54 => simp only [Region.wanted, yielded]; rfl
      intro K hK
      go_simp
      refine hK _ ?_
      clear hK K
      refine @WpS.off _ _ _ _ _ _ _ ?g55 ?h55
      case g55 => simp only [Region.wanted, yielded]; rfl
      intro K hK
      go_simp
      refine hK _ ?_
      clear hK K
      iterate 2
        refine WpS.ng rfl (fun K hK => ?_)
        go_simp
        refine hK _ ?_
        clear hK K
      refine @WpS.off _ _ _ _ _ _ _ ?g56 ?h56
      case g56 => simp only [Region.wanted, yielded]; rfl
      intro K hK
      go_simp
      refine hK _ ?_
      clear hK K
      refine @WpS.off _ _ _ _ _ _ _ ?g57 ?h57
      case g57 => simp only [Region.wanted, yielded]; rfl
      intro K hK
      go_simp
      refine hK _ ?_
      clear hK K
      refine @WpS.off _ _ _ _ _ _ _ ?g58 ?h58
      case g58 => simp only [Region.wanted, yielded]; rfl
      intro K hK
      go_simp
      refine hK _ ?_
      clear hK K
      refine @WpS.off _ _ _ _ _ _ _ ?g59 ?h59
      case g59 => simp only [Region.wanted, yielded]; rfl
      intro K hK
      go_simp
      refine hK _ ?_
      clear hK K
      refine @WpS.off _ _ _ _ _ _ _ ?g60 ?h60
      case g60 => simp only [Region.wanted, yielded]; rfl
      intro K hK
      go_simp
      refine hK _ ?_
      clear hK K
      iterate 2
        refine WpS.ng rfl (fun K hK => ?_)
        go_simp
        refine hK _ ?_
        clear hK K
      refine WpS.nil ?_
      show wpList _ _ _ _ _ w6.drew
      rw [HW7.out]
      clear d0 f0 x0 x1 x2 x3 x4 c0 c1 HW7
      go_wp2_with fail
      go_ret
      exact HF.out

end Go.Proofs.YtmodonligaejhaaDoor

/- States of the machine (a number, a list of ints and a memory) as they lie in a world; the exact laws' helpers on them: szMachine measures, eqMachine and the two MachineSame answer whether two are equal. Nothing that was there changes. -/
import Derived.Test.YtleomemalgfmoaaMmF
namespace Go.Proofs.Ytleomemalgfmoaa
open Go.RowKit
set_option linter.unusedVariables false

structure Ms where
  pc : Int
  regs : List Int
  mem : Mm
deriving DecidableEq
structure MK where
  ra : Option Addr
  rc : Nat
  me : MC
abbrev arrS4 (m : Ms) (k : MK) : Array Value := #[.int .i64 m.pc, .slice k.ra m.regs.length k.rc, .slice k.me.va m.mem.vals.length k.me.vc, .slice k.me.aa m.mem.arrs.length k.me.ac]
abbrev aggS4 (m : Ms) (k : MK) : Value := .agg #[.int .i64 m.pc, .slice k.ra m.regs.length k.rc, .slice k.me.va m.mem.vals.length k.me.vc, .slice k.me.aa m.mem.arrs.length k.me.ac]
/-- A state lies in the world. -/
def SL (w : World) (m : Ms) (k : MK) : Prop := IAt w (fun b => b < w.heap.size) m.regs k.ra ∧ ML w m.mem k.me
theorem SL.below {w w' : World} {m : Ms} {k : MK} (h : SL w m k) (hb : Below w.heap.size w w') : SL w' m k :=
  ⟨h.1.wide (fun j hj => hb.block j hj) fun j hj => Nat.lt_of_lt_of_le hj hb.size, h.2.below hb⟩
/-- Every list of it is short. -/
def SSm (m : Ms) : Prop := m.regs.length ≤ 1048576 ∧ MSm m.mem

def BoxS (w : World) (b : Nat) (m : Ms) (k : MK) : Prop := ∃ T, w.heap[b]? = some (.cells (arrS4 m k) T (0, 0))
theorem BoxS.new (w : World) (m : Ms) (k : MK) (T : TypeId) : BoxS (w.alloc (.cells (arrS4 m k) T)) w.heap.size m k := ⟨T, heap_alloc_new w _⟩
theorem BoxS.later {w w' : World} {b : Nat} {m : Ms} {k : MK} (h : BoxS w b m k) (hb : w'.heap[b]? = w.heap[b]?) : BoxS w' b m k := by obtain ⟨T, h⟩ := h; exact ⟨T, hb.trans h⟩
theorem BoxS.below {w w' : World} {b B : Nat} {m : Ms} {k : MK} (h : BoxS w b m k) (hb : Below B w w') (hlt : b < B) : BoxS w' b m k := h.later (hb.block b hlt)
theorem BoxS.lt {w : World} {b : Nat} {m : Ms} {k : MK} (h : BoxS w b m k) : b < w.heap.size := by obtain ⟨T, h⟩ := h; exact (Array.getElem?_eq_some_iff.1 h).1
theorem BoxS.c0 {w : World} {b : Nat} {m : Ms} {k : MK} (h : BoxS w b m k) : w.cell? ⟨b, 0, none⟩ = some (.int .i64 m.pc) := by obtain ⟨T, h⟩ := h; rw [cellAtM h]; rfl
theorem BoxS.c1 {w : World} {b : Nat} {m : Ms} {k : MK} (h : BoxS w b m k) : w.cell? ⟨b, 1, none⟩ = some (.slice k.ra m.regs.length k.rc) := by obtain ⟨T, h⟩ := h; rw [cellAtM h]; rfl
theorem BoxS.c2 {w : World} {b : Nat} {m : Ms} {k : MK} (h : BoxS w b m k) : w.cell? ⟨b, 2, none⟩ = some (.slice k.me.va m.mem.vals.length k.me.vc) := by obtain ⟨T, h⟩ := h; rw [cellAtM h]; rfl
theorem BoxS.c3 {w : World} {b : Nat} {m : Ms} {k : MK} (h : BoxS w b m k) : w.cell? ⟨b, 3, none⟩ = some (.slice k.me.aa m.mem.arrs.length k.me.ac) := by obtain ⟨T, h⟩ := h; rw [cellAtM h]; rfl

set_option maxHeartbeats 4000000 in
/-- **szMachine.** -/
theorem szS_one (m : Ms) (k : MK) (left : Int) (w : World) (h : SL w m k) (h0 : 0 ≤ left) (h1 : left ≤ 1048576) :
    Calls Try.prog 17 #[aggS4 m k, .int .i64 left] w (MSized (SSm m) left w) := by
  have hv := h.1.1
  have HM : Hid (∀ v, Below w.heap.size w v → ML v m.mem k.me) := fun v hv => h.2.below hv
  clear h
  have HBX := Lib.hid (BoxS.new w m k 45)
  have HW := Lib.hid ((Below.refl w.heap.size w).alloc (Nat.le_refl _) (.cells (arrS4 m k) 45))
  go_enter Try.func17, Try.ntmps17
  go_wp2_with fail
  obtain ⟨W, hW⟩ : ∃ W, w.alloc (.cells (arrS4 m k) 45) = W := ⟨_, rfl⟩
  unfold arrS4 at hW
  rw [hW] at HBX HW ⊢
  clear hW
  have y2 := HBX.out.c2
  have y3 := HBX.out.c3
  refine (szI_one k.ra m.regs.length k.rc left W h0 h1 hv).mono ?_
  rintro f w1 ⟨v1, rfl, hv1', hs1, rfl⟩
  by_cases hn1 : v1 < 0
  · go_wp2_with fail
    go_ret
    exact ⟨-1, rfl, by omega, fun h => absurd h (by omega), HW.out⟩
  go_wp2_with fail
  refine (szM_one m.mem k.me v1 _ (HM.out _ HW.out) (by omega) (by omega)).mono ?_
  rintro f w2 ⟨v2, rfl, hv2', hs2, hb2⟩
  have HS2 := Lib.hid hs2
  have HB2 := Lib.hid (HW.out.trans (hb2.mono HW.out.size))
  clear hs2 hb2
  by_cases hn2 : v2 < 0
  · go_wp2_with fail
    go_ret
    exact ⟨-1, rfl, by omega, fun h => absurd h (by omega), HB2.out⟩
  go_wp2_with fail
  go_ret
  have q1 := hs1 (by omega)
  exact ⟨v2, rfl, by omega, fun _ => ⟨by omega, HS2.out (by omega)⟩, HB2.out⟩

/-- Two states, boxed one behind the other. -/
theorem two_states {w : World} (m n : Ms) (k l : MK) (T : TypeId) : Below w.heap.size w ((w.alloc (.cells (arrS4 m k) T)).alloc (.cells (arrS4 n l) T)) ∧ BoxS ((w.alloc (.cells (arrS4 m k) T)).alloc (.cells (arrS4 n l) T)) w.heap.size m k ∧
    BoxS ((w.alloc (.cells (arrS4 m k) T)).alloc (.cells (arrS4 n l) T)) (w.heap.size + 1) n l ∧ ((w.alloc (.cells (arrS4 m k) T)).alloc (.cells (arrS4 n l) T)).heap.size = w.heap.size + 2 := by
  refine ⟨((Below.refl w.heap.size w).alloc (Nat.le_refl _) _).alloc (by simp) _, ?_, ?_, by simp⟩
  · exact (BoxS.new w m k T).later (Below.heap_alloc _ _ _ (by simp))
  · have := BoxS.new (w.alloc (.cells (arrS4 m k) T)) n l T
    rw [World.size_alloc] at this
    exact this

theorem Ms.ext' {m n : Ms} (h1 : m.pc = n.pc) (h2 : m.regs = n.regs) (h3 : m.mem = n.mem) : m = n := by cases m; cases n; simp_all

/-- A state is handed back that reads alike. -/
def CopyS4 (m : Ms) (w : World) (f : Ending) (w' : World) : Prop := ∃ k, f = .returned (aggS4 m k) ∧ SL w' m k ∧ Below w.heap.size w w'

set_option maxHeartbeats 4000000 in
/-- **eqMachine.** -/
theorem eqS4_one (m n : Ms) (k l : MK) (w : World) (h : SL w m k) (h' : SL w n l) :
    Calls Try.prog 19 #[aggS4 m k, aggS4 n l] w (YN (decide (m = n)) w) := by
  have H : Hid (∀ v, Below w.heap.size w v → SL v m k ∧ SL v n l) := fun v hv => ⟨h.below hv, h'.below hv⟩
  clear h h'
  obtain ⟨hB, h0, h1, hz⟩ := two_states (w := w) m n k l 28
  have HB := Lib.hid hB
  have HX := Lib.hid h0
  have HY := Lib.hid h1
  clear hB h0 h1
  by_cases hp : m.pc = n.pc
  case neg =>
    have HN : Hid (false = decide (m = n)) := (decide_eq_false fun e => hp (by rw [e])).symm
    have hp' : (m.pc != n.pc) = true := by simpa using hp
    clear hp H
    go_enter Try.func19, Try.ntmps19
    go_wp2_with fail
    go_ret
    exact YN.of HN.out HB.out
  case pos =>
  have hp' : (m.pc != n.pc) = false := by simpa using hp
  have HP := Lib.hid hp
  clear hp
  go_enter Try.func19, Try.ntmps19
  go_wp2_with fail
  obtain ⟨W, hW⟩ : ∃ W, ((w.alloc (.cells (arrS4 m k) 28)).alloc (.cells (arrS4 n l) 28)) = W := ⟨_, rfl⟩
  unfold arrS4 at hW
  rw [hW] at HB HX HY hz ⊢
  clear hW
  have Q1 := Lib.hid (H.out W HB.out).1
  have Q2 := Lib.hid (H.out W HB.out).2
  by_cases hv : m.regs = n.regs
  case neg =>
    have HN : Hid (false = decide (m = n)) := (decide_eq_false fun e => hv (by rw [e])).symm
    have HQ : Hid (decide (m.regs = n.regs) = false) := decide_eq_false hv
    refine (eqI_one k.ra l.ra k.rc l.rc m.regs n.regs W Q1.out.1 Q2.out.1).mono ?_
    rintro e w2 ⟨rfl, hb2⟩
    rw [HQ.out]
    have HB2 := Lib.hid (HB.out.trans (hb2.mono HB.out.size))
    clear hb2
    go_wp2_with fail
    go_ret
    exact YN.of HN.out HB2.out
  case pos =>
  have HQ : Hid (decide (m.regs = n.regs) = true) := decide_eq_true hv
  have HN : Hid (decide (m.mem = n.mem) = decide (m = n)) := by
    by_cases hl : m.mem = n.mem
    · exact (decide_eq_true hl).trans (decide_eq_true (Ms.ext' HP.out hv hl)).symm
    · exact (decide_eq_false hl).trans (decide_eq_false fun e => hl (by rw [e])).symm
  clear hv
  refine (eqI_one k.ra l.ra k.rc l.rc m.regs n.regs W Q1.out.1 Q2.out.1).mono ?_
  rintro e w2 ⟨rfl, hb2⟩
  rw [HQ.out]
  have hx2 := HX.out.below hb2 HX.out.lt
  have hy2 := HY.out.below hb2 HY.out.lt
  have y2 := hx2.c2
  have z2 := hy2.c2
  have y3 := hx2.c3
  have z3 := hy2.c3
  have HB2 := Lib.hid (HB.out.trans (hb2.mono HB.out.size))
  have R1 := Lib.hid (Q1.out.below hb2)
  have R2 := Lib.hid (Q2.out.below hb2)
  clear hb2 hx2 hy2 HX HY HB Q1 Q2
  obtain ⟨q, hq⟩ : ∃ q, decide (m.mem = n.mem) = q := ⟨_, rfl⟩
  go_wp2_with fail
  refine (eqM_one m.mem n.mem k.me l.me w2 R1.out.2 R2.out.2).mono ?_
  rintro e w4 ⟨rfl, hb4⟩
  have HB4 := Lib.hid (HB2.out.trans (hb4.mono HB2.out.size))
  rw [hq] at HN ⊢
  clear hb4
  cases q
  all_goals
    go_wp2_with fail
    go_ret
    exact YN.of HN.out HB4.out

set_option maxHeartbeats 4000000 in
/-- **impl.MachineSame.** -/
theorem iSS_one (m n : Ms) (k l : MK) (w : World) (h : SL w m k) (h' : SL w n l) :
    Calls Try.prog 10 #[aggS4 m k, aggS4 n l] w (YN (decide (m = n)) w) := by
  have H : Hid (∀ v, Below w.heap.size w v → SL v m k ∧ SL v n l) := fun v hv => ⟨h.below hv, h'.below hv⟩
  clear h h'
  obtain ⟨hB, h0, h1, hz⟩ := two_states (w := w) m n k l 28
  have HB := Lib.hid hB
  have HX := Lib.hid h0
  have HY := Lib.hid h1
  clear hB h0 h1
  by_cases hp : m.pc = n.pc
  case neg =>
    have HN : Hid (false = decide (m = n)) := (decide_eq_false fun e => hp (by rw [e])).symm
    have hp' : (m.pc == n.pc) = false := by simpa using hp
    clear hp H
    go_enter Try.func10, Try.ntmps10
    go_wp2_with fail
    go_ret
    exact YN.of HN.out HB.out
  case pos =>
  have hp' : (m.pc == n.pc) = true := by simpa using hp
  have HP := Lib.hid hp
  clear hp
  go_enter Try.func10, Try.ntmps10
  go_wp2_with fail
  obtain ⟨W, hW⟩ : ∃ W, ((w.alloc (.cells (arrS4 m k) 28)).alloc (.cells (arrS4 n l) 28)) = W := ⟨_, rfl⟩
  unfold arrS4 at hW
  rw [hW] at HB HX HY hz ⊢
  clear hW
  have Q1 := Lib.hid (H.out W HB.out).1
  have Q2 := Lib.hid (H.out W HB.out).2
  by_cases hv : m.regs = n.regs
  case neg =>
    have HN : Hid (false = decide (m = n)) := (decide_eq_false fun e => hv (by rw [e])).symm
    have HQ : Hid (decide (m.regs = n.regs) = false) := decide_eq_false hv
    refine (slEqI_one k.ra l.ra k.rc l.rc m.regs n.regs W Q1.out.1 Q2.out.1).mono ?_
    rintro e w2 ⟨rfl, hb2⟩
    rw [HQ.out]
    have HB2 := Lib.hid (HB.out.trans (hb2.mono HB.out.size))
    clear hb2
    go_wp2_with fail
    go_ret
    exact YN.of HN.out HB2.out
  case pos =>
  have HQ : Hid (decide (m.regs = n.regs) = true) := decide_eq_true hv
  have HN : Hid (decide (m.mem = n.mem) = decide (m = n)) := by
    by_cases hl : m.mem = n.mem
    · exact (decide_eq_true hl).trans (decide_eq_true (Ms.ext' HP.out hv hl)).symm
    · exact (decide_eq_false hl).trans (decide_eq_false fun e => hl (by rw [e])).symm
  clear hv
  refine (slEqI_one k.ra l.ra k.rc l.rc m.regs n.regs W Q1.out.1 Q2.out.1).mono ?_
  rintro e w2 ⟨rfl, hb2⟩
  rw [HQ.out]
  have hx2 := HX.out.below hb2 HX.out.lt
  have hy2 := HY.out.below hb2 HY.out.lt
  have y2 := hx2.c2
  have z2 := hy2.c2
  have y3 := hx2.c3
  have z3 := hy2.c3
  have HB2 := Lib.hid (HB.out.trans (hb2.mono HB.out.size))
  have R1 := Lib.hid (Q1.out.below hb2)
  have R2 := Lib.hid (Q2.out.below hb2)
  clear hb2 hx2 hy2 HX HY HB Q1 Q2
  obtain ⟨q, hq⟩ : ∃ q, decide (m.mem = n.mem) = q := ⟨_, rfl⟩
  go_wp2_with fail
  refine (iMS_one m.mem n.mem k.me l.me w2 R1.out.2 R2.out.2).mono ?_
  rintro e w4 ⟨rfl, hb4⟩
  have HB4 := Lib.hid (HB2.out.trans (hb4.mono HB2.out.size))
  rw [hq] at HN ⊢
  clear hb4
  cases q
  all_goals
    go_wp2_with fail
    go_ret
    exact YN.of HN.out HB4.out

set_option maxHeartbeats 4000000 in
/-- **spec.MachineSame.** -/
theorem sSS_one (m n : Ms) (k l : MK) (w : World) (h : SL w m k) (h' : SL w n l) :
    Calls Try.prog 11 #[aggS4 m k, aggS4 n l] w (YN (decide (m = n)) w) := by
  have H : Hid (∀ v, Below w.heap.size w v → SL v m k ∧ SL v n l) := fun v hv => ⟨h.below hv, h'.below hv⟩
  clear h h'
  obtain ⟨hB, h0, h1, hz⟩ := two_states (w := w) m n k l 28
  have HB := Lib.hid hB
  have HX := Lib.hid h0
  have HY := Lib.hid h1
  clear hB h0 h1
  by_cases hp : m.pc = n.pc
  case neg =>
    have HN : Hid (false = decide (m = n)) := (decide_eq_false fun e => hp (by rw [e])).symm
    have hp' : (m.pc == n.pc) = false := by simpa using hp
    clear hp H
    go_enter Try.func11, Try.ntmps11
    go_wp2_with fail
    go_ret
    exact YN.of HN.out HB.out
  case pos =>
  have hp' : (m.pc == n.pc) = true := by simpa using hp
  have HP := Lib.hid hp
  clear hp
  go_enter Try.func11, Try.ntmps11
  go_wp2_with fail
  obtain ⟨W, hW⟩ : ∃ W, ((w.alloc (.cells (arrS4 m k) 28)).alloc (.cells (arrS4 n l) 28)) = W := ⟨_, rfl⟩
  unfold arrS4 at hW
  rw [hW] at HB HX HY hz ⊢
  clear hW
  have Q1 := Lib.hid (H.out W HB.out).1
  have Q2 := Lib.hid (H.out W HB.out).2
  by_cases hv : m.regs = n.regs
  case neg =>
    have HN : Hid (false = decide (m = n)) := (decide_eq_false fun e => hv (by rw [e])).symm
    have HQ : Hid (decide (m.regs = n.regs) = false) := decide_eq_false hv
    refine (l2I_one k.ra l.ra k.rc l.rc m.regs n.regs W Q1.out.1 Q2.out.1).mono ?_
    rintro e w2 ⟨rfl, hb2⟩
    rw [HQ.out]
    have HB2 := Lib.hid (HB.out.trans (hb2.mono HB.out.size))
    clear hb2
    go_wp2_with fail
    go_ret
    exact YN.of HN.out HB2.out
  case pos =>
  have HQ : Hid (decide (m.regs = n.regs) = true) := decide_eq_true hv
  have HN : Hid (decide (m.mem = n.mem) = decide (m = n)) := by
    by_cases hl : m.mem = n.mem
    · exact (decide_eq_true hl).trans (decide_eq_true (Ms.ext' HP.out hv hl)).symm
    · exact (decide_eq_false hl).trans (decide_eq_false fun e => hl (by rw [e])).symm
  clear hv
  refine (l2I_one k.ra l.ra k.rc l.rc m.regs n.regs W Q1.out.1 Q2.out.1).mono ?_
  rintro e w2 ⟨rfl, hb2⟩
  rw [HQ.out]
  have hx2 := HX.out.below hb2 HX.out.lt
  have hy2 := HY.out.below hb2 HY.out.lt
  have y2 := hx2.c2
  have z2 := hy2.c2
  have y3 := hx2.c3
  have z3 := hy2.c3
  have HB2 := Lib.hid (HB.out.trans (hb2.mono HB.out.size))
  have R1 := Lib.hid (Q1.out.below hb2)
  have R2 := Lib.hid (Q2.out.below hb2)
  clear hb2 hx2 hy2 HX HY HB Q1 Q2
  obtain ⟨q, hq⟩ : ∃ q, decide (m.mem = n.mem) = q := ⟨_, rfl⟩
  go_wp2_with fail
  refine (sMS_one m.mem n.mem k.me l.me w2 R1.out.2 R2.out.2).mono ?_
  rintro e w4 ⟨rfl, hb4⟩
  have HB4 := Lib.hid (HB2.out.trans (hb4.mono HB2.out.size))
  rw [hq] at HN ⊢
  clear hb4
  cases q
  all_goals
    go_wp2_with fail
    go_ret
    exact YN.of HN.out HB4.out

end Go.Proofs.Ytleomemalgfmoaa

/- Lists of instructions in memory: what it says that one lies there; the exact laws' helpers on them: szInstrS measures, toInstrS makes a copy, eqInstrS answers whether two are equal. Nothing that was there changes. -/
import Derived.Test.YtgfagdjadmpklaaEvB
import Derived.Laws.StructEq
namespace Go.Proofs.Ytgfagdjadmpklaa
open Go.RowKit
set_option linter.unusedVariables false

structure Ins where
  op : Int
  fa : Int
  fb : Int
  fc : Int
  fd : Int
deriving DecidableEq

/-- The elements of a slice of instructions. -/
def InAt (w : World) (D : Nat → Prop) (es : List Ins) (a : Option Addr) : Prop :=
  ∀ (i : Nat) (x : Ins), es[i]? = some x → ∃ b o, a = some ⟨b, o, none⟩ ∧ D b ∧ w.cell? ⟨b, o + i * 5, none⟩ = some (.int .i64 x.op) ∧ w.cell? ⟨b, o + i * 5 + 1, none⟩ = some (.int .i64 x.fa) ∧ w.cell? ⟨b, o + i * 5 + 2, none⟩ = some (.int .i64 x.fb) ∧ w.cell? ⟨b, o + i * 5 + 3, none⟩ = some (.int .i64 x.fc) ∧ w.cell? ⟨b, o + i * 5 + 4, none⟩ = some (.int .i64 x.fd)
theorem InAt.wide {w w' : World} {D D' : Nat → Prop} {es : List Ins} {a : Option Addr} (h : InAt w D es a) (hb : ∀ k, D k → w'.heap[k]? = w.heap[k]?) (hl : ∀ k, D k → D' k) : InAt w' D' es a := fun i x hx => by
  obtain ⟨b, o, ha, hd, h0, h1, h2, h3, h4⟩ := h i x hx
  have hc : ∀ {o : Nat} {v : Value}, w.cell? ⟨b, o, none⟩ = some v → w'.cell? ⟨b, o, none⟩ = some v := fun q => (World.cell?_of_block (w := w) (hb b hd)).trans q
  exact ⟨b, o, ha, hl b hd, hc h0, hc h1, hc h2, hc h3, hc h4⟩

/-- A list of instructions in blocks of D. -/
def NAt (w : World) (D : Nat → Prop) (es : List Ins) (a : Option Addr) : Prop := es.length ≤ maxLen ∧ InAt w D es a
theorem NAt.wide {w w' : World} {D D' : Nat → Prop} {es : List Ins} {a : Option Addr} (h : NAt w D es a) (hb : ∀ k, D k → w'.heap[k]? = w.heap[k]?) (hl : ∀ k, D k → D' k) : NAt w' D' es a := ⟨h.1, h.2.wide hb hl⟩
theorem NAt.below {w w' : World} {es : List Ins} {a : Option Addr} (h : NAt w (fun k => k < w.heap.size) es a) (hb : Below w.heap.size w w') : NAt w' (fun k => k < w'.heap.size) es a := h.wide (fun k hk => hb.block k hk) fun k hk => Nat.lt_of_lt_of_le hk hb.size

set_option maxHeartbeats 1000000 in
theorem szIn_one (a : Option Addr) (n cap : Nat) (left : Int) (w : World) (h0 : 0 ≤ left) (h1 : left ≤ 1048576) (hn : n ≤ maxLen) :
    Calls Try.prog 73 #[.slice a n cap, .int .i64 left] w (EvSized n left w) := by
  unfold maxLen at hn
  by_cases hneg : left < n
  · go_enter Try.func73, Try.ntmps73
    go_wp2_with fail
    go_ret
    exact ⟨-1, rfl, by omega, fun h => absurd h (by omega), rfl⟩
  · go_enter Try.func73, Try.ntmps73
    go_wp2_with fail
    go_ret
    exact ⟨left - n, rfl, by omega, fun _ => by omega, rfl⟩

theorem below_drewC {B : Nat} {a w : World} (h : Below B a w) (k : Nat) : Below B a (w.drewN k) := ⟨h.os, h.tape, h.output, h.size, h.block⟩
theorem Ins.ext' {x y : Ins} (h0 : x.op = y.op) (h1 : x.fa = y.fa) (h2 : x.fb = y.fb) (h3 : x.fc = y.fc) (h4 : x.fd = y.fd) : x = y := by cases x; cases y; simp_all
theorem ins_ne {x y : Ins} (h : x ≠ y) : ((x.op != y.op) = true) ∨ ((x.op != y.op) = false ∧ (x.fa != y.fa) = true) ∨ ((x.op != y.op) = false ∧ (x.fa != y.fa) = false ∧ (x.fb != y.fb) = true) ∨ ((x.op != y.op) = false ∧ (x.fa != y.fa) = false ∧ (x.fb != y.fb) = false ∧ (x.fc != y.fc) = true) ∨ ((x.op != y.op) = false ∧ (x.fa != y.fa) = false ∧ (x.fb != y.fb) = false ∧ (x.fc != y.fc) = false ∧ (x.fd != y.fd) = true) := by
  by_cases h0 : x.op = y.op
  case neg => exact .inl (by simpa using h0)
  by_cases h1 : x.fa = y.fa
  case neg => exact .inr (.inl ⟨by simpa using h0, by simpa using h1⟩)
  by_cases h2 : x.fb = y.fb
  case neg => exact .inr (.inr (.inl ⟨by simpa using h0, by simpa using h1, by simpa using h2⟩))
  by_cases h3 : x.fc = y.fc
  case neg => exact .inr (.inr (.inr (.inl ⟨by simpa using h0, by simpa using h1, by simpa using h2, by simpa using h3⟩)))
  exact .inr (.inr (.inr (.inr ⟨by simpa using h0, by simpa using h1, by simpa using h2, by simpa using h3, by simpa using fun e => h (Ins.ext' h0 h1 h2 h3 e)⟩)))
theorem ins_neq {x y : Ins} (h : x ≠ y) : ((x.op == y.op) = false) ∨ ((x.op == y.op) = true ∧ (x.fa == y.fa) = false) ∨ ((x.op == y.op) = true ∧ (x.fa == y.fa) = true ∧ (x.fb == y.fb) = false) ∨ ((x.op == y.op) = true ∧ (x.fa == y.fa) = true ∧ (x.fb == y.fb) = true ∧ (x.fc == y.fc) = false) ∨ ((x.op == y.op) = true ∧ (x.fa == y.fa) = true ∧ (x.fb == y.fb) = true ∧ (x.fc == y.fc) = true ∧ (x.fd == y.fd) = false) := by
  by_cases h0 : x.op = y.op
  case neg => exact .inl (by simpa using h0)
  by_cases h1 : x.fa = y.fa
  case neg => exact .inr (.inl ⟨by simpa using h0, by simpa using h1⟩)
  by_cases h2 : x.fb = y.fb
  case neg => exact .inr (.inr (.inl ⟨by simpa using h0, by simpa using h1, by simpa using h2⟩))
  by_cases h3 : x.fc = y.fc
  case neg => exact .inr (.inr (.inr (.inl ⟨by simpa using h0, by simpa using h1, by simpa using h2, by simpa using h3⟩)))
  exact .inr (.inr (.inr (.inr ⟨by simpa using h0, by simpa using h1, by simpa using h2, by simpa using h3, by simpa using fun e => h (Ins.ext' h0 h1 h2 h3 e)⟩)))

set_option maxHeartbeats 1000000 in
theorem eqIn_one (x y : Ins) (w : World) :
    Calls Try.prog 97 #[.agg #[.int .i64 x.op, .int .i64 x.fa, .int .i64 x.fb, .int .i64 x.fc, .int .i64 x.fd], .agg #[.int .i64 y.op, .int .i64 y.fa, .int .i64 y.fb, .int .i64 y.fc, .int .i64 y.fd]] w (YN (decide (x = y)) w) := by
  have HB := Lib.hid ((((Below.refl w.heap.size w)).alloc (Nat.le_refl _) (.cells #[.int .i64 x.op, .int .i64 x.fa, .int .i64 x.fb, .int .i64 x.fc, .int .i64 x.fd] 118)).alloc (by simp) (.cells #[.int .i64 y.op, .int .i64 y.fa, .int .i64 y.fb, .int .i64 y.fc, .int .i64 y.fd] 118))
  by_cases hxy : x = y
  · have HE : Hid (true = decide (x = y)) := (decide_eq_true hxy).symm
    subst hxy
    have q0 : (x.op != x.op) = false := by simp
    have q1 : (x.fa != x.fa) = false := by simp
    have q2 : (x.fb != x.fb) = false := by simp
    have q3 : (x.fc != x.fc) = false := by simp
    have q4 : (x.fd != x.fd) = false := by simp
    go_enter Try.func97, Try.ntmps97
    go_wp2_with fail
    go_ret
    exact YN.of HE.out HB.out
  · have HE : Hid (false = decide (x = y)) := (decide_eq_false hxy).symm
    rcases ins_ne hxy with h0 | ⟨h0, h1⟩ | ⟨h0, h1, h2⟩ | ⟨h0, h1, h2, h3⟩ | ⟨h0, h1, h2, h3, h4⟩
    all_goals
      clear hxy
      go_enter Try.func97, Try.ntmps97
      go_wp2_with fail
      go_ret
      exact YN.of HE.out HB.out

theorem NAt.two {w : World} {D D' : Nat → Prop} {es fs : List Ins} {a a' : Option Addr} (h : NAt w D es a) (h' : NAt w D' fs a') {k : Nat} (hk : k < es.length) (hk' : k < fs.length) :
    ∃ x y b o b' o', es[k]? = some x ∧ fs[k]? = some y ∧ a = some ⟨b, o, none⟩ ∧ a' = some ⟨b', o', none⟩ ∧ b < w.heap.size ∧ b' < w.heap.size ∧
      w.cell? ⟨b, o + k * 5, none⟩ = some (.int .i64 x.op) ∧ w.cell? ⟨b, o + k * 5 + 1, none⟩ = some (.int .i64 x.fa) ∧ w.cell? ⟨b, o + k * 5 + 2, none⟩ = some (.int .i64 x.fb) ∧ w.cell? ⟨b, o + k * 5 + 3, none⟩ = some (.int .i64 x.fc) ∧ w.cell? ⟨b, o + k * 5 + 4, none⟩ = some (.int .i64 x.fd) ∧
      w.cell? ⟨b', o' + k * 5, none⟩ = some (.int .i64 y.op) ∧ w.cell? ⟨b', o' + k * 5 + 1, none⟩ = some (.int .i64 y.fa) ∧ w.cell? ⟨b', o' + k * 5 + 2, none⟩ = some (.int .i64 y.fb) ∧ w.cell? ⟨b', o' + k * 5 + 3, none⟩ = some (.int .i64 y.fc) ∧ w.cell? ⟨b', o' + k * 5 + 4, none⟩ = some (.int .i64 y.fd) := by
  have hx : es[k]? = some es[k] := List.getElem?_eq_getElem _
  have hy : fs[k]? = some fs[k] := List.getElem?_eq_getElem _
  obtain ⟨b, o, rfl, _, e0, e1, e2, e3, e4⟩ := h.2 k _ hx
  obtain ⟨b', o', rfl, _, g0, g1, g2, g3, g4⟩ := h'.2 k _ hy
  exact ⟨_, _, b, o, b', o', hx, hy, rfl, rfl, World.block_lt_of_cell? w _ e0, World.block_lt_of_cell? w _ g0, e0, e1, e2, e3, e4, g0, g1, g2, g3, g4⟩

set_option maxHeartbeats 4000000 in
/-- **eqInstrS.** -/
theorem eqInS_one (es fs : List Ins) (a a' : Option Addr) (cap cap' : Nat) (w : World) {D D' : Nat → Prop} (h : NAt w D es a) (h' : NAt w D' fs a') (hD : ∀ j, D j → j < w.heap.size) (hD' : ∀ j, D' j → j < w.heap.size) :
    Calls Try.prog 76 #[.slice a es.length cap, .slice a' fs.length cap'] w (YN (decide (es = fs)) w) := by
  have hm := h.1
  have hm' := h'.1
  unfold maxLen at hm hm'
  have HT : Hid (∀ v, Below w.heap.size w v → ∀ k, k < es.length → k < fs.length → ∃ x y b o b' o', es[k]? = some x ∧ fs[k]? = some y ∧ a = some ⟨b, o, none⟩ ∧ a' = some ⟨b', o', none⟩ ∧ b < v.heap.size ∧ b' < v.heap.size ∧
      v.cell? ⟨b, o + k * 5, none⟩ = some (.int .i64 x.op) ∧ v.cell? ⟨b, o + k * 5 + 1, none⟩ = some (.int .i64 x.fa) ∧ v.cell? ⟨b, o + k * 5 + 2, none⟩ = some (.int .i64 x.fb) ∧ v.cell? ⟨b, o + k * 5 + 3, none⟩ = some (.int .i64 x.fc) ∧ v.cell? ⟨b, o + k * 5 + 4, none⟩ = some (.int .i64 x.fd) ∧
      v.cell? ⟨b', o' + k * 5, none⟩ = some (.int .i64 y.op) ∧ v.cell? ⟨b', o' + k * 5 + 1, none⟩ = some (.int .i64 y.fa) ∧ v.cell? ⟨b', o' + k * 5 + 2, none⟩ = some (.int .i64 y.fb) ∧ v.cell? ⟨b', o' + k * 5 + 3, none⟩ = some (.int .i64 y.fc) ∧ v.cell? ⟨b', o' + k * 5 + 4, none⟩ = some (.int .i64 y.fd)) := fun v hv k hk hk' =>
    NAt.two (h.wide (fun j hj => hv.block j (hD j hj)) fun _ x => x) (h'.wide (fun j hj => hv.block j (hD' j hj)) fun _ x => x) hk hk'
  clear h h'
  obtain ⟨len, hlen⟩ : ∃ len, es.length = len := ⟨_, rfl⟩
  obtain ⟨len', hlen'⟩ : ∃ len', fs.length = len' := ⟨_, rfl⟩
  have HLEN := Lib.hid hlen
  have HLEN' := Lib.hid hlen'
  rw [hlen] at hm HT ⊢
  rw [hlen'] at hm' HT ⊢
  clear hlen hlen'
  by_cases hne : len = len'
  · subst hne
    go_enter Try.func76, Try.ntmps76
    go_wp2_with fail
    go_loopw [5] (fun i wr => ∃ k : Nat, k ≤ len ∧ i = .int .i64 k ∧ SameUp es fs k ∧ Below w.heap.size w wr) (fun i _ => len - (intOf i).toNat)
    case atStart => exact ⟨0, Nat.zero_le _, rfl, fun j hj => absurd hj (Nat.not_lt_zero _), Below.refl _ _⟩
    case round =>
      obtain ⟨k, hk, rfl, hS, hB⟩ := hrel
      have HS := Lib.hid hS
      have HB := Lib.hid hB
      clear hS hB
      by_cases hlt : k < len
      · obtain ⟨x, y, b, o, b', o', hx, hy, rfl, rfl, _, _, r0, r1, r2, r3, r4, s0, s1, s2, s3, s4⟩ := HT.out wr HB.out k hlt hlt
        have hsz := HB.out.size
        have HX := Lib.hid hx
        have HY := Lib.hid hy
        clear hx hy HT
        by_cases hxy : x = y
        · have HQ : Hid (decide (x = y) = true) := decide_eq_true hxy
          have HS2 : Hid (SameUp es fs (k + 1)) := HS.out.succ (by rw [HX.out, HY.out, hxy])
          clear hxy
          go_wp2_with fail
          go_region_with (go_at_call 97; refine (eqIn_one x y _).mono ?_; rintro e w2 ⟨rfl, hb2⟩; rw [HQ.out]; have HB2 : Hid (Below w.heap.size w w2) := (HB.out.drew.trans (hb2.mono hsz)); clear hb2)
          all_goals
            go_wp2_with fail
            go_roundw
            case rel => exact ⟨k + 1, by omega, by go_num, HS2.out, HB2.out⟩
            case measure => simp [intOf]; omega
        · have HQ : Hid (decide (x = y) = false) := decide_eq_false hxy
          have HN : Hid (false = decide (es = fs)) := (decide_eq_false fun e => hxy (by have h1 := HX.out; rw [e, HY.out] at h1; cases h1; rfl)).symm
          clear hxy
          go_wp2_with fail
          go_region_with (go_at_call 97; refine (eqIn_one x y _).mono ?_; rintro e w2 ⟨rfl, hb2⟩; rw [HQ.out]; have HB2 : Hid (Below w.heap.size w w2) := (HB.out.drew.trans (hb2.mono hsz)); clear hb2)
          all_goals
            go_wp2_with fail
            go_ret
            exact YN.of HN.out HB2.out
      · obtain rfl : k = len := by omega
        have HN : Hid (true = decide (es = fs)) := (decide_eq_true (HS.out.all HLEN.out HLEN'.out)).symm
        clear HT
        go_wp2_with fail
        go_ret
        exact YN.of HN.out HB.out
  · have hne' : ((len : Int) != (len' : Int)) = true := by simp; omega
    have HN : Hid (false = decide (es = fs)) := (decide_eq_false fun e => hne (by rw [← HLEN.out, ← HLEN'.out, e])).symm
    clear HT
    go_enter Try.func76, Try.ntmps76
    go_wp2_with fail
    go_ret
    exact YN.of HN.out (Below.refl _ _)

/-- An instruction is handed back. -/
def CopyIn (x : Ins) (w : World) (f : Ending) (w' : World) : Prop := f = .returned (.agg #[.int .i64 x.op, .int .i64 x.fa, .int .i64 x.fb, .int .i64 x.fc, .int .i64 x.fd]) ∧ Below w.heap.size w w'

set_option maxHeartbeats 2000000 in
theorem toIn_one (x : Ins) (w : World) :
    Calls Try.prog 96 #[.agg #[.int .i64 x.op, .int .i64 x.fa, .int .i64 x.fb, .int .i64 x.fc, .int .i64 x.fd]] w (CopyIn x w) := by
  go_enter Try.func96, Try.ntmps96
  go_wp2_with fail
  refine bodyPost_ret (v := .agg #[.int .i64 x.op, .int .i64 x.fa, .int .i64 x.fb, .int .i64 x.fc, .int .i64 x.fd]) (by simp [results, Try.f96, go_sem]) rfl ?_
  exact ⟨rfl, by repeat (first | exact Below.refl _ _ | refine Below.alloc ?_ (by simp <;> omega) _ | refine Below.setCell ?_ (by simp <;> omega) _)⟩

theorem Try.infoIn : (Try.prog.info? 118).map (fun i => (i.zero, i.size, i.bytes)) = some (some (.agg #[.int .i64 0, .int .i64 0, .int .i64 0, .int .i64 0, .int .i64 0]), 5, 40) := by kernel_rfl

/-- A list of instructions is handed back that reads alike, in new blocks. -/
def CopyIns (es : List Ins) (w : World) (f : Ending) (w' : World) : Prop := ∃ a cap, f = .returned (.slice a es.length cap) ∧ NAt w' (fun b => w.heap.size ≤ b ∧ b < w'.heap.size) es a ∧ Below w.heap.size w w'

theorem in_store {w : World} {g o : Nat} {cur : Array Value} {T : TypeId} (h : w.heap[g]? = some (.cells cur T (0, 0))) (n0 n1 n2 n3 n4 : Value) :
    (((((w.setCell ⟨g, o, none⟩ n0).setCell ⟨g, o + 1, none⟩ n1).setCell ⟨g, o + 2, none⟩ n2).setCell ⟨g, o + 3, none⟩ n3).setCell ⟨g, o + 4, none⟩ n4).heap[g]? = some (.cells (((((cur.setIfInBounds (o) n0).setIfInBounds (o + 1) n1).setIfInBounds (o + 2) n2).setIfInBounds (o + 3) n3).setIfInBounds (o + 4) n4) T (0, 0)) :=
  (heap_setCell_same _ g _ _ T n4 (heap_setCell_same _ g _ _ T n3 (heap_setCell_same _ g _ _ T n2 (heap_setCell_same _ g _ _ T n1 (heap_setCell_same _ g _ _ T n0 h)))))
theorem in_cells {w : World} {g o : Nat} {cur : Array Value} {T : TypeId} (h : w.heap[g]? = some (.cells cur T (0, 0))) (ho : o + 4 < cur.size) :
    (∃ u0 u1 u2 u3 u4, w.cell? ⟨g, o, none⟩ = some u0 ∧ w.cell? ⟨g, o + 1, none⟩ = some u1 ∧ w.cell? ⟨g, o + 2, none⟩ = some u2 ∧ w.cell? ⟨g, o + 3, none⟩ = some u3 ∧ w.cell? ⟨g, o + 4, none⟩ = some u4) ∧ w.frozen? ⟨g, o, none⟩ = false ∧ w.frozen? ⟨g, o + 1, none⟩ = false ∧ w.frozen? ⟨g, o + 2, none⟩ = false ∧ w.frozen? ⟨g, o + 3, none⟩ = false ∧ w.frozen? ⟨g, o + 4, none⟩ = false := by
  refine ⟨⟨cur[o], cur[o + 1], cur[o + 2], cur[o + 3], cur[o + 4], ?_, ?_, ?_, ?_, ?_⟩, frozen_of_row w g (o) cur T h, frozen_of_row w g (o + 1) cur T h, frozen_of_row w g (o + 2) cur T h, frozen_of_row w g (o + 3) cur T h, frozen_of_row w g (o + 4) cur T h⟩
  · rw [cell_of_row w g (o) cur T (0, 0) h]; exact Array.getElem?_eq_getElem _
  · rw [cell_of_row w g (o + 1) cur T (0, 0) h]; exact Array.getElem?_eq_getElem _
  · rw [cell_of_row w g (o + 2) cur T (0, 0) h]; exact Array.getElem?_eq_getElem _
  · rw [cell_of_row w g (o + 3) cur T (0, 0) h]; exact Array.getElem?_eq_getElem _
  · rw [cell_of_row w g (o + 4) cur T (0, 0) h]; exact Array.getElem?_eq_getElem _

theorem in_set_same (cur : Array Value) (o : Nat) (n0 n1 n2 n3 n4 : Value) (ho : o + 4 < cur.size) : (((((cur.setIfInBounds (o) n0).setIfInBounds (o + 1) n1).setIfInBounds (o + 2) n2).setIfInBounds (o + 3) n3).setIfInBounds (o + 4) n4)[o]? = some n0 ∧ (((((cur.setIfInBounds (o) n0).setIfInBounds (o + 1) n1).setIfInBounds (o + 2) n2).setIfInBounds (o + 3) n3).setIfInBounds (o + 4) n4)[o + 1]? = some n1 ∧ (((((cur.setIfInBounds (o) n0).setIfInBounds (o + 1) n1).setIfInBounds (o + 2) n2).setIfInBounds (o + 3) n3).setIfInBounds (o + 4) n4)[o + 2]? = some n2 ∧ (((((cur.setIfInBounds (o) n0).setIfInBounds (o + 1) n1).setIfInBounds (o + 2) n2).setIfInBounds (o + 3) n3).setIfInBounds (o + 4) n4)[o + 3]? = some n3 ∧ (((((cur.setIfInBounds (o) n0).setIfInBounds (o + 1) n1).setIfInBounds (o + 2) n2).setIfInBounds (o + 3) n3).setIfInBounds (o + 4) n4)[o + 4]? = some n4 := by
  refine ⟨?_, ?_, ?_, ?_, ?_⟩ <;> simp [Array.getElem?_setIfInBounds] <;> omega
theorem in_set_other (cur : Array Value) (o j : Nat) (n0 n1 n2 n3 n4 : Value) (h : j < o ∨ o + 4 < j) : (((((cur.setIfInBounds (o) n0).setIfInBounds (o + 1) n1).setIfInBounds (o + 2) n2).setIfInBounds (o + 3) n3).setIfInBounds (o + 4) n4)[j]? = cur[j]? := by
  rw [Array.getElem?_setIfInBounds, if_neg (by omega), Array.getElem?_setIfInBounds, if_neg (by omega), Array.getElem?_setIfInBounds, if_neg (by omega), Array.getElem?_setIfInBounds, if_neg (by omega), Array.getElem?_setIfInBounds, if_neg (by omega)]
theorem in_size (cur : Array Value) (o : Nat) (n0 n1 n2 n3 n4 : Value) : (((((cur.setIfInBounds (o) n0).setIfInBounds (o + 1) n1).setIfInBounds (o + 2) n2).setIfInBounds (o + 3) n3).setIfInBounds (o + 4) n4).size = cur.size := by simp

set_option maxHeartbeats 4000000 in
/-- **toInstrS.** -/
theorem toInS_one (es : List Ins) (a : Option Addr) (cap : Nat) (w : World) (h : NAt w (fun b => b < w.heap.size) es a) (hs : es.length ≤ 1048576) :
    Calls Try.prog 74 #[.slice a es.length cap] w (CopyIns es w) := by
  obtain ⟨i0, hi, hz0, hz1, hz2⟩ := info_parts Try.infoIn
  obtain ⟨hm, h⟩ := h
  obtain ⟨len, hlen⟩ : ∃ len, es.length = len := ⟨_, rfl⟩
  have HLEN := Lib.hid hlen
  rw [hlen] at hs ⊢
  have H := Lib.hid h
  clear h hlen hm
  go_enter Try.func74, Try.ntmps74
  go_wp2_with (at_make; refine wpList_make_full _ rfl _ _ 68 rfl w.heap.size 118 i0 (.agg #[.int .i64 0, .int .i64 0, .int .i64 0, .int .i64 0, .int .i64 0]) 5 Try.underlying68 hi hz0 hz1 .i64 .i64 (len : Int) (len : Int) len rfl rfl rfl rfl (by rw [hz2]; omega) (by unfold maxLen; omega) (Nat.le_refl _) ?_; intro w1 hown1 hgrow1; clear hz0 hz1 hz2)
  have HB1 : Hid (Below w.heap.size w w1) := (Below.refl _ w).grown hgrow1 (Nat.le_refl _) (fun k e => by cases e)
  have HO1 : Hid (∃ cur : Array Value, cur.size = len * 5 ∧ w1.heap[w.heap.size]? = some (.cells cur 118 (0, 0))) := by
    rcases hown1.2 with ⟨h', _⟩ | ⟨g, cp, cur, h', _, hg, _, _, hcs, _⟩
    · cases h'
    · cases h'
      exact ⟨cur, hcs, hg⟩
  clear hown1 hgrow1
  go_loopw [4] (fun i wr => ∃ k : Nat, k ≤ len ∧ i = .int .i64 k ∧ Below w.heap.size w wr ∧ w.heap.size < wr.heap.size ∧ ∃ cur : Array Value, cur.size = len * 5 ∧ wr.heap[w.heap.size]? = some (.cells cur 118 (0, 0)) ∧
      ∀ (j : Nat) (x : Ins), j < k → es[j]? = some x → cur[j * 5]? = some (.int .i64 x.op) ∧ cur[j * 5 + 1]? = some (.int .i64 x.fa) ∧ cur[j * 5 + 2]? = some (.int .i64 x.fb) ∧ cur[j * 5 + 3]? = some (.int .i64 x.fc) ∧ cur[j * 5 + 4]? = some (.int .i64 x.fd)) (fun i _ => len - (intOf i).toNat)
  case atStart =>
    obtain ⟨cur, h1, h2⟩ := HO1.out
    exact ⟨0, Nat.zero_le _, rfl, HB1.out, (Array.getElem?_eq_some_iff.1 h2).1, cur, h1, h2, fun j x hj => absurd hj (Nat.not_lt_zero _)⟩
  case round =>
    obtain ⟨k, hk, rfl, hB, hgt, cur, hcs, hblk, hdone⟩ := hrel
    have HB := Lib.hid hB
    have HCS := Lib.hid hcs
    have HBLK := Lib.hid hblk
    have HD := Lib.hid hdone
    clear hB hcs hblk hdone HO1 HB1
    by_cases hlt : k < len
    · obtain ⟨x, hx⟩ : ∃ x, es[k]? = some x := ⟨es[k]'(by rw [HLEN.out]; exact hlt), List.getElem?_eq_getElem _⟩
      obtain ⟨b, o, rfl, hbl, e0, e1, e2, e3, e4⟩ := H.out k x hx
      have d0 := (HB.out.cell (p := ⟨b, o + k * 5, none⟩) hbl).trans e0
      have d1 := (HB.out.cell (p := ⟨b, o + k * 5 + 1, none⟩) hbl).trans e1
      have d2 := (HB.out.cell (p := ⟨b, o + k * 5 + 2, none⟩) hbl).trans e2
      have d3 := (HB.out.cell (p := ⟨b, o + k * 5 + 3, none⟩) hbl).trans e3
      have d4 := (HB.out.cell (p := ⟨b, o + k * 5 + 4, none⟩) hbl).trans e4
      clear e0 e1 e2 e3 e4
      have hsz := HB.out.size
      have HX := Lib.hid hx
      clear hx
      go_wp2_with fail
      refine (toIn_one x _).mono ?_
      rintro f w2 ⟨rfl, hb2⟩
      have hsz2 := hb2.size
      have hblk2 : w2.heap[w.heap.size]? = some (.cells cur 118 (0, 0)) := (hb2.block _ hgt).trans HBLK.out
      have hb3 : k * 5 + 4 < cur.size := by rw [HCS.out]; omega
      obtain ⟨⟨u0, u1, u2, u3, u4, hu0, hu1, hu2, hu3, hu4⟩, hf0, hf1, hf2, hf3, hf4⟩ := in_cells (o := k * 5) hblk2 hb3
      have HST := Lib.hid (in_store (o := k * 5) hblk2 (.int .i64 x.op) (.int .i64 x.fa) (.int .i64 x.fb) (.int .i64 x.fc) (.int .i64 x.fd))
      have HSM3 := Lib.hid (in_set_same cur (k * 5) (.int .i64 x.op) (.int .i64 x.fa) (.int .i64 x.fb) (.int .i64 x.fc) (.int .i64 x.fd) hb3)
      have HB3 : Hid (Below w.heap.size w (((((w2.setCell ⟨w.heap.size, k * 5, none⟩ (.int .i64 x.op)).setCell ⟨w.heap.size, k * 5 + 1, none⟩ (.int .i64 x.fa)).setCell ⟨w.heap.size, k * 5 + 2, none⟩ (.int .i64 x.fb)).setCell ⟨w.heap.size, k * 5 + 3, none⟩ (.int .i64 x.fc)).setCell ⟨w.heap.size, k * 5 + 4, none⟩ (.int .i64 x.fd))) := ((((((HB.out.trans (hb2.mono hsz)).setCell (p := ⟨w.heap.size, k * 5, none⟩) (Nat.le_refl _) (.int .i64 x.op)).setCell (p := ⟨w.heap.size, k * 5 + 1, none⟩) (Nat.le_refl _) (.int .i64 x.fa)).setCell (p := ⟨w.heap.size, k * 5 + 2, none⟩) (Nat.le_refl _) (.int .i64 x.fb)).setCell (p := ⟨w.heap.size, k * 5 + 3, none⟩) (Nat.le_refl _) (.int .i64 x.fc)).setCell (p := ⟨w.heap.size, k * 5 + 4, none⟩) (Nat.le_refl _) (.int .i64 x.fd))
      have HSZW : Hid ((((((w2.setCell ⟨w.heap.size, k * 5, none⟩ (.int .i64 x.op)).setCell ⟨w.heap.size, k * 5 + 1, none⟩ (.int .i64 x.fa)).setCell ⟨w.heap.size, k * 5 + 2, none⟩ (.int .i64 x.fb)).setCell ⟨w.heap.size, k * 5 + 3, none⟩ (.int .i64 x.fc)).setCell ⟨w.heap.size, k * 5 + 4, none⟩ (.int .i64 x.fd)).heap.size = w2.heap.size) := by
        have : (((((w2.setCell ⟨w.heap.size, k * 5, none⟩ (.int .i64 x.op)).setCell ⟨w.heap.size, k * 5 + 1, none⟩ (.int .i64 x.fa)).setCell ⟨w.heap.size, k * 5 + 2, none⟩ (.int .i64 x.fb)).setCell ⟨w.heap.size, k * 5 + 3, none⟩ (.int .i64 x.fc)).setCell ⟨w.heap.size, k * 5 + 4, none⟩ (.int .i64 x.fd)).heap.size = w2.heap.size := by simp [World.setCell]
        exact this
      clear hb2 hblk2 HBLK HB d0 d1 d2 d3 d4
      go_wp2_with fail
      go_roundw
      case rel =>
        refine ⟨k + 1, by omega, by go_num, HB3.out, by rw [HSZW.out]; omega, _, ?_, HST.out, ?_⟩
        · simp [HCS.out]
        · intro j y hj hy
          by_cases hjk : j = k
          · subst hjk
            rw [HX.out] at hy
            cases hy
            exact HSM3.out
          · obtain ⟨h0, h1, h2, h3, h4⟩ := HD.out j y (by omega) hy
            exact ⟨by rw [in_set_other _ _ _ _ _ _ _ _ (by omega)]; exact h0, by rw [in_set_other _ _ _ _ _ _ _ _ (by omega)]; exact h1, by rw [in_set_other _ _ _ _ _ _ _ _ (by omega)]; exact h2, by rw [in_set_other _ _ _ _ _ _ _ _ (by omega)]; exact h3, by rw [in_set_other _ _ _ _ _ _ _ _ (by omega)]; exact h4⟩
      case measure => simp [intOf]; omega
    · obtain rfl : k = len := by omega
      clear H
      go_wp2_with fail
      go_ret
      refine ⟨_, k, by rw [HLEN.out]; rfl, ⟨by rw [HLEN.out]; unfold maxLen; omega, ?_⟩, HB.out⟩
      intro j y hy
      have hj : j < k := by have := (List.getElem?_eq_some_iff.1 hy).1; rw [HLEN.out] at this; exact this
      obtain ⟨h0, h1, h2, h3, h4⟩ := HD.out j y hj hy
      refine ⟨w.heap.size, 0, rfl, ⟨Nat.le_refl _, hgt⟩, ?_, ?_, ?_, ?_, ?_⟩
      · rw [Nat.zero_add, cell_of_row _ _ _ _ _ _ HBLK.out]; exact h0
      · rw [Nat.zero_add, cell_of_row _ _ _ _ _ _ HBLK.out]; exact h1
      · rw [Nat.zero_add, cell_of_row _ _ _ _ _ _ HBLK.out]; exact h2
      · rw [Nat.zero_add, cell_of_row _ _ _ _ _ _ HBLK.out]; exact h3
      · rw [Nat.zero_add, cell_of_row _ _ _ _ _ _ HBLK.out]; exact h4

end Go.Proofs.Ytgfagdjadmpklaa

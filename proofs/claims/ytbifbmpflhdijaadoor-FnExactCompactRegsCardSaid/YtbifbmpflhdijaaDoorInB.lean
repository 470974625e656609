/- Lists of instructions in memory; instructions and lists of them compared: eqInstr, eqInstrS. -/
import Derived.Test.YtbifbmpflhdijaaDoorEvB
import Derived.Laws.StructEq
namespace Go.Proofs.YtbifbmpflhdijaaDoor
open Go.RowKit
set_option linter.unusedVariables false

structure Ins where
  op : Int
  fa : Int
  fb : Int
  fc : Int
  fd : Int
deriving DecidableEq

/-- The elements of a slice of instructions. -/
def InAt (w : World) (D : Nat → Prop) (es : List Ins) (a : Option Addr) : Prop :=
  ∀ (i : Nat) (x : Ins), es[i]? = some x → ∃ b o, a = some ⟨b, o, none⟩ ∧ D b ∧ w.cell? ⟨b, o + i * 5, none⟩ = some (.int .i64 x.op) ∧ w.cell? ⟨b, o + i * 5 + 1, none⟩ = some (.int .i64 x.fa) ∧ w.cell? ⟨b, o + i * 5 + 2, none⟩ = some (.int .i64 x.fb) ∧ w.cell? ⟨b, o + i * 5 + 3, none⟩ = some (.int .i64 x.fc) ∧ w.cell? ⟨b, o + i * 5 + 4, none⟩ = some (.int .i64 x.fd)
theorem InAt.wide {w w' : World} {D D' : Nat → Prop} {es : List Ins} {a : Option Addr} (h : InAt w D es a) (hb : ∀ k, D k → w'.heap[k]? = w.heap[k]?) (hl : ∀ k, D k → D' k) : InAt w' D' es a := fun i x hx => by
  obtain ⟨b, o, ha, hd, h0, h1, h2, h3, h4⟩ := h i x hx
  have hc : ∀ {o : Nat} {v : Value}, w.cell? ⟨b, o, none⟩ = some v → w'.cell? ⟨b, o, none⟩ = some v := fun q => (World.cell?_of_block (w := w) (hb b hd)).trans q
  exact ⟨b, o, ha, hl b hd, hc h0, hc h1, hc h2, hc h3, hc h4⟩

/-- A list of instructions in blocks of D. -/
def NAt (w : World) (D : Nat → Prop) (es : List Ins) (a : Option Addr) : Prop := es.length ≤ maxLen ∧ InAt w D es a
theorem NAt.wide {w w' : World} {D D' : Nat → Prop} {es : List Ins} {a : Option Addr} (h : NAt w D es a) (hb : ∀ k, D k → w'.heap[k]? = w.heap[k]?) (hl : ∀ k, D k → D' k) : NAt w' D' es a := ⟨h.1, h.2.wide hb hl⟩
theorem NAt.below {w w' : World} {es : List Ins} {a : Option Addr} (h : NAt w (fun k => k < w.heap.size) es a) (hb : Below w.heap.size w w') : NAt w' (fun k => k < w'.heap.size) es a := h.wide (fun k hk => hb.block k hk) fun k hk => Nat.lt_of_lt_of_le hk hb.size

theorem below_drewC {B : Nat} {a w : World} (h : Below B a w) (k : Nat) : Below B a (w.drewN k) := ⟨h.os, h.tape, h.output, h.size, h.block⟩
theorem Ins.ext' {x y : Ins} (h0 : x.op = y.op) (h1 : x.fa = y.fa) (h2 : x.fb = y.fb) (h3 : x.fc = y.fc) (h4 : x.fd = y.fd) : x = y := by cases x; cases y; simp_all
theorem ins_ne {x y : Ins} (h : x ≠ y) : ((x.op != y.op) = true) ∨ ((x.op != y.op) = false ∧ (x.fa != y.fa) = true) ∨ ((x.op != y.op) = false ∧ (x.fa != y.fa) = false ∧ (x.fb != y.fb) = true) ∨ ((x.op != y.op) = false ∧ (x.fa != y.fa) = false ∧ (x.fb != y.fb) = false ∧ (x.fc != y.fc) = true) ∨ ((x.op != y.op) = false ∧ (x.fa != y.fa) = false ∧ (x.fb != y.fb) = false ∧ (x.fc != y.fc) = false ∧ (x.fd != y.fd) = true) := by
  by_cases h0 : x.op = y.op
  case neg => exact .inl (by simpa using h0)
  by_cases h1 : x.fa = y.fa
  case neg => exact .inr (.inl ⟨by simpa using h0, by simpa using h1⟩)
  by_cases h2 : x.fb = y.fb
  case neg => exact .inr (.inr (.inl ⟨by simpa using h0, by simpa using h1, by simpa using h2⟩))
  by_cases h3 : x.fc = y.fc
  case neg => exact .inr (.inr (.inr (.inl ⟨by simpa using h0, by simpa using h1, by simpa using h2, by simpa using h3⟩)))
  exact .inr (.inr (.inr (.inr ⟨by simpa using h0, by simpa using h1, by simpa using h2, by simpa using h3, by simpa using fun e => h (Ins.ext' h0 h1 h2 h3 e)⟩)))
theorem ins_neq {x y : Ins} (h : x ≠ y) : ((x.op == y.op) = false) ∨ ((x.op == y.op) = true ∧ (x.fa == y.fa) = false) ∨ ((x.op == y.op) = true ∧ (x.fa == y.fa) = true ∧ (x.fb == y.fb) = false) ∨ ((x.op == y.op) = true ∧ (x.fa == y.fa) = true ∧ (x.fb == y.fb) = true ∧ (x.fc == y.fc) = false) ∨ ((x.op == y.op) = true ∧ (x.fa == y.fa) = true ∧ (x.fb == y.fb) = true ∧ (x.fc == y.fc) = true ∧ (x.fd == y.fd) = false) := by
  by_cases h0 : x.op = y.op
  case neg => exact .inl (by simpa using h0)
  by_cases h1 : x.fa = y.fa
  case neg => exact .inr (.inl ⟨by simpa using h0, by simpa using h1⟩)
  by_cases h2 : x.fb = y.fb
  case neg => exact .inr (.inr (.inl ⟨by simpa using h0, by simpa using h1, by simpa using h2⟩))
  by_cases h3 : x.fc = y.fc
  case neg => exact .inr (.inr (.inr (.inl ⟨by simpa using h0, by simpa using h1, by simpa using h2, by simpa using h3⟩)))
  exact .inr (.inr (.inr (.inr ⟨by simpa using h0, by simpa using h1, by simpa using h2, by simpa using h3, by simpa using fun e => h (Ins.ext' h0 h1 h2 h3 e)⟩)))

set_option maxHeartbeats 1000000 in
theorem eqIn_one (x y : Ins) (w : World) :
    Calls Tryd.prog 91 #[.agg #[.int .i64 x.op, .int .i64 x.fa, .int .i64 x.fb, .int .i64 x.fc, .int .i64 x.fd], .agg #[.int .i64 y.op, .int .i64 y.fa, .int .i64 y.fb, .int .i64 y.fc, .int .i64 y.fd]] w (YN (decide (x = y)) w) := by
  have HB := Lib.hid ((((Below.refl w.heap.size w)).alloc (Nat.le_refl _) (.cells #[.int .i64 x.op, .int .i64 x.fa, .int .i64 x.fb, .int .i64 x.fc, .int .i64 x.fd] 50)).alloc (by simp) (.cells #[.int .i64 y.op, .int .i64 y.fa, .int .i64 y.fb, .int .i64 y.fc, .int .i64 y.fd] 50))
  by_cases hxy : x = y
  · have HE : Hid (true = decide (x = y)) := (decide_eq_true hxy).symm
    subst hxy
    have q0 : (x.op != x.op) = false := by simp
    have q1 : (x.fa != x.fa) = false := by simp
    have q2 : (x.fb != x.fb) = false := by simp
    have q3 : (x.fc != x.fc) = false := by simp
    have q4 : (x.fd != x.fd) = false := by simp
    go_enter Tryd.func91, Tryd.ntmps91
    go_wp2_with fail
    go_ret
    exact YN.of HE.out HB.out
  · have HE : Hid (false = decide (x = y)) := (decide_eq_false hxy).symm
    rcases ins_ne hxy with h0 | ⟨h0, h1⟩ | ⟨h0, h1, h2⟩ | ⟨h0, h1, h2, h3⟩ | ⟨h0, h1, h2, h3, h4⟩
    all_goals
      clear hxy
      go_enter Tryd.func91, Tryd.ntmps91
      go_wp2_with fail
      go_ret
      exact YN.of HE.out HB.out

theorem NAt.two {w : World} {D D' : Nat → Prop} {es fs : List Ins} {a a' : Option Addr} (h : NAt w D es a) (h' : NAt w D' fs a') {k : Nat} (hk : k < es.length) (hk' : k < fs.length) :
    ∃ x y b o b' o', es[k]? = some x ∧ fs[k]? = some y ∧ a = some ⟨b, o, none⟩ ∧ a' = some ⟨b', o', none⟩ ∧ b < w.heap.size ∧ b' < w.heap.size ∧
      w.cell? ⟨b, o + k * 5, none⟩ = some (.int .i64 x.op) ∧ w.cell? ⟨b, o + k * 5 + 1, none⟩ = some (.int .i64 x.fa) ∧ w.cell? ⟨b, o + k * 5 + 2, none⟩ = some (.int .i64 x.fb) ∧ w.cell? ⟨b, o + k * 5 + 3, none⟩ = some (.int .i64 x.fc) ∧ w.cell? ⟨b, o + k * 5 + 4, none⟩ = some (.int .i64 x.fd) ∧
      w.cell? ⟨b', o' + k * 5, none⟩ = some (.int .i64 y.op) ∧ w.cell? ⟨b', o' + k * 5 + 1, none⟩ = some (.int .i64 y.fa) ∧ w.cell? ⟨b', o' + k * 5 + 2, none⟩ = some (.int .i64 y.fb) ∧ w.cell? ⟨b', o' + k * 5 + 3, none⟩ = some (.int .i64 y.fc) ∧ w.cell? ⟨b', o' + k * 5 + 4, none⟩ = some (.int .i64 y.fd) := by
  have hx : es[k]? = some es[k] := List.getElem?_eq_getElem _
  have hy : fs[k]? = some fs[k] := List.getElem?_eq_getElem _
  obtain ⟨b, o, rfl, _, e0, e1, e2, e3, e4⟩ := h.2 k _ hx
  obtain ⟨b', o', rfl, _, g0, g1, g2, g3, g4⟩ := h'.2 k _ hy
  exact ⟨_, _, b, o, b', o', hx, hy, rfl, rfl, World.block_lt_of_cell? w _ e0, World.block_lt_of_cell? w _ g0, e0, e1, e2, e3, e4, g0, g1, g2, g3, g4⟩

set_option maxHeartbeats 4000000 in
/-- **eqInstrS.** -/
theorem eqInS_one (es fs : List Ins) (a a' : Option Addr) (cap cap' : Nat) (w : World) {D D' : Nat → Prop} (h : NAt w D es a) (h' : NAt w D' fs a') (hD : ∀ j, D j → j < w.heap.size) (hD' : ∀ j, D' j → j < w.heap.size) :
    Calls Tryd.prog 47 #[.slice a es.length cap, .slice a' fs.length cap'] w (YN (decide (es = fs)) w) := by
  have hm := h.1
  have hm' := h'.1
  unfold maxLen at hm hm'
  have HT : Hid (∀ v, Below w.heap.size w v → ∀ k, k < es.length → k < fs.length → ∃ x y b o b' o', es[k]? = some x ∧ fs[k]? = some y ∧ a = some ⟨b, o, none⟩ ∧ a' = some ⟨b', o', none⟩ ∧ b < v.heap.size ∧ b' < v.heap.size ∧
      v.cell? ⟨b, o + k * 5, none⟩ = some (.int .i64 x.op) ∧ v.cell? ⟨b, o + k * 5 + 1, none⟩ = some (.int .i64 x.fa) ∧ v.cell? ⟨b, o + k * 5 + 2, none⟩ = some (.int .i64 x.fb) ∧ v.cell? ⟨b, o + k * 5 + 3, none⟩ = some (.int .i64 x.fc) ∧ v.cell? ⟨b, o + k * 5 + 4, none⟩ = some (.int .i64 x.fd) ∧
      v.cell? ⟨b', o' + k * 5, none⟩ = some (.int .i64 y.op) ∧ v.cell? ⟨b', o' + k * 5 + 1, none⟩ = some (.int .i64 y.fa) ∧ v.cell? ⟨b', o' + k * 5 + 2, none⟩ = some (.int .i64 y.fb) ∧ v.cell? ⟨b', o' + k * 5 + 3, none⟩ = some (.int .i64 y.fc) ∧ v.cell? ⟨b', o' + k * 5 + 4, none⟩ = some (.int .i64 y.fd)) := fun v hv k hk hk' =>
    NAt.two (h.wide (fun j hj => hv.block j (hD j hj)) fun _ x => x) (h'.wide (fun j hj => hv.block j (hD' j hj)) fun _ x => x) hk hk'
  clear h h'
  obtain ⟨len, hlen⟩ : ∃ len, es.length = len := ⟨_, rfl⟩
  obtain ⟨len', hlen'⟩ : ∃ len', fs.length = len' := ⟨_, rfl⟩
  have HLEN := Lib.hid hlen
  have HLEN' := Lib.hid hlen'
  rw [hlen] at hm HT ⊢
  rw [hlen'] at hm' HT ⊢
  clear hlen hlen'
  by_cases hne : len = len'
  · subst hne
    go_enter Tryd.func47, Tryd.ntmps47
    go_wp2_with fail
    go_loopw [5] (fun i wr => ∃ k : Nat, k ≤ len ∧ i = .int .i64 k ∧ SameUp es fs k ∧ Below w.heap.size w wr) (fun i _ => len - (intOf i).toNat)
    case atStart => exact ⟨0, Nat.zero_le _, rfl, fun j hj => absurd hj (Nat.not_lt_zero _), Below.refl _ _⟩
    case round =>
      obtain ⟨k, hk, rfl, hS, hB⟩ := hrel
      have HS := Lib.hid hS
      have HB := Lib.hid hB
      clear hS hB
      by_cases hlt : k < len
      · obtain ⟨x, y, b, o, b', o', hx, hy, rfl, rfl, _, _, r0, r1, r2, r3, r4, s0, s1, s2, s3, s4⟩ := HT.out wr HB.out k hlt hlt
        have hsz := HB.out.size
        have HX := Lib.hid hx
        have HY := Lib.hid hy
        clear hx hy HT
        by_cases hxy : x = y
        · have HQ : Hid (decide (x = y) = true) := decide_eq_true hxy
          have HS2 : Hid (SameUp es fs (k + 1)) := HS.out.succ (by rw [HX.out, HY.out, hxy])
          clear hxy
          go_wp2_with fail
          go_region_with (go_at_call 91; refine (eqIn_one x y _).mono ?_; rintro e w2 ⟨rfl, hb2⟩; rw [HQ.out]; have HB2 : Hid (Below w.heap.size w w2) := (HB.out.drew.trans (hb2.mono hsz)); clear hb2)
          all_goals
            go_wp2_with fail
            go_roundw
            case rel => exact ⟨k + 1, by omega, by go_num, HS2.out, HB2.out⟩
            case measure => simp [intOf]; omega
        · have HQ : Hid (decide (x = y) = false) := decide_eq_false hxy
          have HN : Hid (false = decide (es = fs)) := (decide_eq_false fun e => hxy (by have h1 := HX.out; rw [e, HY.out] at h1; cases h1; rfl)).symm
          clear hxy
          go_wp2_with fail
          go_region_with (go_at_call 91; refine (eqIn_one x y _).mono ?_; rintro e w2 ⟨rfl, hb2⟩; rw [HQ.out]; have HB2 : Hid (Below w.heap.size w w2) := (HB.out.drew.trans (hb2.mono hsz)); clear hb2)
          all_goals
            go_wp2_with fail
            go_ret
            exact YN.of HN.out HB2.out
      · obtain rfl : k = len := by omega
        have HN : Hid (true = decide (es = fs)) := (decide_eq_true (HS.out.all HLEN.out HLEN'.out)).symm
        clear HT
        go_wp2_with fail
        go_ret
        exact YN.of HN.out HB.out
  · have hne' : ((len : Int) != (len' : Int)) = true := by simp; omega
    have HN : Hid (false = decide (es = fs)) := (decide_eq_false fun e => hne (by rw [← HLEN.out, ← HLEN'.out, e])).symm
    clear HT
    go_enter Tryd.func47, Tryd.ntmps47
    go_wp2_with fail
    go_ret
    exact YN.of HN.out (Below.refl _ _)

end Go.Proofs.YtbifbmpflhdijaaDoor

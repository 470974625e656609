/- Programs in memory: what it says that a program lies in memory, in blocks of a set D, and that it lies on where those blocks stand. -/
import Derived.Test.YtbifbmpflhdijaaDoorTreeS
import Derived.Test.YtbifbmpflhdijaaDoorSlB
namespace Go.Proofs.YtbifbmpflhdijaaDoor
open Go.RowKit Go.ChangeShapes Go.WideShapes Go.Deep

/-- The addresses and capacities that a program's cells bear. -/
structure PC where
  va : Option Addr
  vc : Nat
  aa : Option Addr
  ac : Nat
  ba : Option Addr
  bc : Nat

/-- The elements of a slice of ints. -/
def IntsAt (w : World) (D : Nat → Prop) (xs : List Int) (a : Option Addr) : Prop :=
  ∀ k, k < xs.length → ∃ b o, a = some ⟨b, o, none⟩ ∧ D b ∧ w.cell? ⟨b, o + k, none⟩ = some (.int .i64 (xs.getD k 0))
theorem IntsAt.wide {w w' : World} {D D' : Nat → Prop} {xs : List Int} {a : Option Addr} (h : IntsAt w D xs a) (hb : Stand D w w') (hl : ∀ k, D k → D' k) : IntsAt w' D' xs a := fun k hk => by
  obtain ⟨b, o, ha, hd, hc⟩ := h k hk
  exact ⟨b, o, ha, hl b hd, (World.cell?_of_block (w := w) (hb b hd)).trans hc⟩
theorem IntsAt.slice {w : World} {D : Nat → Prop} {xs : List Int} {a : Option Addr} (h : IntsAt w D xs a) (hm : xs.length ≤ maxLen) : SliceI w a xs.length xs := ⟨hm, rfl, fun k hk => by
  obtain ⟨b, o, ha, _, hc⟩ := h k hk
  exact ⟨b, o, ha, hc⟩⟩

/-- A program whose cells bear k. -/
def IsP (w : World) (D : Nat → Prop) (n : Nat) (p : Pg) (k : PC) : Prop :=
  (p.vars.length ≤ k.vc ∧ k.vc ≤ maxLen ∧ IntsAt w D p.vars k.va) ∧ (p.arrs.length ≤ k.ac ∧ k.ac ≤ maxLen ∧ IntsAt w D p.arrs k.aa) ∧
    (p.body.length ≤ k.bc ∧ k.bc ≤ maxLen ∧ SsAt w D (IsS w D n) p.body k.ba)
theorem IsP.mono {w w' : World} {D D' : Nat → Prop} (hb : Stand D w w') (hl : ∀ k, D k → D' k) {n : Nat} {p : Pg} {k : PC} (h : IsP w D n p k) : IsP w' D' n p k :=
  ⟨⟨h.1.1, h.1.2.1, h.1.2.2.wide hb hl⟩, ⟨h.2.1.1, h.2.1.2.1, h.2.1.2.2.wide hb hl⟩, ⟨h.2.2.1, h.2.2.2.1, h.2.2.2.2.wide hb hl⟩⟩
theorem IsP.later {w w' : World} {D : Nat → Prop} {n : Nat} {p : Pg} {k : PC} (h : IsP w D n p k) (hb : Stand D w w') : IsP w' D n p k := h.mono hb fun _ x => x

def SmP (m n : Nat) (p : Pg) : Prop := p.vars.length ≤ m ∧ p.arrs.length ≤ m ∧ p.body.length ≤ m ∧ ∀ (i : Nat) (x : S), p.body[i]? = some x → SmS m n x

abbrev arrP (p : Pg) (k : PC) : Array Value := #[.slice k.va p.vars.length k.vc, .slice k.aa p.arrs.length k.ac, .slice k.ba p.body.length k.bc]
/-- A program by value. -/
abbrev aggP (p : Pg) (k : PC) : Value := .agg #[.slice k.va p.vars.length k.vc, .slice k.aa p.arrs.length k.ac, .slice k.ba p.body.length k.bc]
/-- A block that is one program's box. -/
def BoxP (w : World) (b : Nat) (p : Pg) (k : PC) : Prop := ∃ T, w.heap[b]? = some (.cells (arrP p k) T (0, 0))
theorem BoxP.new (w : World) (p : Pg) (k : PC) (T : TypeId) : BoxP (w.alloc (.cells (arrP p k) T)) w.heap.size p k := ⟨T, heap_alloc_new w _⟩
theorem BoxP.later {w w' : World} {b : Nat} {p : Pg} {k : PC} (h : BoxP w b p k) (hb : w'.heap[b]? = w.heap[b]?) : BoxP w' b p k := by obtain ⟨T, h⟩ := h; exact ⟨T, hb.trans h⟩
theorem BoxP.below {w w' : World} {b B : Nat} {p : Pg} {k : PC} (h : BoxP w b p k) (hb : Below B w w') (hlt : b < B) : BoxP w' b p k := h.later (hb.block b hlt)
theorem BoxP.lt {w : World} {b : Nat} {p : Pg} {k : PC} (h : BoxP w b p k) : b < w.heap.size := by obtain ⟨T, h⟩ := h; exact (Array.getElem?_eq_some_iff.1 h).1
theorem BoxP.c0 {w : World} {b : Nat} {p : Pg} {k : PC} (h : BoxP w b p k) : w.cell? ⟨b, 0, none⟩ = some (.slice k.va p.vars.length k.vc) := by obtain ⟨T, h⟩ := h; rw [cell_at h]; rfl
theorem BoxP.c1 {w : World} {b : Nat} {p : Pg} {k : PC} (h : BoxP w b p k) : w.cell? ⟨b, 1, none⟩ = some (.slice k.aa p.arrs.length k.ac) := by obtain ⟨T, h⟩ := h; rw [cell_at h]; rfl
theorem BoxP.c2 {w : World} {b : Nat} {p : Pg} {k : PC} (h : BoxP w b p k) : w.cell? ⟨b, 2, none⟩ = some (.slice k.ba p.body.length k.bc) := by obtain ⟨T, h⟩ := h; rw [cell_at h]; rfl

/-- The three cells of an expression's box. -/
def BoxE (w : World) (b : Nat) (e : E) (a : Option Addr) (c : Nat) : Prop := ∃ T, w.heap[b]? = some (.cells #[.int .i64 e.kind, .int .i64 e.value, .slice a e.kids.length c] T (0, 0))
theorem BoxE.new (w : World) (e : E) (a : Option Addr) (c : Nat) (T : TypeId) : BoxE (w.alloc (.cells #[.int .i64 e.kind, .int .i64 e.value, .slice a e.kids.length c] T)) w.heap.size e a c := ⟨T, heap_alloc_new w _⟩
theorem BoxE.later {w w' : World} {b : Nat} {e : E} {a : Option Addr} {c : Nat} (h : BoxE w b e a c) (hb : w'.heap[b]? = w.heap[b]?) : BoxE w' b e a c := by obtain ⟨T, h⟩ := h; exact ⟨T, hb.trans h⟩
theorem BoxE.below {w w' : World} {b B : Nat} {e : E} {a : Option Addr} {c : Nat} (h : BoxE w b e a c) (hb : Below B w w') (hlt : b < B) : BoxE w' b e a c := h.later (hb.block b hlt)
theorem BoxE.lt {w : World} {b : Nat} {e : E} {a : Option Addr} {c : Nat} (h : BoxE w b e a c) : b < w.heap.size := by obtain ⟨T, h⟩ := h; exact (Array.getElem?_eq_some_iff.1 h).1
theorem BoxE.c0 {w : World} {b : Nat} {e : E} {a : Option Addr} {c : Nat} (h : BoxE w b e a c) : w.cell? ⟨b, 0, none⟩ = some (.int .i64 e.kind) := by obtain ⟨T, h⟩ := h; rw [cell_at h]; rfl
theorem BoxE.c1 {w : World} {b : Nat} {e : E} {a : Option Addr} {c : Nat} (h : BoxE w b e a c) : w.cell? ⟨b, 1, none⟩ = some (.int .i64 e.value) := by obtain ⟨T, h⟩ := h; rw [cell_at h]; rfl
theorem BoxE.c2 {w : World} {b : Nat} {e : E} {a : Option Addr} {c : Nat} (h : BoxE w b e a c) : w.cell? ⟨b, 2, none⟩ = some (.slice a e.kids.length c) := by obtain ⟨T, h⟩ := h; rw [cell_at h]; rfl

end Go.Proofs.YtbifbmpflhdijaaDoor

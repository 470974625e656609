/- Statements as trees: what it says that a statement lies in memory, in blocks of a set D, and that it lies on where those blocks stand. -/
import Derived.Test.YtbifbmpflhdijaaDoorTree
import Derived.Laws.OwnMore
namespace Go.Proofs.YtbifbmpflhdijaaDoor
open Go.RowKit Go.ChangeShapes Go.WideShapes Go.Deep

/-- The addresses and capacities that a statement's cells bear. -/
structure SC where
  ia : Option Addr
  ic : Nat
  va : Option Addr
  vc : Nat
  ba : Option Addr
  bc : Nat
  ea : Option Addr
  ec : Nat

abbrev cellsI (e : E) (a : Option Addr) (c : Nat) : List Value := [.int .i64 e.kind, .int .i64 e.value, .slice a e.kids.length c]

/-- The eleven cells of a statement stand at b, o. -/
structure Row11 (w : World) (b o : Nat) (s : S) (k : SC) : Prop where
  r0 : w.cell? ⟨b, o, none⟩ = some (.int .i64 s.kind)
  r1 : w.cell? ⟨b, o + 1, none⟩ = some (.int .i64 s.target)
  r2 : w.cell? ⟨b, o + 2, none⟩ = some (.int .i64 s.index.kind)
  r3 : w.cell? ⟨b, o + 3, none⟩ = some (.int .i64 s.index.value)
  r4 : w.cell? ⟨b, o + 4, none⟩ = some (.slice k.ia s.index.kids.length k.ic)
  r5 : w.cell? ⟨b, o + 5, none⟩ = some (.int .i64 s.value.kind)
  r6 : w.cell? ⟨b, o + 6, none⟩ = some (.int .i64 s.value.value)
  r7 : w.cell? ⟨b, o + 7, none⟩ = some (.slice k.va s.value.kids.length k.vc)
  r8 : w.cell? ⟨b, o + 8, none⟩ = some (.int .i64 s.count)
  r9 : w.cell? ⟨b, o + 9, none⟩ = some (.slice k.ba s.body.length k.bc)
  r10 : w.cell? ⟨b, o + 10, none⟩ = some (.slice k.ea s.els.length k.ec)
theorem Row11.stand {w w' : World} {b o : Nat} {s : S} {k : SC} (h : Row11 w b o s k) (hb : w'.heap[b]? = w.heap[b]?) : Row11 w' b o s k :=
  ⟨(World.cell?_of_block (w := w) hb).trans h.r0, (World.cell?_of_block (w := w) hb).trans h.r1, (World.cell?_of_block (w := w) hb).trans h.r2, (World.cell?_of_block (w := w) hb).trans h.r3, (World.cell?_of_block (w := w) hb).trans h.r4, (World.cell?_of_block (w := w) hb).trans h.r5, (World.cell?_of_block (w := w) hb).trans h.r6, (World.cell?_of_block (w := w) hb).trans h.r7, (World.cell?_of_block (w := w) hb).trans h.r8, (World.cell?_of_block (w := w) hb).trans h.r9, (World.cell?_of_block (w := w) hb).trans h.r10⟩

/-- The elements of a slice of statements. -/
def SsAt (w : World) (D : Nat → Prop) (R : S → SC → Prop) (ss : List S) (a : Option Addr) : Prop :=
  ∀ i x, ss[i]? = some x → ∃ b o k, a = some ⟨b, o, none⟩ ∧ D b ∧ Row11 w b (o + i * 11) x k ∧ R x k

/-- A statement whose cells bear k, of depth at most n, whose memory lies in blocks of D. -/
def IsS (w : World) (D : Nat → Prop) : Nat → S → SC → Prop
  | 0 => fun _ _ => False
  | n + 1 => fun s k => IsE w D n s.index (cellsI s.index k.ia k.ic) ∧ IsE w D n s.value (cellsI s.value k.va k.vc) ∧
      s.body.length ≤ k.bc ∧ k.bc ≤ maxLen ∧ SsAt w D (IsS w D n) s.body k.ba ∧ s.els.length ≤ k.ec ∧ k.ec ≤ maxLen ∧ SsAt w D (IsS w D n) s.els k.ea

theorem SsAt.mono {w w' : World} {D D' : Nat → Prop} {R R' : S → SC → Prop} {ss : List S} {a : Option Addr} (h : SsAt w D R ss a) (hb : Stand D w w') (hl : ∀ k, D k → D' k) (hR : ∀ x cs, R x cs → R' x cs) : SsAt w' D' R' ss a := fun i x hx => by
  obtain ⟨b, o, k, ha, hlt, hr, hR1⟩ := h i x hx
  exact ⟨b, o, k, ha, hl _ hlt, hr.stand (hb b hlt), hR _ _ hR1⟩

theorem IsS.mono {w w' : World} {D D' : Nat → Prop} (hb : Stand D w w') (hl : ∀ k, D k → D' k) : ∀ {n : Nat} {s : S} {k : SC}, IsS w D n s k → IsS w' D' n s k
  | 0, _, _, h => h.elim
  | _ + 1, _, _, ⟨h1, h2, h3, h4, h5, h6, h7, h8⟩ => ⟨h1.mono hb hl, h2.mono hb hl, h3, h4, h5.mono hb hl fun _ _ hx => IsS.mono hb hl hx, h6, h7, h8.mono hb hl fun _ _ hx => IsS.mono hb hl hx⟩

theorem IsS.later {w w' : World} {D : Nat → Prop} {n : Nat} {s : S} {k : SC} (h : IsS w D n s k) (hb : Stand D w w') : IsS w' D n s k := h.mono hb fun _ x => x
theorem SsAt.later {w w' : World} {D : Nat → Prop} {n : Nat} {ss : List S} {a : Option Addr} (h : SsAt w D (IsS w D n) ss a) (hb : Stand D w w') : SsAt w' D (IsS w' D n) ss a := h.mono hb (fun _ x => x) fun _ _ hx => hx.later hb
theorem SsAt.wide {w w' : World} {D D' : Nat → Prop} {n : Nat} {ss : List S} {a : Option Addr} (h : SsAt w D (IsS w D n) ss a) (hb : Stand D w w') (hl : ∀ k, D k → D' k) : SsAt w' D' (IsS w' D' n) ss a := h.mono hb hl fun _ _ hx => hx.mono hb hl

/-- Every list of the statement has at most m elements. -/
def SmS (m : Nat) : Nat → S → Prop
  | 0 => fun _ => True
  | n + 1 => fun s => SmE m n s.index ∧ SmE m n s.value ∧ s.body.length ≤ m ∧ (∀ (i : Nat) (x : S), s.body[i]? = some x → SmS m n x) ∧ s.els.length ≤ m ∧ (∀ (i : Nat) (x : S), s.els[i]? = some x → SmS m n x)

/-- A statement by value. -/
abbrev aggS (s : S) (k : SC) : Value := .agg #[.int .i64 s.kind, .int .i64 s.target, .int .i64 s.index.kind, .int .i64 s.index.value, .slice k.ia s.index.kids.length k.ic, .int .i64 s.value.kind, .int .i64 s.value.value, .slice k.va s.value.kids.length k.vc, .int .i64 s.count, .slice k.ba s.body.length k.bc, .slice k.ea s.els.length k.ec]

theorem IsE.deeper' {w : World} {D : Nat → Prop} : ∀ {n m : Nat} {e : E} {cs : List Value}, n ≤ m → IsE w D n e cs → IsE w D m e cs
  | 0, _, _, _, _, h => h.elim
  | _ + 1, 0, _, _, hl, _ => absurd hl (by omega)
  | n + 1, m + 1, _, _, hl, ⟨a, cap, h0, h1, h2, h3⟩ => ⟨a, cap, h0, h1, h2, h3.mono (fun _ _ => rfl) (fun _ x => x) fun _ _ hx => IsE.deeper' (by omega) hx⟩
theorem IsS.deeper {w : World} {D : Nat → Prop} : ∀ {n m : Nat} {s : S} {k : SC}, n ≤ m → IsS w D n s k → IsS w D m s k
  | 0, _, _, _, _, h => h.elim
  | _ + 1, 0, _, _, hl, _ => absurd hl (by omega)
  | n + 1, m + 1, _, _, hl, ⟨h1, h2, h3, h4, h5, h6, h7, h8⟩ => ⟨h1.deeper' (by omega), h2.deeper' (by omega), h3, h4, h5.mono (fun _ _ => rfl) (fun _ x => x) fun _ _ hx => IsS.deeper (by omega) hx, h6, h7, h8.mono (fun _ _ => rfl) (fun _ x => x) fun _ _ hx => IsS.deeper (by omega) hx⟩

/-- The cells of a statement by value. -/
abbrev arrS (s : S) (k : SC) : Array Value := #[.int .i64 s.kind, .int .i64 s.target, .int .i64 s.index.kind, .int .i64 s.index.value, .slice k.ia s.index.kids.length k.ic, .int .i64 s.value.kind, .int .i64 s.value.value, .slice k.va s.value.kids.length k.vc, .int .i64 s.count, .slice k.ba s.body.length k.bc, .slice k.ea s.els.length k.ec]
/-- A block that is one statement's box. -/
def BoxS (w : World) (b : Nat) (s : S) (k : SC) : Prop := ∃ T, w.heap[b]? = some (.cells (arrS s k) T (0, 0))
theorem BoxS.new (w : World) (s : S) (k : SC) (T : TypeId) : BoxS (w.alloc (.cells (arrS s k) T)) w.heap.size s k := ⟨T, heap_alloc_new w _⟩
theorem BoxS.later {w w' : World} {b : Nat} {s : S} {k : SC} (h : BoxS w b s k) (hb : w'.heap[b]? = w.heap[b]?) : BoxS w' b s k := by obtain ⟨T, h⟩ := h; exact ⟨T, hb.trans h⟩
theorem BoxS.below {w w' : World} {b B : Nat} {s : S} {k : SC} (h : BoxS w b s k) (hb : Below B w w') (hlt : b < B) : BoxS w' b s k := h.later (hb.block b hlt)
theorem BoxS.lt {w : World} {b : Nat} {s : S} {k : SC} (h : BoxS w b s k) : b < w.heap.size := by obtain ⟨T, h⟩ := h; exact (Array.getElem?_eq_some_iff.1 h).1
theorem cell_at {w : World} {b : Nat} {cs : Array Value} {T : TypeId} (h : w.heap[b]? = some (.cells cs T (0, 0))) (o : Nat) : w.cell? ⟨b, o, none⟩ = cs[o]? := by simp [World.cell?, h]
theorem BoxS.c0 {w : World} {b : Nat} {s : S} {k : SC} (h : BoxS w b s k) : w.cell? ⟨b, 0, none⟩ = some (.int .i64 s.kind) := by obtain ⟨T, h⟩ := h; rw [cell_at h]; rfl
theorem BoxS.c1 {w : World} {b : Nat} {s : S} {k : SC} (h : BoxS w b s k) : w.cell? ⟨b, 1, none⟩ = some (.int .i64 s.target) := by obtain ⟨T, h⟩ := h; rw [cell_at h]; rfl
theorem BoxS.c2 {w : World} {b : Nat} {s : S} {k : SC} (h : BoxS w b s k) : w.cell? ⟨b, 2, none⟩ = some (.int .i64 s.index.kind) := by obtain ⟨T, h⟩ := h; rw [cell_at h]; rfl
theorem BoxS.c3 {w : World} {b : Nat} {s : S} {k : SC} (h : BoxS w b s k) : w.cell? ⟨b, 3, none⟩ = some (.int .i64 s.index.value) := by obtain ⟨T, h⟩ := h; rw [cell_at h]; rfl
theorem BoxS.c4 {w : World} {b : Nat} {s : S} {k : SC} (h : BoxS w b s k) : w.cell? ⟨b, 4, none⟩ = some (.slice k.ia s.index.kids.length k.ic) := by obtain ⟨T, h⟩ := h; rw [cell_at h]; rfl
theorem BoxS.c5 {w : World} {b : Nat} {s : S} {k : SC} (h : BoxS w b s k) : w.cell? ⟨b, 5, none⟩ = some (.int .i64 s.value.kind) := by obtain ⟨T, h⟩ := h; rw [cell_at h]; rfl
theorem BoxS.c6 {w : World} {b : Nat} {s : S} {k : SC} (h : BoxS w b s k) : w.cell? ⟨b, 6, none⟩ = some (.int .i64 s.value.value) := by obtain ⟨T, h⟩ := h; rw [cell_at h]; rfl
theorem BoxS.c7 {w : World} {b : Nat} {s : S} {k : SC} (h : BoxS w b s k) : w.cell? ⟨b, 7, none⟩ = some (.slice k.va s.value.kids.length k.vc) := by obtain ⟨T, h⟩ := h; rw [cell_at h]; rfl
theorem BoxS.c8 {w : World} {b : Nat} {s : S} {k : SC} (h : BoxS w b s k) : w.cell? ⟨b, 8, none⟩ = some (.int .i64 s.count) := by obtain ⟨T, h⟩ := h; rw [cell_at h]; rfl
theorem BoxS.c9 {w : World} {b : Nat} {s : S} {k : SC} (h : BoxS w b s k) : w.cell? ⟨b, 9, none⟩ = some (.slice k.ba s.body.length k.bc) := by obtain ⟨T, h⟩ := h; rw [cell_at h]; rfl
theorem BoxS.c10 {w : World} {b : Nat} {s : S} {k : SC} (h : BoxS w b s k) : w.cell? ⟨b, 10, none⟩ = some (.slice k.ea s.els.length k.ec) := by obtain ⟨T, h⟩ := h; rw [cell_at h]; rfl

end Go.Proofs.YtbifbmpflhdijaaDoor

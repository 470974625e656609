/- Expressions as trees: what it says that a tree lies in memory, in blocks of a set D, and that it lies on where those blocks stand. -/
import Derived.Test.YtbifbmpflhdijaaDoorProg
import Derived.Test.YtbifbmpflhdijaaDoorDat
import Derived.WalkKit
import Derived.Below
import Derived.Lib.Hide
import Derived.Deep.Slices
import Derived.Deep.Fields
import Derived.ChangeSame
namespace Go.Proofs.YtbifbmpflhdijaaDoor
open Go.RowKit Go.ChangeShapes Go.WideShapes Go.Deep

/-- The elements of a slice of structs of three cells. -/
def EsAt (w : World) (D : Nat → Prop) (R : E → List Value → Prop) (es : List E) (a : Option Addr) : Prop :=
  ∀ i x, es[i]? = some x → ∃ b o c0 c1 c2, a = some ⟨b, o, none⟩ ∧ D b ∧ w.cell? ⟨b, o + i * 3, none⟩ = some c0 ∧ w.cell? ⟨b, o + i * 3 + 1, none⟩ = some c1 ∧ w.cell? ⟨b, o + i * 3 + 2, none⟩ = some c2 ∧ R x [c0, c1, c2]

/-- The three cells cs hold the tree e, of depth at most n, whose memory lies in blocks of D. -/
def IsE (w : World) (D : Nat → Prop) : Nat → E → List Value → Prop
  | 0 => fun _ _ => False
  | n + 1 => fun e cs => ∃ a cap, cs = [.int .i64 e.kind, .int .i64 e.value, .slice a e.kids.length cap] ∧ e.kids.length ≤ cap ∧ cap ≤ maxLen ∧ EsAt w D (IsE w D n) e.kids a

/-- The blocks of D stand. -/
def Stand (D : Nat → Prop) (w w' : World) : Prop := ∀ k, D k → w'.heap[k]? = w.heap[k]?
theorem Stand.of_below {D : Nat → Prop} {B : Nat} {w w' : World} (h : Below B w w') (hD : ∀ k, D k → k < B) : Stand D w w' := fun k hk => h.block k (hD k hk)
theorem Stand.trans {D : Nat → Prop} {a b c : World} (h : Stand D a b) (k : Stand D b c) : Stand D a c := fun i hi => (k i hi).trans (h i hi)

theorem EsAt.mono {w w' : World} {D D' : Nat → Prop} {R R' : E → List Value → Prop} {es : List E} {a : Option Addr} (h : EsAt w D R es a) (hb : Stand D w w') (hl : ∀ k, D k → D' k) (hR : ∀ x cs, R x cs → R' x cs) : EsAt w' D' R' es a := fun i x hx => by
  obtain ⟨b, o, c0, c1, c2, ha, hlt, h0, h1, h2, hr⟩ := h i x hx
  exact ⟨b, o, c0, c1, c2, ha, hl _ hlt, (World.cell?_of_block (w := w) (hb b hlt)).trans h0, (World.cell?_of_block (w := w) (hb b hlt)).trans h1, (World.cell?_of_block (w := w) (hb b hlt)).trans h2, hR _ _ hr⟩

theorem IsE.mono {w w' : World} {D D' : Nat → Prop} (hb : Stand D w w') (hl : ∀ k, D k → D' k) : ∀ {n : Nat} {e : E} {cs : List Value}, IsE w D n e cs → IsE w' D' n e cs
  | 0, _, _, h => h.elim
  | _ + 1, _, _, ⟨a, cap, h0, h1, h2, h3⟩ => ⟨a, cap, h0, h1, h2, h3.mono hb hl fun _ _ hx => IsE.mono hb hl hx⟩

theorem IsE.later {w w' : World} {D : Nat → Prop} {n : Nat} {e : E} {cs : List Value} (h : IsE w D n e cs) (hb : Stand D w w') : IsE w' D n e cs := h.mono hb fun _ x => x
theorem EsAt.later {w w' : World} {D : Nat → Prop} {n : Nat} {es : List E} {a : Option Addr} (h : EsAt w D (IsE w D n) es a) (hb : Stand D w w') : EsAt w' D (IsE w' D n) es a := h.mono hb (fun _ x => x) fun _ _ hx => hx.later hb
theorem EsAt.wide {w w' : World} {D D' : Nat → Prop} {n : Nat} {es : List E} {a : Option Addr} (h : EsAt w D (IsE w D n) es a) (hb : Stand D w w') (hl : ∀ k, D k → D' k) : EsAt w' D' (IsE w' D' n) es a := h.mono hb hl fun _ _ hx => hx.mono hb hl

theorem IsE.shape {w : World} {D : Nat → Prop} {e : E} {c0 c1 c2 : Value} : ∀ {n : Nat}, IsE w D n e [c0, c1, c2] → ∃ a cap, c0 = .int .i64 e.kind ∧ c1 = .int .i64 e.value ∧ c2 = .slice a e.kids.length cap ∧ e.kids.length ≤ cap ∧ cap ≤ maxLen
  | 0, h => h.elim
  | _ + 1, ⟨a, cap, h, h1, h2, _⟩ => by cases h; exact ⟨a, cap, rfl, rfl, rfl, h1, h2⟩

/-- Every list of the tree has at most m elements. -/
def SmE (m : Nat) : Nat → E → Prop
  | 0 => fun _ => True
  | n + 1 => fun e => e.kids.length ≤ m ∧ cntEs e.kids ≤ m ∧ ∀ (i : Nat) (x : E), e.kids[i]? = some x → SmE m n x

/-- The answer of a size function: not above 'left'; where it is not negative, the thing is small. -/
def Sized (p : Prop) (left : Int) (w : World) (e : Ending) (w' : World) : Prop := ∃ v : Int, e = .returned (.int .i64 v) ∧ v ≤ left ∧ (0 ≤ v → p) ∧ Below w.heap.size w w'

/-- The answer of a size function of things that count n nodes. -/
def SizedS (n : Nat) (p : Prop) (left : Int) (w : World) (e : Ending) (w' : World) : Prop := ∃ v : Int, e = .returned (.int .i64 v) ∧ v ≤ left ∧ (0 ≤ v → p ∧ v + n ≤ left) ∧ Below w.heap.size w w'
theorem SizedS.no {n : Nat} {p : Prop} {left : Int} {w w' : World} (h0 : 0 ≤ left) (hb : Below w.heap.size w w') : SizedS n p left w (.returned (.int .i64 (-1))) w' := ⟨-1, rfl, by omega, fun h => absurd h (by omega), hb⟩

/-- A bool; nothing that was there has changed. -/
def AnsB (b : Bool) (w : World) (e : Ending) (w' : World) : Prop := e = .returned (.bool b) ∧ Below w.heap.size w w'
theorem AnsB.of {b c : Bool} (h : b = c) {w w' : World} (hb : Below w.heap.size w w') : AnsB c w (.returned (.bool b)) w' := ⟨by rw [h], hb⟩

end Go.Proofs.YtbifbmpflhdijaaDoor

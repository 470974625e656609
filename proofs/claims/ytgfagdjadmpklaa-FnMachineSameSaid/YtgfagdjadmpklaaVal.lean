/- Programs and expressions of some world as values of the walks: what it says that one lies there, whole and short; the exact laws' helpers at them. -/
import Derived.Test.YtgfagdjadmpklaaToP
import Derived.Test.YtgfagdjadmpklaaEqS
import Derived.Test.YtgfagdjadmpklaaSzP
namespace Go.Proofs.Ytgfagdjadmpklaa
open Go.RowKit
set_option linter.unusedVariables false

/-- A program that lies in the world w, every list of it short. -/
def CP (w : World) (p : Pg) (k : PC) : Prop := ∃ (D : Nat → Prop) (n : Nat), (∀ j, D j → j < w.heap.size) ∧ IsP w D n p k ∧ SmP 1048576 n p
/-- An expression that lies in the world w, every list of it short. -/
def CE (w : World) (e : E) (a : Option Addr) (c : Nat) : Prop := ∃ (D : Nat → Prop) (n : Nat), (∀ j, D j → j < w.heap.size) ∧ IsE w D n e (cellsI e a c) ∧ SmE 1048576 n e
theorem CP.below {w w' : World} {p : Pg} {k : PC} (h : CP w p k) (hb : Below w.heap.size w w') : CP w' p k := by
  obtain ⟨D, n, hD, hp, hs⟩ := h
  exact ⟨D, n, fun j hj => Nat.lt_of_lt_of_le (hD j hj) hb.size, hp.later (Stand.of_below hb hD), hs⟩
theorem CE.below {w w' : World} {e : E} {a : Option Addr} {c : Nat} (h : CE w e a c) (hb : Below w.heap.size w w') : CE w' e a c := by
  obtain ⟨D, n, hD, hp, hs⟩ := h
  exact ⟨D, n, fun j hj => Nat.lt_of_lt_of_le (hD j hj) hb.size, hp.later (Stand.of_below hb hD), hs⟩
theorem CE.cnt {w : World} {e : E} {a : Option Addr} {c : Nat} (h : CE w e a c) : cntE e ≤ 1099511627776 := by
  obtain ⟨D, n, hD, hp, hs⟩ := h
  cases n with
  | zero => exact hp.elim
  | succ n => have := hs.2.1; rw [cntE_eq]; omega
theorem IsP.deeper {w : World} {D : Nat → Prop} {n m : Nat} {p : Pg} {k : PC} (hl : n ≤ m) (h : IsP w D n p k) : IsP w D m p k :=
  ⟨h.1, h.2.1, h.2.2.1, h.2.2.2.1, h.2.2.2.2.mono (fun _ _ => rfl) (fun _ x => x) fun _ _ hx => hx.deeper hl⟩

/-- A program is handed back that reads alike. -/
def CopiedP (p : Pg) (w : World) (f : Ending) (w' : World) : Prop := ∃ k, f = .returned (aggP p k) ∧ CP w' p k ∧ Below w.heap.size w w'
def CopiedE (e : E) (w : World) (f : Ending) (w' : World) : Prop := ∃ a c, f = .returned (.agg #[.int .i64 e.kind, .int .i64 e.value, .slice a e.kids.length c]) ∧ CE w' e a c ∧ Below w.heap.size w w'
theorem toProgC (p : Pg) (k : PC) (w : World) (h : CP w p k) : Calls Try.prog 25 #[aggP p k] w (CopiedP p w) := by
  obtain ⟨D, n, hD, hp, hs⟩ := h
  exact (toProg_one n p k D w hp hD hs).mono fun f w' ⟨k1, h1, h2, h3⟩ => ⟨k1, h1, ⟨_, n, fun j hj => hj.2, h2, hs⟩, h3⟩
theorem toExprC (e : E) (a : Option Addr) (c : Nat) (w : World) (h : CE w e a c) : Calls Try.prog 20 #[.agg #[.int .i64 e.kind, .int .i64 e.value, .slice a e.kids.length c]] w (CopiedE e w) := by
  obtain ⟨D, n, hD, hp, hs⟩ := h
  exact (toExpr_one n e _ _ _ D w hp hD hs).mono fun f w' ⟨c0, c1, c2, h1, h2, h3⟩ => by
    obtain ⟨a', c', rfl, rfl, rfl, _, _⟩ := h2.shape
    exact ⟨a', c', h1, ⟨_, n, fun j hj => hj.2, h2, hs⟩, h3⟩
theorem eqProgC (p : Pg) (k k' : PC) (w : World) (h : CP w p k) (h' : CP w p k') : Calls Try.prog 27 #[aggP p k, aggP p k'] w (Yes w) := by
  obtain ⟨D, n, hD, hp, hs⟩ := h
  obtain ⟨D', n', hD', hp', hs'⟩ := h'
  exact eqProg_one (max n n') p k k' (fun j => D j ∨ D' j) w ((hp.mono (fun _ _ => rfl) fun _ h => .inl h).deeper (Nat.le_max_left _ _)) ((hp'.mono (fun _ _ => rfl) fun _ h => .inr h).deeper (Nat.le_max_right _ _)) fun j hj => hj.elim (hD j) (hD' j)
theorem eqExprC (e : E) (a a' : Option Addr) (c c' : Nat) (w : World) (h : CE w e a c) (h' : CE w e a' c') : Calls Try.prog 22 #[.agg #[.int .i64 e.kind, .int .i64 e.value, .slice a e.kids.length c], .agg #[.int .i64 e.kind, .int .i64 e.value, .slice a' e.kids.length c']] w (Yes w) := by
  obtain ⟨D, n, hD, hp, hs⟩ := h
  obtain ⟨D', n', hD', hp', hs'⟩ := h'
  exact eqExpr_same (max n n') e a a' c c' (fun j => D j ∨ D' j) w ((hp.mono (fun _ _ => rfl) fun _ h => .inl h).deeper' (Nat.le_max_left _ _)) ((hp'.mono (fun _ _ => rfl) fun _ h => .inr h).deeper' (Nat.le_max_right _ _)) fun j hj => hj.elim (hD j) (hD' j)

/-- An argument as it came in, not yet measured. -/
def RP (w : World) (p : Pg) (k : PC) : Prop := ∃ (D : Nat → Prop) (n : Nat), (∀ j, D j → j < w.heap.size) ∧ IsP w D n p k
def RE (w : World) (e : E) (a : Option Addr) (c : Nat) : Prop := ∃ (D : Nat → Prop) (n : Nat), (∀ j, D j → j < w.heap.size) ∧ IsE w D n e (cellsI e a c)
theorem RP.below {w w' : World} {p : Pg} {k : PC} (h : RP w p k) (hb : Below w.heap.size w w') : RP w' p k := by
  obtain ⟨D, n, hD, hp⟩ := h
  exact ⟨D, n, fun j hj => Nat.lt_of_lt_of_le (hD j hj) hb.size, hp.later (Stand.of_below hb hD)⟩
theorem RE.below {w w' : World} {e : E} {a : Option Addr} {c : Nat} (h : RE w e a c) (hb : Below w.heap.size w w') : RE w' e a c := by
  obtain ⟨D, n, hD, hp⟩ := h
  exact ⟨D, n, fun j hj => Nat.lt_of_lt_of_le (hD j hj) hb.size, hp.later (Stand.of_below hb hD)⟩
/-- A measure: where it is not negative the thing lies there, short. -/
def Meas (left : Int) (q : World → Prop) (w : World) (f : Ending) (w' : World) : Prop := ∃ v : Int, f = .returned (.int .i64 v) ∧ v ≤ left ∧ (0 ≤ v → q w') ∧ Below w.heap.size w w'
theorem szProgC (p : Pg) (k : PC) (left : Int) (w : World) (h : RP w p k) (h0 : 0 ≤ left) (h1 : left ≤ 1048576) :
    Calls Try.prog 23 #[aggP p k, .int .i64 left] w (Meas left (fun w' => CP w' p k) w) := by
  obtain ⟨D, n, hD, hp⟩ := h
  exact (szProg_one n p k D left w hp hD h0 h1).mono fun f w' ⟨v, e1, e2, e3, e4⟩ => ⟨v, e1, e2, fun hv => CP.below ⟨D, n, hD, hp, (e3 hv).1⟩ e4, e4⟩
theorem szExprC (e : E) (a : Option Addr) (c : Nat) (left : Int) (w : World) (h : RE w e a c) (h0 : 0 ≤ left) (h1 : left ≤ 1048576) :
    Calls Try.prog 18 #[.agg #[.int .i64 e.kind, .int .i64 e.value, .slice a e.kids.length c], .int .i64 left] w (Meas left (fun w' => CE w' e a c) w) := by
  obtain ⟨D, n, hD, hp⟩ := h
  exact (szExpr_one n e _ _ _ D left w hp hD h0 h1).mono fun f w' ⟨v, e1, e2, e3, e4⟩ => ⟨v, e1, e2, fun hv => CE.below ⟨D, n, hD, hp, (e3 hv).1⟩ e4, e4⟩

end Go.Proofs.Ytgfagdjadmpklaa

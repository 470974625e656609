/- An instruction as a value and in a box; the instructions of valid code. -/
import Derived.Test.YtbifbmpflhdijaaDoorTnP
namespace Go.Proofs.YtbifbmpflhdijaaDoor
open Go.RowKit
set_option linter.unusedVariables false

theorem codeB_ins {m : Cd} (h : codeB m = true) {i : Nat} {x : Ins} (hx : m.list[i]? = some x) : InsT m.vars.length m.arrs.length x := by
  unfold codeB at h
  simp only [Bool.and_eq_true] at h
  exact insB_T (List.all_eq_true.1 h.2.1 x (List.mem_of_getElem? hx))
/-- An instruction as a value, and in a box. -/
abbrev aggI (x : Ins) : Value := .agg #[.int .i64 x.op, .int .i64 x.fa, .int .i64 x.fb, .int .i64 x.fc, .int .i64 x.fd]
abbrev arrI (x : Ins) : Array Value := #[.int .i64 x.op, .int .i64 x.fa, .int .i64 x.fb, .int .i64 x.fc, .int .i64 x.fd]

end Go.Proofs.YtbifbmpflhdijaaDoor

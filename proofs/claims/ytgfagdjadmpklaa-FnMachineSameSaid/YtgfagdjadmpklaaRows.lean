/-
  NARROWER THAN 'FOR EVERY INPUT', by the rows' own cells (each row's printed sentence says how): FnExactExprSame: loops · FnExactProgramSame: loops.
  DERIVED. THE GIVEN ROWS OF THIS SEAT. 8 by the template 'for every input the law returns true; each argument reads behind the call as it read before'; 0 by the template 'total and deterministic' (their statements: YtgfagdjadmpklaaTotals.lean).
  GIVEN WITH THE SEED: the statements are not yours to turn. If you find one false, say at which input.
  Laid BY PROGRAM, IN A SANDBOX (cutbox-rows.mjs): the forced cells as the released guide's own fill.sh prints them over the translation 944bb1a3c81e2c1b… (all of the seat's roots in one cut). By AI agents, Wed Nov 11 2026. No macro, syntax, notation, axiom, sorry.
-/
import Derived.Test.YtgfagdjadmpklaaChecked
import GoSem.Claim
import GoSem.ClaimJoined
import GoSem.ClaimMapViews
import Derived.JoinedTies
import Derived.KernelRfl
namespace Go.Proofs.Ytgfagdjadmpklaa
/- THE CELL 'sum', in the pinned program and in every row, IS THE sha256 OF THE DUMP (.gsa) THAT YtgfagdjadmpklaaProg.lean LOADS. Nothing in Lean hashes anything: it is a label: what it is worth is what the hold of that sum in a sandbox is worth. -/
noncomputable def Try.pinned : Pinned := { name := "ytgfagdjadmpklaa", sum := "944bb1a3c81e2c1b5c0eb6cb9bf367b7d211874495fe8bb9911ff9dba196b21a", checked := Try.checked }
namespace Rows
def none {H : Type} : Left H := { results := [], args := [] }

/-- 'laws.FnMachineSame': WHATEVER THE INPUT: true; the input reads as it did. -/
def fnMachineSameSpec : ChangeSpec := { name := "fnMachineSame", fn := fun _ => fun
  | [d] => { results := [.lit (.bool true)], args := [d] }
  | _ => none }
def fnMachineSameRow : OpenClaim := { program := "ytgfagdjadmpklaa", sum := "944bb1a3c81e2c1b5c0eb6cb9bf367b7d211874495fe8bb9911ff9dba196b21a", func := "loop.example/constanttime/laws.FnMachineSame", spec := "fnMachineSame", unfollowed := true, recurses := true, apart := false }
def FnMachineSameSaid : Prop := fnMachineSameRow.holds Try.pinned (OpenSpec.ofChange fnMachineSameSpec)

/-- ITS FALSE NEIGHBOUR: 'it returns false'. Refute it at one input. -/
def fnMachineSameWrong : ChangeSpec := { name := "fnMachineSame", fn := fun _ => fun
  | [d] => { results := [.lit (.bool false)], args := [d] }
  | _ => none }
def FnMachineSameWrongFalsely : Prop := fnMachineSameRow.holds Try.pinned (OpenSpec.ofChange fnMachineSameWrong)

/-- 'laws.FnProjectTrace': WHATEVER THE INPUT: true; the input reads as it did. -/
def fnProjectTraceSpec : ChangeSpec := { name := "fnProjectTrace", fn := fun _ => fun
  | [d1, d2] => { results := [.lit (.bool true)], args := [d1, d2] }
  | _ => none }
def fnProjectTraceRow : OpenClaim := { program := "ytgfagdjadmpklaa", sum := "944bb1a3c81e2c1b5c0eb6cb9bf367b7d211874495fe8bb9911ff9dba196b21a", func := "loop.example/constanttime/laws.FnProjectTrace", spec := "fnProjectTrace", recurses := true, apart := false }
def FnProjectTraceSaid : Prop := fnProjectTraceRow.holds Try.pinned (OpenSpec.ofChange fnProjectTraceSpec)

/-- ITS FALSE NEIGHBOUR: 'it returns false'. Refute it at one input. -/
def fnProjectTraceWrong : ChangeSpec := { name := "fnProjectTrace", fn := fun _ => fun
  | [d1, d2] => { results := [.lit (.bool false)], args := [d1, d2] }
  | _ => none }
def FnProjectTraceWrongFalsely : Prop := fnProjectTraceRow.holds Try.pinned (OpenSpec.ofChange fnProjectTraceWrong)

/-- 'laws.FnExactExprSame': WHATEVER THE INPUT: true; the input reads as it did. -/
def fnExactExprSameSpec : ChangeSpec := { name := "fnExactExprSame", fn := fun _ => fun
  | [d1, d2] => { results := [.lit (.bool true)], args := [d1, d2] }
  | _ => none }
def fnExactExprSameRow : OpenClaim := { program := "ytgfagdjadmpklaa", sum := "944bb1a3c81e2c1b5c0eb6cb9bf367b7d211874495fe8bb9911ff9dba196b21a", func := "loop.example/constanttime/laws.FnExactExprSame", spec := "fnExactExprSame", unfollowed := true, recurses := true, loops := true, apart := false }
def FnExactExprSameSaid : Prop := fnExactExprSameRow.holds Try.pinned (OpenSpec.ofChange fnExactExprSameSpec)

/-- ITS FALSE NEIGHBOUR: 'it returns false'. Refute it at one input. -/
def fnExactExprSameWrong : ChangeSpec := { name := "fnExactExprSame", fn := fun _ => fun
  | [d1, d2] => { results := [.lit (.bool false)], args := [d1, d2] }
  | _ => none }
def FnExactExprSameWrongFalsely : Prop := fnExactExprSameRow.holds Try.pinned (OpenSpec.ofChange fnExactExprSameWrong)

/-- 'laws.FnExactProgramSame': WHATEVER THE INPUT: true; the input reads as it did. -/
def fnExactProgramSameSpec : ChangeSpec := { name := "fnExactProgramSame", fn := fun _ => fun
  | [d1, d2] => { results := [.lit (.bool true)], args := [d1, d2] }
  | _ => none }
def fnExactProgramSameRow : OpenClaim := { program := "ytgfagdjadmpklaa", sum := "944bb1a3c81e2c1b5c0eb6cb9bf367b7d211874495fe8bb9911ff9dba196b21a", func := "loop.example/constanttime/laws.FnExactProgramSame", spec := "fnExactProgramSame", unfollowed := true, recurses := true, loops := true, apart := false }
def FnExactProgramSameSaid : Prop := fnExactProgramSameRow.holds Try.pinned (OpenSpec.ofChange fnExactProgramSameSpec)

/-- ITS FALSE NEIGHBOUR: 'it returns false'. Refute it at one input. -/
def fnExactProgramSameWrong : ChangeSpec := { name := "fnExactProgramSame", fn := fun _ => fun
  | [d1, d2] => { results := [.lit (.bool false)], args := [d1, d2] }
  | _ => none }
def FnExactProgramSameWrongFalsely : Prop := fnExactProgramSameRow.holds Try.pinned (OpenSpec.ofChange fnExactProgramSameWrong)

/-- 'laws.FnExactMemorySame': WHATEVER THE INPUT: true; the input reads as it did. -/
def fnExactMemorySameSpec : ChangeSpec := { name := "fnExactMemorySame", fn := fun _ => fun
  | [d1, d2] => { results := [.lit (.bool true)], args := [d1, d2] }
  | _ => none }
def fnExactMemorySameRow : OpenClaim := { program := "ytgfagdjadmpklaa", sum := "944bb1a3c81e2c1b5c0eb6cb9bf367b7d211874495fe8bb9911ff9dba196b21a", func := "loop.example/constanttime/laws.FnExactMemorySame", spec := "fnExactMemorySame", unfollowed := true, recurses := true, apart := false }
def FnExactMemorySameSaid : Prop := fnExactMemorySameRow.holds Try.pinned (OpenSpec.ofChange fnExactMemorySameSpec)

/-- ITS FALSE NEIGHBOUR: 'it returns false'. Refute it at one input. -/
def fnExactMemorySameWrong : ChangeSpec := { name := "fnExactMemorySame", fn := fun _ => fun
  | [d1, d2] => { results := [.lit (.bool false)], args := [d1, d2] }
  | _ => none }
def FnExactMemorySameWrongFalsely : Prop := fnExactMemorySameRow.holds Try.pinned (OpenSpec.ofChange fnExactMemorySameWrong)

/-- 'laws.FnExactCodeSame': WHATEVER THE INPUT: true; the input reads as it did. -/
def fnExactCodeSameSpec : ChangeSpec := { name := "fnExactCodeSame", fn := fun _ => fun
  | [d1, d2] => { results := [.lit (.bool true)], args := [d1, d2] }
  | _ => none }
def fnExactCodeSameRow : OpenClaim := { program := "ytgfagdjadmpklaa", sum := "944bb1a3c81e2c1b5c0eb6cb9bf367b7d211874495fe8bb9911ff9dba196b21a", func := "loop.example/constanttime/laws.FnExactCodeSame", spec := "fnExactCodeSame", apart := false }
def FnExactCodeSameSaid : Prop := fnExactCodeSameRow.holds Try.pinned (OpenSpec.ofChange fnExactCodeSameSpec)

/-- ITS FALSE NEIGHBOUR: 'it returns false'. Refute it at one input. -/
def fnExactCodeSameWrong : ChangeSpec := { name := "fnExactCodeSame", fn := fun _ => fun
  | [d1, d2] => { results := [.lit (.bool false)], args := [d1, d2] }
  | _ => none }
def FnExactCodeSameWrongFalsely : Prop := fnExactCodeSameRow.holds Try.pinned (OpenSpec.ofChange fnExactCodeSameWrong)

/-- 'laws.FnExactMachineSame': WHATEVER THE INPUT: true; the input reads as it did. -/
def fnExactMachineSameSpec : ChangeSpec := { name := "fnExactMachineSame", fn := fun _ => fun
  | [d1, d2] => { results := [.lit (.bool true)], args := [d1, d2] }
  | _ => none }
def fnExactMachineSameRow : OpenClaim := { program := "ytgfagdjadmpklaa", sum := "944bb1a3c81e2c1b5c0eb6cb9bf367b7d211874495fe8bb9911ff9dba196b21a", func := "loop.example/constanttime/laws.FnExactMachineSame", spec := "fnExactMachineSame", unfollowed := true, recurses := true, apart := false }
def FnExactMachineSameSaid : Prop := fnExactMachineSameRow.holds Try.pinned (OpenSpec.ofChange fnExactMachineSameSpec)

/-- ITS FALSE NEIGHBOUR: 'it returns false'. Refute it at one input. -/
def fnExactMachineSameWrong : ChangeSpec := { name := "fnExactMachineSame", fn := fun _ => fun
  | [d1, d2] => { results := [.lit (.bool false)], args := [d1, d2] }
  | _ => none }
def FnExactMachineSameWrongFalsely : Prop := fnExactMachineSameRow.holds Try.pinned (OpenSpec.ofChange fnExactMachineSameWrong)

/-- 'laws.FnExactProjectTrace': WHATEVER THE INPUT: true; the input reads as it did. -/
def fnExactProjectTraceSpec : ChangeSpec := { name := "fnExactProjectTrace", fn := fun _ => fun
  | [d] => { results := [.lit (.bool true)], args := [d] }
  | _ => none }
def fnExactProjectTraceRow : OpenClaim := { program := "ytgfagdjadmpklaa", sum := "944bb1a3c81e2c1b5c0eb6cb9bf367b7d211874495fe8bb9911ff9dba196b21a", func := "loop.example/constanttime/laws.FnExactProjectTrace", spec := "fnExactProjectTrace", apart := false }
def FnExactProjectTraceSaid : Prop := fnExactProjectTraceRow.holds Try.pinned (OpenSpec.ofChange fnExactProjectTraceSpec)

/-- ITS FALSE NEIGHBOUR: 'it returns false'. Refute it at one input. -/
def fnExactProjectTraceWrong : ChangeSpec := { name := "fnExactProjectTrace", fn := fun _ => fun
  | [d] => { results := [.lit (.bool false)], args := [d] }
  | _ => none }
def FnExactProjectTraceWrongFalsely : Prop := fnExactProjectTraceRow.holds Try.pinned (OpenSpec.ofChange fnExactProjectTraceWrong)

/- THE SECOND FORM. 'bulk': how many values and letters a reading holds, each counted each time it is reached (what is shared counts as often as it is met; a slice's spare places count too). A statement '..UptoSaid' is the law's where the arguments, and the package variables that the reading takes, are together of bulk at most 1048576: NARROWER than '..Said'. Prove '..Said' where nothing that the law and all that it calls make is longer than what came in: it says more and counts as full. Else prove '..UptoSaid'. A law counts once. -/
mutual
def uptoBulk {H : Type} : DataW H → Nat
  | .lit (.string bytes) => bytes.length + 1
  | .lit _ => 1
  | .nil => 1
  | .ptr d => uptoBulk d + 1
  | .slice elems spare => uptoBulkAll elems + uptoBulkAll spare + 1
  | .agg parts => uptoBulkAll parts + 1
  | .iface _ d => uptoBulk d + 1
  | .map entries => uptoBulkEntries entries + 1
  | .held _ => 1
def uptoBulkAll {H : Type} : List (DataW H) → Nat
  | [] => 0
  | d :: r => uptoBulk d + uptoBulkAll r
def uptoBulkEntries {H : Type} : List (Lit × DataW H) → Nat
  | [] => 0
  | x :: r => uptoBulkEntry x + uptoBulkEntries r
def uptoBulkEntry {H : Type} : Lit × DataW H → Nat
  | (.string bytes, d) => bytes.length + uptoBulk d + 1
  | (_, d) => uptoBulk d + 1
 end
def uptoSmall : (H : Type) → List (DataW H) → Bool := fun _ ds => decide (uptoBulkAll ds ≤ 1048576)
def OpenSpec.upto (s : _root_.Go.ChangeSpec) : _root_.Go.OpenSpec := { _root_.Go.OpenSpec.ofChange s with cond := some uptoSmall }

/-- 'laws.FnMachineSame', WHERE WHAT IT READS IS OF BULK AT MOST 1048576: true; the input reads as it did. -/
def fnMachineSameUptoRow : OpenClaim := { program := "ytgfagdjadmpklaa", sum := "944bb1a3c81e2c1b5c0eb6cb9bf367b7d211874495fe8bb9911ff9dba196b21a", func := "loop.example/constanttime/laws.FnMachineSame", spec := "fnMachineSame", unfollowed := true, recurses := true, apart := false, narrowed := true }
def FnMachineSameUptoSaid : Prop := fnMachineSameUptoRow.holds Try.pinned (OpenSpec.upto fnMachineSameSpec)

/-- 'laws.FnProjectTrace', WHERE WHAT IT READS IS OF BULK AT MOST 1048576: true; the input reads as it did. -/
def fnProjectTraceUptoRow : OpenClaim := { program := "ytgfagdjadmpklaa", sum := "944bb1a3c81e2c1b5c0eb6cb9bf367b7d211874495fe8bb9911ff9dba196b21a", func := "loop.example/constanttime/laws.FnProjectTrace", spec := "fnProjectTrace", recurses := true, apart := false, narrowed := true }
def FnProjectTraceUptoSaid : Prop := fnProjectTraceUptoRow.holds Try.pinned (OpenSpec.upto fnProjectTraceSpec)

/-- 'laws.FnExactExprSame', WHERE WHAT IT READS IS OF BULK AT MOST 1048576: true; the input reads as it did. -/
def fnExactExprSameUptoRow : OpenClaim := { program := "ytgfagdjadmpklaa", sum := "944bb1a3c81e2c1b5c0eb6cb9bf367b7d211874495fe8bb9911ff9dba196b21a", func := "loop.example/constanttime/laws.FnExactExprSame", spec := "fnExactExprSame", unfollowed := true, recurses := true, loops := true, apart := false, narrowed := true }
def FnExactExprSameUptoSaid : Prop := fnExactExprSameUptoRow.holds Try.pinned (OpenSpec.upto fnExactExprSameSpec)

/-- 'laws.FnExactProgramSame', WHERE WHAT IT READS IS OF BULK AT MOST 1048576: true; the input reads as it did. -/
def fnExactProgramSameUptoRow : OpenClaim := { program := "ytgfagdjadmpklaa", sum := "944bb1a3c81e2c1b5c0eb6cb9bf367b7d211874495fe8bb9911ff9dba196b21a", func := "loop.example/constanttime/laws.FnExactProgramSame", spec := "fnExactProgramSame", unfollowed := true, recurses := true, loops := true, apart := false, narrowed := true }
def FnExactProgramSameUptoSaid : Prop := fnExactProgramSameUptoRow.holds Try.pinned (OpenSpec.upto fnExactProgramSameSpec)

/-- 'laws.FnExactMemorySame', WHERE WHAT IT READS IS OF BULK AT MOST 1048576: true; the input reads as it did. -/
def fnExactMemorySameUptoRow : OpenClaim := { program := "ytgfagdjadmpklaa", sum := "944bb1a3c81e2c1b5c0eb6cb9bf367b7d211874495fe8bb9911ff9dba196b21a", func := "loop.example/constanttime/laws.FnExactMemorySame", spec := "fnExactMemorySame", unfollowed := true, recurses := true, apart := false, narrowed := true }
def FnExactMemorySameUptoSaid : Prop := fnExactMemorySameUptoRow.holds Try.pinned (OpenSpec.upto fnExactMemorySameSpec)

/-- 'laws.FnExactCodeSame', WHERE WHAT IT READS IS OF BULK AT MOST 1048576: true; the input reads as it did. -/
def fnExactCodeSameUptoRow : OpenClaim := { program := "ytgfagdjadmpklaa", sum := "944bb1a3c81e2c1b5c0eb6cb9bf367b7d211874495fe8bb9911ff9dba196b21a", func := "loop.example/constanttime/laws.FnExactCodeSame", spec := "fnExactCodeSame", apart := false, narrowed := true }
def FnExactCodeSameUptoSaid : Prop := fnExactCodeSameUptoRow.holds Try.pinned (OpenSpec.upto fnExactCodeSameSpec)

/-- 'laws.FnExactMachineSame', WHERE WHAT IT READS IS OF BULK AT MOST 1048576: true; the input reads as it did. -/
def fnExactMachineSameUptoRow : OpenClaim := { program := "ytgfagdjadmpklaa", sum := "944bb1a3c81e2c1b5c0eb6cb9bf367b7d211874495fe8bb9911ff9dba196b21a", func := "loop.example/constanttime/laws.FnExactMachineSame", spec := "fnExactMachineSame", unfollowed := true, recurses := true, apart := false, narrowed := true }
def FnExactMachineSameUptoSaid : Prop := fnExactMachineSameUptoRow.holds Try.pinned (OpenSpec.upto fnExactMachineSameSpec)

/-- 'laws.FnExactProjectTrace', WHERE WHAT IT READS IS OF BULK AT MOST 1048576: true; the input reads as it did. -/
def fnExactProjectTraceUptoRow : OpenClaim := { program := "ytgfagdjadmpklaa", sum := "944bb1a3c81e2c1b5c0eb6cb9bf367b7d211874495fe8bb9911ff9dba196b21a", func := "loop.example/constanttime/laws.FnExactProjectTrace", spec := "fnExactProjectTrace", apart := false, narrowed := true }
def FnExactProjectTraceUptoSaid : Prop := fnExactProjectTraceUptoRow.holds Try.pinned (OpenSpec.upto fnExactProjectTraceSpec)

end Rows
end Go.Proofs.Ytgfagdjadmpklaa

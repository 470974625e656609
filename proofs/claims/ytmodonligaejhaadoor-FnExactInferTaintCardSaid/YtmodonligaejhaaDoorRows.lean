/-
  NARROWER THAN 'FOR EVERY INPUT', by the rows' own cells (each row's printed sentence says how): FnExactCodeValid: laid · FnExactCheckCode: laid · FnExactCheckTaint: laid · FnExactInferTaint: laid.
  DERIVED. THE GIVEN ROWS OF THIS SEAT. 4 by the template 'for every input the law returns true; each argument reads behind the call as it read before'; 0 by the template 'total and deterministic' (their statements: YtmodonligaejhaaDoorTotals.lean).
  GIVEN WITH THE SEED: the statements are not yours to turn. If you find one false, say at which input.
  Laid BY PROGRAM, IN A SANDBOX (cutbox-rows.mjs): the forced cells as the released guide's own fill.sh prints them over the translation e07568dce213e29a… (all of the seat's roots in one cut). By AI agents, Wed Nov 11 2026. No macro, syntax, notation, axiom, sorry.
-/
import Derived.Test.YtmodonligaejhaaDoorChecked
import GoSem.Claim
import GoSem.ClaimJoined
import GoSem.ClaimMapViews
import Derived.JoinedTies
import Derived.KernelRfl
namespace Go.Proofs.YtmodonligaejhaaDoor
/- THE CELL 'sum', in the pinned program and in every row, IS THE sha256 OF THE DUMP (.gsa) THAT YtmodonligaejhaaDoorProg.lean LOADS. Nothing in Lean hashes anything: it is a label: what it is worth is what the hold of that sum in a sandbox is worth. -/
noncomputable def Tryd.pinned : Pinned := { name := "ytmodonligaejhaadoor", sum := "e07568dce213e29a612fdada749922701d52771603ee7a79413957f20ebd6c5f", checked := Tryd.checked }
namespace Rows
def none {H : Type} : Left H := { results := [], args := [] }

/- WHAT THE LISTED PACKAGE-LEVEL VARIABLES READ AS WHEN THE CALL BEGINS. Each datum BY PROGRAM (the guide's laid-datum.mjs) off the statement by which the dump's own 'gosem.cut.vars' lays the variable. In a bare row this is a premise. The card (YtmodonligaejhaaDoorCards.lean) ties it to the program's text. -/
def laid_loop_example_constanttime_impl_instrForms {H : Type} : DataW H := .agg [.agg [.lit (.string []), .agg [.lit (.int .i64 0), .lit (.int .i64 0), .lit (.int .i64 0), .lit (.int .i64 0)]], .agg [.lit (.string [99, 111, 110, 115, 116]), .agg [.lit (.int .i64 1), .lit (.int .i64 2), .lit (.int .i64 0), .lit (.int .i64 0)]], .agg [.lit (.string [103, 101, 116]), .agg [.lit (.int .i64 1), .lit (.int .i64 3), .lit (.int .i64 0), .lit (.int .i64 0)]], .agg [.lit (.string [112, 117, 116]), .agg [.lit (.int .i64 3), .lit (.int .i64 1), .lit (.int .i64 0), .lit (.int .i64 0)]], .agg [.lit (.string [108, 111, 97, 100]), .agg [.lit (.int .i64 1), .lit (.int .i64 4), .lit (.int .i64 1), .lit (.int .i64 0)]], .agg [.lit (.string [115, 116, 111, 114, 101]), .agg [.lit (.int .i64 4), .lit (.int .i64 1), .lit (.int .i64 1), .lit (.int .i64 0)]], .agg [.lit (.string [98, 105, 110]), .agg [.lit (.int .i64 1), .lit (.int .i64 5), .lit (.int .i64 1), .lit (.int .i64 1)]], .agg [.lit (.string [115, 101, 108, 101, 99, 116]), .agg [.lit (.int .i64 1), .lit (.int .i64 1), .lit (.int .i64 1), .lit (.int .i64 1)]], .agg [.lit (.string [106, 117, 109, 112]), .agg [.lit (.int .i64 6), .lit (.int .i64 0), .lit (.int .i64 0), .lit (.int .i64 0)]], .agg [.lit (.string [122, 101, 114, 111]), .agg [.lit (.int .i64 1), .lit (.int .i64 6), .lit (.int .i64 0), .lit (.int .i64 0)]], .agg [.lit (.string [108, 111, 111, 112]), .agg [.lit (.int .i64 1), .lit (.int .i64 6), .lit (.int .i64 0), .lit (.int .i64 0)]], .agg [.lit (.string [114, 101, 108, 101, 97, 115, 101]), .agg [.lit (.int .i64 1), .lit (.int .i64 0), .lit (.int .i64 0), .lit (.int .i64 0)]], .agg [.lit (.string [102, 101, 110, 99, 101]), .agg [.lit (.int .i64 0), .lit (.int .i64 0), .lit (.int .i64 0), .lit (.int .i64 0)]], .agg [.lit (.string [104, 97, 108, 116]), .agg [.lit (.int .i64 0), .lit (.int .i64 0), .lit (.int .i64 0), .lit (.int .i64 0)]]]

/-- 'laws.FnExactCodeValid': WHATEVER THE INPUT: true; the input reads as it did. -/
def fnExactCodeValidSpec : ChangeSpec := { name := "fnExactCodeValid", vars := ["loop.example/constanttime/impl.instrForms"], fn := fun _ => fun
  | [d, g1] => { results := [.lit (.bool true)], args := [d], vars := [g1] }
  | _ => none }
def fnExactCodeValidRow : OpenClaim := { program := "ytmodonligaejhaadoor", sum := "e07568dce213e29a612fdada749922701d52771603ee7a79413957f20ebd6c5f", func := "loop.example/constanttime/laws.FnExactCodeValid", spec := "fnExactCodeValid", unfollowed := true, recurses := true, named := ["loop.example/constanttime/impl.instrForms"], apart := false, laid := [("loop.example/constanttime/impl.instrForms", laid_loop_example_constanttime_impl_instrForms)] }
def FnExactCodeValidSaid : Prop := fnExactCodeValidRow.holds Tryd.pinned (OpenSpec.ofChange fnExactCodeValidSpec)

/-- ITS FALSE NEIGHBOUR: 'it returns false'. Refute it at one input. -/
def fnExactCodeValidWrong : ChangeSpec := { name := "fnExactCodeValid", vars := ["loop.example/constanttime/impl.instrForms"], fn := fun _ => fun
  | [d, g1] => { results := [.lit (.bool false)], args := [d], vars := [g1] }
  | _ => none }
def FnExactCodeValidWrongFalsely : Prop := fnExactCodeValidRow.holds Tryd.pinned (OpenSpec.ofChange fnExactCodeValidWrong)

/-- 'laws.FnExactCheckCode': WHATEVER THE INPUT: true; the input reads as it did. -/
def fnExactCheckCodeSpec : ChangeSpec := { name := "fnExactCheckCode", vars := ["loop.example/constanttime/impl.instrForms"], fn := fun _ => fun
  | [d, g1] => { results := [.lit (.bool true)], args := [d], vars := [g1] }
  | _ => none }
def fnExactCheckCodeRow : OpenClaim := { program := "ytmodonligaejhaadoor", sum := "e07568dce213e29a612fdada749922701d52771603ee7a79413957f20ebd6c5f", func := "loop.example/constanttime/laws.FnExactCheckCode", spec := "fnExactCheckCode", unfollowed := true, recurses := true, named := ["loop.example/constanttime/impl.instrForms"], apart := false, laid := [("loop.example/constanttime/impl.instrForms", laid_loop_example_constanttime_impl_instrForms)] }
def FnExactCheckCodeSaid : Prop := fnExactCheckCodeRow.holds Tryd.pinned (OpenSpec.ofChange fnExactCheckCodeSpec)

/-- ITS FALSE NEIGHBOUR: 'it returns false'. Refute it at one input. -/
def fnExactCheckCodeWrong : ChangeSpec := { name := "fnExactCheckCode", vars := ["loop.example/constanttime/impl.instrForms"], fn := fun _ => fun
  | [d, g1] => { results := [.lit (.bool false)], args := [d], vars := [g1] }
  | _ => none }
def FnExactCheckCodeWrongFalsely : Prop := fnExactCheckCodeRow.holds Tryd.pinned (OpenSpec.ofChange fnExactCheckCodeWrong)

/-- 'laws.FnExactCheckTaint': WHATEVER THE INPUT: true; the input reads as it did. -/
def fnExactCheckTaintSpec : ChangeSpec := { name := "fnExactCheckTaint", vars := ["loop.example/constanttime/impl.instrForms"], fn := fun _ => fun
  | [d1, d2, g1] => { results := [.lit (.bool true)], args := [d1, d2], vars := [g1] }
  | _ => none }
def fnExactCheckTaintRow : OpenClaim := { program := "ytmodonligaejhaadoor", sum := "e07568dce213e29a612fdada749922701d52771603ee7a79413957f20ebd6c5f", func := "loop.example/constanttime/laws.FnExactCheckTaint", spec := "fnExactCheckTaint", unfollowed := true, recurses := true, named := ["loop.example/constanttime/impl.instrForms"], apart := false, laid := [("loop.example/constanttime/impl.instrForms", laid_loop_example_constanttime_impl_instrForms)] }
def FnExactCheckTaintSaid : Prop := fnExactCheckTaintRow.holds Tryd.pinned (OpenSpec.ofChange fnExactCheckTaintSpec)

/-- ITS FALSE NEIGHBOUR: 'it returns false'. Refute it at one input. -/
def fnExactCheckTaintWrong : ChangeSpec := { name := "fnExactCheckTaint", vars := ["loop.example/constanttime/impl.instrForms"], fn := fun _ => fun
  | [d1, d2, g1] => { results := [.lit (.bool false)], args := [d1, d2], vars := [g1] }
  | _ => none }
def FnExactCheckTaintWrongFalsely : Prop := fnExactCheckTaintRow.holds Tryd.pinned (OpenSpec.ofChange fnExactCheckTaintWrong)

/-- 'laws.FnExactInferTaint': WHATEVER THE INPUT: true; the input reads as it did. -/
def fnExactInferTaintSpec : ChangeSpec := { name := "fnExactInferTaint", vars := ["loop.example/constanttime/impl.instrForms"], fn := fun _ => fun
  | [d, g1] => { results := [.lit (.bool true)], args := [d], vars := [g1] }
  | _ => none }
def fnExactInferTaintRow : OpenClaim := { program := "ytmodonligaejhaadoor", sum := "e07568dce213e29a612fdada749922701d52771603ee7a79413957f20ebd6c5f", func := "loop.example/constanttime/laws.FnExactInferTaint", spec := "fnExactInferTaint", unfollowed := true, recurses := true, named := ["loop.example/constanttime/impl.instrForms"], apart := false, laid := [("loop.example/constanttime/impl.instrForms", laid_loop_example_constanttime_impl_instrForms)] }
def FnExactInferTaintSaid : Prop := fnExactInferTaintRow.holds Tryd.pinned (OpenSpec.ofChange fnExactInferTaintSpec)

/-- ITS FALSE NEIGHBOUR: 'it returns false'. Refute it at one input. -/
def fnExactInferTaintWrong : ChangeSpec := { name := "fnExactInferTaint", vars := ["loop.example/constanttime/impl.instrForms"], fn := fun _ => fun
  | [d, g1] => { results := [.lit (.bool false)], args := [d], vars := [g1] }
  | _ => none }
def FnExactInferTaintWrongFalsely : Prop := fnExactInferTaintRow.holds Tryd.pinned (OpenSpec.ofChange fnExactInferTaintWrong)

/- THE SECOND FORM. 'bulk': how many values and letters a reading holds, each counted each time it is reached (what is shared counts as often as it is met; a slice's spare places count too). A statement '..UptoSaid' is the law's where the arguments, and the package variables that the reading takes, are together of bulk at most 1048576: NARROWER than '..Said'. Prove '..Said' where nothing that the law and all that it calls make is longer than what came in: it says more and counts as full. Else prove '..UptoSaid'. A law counts once. -/
mutual
def uptoBulk {H : Type} : DataW H → Nat
  | .lit (.string bytes) => bytes.length + 1
  | .lit _ => 1
  | .nil => 1
  | .ptr d => uptoBulk d + 1
  | .slice elems spare => uptoBulkAll elems + uptoBulkAll spare + 1
  | .agg parts => uptoBulkAll parts + 1
  | .iface _ d => uptoBulk d + 1
  | .map entries => uptoBulkEntries entries + 1
  | .held _ => 1
def uptoBulkAll {H : Type} : List (DataW H) → Nat
  | [] => 0
  | d :: r => uptoBulk d + uptoBulkAll r
def uptoBulkEntries {H : Type} : List (Lit × DataW H) → Nat
  | [] => 0
  | x :: r => uptoBulkEntry x + uptoBulkEntries r
def uptoBulkEntry {H : Type} : Lit × DataW H → Nat
  | (.string bytes, d) => bytes.length + uptoBulk d + 1
  | (_, d) => uptoBulk d + 1
 end
def uptoSmall : (H : Type) → List (DataW H) → Bool := fun _ ds => decide (uptoBulkAll ds ≤ 1048576)
def OpenSpec.upto (s : _root_.Go.ChangeSpec) : _root_.Go.OpenSpec := { _root_.Go.OpenSpec.ofChange s with cond := some uptoSmall }

/-- 'laws.FnExactCodeValid', WHERE WHAT IT READS IS OF BULK AT MOST 1048576: true; the input reads as it did. -/
def fnExactCodeValidUptoRow : OpenClaim := { program := "ytmodonligaejhaadoor", sum := "e07568dce213e29a612fdada749922701d52771603ee7a79413957f20ebd6c5f", func := "loop.example/constanttime/laws.FnExactCodeValid", spec := "fnExactCodeValid", unfollowed := true, recurses := true, named := ["loop.example/constanttime/impl.instrForms"], apart := false, laid := [("loop.example/constanttime/impl.instrForms", laid_loop_example_constanttime_impl_instrForms)], narrowed := true }
def FnExactCodeValidUptoSaid : Prop := fnExactCodeValidUptoRow.holds Tryd.pinned (OpenSpec.upto fnExactCodeValidSpec)

/-- 'laws.FnExactCheckCode', WHERE WHAT IT READS IS OF BULK AT MOST 1048576: true; the input reads as it did. -/
def fnExactCheckCodeUptoRow : OpenClaim := { program := "ytmodonligaejhaadoor", sum := "e07568dce213e29a612fdada749922701d52771603ee7a79413957f20ebd6c5f", func := "loop.example/constanttime/laws.FnExactCheckCode", spec := "fnExactCheckCode", unfollowed := true, recurses := true, named := ["loop.example/constanttime/impl.instrForms"], apart := false, laid := [("loop.example/constanttime/impl.instrForms", laid_loop_example_constanttime_impl_instrForms)], narrowed := true }
def FnExactCheckCodeUptoSaid : Prop := fnExactCheckCodeUptoRow.holds Tryd.pinned (OpenSpec.upto fnExactCheckCodeSpec)

/-- 'laws.FnExactCheckTaint', WHERE WHAT IT READS IS OF BULK AT MOST 1048576: true; the input reads as it did. -/
def fnExactCheckTaintUptoRow : OpenClaim := { program := "ytmodonligaejhaadoor", sum := "e07568dce213e29a612fdada749922701d52771603ee7a79413957f20ebd6c5f", func := "loop.example/constanttime/laws.FnExactCheckTaint", spec := "fnExactCheckTaint", unfollowed := true, recurses := true, named := ["loop.example/constanttime/impl.instrForms"], apart := false, laid := [("loop.example/constanttime/impl.instrForms", laid_loop_example_constanttime_impl_instrForms)], narrowed := true }
def FnExactCheckTaintUptoSaid : Prop := fnExactCheckTaintUptoRow.holds Tryd.pinned (OpenSpec.upto fnExactCheckTaintSpec)

/-- 'laws.FnExactInferTaint', WHERE WHAT IT READS IS OF BULK AT MOST 1048576: true; the input reads as it did. -/
def fnExactInferTaintUptoRow : OpenClaim := { program := "ytmodonligaejhaadoor", sum := "e07568dce213e29a612fdada749922701d52771603ee7a79413957f20ebd6c5f", func := "loop.example/constanttime/laws.FnExactInferTaint", spec := "fnExactInferTaint", unfollowed := true, recurses := true, named := ["loop.example/constanttime/impl.instrForms"], apart := false, laid := [("loop.example/constanttime/impl.instrForms", laid_loop_example_constanttime_impl_instrForms)], narrowed := true }
def FnExactInferTaintUptoSaid : Prop := fnExactInferTaintUptoRow.holds Tryd.pinned (OpenSpec.upto fnExactInferTaintSpec)

end Rows
end Go.Proofs.YtmodonligaejhaaDoor

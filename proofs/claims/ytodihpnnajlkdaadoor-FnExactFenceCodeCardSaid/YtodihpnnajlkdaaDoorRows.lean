/-
  NARROWER THAN 'FOR EVERY INPUT', by the rows' own cells (each row's printed sentence says how): FnExactCodeValid: laid · FnExactCodeFenced: laid · FnExactFenceCode: laid · FnExactTrimCode: laid · FnExactOptimizeCode: laid.
  DERIVED. THE GIVEN ROWS OF THIS SEAT. 5 by the template 'for every input the law returns true; each argument reads behind the call as it read before'; 0 by the template 'total and deterministic' (their statements: YtodihpnnajlkdaaDoorTotals.lean).
  GIVEN WITH THE SEED: the statements are not yours to turn. If you find one false, say at which input.
  Laid BY PROGRAM, IN A SANDBOX (cutbox-rows.mjs): the forced cells as the released guide's own fill.sh prints them over the translation 396b513026138a58… (all of the seat's roots in one cut). By AI agents, Wed Nov 11 2026. No macro, syntax, notation, axiom, sorry.
-/
import Derived.Test.YtodihpnnajlkdaaDoorChecked
import GoSem.Claim
import GoSem.ClaimJoined
import GoSem.ClaimMapViews
import Derived.JoinedTies
import Derived.KernelRfl
namespace Go.Proofs.YtodihpnnajlkdaaDoor
/- THE CELL 'sum', in the pinned program and in every row, IS THE sha256 OF THE DUMP (.gsa) THAT YtodihpnnajlkdaaDoorProg.lean LOADS. Nothing in Lean hashes anything: it is a label: what it is worth is what the hold of that sum in a sandbox is worth. -/
noncomputable def Tryd.pinned : Pinned := { name := "ytodihpnnajlkdaadoor", sum := "396b513026138a58910418e3fe3f7bbe93f14d3053402ea86576d954b705fb34", checked := Tryd.checked }
namespace Rows
def none {H : Type} : Left H := { results := [], args := [] }

/- WHAT THE LISTED PACKAGE-LEVEL VARIABLES READ AS WHEN THE CALL BEGINS. Each datum BY PROGRAM (the guide's laid-datum.mjs) off the statement by which the dump's own 'gosem.cut.vars' lays the variable. In a bare row this is a premise. The card (YtodihpnnajlkdaaDoorCards.lean) ties it to the program's text. -/
def laid_loop_example_constanttime_impl_instrForms {H : Type} : DataW H := .agg [.agg [.lit (.string []), .agg [.lit (.int .i64 0), .lit (.int .i64 0), .lit (.int .i64 0), .lit (.int .i64 0)]], .agg [.lit (.string [99, 111, 110, 115, 116]), .agg [.lit (.int .i64 1), .lit (.int .i64 2), .lit (.int .i64 0), .lit (.int .i64 0)]], .agg [.lit (.string [103, 101, 116]), .agg [.lit (.int .i64 1), .lit (.int .i64 3), .lit (.int .i64 0), .lit (.int .i64 0)]], .agg [.lit (.string [112, 117, 116]), .agg [.lit (.int .i64 3), .lit (.int .i64 1), .lit (.int .i64 0), .lit (.int .i64 0)]], .agg [.lit (.string [108, 111, 97, 100]), .agg [.lit (.int .i64 1), .lit (.int .i64 4), .lit (.int .i64 1), .lit (.int .i64 0)]], .agg [.lit (.string [115, 116, 111, 114, 101]), .agg [.lit (.int .i64 4), .lit (.int .i64 1), .lit (.int .i64 1), .lit (.int .i64 0)]], .agg [.lit (.string [98, 105, 110]), .agg [.lit (.int .i64 1), .lit (.int .i64 5), .lit (.int .i64 1), .lit (.int .i64 1)]], .agg [.lit (.string [115, 101, 108, 101, 99, 116]), .agg [.lit (.int .i64 1), .lit (.int .i64 1), .lit (.int .i64 1), .lit (.int .i64 1)]], .agg [.lit (.string [106, 117, 109, 112]), .agg [.lit (.int .i64 6), .lit (.int .i64 0), .lit (.int .i64 0), .lit (.int .i64 0)]], .agg [.lit (.string [122, 101, 114, 111]), .agg [.lit (.int .i64 1), .lit (.int .i64 6), .lit (.int .i64 0), .lit (.int .i64 0)]], .agg [.lit (.string [108, 111, 111, 112]), .agg [.lit (.int .i64 1), .lit (.int .i64 6), .lit (.int .i64 0), .lit (.int .i64 0)]], .agg [.lit (.string [114, 101, 108, 101, 97, 115, 101]), .agg [.lit (.int .i64 1), .lit (.int .i64 0), .lit (.int .i64 0), .lit (.int .i64 0)]], .agg [.lit (.string [102, 101, 110, 99, 101]), .agg [.lit (.int .i64 0), .lit (.int .i64 0), .lit (.int .i64 0), .lit (.int .i64 0)]], .agg [.lit (.string [104, 97, 108, 116]), .agg [.lit (.int .i64 0), .lit (.int .i64 0), .lit (.int .i64 0), .lit (.int .i64 0)]]]

/-- 'laws.FnExactCodeValid': WHATEVER THE INPUT: true; the input reads as it did. -/
def fnExactCodeValidSpec : ChangeSpec := { name := "fnExactCodeValid", vars := ["loop.example/constanttime/impl.instrForms"], fn := fun _ => fun
  | [d, g1] => { results := [.lit (.bool true)], args := [d], vars := [g1] }
  | _ => none }
def fnExactCodeValidRow : OpenClaim := { program := "ytodihpnnajlkdaadoor", sum := "396b513026138a58910418e3fe3f7bbe93f14d3053402ea86576d954b705fb34", func := "loop.example/constanttime/laws.FnExactCodeValid", spec := "fnExactCodeValid", unfollowed := true, recurses := true, named := ["loop.example/constanttime/impl.instrForms"], apart := false, laid := [("loop.example/constanttime/impl.instrForms", laid_loop_example_constanttime_impl_instrForms)] }
def FnExactCodeValidSaid : Prop := fnExactCodeValidRow.holds Tryd.pinned (OpenSpec.ofChange fnExactCodeValidSpec)

/-- ITS FALSE NEIGHBOUR: 'it returns false'. Refute it at one input. -/
def fnExactCodeValidWrong : ChangeSpec := { name := "fnExactCodeValid", vars := ["loop.example/constanttime/impl.instrForms"], fn := fun _ => fun
  | [d, g1] => { results := [.lit (.bool false)], args := [d], vars := [g1] }
  | _ => none }
def FnExactCodeValidWrongFalsely : Prop := fnExactCodeValidRow.holds Tryd.pinned (OpenSpec.ofChange fnExactCodeValidWrong)

/-- 'laws.FnExactCodeFenced': WHATEVER THE INPUT: true; the input reads as it did. -/
def fnExactCodeFencedSpec : ChangeSpec := { name := "fnExactCodeFenced", vars := ["loop.example/constanttime/impl.instrForms"], fn := fun _ => fun
  | [d, g1] => { results := [.lit (.bool true)], args := [d], vars := [g1] }
  | _ => none }
def fnExactCodeFencedRow : OpenClaim := { program := "ytodihpnnajlkdaadoor", sum := "396b513026138a58910418e3fe3f7bbe93f14d3053402ea86576d954b705fb34", func := "loop.example/constanttime/laws.FnExactCodeFenced", spec := "fnExactCodeFenced", unfollowed := true, recurses := true, named := ["loop.example/constanttime/impl.instrForms"], apart := false, laid := [("loop.example/constanttime/impl.instrForms", laid_loop_example_constanttime_impl_instrForms)] }
def FnExactCodeFencedSaid : Prop := fnExactCodeFencedRow.holds Tryd.pinned (OpenSpec.ofChange fnExactCodeFencedSpec)

/-- ITS FALSE NEIGHBOUR: 'it returns false'. Refute it at one input. -/
def fnExactCodeFencedWrong : ChangeSpec := { name := "fnExactCodeFenced", vars := ["loop.example/constanttime/impl.instrForms"], fn := fun _ => fun
  | [d, g1] => { results := [.lit (.bool false)], args := [d], vars := [g1] }
  | _ => none }
def FnExactCodeFencedWrongFalsely : Prop := fnExactCodeFencedRow.holds Tryd.pinned (OpenSpec.ofChange fnExactCodeFencedWrong)

/-- 'laws.FnExactFenceCode': WHATEVER THE INPUT: true; the input reads as it did. -/
def fnExactFenceCodeSpec : ChangeSpec := { name := "fnExactFenceCode", vars := ["loop.example/constanttime/impl.instrForms"], fn := fun _ => fun
  | [d, g1] => { results := [.lit (.bool true)], args := [d], vars := [g1] }
  | _ => none }
def fnExactFenceCodeRow : OpenClaim := { program := "ytodihpnnajlkdaadoor", sum := "396b513026138a58910418e3fe3f7bbe93f14d3053402ea86576d954b705fb34", func := "loop.example/constanttime/laws.FnExactFenceCode", spec := "fnExactFenceCode", unfollowed := true, recurses := true, named := ["loop.example/constanttime/impl.instrForms"], apart := false, laid := [("loop.example/constanttime/impl.instrForms", laid_loop_example_constanttime_impl_instrForms)] }
def FnExactFenceCodeSaid : Prop := fnExactFenceCodeRow.holds Tryd.pinned (OpenSpec.ofChange fnExactFenceCodeSpec)

/-- ITS FALSE NEIGHBOUR: 'it returns false'. Refute it at one input. -/
def fnExactFenceCodeWrong : ChangeSpec := { name := "fnExactFenceCode", vars := ["loop.example/constanttime/impl.instrForms"], fn := fun _ => fun
  | [d, g1] => { results := [.lit (.bool false)], args := [d], vars := [g1] }
  | _ => none }
def FnExactFenceCodeWrongFalsely : Prop := fnExactFenceCodeRow.holds Tryd.pinned (OpenSpec.ofChange fnExactFenceCodeWrong)

/-- 'laws.FnExactTrimCode': WHATEVER THE INPUT: true; the input reads as it did. -/
def fnExactTrimCodeSpec : ChangeSpec := { name := "fnExactTrimCode", vars := ["loop.example/constanttime/impl.instrForms"], fn := fun _ => fun
  | [d, g1] => { results := [.lit (.bool true)], args := [d], vars := [g1] }
  | _ => none }
def fnExactTrimCodeRow : OpenClaim := { program := "ytodihpnnajlkdaadoor", sum := "396b513026138a58910418e3fe3f7bbe93f14d3053402ea86576d954b705fb34", func := "loop.example/constanttime/laws.FnExactTrimCode", spec := "fnExactTrimCode", unfollowed := true, recurses := true, named := ["loop.example/constanttime/impl.instrForms"], apart := false, laid := [("loop.example/constanttime/impl.instrForms", laid_loop_example_constanttime_impl_instrForms)] }
def FnExactTrimCodeSaid : Prop := fnExactTrimCodeRow.holds Tryd.pinned (OpenSpec.ofChange fnExactTrimCodeSpec)

/-- ITS FALSE NEIGHBOUR: 'it returns false'. Refute it at one input. -/
def fnExactTrimCodeWrong : ChangeSpec := { name := "fnExactTrimCode", vars := ["loop.example/constanttime/impl.instrForms"], fn := fun _ => fun
  | [d, g1] => { results := [.lit (.bool false)], args := [d], vars := [g1] }
  | _ => none }
def FnExactTrimCodeWrongFalsely : Prop := fnExactTrimCodeRow.holds Tryd.pinned (OpenSpec.ofChange fnExactTrimCodeWrong)

/-- 'laws.FnExactOptimizeCode': WHATEVER THE INPUT: true; the input reads as it did. -/
def fnExactOptimizeCodeSpec : ChangeSpec := { name := "fnExactOptimizeCode", vars := ["loop.example/constanttime/impl.instrForms"], fn := fun _ => fun
  | [d, g1] => { results := [.lit (.bool true)], args := [d], vars := [g1] }
  | _ => none }
def fnExactOptimizeCodeRow : OpenClaim := { program := "ytodihpnnajlkdaadoor", sum := "396b513026138a58910418e3fe3f7bbe93f14d3053402ea86576d954b705fb34", func := "loop.example/constanttime/laws.FnExactOptimizeCode", spec := "fnExactOptimizeCode", unfollowed := true, recurses := true, named := ["loop.example/constanttime/impl.instrForms"], apart := false, laid := [("loop.example/constanttime/impl.instrForms", laid_loop_example_constanttime_impl_instrForms)] }
def FnExactOptimizeCodeSaid : Prop := fnExactOptimizeCodeRow.holds Tryd.pinned (OpenSpec.ofChange fnExactOptimizeCodeSpec)

/-- ITS FALSE NEIGHBOUR: 'it returns false'. Refute it at one input. -/
def fnExactOptimizeCodeWrong : ChangeSpec := { name := "fnExactOptimizeCode", vars := ["loop.example/constanttime/impl.instrForms"], fn := fun _ => fun
  | [d, g1] => { results := [.lit (.bool false)], args := [d], vars := [g1] }
  | _ => none }
def FnExactOptimizeCodeWrongFalsely : Prop := fnExactOptimizeCodeRow.holds Tryd.pinned (OpenSpec.ofChange fnExactOptimizeCodeWrong)

/- THE SECOND FORM. 'bulk': how many values and letters a reading holds, each counted each time it is reached (what is shared counts as often as it is met; a slice's spare places count too). A statement '..UptoSaid' is the law's where the arguments, and the package variables that the reading takes, are together of bulk at most 1048576: NARROWER than '..Said'. Prove '..Said' where nothing that the law and all that it calls make is longer than what came in: it says more and counts as full. Else prove '..UptoSaid'. A law counts once. -/
mutual
def uptoBulk {H : Type} : DataW H → Nat
  | .lit (.string bytes) => bytes.length + 1
  | .lit _ => 1
  | .nil => 1
  | .ptr d => uptoBulk d + 1
  | .slice elems spare => uptoBulkAll elems + uptoBulkAll spare + 1
  | .agg parts => uptoBulkAll parts + 1
  | .iface _ d => uptoBulk d + 1
  | .map entries => uptoBulkEntries entries + 1
  | .held _ => 1
def uptoBulkAll {H : Type} : List (DataW H) → Nat
  | [] => 0
  | d :: r => uptoBulk d + uptoBulkAll r
def uptoBulkEntries {H : Type} : List (Lit × DataW H) → Nat
  | [] => 0
  | x :: r => uptoBulkEntry x + uptoBulkEntries r
def uptoBulkEntry {H : Type} : Lit × DataW H → Nat
  | (.string bytes, d) => bytes.length + uptoBulk d + 1
  | (_, d) => uptoBulk d + 1
 end
def uptoSmall : (H : Type) → List (DataW H) → Bool := fun _ ds => decide (uptoBulkAll ds ≤ 1048576)
def OpenSpec.upto (s : _root_.Go.ChangeSpec) : _root_.Go.OpenSpec := { _root_.Go.OpenSpec.ofChange s with cond := some uptoSmall }

/-- 'laws.FnExactCodeValid', WHERE WHAT IT READS IS OF BULK AT MOST 1048576: true; the input reads as it did. -/
def fnExactCodeValidUptoRow : OpenClaim := { program := "ytodihpnnajlkdaadoor", sum := "396b513026138a58910418e3fe3f7bbe93f14d3053402ea86576d954b705fb34", func := "loop.example/constanttime/laws.FnExactCodeValid", spec := "fnExactCodeValid", unfollowed := true, recurses := true, named := ["loop.example/constanttime/impl.instrForms"], apart := false, laid := [("loop.example/constanttime/impl.instrForms", laid_loop_example_constanttime_impl_instrForms)], narrowed := true }
def FnExactCodeValidUptoSaid : Prop := fnExactCodeValidUptoRow.holds Tryd.pinned (OpenSpec.upto fnExactCodeValidSpec)

/-- 'laws.FnExactCodeFenced', WHERE WHAT IT READS IS OF BULK AT MOST 1048576: true; the input reads as it did. -/
def fnExactCodeFencedUptoRow : OpenClaim := { program := "ytodihpnnajlkdaadoor", sum := "396b513026138a58910418e3fe3f7bbe93f14d3053402ea86576d954b705fb34", func := "loop.example/constanttime/laws.FnExactCodeFenced", spec := "fnExactCodeFenced", unfollowed := true, recurses := true, named := ["loop.example/constanttime/impl.instrForms"], apart := false, laid := [("loop.example/constanttime/impl.instrForms", laid_loop_example_constanttime_impl_instrForms)], narrowed := true }
def FnExactCodeFencedUptoSaid : Prop := fnExactCodeFencedUptoRow.holds Tryd.pinned (OpenSpec.upto fnExactCodeFencedSpec)

/-- 'laws.FnExactFenceCode', WHERE WHAT IT READS IS OF BULK AT MOST 1048576: true; the input reads as it did. -/
def fnExactFenceCodeUptoRow : OpenClaim := { program := "ytodihpnnajlkdaadoor", sum := "396b513026138a58910418e3fe3f7bbe93f14d3053402ea86576d954b705fb34", func := "loop.example/constanttime/laws.FnExactFenceCode", spec := "fnExactFenceCode", unfollowed := true, recurses := true, named := ["loop.example/constanttime/impl.instrForms"], apart := false, laid := [("loop.example/constanttime/impl.instrForms", laid_loop_example_constanttime_impl_instrForms)], narrowed := true }
def FnExactFenceCodeUptoSaid : Prop := fnExactFenceCodeUptoRow.holds Tryd.pinned (OpenSpec.upto fnExactFenceCodeSpec)

/-- 'laws.FnExactTrimCode', WHERE WHAT IT READS IS OF BULK AT MOST 1048576: true; the input reads as it did. -/
def fnExactTrimCodeUptoRow : OpenClaim := { program := "ytodihpnnajlkdaadoor", sum := "396b513026138a58910418e3fe3f7bbe93f14d3053402ea86576d954b705fb34", func := "loop.example/constanttime/laws.FnExactTrimCode", spec := "fnExactTrimCode", unfollowed := true, recurses := true, named := ["loop.example/constanttime/impl.instrForms"], apart := false, laid := [("loop.example/constanttime/impl.instrForms", laid_loop_example_constanttime_impl_instrForms)], narrowed := true }
def FnExactTrimCodeUptoSaid : Prop := fnExactTrimCodeUptoRow.holds Tryd.pinned (OpenSpec.upto fnExactTrimCodeSpec)

/-- 'laws.FnExactOptimizeCode', WHERE WHAT IT READS IS OF BULK AT MOST 1048576: true; the input reads as it did. -/
def fnExactOptimizeCodeUptoRow : OpenClaim := { program := "ytodihpnnajlkdaadoor", sum := "396b513026138a58910418e3fe3f7bbe93f14d3053402ea86576d954b705fb34", func := "loop.example/constanttime/laws.FnExactOptimizeCode", spec := "fnExactOptimizeCode", unfollowed := true, recurses := true, named := ["loop.example/constanttime/impl.instrForms"], apart := false, laid := [("loop.example/constanttime/impl.instrForms", laid_loop_example_constanttime_impl_instrForms)], narrowed := true }
def FnExactOptimizeCodeUptoSaid : Prop := fnExactOptimizeCodeUptoRow.holds Tryd.pinned (OpenSpec.upto fnExactOptimizeCodeSpec)

end Rows
end Go.Proofs.YtodihpnnajlkdaaDoor

/-
  NARROWER THAN 'FOR EVERY INPUT', by the rows' own cells (each row's printed sentence says how): FnExactFenceCode: laid · FnExactLiveRegs: laid · FnExactCheckLive: laid · FnExactRemoveDead: laid · FnExactEraseCode: laid · FnExactRegsUsed: laid · FnExactCompactRegs: laid · FnExactCodeValid: laid.
  DERIVED. THE GIVEN ROWS OF THIS SEAT. 8 by the template 'for every input the law returns true; each argument reads behind the call as it read before'; 0 by the template 'total and deterministic' (their statements: YtbifbmpflhdijaaDoorTotals.lean).
  GIVEN WITH THE SEED: the statements are not yours to turn. If you find one false, say at which input.
  Laid BY PROGRAM, IN A SANDBOX (cutbox-rows.mjs): the forced cells as the released guide's own fill.sh prints them over the translation 9423cd80683941c4… (all of the seat's roots in one cut). By AI agents, Wed Nov 11 2026. No macro, syntax, notation, axiom, sorry.
-/
import Derived.Test.YtbifbmpflhdijaaDoorChecked
import GoSem.Claim
import GoSem.ClaimJoined
import GoSem.ClaimMapViews
import Derived.JoinedTies
import Derived.KernelRfl
namespace Go.Proofs.YtbifbmpflhdijaaDoor
/- THE CELL 'sum', in the pinned program and in every row, IS THE sha256 OF THE DUMP (.gsa) THAT YtbifbmpflhdijaaDoorProg.lean LOADS. Nothing in Lean hashes anything: it is a label: what it is worth is what the hold of that sum in a sandbox is worth. -/
noncomputable def Tryd.pinned : Pinned := { name := "ytbifbmpflhdijaadoor", sum := "9423cd80683941c41362efad5b92b00ec116c3588ae645360858778c489e7e31", checked := Tryd.checked }
namespace Rows
def none {H : Type} : Left H := { results := [], args := [] }

/- WHAT THE LISTED PACKAGE-LEVEL VARIABLES READ AS WHEN THE CALL BEGINS. Each datum BY PROGRAM (the guide's laid-datum.mjs) off the statement by which the dump's own 'gosem.cut.vars' lays the variable. In a bare row this is a premise. The card (YtbifbmpflhdijaaDoorCards.lean) ties it to the program's text. -/
def laid_loop_example_constanttime_impl_instrForms {H : Type} : DataW H := .agg [.agg [.lit (.string []), .agg [.lit (.int .i64 0), .lit (.int .i64 0), .lit (.int .i64 0), .lit (.int .i64 0)]], .agg [.lit (.string [99, 111, 110, 115, 116]), .agg [.lit (.int .i64 1), .lit (.int .i64 2), .lit (.int .i64 0), .lit (.int .i64 0)]], .agg [.lit (.string [103, 101, 116]), .agg [.lit (.int .i64 1), .lit (.int .i64 3), .lit (.int .i64 0), .lit (.int .i64 0)]], .agg [.lit (.string [112, 117, 116]), .agg [.lit (.int .i64 3), .lit (.int .i64 1), .lit (.int .i64 0), .lit (.int .i64 0)]], .agg [.lit (.string [108, 111, 97, 100]), .agg [.lit (.int .i64 1), .lit (.int .i64 4), .lit (.int .i64 1), .lit (.int .i64 0)]], .agg [.lit (.string [115, 116, 111, 114, 101]), .agg [.lit (.int .i64 4), .lit (.int .i64 1), .lit (.int .i64 1), .lit (.int .i64 0)]], .agg [.lit (.string [98, 105, 110]), .agg [.lit (.int .i64 1), .lit (.int .i64 5), .lit (.int .i64 1), .lit (.int .i64 1)]], .agg [.lit (.string [115, 101, 108, 101, 99, 116]), .agg [.lit (.int .i64 1), .lit (.int .i64 1), .lit (.int .i64 1), .lit (.int .i64 1)]], .agg [.lit (.string [106, 117, 109, 112]), .agg [.lit (.int .i64 6), .lit (.int .i64 0), .lit (.int .i64 0), .lit (.int .i64 0)]], .agg [.lit (.string [122, 101, 114, 111]), .agg [.lit (.int .i64 1), .lit (.int .i64 6), .lit (.int .i64 0), .lit (.int .i64 0)]], .agg [.lit (.string [108, 111, 111, 112]), .agg [.lit (.int .i64 1), .lit (.int .i64 6), .lit (.int .i64 0), .lit (.int .i64 0)]], .agg [.lit (.string [114, 101, 108, 101, 97, 115, 101]), .agg [.lit (.int .i64 1), .lit (.int .i64 0), .lit (.int .i64 0), .lit (.int .i64 0)]], .agg [.lit (.string [102, 101, 110, 99, 101]), .agg [.lit (.int .i64 0), .lit (.int .i64 0), .lit (.int .i64 0), .lit (.int .i64 0)]], .agg [.lit (.string [104, 97, 108, 116]), .agg [.lit (.int .i64 0), .lit (.int .i64 0), .lit (.int .i64 0), .lit (.int .i64 0)]]]

/-- 'laws.FnExactFenceCode': WHATEVER THE INPUT: true; the input reads as it did. -/
def fnExactFenceCodeSpec : ChangeSpec := { name := "fnExactFenceCode", vars := ["loop.example/constanttime/impl.instrForms"], fn := fun _ => fun
  | [d, g1] => { results := [.lit (.bool true)], args := [d], vars := [g1] }
  | _ => none }
def fnExactFenceCodeRow : OpenClaim := { program := "ytbifbmpflhdijaadoor", sum := "9423cd80683941c41362efad5b92b00ec116c3588ae645360858778c489e7e31", func := "loop.example/constanttime/laws.FnExactFenceCode", spec := "fnExactFenceCode", unfollowed := true, recurses := true, named := ["loop.example/constanttime/impl.instrForms"], apart := false, laid := [("loop.example/constanttime/impl.instrForms", laid_loop_example_constanttime_impl_instrForms)] }
def FnExactFenceCodeSaid : Prop := fnExactFenceCodeRow.holds Tryd.pinned (OpenSpec.ofChange fnExactFenceCodeSpec)

/-- ITS FALSE NEIGHBOUR: 'it returns false'. Refute it at one input. -/
def fnExactFenceCodeWrong : ChangeSpec := { name := "fnExactFenceCode", vars := ["loop.example/constanttime/impl.instrForms"], fn := fun _ => fun
  | [d, g1] => { results := [.lit (.bool false)], args := [d], vars := [g1] }
  | _ => none }
def FnExactFenceCodeWrongFalsely : Prop := fnExactFenceCodeRow.holds Tryd.pinned (OpenSpec.ofChange fnExactFenceCodeWrong)

/-- 'laws.FnExactLiveRegs': WHATEVER THE INPUT: true; the input reads as it did. -/
def fnExactLiveRegsSpec : ChangeSpec := { name := "fnExactLiveRegs", vars := ["loop.example/constanttime/impl.instrForms"], fn := fun _ => fun
  | [d, g1] => { results := [.lit (.bool true)], args := [d], vars := [g1] }
  | _ => none }
def fnExactLiveRegsRow : OpenClaim := { program := "ytbifbmpflhdijaadoor", sum := "9423cd80683941c41362efad5b92b00ec116c3588ae645360858778c489e7e31", func := "loop.example/constanttime/laws.FnExactLiveRegs", spec := "fnExactLiveRegs", unfollowed := true, recurses := true, named := ["loop.example/constanttime/impl.instrForms"], apart := false, laid := [("loop.example/constanttime/impl.instrForms", laid_loop_example_constanttime_impl_instrForms)] }
def FnExactLiveRegsSaid : Prop := fnExactLiveRegsRow.holds Tryd.pinned (OpenSpec.ofChange fnExactLiveRegsSpec)

/-- ITS FALSE NEIGHBOUR: 'it returns false'. Refute it at one input. -/
def fnExactLiveRegsWrong : ChangeSpec := { name := "fnExactLiveRegs", vars := ["loop.example/constanttime/impl.instrForms"], fn := fun _ => fun
  | [d, g1] => { results := [.lit (.bool false)], args := [d], vars := [g1] }
  | _ => none }
def FnExactLiveRegsWrongFalsely : Prop := fnExactLiveRegsRow.holds Tryd.pinned (OpenSpec.ofChange fnExactLiveRegsWrong)

/-- 'laws.FnExactCheckLive': WHATEVER THE INPUT: true; the input reads as it did. -/
def fnExactCheckLiveSpec : ChangeSpec := { name := "fnExactCheckLive", vars := ["loop.example/constanttime/impl.instrForms"], fn := fun _ => fun
  | [d1, d2, g1] => { results := [.lit (.bool true)], args := [d1, d2], vars := [g1] }
  | _ => none }
def fnExactCheckLiveRow : OpenClaim := { program := "ytbifbmpflhdijaadoor", sum := "9423cd80683941c41362efad5b92b00ec116c3588ae645360858778c489e7e31", func := "loop.example/constanttime/laws.FnExactCheckLive", spec := "fnExactCheckLive", unfollowed := true, recurses := true, named := ["loop.example/constanttime/impl.instrForms"], apart := false, laid := [("loop.example/constanttime/impl.instrForms", laid_loop_example_constanttime_impl_instrForms)] }
def FnExactCheckLiveSaid : Prop := fnExactCheckLiveRow.holds Tryd.pinned (OpenSpec.ofChange fnExactCheckLiveSpec)

/-- ITS FALSE NEIGHBOUR: 'it returns false'. Refute it at one input. -/
def fnExactCheckLiveWrong : ChangeSpec := { name := "fnExactCheckLive", vars := ["loop.example/constanttime/impl.instrForms"], fn := fun _ => fun
  | [d1, d2, g1] => { results := [.lit (.bool false)], args := [d1, d2], vars := [g1] }
  | _ => none }
def FnExactCheckLiveWrongFalsely : Prop := fnExactCheckLiveRow.holds Tryd.pinned (OpenSpec.ofChange fnExactCheckLiveWrong)

/-- 'laws.FnExactRemoveDead': WHATEVER THE INPUT: true; the input reads as it did. -/
def fnExactRemoveDeadSpec : ChangeSpec := { name := "fnExactRemoveDead", vars := ["loop.example/constanttime/impl.instrForms"], fn := fun _ => fun
  | [d, g1] => { results := [.lit (.bool true)], args := [d], vars := [g1] }
  | _ => none }
def fnExactRemoveDeadRow : OpenClaim := { program := "ytbifbmpflhdijaadoor", sum := "9423cd80683941c41362efad5b92b00ec116c3588ae645360858778c489e7e31", func := "loop.example/constanttime/laws.FnExactRemoveDead", spec := "fnExactRemoveDead", unfollowed := true, recurses := true, named := ["loop.example/constanttime/impl.instrForms"], apart := false, laid := [("loop.example/constanttime/impl.instrForms", laid_loop_example_constanttime_impl_instrForms)] }
def FnExactRemoveDeadSaid : Prop := fnExactRemoveDeadRow.holds Tryd.pinned (OpenSpec.ofChange fnExactRemoveDeadSpec)

/-- ITS FALSE NEIGHBOUR: 'it returns false'. Refute it at one input. -/
def fnExactRemoveDeadWrong : ChangeSpec := { name := "fnExactRemoveDead", vars := ["loop.example/constanttime/impl.instrForms"], fn := fun _ => fun
  | [d, g1] => { results := [.lit (.bool false)], args := [d], vars := [g1] }
  | _ => none }
def FnExactRemoveDeadWrongFalsely : Prop := fnExactRemoveDeadRow.holds Tryd.pinned (OpenSpec.ofChange fnExactRemoveDeadWrong)

/-- 'laws.FnExactEraseCode': WHATEVER THE INPUT: true; the input reads as it did. -/
def fnExactEraseCodeSpec : ChangeSpec := { name := "fnExactEraseCode", vars := ["loop.example/constanttime/impl.instrForms"], fn := fun _ => fun
  | [d, g1] => { results := [.lit (.bool true)], args := [d], vars := [g1] }
  | _ => none }
def fnExactEraseCodeRow : OpenClaim := { program := "ytbifbmpflhdijaadoor", sum := "9423cd80683941c41362efad5b92b00ec116c3588ae645360858778c489e7e31", func := "loop.example/constanttime/laws.FnExactEraseCode", spec := "fnExactEraseCode", unfollowed := true, recurses := true, named := ["loop.example/constanttime/impl.instrForms"], apart := false, laid := [("loop.example/constanttime/impl.instrForms", laid_loop_example_constanttime_impl_instrForms)] }
def FnExactEraseCodeSaid : Prop := fnExactEraseCodeRow.holds Tryd.pinned (OpenSpec.ofChange fnExactEraseCodeSpec)

/-- ITS FALSE NEIGHBOUR: 'it returns false'. Refute it at one input. -/
def fnExactEraseCodeWrong : ChangeSpec := { name := "fnExactEraseCode", vars := ["loop.example/constanttime/impl.instrForms"], fn := fun _ => fun
  | [d, g1] => { results := [.lit (.bool false)], args := [d], vars := [g1] }
  | _ => none }
def FnExactEraseCodeWrongFalsely : Prop := fnExactEraseCodeRow.holds Tryd.pinned (OpenSpec.ofChange fnExactEraseCodeWrong)

/-- 'laws.FnExactRegsUsed': WHATEVER THE INPUT: true; the input reads as it did. -/
def fnExactRegsUsedSpec : ChangeSpec := { name := "fnExactRegsUsed", vars := ["loop.example/constanttime/impl.instrForms"], fn := fun _ => fun
  | [d, g1] => { results := [.lit (.bool true)], args := [d], vars := [g1] }
  | _ => none }
def fnExactRegsUsedRow : OpenClaim := { program := "ytbifbmpflhdijaadoor", sum := "9423cd80683941c41362efad5b92b00ec116c3588ae645360858778c489e7e31", func := "loop.example/constanttime/laws.FnExactRegsUsed", spec := "fnExactRegsUsed", unfollowed := true, recurses := true, named := ["loop.example/constanttime/impl.instrForms"], apart := false, laid := [("loop.example/constanttime/impl.instrForms", laid_loop_example_constanttime_impl_instrForms)] }
def FnExactRegsUsedSaid : Prop := fnExactRegsUsedRow.holds Tryd.pinned (OpenSpec.ofChange fnExactRegsUsedSpec)

/-- ITS FALSE NEIGHBOUR: 'it returns false'. Refute it at one input. -/
def fnExactRegsUsedWrong : ChangeSpec := { name := "fnExactRegsUsed", vars := ["loop.example/constanttime/impl.instrForms"], fn := fun _ => fun
  | [d, g1] => { results := [.lit (.bool false)], args := [d], vars := [g1] }
  | _ => none }
def FnExactRegsUsedWrongFalsely : Prop := fnExactRegsUsedRow.holds Tryd.pinned (OpenSpec.ofChange fnExactRegsUsedWrong)

/-- 'laws.FnExactCompactRegs': WHATEVER THE INPUT: true; the input reads as it did. -/
def fnExactCompactRegsSpec : ChangeSpec := { name := "fnExactCompactRegs", vars := ["loop.example/constanttime/impl.instrForms"], fn := fun _ => fun
  | [d, g1] => { results := [.lit (.bool true)], args := [d], vars := [g1] }
  | _ => none }
def fnExactCompactRegsRow : OpenClaim := { program := "ytbifbmpflhdijaadoor", sum := "9423cd80683941c41362efad5b92b00ec116c3588ae645360858778c489e7e31", func := "loop.example/constanttime/laws.FnExactCompactRegs", spec := "fnExactCompactRegs", unfollowed := true, recurses := true, named := ["loop.example/constanttime/impl.instrForms"], apart := false, laid := [("loop.example/constanttime/impl.instrForms", laid_loop_example_constanttime_impl_instrForms)] }
def FnExactCompactRegsSaid : Prop := fnExactCompactRegsRow.holds Tryd.pinned (OpenSpec.ofChange fnExactCompactRegsSpec)

/-- ITS FALSE NEIGHBOUR: 'it returns false'. Refute it at one input. -/
def fnExactCompactRegsWrong : ChangeSpec := { name := "fnExactCompactRegs", vars := ["loop.example/constanttime/impl.instrForms"], fn := fun _ => fun
  | [d, g1] => { results := [.lit (.bool false)], args := [d], vars := [g1] }
  | _ => none }
def FnExactCompactRegsWrongFalsely : Prop := fnExactCompactRegsRow.holds Tryd.pinned (OpenSpec.ofChange fnExactCompactRegsWrong)

/-- 'laws.FnExactCodeValid': WHATEVER THE INPUT: true; the input reads as it did. -/
def fnExactCodeValidSpec : ChangeSpec := { name := "fnExactCodeValid", vars := ["loop.example/constanttime/impl.instrForms"], fn := fun _ => fun
  | [d, g1] => { results := [.lit (.bool true)], args := [d], vars := [g1] }
  | _ => none }
def fnExactCodeValidRow : OpenClaim := { program := "ytbifbmpflhdijaadoor", sum := "9423cd80683941c41362efad5b92b00ec116c3588ae645360858778c489e7e31", func := "loop.example/constanttime/laws.FnExactCodeValid", spec := "fnExactCodeValid", unfollowed := true, recurses := true, named := ["loop.example/constanttime/impl.instrForms"], apart := false, laid := [("loop.example/constanttime/impl.instrForms", laid_loop_example_constanttime_impl_instrForms)] }
def FnExactCodeValidSaid : Prop := fnExactCodeValidRow.holds Tryd.pinned (OpenSpec.ofChange fnExactCodeValidSpec)

/-- ITS FALSE NEIGHBOUR: 'it returns false'. Refute it at one input. -/
def fnExactCodeValidWrong : ChangeSpec := { name := "fnExactCodeValid", vars := ["loop.example/constanttime/impl.instrForms"], fn := fun _ => fun
  | [d, g1] => { results := [.lit (.bool false)], args := [d], vars := [g1] }
  | _ => none }
def FnExactCodeValidWrongFalsely : Prop := fnExactCodeValidRow.holds Tryd.pinned (OpenSpec.ofChange fnExactCodeValidWrong)

/- THE SECOND FORM. 'bulk': how many values and letters a reading holds, each counted each time it is reached (what is shared counts as often as it is met; a slice's spare places count too). A statement '..UptoSaid' is the law's where the arguments, and the package variables that the reading takes, are together of bulk at most 1048576: NARROWER than '..Said'. Prove '..Said' where nothing that the law and all that it calls make is longer than what came in: it says more and counts as full. Else prove '..UptoSaid'. A law counts once. -/
mutual
def uptoBulk {H : Type} : DataW H → Nat
  | .lit (.string bytes) => bytes.length + 1
  | .lit _ => 1
  | .nil => 1
  | .ptr d => uptoBulk d + 1
  | .slice elems spare => uptoBulkAll elems + uptoBulkAll spare + 1
  | .agg parts => uptoBulkAll parts + 1
  | .iface _ d => uptoBulk d + 1
  | .map entries => uptoBulkEntries entries + 1
  | .held _ => 1
def uptoBulkAll {H : Type} : List (DataW H) → Nat
  | [] => 0
  | d :: r => uptoBulk d + uptoBulkAll r
def uptoBulkEntries {H : Type} : List (Lit × DataW H) → Nat
  | [] => 0
  | x :: r => uptoBulkEntry x + uptoBulkEntries r
def uptoBulkEntry {H : Type} : Lit × DataW H → Nat
  | (.string bytes, d) => bytes.length + uptoBulk d + 1
  | (_, d) => uptoBulk d + 1
 end
def uptoSmall : (H : Type) → List (DataW H) → Bool := fun _ ds => decide (uptoBulkAll ds ≤ 1048576)
def OpenSpec.upto (s : _root_.Go.ChangeSpec) : _root_.Go.OpenSpec := { _root_.Go.OpenSpec.ofChange s with cond := some uptoSmall }

/-- 'laws.FnExactFenceCode', WHERE WHAT IT READS IS OF BULK AT MOST 1048576: true; the input reads as it did. -/
def fnExactFenceCodeUptoRow : OpenClaim := { program := "ytbifbmpflhdijaadoor", sum := "9423cd80683941c41362efad5b92b00ec116c3588ae645360858778c489e7e31", func := "loop.example/constanttime/laws.FnExactFenceCode", spec := "fnExactFenceCode", unfollowed := true, recurses := true, named := ["loop.example/constanttime/impl.instrForms"], apart := false, laid := [("loop.example/constanttime/impl.instrForms", laid_loop_example_constanttime_impl_instrForms)], narrowed := true }
def FnExactFenceCodeUptoSaid : Prop := fnExactFenceCodeUptoRow.holds Tryd.pinned (OpenSpec.upto fnExactFenceCodeSpec)

/-- 'laws.FnExactLiveRegs', WHERE WHAT IT READS IS OF BULK AT MOST 1048576: true; the input reads as it did. -/
def fnExactLiveRegsUptoRow : OpenClaim := { program := "ytbifbmpflhdijaadoor", sum := "9423cd80683941c41362efad5b92b00ec116c3588ae645360858778c489e7e31", func := "loop.example/constanttime/laws.FnExactLiveRegs", spec := "fnExactLiveRegs", unfollowed := true, recurses := true, named := ["loop.example/constanttime/impl.instrForms"], apart := false, laid := [("loop.example/constanttime/impl.instrForms", laid_loop_example_constanttime_impl_instrForms)], narrowed := true }
def FnExactLiveRegsUptoSaid : Prop := fnExactLiveRegsUptoRow.holds Tryd.pinned (OpenSpec.upto fnExactLiveRegsSpec)

/-- 'laws.FnExactCheckLive', WHERE WHAT IT READS IS OF BULK AT MOST 1048576: true; the input reads as it did. -/
def fnExactCheckLiveUptoRow : OpenClaim := { program := "ytbifbmpflhdijaadoor", sum := "9423cd80683941c41362efad5b92b00ec116c3588ae645360858778c489e7e31", func := "loop.example/constanttime/laws.FnExactCheckLive", spec := "fnExactCheckLive", unfollowed := true, recurses := true, named := ["loop.example/constanttime/impl.instrForms"], apart := false, laid := [("loop.example/constanttime/impl.instrForms", laid_loop_example_constanttime_impl_instrForms)], narrowed := true }
def FnExactCheckLiveUptoSaid : Prop := fnExactCheckLiveUptoRow.holds Tryd.pinned (OpenSpec.upto fnExactCheckLiveSpec)

/-- 'laws.FnExactRemoveDead', WHERE WHAT IT READS IS OF BULK AT MOST 1048576: true; the input reads as it did. -/
def fnExactRemoveDeadUptoRow : OpenClaim := { program := "ytbifbmpflhdijaadoor", sum := "9423cd80683941c41362efad5b92b00ec116c3588ae645360858778c489e7e31", func := "loop.example/constanttime/laws.FnExactRemoveDead", spec := "fnExactRemoveDead", unfollowed := true, recurses := true, named := ["loop.example/constanttime/impl.instrForms"], apart := false, laid := [("loop.example/constanttime/impl.instrForms", laid_loop_example_constanttime_impl_instrForms)], narrowed := true }
def FnExactRemoveDeadUptoSaid : Prop := fnExactRemoveDeadUptoRow.holds Tryd.pinned (OpenSpec.upto fnExactRemoveDeadSpec)

/-- 'laws.FnExactEraseCode', WHERE WHAT IT READS IS OF BULK AT MOST 1048576: true; the input reads as it did. -/
def fnExactEraseCodeUptoRow : OpenClaim := { program := "ytbifbmpflhdijaadoor", sum := "9423cd80683941c41362efad5b92b00ec116c3588ae645360858778c489e7e31", func := "loop.example/constanttime/laws.FnExactEraseCode", spec := "fnExactEraseCode", unfollowed := true, recurses := true, named := ["loop.example/constanttime/impl.instrForms"], apart := false, laid := [("loop.example/constanttime/impl.instrForms", laid_loop_example_constanttime_impl_instrForms)], narrowed := true }
def FnExactEraseCodeUptoSaid : Prop := fnExactEraseCodeUptoRow.holds Tryd.pinned (OpenSpec.upto fnExactEraseCodeSpec)

/-- 'laws.FnExactRegsUsed', WHERE WHAT IT READS IS OF BULK AT MOST 1048576: true; the input reads as it did. -/
def fnExactRegsUsedUptoRow : OpenClaim := { program := "ytbifbmpflhdijaadoor", sum := "9423cd80683941c41362efad5b92b00ec116c3588ae645360858778c489e7e31", func := "loop.example/constanttime/laws.FnExactRegsUsed", spec := "fnExactRegsUsed", unfollowed := true, recurses := true, named := ["loop.example/constanttime/impl.instrForms"], apart := false, laid := [("loop.example/constanttime/impl.instrForms", laid_loop_example_constanttime_impl_instrForms)], narrowed := true }
def FnExactRegsUsedUptoSaid : Prop := fnExactRegsUsedUptoRow.holds Tryd.pinned (OpenSpec.upto fnExactRegsUsedSpec)

/-- 'laws.FnExactCompactRegs', WHERE WHAT IT READS IS OF BULK AT MOST 1048576: true; the input reads as it did. -/
def fnExactCompactRegsUptoRow : OpenClaim := { program := "ytbifbmpflhdijaadoor", sum := "9423cd80683941c41362efad5b92b00ec116c3588ae645360858778c489e7e31", func := "loop.example/constanttime/laws.FnExactCompactRegs", spec := "fnExactCompactRegs", unfollowed := true, recurses := true, named := ["loop.example/constanttime/impl.instrForms"], apart := false, laid := [("loop.example/constanttime/impl.instrForms", laid_loop_example_constanttime_impl_instrForms)], narrowed := true }
def FnExactCompactRegsUptoSaid : Prop := fnExactCompactRegsUptoRow.holds Tryd.pinned (OpenSpec.upto fnExactCompactRegsSpec)

/-- 'laws.FnExactCodeValid', WHERE WHAT IT READS IS OF BULK AT MOST 1048576: true; the input reads as it did. -/
def fnExactCodeValidUptoRow : OpenClaim := { program := "ytbifbmpflhdijaadoor", sum := "9423cd80683941c41362efad5b92b00ec116c3588ae645360858778c489e7e31", func := "loop.example/constanttime/laws.FnExactCodeValid", spec := "fnExactCodeValid", unfollowed := true, recurses := true, named := ["loop.example/constanttime/impl.instrForms"], apart := false, laid := [("loop.example/constanttime/impl.instrForms", laid_loop_example_constanttime_impl_instrForms)], narrowed := true }
def FnExactCodeValidUptoSaid : Prop := fnExactCodeValidUptoRow.holds Tryd.pinned (OpenSpec.upto fnExactCodeValidSpec)

end Rows
end Go.Proofs.YtbifbmpflhdijaaDoor

/-
  No cell of these rows narrows 'for every input' (looked for: loops, veiled, ifaces, maps, wideKeys, modest, calm, conditions, laid).
  DERIVED. THE GIVEN ROWS OF THIS SEAT. 11 by the template 'for every input the law returns true; each argument reads behind the call as it read before'; 0 by the template 'total and deterministic' (their statements: YtmajmchiflggjaaTotals.lean).
  GIVEN WITH THE SEED: the statements are not yours to turn. If you find one false, say at which input.
  Laid BY PROGRAM, IN A SANDBOX (cutbox-rows.mjs): the forced cells as the released guide's own fill.sh prints them over the translation 18de6630208b8e25… (all of the seat's roots in one cut). By AI agents, Wed Nov 11 2026. No macro, syntax, notation, axiom, sorry.
-/
import Derived.Test.YtmajmchiflggjaaChecked
import GoSem.Claim
import GoSem.ClaimJoined
import GoSem.ClaimMapViews
import Derived.JoinedTies
import Derived.KernelRfl
namespace Go.Proofs.Ytmajmchiflggjaa
/- THE CELL 'sum', in the pinned program and in every row, IS THE sha256 OF THE DUMP (.gsa) THAT YtmajmchiflggjaaProg.lean LOADS. Nothing in Lean hashes anything: it is a label: what it is worth is what the hold of that sum in a sandbox is worth. -/
noncomputable def Try.pinned : Pinned := { name := "ytmajmchiflggjaa", sum := "18de6630208b8e250c49d204eed7c49866ed920b65248a94417dacae97647bbf", checked := Try.checked }
namespace Rows
def none {H : Type} : Left H := { results := [], args := [] }

/-- 'laws.FnJoinLabels': WHATEVER THE INPUT: true; the input reads as it did. -/
def fnJoinLabelsSpec : ChangeSpec := { name := "fnJoinLabels", fn := fun _ => fun
  | [d] => { results := [.lit (.bool true)], args := [d] }
  | _ => none }
def fnJoinLabelsRow : OpenClaim := { program := "ytmajmchiflggjaa", sum := "18de6630208b8e250c49d204eed7c49866ed920b65248a94417dacae97647bbf", func := "loop.example/constanttime/laws.FnJoinLabels", spec := "fnJoinLabels", apart := false }
def FnJoinLabelsSaid : Prop := fnJoinLabelsRow.holds Try.pinned (OpenSpec.ofChange fnJoinLabelsSpec)

/-- ITS FALSE NEIGHBOUR: 'it returns false'. Refute it at one input. -/
def fnJoinLabelsWrong : ChangeSpec := { name := "fnJoinLabels", fn := fun _ => fun
  | [d] => { results := [.lit (.bool false)], args := [d] }
  | _ => none }
def FnJoinLabelsWrongFalsely : Prop := fnJoinLabelsRow.holds Try.pinned (OpenSpec.ofChange fnJoinLabelsWrong)

/-- 'laws.FnMeetLabels': WHATEVER THE INPUT: true; the input reads as it did. -/
def fnMeetLabelsSpec : ChangeSpec := { name := "fnMeetLabels", fn := fun _ => fun
  | [d] => { results := [.lit (.bool true)], args := [d] }
  | _ => none }
def fnMeetLabelsRow : OpenClaim := { program := "ytmajmchiflggjaa", sum := "18de6630208b8e250c49d204eed7c49866ed920b65248a94417dacae97647bbf", func := "loop.example/constanttime/laws.FnMeetLabels", spec := "fnMeetLabels", apart := false }
def FnMeetLabelsSaid : Prop := fnMeetLabelsRow.holds Try.pinned (OpenSpec.ofChange fnMeetLabelsSpec)

/-- ITS FALSE NEIGHBOUR: 'it returns false'. Refute it at one input. -/
def fnMeetLabelsWrong : ChangeSpec := { name := "fnMeetLabels", fn := fun _ => fun
  | [d] => { results := [.lit (.bool false)], args := [d] }
  | _ => none }
def FnMeetLabelsWrongFalsely : Prop := fnMeetLabelsRow.holds Try.pinned (OpenSpec.ofChange fnMeetLabelsWrong)

/-- 'laws.FnLabelFlows': WHATEVER THE INPUT: true; the input reads as it did. -/
def fnLabelFlowsSpec : ChangeSpec := { name := "fnLabelFlows", fn := fun _ => fun
  | [d1, d2] => { results := [.lit (.bool true)], args := [d1, d2] }
  | _ => none }
def fnLabelFlowsRow : OpenClaim := { program := "ytmajmchiflggjaa", sum := "18de6630208b8e250c49d204eed7c49866ed920b65248a94417dacae97647bbf", func := "loop.example/constanttime/laws.FnLabelFlows", spec := "fnLabelFlows", apart := false }
def FnLabelFlowsSaid : Prop := fnLabelFlowsRow.holds Try.pinned (OpenSpec.ofChange fnLabelFlowsSpec)

/-- ITS FALSE NEIGHBOUR: 'it returns false'. Refute it at one input. -/
def fnLabelFlowsWrong : ChangeSpec := { name := "fnLabelFlows", fn := fun _ => fun
  | [d1, d2] => { results := [.lit (.bool false)], args := [d1, d2] }
  | _ => none }
def FnLabelFlowsWrongFalsely : Prop := fnLabelFlowsRow.holds Try.pinned (OpenSpec.ofChange fnLabelFlowsWrong)

/-- 'laws.FnLabelSecret': WHATEVER THE INPUT: true; the input reads as it did. -/
def fnLabelSecretSpec : ChangeSpec := { name := "fnLabelSecret", fn := fun _ => fun
  | [d] => { results := [.lit (.bool true)], args := [d] }
  | _ => none }
def fnLabelSecretRow : OpenClaim := { program := "ytmajmchiflggjaa", sum := "18de6630208b8e250c49d204eed7c49866ed920b65248a94417dacae97647bbf", func := "loop.example/constanttime/laws.FnLabelSecret", spec := "fnLabelSecret", apart := false }
def FnLabelSecretSaid : Prop := fnLabelSecretRow.holds Try.pinned (OpenSpec.ofChange fnLabelSecretSpec)

/-- ITS FALSE NEIGHBOUR: 'it returns false'. Refute it at one input. -/
def fnLabelSecretWrong : ChangeSpec := { name := "fnLabelSecret", fn := fun _ => fun
  | [d] => { results := [.lit (.bool false)], args := [d] }
  | _ => none }
def FnLabelSecretWrongFalsely : Prop := fnLabelSecretRow.holds Try.pinned (OpenSpec.ofChange fnLabelSecretWrong)

/-- 'laws.FnLabelDistributive': WHATEVER THE INPUT: true; the input reads as it did. -/
def fnLabelDistributiveSpec : ChangeSpec := { name := "fnLabelDistributive", fn := fun _ => fun
  | [d1, d2] => { results := [.lit (.bool true)], args := [d1, d2] }
  | _ => none }
def fnLabelDistributiveRow : OpenClaim := { program := "ytmajmchiflggjaa", sum := "18de6630208b8e250c49d204eed7c49866ed920b65248a94417dacae97647bbf", func := "loop.example/constanttime/laws.FnLabelDistributive", spec := "fnLabelDistributive", apart := false }
def FnLabelDistributiveSaid : Prop := fnLabelDistributiveRow.holds Try.pinned (OpenSpec.ofChange fnLabelDistributiveSpec)

/-- ITS FALSE NEIGHBOUR: 'it returns false'. Refute it at one input. -/
def fnLabelDistributiveWrong : ChangeSpec := { name := "fnLabelDistributive", fn := fun _ => fun
  | [d1, d2] => { results := [.lit (.bool false)], args := [d1, d2] }
  | _ => none }
def FnLabelDistributiveWrongFalsely : Prop := fnLabelDistributiveRow.holds Try.pinned (OpenSpec.ofChange fnLabelDistributiveWrong)

/-- 'laws.FnExactLabelValid': WHATEVER THE INPUT: true; the input reads as it did. -/
def fnExactLabelValidSpec : ChangeSpec := { name := "fnExactLabelValid", fn := fun _ => fun
  | [d] => { results := [.lit (.bool true)], args := [d] }
  | _ => none }
def fnExactLabelValidRow : OpenClaim := { program := "ytmajmchiflggjaa", sum := "18de6630208b8e250c49d204eed7c49866ed920b65248a94417dacae97647bbf", func := "loop.example/constanttime/laws.FnExactLabelValid", spec := "fnExactLabelValid", apart := false }
def FnExactLabelValidSaid : Prop := fnExactLabelValidRow.holds Try.pinned (OpenSpec.ofChange fnExactLabelValidSpec)

/-- ITS FALSE NEIGHBOUR: 'it returns false'. Refute it at one input. -/
def fnExactLabelValidWrong : ChangeSpec := { name := "fnExactLabelValid", fn := fun _ => fun
  | [d] => { results := [.lit (.bool false)], args := [d] }
  | _ => none }
def FnExactLabelValidWrongFalsely : Prop := fnExactLabelValidRow.holds Try.pinned (OpenSpec.ofChange fnExactLabelValidWrong)

/-- 'laws.FnExactJoinLabels': WHATEVER THE INPUT: true; the input reads as it did. -/
def fnExactJoinLabelsSpec : ChangeSpec := { name := "fnExactJoinLabels", fn := fun _ => fun
  | [d1, d2] => { results := [.lit (.bool true)], args := [d1, d2] }
  | _ => none }
def fnExactJoinLabelsRow : OpenClaim := { program := "ytmajmchiflggjaa", sum := "18de6630208b8e250c49d204eed7c49866ed920b65248a94417dacae97647bbf", func := "loop.example/constanttime/laws.FnExactJoinLabels", spec := "fnExactJoinLabels", apart := false }
def FnExactJoinLabelsSaid : Prop := fnExactJoinLabelsRow.holds Try.pinned (OpenSpec.ofChange fnExactJoinLabelsSpec)

/-- ITS FALSE NEIGHBOUR: 'it returns false'. Refute it at one input. -/
def fnExactJoinLabelsWrong : ChangeSpec := { name := "fnExactJoinLabels", fn := fun _ => fun
  | [d1, d2] => { results := [.lit (.bool false)], args := [d1, d2] }
  | _ => none }
def FnExactJoinLabelsWrongFalsely : Prop := fnExactJoinLabelsRow.holds Try.pinned (OpenSpec.ofChange fnExactJoinLabelsWrong)

/-- 'laws.FnExactMeetLabels': WHATEVER THE INPUT: true; the input reads as it did. -/
def fnExactMeetLabelsSpec : ChangeSpec := { name := "fnExactMeetLabels", fn := fun _ => fun
  | [d1, d2] => { results := [.lit (.bool true)], args := [d1, d2] }
  | _ => none }
def fnExactMeetLabelsRow : OpenClaim := { program := "ytmajmchiflggjaa", sum := "18de6630208b8e250c49d204eed7c49866ed920b65248a94417dacae97647bbf", func := "loop.example/constanttime/laws.FnExactMeetLabels", spec := "fnExactMeetLabels", apart := false }
def FnExactMeetLabelsSaid : Prop := fnExactMeetLabelsRow.holds Try.pinned (OpenSpec.ofChange fnExactMeetLabelsSpec)

/-- ITS FALSE NEIGHBOUR: 'it returns false'. Refute it at one input. -/
def fnExactMeetLabelsWrong : ChangeSpec := { name := "fnExactMeetLabels", fn := fun _ => fun
  | [d1, d2] => { results := [.lit (.bool false)], args := [d1, d2] }
  | _ => none }
def FnExactMeetLabelsWrongFalsely : Prop := fnExactMeetLabelsRow.holds Try.pinned (OpenSpec.ofChange fnExactMeetLabelsWrong)

/-- 'laws.FnExactLabelFlows': WHATEVER THE INPUT: true; the input reads as it did. -/
def fnExactLabelFlowsSpec : ChangeSpec := { name := "fnExactLabelFlows", fn := fun _ => fun
  | [d1, d2] => { results := [.lit (.bool true)], args := [d1, d2] }
  | _ => none }
def fnExactLabelFlowsRow : OpenClaim := { program := "ytmajmchiflggjaa", sum := "18de6630208b8e250c49d204eed7c49866ed920b65248a94417dacae97647bbf", func := "loop.example/constanttime/laws.FnExactLabelFlows", spec := "fnExactLabelFlows", apart := false }
def FnExactLabelFlowsSaid : Prop := fnExactLabelFlowsRow.holds Try.pinned (OpenSpec.ofChange fnExactLabelFlowsSpec)

/-- ITS FALSE NEIGHBOUR: 'it returns false'. Refute it at one input. -/
def fnExactLabelFlowsWrong : ChangeSpec := { name := "fnExactLabelFlows", fn := fun _ => fun
  | [d1, d2] => { results := [.lit (.bool false)], args := [d1, d2] }
  | _ => none }
def FnExactLabelFlowsWrongFalsely : Prop := fnExactLabelFlowsRow.holds Try.pinned (OpenSpec.ofChange fnExactLabelFlowsWrong)

/-- 'laws.FnExactLabelSecret': WHATEVER THE INPUT: true; the input reads as it did. -/
def fnExactLabelSecretSpec : ChangeSpec := { name := "fnExactLabelSecret", fn := fun _ => fun
  | [d] => { results := [.lit (.bool true)], args := [d] }
  | _ => none }
def fnExactLabelSecretRow : OpenClaim := { program := "ytmajmchiflggjaa", sum := "18de6630208b8e250c49d204eed7c49866ed920b65248a94417dacae97647bbf", func := "loop.example/constanttime/laws.FnExactLabelSecret", spec := "fnExactLabelSecret", apart := false }
def FnExactLabelSecretSaid : Prop := fnExactLabelSecretRow.holds Try.pinned (OpenSpec.ofChange fnExactLabelSecretSpec)

/-- ITS FALSE NEIGHBOUR: 'it returns false'. Refute it at one input. -/
def fnExactLabelSecretWrong : ChangeSpec := { name := "fnExactLabelSecret", fn := fun _ => fun
  | [d] => { results := [.lit (.bool false)], args := [d] }
  | _ => none }
def FnExactLabelSecretWrongFalsely : Prop := fnExactLabelSecretRow.holds Try.pinned (OpenSpec.ofChange fnExactLabelSecretWrong)

/-- 'laws.FnExactLabelTrusted': WHATEVER THE INPUT: true; the input reads as it did. -/
def fnExactLabelTrustedSpec : ChangeSpec := { name := "fnExactLabelTrusted", fn := fun _ => fun
  | [d] => { results := [.lit (.bool true)], args := [d] }
  | _ => none }
def fnExactLabelTrustedRow : OpenClaim := { program := "ytmajmchiflggjaa", sum := "18de6630208b8e250c49d204eed7c49866ed920b65248a94417dacae97647bbf", func := "loop.example/constanttime/laws.FnExactLabelTrusted", spec := "fnExactLabelTrusted", apart := false }
def FnExactLabelTrustedSaid : Prop := fnExactLabelTrustedRow.holds Try.pinned (OpenSpec.ofChange fnExactLabelTrustedSpec)

/-- ITS FALSE NEIGHBOUR: 'it returns false'. Refute it at one input. -/
def fnExactLabelTrustedWrong : ChangeSpec := { name := "fnExactLabelTrusted", fn := fun _ => fun
  | [d] => { results := [.lit (.bool false)], args := [d] }
  | _ => none }
def FnExactLabelTrustedWrongFalsely : Prop := fnExactLabelTrustedRow.holds Try.pinned (OpenSpec.ofChange fnExactLabelTrustedWrong)

/- THE SECOND FORM. 'bulk': how many values and letters a reading holds, each counted each time it is reached (what is shared counts as often as it is met; a slice's spare places count too). A statement '..UptoSaid' is the law's where the arguments, and the package variables that the reading takes, are together of bulk at most 1048576: NARROWER than '..Said'. Prove '..Said' where nothing that the law and all that it calls make is longer than what came in: it says more and counts as full. Else prove '..UptoSaid'. A law counts once. -/
mutual
def uptoBulk {H : Type} : DataW H → Nat
  | .lit (.string bytes) => bytes.length + 1
  | .lit _ => 1
  | .nil => 1
  | .ptr d => uptoBulk d + 1
  | .slice elems spare => uptoBulkAll elems + uptoBulkAll spare + 1
  | .agg parts => uptoBulkAll parts + 1
  | .iface _ d => uptoBulk d + 1
  | .map entries => uptoBulkEntries entries + 1
  | .held _ => 1
def uptoBulkAll {H : Type} : List (DataW H) → Nat
  | [] => 0
  | d :: r => uptoBulk d + uptoBulkAll r
def uptoBulkEntries {H : Type} : List (Lit × DataW H) → Nat
  | [] => 0
  | x :: r => uptoBulkEntry x + uptoBulkEntries r
def uptoBulkEntry {H : Type} : Lit × DataW H → Nat
  | (.string bytes, d) => bytes.length + uptoBulk d + 1
  | (_, d) => uptoBulk d + 1
 end
def uptoSmall : (H : Type) → List (DataW H) → Bool := fun _ ds => decide (uptoBulkAll ds ≤ 1048576)
def OpenSpec.upto (s : _root_.Go.ChangeSpec) : _root_.Go.OpenSpec := { _root_.Go.OpenSpec.ofChange s with cond := some uptoSmall }

/-- 'laws.FnJoinLabels', WHERE WHAT IT READS IS OF BULK AT MOST 1048576: true; the input reads as it did. -/
def fnJoinLabelsUptoRow : OpenClaim := { program := "ytmajmchiflggjaa", sum := "18de6630208b8e250c49d204eed7c49866ed920b65248a94417dacae97647bbf", func := "loop.example/constanttime/laws.FnJoinLabels", spec := "fnJoinLabels", apart := false, narrowed := true }
def FnJoinLabelsUptoSaid : Prop := fnJoinLabelsUptoRow.holds Try.pinned (OpenSpec.upto fnJoinLabelsSpec)

/-- 'laws.FnMeetLabels', WHERE WHAT IT READS IS OF BULK AT MOST 1048576: true; the input reads as it did. -/
def fnMeetLabelsUptoRow : OpenClaim := { program := "ytmajmchiflggjaa", sum := "18de6630208b8e250c49d204eed7c49866ed920b65248a94417dacae97647bbf", func := "loop.example/constanttime/laws.FnMeetLabels", spec := "fnMeetLabels", apart := false, narrowed := true }
def FnMeetLabelsUptoSaid : Prop := fnMeetLabelsUptoRow.holds Try.pinned (OpenSpec.upto fnMeetLabelsSpec)

/-- 'laws.FnLabelFlows', WHERE WHAT IT READS IS OF BULK AT MOST 1048576: true; the input reads as it did. -/
def fnLabelFlowsUptoRow : OpenClaim := { program := "ytmajmchiflggjaa", sum := "18de6630208b8e250c49d204eed7c49866ed920b65248a94417dacae97647bbf", func := "loop.example/constanttime/laws.FnLabelFlows", spec := "fnLabelFlows", apart := false, narrowed := true }
def FnLabelFlowsUptoSaid : Prop := fnLabelFlowsUptoRow.holds Try.pinned (OpenSpec.upto fnLabelFlowsSpec)

/-- 'laws.FnLabelSecret', WHERE WHAT IT READS IS OF BULK AT MOST 1048576: true; the input reads as it did. -/
def fnLabelSecretUptoRow : OpenClaim := { program := "ytmajmchiflggjaa", sum := "18de6630208b8e250c49d204eed7c49866ed920b65248a94417dacae97647bbf", func := "loop.example/constanttime/laws.FnLabelSecret", spec := "fnLabelSecret", apart := false, narrowed := true }
def FnLabelSecretUptoSaid : Prop := fnLabelSecretUptoRow.holds Try.pinned (OpenSpec.upto fnLabelSecretSpec)

/-- 'laws.FnLabelDistributive', WHERE WHAT IT READS IS OF BULK AT MOST 1048576: true; the input reads as it did. -/
def fnLabelDistributiveUptoRow : OpenClaim := { program := "ytmajmchiflggjaa", sum := "18de6630208b8e250c49d204eed7c49866ed920b65248a94417dacae97647bbf", func := "loop.example/constanttime/laws.FnLabelDistributive", spec := "fnLabelDistributive", apart := false, narrowed := true }
def FnLabelDistributiveUptoSaid : Prop := fnLabelDistributiveUptoRow.holds Try.pinned (OpenSpec.upto fnLabelDistributiveSpec)

/-- 'laws.FnExactLabelValid', WHERE WHAT IT READS IS OF BULK AT MOST 1048576: true; the input reads as it did. -/
def fnExactLabelValidUptoRow : OpenClaim := { program := "ytmajmchiflggjaa", sum := "18de6630208b8e250c49d204eed7c49866ed920b65248a94417dacae97647bbf", func := "loop.example/constanttime/laws.FnExactLabelValid", spec := "fnExactLabelValid", apart := false, narrowed := true }
def FnExactLabelValidUptoSaid : Prop := fnExactLabelValidUptoRow.holds Try.pinned (OpenSpec.upto fnExactLabelValidSpec)

/-- 'laws.FnExactJoinLabels', WHERE WHAT IT READS IS OF BULK AT MOST 1048576: true; the input reads as it did. -/
def fnExactJoinLabelsUptoRow : OpenClaim := { program := "ytmajmchiflggjaa", sum := "18de6630208b8e250c49d204eed7c49866ed920b65248a94417dacae97647bbf", func := "loop.example/constanttime/laws.FnExactJoinLabels", spec := "fnExactJoinLabels", apart := false, narrowed := true }
def FnExactJoinLabelsUptoSaid : Prop := fnExactJoinLabelsUptoRow.holds Try.pinned (OpenSpec.upto fnExactJoinLabelsSpec)

/-- 'laws.FnExactMeetLabels', WHERE WHAT IT READS IS OF BULK AT MOST 1048576: true; the input reads as it did. -/
def fnExactMeetLabelsUptoRow : OpenClaim := { program := "ytmajmchiflggjaa", sum := "18de6630208b8e250c49d204eed7c49866ed920b65248a94417dacae97647bbf", func := "loop.example/constanttime/laws.FnExactMeetLabels", spec := "fnExactMeetLabels", apart := false, narrowed := true }
def FnExactMeetLabelsUptoSaid : Prop := fnExactMeetLabelsUptoRow.holds Try.pinned (OpenSpec.upto fnExactMeetLabelsSpec)

/-- 'laws.FnExactLabelFlows', WHERE WHAT IT READS IS OF BULK AT MOST 1048576: true; the input reads as it did. -/
def fnExactLabelFlowsUptoRow : OpenClaim := { program := "ytmajmchiflggjaa", sum := "18de6630208b8e250c49d204eed7c49866ed920b65248a94417dacae97647bbf", func := "loop.example/constanttime/laws.FnExactLabelFlows", spec := "fnExactLabelFlows", apart := false, narrowed := true }
def FnExactLabelFlowsUptoSaid : Prop := fnExactLabelFlowsUptoRow.holds Try.pinned (OpenSpec.upto fnExactLabelFlowsSpec)

/-- 'laws.FnExactLabelSecret', WHERE WHAT IT READS IS OF BULK AT MOST 1048576: true; the input reads as it did. -/
def fnExactLabelSecretUptoRow : OpenClaim := { program := "ytmajmchiflggjaa", sum := "18de6630208b8e250c49d204eed7c49866ed920b65248a94417dacae97647bbf", func := "loop.example/constanttime/laws.FnExactLabelSecret", spec := "fnExactLabelSecret", apart := false, narrowed := true }
def FnExactLabelSecretUptoSaid : Prop := fnExactLabelSecretUptoRow.holds Try.pinned (OpenSpec.upto fnExactLabelSecretSpec)

/-- 'laws.FnExactLabelTrusted', WHERE WHAT IT READS IS OF BULK AT MOST 1048576: true; the input reads as it did. -/
def fnExactLabelTrustedUptoRow : OpenClaim := { program := "ytmajmchiflggjaa", sum := "18de6630208b8e250c49d204eed7c49866ed920b65248a94417dacae97647bbf", func := "loop.example/constanttime/laws.FnExactLabelTrusted", spec := "fnExactLabelTrusted", apart := false, narrowed := true }
def FnExactLabelTrustedUptoSaid : Prop := fnExactLabelTrustedUptoRow.holds Try.pinned (OpenSpec.upto fnExactLabelTrustedSpec)

end Rows
end Go.Proofs.Ytmajmchiflggjaa

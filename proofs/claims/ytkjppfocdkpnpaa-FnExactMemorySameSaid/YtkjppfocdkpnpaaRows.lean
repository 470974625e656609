/-
  NARROWER THAN 'FOR EVERY INPUT', by the rows' own cells (each row's printed sentence says how): FnExactMemoryValid: loops.
  DERIVED. THE GIVEN ROWS OF THIS SEAT. 5 by the template 'for every input the law returns true; each argument reads behind the call as it read before'; 0 by the template 'total and deterministic' (their statements: YtkjppfocdkpnpaaTotals.lean).
  GIVEN WITH THE SEED: the statements are not yours to turn. If you find one false, say at which input.
  Laid BY PROGRAM, IN A SANDBOX (cutbox-rows.mjs): the forced cells as the released guide's own fill.sh prints them over the translation 4e4a1fc731de095f… (all of the seat's roots in one cut). By AI agents, Wed Nov 11 2026. No macro, syntax, notation, axiom, sorry.
-/
import Derived.Test.YtkjppfocdkpnpaaChecked
import GoSem.Claim
import GoSem.ClaimJoined
import GoSem.ClaimMapViews
import Derived.JoinedTies
import Derived.KernelRfl
namespace Go.Proofs.Ytkjppfocdkpnpaa
/- THE CELL 'sum', in the pinned program and in every row, IS THE sha256 OF THE DUMP (.gsa) THAT YtkjppfocdkpnpaaProg.lean LOADS. Nothing in Lean hashes anything: it is a label: what it is worth is what the hold of that sum in a sandbox is worth. -/
noncomputable def Try.pinned : Pinned := { name := "ytkjppfocdkpnpaa", sum := "4e4a1fc731de095ff26012484ead168e507ac76efacffbeebad09523689c5b6a", checked := Try.checked }
namespace Rows
def none {H : Type} : Left H := { results := [], args := [] }

/-- 'laws.FnFirstDifference': WHATEVER THE INPUT: true; the input reads as it did. -/
def fnFirstDifferenceSpec : ChangeSpec := { name := "fnFirstDifference", fn := fun _ => fun
  | [d] => { results := [.lit (.bool true)], args := [d] }
  | _ => none }
def fnFirstDifferenceRow : OpenClaim := { program := "ytkjppfocdkpnpaa", sum := "4e4a1fc731de095ff26012484ead168e507ac76efacffbeebad09523689c5b6a", func := "loop.example/constanttime/laws.FnFirstDifference", spec := "fnFirstDifference", recurses := true, apart := false }
def FnFirstDifferenceSaid : Prop := fnFirstDifferenceRow.holds Try.pinned (OpenSpec.ofChange fnFirstDifferenceSpec)

/-- ITS FALSE NEIGHBOUR: 'it returns false'. Refute it at one input. -/
def fnFirstDifferenceWrong : ChangeSpec := { name := "fnFirstDifference", fn := fun _ => fun
  | [d] => { results := [.lit (.bool false)], args := [d] }
  | _ => none }
def FnFirstDifferenceWrongFalsely : Prop := fnFirstDifferenceRow.holds Try.pinned (OpenSpec.ofChange fnFirstDifferenceWrong)

/-- 'laws.FnExactMemoryValid': WHATEVER THE INPUT: true; the input reads as it did. -/
def fnExactMemoryValidSpec : ChangeSpec := { name := "fnExactMemoryValid", fn := fun _ => fun
  | [d1, d2] => { results := [.lit (.bool true)], args := [d1, d2] }
  | _ => none }
def fnExactMemoryValidRow : OpenClaim := { program := "ytkjppfocdkpnpaa", sum := "4e4a1fc731de095ff26012484ead168e507ac76efacffbeebad09523689c5b6a", func := "loop.example/constanttime/laws.FnExactMemoryValid", spec := "fnExactMemoryValid", unfollowed := true, recurses := true, loops := true, apart := false }
def FnExactMemoryValidSaid : Prop := fnExactMemoryValidRow.holds Try.pinned (OpenSpec.ofChange fnExactMemoryValidSpec)

/-- ITS FALSE NEIGHBOUR: 'it returns false'. Refute it at one input. -/
def fnExactMemoryValidWrong : ChangeSpec := { name := "fnExactMemoryValid", fn := fun _ => fun
  | [d1, d2] => { results := [.lit (.bool false)], args := [d1, d2] }
  | _ => none }
def FnExactMemoryValidWrongFalsely : Prop := fnExactMemoryValidRow.holds Try.pinned (OpenSpec.ofChange fnExactMemoryValidWrong)

/-- 'laws.FnExactMemorySame': WHATEVER THE INPUT: true; the input reads as it did. -/
def fnExactMemorySameSpec : ChangeSpec := { name := "fnExactMemorySame", fn := fun _ => fun
  | [d1, d2] => { results := [.lit (.bool true)], args := [d1, d2] }
  | _ => none }
def fnExactMemorySameRow : OpenClaim := { program := "ytkjppfocdkpnpaa", sum := "4e4a1fc731de095ff26012484ead168e507ac76efacffbeebad09523689c5b6a", func := "loop.example/constanttime/laws.FnExactMemorySame", spec := "fnExactMemorySame", unfollowed := true, recurses := true, apart := false }
def FnExactMemorySameSaid : Prop := fnExactMemorySameRow.holds Try.pinned (OpenSpec.ofChange fnExactMemorySameSpec)

/-- ITS FALSE NEIGHBOUR: 'it returns false'. Refute it at one input. -/
def fnExactMemorySameWrong : ChangeSpec := { name := "fnExactMemorySame", fn := fun _ => fun
  | [d1, d2] => { results := [.lit (.bool false)], args := [d1, d2] }
  | _ => none }
def FnExactMemorySameWrongFalsely : Prop := fnExactMemorySameRow.holds Try.pinned (OpenSpec.ofChange fnExactMemorySameWrong)

/-- 'laws.FnExactTraceSame': WHATEVER THE INPUT: true; the input reads as it did. -/
def fnExactTraceSameSpec : ChangeSpec := { name := "fnExactTraceSame", fn := fun _ => fun
  | [d1, d2] => { results := [.lit (.bool true)], args := [d1, d2] }
  | _ => none }
def fnExactTraceSameRow : OpenClaim := { program := "ytkjppfocdkpnpaa", sum := "4e4a1fc731de095ff26012484ead168e507ac76efacffbeebad09523689c5b6a", func := "loop.example/constanttime/laws.FnExactTraceSame", spec := "fnExactTraceSame", apart := false }
def FnExactTraceSameSaid : Prop := fnExactTraceSameRow.holds Try.pinned (OpenSpec.ofChange fnExactTraceSameSpec)

/-- ITS FALSE NEIGHBOUR: 'it returns false'. Refute it at one input. -/
def fnExactTraceSameWrong : ChangeSpec := { name := "fnExactTraceSame", fn := fun _ => fun
  | [d1, d2] => { results := [.lit (.bool false)], args := [d1, d2] }
  | _ => none }
def FnExactTraceSameWrongFalsely : Prop := fnExactTraceSameRow.holds Try.pinned (OpenSpec.ofChange fnExactTraceSameWrong)

/-- 'laws.FnExactFirstDifference': WHATEVER THE INPUT: true; the input reads as it did. -/
def fnExactFirstDifferenceSpec : ChangeSpec := { name := "fnExactFirstDifference", fn := fun _ => fun
  | [d1, d2] => { results := [.lit (.bool true)], args := [d1, d2] }
  | _ => none }
def fnExactFirstDifferenceRow : OpenClaim := { program := "ytkjppfocdkpnpaa", sum := "4e4a1fc731de095ff26012484ead168e507ac76efacffbeebad09523689c5b6a", func := "loop.example/constanttime/laws.FnExactFirstDifference", spec := "fnExactFirstDifference", apart := false }
def FnExactFirstDifferenceSaid : Prop := fnExactFirstDifferenceRow.holds Try.pinned (OpenSpec.ofChange fnExactFirstDifferenceSpec)

/-- ITS FALSE NEIGHBOUR: 'it returns false'. Refute it at one input. -/
def fnExactFirstDifferenceWrong : ChangeSpec := { name := "fnExactFirstDifference", fn := fun _ => fun
  | [d1, d2] => { results := [.lit (.bool false)], args := [d1, d2] }
  | _ => none }
def FnExactFirstDifferenceWrongFalsely : Prop := fnExactFirstDifferenceRow.holds Try.pinned (OpenSpec.ofChange fnExactFirstDifferenceWrong)

/- THE SECOND FORM. 'bulk': how many values and letters a reading holds, each counted each time it is reached (what is shared counts as often as it is met; a slice's spare places count too). A statement '..UptoSaid' is the law's where the arguments, and the package variables that the reading takes, are together of bulk at most 1048576: NARROWER than '..Said'. Prove '..Said' where nothing that the law and all that it calls make is longer than what came in: it says more and counts as full. Else prove '..UptoSaid'. A law counts once. -/
mutual
def uptoBulk {H : Type} : DataW H → Nat
  | .lit (.string bytes) => bytes.length + 1
  | .lit _ => 1
  | .nil => 1
  | .ptr d => uptoBulk d + 1
  | .slice elems spare => uptoBulkAll elems + uptoBulkAll spare + 1
  | .agg parts => uptoBulkAll parts + 1
  | .iface _ d => uptoBulk d + 1
  | .map entries => uptoBulkEntries entries + 1
  | .held _ => 1
def uptoBulkAll {H : Type} : List (DataW H) → Nat
  | [] => 0
  | d :: r => uptoBulk d + uptoBulkAll r
def uptoBulkEntries {H : Type} : List (Lit × DataW H) → Nat
  | [] => 0
  | x :: r => uptoBulkEntry x + uptoBulkEntries r
def uptoBulkEntry {H : Type} : Lit × DataW H → Nat
  | (.string bytes, d) => bytes.length + uptoBulk d + 1
  | (_, d) => uptoBulk d + 1
 end
def uptoSmall : (H : Type) → List (DataW H) → Bool := fun _ ds => decide (uptoBulkAll ds ≤ 1048576)
def OpenSpec.upto (s : _root_.Go.ChangeSpec) : _root_.Go.OpenSpec := { _root_.Go.OpenSpec.ofChange s with cond := some uptoSmall }

/-- 'laws.FnFirstDifference', WHERE WHAT IT READS IS OF BULK AT MOST 1048576: true; the input reads as it did. -/
def fnFirstDifferenceUptoRow : OpenClaim := { program := "ytkjppfocdkpnpaa", sum := "4e4a1fc731de095ff26012484ead168e507ac76efacffbeebad09523689c5b6a", func := "loop.example/constanttime/laws.FnFirstDifference", spec := "fnFirstDifference", recurses := true, apart := false, narrowed := true }
def FnFirstDifferenceUptoSaid : Prop := fnFirstDifferenceUptoRow.holds Try.pinned (OpenSpec.upto fnFirstDifferenceSpec)

/-- 'laws.FnExactMemoryValid', WHERE WHAT IT READS IS OF BULK AT MOST 1048576: true; the input reads as it did. -/
def fnExactMemoryValidUptoRow : OpenClaim := { program := "ytkjppfocdkpnpaa", sum := "4e4a1fc731de095ff26012484ead168e507ac76efacffbeebad09523689c5b6a", func := "loop.example/constanttime/laws.FnExactMemoryValid", spec := "fnExactMemoryValid", unfollowed := true, recurses := true, loops := true, apart := false, narrowed := true }
def FnExactMemoryValidUptoSaid : Prop := fnExactMemoryValidUptoRow.holds Try.pinned (OpenSpec.upto fnExactMemoryValidSpec)

/-- 'laws.FnExactMemorySame', WHERE WHAT IT READS IS OF BULK AT MOST 1048576: true; the input reads as it did. -/
def fnExactMemorySameUptoRow : OpenClaim := { program := "ytkjppfocdkpnpaa", sum := "4e4a1fc731de095ff26012484ead168e507ac76efacffbeebad09523689c5b6a", func := "loop.example/constanttime/laws.FnExactMemorySame", spec := "fnExactMemorySame", unfollowed := true, recurses := true, apart := false, narrowed := true }
def FnExactMemorySameUptoSaid : Prop := fnExactMemorySameUptoRow.holds Try.pinned (OpenSpec.upto fnExactMemorySameSpec)

/-- 'laws.FnExactTraceSame', WHERE WHAT IT READS IS OF BULK AT MOST 1048576: true; the input reads as it did. -/
def fnExactTraceSameUptoRow : OpenClaim := { program := "ytkjppfocdkpnpaa", sum := "4e4a1fc731de095ff26012484ead168e507ac76efacffbeebad09523689c5b6a", func := "loop.example/constanttime/laws.FnExactTraceSame", spec := "fnExactTraceSame", apart := false, narrowed := true }
def FnExactTraceSameUptoSaid : Prop := fnExactTraceSameUptoRow.holds Try.pinned (OpenSpec.upto fnExactTraceSameSpec)

/-- 'laws.FnExactFirstDifference', WHERE WHAT IT READS IS OF BULK AT MOST 1048576: true; the input reads as it did. -/
def fnExactFirstDifferenceUptoRow : OpenClaim := { program := "ytkjppfocdkpnpaa", sum := "4e4a1fc731de095ff26012484ead168e507ac76efacffbeebad09523689c5b6a", func := "loop.example/constanttime/laws.FnExactFirstDifference", spec := "fnExactFirstDifference", apart := false, narrowed := true }
def FnExactFirstDifferenceUptoSaid : Prop := fnExactFirstDifferenceUptoRow.holds Try.pinned (OpenSpec.upto fnExactFirstDifferenceSpec)

end Rows
end Go.Proofs.Ytkjppfocdkpnpaa

/-
  DERIVED. GIVEN WITH THE SEED: THE CARDS: each row of YtnbngjgkmhdijaaDoorRows.lean that lists a variable, with what it lists TIED to the program's text (the seventh form; the later family's looks); each row that meets fmt, with fmt's text TOLD by the authors' own Lean function (tested against real Go, not proved from fmt's source: count such statements apart). THE CARD IS WHAT COUNTS. Prove the row's statement (the work); the ties are given (YtnbngjgkmhdijaaDoorTie.lean); close each card by the builder's one call (the guide's Derived/Test/ToyasCard.lean, 'card_holds'). Laid BY PROGRAM, IN A SANDBOX (cutbox-door.mjs). By AI agents, Wed Nov 11 2026. No macro, syntax, notation, axiom, sorry.
-/
import Derived.Test.YtnbngjgkmhdijaaDoorRows
import GoSem.ClaimSeven
namespace Go.Proofs.YtnbngjgkmhdijaaDoor
namespace Rows

/-- THE TIED CARD OF 'laws.FnExactExprLabel'. -/
def fnExactExprLabelCard : Claim7 := { stood := { row := fnExactExprLabelRow, standIns := [], harness := (true, "01fdbb66897936d929b53b50c6d5859283651820f88d8d7a9b8fac685ef1bacc"), looks := false }, kinds := [], alts := [], laidByText := true, laidKinds := [.data, .data, .data], laidTests := true, laidLooks := .later }
def FnExactExprLabelCardSaid : Prop := Claim7.holds Tryd.pinned (.plain (OpenSpec.ofChange fnExactExprLabelSpec)) fnExactExprLabelCard

/-- THE SECOND FORM's CARD OF 'laws.FnExactExprLabel'. -/
def fnExactExprLabelUptoCard : Claim7 := { stood := { row := fnExactExprLabelUptoRow, standIns := [], harness := (true, "01fdbb66897936d929b53b50c6d5859283651820f88d8d7a9b8fac685ef1bacc"), looks := false }, kinds := [], alts := [], laidByText := true, laidKinds := [.data, .data, .data], laidTests := true, laidLooks := .later }
def FnExactExprLabelUptoCardSaid : Prop := Claim7.holds Tryd.pinned (.plain (OpenSpec.upto fnExactExprLabelSpec)) fnExactExprLabelUptoCard
end Rows
end Go.Proofs.YtnbngjgkmhdijaaDoor

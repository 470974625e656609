/-
  DERIVED. GIVEN WITH THE SEED: THE CARDS: each row of YtmajmchiflggjaaDoorRows.lean that lists a variable, with what it lists TIED to the program's text (the seventh form; the later family's looks); each row that meets fmt, with fmt's text TOLD by the authors' own Lean function (tested against real Go, not proved from fmt's source: count such statements apart). THE CARD IS WHAT COUNTS. Prove the row's statement (the work); the ties are given (YtmajmchiflggjaaDoorTie.lean); close each card by the builder's one call (the guide's Derived/Test/ToyasCard.lean, 'card_holds'). Laid BY PROGRAM, IN A SANDBOX (cutbox-door.mjs). By AI agents, Wed Nov 11 2026. No macro, syntax, notation, axiom, sorry.
-/
import Derived.Test.YtmajmchiflggjaaDoorRows
import GoSem.ClaimSeven
namespace Go.Proofs.YtmajmchiflggjaaDoor
namespace Rows

/-- THE TIED CARD OF 'laws.FnLabelText'. -/
def fnLabelTextCard : Claim7 := { stood := { row := fnLabelTextRow, standIns := [], harness := (true, "c67e16cbe6c05dedf7dfd5235047a8a0ab7c23c0c5bd370cd40122dfdf5910ba"), looks := false }, kinds := [], alts := [], laidByText := true, laidKinds := [.data], laidTests := true, laidLooks := .later }
def FnLabelTextCardSaid : Prop := Claim7.holds Tryd.pinned (.plain (OpenSpec.ofChange fnLabelTextSpec)) fnLabelTextCard

/-- THE TIED CARD OF 'laws.FnExactFormatLabels'. -/
def fnExactFormatLabelsCard : Claim7 := { stood := { row := fnExactFormatLabelsRow, standIns := [], harness := (true, "c67e16cbe6c05dedf7dfd5235047a8a0ab7c23c0c5bd370cd40122dfdf5910ba"), looks := false }, kinds := [], alts := [], laidByText := true, laidKinds := [.data], laidTests := true, laidLooks := .later }
def FnExactFormatLabelsCardSaid : Prop := Claim7.holds Tryd.pinned (.plain (OpenSpec.ofChange fnExactFormatLabelsSpec)) fnExactFormatLabelsCard

/-- THE TIED CARD OF 'laws.FnExactParseLabels'. -/
def fnExactParseLabelsCard : Claim7 := { stood := { row := fnExactParseLabelsRow, standIns := [], harness := (true, "c67e16cbe6c05dedf7dfd5235047a8a0ab7c23c0c5bd370cd40122dfdf5910ba"), looks := false }, kinds := [], alts := [], laidByText := true, laidKinds := [.data], laidTests := true, laidLooks := .later }
def FnExactParseLabelsCardSaid : Prop := Claim7.holds Tryd.pinned (.plain (OpenSpec.ofChange fnExactParseLabelsSpec)) fnExactParseLabelsCard

/-- THE SECOND FORM's CARD OF 'laws.FnLabelText'. -/
def fnLabelTextUptoCard : Claim7 := { stood := { row := fnLabelTextUptoRow, standIns := [], harness := (true, "c67e16cbe6c05dedf7dfd5235047a8a0ab7c23c0c5bd370cd40122dfdf5910ba"), looks := false }, kinds := [], alts := [], laidByText := true, laidKinds := [.data], laidTests := true, laidLooks := .later }
def FnLabelTextUptoCardSaid : Prop := Claim7.holds Tryd.pinned (.plain (OpenSpec.upto fnLabelTextSpec)) fnLabelTextUptoCard

/-- THE SECOND FORM's CARD OF 'laws.FnExactFormatLabels'. -/
def fnExactFormatLabelsUptoCard : Claim7 := { stood := { row := fnExactFormatLabelsUptoRow, standIns := [], harness := (true, "c67e16cbe6c05dedf7dfd5235047a8a0ab7c23c0c5bd370cd40122dfdf5910ba"), looks := false }, kinds := [], alts := [], laidByText := true, laidKinds := [.data], laidTests := true, laidLooks := .later }
def FnExactFormatLabelsUptoCardSaid : Prop := Claim7.holds Tryd.pinned (.plain (OpenSpec.upto fnExactFormatLabelsSpec)) fnExactFormatLabelsUptoCard

/-- THE SECOND FORM's CARD OF 'laws.FnExactParseLabels'. -/
def fnExactParseLabelsUptoCard : Claim7 := { stood := { row := fnExactParseLabelsUptoRow, standIns := [], harness := (true, "c67e16cbe6c05dedf7dfd5235047a8a0ab7c23c0c5bd370cd40122dfdf5910ba"), looks := false }, kinds := [], alts := [], laidByText := true, laidKinds := [.data], laidTests := true, laidLooks := .later }
def FnExactParseLabelsUptoCardSaid : Prop := Claim7.holds Tryd.pinned (.plain (OpenSpec.upto fnExactParseLabelsSpec)) fnExactParseLabelsUptoCard
end Rows
end Go.Proofs.YtmajmchiflggjaaDoor

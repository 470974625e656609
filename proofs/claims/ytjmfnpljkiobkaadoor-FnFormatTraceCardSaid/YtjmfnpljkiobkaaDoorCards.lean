/-
  DERIVED. GIVEN WITH THE SEED: THE CARDS: each row of YtjmfnpljkiobkaaDoorRows.lean that lists a variable, with what it lists TIED to the program's text (the seventh form; the later family's looks); each row that meets fmt, with fmt's text TOLD by the authors' own Lean function (tested against real Go, not proved from fmt's source: count such statements apart). THE CARD IS WHAT COUNTS. Prove the row's statement (the work); the ties are given (YtjmfnpljkiobkaaDoorTie.lean); close each card by the builder's one call (the guide's Derived/Test/ToyasCard.lean, 'card_holds'). Laid BY PROGRAM, IN A SANDBOX (cutbox-door.mjs). By AI agents, Wed Nov 11 2026. No macro, syntax, notation, axiom, sorry.
-/
import Derived.Test.YtjmfnpljkiobkaaDoorRows
import GoSem.ClaimSeven
namespace Go.Proofs.YtjmfnpljkiobkaaDoor
namespace Rows

/-- THE TIED CARD OF 'laws.FnFormatTrace'. -/
def fnFormatTraceCard : Claim7 := { stood := { row := fnFormatTraceRow, standIns := [], harness := (true, "e5708509ccaa3c6dd1ff0c261ef3d7e98ac6841e9362185eb4e5487d2c34ab69"), looks := false }, kinds := [], alts := [], laidByText := true, laidKinds := [.data, .data, .data, .data], laidTests := true, laidLooks := .later }
def FnFormatTraceCardSaid : Prop := Claim7.holds Tryd.pinned (.plain (OpenSpec.ofChange fnFormatTraceSpec)) fnFormatTraceCard

/-- THE TIED CARD OF 'laws.FnExactExprValid'. -/
def fnExactExprValidCard : Claim7 := { stood := { row := fnExactExprValidRow, standIns := [], harness := (true, "e5708509ccaa3c6dd1ff0c261ef3d7e98ac6841e9362185eb4e5487d2c34ab69"), looks := false }, kinds := [], alts := [], laidByText := true, laidKinds := [.data], laidTests := true, laidLooks := .later }
def FnExactExprValidCardSaid : Prop := Claim7.holds Tryd.pinned (.plain (OpenSpec.ofChange fnExactExprValidSpec)) fnExactExprValidCard

/-- THE TIED CARD OF 'laws.FnExactFormatTrace'. -/
def fnExactFormatTraceCard : Claim7 := { stood := { row := fnExactFormatTraceRow, standIns := [], harness := (true, "e5708509ccaa3c6dd1ff0c261ef3d7e98ac6841e9362185eb4e5487d2c34ab69"), looks := false }, kinds := [], alts := [], laidByText := true, laidKinds := [.data, .data, .data, .data], laidTests := true, laidLooks := .later }
def FnExactFormatTraceCardSaid : Prop := Claim7.holds Tryd.pinned (.plain (OpenSpec.ofChange fnExactFormatTraceSpec)) fnExactFormatTraceCard

/-- THE SECOND FORM's CARD OF 'laws.FnFormatTrace'. -/
def fnFormatTraceUptoCard : Claim7 := { stood := { row := fnFormatTraceUptoRow, standIns := [], harness := (true, "e5708509ccaa3c6dd1ff0c261ef3d7e98ac6841e9362185eb4e5487d2c34ab69"), looks := false }, kinds := [], alts := [], laidByText := true, laidKinds := [.data, .data, .data, .data], laidTests := true, laidLooks := .later }
def FnFormatTraceUptoCardSaid : Prop := Claim7.holds Tryd.pinned (.plain (OpenSpec.upto fnFormatTraceSpec)) fnFormatTraceUptoCard

/-- THE SECOND FORM's CARD OF 'laws.FnExactExprValid'. -/
def fnExactExprValidUptoCard : Claim7 := { stood := { row := fnExactExprValidUptoRow, standIns := [], harness := (true, "e5708509ccaa3c6dd1ff0c261ef3d7e98ac6841e9362185eb4e5487d2c34ab69"), looks := false }, kinds := [], alts := [], laidByText := true, laidKinds := [.data], laidTests := true, laidLooks := .later }
def FnExactExprValidUptoCardSaid : Prop := Claim7.holds Tryd.pinned (.plain (OpenSpec.upto fnExactExprValidSpec)) fnExactExprValidUptoCard

/-- THE SECOND FORM's CARD OF 'laws.FnExactFormatTrace'. -/
def fnExactFormatTraceUptoCard : Claim7 := { stood := { row := fnExactFormatTraceUptoRow, standIns := [], harness := (true, "e5708509ccaa3c6dd1ff0c261ef3d7e98ac6841e9362185eb4e5487d2c34ab69"), looks := false }, kinds := [], alts := [], laidByText := true, laidKinds := [.data, .data, .data, .data], laidTests := true, laidLooks := .later }
def FnExactFormatTraceUptoCardSaid : Prop := Claim7.holds Tryd.pinned (.plain (OpenSpec.upto fnExactFormatTraceSpec)) fnExactFormatTraceUptoCard
end Rows
end Go.Proofs.YtjmfnpljkiobkaaDoor

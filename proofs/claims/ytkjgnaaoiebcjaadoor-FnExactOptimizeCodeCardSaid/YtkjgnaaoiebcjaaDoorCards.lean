/-
  DERIVED. GIVEN WITH THE SEED: THE CARDS: each row of YtkjgnaaoiebcjaaDoorRows.lean that lists a variable, with what it lists TIED to the program's text (the seventh form; the later family's looks); each row that meets fmt, with fmt's text TOLD by the authors' own Lean function (tested against real Go, not proved from fmt's source: count such statements apart). THE CARD IS WHAT COUNTS. Prove the row's statement (the work); the ties are given (YtkjgnaaoiebcjaaDoorTie.lean); close each card by the builder's one call (the guide's Derived/Test/ToyasCard.lean, 'card_holds'). Laid BY PROGRAM, IN A SANDBOX (cutbox-door.mjs). By AI agents, Wed Nov 11 2026. No macro, syntax, notation, axiom, sorry.
-/
import Derived.Test.YtkjgnaaoiebcjaaDoorRows
import GoSem.ClaimSeven
namespace Go.Proofs.YtkjgnaaoiebcjaaDoor
namespace Rows

/-- THE TIED CARD OF 'laws.FnExactCodeValid'. -/
def fnExactCodeValidCard : Claim7 := { stood := { row := fnExactCodeValidRow, standIns := [], harness := (true, "89b7d8af12b634ff4ae05ab5011e578348b711824fbfc9485fa75dd4ba44ad52"), looks := false }, kinds := [], alts := [], laidByText := true, laidKinds := [.data], laidTests := true, laidLooks := .later }
def FnExactCodeValidCardSaid : Prop := Claim7.holds Tryd.pinned (.plain (OpenSpec.ofChange fnExactCodeValidSpec)) fnExactCodeValidCard

/-- THE TIED CARD OF 'laws.FnExactReachableCode'. -/
def fnExactReachableCodeCard : Claim7 := { stood := { row := fnExactReachableCodeRow, standIns := [], harness := (true, "89b7d8af12b634ff4ae05ab5011e578348b711824fbfc9485fa75dd4ba44ad52"), looks := false }, kinds := [], alts := [], laidByText := true, laidKinds := [.data], laidTests := true, laidLooks := .later }
def FnExactReachableCodeCardSaid : Prop := Claim7.holds Tryd.pinned (.plain (OpenSpec.ofChange fnExactReachableCodeSpec)) fnExactReachableCodeCard

/-- THE TIED CARD OF 'laws.FnExactThreadJumps'. -/
def fnExactThreadJumpsCard : Claim7 := { stood := { row := fnExactThreadJumpsRow, standIns := [], harness := (true, "89b7d8af12b634ff4ae05ab5011e578348b711824fbfc9485fa75dd4ba44ad52"), looks := false }, kinds := [], alts := [], laidByText := true, laidKinds := [.data], laidTests := true, laidLooks := .later }
def FnExactThreadJumpsCardSaid : Prop := Claim7.holds Tryd.pinned (.plain (OpenSpec.ofChange fnExactThreadJumpsSpec)) fnExactThreadJumpsCard

/-- THE TIED CARD OF 'laws.FnExactTrimCode'. -/
def fnExactTrimCodeCard : Claim7 := { stood := { row := fnExactTrimCodeRow, standIns := [], harness := (true, "89b7d8af12b634ff4ae05ab5011e578348b711824fbfc9485fa75dd4ba44ad52"), looks := false }, kinds := [], alts := [], laidByText := true, laidKinds := [.data], laidTests := true, laidLooks := .later }
def FnExactTrimCodeCardSaid : Prop := Claim7.holds Tryd.pinned (.plain (OpenSpec.ofChange fnExactTrimCodeSpec)) fnExactTrimCodeCard

/-- THE TIED CARD OF 'laws.FnExactOptimizeCode'. -/
def fnExactOptimizeCodeCard : Claim7 := { stood := { row := fnExactOptimizeCodeRow, standIns := [], harness := (true, "89b7d8af12b634ff4ae05ab5011e578348b711824fbfc9485fa75dd4ba44ad52"), looks := false }, kinds := [], alts := [], laidByText := true, laidKinds := [.data], laidTests := true, laidLooks := .later }
def FnExactOptimizeCodeCardSaid : Prop := Claim7.holds Tryd.pinned (.plain (OpenSpec.ofChange fnExactOptimizeCodeSpec)) fnExactOptimizeCodeCard

/-- THE SECOND FORM's CARD OF 'laws.FnExactCodeValid'. -/
def fnExactCodeValidUptoCard : Claim7 := { stood := { row := fnExactCodeValidUptoRow, standIns := [], harness := (true, "89b7d8af12b634ff4ae05ab5011e578348b711824fbfc9485fa75dd4ba44ad52"), looks := false }, kinds := [], alts := [], laidByText := true, laidKinds := [.data], laidTests := true, laidLooks := .later }
def FnExactCodeValidUptoCardSaid : Prop := Claim7.holds Tryd.pinned (.plain (OpenSpec.upto fnExactCodeValidSpec)) fnExactCodeValidUptoCard

/-- THE SECOND FORM's CARD OF 'laws.FnExactReachableCode'. -/
def fnExactReachableCodeUptoCard : Claim7 := { stood := { row := fnExactReachableCodeUptoRow, standIns := [], harness := (true, "89b7d8af12b634ff4ae05ab5011e578348b711824fbfc9485fa75dd4ba44ad52"), looks := false }, kinds := [], alts := [], laidByText := true, laidKinds := [.data], laidTests := true, laidLooks := .later }
def FnExactReachableCodeUptoCardSaid : Prop := Claim7.holds Tryd.pinned (.plain (OpenSpec.upto fnExactReachableCodeSpec)) fnExactReachableCodeUptoCard

/-- THE SECOND FORM's CARD OF 'laws.FnExactThreadJumps'. -/
def fnExactThreadJumpsUptoCard : Claim7 := { stood := { row := fnExactThreadJumpsUptoRow, standIns := [], harness := (true, "89b7d8af12b634ff4ae05ab5011e578348b711824fbfc9485fa75dd4ba44ad52"), looks := false }, kinds := [], alts := [], laidByText := true, laidKinds := [.data], laidTests := true, laidLooks := .later }
def FnExactThreadJumpsUptoCardSaid : Prop := Claim7.holds Tryd.pinned (.plain (OpenSpec.upto fnExactThreadJumpsSpec)) fnExactThreadJumpsUptoCard

/-- THE SECOND FORM's CARD OF 'laws.FnExactTrimCode'. -/
def fnExactTrimCodeUptoCard : Claim7 := { stood := { row := fnExactTrimCodeUptoRow, standIns := [], harness := (true, "89b7d8af12b634ff4ae05ab5011e578348b711824fbfc9485fa75dd4ba44ad52"), looks := false }, kinds := [], alts := [], laidByText := true, laidKinds := [.data], laidTests := true, laidLooks := .later }
def FnExactTrimCodeUptoCardSaid : Prop := Claim7.holds Tryd.pinned (.plain (OpenSpec.upto fnExactTrimCodeSpec)) fnExactTrimCodeUptoCard

/-- THE SECOND FORM's CARD OF 'laws.FnExactOptimizeCode'. -/
def fnExactOptimizeCodeUptoCard : Claim7 := { stood := { row := fnExactOptimizeCodeUptoRow, standIns := [], harness := (true, "89b7d8af12b634ff4ae05ab5011e578348b711824fbfc9485fa75dd4ba44ad52"), looks := false }, kinds := [], alts := [], laidByText := true, laidKinds := [.data], laidTests := true, laidLooks := .later }
def FnExactOptimizeCodeUptoCardSaid : Prop := Claim7.holds Tryd.pinned (.plain (OpenSpec.upto fnExactOptimizeCodeSpec)) fnExactOptimizeCodeUptoCard
end Rows
end Go.Proofs.YtkjgnaaoiebcjaaDoor

/-
  DERIVED. GIVEN WITH THE SEED: THE CARDS: each row of YtodihpnnajlkdaaDoorRows.lean that lists a variable, with what it lists TIED to the program's text (the seventh form; the later family's looks); each row that meets fmt, with fmt's text TOLD by the authors' own Lean function (tested against real Go, not proved from fmt's source: count such statements apart). THE CARD IS WHAT COUNTS. Prove the row's statement (the work); the ties are given (YtodihpnnajlkdaaDoorTie.lean); close each card by the builder's one call (the guide's Derived/Test/ToyasCard.lean, 'card_holds'). Laid BY PROGRAM, IN A SANDBOX (cutbox-door.mjs). By AI agents, Wed Nov 11 2026. No macro, syntax, notation, axiom, sorry.
-/
import Derived.Test.YtodihpnnajlkdaaDoorRows
import GoSem.ClaimSeven
namespace Go.Proofs.YtodihpnnajlkdaaDoor
namespace Rows

/-- THE TIED CARD OF 'laws.FnExactCodeValid'. -/
def fnExactCodeValidCard : Claim7 := { stood := { row := fnExactCodeValidRow, standIns := [], harness := (true, "0e3ec69d6db948aa4aa8a4afcf5762f7b69b0998c3c5b3c3e6772540f1cd2187"), looks := false }, kinds := [], alts := [], laidByText := true, laidKinds := [.data], laidTests := true, laidLooks := .later }
def FnExactCodeValidCardSaid : Prop := Claim7.holds Tryd.pinned (.plain (OpenSpec.ofChange fnExactCodeValidSpec)) fnExactCodeValidCard

/-- THE TIED CARD OF 'laws.FnExactCodeFenced'. -/
def fnExactCodeFencedCard : Claim7 := { stood := { row := fnExactCodeFencedRow, standIns := [], harness := (true, "0e3ec69d6db948aa4aa8a4afcf5762f7b69b0998c3c5b3c3e6772540f1cd2187"), looks := false }, kinds := [], alts := [], laidByText := true, laidKinds := [.data], laidTests := true, laidLooks := .later }
def FnExactCodeFencedCardSaid : Prop := Claim7.holds Tryd.pinned (.plain (OpenSpec.ofChange fnExactCodeFencedSpec)) fnExactCodeFencedCard

/-- THE TIED CARD OF 'laws.FnExactFenceCode'. -/
def fnExactFenceCodeCard : Claim7 := { stood := { row := fnExactFenceCodeRow, standIns := [], harness := (true, "0e3ec69d6db948aa4aa8a4afcf5762f7b69b0998c3c5b3c3e6772540f1cd2187"), looks := false }, kinds := [], alts := [], laidByText := true, laidKinds := [.data], laidTests := true, laidLooks := .later }
def FnExactFenceCodeCardSaid : Prop := Claim7.holds Tryd.pinned (.plain (OpenSpec.ofChange fnExactFenceCodeSpec)) fnExactFenceCodeCard

/-- THE TIED CARD OF 'laws.FnExactTrimCode'. -/
def fnExactTrimCodeCard : Claim7 := { stood := { row := fnExactTrimCodeRow, standIns := [], harness := (true, "0e3ec69d6db948aa4aa8a4afcf5762f7b69b0998c3c5b3c3e6772540f1cd2187"), looks := false }, kinds := [], alts := [], laidByText := true, laidKinds := [.data], laidTests := true, laidLooks := .later }
def FnExactTrimCodeCardSaid : Prop := Claim7.holds Tryd.pinned (.plain (OpenSpec.ofChange fnExactTrimCodeSpec)) fnExactTrimCodeCard

/-- THE TIED CARD OF 'laws.FnExactOptimizeCode'. -/
def fnExactOptimizeCodeCard : Claim7 := { stood := { row := fnExactOptimizeCodeRow, standIns := [], harness := (true, "0e3ec69d6db948aa4aa8a4afcf5762f7b69b0998c3c5b3c3e6772540f1cd2187"), looks := false }, kinds := [], alts := [], laidByText := true, laidKinds := [.data], laidTests := true, laidLooks := .later }
def FnExactOptimizeCodeCardSaid : Prop := Claim7.holds Tryd.pinned (.plain (OpenSpec.ofChange fnExactOptimizeCodeSpec)) fnExactOptimizeCodeCard

/-- THE SECOND FORM's CARD OF 'laws.FnExactCodeValid'. -/
def fnExactCodeValidUptoCard : Claim7 := { stood := { row := fnExactCodeValidUptoRow, standIns := [], harness := (true, "0e3ec69d6db948aa4aa8a4afcf5762f7b69b0998c3c5b3c3e6772540f1cd2187"), looks := false }, kinds := [], alts := [], laidByText := true, laidKinds := [.data], laidTests := true, laidLooks := .later }
def FnExactCodeValidUptoCardSaid : Prop := Claim7.holds Tryd.pinned (.plain (OpenSpec.upto fnExactCodeValidSpec)) fnExactCodeValidUptoCard

/-- THE SECOND FORM's CARD OF 'laws.FnExactCodeFenced'. -/
def fnExactCodeFencedUptoCard : Claim7 := { stood := { row := fnExactCodeFencedUptoRow, standIns := [], harness := (true, "0e3ec69d6db948aa4aa8a4afcf5762f7b69b0998c3c5b3c3e6772540f1cd2187"), looks := false }, kinds := [], alts := [], laidByText := true, laidKinds := [.data], laidTests := true, laidLooks := .later }
def FnExactCodeFencedUptoCardSaid : Prop := Claim7.holds Tryd.pinned (.plain (OpenSpec.upto fnExactCodeFencedSpec)) fnExactCodeFencedUptoCard

/-- THE SECOND FORM's CARD OF 'laws.FnExactFenceCode'. -/
def fnExactFenceCodeUptoCard : Claim7 := { stood := { row := fnExactFenceCodeUptoRow, standIns := [], harness := (true, "0e3ec69d6db948aa4aa8a4afcf5762f7b69b0998c3c5b3c3e6772540f1cd2187"), looks := false }, kinds := [], alts := [], laidByText := true, laidKinds := [.data], laidTests := true, laidLooks := .later }
def FnExactFenceCodeUptoCardSaid : Prop := Claim7.holds Tryd.pinned (.plain (OpenSpec.upto fnExactFenceCodeSpec)) fnExactFenceCodeUptoCard

/-- THE SECOND FORM's CARD OF 'laws.FnExactTrimCode'. -/
def fnExactTrimCodeUptoCard : Claim7 := { stood := { row := fnExactTrimCodeUptoRow, standIns := [], harness := (true, "0e3ec69d6db948aa4aa8a4afcf5762f7b69b0998c3c5b3c3e6772540f1cd2187"), looks := false }, kinds := [], alts := [], laidByText := true, laidKinds := [.data], laidTests := true, laidLooks := .later }
def FnExactTrimCodeUptoCardSaid : Prop := Claim7.holds Tryd.pinned (.plain (OpenSpec.upto fnExactTrimCodeSpec)) fnExactTrimCodeUptoCard

/-- THE SECOND FORM's CARD OF 'laws.FnExactOptimizeCode'. -/
def fnExactOptimizeCodeUptoCard : Claim7 := { stood := { row := fnExactOptimizeCodeUptoRow, standIns := [], harness := (true, "0e3ec69d6db948aa4aa8a4afcf5762f7b69b0998c3c5b3c3e6772540f1cd2187"), looks := false }, kinds := [], alts := [], laidByText := true, laidKinds := [.data], laidTests := true, laidLooks := .later }
def FnExactOptimizeCodeUptoCardSaid : Prop := Claim7.holds Tryd.pinned (.plain (OpenSpec.upto fnExactOptimizeCodeSpec)) fnExactOptimizeCodeUptoCard
end Rows
end Go.Proofs.YtodihpnnajlkdaaDoor

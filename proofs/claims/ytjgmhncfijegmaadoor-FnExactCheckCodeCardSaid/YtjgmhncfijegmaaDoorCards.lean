/-
  DERIVED. GIVEN WITH THE SEED: THE CARDS: each row of YtjgmhncfijegmaaDoorRows.lean that lists a variable, with what it lists TIED to the program's text (the seventh form; the later family's looks); each row that meets fmt, with fmt's text TOLD by the authors' own Lean function (tested against real Go, not proved from fmt's source: count such statements apart). THE CARD IS WHAT COUNTS. Prove the row's statement (the work); the ties are given (YtjgmhncfijegmaaDoorTie.lean); close each card by the builder's one call (the guide's Derived/Test/ToyasCard.lean, 'card_holds'). Laid BY PROGRAM, IN A SANDBOX (cutbox-door.mjs). By AI agents, Wed Nov 11 2026. No macro, syntax, notation, axiom, sorry.
-/
import Derived.Test.YtjgmhncfijegmaaDoorRows
import GoSem.ClaimSeven
namespace Go.Proofs.YtjgmhncfijegmaaDoor
namespace Rows

/-- THE TIED CARD OF 'laws.FnExactCodeValid'. -/
def fnExactCodeValidCard : Claim7 := { stood := { row := fnExactCodeValidRow, standIns := [], harness := (true, "c103c7debc6578a34083fcf38cc9c3811443c337cba7f9492cefdaa990f4e917"), looks := false }, kinds := [], alts := [], laidByText := true, laidKinds := [.data], laidTests := true, laidLooks := .later }
def FnExactCodeValidCardSaid : Prop := Claim7.holds Tryd.pinned (.plain (OpenSpec.ofChange fnExactCodeValidSpec)) fnExactCodeValidCard

/-- THE TIED CARD OF 'laws.FnExactCheckCode'. -/
def fnExactCheckCodeCard : Claim7 := { stood := { row := fnExactCheckCodeRow, standIns := [], harness := (true, "c103c7debc6578a34083fcf38cc9c3811443c337cba7f9492cefdaa990f4e917"), looks := false }, kinds := [], alts := [], laidByText := true, laidKinds := [.data], laidTests := true, laidLooks := .later }
def FnExactCheckCodeCardSaid : Prop := Claim7.holds Tryd.pinned (.plain (OpenSpec.ofChange fnExactCheckCodeSpec)) fnExactCheckCodeCard

/-- THE TIED CARD OF 'laws.FnExactInferTaint'. -/
def fnExactInferTaintCard : Claim7 := { stood := { row := fnExactInferTaintRow, standIns := [], harness := (true, "c103c7debc6578a34083fcf38cc9c3811443c337cba7f9492cefdaa990f4e917"), looks := false }, kinds := [], alts := [], laidByText := true, laidKinds := [.data], laidTests := true, laidLooks := .later }
def FnExactInferTaintCardSaid : Prop := Claim7.holds Tryd.pinned (.plain (OpenSpec.ofChange fnExactInferTaintSpec)) fnExactInferTaintCard

/-- THE TIED CARD OF 'laws.FnExactCheckTaint'. -/
def fnExactCheckTaintCard : Claim7 := { stood := { row := fnExactCheckTaintRow, standIns := [], harness := (true, "c103c7debc6578a34083fcf38cc9c3811443c337cba7f9492cefdaa990f4e917"), looks := false }, kinds := [], alts := [], laidByText := true, laidKinds := [.data], laidTests := true, laidLooks := .later }
def FnExactCheckTaintCardSaid : Prop := Claim7.holds Tryd.pinned (.plain (OpenSpec.ofChange fnExactCheckTaintSpec)) fnExactCheckTaintCard

/-- THE TIED CARD OF 'laws.FnExactCodeReleases'. -/
def fnExactCodeReleasesCard : Claim7 := { stood := { row := fnExactCodeReleasesRow, standIns := [], harness := (true, "c103c7debc6578a34083fcf38cc9c3811443c337cba7f9492cefdaa990f4e917"), looks := false }, kinds := [], alts := [], laidByText := true, laidKinds := [.data], laidTests := true, laidLooks := .later }
def FnExactCodeReleasesCardSaid : Prop := Claim7.holds Tryd.pinned (.plain (OpenSpec.ofChange fnExactCodeReleasesSpec)) fnExactCodeReleasesCard

/-- THE SECOND FORM's CARD OF 'laws.FnExactCodeValid'. -/
def fnExactCodeValidUptoCard : Claim7 := { stood := { row := fnExactCodeValidUptoRow, standIns := [], harness := (true, "c103c7debc6578a34083fcf38cc9c3811443c337cba7f9492cefdaa990f4e917"), looks := false }, kinds := [], alts := [], laidByText := true, laidKinds := [.data], laidTests := true, laidLooks := .later }
def FnExactCodeValidUptoCardSaid : Prop := Claim7.holds Tryd.pinned (.plain (OpenSpec.upto fnExactCodeValidSpec)) fnExactCodeValidUptoCard

/-- THE SECOND FORM's CARD OF 'laws.FnExactCheckCode'. -/
def fnExactCheckCodeUptoCard : Claim7 := { stood := { row := fnExactCheckCodeUptoRow, standIns := [], harness := (true, "c103c7debc6578a34083fcf38cc9c3811443c337cba7f9492cefdaa990f4e917"), looks := false }, kinds := [], alts := [], laidByText := true, laidKinds := [.data], laidTests := true, laidLooks := .later }
def FnExactCheckCodeUptoCardSaid : Prop := Claim7.holds Tryd.pinned (.plain (OpenSpec.upto fnExactCheckCodeSpec)) fnExactCheckCodeUptoCard

/-- THE SECOND FORM's CARD OF 'laws.FnExactInferTaint'. -/
def fnExactInferTaintUptoCard : Claim7 := { stood := { row := fnExactInferTaintUptoRow, standIns := [], harness := (true, "c103c7debc6578a34083fcf38cc9c3811443c337cba7f9492cefdaa990f4e917"), looks := false }, kinds := [], alts := [], laidByText := true, laidKinds := [.data], laidTests := true, laidLooks := .later }
def FnExactInferTaintUptoCardSaid : Prop := Claim7.holds Tryd.pinned (.plain (OpenSpec.upto fnExactInferTaintSpec)) fnExactInferTaintUptoCard

/-- THE SECOND FORM's CARD OF 'laws.FnExactCheckTaint'. -/
def fnExactCheckTaintUptoCard : Claim7 := { stood := { row := fnExactCheckTaintUptoRow, standIns := [], harness := (true, "c103c7debc6578a34083fcf38cc9c3811443c337cba7f9492cefdaa990f4e917"), looks := false }, kinds := [], alts := [], laidByText := true, laidKinds := [.data], laidTests := true, laidLooks := .later }
def FnExactCheckTaintUptoCardSaid : Prop := Claim7.holds Tryd.pinned (.plain (OpenSpec.upto fnExactCheckTaintSpec)) fnExactCheckTaintUptoCard

/-- THE SECOND FORM's CARD OF 'laws.FnExactCodeReleases'. -/
def fnExactCodeReleasesUptoCard : Claim7 := { stood := { row := fnExactCodeReleasesUptoRow, standIns := [], harness := (true, "c103c7debc6578a34083fcf38cc9c3811443c337cba7f9492cefdaa990f4e917"), looks := false }, kinds := [], alts := [], laidByText := true, laidKinds := [.data], laidTests := true, laidLooks := .later }
def FnExactCodeReleasesUptoCardSaid : Prop := Claim7.holds Tryd.pinned (.plain (OpenSpec.upto fnExactCodeReleasesSpec)) fnExactCodeReleasesUptoCard
end Rows
end Go.Proofs.YtjgmhncfijegmaaDoor

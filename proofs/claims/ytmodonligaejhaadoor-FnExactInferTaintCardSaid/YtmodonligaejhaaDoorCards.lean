/-
  DERIVED. GIVEN WITH THE SEED: THE CARDS: each row of YtmodonligaejhaaDoorRows.lean that lists a variable, with what it lists TIED to the program's text (the seventh form; the later family's looks); each row that meets fmt, with fmt's text TOLD by the authors' own Lean function (tested against real Go, not proved from fmt's source: count such statements apart). THE CARD IS WHAT COUNTS. Prove the row's statement (the work); the ties are given (YtmodonligaejhaaDoorTie.lean); close each card by the builder's one call (the guide's Derived/Test/ToyasCard.lean, 'card_holds'). Laid BY PROGRAM, IN A SANDBOX (cutbox-door.mjs). By AI agents, Wed Nov 11 2026. No macro, syntax, notation, axiom, sorry.
-/
import Derived.Test.YtmodonligaejhaaDoorRows
import GoSem.ClaimSeven
namespace Go.Proofs.YtmodonligaejhaaDoor
namespace Rows

/-- THE TIED CARD OF 'laws.FnExactCodeValid'. -/
def fnExactCodeValidCard : Claim7 := { stood := { row := fnExactCodeValidRow, standIns := [], harness := (true, "290f9e090f695724f844550d8ff0ca96ad0d6bca8363a672d96ed64fb23f5306"), looks := false }, kinds := [], alts := [], laidByText := true, laidKinds := [.data], laidTests := true, laidLooks := .later }
def FnExactCodeValidCardSaid : Prop := Claim7.holds Tryd.pinned (.plain (OpenSpec.ofChange fnExactCodeValidSpec)) fnExactCodeValidCard

/-- THE TIED CARD OF 'laws.FnExactCheckCode'. -/
def fnExactCheckCodeCard : Claim7 := { stood := { row := fnExactCheckCodeRow, standIns := [], harness := (true, "290f9e090f695724f844550d8ff0ca96ad0d6bca8363a672d96ed64fb23f5306"), looks := false }, kinds := [], alts := [], laidByText := true, laidKinds := [.data], laidTests := true, laidLooks := .later }
def FnExactCheckCodeCardSaid : Prop := Claim7.holds Tryd.pinned (.plain (OpenSpec.ofChange fnExactCheckCodeSpec)) fnExactCheckCodeCard

/-- THE TIED CARD OF 'laws.FnExactCheckTaint'. -/
def fnExactCheckTaintCard : Claim7 := { stood := { row := fnExactCheckTaintRow, standIns := [], harness := (true, "290f9e090f695724f844550d8ff0ca96ad0d6bca8363a672d96ed64fb23f5306"), looks := false }, kinds := [], alts := [], laidByText := true, laidKinds := [.data], laidTests := true, laidLooks := .later }
def FnExactCheckTaintCardSaid : Prop := Claim7.holds Tryd.pinned (.plain (OpenSpec.ofChange fnExactCheckTaintSpec)) fnExactCheckTaintCard

/-- THE TIED CARD OF 'laws.FnExactInferTaint'. -/
def fnExactInferTaintCard : Claim7 := { stood := { row := fnExactInferTaintRow, standIns := [], harness := (true, "290f9e090f695724f844550d8ff0ca96ad0d6bca8363a672d96ed64fb23f5306"), looks := false }, kinds := [], alts := [], laidByText := true, laidKinds := [.data], laidTests := true, laidLooks := .later }
def FnExactInferTaintCardSaid : Prop := Claim7.holds Tryd.pinned (.plain (OpenSpec.ofChange fnExactInferTaintSpec)) fnExactInferTaintCard

/-- THE SECOND FORM's CARD OF 'laws.FnExactCodeValid'. -/
def fnExactCodeValidUptoCard : Claim7 := { stood := { row := fnExactCodeValidUptoRow, standIns := [], harness := (true, "290f9e090f695724f844550d8ff0ca96ad0d6bca8363a672d96ed64fb23f5306"), looks := false }, kinds := [], alts := [], laidByText := true, laidKinds := [.data], laidTests := true, laidLooks := .later }
def FnExactCodeValidUptoCardSaid : Prop := Claim7.holds Tryd.pinned (.plain (OpenSpec.upto fnExactCodeValidSpec)) fnExactCodeValidUptoCard

/-- THE SECOND FORM's CARD OF 'laws.FnExactCheckCode'. -/
def fnExactCheckCodeUptoCard : Claim7 := { stood := { row := fnExactCheckCodeUptoRow, standIns := [], harness := (true, "290f9e090f695724f844550d8ff0ca96ad0d6bca8363a672d96ed64fb23f5306"), looks := false }, kinds := [], alts := [], laidByText := true, laidKinds := [.data], laidTests := true, laidLooks := .later }
def FnExactCheckCodeUptoCardSaid : Prop := Claim7.holds Tryd.pinned (.plain (OpenSpec.upto fnExactCheckCodeSpec)) fnExactCheckCodeUptoCard

/-- THE SECOND FORM's CARD OF 'laws.FnExactCheckTaint'. -/
def fnExactCheckTaintUptoCard : Claim7 := { stood := { row := fnExactCheckTaintUptoRow, standIns := [], harness := (true, "290f9e090f695724f844550d8ff0ca96ad0d6bca8363a672d96ed64fb23f5306"), looks := false }, kinds := [], alts := [], laidByText := true, laidKinds := [.data], laidTests := true, laidLooks := .later }
def FnExactCheckTaintUptoCardSaid : Prop := Claim7.holds Tryd.pinned (.plain (OpenSpec.upto fnExactCheckTaintSpec)) fnExactCheckTaintUptoCard

/-- THE SECOND FORM's CARD OF 'laws.FnExactInferTaint'. -/
def fnExactInferTaintUptoCard : Claim7 := { stood := { row := fnExactInferTaintUptoRow, standIns := [], harness := (true, "290f9e090f695724f844550d8ff0ca96ad0d6bca8363a672d96ed64fb23f5306"), looks := false }, kinds := [], alts := [], laidByText := true, laidKinds := [.data], laidTests := true, laidLooks := .later }
def FnExactInferTaintUptoCardSaid : Prop := Claim7.holds Tryd.pinned (.plain (OpenSpec.upto fnExactInferTaintSpec)) fnExactInferTaintUptoCard
end Rows
end Go.Proofs.YtmodonligaejhaaDoor

/-
  DERIVED. GIVEN WITH THE SEED: THE CARDS: each row of YtlhdgoindknpfaaDoorRows.lean that lists a variable, with what it lists TIED to the program's text (the seventh form; the later family's looks); each row that meets fmt, with fmt's text TOLD by the authors' own Lean function (tested against real Go, not proved from fmt's source: count such statements apart). THE CARD IS WHAT COUNTS. Prove the row's statement (the work); the ties are given (YtlhdgoindknpfaaDoorTie.lean); close each card by the builder's one call (the guide's Derived/Test/ToyasCard.lean, 'card_holds'). Laid BY PROGRAM, IN A SANDBOX (cutbox-door.mjs). By AI agents, Wed Nov 11 2026. No macro, syntax, notation, axiom, sorry.
-/
import Derived.Test.YtlhdgoindknpfaaDoorRows
import GoSem.ClaimSeven
namespace Go.Proofs.YtlhdgoindknpfaaDoor
namespace Rows

/-- THE TIED CARD OF 'laws.FnExprKids'. -/
def fnExprKidsCard : Claim7 := { stood := { row := fnExprKidsRow, standIns := [], harness := (true, "cde1c7140e235edf2fcedcad72cdd8949a46ebd7b27eac7f635675a4834c496a"), looks := false }, kinds := [], alts := [], laidByText := true, laidKinds := [.data], laidTests := true, laidLooks := .later }
def FnExprKidsCardSaid : Prop := Claim7.holds Tryd.pinned (.plain (OpenSpec.ofChange fnExprKidsSpec)) fnExprKidsCard

/-- THE TIED CARD OF 'laws.FnProgramEmpty'. -/
def fnProgramEmptyCard : Claim7 := { stood := { row := fnProgramEmptyRow, standIns := [], harness := (true, "cde1c7140e235edf2fcedcad72cdd8949a46ebd7b27eac7f635675a4834c496a"), looks := false }, kinds := [], alts := [], laidByText := true, laidKinds := [.data], laidTests := true, laidLooks := .later }
def FnProgramEmptyCardSaid : Prop := Claim7.holds Tryd.pinned (.plain (OpenSpec.ofChange fnProgramEmptySpec)) fnProgramEmptyCard

/-- THE TIED CARD OF 'laws.FnExactFormatExpr'. -/
def fnExactFormatExprCard : Claim7 := { stood := { row := fnExactFormatExprRow, standIns := [], harness := (true, "cde1c7140e235edf2fcedcad72cdd8949a46ebd7b27eac7f635675a4834c496a"), looks := false }, kinds := [], alts := [], laidByText := true, laidKinds := [.data, .data, .data, .data, .data], laidTests := true, laidLooks := .later }
def FnExactFormatExprCardSaid : Prop := Claim7.holds Tryd.pinned (.plain (OpenSpec.ofChange fnExactFormatExprSpec)) fnExactFormatExprCard

/-- THE SECOND FORM's CARD OF 'laws.FnExprKids'. -/
def fnExprKidsUptoCard : Claim7 := { stood := { row := fnExprKidsUptoRow, standIns := [], harness := (true, "cde1c7140e235edf2fcedcad72cdd8949a46ebd7b27eac7f635675a4834c496a"), looks := false }, kinds := [], alts := [], laidByText := true, laidKinds := [.data], laidTests := true, laidLooks := .later }
def FnExprKidsUptoCardSaid : Prop := Claim7.holds Tryd.pinned (.plain (OpenSpec.upto fnExprKidsSpec)) fnExprKidsUptoCard

/-- THE SECOND FORM's CARD OF 'laws.FnProgramEmpty'. -/
def fnProgramEmptyUptoCard : Claim7 := { stood := { row := fnProgramEmptyUptoRow, standIns := [], harness := (true, "cde1c7140e235edf2fcedcad72cdd8949a46ebd7b27eac7f635675a4834c496a"), looks := false }, kinds := [], alts := [], laidByText := true, laidKinds := [.data], laidTests := true, laidLooks := .later }
def FnProgramEmptyUptoCardSaid : Prop := Claim7.holds Tryd.pinned (.plain (OpenSpec.upto fnProgramEmptySpec)) fnProgramEmptyUptoCard

/-- THE SECOND FORM's CARD OF 'laws.FnExactFormatExpr'. -/
def fnExactFormatExprUptoCard : Claim7 := { stood := { row := fnExactFormatExprUptoRow, standIns := [], harness := (true, "cde1c7140e235edf2fcedcad72cdd8949a46ebd7b27eac7f635675a4834c496a"), looks := false }, kinds := [], alts := [], laidByText := true, laidKinds := [.data, .data, .data, .data, .data], laidTests := true, laidLooks := .later }
def FnExactFormatExprUptoCardSaid : Prop := Claim7.holds Tryd.pinned (.plain (OpenSpec.upto fnExactFormatExprSpec)) fnExactFormatExprUptoCard
end Rows
end Go.Proofs.YtlhdgoindknpfaaDoor

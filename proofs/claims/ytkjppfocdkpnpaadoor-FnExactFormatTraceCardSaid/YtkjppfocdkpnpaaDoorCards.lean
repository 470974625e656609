/-
  DERIVED. GIVEN WITH THE SEED: THE CARDS: each row of YtkjppfocdkpnpaaDoorRows.lean that lists a variable, with what it lists TIED to the program's text (the seventh form; the later family's looks); each row that meets fmt, with fmt's text TOLD by the authors' own Lean function (tested against real Go, not proved from fmt's source: count such statements apart). THE CARD IS WHAT COUNTS. Prove the row's statement (the work); the ties are given (YtkjppfocdkpnpaaDoorTie.lean); close each card by the builder's one call (the guide's Derived/Test/ToyasCard.lean, 'card_holds'). Laid BY PROGRAM, IN A SANDBOX (cutbox-door.mjs). By AI agents, Wed Nov 11 2026. No macro, syntax, notation, axiom, sorry.
-/
import Derived.Test.YtkjppfocdkpnpaaDoorRows
import GoSem.ClaimSeven
namespace Go.Proofs.YtkjppfocdkpnpaaDoor
namespace Rows

/-- THE TIED CARD OF 'laws.FnFormatTrace'. -/
def fnFormatTraceCard : Claim7 := { stood := { row := fnFormatTraceRow, standIns := [], harness := (true, "450c7a42f8a1a10585b64ae28d8a0c49adbe6f24bade94cb2254c08a48768098"), looks := false }, kinds := [], alts := [], laidByText := true, laidKinds := [.data, .data, .data, .data], laidTests := true, laidLooks := .later }
def FnFormatTraceCardSaid : Prop := Claim7.holds Tryd.pinned (.plain (OpenSpec.ofChange fnFormatTraceSpec)) fnFormatTraceCard

/-- THE TIED CARD OF 'laws.FnExactFormatTrace'. -/
def fnExactFormatTraceCard : Claim7 := { stood := { row := fnExactFormatTraceRow, standIns := [], harness := (true, "450c7a42f8a1a10585b64ae28d8a0c49adbe6f24bade94cb2254c08a48768098"), looks := false }, kinds := [], alts := [], laidByText := true, laidKinds := [.data, .data, .data, .data], laidTests := true, laidLooks := .later }
def FnExactFormatTraceCardSaid : Prop := Claim7.holds Tryd.pinned (.plain (OpenSpec.ofChange fnExactFormatTraceSpec)) fnExactFormatTraceCard

/-- THE SECOND FORM's CARD OF 'laws.FnFormatTrace'. -/
def fnFormatTraceUptoCard : Claim7 := { stood := { row := fnFormatTraceUptoRow, standIns := [], harness := (true, "450c7a42f8a1a10585b64ae28d8a0c49adbe6f24bade94cb2254c08a48768098"), looks := false }, kinds := [], alts := [], laidByText := true, laidKinds := [.data, .data, .data, .data], laidTests := true, laidLooks := .later }
def FnFormatTraceUptoCardSaid : Prop := Claim7.holds Tryd.pinned (.plain (OpenSpec.upto fnFormatTraceSpec)) fnFormatTraceUptoCard

/-- THE SECOND FORM's CARD OF 'laws.FnExactFormatTrace'. -/
def fnExactFormatTraceUptoCard : Claim7 := { stood := { row := fnExactFormatTraceUptoRow, standIns := [], harness := (true, "450c7a42f8a1a10585b64ae28d8a0c49adbe6f24bade94cb2254c08a48768098"), looks := false }, kinds := [], alts := [], laidByText := true, laidKinds := [.data, .data, .data, .data], laidTests := true, laidLooks := .later }
def FnExactFormatTraceUptoCardSaid : Prop := Claim7.holds Tryd.pinned (.plain (OpenSpec.upto fnExactFormatTraceSpec)) fnExactFormatTraceUptoCard
end Rows
end Go.Proofs.YtkjppfocdkpnpaaDoor

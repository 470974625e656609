/-
  DERIVED. GIVEN WITH THE SEED: THE CARDS: each row of YtbifbmpflhdijaaDoorRows.lean that lists a variable, with what it lists TIED to the program's text (the seventh form; the later family's looks); each row that meets fmt, with fmt's text TOLD by the authors' own Lean function (tested against real Go, not proved from fmt's source: count such statements apart). THE CARD IS WHAT COUNTS. Prove the row's statement (the work); the ties are given (YtbifbmpflhdijaaDoorTie.lean); close each card by the builder's one call (the guide's Derived/Test/ToyasCard.lean, 'card_holds'). Laid BY PROGRAM, IN A SANDBOX (cutbox-door.mjs). By AI agents, Wed Nov 11 2026. No macro, syntax, notation, axiom, sorry.
-/
import Derived.Test.YtbifbmpflhdijaaDoorRows
import GoSem.ClaimSeven
namespace Go.Proofs.YtbifbmpflhdijaaDoor
namespace Rows

/-- THE TIED CARD OF 'laws.FnExactFenceCode'. -/
def fnExactFenceCodeCard : Claim7 := { stood := { row := fnExactFenceCodeRow, standIns := [], harness := (true, "d414ed6aed0bb28dec915d364fad3b6fc97a5e059ce07861689a09e7abd5bdf1"), looks := false }, kinds := [], alts := [], laidByText := true, laidKinds := [.data], laidTests := true, laidLooks := .later }
def FnExactFenceCodeCardSaid : Prop := Claim7.holds Tryd.pinned (.plain (OpenSpec.ofChange fnExactFenceCodeSpec)) fnExactFenceCodeCard

/-- THE TIED CARD OF 'laws.FnExactLiveRegs'. -/
def fnExactLiveRegsCard : Claim7 := { stood := { row := fnExactLiveRegsRow, standIns := [], harness := (true, "d414ed6aed0bb28dec915d364fad3b6fc97a5e059ce07861689a09e7abd5bdf1"), looks := false }, kinds := [], alts := [], laidByText := true, laidKinds := [.data], laidTests := true, laidLooks := .later }
def FnExactLiveRegsCardSaid : Prop := Claim7.holds Tryd.pinned (.plain (OpenSpec.ofChange fnExactLiveRegsSpec)) fnExactLiveRegsCard

/-- THE TIED CARD OF 'laws.FnExactCheckLive'. -/
def fnExactCheckLiveCard : Claim7 := { stood := { row := fnExactCheckLiveRow, standIns := [], harness := (true, "d414ed6aed0bb28dec915d364fad3b6fc97a5e059ce07861689a09e7abd5bdf1"), looks := false }, kinds := [], alts := [], laidByText := true, laidKinds := [.data], laidTests := true, laidLooks := .later }
def FnExactCheckLiveCardSaid : Prop := Claim7.holds Tryd.pinned (.plain (OpenSpec.ofChange fnExactCheckLiveSpec)) fnExactCheckLiveCard

/-- THE TIED CARD OF 'laws.FnExactRemoveDead'. -/
def fnExactRemoveDeadCard : Claim7 := { stood := { row := fnExactRemoveDeadRow, standIns := [], harness := (true, "d414ed6aed0bb28dec915d364fad3b6fc97a5e059ce07861689a09e7abd5bdf1"), looks := false }, kinds := [], alts := [], laidByText := true, laidKinds := [.data], laidTests := true, laidLooks := .later }
def FnExactRemoveDeadCardSaid : Prop := Claim7.holds Tryd.pinned (.plain (OpenSpec.ofChange fnExactRemoveDeadSpec)) fnExactRemoveDeadCard

/-- THE TIED CARD OF 'laws.FnExactEraseCode'. -/
def fnExactEraseCodeCard : Claim7 := { stood := { row := fnExactEraseCodeRow, standIns := [], harness := (true, "d414ed6aed0bb28dec915d364fad3b6fc97a5e059ce07861689a09e7abd5bdf1"), looks := false }, kinds := [], alts := [], laidByText := true, laidKinds := [.data], laidTests := true, laidLooks := .later }
def FnExactEraseCodeCardSaid : Prop := Claim7.holds Tryd.pinned (.plain (OpenSpec.ofChange fnExactEraseCodeSpec)) fnExactEraseCodeCard

/-- THE TIED CARD OF 'laws.FnExactRegsUsed'. -/
def fnExactRegsUsedCard : Claim7 := { stood := { row := fnExactRegsUsedRow, standIns := [], harness := (true, "d414ed6aed0bb28dec915d364fad3b6fc97a5e059ce07861689a09e7abd5bdf1"), looks := false }, kinds := [], alts := [], laidByText := true, laidKinds := [.data], laidTests := true, laidLooks := .later }
def FnExactRegsUsedCardSaid : Prop := Claim7.holds Tryd.pinned (.plain (OpenSpec.ofChange fnExactRegsUsedSpec)) fnExactRegsUsedCard

/-- THE TIED CARD OF 'laws.FnExactCompactRegs'. -/
def fnExactCompactRegsCard : Claim7 := { stood := { row := fnExactCompactRegsRow, standIns := [], harness := (true, "d414ed6aed0bb28dec915d364fad3b6fc97a5e059ce07861689a09e7abd5bdf1"), looks := false }, kinds := [], alts := [], laidByText := true, laidKinds := [.data], laidTests := true, laidLooks := .later }
def FnExactCompactRegsCardSaid : Prop := Claim7.holds Tryd.pinned (.plain (OpenSpec.ofChange fnExactCompactRegsSpec)) fnExactCompactRegsCard

/-- THE TIED CARD OF 'laws.FnExactCodeValid'. -/
def fnExactCodeValidCard : Claim7 := { stood := { row := fnExactCodeValidRow, standIns := [], harness := (true, "d414ed6aed0bb28dec915d364fad3b6fc97a5e059ce07861689a09e7abd5bdf1"), looks := false }, kinds := [], alts := [], laidByText := true, laidKinds := [.data], laidTests := true, laidLooks := .later }
def FnExactCodeValidCardSaid : Prop := Claim7.holds Tryd.pinned (.plain (OpenSpec.ofChange fnExactCodeValidSpec)) fnExactCodeValidCard

/-- THE SECOND FORM's CARD OF 'laws.FnExactFenceCode'. -/
def fnExactFenceCodeUptoCard : Claim7 := { stood := { row := fnExactFenceCodeUptoRow, standIns := [], harness := (true, "d414ed6aed0bb28dec915d364fad3b6fc97a5e059ce07861689a09e7abd5bdf1"), looks := false }, kinds := [], alts := [], laidByText := true, laidKinds := [.data], laidTests := true, laidLooks := .later }
def FnExactFenceCodeUptoCardSaid : Prop := Claim7.holds Tryd.pinned (.plain (OpenSpec.upto fnExactFenceCodeSpec)) fnExactFenceCodeUptoCard

/-- THE SECOND FORM's CARD OF 'laws.FnExactLiveRegs'. -/
def fnExactLiveRegsUptoCard : Claim7 := { stood := { row := fnExactLiveRegsUptoRow, standIns := [], harness := (true, "d414ed6aed0bb28dec915d364fad3b6fc97a5e059ce07861689a09e7abd5bdf1"), looks := false }, kinds := [], alts := [], laidByText := true, laidKinds := [.data], laidTests := true, laidLooks := .later }
def FnExactLiveRegsUptoCardSaid : Prop := Claim7.holds Tryd.pinned (.plain (OpenSpec.upto fnExactLiveRegsSpec)) fnExactLiveRegsUptoCard

/-- THE SECOND FORM's CARD OF 'laws.FnExactCheckLive'. -/
def fnExactCheckLiveUptoCard : Claim7 := { stood := { row := fnExactCheckLiveUptoRow, standIns := [], harness := (true, "d414ed6aed0bb28dec915d364fad3b6fc97a5e059ce07861689a09e7abd5bdf1"), looks := false }, kinds := [], alts := [], laidByText := true, laidKinds := [.data], laidTests := true, laidLooks := .later }
def FnExactCheckLiveUptoCardSaid : Prop := Claim7.holds Tryd.pinned (.plain (OpenSpec.upto fnExactCheckLiveSpec)) fnExactCheckLiveUptoCard

/-- THE SECOND FORM's CARD OF 'laws.FnExactRemoveDead'. -/
def fnExactRemoveDeadUptoCard : Claim7 := { stood := { row := fnExactRemoveDeadUptoRow, standIns := [], harness := (true, "d414ed6aed0bb28dec915d364fad3b6fc97a5e059ce07861689a09e7abd5bdf1"), looks := false }, kinds := [], alts := [], laidByText := true, laidKinds := [.data], laidTests := true, laidLooks := .later }
def FnExactRemoveDeadUptoCardSaid : Prop := Claim7.holds Tryd.pinned (.plain (OpenSpec.upto fnExactRemoveDeadSpec)) fnExactRemoveDeadUptoCard

/-- THE SECOND FORM's CARD OF 'laws.FnExactEraseCode'. -/
def fnExactEraseCodeUptoCard : Claim7 := { stood := { row := fnExactEraseCodeUptoRow, standIns := [], harness := (true, "d414ed6aed0bb28dec915d364fad3b6fc97a5e059ce07861689a09e7abd5bdf1"), looks := false }, kinds := [], alts := [], laidByText := true, laidKinds := [.data], laidTests := true, laidLooks := .later }
def FnExactEraseCodeUptoCardSaid : Prop := Claim7.holds Tryd.pinned (.plain (OpenSpec.upto fnExactEraseCodeSpec)) fnExactEraseCodeUptoCard

/-- THE SECOND FORM's CARD OF 'laws.FnExactRegsUsed'. -/
def fnExactRegsUsedUptoCard : Claim7 := { stood := { row := fnExactRegsUsedUptoRow, standIns := [], harness := (true, "d414ed6aed0bb28dec915d364fad3b6fc97a5e059ce07861689a09e7abd5bdf1"), looks := false }, kinds := [], alts := [], laidByText := true, laidKinds := [.data], laidTests := true, laidLooks := .later }
def FnExactRegsUsedUptoCardSaid : Prop := Claim7.holds Tryd.pinned (.plain (OpenSpec.upto fnExactRegsUsedSpec)) fnExactRegsUsedUptoCard

/-- THE SECOND FORM's CARD OF 'laws.FnExactCompactRegs'. -/
def fnExactCompactRegsUptoCard : Claim7 := { stood := { row := fnExactCompactRegsUptoRow, standIns := [], harness := (true, "d414ed6aed0bb28dec915d364fad3b6fc97a5e059ce07861689a09e7abd5bdf1"), looks := false }, kinds := [], alts := [], laidByText := true, laidKinds := [.data], laidTests := true, laidLooks := .later }
def FnExactCompactRegsUptoCardSaid : Prop := Claim7.holds Tryd.pinned (.plain (OpenSpec.upto fnExactCompactRegsSpec)) fnExactCompactRegsUptoCard

/-- THE SECOND FORM's CARD OF 'laws.FnExactCodeValid'. -/
def fnExactCodeValidUptoCard : Claim7 := { stood := { row := fnExactCodeValidUptoRow, standIns := [], harness := (true, "d414ed6aed0bb28dec915d364fad3b6fc97a5e059ce07861689a09e7abd5bdf1"), looks := false }, kinds := [], alts := [], laidByText := true, laidKinds := [.data], laidTests := true, laidLooks := .later }
def FnExactCodeValidUptoCardSaid : Prop := Claim7.holds Tryd.pinned (.plain (OpenSpec.upto fnExactCodeValidSpec)) fnExactCodeValidUptoCard
end Rows
end Go.Proofs.YtbifbmpflhdijaaDoor

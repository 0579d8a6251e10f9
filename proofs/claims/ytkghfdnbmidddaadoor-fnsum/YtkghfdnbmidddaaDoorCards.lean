/-
  DERIVED. GIVEN WITH THE SEED: THE CARDS: each row of YtkghfdnbmidddaaDoorRows.lean that lists a variable, with what it lists TIED to the program's text (the seventh form; the later family's looks); each row that meets fmt, with fmt's text TOLD by the authors' own Lean function (tested against real Go, not proved from fmt's source: count such statements apart). THE CARD IS WHAT COUNTS. Prove the row's statement (the work); the ties are given (YtkghfdnbmidddaaDoorTie.lean); close each card by the builder's one call (the guide's Derived/Test/ToyasCard.lean, 'card_holds'). Laid BY PROGRAM, IN A SANDBOX (cutbox-door.mjs). By AI agents, Wed Nov 11 2026. No macro, syntax, notation, axiom, sorry.
-/
import Derived.Test.YtkghfdnbmidddaaDoorRows
import GoSem.ClaimSeven
namespace Go.Proofs.YtkghfdnbmidddaaDoor
namespace Rows

/-- THE TIED CARD OF 'laws.FnSum'. -/
def fnSumCard : Claim7 := { stood := { row := fnSumRow, standIns := [], harness := (true, "e3e0f031833a413ebd9421ece379c23a38deddbe90a42702d356c8260672393f"), looks := false }, kinds := [], alts := [], laidByText := true, laidKinds := [.data, .data, .data, .data], laidTests := true, laidLooks := .later }
def FnSumCardSaid : Prop := Claim7.holds Tryd.pinned (.plain (OpenSpec.ofChange fnSumSpec)) fnSumCard

/-- THE TIED CARD OF 'laws.FnExactSumSeal'. -/
def fnExactSumSealCard : Claim7 := { stood := { row := fnExactSumSealRow, standIns := [], harness := (true, "e3e0f031833a413ebd9421ece379c23a38deddbe90a42702d356c8260672393f"), looks := false }, kinds := [], alts := [], laidByText := true, laidKinds := [.data, .data, .data], laidTests := true, laidLooks := .later }
def FnExactSumSealCardSaid : Prop := Claim7.holds Tryd.pinned (.plain (OpenSpec.ofChange fnExactSumSealSpec)) fnExactSumSealCard

/-- THE TIED CARD OF 'laws.FnExactSumOpen'. -/
def fnExactSumOpenCard : Claim7 := { stood := { row := fnExactSumOpenRow, standIns := [], harness := (true, "e3e0f031833a413ebd9421ece379c23a38deddbe90a42702d356c8260672393f"), looks := false }, kinds := [], alts := [], laidByText := true, laidKinds := [.data, .data, .data], laidTests := true, laidLooks := .later }
def FnExactSumOpenCardSaid : Prop := Claim7.holds Tryd.pinned (.plain (OpenSpec.ofChange fnExactSumOpenSpec)) fnExactSumOpenCard

/-- THE TIED CARD OF 'laws.FnExactSumHex'. -/
def fnExactSumHexCard : Claim7 := { stood := { row := fnExactSumHexRow, standIns := [], harness := (true, "e3e0f031833a413ebd9421ece379c23a38deddbe90a42702d356c8260672393f"), looks := false }, kinds := [], alts := [], laidByText := true, laidKinds := [.data], laidTests := true, laidLooks := .later }
def FnExactSumHexCardSaid : Prop := Claim7.holds Tryd.pinned (.plain (OpenSpec.ofChange fnExactSumHexSpec)) fnExactSumHexCard

/-- THE TIED CARD OF 'laws.FnExactSumUnhex'. -/
def fnExactSumUnhexCard : Claim7 := { stood := { row := fnExactSumUnhexRow, standIns := [], harness := (true, "e3e0f031833a413ebd9421ece379c23a38deddbe90a42702d356c8260672393f"), looks := false }, kinds := [], alts := [], laidByText := true, laidKinds := [.data], laidTests := true, laidLooks := .later }
def FnExactSumUnhexCardSaid : Prop := Claim7.holds Tryd.pinned (.plain (OpenSpec.ofChange fnExactSumUnhexSpec)) fnExactSumUnhexCard

/-- THE SECOND FORM's CARD OF 'laws.FnSum'. -/
def fnSumUptoCard : Claim7 := { stood := { row := fnSumUptoRow, standIns := [], harness := (true, "e3e0f031833a413ebd9421ece379c23a38deddbe90a42702d356c8260672393f"), looks := false }, kinds := [], alts := [], laidByText := true, laidKinds := [.data, .data, .data, .data], laidTests := true, laidLooks := .later }
def FnSumUptoCardSaid : Prop := Claim7.holds Tryd.pinned (.plain (OpenSpec.upto fnSumSpec)) fnSumUptoCard

/-- THE SECOND FORM's CARD OF 'laws.FnExactSumSeal'. -/
def fnExactSumSealUptoCard : Claim7 := { stood := { row := fnExactSumSealUptoRow, standIns := [], harness := (true, "e3e0f031833a413ebd9421ece379c23a38deddbe90a42702d356c8260672393f"), looks := false }, kinds := [], alts := [], laidByText := true, laidKinds := [.data, .data, .data], laidTests := true, laidLooks := .later }
def FnExactSumSealUptoCardSaid : Prop := Claim7.holds Tryd.pinned (.plain (OpenSpec.upto fnExactSumSealSpec)) fnExactSumSealUptoCard

/-- THE SECOND FORM's CARD OF 'laws.FnExactSumOpen'. -/
def fnExactSumOpenUptoCard : Claim7 := { stood := { row := fnExactSumOpenUptoRow, standIns := [], harness := (true, "e3e0f031833a413ebd9421ece379c23a38deddbe90a42702d356c8260672393f"), looks := false }, kinds := [], alts := [], laidByText := true, laidKinds := [.data, .data, .data], laidTests := true, laidLooks := .later }
def FnExactSumOpenUptoCardSaid : Prop := Claim7.holds Tryd.pinned (.plain (OpenSpec.upto fnExactSumOpenSpec)) fnExactSumOpenUptoCard

/-- THE SECOND FORM's CARD OF 'laws.FnExactSumHex'. -/
def fnExactSumHexUptoCard : Claim7 := { stood := { row := fnExactSumHexUptoRow, standIns := [], harness := (true, "e3e0f031833a413ebd9421ece379c23a38deddbe90a42702d356c8260672393f"), looks := false }, kinds := [], alts := [], laidByText := true, laidKinds := [.data], laidTests := true, laidLooks := .later }
def FnExactSumHexUptoCardSaid : Prop := Claim7.holds Tryd.pinned (.plain (OpenSpec.upto fnExactSumHexSpec)) fnExactSumHexUptoCard

/-- THE SECOND FORM's CARD OF 'laws.FnExactSumUnhex'. -/
def fnExactSumUnhexUptoCard : Claim7 := { stood := { row := fnExactSumUnhexUptoRow, standIns := [], harness := (true, "e3e0f031833a413ebd9421ece379c23a38deddbe90a42702d356c8260672393f"), looks := false }, kinds := [], alts := [], laidByText := true, laidKinds := [.data], laidTests := true, laidLooks := .later }
def FnExactSumUnhexUptoCardSaid : Prop := Claim7.holds Tryd.pinned (.plain (OpenSpec.upto fnExactSumUnhexSpec)) fnExactSumUnhexUptoCard
end Rows
end Go.Proofs.YtkghfdnbmidddaaDoor

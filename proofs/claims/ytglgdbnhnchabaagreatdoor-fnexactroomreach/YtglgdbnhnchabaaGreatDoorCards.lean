/-
  DERIVED. GIVEN WITH THE SEED: THE CARDS: each row of YtglgdbnhnchabaaGreatDoorRows.lean that lists a variable, with what it lists TIED to the program's text (the seventh form; the later family's looks); each row that meets fmt, with fmt's text TOLD by the authors' own Lean function (tested against real Go, not proved from fmt's source: count such statements apart). THE CARD IS WHAT COUNTS. Prove the row's statement (the work); the ties are given (YtglgdbnhnchabaaGreatDoorTie.lean); close each card by the builder's one call (the guide's Derived/Test/ToyasCard.lean, 'card_holds'). Laid BY PROGRAM, IN A SANDBOX (cutbox-door.mjs). By AI agents, Wed Nov 11 2026. No macro, syntax, notation, axiom, sorry.
-/
import Derived.Test.YtglgdbnhnchabaaGreatDoorRows
import GoSem.ClaimSeven
namespace Go.Proofs.YtglgdbnhnchabaaGreatDoor
namespace Rows

/-- THE TIED CARD OF 'laws.FnExactRoomFree'. -/
def fnExactRoomFreeCard : Claim7 := { stood := { row := fnExactRoomFreeRow, standIns := [], harness := (true, "c58d0b569cff1942db567910816b8e1894b6effae7368a48dff9b0b0da1290dc"), looks := false }, kinds := [], alts := [], laidByText := true, laidKinds := [.data], laidTests := true, laidLooks := .later }
def FnExactRoomFreeCardSaid : Prop := Claim7.holds Tryz.pinned (.plain (OpenSpec.ofChange fnExactRoomFreeSpec)) fnExactRoomFreeCard

/-- THE TIED CARD OF 'laws.FnExactRoomReach'. -/
def fnExactRoomReachCard : Claim7 := { stood := { row := fnExactRoomReachRow, standIns := [], harness := (true, "c58d0b569cff1942db567910816b8e1894b6effae7368a48dff9b0b0da1290dc"), looks := false }, kinds := [], alts := [], laidByText := true, laidKinds := [.data], laidTests := true, laidLooks := .later }
def FnExactRoomReachCardSaid : Prop := Claim7.holds Tryz.pinned (.plain (OpenSpec.ofChange fnExactRoomReachSpec)) fnExactRoomReachCard

/-- THE SECOND FORM's CARD OF 'laws.FnExactRoomFree'. -/
def fnExactRoomFreeUptoCard : Claim7 := { stood := { row := fnExactRoomFreeUptoRow, standIns := [], harness := (true, "c58d0b569cff1942db567910816b8e1894b6effae7368a48dff9b0b0da1290dc"), looks := false }, kinds := [], alts := [], laidByText := true, laidKinds := [.data], laidTests := true, laidLooks := .later }
def FnExactRoomFreeUptoCardSaid : Prop := Claim7.holds Tryz.pinned (.plain (OpenSpec.upto fnExactRoomFreeSpec)) fnExactRoomFreeUptoCard

/-- THE SECOND FORM's CARD OF 'laws.FnExactRoomReach'. -/
def fnExactRoomReachUptoCard : Claim7 := { stood := { row := fnExactRoomReachUptoRow, standIns := [], harness := (true, "c58d0b569cff1942db567910816b8e1894b6effae7368a48dff9b0b0da1290dc"), looks := false }, kinds := [], alts := [], laidByText := true, laidKinds := [.data], laidTests := true, laidLooks := .later }
def FnExactRoomReachUptoCardSaid : Prop := Claim7.holds Tryz.pinned (.plain (OpenSpec.upto fnExactRoomReachSpec)) fnExactRoomReachUptoCard
end Rows
end Go.Proofs.YtglgdbnhnchabaaGreatDoor

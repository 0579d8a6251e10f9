/-
  DERIVED. GIVEN WITH THE SEED: THE CARDS: each row of YtgjlhokakcdpbaaGreatDoorRows.lean that lists a variable, with what it lists TIED to the program's text (the seventh form; the later family's looks); each row that meets fmt, with fmt's text TOLD by the authors' own Lean function (tested against real Go, not proved from fmt's source: count such statements apart). THE CARD IS WHAT COUNTS. Prove the row's statement (the work); the ties are given (YtgjlhokakcdpbaaGreatDoorTie.lean); close each card by the builder's one call (the guide's Derived/Test/ToyasCard.lean, 'card_holds'). Laid BY PROGRAM, IN A SANDBOX (cutbox-door.mjs). By AI agents, Wed Nov 11 2026. No macro, syntax, notation, axiom, sorry.
-/
import Derived.Test.YtgjlhokakcdpbaaGreatDoorRows
import GoSem.ClaimSeven
namespace Go.Proofs.YtgjlhokakcdpbaaGreatDoor
namespace Rows

/-- THE TIED CARD OF 'laws.FnLogBack'. -/
def fnLogBackCard : Claim7 := { stood := { row := fnLogBackRow, standIns := [], harness := (true, "2f320c4497fb3086eb940cdd668fd8739b09fc40e58362185fe534bf41157c3c"), looks := true }, kinds := [], alts := [], laidByText := true, laidKinds := [.data, .data, .data, .data, .sentinel, .sentinel, .data, .pinned], laidTests := true, laidLooks := .later }
def FnLogBackCardSaid : Prop := Claim7.holds Tryz.pinned (.plain (OpenSpec.ofChange fnLogBackSpec)) fnLogBackCard

/-- THE TIED CARD OF 'laws.FnExactLogPut'. -/
def fnExactLogPutCard : Claim7 := { stood := { row := fnExactLogPutRow, standIns := [], harness := (true, "2f320c4497fb3086eb940cdd668fd8739b09fc40e58362185fe534bf41157c3c"), looks := true }, kinds := [], alts := [], laidByText := true, laidKinds := [.data, .data, .data], laidTests := true, laidLooks := .later }
def FnExactLogPutCardSaid : Prop := Claim7.holds Tryz.pinned (.plain (OpenSpec.ofChange fnExactLogPutSpec)) fnExactLogPutCard

/-- THE TIED CARD OF 'laws.FnExactLogFind'. -/
def fnExactLogFindCard : Claim7 := { stood := { row := fnExactLogFindRow, standIns := [], harness := (true, "2f320c4497fb3086eb940cdd668fd8739b09fc40e58362185fe534bf41157c3c"), looks := true }, kinds := [], alts := [], laidByText := true, laidKinds := [.data, .data, .data, .data, .sentinel, .sentinel, .data, .pinned], laidTests := true, laidLooks := .later }
def FnExactLogFindCardSaid : Prop := Claim7.holds Tryz.pinned (.plain (OpenSpec.ofChange fnExactLogFindSpec)) fnExactLogFindCard

/-- THE SECOND FORM's CARD OF 'laws.FnLogBack'. -/
def fnLogBackUptoCard : Claim7 := { stood := { row := fnLogBackUptoRow, standIns := [], harness := (true, "2f320c4497fb3086eb940cdd668fd8739b09fc40e58362185fe534bf41157c3c"), looks := true }, kinds := [], alts := [], laidByText := true, laidKinds := [.data, .data, .data, .data, .sentinel, .sentinel, .data, .pinned], laidTests := true, laidLooks := .later }
def FnLogBackUptoCardSaid : Prop := Claim7.holds Tryz.pinned (.plain (OpenSpec.upto fnLogBackSpec)) fnLogBackUptoCard

/-- THE SECOND FORM's CARD OF 'laws.FnExactLogPut'. -/
def fnExactLogPutUptoCard : Claim7 := { stood := { row := fnExactLogPutUptoRow, standIns := [], harness := (true, "2f320c4497fb3086eb940cdd668fd8739b09fc40e58362185fe534bf41157c3c"), looks := true }, kinds := [], alts := [], laidByText := true, laidKinds := [.data, .data, .data], laidTests := true, laidLooks := .later }
def FnExactLogPutUptoCardSaid : Prop := Claim7.holds Tryz.pinned (.plain (OpenSpec.upto fnExactLogPutSpec)) fnExactLogPutUptoCard

/-- THE SECOND FORM's CARD OF 'laws.FnExactLogFind'. -/
def fnExactLogFindUptoCard : Claim7 := { stood := { row := fnExactLogFindUptoRow, standIns := [], harness := (true, "2f320c4497fb3086eb940cdd668fd8739b09fc40e58362185fe534bf41157c3c"), looks := true }, kinds := [], alts := [], laidByText := true, laidKinds := [.data, .data, .data, .data, .sentinel, .sentinel, .data, .pinned], laidTests := true, laidLooks := .later }
def FnExactLogFindUptoCardSaid : Prop := Claim7.holds Tryz.pinned (.plain (OpenSpec.upto fnExactLogFindSpec)) fnExactLogFindUptoCard
end Rows
end Go.Proofs.YtgjlhokakcdpbaaGreatDoor

/-
  DERIVED. GIVEN WITH THE SEED: THE CARDS: each row of YtojjenclcidnkaaGreatDoorRows.lean that lists a variable, with what it lists TIED to the program's text (the seventh form; the later family's looks); each row that meets fmt, with fmt's text TOLD by the authors' own Lean function (tested against real Go, not proved from fmt's source: count such statements apart). THE CARD IS WHAT COUNTS. Prove the row's statement (the work); the ties are given (YtojjenclcidnkaaGreatDoorTie.lean); close each card by the builder's one call (the guide's Derived/Test/ToyasCard.lean, 'card_holds'). Laid BY PROGRAM, IN A SANDBOX (cutbox-door.mjs). By AI agents, Wed Nov 11 2026. No macro, syntax, notation, axiom, sorry.
-/
import Derived.Test.YtojjenclcidnkaaGreatDoorRows
import GoSem.ClaimSeven
namespace Go.Proofs.YtojjenclcidnkaaGreatDoor
namespace Rows

/-- THE TIED CARD OF 'laws.FnExactPoolGet'. -/
def fnExactPoolGetCard : Claim7 := { stood := { row := fnExactPoolGetRow, standIns := [], harness := (true, "db3e3cd50c62dd706ea3048027cff692cc889a1f862f740f143f3398c2940903"), looks := true }, kinds := [], alts := [], laidByText := true, laidKinds := [.sentinel, .sentinel], laidTests := true, laidLooks := .later }
def FnExactPoolGetCardSaid : Prop := Claim7.holds Tryz.pinned (.plain (OpenSpec.ofChange fnExactPoolGetSpec)) fnExactPoolGetCard

/-- THE TIED CARD OF 'laws.FnExactCoreRootRead'. -/
def fnExactCoreRootReadCard : Claim7 := { stood := { row := fnExactCoreRootReadRow, standIns := [], harness := (true, "db3e3cd50c62dd706ea3048027cff692cc889a1f862f740f143f3398c2940903"), looks := true }, kinds := [], alts := [], laidByText := true, laidKinds := [.data, .data, .data, .data, .sentinel, .sentinel, .pinned], laidTests := true, laidLooks := .later }
def FnExactCoreRootReadCardSaid : Prop := Claim7.holds Tryz.pinned (.plain (OpenSpec.ofChange fnExactCoreRootReadSpec)) fnExactCoreRootReadCard

/-- THE SECOND FORM's CARD OF 'laws.FnExactPoolGet'. -/
def fnExactPoolGetUptoCard : Claim7 := { stood := { row := fnExactPoolGetUptoRow, standIns := [], harness := (true, "db3e3cd50c62dd706ea3048027cff692cc889a1f862f740f143f3398c2940903"), looks := true }, kinds := [], alts := [], laidByText := true, laidKinds := [.sentinel, .sentinel], laidTests := true, laidLooks := .later }
def FnExactPoolGetUptoCardSaid : Prop := Claim7.holds Tryz.pinned (.plain (OpenSpec.upto fnExactPoolGetSpec)) fnExactPoolGetUptoCard

/-- THE SECOND FORM's CARD OF 'laws.FnExactCoreRootRead'. -/
def fnExactCoreRootReadUptoCard : Claim7 := { stood := { row := fnExactCoreRootReadUptoRow, standIns := [], harness := (true, "db3e3cd50c62dd706ea3048027cff692cc889a1f862f740f143f3398c2940903"), looks := true }, kinds := [], alts := [], laidByText := true, laidKinds := [.data, .data, .data, .data, .sentinel, .sentinel, .pinned], laidTests := true, laidLooks := .later }
def FnExactCoreRootReadUptoCardSaid : Prop := Claim7.holds Tryz.pinned (.plain (OpenSpec.upto fnExactCoreRootReadSpec)) fnExactCoreRootReadUptoCard
end Rows
end Go.Proofs.YtojjenclcidnkaaGreatDoor

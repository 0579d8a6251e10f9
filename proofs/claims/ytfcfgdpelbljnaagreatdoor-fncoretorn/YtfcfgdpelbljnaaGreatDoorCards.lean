/-
  DERIVED. GIVEN WITH THE SEED: THE CARDS: each row of YtfcfgdpelbljnaaGreatDoorRows.lean that lists a variable, with what it lists TIED to the program's text (the seventh form; the later family's looks); each row that meets fmt, with fmt's text TOLD by the authors' own Lean function (tested against real Go, not proved from fmt's source: count such statements apart). THE CARD IS WHAT COUNTS. Prove the row's statement (the work); the ties are given (YtfcfgdpelbljnaaGreatDoorTie.lean); close each card by the builder's one call (the guide's Derived/Test/ToyasCard.lean, 'card_holds'). Laid BY PROGRAM, IN A SANDBOX (cutbox-door.mjs). By AI agents, Wed Nov 11 2026. No macro, syntax, notation, axiom, sorry.
-/
import Derived.Test.YtfcfgdpelbljnaaGreatDoorRows
import GoSem.ClaimSeven
namespace Go.Proofs.YtfcfgdpelbljnaaGreatDoor
namespace Rows

/-- THE TIED CARD OF 'laws.FnCoreTorn'. -/
def fnCoreTornCard : Claim7 := { stood := { row := fnCoreTornRow, standIns := [], harness := (true, "85c21d3806983d588c93b49d1b53743d88bd996007babdaac8acb4c6a4121adf"), looks := true }, kinds := [], alts := [], laidByText := true, laidKinds := [.data, .data, .data, .data, .sentinel, .sentinel, .pinned], laidTests := true, laidLooks := .later }
def FnCoreTornCardSaid : Prop := Claim7.holds Tryz.pinned (.plain (OpenSpec.ofChange fnCoreTornSpec)) fnCoreTornCard

/-- THE SECOND FORM's CARD OF 'laws.FnCoreTorn'. -/
def fnCoreTornUptoCard : Claim7 := { stood := { row := fnCoreTornUptoRow, standIns := [], harness := (true, "85c21d3806983d588c93b49d1b53743d88bd996007babdaac8acb4c6a4121adf"), looks := true }, kinds := [], alts := [], laidByText := true, laidKinds := [.data, .data, .data, .data, .sentinel, .sentinel, .pinned], laidTests := true, laidLooks := .later }
def FnCoreTornUptoCardSaid : Prop := Claim7.holds Tryz.pinned (.plain (OpenSpec.upto fnCoreTornSpec)) fnCoreTornUptoCard
end Rows
end Go.Proofs.YtfcfgdpelbljnaaGreatDoor

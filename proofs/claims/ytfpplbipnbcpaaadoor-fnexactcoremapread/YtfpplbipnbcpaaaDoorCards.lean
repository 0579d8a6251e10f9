/-
  DERIVED. GIVEN WITH THE SEED: THE CARDS: each row of YtfpplbipnbcpaaaDoorRows.lean that lists a variable, with what it lists TIED to the program's text (the seventh form; the later family's looks); each row that meets fmt, with fmt's text TOLD by the authors' own Lean function (tested against real Go, not proved from fmt's source: count such statements apart). THE CARD IS WHAT COUNTS. Prove the row's statement (the work); the ties are given (YtfpplbipnbcpaaaDoorTie.lean); close each card by the builder's one call (the guide's Derived/Test/ToyasCard.lean, 'card_holds'). Laid BY PROGRAM, IN A SANDBOX (cutbox-door.mjs). By AI agents, Wed Nov 11 2026. No macro, syntax, notation, axiom, sorry.
-/
import Derived.Test.YtfpplbipnbcpaaaDoorRows
import GoSem.ClaimSeven
namespace Go.Proofs.YtfpplbipnbcpaaaDoor
namespace Rows

/-- THE TIED CARD OF 'laws.FnExactDdtRead'. -/
def fnExactDdtReadCard : Claim7 := { stood := { row := fnExactDdtReadRow, standIns := [], harness := (true, "fda0a8ea2e554810013cce913203d9d63ab77814615c2a5df751cd2a7682f817"), looks := true }, kinds := [], alts := [], laidByText := true, laidKinds := [.data, .data, .data, .data, .sentinel, .sentinel, .pinned], laidTests := true, laidLooks := .later }
def FnExactDdtReadCardSaid : Prop := Claim7.holds Tryd.pinned (.plain (OpenSpec.ofChange fnExactDdtReadSpec)) fnExactDdtReadCard

/-- THE TIED CARD OF 'laws.FnExactCoreMapRead'. -/
def fnExactCoreMapReadCard : Claim7 := { stood := { row := fnExactCoreMapReadRow, standIns := [], harness := (true, "fda0a8ea2e554810013cce913203d9d63ab77814615c2a5df751cd2a7682f817"), looks := true }, kinds := [], alts := [], laidByText := true, laidKinds := [.data, .data, .data, .data, .sentinel, .sentinel, .pinned], laidTests := true, laidLooks := .later }
def FnExactCoreMapReadCardSaid : Prop := Claim7.holds Tryd.pinned (.plain (OpenSpec.ofChange fnExactCoreMapReadSpec)) fnExactCoreMapReadCard

/-- THE TIED CARD OF 'laws.FnExactCoreUberRead'. -/
def fnExactCoreUberReadCard : Claim7 := { stood := { row := fnExactCoreUberReadRow, standIns := [], harness := (true, "fda0a8ea2e554810013cce913203d9d63ab77814615c2a5df751cd2a7682f817"), looks := true }, kinds := [], alts := [], laidByText := true, laidKinds := [.data, .data, .data, .data, .sentinel, .sentinel, .pinned], laidTests := true, laidLooks := .later }
def FnExactCoreUberReadCardSaid : Prop := Claim7.holds Tryd.pinned (.plain (OpenSpec.ofChange fnExactCoreUberReadSpec)) fnExactCoreUberReadCard

/-- THE SECOND FORM's CARD OF 'laws.FnExactDdtRead'. -/
def fnExactDdtReadUptoCard : Claim7 := { stood := { row := fnExactDdtReadUptoRow, standIns := [], harness := (true, "fda0a8ea2e554810013cce913203d9d63ab77814615c2a5df751cd2a7682f817"), looks := true }, kinds := [], alts := [], laidByText := true, laidKinds := [.data, .data, .data, .data, .sentinel, .sentinel, .pinned], laidTests := true, laidLooks := .later }
def FnExactDdtReadUptoCardSaid : Prop := Claim7.holds Tryd.pinned (.plain (OpenSpec.upto fnExactDdtReadSpec)) fnExactDdtReadUptoCard

/-- THE SECOND FORM's CARD OF 'laws.FnExactCoreMapRead'. -/
def fnExactCoreMapReadUptoCard : Claim7 := { stood := { row := fnExactCoreMapReadUptoRow, standIns := [], harness := (true, "fda0a8ea2e554810013cce913203d9d63ab77814615c2a5df751cd2a7682f817"), looks := true }, kinds := [], alts := [], laidByText := true, laidKinds := [.data, .data, .data, .data, .sentinel, .sentinel, .pinned], laidTests := true, laidLooks := .later }
def FnExactCoreMapReadUptoCardSaid : Prop := Claim7.holds Tryd.pinned (.plain (OpenSpec.upto fnExactCoreMapReadSpec)) fnExactCoreMapReadUptoCard

/-- THE SECOND FORM's CARD OF 'laws.FnExactCoreUberRead'. -/
def fnExactCoreUberReadUptoCard : Claim7 := { stood := { row := fnExactCoreUberReadUptoRow, standIns := [], harness := (true, "fda0a8ea2e554810013cce913203d9d63ab77814615c2a5df751cd2a7682f817"), looks := true }, kinds := [], alts := [], laidByText := true, laidKinds := [.data, .data, .data, .data, .sentinel, .sentinel, .pinned], laidTests := true, laidLooks := .later }
def FnExactCoreUberReadUptoCardSaid : Prop := Claim7.holds Tryd.pinned (.plain (OpenSpec.upto fnExactCoreUberReadSpec)) fnExactCoreUberReadUptoCard
end Rows
end Go.Proofs.YtfpplbipnbcpaaaDoor

/-
  DERIVED. GIVEN WITH THE SEED: THE CARDS: each row of YtojjenclcidnkaaDoorRows.lean that lists a variable, with what it lists TIED to the program's text (the seventh form; the later family's looks); each row that meets fmt, with fmt's text TOLD by the authors' own Lean function (tested against real Go, not proved from fmt's source: count such statements apart). THE CARD IS WHAT COUNTS. Prove the row's statement (the work); the ties are given (YtojjenclcidnkaaDoorTie.lean); close each card by the builder's one call (the guide's Derived/Test/ToyasCard.lean, 'card_holds'). Laid BY PROGRAM, IN A SANDBOX (cutbox-door.mjs). By AI agents, Wed Nov 11 2026. No macro, syntax, notation, axiom, sorry.
-/
import Derived.Test.YtojjenclcidnkaaDoorRows
import GoSem.ClaimSeven
namespace Go.Proofs.YtojjenclcidnkaaDoor
namespace Rows

/-- THE TIED CARD OF 'laws.FnExactDdtRead'. -/
def fnExactDdtReadCard : Claim7 := { stood := { row := fnExactDdtReadRow, standIns := [], harness := (true, "3ba43eb36e353b075e3c78b09620c93a5d78f73ec92920e71ccee37ac9f715ed"), looks := true }, kinds := [], alts := [], laidByText := true, laidKinds := [.data, .data, .data, .data, .sentinel, .sentinel, .pinned], laidTests := true, laidLooks := .later }
def FnExactDdtReadCardSaid : Prop := Claim7.holds Tryd.pinned (.plain (OpenSpec.ofChange fnExactDdtReadSpec)) fnExactDdtReadCard

/-- THE SECOND FORM's CARD OF 'laws.FnExactDdtRead'. -/
def fnExactDdtReadUptoCard : Claim7 := { stood := { row := fnExactDdtReadUptoRow, standIns := [], harness := (true, "3ba43eb36e353b075e3c78b09620c93a5d78f73ec92920e71ccee37ac9f715ed"), looks := true }, kinds := [], alts := [], laidByText := true, laidKinds := [.data, .data, .data, .data, .sentinel, .sentinel, .pinned], laidTests := true, laidLooks := .later }
def FnExactDdtReadUptoCardSaid : Prop := Claim7.holds Tryd.pinned (.plain (OpenSpec.upto fnExactDdtReadSpec)) fnExactDdtReadUptoCard
end Rows
end Go.Proofs.YtojjenclcidnkaaDoor

/-
  DERIVED. GIVEN WITH THE SEED: THE CARDS: each row of YthcfiobnnceomaaDoorRows.lean that lists a variable, with what it lists TIED to the program's text (the seventh form; the later family's looks); each row that meets fmt, with fmt's text TOLD by the authors' own Lean function (tested against real Go, not proved from fmt's source: count such statements apart). THE CARD IS WHAT COUNTS. Prove the row's statement (the work); the ties are given (YthcfiobnnceomaaDoorTie.lean); close each card by the builder's one call (the guide's Derived/Test/ToyasCard.lean, 'card_holds'). Laid BY PROGRAM, IN A SANDBOX (cutbox-door.mjs). By AI agents, Wed Nov 11 2026. No macro, syntax, notation, axiom, sorry.
-/
import Derived.Test.YthcfiobnnceomaaDoorRows
import GoSem.ClaimSeven
namespace Go.Proofs.YthcfiobnnceomaaDoor
namespace Rows

/-- THE TIED CARD OF 'laws.FnExactCoreRoot'. -/
def fnExactCoreRootCard : Claim7 := { stood := { row := fnExactCoreRootRow, standIns := [], harness := (true, "57cd70ec98464208128d4d82654b494f7d4e8bdfc0ae25de905e2a09c998cc54"), looks := true }, kinds := [], alts := [], laidByText := true, laidKinds := [.data, .data, .data], laidTests := true, laidLooks := .later }
def FnExactCoreRootCardSaid : Prop := Claim7.holds Tryd.pinned (.plain (OpenSpec.ofChange fnExactCoreRootSpec)) fnExactCoreRootCard

/-- THE TIED CARD OF 'laws.FnExactDdtRead'. -/
def fnExactDdtReadCard : Claim7 := { stood := { row := fnExactDdtReadRow, standIns := [], harness := (true, "57cd70ec98464208128d4d82654b494f7d4e8bdfc0ae25de905e2a09c998cc54"), looks := true }, kinds := [], alts := [], laidByText := true, laidKinds := [.data, .data, .data, .data, .sentinel, .sentinel, .pinned], laidTests := true, laidLooks := .later }
def FnExactDdtReadCardSaid : Prop := Claim7.holds Tryd.pinned (.plain (OpenSpec.ofChange fnExactDdtReadSpec)) fnExactDdtReadCard

/-- THE SECOND FORM's CARD OF 'laws.FnExactCoreRoot'. -/
def fnExactCoreRootUptoCard : Claim7 := { stood := { row := fnExactCoreRootUptoRow, standIns := [], harness := (true, "57cd70ec98464208128d4d82654b494f7d4e8bdfc0ae25de905e2a09c998cc54"), looks := true }, kinds := [], alts := [], laidByText := true, laidKinds := [.data, .data, .data], laidTests := true, laidLooks := .later }
def FnExactCoreRootUptoCardSaid : Prop := Claim7.holds Tryd.pinned (.plain (OpenSpec.upto fnExactCoreRootSpec)) fnExactCoreRootUptoCard

/-- THE SECOND FORM's CARD OF 'laws.FnExactDdtRead'. -/
def fnExactDdtReadUptoCard : Claim7 := { stood := { row := fnExactDdtReadUptoRow, standIns := [], harness := (true, "57cd70ec98464208128d4d82654b494f7d4e8bdfc0ae25de905e2a09c998cc54"), looks := true }, kinds := [], alts := [], laidByText := true, laidKinds := [.data, .data, .data, .data, .sentinel, .sentinel, .pinned], laidTests := true, laidLooks := .later }
def FnExactDdtReadUptoCardSaid : Prop := Claim7.holds Tryd.pinned (.plain (OpenSpec.upto fnExactDdtReadSpec)) fnExactDdtReadUptoCard
end Rows
end Go.Proofs.YthcfiobnnceomaaDoor

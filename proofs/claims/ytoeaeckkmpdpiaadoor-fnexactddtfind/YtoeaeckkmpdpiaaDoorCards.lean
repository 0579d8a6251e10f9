/-
  DERIVED. GIVEN WITH THE SEED: THE CARDS: each row of YtoeaeckkmpdpiaaDoorRows.lean that lists a variable, with what it lists TIED to the program's text (the seventh form; the later family's looks); each row that meets fmt, with fmt's text TOLD by the authors' own Lean function (tested against real Go, not proved from fmt's source: count such statements apart). THE CARD IS WHAT COUNTS. Prove the row's statement (the work); the ties are given (YtoeaeckkmpdpiaaDoorTie.lean); close each card by the builder's one call (the guide's Derived/Test/ToyasCard.lean, 'card_holds'). Laid BY PROGRAM, IN A SANDBOX (cutbox-door.mjs). By AI agents, Wed Nov 11 2026. No macro, syntax, notation, axiom, sorry.
-/
import Derived.Test.YtoeaeckkmpdpiaaDoorRows
import GoSem.ClaimSeven
namespace Go.Proofs.YtoeaeckkmpdpiaaDoor
namespace Rows

/-- THE TIED CARD OF 'laws.FnExactPtrRead'. -/
def fnExactPtrReadCard : Claim7 := { stood := { row := fnExactPtrReadRow, standIns := [], harness := (true, "da7c91328e6a6e99822b0e81551f280f0559c5358cde3011c64cb27cf7c72801"), looks := true }, kinds := [], alts := [], laidByText := true, laidKinds := [.data, .data, .data, .sentinel, .sentinel], laidTests := true, laidLooks := .later }
def FnExactPtrReadCardSaid : Prop := Claim7.holds Tryd.pinned (.plain (OpenSpec.ofChange fnExactPtrReadSpec)) fnExactPtrReadCard

/-- THE TIED CARD OF 'laws.FnExactDdtFind'. -/
def fnExactDdtFindCard : Claim7 := { stood := { row := fnExactDdtFindRow, standIns := [], harness := (true, "da7c91328e6a6e99822b0e81551f280f0559c5358cde3011c64cb27cf7c72801"), looks := true }, kinds := [], alts := [], laidByText := true, laidKinds := [.sentinel, .sentinel], laidTests := true, laidLooks := .later }
def FnExactDdtFindCardSaid : Prop := Claim7.holds Tryd.pinned (.plain (OpenSpec.ofChange fnExactDdtFindSpec)) fnExactDdtFindCard

/-- THE TIED CARD OF 'laws.FnExactDdtText'. -/
def fnExactDdtTextCard : Claim7 := { stood := { row := fnExactDdtTextRow, standIns := [], harness := (true, "da7c91328e6a6e99822b0e81551f280f0559c5358cde3011c64cb27cf7c72801"), looks := true }, kinds := [], alts := [], laidByText := true, laidKinds := [.data, .data, .data], laidTests := true, laidLooks := .later }
def FnExactDdtTextCardSaid : Prop := Claim7.holds Tryd.pinned (.plain (OpenSpec.ofChange fnExactDdtTextSpec)) fnExactDdtTextCard

/-- THE TIED CARD OF 'laws.FnExactCoreMap'. -/
def fnExactCoreMapCard : Claim7 := { stood := { row := fnExactCoreMapRow, standIns := [], harness := (true, "da7c91328e6a6e99822b0e81551f280f0559c5358cde3011c64cb27cf7c72801"), looks := true }, kinds := [], alts := [], laidByText := true, laidKinds := [.data, .data, .data], laidTests := true, laidLooks := .later }
def FnExactCoreMapCardSaid : Prop := Claim7.holds Tryd.pinned (.plain (OpenSpec.ofChange fnExactCoreMapSpec)) fnExactCoreMapCard

/-- THE TIED CARD OF 'laws.FnExactCoreUber'. -/
def fnExactCoreUberCard : Claim7 := { stood := { row := fnExactCoreUberRow, standIns := [], harness := (true, "da7c91328e6a6e99822b0e81551f280f0559c5358cde3011c64cb27cf7c72801"), looks := true }, kinds := [], alts := [], laidByText := true, laidKinds := [.data, .data, .data], laidTests := true, laidLooks := .later }
def FnExactCoreUberCardSaid : Prop := Claim7.holds Tryd.pinned (.plain (OpenSpec.ofChange fnExactCoreUberSpec)) fnExactCoreUberCard

/-- THE SECOND FORM's CARD OF 'laws.FnExactPtrRead'. -/
def fnExactPtrReadUptoCard : Claim7 := { stood := { row := fnExactPtrReadUptoRow, standIns := [], harness := (true, "da7c91328e6a6e99822b0e81551f280f0559c5358cde3011c64cb27cf7c72801"), looks := true }, kinds := [], alts := [], laidByText := true, laidKinds := [.data, .data, .data, .sentinel, .sentinel], laidTests := true, laidLooks := .later }
def FnExactPtrReadUptoCardSaid : Prop := Claim7.holds Tryd.pinned (.plain (OpenSpec.upto fnExactPtrReadSpec)) fnExactPtrReadUptoCard

/-- THE SECOND FORM's CARD OF 'laws.FnExactDdtFind'. -/
def fnExactDdtFindUptoCard : Claim7 := { stood := { row := fnExactDdtFindUptoRow, standIns := [], harness := (true, "da7c91328e6a6e99822b0e81551f280f0559c5358cde3011c64cb27cf7c72801"), looks := true }, kinds := [], alts := [], laidByText := true, laidKinds := [.sentinel, .sentinel], laidTests := true, laidLooks := .later }
def FnExactDdtFindUptoCardSaid : Prop := Claim7.holds Tryd.pinned (.plain (OpenSpec.upto fnExactDdtFindSpec)) fnExactDdtFindUptoCard

/-- THE SECOND FORM's CARD OF 'laws.FnExactDdtText'. -/
def fnExactDdtTextUptoCard : Claim7 := { stood := { row := fnExactDdtTextUptoRow, standIns := [], harness := (true, "da7c91328e6a6e99822b0e81551f280f0559c5358cde3011c64cb27cf7c72801"), looks := true }, kinds := [], alts := [], laidByText := true, laidKinds := [.data, .data, .data], laidTests := true, laidLooks := .later }
def FnExactDdtTextUptoCardSaid : Prop := Claim7.holds Tryd.pinned (.plain (OpenSpec.upto fnExactDdtTextSpec)) fnExactDdtTextUptoCard

/-- THE SECOND FORM's CARD OF 'laws.FnExactCoreMap'. -/
def fnExactCoreMapUptoCard : Claim7 := { stood := { row := fnExactCoreMapUptoRow, standIns := [], harness := (true, "da7c91328e6a6e99822b0e81551f280f0559c5358cde3011c64cb27cf7c72801"), looks := true }, kinds := [], alts := [], laidByText := true, laidKinds := [.data, .data, .data], laidTests := true, laidLooks := .later }
def FnExactCoreMapUptoCardSaid : Prop := Claim7.holds Tryd.pinned (.plain (OpenSpec.upto fnExactCoreMapSpec)) fnExactCoreMapUptoCard

/-- THE SECOND FORM's CARD OF 'laws.FnExactCoreUber'. -/
def fnExactCoreUberUptoCard : Claim7 := { stood := { row := fnExactCoreUberUptoRow, standIns := [], harness := (true, "da7c91328e6a6e99822b0e81551f280f0559c5358cde3011c64cb27cf7c72801"), looks := true }, kinds := [], alts := [], laidByText := true, laidKinds := [.data, .data, .data], laidTests := true, laidLooks := .later }
def FnExactCoreUberUptoCardSaid : Prop := Claim7.holds Tryd.pinned (.plain (OpenSpec.upto fnExactCoreUberSpec)) fnExactCoreUberUptoCard
end Rows
end Go.Proofs.YtoeaeckkmpdpiaaDoor

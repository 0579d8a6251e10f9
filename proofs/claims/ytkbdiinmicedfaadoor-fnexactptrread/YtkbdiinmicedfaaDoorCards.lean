/-
  DERIVED. GIVEN WITH THE SEED: THE CARDS: each row of YtkbdiinmicedfaaDoorRows.lean that lists a variable, with what it lists TIED to the program's text (the seventh form; the later family's looks); each row that meets fmt, with fmt's text TOLD by the authors' own Lean function (tested against real Go, not proved from fmt's source: count such statements apart). THE CARD IS WHAT COUNTS. Prove the row's statement (the work); the ties are given (YtkbdiinmicedfaaDoorTie.lean); close each card by the builder's one call (the guide's Derived/Test/ToyasCard.lean, 'card_holds'). Laid BY PROGRAM, IN A SANDBOX (cutbox-door.mjs). By AI agents, Wed Nov 11 2026. No macro, syntax, notation, axiom, sorry.
-/
import Derived.Test.YtkbdiinmicedfaaDoorRows
import GoSem.ClaimSeven
namespace Go.Proofs.YtkbdiinmicedfaaDoor
namespace Rows

/-- THE TIED CARD OF 'laws.FnBookSnap'. -/
def fnBookSnapCard : Claim7 := { stood := { row := fnBookSnapRow, standIns := [], harness := (true, "6a96ee28361667144bab85e18fa261a11724790ef09cfb9bc0417f2ec9a8a951"), looks := true }, kinds := [], alts := [], laidByText := true, laidKinds := [.handle], laidTests := true, laidLooks := .later }
def FnBookSnapCardSaid : Prop := Claim7.holds Tryd.pinned (.plain (OpenSpec.ofChange fnBookSnapSpec)) fnBookSnapCard

/-- THE TIED CARD OF 'laws.FnDdtParts'. -/
def fnDdtPartsCard : Claim7 := { stood := { row := fnDdtPartsRow, standIns := [], harness := (true, "6a96ee28361667144bab85e18fa261a11724790ef09cfb9bc0417f2ec9a8a951"), looks := true }, kinds := [], alts := [], laidByText := true, laidKinds := [.data, .data, .data, .data, .sentinel, .sentinel, .pinned], laidTests := true, laidLooks := .later }
def FnDdtPartsCardSaid : Prop := Claim7.holds Tryd.pinned (.plain (OpenSpec.ofChange fnDdtPartsSpec)) fnDdtPartsCard

/-- THE TIED CARD OF 'laws.FnExactPtrText'. -/
def fnExactPtrTextCard : Claim7 := { stood := { row := fnExactPtrTextRow, standIns := [], harness := (true, "6a96ee28361667144bab85e18fa261a11724790ef09cfb9bc0417f2ec9a8a951"), looks := true }, kinds := [], alts := [], laidByText := true, laidKinds := [.data, .data, .data], laidTests := true, laidLooks := .later }
def FnExactPtrTextCardSaid : Prop := Claim7.holds Tryd.pinned (.plain (OpenSpec.ofChange fnExactPtrTextSpec)) fnExactPtrTextCard

/-- THE TIED CARD OF 'laws.FnExactPtrRead'. -/
def fnExactPtrReadCard : Claim7 := { stood := { row := fnExactPtrReadRow, standIns := [], harness := (true, "6a96ee28361667144bab85e18fa261a11724790ef09cfb9bc0417f2ec9a8a951"), looks := true }, kinds := [], alts := [], laidByText := true, laidKinds := [.data, .data, .data, .sentinel, .sentinel], laidTests := true, laidLooks := .later }
def FnExactPtrReadCardSaid : Prop := Claim7.holds Tryd.pinned (.plain (OpenSpec.ofChange fnExactPtrReadSpec)) fnExactPtrReadCard

/-- THE TIED CARD OF 'laws.FnExactBookDo'. -/
def fnExactBookDoCard : Claim7 := { stood := { row := fnExactBookDoRow, standIns := [], harness := (true, "6a96ee28361667144bab85e18fa261a11724790ef09cfb9bc0417f2ec9a8a951"), looks := true }, kinds := [], alts := [], laidByText := true, laidKinds := [.handle], laidTests := true, laidLooks := .later }
def FnExactBookDoCardSaid : Prop := Claim7.holds Tryd.pinned (.plain (OpenSpec.ofChange fnExactBookDoSpec)) fnExactBookDoCard

/-- THE TIED CARD OF 'laws.FnExactDdtFind'. -/
def fnExactDdtFindCard : Claim7 := { stood := { row := fnExactDdtFindRow, standIns := [], harness := (true, "6a96ee28361667144bab85e18fa261a11724790ef09cfb9bc0417f2ec9a8a951"), looks := true }, kinds := [], alts := [], laidByText := true, laidKinds := [.sentinel, .sentinel], laidTests := true, laidLooks := .later }
def FnExactDdtFindCardSaid : Prop := Claim7.holds Tryd.pinned (.plain (OpenSpec.ofChange fnExactDdtFindSpec)) fnExactDdtFindCard

/-- THE SECOND FORM's CARD OF 'laws.FnBookSnap'. -/
def fnBookSnapUptoCard : Claim7 := { stood := { row := fnBookSnapUptoRow, standIns := [], harness := (true, "6a96ee28361667144bab85e18fa261a11724790ef09cfb9bc0417f2ec9a8a951"), looks := true }, kinds := [], alts := [], laidByText := true, laidKinds := [.handle], laidTests := true, laidLooks := .later }
def FnBookSnapUptoCardSaid : Prop := Claim7.holds Tryd.pinned (.plain (OpenSpec.upto fnBookSnapSpec)) fnBookSnapUptoCard

/-- THE SECOND FORM's CARD OF 'laws.FnDdtParts'. -/
def fnDdtPartsUptoCard : Claim7 := { stood := { row := fnDdtPartsUptoRow, standIns := [], harness := (true, "6a96ee28361667144bab85e18fa261a11724790ef09cfb9bc0417f2ec9a8a951"), looks := true }, kinds := [], alts := [], laidByText := true, laidKinds := [.data, .data, .data, .data, .sentinel, .sentinel, .pinned], laidTests := true, laidLooks := .later }
def FnDdtPartsUptoCardSaid : Prop := Claim7.holds Tryd.pinned (.plain (OpenSpec.upto fnDdtPartsSpec)) fnDdtPartsUptoCard

/-- THE SECOND FORM's CARD OF 'laws.FnExactPtrText'. -/
def fnExactPtrTextUptoCard : Claim7 := { stood := { row := fnExactPtrTextUptoRow, standIns := [], harness := (true, "6a96ee28361667144bab85e18fa261a11724790ef09cfb9bc0417f2ec9a8a951"), looks := true }, kinds := [], alts := [], laidByText := true, laidKinds := [.data, .data, .data], laidTests := true, laidLooks := .later }
def FnExactPtrTextUptoCardSaid : Prop := Claim7.holds Tryd.pinned (.plain (OpenSpec.upto fnExactPtrTextSpec)) fnExactPtrTextUptoCard

/-- THE SECOND FORM's CARD OF 'laws.FnExactPtrRead'. -/
def fnExactPtrReadUptoCard : Claim7 := { stood := { row := fnExactPtrReadUptoRow, standIns := [], harness := (true, "6a96ee28361667144bab85e18fa261a11724790ef09cfb9bc0417f2ec9a8a951"), looks := true }, kinds := [], alts := [], laidByText := true, laidKinds := [.data, .data, .data, .sentinel, .sentinel], laidTests := true, laidLooks := .later }
def FnExactPtrReadUptoCardSaid : Prop := Claim7.holds Tryd.pinned (.plain (OpenSpec.upto fnExactPtrReadSpec)) fnExactPtrReadUptoCard

/-- THE SECOND FORM's CARD OF 'laws.FnExactBookDo'. -/
def fnExactBookDoUptoCard : Claim7 := { stood := { row := fnExactBookDoUptoRow, standIns := [], harness := (true, "6a96ee28361667144bab85e18fa261a11724790ef09cfb9bc0417f2ec9a8a951"), looks := true }, kinds := [], alts := [], laidByText := true, laidKinds := [.handle], laidTests := true, laidLooks := .later }
def FnExactBookDoUptoCardSaid : Prop := Claim7.holds Tryd.pinned (.plain (OpenSpec.upto fnExactBookDoSpec)) fnExactBookDoUptoCard

/-- THE SECOND FORM's CARD OF 'laws.FnExactDdtFind'. -/
def fnExactDdtFindUptoCard : Claim7 := { stood := { row := fnExactDdtFindUptoRow, standIns := [], harness := (true, "6a96ee28361667144bab85e18fa261a11724790ef09cfb9bc0417f2ec9a8a951"), looks := true }, kinds := [], alts := [], laidByText := true, laidKinds := [.sentinel, .sentinel], laidTests := true, laidLooks := .later }
def FnExactDdtFindUptoCardSaid : Prop := Claim7.holds Tryd.pinned (.plain (OpenSpec.upto fnExactDdtFindSpec)) fnExactDdtFindUptoCard
end Rows
end Go.Proofs.YtkbdiinmicedfaaDoor

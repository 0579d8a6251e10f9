/-
  DERIVED. GIVEN WITH THE SEED: THE CARDS: each row of YtfacbjldpenpjaaDoorRows.lean that lists a variable, with what it lists TIED to the program's text (the seventh form; the later family's looks); each row that meets fmt, with fmt's text TOLD by the authors' own Lean function (tested against real Go, not proved from fmt's source: count such statements apart). THE CARD IS WHAT COUNTS. Prove the row's statement (the work); the ties are given (YtfacbjldpenpjaaDoorTie.lean); close each card by the builder's one call (the guide's Derived/Test/ToyasCard.lean, 'card_holds'). Laid BY PROGRAM, IN A SANDBOX (cutbox-door.mjs). By AI agents, Wed Nov 11 2026. No macro, syntax, notation, axiom, sorry.
-/
import Derived.Test.YtfacbjldpenpjaaDoorRows
import GoSem.ClaimSeven
namespace Go.Proofs.YtfacbjldpenpjaaDoor
namespace Rows

/-- THE TIED CARD OF 'laws.FnBlkOne'. -/
def fnBlkOneCard : Claim7 := { stood := { row := fnBlkOneRow, standIns := [], harness := (true, "72bf1c8ef14eb7622b15592d7acbfcff693232b2949c40b51215cac29b4b026f"), looks := true }, kinds := [], alts := [], laidByText := true, laidKinds := [.sentinel, .sentinel], laidTests := true, laidLooks := .later }
def FnBlkOneCardSaid : Prop := Claim7.holds Tryd.pinned (.plain (OpenSpec.ofChange fnBlkOneSpec)) fnBlkOneCard

/-- THE TIED CARD OF 'laws.FnExactPtrText'. -/
def fnExactPtrTextCard : Claim7 := { stood := { row := fnExactPtrTextRow, standIns := [], harness := (true, "72bf1c8ef14eb7622b15592d7acbfcff693232b2949c40b51215cac29b4b026f"), looks := true }, kinds := [], alts := [], laidByText := true, laidKinds := [.data, .data, .data], laidTests := true, laidLooks := .later }
def FnExactPtrTextCardSaid : Prop := Claim7.holds Tryd.pinned (.plain (OpenSpec.ofChange fnExactPtrTextSpec)) fnExactPtrTextCard

/-- THE TIED CARD OF 'laws.FnExactPtrRead'. -/
def fnExactPtrReadCard : Claim7 := { stood := { row := fnExactPtrReadRow, standIns := [], harness := (true, "72bf1c8ef14eb7622b15592d7acbfcff693232b2949c40b51215cac29b4b026f"), looks := true }, kinds := [], alts := [], laidByText := true, laidKinds := [.data, .data, .data, .sentinel, .sentinel], laidTests := true, laidLooks := .later }
def FnExactPtrReadCardSaid : Prop := Claim7.holds Tryd.pinned (.plain (OpenSpec.ofChange fnExactPtrReadSpec)) fnExactPtrReadCard

/-- THE TIED CARD OF 'laws.FnExactBlkSide'. -/
def fnExactBlkSideCard : Claim7 := { stood := { row := fnExactBlkSideRow, standIns := [], harness := (true, "72bf1c8ef14eb7622b15592d7acbfcff693232b2949c40b51215cac29b4b026f"), looks := true }, kinds := [], alts := [], laidByText := true, laidKinds := [.sentinel, .sentinel], laidTests := true, laidLooks := .later }
def FnExactBlkSideCardSaid : Prop := Claim7.holds Tryd.pinned (.plain (OpenSpec.ofChange fnExactBlkSideSpec)) fnExactBlkSideCard

/-- THE TIED CARD OF 'laws.FnExactBlkRead'. -/
def fnExactBlkReadCard : Claim7 := { stood := { row := fnExactBlkReadRow, standIns := [], harness := (true, "72bf1c8ef14eb7622b15592d7acbfcff693232b2949c40b51215cac29b4b026f"), looks := true }, kinds := [], alts := [], laidByText := true, laidKinds := [.sentinel, .sentinel], laidTests := true, laidLooks := .later }
def FnExactBlkReadCardSaid : Prop := Claim7.holds Tryd.pinned (.plain (OpenSpec.ofChange fnExactBlkReadSpec)) fnExactBlkReadCard

/-- THE TIED CARD OF 'laws.FnExactBlkHeal'. -/
def fnExactBlkHealCard : Claim7 := { stood := { row := fnExactBlkHealRow, standIns := [], harness := (true, "72bf1c8ef14eb7622b15592d7acbfcff693232b2949c40b51215cac29b4b026f"), looks := true }, kinds := [], alts := [], laidByText := true, laidKinds := [.sentinel, .sentinel], laidTests := true, laidLooks := .later }
def FnExactBlkHealCardSaid : Prop := Claim7.holds Tryd.pinned (.plain (OpenSpec.ofChange fnExactBlkHealSpec)) fnExactBlkHealCard

/-- THE SECOND FORM's CARD OF 'laws.FnBlkOne'. -/
def fnBlkOneUptoCard : Claim7 := { stood := { row := fnBlkOneUptoRow, standIns := [], harness := (true, "72bf1c8ef14eb7622b15592d7acbfcff693232b2949c40b51215cac29b4b026f"), looks := true }, kinds := [], alts := [], laidByText := true, laidKinds := [.sentinel, .sentinel], laidTests := true, laidLooks := .later }
def FnBlkOneUptoCardSaid : Prop := Claim7.holds Tryd.pinned (.plain (OpenSpec.upto fnBlkOneSpec)) fnBlkOneUptoCard

/-- THE SECOND FORM's CARD OF 'laws.FnExactPtrText'. -/
def fnExactPtrTextUptoCard : Claim7 := { stood := { row := fnExactPtrTextUptoRow, standIns := [], harness := (true, "72bf1c8ef14eb7622b15592d7acbfcff693232b2949c40b51215cac29b4b026f"), looks := true }, kinds := [], alts := [], laidByText := true, laidKinds := [.data, .data, .data], laidTests := true, laidLooks := .later }
def FnExactPtrTextUptoCardSaid : Prop := Claim7.holds Tryd.pinned (.plain (OpenSpec.upto fnExactPtrTextSpec)) fnExactPtrTextUptoCard

/-- THE SECOND FORM's CARD OF 'laws.FnExactPtrRead'. -/
def fnExactPtrReadUptoCard : Claim7 := { stood := { row := fnExactPtrReadUptoRow, standIns := [], harness := (true, "72bf1c8ef14eb7622b15592d7acbfcff693232b2949c40b51215cac29b4b026f"), looks := true }, kinds := [], alts := [], laidByText := true, laidKinds := [.data, .data, .data, .sentinel, .sentinel], laidTests := true, laidLooks := .later }
def FnExactPtrReadUptoCardSaid : Prop := Claim7.holds Tryd.pinned (.plain (OpenSpec.upto fnExactPtrReadSpec)) fnExactPtrReadUptoCard

/-- THE SECOND FORM's CARD OF 'laws.FnExactBlkSide'. -/
def fnExactBlkSideUptoCard : Claim7 := { stood := { row := fnExactBlkSideUptoRow, standIns := [], harness := (true, "72bf1c8ef14eb7622b15592d7acbfcff693232b2949c40b51215cac29b4b026f"), looks := true }, kinds := [], alts := [], laidByText := true, laidKinds := [.sentinel, .sentinel], laidTests := true, laidLooks := .later }
def FnExactBlkSideUptoCardSaid : Prop := Claim7.holds Tryd.pinned (.plain (OpenSpec.upto fnExactBlkSideSpec)) fnExactBlkSideUptoCard

/-- THE SECOND FORM's CARD OF 'laws.FnExactBlkRead'. -/
def fnExactBlkReadUptoCard : Claim7 := { stood := { row := fnExactBlkReadUptoRow, standIns := [], harness := (true, "72bf1c8ef14eb7622b15592d7acbfcff693232b2949c40b51215cac29b4b026f"), looks := true }, kinds := [], alts := [], laidByText := true, laidKinds := [.sentinel, .sentinel], laidTests := true, laidLooks := .later }
def FnExactBlkReadUptoCardSaid : Prop := Claim7.holds Tryd.pinned (.plain (OpenSpec.upto fnExactBlkReadSpec)) fnExactBlkReadUptoCard

/-- THE SECOND FORM's CARD OF 'laws.FnExactBlkHeal'. -/
def fnExactBlkHealUptoCard : Claim7 := { stood := { row := fnExactBlkHealUptoRow, standIns := [], harness := (true, "72bf1c8ef14eb7622b15592d7acbfcff693232b2949c40b51215cac29b4b026f"), looks := true }, kinds := [], alts := [], laidByText := true, laidKinds := [.sentinel, .sentinel], laidTests := true, laidLooks := .later }
def FnExactBlkHealUptoCardSaid : Prop := Claim7.holds Tryd.pinned (.plain (OpenSpec.upto fnExactBlkHealSpec)) fnExactBlkHealUptoCard
end Rows
end Go.Proofs.YtfacbjldpenpjaaDoor

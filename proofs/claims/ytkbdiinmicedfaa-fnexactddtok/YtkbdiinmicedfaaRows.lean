/-
  No cell of these rows narrows 'for every input' (looked for: loops, veiled, ifaces, maps, wideKeys, modest, calm, conditions, laid).
  DERIVED. THE GIVEN ROWS OF THIS SEAT. 5 by the template 'for every input the law returns true; each argument reads behind the call as it read before'; 0 by the template 'total and deterministic' (their statements: YtkbdiinmicedfaaTotals.lean).
  GIVEN WITH THE SEED: the statements are not yours to turn. If you find one false, say at which input.
  Laid BY PROGRAM, IN A SANDBOX (cutbox-rows.mjs): the forced cells as the released guide's own fill.sh prints them over the translation c2fc616fe3a16f1c… (all of the seat's roots in one cut). By AI agents, Wed Nov 11 2026. No macro, syntax, notation, axiom, sorry.
-/
import Derived.Test.YtkbdiinmicedfaaChecked
import GoSem.Claim
import GoSem.ClaimJoined
import GoSem.ClaimMapViews
import Derived.JoinedTies
import Derived.KernelRfl
namespace Go.Proofs.Ytkbdiinmicedfaa
/- THE CELL 'sum', in the pinned program and in every row, IS THE sha256 OF THE DUMP (.gsa) THAT YtkbdiinmicedfaaProg.lean LOADS. Nothing in Lean hashes anything: it is a label: what it is worth is what the hold of that sum in a sandbox is worth. -/
noncomputable def Try.pinned : Pinned := { name := "ytkbdiinmicedfaa", sum := "c2fc616fe3a16f1c823d67a1f60697b0dbb053ad09c576613ca6d24fb032327b", checked := Try.checked }
namespace Rows
def none {H : Type} : Left H := { results := [], args := [] }

/-- 'laws.FnBookTexts': WHATEVER THE INPUT: true; the input reads as it did. -/
def fnBookTextsSpec : ChangeSpec := { name := "fnBookTexts", fn := fun _ => fun
  | [d] => { results := [.lit (.bool true)], args := [d] }
  | _ => none }
def fnBookTextsRow : OpenClaim := { program := "ytkbdiinmicedfaa", sum := "c2fc616fe3a16f1c823d67a1f60697b0dbb053ad09c576613ca6d24fb032327b", func := "loop.example/palim/laws.FnBookTexts", spec := "fnBookTexts", recurses := true, apart := false }
def FnBookTextsSaid : Prop := fnBookTextsRow.holds Try.pinned (OpenSpec.ofChange fnBookTextsSpec)

/-- ITS FALSE NEIGHBOUR: 'it returns false'. Refute it at one input. -/
def fnBookTextsWrong : ChangeSpec := { name := "fnBookTexts", fn := fun _ => fun
  | [d] => { results := [.lit (.bool false)], args := [d] }
  | _ => none }
def FnBookTextsWrongFalsely : Prop := fnBookTextsRow.holds Try.pinned (OpenSpec.ofChange fnBookTextsWrong)

/-- 'laws.FnExactBookTexts': WHATEVER THE INPUT: true; the input reads as it did. -/
def fnExactBookTextsSpec : ChangeSpec := { name := "fnExactBookTexts", fn := fun _ => fun
  | [d] => { results := [.lit (.bool true)], args := [d] }
  | _ => none }
def fnExactBookTextsRow : OpenClaim := { program := "ytkbdiinmicedfaa", sum := "c2fc616fe3a16f1c823d67a1f60697b0dbb053ad09c576613ca6d24fb032327b", func := "loop.example/palim/laws.FnExactBookTexts", spec := "fnExactBookTexts", recurses := true, apart := false }
def FnExactBookTextsSaid : Prop := fnExactBookTextsRow.holds Try.pinned (OpenSpec.ofChange fnExactBookTextsSpec)

/-- ITS FALSE NEIGHBOUR: 'it returns false'. Refute it at one input. -/
def fnExactBookTextsWrong : ChangeSpec := { name := "fnExactBookTexts", fn := fun _ => fun
  | [d] => { results := [.lit (.bool false)], args := [d] }
  | _ => none }
def FnExactBookTextsWrongFalsely : Prop := fnExactBookTextsRow.holds Try.pinned (OpenSpec.ofChange fnExactBookTextsWrong)

/-- 'laws.FnExactDdtOk': WHATEVER THE INPUT: true; the input reads as it did. -/
def fnExactDdtOkSpec : ChangeSpec := { name := "fnExactDdtOk", fn := fun _ => fun
  | [d] => { results := [.lit (.bool true)], args := [d] }
  | _ => none }
def fnExactDdtOkRow : OpenClaim := { program := "ytkbdiinmicedfaa", sum := "c2fc616fe3a16f1c823d67a1f60697b0dbb053ad09c576613ca6d24fb032327b", func := "loop.example/palim/laws.FnExactDdtOk", spec := "fnExactDdtOk", apart := false }
def FnExactDdtOkSaid : Prop := fnExactDdtOkRow.holds Try.pinned (OpenSpec.ofChange fnExactDdtOkSpec)

/-- ITS FALSE NEIGHBOUR: 'it returns false'. Refute it at one input. -/
def fnExactDdtOkWrong : ChangeSpec := { name := "fnExactDdtOk", fn := fun _ => fun
  | [d] => { results := [.lit (.bool false)], args := [d] }
  | _ => none }
def FnExactDdtOkWrongFalsely : Prop := fnExactDdtOkRow.holds Try.pinned (OpenSpec.ofChange fnExactDdtOkWrong)

/-- 'laws.FnExactDdtAdd': WHATEVER THE INPUT: true; the input reads as it did. -/
def fnExactDdtAddSpec : ChangeSpec := { name := "fnExactDdtAdd", fn := fun _ => fun
  | [d1, d2, d3] => { results := [.lit (.bool true)], args := [d1, d2, d3] }
  | _ => none }
def fnExactDdtAddRow : OpenClaim := { program := "ytkbdiinmicedfaa", sum := "c2fc616fe3a16f1c823d67a1f60697b0dbb053ad09c576613ca6d24fb032327b", func := "loop.example/palim/laws.FnExactDdtAdd", spec := "fnExactDdtAdd", unfollowed := true, recurses := true, apart := false }
def FnExactDdtAddSaid : Prop := fnExactDdtAddRow.holds Try.pinned (OpenSpec.ofChange fnExactDdtAddSpec)

/-- ITS FALSE NEIGHBOUR: 'it returns false'. Refute it at one input. -/
def fnExactDdtAddWrong : ChangeSpec := { name := "fnExactDdtAdd", fn := fun _ => fun
  | [d1, d2, d3] => { results := [.lit (.bool false)], args := [d1, d2, d3] }
  | _ => none }
def FnExactDdtAddWrongFalsely : Prop := fnExactDdtAddRow.holds Try.pinned (OpenSpec.ofChange fnExactDdtAddWrong)

/-- 'laws.FnExactDdtDrop': WHATEVER THE INPUT: true; the input reads as it did. -/
def fnExactDdtDropSpec : ChangeSpec := { name := "fnExactDdtDrop", fn := fun _ => fun
  | [d1, d2] => { results := [.lit (.bool true)], args := [d1, d2] }
  | _ => none }
def fnExactDdtDropRow : OpenClaim := { program := "ytkbdiinmicedfaa", sum := "c2fc616fe3a16f1c823d67a1f60697b0dbb053ad09c576613ca6d24fb032327b", func := "loop.example/palim/laws.FnExactDdtDrop", spec := "fnExactDdtDrop", unfollowed := true, recurses := true, apart := false }
def FnExactDdtDropSaid : Prop := fnExactDdtDropRow.holds Try.pinned (OpenSpec.ofChange fnExactDdtDropSpec)

/-- ITS FALSE NEIGHBOUR: 'it returns false'. Refute it at one input. -/
def fnExactDdtDropWrong : ChangeSpec := { name := "fnExactDdtDrop", fn := fun _ => fun
  | [d1, d2] => { results := [.lit (.bool false)], args := [d1, d2] }
  | _ => none }
def FnExactDdtDropWrongFalsely : Prop := fnExactDdtDropRow.holds Try.pinned (OpenSpec.ofChange fnExactDdtDropWrong)

/- THE SECOND FORM. 'bulk': how many values and letters a reading holds, each counted each time it is reached (what is shared counts as often as it is met; a slice's spare places count too). A statement '..UptoSaid' is the law's where the arguments, and the package variables that the reading takes, are together of bulk at most 1048576: NARROWER than '..Said'. Prove '..Said' where nothing that the law and all that it calls make is longer than what came in: it says more and counts as full. Else prove '..UptoSaid'. A law counts once. -/
mutual
def uptoBulk {H : Type} : DataW H → Nat
  | .lit (.string bytes) => bytes.length + 1
  | .lit _ => 1
  | .nil => 1
  | .ptr d => uptoBulk d + 1
  | .slice elems spare => uptoBulkAll elems + uptoBulkAll spare + 1
  | .agg parts => uptoBulkAll parts + 1
  | .iface _ d => uptoBulk d + 1
  | .map entries => uptoBulkEntries entries + 1
  | .held _ => 1
def uptoBulkAll {H : Type} : List (DataW H) → Nat
  | [] => 0
  | d :: r => uptoBulk d + uptoBulkAll r
def uptoBulkEntries {H : Type} : List (Lit × DataW H) → Nat
  | [] => 0
  | x :: r => uptoBulkEntry x + uptoBulkEntries r
def uptoBulkEntry {H : Type} : Lit × DataW H → Nat
  | (.string bytes, d) => bytes.length + uptoBulk d + 1
  | (_, d) => uptoBulk d + 1
 end
def uptoSmall : (H : Type) → List (DataW H) → Bool := fun _ ds => decide (uptoBulkAll ds ≤ 1048576)
def OpenSpec.upto (s : _root_.Go.ChangeSpec) : _root_.Go.OpenSpec := { _root_.Go.OpenSpec.ofChange s with cond := some uptoSmall }

/-- 'laws.FnBookTexts', WHERE WHAT IT READS IS OF BULK AT MOST 1048576: true; the input reads as it did. -/
def fnBookTextsUptoRow : OpenClaim := { program := "ytkbdiinmicedfaa", sum := "c2fc616fe3a16f1c823d67a1f60697b0dbb053ad09c576613ca6d24fb032327b", func := "loop.example/palim/laws.FnBookTexts", spec := "fnBookTexts", recurses := true, apart := false, narrowed := true }
def FnBookTextsUptoSaid : Prop := fnBookTextsUptoRow.holds Try.pinned (OpenSpec.upto fnBookTextsSpec)

/-- 'laws.FnExactBookTexts', WHERE WHAT IT READS IS OF BULK AT MOST 1048576: true; the input reads as it did. -/
def fnExactBookTextsUptoRow : OpenClaim := { program := "ytkbdiinmicedfaa", sum := "c2fc616fe3a16f1c823d67a1f60697b0dbb053ad09c576613ca6d24fb032327b", func := "loop.example/palim/laws.FnExactBookTexts", spec := "fnExactBookTexts", recurses := true, apart := false, narrowed := true }
def FnExactBookTextsUptoSaid : Prop := fnExactBookTextsUptoRow.holds Try.pinned (OpenSpec.upto fnExactBookTextsSpec)

/-- 'laws.FnExactDdtOk', WHERE WHAT IT READS IS OF BULK AT MOST 1048576: true; the input reads as it did. -/
def fnExactDdtOkUptoRow : OpenClaim := { program := "ytkbdiinmicedfaa", sum := "c2fc616fe3a16f1c823d67a1f60697b0dbb053ad09c576613ca6d24fb032327b", func := "loop.example/palim/laws.FnExactDdtOk", spec := "fnExactDdtOk", apart := false, narrowed := true }
def FnExactDdtOkUptoSaid : Prop := fnExactDdtOkUptoRow.holds Try.pinned (OpenSpec.upto fnExactDdtOkSpec)

/-- 'laws.FnExactDdtAdd', WHERE WHAT IT READS IS OF BULK AT MOST 1048576: true; the input reads as it did. -/
def fnExactDdtAddUptoRow : OpenClaim := { program := "ytkbdiinmicedfaa", sum := "c2fc616fe3a16f1c823d67a1f60697b0dbb053ad09c576613ca6d24fb032327b", func := "loop.example/palim/laws.FnExactDdtAdd", spec := "fnExactDdtAdd", unfollowed := true, recurses := true, apart := false, narrowed := true }
def FnExactDdtAddUptoSaid : Prop := fnExactDdtAddUptoRow.holds Try.pinned (OpenSpec.upto fnExactDdtAddSpec)

/-- 'laws.FnExactDdtDrop', WHERE WHAT IT READS IS OF BULK AT MOST 1048576: true; the input reads as it did. -/
def fnExactDdtDropUptoRow : OpenClaim := { program := "ytkbdiinmicedfaa", sum := "c2fc616fe3a16f1c823d67a1f60697b0dbb053ad09c576613ca6d24fb032327b", func := "loop.example/palim/laws.FnExactDdtDrop", spec := "fnExactDdtDrop", unfollowed := true, recurses := true, apart := false, narrowed := true }
def FnExactDdtDropUptoSaid : Prop := fnExactDdtDropUptoRow.holds Try.pinned (OpenSpec.upto fnExactDdtDropSpec)

end Rows
end Go.Proofs.Ytkbdiinmicedfaa

/-
  No cell of these rows narrows 'for every input' (looked for: loops, veiled, ifaces, maps, wideKeys, modest, calm, conditions, laid).
  DERIVED. THE GIVEN ROWS OF THIS SEAT. 6 by the template 'for every input the law returns true; each argument reads behind the call as it read before'; 0 by the template 'total and deterministic' (their statements: YtpinjdmjfbmigaaTotals.lean).
  GIVEN WITH THE SEED: the statements are not yours to turn. If you find one false, say at which input.
  Laid BY PROGRAM, IN A SANDBOX (cutbox-rows.mjs): the forced cells as the released guide's own fill.sh prints them over the translation f8edbbddaee5f151… (all of the seat's roots in one cut). By AI agents, Wed Nov 11 2026. No macro, syntax, notation, axiom, sorry.
-/
import Derived.Test.YtpinjdmjfbmigaaChecked
import GoSem.Claim
import GoSem.ClaimJoined
import GoSem.ClaimMapViews
import Derived.JoinedTies
import Derived.KernelRfl
namespace Go.Proofs.Ytpinjdmjfbmigaa
/- THE CELL 'sum', in the pinned program and in every row, IS THE sha256 OF THE DUMP (.gsa) THAT YtpinjdmjfbmigaaProg.lean LOADS. Nothing in Lean hashes anything: it is a label: what it is worth is what the hold of that sum in a sandbox is worth. -/
noncomputable def Try.pinned : Pinned := { name := "ytpinjdmjfbmigaa", sum := "f8edbbddaee5f1513308f5b7a3c3357aa843573d46b268d2b224a92017c072e3", checked := Try.checked }
namespace Rows
def none {H : Type} : Left H := { results := [], args := [] }

/-- 'laws.FnBookTexts': WHATEVER THE INPUT: true; the input reads as it did. -/
def fnBookTextsSpec : ChangeSpec := { name := "fnBookTexts", fn := fun _ => fun
  | [d] => { results := [.lit (.bool true)], args := [d] }
  | _ => none }
def fnBookTextsRow : OpenClaim := { program := "ytpinjdmjfbmigaa", sum := "f8edbbddaee5f1513308f5b7a3c3357aa843573d46b268d2b224a92017c072e3", func := "loop.example/palim/laws.FnBookTexts", spec := "fnBookTexts", recurses := true, apart := false }
def FnBookTextsSaid : Prop := fnBookTextsRow.holds Try.pinned (OpenSpec.ofChange fnBookTextsSpec)

/-- ITS FALSE NEIGHBOUR: 'it returns false'. Refute it at one input. -/
def fnBookTextsWrong : ChangeSpec := { name := "fnBookTexts", fn := fun _ => fun
  | [d] => { results := [.lit (.bool false)], args := [d] }
  | _ => none }
def FnBookTextsWrongFalsely : Prop := fnBookTextsRow.holds Try.pinned (OpenSpec.ofChange fnBookTextsWrong)

/-- 'laws.FnExactBookName': WHATEVER THE INPUT: true; the input reads as it did. -/
def fnExactBookNameSpec : ChangeSpec := { name := "fnExactBookName", fn := fun _ => fun
  | [d] => { results := [.lit (.bool true)], args := [d] }
  | _ => none }
def fnExactBookNameRow : OpenClaim := { program := "ytpinjdmjfbmigaa", sum := "f8edbbddaee5f1513308f5b7a3c3357aa843573d46b268d2b224a92017c072e3", func := "loop.example/palim/laws.FnExactBookName", spec := "fnExactBookName", apart := false }
def FnExactBookNameSaid : Prop := fnExactBookNameRow.holds Try.pinned (OpenSpec.ofChange fnExactBookNameSpec)

/-- ITS FALSE NEIGHBOUR: 'it returns false'. Refute it at one input. -/
def fnExactBookNameWrong : ChangeSpec := { name := "fnExactBookName", fn := fun _ => fun
  | [d] => { results := [.lit (.bool false)], args := [d] }
  | _ => none }
def FnExactBookNameWrongFalsely : Prop := fnExactBookNameRow.holds Try.pinned (OpenSpec.ofChange fnExactBookNameWrong)

/-- 'laws.FnExactBookOk': WHATEVER THE INPUT: true; the input reads as it did. -/
def fnExactBookOkSpec : ChangeSpec := { name := "fnExactBookOk", fn := fun _ => fun
  | [d] => { results := [.lit (.bool true)], args := [d] }
  | _ => none }
def fnExactBookOkRow : OpenClaim := { program := "ytpinjdmjfbmigaa", sum := "f8edbbddaee5f1513308f5b7a3c3357aa843573d46b268d2b224a92017c072e3", func := "loop.example/palim/laws.FnExactBookOk", spec := "fnExactBookOk", apart := false }
def FnExactBookOkSaid : Prop := fnExactBookOkRow.holds Try.pinned (OpenSpec.ofChange fnExactBookOkSpec)

/-- ITS FALSE NEIGHBOUR: 'it returns false'. Refute it at one input. -/
def fnExactBookOkWrong : ChangeSpec := { name := "fnExactBookOk", fn := fun _ => fun
  | [d] => { results := [.lit (.bool false)], args := [d] }
  | _ => none }
def FnExactBookOkWrongFalsely : Prop := fnExactBookOkRow.holds Try.pinned (OpenSpec.ofChange fnExactBookOkWrong)

/-- 'laws.FnExactBookSame': WHATEVER THE INPUT: true; the input reads as it did. -/
def fnExactBookSameSpec : ChangeSpec := { name := "fnExactBookSame", fn := fun _ => fun
  | [d1, d2] => { results := [.lit (.bool true)], args := [d1, d2] }
  | _ => none }
def fnExactBookSameRow : OpenClaim := { program := "ytpinjdmjfbmigaa", sum := "f8edbbddaee5f1513308f5b7a3c3357aa843573d46b268d2b224a92017c072e3", func := "loop.example/palim/laws.FnExactBookSame", spec := "fnExactBookSame", apart := false }
def FnExactBookSameSaid : Prop := fnExactBookSameRow.holds Try.pinned (OpenSpec.ofChange fnExactBookSameSpec)

/-- ITS FALSE NEIGHBOUR: 'it returns false'. Refute it at one input. -/
def fnExactBookSameWrong : ChangeSpec := { name := "fnExactBookSame", fn := fun _ => fun
  | [d1, d2] => { results := [.lit (.bool false)], args := [d1, d2] }
  | _ => none }
def FnExactBookSameWrongFalsely : Prop := fnExactBookSameRow.holds Try.pinned (OpenSpec.ofChange fnExactBookSameWrong)

/-- 'laws.FnExactBookGet': WHATEVER THE INPUT: true; the input reads as it did. -/
def fnExactBookGetSpec : ChangeSpec := { name := "fnExactBookGet", fn := fun _ => fun
  | [d1, d2, d3] => { results := [.lit (.bool true)], args := [d1, d2, d3] }
  | _ => none }
def fnExactBookGetRow : OpenClaim := { program := "ytpinjdmjfbmigaa", sum := "f8edbbddaee5f1513308f5b7a3c3357aa843573d46b268d2b224a92017c072e3", func := "loop.example/palim/laws.FnExactBookGet", spec := "fnExactBookGet", apart := false }
def FnExactBookGetSaid : Prop := fnExactBookGetRow.holds Try.pinned (OpenSpec.ofChange fnExactBookGetSpec)

/-- ITS FALSE NEIGHBOUR: 'it returns false'. Refute it at one input. -/
def fnExactBookGetWrong : ChangeSpec := { name := "fnExactBookGet", fn := fun _ => fun
  | [d1, d2, d3] => { results := [.lit (.bool false)], args := [d1, d2, d3] }
  | _ => none }
def FnExactBookGetWrongFalsely : Prop := fnExactBookGetRow.holds Try.pinned (OpenSpec.ofChange fnExactBookGetWrong)

/-- 'laws.FnExactBookTexts': WHATEVER THE INPUT: true; the input reads as it did. -/
def fnExactBookTextsSpec : ChangeSpec := { name := "fnExactBookTexts", fn := fun _ => fun
  | [d] => { results := [.lit (.bool true)], args := [d] }
  | _ => none }
def fnExactBookTextsRow : OpenClaim := { program := "ytpinjdmjfbmigaa", sum := "f8edbbddaee5f1513308f5b7a3c3357aa843573d46b268d2b224a92017c072e3", func := "loop.example/palim/laws.FnExactBookTexts", spec := "fnExactBookTexts", recurses := true, apart := false }
def FnExactBookTextsSaid : Prop := fnExactBookTextsRow.holds Try.pinned (OpenSpec.ofChange fnExactBookTextsSpec)

/-- ITS FALSE NEIGHBOUR: 'it returns false'. Refute it at one input. -/
def fnExactBookTextsWrong : ChangeSpec := { name := "fnExactBookTexts", fn := fun _ => fun
  | [d] => { results := [.lit (.bool false)], args := [d] }
  | _ => none }
def FnExactBookTextsWrongFalsely : Prop := fnExactBookTextsRow.holds Try.pinned (OpenSpec.ofChange fnExactBookTextsWrong)

/- THE SECOND FORM. 'bulk': how many values and letters a reading holds, each counted each time it is reached (what is shared counts as often as it is met; a slice's spare places count too). A statement '..UptoSaid' is the law's where the arguments, and the package variables that the reading takes, are together of bulk at most 1048576: NARROWER than '..Said'. Prove '..Said' where nothing that the law and all that it calls make is longer than what came in: it says more and counts as full. Else prove '..UptoSaid'. A law counts once. -/
mutual
def uptoBulk {H : Type} : DataW H → Nat
  | .lit (.string bytes) => bytes.length + 1
  | .lit _ => 1
  | .nil => 1
  | .ptr d => uptoBulk d + 1
  | .slice elems spare => uptoBulkAll elems + uptoBulkAll spare + 1
  | .agg parts => uptoBulkAll parts + 1
  | .iface _ d => uptoBulk d + 1
  | .map entries => uptoBulkEntries entries + 1
  | .held _ => 1
def uptoBulkAll {H : Type} : List (DataW H) → Nat
  | [] => 0
  | d :: r => uptoBulk d + uptoBulkAll r
def uptoBulkEntries {H : Type} : List (Lit × DataW H) → Nat
  | [] => 0
  | x :: r => uptoBulkEntry x + uptoBulkEntries r
def uptoBulkEntry {H : Type} : Lit × DataW H → Nat
  | (.string bytes, d) => bytes.length + uptoBulk d + 1
  | (_, d) => uptoBulk d + 1
 end
def uptoSmall : (H : Type) → List (DataW H) → Bool := fun _ ds => decide (uptoBulkAll ds ≤ 1048576)
def OpenSpec.upto (s : _root_.Go.ChangeSpec) : _root_.Go.OpenSpec := { _root_.Go.OpenSpec.ofChange s with cond := some uptoSmall }

/-- 'laws.FnBookTexts', WHERE WHAT IT READS IS OF BULK AT MOST 1048576: true; the input reads as it did. -/
def fnBookTextsUptoRow : OpenClaim := { program := "ytpinjdmjfbmigaa", sum := "f8edbbddaee5f1513308f5b7a3c3357aa843573d46b268d2b224a92017c072e3", func := "loop.example/palim/laws.FnBookTexts", spec := "fnBookTexts", recurses := true, apart := false, narrowed := true }
def FnBookTextsUptoSaid : Prop := fnBookTextsUptoRow.holds Try.pinned (OpenSpec.upto fnBookTextsSpec)

/-- 'laws.FnExactBookName', WHERE WHAT IT READS IS OF BULK AT MOST 1048576: true; the input reads as it did. -/
def fnExactBookNameUptoRow : OpenClaim := { program := "ytpinjdmjfbmigaa", sum := "f8edbbddaee5f1513308f5b7a3c3357aa843573d46b268d2b224a92017c072e3", func := "loop.example/palim/laws.FnExactBookName", spec := "fnExactBookName", apart := false, narrowed := true }
def FnExactBookNameUptoSaid : Prop := fnExactBookNameUptoRow.holds Try.pinned (OpenSpec.upto fnExactBookNameSpec)

/-- 'laws.FnExactBookOk', WHERE WHAT IT READS IS OF BULK AT MOST 1048576: true; the input reads as it did. -/
def fnExactBookOkUptoRow : OpenClaim := { program := "ytpinjdmjfbmigaa", sum := "f8edbbddaee5f1513308f5b7a3c3357aa843573d46b268d2b224a92017c072e3", func := "loop.example/palim/laws.FnExactBookOk", spec := "fnExactBookOk", apart := false, narrowed := true }
def FnExactBookOkUptoSaid : Prop := fnExactBookOkUptoRow.holds Try.pinned (OpenSpec.upto fnExactBookOkSpec)

/-- 'laws.FnExactBookSame', WHERE WHAT IT READS IS OF BULK AT MOST 1048576: true; the input reads as it did. -/
def fnExactBookSameUptoRow : OpenClaim := { program := "ytpinjdmjfbmigaa", sum := "f8edbbddaee5f1513308f5b7a3c3357aa843573d46b268d2b224a92017c072e3", func := "loop.example/palim/laws.FnExactBookSame", spec := "fnExactBookSame", apart := false, narrowed := true }
def FnExactBookSameUptoSaid : Prop := fnExactBookSameUptoRow.holds Try.pinned (OpenSpec.upto fnExactBookSameSpec)

/-- 'laws.FnExactBookGet', WHERE WHAT IT READS IS OF BULK AT MOST 1048576: true; the input reads as it did. -/
def fnExactBookGetUptoRow : OpenClaim := { program := "ytpinjdmjfbmigaa", sum := "f8edbbddaee5f1513308f5b7a3c3357aa843573d46b268d2b224a92017c072e3", func := "loop.example/palim/laws.FnExactBookGet", spec := "fnExactBookGet", apart := false, narrowed := true }
def FnExactBookGetUptoSaid : Prop := fnExactBookGetUptoRow.holds Try.pinned (OpenSpec.upto fnExactBookGetSpec)

/-- 'laws.FnExactBookTexts', WHERE WHAT IT READS IS OF BULK AT MOST 1048576: true; the input reads as it did. -/
def fnExactBookTextsUptoRow : OpenClaim := { program := "ytpinjdmjfbmigaa", sum := "f8edbbddaee5f1513308f5b7a3c3357aa843573d46b268d2b224a92017c072e3", func := "loop.example/palim/laws.FnExactBookTexts", spec := "fnExactBookTexts", recurses := true, apart := false, narrowed := true }
def FnExactBookTextsUptoSaid : Prop := fnExactBookTextsUptoRow.holds Try.pinned (OpenSpec.upto fnExactBookTextsSpec)

end Rows
end Go.Proofs.Ytpinjdmjfbmigaa

/-
  No cell of these rows narrows 'for every input' (looked for: loops, veiled, ifaces, maps, wideKeys, modest, calm, conditions, laid).
  DERIVED. THE GIVEN ROWS OF THIS SEAT. 4 by the template 'for every input the law returns true; each argument reads behind the call as it read before'; 0 by the template 'total and deterministic' (their statements: YtfacbjldpenpjaaTotals.lean).
  GIVEN WITH THE SEED: the statements are not yours to turn. If you find one false, say at which input.
  Laid BY PROGRAM, IN A SANDBOX (cutbox-rows.mjs): the forced cells as the released guide's own fill.sh prints them over the translation 770f9221f8b8d35c… (all of the seat's roots in one cut). By AI agents, Wed Nov 11 2026. No macro, syntax, notation, axiom, sorry.
-/
import Derived.Test.YtfacbjldpenpjaaChecked
import GoSem.Claim
import GoSem.ClaimJoined
import GoSem.ClaimMapViews
import Derived.JoinedTies
import Derived.KernelRfl
namespace Go.Proofs.Ytfacbjldpenpjaa
/- THE CELL 'sum', in the pinned program and in every row, IS THE sha256 OF THE DUMP (.gsa) THAT YtfacbjldpenpjaaProg.lean LOADS. Nothing in Lean hashes anything: it is a label: what it is worth is what the hold of that sum in a sandbox is worth. -/
noncomputable def Try.pinned : Pinned := { name := "ytfacbjldpenpjaa", sum := "770f9221f8b8d35ccaa5ae046e22882c4d35318ebbcbd052e5fd5cc9a643f422", checked := Try.checked }
namespace Rows
def none {H : Type} : Left H := { results := [], args := [] }

/-- 'laws.FnDiskLast': WHATEVER THE INPUT: true; the input reads as it did. -/
def fnDiskLastSpec : ChangeSpec := { name := "fnDiskLast", fn := fun _ => fun
  | [d1, d2] => { results := [.lit (.bool true)], args := [d1, d2] }
  | _ => none }
def fnDiskLastRow : OpenClaim := { program := "ytfacbjldpenpjaa", sum := "770f9221f8b8d35ccaa5ae046e22882c4d35318ebbcbd052e5fd5cc9a643f422", func := "loop.example/palim/laws.FnDiskLast", spec := "fnDiskLast", unfollowed := true, recurses := true, apart := false }
def FnDiskLastSaid : Prop := fnDiskLastRow.holds Try.pinned (OpenSpec.ofChange fnDiskLastSpec)

/-- ITS FALSE NEIGHBOUR: 'it returns false'. Refute it at one input. -/
def fnDiskLastWrong : ChangeSpec := { name := "fnDiskLast", fn := fun _ => fun
  | [d1, d2] => { results := [.lit (.bool false)], args := [d1, d2] }
  | _ => none }
def FnDiskLastWrongFalsely : Prop := fnDiskLastRow.holds Try.pinned (OpenSpec.ofChange fnDiskLastWrong)

/-- 'laws.FnExactPtrOk': WHATEVER THE INPUT: true; the input reads as it did. -/
def fnExactPtrOkSpec : ChangeSpec := { name := "fnExactPtrOk", fn := fun _ => fun
  | [d] => { results := [.lit (.bool true)], args := [d] }
  | _ => none }
def fnExactPtrOkRow : OpenClaim := { program := "ytfacbjldpenpjaa", sum := "770f9221f8b8d35ccaa5ae046e22882c4d35318ebbcbd052e5fd5cc9a643f422", func := "loop.example/palim/laws.FnExactPtrOk", spec := "fnExactPtrOk", apart := false }
def FnExactPtrOkSaid : Prop := fnExactPtrOkRow.holds Try.pinned (OpenSpec.ofChange fnExactPtrOkSpec)

/-- ITS FALSE NEIGHBOUR: 'it returns false'. Refute it at one input. -/
def fnExactPtrOkWrong : ChangeSpec := { name := "fnExactPtrOk", fn := fun _ => fun
  | [d] => { results := [.lit (.bool false)], args := [d] }
  | _ => none }
def FnExactPtrOkWrongFalsely : Prop := fnExactPtrOkRow.holds Try.pinned (OpenSpec.ofChange fnExactPtrOkWrong)

/-- 'laws.FnExactBlkTo': WHATEVER THE INPUT: true; the input reads as it did. -/
def fnExactBlkToSpec : ChangeSpec := { name := "fnExactBlkTo", fn := fun _ => fun
  | [d1, d2, d3] => { results := [.lit (.bool true)], args := [d1, d2, d3] }
  | _ => none }
def fnExactBlkToRow : OpenClaim := { program := "ytfacbjldpenpjaa", sum := "770f9221f8b8d35ccaa5ae046e22882c4d35318ebbcbd052e5fd5cc9a643f422", func := "loop.example/palim/laws.FnExactBlkTo", spec := "fnExactBlkTo", apart := false }
def FnExactBlkToSaid : Prop := fnExactBlkToRow.holds Try.pinned (OpenSpec.ofChange fnExactBlkToSpec)

/-- ITS FALSE NEIGHBOUR: 'it returns false'. Refute it at one input. -/
def fnExactBlkToWrong : ChangeSpec := { name := "fnExactBlkTo", fn := fun _ => fun
  | [d1, d2, d3] => { results := [.lit (.bool false)], args := [d1, d2, d3] }
  | _ => none }
def FnExactBlkToWrongFalsely : Prop := fnExactBlkToRow.holds Try.pinned (OpenSpec.ofChange fnExactBlkToWrong)

/-- 'laws.FnExactBlkWrite': WHATEVER THE INPUT: true; the input reads as it did. -/
def fnExactBlkWriteSpec : ChangeSpec := { name := "fnExactBlkWrite", fn := fun _ => fun
  | [d1, d2, d3] => { results := [.lit (.bool true)], args := [d1, d2, d3] }
  | _ => none }
def fnExactBlkWriteRow : OpenClaim := { program := "ytfacbjldpenpjaa", sum := "770f9221f8b8d35ccaa5ae046e22882c4d35318ebbcbd052e5fd5cc9a643f422", func := "loop.example/palim/laws.FnExactBlkWrite", spec := "fnExactBlkWrite", apart := false }
def FnExactBlkWriteSaid : Prop := fnExactBlkWriteRow.holds Try.pinned (OpenSpec.ofChange fnExactBlkWriteSpec)

/-- ITS FALSE NEIGHBOUR: 'it returns false'. Refute it at one input. -/
def fnExactBlkWriteWrong : ChangeSpec := { name := "fnExactBlkWrite", fn := fun _ => fun
  | [d1, d2, d3] => { results := [.lit (.bool false)], args := [d1, d2, d3] }
  | _ => none }
def FnExactBlkWriteWrongFalsely : Prop := fnExactBlkWriteRow.holds Try.pinned (OpenSpec.ofChange fnExactBlkWriteWrong)

/- THE SECOND FORM. 'bulk': how many values and letters a reading holds, each counted each time it is reached (what is shared counts as often as it is met; a slice's spare places count too). A statement '..UptoSaid' is the law's where the arguments, and the package variables that the reading takes, are together of bulk at most 1048576: NARROWER than '..Said'. Prove '..Said' where nothing that the law and all that it calls make is longer than what came in: it says more and counts as full. Else prove '..UptoSaid'. A law counts once. -/
mutual
def uptoBulk {H : Type} : DataW H → Nat
  | .lit (.string bytes) => bytes.length + 1
  | .lit _ => 1
  | .nil => 1
  | .ptr d => uptoBulk d + 1
  | .slice elems spare => uptoBulkAll elems + uptoBulkAll spare + 1
  | .agg parts => uptoBulkAll parts + 1
  | .iface _ d => uptoBulk d + 1
  | .map entries => uptoBulkEntries entries + 1
  | .held _ => 1
def uptoBulkAll {H : Type} : List (DataW H) → Nat
  | [] => 0
  | d :: r => uptoBulk d + uptoBulkAll r
def uptoBulkEntries {H : Type} : List (Lit × DataW H) → Nat
  | [] => 0
  | x :: r => uptoBulkEntry x + uptoBulkEntries r
def uptoBulkEntry {H : Type} : Lit × DataW H → Nat
  | (.string bytes, d) => bytes.length + uptoBulk d + 1
  | (_, d) => uptoBulk d + 1
 end
def uptoSmall : (H : Type) → List (DataW H) → Bool := fun _ ds => decide (uptoBulkAll ds ≤ 1048576)
def OpenSpec.upto (s : _root_.Go.ChangeSpec) : _root_.Go.OpenSpec := { _root_.Go.OpenSpec.ofChange s with cond := some uptoSmall }

/-- 'laws.FnDiskLast', WHERE WHAT IT READS IS OF BULK AT MOST 1048576: true; the input reads as it did. -/
def fnDiskLastUptoRow : OpenClaim := { program := "ytfacbjldpenpjaa", sum := "770f9221f8b8d35ccaa5ae046e22882c4d35318ebbcbd052e5fd5cc9a643f422", func := "loop.example/palim/laws.FnDiskLast", spec := "fnDiskLast", unfollowed := true, recurses := true, apart := false, narrowed := true }
def FnDiskLastUptoSaid : Prop := fnDiskLastUptoRow.holds Try.pinned (OpenSpec.upto fnDiskLastSpec)

/-- 'laws.FnExactPtrOk', WHERE WHAT IT READS IS OF BULK AT MOST 1048576: true; the input reads as it did. -/
def fnExactPtrOkUptoRow : OpenClaim := { program := "ytfacbjldpenpjaa", sum := "770f9221f8b8d35ccaa5ae046e22882c4d35318ebbcbd052e5fd5cc9a643f422", func := "loop.example/palim/laws.FnExactPtrOk", spec := "fnExactPtrOk", apart := false, narrowed := true }
def FnExactPtrOkUptoSaid : Prop := fnExactPtrOkUptoRow.holds Try.pinned (OpenSpec.upto fnExactPtrOkSpec)

/-- 'laws.FnExactBlkTo', WHERE WHAT IT READS IS OF BULK AT MOST 1048576: true; the input reads as it did. -/
def fnExactBlkToUptoRow : OpenClaim := { program := "ytfacbjldpenpjaa", sum := "770f9221f8b8d35ccaa5ae046e22882c4d35318ebbcbd052e5fd5cc9a643f422", func := "loop.example/palim/laws.FnExactBlkTo", spec := "fnExactBlkTo", apart := false, narrowed := true }
def FnExactBlkToUptoSaid : Prop := fnExactBlkToUptoRow.holds Try.pinned (OpenSpec.upto fnExactBlkToSpec)

/-- 'laws.FnExactBlkWrite', WHERE WHAT IT READS IS OF BULK AT MOST 1048576: true; the input reads as it did. -/
def fnExactBlkWriteUptoRow : OpenClaim := { program := "ytfacbjldpenpjaa", sum := "770f9221f8b8d35ccaa5ae046e22882c4d35318ebbcbd052e5fd5cc9a643f422", func := "loop.example/palim/laws.FnExactBlkWrite", spec := "fnExactBlkWrite", apart := false, narrowed := true }
def FnExactBlkWriteUptoSaid : Prop := fnExactBlkWriteUptoRow.holds Try.pinned (OpenSpec.upto fnExactBlkWriteSpec)

end Rows
end Go.Proofs.Ytfacbjldpenpjaa

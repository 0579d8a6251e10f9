/-
  No cell of these rows narrows 'for every input' (looked for: loops, veiled, ifaces, maps, wideKeys, modest, calm, conditions, laid).
  DERIVED. THE GIVEN ROWS OF THIS SEAT. 4 by the template 'for every input the law returns true; each argument reads behind the call as it read before'; 0 by the template 'total and deterministic' (their statements: YtobjgdnmlibofaaGreatTotals.lean).
  GIVEN WITH THE SEED: the statements are not yours to turn. If you find one false, say at which input.
  Laid BY PROGRAM, IN A SANDBOX (cutbox-rows.mjs): the forced cells as the released guide's own fill.sh prints them over the translation a23b3f2bda0ce7ab… (all of the seat's roots in one cut). By AI agents, Wed Nov 11 2026. No macro, syntax, notation, axiom, sorry.
-/
import Derived.Test.YtobjgdnmlibofaaGreatChecked
import GoSem.Claim
import GoSem.ClaimJoined
import GoSem.ClaimMapViews
import Derived.JoinedTies
import Derived.KernelRfl
namespace Go.Proofs.YtobjgdnmlibofaaGreat
/- THE CELL 'sum', in the pinned program and in every row, IS THE sha256 OF THE DUMP (.gsa) THAT YtobjgdnmlibofaaGreatProg.lean LOADS. Nothing in Lean hashes anything: it is a label: what it is worth is what the hold of that sum in a sandbox is worth. -/
noncomputable def Tryz.pinned : Pinned := { name := "ytobjgdnmlibofaagreat", sum := "a23b3f2bda0ce7aba1bf7cf4f038f515b0d6880912e3a9fee81c16a53d706e51", checked := Tryz.checked }
namespace Rows
def none {H : Type} : Left H := { results := [], args := [] }

/-- 'laws.FnExactPoolOk': WHATEVER THE INPUT: true; the input reads as it did. -/
def fnExactPoolOkSpec : ChangeSpec := { name := "fnExactPoolOk", fn := fun _ => fun
  | [d] => { results := [.lit (.bool true)], args := [d] }
  | _ => none }
def fnExactPoolOkRow : OpenClaim := { program := "ytobjgdnmlibofaagreat", sum := "a23b3f2bda0ce7aba1bf7cf4f038f515b0d6880912e3a9fee81c16a53d706e51", func := "loop.example/palim/laws.FnExactPoolOk", spec := "fnExactPoolOk", unfollowed := true, recurses := true, apart := false }
def FnExactPoolOkSaid : Prop := fnExactPoolOkRow.holds Tryz.pinned (OpenSpec.ofChange fnExactPoolOkSpec)

/-- ITS FALSE NEIGHBOUR: 'it returns false'. Refute it at one input. -/
def fnExactPoolOkWrong : ChangeSpec := { name := "fnExactPoolOk", fn := fun _ => fun
  | [d] => { results := [.lit (.bool false)], args := [d] }
  | _ => none }
def FnExactPoolOkWrongFalsely : Prop := fnExactPoolOkRow.holds Tryz.pinned (OpenSpec.ofChange fnExactPoolOkWrong)

/-- 'laws.FnExactPoolSync': WHATEVER THE INPUT: true; the input reads as it did. -/
def fnExactPoolSyncSpec : ChangeSpec := { name := "fnExactPoolSync", fn := fun _ => fun
  | [d] => { results := [.lit (.bool true)], args := [d] }
  | _ => none }
def fnExactPoolSyncRow : OpenClaim := { program := "ytobjgdnmlibofaagreat", sum := "a23b3f2bda0ce7aba1bf7cf4f038f515b0d6880912e3a9fee81c16a53d706e51", func := "loop.example/palim/laws.FnExactPoolSync", spec := "fnExactPoolSync", unfollowed := true, recurses := true, apart := false }
def FnExactPoolSyncSaid : Prop := fnExactPoolSyncRow.holds Tryz.pinned (OpenSpec.ofChange fnExactPoolSyncSpec)

/-- ITS FALSE NEIGHBOUR: 'it returns false'. Refute it at one input. -/
def fnExactPoolSyncWrong : ChangeSpec := { name := "fnExactPoolSync", fn := fun _ => fun
  | [d] => { results := [.lit (.bool false)], args := [d] }
  | _ => none }
def FnExactPoolSyncWrongFalsely : Prop := fnExactPoolSyncRow.holds Tryz.pinned (OpenSpec.ofChange fnExactPoolSyncWrong)

/-- 'laws.FnExactPoolFall': WHATEVER THE INPUT: true; the input reads as it did. -/
def fnExactPoolFallSpec : ChangeSpec := { name := "fnExactPoolFall", fn := fun _ => fun
  | [d1, d2] => { results := [.lit (.bool true)], args := [d1, d2] }
  | _ => none }
def fnExactPoolFallRow : OpenClaim := { program := "ytobjgdnmlibofaagreat", sum := "a23b3f2bda0ce7aba1bf7cf4f038f515b0d6880912e3a9fee81c16a53d706e51", func := "loop.example/palim/laws.FnExactPoolFall", spec := "fnExactPoolFall", unfollowed := true, recurses := true, apart := false }
def FnExactPoolFallSaid : Prop := fnExactPoolFallRow.holds Tryz.pinned (OpenSpec.ofChange fnExactPoolFallSpec)

/-- ITS FALSE NEIGHBOUR: 'it returns false'. Refute it at one input. -/
def fnExactPoolFallWrong : ChangeSpec := { name := "fnExactPoolFall", fn := fun _ => fun
  | [d1, d2] => { results := [.lit (.bool false)], args := [d1, d2] }
  | _ => none }
def FnExactPoolFallWrongFalsely : Prop := fnExactPoolFallRow.holds Tryz.pinned (OpenSpec.ofChange fnExactPoolFallWrong)

/-- 'laws.FnExactPoolRot': WHATEVER THE INPUT: true; the input reads as it did. -/
def fnExactPoolRotSpec : ChangeSpec := { name := "fnExactPoolRot", fn := fun _ => fun
  | [d1, d2, d3, d4, d5] => { results := [.lit (.bool true)], args := [d1, d2, d3, d4, d5] }
  | _ => none }
def fnExactPoolRotRow : OpenClaim := { program := "ytobjgdnmlibofaagreat", sum := "a23b3f2bda0ce7aba1bf7cf4f038f515b0d6880912e3a9fee81c16a53d706e51", func := "loop.example/palim/laws.FnExactPoolRot", spec := "fnExactPoolRot", unfollowed := true, recurses := true, apart := false }
def FnExactPoolRotSaid : Prop := fnExactPoolRotRow.holds Tryz.pinned (OpenSpec.ofChange fnExactPoolRotSpec)

/-- ITS FALSE NEIGHBOUR: 'it returns false'. Refute it at one input. -/
def fnExactPoolRotWrong : ChangeSpec := { name := "fnExactPoolRot", fn := fun _ => fun
  | [d1, d2, d3, d4, d5] => { results := [.lit (.bool false)], args := [d1, d2, d3, d4, d5] }
  | _ => none }
def FnExactPoolRotWrongFalsely : Prop := fnExactPoolRotRow.holds Tryz.pinned (OpenSpec.ofChange fnExactPoolRotWrong)

/- THE SECOND FORM. 'bulk': how many values and letters a reading holds, each counted each time it is reached (what is shared counts as often as it is met; a slice's spare places count too). A statement '..UptoSaid' is the law's where the arguments, and the package variables that the reading takes, are together of bulk at most 1048576: NARROWER than '..Said'. Prove '..Said' where nothing that the law and all that it calls make is longer than what came in: it says more and counts as full. Else prove '..UptoSaid'. A law counts once. -/
mutual
def uptoBulk {H : Type} : DataW H → Nat
  | .lit (.string bytes) => bytes.length + 1
  | .lit _ => 1
  | .nil => 1
  | .ptr d => uptoBulk d + 1
  | .slice elems spare => uptoBulkAll elems + uptoBulkAll spare + 1
  | .agg parts => uptoBulkAll parts + 1
  | .iface _ d => uptoBulk d + 1
  | .map entries => uptoBulkEntries entries + 1
  | .held _ => 1
def uptoBulkAll {H : Type} : List (DataW H) → Nat
  | [] => 0
  | d :: r => uptoBulk d + uptoBulkAll r
def uptoBulkEntries {H : Type} : List (Lit × DataW H) → Nat
  | [] => 0
  | x :: r => uptoBulkEntry x + uptoBulkEntries r
def uptoBulkEntry {H : Type} : Lit × DataW H → Nat
  | (.string bytes, d) => bytes.length + uptoBulk d + 1
  | (_, d) => uptoBulk d + 1
 end
def uptoSmall : (H : Type) → List (DataW H) → Bool := fun _ ds => decide (uptoBulkAll ds ≤ 1048576)
def OpenSpec.upto (s : _root_.Go.ChangeSpec) : _root_.Go.OpenSpec := { _root_.Go.OpenSpec.ofChange s with cond := some uptoSmall }

/-- 'laws.FnExactPoolOk', WHERE WHAT IT READS IS OF BULK AT MOST 1048576: true; the input reads as it did. -/
def fnExactPoolOkUptoRow : OpenClaim := { program := "ytobjgdnmlibofaagreat", sum := "a23b3f2bda0ce7aba1bf7cf4f038f515b0d6880912e3a9fee81c16a53d706e51", func := "loop.example/palim/laws.FnExactPoolOk", spec := "fnExactPoolOk", unfollowed := true, recurses := true, apart := false, narrowed := true }
def FnExactPoolOkUptoSaid : Prop := fnExactPoolOkUptoRow.holds Tryz.pinned (OpenSpec.upto fnExactPoolOkSpec)

/-- 'laws.FnExactPoolSync', WHERE WHAT IT READS IS OF BULK AT MOST 1048576: true; the input reads as it did. -/
def fnExactPoolSyncUptoRow : OpenClaim := { program := "ytobjgdnmlibofaagreat", sum := "a23b3f2bda0ce7aba1bf7cf4f038f515b0d6880912e3a9fee81c16a53d706e51", func := "loop.example/palim/laws.FnExactPoolSync", spec := "fnExactPoolSync", unfollowed := true, recurses := true, apart := false, narrowed := true }
def FnExactPoolSyncUptoSaid : Prop := fnExactPoolSyncUptoRow.holds Tryz.pinned (OpenSpec.upto fnExactPoolSyncSpec)

/-- 'laws.FnExactPoolFall', WHERE WHAT IT READS IS OF BULK AT MOST 1048576: true; the input reads as it did. -/
def fnExactPoolFallUptoRow : OpenClaim := { program := "ytobjgdnmlibofaagreat", sum := "a23b3f2bda0ce7aba1bf7cf4f038f515b0d6880912e3a9fee81c16a53d706e51", func := "loop.example/palim/laws.FnExactPoolFall", spec := "fnExactPoolFall", unfollowed := true, recurses := true, apart := false, narrowed := true }
def FnExactPoolFallUptoSaid : Prop := fnExactPoolFallUptoRow.holds Tryz.pinned (OpenSpec.upto fnExactPoolFallSpec)

/-- 'laws.FnExactPoolRot', WHERE WHAT IT READS IS OF BULK AT MOST 1048576: true; the input reads as it did. -/
def fnExactPoolRotUptoRow : OpenClaim := { program := "ytobjgdnmlibofaagreat", sum := "a23b3f2bda0ce7aba1bf7cf4f038f515b0d6880912e3a9fee81c16a53d706e51", func := "loop.example/palim/laws.FnExactPoolRot", spec := "fnExactPoolRot", unfollowed := true, recurses := true, apart := false, narrowed := true }
def FnExactPoolRotUptoSaid : Prop := fnExactPoolRotUptoRow.holds Tryz.pinned (OpenSpec.upto fnExactPoolRotSpec)

end Rows
end Go.Proofs.YtobjgdnmlibofaaGreat

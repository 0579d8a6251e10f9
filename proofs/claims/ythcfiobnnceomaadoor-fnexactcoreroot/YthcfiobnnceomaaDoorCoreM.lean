/-
  A set's pointers written: CoreMap of both sides.
-/
import Derived.Test.YthcfiobnnceomaaDoorBase
import Derived.Test.YthcfiobnnceomaaDoorCoreUb
set_option maxRecDepth 100000
namespace Go.Proofs.YthcfiobnnceomaaDoor
open Go.ChangeShapes Go.WideShapes Go.ChangeAt Go.RowKit Go.Proofs.Palim

def MapOk (ps : List PtrM) : Prop := ∀ (j : Nat) (h : j < ps.length), PtrOkM ps[j]
noncomputable instance (ps : List PtrM) : Decidable (MapOk ps) := Classical.propDecidable _
noncomputable def mapText (ps : List PtrM) : ByteArray := if MapOk ps then joinB (ps.map ptrText) ⟨#[32]⟩ else ⟨#[]⟩
theorem ptrText_le (p : PtrM) : (ptrText p).size ≤ 65 := by
  by_cases h : GoodM p
  · exact ptrText_bd p h
  · unfold ptrText
    by_cases hn : NullM p
    · rw [if_neg (not_not_intro (show PtrOkM p from Or.inl hn)), if_pos hn]; show 1 ≤ 65; omega
    · rw [if_pos (fun c : PtrOkM p => c.elim hn h)]; show 0 ≤ 65; omega

theorem all8p (p : Nat → Prop) (h0 : p 0) (h1 : p 1) (h2 : p 2) (h3 : p 3) (h4 : p 4) (h5 : p 5) (h6 : p 6) (h7 : p 7) (k : Nat) (h : k < 8) : p k := by
  match k, h with
  | 0, _ => exact h0
  | 1, _ => exact h1
  | 2, _ => exact h2
  | 3, _ => exact h3
  | 4, _ => exact h4
  | 5, _ => exact h5
  | 6, _ => exact h6
  | 7, _ => exact h7
theorem eight {α : Type} (ps : List α) (h : ps.length = 8) : ∃ a b c d e f g i, ps = [a, b, c, d, e, f, g, i] := by
  match ps, h with
  | [a, b, c, d, e, f, g, i], _ => exact ⟨a, b, c, d, e, f, g, i, rfl⟩
theorem idxMap (ps : List PtrM) (h8 : ps.length = 8) (k : Nat) (h : k < ps.length) (w : World) : (Instr.index 49 (.agg (pcs ps).toArray) (.int .i64 (k : Int))).run Tryd.prog w = .ok (pv ps[k]) w := by
  obtain ⟨a, b, c, d, e, f, g, i, rfl⟩ := eight ps h8
  have h1 := all8p (fun k => (Instr.index 49 (.agg (pcs [a, b, c, d, e, f, g, i]).toArray) (.int .i64 (k : Int))).run Tryd.prog w = .ok (pv ([a, b, c, d, e, f, g, i].getD k a)) w)
    (by kernel_rfl) (by kernel_rfl) (by kernel_rfl) (by kernel_rfl) (by kernel_rfl) (by kernel_rfl) (by kernel_rfl) (by kernel_rfl) k h
  rw [show [a, b, c, d, e, f, g, i].getD k a = [a, b, c, d, e, f, g, i][k] from by rw [List.getD, List.getElem?_eq_getElem h]; rfl] at h1
  exact h1

end Go.Proofs.YthcfiobnnceomaaDoor

/-
  spec's DiskFlush.
-/
import Derived.Test.YtoeaeckkmpdpiaaDoorDiskWrite
import Derived.StillTailTactics
set_option maxRecDepth 100000
namespace Go.Proofs.YtoeaeckkmpdpiaaDoor
open Go.ChangeShapes Go.WideShapes Go.ChangeAt Go.RowKit Go.Proofs.Palim

/-- One late write laid down. -/
def layM (p : List ByteArray × List ByteArray) (side : Int) (k : Nat) (t : ByteArray) : List ByteArray × List ByteArray := if side = 0 then (p.1.set k t, p.2) else (p.1, p.2.set k t)
def layAll (p : List ByteArray × List ByteArray) (ls : List LateM) : List ByteArray × List ByteArray := ls.foldl (fun p l => layM p l.side l.at_.toNat l.text) p
theorem layM_len (p : List ByteArray × List ByteArray) (side : Int) (k : Nat) (t : ByteArray) : (layM p side k t).1.length = p.1.length ∧ (layM p side k t).2.length = p.2.length := by unfold layM; split <;> simp
theorem layAll_snoc (p : List ByteArray × List ByteArray) (ls : List LateM) (l : LateM) : layAll p (ls ++ [l]) = layM (layAll p ls) l.side l.at_.toNat l.text := by simp [layAll]
theorem layAll_len (ls : List LateM) : ∀ p : List ByteArray × List ByteArray, (layAll p ls).1.length = p.1.length ∧ (layAll p ls).2.length = p.2.length := by
  induction ls with
  | nil => intro p; exact ⟨rfl, rfl⟩
  | cons l ls ih =>
    intro p
    have h := ih (layM p l.side l.at_.toNat l.text)
    have h2 := layM_len p l.side l.at_.toNat l.text
    exact ⟨h.1.trans h2.1, h.2.trans h2.2⟩
def flushM (d : DiskM) : DiskM := if DiskOkM d then ⟨(layAll (d.s0, d.s1) d.late).1, (layAll (d.s0, d.s1) d.late).2, []⟩ else noDisk
theorem scs_set (ss : List ByteArray) (k : Nat) (t : ByteArray) : (scs ss).set k (.string t) = scs (ss.set k t) := by simp [scs, List.map_set]

end Go.Proofs.YtoeaeckkmpdpiaaDoor

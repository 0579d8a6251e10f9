/-
  A disk that came in as an argument, opened: it reads as a disk, and its blocks are there.
-/
import Derived.Test.YthhgjjdnkhmggaaDiskLaw
import Derived.OpenShut
import Derived.Deep.Strs
import Derived.ChangeSame
set_option maxRecDepth 100000
namespace Go.Proofs.Ythhgjjdnkhmggaa
open Go.ChangeShapes Go.WideShapes Go.ChangeAt Go.RowKit Go.Proofs.Palim Go.Deep

section
variable {H : Type} {enc : TypeId × Value → H} {W : World}

/-- A slice that may come in has its block. -/
theorem low_of_ok {base : Nat} {t e : TypeId} {v : Value} (ht : Try.prog.underlying t = some (.slice e)) (h : Cell.okWide Try.prog W .any base t v) : Low W.heap.size v := by
  intro b hb
  match v, hb with
  | .slice (some a) n c, hb =>
    simp only [Cell.okWide, ht, Cell.ok] at h
    obtain ⟨_, _, _, _, row, cells, hs, _⟩ := h
    have e : a.block = b := by simpa [Value.ownBlock] using hb
    subst e
    unfold World.shape? at hs
    split at hs
    · rename_i hh
      exact (Array.getElem?_eq_some_iff.1 hh).1
    · cases hs
  | .slice none n c, hb => simp [Value.ownBlock] at hb
  | .pointer (some a), hb => simp [Cell.okWide, ht, Cell.ok] at h

theorem add_none {b off i : Nat} : (⟨b, off, none⟩ : Addr).add i = ⟨b, off + i, none⟩ := by unfold Addr.add; simp

theorem cells9 : Try.prog.cellsOf 9 = 1 := by kernel_rfl

theorem cells3 : Try.prog.cellsOf 3 = 1 := by kernel_rfl
instance : Inhabited LateM := ⟨⟨0, 0, ⟨#[]⟩⟩⟩

end
end Go.Proofs.Ythhgjjdnkhmggaa

/-
  No store: its value, and that it is the call's own.
-/
import Derived.Test.YtobjgdnmlibofaaGreatPoolOkC
import Derived.Test.YtobjgdnmlibofaaGreatCopy
set_option maxRecDepth 100000
namespace Go.Proofs.YtobjgdnmlibofaaGreat
open Go.ChangeShapes Go.WideShapes Go.ChangeAt Go.RowKit Go.Proofs.Palim

def noCore : CoreM := ⟨0, [], [], [], false, [], 0⟩
def noPool : PoolM := ⟨noDisk, noCore, false⟩
def noPV : PV := ⟨.slice none 0 0, .slice none 0 0, .slice none 0 0, .slice none 0 0, .slice none 0 0, .slice none 0 0, .slice none 0 0⟩
theorem own_nil (w : World) (base e sz : Nat) : w.ownsRow base e sz (.slice none 0 0) 0 [] := ⟨by simp, .inl ⟨rfl, rfl⟩⟩
theorem coreOwn_no (w : World) (base : Nat) : CoreOwn w base (.slice none 0 0) (.slice none 0 0) (.slice none 0 0) (.slice none 0 0) noCore :=
  ⟨own_nil _ _ _ _, own_nil _ _ _ _, own_nil _ _ _ _, own_nil _ _ _ _, fun _ h => by simp [Value.ownBlock] at h, fun _ h => by simp [Value.ownBlock] at h, fun _ h => by simp [Value.ownBlock] at h, fun _ h => by simp [Value.ownBlock] at h, fun _ h => by simp [Value.ownBlock] at h, fun _ h => by simp [Value.ownBlock] at h⟩
theorem diskOwn_no (w : World) (base : Nat) : DiskOwn w base (.slice none 0 0) (.slice none 0 0) (.slice none 0 0) noDisk :=
  ⟨own_nil _ _ _ _, own_nil _ _ _ _, own_nil _ _ _ _, fun _ h => by simp [Value.ownBlock] at h, fun _ h => by simp [Value.ownBlock] at h, fun _ h => by simp [Value.ownBlock] at h⟩
theorem cturns_no {b : Nat} : ¬ CTurns (.slice none 0 0) (.slice none 0 0) (.slice none 0 0) (.slice none 0 0) b := by
  rintro (h | h | h | h) <;> simp [Value.ownBlock] at h
theorem poolOwn_no (w : World) (base : Nat) : PoolOwn w base noPV noPool := ⟨diskOwn_no w base, coreOwn_no w base, fun _ _ h => cturns_no h⟩
theorem coreShort_no : CoreShort noCore := ⟨by simp [noCore], by simp [noCore], by simp [noCore], by simp [noCore], by simp [noCore]⟩
theorem poolShort_no : PoolShort noPool := ⟨short_no, coreShort_no⟩

end Go.Proofs.YtobjgdnmlibofaaGreat

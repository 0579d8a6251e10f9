/-
  The law on DiskOk, walked: what is asked of impl is hI.
-/
import Derived.Test.YtobjgdnmlibofaaGreatDiskArg
set_option maxRecDepth 100000
namespace Go.Proofs.YtobjgdnmlibofaaGreat
open Go.ChangeShapes Go.WideShapes Go.ChangeAt Go.RowKit Go.Proofs.Palim

theorem tot_le {ss : List ByteArray} {s : ByteArray} (h : s ∈ ss) : s.size ≤ tot ss := by
  induction ss with
  | nil => cases h
  | cons a ss ih =>
    rcases List.mem_cons.1 h with rfl | h
    · simp [tot]
    · have := ih h; simp [tot] at this ⊢; omega
theorem short_of_sz {d : DiskM} (h : dsz d ≤ 1048576) : DiskShort d := by
  unfold dsz at h
  refine ⟨by omega, by omega, by omega, fun s hs => ?_, fun s hs => ?_, fun x hx => ?_⟩
  · have := tot_le hs; omega
  · have := tot_le hs; omega
  · have := tot_le (List.mem_map_of_mem (f := (·.text)) hx); omega

end Go.Proofs.YtobjgdnmlibofaaGreat

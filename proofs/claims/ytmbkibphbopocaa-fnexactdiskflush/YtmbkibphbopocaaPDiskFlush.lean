/-
  The law FnExactDiskFlush, but for impl's contract.
-/
import Derived.Test.YtmbkibphbopocaaRows
import Derived.Test.YtmbkibphbopocaaLDiskFlush
import Derived.Test.YtmbkibphbopocaaFrame
import Derived.WalkKit
import Derived.ProofKit
import Derived.OpenShut
namespace Go.Proofs.Ytmbkibphbopocaa
open Go.ChangeShapes Go.WideShapes Go.ChangeAt Go.RowKit Go.Proofs.Palim


def ImplDiskFlush : Prop := ∀ (d : DiskM) (v0 v1 vl : Value) (w : World), DiskR w v0 v1 vl d → DiskShort d → Calls Try.prog 30 #[.agg #[v0, v1, vl]] w (NewDisk w (flushM d))

theorem layAll_all {P : ByteArray → Prop} (ls : List LateM) (hl : ∀ l ∈ ls, P l.text) : ∀ p : List ByteArray × List ByteArray, (∀ s ∈ p.1, P s) → (∀ s ∈ p.2, P s) → (∀ s ∈ (layAll p ls).1, P s) ∧ ∀ s ∈ (layAll p ls).2, P s := by
  induction ls with
  | nil => intro p h1 h2; exact ⟨h1, h2⟩
  | cons l ls ih =>
    intro p h1 h2
    have hx := hl l (by simp)
    refine ih (fun l hl' => hl l (by simp [hl'])) (layM p l.side l.at_.toNat l.text) ?_ ?_
    · intro s hs
      unfold layM at hs
      split at hs
      · rcases List.mem_or_eq_of_mem_set hs with h | rfl
        · exact h1 s h
        · exact hx
      · exact h1 s hs
    · intro s hs
      unfold layM at hs
      split at hs
      · exact h2 s hs
      · rcases List.mem_or_eq_of_mem_set hs with h | rfl
        · exact h2 s h
        · exact hx
theorem short_flush {d : DiskM} (h : DiskShort d) : DiskShort (flushM d) := by
  unfold flushM
  split
  · have hl := layAll_len d.late (d.s0, d.s1)
    have ha := layAll_all (P := fun s => s.size ≤ 1048576) d.late h.zl (d.s0, d.s1) h.z0 h.z1
    exact ⟨by rw [hl.1]; exact h.n0, by rw [hl.2]; exact h.n1, Nat.zero_le _, ha.1, ha.2, by simp⟩
  · exact short_no

namespace fnExactDiskFlush
theorem own : ownKnob Try.prog.godebug = none := by kernel_rfl
theorem laidOut : laidOutB Try.prog = true := by kernel_rfl
set_option maxRecDepth 100000 in
theorem lifted (hI : ImplDiskFlush) (os : Os) (started : os.Started) (H : Type) (enc : TypeId × Value → H) :
    ReturnsInHanded {} Try.checked os 9 .any (Rows.fnExactDiskFlushSpec.pre6 enc Try.prog Try.f9 Rows.fnExactDiskFlushRow.domain false) (Rows.fnExactDiskFlushSpec.post enc Try.prog Try.f9 false true false false) := by
  refine returnsInHanded_of_change (C := Try.checked) own started (by kernel_rfl) Try.func9
    (ChangeSpec.witness6 (enc := enc) (C := Try.checked) false ⟨#[], #[.agg #[.slice none 0 0, .slice none 0 0, .slice none 0 0]], []⟩ 8 (by kernel_rfl) (by kernel_rfl) (by kernel_rfl) (by kernel_rfl)) ?_
  intro W base args ds gs before hval0 hW hcnd _
  have hval : ∀ (j : Nat) t v, Try.f9.params[j]? = some t → args[j]? = some v → Value.okWide Try.prog W .any base t v := hval0
  have hW' := hW
  obtain ⟨p, q, hA0, hV, rfl, hfz, hnd⟩ := hW
  have hA : DataW.TrodAll enc Try.prog W 0 (fun _ => true) true Try.f9.params.toList args.toList ds p := hA0
  rw [Try.params9] at hA hval
  obtain ⟨x0, vs0, d0, ds0, p0, q0, hargs, rfl, rfl, h0, r0⟩ := trodAll_cons hA
  obtain ⟨rfl, rfl, rfl⟩ := trodAll_nil r0
  obtain rfl : args = #[x0] := by cases args; simp_all
  obtain ⟨rfl, rfl⟩ := trodVars_none hV
  obtain ⟨v0, v1, vl, d, rfl, hd, hz0, hz1, hzl⟩ := disk_of (hval 0 43 x0 rfl rfl) h0
  clear hA0 hval0
  refine (lawDiskFlush v0 v1 vl d (flushM d) W hd hz0 hz1 hzl short_flush (fun _ _ _ w h hs => DiskFlush_any _ _ _ d w h hs) (hI d)).mono fun e W' ⟨he, hb⟩ => ?_
  subst he
  refine ⟨_, rfl, law_post laidOut ?_ ?_ (by kernel_rfl) Try.underlying4 hW' rfl hb⟩
  · intro t ht
    rw [Try.params9] at ht
    obtain rfl : t = 43 := by simpa using ht
    exact ⟨by kernel_rfl, by decide +kernel⟩
  · intro n hn
    simp [Rows.fnExactDiskFlushSpec] at hn

theorem over (hI : ImplDiskFlush) : Rows.fnExactDiskFlushRow.holds Try.pinned (OpenSpec.ofChange Rows.fnExactDiskFlushSpec) :=
  OpenClaim.holds_of_wide 9 Try.f9 rfl rfl rfl rfl rfl rfl rfl ⟨rfl, rfl, rfl, rfl, rfl⟩ rfl rfl rfl rfl rfl (by kernel_rfl) Try.func9 (by kernel_rfl)
    (of_decide_eq_true (by kernel_rfl)) (by unfold Func.isWrapper; first | (rw [if_pos (by decide +kernel)]; kernel_rfl) | (rw [if_neg (by decide +kernel)]; exact ⟨rfl, rfl⟩))
    (fun os started H enc _ => lifted hI os started H enc)
end fnExactDiskFlush
theorem fnExactDiskFlush_of (hI : ImplDiskFlush) : Rows.FnExactDiskFlushSaid := fnExactDiskFlush.over hI
#print axioms fnExactDiskFlush_of
end Go.Proofs.Ytmbkibphbopocaa

/-
  Pairs of lists of strings: the laws' helpers.
-/
import Derived.Test.YtobjgdnmlibofaaGreatLateM
import Derived.Test.YtobjgdnmlibofaaGreatBox
import Derived.WalkKit
import Derived.ProofKit
import Derived.Lib.Hide
import Derived.WalkSpells
import Derived.WalkSmall
set_option maxRecDepth 100000
namespace Go.Proofs.YtobjgdnmlibofaaGreat
open Go.ChangeShapes Go.WideShapes Go.ChangeAt Go.RowKit Go.Proofs.Palim

def NewPair (w : World) (s0 s1 : List ByteArray) (e : Ending) (w' : World) : Prop :=
  ∃ u0 u1, e = .returned (.agg #[u0, u1]) ∧ w'.ownsRow w.heap.size 9 1 u0 s0.length (scs s0) ∧ w'.ownsRow w.heap.size 9 1 u1 s1.length (scs s1) ∧ Apart u0 u1 ∧ Below w.heap.size w w'

set_option maxHeartbeats 400000 in
theorem toStringSA2_any (v0 v1 : Value) (s0 s1 : List ByteArray) (w : World) (h0 : Sl w 1 v0 s0.length (scs s0)) (h1 : Sl w 1 v1 s1.length (scs s1)) (hv0 : ∀ b, v0.ownBlock = some b → b < w.heap.size) (hv1 : ∀ b, v1.ownBlock = some b → b < w.heap.size) (hs0 : s0.length ≤ 1048576) (hs1 : s1.length ≤ 1048576) :
    Calls Tryz.prog 60 #[.agg #[v0, v1]] w (NewPair w s0 s1) := by
  have H0 := Lib.hid h0
  have H1 := Lib.hid h1
  clear h0 h1
  have HV0 := Lib.hid hv0
  have HV1 := Lib.hid hv1
  clear hv0 hv1
  go_enter Tryz.func60, Tryz.ntmps60
  go_wp2
  go_loopw [4] (fun i wr => ∃ (j : Nat) (u0 u1 : Value), i = .int .i64 (j : Int) ∧
      Hid (Box wr w.heap.size [v0, v1]) ∧ Hid (Box wr (w.heap.size + 1) [.slice none 0 0, .slice none 0 0]) ∧ Hid (Box wr (w.heap.size + 1 + 1) [u0, u1]) ∧
      w.heap.size + 3 ≤ wr.heap.size ∧ Hid (Below w.heap.size w wr) ∧
      ((j = 0 ∧ u0 = .slice none 0 0 ∧ u1 = .slice none 0 0) ∨
       (j = 1 ∧ u1 = .slice none 0 0 ∧ Hid (wr.ownsRow (w.heap.size + 3) 9 1 u0 s0.length (scs s0))) ∨
       (j = 2 ∧ Hid (wr.ownsRow (w.heap.size + 3) 9 1 u0 s0.length (scs s0)) ∧ Hid (wr.ownsRow (w.heap.size + 3) 9 1 u1 s1.length (scs s1)) ∧ Hid (Apart u0 u1))))
      (fun i _ => 2 - (intOf i).toNat)
  case atStart =>
    exact ⟨0, _, _, rfl, Lib.hid (((box_new _ _ _).alloc _).alloc _), Lib.hid (Box.alloc (by simpa using box_new (w.alloc _) _ _) _), Lib.hid (by simpa using box_new ((w.alloc _).alloc _) _ _), by simp, Lib.hid (((((Below.refl _ _).alloc (Nat.le_refl _) _).alloc (by simp) _)).alloc (by simp <;> omega) _), Or.inl ⟨rfl, rfl, rfl⟩⟩
  case round =>
    obtain ⟨j, u0, u1, rfl, HA, HR, HU, hsz, HB, hcase⟩ := hrel
    obtain ⟨ha0, ha1⟩ := HA.out.two
    rcases hcase with ⟨rfl, rfl, rfl⟩ | ⟨rfl, rfl, HO0⟩ | ⟨rfl, HO0, HO1, HP⟩
    · go_wp2_with fail
      refine (toStringS_any v0 s0 _ (H0.out.below HB.out HV0.out) hs0).mono ?_
      rintro e w2 ⟨u, rfl, ho, hb⟩
      obtain ⟨_, A, c, rfl, _⟩ := sl_of_own ho
      have HA2 := Lib.hid (HA.out.below hb (by omega))
      have HR2 := Lib.hid (HR.out.below hb (by omega))
      have HU2 := Lib.hid (HU.out.below hb (by omega))
      have HO2 := Lib.hid (own_base ho hsz)
      have HB2 := Lib.hid (HB.out.trans (hb.mono (by omega)))
      have hsz2 : w.heap.size + 3 ≤ w2.heap.size := Nat.le_trans hsz hb.size
      clear ho hb HA HR HU HB hsz
      obtain ⟨hu0, hu1⟩ := HU2.out.two
      have hf := HU2.out.open_ 0
      go_wp2
      go_roundw
      case rel => exact ⟨1, _, _, by go_num, Lib.hid (HA2.out.other (by simp; omega) _), Lib.hid (HR2.out.other (by simp) _), Lib.hid (HU2.out.set 0 _), by simpa using hsz2, Lib.hid (HB2.out.setCell (by simp; omega) _), Or.inr (Or.inl ⟨rfl, rfl, Lib.hid (ownsRow_setCell_below HO2.out (by simp) _)⟩)⟩
      case measure => simp [intOf]
    · go_wp2_with fail
      refine (toStringS_any v1 s1 _ (H1.out.below HB.out HV1.out) hs1).mono ?_
      rintro e w2 ⟨u, rfl, ho, hb⟩
      obtain ⟨_, A, c, rfl, _⟩ := sl_of_own ho
      have HA2 := Lib.hid (HA.out.below hb (by omega))
      have HR2 := Lib.hid (HR.out.below hb (by omega))
      have HU2 := Lib.hid (HU.out.below hb (by omega))
      have HP2 := Lib.hid (show Apart u0 _ from fun g e e' => by have := (HO0.out.lt g e).2; have := (ho.lt g e').1; omega)
      have HO0' := Lib.hid (own_kept HO0.out (w' := w2) (fun b e => hb.block b (HO0.out.lt b e).2))
      have HO2 := Lib.hid (own_base ho hsz)
      have HB2 := Lib.hid (HB.out.trans (hb.mono (by omega)))
      have hsz2 : w.heap.size + 3 ≤ w2.heap.size := Nat.le_trans hsz hb.size
      clear ho hb HA HR HU HB hsz HO0
      obtain ⟨hu0, hu1⟩ := HU2.out.two
      have hf := HU2.out.open_ 1
      go_wp2
      go_roundw
      case rel => exact ⟨2, u0, _, by go_num, Lib.hid (HA2.out.other (by simp; omega) _), Lib.hid (HR2.out.other (by simp) _), Lib.hid (HU2.out.set 1 _), by simpa using hsz2, Lib.hid (HB2.out.setCell (by simp; omega) _), Or.inr (Or.inr ⟨rfl, Lib.hid (ownsRow_setCell_below HO0'.out (by simp) _), Lib.hid (ownsRow_setCell_below HO2.out (by simp) _), HP2⟩)⟩
      case measure => simp [intOf]
    · obtain ⟨_, A0, c0, rfl, _⟩ := sl_of_own HO0.out
      obtain ⟨_, A1, c1, rfl, _⟩ := sl_of_own HO1.out
      obtain ⟨hu0, hu1⟩ := HU.out.two
      obtain ⟨hr0, hr1⟩ := HR.out.two
      have hf0 := HR.out.open_ 0
      have hf1 := HR.out.open_ 1
      go_wp2
      obtain ⟨p0, _⟩ := (HR.out.set 0 (.slice A0 s0.length c0)).two
      obtain ⟨_, q1⟩ := ((HR.out.set 0 (.slice A0 s0.length c0)).set 1 (.slice A1 s1.length c1)).two
      refine bodyPost_ret (v := .agg #[.slice A0 s0.length c0, .slice A1 s1.length c1]) (by simp [results, Tryz.results60, go_sem, p0, q1]) rfl ⟨_, _, rfl, ?_, ?_, HP.out, ?_⟩
      · exact own_base (ownsRow_setCell_below (ownsRow_setCell_below HO0.out (by simp) _) (by simp) _) (by omega)
      · exact own_base (ownsRow_setCell_below (ownsRow_setCell_below HO1.out (by simp) _) (by simp) _) (by omega)
      · exact (HB.out.setCell (by simp) _).setCell (by simp) _
end Go.Proofs.YtobjgdnmlibofaaGreat

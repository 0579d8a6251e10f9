/-
  The law on BookGet, walked.
-/
import Derived.Test.YtpinjdmjfbmigaaBookGet
import Derived.Deep.RegionHeld3
set_option maxRecDepth 100000
namespace Go.Proofs.Ytpinjdmjfbmigaa
open Go.ChangeShapes Go.WideShapes Go.ChangeAt Go.RowKit Go.Proofs.Palim

set_option maxHeartbeats 2000000 in
theorem lawBookGet (va : Value) (d : List SetM) (s : ByteArray) (i : Int) (w : World) (h : BookR w va d) (hz : ∀ x ∈ d, KFit x) (hsz : s.size ≤ maxLen) :
    Calls Try.prog 7 #[.agg #[va], .string s, .int .i64 i] w fun e w' => e = .returned (.bool true) ∧ Below w.heap.size w w' := by
  have hnot : ∀ (x : Bool) (w : World), (Op.unary .not (.bool x)).run Try.prog w = .ok (.bool (!x)) w := fun _ _ => rfl
  have HZ := Lib.hid hz
  have XA0 := Lib.hid (bbox_new h 37)
  have B0 := Lib.hid (Below.new1 (w := w) (.cells #[va] 37))
  have HSZ := Lib.hid hsz
  unfold maxLen at hsz
  clear h hz
  by_cases hbig : (s.size : Int) > 1048576
  · go_enter Try.func7, Try.ntmps7
    go_wp2_with fail
    go_ret
    exact ⟨rfl, B0.out⟩
  go_enter Try.func7, Try.ntmps7
  go_wp2_with fail
  refine (szBook_any va d 1048576 _ XA0.out.reads HZ.out (by omega) (by omega)).mono ?_
  rintro e w1 ⟨⟨r, rfl, hr⟩, hb⟩
  have XA1 := Lib.hid (XA0.out.below hb)
  have B1 := Lib.hid (B0.out.trans (hb.mono B0.out.size))
  clear hb XA0 B0
  rcases hr with rfl | ⟨hr0, hr1⟩
  · go_wp2
    go_ret
    exact ⟨rfl, B1.out⟩
  have HS := Lib.hid (book_short (ls := d) (by omega))
  have hr2 : ¬ r < 0 := by omega
  clear hr1 HZ
  have x0 := XA1.out.cell
  obtain ⟨⟨g, q⟩, HOK⟩ : ∃ g, Hid (getM d s i = g) := ⟨_, Lib.hid rfl⟩
  go_wp2_with fail
  refine (toBook_any va d _ XA1.out.reads HS.out).mono ?_
  rintro e w2 ⟨m0, rfl, hm, hb⟩
  have XA2 := Lib.hid (XA1.out.below hb)
  have B2 := Lib.hid (B1.out.trans (hb.mono B1.out.size))
  have RM := Lib.hid hm.reads
  clear hm hb XA1 B1 x0
  go_wp2_with fail
  refine (BookGet_any _ d s i _ RM.out HS.out).mono ?_
  rintro e w3 ⟨rfl, hb⟩
  rw [HOK.out]
  have XA3 := Lib.hid (XA2.out.below hb)
  have B3 := Lib.hid (B2.out.trans (hb.mono B2.out.size))
  clear hb XA2 B2 RM
  have x0 := XA3.out.cell
  go_wp2_with fail
  refine (toBook_any va d _ XA3.out.reads HS.out).mono ?_
  rintro e w4 ⟨m0, rfl, hm, hb⟩
  obtain ⟨M0, c0, rfl⟩ := hm.form
  have hn := Below.new1 (w := w4) (.cells #[.slice M0 d.length c0] 25)
  have XA4 := Lib.hid ((XA3.out.below hb).below hn)
  have XM4 := Lib.hid (bbox_new hm.reads 25)
  have B4 := Lib.hid ((B3.out.trans (hb.mono B3.out.size)).trans (hn.mono (Nat.le_trans B3.out.size hb.size)))
  clear hm hb hn XA3 B3 x0
  go_wp2_with fail
  refine (ImplBookGet_any _ d s i _ XM4.out.reads HS.out HSZ.out).mono ?_
  rintro e w5 ⟨rfl, hb⟩
  rw [HOK.out]
  have XA5 := Lib.hid (XA4.out.below hb)
  have XM5 := Lib.hid (XM4.out.below hb)
  have B5 := Lib.hid (B4.out.trans (hb.mono B4.out.size))
  clear hb XA4 XM4 B4
  have x0 := XA5.out.cell
  have z0 := XM5.out.cell
  have RD := Lib.hid XA5.out.reads.drew
  have RM := Lib.hid XM5.out.reads.drew
  have hlx := XA5.out.box.lt
  have hlm := XM5.out.box.lt
  go_wp2_with fail
  go_region_held3 (fun w' => w'.cell? ⟨w.heap.size, 0, none⟩ = some va ∧ w'.cell? ⟨w4.heap.size, 0, none⟩ = some (.slice M0 d.length c0))
    (first
      | go_keep
      | (go_split_ands
         refine ⟨?_, ?_⟩
         all_goals (rw [hb7.cell (by have := hb6.size; simp at this; simp <;> omega), hb6.cell (by simp <;> omega)]; assumption))
      | (go_split_ands
         refine ⟨?_, ?_⟩
         all_goals (rw [hb6.cell (by simp <;> omega)]; assumption)))
    (first
      | (go_at_call 16; ((with_reducible refine (toBook_any va d _ RD.out HS.out).mono ?_); rintro e w6 ⟨t0, rfl, hbo, hb6⟩))
      | (go_at_call 18; ((with_reducible refine (eqBook_same _ _ d _ (RM.out.below hb6 (Nat.le_refl _)) hbo.reads HS.out).mono ?_); rintro e w7 ⟨rfl, hb7⟩)))
  all_goals
    have B7 := Lib.hid ((B5.out.trans (((below_drewB w5).trans hb6).mono B5.out.size)).trans (hb7.mono (Nat.le_trans B5.out.size hb6.size)))
    clear hb6 hb7 hbo XA5 XM5 B5 RD RM x0 z0
    go_wp2
    go_ret
    exact ⟨rfl, B7.out⟩
end Go.Proofs.Ytpinjdmjfbmigaa

/-
  The law on BookSame, walked.
-/
import Derived.Test.YtpinjdmjfbmigaaBookSame
import Derived.Test.YtpinjdmjfbmigaaBookBox
import Derived.Deep.RegionHeld3
set_option maxRecDepth 100000
namespace Go.Proofs.Ytpinjdmjfbmigaa
open Go.ChangeShapes Go.WideShapes Go.ChangeAt Go.RowKit Go.Proofs.Palim

set_option maxHeartbeats 2000000 in
theorem lawBookSame (va vb : Value) (d f : List SetM) (w : World) (h : BookR w va d) (k : BookR w vb f) (hz : ∀ x ∈ d, KFit x) (kz : ∀ x ∈ f, KFit x) :
    Calls Try.prog 6 #[.agg #[va], .agg #[vb]] w fun e w' => e = .returned (.bool true) ∧ Below w.heap.size w w' := by
  have hnot : ∀ (x : Bool) (w : World), (Op.unary .not (.bool x)).run Try.prog w = .ok (.bool (!x)) w := fun _ _ => rfl
  have HZ := Lib.hid hz
  have KZ := Lib.hid kz
  obtain ⟨hA, hC, hsz, hB⟩ := box2 w #[va] #[vb] 37 37
  have XA0 := Lib.hid (show BBox _ w.heap.size w.heap.size va d from ⟨hA, h.l, h.below hB (Nat.le_refl _), Nat.le_refl _⟩)
  have XB0 := Lib.hid (show BBox _ (w.heap.size + 1) w.heap.size vb f from ⟨hC, k.l, k.below hB (Nat.le_refl _), by omega⟩)
  have B0 := Lib.hid hB
  clear hA hC hB h k hz kz
  go_enter Try.func6, Try.ntmps6
  go_wp2_with fail
  refine (szBook_any va d 1048576 _ XA0.out.reads HZ.out (by omega) (by omega)).mono ?_
  rintro e w1 ⟨⟨r, rfl, hr⟩, hb⟩
  have XA1 := Lib.hid (XA0.out.below hb)
  have XB1 := Lib.hid (XB0.out.below hb)
  have B1 := Lib.hid (B0.out.trans (hb.mono B0.out.size))
  clear hb XA0 XB0 B0 hsz
  rcases hr with rfl | ⟨hr0, hr1⟩
  · go_wp2
    go_ret
    exact ⟨rfl, B1.out⟩
  have HS := Lib.hid (book_short (ls := d) (by omega))
  have hr2 : ¬ r < 0 := by omega
  have hr3 : r ≤ 1048576 := by omega
  clear hr1 HZ
  have y0 := XB1.out.cell
  go_wp2_with fail
  refine (szBook_any vb f r _ XB1.out.reads KZ.out (by omega) (by omega)).mono ?_
  rintro e w2 ⟨⟨q, rfl, hq⟩, hb⟩
  have XA2 := Lib.hid (XA1.out.below hb)
  have XB2 := Lib.hid (XB1.out.below hb)
  have B2 := Lib.hid (B1.out.trans (hb.mono B1.out.size))
  clear hb XA1 XB1 B1 y0
  rcases hq with rfl | ⟨hq0, hq1⟩
  · go_wp2
    go_ret
    exact ⟨rfl, B2.out⟩
  have KS := Lib.hid (book_short (ls := f) (by omega))
  have hq2 : ¬ q < 0 := by omega
  clear hq1 KZ
  have x0 := XA2.out.cell
  have y0 := XB2.out.cell
  have hlx := XA2.out.box.lt
  have hly := XB2.out.box.lt
  have RAd := Lib.hid XA2.out.reads.drew
  have RBd := Lib.hid XB2.out.reads.drew
  obtain ⟨ok, HOK⟩ : ∃ ok, Hid (decide (d = f) = ok) := ⟨_, Lib.hid rfl⟩
  go_wp2_with fail
  -- spec's answer
  go_region_held3 (fun w' => w'.cell? ⟨w.heap.size, 0, none⟩ = some va ∧ w'.cell? ⟨w.heap.size + 1, 0, none⟩ = some vb)
    (first
      | go_keep
      | (go_split_ands
         refine ⟨?_, ?_⟩
         all_goals (rw [hb5.cell (by have := hb3.size; have := hb4.size; simp at *; omega), hb4.cell (by have := hb3.size; simp at *; omega), hb3.cell (by simp <;> omega)]; assumption))
      | (go_split_ands
         refine ⟨?_, ?_⟩
         all_goals (rw [hb4.cell (by have := hb3.size; simp at *; omega), hb3.cell (by simp <;> omega)]; assumption))
      | (go_split_ands
         refine ⟨?_, ?_⟩
         all_goals (rw [hb3.cell (by simp <;> omega)]; assumption)))
    (first
      | (go_at_call 16; ((with_reducible refine (toBook_any va d _ RAd.out HS.out).mono ?_); rintro e w3 ⟨p0, rfl, hpo, hb3⟩))
      | (go_at_call 16; ((with_reducible refine (toBook_any vb f _ (RBd.out.below hb3 (Nat.le_refl _)) KS.out).mono ?_); rintro e w4 ⟨q0, rfl, hqo, hb4⟩; have hpr := hpo.reads.below hb4 (Nat.le_refl _); have hqr := hqo.reads))
      | (go_at_call 16; ((with_reducible refine (toBook_any vb f _ RBd.out KS.out).mono ?_); rintro e w3 ⟨q0, rfl, hqo, hb3⟩))
      | (go_at_call 16; ((with_reducible refine (toBook_any va d _ (RAd.out.below hb3 (Nat.le_refl _)) HS.out).mono ?_); rintro e w4 ⟨p0, rfl, hpo, hb4⟩; have hqr := hqo.reads.below hb4 (Nat.le_refl _); have hpr := hpo.reads))
      | (go_at_call 19; ((with_reducible refine (BookSame_any _ _ d f _ hpr hqr HS.out KS.out).mono ?_); rintro e w5 ⟨rfl, hb5⟩; rw [HOK.out])))
  all_goals
    have hb25 : Below w2.heap.size w2 w5 := (((below_drewB w2).trans hb3).trans (hb4.mono hb3.size)).trans (hb5.mono (Nat.le_trans hb3.size hb4.size))
    have XA5 := Lib.hid (XA2.out.below hb25)
    have XB5 := Lib.hid (XB2.out.below hb25)
    have B5 := Lib.hid (B2.out.trans (hb25.mono B2.out.size))
    clear hb25 hb3 hb4 hb5 hpo hqo hpr hqr XA2 XB2 B2 RAd RBd x0 y0 hlx hly
    have x0 := XA5.out.cell
    have y0 := XB5.out.cell
    go_wp2_with fail
    -- what impl is handed
    refine (toBook_any va d _ XA5.out.reads HS.out).mono ?_
    rintro e w6 ⟨m0, rfl, hm, hb⟩
    obtain ⟨M0, c0, rfl⟩ := hm.form
    have hn := Below.new1 (w := w6) (.cells #[.slice M0 d.length c0] 25)
    have XA6 := Lib.hid ((XA5.out.below hb).below hn)
    have XB6 := Lib.hid ((XB5.out.below hb).below hn)
    have XM6 := Lib.hid (bbox_new hm.reads 25)
    have B6 := Lib.hid ((B5.out.trans (hb.mono B5.out.size)).trans (hn.mono (Nat.le_trans B5.out.size hb.size)))
    clear hm hb hn XA5 XB5 B5 x0 y0
    have y0 := XB6.out.cell
    go_wp2_with fail
    refine (toBook_any vb f _ XB6.out.reads KS.out).mono ?_
    rintro e w7 ⟨m0, rfl, hm, hb⟩
    obtain ⟨N0, g0, rfl⟩ := hm.form
    have hn := Below.new1 (w := w7) (.cells #[.slice N0 f.length g0] 25)
    have XA7 := Lib.hid ((XA6.out.below hb).below hn)
    have XB7 := Lib.hid ((XB6.out.below hb).below hn)
    have XM7 := Lib.hid ((XM6.out.below hb).below hn)
    have XN7 := Lib.hid (bbox_new hm.reads 25)
    have B7 := Lib.hid ((B6.out.trans (hb.mono B6.out.size)).trans (hn.mono (Nat.le_trans B6.out.size hb.size)))
    clear hm hb hn XA6 XB6 XM6 B6 y0
    have z0 := XM7.out.cell
    go_wp2_with fail
    refine (ImplBookSame_any _ _ d f _ XM7.out.reads XN7.out.reads HS.out KS.out).mono ?_
    rintro e w8 ⟨rfl, hb⟩
    rw [HOK.out]
    have XA8 := Lib.hid (XA7.out.below hb)
    have XB8 := Lib.hid (XB7.out.below hb)
    have XM8 := Lib.hid (XM7.out.below hb)
    have XN8 := Lib.hid (XN7.out.below hb)
    have B8 := Lib.hid (B7.out.trans (hb.mono B7.out.size))
    clear hb XA7 XB7 XM7 XN7 B7 z0
    have x0 := XA8.out.cell
    have z0 := XM8.out.cell
    have RD := Lib.hid XA8.out.reads.drew
    have RM := Lib.hid XM8.out.reads.drew
    have hlx := XA8.out.box.lt
    have hlm := XM8.out.box.lt
    go_wp2_with fail
    go_region_held3 (fun w' => w'.cell? ⟨w.heap.size, 0, none⟩ = some va ∧ w'.cell? ⟨w6.heap.size, 0, none⟩ = some (.slice M0 d.length c0))
      (first
        | go_keep
        | (go_split_ands
           refine ⟨?_, ?_⟩
           all_goals (rw [hb10.cell (by have := hb9.size; simp at this; simp <;> omega), hb9.cell (by simp <;> omega)]; assumption))
        | (go_split_ands
           refine ⟨?_, ?_⟩
           all_goals (rw [hb9.cell (by simp <;> omega)]; assumption)))
      (first
        | (go_at_call 16; ((with_reducible refine (toBook_any va d _ RD.out HS.out).mono ?_); rintro e w9 ⟨t0, rfl, hbo, hb9⟩))
        | (go_at_call 18; ((with_reducible refine (eqBook_same _ _ d _ (RM.out.below hb9 (Nat.le_refl _)) hbo.reads HS.out).mono ?_); rintro e w10 ⟨rfl, hb10⟩)))
    all_goals
      have hb810 : Below w8.heap.size w8 w10 := ((below_drewB w8).trans hb9).trans (hb10.mono hb9.size)
      have XB10 := Lib.hid (XB8.out.below hb810)
      have XN10 := Lib.hid (XN8.out.below hb810)
      have B10 := Lib.hid (B8.out.trans (hb810.mono B8.out.size))
      clear hb810 hb9 hb10 hbo XA8 XB8 XM8 XN8 B8 RD RM x0 z0 hlx hlm
      have x0 := XB10.out.cell
      have z0 := XN10.out.cell
      have RD := Lib.hid XB10.out.reads.drew
      have RM := Lib.hid XN10.out.reads.drew
      have hlx := XB10.out.box.lt
      have hlm := XN10.out.box.lt
      go_wp2_with fail
      go_region_held3 (fun w' => w'.cell? ⟨w.heap.size + 1, 0, none⟩ = some vb ∧ w'.cell? ⟨w7.heap.size, 0, none⟩ = some (.slice N0 f.length g0))
        (first
          | go_keep
          | (go_split_ands
             refine ⟨?_, ?_⟩
             all_goals (rw [hb12.cell (by have := hb11.size; simp at this; simp <;> omega), hb11.cell (by simp <;> omega)]; assumption))
          | (go_split_ands
             refine ⟨?_, ?_⟩
             all_goals (rw [hb11.cell (by simp <;> omega)]; assumption)))
        (first
          | (go_at_call 16; ((with_reducible refine (toBook_any vb f _ RD.out KS.out).mono ?_); rintro e w11 ⟨t0, rfl, hbo, hb11⟩))
          | (go_at_call 18; ((with_reducible refine (eqBook_same _ _ f _ (RM.out.below hb11 (Nat.le_refl _)) hbo.reads KS.out).mono ?_); rintro e w12 ⟨rfl, hb12⟩)))
      all_goals
        have B12 := Lib.hid ((B10.out.trans (((below_drewB w10).trans hb11).mono B10.out.size)).trans (hb12.mono (Nat.le_trans B10.out.size hb11.size)))
        clear hb11 hb12 hbo XB10 XN10 B10 RD RM x0 z0
        go_wp2
        go_ret
        exact ⟨rfl, B12.out⟩
end Go.Proofs.Ytpinjdmjfbmigaa

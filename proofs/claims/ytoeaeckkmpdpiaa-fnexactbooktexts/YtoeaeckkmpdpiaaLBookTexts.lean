/-
  The law on BookTexts, walked.
-/
import Derived.Test.YtoeaeckkmpdpiaaImTexts
import Derived.Test.YtoeaeckkmpdpiaaSetM
import Derived.Test.YtoeaeckkmpdpiaaSetEq
import Derived.Deep.RegionHeld3
set_option maxRecDepth 100000
namespace Go.Proofs.Ytoeaeckkmpdpiaa
open Go.ChangeShapes Go.WideShapes Go.ChangeAt Go.RowKit Go.Proofs.Palim

theorem own_b {w w' : World} {base e sz n : Nat} {v : Value} {xs : List Value} (h : w.ownsRow base e sz v n xs) (hb : Below w.heap.size w w') : w'.ownsRow base e sz v n xs := own_kept h (fun b e => hb.block b (h.lt b e).2)
theorem own_t {S : Nat → Prop} {w w' : World} {base e sz n : Nat} {v : Value} {xs : List Value} (h : w.ownsRow base e sz v n xs) (ht : Turned S w w') (hn : ∀ b, v.ownBlock = some b → ¬ S b) : w'.ownsRow base e sz v n xs := own_kept h (fun b e => ht.block b (h.lt b e).2 (hn b e))
theorem BBox.turned {S : Nat → Prop} {w w' : World} {x B : Nat} {v : Value} {ls : List SetM} (h : BBox w x B v ls) (ht : Turned S w w') (hx : ∀ b, b ≤ x → ¬ S b) : BBox w' x B v ls :=
  ⟨h.box.turned ht (hx x (Nat.le_refl _)), h.low, ⟨h.reads.r.kept (fun b e => ht.block b (h.reads.l b e) (hx b (by have := h.low b e; have := h.lt; omega))), fun b e => Nat.lt_of_lt_of_le (h.reads.l b e) ht.size⟩, h.lt⟩
theorem eqSS (va vb : Value) (ss : List ByteArray) (w : World) (ha : Sl w 1 va ss.length (scs ss)) (hb : Sl w 1 vb ss.length (scs ss)) (hs : ss.length ≤ 1048576) :
    Calls Try.prog 11 #[va, vb] w fun e w' => e = .returned (.bool true) ∧ Below w.heap.size w w' := by
  refine (eqStringS_same va vb ss w ha hb hs).mono ?_
  rintro e w' ⟨rfl, q, rfl⟩
  exact ⟨rfl, below_drewN (Below.refl _ _) q⟩
theorem textsM_le (ls : List SetM) : (textsM ls).length ≤ 48 := by
  unfold textsM
  by_cases h : BookOkM ls
  · rw [if_pos h]
    have h1 := foldT_length (blocksM ls)
    rw [blocksM_length] at h1
    have := h.1
    omega
  · rw [if_neg h]; simp

set_option maxHeartbeats 4000000 in
theorem lawBookTexts (va : Value) (d : List SetM) (w : World) (h : BookR w va d) (hz : ∀ x ∈ d, KFit x) :
    Calls Try.prog 3 #[.agg #[va]] w fun e w' => e = .returned (.bool true) ∧ Below w.heap.size w w' := by
  have hnot : ∀ (x : Bool) (w : World), (Op.unary .not (.bool x)).run Try.prog w = .ok (.bool (!x)) w := fun _ _ => rfl
  have HZ := Lib.hid hz
  have XA0 := Lib.hid (bbox_new h 24)
  have B0 := Lib.hid (Below.new1 (w := w) (.cells #[va] 24))
  clear h hz
  have x0 := XA0.out.cell
  go_enter Try.func3, Try.ntmps3
  go_wp2_with fail
  refine (szBook_any va d 1048576 _ XA0.out.reads HZ.out (by omega) (by omega)).mono ?_
  rintro e w1 ⟨⟨r, rfl, hr⟩, hb⟩
  have XA1 := Lib.hid (XA0.out.below hb)
  have B1 := Lib.hid (B0.out.trans (hb.mono B0.out.size))
  clear hb XA0 B0 x0
  rcases hr with rfl | ⟨hr0, hr1⟩
  · go_wp2
    go_ret
    exact ⟨rfl, B1.out⟩
  have HS := Lib.hid (book_short (ls := d) (by omega))
  have hr2 : ¬ r < 0 := by omega
  clear hr1 HZ
  have x0 := XA1.out.cell
  obtain ⟨ts, HTS⟩ : ∃ ts, Hid (textsM d = ts) := ⟨_, Lib.hid rfl⟩
  have htl : ts.length ≤ 48 := by rw [← HTS.out]; exact textsM_le d
  have hdl : d.length ≤ 1048576 := HS.out.n
  go_wp2_with fail
  refine (toBook_any va d _ XA1.out.reads HS.out).mono ?_
  rintro e w2 ⟨m0, rfl, hm, hb⟩
  have XA2 := Lib.hid (XA1.out.below hb)
  have B2 := Lib.hid (B1.out.trans (hb.mono B1.out.size))
  have RM := Lib.hid hm.reads
  clear hm hb XA1 B1 x0
  go_wp2_with fail
  refine (BookTexts_any _ d _ RM.out HS.out).mono ?_
  rintro e w3 ⟨vw, rfl, hown, hb⟩
  rw [HTS.out] at hown
  have OW := Lib.hid hown
  have XA3 := Lib.hid (XA2.out.below hb)
  have B3 := Lib.hid (B2.out.trans (hb.mono B2.out.size))
  have hx3 : w.heap.size < w3.heap.size := Nat.lt_of_lt_of_le XA2.out.box.lt hb.size
  obtain ⟨_, Aw, cw, rfl, _⟩ := sl_of_own hown
  clear hb hown XA2 B2 RM
  have x0 := XA3.out.cell
  go_wp2_with fail
  refine (toBook_any va d _ XA3.out.reads HS.out).mono ?_
  rintro e w4 ⟨m0, rfl, hm, hb⟩
  obtain ⟨M0, c0, rfl⟩ := hm.form
  have hn := Below.new1 (w := w4) (.cells #[.slice M0 d.length c0] 30)
  have XA4 := Lib.hid ((XA3.out.below hb).below hn)
  have XM4 := Lib.hid (bbox_new hm.reads 30)
  have OM4 := Lib.hid (own_b hm.o hn)
  have OW4 := Lib.hid (own_b (own_b OW.out hb) hn)
  have B4 := Lib.hid ((B3.out.trans (hb.mono B3.out.size)).trans (hn.mono (Nat.le_trans B3.out.size hb.size)))
  have hOWlt := Lib.hid (fun b e => (OW.out.lt b e).2)
  have hOMlt := Lib.hid (fun b e => (hm.o.lt b e).2)
  have h34 : w3.heap.size ≤ w4.heap.size := hb.size
  clear hm hb hn XA3 B3 x0 OW
  go_wp2_with fail
  refine (ImplBookTexts_any _ d _ XM4.out.reads HS.out).mono ?_
  rintro e w5 ⟨vg, rfl, hown, hb⟩
  rw [HTS.out] at hown
  have OG := Lib.hid hown
  have XA5 := Lib.hid (XA4.out.below hb)
  have XM5 := Lib.hid (XM4.out.below hb)
  have OM5 := Lib.hid (own_b OM4.out hb)
  have OW5 := Lib.hid (own_b OW4.out hb)
  have B5 := Lib.hid (B4.out.trans (hb.mono B4.out.size))
  have hOGge := Lib.hid (show ∀ b, vg.ownBlock = some b → w4.heap.size + 1 ≤ b from fun b e => by have := (hown.lt b e).1; simpa using this)
  obtain ⟨_, Ag, cg, rfl, _⟩ := sl_of_own hown
  clear hb hown XA4 XM4 OM4 OW4 B4
  go_wp2_with fail
  refine (eqSS _ _ ts _ (sl_of_own OG.out) (sl_of_own OW5.out) (by omega)).mono ?_
  rintro e w6 ⟨rfl, hb⟩
  have OG6 := Lib.hid (own_b OG.out hb)
  have XA6 := Lib.hid (XA5.out.below hb)
  have XM6 := Lib.hid (XM5.out.below hb)
  have OM6 := Lib.hid (own_b OM5.out hb)
  have OW6 := Lib.hid (own_b OW5.out hb)
  have B6 := Lib.hid (B5.out.trans (hb.mono B5.out.size))
  clear hb OG XA5 XM5 OM5 OW5 B5
  have x0 := XA6.out.cell
  have z0 := XM6.out.cell
  have RD := Lib.hid XA6.out.reads.drew
  have RM := Lib.hid XM6.out.reads.drew
  have hlx := XA6.out.box.lt
  have hlm := XM6.out.box.lt
  go_wp2_with fail
  go_region_held3 (fun w' => w'.cell? ⟨w.heap.size, 0, none⟩ = some va ∧ w'.cell? ⟨w4.heap.size, 0, none⟩ = some (.slice M0 d.length c0))
    (first
      | go_keep
      | (go_split_ands
         refine ⟨?_, ?_⟩
         all_goals (rw [hb8.cell (by have := hb7.size; simp at this; simp <;> omega), hb7.cell (by simp <;> omega)]; assumption))
      | (go_split_ands
         refine ⟨?_, ?_⟩
         all_goals (rw [hb7.cell (by simp <;> omega)]; assumption)))
    (first
      | (go_at_call 9; ((with_reducible refine (toBook_any va d _ RD.out HS.out).mono ?_); rintro e w7 ⟨t0, rfl, hbo, hb7⟩))
      | (go_at_call 12; ((with_reducible refine (eqBook_same _ _ d _ (RM.out.below hb7 (Nat.le_refl _)) hbo.reads HS.out).mono ?_); rintro e w8 ⟨rfl, hb8⟩)))
  all_goals
    have hb68 : Below w6.heap.size w6 w8 := ((below_drewB w6).trans hb7).trans (hb8.mono hb7.size)
    have OG8 := Lib.hid (own_b OG6.out hb68)
    have XA8 := Lib.hid (XA6.out.below hb68)
    have XM8 := Lib.hid (XM6.out.below hb68)
    have OM8 := Lib.hid (own_b OM6.out hb68)
    have OW8 := Lib.hid (own_b OW6.out hb68)
    have B8 := Lib.hid (B6.out.trans (hb68.mono B6.out.size))
    clear hb7 hb8 hb68 hbo OG6 XA6 XM6 OM6 OW6 B6 RD RM x0 z0 hlx hlm
    have z0 := XM8.out.cell
    go_wp2_with fail
    refine (markBook_any _ d.length 1 _ _ _ OM8.out hdl (by omega) (by omega)).mono ?_
    rintro e w9 ⟨rfl, _, ht⟩
    have hBT : ∀ b, BTurns (.slice M0 d.length c0) b → w3.heap.size ≤ b ∧ b < w4.heap.size := fun b e => ⟨(OM8.out.lt b e).1, hOMlt.out b e⟩
    have OG9 := Lib.hid (own_t OG8.out ht (fun b e h => by have h1 := hBT b h; have h2 := hOGge.out b e; omega))
    have OW9 := Lib.hid (own_t OW8.out ht (fun b e h => by have h1 := hBT b h; have h2 := hOWlt.out b e; omega))
    have XA9 := Lib.hid (XA8.out.turned ht (fun b hb h => by have h1 := hBT b h; omega))
    have B9 := Lib.hid (B8.out.trans (ht.below (fun b hb _ h => by have h1 := hBT b h; omega) B8.out.size))
    clear ht hBT OG8 XA8 XM8 OM8 OW8 B8 z0
    have hm1 : ¬ (((1 + d.length * 11 : Nat) : Int) < 0) := by omega
    generalize ((1 + d.length * 11 : Nat) : Int) = km at hm1
    go_wp2_with fail
    refine (eqSS _ _ ts _ (sl_of_own OG9.out) (sl_of_own OW9.out) (by omega)).mono ?_
    rintro e w10 ⟨rfl, hb⟩
    have OG10 := Lib.hid (own_b OG9.out hb)
    have XA10 := Lib.hid (XA9.out.below hb)
    have OW10 := Lib.hid (own_b OW9.out hb)
    have B10 := Lib.hid (B9.out.trans (hb.mono B9.out.size))
    clear hb OG9 XA9 OW9 B9
    go_wp2_with fail
    refine (markStringS_any _ ts.length 1 _ _ _ OG10.out (by omega) (by omega) (by omega)).mono ?_
    rintro e w11 ⟨rfl, hown, ht⟩
    have OG11 := Lib.hid hown
    have OW11 := Lib.hid (own_t OW10.out ht (fun b e h => by have h1 := hOGge.out b h; have h2 := hOWlt.out b e; omega))
    have XA11 := Lib.hid (XA10.out.turned ht (fun b hb h => by have h1 := hOGge.out b h; omega))
    have B11 := Lib.hid (B10.out.trans (ht.below (fun b hb _ h => by have h1 := hOGge.out b h; omega) B10.out.size))
    clear ht hown OG10 XA10 OW10 B10
    obtain ⟨mm, HMM⟩ : ∃ mm, Hid (((1 + ts.length : Nat) : Int) = mm) := ⟨_, Lib.hid rfl⟩
    have hmm0 : ¬ mm < 0 := by have := HMM.out; omega
    rw [HMM.out]
    go_wp2_with fail
    refine (heldStringS_any _ ts.length 1 _ (sl_of_own OG11.out) (fun b e => (OG11.out.lt b e).2) (by omega) (by omega) (by omega)).mono ?_
    rintro e w12 ⟨rfl, hb⟩
    rw [HMM.out]
    have OG12 := Lib.hid (own_b OG11.out hb)
    have XA12 := Lib.hid (XA11.out.below hb)
    have OW12 := Lib.hid (own_b OW11.out hb)
    have B12 := Lib.hid (B11.out.trans (hb.mono B11.out.size))
    clear hb OG11 XA11 OW11 B11
    have x0 := XA12.out.cell
    go_wp2_with fail
    refine (toBook_any va d _ XA12.out.reads HS.out).mono ?_
    rintro e w13 ⟨m1, rfl, hm, hb⟩
    have OG13 := Lib.hid (own_b OG12.out hb)
    have OW13 := Lib.hid (own_b OW12.out hb)
    have B13 := Lib.hid (B12.out.trans (hb.mono B12.out.size))
    have RM13 := Lib.hid hm.reads
    clear hb hm OG12 XA12 OW12 B12 x0
    go_wp2_with fail
    refine (ImplBookTexts_any _ d _ RM13.out HS.out).mono ?_
    rintro e w14 ⟨vh, rfl, hown, hb⟩
    rw [HTS.out] at hown
    have OH := Lib.hid hown
    have OG14 := Lib.hid (own_b OG13.out hb)
    have OW14 := Lib.hid (own_b OW13.out hb)
    have B14 := Lib.hid (B13.out.trans (hb.mono B13.out.size))
    obtain ⟨_, Ah, ch, rfl, _⟩ := sl_of_own hown
    clear hb hown OG13 OW13 B13 RM13
    go_wp2_with fail
    refine (eqSS _ _ ts _ (sl_of_own OH.out) (sl_of_own OW14.out) (by omega)).mono ?_
    rintro e w15 ⟨rfl, hb⟩
    have OG15 := Lib.hid (own_b OG14.out hb)
    have B15 := Lib.hid (B14.out.trans (hb.mono B14.out.size))
    clear hb OG14 OW14 B14 OH
    go_wp2_with fail
    refine (heldStringS_any _ ts.length 1 _ (sl_of_own OG15.out) (fun b e => (OG15.out.lt b e).2) (by omega) (by omega) (by omega)).mono ?_
    rintro e w16 ⟨rfl, hb⟩
    rw [HMM.out]
    have B16 := Lib.hid (B15.out.trans (hb.mono B15.out.size))
    clear hb B15 OG15
    go_wp2
    go_ret
    exact ⟨rfl, B16.out⟩
end Go.Proofs.Ytoeaeckkmpdpiaa

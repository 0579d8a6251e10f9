/-
  Lists of sets of the core: the laws' helpers on them.
-/
import Derived.Test.YtobjgdnmlibofaaGreatCSet
set_option maxRecDepth 100000
namespace Go.Proofs.Palim
open Go
theorem own_putC : ∀ (vs : List Value) {w : World} {base e sz g n cap : Nat} {xs : List Value} (_ : w.ownsRow base e sz (.slice (some ⟨g, 0, none⟩) n cap) n xs) (off : Nat) (_ : off + vs.length ≤ xs.length),
    (putC w g off vs).ownsRow base e sz (.slice (some ⟨g, 0, none⟩) n cap) n (xs.take off ++ vs ++ xs.drop (off + vs.length))
  | [], w, base, e, sz, g, n, cap, xs, h, off, hl => by
    rw [putC, List.append_nil, List.length_nil, Nat.add_zero, List.take_append_drop]
    exact h
  | v :: r, w, base, e, sz, g, n, cap, xs, h, off, hl => by
    simp only [List.length_cons] at hl
    have h1 := own_putC r (own_setN h off v) (off + 1) (by rw [List.length_set]; omega)
    rw [putC]
    have e1 : (xs.set off v).take (off + 1) = xs.take off ++ [v] := take_set_succ xs off v (by omega)
    have e2 : (xs.set off v).drop (off + 1 + r.length) = xs.drop (off + (r.length + 1)) := by
      rw [List.drop_set, if_pos (by omega)]
      congr 1; omega
    rw [e1, e2] at h1
    simpa using h1
end Go.Proofs.Palim
namespace Go.Proofs.YtobjgdnmlibofaaGreat
open Go.ChangeShapes Go.WideShapes Go.ChangeAt Go.RowKit Go.Proofs.Palim

set_option maxHeartbeats 1000000 in
theorem eqCoreSet_same (x : CSetM) (w : World) :
    Calls Tryz.prog 118 #[.agg (cc x).toArray, .agg (cc x).toArray] w fun e w' => e = .returned (.bool true) ∧ Below w.heap.size w w' := by
  have hnot : ∀ (x : Bool) (w : World), (Op.unary .not (.bool x)).run Tryz.prog w = .ok (.bool (!x)) w := fun _ _ => rfl
  obtain ⟨b1, b2, hsz, hB⟩ := box2 w (cc x).toArray (cc x).toArray 89 89
  have X1 := Lib.hid b1
  have X2 := Lib.hid b2
  have B0 := Lib.hid hB
  clear b1 b2 hB hsz
  obtain ⟨n0, n1, n2, -, -, -, -⟩ := ccBox (x := x) X1.out
  obtain ⟨m0, m1, m2, -, -, -, -⟩ := ccBox (x := x) X2.out
  have hq1 : (x.name.toList == x.name.toList) = true := by simp
  have hq2 : (x.frm.toList == x.frm.toList) = true := by simp
  go_enter Tryz.func118, Tryz.ntmps118
  go_wp2_with (first | (refine wpList_load_cs rfl _ rfl aggMap rfl (pcs x.map) (cmap_len x) (Box.part (p := ch x) (m := pcs x.map) (q := pc x.home ++ [.bool x.dirty]) X1.out 3 rfl) ?_) | (refine wpList_load_cs rfl _ rfl aggMap rfl (pcs x.map) (cmap_len x) (Box.part (p := ch x) (m := pcs x.map) (q := pc x.home ++ [.bool x.dirty]) X2.out 3 rfl) ?_))
  refine (eqPtrA8_same x.map _ x.h8).mono ?_
  rintro e w1 ⟨rfl, hb⟩
  have Y1 := Lib.hid (Box.below (vs := cc x) X1.out hb X1.out.lt)
  have Y2 := Lib.hid (Box.below (vs := cc x) X2.out hb X2.out.lt)
  have B1 := Lib.hid (B0.out.trans (hb.mono B0.out.size))
  clear hb X1 X2 B0 n0 n1 n2 m0 m1 m2
  obtain ⟨-, -, -, n3, n4, n5, -⟩ := ccBox Y1.out
  obtain ⟨-, -, -, m3, m4, m5, -⟩ := ccBox Y2.out
  go_wp2_with fail
  refine (eqPtr_same x.home _).mono ?_
  rintro e w2 ⟨rfl, hb⟩
  have Z1 := Lib.hid (Y1.out.below hb Y1.out.lt)
  have Z2 := Lib.hid (Y2.out.below hb Y2.out.lt)
  have B2 := Lib.hid (B1.out.trans (hb.mono B1.out.size))
  clear hb Y1 Y2 B1 n3 n4 n5 m3 m4 m5
  obtain ⟨-, -, -, -, -, -, n6⟩ := ccBox Z1.out
  obtain ⟨-, -, -, -, -, -, m6⟩ := ccBox Z2.out
  have hd : (x.dirty != x.dirty) = false := by simp
  go_wp2
  go_ret
  exact ⟨rfl, B2.out⟩

/-- How much of the room a set takes. -/
def csz (x : CSetM) : Nat := x.name.size + x.frm.size
set_option maxHeartbeats 1000000 in
theorem szCoreSet_any (x : CSetM) (left : Int) (w : World) (hn : x.name.size ≤ maxLen) (hf : x.frm.size ≤ maxLen) (h0 : 0 ≤ left) (h1 : left ≤ 1048576) :
    Calls Tryz.prog 99 #[.agg (cc x).toArray, .int .i64 left] w fun e w' => (∃ r : Int, e = .returned (.int .i64 r) ∧ (r = -1 ∨ 0 ≤ r ∧ r + csz x = left)) ∧ Below w.heap.size w w' := by
  unfold maxLen at hn hf
  have X1 := Lib.hid (box_new w (cc x).toArray 135)
  have B0 := Lib.hid ((Below.refl w.heap.size w).alloc (Nat.le_refl _) (.cells (cc x).toArray 135))
  obtain ⟨n0, -, n2, -, -, -, -⟩ := ccBox (x := x) X1.out
  by_cases ha : left < x.name.size
  · go_enter Tryz.func99, Tryz.ntmps99
    go_wp2
    go_ret
    exact ⟨⟨-1, rfl, Or.inl rfl⟩, B0.out⟩
  by_cases hb : left - x.name.size < x.frm.size
  · go_enter Tryz.func99, Tryz.ntmps99
    go_wp2
    go_ret
    exact ⟨⟨-1, rfl, Or.inl rfl⟩, B0.out⟩
  · go_enter Tryz.func99, Tryz.ntmps99
    go_wp2
    go_ret
    exact ⟨⟨_, rfl, Or.inr ⟨by omega, by unfold csz; omega⟩⟩, B0.out⟩

def ccs (ls : List CSetM) : List Value := ls.flatMap cc
theorem ccs_length (ls : List CSetM) : (ccs ls).length = ls.length * 31 := by
  induction ls with
  | nil => rfl
  | cons x ls ih => simp [ccs, cc_length] at ih ⊢; omega
theorem ccs_snoc (a : List CSetM) (x : CSetM) : ccs (a ++ [x]) = ccs a ++ cc x := by simp [ccs]
theorem ccs_at (ls : List CSetM) : ∀ (k : Nat) (h : k < ls.length) (j : Nat), j < 31 → (ccs ls)[k * 31 + j]? = (cc ls[k])[j]? := by
  induction ls with
  | nil => intro k h; simp at h
  | cons x ls ih =>
    intro k h j hj
    have e : ccs (x :: ls) = cc x ++ ccs ls := by simp [ccs]
    cases k with
    | zero => rw [e, Nat.zero_mul, Nat.zero_add, List.getElem?_append_left (by rw [cc_length]; exact hj)]; rfl
    | succ k =>
      rw [e, List.getElem?_append_right (by rw [cc_length]; omega), cc_length, show (k + 1) * 31 + j - 31 = k * 31 + j by omega]
      exact ih k (by simpa using h) j hj
theorem cset_read {w : World} {ls : List CSetM} {b off : Nat} (hc : ∀ j u, (ccs ls)[j]? = some u → w.cell? ⟨b, off + j, none⟩ = some u) (k : Nat) (h : k < ls.length) : ∀ j u, (cc ls[k])[j]? = some u → w.cell? ⟨b, off + k * 31 + j, none⟩ = some u := by
  intro j u hu
  have hj : j < 31 := by rw [← cc_length ls[k]]; exact (List.getElem?_eq_some_iff.1 hu).1
  rw [Nat.add_assoc]
  exact hc _ _ ((ccs_at ls k h j hj).trans hu)
theorem infoCSet : (Tryz.prog.info? 89).map (fun i => (i.zero, i.size, i.bytes)) = some (some (.agg #[.string ⟨#[]⟩, .int .i64 0, .string ⟨#[]⟩, .int .i64 0, .int .i64 0, .int .i64 0, .int .i64 0, .int .i64 0, .int .i64 0, .int .i64 0, .int .i64 0, .int .i64 0, .int .i64 0, .int .i64 0, .int .i64 0, .int .i64 0, .int .i64 0, .int .i64 0, .int .i64 0, .int .i64 0, .int .i64 0, .int .i64 0, .int .i64 0, .int .i64 0, .int .i64 0, .int .i64 0, .int .i64 0, .int .i64 0, .int .i64 0, .int .i64 0, .bool false]), 31, 264) := by kernel_rfl
def NewCSets (w : World) (ls : List CSetM) (e : Ending) (w' : World) : Prop :=
  ∃ v, e = .returned v ∧ w'.ownsRow w.heap.size 89 31 v ls.length (ccs ls) ∧ Below w.heap.size w w'

set_option maxHeartbeats 2000000 in
theorem toCoreSetS_any (v : Value) (ls : List CSetM) (w : World) (h : Sl w 31 v ls.length (ccs ls)) (hv : ∀ b, v.ownBlock = some b → b < w.heap.size) (hs : ls.length ≤ 1048576) :
    Calls Tryz.prog 62 #[v] w (NewCSets w ls) := by
  obtain ⟨i0, hi, hz0, hz1, hz2⟩ := info_parts infoCSet
  obtain ⟨n, HN⟩ : ∃ n, Hid (ls.length = n) := ⟨_, Lib.hid rfl⟩
  rw [HN.out] at h hs
  by_cases hn : n = 0
  · subst hn
    have HE := Lib.hid (List.length_eq_zero_iff.1 HN.out)
    obtain ⟨_, A, c, rfl, _, _, _⟩ := h
    clear hv
    go_enter Tryz.func62, Tryz.ntmps62
    go_wp2_with (first | (at_make; refine wpList_make_full _ rfl _ _ 40 rfl w.heap.size 89 i0 (.agg #[.string ⟨#[]⟩, .int .i64 0, .string ⟨#[]⟩, .int .i64 0, .int .i64 0, .int .i64 0, .int .i64 0, .int .i64 0, .int .i64 0, .int .i64 0, .int .i64 0, .int .i64 0, .int .i64 0, .int .i64 0, .int .i64 0, .int .i64 0, .int .i64 0, .int .i64 0, .int .i64 0, .int .i64 0, .int .i64 0, .int .i64 0, .int .i64 0, .int .i64 0, .int .i64 0, .int .i64 0, .int .i64 0, .int .i64 0, .int .i64 0, .int .i64 0, .bool false]) 31 Tryz.underlying40 hi hz0 hz1 _ _ _ _ 0 rfl rfl (by omega) (by omega) (by omega) (by unfold maxLen; omega) (Nat.le_refl _) ?_))
    intro w1 hown hgrow
    have HOW := Lib.hid hown
    have HGR := Lib.hid hgrow
    clear hown hgrow
    go_wp2
    go_loopw [4] (fun i wr => i = .int .i64 0 ∧ wr = w1) (fun _ _ => 0)
    case atStart => exact ⟨rfl, rfl⟩
    case round =>
      obtain ⟨rfl, rfl⟩ := hrel
      go_wp2
      go_ret
      refine ⟨_, rfl, ?_, (Below.refl _ _).grown HGR.out (Nat.le_refl _) (fun _ h => by cases h)⟩
      rw [HE.out]
      have h2 := HOW.out
      rw [List.length_eq_zero_iff.1 (HOW.out.1.trans (Nat.zero_mul _))] at h2
      exact h2
  · obtain ⟨b, off, c, rfl, hnc, hcm, hcell⟩ := h.form (by omega)
    have hbl : b < w.heap.size := hv b rfl
    have HC := Lib.hid hcell
    unfold maxLen at hcm
    clear hcell h hv
    go_enter Tryz.func62, Tryz.ntmps62
    go_wp2_with (first | (at_make; refine wpList_make_full _ rfl _ _ 40 rfl w.heap.size 89 i0 (.agg #[.string ⟨#[]⟩, .int .i64 0, .string ⟨#[]⟩, .int .i64 0, .int .i64 0, .int .i64 0, .int .i64 0, .int .i64 0, .int .i64 0, .int .i64 0, .int .i64 0, .int .i64 0, .int .i64 0, .int .i64 0, .int .i64 0, .int .i64 0, .int .i64 0, .int .i64 0, .int .i64 0, .int .i64 0, .int .i64 0, .int .i64 0, .int .i64 0, .int .i64 0, .int .i64 0, .int .i64 0, .int .i64 0, .int .i64 0, .int .i64 0, .int .i64 0, .bool false]) 31 Tryz.underlying40 hi hz0 hz1 _ _ _ _ n rfl rfl rfl rfl (by rw [hz2]; omega) (by unfold maxLen; omega) (Nat.le_refl _) ?_))
    intro w1 hown hgrow
    have HOW := Lib.hid hown
    have HB0 := Lib.hid ((Below.refl w.heap.size w).grown hgrow (Nat.le_refl _) (fun _ h => by cases h))
    clear hown hgrow
    generalize (madeCells (Value.agg #[.string ⟨#[]⟩, .int .i64 0, .string ⟨#[]⟩, .int .i64 0, .int .i64 0, .int .i64 0, .int .i64 0, .int .i64 0, .int .i64 0, .int .i64 0, .int .i64 0, .int .i64 0, .int .i64 0, .int .i64 0, .int .i64 0, .int .i64 0, .int .i64 0, .int .i64 0, .int .i64 0, .int .i64 0, .int .i64 0, .int .i64 0, .int .i64 0, .int .i64 0, .int .i64 0, .int .i64 0, .int .i64 0, .int .i64 0, .int .i64 0, .int .i64 0, .bool false]).cells (n * 31)).toList = xs0 at HOW
    go_wp2
    go_loopw [4] (fun i wr => ∃ (k : Nat) (xs : List Value), k ≤ n ∧ i = .int .i64 k ∧ Hid (wr.ownsRow w.heap.size 89 31 (.slice (some ⟨w.heap.size, 0, none⟩) n n) n xs) ∧ Hid (xs.take (k * 31) = ccs (ls.take k)) ∧ Hid (Below w.heap.size w wr)) (fun i _ => n - (intOf i).toNat)
    case atStart => exact ⟨0, _, Nat.zero_le _, rfl, HOW, Lib.hid rfl, HB0⟩
    case round =>
      obtain ⟨k, xs, hk, rfl, HO, HT, HB⟩ := hrel
      clear HOW HB0
      by_cases hlt : k < n
      · have hlt' : k < ls.length := by rw [HN.out]; exact hlt
        have hrd := cset_read (fun j u hu => (HB.out.cell hbl).trans (HC.out j u hu)) k hlt'
        obtain ⟨x, HX⟩ : ∃ x, Hid (x = ls[k]) := ⟨_, Lib.hid rfl⟩
        rw [← HX.out] at hrd
        have HRD := Lib.hid hrd
        have hk1 : (k : Int) < (n : Int) := by omega
        clear hrd
        go_wp2_with (refine wpList_load_cs rfl _ rfl aggSetL rfl (cc x) (cc_length x) HRD.out ?_)
        refine (toCoreSet_any x _).mono ?_
        rintro e w2 ⟨rfl, hb2⟩
        have HB1 := Lib.hid (HB.out.trans (hb2.mono HB.out.size))
        have HO1 := Lib.hid (own_kept HO.out (w' := w2) (fun b e => hb2.block b (by have := HO.out.lt b e; omega)))
        have hxl : xs.length = n * 31 := HO.out.1
        have HM := Lib.hid (show ∀ j, j < (cc x).length → (∃ u, w2.cell? ⟨w.heap.size, k * 31 + 0 + j, none⟩ = some u) ∧ w2.frozen? ⟨w.heap.size, k * 31 + 0 + j, none⟩ = false from fun j hj => by
          rw [cc_length] at hj
          obtain ⟨⟨u, _, hc⟩, hf, _, _⟩ := own_at HO1.out (k * 31 + 0 + j) (by omega)
          exact ⟨⟨u, hc⟩, hf⟩)
        have HO2 := Lib.hid (own_putC (cc x) HO1.out (k * 31) (by rw [cc_length]; omega))
        have HB2 := Lib.hid (putC_below HB1.out w.heap.size (k * 31) (Nat.le_refl _) (cc x))
        have HT2 := Lib.hid (show (xs.take (k * 31) ++ cc x ++ xs.drop (k * 31 + (cc x).length)).take ((k + 1) * 31) = ccs (ls.take (k + 1)) from by
          rw [HT.out, List.take_left' (by rw [List.length_append, ccs_length, cc_length, List.length_take]; omega), List.take_succ_eq_append_getElem hlt', ccs_snoc, ← HX.out])
        clear hb2 HO HO1 HB HB1 HT HRD
        go_wp2_with (refine wpList_store_cs rfl _ _ rfl rfl aggSet rfl (cc x) rfl (cc_length x) (cc_one x) HM.out ?_; generalize putC w2 w.heap.size (k * 31) (cc x) = W2 at HO2 HB2 ⊢)
        go_roundw
        case rel => exact ⟨k + 1, _, by omega, by go_num, HO2, HT2, HB2⟩
        case measure => simp [intOf]; omega
      · have hkn : k = n := by omega
        have HX := Lib.hid (show xs = ccs ls from by
          have hl := HO.out.1
          have ht := HT.out
          rw [List.take_of_length_le (by omega), List.take_of_length_le (by rw [HN.out]; omega)] at ht
          exact ht)
        clear hkn
        go_wp2
        go_ret
        refine ⟨_, rfl, ?_, HB.out⟩
        rw [HN.out, ← HX.out]
        exact HO.out

set_option maxHeartbeats 2000000 in
theorem eqCoreSetS_same (va vb : Value) (ls : List CSetM) (w : World) (ha : Sl w 31 va ls.length (ccs ls)) (hb : Sl w 31 vb ls.length (ccs ls)) (hva : ∀ b, va.ownBlock = some b → b < w.heap.size) (hvb : ∀ b, vb.ownBlock = some b → b < w.heap.size) (hs : ls.length ≤ 1048576) :
    Calls Tryz.prog 69 #[va, vb] w fun e w' => e = .returned (.bool true) ∧ Below w.heap.size w w' := by
  obtain ⟨n, HN⟩ : ∃ n, Hid (ls.length = n) := ⟨_, Lib.hid rfl⟩
  rw [HN.out] at ha hb hs
  have hnot : ∀ (x : Bool) (w : World), (Op.unary .not (.bool x)).run Tryz.prog w = .ok (.bool (!x)) w := fun _ _ => rfl
  by_cases hn : n = 0
  · subst hn
    obtain ⟨_, A, c, rfl, _, _, _⟩ := ha
    obtain ⟨_, A', c', rfl, _, _, _⟩ := hb
    clear hva hvb
    go_enter Tryz.func69, Tryz.ntmps69
    go_wp2
    go_loopw [5] (fun i wr => i = .int .i64 0 ∧ wr = w) (fun _ _ => 0)
    case atStart => exact ⟨rfl, rfl⟩
    case round =>
      obtain ⟨rfl, rfl⟩ := hrel
      go_wp2
      go_ret
      exact ⟨rfl, Below.refl _ _⟩
  · obtain ⟨b, off, c, rfl, hnc, hcm, hcell⟩ := ha.form (by omega)
    obtain ⟨b', off', c', rfl, hnc', hcm', hcell'⟩ := hb.form (by omega)
    have hbl : b < w.heap.size := hva b rfl
    have hbl' : b' < w.heap.size := hvb b' rfl
    have HC := Lib.hid hcell
    have HC' := Lib.hid hcell'
    unfold maxLen at hcm hcm'
    clear hcell hcell' ha hb hva hvb
    go_enter Tryz.func69, Tryz.ntmps69
    go_wp2
    go_loopw [5] (fun i wr => ∃ (k : Nat), k ≤ n ∧ i = .int .i64 k ∧ Hid (Below w.heap.size w wr)) (fun i _ => n - (intOf i).toNat)
    case atStart => exact ⟨0, Nat.zero_le _, rfl, Lib.hid (Below.refl _ _)⟩
    case round =>
      obtain ⟨k, hk, rfl, HB⟩ := hrel
      by_cases hlt : k < n
      · have hlt' : k < ls.length := by rw [HN.out]; exact hlt
        have hrd := cset_read (fun j u hu => (HB.out.cell hbl).trans (HC.out j u hu)) k hlt'
        have hrd' := cset_read (fun j u hu => (HB.out.cell hbl').trans (HC'.out j u hu)) k hlt'
        have hbr : b < wr.heap.size := Nat.lt_of_lt_of_le hbl HB.out.size
        have hbr' : b' < wr.heap.size := Nat.lt_of_lt_of_le hbl' HB.out.size
        generalize ls[k] = y at hrd hrd'
        have hk1 : (k : Int) < (n : Int) := by omega
        go_wp2_with fail
        refine wp_region_held_drew (S := fun w' => (∀ j u, (cc y)[j]? = some u → w'.cell? ⟨b, off + k * 31 + j, none⟩ = some u) ∧ (∀ j u, (cc y)[j]? = some u → w'.cell? ⟨b', off' + k * 31 + j, none⟩ = some u)) (by kernel_rfl) ⟨hrd, hrd'⟩ (fun hHeld => ?_)
        refine wpAnyH_take (i := 0) (v := ?_) rfl (by kernel_rfl) (by kernel_rfl) (by kernel_rfl) (fun _ _ _ h => h) (Or.inl ⟨by first | kernel_rfl | rfl, ?_⟩) (by assumption) ?_
        rotate_left
        · (intro w' hSw; clear hSw; go_simp; try with_reducible rfl)
        try simp only [Act.put]
        refine wpAnyH_take (i := 1) (v := ?_) rfl (by kernel_rfl) (by kernel_rfl) (by kernel_rfl) (fun _ _ _ h => h) (Or.inl ⟨by first | kernel_rfl | rfl, ?_⟩) (by assumption) ?_
        rotate_left
        · (intro w' hSw; clear hSw; go_simp; try with_reducible rfl)
        try simp only [Act.put]
        refine wpAnyH_take (i := 2) (v := ?_) rfl (by kernel_rfl) (by kernel_rfl) (by kernel_rfl) (fun _ _ _ h => h) (Or.inl ⟨by first | kernel_rfl | rfl, ?_⟩) (by assumption) ?_
        rotate_left
        · (intro w' hSw; clear hSw; go_simp; try with_reducible rfl)
        try simp only [Act.put]
        refine wpAnyH_take (i := 3) (v := .agg (cc y).toArray) rfl (by kernel_rfl) (by kernel_rfl) (by kernel_rfl) (fun _ _ _ h => h) (Or.inl ⟨by first | kernel_rfl | rfl, fun w' hSw => exec_load_cs _ rfl aggSet rfl (cc y) (cc_length y) hSw.1⟩) (by assumption) ?_
        try simp only [Act.put]
        refine wpAnyH_take (i := 4) (v := ?_) rfl (by kernel_rfl) (by kernel_rfl) (by kernel_rfl) (fun _ _ _ h => h) (Or.inl ⟨by first | kernel_rfl | rfl, ?_⟩) (by assumption) ?_
        rotate_left
        · (intro w' hSw; clear hSw; go_simp; try with_reducible rfl)
        try simp only [Act.put]
        refine wpAnyH_take (i := 5) (v := ?_) rfl (by kernel_rfl) (by kernel_rfl) (by kernel_rfl) (fun _ _ _ h => h) (Or.inl ⟨by first | kernel_rfl | rfl, ?_⟩) (by assumption) ?_
        rotate_left
        · (intro w' hSw; clear hSw; go_simp; try with_reducible rfl)
        try simp only [Act.put]
        refine wpAnyH_take (i := 6) (v := ?_) rfl (by kernel_rfl) (by kernel_rfl) (by kernel_rfl) (fun _ _ _ h => h) (Or.inl ⟨by first | kernel_rfl | rfl, ?_⟩) (by assumption) ?_
        rotate_left
        · (intro w' hSw; clear hSw; go_simp; try with_reducible rfl)
        try simp only [Act.put]
        refine wpAnyH_take (i := 7) (v := .agg (cc y).toArray) rfl (by kernel_rfl) (by kernel_rfl) (by kernel_rfl) (fun _ _ _ h => h) (Or.inl ⟨by first | kernel_rfl | rfl, fun w' hSw => exec_load_cs _ rfl aggSet rfl (cc y) (cc_length y) hSw.2⟩) (by assumption) ?_
        try simp only [Act.put]
        refine wpAnyH_ready (rs := [8]) (by kernel_rfl) (by simp) ?_
        refine AllReadyH.cons rfl (fun K hK => ?_) AllReadyH.nil
        go_simp
        go_at_call 118
        refine (eqCoreSet_same y _).mono ?_
        rintro e w2 ⟨rfl, hb2⟩
        go_wp2_with fail
        refine hK.out _ _ ⟨fun j u hu => (hb2.cell (by exact hbr)).trans (hrd j u hu), fun j u hu => (hb2.cell (by exact hbr')).trans (hrd' j u hu)⟩ (fun hHeld2 => ?_)
        clear hK K
        try simp only [Act.put]
        refine wpAnyH_take (i := 9) (v := ?_) rfl (by kernel_rfl) (by kernel_rfl) (by kernel_rfl) (fun _ _ _ h => h) (Or.inl ⟨by first | kernel_rfl | rfl, ?_⟩) (by assumption) ?_
        rotate_left
        · (intro w' hSw; clear hSw; go_simp; try with_reducible rfl)
        try simp only [Act.put]
        refine wpAnyH_done (by kernel_rfl) ?_ _
        go_simp
        clear hHeld hHeld2
        have HB2 := Lib.hid (HB.out.drew.trans (hb2.mono HB.out.size))
        clear HB hb2 hrd hrd'
        go_wp2
        go_roundw
        case rel => exact ⟨k + 1, by omega, by go_num, HB2⟩
        case measure => simp [intOf]; omega
      · go_wp2
        go_ret
        exact ⟨rfl, HB.out⟩
end Go.Proofs.YtobjgdnmlibofaaGreat

/-
  The document's BookOk.
-/
import Derived.Test.YtobjgdnmlibofaaGreatSpecRoots
import Derived.Deep.RegionHeld3
import Derived.Laws.Cover1
set_option maxRecDepth 100000
namespace Go.Proofs.YtobjgdnmlibofaaGreat
open Go.ChangeShapes Go.WideShapes Go.ChangeAt Go.RowKit Go.Proofs.Palim

/-- The sets before k are right, each behind the one before it. -/
def GoodTo (ls : List SetM) (k : Nat) : Prop := ∀ (j : Nat) (h : j < ls.length), j < k → SetOkM ls[j] ∧ ∀ (_ : 0 < j), Lt (ls[j - 1]'(by omega)).name ls[j].name
theorem asc_of_adj {ls : List SetM} (h : ∀ (j : Nat) (h : j < ls.length) (_ : 0 < j), Lt (ls[j - 1]'(by omega)).name ls[j].name) : Asc ls := by
  unfold Asc
  rw [List.pairwise_iff_getElem]
  intro i j hi hj hij
  induction j with
  | zero => omega
  | succ j ih =>
    have h1 := h (j + 1) hj (by omega)
    simp only [Nat.add_sub_cancel] at h1
    by_cases e : i = j
    · subst e; exact h1
    · exact (ih (by omega) (by omega)).trans h1
theorem good_all {ls : List SetM} {k : Nat} (h : GoodTo ls k) (hk : ls.length ≤ k) : (∀ x ∈ ls, SetOkM x) ∧ Asc ls := by
  refine ⟨fun x hx => ?_, asc_of_adj fun j hj h0 => (h j hj (by omega)).2 h0⟩
  obtain ⟨i, hi, rfl⟩ := List.mem_iff_getElem.1 hx
  exact (h i hi (by omega)).1
theorem bad_set {ls : List SetM} {k : Nat} (hk : k < ls.length) (h : ¬ SetOkM ls[k]) : decide (BookOkM ls) = false :=
  decide_eq_false fun c => h (c.2.1 _ (List.getElem_mem hk))
theorem bad_asc {ls : List SetM} {k : Nat} (hk : k < ls.length) (h0 : 0 < k) (h : ¬ Lt (ls[k - 1]'(by omega)).name ls[k].name) : decide (BookOkM ls) = false :=
  decide_eq_false fun c => h ((List.pairwise_iff_getElem.1 c.2.2.1) (k - 1) k (by omega) hk (by omega))
theorem bad_len {ls : List SetM} (h : 6 < ls.length) : decide (BookOkM ls) = false := decide_eq_false fun c => by have := c.1; omega
theorem bad_root {ls : List SetM} {k : Nat} (hk : k < ls.length) (h : rootsM ls ls.length ls[k] = false) : decide (BookOkM ls) = false :=
  decide_eq_false fun c => by have := c.2.2.2 _ (List.getElem_mem hk); rw [h] at this; cases this
theorem good_book {ls : List SetM} (hl : ls.length ≤ 6) (h : GoodTo ls ls.length) (hr : ∀ (j : Nat) (h : j < ls.length), rootsM ls ls.length ls[j] = true) : decide (BookOkM ls) = true := by
  obtain ⟨h1, h2⟩ := good_all h (Nat.le_refl _)
  refine decide_eq_true ⟨hl, h1, h2, fun x hx => ?_⟩
  obtain ⟨i, hi, rfl⟩ := List.mem_iff_getElem.1 hx
  exact hr i hi
theorem good_succ {ls : List SetM} {k : Nat} (h : GoodTo ls k) (hk : k < ls.length) (h1 : SetOkM ls[k]) (h2 : ∀ (_ : 0 < k), Lt (ls[k - 1]'(by omega)).name ls[k].name) : GoodTo ls (k + 1) := by
  intro j hj hjk
  rcases Nat.lt_succ_iff_lt_or_eq.1 hjk with h3 | rfl
  · exact h j hj h3
  · exact ⟨h1, h2⟩
theorem leq_iff {a b : ByteArray} : (Op.bytesLess a.toList b.toList || a.toList == b.toList) = !decide (Lt b a) := by
  by_cases h : Lt b a
  · rw [decide_eq_true h]
    have h1 : Op.bytesLess a.toList b.toList = false := by
      cases h2 : Op.bytesLess a.toList b.toList with
      | false => rfl
      | true => exact absurd (h.trans h2) (Lt.irr _)
    have h2 : (a.toList == b.toList) = false := beq_eq_false_iff_ne.2 fun e => h.ne (toList_inj e).symm
    rw [h1, h2]; rfl
  · rw [decide_eq_false h]
    by_cases h1 : Lt a b
    · have : Op.bytesLess a.toList b.toList = true := h1
      rw [this]; rfl
    · rw [Lt.total h1 h]; simp

theorem BookName_is (s : ByteArray) (r : Bool) (w : World) (hs : s.size ≤ 1048576) (hr : decide (NameOk s) = r) :
    Calls Tryz.prog 101 #[.string s] w fun e w' => e = .returned (.bool r) ∧ w' = w := hr ▸ BookName_any s w (by unfold maxLen; omega)

set_option maxHeartbeats 4000000 in
theorem BookOk_any (v : Value) (ls : List SetM) (w : World) (h : BookR w v ls) (hs : BookShort ls) :
    Calls Tryz.prog 56 #[.agg #[v]] w fun e w' => e = .returned (.bool (decide (BookOkM ls))) ∧ Below w.heap.size w w' := by
  have hnot : ∀ (x : Bool) (w : World), (Op.unary .not (.bool x)).run Tryz.prog w = .ok (.bool (!x)) w := fun _ _ => rfl
  obtain ⟨ok, HOK⟩ : ∃ ok, Hid (decide (BookOkM ls) = ok) := ⟨_, Lib.hid rfl⟩
  rw [HOK.out]
  have HS := Lib.hid hs
  have hb0 := Below.new1 (w := w) (.cells #[v] 94)
  have XB := Lib.hid (bbox_new h 94)
  have HW := Lib.hid hb0
  clear hs hb0
  obtain ⟨A, c, rfl⟩ := h.form
  clear h
  obtain ⟨n, HL⟩ : ∃ n, Hid (ls.length = n) := ⟨_, Lib.hid rfl⟩
  have hn := HS.out.n
  rw [HL.out] at XB HW hn ⊢
  by_cases hbig : 6 < n
  · have HF := Lib.hid (HOK.out.symm.trans (bad_len (by rw [HL.out]; exact hbig)))
    go_enter Tryz.func56, Tryz.ntmps56
    go_wp2
    go_ret
    exact ⟨ret_boolB HF.out.symm, HW.out⟩
  go_enter Tryz.func56, Tryz.ntmps56
  go_wp2
  generalize w.alloc (.cells #[.slice A n c] 94) = W at XB HW
  go_loopw [3, 4, 5] (fun i _ _ wr => ∃ (k : Nat), k ≤ n ∧ i = .int .i64 k ∧ Hid (BBox wr w.heap.size w.heap.size (.slice A n c) ls) ∧ Hid (Below w.heap.size w wr) ∧ Hid (GoodTo ls k)) (fun i _ _ _ => n - (intOf i).toNat)
  case atStart => exact ⟨0, Nat.zero_le _, rfl, XB, HW, Lib.hid (fun j _ h => absurd h (Nat.not_lt_zero _))⟩
  case round =>
    obtain ⟨k, hk, rfl, XB1, HW1, HG⟩ := hrel
    clear XB HW
    have x0 := XB1.out.cell
    by_cases hlt : k < n
    · have hl0 : k < ls.length := by rw [HL.out]; exact hlt
      have hcells := XB1.out.reads.r
      rw [HL.out] at hcells
      obtain ⟨b, off, c', hv, hnc, hcm, hcell⟩ := hcells.form (by omega)
      injection hv with e1 e2 e3
      subst e1 e3
      clear e2 hcells
      unfold maxLen at hcm
      have hbl : b < wr.heap.size := XB1.out.reads.l b rfl
      obtain ⟨g0, g1, g2, g3, g4, g5, g6, g7, g8, g9, g10⟩ := (set_read hcell k hl0).all
      have hk1 : (k : Int) < (n : Int) := by omega
      obtain ⟨hzn, -, -⟩ := HS.out.z ls[k] (List.getElem_mem hl0)
      have HBS := Lib.hid (fun h => HOK.out.symm.trans (bad_set hl0 h))
      have HGS := Lib.hid (fun h1 h2 => good_succ HG.out hl0 h1 h2)
      obtain ⟨p, HP, HBA⟩ : ∃ p : SetM, Hid (∀ _ : 0 < k, SetAt wr b (off + (k - 1) * 11) p) ∧ Hid ((∀ _ : 0 < k, ¬ Lt p.name ls[k].name → ok = false) ∧ (∀ _ : 0 < k, Lt p.name ls[k].name → Lt (ls[k - 1]'(by omega)).name ls[k].name)) := by
        by_cases h : 0 < k
        · exact ⟨ls[k - 1]'(by omega), Lib.hid (fun _ => set_read hcell (k - 1) (by omega)), Lib.hid ⟨fun _ hh => HOK.out.symm.trans (bad_asc hl0 h hh), fun _ hh => hh⟩⟩
        · exact ⟨ls[k], Lib.hid (fun h' => absurd h' h), Lib.hid ⟨fun h' => absurd h' h, fun h' => absurd h' h⟩⟩
      have HGN := Lib.hid (show SetOkM ls[k] → (∀ _ : 0 < k, Lt p.name ls[k].name) → GoodTo ls (k + 1) from fun h1 h2 => HGS.out h1 fun h0 => HBA.out.2 h0 (h2 h0))
      have HBA1 := Lib.hid HBA.out.1
      clear HGS HBA
      generalize ls[k] = y at g0 g1 g2 g3 g4 g5 g6 g7 g8 g9 g10 hzn HBS HBA1 HGN
      clear hcell hl0
      go_wp2_with fail
      have hnw := Below.new1 (w := wr) (.cells #[.string y.name, .int .i64 y.kind, .string y.frm, .string y.b0, .string y.b1, .string y.b2, .string y.b3, .string y.b4, .string y.b5, .string y.b6, .string y.b7] 140)
      have XB2 := Lib.hid (XB1.out.below hnw)
      have HXS := Lib.hid (show Box _ wr.heap.size (kc y) from box_new wr #[.string y.name, .int .i64 y.kind, .string y.frm, .string y.b0, .string y.b1, .string y.b2, .string y.b3, .string y.b4, .string y.b5, .string y.b6, .string y.b7] 140)
      have HP2 := Lib.hid (fun h0 => (HP.out h0).below hnw hbl)
      have HW2 := Lib.hid (HW1.out.trans (hnw.mono HW1.out.size))
      clear XB1 HP HW1 hnw x0 g0 g1 g2 g3 g4 g5 g6 g7 g8 g9 g10 hbl
      generalize wr.alloc (.cells #[.string y.name, .int .i64 y.kind, .string y.frm, .string y.b0, .string y.b1, .string y.b2, .string y.b3, .string y.b4, .string y.b5, .string y.b6, .string y.b7] 140) = W1 at XB2 HXS HP2 HW2
      have x0 := XB2.out.cell
      have s0 := HXS.out.cell 0 rfl
      have s1 := HXS.out.cell 1 rfl
      by_cases hnm : NameOk y.name
      case neg =>
        have hnr := decide_eq_false hnm
        have HF := Lib.hid (HBS.out fun c => hnm c.1)
        go_quiet ((go_at_call 101; exact Calls.quiet_of_same (BookName_is _ _ _ hzn hnr)))
        go_wp2
        go_ret
        exact ⟨ret_boolB HF.out.symm, below_drewN HW2.out _⟩
      case pos =>
      have hnr := decide_eq_true hnm
      have HNM := Lib.hid hnm
      clear hnm
      have HBS2 := Lib.hid (show ¬ (y.kind = 1 ∨ y.kind = 2) → ok = false from fun hh => HBS.out fun c => hh c.2.1)
      have HBS3 := Lib.hid (show ¬ (∀ s ∈ y.bs, s.size ≤ 24) → ok = false from fun hh => HBS.out fun c => hh c.2.2)
      clear HBS
      by_cases hk0 : k = 0
      · subst hk0
        have HGN2 := Lib.hid (fun h1 h2 => HGN.out ⟨HNM.out, h1, h2⟩ (fun h0 => absurd h0 (Nat.lt_irrefl _)))
        have hd0 : decide ((0 : Int) < 0) = false := rfl
        clear HGN HP2 HBA1
        by_cases hkd : y.kind = 1 ∨ y.kind = 2
        case neg =>
          have HF := Lib.hid (HBS2.out hkd)
          by_cases hk3 : y.kind < 1
          · go_quiet ((go_at_call 101; exact Calls.quiet_of_same (BookName_is _ _ _ hzn hnr)))
            go_wp2
            go_ret
            exact ⟨ret_boolB HF.out.symm, below_drewN HW2.out _⟩
          · have hk4 : y.kind > 2 := by omega
            have hk3z : decide (y.kind < 1) = false := decide_eq_false hk3
            go_quiet ((go_at_call 101; exact Calls.quiet_of_same (BookName_is _ _ _ hzn hnr)))
            go_wp2
            go_ret
            exact ⟨ret_boolB HF.out.symm, below_drewN HW2.out _⟩
        case pos =>
        have hk3z : decide (y.kind < 1) = false := decide_eq_false (by omega)
        have hk4z : decide (y.kind > 2) = false := decide_eq_false (by omega)
        have HGN3 := Lib.hid (HGN2.out hkd)
        clear HGN2 hkd HBS2
        go_quiet ((go_at_call 101; exact Calls.quiet_of_same (BookName_is _ _ _ hzn hnr)))
        go_wp2
        go_loop [5] (fun i => ∃ j : Nat, j ≤ 8 ∧ i = .int .i64 j ∧ Hid (∀ (i : Nat) (h : i < y.bs.length), i < j → y.bs[i].size ≤ 24)) (fun i => 8 - (intOf i).toNat)
        case atStart => exact ⟨0, Nat.zero_le _, rfl, Lib.hid (fun j _ h => absurd h (Nat.not_lt_zero _))⟩
        case round =>
          obtain ⟨j, hj, rfl, HJ⟩ := hrel
          by_cases hj8 : j < 8
          · have hjl : j < y.bs.length := hj8
            have sj : W1.cell? ⟨wr.heap.size, 3 + j, none⟩ = some (.string y.bs[j]) := by have := (setAt_of_box HXS.out).blk j hj8; rwa [Nat.zero_add] at this
            have HBJ := Lib.hid (show ¬ y.bs[j].size ≤ 24 → ok = false from fun hh => HBS3.out fun c => hh (c _ (List.getElem_mem hjl)))
            have HJ2 := Lib.hid (show y.bs[j].size ≤ 24 → ∀ (i : Nat) (h : i < y.bs.length), i < j + 1 → y.bs[i].size ≤ 24 from fun hh i h hi => by
              rcases Nat.lt_succ_iff_lt_or_eq.1 hi with h3 | rfl
              · exact HJ.out i h h3
              · exact hh)
            generalize y.bs[j] = t at sj HBJ HJ2
            by_cases ht : t.size ≤ 24
            · have HJ3 := Lib.hid (HJ2.out ht)
              have htz : ¬ (t.size : Int) > 24 := by omega
              clear HJ HJ2 HBJ
              go_wp2
              go_round
              case rel => exact ⟨j + 1, by omega, by go_num, HJ3⟩
              case measure => simp [intOf]; omega
            · have HF := Lib.hid (HBJ.out ht)
              have htz : (t.size : Int) > 24 := by omega
              clear HJ HJ2 HBJ
              go_wp2
              go_ret
              exact ⟨ret_boolB HF.out.symm, below_drewN HW2.out _⟩
          · have HG2 := Lib.hid (HGN3.out fun s hs => by
              obtain ⟨i, hi, rfl⟩ := List.mem_iff_getElem.1 hs
              exact HJ.out i hi (by have : y.bs.length = 8 := rfl; omega))
            clear HJ
            go_wp2
            go_roundw
            case rel => exact ⟨_, by omega, by go_num, Lib.hid (XB2.out.below (below_drewN (Below.refl _ _) _)), Lib.hid (below_drewN HW2.out _), HG2⟩
            case measure => simp [intOf]; omega
      · obtain ⟨k, rfl⟩ : ∃ k', k = k' + 1 := ⟨k - 1, by omega⟩
        have p0 := (HP2.out (by omega)).all.1
        rw [Nat.add_sub_cancel] at p0
        have hkk : ((k + 1 : Nat) : Int) > 0 := by omega
        have hlq := leq_iff (a := y.name) (b := p.name)
        have hki : (k : Int) < (n : Int) := by omega
        have hwr : IntKind.i64.wrap (k : Int) = k := IntWalk.i64_in _ (by omega)
        by_cases hpy : Lt p.name y.name
        case neg =>
          have HF := Lib.hid (HBA1.out (by omega) hpy)
          simp only [decide_eq_false hpy, Bool.not_false] at hlq
          clear HGN HP2 HBA1 hpy
          go_quiet ((go_at_call 101; exact Calls.quiet_of_same (BookName_is _ _ _ hzn hnr)))
          go_wp2
          go_ret
          exact ⟨ret_boolB HF.out.symm, below_drewN HW2.out _⟩
        case pos =>
        simp only [decide_eq_true hpy, Bool.not_true] at hlq
        have HGN2 := Lib.hid (fun h1 h2 => HGN.out ⟨HNM.out, h1, h2⟩ (fun _ => hpy))
        clear HGN HP2 HBA1 hpy
        by_cases hkd : y.kind = 1 ∨ y.kind = 2
        case neg =>
          have HF := Lib.hid (HBS2.out hkd)
          by_cases hk3 : y.kind < 1
          · go_quiet ((go_at_call 101; exact Calls.quiet_of_same (BookName_is _ _ _ hzn hnr)))
            go_wp2
            go_ret
            exact ⟨ret_boolB HF.out.symm, below_drewN HW2.out _⟩
          · have hk4 : y.kind > 2 := by omega
            have hk3z : decide (y.kind < 1) = false := decide_eq_false hk3
            go_quiet ((go_at_call 101; exact Calls.quiet_of_same (BookName_is _ _ _ hzn hnr)))
            go_wp2
            go_ret
            exact ⟨ret_boolB HF.out.symm, below_drewN HW2.out _⟩
        case pos =>
        have hk3z : decide (y.kind < 1) = false := decide_eq_false (by omega)
        have hk4z : decide (y.kind > 2) = false := decide_eq_false (by omega)
        have HGN3 := Lib.hid (HGN2.out hkd)
        clear HGN2 hkd HBS2
        go_quiet ((go_at_call 101; exact Calls.quiet_of_same (BookName_is _ _ _ hzn hnr)))
        go_wp2
        go_loop [5] (fun i => ∃ j : Nat, j ≤ 8 ∧ i = .int .i64 j ∧ Hid (∀ (i : Nat) (h : i < y.bs.length), i < j → y.bs[i].size ≤ 24)) (fun i => 8 - (intOf i).toNat)
        case atStart => exact ⟨0, Nat.zero_le _, rfl, Lib.hid (fun j _ h => absurd h (Nat.not_lt_zero _))⟩
        case round =>
          obtain ⟨j, hj, rfl, HJ⟩ := hrel
          by_cases hj8 : j < 8
          · have hjl : j < y.bs.length := hj8
            have sj : W1.cell? ⟨wr.heap.size, 3 + j, none⟩ = some (.string y.bs[j]) := by have := (setAt_of_box HXS.out).blk j hj8; rwa [Nat.zero_add] at this
            have HBJ := Lib.hid (show ¬ y.bs[j].size ≤ 24 → ok = false from fun hh => HBS3.out fun c => hh (c _ (List.getElem_mem hjl)))
            have HJ2 := Lib.hid (show y.bs[j].size ≤ 24 → ∀ (i : Nat) (h : i < y.bs.length), i < j + 1 → y.bs[i].size ≤ 24 from fun hh i h hi => by
              rcases Nat.lt_succ_iff_lt_or_eq.1 hi with h3 | rfl
              · exact HJ.out i h h3
              · exact hh)
            generalize y.bs[j] = t at sj HBJ HJ2
            by_cases ht : t.size ≤ 24
            · have HJ3 := Lib.hid (HJ2.out ht)
              have htz : ¬ (t.size : Int) > 24 := by omega
              clear HJ HJ2 HBJ
              go_wp2
              go_round
              case rel => exact ⟨j + 1, by omega, by go_num, HJ3⟩
              case measure => simp [intOf]; omega
            · have HF := Lib.hid (HBJ.out ht)
              have htz : (t.size : Int) > 24 := by omega
              clear HJ HJ2 HBJ
              go_wp2
              go_ret
              exact ⟨ret_boolB HF.out.symm, below_drewN HW2.out _⟩
          · have HG2 := Lib.hid (HGN3.out fun s hs => by
              obtain ⟨i, hi, rfl⟩ := List.mem_iff_getElem.1 hs
              exact HJ.out i hi (by have : y.bs.length = 8 := rfl; omega))
            clear HJ
            go_wp2
            go_roundw
            case rel => exact ⟨_, by omega, by go_num, Lib.hid (XB2.out.below (below_drewN (Below.refl _ _) _)), Lib.hid (below_drewN HW2.out _), HG2⟩
            case measure => simp [intOf]; omega
    · have HG2 := Lib.hid (show GoodTo ls ls.length from by rw [HL.out, show n = k by omega]; exact HG.out)
      obtain ⟨HSO, HAS⟩ : Hid (∀ x ∈ ls, SetOkM x) ∧ Hid (Asc ls) := ⟨Lib.hid (good_all HG2.out (Nat.le_refl _)).1, Lib.hid (good_all HG2.out (Nat.le_refl _)).2⟩
      clear HG
      go_wp2
      go_loopw [6] (fun i wr => ∃ (k : Nat), k ≤ n ∧ i = .int .i64 k ∧ Hid (BBox wr w.heap.size w.heap.size (.slice A n c) ls) ∧ Hid (Below w.heap.size w wr) ∧ Hid (∀ (j : Nat) (h : j < ls.length), j < k → rootsM ls ls.length ls[j] = true)) (fun i _ => n - (intOf i).toNat)
      case atStart => exact ⟨0, Nat.zero_le _, rfl, XB1, HW1, Lib.hid (fun j _ h => absurd h (Nat.not_lt_zero _))⟩
      case round =>
        clear hk hlt x0
        obtain ⟨m, hm, rfl, XB2, HW2, HK⟩ := hrel
        clear XB1 HW1
        have x0 := XB2.out.cell
        by_cases hlt : m < n
        · have hl0 : m < ls.length := by rw [HL.out]; exact hlt
          have hcells := XB2.out.reads.r
          rw [HL.out] at hcells
          obtain ⟨b, off, c', hv, hnc, hcm, hcell⟩ := hcells.form (by omega)
          injection hv with e1 e2 e3
          subst e1 e3
          clear e2 hcells
          unfold maxLen at hcm
          obtain ⟨g0, g1, g2, g3, g4, g5, g6, g7, g8, g9, g10⟩ := (set_read hcell m hl0).all
          have hk1 : (m : Int) < (n : Int) := by omega
          have hblw : b < w.heap.size := XB2.out.low b rfl
          have hbx := XB2.out.box.lt
          have hbr : b < wr.heap.size := by omega
          have RD := Lib.hid XB2.out.reads.drew
          have HCT := Lib.hid (fun w' (hR : BookR w' (.slice (some ⟨b, off, none⟩) n c) ls) => l4Roots_any _ ls ls[m] w' hR (by rw [HL.out]; omega) (fun z hz => And.left (HSO.out z hz)) HAS.out)
          have HMEM := Lib.hid (roots_more ls (List.getElem_mem hl0))
          have HRB := Lib.hid (show rootsM ls ls.length ls[m] = false → ok = false from fun hh => HOK.out.symm.trans (bad_root hl0 hh))
          have HK1 := Lib.hid (show rootsM ls ls.length ls[m] = true → ∀ (j : Nat) (h : j < ls.length), j < m + 1 → rootsM ls ls.length ls[j] = true from fun hh j h hj => by
            rcases Nat.lt_succ_iff_lt_or_eq.1 hj with h3 | rfl
            · exact HK.out j h h3
            · exact hh)
          generalize ls[m] = y at g0 g1 g2 g3 g4 g5 g6 g7 g8 g9 g10 HMEM HRB HK1 HCT
          clear hcell hl0 HK
          obtain ⟨r, HR⟩ : ∃ r, Hid (rootsM ls ls.length y = r) := ⟨_, Lib.hid rfl⟩
          rw [HMEM.out, HR.out] at HCT
          go_wp2_with fail
          go_region_held3 (fun w' => w'.cell? ⟨w.heap.size, 0, none⟩ = some (.slice (some ⟨b, off, none⟩) n c) ∧ w'.cell? ⟨b, off + m * 11, none⟩ = some (.string y.name) ∧ w'.cell? ⟨b, off + m * 11 + 1, none⟩ = some (.int .i64 y.kind) ∧ w'.cell? ⟨b, off + m * 11 + 2, none⟩ = some (.string y.frm) ∧ w'.cell? ⟨b, off + m * 11 + 3, none⟩ = some (.string y.b0) ∧ w'.cell? ⟨b, off + m * 11 + 4, none⟩ = some (.string y.b1) ∧ w'.cell? ⟨b, off + m * 11 + 5, none⟩ = some (.string y.b2) ∧ w'.cell? ⟨b, off + m * 11 + 6, none⟩ = some (.string y.b3) ∧ w'.cell? ⟨b, off + m * 11 + 7, none⟩ = some (.string y.b4) ∧ w'.cell? ⟨b, off + m * 11 + 8, none⟩ = some (.string y.b5) ∧ w'.cell? ⟨b, off + m * 11 + 9, none⟩ = some (.string y.b6) ∧ w'.cell? ⟨b, off + m * 11 + 10, none⟩ = some (.string y.b7))
            (first
              | go_keep
              | (go_split_ands
                 refine ⟨?_, ?_, ?_, ?_, ?_, ?_, ?_, ?_, ?_, ?_, ?_, ?_⟩
                 all_goals (rw [hb2.cell (by simp <;> omega)]; assumption)))
            ((go_at_call 102; ((with_reducible refine (HCT.out _ RD.out).mono ?_); rintro e w2 ⟨rfl, hb2⟩)))
          all_goals
            have hb3 := (below_drewB wr).trans (show Below wr.heap.size wr.drew w2 from hb2)
            have XB3 := Lib.hid (XB2.out.below hb3)
            have HW3 := Lib.hid (HW2.out.trans (hb3.mono HW2.out.size))
            clear hb2 hb3 XB2 HW2 RD x0 g0 g1 g2 g3 g4 g5 g6 g7 g8 g9 g10
            cases r with
            | true =>
              have HK2 := Lib.hid (HK1.out HR.out)
              go_wp2
              go_roundw
              case rel => exact ⟨m + 1, by omega, by go_num, XB3, HW3, HK2⟩
              case measure => simp [intOf]; omega
            | false =>
              have HF := Lib.hid (HRB.out HR.out)
              go_wp2
              go_ret
              exact ⟨ret_boolB HF.out.symm, HW3.out⟩
        · have HF := Lib.hid (HOK.out.symm.trans (good_book (by rw [HL.out]; omega) HG2.out fun j h => HK.out j h (by have := HL.out; omega)))
          go_wp2
          go_ret
          exact ⟨ret_boolB HF.out.symm, HW2.out⟩
end Go.Proofs.YtobjgdnmlibofaaGreat

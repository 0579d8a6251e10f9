/-
  Texts joined into one.
-/
import Derived.Test.YtojjenclcidnkaaGreatDoorRoots
import Derived.Deep.RegionHeld3
import Derived.Laws.Cover1
import Derived.Maps.OwnSet

/-
  The document's BookOk.
-/
set_option maxRecDepth 100000
namespace Go.Proofs.YtojjenclcidnkaaGreatDoor
open Go.ChangeShapes Go.WideShapes Go.ChangeAt Go.RowKit Go.Proofs.Palim

/-- The sets before k are right, each behind the one before it. -/
def GoodTo (ls : List SetM) (k : Nat) : Prop := ∀ (j : Nat) (h : j < ls.length), j < k → SetOkM ls[j] ∧ ∀ (_ : 0 < j), Lt (ls[j - 1]'(by omega)).name ls[j].name
theorem asc_of_adj {ls : List SetM} (h : ∀ (j : Nat) (h : j < ls.length) (_ : 0 < j), Lt (ls[j - 1]'(by omega)).name ls[j].name) : Asc ls := by
  unfold Asc
  rw [List.pairwise_iff_getElem]
  intro i j hi hj hij
  induction j with
  | zero => omega
  | succ j ih =>
    have h1 := h (j + 1) hj (by omega)
    simp only [Nat.add_sub_cancel] at h1
    by_cases e : i = j
    · subst e; exact h1
    · exact (ih (by omega) (by omega)).trans h1
theorem good_all {ls : List SetM} {k : Nat} (h : GoodTo ls k) (hk : ls.length ≤ k) : (∀ x ∈ ls, SetOkM x) ∧ Asc ls := by
  refine ⟨fun x hx => ?_, asc_of_adj fun j hj h0 => (h j hj (by omega)).2 h0⟩
  obtain ⟨i, hi, rfl⟩ := List.mem_iff_getElem.1 hx
  exact (h i hi (by omega)).1
theorem bad_set {ls : List SetM} {k : Nat} (hk : k < ls.length) (h : ¬ SetOkM ls[k]) : decide (BookOkM ls) = false :=
  decide_eq_false fun c => h (c.2.1 _ (List.getElem_mem hk))
theorem bad_asc {ls : List SetM} {k : Nat} (hk : k < ls.length) (h0 : 0 < k) (h : ¬ Lt (ls[k - 1]'(by omega)).name ls[k].name) : decide (BookOkM ls) = false :=
  decide_eq_false fun c => h ((List.pairwise_iff_getElem.1 c.2.2.1) (k - 1) k (by omega) hk (by omega))
theorem bad_len {ls : List SetM} (h : 6 < ls.length) : decide (BookOkM ls) = false := decide_eq_false fun c => by have := c.1; omega
theorem bad_root {ls : List SetM} {k : Nat} (hk : k < ls.length) (h : rootsM ls ls.length ls[k] = false) : decide (BookOkM ls) = false :=
  decide_eq_false fun c => by have := c.2.2.2 _ (List.getElem_mem hk); rw [h] at this; cases this
theorem good_book {ls : List SetM} (hl : ls.length ≤ 6) (h : GoodTo ls ls.length) (hr : ∀ (j : Nat) (h : j < ls.length), rootsM ls ls.length ls[j] = true) : decide (BookOkM ls) = true := by
  obtain ⟨h1, h2⟩ := good_all h (Nat.le_refl _)
  refine decide_eq_true ⟨hl, h1, h2, fun x hx => ?_⟩
  obtain ⟨i, hi, rfl⟩ := List.mem_iff_getElem.1 hx
  exact hr i hi
theorem good_succ {ls : List SetM} {k : Nat} (h : GoodTo ls k) (hk : k < ls.length) (h1 : SetOkM ls[k]) (h2 : ∀ (_ : 0 < k), Lt (ls[k - 1]'(by omega)).name ls[k].name) : GoodTo ls (k + 1) := by
  intro j hj hjk
  rcases Nat.lt_succ_iff_lt_or_eq.1 hjk with h3 | rfl
  · exact h j hj h3
  · exact ⟨h1, h2⟩
theorem leq_iff {a b : ByteArray} : (Op.bytesLess a.toList b.toList || a.toList == b.toList) = !decide (Lt b a) := by
  by_cases h : Lt b a
  · rw [decide_eq_true h]
    have h1 : Op.bytesLess a.toList b.toList = false := by
      cases h2 : Op.bytesLess a.toList b.toList with
      | false => rfl
      | true => exact absurd (h.trans h2) (Lt.irr _)
    have h2 : (a.toList == b.toList) = false := beq_eq_false_iff_ne.2 fun e => h.ne (toList_inj e).symm
    rw [h1, h2]; rfl
  · rw [decide_eq_false h]
    by_cases h1 : Lt a b
    · have : Op.bytesLess a.toList b.toList = true := h1
      rw [this]; rfl
    · rw [Lt.total h1 h]; simp

theorem BookName_is (s : ByteArray) (r : Bool) (w : World) (hs : s.size ≤ 1048576) (hr : decide (NameOk s) = r) :
    Calls Tryz.prog 76 #[.string s] w fun e w' => e = .returned (.bool r) ∧ w' = w := hr ▸ BookName_any s w (by unfold maxLen; omega)

set_option maxHeartbeats 4000000 in
theorem BookOk_any (v : Value) (ls : List SetM) (w : World) (h : BookR w v ls) (hs : BookShort ls) :
    Calls Tryz.prog 30 #[.agg #[v]] w fun e w' => e = .returned (.bool (decide (BookOkM ls))) ∧ Below w.heap.size w w' := by
  have hnot : ∀ (x : Bool) (w : World), (Op.unary .not (.bool x)).run Tryz.prog w = .ok (.bool (!x)) w := fun _ _ => rfl
  obtain ⟨ok, HOK⟩ : ∃ ok, Hid (decide (BookOkM ls) = ok) := ⟨_, Lib.hid rfl⟩
  rw [HOK.out]
  have HS := Lib.hid hs
  have hb0 := Below.new1 (w := w) (.cells #[v] 63)
  have XB := Lib.hid (bbox_new h 63)
  have HW := Lib.hid hb0
  clear hs hb0
  obtain ⟨A, c, rfl⟩ := h.form
  clear h
  obtain ⟨n, HL⟩ : ∃ n, Hid (ls.length = n) := ⟨_, Lib.hid rfl⟩
  have hn := HS.out.n
  rw [HL.out] at XB HW hn ⊢
  by_cases hbig : 6 < n
  · have HF := Lib.hid (HOK.out.symm.trans (bad_len (by rw [HL.out]; exact hbig)))
    go_enter Tryz.func30, Tryz.ntmps30
    go_wp2
    go_ret
    exact ⟨ret_boolB HF.out.symm, HW.out⟩
  go_enter Tryz.func30, Tryz.ntmps30
  go_wp2
  generalize w.alloc (.cells #[.slice A n c] 63) = W at XB HW
  go_loopw [3, 4, 5] (fun i _ _ wr => ∃ (k : Nat), k ≤ n ∧ i = .int .i64 k ∧ Hid (BBox wr w.heap.size w.heap.size (.slice A n c) ls) ∧ Hid (Below w.heap.size w wr) ∧ Hid (GoodTo ls k)) (fun i _ _ _ => n - (intOf i).toNat)
  case atStart => exact ⟨0, Nat.zero_le _, rfl, XB, HW, Lib.hid (fun j _ h => absurd h (Nat.not_lt_zero _))⟩
  case round =>
    obtain ⟨k, hk, rfl, XB1, HW1, HG⟩ := hrel
    clear XB HW
    have x0 := XB1.out.cell
    by_cases hlt : k < n
    · have hl0 : k < ls.length := by rw [HL.out]; exact hlt
      have hcells := XB1.out.reads.r
      rw [HL.out] at hcells
      obtain ⟨b, off, c', hv, hnc, hcm, hcell⟩ := hcells.form (by omega)
      injection hv with e1 e2 e3
      subst e1 e3
      clear e2 hcells
      unfold maxLen at hcm
      have hbl : b < wr.heap.size := XB1.out.reads.l b rfl
      obtain ⟨g0, g1, g2, g3, g4, g5, g6, g7, g8, g9, g10⟩ := (set_read hcell k hl0).all
      have hk1 : (k : Int) < (n : Int) := by omega
      obtain ⟨hzn, -, -⟩ := HS.out.z ls[k] (List.getElem_mem hl0)
      have HBS := Lib.hid (fun h => HOK.out.symm.trans (bad_set hl0 h))
      have HGS := Lib.hid (fun h1 h2 => good_succ HG.out hl0 h1 h2)
      obtain ⟨p, HP, HBA⟩ : ∃ p : SetM, Hid (∀ _ : 0 < k, SetAt wr b (off + (k - 1) * 11) p) ∧ Hid ((∀ _ : 0 < k, ¬ Lt p.name ls[k].name → ok = false) ∧ (∀ _ : 0 < k, Lt p.name ls[k].name → Lt (ls[k - 1]'(by omega)).name ls[k].name)) := by
        by_cases h : 0 < k
        · exact ⟨ls[k - 1]'(by omega), Lib.hid (fun _ => set_read hcell (k - 1) (by omega)), Lib.hid ⟨fun _ hh => HOK.out.symm.trans (bad_asc hl0 h hh), fun _ hh => hh⟩⟩
        · exact ⟨ls[k], Lib.hid (fun h' => absurd h' h), Lib.hid ⟨fun h' => absurd h' h, fun h' => absurd h' h⟩⟩
      have HGN := Lib.hid (show SetOkM ls[k] → (∀ _ : 0 < k, Lt p.name ls[k].name) → GoodTo ls (k + 1) from fun h1 h2 => HGS.out h1 fun h0 => HBA.out.2 h0 (h2 h0))
      have HBA1 := Lib.hid HBA.out.1
      clear HGS HBA
      generalize ls[k] = y at g0 g1 g2 g3 g4 g5 g6 g7 g8 g9 g10 hzn HBS HBA1 HGN
      clear hcell hl0
      go_wp2_with fail
      have hnw := Below.new1 (w := wr) (.cells #[.string y.name, .int .i64 y.kind, .string y.frm, .string y.b0, .string y.b1, .string y.b2, .string y.b3, .string y.b4, .string y.b5, .string y.b6, .string y.b7] 97)
      have XB2 := Lib.hid (XB1.out.below hnw)
      have HXS := Lib.hid (show Box _ wr.heap.size (kc y) from box_new wr #[.string y.name, .int .i64 y.kind, .string y.frm, .string y.b0, .string y.b1, .string y.b2, .string y.b3, .string y.b4, .string y.b5, .string y.b6, .string y.b7] 97)
      have HP2 := Lib.hid (fun h0 => (HP.out h0).below hnw hbl)
      have HW2 := Lib.hid (HW1.out.trans (hnw.mono HW1.out.size))
      clear XB1 HP HW1 hnw x0 g0 g1 g2 g3 g4 g5 g6 g7 g8 g9 g10 hbl
      generalize wr.alloc (.cells #[.string y.name, .int .i64 y.kind, .string y.frm, .string y.b0, .string y.b1, .string y.b2, .string y.b3, .string y.b4, .string y.b5, .string y.b6, .string y.b7] 97) = W1 at XB2 HXS HP2 HW2
      have x0 := XB2.out.cell
      have s0 := HXS.out.cell 0 rfl
      have s1 := HXS.out.cell 1 rfl
      by_cases hnm : NameOk y.name
      case neg =>
        have hnr := decide_eq_false hnm
        have HF := Lib.hid (HBS.out fun c => hnm c.1)
        go_quiet ((go_at_call 76; exact Calls.quiet_of_same (BookName_is _ _ _ hzn hnr)))
        go_wp2
        go_ret
        exact ⟨ret_boolB HF.out.symm, below_drewN HW2.out _⟩
      case pos =>
      have hnr := decide_eq_true hnm
      have HNM := Lib.hid hnm
      clear hnm
      have HBS2 := Lib.hid (show ¬ (y.kind = 1 ∨ y.kind = 2) → ok = false from fun hh => HBS.out fun c => hh c.2.1)
      have HBS3 := Lib.hid (show ¬ (∀ s ∈ y.bs, s.size ≤ 24) → ok = false from fun hh => HBS.out fun c => hh c.2.2)
      clear HBS
      by_cases hk0 : k = 0
      · subst hk0
        have HGN2 := Lib.hid (fun h1 h2 => HGN.out ⟨HNM.out, h1, h2⟩ (fun h0 => absurd h0 (Nat.lt_irrefl _)))
        have hd0 : decide ((0 : Int) < 0) = false := rfl
        clear HGN HP2 HBA1
        by_cases hkd : y.kind = 1 ∨ y.kind = 2
        case neg =>
          have HF := Lib.hid (HBS2.out hkd)
          by_cases hk3 : y.kind < 1
          · go_quiet ((go_at_call 76; exact Calls.quiet_of_same (BookName_is _ _ _ hzn hnr)))
            go_wp2
            go_ret
            exact ⟨ret_boolB HF.out.symm, below_drewN HW2.out _⟩
          · have hk4 : y.kind > 2 := by omega
            have hk3z : decide (y.kind < 1) = false := decide_eq_false hk3
            go_quiet ((go_at_call 76; exact Calls.quiet_of_same (BookName_is _ _ _ hzn hnr)))
            go_wp2
            go_ret
            exact ⟨ret_boolB HF.out.symm, below_drewN HW2.out _⟩
        case pos =>
        have hk3z : decide (y.kind < 1) = false := decide_eq_false (by omega)
        have hk4z : decide (y.kind > 2) = false := decide_eq_false (by omega)
        have HGN3 := Lib.hid (HGN2.out hkd)
        clear HGN2 hkd HBS2
        go_quiet ((go_at_call 76; exact Calls.quiet_of_same (BookName_is _ _ _ hzn hnr)))
        go_wp2
        go_loop [5] (fun i => ∃ j : Nat, j ≤ 8 ∧ i = .int .i64 j ∧ Hid (∀ (i : Nat) (h : i < y.bs.length), i < j → y.bs[i].size ≤ 24)) (fun i => 8 - (intOf i).toNat)
        case atStart => exact ⟨0, Nat.zero_le _, rfl, Lib.hid (fun j _ h => absurd h (Nat.not_lt_zero _))⟩
        case round =>
          obtain ⟨j, hj, rfl, HJ⟩ := hrel
          by_cases hj8 : j < 8
          · have hjl : j < y.bs.length := hj8
            have sj : W1.cell? ⟨wr.heap.size, 3 + j, none⟩ = some (.string y.bs[j]) := by have := (setAt_of_box HXS.out).blk j hj8; rwa [Nat.zero_add] at this
            have HBJ := Lib.hid (show ¬ y.bs[j].size ≤ 24 → ok = false from fun hh => HBS3.out fun c => hh (c _ (List.getElem_mem hjl)))
            have HJ2 := Lib.hid (show y.bs[j].size ≤ 24 → ∀ (i : Nat) (h : i < y.bs.length), i < j + 1 → y.bs[i].size ≤ 24 from fun hh i h hi => by
              rcases Nat.lt_succ_iff_lt_or_eq.1 hi with h3 | rfl
              · exact HJ.out i h h3
              · exact hh)
            generalize y.bs[j] = t at sj HBJ HJ2
            by_cases ht : t.size ≤ 24
            · have HJ3 := Lib.hid (HJ2.out ht)
              have htz : ¬ (t.size : Int) > 24 := by omega
              clear HJ HJ2 HBJ
              go_wp2
              go_round
              case rel => exact ⟨j + 1, by omega, by go_num, HJ3⟩
              case measure => simp [intOf]; omega
            · have HF := Lib.hid (HBJ.out ht)
              have htz : (t.size : Int) > 24 := by omega
              clear HJ HJ2 HBJ
              go_wp2
              go_ret
              exact ⟨ret_boolB HF.out.symm, below_drewN HW2.out _⟩
          · have HG2 := Lib.hid (HGN3.out fun s hs => by
              obtain ⟨i, hi, rfl⟩ := List.mem_iff_getElem.1 hs
              exact HJ.out i hi (by have : y.bs.length = 8 := rfl; omega))
            clear HJ
            go_wp2
            go_roundw
            case rel => exact ⟨_, by omega, by go_num, Lib.hid (XB2.out.below (below_drewN (Below.refl _ _) _)), Lib.hid (below_drewN HW2.out _), HG2⟩
            case measure => simp [intOf]; omega
      · obtain ⟨k, rfl⟩ : ∃ k', k = k' + 1 := ⟨k - 1, by omega⟩
        have p0 := (HP2.out (by omega)).all.1
        rw [Nat.add_sub_cancel] at p0
        have hkk : ((k + 1 : Nat) : Int) > 0 := by omega
        have hlq := leq_iff (a := y.name) (b := p.name)
        have hki : (k : Int) < (n : Int) := by omega
        have hwr : IntKind.i64.wrap (k : Int) = k := IntWalk.i64_in _ (by omega)
        by_cases hpy : Lt p.name y.name
        case neg =>
          have HF := Lib.hid (HBA1.out (by omega) hpy)
          simp only [decide_eq_false hpy, Bool.not_false] at hlq
          clear HGN HP2 HBA1 hpy
          go_quiet ((go_at_call 76; exact Calls.quiet_of_same (BookName_is _ _ _ hzn hnr)))
          go_wp2
          go_ret
          exact ⟨ret_boolB HF.out.symm, below_drewN HW2.out _⟩
        case pos =>
        simp only [decide_eq_true hpy, Bool.not_true] at hlq
        have HGN2 := Lib.hid (fun h1 h2 => HGN.out ⟨HNM.out, h1, h2⟩ (fun _ => hpy))
        clear HGN HP2 HBA1 hpy
        by_cases hkd : y.kind = 1 ∨ y.kind = 2
        case neg =>
          have HF := Lib.hid (HBS2.out hkd)
          by_cases hk3 : y.kind < 1
          · go_quiet ((go_at_call 76; exact Calls.quiet_of_same (BookName_is _ _ _ hzn hnr)))
            go_wp2
            go_ret
            exact ⟨ret_boolB HF.out.symm, below_drewN HW2.out _⟩
          · have hk4 : y.kind > 2 := by omega
            have hk3z : decide (y.kind < 1) = false := decide_eq_false hk3
            go_quiet ((go_at_call 76; exact Calls.quiet_of_same (BookName_is _ _ _ hzn hnr)))
            go_wp2
            go_ret
            exact ⟨ret_boolB HF.out.symm, below_drewN HW2.out _⟩
        case pos =>
        have hk3z : decide (y.kind < 1) = false := decide_eq_false (by omega)
        have hk4z : decide (y.kind > 2) = false := decide_eq_false (by omega)
        have HGN3 := Lib.hid (HGN2.out hkd)
        clear HGN2 hkd HBS2
        go_quiet ((go_at_call 76; exact Calls.quiet_of_same (BookName_is _ _ _ hzn hnr)))
        go_wp2
        go_loop [5] (fun i => ∃ j : Nat, j ≤ 8 ∧ i = .int .i64 j ∧ Hid (∀ (i : Nat) (h : i < y.bs.length), i < j → y.bs[i].size ≤ 24)) (fun i => 8 - (intOf i).toNat)
        case atStart => exact ⟨0, Nat.zero_le _, rfl, Lib.hid (fun j _ h => absurd h (Nat.not_lt_zero _))⟩
        case round =>
          obtain ⟨j, hj, rfl, HJ⟩ := hrel
          by_cases hj8 : j < 8
          · have hjl : j < y.bs.length := hj8
            have sj : W1.cell? ⟨wr.heap.size, 3 + j, none⟩ = some (.string y.bs[j]) := by have := (setAt_of_box HXS.out).blk j hj8; rwa [Nat.zero_add] at this
            have HBJ := Lib.hid (show ¬ y.bs[j].size ≤ 24 → ok = false from fun hh => HBS3.out fun c => hh (c _ (List.getElem_mem hjl)))
            have HJ2 := Lib.hid (show y.bs[j].size ≤ 24 → ∀ (i : Nat) (h : i < y.bs.length), i < j + 1 → y.bs[i].size ≤ 24 from fun hh i h hi => by
              rcases Nat.lt_succ_iff_lt_or_eq.1 hi with h3 | rfl
              · exact HJ.out i h h3
              · exact hh)
            generalize y.bs[j] = t at sj HBJ HJ2
            by_cases ht : t.size ≤ 24
            · have HJ3 := Lib.hid (HJ2.out ht)
              have htz : ¬ (t.size : Int) > 24 := by omega
              clear HJ HJ2 HBJ
              go_wp2
              go_round
              case rel => exact ⟨j + 1, by omega, by go_num, HJ3⟩
              case measure => simp [intOf]; omega
            · have HF := Lib.hid (HBJ.out ht)
              have htz : (t.size : Int) > 24 := by omega
              clear HJ HJ2 HBJ
              go_wp2
              go_ret
              exact ⟨ret_boolB HF.out.symm, below_drewN HW2.out _⟩
          · have HG2 := Lib.hid (HGN3.out fun s hs => by
              obtain ⟨i, hi, rfl⟩ := List.mem_iff_getElem.1 hs
              exact HJ.out i hi (by have : y.bs.length = 8 := rfl; omega))
            clear HJ
            go_wp2
            go_roundw
            case rel => exact ⟨_, by omega, by go_num, Lib.hid (XB2.out.below (below_drewN (Below.refl _ _) _)), Lib.hid (below_drewN HW2.out _), HG2⟩
            case measure => simp [intOf]; omega
    · have HG2 := Lib.hid (show GoodTo ls ls.length from by rw [HL.out, show n = k by omega]; exact HG.out)
      obtain ⟨HSO, HAS⟩ : Hid (∀ x ∈ ls, SetOkM x) ∧ Hid (Asc ls) := ⟨Lib.hid (good_all HG2.out (Nat.le_refl _)).1, Lib.hid (good_all HG2.out (Nat.le_refl _)).2⟩
      clear HG
      go_wp2
      go_loopw [6] (fun i wr => ∃ (k : Nat), k ≤ n ∧ i = .int .i64 k ∧ Hid (BBox wr w.heap.size w.heap.size (.slice A n c) ls) ∧ Hid (Below w.heap.size w wr) ∧ Hid (∀ (j : Nat) (h : j < ls.length), j < k → rootsM ls ls.length ls[j] = true)) (fun i _ => n - (intOf i).toNat)
      case atStart => exact ⟨0, Nat.zero_le _, rfl, XB1, HW1, Lib.hid (fun j _ h => absurd h (Nat.not_lt_zero _))⟩
      case round =>
        clear hk hlt x0
        obtain ⟨m, hm, rfl, XB2, HW2, HK⟩ := hrel
        clear XB1 HW1
        have x0 := XB2.out.cell
        by_cases hlt : m < n
        · have hl0 : m < ls.length := by rw [HL.out]; exact hlt
          have hcells := XB2.out.reads.r
          rw [HL.out] at hcells
          obtain ⟨b, off, c', hv, hnc, hcm, hcell⟩ := hcells.form (by omega)
          injection hv with e1 e2 e3
          subst e1 e3
          clear e2 hcells
          unfold maxLen at hcm
          obtain ⟨g0, g1, g2, g3, g4, g5, g6, g7, g8, g9, g10⟩ := (set_read hcell m hl0).all
          have hk1 : (m : Int) < (n : Int) := by omega
          have hblw : b < w.heap.size := XB2.out.low b rfl
          have hbx := XB2.out.box.lt
          have hbr : b < wr.heap.size := by omega
          have RD := Lib.hid XB2.out.reads.drew
          have HCT := Lib.hid (fun w' (hR : BookR w' (.slice (some ⟨b, off, none⟩) n c) ls) => l4Roots_any _ ls ls[m] w' hR (by rw [HL.out]; omega) (fun z hz => And.left (HSO.out z hz)) HAS.out)
          have HMEM := Lib.hid (roots_more ls (List.getElem_mem hl0))
          have HRB := Lib.hid (show rootsM ls ls.length ls[m] = false → ok = false from fun hh => HOK.out.symm.trans (bad_root hl0 hh))
          have HK1 := Lib.hid (show rootsM ls ls.length ls[m] = true → ∀ (j : Nat) (h : j < ls.length), j < m + 1 → rootsM ls ls.length ls[j] = true from fun hh j h hj => by
            rcases Nat.lt_succ_iff_lt_or_eq.1 hj with h3 | rfl
            · exact HK.out j h h3
            · exact hh)
          generalize ls[m] = y at g0 g1 g2 g3 g4 g5 g6 g7 g8 g9 g10 HMEM HRB HK1 HCT
          clear hcell hl0 HK
          obtain ⟨r, HR⟩ : ∃ r, Hid (rootsM ls ls.length y = r) := ⟨_, Lib.hid rfl⟩
          rw [HMEM.out, HR.out] at HCT
          go_wp2_with fail
          go_region_held3 (fun w' => w'.cell? ⟨w.heap.size, 0, none⟩ = some (.slice (some ⟨b, off, none⟩) n c) ∧ w'.cell? ⟨b, off + m * 11, none⟩ = some (.string y.name) ∧ w'.cell? ⟨b, off + m * 11 + 1, none⟩ = some (.int .i64 y.kind) ∧ w'.cell? ⟨b, off + m * 11 + 2, none⟩ = some (.string y.frm) ∧ w'.cell? ⟨b, off + m * 11 + 3, none⟩ = some (.string y.b0) ∧ w'.cell? ⟨b, off + m * 11 + 4, none⟩ = some (.string y.b1) ∧ w'.cell? ⟨b, off + m * 11 + 5, none⟩ = some (.string y.b2) ∧ w'.cell? ⟨b, off + m * 11 + 6, none⟩ = some (.string y.b3) ∧ w'.cell? ⟨b, off + m * 11 + 7, none⟩ = some (.string y.b4) ∧ w'.cell? ⟨b, off + m * 11 + 8, none⟩ = some (.string y.b5) ∧ w'.cell? ⟨b, off + m * 11 + 9, none⟩ = some (.string y.b6) ∧ w'.cell? ⟨b, off + m * 11 + 10, none⟩ = some (.string y.b7))
            (first
              | go_keep
              | (go_split_ands
                 refine ⟨?_, ?_, ?_, ?_, ?_, ?_, ?_, ?_, ?_, ?_, ?_, ?_⟩
                 all_goals (rw [hb2.cell (by simp <;> omega)]; assumption)))
            ((go_at_call 77; ((with_reducible refine (HCT.out _ RD.out).mono ?_); rintro e w2 ⟨rfl, hb2⟩)))
          all_goals
            have hb3 := (below_drewB wr).trans (show Below wr.heap.size wr.drew w2 from hb2)
            have XB3 := Lib.hid (XB2.out.below hb3)
            have HW3 := Lib.hid (HW2.out.trans (hb3.mono HW2.out.size))
            clear hb2 hb3 XB2 HW2 RD x0 g0 g1 g2 g3 g4 g5 g6 g7 g8 g9 g10
            cases r with
            | true =>
              have HK2 := Lib.hid (HK1.out HR.out)
              go_wp2
              go_roundw
              case rel => exact ⟨m + 1, by omega, by go_num, XB3, HW3, HK2⟩
              case measure => simp [intOf]; omega
            | false =>
              have HF := Lib.hid (HRB.out HR.out)
              go_wp2
              go_ret
              exact ⟨ret_boolB HF.out.symm, HW3.out⟩
        · have HF := Lib.hid (HOK.out.symm.trans (good_book (by rw [HL.out]; omega) HG2.out fun j h => HK.out j h (by have := HL.out; omega)))
          go_wp2
          go_ret
          exact ⟨ret_boolB HF.out.symm, HW2.out⟩
end Go.Proofs.YtojjenclcidnkaaGreatDoor

/-
  impl's sets by name: a map from names to boxes that hold a set each; bookOpen, and a set by itself.
-/
set_option maxRecDepth 100000
namespace Go.Proofs.YtojjenclcidnkaaGreatDoor
open Go.ChangeShapes Go.WideShapes Go.ChangeAt Go.RowKit Go.Proofs.Palim Go.Maps

theorem all8 (p : Nat → Prop) (h0 : p 0) (h1 : p 1) (h2 : p 2) (h3 : p 3) (h4 : p 4) (h5 : p 5) (h6 : p 6) (h7 : p 7) (k : Nat) (h : k < 8) : p k := by
  match k, h with
  | 0, _ => exact h0
  | 1, _ => exact h1
  | 2, _ => exact h2
  | 3, _ => exact h3
  | 4, _ => exact h4
  | 5, _ => exact h5
  | 6, _ => exact h6
  | 7, _ => exact h7
theorem idx8 (x : SetM) (k : Nat) (h : k < 8) (w : World) : (Instr.index 95 (.agg #[.string x.b0, .string x.b1, .string x.b2, .string x.b3, .string x.b4, .string x.b5, .string x.b6, .string x.b7]) (.int .i64 (k : Int))).run Tryz.prog w = .ok (.string (x.bs[k]'h)) w := by
  have h1 := all8 (fun k => (Instr.index 95 (.agg #[.string x.b0, .string x.b1, .string x.b2, .string x.b3, .string x.b4, .string x.b5, .string x.b6, .string x.b7]) (.int .i64 (k : Int))).run Tryz.prog w = .ok (.string (x.bs.getD k ⟨#[]⟩)) w)
    (by kernel_rfl) (by kernel_rfl) (by kernel_rfl) (by kernel_rfl) (by kernel_rfl) (by kernel_rfl) (by kernel_rfl) (by kernel_rfl) k h
  have e : x.bs.getD k ⟨#[]⟩ = x.bs[k]'h := by simp [List.getD, List.getElem?_eq_getElem (show k < x.bs.length from h)]; rfl
  rw [e] at h1
  exact h1

set_option maxHeartbeats 2000000 in
theorem bookSetOk_any (x : SetM) (w : World) (hz : x.name.size ≤ 1048576 ∧ x.frm.size ≤ 1048576 ∧ ∀ s ∈ x.bs, s.size ≤ 1048576) :
    Calls Tryz.prog 123 #[.agg #[.string x.name, .int .i64 x.kind, .string x.frm, .string x.b0, .string x.b1, .string x.b2, .string x.b3, .string x.b4, .string x.b5, .string x.b6, .string x.b7]] w fun e w' => e = .returned (.bool (decide (SetOkM x))) ∧ Below w.heap.size w w' := by
  have hnot : ∀ (x : Bool) (w : World), (Op.unary .not (.bool x)).run Tryz.prog w = .ok (.bool (!x)) w := fun _ _ => rfl
  obtain ⟨ok, HOK⟩ : ∃ ok, Hid (decide (SetOkM x) = ok) := ⟨_, Lib.hid rfl⟩
  rw [HOK.out]
  have hzn : x.name.size ≤ maxLen := by unfold maxLen; have := hz.1; omega
  have HZ := Lib.hid hz
  have HW := Lib.hid (Below.new1 (w := w) (.cells #[.string x.name, .int .i64 x.kind, .string x.frm, .string x.b0, .string x.b1, .string x.b2, .string x.b3, .string x.b4, .string x.b5, .string x.b6, .string x.b7] 97))
  clear hz
  by_cases hnm : NameOk x.name
  case neg =>
    have hnr := decide_eq_false hnm
    have HF := Lib.hid (HOK.out.symm.trans (decide_eq_false fun c => hnm c.1))
    go_enter Tryz.func123, Tryz.ntmps123
    go_wp2_with fail
    refine (ImplBookName_any x.name _ hzn).mono ?_
    rintro e w1 ⟨rfl, rfl⟩
    rw [hnr]
    go_wp2
    go_ret
    exact ⟨ret_boolB HF.out.symm, HW.out⟩
  case pos =>
  have hnr := decide_eq_true hnm
  by_cases hkd : x.kind = 1 ∨ x.kind = 2
  case neg =>
    have HF := Lib.hid (HOK.out.symm.trans (decide_eq_false fun c => hkd c.2.1))
    have hk1 : (x.kind != 1) = true := by simp; omega
    have hk2 : (x.kind != 2) = true := by simp; omega
    go_enter Tryz.func123, Tryz.ntmps123
    go_wp2_with fail
    refine (ImplBookName_any x.name _ hzn).mono ?_
    rintro e w1 ⟨rfl, rfl⟩
    rw [hnr]
    go_wp2
    go_ret
    exact ⟨ret_boolB HF.out.symm, HW.out⟩
  case pos =>
  have HGO := Lib.hid (show (∀ s ∈ x.bs, s.size ≤ 24) → ok = true from fun h => HOK.out.symm.trans (decide_eq_true ⟨hnm, hkd, h⟩))
  have HBA := Lib.hid (show ¬ (∀ s ∈ x.bs, s.size ≤ 24) → ok = false from fun h => HOK.out.symm.trans (decide_eq_false fun c => h c.2.2))
  have hk12 : ((x.kind != 1) = false ∧ True) ∨ ((x.kind != 1) = true ∧ (x.kind != 2) = false) := by
    rcases hkd with h | h
    · exact Or.inl ⟨by simp [h], trivial⟩
    · exact Or.inr ⟨by simp [h], by simp [h]⟩
  clear hkd hnm HOK
  rcases hk12 with ⟨hk1, _⟩ | ⟨hk1, hk2⟩
  all_goals
    go_enter Tryz.func123, Tryz.ntmps123
    go_wp2_with fail
    refine (ImplBookName_any x.name _ hzn).mono ?_
    rintro e w1 ⟨rfl, rfl⟩
    rw [hnr]
    go_wp2
    generalize w.alloc (.cells #[.string x.name, .int .i64 x.kind, .string x.frm, .string x.b0, .string x.b1, .string x.b2, .string x.b3, .string x.b4, .string x.b5, .string x.b6, .string x.b7] 97) = W at HW
    go_loop [4, 21] (fun _ i => ∃ j : Nat, j ≤ 8 ∧ i = .int .i64 j ∧ Hid (∀ (i : Nat) (h : i < x.bs.length), i < j → x.bs[i].size ≤ 24)) (fun _ i => 8 - (intOf i).toNat)
    case atStart => exact ⟨0, Nat.zero_le _, rfl, Lib.hid (fun j _ h => absurd h (Nat.not_lt_zero _))⟩
    case round =>
      obtain ⟨j, hj, rfl, HJ⟩ := hrel
      by_cases hj8 : j < 8
      · have hjl : j < x.bs.length := hj8
        have hix := idx8 x j hj8 W
        have hzt := HZ.out.2.2 _ (List.getElem_mem hjl)
        have HBJ := Lib.hid (show ¬ x.bs[j].size ≤ 24 → ok = false from fun hh => HBA.out fun c => hh (c _ (List.getElem_mem hjl)))
        have HJ2 := Lib.hid (show x.bs[j].size ≤ 24 → ∀ (i : Nat) (h : i < x.bs.length), i < j + 1 → x.bs[i].size ≤ 24 from fun hh i h hi => by
          rcases Nat.lt_succ_iff_lt_or_eq.1 hi with h3 | rfl
          · exact HJ.out i h h3
          · exact hh)
        generalize x.bs[j] = t at hix HBJ HJ2 hzt
        by_cases ht : t.size ≤ 24
        · have HJ3 := Lib.hid (HJ2.out ht)
          have htz : ¬ (t.size : Int) > 24 := by omega
          clear HJ HJ2 HBJ
          go_wp2
          go_round
          case rel => exact ⟨j + 1, by omega, by go_num, HJ3⟩
          case measure => simp [intOf]; omega
        · have HF := Lib.hid (HBJ.out ht)
          have htz : (t.size : Int) > 24 := by omega
          clear HJ HJ2 HBJ
          go_wp2
          go_ret
          exact ⟨ret_boolB HF.out.symm, HW.out⟩
      · have HG2 := Lib.hid (HGO.out fun s hs => by
          obtain ⟨i, hi, rfl⟩ := List.mem_iff_getElem.1 hs
          exact HJ.out i hi (by have : x.bs.length = 8 := rfl; omega))
        clear HJ
        go_wp2
        go_ret
        exact ⟨ret_boolB HG2.out.symm, HW.out⟩

/-- How a pointer to a box reads; and nil. -/
def ptrE : Value → Option (DataW Unit × List MemPlace)
  | .pointer none => some (.lit (.bool false), [])
  | .pointer (some ⟨b, 0, none⟩) => some (.lit (.int .i64 (b : Int)), [])
  | _ => none
def kL (s : ByteArray) : Lit := .string s.data.toList
def pD (b : Nat) : DataW Unit := .lit (.int .i64 (b : Int))
def nD : DataW Unit := .lit (.bool false)
theorem ptrE_inv {v : Value} {b : Nat} {ps : List MemPlace} (h : ptrE v = some (pD b, ps)) : v = .pointer (some ⟨b, 0, none⟩) := by
  unfold ptrE at h
  split at h
  · simp [pD] at h
  · simp only [pD, Option.some.injEq, Prod.mk.injEq, DataW.lit.injEq, Lit.int.injEq, true_and] at h
    have : _ = b := Int.ofNat.inj h.1
    rw [this]
  · cases h
theorem ptrE_nil {v : Value} {ps : List MemPlace} (h : ptrE v = some (nD, ps)) : v = .pointer none := by
  unfold ptrE at h
  split at h
  · rfl
  · simp [nD] at h
  · cases h
theorem kL_inj {a b : ByteArray} (h : kL a = kL b) : a = b := by
  unfold kL at h
  injection h with h
  cases a; cases b
  simp only [ByteArray.mk.injEq]
  exact Array.toList_inj.1 h
theorem kL_key (s : ByteArray) : WideAt.IsKeyLit (kL s) := by simp [kL, WideAt.IsKeyLit]

/-- Where a name leads. -/
def lookB (L : List (ByteArray × Nat)) (s : ByteArray) : Option Nat := (L.find? (fun p => decide (p.1 = s))).map (·.2)
theorem look_app_new {L : List (ByteArray × Nat)} {s : ByteArray} {b : Nat} (h : lookB L s = none) (t : ByteArray) : lookB (L ++ [(s, b)]) t = if t = s then some b else lookB L t := by
  unfold lookB at h ⊢
  rw [List.find?_append]
  by_cases e : t = s
  · subst e
    have h' : L.find? (fun p => decide (p.1 = t)) = none := by simpa using h
    rw [h']; simp
  · rw [if_neg e]
    have : ([(s, b)].find? fun p => decide (p.1 = t)) = none := by
      simp only [List.find?_cons, List.find?_nil]
      rw [decide_eq_false (fun c => e c.symm)]
    rw [this]; simp
/-- The map m leads from each of these names to its block. -/
def MapB (w : World) (m : Nat) (L : List (ByteArray × Nat)) : Prop :=
  ∃ D, w.ownsMap Tryz.prog 9 ptrE m L.length D ∧ Maps.size D = L.length ∧ ∀ s : ByteArray, s.size ≤ maxLen → Maps.has D (kL s) = (lookB L s).isSome ∧ D.atKey (kL s) nD = ((lookB L s).map pD).getD nD

section
variable {w : World} {m : Nat} {L : List (ByteArray × Nat)}
theorem keyB : Keyed Tryz.prog 9 := string_keyed Tryz.underlying9
theorem keyOfB {s : ByteArray} (h : s.size ≤ maxLen) : keyOf Tryz.prog 9 (.string s) = some (kL s) := WideMaps.keyOf_string_mk (P := Tryz.prog) Tryz.underlying9 h
theorem owns_tight {R : Value → Option (DataW Unit × List MemPlace)} {n : Nat} {D : DataW Unit} (h : w.ownsMap Tryz.prog 9 R m n D) : w.ownsMap Tryz.prog 9 R m (Maps.size D) D := by
  obtain ⟨es, clock, hb, F, hs, rfl⟩ := h
  exact ⟨es, clock, hb, F, by simp [Maps.size, length_sorted], rfl⟩
theorem mapB_made (w : World) : MapB (w.alloc (.map #[] 0)) w.heap.size [] :=
  ⟨.map [], World.ownsMap_made w Tryz.prog 9 ptrE, rfl, fun s _ => ⟨rfl, rfl⟩⟩
theorem MapB.lt (h : MapB w m L) : m < w.heap.size := by obtain ⟨D, ho, _⟩ := h; exact ho.lt
theorem MapB.kept {w' : World} (h : MapB w m L) (hk : w'.heap[m]? = w.heap[m]?) : MapB w' m L := by
  obtain ⟨D, ⟨es, clock, hb, rest⟩, h2⟩ := h
  exact ⟨D, ⟨es, clock, hk.trans hb, rest⟩, h2⟩
theorem MapB.below {w' : World} {B : Nat} (h : MapB w m L) (hb : Below B w w') (hB : m < B) : MapB w' m L := h.kept (hb.block m hB)
theorem MapB.notBox {b : Nat} {vs : List Value} (h : MapB w m L) (hx : Box w b vs) : b ≠ m := by
  rintro rfl
  obtain ⟨D, ⟨es, clock, hb, _⟩, _⟩ := h
  obtain ⟨c, e, hc, _⟩ := hx
  rw [hb] at hc
  cases hc
theorem zeroPtr (w : World) : (zeroValue 209).run Tryz.prog w = .ok (.pointer none) w := by kernel_rfl
def lookV (o : Option Nat) : Value := .tuple #[.pointer (o.map fun b => ⟨b, 0, none⟩), .bool o.isSome]
theorem MapB.look (h : MapB w m L) {s : ByteArray} (hs : s.size ≤ maxLen) : (Instr.lookup 180 (.map (some m)) (.string s) true).run Tryz.prog w = .ok (lookV (lookB L s)) w := by
  obtain ⟨D, ho, _, hl⟩ := h
  obtain ⟨v, ps, hrun, hv⟩ := ho.look_ok keyB Tryz.underlying180 (zeroPtr w) (zd := nD) (zp := []) rfl (keyOfB hs)
  obtain ⟨h1, h2⟩ := hl s hs
  rw [hrun, h1]
  rw [h2] at hv
  unfold lookV
  cases hlk : lookB L s with
  | none => rw [hlk] at hv; rw [ptrE_nil hv]; rfl
  | some b => rw [hlk] at hv; rw [ptrE_inv hv]; rfl
theorem MapB.len (h : MapB w m L) (ty : TypeId) : (Builtin.len_ #[180] ty #[.map (some m)]).run Tryz.prog w = .ok (.int .i64 (L.length : Int)) w := by
  obtain ⟨D, ho, hsz, _⟩ := h
  rw [ho.len Tryz.underlying180 ty, hsz]
theorem MapB.put (h : MapB w m L) {s : ByteArray} (hs : s.size ≤ maxLen) (hn : lookB L s = none) (hlen : L.length < 100) (b : Nat) :
    ∃ w', (Instr.mapUpdate 180 (.map (some m)) (.string s) (.pointer (some ⟨b, 0, none⟩))).run Tryz.prog w = .ok () w' ∧ MapB w' m (L ++ [(s, b)]) ∧ w.mapTurned w' m := by
  obtain ⟨D, ho, hsz, hl⟩ := h
  obtain ⟨w', hrun, ho', hturn⟩ := ho.store keyB Tryz.underlying180 (by unfold maxLen; omega) (key := .string s) (val := .pointer (some ⟨b, 0, none⟩)) (d := pD b) (ps := []) (keyOfB hs) rfl
  have hT := ho.tidy keyB
  have hh : Maps.has D (kL s) = false := by rw [(hl s hs).1, hn]; rfl
  have hs2 : Maps.size (D.put (kL s) (pD b)) = (L ++ [(s, b)]).length := by rw [Maps.size_put hT, hh]; simp [hsz]
  refine ⟨w', hrun, ⟨_, hs2 ▸ owns_tight ho', hs2, fun t ht => ?_⟩, hturn⟩
  rw [look_app_new hn]
  by_cases e : t = s
  · subst e
    rw [if_pos rfl, Maps.has_put_same hT.isMap (kL_key t), Maps.atKey_put_same hT.isMap (kL_key t)]
    exact ⟨rfl, rfl⟩
  · rw [if_neg e, Maps.has_put_other (fun c => e (kL_inj c)), Maps.atKey_put_other (fun c => e (kL_inj c))]
    exact hl t ht
end
theorem below_mapTurned {B : Nat} {w0 w w' : World} {m : Nat} (h : Below B w0 w) (ht : w.mapTurned w' m) (hm : B ≤ m) : Below B w0 w' :=
  h.grown ht.grown (Nat.le_trans hm (by obtain ⟨es, c, _, _, hb, _⟩ := ht; exact Nat.le_of_lt (Array.getElem?_eq_some_iff.1 hb).1)) (fun j hj => by cases hj; exact hm)
theorem box_mapTurned {w w' : World} {m b : Nat} {vs : List Value} (h : Box w b vs) (ht : w.mapTurned w' m) (hb : b ≠ m) : Box w' b vs := h.kept (ht.grown.block b h.lt (fun e => hb (Option.some.inj e)))

/-- The sets by name: each in a box of its own. -/
structure SetsB (w : World) (base m : Nat) (Lb : List (Nat × SetM)) : Prop where
  map : MapB w m (Lb.map fun p => (p.2.name, p.1))
  hm : base ≤ m
  box : ∀ p ∈ Lb, Box w p.1 (kc p.2) ∧ base ≤ p.1
  names : Lb.Pairwise (fun p q => p.2.name ≠ q.2.name)
  apart : Lb.Pairwise (fun p q => p.1 ≠ q.1)
theorem SetsB.below {w w' : World} {base m : Nat} {Lb : List (Nat × SetM)} (h : SetsB w base m Lb) (hb : Below w.heap.size w w') : SetsB w' base m Lb :=
  ⟨h.map.below hb h.map.lt, h.hm, fun p hp => ⟨(h.box p hp).1.below hb (h.box p hp).1.lt, (h.box p hp).2⟩, h.names, h.apart⟩
theorem look_none {Lb : List (Nat × SetM)} {s : ByteArray} (h : ∀ p ∈ Lb, p.2.name ≠ s) : lookB (Lb.map fun p => (p.2.name, p.1)) s = none := by
  unfold lookB
  have : (Lb.map fun p => (p.2.name, p.1)).find? (fun p => decide (p.1 = s)) = none := by
    rw [List.find?_eq_none]
    intro q hq
    obtain ⟨p, hp, rfl⟩ := List.mem_map.1 hq
    simpa using h p hp
  rw [this]; rfl
theorem look_find : ∀ (Lb : List (Nat × SetM)) (s : ByteArray), (lookB (Lb.map fun p => (p.2.name, p.1)) s = none ∧ findM (Lb.map (·.2)) s = none) ∨ ∃ p ∈ Lb, lookB (Lb.map fun p => (p.2.name, p.1)) s = some p.1 ∧ findM (Lb.map (·.2)) s = some p.2 ∧ p.2.name = s
  | [], s => Or.inl ⟨rfl, rfl⟩
  | p :: Lb, s => by
    by_cases h : p.2.name = s
    · exact Or.inr ⟨p, by simp, by simp [lookB, h], by simp [findM, h], h⟩
    · have e1 : lookB ((p :: Lb).map fun p => (p.2.name, p.1)) s = lookB (Lb.map fun p => (p.2.name, p.1)) s := by simp [lookB, List.find?_cons, h]
      have e2 : findM ((p :: Lb).map (·.2)) s = findM (Lb.map (·.2)) s := by simp [findM, List.find?_cons, h]
      rw [e1, e2]
      rcases look_find Lb s with h | ⟨q, hq, h⟩
      · exact Or.inl h
      · exact Or.inr ⟨q, by simp [hq], h⟩

set_option maxHeartbeats 2000000 in
theorem bookOpen_any (v : Value) (ls : List SetM) (w : World) (h : BookR w v ls) (hl : ls.length ≤ 6) (ha : Asc ls) (hz : ∀ x ∈ ls, x.name.size ≤ maxLen) :
    Calls Tryz.prog 124 #[.agg #[v]] w fun e w' => ∃ m Lb, e = .returned (.map (some m)) ∧ SetsB w' w.heap.size m Lb ∧ Lb.map (·.2) = ls ∧ Below w.heap.size w w' := by
  have hmm := @run_makeMap Tryz.prog
  have HA := Lib.hid ha
  have HZ := Lib.hid hz
  have hb0 := Below.new1 (w := w) (.cells #[v] 63)
  have hb1 := hb0.trans ((Below.new1 (w := w.alloc (.cells #[v] 63)) (.map #[] 0)).mono hb0.size)
  have h1 := h.below hb1 (Nat.le_refl _)
  have HM0 := Lib.hid (mapB_made (w.alloc (.cells #[v] 63)))
  have HW0 := Lib.hid hb1
  clear ha hz hb0 hb1
  obtain ⟨A, c, rfl⟩ := h.form
  obtain ⟨n, HL⟩ : ∃ n, Hid (ls.length = n) := ⟨_, Lib.hid rfl⟩
  have hcells := h1.r
  have HLOW := Lib.hid h.l
  clear h1 h
  rw [HL.out] at hcells hl HM0 HW0 HLOW ⊢
  have hsz0 : ((w.alloc (.cells #[.slice A n c] 63)).alloc (.map #[] 0)).heap.size = w.heap.size + 2 := by simp
  by_cases hn : n = 0
  · subst hn
    have HE := Lib.hid (List.length_eq_zero_iff.1 HL.out)
    go_enter Tryz.func124, Tryz.ntmps124
    go_wp2
    go_loop [5, 10] (fun _ i => i = .int .i64 0) (fun _ _ => 0)
    case atStart => rfl
    case round =>
      subst hrel
      go_wp2
      go_ret
      exact ⟨_, rfl, [], ⟨by simpa using HM0.out, by omega, by simp, List.Pairwise.nil, List.Pairwise.nil⟩, by rw [HE.out]; rfl, HW0.out⟩
  · obtain ⟨b, off, c', hv, hnc, hcm, hcell⟩ := hcells.form (by omega)
    injection hv with e1 e2 e3
    subst e1 e3
    clear e2 hcells
    unfold maxLen at hcm
    have hbl : b < w.heap.size := HLOW.out b rfl
    have HC := Lib.hid hcell
    clear hcell
    go_enter Tryz.func124, Tryz.ntmps124
    go_wp2
    have HM1 : Hid (MapB ((w.alloc (.cells #[.slice (some ⟨b, off, none⟩) n c] 63)).alloc (.map #[] 0)) (w.heap.size + 1) []) := Lib.hid (by simpa using HM0.out)
    clear HM0
    generalize (w.alloc (.cells #[.slice (some ⟨b, off, none⟩) n c] 63)).alloc (.map #[] 0) = W at HM1 HW0 HC hsz0
    go_loopw [5, 10] (fun _ i wr => ∃ (k : Nat) (Lb : List (Nat × SetM)), k ≤ n ∧ i = .int .i64 k ∧ Hid (SetsB wr w.heap.size (w.heap.size + 1) Lb) ∧ Hid (Lb.map (·.2) = ls.take k) ∧ Hid (Below w.heap.size w wr) ∧ Hid (Below w.heap.size W wr)) (fun _ i _ => n - (intOf i).toNat)
    case atStart => exact ⟨0, [], Nat.zero_le _, rfl, Lib.hid ⟨HM1.out, by omega, by simp, List.Pairwise.nil, List.Pairwise.nil⟩, Lib.hid rfl, HW0, Lib.hid (Below.refl _ _)⟩
    case round =>
      obtain ⟨k, Lb, hk, rfl, HS, HT, HW, HV⟩ := hrel
      by_cases hlt : k < n
      · have hl0 : k < ls.length := by rw [HL.out]; exact hlt
        obtain ⟨g0, g1, g2, g3, g4, g5, g6, g7, g8, g9, g10⟩ := (set_read (fun j u hu => (HV.out.cell hbl).trans (HC.out j u hu)) k hl0).all
        have hk1 : (k : Int) < (n : Int) := by omega
        have hzn := HZ.out _ (List.getElem_mem hl0)
        have HT2 := Lib.hid (show ls.take (k + 1) = Lb.map (·.2) ++ [ls[k]] from by rw [List.take_succ_eq_append_getElem hl0, HT.out])
        have HNE := Lib.hid (show ∀ p ∈ Lb, p.2.name ≠ ls[k].name from fun p hp => by
          have hm : p.2 ∈ ls.take k := by rw [← HT.out]; exact List.mem_map_of_mem (f := (·.2)) hp
          obtain ⟨i, hi, e⟩ := List.mem_iff_getElem.1 hm
          have hi2 : i < k := by have := hi; rw [List.length_take] at this; omega
          rw [← e, List.getElem_take]
          exact ((List.pairwise_iff_getElem.1 HA.out) i k (by omega) hl0 hi2).ne)
        have hLbl : Lb.length = k := by have := congrArg List.length HT.out; rw [List.length_map, List.length_take] at this; omega
        generalize ls[k] = y at g0 g1 g2 g3 g4 g5 g6 g7 g8 g9 g10 hzn HT2 HNE
        clear hl0 HT
        have hsw := HS.out.map.lt
        have hnw := Below.new1 (w := wr) (.cells #[.string y.name, .int .i64 y.kind, .string y.frm, .string y.b0, .string y.b1, .string y.b2, .string y.b3, .string y.b4, .string y.b5, .string y.b6, .string y.b7] 97)
        have HS1 := Lib.hid (HS.out.below hnw)
        have HX := Lib.hid (show Box _ wr.heap.size (kc y) from box_new wr #[.string y.name, .int .i64 y.kind, .string y.frm, .string y.b0, .string y.b1, .string y.b2, .string y.b3, .string y.b4, .string y.b5, .string y.b6, .string y.b7] 97)
        have s0 := HX.out.cell 0 rfl
        have HW1 := Lib.hid (HW.out.trans (hnw.mono HW.out.size))
        have HV1 := Lib.hid (HV.out.trans (hnw.mono (Nat.le_trans (by omega) HV.out.size)))
        obtain ⟨w3, hrun, hm3, ht3⟩ := HS1.out.map.put hzn (look_none HNE.out) (by simp; omega) wr.heap.size
        have HS3 := Lib.hid (show SetsB w3 w.heap.size (w.heap.size + 1) (Lb ++ [(wr.heap.size, y)]) from by
          refine ⟨by simpa using hm3, by omega, fun p hp => ?_, ?_, ?_⟩
          · rcases List.mem_append.1 hp with hp | hp
            · have := HS1.out.box p hp
              exact ⟨box_mapTurned this.1 ht3 (HS1.out.map.notBox this.1), this.2⟩
            · obtain rfl : p = (wr.heap.size, y) := by simpa using hp
              exact ⟨box_mapTurned HX.out ht3 (HS1.out.map.notBox HX.out), by simp; omega⟩
          · rw [List.pairwise_append]
            exact ⟨HS.out.names, List.pairwise_singleton _ _, fun p hp q hq => by obtain rfl : q = (wr.heap.size, y) := by simpa using hq
                                                                                  exact HNE.out p hp⟩
          · rw [List.pairwise_append]
            exact ⟨HS.out.apart, List.pairwise_singleton _ _, fun p hp q hq => by obtain rfl : q = (wr.heap.size, y) := by simpa using hq
                                                                                  have := (HS.out.box p hp).1.lt
                                                                                  simp; omega⟩)
        have HW3 := Lib.hid (below_mapTurned HW1.out ht3 (by omega))
        have HV3 := Lib.hid (below_mapTurned HV1.out ht3 (by omega))
        clear HS HS1 HW HV HW1 HV1 hm3 ht3 hnw HX
        go_wp2
        go_roundw
        case rel => exact ⟨k + 1, _, by omega, by go_num, HS3, Lib.hid (by rw [HT2.out]; simp), HW3, HV3⟩
        case measure => simp [intOf]; omega
      · have HT2 := Lib.hid (show Lb.map (·.2) = ls from by rw [HT.out, List.take_of_length_le (by rw [HL.out]; omega)])
        go_wp2
        go_ret
        first
          | exact ⟨_, rfl, Lb, HS.out, HT2.out, HW.out⟩
          | exact ⟨_, Lb, rfl, HS.out, HT2.out, HW.out⟩
end Go.Proofs.YtojjenclcidnkaaGreatDoor

/-
  impl's rooted: following From by name.
-/
set_option maxRecDepth 100000
namespace Go.Proofs.YtojjenclcidnkaaGreatDoor
open Go.ChangeShapes Go.WideShapes Go.ChangeAt Go.RowKit Go.Proofs.Palim Go.Maps

theorem roots_true {ls : List SetM} {x : SetM} {m : Nat} (hk : x.kind = 1) (h : x.frm.size = 0) : rootsM ls (m + 1) x = true := by rw [rootsM, if_pos ⟨hk, h⟩]
theorem roots_miss {ls : List SetM} {x : SetM} {m : Nat} (h : ¬ (x.kind = 1 ∧ x.frm.size = 0)) (hf : findM ls x.frm = none) : rootsM ls (m + 1) x = false := by rw [rootsM, if_neg h, hf]
theorem roots_hit {ls : List SetM} {x y : SetM} {m : Nat} (h : ¬ (x.kind = 1 ∧ x.frm.size = 0)) (hf : findM ls x.frm = some y) : rootsM ls (m + 1) x = if y.kind = x.kind then false else rootsM ls m y := by rw [rootsM, if_neg h, hf]

set_option maxHeartbeats 4000000 in
theorem rooted_any (m base : Nat) (Lb : List (Nat × SetM)) (x : SetM) (w : World) (h : SetsB w base m Lb) (hl : Lb.length ≤ 6) (hx : x.frm.size ≤ maxLen) (hz : ∀ p ∈ Lb, p.2.frm.size ≤ maxLen) :
    Calls Tryz.prog 125 #[.map (some m), .agg #[.string x.name, .int .i64 x.kind, .string x.frm, .string x.b0, .string x.b1, .string x.b2, .string x.b3, .string x.b4, .string x.b5, .string x.b6, .string x.b7]] w fun e w' => e = .returned (.bool (rootsM (Lb.map (·.2)) Lb.length x)) ∧ Below w.heap.size w w' := by
  have hnot : ∀ (x : Bool) (w : World), (Op.unary .not (.bool x)).run Tryz.prog w = .ok (.bool (!x)) w := fun _ _ => rfl
  obtain ⟨n, HL⟩ : ∃ n, Hid (Lb.length = n) := ⟨_, Lib.hid rfl⟩
  obtain ⟨ok, HOK⟩ : ∃ ok, Hid (rootsM (Lb.map (·.2)) Lb.length x = ok) := ⟨_, Lib.hid rfl⟩
  rw [HOK.out]
  have HS := Lib.hid h
  have HZ := Lib.hid hz
  have HXZ := Lib.hid hx
  have HY := Lib.hid (show Box _ w.heap.size (kc x) from box_new w #[.string x.name, .int .i64 x.kind, .string x.frm, .string x.b0, .string x.b1, .string x.b2, .string x.b3, .string x.b4, .string x.b5, .string x.b6, .string x.b7] 97)
  have HW := Lib.hid (Below.new1 (w := w) (.cells #[.string x.name, .int .i64 x.kind, .string x.frm, .string x.b0, .string x.b1, .string x.b2, .string x.b3, .string x.b4, .string x.b5, .string x.b6, .string x.b7] 97))
  have hlen := (HS.out.below HW.out).map.len
  rw [List.length_map, HL.out] at hlen
  rw [HL.out] at hl HOK
  clear h hz hx
  go_enter Tryz.func125, Tryz.ntmps125
  go_wp2
  clear hlen
  generalize w.alloc (.cells #[.string x.name, .int .i64 x.kind, .string x.frm, .string x.b0, .string x.b1, .string x.b2, .string x.b3, .string x.b4, .string x.b5, .string x.b6, .string x.b7] 97) = W at HY HW
  go_loopw [5, 6, 9] (fun _ _ i wr => ∃ (k : Nat) (z : SetM), k ≤ n ∧ i = .int .i64 k ∧ Hid (z.frm.size ≤ maxLen) ∧ Hid (Box wr w.heap.size (kc z)) ∧ Hid (Below w.heap.size w wr) ∧ Hid (rootsM (Lb.map (·.2)) (n - k) z = ok)) (fun _ _ i _ => n - (intOf i).toNat)
  case atStart => exact ⟨0, x, Nat.zero_le _, rfl, HXZ, HY, HW, HOK⟩
  case round =>
    obtain ⟨k, z, hk, rfl, HFZ, HY1, HW1, HQ⟩ := hrel
    clear HY HW HOK HXZ
    obtain ⟨g0, g1, g2, g3, g4, g5, g6, g7, g8, g9, g10⟩ := (setAt_of_box HY1.out).all
    simp only [Nat.zero_add] at g1 g2 g3 g4 g5 g6 g7 g8 g9 g10
    by_cases hlt : k < n
    · obtain ⟨j, HM⟩ : ∃ j, Hid (n - k = j + 1) := ⟨n - k - 1, Lib.hid (by omega)⟩
      rw [HM.out] at HQ
      by_cases hr : z.kind = 1 ∧ z.frm.size = 0
      · have he2 := eqEmpty hr.2
        have hk2 : (z.kind == 1) = true := by simp [hr.1]
        have HF := Lib.hid ((roots_true hr.1 hr.2).symm.trans HQ.out)
        clear hr HQ
        go_wp2
        go_ret
        exact ⟨ret_boolB HF.out, HW1.out⟩
      · have HR := Lib.hid hr
        have hkk : ((z.kind == 1) = false) ∨ ((z.kind == 1) = true ∧ (z.frm.toList == []) = false) := by
          by_cases h1 : z.kind = 1
          · exact Or.inr ⟨by simp [h1], neEmpty fun c => hr ⟨h1, c⟩⟩
          · exact Or.inl (by simp [h1])
        clear hr
        have HS1 := Lib.hid (HS.out.below HW1.out)
        have hlook := HS1.out.map.look HFZ.out
        rcases look_find Lb z.frm with ⟨h1, h2⟩ | ⟨p, hp, h1, h2, -⟩
        · rw [h1] at hlook
          simp only [lookV, Option.map_none, Option.isSome_none] at hlook
          have HF := Lib.hid ((roots_miss HR.out h2).symm.trans HQ.out)
          clear h1 h2 HQ
          rcases hkk with hk2 | ⟨hk2, he2⟩
          all_goals
            go_wp2_with fail
            go_quiet (fail)
            go_wp2
            go_ret
            exact ⟨ret_boolB HF.out, below_drewN HW1.out _⟩
        · rw [h1] at hlook
          obtain ⟨pb, y⟩ := p
          simp only [lookV, Option.map_some, Option.isSome_some] at hlook
          have HSM := Lib.hid ((roots_hit HR.out h2).symm.trans HQ.out)
          have HPB := Lib.hid (HS1.out.box (pb, y) hp).1
          have HFY := Lib.hid (HZ.out (pb, y) hp)
          obtain ⟨q0, q1, q2, q3, q4, q5, q6, q7, q8, q9, q10⟩ := (setAt_of_box HPB.out).all
          simp only [Nat.zero_add] at q1 q2 q3 q4 q5 q6 q7 q8 q9 q10
          have hpb : pb < w.heap.size := (HS.out.box (pb, y) hp).1.lt
          clear h1 h2 hp HQ
          by_cases hky : y.kind = z.kind
          · have HF := Lib.hid (HSM.out.symm.trans (if_pos hky))
            have hkq : (y.kind == z.kind) = true := by simp [hky]
            clear HSM hky
            rcases hkk with hk2 | ⟨hk2, he2⟩
            all_goals
              go_wp2_with fail
              go_quiet (fail)
              go_wp2
              go_ret
              exact ⟨ret_boolB HF.out.symm, below_drewN HW1.out _⟩
          · have HF := Lib.hid ((if_neg hky).symm.trans HSM.out)
            have hkq : (y.kind == z.kind) = false := by simp [hky]
            clear HSM hky
            have f0 := HY1.out.open_ 0
            have f1 := HY1.out.open_ 1
            have f2 := HY1.out.open_ 2
            have f3 := HY1.out.open_ 3
            have f4 := HY1.out.open_ 4
            have f5 := HY1.out.open_ 5
            have f6 := HY1.out.open_ 6
            have f7 := HY1.out.open_ 7
            have f8 := HY1.out.open_ 8
            have f9 := HY1.out.open_ 9
            have f10 := HY1.out.open_ 10
            rcases hkk with hk2 | ⟨hk2, he2⟩
            all_goals
              go_wp2_with fail
              go_quiet (fail)
              go_wp2
              go_roundw
              case rel => exact ⟨k + 1, y, by omega, by go_num, HFY, Lib.hid (Box.set11 (HY1.out.drewN _) y), Lib.hid (below_set11 (below_drewN HW1.out _) (by omega) y), Lib.hid (by have := HM.out; rw [show n - (k + 1) = j by omega]; exact HF.out)⟩
              case measure => simp [intOf]; omega
    · have HF := Lib.hid (show false = ok from by have := HQ.out; rw [show n - k = 0 by omega] at this; exact this)
      go_wp2
      go_ret
      exact ⟨ret_boolB HF.out, HW1.out⟩
end Go.Proofs.YtojjenclcidnkaaGreatDoor

/-
  impl's BookOk.
-/
set_option maxRecDepth 100000
namespace Go.Proofs.YtojjenclcidnkaaGreatDoor
open Go.ChangeShapes Go.WideShapes Go.ChangeAt Go.RowKit Go.Proofs.Palim Go.Maps

theorem bookSetOk_is (x : SetM) (r : Bool) (w : World) (hz : x.name.size ≤ 1048576 ∧ x.frm.size ≤ 1048576 ∧ ∀ s ∈ x.bs, s.size ≤ 1048576) (hr : decide (SetOkM x) = r) :
    Calls Tryz.prog 123 #[.agg #[.string x.name, .int .i64 x.kind, .string x.frm, .string x.b0, .string x.b1, .string x.b2, .string x.b3, .string x.b4, .string x.b5, .string x.b6, .string x.b7]] w fun e w' => e = .returned (.bool r) ∧ Below w.heap.size w w' := hr ▸ bookSetOk_any x w hz

set_option maxHeartbeats 4000000 in
theorem ImplBookOk_any (v : Value) (ls : List SetM) (w : World) (h : BookR w v ls) (hs : BookShort ls) :
    Calls Tryz.prog 82 #[.agg #[v]] w fun e w' => e = .returned (.bool (decide (BookOkM ls))) ∧ Below w.heap.size w w' := by
  have hnot : ∀ (x : Bool) (w : World), (Op.unary .not (.bool x)).run Tryz.prog w = .ok (.bool (!x)) w := fun _ _ => rfl
  obtain ⟨ok, HOK⟩ : ∃ ok, Hid (decide (BookOkM ls) = ok) := ⟨_, Lib.hid rfl⟩
  rw [HOK.out]
  have HS := Lib.hid hs
  have hb0 := Below.new1 (w := w) (.cells #[v] 63)
  have XB := Lib.hid (bbox_new h 63)
  have HW := Lib.hid hb0
  clear hs hb0
  obtain ⟨A, c, rfl⟩ := h.form
  clear h
  obtain ⟨n, HL⟩ : ∃ n, Hid (ls.length = n) := ⟨_, Lib.hid rfl⟩
  have hn := HS.out.n
  rw [HL.out] at XB HW hn ⊢
  by_cases hbig : 6 < n
  · have HF := Lib.hid (HOK.out.symm.trans (bad_len (by rw [HL.out]; exact hbig)))
    go_enter Tryz.func82, Tryz.ntmps82
    go_wp2
    go_ret
    exact ⟨ret_boolB HF.out.symm, HW.out⟩
  go_enter Tryz.func82, Tryz.ntmps82
  go_wp2
  generalize w.alloc (.cells #[.slice A n c] 63) = W at XB HW
  go_loopw [3, 4, 15] (fun _ _ i wr => ∃ (k : Nat), k ≤ n ∧ i = .int .i64 k ∧ Hid (BBox wr w.heap.size w.heap.size (.slice A n c) ls) ∧ Hid (Below w.heap.size w wr) ∧ Hid (GoodTo ls k)) (fun _ _ i _ => n - (intOf i).toNat)
  case atStart => exact ⟨0, Nat.zero_le _, rfl, XB, HW, Lib.hid (fun j _ h => absurd h (Nat.not_lt_zero _))⟩
  case round =>
    obtain ⟨k, hk, rfl, XB1, HW1, HG⟩ := hrel
    clear XB HW
    have x0 := XB1.out.cell
    by_cases hlt : k < n
    case pos =>
      have hl0 : k < ls.length := by rw [HL.out]; exact hlt
      have hcells := XB1.out.reads.r
      rw [HL.out] at hcells
      obtain ⟨b, off, c', hv, hnc, hcm, hcell⟩ := hcells.form (by omega)
      injection hv with e1 e2 e3
      subst e1 e3
      clear e2 hcells
      unfold maxLen at hcm
      have hbl : b < wr.heap.size := XB1.out.reads.l b rfl
      have hxl : w.heap.size < wr.heap.size := XB1.out.box.lt
      obtain ⟨g0, g1, g2, g3, g4, g5, g6, g7, g8, g9, g10⟩ := (set_read hcell k hl0).all
      have hk1 : (k : Int) < (n : Int) := by omega
      have HZY := Lib.hid (HS.out.z ls[k] (List.getElem_mem hl0))
      have HBS := Lib.hid (fun h => HOK.out.symm.trans (bad_set hl0 h))
      have HGS := Lib.hid (fun h1 h2 => good_succ HG.out hl0 h1 h2)
      obtain ⟨p, HP, HBA⟩ : ∃ p : SetM, Hid (∀ _ : 0 < k, SetAt wr b (off + (k - 1) * 11) p) ∧ Hid ((∀ _ : 0 < k, ¬ Lt p.name ls[k].name → ok = false) ∧ (∀ _ : 0 < k, Lt p.name ls[k].name → Lt (ls[k - 1]'(by omega)).name ls[k].name)) := by
        by_cases h : 0 < k
        · exact ⟨ls[k - 1]'(by omega), Lib.hid (fun _ => set_read hcell (k - 1) (by omega)), Lib.hid ⟨fun _ hh => HOK.out.symm.trans (bad_asc hl0 h hh), fun _ hh => hh⟩⟩
        · exact ⟨ls[k], Lib.hid (fun h' => absurd h' h), Lib.hid ⟨fun h' => absurd h' h, fun h' => absurd h' h⟩⟩
      have HGN := Lib.hid (show SetOkM ls[k] → (∀ _ : 0 < k, Lt p.name ls[k].name) → GoodTo ls (k + 1) from fun h1 h2 => HGS.out h1 fun h0 => HBA.out.2 h0 (h2 h0))
      have HBA1 := Lib.hid HBA.out.1
      clear HGS HBA
      generalize ls[k] = y at g0 g1 g2 g3 g4 g5 g6 g7 g8 g9 g10 HZY HBS HBA1 HGN
      clear hcell hl0
      go_wp2_with fail
      have hnw := Below.new1 (w := wr) (.cells #[.string y.name, .int .i64 y.kind, .string y.frm, .string y.b0, .string y.b1, .string y.b2, .string y.b3, .string y.b4, .string y.b5, .string y.b6, .string y.b7] 97)
      have XB2 := Lib.hid (XB1.out.below hnw)
      have HXS := Lib.hid (show Box _ wr.heap.size (kc y) from box_new wr #[.string y.name, .int .i64 y.kind, .string y.frm, .string y.b0, .string y.b1, .string y.b2, .string y.b3, .string y.b4, .string y.b5, .string y.b6, .string y.b7] 97)
      have HP2 := Lib.hid (fun h0 => (HP.out h0).below hnw hbl)
      have HW2 := Lib.hid (HW1.out.trans (hnw.mono HW1.out.size))
      have hszW : (wr.alloc (.cells #[.string y.name, .int .i64 y.kind, .string y.frm, .string y.b0, .string y.b1, .string y.b2, .string y.b3, .string y.b4, .string y.b5, .string y.b6, .string y.b7] 97)).heap.size = wr.heap.size + 1 := by simp
      clear XB1 HP HW1 hnw x0 g0 g1 g2 g3 g4 g5 g6 g7 g8 g9 g10
      generalize wr.alloc (.cells #[.string y.name, .int .i64 y.kind, .string y.frm, .string y.b0, .string y.b1, .string y.b2, .string y.b3, .string y.b4, .string y.b5, .string y.b6, .string y.b7] 97) = W1 at XB2 HXS HP2 HW2 hszW
      have x0 := XB2.out.cell
      obtain ⟨s0, s1, s2, s3, s4, s5, s6, s7, s8, s9, s10⟩ := (setAt_of_box HXS.out).all
      simp only [Nat.zero_add] at s1 s2 s3 s4 s5 s6 s7 s8 s9 s10
      by_cases hok : SetOkM y
      case neg =>
        have hor := decide_eq_false hok
        have HF := Lib.hid (HBS.out hok)
        clear hok HGN HBA1 HP2
        refine wp_region_held_drew (S := fun w' => w'.cell? ⟨wr.heap.size, 0, none⟩ = some (.string y.name) ∧ w'.cell? ⟨wr.heap.size, 1, none⟩ = some (.int .i64 y.kind) ∧ w'.cell? ⟨wr.heap.size, 2, none⟩ = some (.string y.frm) ∧ w'.cell? ⟨wr.heap.size, 3, none⟩ = some (.string y.b0) ∧ w'.cell? ⟨wr.heap.size, 4, none⟩ = some (.string y.b1) ∧ w'.cell? ⟨wr.heap.size, 5, none⟩ = some (.string y.b2) ∧ w'.cell? ⟨wr.heap.size, 6, none⟩ = some (.string y.b3) ∧ w'.cell? ⟨wr.heap.size, 7, none⟩ = some (.string y.b4) ∧ w'.cell? ⟨wr.heap.size, 8, none⟩ = some (.string y.b5) ∧ w'.cell? ⟨wr.heap.size, 9, none⟩ = some (.string y.b6) ∧ w'.cell? ⟨wr.heap.size, 10, none⟩ = some (.string y.b7) ∧ w'.cell? ⟨w.heap.size, 0, none⟩ = some (.slice (some ⟨b, off, none⟩) n c)) (by kernel_rfl) ⟨s0, s1, s2, s3, s4, s5, s6, s7, s8, s9, s10, x0⟩ (fun hHeld => ?_)
        refine wpAnyH_take (i := 0) (v := ?_) rfl (by kernel_rfl) (by kernel_rfl) (by kernel_rfl) (fun _ _ _ h => h) (Or.inl ⟨by first | kernel_rfl | rfl, ?_⟩) (by assumption) ?_
        rotate_left
        · (intro w' hSw; (try dsimp only at hSw); go_simp; try with_reducible rfl)
        try simp only [Act.put]
        refine wpAnyH_ready (rs := [1]) (by kernel_rfl) (by simp) ?_
        refine AllReadyH.cons rfl (fun K hK => ?_) AllReadyH.nil
        go_simp
        go_at_call 123
        with_reducible refine (bookSetOk_is y _ _ HZY.out hor).mono ?_
        rintro e w2 ⟨rfl, hb2⟩
        go_wp2_with fail
        refine hK.out _ _ ?_ (fun hHeld2 => ?_)
        · first | go_keep | (go_split_ands; refine ⟨?_, ?_, ?_, ?_, ?_, ?_, ?_, ?_, ?_, ?_, ?_, ?_⟩; all_goals (rw [hb2.cell (by simp <;> omega)]; assumption))
        clear hK K
        try simp only [Act.put]
        refine wpAnyH_take (i := 2) (v := ?_) rfl (by kernel_rfl) (by kernel_rfl) (by kernel_rfl) (fun _ _ _ h => h) (Or.inl ⟨by first | kernel_rfl | rfl, ?_⟩) (by assumption) ?_
        rotate_left
        · (intro w' hSw; (try dsimp only at hSw); go_simp; try with_reducible rfl)
        try simp only [Act.put]
        refine wpAnyH_take (i := 3) (v := ?_) rfl (by kernel_rfl) (by kernel_rfl) (by kernel_rfl) (fun _ _ _ h => h) (Or.inl ⟨by first | kernel_rfl | rfl, ?_⟩) (by assumption) ?_
        rotate_left
        · (intro w' hSw; (try dsimp only at hSw); go_simp; try with_reducible rfl)
        try simp only [Act.put]
        refine wpAnyH_take (i := 4) (v := undef) rfl (by kernel_rfl) (by kernel_rfl) (by kernel_rfl) (fun _ _ _ h => h) (Or.inr ⟨by kernel_rfl, rfl⟩) (by assumption) ?_
        try simp only [Act.put]
        refine wpAnyH_take (i := 5) (v := undef) rfl (by kernel_rfl) (by kernel_rfl) (by kernel_rfl) (fun _ _ _ h => h) (Or.inr ⟨by kernel_rfl, rfl⟩) (by assumption) ?_
        try simp only [Act.put]
        refine wpAnyH_take (i := 6) (v := undef) rfl (by kernel_rfl) (by kernel_rfl) (by kernel_rfl) (fun _ _ _ h => h) (Or.inr ⟨by kernel_rfl, rfl⟩) (by assumption) ?_
        try simp only [Act.put]
        refine wpAnyH_take (i := 7) (v := undef) rfl (by kernel_rfl) (by kernel_rfl) (by kernel_rfl) (fun _ _ _ h => h) (Or.inr ⟨by kernel_rfl, rfl⟩) (by assumption) ?_
        try simp only [Act.put]
        refine wpAnyH_take (i := 8) (v := undef) rfl (by kernel_rfl) (by kernel_rfl) (by kernel_rfl) (fun _ _ _ h => h) (Or.inr ⟨by kernel_rfl, rfl⟩) (by assumption) ?_
        try simp only [Act.put]
        refine wpAnyH_take (i := 9) (v := undef) rfl (by kernel_rfl) (by kernel_rfl) (by kernel_rfl) (fun _ _ _ h => h) (Or.inr ⟨by kernel_rfl, rfl⟩) (by assumption) ?_
        try simp only [Act.put]
        refine wpAnyH_take (i := 10) (v := undef) rfl (by kernel_rfl) (by kernel_rfl) (by kernel_rfl) (fun _ _ _ h => h) (Or.inr ⟨by kernel_rfl, rfl⟩) (by assumption) ?_
        try simp only [Act.put]
        refine wpAnyH_take (i := 11) (v := undef) rfl (by kernel_rfl) (by kernel_rfl) (by kernel_rfl) (fun _ _ _ h => h) (Or.inr ⟨by kernel_rfl, rfl⟩) (by assumption) ?_
        try simp only [Act.put]
        refine wpAnyH_take (i := 12) (v := undef) rfl (by kernel_rfl) (by kernel_rfl) (by kernel_rfl) (fun _ _ _ h => h) (Or.inr ⟨by kernel_rfl, rfl⟩) (by assumption) ?_
        try simp only [Act.put]
        refine wpAnyH_take (i := 13) (v := undef) rfl (by kernel_rfl) (by kernel_rfl) (by kernel_rfl) (fun _ _ _ h => h) (Or.inr ⟨by kernel_rfl, rfl⟩) (by assumption) ?_
        try simp only [Act.put]
        refine wpAnyH_take (i := 14) (v := undef) rfl (by kernel_rfl) (by kernel_rfl) (by kernel_rfl) (fun _ _ _ h => h) (Or.inr ⟨by kernel_rfl, rfl⟩) (by assumption) ?_
        try simp only [Act.put]
        refine wpAnyH_take (i := 15) (v := undef) rfl (by kernel_rfl) (by kernel_rfl) (by kernel_rfl) (fun _ _ _ h => h) (Or.inr ⟨by kernel_rfl, rfl⟩) (by assumption) ?_
        try simp only [Act.put]
        refine wpAnyH_take (i := 16) (v := undef) rfl (by kernel_rfl) (by kernel_rfl) (by kernel_rfl) (fun _ _ _ h => h) (Or.inr ⟨by kernel_rfl, rfl⟩) (by assumption) ?_
        try simp only [Act.put]
        refine wpAnyH_take (i := 17) (v := undef) rfl (by kernel_rfl) (by kernel_rfl) (by kernel_rfl) (fun _ _ _ h => h) (Or.inr ⟨by kernel_rfl, rfl⟩) (by assumption) ?_
        try simp only [Act.put]
        refine wpAnyH_take (i := 18) (v := ?_) rfl (by kernel_rfl) (by kernel_rfl) (by kernel_rfl) (fun _ _ _ h => h) (Or.inl ⟨by first | kernel_rfl | rfl, ?_⟩) (by assumption) ?_
        rotate_left
        · (intro w' hSw; (try dsimp only at hSw); go_simp; try with_reducible rfl)
        try simp only [Act.put]
        refine wpAnyH_done (by kernel_rfl) ?_ _
        go_simp
        clear hHeld hHeld2
        have HW3 := Lib.hid (HW2.out.trans (((below_drewB W1).trans (show Below W1.heap.size W1.drew w2 from hb2)).mono HW2.out.size))
        clear hb2 x0 s0 s1 s2 s3 s4 s5 s6 s7 s8 s9 s10
        go_wp2
        go_ret
        exact ⟨ret_boolB HF.out.symm, HW3.out⟩
      case pos =>
      have hor := decide_eq_true hok
      have HGN1 := Lib.hid (HGN.out hok)
      clear hok HBS HGN
      by_cases hk0 : k = 0
      case pos =>
        subst hk0
        have HGN2 := Lib.hid (HGN1.out (fun h0 => absurd h0 (Nat.lt_irrefl _)))
        clear HGN1 HP2 HBA1
        refine wp_region_held_drew (S := fun w' => w'.cell? ⟨wr.heap.size, 0, none⟩ = some (.string y.name) ∧ w'.cell? ⟨wr.heap.size, 1, none⟩ = some (.int .i64 y.kind) ∧ w'.cell? ⟨wr.heap.size, 2, none⟩ = some (.string y.frm) ∧ w'.cell? ⟨wr.heap.size, 3, none⟩ = some (.string y.b0) ∧ w'.cell? ⟨wr.heap.size, 4, none⟩ = some (.string y.b1) ∧ w'.cell? ⟨wr.heap.size, 5, none⟩ = some (.string y.b2) ∧ w'.cell? ⟨wr.heap.size, 6, none⟩ = some (.string y.b3) ∧ w'.cell? ⟨wr.heap.size, 7, none⟩ = some (.string y.b4) ∧ w'.cell? ⟨wr.heap.size, 8, none⟩ = some (.string y.b5) ∧ w'.cell? ⟨wr.heap.size, 9, none⟩ = some (.string y.b6) ∧ w'.cell? ⟨wr.heap.size, 10, none⟩ = some (.string y.b7) ∧ w'.cell? ⟨w.heap.size, 0, none⟩ = some (.slice (some ⟨b, off, none⟩) n c)) (by kernel_rfl) ⟨s0, s1, s2, s3, s4, s5, s6, s7, s8, s9, s10, x0⟩ (fun hHeld => ?_)
        refine wpAnyH_take (i := 0) (v := ?_) rfl (by kernel_rfl) (by kernel_rfl) (by kernel_rfl) (fun _ _ _ h => h) (Or.inl ⟨by first | kernel_rfl | rfl, ?_⟩) (by assumption) ?_
        rotate_left
        · (intro w' hSw; (try dsimp only at hSw); go_simp; try with_reducible rfl)
        try simp only [Act.put]
        refine wpAnyH_ready (rs := [1]) (by kernel_rfl) (by simp) ?_
        refine AllReadyH.cons rfl (fun K hK => ?_) AllReadyH.nil
        go_simp
        go_at_call 123
        with_reducible refine (bookSetOk_is y _ _ HZY.out hor).mono ?_
        rintro e w2 ⟨rfl, hb2⟩
        go_wp2_with fail
        refine hK.out _ _ ?_ (fun hHeld2 => ?_)
        · first | go_keep | (go_split_ands; refine ⟨?_, ?_, ?_, ?_, ?_, ?_, ?_, ?_, ?_, ?_, ?_, ?_⟩; all_goals (rw [hb2.cell (by simp <;> omega)]; assumption))
        clear hK K
        try simp only [Act.put]
        refine wpAnyH_take (i := 2) (v := ?_) rfl (by kernel_rfl) (by kernel_rfl) (by kernel_rfl) (fun _ _ _ h => h) (Or.inl ⟨by first | kernel_rfl | rfl, ?_⟩) (by assumption) ?_
        rotate_left
        · (intro w' hSw; (try dsimp only at hSw); go_simp; try with_reducible rfl)
        try simp only [Act.put]
        refine wpAnyH_take (i := 3) (v := ?_) rfl (by kernel_rfl) (by kernel_rfl) (by kernel_rfl) (fun _ _ _ h => h) (Or.inl ⟨by first | kernel_rfl | rfl, ?_⟩) (by assumption) ?_
        rotate_left
        · (intro w' hSw; (try dsimp only at hSw); go_simp; try with_reducible rfl)
        try simp only [Act.put]
        refine wpAnyH_take (i := 4) (v := ?_) rfl (by kernel_rfl) (by kernel_rfl) (by kernel_rfl) (fun _ _ _ h => h) (Or.inl ⟨by first | kernel_rfl | rfl, ?_⟩) (by assumption) ?_
        rotate_left
        · (intro w' hSw; (try dsimp only at hSw); go_simp; try with_reducible rfl)
        try simp only [Act.put]
        refine wpAnyH_take (i := 5) (v := ?_) rfl (by kernel_rfl) (by kernel_rfl) (by kernel_rfl) (fun _ _ _ h => h) (Or.inl ⟨by first | kernel_rfl | rfl, ?_⟩) (by assumption) ?_
        rotate_left
        · (intro w' hSw; (try dsimp only at hSw); go_simp; try with_reducible rfl)
        try simp only [Act.put]
        refine wpAnyH_take (i := 6) (v := ?_) rfl (by kernel_rfl) (by kernel_rfl) (by kernel_rfl) (fun _ _ _ h => h) (Or.inl ⟨by first | kernel_rfl | rfl, ?_⟩) (by assumption) ?_
        rotate_left
        · (intro w' hSw; (try dsimp only at hSw); go_simp; try with_reducible rfl)
        try simp only [Act.put]
        refine wpAnyH_take (i := 7) (v := undef) rfl (by kernel_rfl) (by kernel_rfl) (by kernel_rfl) (fun _ _ _ h => h) (Or.inr ⟨by kernel_rfl, rfl⟩) (by assumption) ?_
        try simp only [Act.put]
        refine wpAnyH_take (i := 8) (v := undef) rfl (by kernel_rfl) (by kernel_rfl) (by kernel_rfl) (fun _ _ _ h => h) (Or.inr ⟨by kernel_rfl, rfl⟩) (by assumption) ?_
        try simp only [Act.put]
        refine wpAnyH_take (i := 9) (v := undef) rfl (by kernel_rfl) (by kernel_rfl) (by kernel_rfl) (fun _ _ _ h => h) (Or.inr ⟨by kernel_rfl, rfl⟩) (by assumption) ?_
        try simp only [Act.put]
        refine wpAnyH_take (i := 10) (v := undef) rfl (by kernel_rfl) (by kernel_rfl) (by kernel_rfl) (fun _ _ _ h => h) (Or.inr ⟨by kernel_rfl, rfl⟩) (by assumption) ?_
        try simp only [Act.put]
        refine wpAnyH_take (i := 11) (v := undef) rfl (by kernel_rfl) (by kernel_rfl) (by kernel_rfl) (fun _ _ _ h => h) (Or.inr ⟨by kernel_rfl, rfl⟩) (by assumption) ?_
        try simp only [Act.put]
        refine wpAnyH_take (i := 12) (v := undef) rfl (by kernel_rfl) (by kernel_rfl) (by kernel_rfl) (fun _ _ _ h => h) (Or.inr ⟨by kernel_rfl, rfl⟩) (by assumption) ?_
        try simp only [Act.put]
        refine wpAnyH_take (i := 13) (v := undef) rfl (by kernel_rfl) (by kernel_rfl) (by kernel_rfl) (fun _ _ _ h => h) (Or.inr ⟨by kernel_rfl, rfl⟩) (by assumption) ?_
        try simp only [Act.put]
        refine wpAnyH_take (i := 14) (v := undef) rfl (by kernel_rfl) (by kernel_rfl) (by kernel_rfl) (fun _ _ _ h => h) (Or.inr ⟨by kernel_rfl, rfl⟩) (by assumption) ?_
        try simp only [Act.put]
        refine wpAnyH_take (i := 15) (v := undef) rfl (by kernel_rfl) (by kernel_rfl) (by kernel_rfl) (fun _ _ _ h => h) (Or.inr ⟨by kernel_rfl, rfl⟩) (by assumption) ?_
        try simp only [Act.put]
        refine wpAnyH_take (i := 16) (v := undef) rfl (by kernel_rfl) (by kernel_rfl) (by kernel_rfl) (fun _ _ _ h => h) (Or.inr ⟨by kernel_rfl, rfl⟩) (by assumption) ?_
        try simp only [Act.put]
        refine wpAnyH_take (i := 17) (v := ?_) rfl (by kernel_rfl) (by kernel_rfl) (by kernel_rfl) (fun _ _ _ h => h) (Or.inl ⟨by first | kernel_rfl | rfl, ?_⟩) (by assumption) ?_
        rotate_left
        · (intro w' hSw; (try dsimp only at hSw); go_simp; try with_reducible rfl)
        try simp only [Act.put]
        refine wpAnyH_take (i := 18) (v := ?_) rfl (by kernel_rfl) (by kernel_rfl) (by kernel_rfl) (fun _ _ _ h => h) (Or.inl ⟨by first | kernel_rfl | rfl, ?_⟩) (by assumption) ?_
        rotate_left
        · (intro w' hSw; (try dsimp only at hSw); go_simp; try with_reducible rfl)
        try simp only [Act.put]
        refine wpAnyH_done (by kernel_rfl) ?_ _
        go_simp
        clear hHeld hHeld2
        have hb3 := (below_drewB W1).trans (show Below W1.heap.size W1.drew w2 from hb2)
        have XB3 := Lib.hid (XB2.out.below hb3)
        have HW3 := Lib.hid (HW2.out.trans (hb3.mono HW2.out.size))
        clear hb2 hb3 x0 s0 s1 s2 s3 s4 s5 s6 s7 s8 s9 s10 XB2 HW2 HXS
        go_wp2
        go_roundw
        case rel => exact ⟨1, by omega, by go_num, XB3, HW3, HGN2⟩
        case measure => simp [intOf]; omega
      case neg =>
        obtain ⟨k, rfl⟩ : ∃ k', k = k' + 1 := ⟨k - 1, by omega⟩
        have p0 := (HP2.out (by omega)).all.1
        rw [Nat.add_sub_cancel] at p0
        have hkk : ((k + 1 : Nat) : Int) > 0 := by omega
        have hki : (k : Int) < (n : Int) := by omega
        have hwr : IntKind.i64.wrap (k : Int) = k := IntWalk.i64_in _ (by omega)
        by_cases hpy : Lt p.name y.name
        case neg =>
          have HF := Lib.hid (HBA1.out (by omega) hpy)
          have hlq : Op.bytesLess p.name.toList y.name.toList = false := by simpa [Lt] using hpy
          clear HP2 HBA1 hpy HGN1
          refine wp_region_held_drew (S := fun w' => w'.cell? ⟨wr.heap.size, 0, none⟩ = some (.string y.name) ∧ w'.cell? ⟨wr.heap.size, 1, none⟩ = some (.int .i64 y.kind) ∧ w'.cell? ⟨wr.heap.size, 2, none⟩ = some (.string y.frm) ∧ w'.cell? ⟨wr.heap.size, 3, none⟩ = some (.string y.b0) ∧ w'.cell? ⟨wr.heap.size, 4, none⟩ = some (.string y.b1) ∧ w'.cell? ⟨wr.heap.size, 5, none⟩ = some (.string y.b2) ∧ w'.cell? ⟨wr.heap.size, 6, none⟩ = some (.string y.b3) ∧ w'.cell? ⟨wr.heap.size, 7, none⟩ = some (.string y.b4) ∧ w'.cell? ⟨wr.heap.size, 8, none⟩ = some (.string y.b5) ∧ w'.cell? ⟨wr.heap.size, 9, none⟩ = some (.string y.b6) ∧ w'.cell? ⟨wr.heap.size, 10, none⟩ = some (.string y.b7) ∧ w'.cell? ⟨w.heap.size, 0, none⟩ = some (.slice (some ⟨b, off, none⟩) n c) ∧ w'.cell? ⟨b, off + k * 11, none⟩ = some (.string p.name)) (by kernel_rfl) ⟨s0, s1, s2, s3, s4, s5, s6, s7, s8, s9, s10, x0, p0⟩ (fun hHeld => ?_)
          refine wpAnyH_take (i := 0) (v := ?_) rfl (by kernel_rfl) (by kernel_rfl) (by kernel_rfl) (fun _ _ _ h => h) (Or.inl ⟨by first | kernel_rfl | rfl, ?_⟩) (by assumption) ?_
          rotate_left
          · (intro w' hSw; (try dsimp only at hSw); go_simp; try with_reducible rfl)
          try simp only [Act.put]
          refine wpAnyH_ready (rs := [1]) (by kernel_rfl) (by simp) ?_
          refine AllReadyH.cons rfl (fun K hK => ?_) AllReadyH.nil
          go_simp
          go_at_call 123
          with_reducible refine (bookSetOk_is y _ _ HZY.out hor).mono ?_
          rintro e w2 ⟨rfl, hb2⟩
          go_wp2_with fail
          refine hK.out _ _ ?_ (fun hHeld2 => ?_)
          · first | go_keep | (go_split_ands; refine ⟨?_, ?_, ?_, ?_, ?_, ?_, ?_, ?_, ?_, ?_, ?_, ?_, ?_⟩; all_goals (rw [hb2.cell (by simp <;> omega)]; assumption))
          clear hK K
          try simp only [Act.put]
          refine wpAnyH_take (i := 2) (v := ?_) rfl (by kernel_rfl) (by kernel_rfl) (by kernel_rfl) (fun _ _ _ h => h) (Or.inl ⟨by first | kernel_rfl | rfl, ?_⟩) (by assumption) ?_
          rotate_left
          · (intro w' hSw; (try dsimp only at hSw); go_simp; try with_reducible rfl)
          try simp only [Act.put]
          refine wpAnyH_take (i := 3) (v := ?_) rfl (by kernel_rfl) (by kernel_rfl) (by kernel_rfl) (fun _ _ _ h => h) (Or.inl ⟨by first | kernel_rfl | rfl, ?_⟩) (by assumption) ?_
          rotate_left
          · (intro w' hSw; (try dsimp only at hSw); go_simp; try with_reducible rfl)
          try simp only [Act.put]
          refine wpAnyH_take (i := 4) (v := ?_) rfl (by kernel_rfl) (by kernel_rfl) (by kernel_rfl) (fun _ _ _ h => h) (Or.inl ⟨by first | kernel_rfl | rfl, ?_⟩) (by assumption) ?_
          rotate_left
          · (intro w' hSw; (try dsimp only at hSw); go_simp; try with_reducible rfl)
          try simp only [Act.put]
          refine wpAnyH_take (i := 5) (v := ?_) rfl (by kernel_rfl) (by kernel_rfl) (by kernel_rfl) (fun _ _ _ h => h) (Or.inl ⟨by first | kernel_rfl | rfl, ?_⟩) (by assumption) ?_
          rotate_left
          · (intro w' hSw; (try dsimp only at hSw); go_simp; try with_reducible rfl)
          try simp only [Act.put]
          refine wpAnyH_take (i := 6) (v := ?_) rfl (by kernel_rfl) (by kernel_rfl) (by kernel_rfl) (fun _ _ _ h => h) (Or.inl ⟨by first | kernel_rfl | rfl, ?_⟩) (by assumption) ?_
          rotate_left
          · (intro w' hSw; (try dsimp only at hSw); go_simp; try with_reducible rfl)
          try simp only [Act.put]
          refine wpAnyH_take (i := 7) (v := ?_) rfl (by kernel_rfl) (by kernel_rfl) (by kernel_rfl) (fun _ _ _ h => h) (Or.inl ⟨by first | kernel_rfl | rfl, ?_⟩) (by assumption) ?_
          rotate_left
          · (intro w' hSw; (try dsimp only at hSw); go_simp; try with_reducible rfl)
          try simp only [Act.put]
          refine wpAnyH_take (i := 8) (v := ?_) rfl (by kernel_rfl) (by kernel_rfl) (by kernel_rfl) (fun _ _ _ h => h) (Or.inl ⟨by first | kernel_rfl | rfl, ?_⟩) (by assumption) ?_
          rotate_left
          · (intro w' hSw; (try dsimp only at hSw); go_simp; try with_reducible rfl)
          try simp only [Act.put]
          refine wpAnyH_take (i := 9) (v := ?_) rfl (by kernel_rfl) (by kernel_rfl) (by kernel_rfl) (fun _ _ _ h => h) (Or.inl ⟨by first | kernel_rfl | rfl, ?_⟩) (by assumption) ?_
          rotate_left
          · (intro w' hSw; (try dsimp only at hSw); go_simp; try with_reducible rfl)
          try simp only [Act.put]
          refine wpAnyH_take (i := 10) (v := ?_) rfl (by kernel_rfl) (by kernel_rfl) (by kernel_rfl) (fun _ _ _ h => h) (Or.inl ⟨by first | kernel_rfl | rfl, ?_⟩) (by assumption) ?_
          rotate_left
          · (intro w' hSw; (try dsimp only at hSw); go_simp; try with_reducible rfl)
          try simp only [Act.put]
          refine wpAnyH_take (i := 11) (v := ?_) rfl (by kernel_rfl) (by kernel_rfl) (by kernel_rfl) (fun _ _ _ h => h) (Or.inl ⟨by first | kernel_rfl | rfl, ?_⟩) (by assumption) ?_
          rotate_left
          · (intro w' hSw; (try dsimp only at hSw); go_simp; try with_reducible rfl)
          try simp only [Act.put]
          refine wpAnyH_take (i := 12) (v := ?_) rfl (by kernel_rfl) (by kernel_rfl) (by kernel_rfl) (fun _ _ _ h => h) (Or.inl ⟨by first | kernel_rfl | rfl, ?_⟩) (by assumption) ?_
          rotate_left
          · (intro w' hSw; (try dsimp only at hSw); go_simp; try with_reducible rfl)
          try simp only [Act.put]
          refine wpAnyH_take (i := 13) (v := ?_) rfl (by kernel_rfl) (by kernel_rfl) (by kernel_rfl) (fun _ _ _ h => h) (Or.inl ⟨by first | kernel_rfl | rfl, ?_⟩) (by assumption) ?_
          rotate_left
          · (intro w' hSw; (try dsimp only at hSw); go_simp; try with_reducible rfl)
          try simp only [Act.put]
          refine wpAnyH_take (i := 14) (v := ?_) rfl (by kernel_rfl) (by kernel_rfl) (by kernel_rfl) (fun _ _ _ h => h) (Or.inl ⟨by first | kernel_rfl | rfl, ?_⟩) (by assumption) ?_
          rotate_left
          · (intro w' hSw; (try dsimp only at hSw); go_simp; try with_reducible rfl)
          try simp only [Act.put]
          refine wpAnyH_take (i := 15) (v := ?_) rfl (by kernel_rfl) (by kernel_rfl) (by kernel_rfl) (fun _ _ _ h => h) (Or.inl ⟨by first | kernel_rfl | rfl, ?_⟩) (by assumption) ?_
          rotate_left
          · (intro w' hSw; (try dsimp only at hSw); go_simp; try with_reducible rfl)
          try simp only [Act.put]
          refine wpAnyH_take (i := 16) (v := ?_) rfl (by kernel_rfl) (by kernel_rfl) (by kernel_rfl) (fun _ _ _ h => h) (Or.inl ⟨by first | kernel_rfl | rfl, ?_⟩) (by assumption) ?_
          rotate_left
          · (intro w' hSw; (try dsimp only at hSw); go_simp; try with_reducible rfl)
          try simp only [Act.put]
          refine wpAnyH_take (i := 17) (v := ?_) rfl (by kernel_rfl) (by kernel_rfl) (by kernel_rfl) (fun _ _ _ h => h) (Or.inl ⟨by first | kernel_rfl | rfl, ?_⟩) (by assumption) ?_
          rotate_left
          · (intro w' hSw; (try dsimp only at hSw); go_simp; try with_reducible rfl)
          try simp only [Act.put]
          refine wpAnyH_take (i := 18) (v := ?_) rfl (by kernel_rfl) (by kernel_rfl) (by kernel_rfl) (fun _ _ _ h => h) (Or.inl ⟨by first | kernel_rfl | rfl, ?_⟩) (by assumption) ?_
          rotate_left
          · (intro w' hSw; (try dsimp only at hSw); go_simp; try with_reducible rfl)
          try simp only [Act.put]
          refine wpAnyH_done (by kernel_rfl) ?_ _
          go_simp
          clear hHeld hHeld2
          have HW3 := Lib.hid (HW2.out.trans (((below_drewB W1).trans (show Below W1.heap.size W1.drew w2 from hb2)).mono HW2.out.size))
          clear hb2 x0 s0 s1 s2 s3 s4 s5 s6 s7 s8 s9 s10
          go_wp2
          go_ret
          exact ⟨ret_boolB HF.out.symm, HW3.out⟩
        case pos =>
        have HGN2 := Lib.hid (HGN1.out fun _ => hpy)
        have hlq : Op.bytesLess p.name.toList y.name.toList = true := hpy
        clear HP2 HBA1 hpy HGN1
        refine wp_region_held_drew (S := fun w' => w'.cell? ⟨wr.heap.size, 0, none⟩ = some (.string y.name) ∧ w'.cell? ⟨wr.heap.size, 1, none⟩ = some (.int .i64 y.kind) ∧ w'.cell? ⟨wr.heap.size, 2, none⟩ = some (.string y.frm) ∧ w'.cell? ⟨wr.heap.size, 3, none⟩ = some (.string y.b0) ∧ w'.cell? ⟨wr.heap.size, 4, none⟩ = some (.string y.b1) ∧ w'.cell? ⟨wr.heap.size, 5, none⟩ = some (.string y.b2) ∧ w'.cell? ⟨wr.heap.size, 6, none⟩ = some (.string y.b3) ∧ w'.cell? ⟨wr.heap.size, 7, none⟩ = some (.string y.b4) ∧ w'.cell? ⟨wr.heap.size, 8, none⟩ = some (.string y.b5) ∧ w'.cell? ⟨wr.heap.size, 9, none⟩ = some (.string y.b6) ∧ w'.cell? ⟨wr.heap.size, 10, none⟩ = some (.string y.b7) ∧ w'.cell? ⟨w.heap.size, 0, none⟩ = some (.slice (some ⟨b, off, none⟩) n c) ∧ w'.cell? ⟨b, off + k * 11, none⟩ = some (.string p.name)) (by kernel_rfl) ⟨s0, s1, s2, s3, s4, s5, s6, s7, s8, s9, s10, x0, p0⟩ (fun hHeld => ?_)
        refine wpAnyH_take (i := 0) (v := ?_) rfl (by kernel_rfl) (by kernel_rfl) (by kernel_rfl) (fun _ _ _ h => h) (Or.inl ⟨by first | kernel_rfl | rfl, ?_⟩) (by assumption) ?_
        rotate_left
        · (intro w' hSw; (try dsimp only at hSw); go_simp; try with_reducible rfl)
        try simp only [Act.put]
        refine wpAnyH_ready (rs := [1]) (by kernel_rfl) (by simp) ?_
        refine AllReadyH.cons rfl (fun K hK => ?_) AllReadyH.nil
        go_simp
        go_at_call 123
        with_reducible refine (bookSetOk_is y _ _ HZY.out hor).mono ?_
        rintro e w2 ⟨rfl, hb2⟩
        go_wp2_with fail
        refine hK.out _ _ ?_ (fun hHeld2 => ?_)
        · first | go_keep | (go_split_ands; refine ⟨?_, ?_, ?_, ?_, ?_, ?_, ?_, ?_, ?_, ?_, ?_, ?_, ?_⟩; all_goals (rw [hb2.cell (by simp <;> omega)]; assumption))
        clear hK K
        try simp only [Act.put]
        refine wpAnyH_take (i := 2) (v := ?_) rfl (by kernel_rfl) (by kernel_rfl) (by kernel_rfl) (fun _ _ _ h => h) (Or.inl ⟨by first | kernel_rfl | rfl, ?_⟩) (by assumption) ?_
        rotate_left
        · (intro w' hSw; (try dsimp only at hSw); go_simp; try with_reducible rfl)
        try simp only [Act.put]
        refine wpAnyH_take (i := 3) (v := ?_) rfl (by kernel_rfl) (by kernel_rfl) (by kernel_rfl) (fun _ _ _ h => h) (Or.inl ⟨by first | kernel_rfl | rfl, ?_⟩) (by assumption) ?_
        rotate_left
        · (intro w' hSw; (try dsimp only at hSw); go_simp; try with_reducible rfl)
        try simp only [Act.put]
        refine wpAnyH_take (i := 4) (v := ?_) rfl (by kernel_rfl) (by kernel_rfl) (by kernel_rfl) (fun _ _ _ h => h) (Or.inl ⟨by first | kernel_rfl | rfl, ?_⟩) (by assumption) ?_
        rotate_left
        · (intro w' hSw; (try dsimp only at hSw); go_simp; try with_reducible rfl)
        try simp only [Act.put]
        refine wpAnyH_take (i := 5) (v := ?_) rfl (by kernel_rfl) (by kernel_rfl) (by kernel_rfl) (fun _ _ _ h => h) (Or.inl ⟨by first | kernel_rfl | rfl, ?_⟩) (by assumption) ?_
        rotate_left
        · (intro w' hSw; (try dsimp only at hSw); go_simp; try with_reducible rfl)
        try simp only [Act.put]
        refine wpAnyH_take (i := 6) (v := ?_) rfl (by kernel_rfl) (by kernel_rfl) (by kernel_rfl) (fun _ _ _ h => h) (Or.inl ⟨by first | kernel_rfl | rfl, ?_⟩) (by assumption) ?_
        rotate_left
        · (intro w' hSw; (try dsimp only at hSw); go_simp; try with_reducible rfl)
        try simp only [Act.put]
        refine wpAnyH_take (i := 7) (v := ?_) rfl (by kernel_rfl) (by kernel_rfl) (by kernel_rfl) (fun _ _ _ h => h) (Or.inl ⟨by first | kernel_rfl | rfl, ?_⟩) (by assumption) ?_
        rotate_left
        · (intro w' hSw; (try dsimp only at hSw); go_simp; try with_reducible rfl)
        try simp only [Act.put]
        refine wpAnyH_take (i := 8) (v := ?_) rfl (by kernel_rfl) (by kernel_rfl) (by kernel_rfl) (fun _ _ _ h => h) (Or.inl ⟨by first | kernel_rfl | rfl, ?_⟩) (by assumption) ?_
        rotate_left
        · (intro w' hSw; (try dsimp only at hSw); go_simp; try with_reducible rfl)
        try simp only [Act.put]
        refine wpAnyH_take (i := 9) (v := ?_) rfl (by kernel_rfl) (by kernel_rfl) (by kernel_rfl) (fun _ _ _ h => h) (Or.inl ⟨by first | kernel_rfl | rfl, ?_⟩) (by assumption) ?_
        rotate_left
        · (intro w' hSw; (try dsimp only at hSw); go_simp; try with_reducible rfl)
        try simp only [Act.put]
        refine wpAnyH_take (i := 10) (v := ?_) rfl (by kernel_rfl) (by kernel_rfl) (by kernel_rfl) (fun _ _ _ h => h) (Or.inl ⟨by first | kernel_rfl | rfl, ?_⟩) (by assumption) ?_
        rotate_left
        · (intro w' hSw; (try dsimp only at hSw); go_simp; try with_reducible rfl)
        try simp only [Act.put]
        refine wpAnyH_take (i := 11) (v := ?_) rfl (by kernel_rfl) (by kernel_rfl) (by kernel_rfl) (fun _ _ _ h => h) (Or.inl ⟨by first | kernel_rfl | rfl, ?_⟩) (by assumption) ?_
        rotate_left
        · (intro w' hSw; (try dsimp only at hSw); go_simp; try with_reducible rfl)
        try simp only [Act.put]
        refine wpAnyH_take (i := 12) (v := ?_) rfl (by kernel_rfl) (by kernel_rfl) (by kernel_rfl) (fun _ _ _ h => h) (Or.inl ⟨by first | kernel_rfl | rfl, ?_⟩) (by assumption) ?_
        rotate_left
        · (intro w' hSw; (try dsimp only at hSw); go_simp; try with_reducible rfl)
        try simp only [Act.put]
        refine wpAnyH_take (i := 13) (v := ?_) rfl (by kernel_rfl) (by kernel_rfl) (by kernel_rfl) (fun _ _ _ h => h) (Or.inl ⟨by first | kernel_rfl | rfl, ?_⟩) (by assumption) ?_
        rotate_left
        · (intro w' hSw; (try dsimp only at hSw); go_simp; try with_reducible rfl)
        try simp only [Act.put]
        refine wpAnyH_take (i := 14) (v := ?_) rfl (by kernel_rfl) (by kernel_rfl) (by kernel_rfl) (fun _ _ _ h => h) (Or.inl ⟨by first | kernel_rfl | rfl, ?_⟩) (by assumption) ?_
        rotate_left
        · (intro w' hSw; (try dsimp only at hSw); go_simp; try with_reducible rfl)
        try simp only [Act.put]
        refine wpAnyH_take (i := 15) (v := ?_) rfl (by kernel_rfl) (by kernel_rfl) (by kernel_rfl) (fun _ _ _ h => h) (Or.inl ⟨by first | kernel_rfl | rfl, ?_⟩) (by assumption) ?_
        rotate_left
        · (intro w' hSw; (try dsimp only at hSw); go_simp; try with_reducible rfl)
        try simp only [Act.put]
        refine wpAnyH_take (i := 16) (v := ?_) rfl (by kernel_rfl) (by kernel_rfl) (by kernel_rfl) (fun _ _ _ h => h) (Or.inl ⟨by first | kernel_rfl | rfl, ?_⟩) (by assumption) ?_
        rotate_left
        · (intro w' hSw; (try dsimp only at hSw); go_simp; try with_reducible rfl)
        try simp only [Act.put]
        refine wpAnyH_take (i := 17) (v := ?_) rfl (by kernel_rfl) (by kernel_rfl) (by kernel_rfl) (fun _ _ _ h => h) (Or.inl ⟨by first | kernel_rfl | rfl, ?_⟩) (by assumption) ?_
        rotate_left
        · (intro w' hSw; (try dsimp only at hSw); go_simp; try with_reducible rfl)
        try simp only [Act.put]
        refine wpAnyH_take (i := 18) (v := ?_) rfl (by kernel_rfl) (by kernel_rfl) (by kernel_rfl) (fun _ _ _ h => h) (Or.inl ⟨by first | kernel_rfl | rfl, ?_⟩) (by assumption) ?_
        rotate_left
        · (intro w' hSw; (try dsimp only at hSw); go_simp; try with_reducible rfl)
        try simp only [Act.put]
        refine wpAnyH_done (by kernel_rfl) ?_ _
        go_simp
        clear hHeld hHeld2
        have hb3 := (below_drewB W1).trans (show Below W1.heap.size W1.drew w2 from hb2)
        have XB3 := Lib.hid (XB2.out.below hb3)
        have HW3 := Lib.hid (HW2.out.trans (hb3.mono HW2.out.size))
        clear hb2 hb3 x0 p0 s0 s1 s2 s3 s4 s5 s6 s7 s8 s9 s10 XB2 HW2 HXS
        go_wp2
        go_roundw
        case rel => exact ⟨k + 1 + 1, by omega, by go_num, XB3, HW3, HGN2⟩
        case measure => simp [intOf]; omega
    case neg =>
      have HG2 := Lib.hid (show GoodTo ls ls.length from by rw [HL.out, show n = k by omega]; exact HG.out)
      obtain ⟨HSO, HAS⟩ : Hid (∀ x ∈ ls, SetOkM x) ∧ Hid (Asc ls) := ⟨Lib.hid (good_all HG2.out (Nat.le_refl _)).1, Lib.hid (good_all HG2.out (Nat.le_refl _)).2⟩
      clear HG
      go_wp2_with fail
      refine (bookOpen_any _ ls _ XB1.out.reads (by rw [HL.out]; omega) HAS.out (fun x hx => by have := (HS.out.z x hx).1; unfold maxLen; omega)).mono ?_
      rintro e w2 ⟨m, Lb, rfl, hsb, hlb, hb2⟩
      have XB2 := Lib.hid (XB1.out.below hb2)
      have HW2 := Lib.hid (HW1.out.trans (hb2.mono HW1.out.size))
      obtain ⟨B, HSB⟩ : ∃ B, Hid (SetsB w2 B m Lb) := ⟨_, Lib.hid hsb⟩
      have HLB := Lib.hid hlb
      have HLL := Lib.hid (show Lb.length = n from by rw [← HL.out, ← hlb, List.length_map])
      clear hsb hlb hb2 XB1 HW1 x0
      have x0 := XB2.out.cell
      go_wp2
      go_loopw [7, 45] (fun _ i wr' => ∃ (k : Nat), k ≤ n ∧ i = .int .i64 k ∧ Hid (BBox wr' w.heap.size w.heap.size (.slice A n c) ls) ∧ Hid (SetsB wr' B m Lb) ∧ Hid (Below w.heap.size w wr') ∧ Hid (∀ (j : Nat) (h : j < ls.length), j < k → rootsM ls ls.length ls[j] = true)) (fun _ i _ => n - (intOf i).toNat)
      case atStart => exact ⟨0, Nat.zero_le _, rfl, XB2, HSB, HW2, Lib.hid (fun j _ h => absurd h (Nat.not_lt_zero _))⟩
      case round =>
        clear hk hlt x0
        obtain ⟨q, hq, rfl, XB3, HSB3, HW3, HK⟩ := hrel
        clear XB2 HW2 HSB
        have x0 := XB3.out.cell
        by_cases hlt : q < n
        case pos =>
          have hl0 : q < ls.length := by rw [HL.out]; exact hlt
          have hcells := XB3.out.reads.r
          rw [HL.out] at hcells
          obtain ⟨b, off, c', hv, hnc, hcm, hcell⟩ := hcells.form (by omega)
          injection hv with e1 e2 e3
          subst e1 e3
          clear e2 hcells
          unfold maxLen at hcm
          obtain ⟨g0, g1, g2, g3, g4, g5, g6, g7, g8, g9, g10⟩ := (set_read hcell q hl0).all
          have hk1 : (q : Int) < (n : Int) := by omega
          have hzf := (HS.out.z ls[q] (List.getElem_mem hl0)).2.1
          have HRB := Lib.hid (show rootsM ls ls.length ls[q] = false → ok = false from fun hh => HOK.out.symm.trans (bad_root hl0 hh))
          have HK1 := Lib.hid (show rootsM ls ls.length ls[q] = true → ∀ (j : Nat) (h : j < ls.length), j < q + 1 → rootsM ls ls.length ls[j] = true from fun hh j h hj => by
            rcases Nat.lt_succ_iff_lt_or_eq.1 hj with h3 | rfl
            · exact HK.out j h h3
            · exact hh)
          generalize ls[q] = y at g0 g1 g2 g3 g4 g5 g6 g7 g8 g9 g10 HRB HK1 hzf
          clear hcell hl0 HK
          obtain ⟨r, HR⟩ : ∃ r, Hid (rootsM ls ls.length y = r) := ⟨_, Lib.hid rfl⟩
          go_wp2_with fail
          have hnw := Below.new1 (w := wr) (.cells #[.string y.name, .int .i64 y.kind, .string y.frm, .string y.b0, .string y.b1, .string y.b2, .string y.b3, .string y.b4, .string y.b5, .string y.b6, .string y.b7] 97)
          have HR2 := Lib.hid (show rootsM (Lb.map (·.2)) Lb.length y = r from by rw [← HR.out, HLB.out, HLL.out, HL.out])
          refine (rooted_any m _ Lb y _ (HSB3.out.below hnw) (by rw [HLL.out]; omega) (by unfold maxLen; omega) (fun p hp => by have := (HS.out.z p.2 (by rw [← HLB.out]; exact List.mem_map_of_mem (f := (·.2)) hp)).2.1; unfold maxLen; omega)).mono ?_
          rintro e w3 ⟨rfl, hb3⟩
          rw [HR2.out]
          have hb4 := hnw.trans (hb3.mono hnw.size)
          have XB4 := Lib.hid (XB3.out.below hb4)
          have HSB4 := Lib.hid (HSB3.out.below hb4)
          have HW4 := Lib.hid (HW3.out.trans (hb4.mono HW3.out.size))
          clear hnw hb3 hb4 XB3 HSB3 HW3 x0 g0 g1 g2 g3 g4 g5 g6 g7 g8 g9 g10
          cases r with
          | true =>
            have HK2 := Lib.hid (HK1.out HR.out)
            go_wp2
            go_roundw
            case rel => exact ⟨q + 1, by omega, by go_num, XB4, HSB4, HW4, HK2⟩
            case measure => simp [intOf]; omega
          | false =>
            have HF := Lib.hid (HRB.out HR.out)
            go_wp2
            go_ret
            exact ⟨ret_boolB HF.out.symm, HW4.out⟩
        case neg =>
          have HF := Lib.hid (HOK.out.symm.trans (good_book (by rw [HL.out]; omega) HG2.out fun j h => HK.out j h (by have := HL.out; omega)))
          go_wp2
          go_ret
          exact ⟨ret_boolB HF.out.symm, HW3.out⟩
end Go.Proofs.YtojjenclcidnkaaGreatDoor

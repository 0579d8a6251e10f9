/-
  A block that has a text already: DdtFind of both sides.
-/
import Derived.Test.YtoeaeckkmpdpiaaDoorDdtOk
import Derived.Test.YtoeaeckkmpdpiaaDoorLBlkRead
import Derived.Test.YtoeaeckkmpdpiaaDoorSumWalk
import Derived.Deep.RegionHeld3
import Derived.WalkMore
set_option maxRecDepth 100000
namespace Go.Proofs.YtoeaeckkmpdpiaaDoor
open Go.ChangeShapes Go.WideShapes Go.ChangeAt Go.RowKit Go.Proofs.Palim

/-- The block of an entry is a text. -/
def Holds2 (d : DiskM) (tx : ByteArray) (e : EntM) : Prop := blkCode d ⟨e.at_, e.sum, 0⟩ = 0 ∧ blkText d ⟨e.at_, e.sum, 0⟩ = tx
noncomputable instance (d : DiskM) (tx : ByteArray) (e : EntM) : Decidable (Holds2 d tx e) := Classical.propDecidable _
noncomputable def hitB (d : DiskM) (tx : ByteArray) (e : EntM) : Bool := decide (e.sum = sumOf tx ∧ Holds2 d tx e)
noncomputable def findD (d : DiskM) (ls : List EntM) (tx : ByteArray) : Int := if DdtOkM ls then (ls.find? (hitB d tx)).elim 0 (·.at_) else 0
theorem findB_first {p : EntM → Bool} {ls : List EntM} {k : Nat} (hk : k < ls.length) (h : p ls[k] = true) (hn : ∀ (i : Nat) (h : i < ls.length), i < k → p ls[i] = false) : ls.find? p = some ls[k] := by
  rw [List.find?_eq_some_iff_getElem]
  exact ⟨h, k, hk, rfl, fun j hj => by rw [hn j (by omega) hj]; rfl⟩
theorem findB_none {p : EntM → Bool} {ls : List EntM} (hn : ∀ (i : Nat) (h : i < ls.length), p ls[i] = false) : ls.find? p = none := by
  rw [List.find?_eq_none]
  intro x hx
  obtain ⟨i, hi, rfl⟩ := List.mem_iff_getElem.1 hx
  rw [hn i hi]; simp
theorem hit_sum {d : DiskM} {tx : ByteArray} {e : EntM} (h : ¬ e.sum = sumOf tx) : hitB d tx e = false := decide_eq_false (fun c => h c.1)
theorem hit_hold {d : DiskM} {tx : ByteArray} {e : EntM} (h : ¬ Holds2 d tx e) : hitB d tx e = false := decide_eq_false (fun c => h c.2)
theorem hit_yes {d : DiskM} {tx : ByteArray} {e : EntM} (h1 : e.sum = sumOf tx) (h : Holds2 d tx e) : hitB d tx e = true := decide_eq_true ⟨h1, h⟩
theorem ret_i {a b : Int} (h : a = b) : Ending.returned (.int .i64 a) = Ending.returned (.int .i64 b) := by rw [h]
theorem ba_beq (a b : ByteArray) : (a.toList == b.toList) = decide (a = b) := by
  rw [ByteArray.toList_eq, ByteArray.toList_eq]
  by_cases h : a = b
  · subst h; simp
  · rw [decide_eq_false h]
    refine beq_eq_false_iff_ne.2 fun e => h ?_
    obtain ⟨⟨x⟩⟩ := a
    obtain ⟨⟨y⟩⟩ := b
    exact congrArg (fun l => (⟨⟨l⟩⟩ : ByteArray)) e

set_option maxHeartbeats 1000000 in
theorem ddtHolds_any (v0 v1 vl : Value) (d : DiskM) (e0 : EntM) (tx : ByteArray) (a0 a1 : Addr) (w : World) (h : DiskR w v0 v1 vl d) (hs : DiskShort d) (he : Errs w a0 a1) :
    Calls Tryd.prog 42 #[.agg #[v0, v1, vl], .agg #[.int .i64 e0.sum, .int .i64 e0.at_, .int .i64 e0.count], .string tx] w fun e w' => e = .returned (.bool (decide (Holds2 d tx e0))) ∧ Below w.heap.size w w' := by
  obtain ⟨r, HR⟩ : ∃ r, Hid (decide (Holds2 d tx e0) = r) := ⟨_, Lib.hid rfl⟩
  rw [HR.out]
  obtain ⟨t, HT⟩ : ∃ t, Hid (blkText d ⟨e0.at_, e0.sum, 0⟩ = t) := ⟨_, Lib.hid rfl⟩
  obtain ⟨c, HC⟩ : ∃ c, Hid (blkCode d ⟨e0.at_, e0.sum, 0⟩ = c) := ⟨_, Lib.hid rfl⟩
  have HD := Lib.hid (show decide (c = 0 ∧ t = tx) = r from by rw [← HR.out, ← HT.out, ← HC.out]; exact decide_eq_decide.2 Iff.rfl)
  clear HR
  obtain ⟨e1, e2, hsz, hB⟩ := box2 w #[v0, v1, vl] #[.int .i64 e0.sum, .int .i64 e0.at_, .int .i64 e0.count] 39 69
  have X1 := Lib.hid e1
  have X2 := Lib.hid e2
  have B0 := Lib.hid hB
  have HDR := Lib.hid (h.below hB)
  have HE := Lib.hid (he.below hB)
  have HS := Lib.hid hs
  clear e1 e2 hB h he hs
  obtain ⟨x0, x1, x2⟩ := X1.out.three
  obtain ⟨y0, y1, y2⟩ := X2.out.three
  go_enter Tryd.func42, Tryd.ntmps42
  go_wp2_with fail
  refine (implRead_is v0 v1 vl d ⟨e0.at_, e0.sum, 0⟩ a0 a1 _ HDR.out HS.out HE.out t c HT.out HC.out).mono ?_
  rintro e w1 ⟨rfl, hb⟩
  have B1 := Lib.hid (B0.out.trans (hb.mono B0.out.size))
  clear hb B0 x0 x1 x2 y0 y1 y2 hsz
  by_cases h1 : c = 0
  case pos =>
    subst h1
    by_cases h2 : t = tx
    case pos =>
      have h3 : (t.toList == tx.toList) = true := by rw [ba_beq, decide_eq_true h2]
      have HF := Lib.hid (show true = r from by rw [← HD.out, decide_eq_true ⟨rfl, h2⟩])
      clear h2
      go_wp2
      go_ret
      exact ⟨ret_b HF.out, B1.out⟩
    case neg =>
      have h3 : (t.toList == tx.toList) = false := by rw [ba_beq, decide_eq_false h2]
      have HF := Lib.hid (show false = r from by rw [← HD.out, decide_eq_false (fun c => h2 c.2)])
      clear h2
      go_wp2
      go_ret
      exact ⟨ret_b HF.out, B1.out⟩
  case neg =>
    have h3 : (c == 0) = false := by simpa using h1
    have HF := Lib.hid (show false = r from by rw [← HD.out, decide_eq_false (fun c => h1 c.1)])
    go_wp2
    go_ret
    exact ⟨ret_b HF.out, B1.out⟩
theorem ddtHolds_is (v0 v1 vl : Value) (d : DiskM) (e0 : EntM) (tx : ByteArray) (a0 a1 : Addr) (w : World) (h : DiskR w v0 v1 vl d) (hs : DiskShort d) (he : Errs w a0 a1) (r : Bool) (hr : decide (Holds2 d tx e0) = r) :
    Calls Tryd.prog 42 #[.agg #[v0, v1, vl], .agg #[.int .i64 e0.sum, .int .i64 e0.at_, .int .i64 e0.count], .string tx] w fun e w' => e = .returned (.bool r) ∧ Below w.heap.size w w' := hr ▸ ddtHolds_any v0 v1 vl d e0 tx a0 a1 w h hs he

set_option maxHeartbeats 2000000 in
theorem implFind_any (v0 v1 vl : Value) (d : DiskM) (v : Value) (ls : List EntM) (tx : ByteArray) (a0 a1 : Addr) (w : World) (hd : DiskR w v0 v1 vl d) (hs : DiskShort d) (he : Errs w a0 a1) (h : Sl w 3 v ls.length (ecs ls)) (hv : Low w.heap.size v) (ht : tx.size ≤ 1048576) :
    Calls Tryd.prog 16 #[.agg #[v0, v1, vl], v, .string tx] w fun e w' => e = .returned (.int .i64 (findD d ls tx)) ∧ Below w.heap.size w w' := by
  have hnot : ∀ (x : Bool) (w : World), (Op.unary .not (.bool x)).run Tryd.prog w = .ok (.bool (!x)) w := fun _ _ => rfl
  obtain ⟨R, HR⟩ : ∃ R, Hid (findD d ls tx = R) := ⟨_, Lib.hid rfl⟩
  rw [HR.out]
  have hn0 := Below.new (w := w) (.cells #[v0, v1, vl] 39)
  have XD := Lib.hid (boxed_new hd 39)
  have B0 := Lib.hid hn0
  have HE0 := Lib.hid (he.below hn0)
  have HV := Lib.hid (fun b e => Nat.lt_of_lt_of_le (hv b e) hn0.size)
  have HD := Lib.hid (h.below hn0 hv)
  have HS := Lib.hid hs
  obtain ⟨n, HL⟩ : ∃ n, Hid (ls.length = n) := ⟨_, Lib.hid rfl⟩
  obtain ⟨_, A, c, rfl, hnc, hcm, _⟩ := h
  unfold maxLen at hcm
  clear hv hn0 hd he hs
  rw [HL.out] at HD HV hnc ⊢
  go_enter Tryd.func16, Tryd.ntmps16
  go_wp2_with fail
  go_step3
  go_wp2_with fail
  refine (ImplDdtOk_any _ ls _ (by rw [HL.out]; exact HD.out) HV.out).mono ?_
  rintro e w1 ⟨rfl, hb⟩
  have HD1 := Lib.hid (HD.out.below hb HV.out)
  have HV1 := Lib.hid (fun b e => Nat.lt_of_lt_of_le (HV.out b e) hb.size)
  have XD1 := Lib.hid (XD.out.below hb)
  have HE1 := Lib.hid (HE0.out.below hb)
  have B1 := Lib.hid (B0.out.trans (hb.mono B0.out.size))
  clear hb HD HV XD HE0 B0
  by_cases hok : DdtOkM ls
  case neg =>
    rw [decide_eq_false hok]
    have HZ := Lib.hid (show (0 : Int) = R from by rw [← HR.out]; unfold findD; rw [if_neg hok])
    clear hok
    go_wp2
    (try rw [Exit.noGoto_ret])
    go_ret
    exact ⟨ret_i HZ.out, B1.out⟩
  case pos =>
    rw [decide_eq_true hok]
    have HC := Lib.hid (show (ls.find? (hitB d tx)).elim 0 (·.at_) = R from by rw [← HR.out]; unfold findD; rw [if_pos hok])
    clear hok HR
    go_wp2_with fail
    refine (implSumOf_any tx _ (by unfold maxLen; omega)).mono ?_
    rintro e w' ⟨rfl, rfl⟩
    obtain ⟨sm, HSM⟩ : ∃ sm, Hid (sumOf tx = sm) := ⟨_, Lib.hid rfl⟩
    rw [HSM.out]
    go_wp2_with fail
    go_step3
    go_wp2_with fail
    go_loopw [8, 10, 18] (fun f _ i wr => ∃ (k : Nat), k ≤ n ∧ f = .int .i64 0 ∧ i = .int .i64 k ∧ Hid (Below w1.heap.size w1 wr) ∧ Hid (∀ (i : Nat) (h : i < ls.length), i < k → hitB d tx ls[i] = false)) (fun _ _ i _ => n - (intOf i).toNat)
    case atStart => exact ⟨0, Nat.zero_le _, rfl, rfl, Lib.hid (Below.refl _ _), Lib.hid (fun j _ h => absurd h (Nat.not_lt_zero _))⟩
    case round =>
      obtain ⟨k, hk, rfl, rfl, HB, HG⟩ := hrel
      by_cases hlt : k < n
      case pos =>
        have hl0 : k < ls.length := by rw [HL.out]; exact hlt
        obtain ⟨b, off, c', hv', _, _, hcell⟩ := (HD1.out.below HB.out HV1.out).form (by omega)
        injection hv' with e1 e2 e3
        subst e1 e3
        obtain ⟨g0, g1, g2⟩ := ent_read hcell k hl0
        have hk1 : (k : Int) < (n : Int) := by omega
        have HN := Lib.hid (show hitB d tx ls[k] = false → ∀ (i : Nat) (h : i < ls.length), i < k + 1 → hitB d tx ls[i] = false from fun h i hi hik => by
          by_cases e : i = k
          · subst e; exact h
          · exact HG.out i hi (by omega))
        have HP := Lib.hid (show hitB d tx ls[k] = true → ls[k].at_ = R from fun h => by rw [← HC.out, findB_first hl0 h HG.out]; rfl)
        have HBa := Lib.hid (HB.out.alloc HB.out.size (.cells #[.int .i64 ls[k].sum, .int .i64 ls[k].at_, .int .i64 ls[k].count] 69))
        have XE := Lib.hid (box_new wr #[.int .i64 ls[k].sum, .int .i64 ls[k].at_, .int .i64 ls[k].count] 69)
        have XDa := Lib.hid (XD1.out.below (HB.out.alloc HB.out.size (.cells #[.int .i64 ls[k].sum, .int .i64 ls[k].at_, .int .i64 ls[k].count] 69)))
        have HEa := Lib.hid (HE1.out.below HBa.out)
        generalize ls[k] = y at g0 g1 g2 HN HP HBa XE XDa HEa
        clear hl0 HG hcell e2 HB
        by_cases hsm : y.sum = sm
        case neg =>
          have hq : (y.sum != sm) = true := by simpa using hsm
          have hq2 : decide (y.sum = sm) = false := decide_eq_false hsm
          have HN1 := Lib.hid (HN.out (hit_sum (by rw [HSM.out]; exact hsm)))
          clear HN HP
          go_wp2
          go_roundw
          case rel => exact ⟨k + 1, by omega, rfl, by go_num, HBa, HN1⟩
          case measure => simp [intOf]; omega
        case pos =>
          have hq : (y.sum != sm) = false := by simpa using hsm
          have hq2 : decide (y.sum = sm) = true := decide_eq_true hsm
          have HSM2 := Lib.hid (show y.sum = sumOf tx from hsm.trans HSM.out.symm)
          clear hsm
          obtain ⟨x0, x1, x2⟩ := XDa.out.box.three
          obtain ⟨y0, y1, y2⟩ := XE.out.three
          obtain ⟨r, Hr⟩ : ∃ r, Hid (decide (Holds2 d tx y) = r) := ⟨_, Lib.hid rfl⟩
          go_wp2_with fail
          refine (ddtHolds_is v0 v1 vl d y tx a0 a1 _ XDa.out.reads HS.out HEa.out r Hr.out).mono ?_
          rintro e w2 ⟨rfl, hb2⟩
          have HB2 := Lib.hid (HBa.out.trans (hb2.mono HBa.out.size))
          have XE2 := Lib.hid (XE.out.below hb2 XE.out.lt)
          clear hb2 HBa XE XDa HEa x0 x1 x2 y0 y1 y2 g0 g1 g2
          obtain ⟨y0, y1, y2⟩ := XE2.out.three
          cases r with
          | true =>
            have HP1 := Lib.hid (HP.out (hit_yes HSM2.out (of_decide_eq_true Hr.out)))
            clear HP HN Hr
            go_wp2
            (try rw [Exit.noGoto_ret])
            go_ret
            exact ⟨ret_i HP1.out, B1.out.trans (HB2.out.mono B1.out.size)⟩
          | false =>
            have HN1 := Lib.hid (HN.out (hit_hold (of_decide_eq_false Hr.out)))
            clear HP HN Hr
            go_wp2
            go_roundw
            case rel => exact ⟨k + 1, by omega, rfl, by go_num, HB2, HN1⟩
            case measure => simp [intOf]; omega
      case neg =>
        have HZ := Lib.hid (show (0 : Int) = R from by
          rw [← HC.out, findB_none (fun i hi => HG.out i hi (by have := HL.out; omega))]; rfl)
        clear HG
        go_wp2
        (try rw [Exit.noGoto_ret])
        go_ret
        exact ⟨ret_i HZ.out, B1.out.trans (HB.out.mono B1.out.size)⟩
theorem implFind_is (v0 v1 vl : Value) (d : DiskM) (v : Value) (ls : List EntM) (tx : ByteArray) (a0 a1 : Addr) (R : Int) (w : World) (hd : DiskR w v0 v1 vl d) (hs : DiskShort d) (he : Errs w a0 a1) (h : Sl w 3 v ls.length (ecs ls)) (hv : Low w.heap.size v) (ht : tx.size ≤ 1048576) (hR : findD d ls tx = R) :
    Calls Tryd.prog 16 #[.agg #[v0, v1, vl], v, .string tx] w fun e w' => e = .returned (.int .i64 R) ∧ Below w.heap.size w w' := hR ▸ implFind_any v0 v1 vl d v ls tx a0 a1 w hd hs he h hv ht

set_option maxHeartbeats 2000000 in
theorem specFind_any (v0 v1 vl : Value) (d : DiskM) (v : Value) (ls : List EntM) (tx : ByteArray) (w : World) (hd : DiskR w v0 v1 vl d) (hs : DiskShort d) (h : Sl w 3 v ls.length (ecs ls)) (hv : Low w.heap.size v) (ht : tx.size ≤ 1048576) :
    Calls Tryd.prog 13 #[.agg #[v0, v1, vl], v, .string tx] w fun e w' => e = .returned (.int .i64 (findD d ls tx)) ∧ Below w.heap.size w w' := by
  have hnot : ∀ (x : Bool) (w : World), (Op.unary .not (.bool x)).run Tryd.prog w = .ok (.bool (!x)) w := fun _ _ => rfl
  obtain ⟨R, HR⟩ : ∃ R, Hid (findD d ls tx = R) := ⟨_, Lib.hid rfl⟩
  rw [HR.out]
  have hn0 := Below.new (w := w) (.cells #[v0, v1, vl] 39)
  have XD := Lib.hid (boxed_new hd 39)
  have B0 := Lib.hid hn0
  have HV := Lib.hid (fun b e => Nat.lt_of_lt_of_le (hv b e) hn0.size)
  have HD := Lib.hid (h.below hn0 hv)
  have HS := Lib.hid hs
  obtain ⟨n, HL⟩ : ∃ n, Hid (ls.length = n) := ⟨_, Lib.hid rfl⟩
  obtain ⟨_, A, c, rfl, hnc, hcm, _⟩ := h
  unfold maxLen at hcm
  clear hv hn0 hd hs
  rw [HL.out] at HD HV hnc ⊢
  obtain ⟨sm, HSM⟩ : ∃ sm, Hid (sumOf tx = sm) := ⟨_, Lib.hid rfl⟩
  go_enter Tryd.func13, Tryd.ntmps13
  go_wp2_with fail
  refine (specSumOf_any tx _ (by unfold maxLen; omega)).mono ?_
  rintro e w' ⟨rfl, rfl⟩
  rw [HSM.out]
  obtain ⟨W, HWE⟩ : ∃ W, w.alloc (.cells #[v0, v1, vl] 39) = W := ⟨_, rfl⟩
  rw [HWE] at XD B0 HD HV ⊢
  clear HWE
  by_cases hok : DdtOkM ls
  case neg =>
    have HF := Lib.hid (decide_eq_false hok)
    have HZ := Lib.hid (show (0 : Int) = R from by rw [← HR.out]; unfold findD; rw [if_neg hok])
    clear hok
    go_wp2
    go_loopw [8] (fun i wr => i = .int .i64 0 ∧ wr = W) (fun _ _ => 0)
    case atStart => exact ⟨rfl, rfl⟩
    case round =>
      obtain ⟨rfl, rfl⟩ := hrel
      go_wp2_with fail
      refine (SpecDdtOk_is _ ls false _ (by rw [HL.out]; exact HD.out) HV.out HF.out).mono ?_
      rintro e w1 ⟨rfl, hb⟩
      go_wp2
      go_ret
      exact ⟨ret_i HZ.out, B0.out.trans (hb.mono B0.out.size)⟩
  case pos =>
    have HT := Lib.hid (decide_eq_true hok)
    have HC := Lib.hid (show (ls.find? (hitB d tx)).elim 0 (·.at_) = R from by rw [← HR.out]; unfold findD; rw [if_pos hok])
    clear hok HR
    go_wp2
    go_loopw [8] (fun i wr => ∃ (k : Nat), k ≤ n ∧ i = .int .i64 k ∧ Hid (Below W.heap.size W wr) ∧ Hid (∀ (i : Nat) (h : i < ls.length), i < k → hitB d tx ls[i] = false)) (fun i _ => n - (intOf i).toNat)
    case atStart => exact ⟨0, Nat.zero_le _, rfl, Lib.hid (Below.refl _ _), Lib.hid (fun j _ h => absurd h (Nat.not_lt_zero _))⟩
    case round =>
      obtain ⟨k, hk, rfl, HB, HG⟩ := hrel
      go_wp2_with fail
      refine (SpecDdtOk_is _ ls true _ (by rw [HL.out]; exact HD.out.below HB.out HV.out) (fun b e => Nat.lt_of_lt_of_le (HV.out b e) HB.out.size) HT.out).mono ?_
      rintro e w1 ⟨rfl, hb⟩
      have HB1 := Lib.hid (HB.out.trans (hb.mono HB.out.size))
      clear hb HB
      by_cases hlt : k < n
      case pos =>
        have hl0 : k < ls.length := by rw [HL.out]; exact hlt
        obtain ⟨b, off, c', hv', _, _, hcell⟩ := (HD.out.below HB1.out HV.out).form (by omega)
        injection hv' with e1 e2 e3
        subst e1 e3
        have hbl : b < w1.heap.size := Nat.lt_of_lt_of_le (HV.out b rfl) HB1.out.size
        obtain ⟨g0, g1, g2⟩ := ent_read hcell k hl0
        have hk1 : (k : Int) < (n : Int) := by omega
        have HN := Lib.hid (show hitB d tx ls[k] = false → ∀ (i : Nat) (h : i < ls.length), i < k + 1 → hitB d tx ls[i] = false from fun h i hi hik => by
          by_cases e : i = k
          · subst e; exact h
          · exact HG.out i hi (by omega))
        have HP := Lib.hid (show hitB d tx ls[k] = true → ls[k].at_ = R from fun h => by rw [← HC.out, findB_first hl0 h HG.out]; rfl)
        have XDa := Lib.hid (XD.out.below HB1.out)
        generalize ls[k] = y at g0 g1 g2 HN HP
        clear hl0 HG hcell e2
        by_cases hsm : y.sum = sm
        case neg =>
          have hq : (y.sum == sm) = false := by simpa using hsm
          have hq2 : decide (y.sum = sm) = false := decide_eq_false hsm
          have HN1 := Lib.hid (HN.out (hit_sum (by rw [HSM.out]; exact hsm)))
          clear HN HP
          go_wp2
          go_roundw
          case rel => exact ⟨k + 1, by omega, by go_num, HB1, HN1⟩
          case measure => simp [intOf]; omega
        case pos =>
          have hq : (y.sum == sm) = true := by simpa using hsm
          have hq2 : decide (y.sum = sm) = true := decide_eq_true hsm
          have HSM2 := Lib.hid (show y.sum = sumOf tx from hsm.trans HSM.out.symm)
          have HSM3 := Lib.hid hsm
          clear hsm
          obtain ⟨x0, x1, x2⟩ := XDa.out.box.three
          have hxl := XDa.out.box.lt
          obtain ⟨t, HTT⟩ : ∃ t, Hid (blkText d ⟨y.at_, sm, 0⟩ = t) := ⟨_, Lib.hid rfl⟩
          obtain ⟨cd, HCC⟩ : ∃ c, Hid (blkCode d ⟨y.at_, sm, 0⟩ = c) := ⟨_, Lib.hid rfl⟩
          have HH := Lib.hid (show decide (Holds2 d tx y) = decide (cd = 0 ∧ t = tx) from decide_eq_decide.2 (by unfold Holds2; rw [HSM3.out, HTT.out, HCC.out]))
          have RD := Lib.hid XDa.out.reads.drew
          go_wp2_with fail
          go_region_held3 (fun w' => w'.cell? ⟨w.heap.size, 0, none⟩ = some v0 ∧ w'.cell? ⟨w.heap.size, 1, none⟩ = some v1 ∧ w'.cell? ⟨w.heap.size, 2, none⟩ = some vl ∧ w'.cell? ⟨b, off + k * 3 + 1, none⟩ = some (.int .i64 y.at_))
            (first
              | exact ⟨x0, x1, x2, g1⟩
              | (go_split_ands
                 refine ⟨?_, ?_, ?_, ?_⟩
                 all_goals (rw [hb2.cell (by simp <;> omega)]; assumption)))
            ((go_at_call 36; ((refine (specRead_is v0 v1 vl d ⟨y.at_, sm, 0⟩ _ RD.out HS.out t cd HTT.out HCC.out).mono ?_); rintro e w2 ⟨rfl, hb2⟩)))
          have HB2 := Lib.hid (HB1.out.drew.trans (hb2.mono HB1.out.size))
          have g1' : w2.cell? ⟨b, off + k * 3 + 1, none⟩ = some (.int .i64 y.at_) := (hb2.cell (by simp; exact hbl)).trans g1
          clear hb2 HB1 XDa RD x0 x1 x2 g0 g1 g2 HTT HCC
          by_cases h1 : cd = 0
          case pos =>
            subst h1
            by_cases h2 : t = tx
            case pos =>
              have h3 : (t.toList == tx.toList) = true := by rw [ba_beq, decide_eq_true h2]
              have HP1 := Lib.hid (HP.out (hit_yes HSM2.out (of_decide_eq_true (HH.out.trans (decide_eq_true ⟨rfl, h2⟩)))))
              clear h2 HP HN HH
              go_wp2
              go_ret
              exact ⟨ret_i HP1.out, B0.out.trans (HB2.out.mono B0.out.size)⟩
            case neg =>
              have h3 : (t.toList == tx.toList) = false := by rw [ba_beq, decide_eq_false h2]
              have HN1 := Lib.hid (HN.out (hit_hold (of_decide_eq_false (HH.out.trans (decide_eq_false (fun c => h2 c.2))))))
              clear h2 HP HN HH
              go_wp2
              go_roundw
              case rel => exact ⟨k + 1, by omega, by go_num, HB2, HN1⟩
              case measure => simp [intOf]; omega
          case neg =>
            have h3 : (cd == 0) = false := by simpa using h1
            have HN1 := Lib.hid (HN.out (hit_hold (of_decide_eq_false (HH.out.trans (decide_eq_false (fun c => h1 c.1))))))
            clear HP HN HH
            go_wp2
            go_roundw
            case rel => exact ⟨k + 1, by omega, by go_num, HB2, HN1⟩
            case measure => simp [intOf]; omega
      case neg =>
        have HZ := Lib.hid (show (0 : Int) = R from by
          rw [← HC.out, findB_none (fun i hi => HG.out i hi (by have := HL.out; omega))]; rfl)
        clear HG
        go_wp2
        go_ret
        exact ⟨ret_i HZ.out, B0.out.trans (HB1.out.mono B0.out.size)⟩
theorem specFind_is (v0 v1 vl : Value) (d : DiskM) (v : Value) (ls : List EntM) (tx : ByteArray) (R : Int) (w : World) (hd : DiskR w v0 v1 vl d) (hs : DiskShort d) (h : Sl w 3 v ls.length (ecs ls)) (hv : Low w.heap.size v) (ht : tx.size ≤ 1048576) (hR : findD d ls tx = R) :
    Calls Tryd.prog 13 #[.agg #[v0, v1, vl], v, .string tx] w fun e w' => e = .returned (.int .i64 R) ∧ Below w.heap.size w w' := hR ▸ specFind_any v0 v1 vl d v ls tx w hd hs h hv ht
end Go.Proofs.YtoeaeckkmpdpiaaDoor

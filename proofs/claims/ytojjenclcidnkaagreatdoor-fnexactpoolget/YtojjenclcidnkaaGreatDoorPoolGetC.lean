/-
  A block got from a store, on both sides.
-/
import Derived.Test.YtojjenclcidnkaaGreatDoorBinS
import Derived.Test.YtojjenclcidnkaaGreatDoorPoolOkC
import Derived.Test.YtojjenclcidnkaaGreatDoorBlkRS
import Derived.Test.YtojjenclcidnkaaGreatDoorRoots
import Derived.Test.YtojjenclcidnkaaGreatDoorNm
set_option maxRecDepth 100000
namespace Go.Proofs.YtojjenclcidnkaaGreatDoor
open Go.ChangeShapes Go.WideShapes Go.ChangeAt Go.RowKit Go.Proofs.Palim

theorem ptrAt_cells {w : World} {ls : List CSetM} {b off K i : Nat} (hc : ∀ j u, (ccs ls)[j]? = some u → w.cell? ⟨b, off + j, none⟩ = some u) (hK : K < ls.length) (hi : i < 8) :
    ∀ j u, (pc (ptrAt ls K (i : Int)))[j]? = some u → w.cell? ⟨b, off + K * 31 + 3 + i * 3 + j, none⟩ = some u := by
  intro j u hu
  have hj : j < 3 := (List.getElem?_eq_some_iff.1 hu).1
  have h8 : i < ls[K].map.length := by rw [ls[K].h8]; exact hi
  have e : ptrAt ls K (i : Int) = ls[K].map[i] := by
    unfold ptrAt
    rw [List.getElem?_eq_getElem hK]
    simp only [Int.toNat_natCast]
    rw [List.getElem?_eq_getElem h8]
    rfl
  rw [e] at hu
  have h1 := cc_map ls[K] (i * 3 + j) u ((pcs_atD ls[K].map i h8 j hj).trans hu)
  have h2 := cset_read hc K hK _ u h1
  rw [show off + K * 31 + 3 + i * 3 + j = off + K * 31 + (3 + (i * 3 + j)) by omega]
  exact h2
theorem getM_bad {p : PoolM} {s : ByteArray} {i : Int} {t : ByteArray} {c : Int} (hg : getM p s i = (t, c)) (h : poolOkB p = false ∨ i < 0 ∨ 8 ≤ i) : t = ⟨#[]⟩ ∧ c = 5 := by
  unfold getM at hg; rw [if_pos h] at hg; cases hg; exact ⟨rfl, rfl⟩
theorem getM_down {p : PoolM} {s : ByteArray} {i : Int} {t : ByteArray} {c : Int} (hg : getM p s i = (t, c)) (h : ¬ (poolOkB p = false ∨ i < 0 ∨ 8 ≤ i)) (hu : p.up = false) : t = ⟨#[]⟩ ∧ c = 9 := by
  unfold getM at hg; rw [if_neg h, if_pos hu] at hg; cases hg; exact ⟨rfl, rfl⟩
theorem getM_none {p : PoolM} {s : ByteArray} {i : Int} {t : ByteArray} {c : Int} (hg : getM p s i = (t, c)) (h : ¬ (poolOkB p = false ∨ i < 0 ∨ 8 ≤ i)) (hu : ¬ p.up = false) (ht : thereM (namesM p.core.sets) s = false) : t = ⟨#[]⟩ ∧ c = 1 := by
  unfold getM at hg; rw [if_neg h, if_neg hu, if_pos ht] at hg; cases hg; exact ⟨rfl, rfl⟩
theorem getM_some {p : PoolM} {s : ByteArray} {i : Int} {t : ByteArray} {c : Int} (hg : getM p s i = (t, c)) (h : ¬ (poolOkB p = false ∨ i < 0 ∨ 8 ≤ i)) (hu : ¬ p.up = false) (ht : ¬ thereM (namesM p.core.sets) s = false) :
    (blkCode p.disk (ptrAt p.core.sets (atM (namesM p.core.sets) s) i) = 2 → t = ⟨#[]⟩ ∧ c = 8) ∧ (blkCode p.disk (ptrAt p.core.sets (atM (namesM p.core.sets) s) i) ≠ 2 → t = blkText p.disk (ptrAt p.core.sets (atM (namesM p.core.sets) s) i) ∧ c = 0) := by
  unfold getM at hg; rw [if_neg h, if_neg hu, if_neg ht] at hg
  constructor
  · intro h2; rw [if_pos h2] at hg; cases hg; exact ⟨rfl, rfl⟩
  · intro h2; rw [if_neg h2] at hg; cases hg; exact ⟨rfl, rfl⟩
theorem l4At_is (v : Value) (ls : List SetM) (s : ByteArray) (K : Nat) (th : Bool) (w : World) (h : BookR w v ls) (hs : ls.length ≤ 1048576) (hK : atM ls s = K) (ht : thereM ls s = th) :
    Calls Tryz.prog 18 #[.agg #[v], .string s] w fun e w' => e = .returned (.tuple #[.int .i64 (K : Int), .bool th]) ∧ Below w.heap.size w w' := by
  subst hK ht
  exact l4At_any v ls s w h hs
set_option maxHeartbeats 2000000 in
theorem specPoolGet_is (v : PV) (p : PoolM) (s : ByteArray) (i : Int) (t : ByteArray) (c : Int) (w : World) (h : PoolR w v p) (hs : PoolShort p) (hg : getM p s i = (t, c)) :
    Calls Tryz.prog 6 #[v.val p, .string s, .int .i64 i] w fun e w' => e = .returned (.tuple #[.string t, .int .i64 c]) ∧ Below w.heap.size w w' := by
  have hnot : ∀ (x : Bool) (w : World), (Op.unary .not (.bool x)).run Tryz.prog w = .ok (.bool (!x)) w := fun _ _ => rfl
  obtain ⟨v0, v1, vl, vs, vd, vp, vi⟩ := v
  obtain ⟨_, A0, c0, e0, _, hc0, _⟩ := h.c.s
  simp only at e0
  subst e0
  unfold maxLen at hc0
  have HS := Lib.hid hs
  have HG := Lib.hid hg
  have XA := Lib.hid (pbox_new h 47)
  have B0 := Lib.hid (Below.new1 (w := w) (.cells #[v0, v1, vl, .int .i64 p.core.txg, .slice A0 p.core.sets.length c0, vd, vp, .bool p.core.dirty, vi, .int .i64 p.core.logn, .bool p.up] 47))
  clear h hs hg
  go_enter Tryz.func6, Tryz.ntmps6
  go_upto_region 1 with fail
  obtain ⟨V0, HWE⟩ : ∃ W, w.alloc (.cells #[v0, v1, vl, .int .i64 p.core.txg, .slice A0 p.core.sets.length c0, vd, vp, .bool p.core.dirty, vi, .int .i64 p.core.logn, .bool p.up] 47) = W := ⟨_, rfl⟩
  rw [HWE] at XA B0 ⊢
  clear HWE
  go_wp2_with (refine wpList_load_box rfl _ rfl aggPool rfl [v0, v1, vl, .int .i64 p.core.txg, .slice A0 p.core.sets.length c0, vd, vp, .bool p.core.dirty, vi, .int .i64 p.core.logn, .bool p.up] rfl XA.out.box ?_)
  obtain ⟨ok, HOK⟩ : ∃ ok, Hid (poolOkB p = ok) := ⟨_, Lib.hid rfl⟩
  refine (specPoolOk_is _ p ok _ XA.out.reads HS.out HOK.out).mono ?_
  rintro e w1 ⟨rfl, hb⟩
  have YXA := Lib.hid (XA.out.below hb)
  have YB := Lib.hid (B0.out.trans (hb.mono B0.out.size))
  clear B0 hb XA
  have XA := YXA
  clear YXA
  have B0 := YB
  clear YB
  by_cases hbad : poolOkB p = false ∨ i < 0 ∨ 8 ≤ i
  · obtain ⟨rfl, rfl⟩ := getM_bad HG.out hbad
    have hbad2 : ok = false ∨ (ok = true ∧ i < 0) ∨ (ok = true ∧ ¬ i < 0 ∧ i ≥ 8) := by
      have := HOK.out
      cases ok
      · exact .inl rfl
      · rcases hbad with h | h | h
        · rw [this] at h; cases h
        · exact .inr (.inl ⟨rfl, h⟩)
        · exact .inr (.inr ⟨rfl, by omega, h⟩)
    clear hbad
    rcases hbad2 with rfl | ⟨rfl, h1⟩ | ⟨rfl, h1, h2⟩
    all_goals
      go_wp2
      go_ret2
      exact ⟨rfl, B0.out⟩
  have HBAD := Lib.hid hbad
  obtain rfl : ok = true := by
    have := HOK.out
    cases ok
    · exact absurd (Or.inl this) hbad
    · rfl
  obtain ⟨h1, h2⟩ : ¬ i < 0 ∧ ¬ i ≥ 8 := ⟨fun h => hbad (.inr (.inl h)), fun h => hbad (.inr (.inr h))⟩
  obtain ⟨asc, hl6⟩ := poolOk_asc HOK.out
  clear hbad
  have HASC := Lib.hid asc
  clear asc
  have q10 := XA.out.box.cell 10 rfl
  by_cases hup : p.up = false
  · obtain ⟨rfl, rfl⟩ := getM_down HG.out HBAD.out hup
    rw [hup] at q10
    go_wp2
    go_ret2
    exact ⟨rfl, B0.out⟩
  have HUP := Lib.hid hup
  rw [show p.up = true from by simpa using hup] at q10
  have q4 := XA.out.box.cell 4 rfl
  clear hup
  obtain ⟨K, HK⟩ : ∃ K, Hid (atM (namesM p.core.sets) s = K) := ⟨_, Lib.hid rfl⟩
  obtain ⟨th, HTH⟩ : ∃ th, Hid (thereM (namesM p.core.sets) s = th) := ⟨_, Lib.hid rfl⟩
  go_wp2_with (refine wpList_load_cs rfl _ rfl aggCore rfl [.int .i64 p.core.txg, .slice A0 p.core.sets.length c0, vd, vp, .bool p.core.dirty, vi, .int .i64 p.core.logn] rfl (PV.coreAt XA.out.box) ?_)
  refine (names_any _ _ _ _ p.core _ XA.out.reads.c HS.out.c).mono ?_
  rintro e w2 ⟨u, rfl, hown, hb⟩
  clear q4 q10
  have YXA := Lib.hid (XA.out.below hb)
  have YB := Lib.hid (B0.out.trans (hb.mono B0.out.size))
  clear B0 hb XA
  have XA := YXA
  clear YXA
  have B0 := YB
  clear YB
  rw [← namesM_len] at hown
  have BR := Lib.hid (show BookR w2 u (namesM p.core.sets) from ⟨sl_of_own hown, low_of_own hown⟩)
  clear hown
  go_wp2_with fail
  refine (l4At_is u (namesM p.core.sets) s K th _ BR.out (by rw [namesM_len]; omega) HK.out HTH.out).mono ?_
  rintro e w3 ⟨rfl, hb⟩
  clear BR
  have YXA := Lib.hid (XA.out.below hb)
  have YB := Lib.hid (B0.out.trans (hb.mono B0.out.size))
  clear B0 hb XA
  have XA := YXA
  clear YXA
  have B0 := YB
  clear YB
  cases th
  · obtain ⟨rfl, rfl⟩ := getM_none HG.out HBAD.out HUP.out HTH.out
    go_wp2
    go_ret2
    exact ⟨rfl, B0.out⟩
  have hgs := getM_some HG.out HBAD.out HUP.out (by rw [HTH.out]; simp)
  have hKn := there_at HTH.out
  rw [HK.out] at hgs hKn
  obtain ⟨i, rfl⟩ : ∃ m : Nat, i = m := ⟨i.toNat, by omega⟩
  have hi8 : i < 8 := by omega
  obtain ⟨n, HL⟩ : ∃ n, Hid (p.core.sets.length = n) := ⟨_, Lib.hid rfl⟩
  obtain ⟨q, HQ⟩ : ∃ q, Hid (ptrAt p.core.sets K (i : Int) = q) := ⟨_, Lib.hid rfl⟩
  rw [HQ.out] at hgs
  obtain ⟨bc, HBC⟩ : ∃ bc, Hid (blkCode p.disk q = bc) := ⟨_, Lib.hid rfl⟩
  rw [HBC.out] at hgs
  have HGS := Lib.hid hgs
  clear hgs
  obtain ⟨b, off, c1, hvv, _, _, hcell⟩ := XA.out.reads.c.s.form (by omega)
  injection hvv with ea eb ec
  subst ea ec
  clear eb
  have HPC := Lib.hid (ptrAt_cells hcell hKn hi8)
  rw [HQ.out] at HPC
  clear hcell
  have hK1 : (K : Int) < (p.core.sets.length : Int) := by omega
  have hi1 : (i : Int) < 8 := by omega
  go_wp2_with fail
  refine wp_region_held_drew (S := fun w' => Box w' w.heap.size [v0, v1, vl, .int .i64 p.core.txg, .slice (some ⟨b, off, none⟩) p.core.sets.length c0, vd, vp, .bool p.core.dirty, vi, .int .i64 p.core.logn, .bool p.up] ∧ (∀ j u, (pc q)[j]? = some u → w'.cell? ⟨b, off + K * 31 + 3 + i * 3 + j, none⟩ = some u) ∧ w'.cell? ⟨w.heap.size, 4, none⟩ = some (.slice (some ⟨b, off, none⟩) p.core.sets.length c0)) (by kernel_rfl) ⟨XA.out.box, HPC.out, XA.out.box.cell 4 rfl⟩ (fun hHeld => ?_)
  refine wpAnyH_take (i := 0) (v := ?_) rfl (by kernel_rfl) (by kernel_rfl) (by kernel_rfl) (fun _ _ _ h => h) (Or.inl ⟨by first | kernel_rfl | rfl, ?_⟩) (by assumption) ?_
  rotate_left
  · (intro w' hSw; (try dsimp only at hSw); go_simp; try with_reducible rfl)
  go_simp
  refine wpAnyH_take (i := 1) (v := .agg #[v0, v1, vl]) rfl (by kernel_rfl) (by kernel_rfl) (by kernel_rfl) (fun _ _ _ h => h) (Or.inl ⟨by first | kernel_rfl | rfl, fun w' hSw => exec_load_cs _ rfl aggDiskI rfl [v0, v1, vl] rfl (Box.midAt hSw.1 [] [v0, v1, vl] [.int .i64 p.core.txg, .slice (some ⟨b, off, none⟩) p.core.sets.length c0, vd, vp, .bool p.core.dirty, vi, .int .i64 p.core.logn, .bool p.up] 0 rfl rfl)⟩) (by assumption) ?_
  go_simp
  refine wpAnyH_take (i := 2) (v := ?_) rfl (by kernel_rfl) (by kernel_rfl) (by kernel_rfl) (fun _ _ _ h => h) (Or.inl ⟨by first | kernel_rfl | rfl, ?_⟩) (by assumption) ?_
  rotate_left
  · (intro w' hSw; (try dsimp only at hSw); go_simp; try with_reducible rfl)
  go_simp
  refine wpAnyH_take (i := 3) (v := ?_) rfl (by kernel_rfl) (by kernel_rfl) (by kernel_rfl) (fun _ _ _ h => h) (Or.inl ⟨by first | kernel_rfl | rfl, ?_⟩) (by assumption) ?_
  rotate_left
  · (intro w' hSw; (try dsimp only at hSw); go_simp; try with_reducible rfl)
  go_simp
  refine wpAnyH_take (i := 4) (v := ?_) rfl (by kernel_rfl) (by kernel_rfl) (by kernel_rfl) (fun _ _ _ h => h) (Or.inl ⟨by first | kernel_rfl | rfl, ?_⟩) (by assumption) ?_
  rotate_left
  · (intro w' hSw; (try dsimp only at hSw); go_simp; try with_reducible rfl)
  go_simp
  refine wpAnyH_take (i := 5) (v := ?_) rfl (by kernel_rfl) (by kernel_rfl) (by kernel_rfl) (fun _ _ _ h => h) (Or.inl ⟨by first | kernel_rfl | rfl, ?_⟩) (by assumption) ?_
  rotate_left
  · (intro w' hSw; (try dsimp only at hSw); go_simp; try with_reducible rfl)
  go_simp
  refine wpAnyH_take (i := 6) (v := ?_) rfl (by kernel_rfl) (by kernel_rfl) (by kernel_rfl) (fun _ _ _ h => h) (Or.inl ⟨by first | kernel_rfl | rfl, ?_⟩) (by assumption) ?_
  rotate_left
  · (intro w' hSw; (try dsimp only at hSw); go_simp; try with_reducible rfl)
  go_simp
  refine wpAnyH_take (i := 7) (v := ?_) rfl (by kernel_rfl) (by kernel_rfl) (by kernel_rfl) (fun _ _ _ h => h) (Or.inl ⟨by first | kernel_rfl | rfl, ?_⟩) (by assumption) ?_
  rotate_left
  · (intro w' hSw; (try dsimp only at hSw); go_simp; try with_reducible rfl)
  go_simp
  refine wpAnyH_take (i := 8) (v := ?_) rfl (by kernel_rfl) (by kernel_rfl) (by kernel_rfl) (fun _ _ _ h => h) (Or.inl ⟨by first | kernel_rfl | rfl, ?_⟩) (by assumption) ?_
  rotate_left
  · (intro w' hSw; (try dsimp only at hSw); go_simp; try with_reducible rfl)
  go_simp
  refine wpAnyH_take (i := 9) (v := ?_) rfl (by kernel_rfl) (by kernel_rfl) (by kernel_rfl) (fun _ _ _ h => h) (Or.inl ⟨by first | kernel_rfl | rfl, ?_⟩) (by assumption) ?_
  rotate_left
  · (intro w' hSw; (try dsimp only at hSw); go_simp; try with_reducible rfl)
  go_simp
  refine wpAnyH_take (i := 10) (v := pv q) rfl (by kernel_rfl) (by kernel_rfl) (by kernel_rfl) (fun _ _ _ h => h) (Or.inl ⟨by first | kernel_rfl | rfl, fun w' hSw => exec_load_cs _ rfl aggPtrI rfl (pc q) rfl hSw.2.1⟩) (by assumption) ?_
  go_simp
  refine wpAnyH_ready (rs := [11]) (by kernel_rfl) (by simp) ?_
  refine AllReadyH.cons rfl (fun K hK => ?_) AllReadyH.nil
  go_simp
  go_at_call 20
  have XD := Lib.hid (show PBox w3.drew w.heap.size _ p from ⟨XA.out.box.drew, XA.out.reads.drew⟩)
  refine (specBlkRead_any _ _ _ p.disk q _ XD.out.reads.d HS.out.d).mono ?_
  rintro e w8 ⟨rfl, hb⟩
  rw [HBC.out]
  have X8 := Lib.hid (XD.out.below hb)
  go_wp2_with fail
  refine hK.out _ _ ⟨X8.out.box, ?_, X8.out.box.cell 4 rfl⟩ (fun hHeld2 => ?_)
  · have h3 := X8.out.reads.c.s.form (by omega)
    obtain ⟨b2, off2, c2, hvv, _, _, hcell⟩ := h3
    injection hvv with ea eb ec
    injection ea with ea
    injection ea with ea eo
    subst ea eo
    have := ptrAt_cells hcell hKn hi8
    rw [HQ.out] at this
    exact this
  clear hK
  go_simp
  refine wpAnyH_take (i := 12) (v := ?_) rfl (by kernel_rfl) (by kernel_rfl) (by kernel_rfl) (fun _ _ _ h => h) (Or.inl ⟨by first | kernel_rfl | rfl, ?_⟩) (by assumption) ?_
  rotate_left
  · (intro w' hSw; (try dsimp only at hSw); go_simp; try with_reducible rfl)
  go_simp
  refine wpAnyH_take (i := 13) (v := ?_) rfl (by kernel_rfl) (by kernel_rfl) (by kernel_rfl) (fun _ _ _ h => h) (Or.inl ⟨by first | kernel_rfl | rfl, ?_⟩) (by assumption) ?_
  rotate_left
  · (intro w' hSw; (try dsimp only at hSw); go_simp; try with_reducible rfl)
  go_simp
  refine wpAnyH_take (i := 14) (v := ?_) rfl (by kernel_rfl) (by kernel_rfl) (by kernel_rfl) (fun _ _ _ h => h) (Or.inl ⟨by first | kernel_rfl | rfl, ?_⟩) (by assumption) ?_
  rotate_left
  · (intro w' hSw; (try dsimp only at hSw); go_simp; try with_reducible rfl)
  go_simp
  refine wpAnyH_take (i := 15) (v := ?_) rfl (by kernel_rfl) (by kernel_rfl) (by kernel_rfl) (fun _ _ _ h => h) (Or.inl ⟨by first | kernel_rfl | rfl, ?_⟩) (by assumption) ?_
  rotate_left
  · (intro w' hSw; (try dsimp only at hSw); go_simp; try with_reducible rfl)
  go_simp
  refine wpAnyH_take (i := 16) (v := ?_) rfl (by kernel_rfl) (by kernel_rfl) (by kernel_rfl) (fun _ _ _ h => h) (Or.inl ⟨by first | kernel_rfl | rfl, ?_⟩) (by assumption) ?_
  rotate_left
  · (intro w' hSw; (try dsimp only at hSw); go_simp; try with_reducible rfl)
  go_simp
  refine wpAnyH_done (by kernel_rfl) ?_ _
  go_simp
  clear hHeld hHeld2
  have hb9 := (below_drewB w3).trans hb
  have B9 := Lib.hid (B0.out.trans (hb9.mono B0.out.size))
  clear hb hb9 XA XD X8 HPC
  by_cases h2c : bc = 2
  · obtain ⟨rfl, rfl⟩ := HGS.out.1 h2c
    go_wp2
    go_ret2
    exact ⟨rfl, B9.out⟩
  · obtain ⟨rfl, rfl⟩ := HGS.out.2 h2c
    obtain ⟨tx, HTX⟩ : ∃ tx, Hid (blkText p.disk q = tx) := ⟨_, Lib.hid rfl⟩
    rw [HTX.out]
    go_wp2
    go_ret2
    first | exact ⟨rfl, B9.out⟩ | exact ⟨ret_ti HTX.out.symm rfl, B9.out⟩
set_option maxHeartbeats 2000000 in
theorem implPoolGet_is (v : PV) (p : PoolM) (s : ByteArray) (i : Int) (a0 a1 : Addr) (t : ByteArray) (c : Int) (w : World) (h : PoolR w v p) (hs : PoolShort p) (he : Errs w a0 a1) (hg : getM p s i = (t, c)) :
    Calls Tryz.prog 8 #[v.val p, .string s, .int .i64 i] w fun e w' => e = .returned (.tuple #[.string t, .int .i64 c]) ∧ Below w.heap.size w w' := by
  have hnot : ∀ (x : Bool) (w : World), (Op.unary .not (.bool x)).run Tryz.prog w = .ok (.bool (!x)) w := fun _ _ => rfl
  obtain ⟨v0, v1, vl, vs, vd, vp, vi⟩ := v
  obtain ⟨_, A0, c0, e0, _, hc0, _⟩ := h.c.s
  simp only at e0
  subst e0
  unfold maxLen at hc0
  have HS := Lib.hid hs
  have HG := Lib.hid hg
  have XA := Lib.hid (pbox_new h 47)
  have B0 := Lib.hid (Below.new1 (w := w) (.cells #[v0, v1, vl, .int .i64 p.core.txg, .slice A0 p.core.sets.length c0, vd, vp, .bool p.core.dirty, vi, .int .i64 p.core.logn, .bool p.up] 47))
  have HE := Lib.hid he
  clear h hs hg he
  go_enter Tryz.func8, Tryz.ntmps8
  go_upto_region 1 with fail
  obtain ⟨V0, HWE⟩ : ∃ W, w.alloc (.cells #[v0, v1, vl, .int .i64 p.core.txg, .slice A0 p.core.sets.length c0, vd, vp, .bool p.core.dirty, vi, .int .i64 p.core.logn, .bool p.up] 47) = W := ⟨_, rfl⟩
  rw [HWE] at XA B0 ⊢
  clear HWE
  go_wp2_with (refine wpList_load_box rfl _ rfl aggPool rfl [v0, v1, vl, .int .i64 p.core.txg, .slice A0 p.core.sets.length c0, vd, vp, .bool p.core.dirty, vi, .int .i64 p.core.logn, .bool p.up] rfl XA.out.box ?_)
  obtain ⟨ok, HOK⟩ : ∃ ok, Hid (poolOkB p = ok) := ⟨_, Lib.hid rfl⟩
  refine (implPoolOk_is _ p ok _ XA.out.reads HS.out HOK.out).mono ?_
  rintro e w1 ⟨rfl, hb⟩
  have YXA := Lib.hid (XA.out.below hb)
  have YB := Lib.hid (B0.out.trans (hb.mono B0.out.size))
  clear B0 hb XA
  have XA := YXA
  clear YXA
  have B0 := YB
  clear YB
  by_cases hbad : poolOkB p = false ∨ i < 0 ∨ 8 ≤ i
  · obtain ⟨rfl, rfl⟩ := getM_bad HG.out hbad
    have hbad2 : ok = false ∨ (ok = true ∧ i < 0) ∨ (ok = true ∧ ¬ i < 0 ∧ i ≥ 8) := by
      have := HOK.out
      cases ok
      · exact .inl rfl
      · rcases hbad with h | h | h
        · rw [this] at h; cases h
        · exact .inr (.inl ⟨rfl, h⟩)
        · exact .inr (.inr ⟨rfl, by omega, h⟩)
    clear hbad
    rcases hbad2 with rfl | ⟨rfl, h1⟩ | ⟨rfl, h1, h2⟩
    all_goals
      go_wp2
      go_ret2
      exact ⟨rfl, B0.out⟩
  have HBAD := Lib.hid hbad
  obtain rfl : ok = true := by
    have := HOK.out
    cases ok
    · exact absurd (Or.inl this) hbad
    · rfl
  obtain ⟨h1, h2⟩ : ¬ i < 0 ∧ ¬ i ≥ 8 := ⟨fun h => hbad (.inr (.inl h)), fun h => hbad (.inr (.inr h))⟩
  obtain ⟨asc, hl6⟩ := poolOk_asc HOK.out
  clear hbad
  have HASC := Lib.hid asc
  clear asc
  have q10 := XA.out.box.cell 10 rfl
  by_cases hup : p.up = false
  · obtain ⟨rfl, rfl⟩ := getM_down HG.out HBAD.out hup
    rw [hup] at q10
    go_wp2
    go_ret2
    exact ⟨rfl, B0.out⟩
  have HUP := Lib.hid hup
  rw [show p.up = true from by simpa using hup] at q10
  have q4 := XA.out.box.cell 4 rfl
  clear hup
  obtain ⟨K, HK⟩ : ∃ K, Hid (atM (namesM p.core.sets) s = K) := ⟨_, Lib.hid rfl⟩
  obtain ⟨th, HTH⟩ : ∃ th, Hid (thereM (namesM p.core.sets) s = th) := ⟨_, Lib.hid rfl⟩
  go_wp2_with fail
  refine (poolFind_is _ p.core.sets s K th _ XA.out.reads.c.s XA.out.reads.c.ls (by omega) HASC.out HK.out HTH.out).mono ?_
  rintro e w2 ⟨rfl, hb⟩
  clear q4 q10
  have YXA := Lib.hid (XA.out.below hb)
  have YB := Lib.hid (B0.out.trans (hb.mono B0.out.size))
  clear B0 hb XA
  have XA := YXA
  clear YXA
  have B0 := YB
  clear YB
  cases th
  · obtain ⟨rfl, rfl⟩ := getM_none HG.out HBAD.out HUP.out HTH.out
    go_wp2
    go_ret2
    exact ⟨rfl, B0.out⟩
  have hgs := getM_some HG.out HBAD.out HUP.out (by rw [HTH.out]; simp)
  have hKn := there_at HTH.out
  rw [HK.out] at hgs hKn
  obtain ⟨i, rfl⟩ : ∃ m : Nat, i = m := ⟨i.toNat, by omega⟩
  have hi8 : i < 8 := by omega
  obtain ⟨n, HL⟩ : ∃ n, Hid (p.core.sets.length = n) := ⟨_, Lib.hid rfl⟩
  obtain ⟨q, HQ⟩ : ∃ q, Hid (ptrAt p.core.sets K (i : Int) = q) := ⟨_, Lib.hid rfl⟩
  rw [HQ.out] at hgs
  obtain ⟨bc, HBC⟩ : ∃ bc, Hid (blkCode p.disk q = bc) := ⟨_, Lib.hid rfl⟩
  rw [HBC.out] at hgs
  have HGS := Lib.hid hgs
  clear hgs
  obtain ⟨b, off, c1, hvv, _, _, hcell⟩ := XA.out.reads.c.s.form (by omega)
  injection hvv with ea eb ec
  subst ea ec
  clear eb
  have HPC := Lib.hid (ptrAt_cells hcell hKn hi8)
  rw [HQ.out] at HPC
  clear hcell
  have hK1 : (K : Int) < (p.core.sets.length : Int) := by omega
  have hi1 : (i : Int) < 8 := by omega
  go_wp2_with fail
  refine wp_region_held_drew (S := fun w' => Box w' w.heap.size [v0, v1, vl, .int .i64 p.core.txg, .slice (some ⟨b, off, none⟩) p.core.sets.length c0, vd, vp, .bool p.core.dirty, vi, .int .i64 p.core.logn, .bool p.up] ∧ (∀ j u, (pc q)[j]? = some u → w'.cell? ⟨b, off + K * 31 + 3 + i * 3 + j, none⟩ = some u) ∧ w'.cell? ⟨w.heap.size, 4, none⟩ = some (.slice (some ⟨b, off, none⟩) p.core.sets.length c0)) (by kernel_rfl) ⟨XA.out.box, HPC.out, XA.out.box.cell 4 rfl⟩ (fun hHeld => ?_)
  refine wpAnyH_take (i := 0) (v := ?_) rfl (by kernel_rfl) (by kernel_rfl) (by kernel_rfl) (fun _ _ _ h => h) (Or.inl ⟨by first | kernel_rfl | rfl, ?_⟩) (by assumption) ?_
  rotate_left
  · (intro w' hSw; (try dsimp only at hSw); go_simp; try with_reducible rfl)
  go_simp
  refine wpAnyH_take (i := 1) (v := .agg #[v0, v1, vl]) rfl (by kernel_rfl) (by kernel_rfl) (by kernel_rfl) (fun _ _ _ h => h) (Or.inl ⟨by first | kernel_rfl | rfl, fun w' hSw => exec_load_cs _ rfl aggDiskI rfl [v0, v1, vl] rfl (Box.midAt hSw.1 [] [v0, v1, vl] [.int .i64 p.core.txg, .slice (some ⟨b, off, none⟩) p.core.sets.length c0, vd, vp, .bool p.core.dirty, vi, .int .i64 p.core.logn, .bool p.up] 0 rfl rfl)⟩) (by assumption) ?_
  go_simp
  refine wpAnyH_take (i := 2) (v := ?_) rfl (by kernel_rfl) (by kernel_rfl) (by kernel_rfl) (fun _ _ _ h => h) (Or.inl ⟨by first | kernel_rfl | rfl, ?_⟩) (by assumption) ?_
  rotate_left
  · (intro w' hSw; (try dsimp only at hSw); go_simp; try with_reducible rfl)
  go_simp
  refine wpAnyH_take (i := 3) (v := ?_) rfl (by kernel_rfl) (by kernel_rfl) (by kernel_rfl) (fun _ _ _ h => h) (Or.inl ⟨by first | kernel_rfl | rfl, ?_⟩) (by assumption) ?_
  rotate_left
  · (intro w' hSw; (try dsimp only at hSw); go_simp; try with_reducible rfl)
  go_simp
  refine wpAnyH_take (i := 4) (v := ?_) rfl (by kernel_rfl) (by kernel_rfl) (by kernel_rfl) (fun _ _ _ h => h) (Or.inl ⟨by first | kernel_rfl | rfl, ?_⟩) (by assumption) ?_
  rotate_left
  · (intro w' hSw; (try dsimp only at hSw); go_simp; try with_reducible rfl)
  go_simp
  refine wpAnyH_take (i := 5) (v := ?_) rfl (by kernel_rfl) (by kernel_rfl) (by kernel_rfl) (fun _ _ _ h => h) (Or.inl ⟨by first | kernel_rfl | rfl, ?_⟩) (by assumption) ?_
  rotate_left
  · (intro w' hSw; (try dsimp only at hSw); go_simp; try with_reducible rfl)
  go_simp
  refine wpAnyH_take (i := 6) (v := ?_) rfl (by kernel_rfl) (by kernel_rfl) (by kernel_rfl) (fun _ _ _ h => h) (Or.inl ⟨by first | kernel_rfl | rfl, ?_⟩) (by assumption) ?_
  rotate_left
  · (intro w' hSw; (try dsimp only at hSw); go_simp; try with_reducible rfl)
  go_simp
  refine wpAnyH_take (i := 7) (v := ?_) rfl (by kernel_rfl) (by kernel_rfl) (by kernel_rfl) (fun _ _ _ h => h) (Or.inl ⟨by first | kernel_rfl | rfl, ?_⟩) (by assumption) ?_
  rotate_left
  · (intro w' hSw; (try dsimp only at hSw); go_simp; try with_reducible rfl)
  go_simp
  refine wpAnyH_take (i := 8) (v := ?_) rfl (by kernel_rfl) (by kernel_rfl) (by kernel_rfl) (fun _ _ _ h => h) (Or.inl ⟨by first | kernel_rfl | rfl, ?_⟩) (by assumption) ?_
  rotate_left
  · (intro w' hSw; (try dsimp only at hSw); go_simp; try with_reducible rfl)
  go_simp
  refine wpAnyH_take (i := 9) (v := ?_) rfl (by kernel_rfl) (by kernel_rfl) (by kernel_rfl) (fun _ _ _ h => h) (Or.inl ⟨by first | kernel_rfl | rfl, ?_⟩) (by assumption) ?_
  rotate_left
  · (intro w' hSw; (try dsimp only at hSw); go_simp; try with_reducible rfl)
  go_simp
  refine wpAnyH_take (i := 10) (v := pv q) rfl (by kernel_rfl) (by kernel_rfl) (by kernel_rfl) (fun _ _ _ h => h) (Or.inl ⟨by first | kernel_rfl | rfl, fun w' hSw => exec_load_cs _ rfl aggPtrI rfl (pc q) rfl hSw.2.1⟩) (by assumption) ?_
  go_simp
  refine wpAnyH_ready (rs := [11]) (by kernel_rfl) (by simp) ?_
  refine AllReadyH.cons rfl (fun K hK => ?_) AllReadyH.nil
  go_simp
  go_at_call 25
  have XD := Lib.hid (show PBox w2.drew w.heap.size _ p from ⟨XA.out.box.drew, XA.out.reads.drew⟩)
  refine (implBlkRead_any _ _ _ p.disk q a0 a1 _ XD.out.reads.d HS.out.d (HE.out.below (B0.out.trans ((below_drewB w2).mono B0.out.size)))).mono ?_
  rintro e w8 ⟨rfl, hb⟩
  rw [HBC.out]
  have X8 := Lib.hid (XD.out.below hb)
  go_wp2_with fail
  refine hK.out _ _ ⟨X8.out.box, ?_, X8.out.box.cell 4 rfl⟩ (fun hHeld2 => ?_)
  · have h3 := X8.out.reads.c.s.form (by omega)
    obtain ⟨b2, off2, c2, hvv, _, _, hcell⟩ := h3
    injection hvv with ea eb ec
    injection ea with ea
    injection ea with ea eo
    subst ea eo
    have := ptrAt_cells hcell hKn hi8
    rw [HQ.out] at this
    exact this
  clear hK
  go_simp
  refine wpAnyH_take (i := 12) (v := ?_) rfl (by kernel_rfl) (by kernel_rfl) (by kernel_rfl) (fun _ _ _ h => h) (Or.inl ⟨by first | kernel_rfl | rfl, ?_⟩) (by assumption) ?_
  rotate_left
  · (intro w' hSw; (try dsimp only at hSw); go_simp; try with_reducible rfl)
  go_simp
  refine wpAnyH_take (i := 13) (v := ?_) rfl (by kernel_rfl) (by kernel_rfl) (by kernel_rfl) (fun _ _ _ h => h) (Or.inl ⟨by first | kernel_rfl | rfl, ?_⟩) (by assumption) ?_
  rotate_left
  · (intro w' hSw; (try dsimp only at hSw); go_simp; try with_reducible rfl)
  go_simp
  refine wpAnyH_take (i := 14) (v := ?_) rfl (by kernel_rfl) (by kernel_rfl) (by kernel_rfl) (fun _ _ _ h => h) (Or.inl ⟨by first | kernel_rfl | rfl, ?_⟩) (by assumption) ?_
  rotate_left
  · (intro w' hSw; (try dsimp only at hSw); go_simp; try with_reducible rfl)
  go_simp
  refine wpAnyH_take (i := 15) (v := ?_) rfl (by kernel_rfl) (by kernel_rfl) (by kernel_rfl) (fun _ _ _ h => h) (Or.inl ⟨by first | kernel_rfl | rfl, ?_⟩) (by assumption) ?_
  rotate_left
  · (intro w' hSw; (try dsimp only at hSw); go_simp; try with_reducible rfl)
  go_simp
  refine wpAnyH_take (i := 16) (v := ?_) rfl (by kernel_rfl) (by kernel_rfl) (by kernel_rfl) (fun _ _ _ h => h) (Or.inl ⟨by first | kernel_rfl | rfl, ?_⟩) (by assumption) ?_
  rotate_left
  · (intro w' hSw; (try dsimp only at hSw); go_simp; try with_reducible rfl)
  go_simp
  refine wpAnyH_done (by kernel_rfl) ?_ _
  go_simp
  clear hHeld hHeld2
  have hb9 := (below_drewB w2).trans hb
  have B9 := Lib.hid (B0.out.trans (hb9.mono B0.out.size))
  clear hb hb9 XA XD X8 HPC
  by_cases h2c : bc = 2
  · obtain ⟨rfl, rfl⟩ := HGS.out.1 h2c
    go_wp2
    go_ret2
    exact ⟨rfl, B9.out⟩
  · obtain ⟨rfl, rfl⟩ := HGS.out.2 h2c
    obtain ⟨tx, HTX⟩ : ∃ tx, Hid (blkText p.disk q = tx) := ⟨_, Lib.hid rfl⟩
    rw [HTX.out]
    go_wp2
    go_ret2
    first | exact ⟨rfl, B9.out⟩ | exact ⟨ret_ti HTX.out.symm rfl, B9.out⟩
end Go.Proofs.YtojjenclcidnkaaGreatDoor

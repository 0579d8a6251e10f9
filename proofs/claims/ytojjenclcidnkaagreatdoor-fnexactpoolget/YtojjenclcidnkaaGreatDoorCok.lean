/-
  Texts joined into one.
-/
import Derived.Test.YtojjenclcidnkaaGreatDoorNm
import Derived.Test.YtojjenclcidnkaaGreatDoorImList
import Derived.Test.YtojjenclcidnkaaGreatDoorCoreQ
import Derived.Test.YtojjenclcidnkaaGreatDoorData
import Derived.Test.YtojjenclcidnkaaGreatDoorSets

/-
  impl: whether a core's sets are right, and whether its table tells its pointers.
-/
set_option maxRecDepth 100000
namespace Go.Proofs.YtojjenclcidnkaaGreatDoor
open Go.ChangeShapes Go.WideShapes Go.ChangeAt Go.RowKit Go.Proofs.Palim

theorem names_short {ls : List CSetM} (hn : ls.length ≤ 1048576) (hz : ∀ x ∈ ls, x.name.size ≤ 1048576 ∧ x.frm.size ≤ 1048576) : BookShort (namesM ls) := by
  refine ⟨by rw [namesM_length]; exact hn, fun y hy => ?_⟩
  obtain ⟨x, hx, rfl⟩ := List.mem_map.1 hy
  refine ⟨(hz x hx).1, (hz x hx).2, fun s hs => ?_⟩
  simp [nameM, SetM.bs] at hs
  subst hs
  show (0 : Nat) ≤ _
  omega

set_option maxHeartbeats 4000000 in
theorem implSets_any (v : Value) (ls : List CSetM) (w : World) (h : Sl w 31 v ls.length (ccs ls)) (hv : Low w.heap.size v) (hl : ls.length ≤ 1048576) (hz : ∀ x ∈ ls, x.name.size ≤ 1048576 ∧ x.frm.size ≤ 1048576) :
    Calls Tryz.prog 135 #[v] w fun e w' => e = .returned (.bool (decide ((∀ x ∈ ls, SetOkC x) ∧ BookOkM (namesM ls)))) ∧ Below w.heap.size w w' := by
  have hnot : ∀ (x : Bool) (w : World), (Op.unary .not (.bool x)).run Tryz.prog w = .ok (.bool (!x)) w := fun _ _ => rfl
  obtain ⟨ok, HOK⟩ : ∃ ok, Hid (decide ((∀ x ∈ ls, SetOkC x) ∧ BookOkM (namesM ls)) = ok) := ⟨_, Lib.hid rfl⟩
  rw [HOK.out]
  obtain ⟨n, HL⟩ : ∃ n, Hid (ls.length = n) := ⟨_, Lib.hid rfl⟩
  have HZ := Lib.hid hz
  have HFIN := Lib.hid (show (∀ (j : Nat) (h : j < ls.length), j < n → SetOkC ls[j]) → decide (BookOkM (namesM ls)) = ok from fun hg => by
    rw [← HOK.out]
    have hp : ∀ x ∈ ls, SetOkC x := fun p hp => by
      obtain ⟨i, hi, rfl⟩ := List.mem_iff_getElem.1 hp
      exact hg i hi (by have := HL.out; omega)
    by_cases h8 : BookOkM (namesM ls)
    · rw [decide_eq_true h8, decide_eq_true ⟨hp, h8⟩]
    · rw [decide_eq_false h8, decide_eq_false (fun c => h8 c.2)])
  rw [HL.out] at h hl
  have hnm := h.le
  unfold maxLen at hnm
  have HS := Lib.hid h
  have HV := Lib.hid hv
  obtain ⟨_, A, c, rfl, _, hcm, _⟩ := h
  unfold maxLen at hcm
  clear hv hz
  go_enter Tryz.func135, Tryz.ntmps135
  go_wp2
  go_loopw [4, 7] (fun _ i wr => ∃ (k : Nat), k ≤ n ∧ i = .int .i64 k ∧ Hid (Below w.heap.size w wr) ∧ Hid (∀ (j : Nat) (h : j < ls.length), j < k → SetOkC ls[j])) (fun _ i _ => n - (RowKit.intOf i).toNat)
  case atStart => exact ⟨0, Nat.zero_le _, rfl, Lib.hid (Below.refl _ _), Lib.hid (fun j _ h => absurd h (Nat.not_lt_zero _))⟩
  case round =>
    obtain ⟨k, hk, rfl, HB, HG⟩ := hrel
    by_cases hlt : k < n
    case pos =>
      have hl0 : k < ls.length := by rw [HL.out]; exact hlt
      obtain ⟨b, off, c', hvv, _, _, hcell⟩ := (HS.out.below HB.out HV.out).form (by omega)
      injection hvv with e1 e2 e3
      subst e1 e3
      clear e2
      have HRD := Lib.hid (cset_read hcell k hl0)
      have hk1 : (k : Int) < (n : Int) := by omega
      have HBS := Lib.hid (show ¬ SetOkC ls[k] → false = ok from fun h => HOK.out ▸ (decide_eq_false (fun c => h (c.1 _ (List.getElem_mem hl0)))).symm)
      have HGS := Lib.hid (show SetOkC ls[k] → ∀ (j : Nat) (h : j < ls.length), j < k + 1 → SetOkC ls[j] from fun hg j hj hjk => by
        by_cases e : j = k
        · subst e; exact hg
        · exact HG.out j hj (by omega))
      have HZK := Lib.hid (HZ.out _ (List.getElem_mem hl0))
      generalize ls[k] = x at HRD HBS HGS HZK
      clear HG hl0 hcell
      have hn1 := Below.new1 (w := wr) (.cells #[.string ⟨#[]⟩, .int .i64 0, .string ⟨#[]⟩, .int .i64 0, .int .i64 0, .int .i64 0, .int .i64 0, .int .i64 0, .int .i64 0, .int .i64 0, .int .i64 0, .int .i64 0, .int .i64 0, .int .i64 0, .int .i64 0, .int .i64 0, .int .i64 0, .int .i64 0, .int .i64 0, .int .i64 0, .int .i64 0, .int .i64 0, .int .i64 0, .int .i64 0, .int .i64 0, .int .i64 0, .int .i64 0, .int .i64 0, .int .i64 0, .int .i64 0, .bool false] 70)
      have HBX := Lib.hid ((show Box _ wr.heap.size [.string ⟨#[]⟩, .int .i64 0, .string ⟨#[]⟩, .int .i64 0, .int .i64 0, .int .i64 0, .int .i64 0, .int .i64 0, .int .i64 0, .int .i64 0, .int .i64 0, .int .i64 0, .int .i64 0, .int .i64 0, .int .i64 0, .int .i64 0, .int .i64 0, .int .i64 0, .int .i64 0, .int .i64 0, .int .i64 0, .int .i64 0, .int .i64 0, .int .i64 0, .int .i64 0, .int .i64 0, .int .i64 0, .int .i64 0, .int .i64 0, .int .i64 0, .bool false] from box_new wr #[.string ⟨#[]⟩, .int .i64 0, .string ⟨#[]⟩, .int .i64 0, .int .i64 0, .int .i64 0, .int .i64 0, .int .i64 0, .int .i64 0, .int .i64 0, .int .i64 0, .int .i64 0, .int .i64 0, .int .i64 0, .int .i64 0, .int .i64 0, .int .i64 0, .int .i64 0, .int .i64 0, .int .i64 0, .int .i64 0, .int .i64 0, .int .i64 0, .int .i64 0, .int .i64 0, .int .i64 0, .int .i64 0, .int .i64 0, .int .i64 0, .int .i64 0, .bool false] 70).putAll (cc x) (by rw [cc_length]; rfl))
      have hpb : Below wr.heap.size wr (putC (wr.alloc (.cells #[.string ⟨#[]⟩, .int .i64 0, .string ⟨#[]⟩, .int .i64 0, .int .i64 0, .int .i64 0, .int .i64 0, .int .i64 0, .int .i64 0, .int .i64 0, .int .i64 0, .int .i64 0, .int .i64 0, .int .i64 0, .int .i64 0, .int .i64 0, .int .i64 0, .int .i64 0, .int .i64 0, .int .i64 0, .int .i64 0, .int .i64 0, .int .i64 0, .int .i64 0, .int .i64 0, .int .i64 0, .int .i64 0, .int .i64 0, .int .i64 0, .int .i64 0, .bool false] 70)) wr.heap.size 0 (cc x)) := putC_below hn1 _ _ (Nat.le_refl _) _
      have HNX := Lib.hid (show Box _ wr.heap.size [.string ⟨#[]⟩, .int .i64 0, .string ⟨#[]⟩, .int .i64 0, .int .i64 0, .int .i64 0, .int .i64 0, .int .i64 0, .int .i64 0, .int .i64 0, .int .i64 0, .int .i64 0, .int .i64 0, .int .i64 0, .int .i64 0, .int .i64 0, .int .i64 0, .int .i64 0, .int .i64 0, .int .i64 0, .int .i64 0, .int .i64 0, .int .i64 0, .int .i64 0, .int .i64 0, .int .i64 0, .int .i64 0, .int .i64 0, .int .i64 0, .int .i64 0, .bool false] from box_new wr #[.string ⟨#[]⟩, .int .i64 0, .string ⟨#[]⟩, .int .i64 0, .int .i64 0, .int .i64 0, .int .i64 0, .int .i64 0, .int .i64 0, .int .i64 0, .int .i64 0, .int .i64 0, .int .i64 0, .int .i64 0, .int .i64 0, .int .i64 0, .int .i64 0, .int .i64 0, .int .i64 0, .int .i64 0, .int .i64 0, .int .i64 0, .int .i64 0, .int .i64 0, .int .i64 0, .int .i64 0, .int .i64 0, .int .i64 0, .int .i64 0, .int .i64 0, .bool false] 70)
      have HB1 := Lib.hid (HB.out.trans (hpb.mono HB.out.size))
      clear hn1 hpb HB
      go_wp2_with (first | (refine wpList_load_cs rfl _ rfl aggSetD rfl (cc x) (cc_length x) HRD.out ?_) | (refine wpList_load_box rfl _ rfl aggSetD rfl (cc x) (cc_length x) HBX.out ?_) | (refine wpList_store_box rfl _ _ rfl rfl aggSetD rfl (cc x) rfl (cc_length x) (cc_one x) [.string ⟨#[]⟩, .int .i64 0, .string ⟨#[]⟩, .int .i64 0, .int .i64 0, .int .i64 0, .int .i64 0, .int .i64 0, .int .i64 0, .int .i64 0, .int .i64 0, .int .i64 0, .int .i64 0, .int .i64 0, .int .i64 0, .int .i64 0, .int .i64 0, .int .i64 0, .int .i64 0, .int .i64 0, .int .i64 0, .int .i64 0, .int .i64 0, .int .i64 0, .int .i64 0, .int .i64 0, .int .i64 0, .int .i64 0, .int .i64 0, .int .i64 0, .bool false] HNX.out rfl ?_; clear HNX; generalize putC (wr.alloc (.cells #[.string ⟨#[]⟩, .int .i64 0, .string ⟨#[]⟩, .int .i64 0, .int .i64 0, .int .i64 0, .int .i64 0, .int .i64 0, .int .i64 0, .int .i64 0, .int .i64 0, .int .i64 0, .int .i64 0, .int .i64 0, .int .i64 0, .int .i64 0, .int .i64 0, .int .i64 0, .int .i64 0, .int .i64 0, .int .i64 0, .int .i64 0, .int .i64 0, .int .i64 0, .int .i64 0, .int .i64 0, .int .i64 0, .int .i64 0, .int .i64 0, .int .i64 0, .bool false] 70)) wr.heap.size 0 (cc x) = W1 at HBX  HB1 ⊢))
      by_cases hg : SetOkC x
      case neg =>
        have HF := Lib.hid (HBS.out hg)
        have hor := decide_eq_false hg
        clear hg HBS HGS
        refine (implSet_is x _ _ HZK.out hor).mono ?_
        rintro e w2 ⟨rfl, hb⟩
        have HB2 := Lib.hid (HB1.out.trans (hb.mono HB1.out.size))
        clear hb HBX
        go_wp2
        go_ret
        exact ⟨ret_boolB HF.out, HB2.out⟩
      case pos =>
        have HG1 := Lib.hid (HGS.out hg)
        have hor := decide_eq_true hg
        clear hg HBS HGS
        refine (implSet_is x _ _ HZK.out hor).mono ?_
        rintro e w2 ⟨rfl, hb⟩
        have HB2 := Lib.hid (HB1.out.trans (hb.mono HB1.out.size))
        clear hb HBX
        go_wp2
        go_roundw
        case rel => exact ⟨k + 1, by omega, by go_num, HB2, HG1⟩
        case measure => simp [RowKit.intOf]; omega
    case neg =>
      have HF := Lib.hid (HFIN.out (fun j hj _ => HG.out j hj (by have := HL.out; omega)))
      have HSL := Lib.hid (show Sl wr 31 (.slice A n c) ls.length (ccs ls) from by rw [HL.out]; exact HS.out.below HB.out HV.out)
      have HLL := Lib.hid (fun b e => Nat.lt_of_lt_of_le (HV.out b e) HB.out.size)
      have HNN := Lib.hid (names_short (by rw [HL.out]; exact hl) HZ.out)
      clear HG HFIN
      go_wp2_with fail
      refine (outline_any _ ls _ HSL.out HLL.out (by rw [HL.out]; exact hl)).mono ?_
      rintro e w2 ⟨u, rfl, hown, hb⟩
      have HBR := Lib.hid (show BookR w2 u (namesM ls) from ⟨by rw [namesM_length]; exact sl_of_own hown, fun b e => (hown.lt b e).2⟩)
      have HB2 := Lib.hid (HB.out.trans (hb.mono HB.out.size))
      clear hb hown
      go_wp2_with fail
      refine (ImplBookOk_any _ _ _ HBR.out HNN.out).mono ?_
      rintro e w3 ⟨rfl, hb⟩
      have HB3 := Lib.hid (HB2.out.trans (hb.mono HB2.out.size))
      clear hb
      go_wp2
      go_ret
      exact ⟨ret_boolB HF.out, HB3.out⟩
theorem implSets_is (v : Value) (ls : List CSetM) (r : Bool) (w : World) (h : Sl w 31 v ls.length (ccs ls)) (hv : Low w.heap.size v) (hl : ls.length ≤ 1048576) (hz : ∀ x ∈ ls, x.name.size ≤ 1048576 ∧ x.frm.size ≤ 1048576) (hr : decide ((∀ x ∈ ls, SetOkC x) ∧ BookOkM (namesM ls)) = r) :
    Calls Tryz.prog 135 #[v] w fun e w' => e = .returned (.bool r) ∧ Below w.heap.size w w' := hr ▸ implSets_any v ls w h hv hl hz

structure TInv (T : List EntM) : Prop where
  asc : AscE T
  ok : ∀ e ∈ T, EntOkM e
  len : T.length ≤ 48

set_option maxHeartbeats 8000000 in
theorem implCounts_any (vs vd vp vi : Value) (c : CoreM) (w : World) (h : CoreR w vs vd vp vi c) (hs : CoreShort c) (hset : ∀ x ∈ c.sets, SetOkC x) (hddt : c.ddt.length ≤ 48) :
    Calls Tryz.prog 136 #[cv c vs vd vp vi] w fun e w' => e = .returned (.bool (decide (tabM (ptsM c.sets) [] = some c.ddt))) ∧ Below w.heap.size w w' := by
  have hnot : ∀ (x : Bool) (w : World), (Op.unary .not (.bool x)).run Tryz.prog w = .ok (.bool (!x)) w := fun _ _ => rfl
  have hmm := @run_makeMap Tryz.prog
  obtain ⟨R, HR⟩ : ∃ R, Hid (tabM (ptsM c.sets) [] = R) := ⟨_, Lib.hid rfl⟩
  rw [HR.out]
  obtain ⟨txg, sets, ddt, parts, dirty, safe, logn⟩ := c
  simp only at HR hset hddt ⊢
  have HSH := Lib.hid hs
  have HSET := Lib.hid hset
  obtain ⟨A0, k0, A1, k1, A2, k2, A3, k3, e0, e1, e2, e3⟩ := h.forms
  dsimp only at e0 e1 e2 e3
  subst e0 e1 e2 e3
  have HRR := Lib.hid h
  have HS := Lib.hid h.s
  have HLS := Lib.hid h.ls
  obtain ⟨n, HL⟩ : ∃ n, Hid (sets.length = n) := ⟨_, Lib.hid rfl⟩
  have hln : n ≤ 1048576 := HL.out ▸ hs.s
  clear h hs hset
  dsimp only at HS HLS
  rw [HL.out] at HS HLS
  have XC := Lib.hid (show Box _ w.heap.size [.int .i64 txg, .slice A0 n k0, .slice A1 ddt.length k1, .slice A2 parts.length k2, .bool dirty, .slice A3 safe.length k3, .int .i64 logn] from box_new w #[.int .i64 txg, .slice A0 n k0, .slice A1 ddt.length k1, .slice A2 parts.length k2, .bool dirty, .slice A3 safe.length k3, .int .i64 logn] 45)
  have B0 := Lib.hid (Below.new1 (w := w) (.cells #[.int .i64 txg, .slice A0 n k0, .slice A1 ddt.length k1, .slice A2 parts.length k2, .bool dirty, .slice A3 safe.length k3, .int .i64 logn] 45))
  go_enter Tryz.func136, Tryz.ntmps136
  go_upto_region 1 with fail
  rw [HL.out]
  obtain ⟨W0, HWE⟩ : ∃ W0, w.alloc (.cells #[.int .i64 txg, .slice A0 n k0, .slice A1 ddt.length k1, .slice A2 parts.length k2, .bool dirty, .slice A3 safe.length k3, .int .i64 logn] 45) = W0 := ⟨_, rfl⟩
  have hW0 : W0.heap.size = w.heap.size + 1 := by rw [← HWE]; simp
  rw [HWE] at XC B0 ⊢
  clear HWE
  have hm0 := Below.new1 (w := W0) (.map #[] 0)
  have HM0 := Lib.hid (mapE_made W0)
  have XC1 := Lib.hid (XC.out.below hm0 XC.out.lt)
  have B1 := Lib.hid (B0.out.trans (hm0.mono B0.out.size))
  have n1 := XC1.out.cell 1 rfl
  clear hm0 XC B0
  go_wp2
  rw [hW0] at HM0
  obtain ⟨W2, HWE⟩ : ∃ W2, W0.alloc (.map #[] 0) = W2 := ⟨_, rfl⟩
  rw [HWE] at HM0 XC1 B1 ⊢
  clear HWE n1
  try rw [hW0]
  go_loopw [5, 12] (fun _ i wr => ∃ (k : Nat) (T : List EntM), k ≤ n ∧ i = .int .i64 k ∧ Hid (Below w.heap.size w wr) ∧ Hid (Box wr w.heap.size [.int .i64 txg, .slice A0 n k0, .slice A1 ddt.length k1, .slice A2 parts.length k2, .bool dirty, .slice A3 safe.length k3, .int .i64 logn]) ∧ Hid (MapE wr (w.heap.size + 1) T) ∧ Hid (TInv T) ∧ Hid (tabM (ptsM (sets.drop k)) T = R)) (fun _ i _ => n - (RowKit.intOf i).toNat)
  case atStart => exact ⟨0, [], Nat.zero_le _, rfl, B1, XC1, HM0, Lib.hid ⟨List.Pairwise.nil, by simp, by simp⟩, HR⟩
  case round =>
    obtain ⟨k, T, hk, rfl, HB, HX, HM, HT, HTR⟩ := hrel
    clear B1 XC1 HM0
    by_cases hlt : k < n
    case pos =>
      have hl0 : k < sets.length := by rw [HL.out]; exact hlt
      obtain ⟨b, off, c', hvv, _, _, hcell⟩ := (HS.out.below HB.out HLS.out).form (by omega)
      injection hvv with e1 e2 e3
      subst e1 e3
      clear e2
      have HRD := Lib.hid (cset_read hcell k hl0)
      have hk1 : (k : Int) < (n : Int) := by omega
      have HOK := Lib.hid (HSET.out _ (List.getElem_mem hl0))
      have HTR1 := Lib.hid (show tabM (sets[k].map ++ ptsM (sets.drop (k + 1))) T = R from by
        have e : ptsM (sets.drop k) = sets[k].map ++ ptsM (sets.drop (k + 1)) := by unfold ptsM; rw [List.drop_eq_getElem_cons hl0, List.flatMap_cons]
        rw [← HTR.out, e])
      generalize sets[k] = x at HRD HOK HTR1
      clear HTR hl0 hcell
      have H8 := Lib.hid x.h8
      have hn1 := Below.new1 (w := wr) (.cells #[.string ⟨#[]⟩, .int .i64 0, .string ⟨#[]⟩, .int .i64 0, .int .i64 0, .int .i64 0, .int .i64 0, .int .i64 0, .int .i64 0, .int .i64 0, .int .i64 0, .int .i64 0, .int .i64 0, .int .i64 0, .int .i64 0, .int .i64 0, .int .i64 0, .int .i64 0, .int .i64 0, .int .i64 0, .int .i64 0, .int .i64 0, .int .i64 0, .int .i64 0, .int .i64 0, .int .i64 0, .int .i64 0, .int .i64 0, .int .i64 0, .int .i64 0, .bool false] 70)
      have HBX := Lib.hid ((show Box _ wr.heap.size [.string ⟨#[]⟩, .int .i64 0, .string ⟨#[]⟩, .int .i64 0, .int .i64 0, .int .i64 0, .int .i64 0, .int .i64 0, .int .i64 0, .int .i64 0, .int .i64 0, .int .i64 0, .int .i64 0, .int .i64 0, .int .i64 0, .int .i64 0, .int .i64 0, .int .i64 0, .int .i64 0, .int .i64 0, .int .i64 0, .int .i64 0, .int .i64 0, .int .i64 0, .int .i64 0, .int .i64 0, .int .i64 0, .int .i64 0, .int .i64 0, .int .i64 0, .bool false] from box_new wr #[.string ⟨#[]⟩, .int .i64 0, .string ⟨#[]⟩, .int .i64 0, .int .i64 0, .int .i64 0, .int .i64 0, .int .i64 0, .int .i64 0, .int .i64 0, .int .i64 0, .int .i64 0, .int .i64 0, .int .i64 0, .int .i64 0, .int .i64 0, .int .i64 0, .int .i64 0, .int .i64 0, .int .i64 0, .int .i64 0, .int .i64 0, .int .i64 0, .int .i64 0, .int .i64 0, .int .i64 0, .int .i64 0, .int .i64 0, .int .i64 0, .int .i64 0, .bool false] 70).putAll (cc x) (by rw [cc_length]; rfl))
      have hpb : Below wr.heap.size wr (putC (wr.alloc (.cells #[.string ⟨#[]⟩, .int .i64 0, .string ⟨#[]⟩, .int .i64 0, .int .i64 0, .int .i64 0, .int .i64 0, .int .i64 0, .int .i64 0, .int .i64 0, .int .i64 0, .int .i64 0, .int .i64 0, .int .i64 0, .int .i64 0, .int .i64 0, .int .i64 0, .int .i64 0, .int .i64 0, .int .i64 0, .int .i64 0, .int .i64 0, .int .i64 0, .int .i64 0, .int .i64 0, .int .i64 0, .int .i64 0, .int .i64 0, .int .i64 0, .int .i64 0, .bool false] 70)) wr.heap.size 0 (cc x)) := putC_below hn1 _ _ (Nat.le_refl _) _
      have HNX := Lib.hid (show Box _ wr.heap.size [.string ⟨#[]⟩, .int .i64 0, .string ⟨#[]⟩, .int .i64 0, .int .i64 0, .int .i64 0, .int .i64 0, .int .i64 0, .int .i64 0, .int .i64 0, .int .i64 0, .int .i64 0, .int .i64 0, .int .i64 0, .int .i64 0, .int .i64 0, .int .i64 0, .int .i64 0, .int .i64 0, .int .i64 0, .int .i64 0, .int .i64 0, .int .i64 0, .int .i64 0, .int .i64 0, .int .i64 0, .int .i64 0, .int .i64 0, .int .i64 0, .int .i64 0, .bool false] from box_new wr #[.string ⟨#[]⟩, .int .i64 0, .string ⟨#[]⟩, .int .i64 0, .int .i64 0, .int .i64 0, .int .i64 0, .int .i64 0, .int .i64 0, .int .i64 0, .int .i64 0, .int .i64 0, .int .i64 0, .int .i64 0, .int .i64 0, .int .i64 0, .int .i64 0, .int .i64 0, .int .i64 0, .int .i64 0, .int .i64 0, .int .i64 0, .int .i64 0, .int .i64 0, .int .i64 0, .int .i64 0, .int .i64 0, .int .i64 0, .int .i64 0, .int .i64 0, .bool false] 70)
      have HB1 := Lib.hid (HB.out.trans (hpb.mono HB.out.size))
      have HX1 := Lib.hid (HX.out.below hpb HX.out.lt)
      have HM1 := Lib.hid (HM.out.below hpb HM.out.lt)
      clear hn1 hpb HB HX HM
      go_wp2_with (first | (refine wpList_load_cs rfl _ rfl aggSetD rfl (cc x) (cc_length x) HRD.out ?_) | (refine wpList_load_cs rfl _ rfl aggMap rfl (pcs x.map) (cmap_len x) (Box.part (p := ch x) (m := pcs x.map) (q := pc x.home ++ [.bool x.dirty]) HBX.out 3 rfl) ?_) | (refine wpList_store_box rfl _ _ rfl rfl aggSetD rfl (cc x) rfl (cc_length x) (cc_one x) [.string ⟨#[]⟩, .int .i64 0, .string ⟨#[]⟩, .int .i64 0, .int .i64 0, .int .i64 0, .int .i64 0, .int .i64 0, .int .i64 0, .int .i64 0, .int .i64 0, .int .i64 0, .int .i64 0, .int .i64 0, .int .i64 0, .int .i64 0, .int .i64 0, .int .i64 0, .int .i64 0, .int .i64 0, .int .i64 0, .int .i64 0, .int .i64 0, .int .i64 0, .int .i64 0, .int .i64 0, .int .i64 0, .int .i64 0, .int .i64 0, .int .i64 0, .bool false] HNX.out rfl ?_; clear HNX; generalize putC (wr.alloc (.cells #[.string ⟨#[]⟩, .int .i64 0, .string ⟨#[]⟩, .int .i64 0, .int .i64 0, .int .i64 0, .int .i64 0, .int .i64 0, .int .i64 0, .int .i64 0, .int .i64 0, .int .i64 0, .int .i64 0, .int .i64 0, .int .i64 0, .int .i64 0, .int .i64 0, .int .i64 0, .int .i64 0, .int .i64 0, .int .i64 0, .int .i64 0, .int .i64 0, .int .i64 0, .int .i64 0, .int .i64 0, .int .i64 0, .int .i64 0, .int .i64 0, .int .i64 0, .bool false] 70)) wr.heap.size 0 (cc x) = W1 at HBX  HB1 HX1 HM1 ⊢))
      go_loopw [7, 18] (fun _ i wr => ∃ (j : Nat) (T : List EntM), j ≤ 8 ∧ i = .int .i64 j ∧ Hid (Below w.heap.size w wr) ∧ Hid (Box wr w.heap.size [.int .i64 txg, .slice (some ⟨b, off, none⟩) n k0, .slice A1 ddt.length k1, .slice A2 parts.length k2, .bool dirty, .slice A3 safe.length k3, .int .i64 logn]) ∧ Hid (MapE wr (w.heap.size + 1) T) ∧ Hid (TInv T) ∧ Hid (tabM (x.map.drop j ++ ptsM (sets.drop (k + 1))) T = R)) (fun _ i _ => 8 - (RowKit.intOf i).toNat)
      case atStart => exact ⟨0, T, Nat.zero_le _, rfl, HB1, HX1, HM1, HT, HTR1⟩
      case round =>
        clear HB1 HX1 HM1 HT HTR1 HBX
        obtain ⟨j, T, hj, rfl, HB, HX, HM, HT, HTR⟩ := hrel
        by_cases hj8 : j < 8
        case pos =>
          have hjl : j < x.map.length := by rw [H8.out]; exact hj8
          have hj1 : (j : Int) < 8 := by omega
          have hix := idxMapD x.map H8.out j hjl
          have hpo : PtrOkM x.map[j] := HOK.out.2.2.2.2 _ (List.getElem_mem hjl)
          have HTR1 := Lib.hid (show tabM (x.map[j] :: (x.map.drop (j + 1) ++ ptsM (sets.drop (k + 1)))) T = R from by
            have e : x.map.drop j = x.map[j] :: x.map.drop (j + 1) := List.drop_eq_getElem_cons hjl
            rw [← HTR.out, e]
            rfl)
          generalize x.map[j] = p at hix hpo HTR1
          clear HTR hjl
          obtain ⟨a, s, bi⟩ := p
          have hn1 := Below.new1 (w := wr) (.cells #[.int .i64 a, .int .i64 s, .int .i64 bi] 67)
          have HB1 := Lib.hid (HB.out.trans (hn1.mono HB.out.size))
          have HX1 := Lib.hid (HX.out.below hn1 HX.out.lt)
          have HM1 := Lib.hid (HM.out.below hn1 HM.out.lt)
          have hsz1 := HB.out.size
          have hlx := HX.out.lt
          have hlm := HM.out.lt
          clear hn1 HB HX HM
          by_cases ha : a = 0
          case pos =>
            have hz : s = 0 ∧ bi = 0 := by
              rcases hpo with h | h
              · exact ⟨h.2.1, h.2.2⟩
              · have := h.1; simp only at this; omega
            obtain ⟨rfl, rfl⟩ := hz
            subst ha
            have HTR2 := Lib.hid (show tabM (x.map.drop (j + 1) ++ ptsM (sets.drop (k + 1))) T = R from by
              have := HTR1.out
              unfold tabM at this
              simpa using this)
            clear hpo HTR1
            go_wp2
            go_roundw
            case rel => exact ⟨j + 1, T, by omega, by go_num, HB1, HX1, HM1, HT, HTR2⟩
            case measure => simp [RowKit.intOf]; omega
          case neg =>
            have hg : GoodM ⟨a, s, bi⟩ := by
              rcases hpo with h | h
              · exact absurd h.1 ha
              · exact h
            have hwf : (Lit.int .i64 a).wf = true := wf_i64 (by have := hg.1; simp only at this; omega) (by have := hg.2.1; simp only at this; omega)
            have hq : (a == 0) = false := by simpa using ha
            have hq2 : decide (a = 0) = false := by simpa using ha
            have HTR2 := Lib.hid (show (addE T s a).bind (tabM (x.map.drop (j + 1) ++ ptsM (sets.drop (k + 1)))) = R from by
              have := HTR1.out
              unfold tabM at this
              rw [if_neg ha] at this
              exact this)
            clear hpo HTR1 hg ha
            go_wp2_with fail
            refine (tadd_any (w.heap.size + 1) T s a _ HM1.out HT.out.asc HT.out.ok HT.out.len hwf).mono ?_
            rintro e w3 ⟨rfl, hm3, ht3⟩
            have HB3 := Lib.hid (HB1.out.trans (ht3.below (fun b' hb' _ h => by omega) HB1.out.size))
            have HX3 := Lib.hid (HX1.out.turned ht3 (by omega))
            have HM3 := Lib.hid hm3
            clear hm3 ht3 HB1 HX1 HM1
            cases hadd : addE T s a with
            | none =>
              have HF := Lib.hid (show false = decide (R = some ddt) from by
                have := HTR2.out
                rw [hadd] at this
                rw [← this]
                simp)
              simp only [Option.isSome_none]
              clear hadd
              go_wp2
              go_ret
              exact ⟨ret_boolB HF.out, HB3.out⟩
            | some T' =>
              have HT3 := Lib.hid (show TInv T' from ⟨(asc_addE HT.out.asc HT.out.ok hadd).1, (asc_addE HT.out.asc HT.out.ok hadd).2, addE_len HT.out.asc HT.out.len hadd⟩)
              have HTR3 := Lib.hid (show tabM (x.map.drop (j + 1) ++ ptsM (sets.drop (k + 1))) T' = R from by
                have := HTR2.out
                rw [hadd] at this
                exact this)
              rw [hadd] at HM3
              simp only [Option.isSome_some]
              have HM4 := Lib.hid (show MapE w3 (w.heap.size + 1) T' from HM3.out)
              clear hadd HM3 HTR2
              go_wp2
              go_roundw
              case rel => exact ⟨j + 1, T', by omega, by go_num, HB3, HX3, HM4, HT3, HTR3⟩
              case measure => simp [RowKit.intOf]; omega
        case neg =>
          have HTR1 := Lib.hid (show tabM (ptsM (sets.drop (k + 1))) T = R from by
            have e : x.map.drop j = [] := List.drop_eq_nil_of_le (by rw [H8.out]; omega)
            rw [← HTR.out, e]
            rfl)
          clear HTR
          go_wp2
          go_roundw
          case rel => exact ⟨k + 1, T, by omega, by go_num, HB, HX, HM, HT, HTR1⟩
          case measure => simp [RowKit.intOf]; omega
    case neg =>
      have HRT := Lib.hid (show R = some T from by
        rw [← HTR.out, List.drop_eq_nil_of_le (by rw [HL.out]; omega)]
        rfl)
      have HSD := Lib.hid ((HRR.out.d).below HB.out HRR.out.ld)
      have n2 := HX.out.cell 2 rfl
      have hlx := HX.out.lt
      have HFF := Lib.hid (show decide (T = ddt) = decide (R = some ddt) from by rw [HRT.out]; simp)
      go_wp2_with fail
      refine wp_region_held_drew (S := fun w' => w'.cell? ⟨w.heap.size, 2, none⟩ = some (.slice A1 ddt.length k1)) (by kernel_rfl) n2 (fun hHeld => ?_)
      refine wpAnyH_take (i := 0) (v := ?_) rfl (by kernel_rfl) (by kernel_rfl) (by kernel_rfl) (fun _ _ _ h => h) (Or.inl ⟨by first | kernel_rfl | rfl, ?_⟩) (by assumption) ?_
      rotate_left
      · (intro w' hSw; (try dsimp only at hSw); go_simp; try with_reducible rfl)
      try simp only [Act.put]
      refine wpAnyH_take (i := 2) (v := ?_) rfl (by kernel_rfl) (by kernel_rfl) (by kernel_rfl) (fun _ _ _ h => h) (Or.inl ⟨by first | kernel_rfl | rfl, ?_⟩) (by assumption) ?_
      rotate_left
      · (intro w' hSw; (try dsimp only at hSw); go_simp; try with_reducible rfl)
      try simp only [Act.put]
      refine wpAnyH_take (i := 3) (v := ?_) rfl (by kernel_rfl) (by kernel_rfl) (by kernel_rfl) (fun _ _ _ h => h) (Or.inl ⟨by first | kernel_rfl | rfl, ?_⟩) (by assumption) ?_
      rotate_left
      · (intro w' hSw; (try dsimp only at hSw); go_simp; try with_reducible rfl)
      try simp only [Act.put]
      refine wpAnyH_ready (rs := [1]) (by kernel_rfl) (by simp) ?_
      refine AllReadyH.cons rfl (fun K hK => ?_) AllReadyH.nil
      go_simp
      go_at_call 154
      refine (tlist_any (w.heap.size + 1) T wr.drew (show MapE wr.drew _ _ from HM.out.kept rfl) HT.out.asc HT.out.ok HT.out.len).mono ?_
      rintro e w3 ⟨vo, rfl, how, hb⟩
      have hB3 : Below wr.heap.size wr w3 := (below_drewB wr).trans hb
      go_wp2_with fail
      refine hK.out _ _ ?_ (fun hHeld2 => ?_)
      · rw [hB3.cell hlx]; exact n2
      clear hK K
      try simp only [Act.put]
      refine wpAnyH_ready (rs := [4]) (by kernel_rfl) (by simp) ?_
      refine AllReadyH.cons rfl (fun K hK => ?_) AllReadyH.nil
      go_simp
      go_at_call 153
      refine (equalEn_any _ _ T ddt _ (sl_of_own how) (HSD.out.below hB3 (fun b e => Nat.lt_of_lt_of_le (HRR.out.ld b e) HB.out.size)) (by have := HT.out.len; omega) (by omega)).mono ?_
      rintro e w4 ⟨rfl, q, rfl⟩
      have hB4 : Below wr.heap.size wr (w3.drewN q) := below_drewN hB3 q
      go_wp2_with fail
      refine hK.out _ _ ?_ (fun hHeld3 => ?_)
      · rw [hB4.cell hlx]; exact n2
      clear hK K
      try simp only [Act.put]
      refine wpAnyH_take (i := 5) (v := ?_) rfl (by kernel_rfl) (by kernel_rfl) (by kernel_rfl) (fun _ _ _ h => h) (Or.inl ⟨by first | kernel_rfl | rfl, ?_⟩) (by assumption) ?_
      rotate_left
      · (intro w' hSw; (try dsimp only at hSw); go_simp; try with_reducible rfl)
      try simp only [Act.put]
      refine wpAnyH_done (by kernel_rfl) ?_ _
      go_simp
      clear hHeld hHeld2 hHeld3
      have HB4 := Lib.hid (HB.out.trans (hB4.mono HB.out.size))
      clear hB3 hB4 hb how
      go_wp2
      go_ret
      exact ⟨ret_boolB HFF.out, HB4.out⟩
theorem implCounts_is (vs vd vp vi : Value) (c : CoreM) (r : Bool) (w : World) (h : CoreR w vs vd vp vi c) (hs : CoreShort c) (hset : ∀ x ∈ c.sets, SetOkC x) (hddt : c.ddt.length ≤ 48) (hr : decide (tabM (ptsM c.sets) [] = some c.ddt) = r) :
    Calls Tryz.prog 136 #[cv c vs vd vp vi] w fun e w' => e = .returned (.bool r) ∧ Below w.heap.size w w' := hr ▸ implCounts_any vs vd vp vi c w h hs hset hddt
end Go.Proofs.YtojjenclcidnkaaGreatDoor

/-
  The document's CoreOk.
-/
set_option maxRecDepth 100000
namespace Go.Proofs.YtojjenclcidnkaaGreatDoor
open Go.ChangeShapes Go.WideShapes Go.ChangeAt Go.RowKit Go.Proofs.Palim

set_option maxHeartbeats 8000000 in
theorem specCoreOk_any (vs vd vp vi : Value) (c : CoreM) (w : World) (h : CoreR w vs vd vp vi c) (hs : CoreShort c) :
    Calls Tryz.prog 52 #[cv c vs vd vp vi] w fun e w' => e = .returned (.bool (decide (CoreOkM c))) ∧ Below w.heap.size w w' := by
  have hnot : ∀ (x : Bool) (w : World), (Op.unary .not (.bool x)).run Tryz.prog w = .ok (.bool (!x)) w := fun _ _ => rfl
  obtain ⟨ok, HOK⟩ : ∃ ok, Hid (decide (CoreOkM c) = ok) := ⟨_, Lib.hid rfl⟩
  rw [HOK.out]
  have HBAD := Lib.hid (show ¬ CoreOkM c → false = ok from fun h => HOK.out ▸ (decide_eq_false h).symm)
  have HS := Lib.hid hs
  obtain ⟨A0, k0, A1, k1, A2, k2, A3, k3, rfl, rfl, rfl, rfl⟩ := h.forms
  have XC := Lib.hid (kbox_new h 45)
  have B := Lib.hid (Below.new1 (w := w) (.cells #[.int .i64 c.txg, .slice A0 c.sets.length k0, .slice A1 c.ddt.length k1, .slice A2 c.parts.length k2, .bool c.dirty, .slice A3 c.safe.length k3, .int .i64 c.logn] 45))
  clear h hs
  go_enter Tryz.func52, Tryz.ntmps52
  go_upto_region 1 with fail
  obtain ⟨W0, HWE⟩ : ∃ W0, w.alloc (.cells #[.int .i64 c.txg, .slice A0 c.sets.length k0, .slice A1 c.ddt.length k1, .slice A2 c.parts.length k2, .bool c.dirty, .slice A3 c.safe.length k3, .int .i64 c.logn] 45) = W0 := ⟨_, rfl⟩
  rw [HWE] at XC B ⊢
  clear HWE
  have n0 := XC.out.box.cell 0 rfl
  by_cases h1 : 0 ≤ c.txg
  case neg =>
    have HF := Lib.hid (HBAD.out (fun c => h1 (c.1.1)))
    have q : c.txg < 0 := by omega
    go_wp2
    go_ret
    exact ⟨ret_boolB HF.out, B.out⟩
  case pos =>
  have q1 : ¬ c.txg < 0 := by omega
  by_cases h2 : c.txg ≤ 1000000
  case neg =>
    have HF := Lib.hid (HBAD.out (fun c => h2 (c.1.2)))
    have q : c.txg > 1000000 := by omega
    go_wp2
    go_ret
    exact ⟨ret_boolB HF.out, B.out⟩
  case pos =>
  have q2 : ¬ c.txg > 1000000 := by omega
  have n2 := XC.out.box.cell 2 rfl
  by_cases hd : DdtOkM c.ddt
  case neg =>
    have HF := Lib.hid (HBAD.out (fun c => hd (c.2.1)))
    have hor := decide_eq_false hd
    clear hd
    go_wp2_with fail
    refine (SpecDdtOk_is _ c.ddt _ _ XC.out.reads.d XC.out.reads.ld hor).mono ?_
    rintro e w1 ⟨rfl, hb⟩
    have XC' := Lib.hid (XC.out.below hb)
    have B' := Lib.hid (B.out.trans (hb.mono B.out.size))
    clear hb XC B
    have XC := XC'
    have B := B'
    clear XC' B'
    go_wp2
    go_ret
    exact ⟨ret_boolB HF.out, B.out⟩
  case pos =>
  have hor := decide_eq_true hd
  have H_hd := Lib.hid hd
  clear hd
  go_wp2_with fail
  refine (SpecDdtOk_is _ c.ddt _ _ XC.out.reads.d XC.out.reads.ld hor).mono ?_
  rintro e w1 ⟨rfl, hb⟩
  have XC' := Lib.hid (XC.out.below hb)
  have B' := Lib.hid (B.out.trans (hb.mono B.out.size))
  clear hb XC B
  have XC := XC'
  have B := B'
  clear XC' B'
  clear hor n2
  have n3 := XC.out.box.cell 3 rfl
  by_cases h3 : c.parts.length ≤ 8
  case neg =>
    have HF := Lib.hid (HBAD.out (fun c => h3 (c.2.2.1)))
    have q : (c.parts.length : Int) > 8 := by omega
    go_wp2
    go_ret
    exact ⟨ret_boolB HF.out, B.out⟩
  case pos =>
  have q3 : ¬ (c.parts.length : Int) > 8 := by omega
  have n5 := XC.out.box.cell 5 rfl
  by_cases hp : PlacesM c.safe
  case neg =>
    have HF := Lib.hid (HBAD.out (fun c => hp (c.2.2.2.1)))
    have hor := decide_eq_false hp
    clear hp
    go_wp2_with fail
    refine (specPlaces_is _ c.safe _ _ XC.out.reads.i XC.out.reads.li hor).mono ?_
    rintro e w1 ⟨rfl, hb⟩
    have XC' := Lib.hid (XC.out.below hb)
    have B' := Lib.hid (B.out.trans (hb.mono B.out.size))
    clear hb XC B
    have XC := XC'
    have B := B'
    clear XC' B'
    go_wp2
    go_ret
    exact ⟨ret_boolB HF.out, B.out⟩
  case pos =>
  have hor := decide_eq_true hp
  have H_hp := Lib.hid hp
  clear hp
  go_wp2_with fail
  refine (specPlaces_is _ c.safe _ _ XC.out.reads.i XC.out.reads.li hor).mono ?_
  rintro e w1 ⟨rfl, hb⟩
  have XC' := Lib.hid (XC.out.below hb)
  have B' := Lib.hid (B.out.trans (hb.mono B.out.size))
  clear hb XC B
  have XC := XC'
  have B := B'
  clear XC' B'
  clear hor n5
  have n6 := XC.out.box.cell 6 rfl
  by_cases h4 : 0 ≤ c.logn
  case neg =>
    have HF := Lib.hid (HBAD.out (fun c => h4 (c.2.2.2.2.1.1)))
    have q : c.logn < 0 := by omega
    go_wp2
    go_ret
    exact ⟨ret_boolB HF.out, B.out⟩
  case pos =>
  have q4 : ¬ c.logn < 0 := by omega
  by_cases h5 : c.logn ≤ 8
  case neg =>
    have HF := Lib.hid (HBAD.out (fun c => h5 (c.2.2.2.2.1.2)))
    have q : c.logn > 8 := by omega
    go_wp2
    go_ret
    exact ⟨ret_boolB HF.out, B.out⟩
  case pos =>
  have q5 : ¬ c.logn > 8 := by omega
  have HP := Lib.hid (And.intro (And.intro h1 h2) (And.intro h3 (And.intro h4 h5)))
  clear h1 h2 h3 h4 h5
  go_wp2
  clear q1 q2 q3 q4 q5 n0 n3 n6
  go_loopw [3] (fun i wr => ∃ (k : Nat), k ≤ c.sets.length ∧ i = .int .i64 k ∧ Hid (Below w.heap.size w wr) ∧ Hid (KBox wr w.heap.size (.slice A0 c.sets.length k0) (.slice A1 c.ddt.length k1) (.slice A2 c.parts.length k2) (.slice A3 c.safe.length k3) c) ∧ Hid (∀ (j : Nat) (h : j < c.sets.length), j < k → SetOkC c.sets[j])) (fun i _ => c.sets.length - (RowKit.intOf i).toNat)
  case atStart => exact ⟨0, Nat.zero_le _, rfl, B, XC, Lib.hid (fun j _ h => absurd h (Nat.not_lt_zero _))⟩
  case round =>
    clear B XC
    obtain ⟨k, hk, rfl, B, XC, HG⟩ := hrel
    have n1 := XC.out.box.cell 1 rfl
    have hsl := HS.out.s
    by_cases hlt : k < c.sets.length
    case pos =>
      obtain ⟨b, off, c', hvv, _, _, hcell⟩ := XC.out.reads.s.form (by omega)
      injection hvv with e1 e2 e3
      subst e1 e3
      clear e2
      have HRD := Lib.hid (cset_read hcell k hlt)
      have hk1 : (k : Int) < (c.sets.length : Int) := by omega
      have HBS := Lib.hid (show ¬ SetOkC c.sets[k] → false = ok from fun h => HBAD.out (fun c' => h (c'.2.2.2.2.2.1 _ (List.getElem_mem hlt))))
      have HGS := Lib.hid (show SetOkC c.sets[k] → ∀ (j : Nat) (h : j < c.sets.length), j < k + 1 → SetOkC c.sets[j] from fun hg j hj hjk => by
        by_cases e : j = k
        · subst e; exact hg
        · exact HG.out j hj (by omega))
      have HZK := Lib.hid (HS.out.z _ (List.getElem_mem hlt))
      generalize c.sets[k] = x at HRD HBS HGS HZK
      clear HG hcell
      by_cases hg : SetOkC x
      case neg =>
        have HF := Lib.hid (HBS.out hg)
        have hor := decide_eq_false hg
        clear hg HBS HGS
        go_wp2_with (refine wpList_load_cs rfl _ rfl aggSetD rfl (cc x) (cc_length x) HRD.out ?_)
        refine (specSet_is x _ _ HZK.out hor).mono ?_
        rintro e w1 ⟨rfl, hb⟩
        have XC' := Lib.hid (XC.out.below hb)
        have B' := Lib.hid (B.out.trans (hb.mono B.out.size))
        clear hb XC B
        have XC := XC'
        have B := B'
        clear XC' B'
        go_wp2
        go_ret
        exact ⟨ret_boolB HF.out, B.out⟩
      case pos =>
        have HG1 := Lib.hid (HGS.out hg)
        have hor := decide_eq_true hg
        clear hg HBS HGS
        go_wp2_with (refine wpList_load_cs rfl _ rfl aggSetD rfl (cc x) (cc_length x) HRD.out ?_)
        refine (specSet_is x _ _ HZK.out hor).mono ?_
        rintro e w1 ⟨rfl, hb⟩
        have XC' := Lib.hid (XC.out.below hb)
        have B' := Lib.hid (B.out.trans (hb.mono B.out.size))
        clear hb XC B
        have XC := XC'
        have B := B'
        clear XC' B'
        go_wp2
        go_roundw
        case rel => exact ⟨k + 1, by omega, by go_num, B, XC, HG1⟩
        case measure => simp [RowKit.intOf]; omega
    case neg =>
      have HSO := Lib.hid (show ∀ x ∈ c.sets, SetOkC x from fun x hx => by
        obtain ⟨i, hi, rfl⟩ := List.mem_iff_getElem.1 hx
        exact HG.out i hi (by omega))
      have hkn : ¬ (k : Int) < (c.sets.length : Int) := by omega
      clear HG
      go_wp2
      clear n1 hkn hlt
      go_loopw [4] (fun i wr => ∃ (k : Nat), k ≤ c.parts.length ∧ i = .int .i64 k ∧ Hid (Below w.heap.size w wr) ∧ Hid (KBox wr w.heap.size (.slice A0 c.sets.length k0) (.slice A1 c.ddt.length k1) (.slice A2 c.parts.length k2) (.slice A3 c.safe.length k3) c) ∧ Hid (∀ (j : Nat) (h : j < c.parts.length), j < k → GoodM c.parts[j])) (fun i _ => c.parts.length - (RowKit.intOf i).toNat)
      case atStart => exact ⟨0, Nat.zero_le _, rfl, B, XC, Lib.hid (fun j _ h => absurd h (Nat.not_lt_zero _))⟩
      case round =>
        clear B XC
        obtain ⟨k, hk, rfl, B, XC, HG⟩ := hrel
        have n3 := XC.out.box.cell 3 rfl
        have hpl := HS.out.p
        by_cases hlt : k < c.parts.length
        case pos =>
          obtain ⟨b, off, c', hvv, _, _, hcell⟩ := XC.out.reads.p.form (by omega)
          injection hvv with e1 e2 e3
          subst e1 e3
          clear e2
          have hbl : b < wr.heap.size := XC.out.reads.lp b rfl
          obtain ⟨g0, g1, g2⟩ := ptr_read hcell k hlt
          have hk1 : (k : Int) < (c.parts.length : Int) := by omega
          have HBS := Lib.hid (show ¬ GoodM c.parts[k] → false = ok from fun h => HBAD.out (fun c' => h (c'.2.2.2.2.2.2.1 _ (List.getElem_mem hlt))))
          have HGS := Lib.hid (show GoodM c.parts[k] → ∀ (j : Nat) (h : j < c.parts.length), j < k + 1 → GoodM c.parts[j] from fun hg j hj hjk => by
            by_cases e : j = k
            · subst e; exact hg
            · exact HG.out j hj (by omega))
          generalize c.parts[k] = y at g0 g1 g2 HBS HGS
          clear HG hcell
          by_cases hpo : PtrOkM y
          case neg =>
            have HF := Lib.hid (HBS.out (fun c => hpo (Or.inr c)))
            have hor := decide_eq_false hpo
            clear hpo HBS HGS
            go_wp2_with fail
            refine (specPtrOk_is y _ _ hor).mono ?_
            rintro e w1 ⟨rfl, hb⟩
            have XC' := Lib.hid (XC.out.below hb)
            have B' := Lib.hid (B.out.trans (hb.mono B.out.size))
            clear hb XC B
            have XC := XC'
            have B := B'
            clear XC' B'
            go_wp2
            go_ret
            exact ⟨ret_boolB HF.out, B.out⟩
          case pos =>
            have hor := decide_eq_true hpo
            by_cases hy0 : y.at_ = 0
            case pos =>
              have HF := Lib.hid (HBS.out (fun c => by have := c.1; omega))
              have hq1 : (y.at_ == 0) = true := by simpa using hy0
              have hq2 : decide (y.at_ = 0) = true := by simpa using hy0
              clear hpo HBS HGS hy0
              go_wp2_with fail
              refine (specPtrOk_is y _ _ hor).mono ?_
              rintro e w1 ⟨rfl, hb⟩
              have g0' := (hb.cell (p := ⟨b, off + k * 3, none⟩) hbl).trans g0
              have XC' := Lib.hid (XC.out.below hb)
              have B' := Lib.hid (B.out.trans (hb.mono B.out.size))
              clear hb XC B
              have XC := XC'
              have B := B'
              clear XC' B'
              have n3' := XC.out.box.cell 3 rfl
              clear g0 n3
              go_wp2
              go_ret
              exact ⟨ret_boolB HF.out, B.out⟩
            case neg =>
              have HG1 := Lib.hid (HGS.out (by rcases hpo with h | h; exact absurd h.1 hy0; exact h))
              have hq1 : (y.at_ == 0) = false := by simpa using hy0
              have hq2 : decide (y.at_ = 0) = false := by simpa using hy0
              clear hpo HBS HGS hy0
              go_wp2_with fail
              refine (specPtrOk_is y _ _ hor).mono ?_
              rintro e w1 ⟨rfl, hb⟩
              have g0' := (hb.cell (p := ⟨b, off + k * 3, none⟩) hbl).trans g0
              have XC' := Lib.hid (XC.out.below hb)
              have B' := Lib.hid (B.out.trans (hb.mono B.out.size))
              clear hb XC B
              have XC := XC'
              have B := B'
              clear XC' B'
              have n3' := XC.out.box.cell 3 rfl
              clear g0 n3
              go_wp2
              go_roundw
              case rel => exact ⟨k + 1, by omega, by go_num, B, XC, HG1⟩
              case measure => simp [RowKit.intOf]; omega
        case neg =>
          have HPO := Lib.hid (show PartsM c.parts from fun x hx => by
            obtain ⟨i, hi, rfl⟩ := List.mem_iff_getElem.1 hx
            exact HG.out i hi (by omega))
          have hkn : ¬ (k : Int) < (c.parts.length : Int) := by omega
          have HNN := Lib.hid (names_short HS.out.s HS.out.z)
          clear HG
          go_wp2_with (refine wpList_load_box rfl _ rfl aggCore rfl (kcore c (.slice A0 c.sets.length k0) (.slice A1 c.ddt.length k1) (.slice A2 c.parts.length k2) (.slice A3 c.safe.length k3)) rfl XC.out.box ?_)
          refine (names_any _ _ _ _ c _ XC.out.reads HS.out).mono ?_
          rintro e w1 ⟨u, rfl, hown, hb⟩
          have HBR := Lib.hid (show BookR w1 u (namesM c.sets) from ⟨by rw [namesM_length]; exact sl_of_own hown, fun b e => (hown.lt b e).2⟩)
          clear hown
          have XC' := Lib.hid (XC.out.below hb)
          have B' := Lib.hid (B.out.trans (hb.mono B.out.size))
          clear hb XC B
          have XC := XC'
          have B := B'
          clear XC' B'
          go_wp2_with fail
          refine (BookOk_any _ _ _ HBR.out HNN.out).mono ?_
          rintro e w2 ⟨rfl, hb⟩
          have XC' := Lib.hid (XC.out.below hb)
          have B' := Lib.hid (B.out.trans (hb.mono B.out.size))
          clear hb XC B
          have XC := XC'
          have B := B'
          clear XC' B'
          clear HBR
          by_cases hbk : BookOkM (namesM c.sets)
          case neg =>
            rw [decide_eq_false hbk]
            have HF := Lib.hid (HBAD.out (fun c => hbk c.2.2.2.2.2.2.2.1))
            clear hbk
            go_wp2
            go_ret
            exact ⟨ret_boolB HF.out, B.out⟩
          case pos =>
          rw [decide_eq_true hbk]
          have HBK := Lib.hid hbk
          clear hbk
          have n0 := XC.out.box.cell 0 rfl
          have n1 := XC.out.box.cell 1 rfl
          have n2 := XC.out.box.cell 2 rfl
          have n3 := XC.out.box.cell 3 rfl
          have n4 := XC.out.box.cell 4 rfl
          have n5 := XC.out.box.cell 5 rfl
          have n6 := XC.out.box.cell 6 rfl
          go_wp2_with fail
          clear n0 n1 n2 n3 n4 n5 n6
          refine (specCounts_any _ _ _ _ c _ XC.out.reads HS.out H_hd.out).mono ?_
          rintro e w3 ⟨rfl, hb⟩
          have XC' := Lib.hid (XC.out.below hb)
          have B' := Lib.hid (B.out.trans (hb.mono B.out.size))
          clear hb XC B
          have XC := XC'
          have B := B'
          clear XC' B'
          by_cases hct : CountsM c
          case neg =>
            rw [decide_eq_false hct]
            have HF := Lib.hid (HBAD.out (fun c => hct c.2.2.2.2.2.2.2.2.1))
            clear hct
            go_wp2
            go_ret
            exact ⟨ret_boolB HF.out, B.out⟩
          case pos =>
          rw [decide_eq_true hct]
          have HCT := Lib.hid hct
          clear hct
          have n0 := XC.out.box.cell 0 rfl
          have n1 := XC.out.box.cell 1 rfl
          have n2 := XC.out.box.cell 2 rfl
          have n3 := XC.out.box.cell 3 rfl
          have n4 := XC.out.box.cell 4 rfl
          have n5 := XC.out.box.cell 5 rfl
          have n6 := XC.out.box.cell 6 rfl
          go_wp2_with fail
          clear n0 n1 n2 n3 n4 n5 n6
          refine (specSums_any _ _ _ _ c _ XC.out.reads HS.out H_hd.out).mono ?_
          rintro e w4 ⟨rfl, hb⟩
          have XC' := Lib.hid (XC.out.below hb)
          have B' := Lib.hid (B.out.trans (hb.mono B.out.size))
          clear hb XC B
          have XC := XC'
          have B := B'
          clear XC' B'
          have HF := Lib.hid (show decide (SumsM c) = ok from by
            rw [← HOK.out]
            by_cases hsm : SumsM c
            · rw [decide_eq_true hsm, decide_eq_true (show CoreOkM c from ⟨HP.out.1, H_hd.out, HP.out.2.1, H_hp.out, HP.out.2.2, HSO.out, HPO.out, HBK.out, HCT.out, hsm⟩)]
            · rw [decide_eq_false hsm, decide_eq_false (fun c : CoreOkM _ => hsm c.2.2.2.2.2.2.2.2.2)])
          go_wp2
          go_ret
          exact ⟨ret_boolB HF.out, B.out⟩
theorem specCoreOk_is (vs vd vp vi : Value) (c : CoreM) (r : Bool) (w : World) (h : CoreR w vs vd vp vi c) (hs : CoreShort c) (hr : decide (CoreOkM c) = r) :
    Calls Tryz.prog 52 #[cv c vs vd vp vi] w fun e w' => e = .returned (.bool r) ∧ Below w.heap.size w w' := hr ▸ specCoreOk_any vs vd vp vi c w h hs
end Go.Proofs.YtojjenclcidnkaaGreatDoor

/-
  impl's CoreOk.
-/
set_option maxRecDepth 100000
namespace Go.Proofs.YtojjenclcidnkaaGreatDoor
open Go.ChangeShapes Go.WideShapes Go.ChangeAt Go.RowKit Go.Proofs.Palim

theorem setok_pts {c : CoreM} (h : ∀ x ∈ c.sets, SetOkC x) : ∀ p ∈ ptsM c.sets, PtrOkM p := fun p hp => by
  obtain ⟨x, hx, hpx⟩ := List.mem_flatMap.1 hp
  exact (h x hx).2.2.2.2 p hpx
set_option maxHeartbeats 8000000 in
theorem implCoreOk_any (vs vd vp vi : Value) (c : CoreM) (w : World) (h : CoreR w vs vd vp vi c) (hs : CoreShort c) :
    Calls Tryz.prog 104 #[cv c vs vd vp vi] w fun e w' => e = .returned (.bool (decide (CoreOkM c))) ∧ Below w.heap.size w w' := by
  have hnot : ∀ (x : Bool) (w : World), (Op.unary .not (.bool x)).run Tryz.prog w = .ok (.bool (!x)) w := fun _ _ => rfl
  obtain ⟨ok, HOK⟩ : ∃ ok, Hid (decide (CoreOkM c) = ok) := ⟨_, Lib.hid rfl⟩
  rw [HOK.out]
  have HBAD := Lib.hid (show ¬ CoreOkM c → false = ok from fun h => HOK.out ▸ (decide_eq_false h).symm)
  have HS := Lib.hid hs
  obtain ⟨A0, k0, A1, k1, A2, k2, A3, k3, rfl, rfl, rfl, rfl⟩ := h.forms
  have XC := Lib.hid (kbox_new h 45)
  have B := Lib.hid (Below.new1 (w := w) (.cells #[.int .i64 c.txg, .slice A0 c.sets.length k0, .slice A1 c.ddt.length k1, .slice A2 c.parts.length k2, .bool c.dirty, .slice A3 c.safe.length k3, .int .i64 c.logn] 45))
  clear h hs
  go_enter Tryz.func104, Tryz.ntmps104
  go_upto_region 1 with fail
  obtain ⟨W0, HWE⟩ : ∃ W0, w.alloc (.cells #[.int .i64 c.txg, .slice A0 c.sets.length k0, .slice A1 c.ddt.length k1, .slice A2 c.parts.length k2, .bool c.dirty, .slice A3 c.safe.length k3, .int .i64 c.logn] 45) = W0 := ⟨_, rfl⟩
  rw [HWE] at XC B ⊢
  clear HWE
  have n0 := XC.out.box.cell 0 rfl
  by_cases h1 : 0 ≤ c.txg
  case neg =>
    have HF := Lib.hid (HBAD.out (fun c => h1 (c.1.1)))
    have q : ¬ c.txg ≥ 0 := h1
    go_wp2
    go_ret
    exact ⟨ret_boolB HF.out, B.out⟩
  case pos =>
  have q1 : c.txg ≥ 0 := h1
  by_cases h2 : c.txg ≤ 1000000
  case neg =>
    have HF := Lib.hid (HBAD.out (fun c => h2 (c.1.2)))
    go_wp2
    go_ret
    exact ⟨ret_boolB HF.out, B.out⟩
  case pos =>
  have n2 := XC.out.box.cell 2 rfl
  by_cases hd : DdtOkM c.ddt
  case neg =>
    have HF := Lib.hid (HBAD.out (fun c => hd (c.2.1)))
    have hor := decide_eq_false hd
    clear hd
    go_wp2_with fail
    refine (ImplDdtOk_is _ c.ddt _ _ XC.out.reads.d XC.out.reads.ld hor).mono ?_
    rintro e w1 ⟨rfl, hb⟩
    have XC' := Lib.hid (XC.out.below hb)
    have B' := Lib.hid (B.out.trans (hb.mono B.out.size))
    clear hb XC B
    have XC := XC'
    have B := B'
    clear XC' B'
    go_wp2
    go_ret
    exact ⟨ret_boolB HF.out, B.out⟩
  case pos =>
  have hor := decide_eq_true hd
  have H_hd := Lib.hid hd
  clear hd
  go_wp2_with fail
  refine (ImplDdtOk_is _ c.ddt _ _ XC.out.reads.d XC.out.reads.ld hor).mono ?_
  rintro e w1 ⟨rfl, hb⟩
  have XC' := Lib.hid (XC.out.below hb)
  have B' := Lib.hid (B.out.trans (hb.mono B.out.size))
  clear hb XC B
  have XC := XC'
  have B := B'
  clear XC' B'
  clear hor n2
  have n3 := XC.out.box.cell 3 rfl
  by_cases hpt : (c.parts.length ≤ 8 ∧ PartsM c.parts)
  case neg =>
    have HF := Lib.hid (HBAD.out (fun c => hpt (⟨c.2.2.1, c.2.2.2.2.2.2.1⟩)))
    have hor := decide_eq_false hpt
    clear hpt
    go_wp2_with fail
    refine (implParts_is _ c.parts _ _ XC.out.reads.p XC.out.reads.lp hor).mono ?_
    rintro e w1 ⟨rfl, hb⟩
    have XC' := Lib.hid (XC.out.below hb)
    have B' := Lib.hid (B.out.trans (hb.mono B.out.size))
    clear hb XC B
    have XC := XC'
    have B := B'
    clear XC' B'
    go_wp2
    go_ret
    exact ⟨ret_boolB HF.out, B.out⟩
  case pos =>
  have hor := decide_eq_true hpt
  have H_hpt := Lib.hid hpt
  clear hpt
  go_wp2_with fail
  refine (implParts_is _ c.parts _ _ XC.out.reads.p XC.out.reads.lp hor).mono ?_
  rintro e w1 ⟨rfl, hb⟩
  have XC' := Lib.hid (XC.out.below hb)
  have B' := Lib.hid (B.out.trans (hb.mono B.out.size))
  clear hb XC B
  have XC := XC'
  have B := B'
  clear XC' B'
  clear hor n3
  have n5 := XC.out.box.cell 5 rfl
  by_cases hp : PlacesM c.safe
  case neg =>
    have HF := Lib.hid (HBAD.out (fun c => hp (c.2.2.2.1)))
    have hor := decide_eq_false hp
    clear hp
    go_wp2_with fail
    refine (implSafe_is _ c.safe _ _ XC.out.reads.i XC.out.reads.li hor).mono ?_
    rintro e w1 ⟨rfl, hb⟩
    have XC' := Lib.hid (XC.out.below hb)
    have B' := Lib.hid (B.out.trans (hb.mono B.out.size))
    clear hb XC B
    have XC := XC'
    have B := B'
    clear XC' B'
    go_wp2
    go_ret
    exact ⟨ret_boolB HF.out, B.out⟩
  case pos =>
  have hor := decide_eq_true hp
  have H_hp := Lib.hid hp
  clear hp
  go_wp2_with fail
  refine (implSafe_is _ c.safe _ _ XC.out.reads.i XC.out.reads.li hor).mono ?_
  rintro e w1 ⟨rfl, hb⟩
  have XC' := Lib.hid (XC.out.below hb)
  have B' := Lib.hid (B.out.trans (hb.mono B.out.size))
  clear hb XC B
  have XC := XC'
  have B := B'
  clear XC' B'
  clear hor n5
  have n6 := XC.out.box.cell 6 rfl
  by_cases h4 : 0 ≤ c.logn
  case neg =>
    have HF := Lib.hid (HBAD.out (fun c => h4 (c.2.2.2.2.1.1)))
    have q : ¬ c.logn ≥ 0 := h4
    go_wp2
    go_ret
    exact ⟨ret_boolB HF.out, B.out⟩
  case pos =>
  have q4 : c.logn ≥ 0 := h4
  by_cases h5 : c.logn ≤ 8
  case neg =>
    have HF := Lib.hid (HBAD.out (fun c => h5 (c.2.2.2.2.1.2)))
    go_wp2
    go_ret
    exact ⟨ret_boolB HF.out, B.out⟩
  case pos =>
  have n1 := XC.out.box.cell 1 rfl
  by_cases hst : ((∀ x ∈ c.sets, SetOkC x) ∧ BookOkM (namesM c.sets))
  case neg =>
    have HF := Lib.hid (HBAD.out (fun c => hst (⟨c.2.2.2.2.2.1, c.2.2.2.2.2.2.2.1⟩)))
    have hor := decide_eq_false hst
    clear hst
    go_wp2_with fail
    refine (implSets_is _ c.sets _ _ XC.out.reads.s XC.out.reads.ls HS.out.s HS.out.z hor).mono ?_
    rintro e w1 ⟨rfl, hb⟩
    have XC' := Lib.hid (XC.out.below hb)
    have B' := Lib.hid (B.out.trans (hb.mono B.out.size))
    clear hb XC B
    have XC := XC'
    have B := B'
    clear XC' B'
    go_wp2
    go_ret
    exact ⟨ret_boolB HF.out, B.out⟩
  case pos =>
  have hor := decide_eq_true hst
  have H_hst := Lib.hid hst
  clear hst
  go_wp2_with fail
  refine (implSets_is _ c.sets _ _ XC.out.reads.s XC.out.reads.ls HS.out.s HS.out.z hor).mono ?_
  rintro e w1 ⟨rfl, hb⟩
  have XC' := Lib.hid (XC.out.below hb)
  have B' := Lib.hid (B.out.trans (hb.mono B.out.size))
  clear hb XC B
  have XC := XC'
  have B := B'
  clear XC' B'
  clear hor n1
  have HF := Lib.hid (show decide (tabM (ptsM c.sets) [] = some c.ddt) = ok from by
    rw [← HOK.out]
    have hti := tab_iff H_hd.out (setok_pts H_hst.out.1)
    by_cases ht : tabM (ptsM c.sets) [] = some c.ddt
    · obtain ⟨t1, t2⟩ := hti.1 ht
      rw [decide_eq_true ht, decide_eq_true (show CoreOkM c from ⟨⟨h1, h2⟩, H_hd.out, H_hpt.out.1, H_hp.out, ⟨h4, h5⟩, H_hst.out.1, H_hpt.out.2, H_hst.out.2, t1, t2⟩)]
    · rw [decide_eq_false ht, decide_eq_false (fun c : CoreOkM _ => ht (hti.2 ⟨c.2.2.2.2.2.2.2.2.1, c.2.2.2.2.2.2.2.2.2⟩))])
  have n0 := XC.out.box.cell 0 rfl
  have n1 := XC.out.box.cell 1 rfl
  have n2 := XC.out.box.cell 2 rfl
  have n3 := XC.out.box.cell 3 rfl
  have n4 := XC.out.box.cell 4 rfl
  have n5 := XC.out.box.cell 5 rfl
  have n6 := XC.out.box.cell 6 rfl
  go_wp2_with fail
  clear n0 n1 n2 n3 n4 n5 n6
  refine (implCounts_any _ _ _ _ c _ XC.out.reads HS.out H_hst.out.1 H_hd.out.1).mono ?_
  rintro e w1 ⟨rfl, hb⟩
  have XC' := Lib.hid (XC.out.below hb)
  have B' := Lib.hid (B.out.trans (hb.mono B.out.size))
  clear hb XC B
  have XC := XC'
  have B := B'
  clear XC' B'
  go_wp2
  go_ret
  exact ⟨ret_boolB HF.out, B.out⟩
theorem implCoreOk_is (vs vd vp vi : Value) (c : CoreM) (r : Bool) (w : World) (h : CoreR w vs vd vp vi c) (hs : CoreShort c) (hr : decide (CoreOkM c) = r) :
    Calls Tryz.prog 104 #[cv c vs vd vp vi] w fun e w' => e = .returned (.bool r) ∧ Below w.heap.size w w' := hr ▸ implCoreOk_any vs vd vp vi c w h hs
end Go.Proofs.YtojjenclcidnkaaGreatDoor

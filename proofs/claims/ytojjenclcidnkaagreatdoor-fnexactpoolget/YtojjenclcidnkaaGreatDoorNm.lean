/-
  Texts joined into one.
-/
import Derived.Test.YtojjenclcidnkaaGreatDoorSets
import Derived.Test.YtojjenclcidnkaaGreatDoorImo

/-
  impl: the outline of a core's sets, and whether the sets are right.
-/
set_option maxRecDepth 100000
namespace Go.Proofs.YtojjenclcidnkaaGreatDoor
open Go.ChangeShapes Go.WideShapes Go.ChangeAt Go.RowKit Go.Proofs.Palim

theorem kc_one (x : SetM) : ∀ u ∈ kc x, u.oneCell' = true := by
  intro u hu
  simp [kc] at hu
  rcases hu with rfl | rfl | rfl | rfl | rfl | rfl | rfl | rfl | rfl | rfl | rfl <;> rfl
theorem sl_nm (w : World) (x : CSetM) (e : Nat) : Sl (w.alloc (.cells #[.string x.name, .int .i64 x.kind, .string x.frm, .string ⟨#[]⟩, .string ⟨#[]⟩, .string ⟨#[]⟩, .string ⟨#[]⟩, .string ⟨#[]⟩, .string ⟨#[]⟩, .string ⟨#[]⟩, .string ⟨#[]⟩] e)) 11 (.slice (some ⟨w.heap.size, 0, none⟩) 1 1) 1 (kc (nameM x)) := by
  refine ⟨rfl, _, _, rfl, Nat.le_refl _, by unfold maxLen; omega, Or.inr ⟨w.heap.size, 0, rfl, fun j u hu => ?_⟩⟩
  have := (box_new w #[.string x.name, .int .i64 x.kind, .string x.frm, .string ⟨#[]⟩, .string ⟨#[]⟩, .string ⟨#[]⟩, .string ⟨#[]⟩, .string ⟨#[]⟩, .string ⟨#[]⟩, .string ⟨#[]⟩, .string ⟨#[]⟩] e).cell j hu
  rwa [Nat.zero_add]
theorem infoBkSet : (Tryz.prog.info? 97).map (fun i => (i.zero, i.size, i.bytes)) = some (some (.agg #[.string ⟨#[]⟩, .int .i64 0, .string ⟨#[]⟩, .string ⟨#[]⟩, .string ⟨#[]⟩, .string ⟨#[]⟩, .string ⟨#[]⟩, .string ⟨#[]⟩, .string ⟨#[]⟩, .string ⟨#[]⟩, .string ⟨#[]⟩]), 11, 168) := by kernel_rfl
theorem aggBookD : Agg Tryz.prog 63 1 := ⟨Tryz.isAgg63, Tryz.sizeOf63⟩
theorem aggSetD : Agg Tryz.prog 70 31 := ⟨Tryz.isAgg70, Tryz.sizeOf70⟩

set_option maxHeartbeats 4000000 in
theorem outline_any (v : Value) (ls : List CSetM) (w : World) (h : Sl w 31 v ls.length (ccs ls)) (hv : Low w.heap.size v) (hl : ls.length ≤ 1048576) :
    Calls Tryz.prog 83 #[v] w fun e w' => ∃ u, e = .returned (.agg #[u]) ∧ w'.ownsRow w.heap.size 97 11 u ls.length (kcs (namesM ls)) ∧ Below w.heap.size w w' := by
  obtain ⟨i0, hi, hz0, hz1, hz2⟩ := info_parts infoBkSet
  obtain ⟨n, HL⟩ : ∃ n, Hid (ls.length = n) := ⟨_, Lib.hid rfl⟩
  rw [HL.out] at h hl ⊢
  have hnm := h.le
  unfold maxLen at hnm
  obtain ⟨X1, X2, hsz, hB⟩ := box2 w #[.slice none 0 0] #[.slice none 0 0] 63 63
  have X1 := Lib.hid X1
  have X2 := Lib.hid X2
  have B0 := Lib.hid hB
  clear hB
  have HS := Lib.hid (h.below B0.out hv)
  obtain ⟨_, A, c, rfl, _, hcm, _⟩ := h
  unfold maxLen at hcm
  have HV := Lib.hid hv
  clear hv
  go_enter Tryz.func83, Tryz.ntmps83
  go_wp2
  generalize (w.alloc (.cells #[.slice none 0 0] 63)).alloc (.cells #[.slice none 0 0] 63) = W at X1 X2 B0 HS hsz ⊢
  go_loopw [5, 8] (fun _ i wr => ∃ (k : Nat) (D : Option Addr) (cap : Nat), k ≤ n ∧ i = .int .i64 k ∧ Hid (Box wr w.heap.size [.slice none 0 0]) ∧ Hid (Box wr (w.heap.size + 1) [.slice D k cap]) ∧ Hid (wr.ownsRow w.heap.size 97 11 (.slice D k cap) k (kcs (namesM (ls.take k)))) ∧ Hid (Below w.heap.size w wr) ∧ Hid (Sl wr 31 (.slice A n c) n (ccs ls)) ∧ w.heap.size + 2 ≤ wr.heap.size ∧ Hid (∀ b, (Value.slice D k cap).ownBlock = some b → w.heap.size + 1 < b)) (fun _ i _ => n - (RowKit.intOf i).toNat)
  case atStart => exact ⟨0, none, 0, Nat.zero_le _, rfl, X1, X2, Lib.hid ⟨rfl, Or.inl ⟨rfl, rfl⟩⟩, B0, HS, by omega, Lib.hid (fun b e => by cases e)⟩
  case round =>
    obtain ⟨k, D, cap, hk, rfl, HX1, HX2, HO, HB, HSr, hszr, HBK⟩ := hrel
    clear X1 X2 B0 HS hsz
    by_cases hlt : k < n
    case pos =>
      have hl0 : k < ls.length := by rw [HL.out]; exact hlt
      obtain ⟨b, off, c', hvv, _, _, hcell⟩ := HSr.out.form (by omega)
      injection hvv with e1 e2 e3
      subst e1 e3
      clear e2
      have hrd := cset_read hcell k hl0
      have hk1 : (k : Int) < (n : Int) := by omega
      have hbl : b < w.heap.size := HV.out b rfl
      have HE := Lib.hid (show kcs (namesM (ls.take (k + 1))) = kcs (namesM (ls.take k)) ++ kc (nameM ls[k]) from by
        rw [show namesM (ls.take (k + 1)) = namesM (ls.take k) ++ [nameM ls[k]] from by unfold namesM; rw [List.take_succ_eq_append_getElem hl0, List.map_append]; rfl, kcs_snoc])
      obtain ⟨x, HXX⟩ : ∃ x, Hid (ls[k] = x) := ⟨_, Lib.hid rfl⟩
      rw [HXX.out] at hrd HE
      have HRD := Lib.hid hrd
      clear hrd hcell hl0 HXX
      have hn1 := Below.new1 (w := wr) (.cells #[.string ⟨#[]⟩, .int .i64 0, .string ⟨#[]⟩, .int .i64 0, .int .i64 0, .int .i64 0, .int .i64 0, .int .i64 0, .int .i64 0, .int .i64 0, .int .i64 0, .int .i64 0, .int .i64 0, .int .i64 0, .int .i64 0, .int .i64 0, .int .i64 0, .int .i64 0, .int .i64 0, .int .i64 0, .int .i64 0, .int .i64 0, .int .i64 0, .int .i64 0, .int .i64 0, .int .i64 0, .int .i64 0, .int .i64 0, .int .i64 0, .int .i64 0, .bool false] 70)
      have HBX := Lib.hid ((show Box _ wr.heap.size [.string ⟨#[]⟩, .int .i64 0, .string ⟨#[]⟩, .int .i64 0, .int .i64 0, .int .i64 0, .int .i64 0, .int .i64 0, .int .i64 0, .int .i64 0, .int .i64 0, .int .i64 0, .int .i64 0, .int .i64 0, .int .i64 0, .int .i64 0, .int .i64 0, .int .i64 0, .int .i64 0, .int .i64 0, .int .i64 0, .int .i64 0, .int .i64 0, .int .i64 0, .int .i64 0, .int .i64 0, .int .i64 0, .int .i64 0, .int .i64 0, .int .i64 0, .bool false] from box_new wr #[.string ⟨#[]⟩, .int .i64 0, .string ⟨#[]⟩, .int .i64 0, .int .i64 0, .int .i64 0, .int .i64 0, .int .i64 0, .int .i64 0, .int .i64 0, .int .i64 0, .int .i64 0, .int .i64 0, .int .i64 0, .int .i64 0, .int .i64 0, .int .i64 0, .int .i64 0, .int .i64 0, .int .i64 0, .int .i64 0, .int .i64 0, .int .i64 0, .int .i64 0, .int .i64 0, .int .i64 0, .int .i64 0, .int .i64 0, .int .i64 0, .int .i64 0, .bool false] 70).putAll (cc x) (by rw [cc_length]; rfl))
      have hpb : Below wr.heap.size wr (putC (wr.alloc (.cells #[.string ⟨#[]⟩, .int .i64 0, .string ⟨#[]⟩, .int .i64 0, .int .i64 0, .int .i64 0, .int .i64 0, .int .i64 0, .int .i64 0, .int .i64 0, .int .i64 0, .int .i64 0, .int .i64 0, .int .i64 0, .int .i64 0, .int .i64 0, .int .i64 0, .int .i64 0, .int .i64 0, .int .i64 0, .int .i64 0, .int .i64 0, .int .i64 0, .int .i64 0, .int .i64 0, .int .i64 0, .int .i64 0, .int .i64 0, .int .i64 0, .int .i64 0, .bool false] 70)) wr.heap.size 0 (cc x)) := putC_below hn1 _ _ (Nat.le_refl _) _
      have HNX := Lib.hid (show Box _ wr.heap.size [.string ⟨#[]⟩, .int .i64 0, .string ⟨#[]⟩, .int .i64 0, .int .i64 0, .int .i64 0, .int .i64 0, .int .i64 0, .int .i64 0, .int .i64 0, .int .i64 0, .int .i64 0, .int .i64 0, .int .i64 0, .int .i64 0, .int .i64 0, .int .i64 0, .int .i64 0, .int .i64 0, .int .i64 0, .int .i64 0, .int .i64 0, .int .i64 0, .int .i64 0, .int .i64 0, .int .i64 0, .int .i64 0, .int .i64 0, .int .i64 0, .int .i64 0, .bool false] from box_new wr #[.string ⟨#[]⟩, .int .i64 0, .string ⟨#[]⟩, .int .i64 0, .int .i64 0, .int .i64 0, .int .i64 0, .int .i64 0, .int .i64 0, .int .i64 0, .int .i64 0, .int .i64 0, .int .i64 0, .int .i64 0, .int .i64 0, .int .i64 0, .int .i64 0, .int .i64 0, .int .i64 0, .int .i64 0, .int .i64 0, .int .i64 0, .int .i64 0, .int .i64 0, .int .i64 0, .int .i64 0, .int .i64 0, .int .i64 0, .int .i64 0, .int .i64 0, .bool false] 70)
      have Y1 := Lib.hid (HX1.out.below hpb HX1.out.lt)
      have Y2 := Lib.hid (HX2.out.below hpb HX2.out.lt)
      have HO1 := Lib.hid (own_kept HO.out (fun b e => hpb.block b (HO.out.lt b e).2))
      have HB1 := Lib.hid (HB.out.trans (hpb.mono HB.out.size))
      have HS1 := Lib.hid (HSr.out.below hpb (fun b' e => Nat.lt_of_lt_of_le (HV.out b' e) HB.out.size))
      have hsz1 : wr.heap.size + 1 = (putC (wr.alloc (.cells #[.string ⟨#[]⟩, .int .i64 0, .string ⟨#[]⟩, .int .i64 0, .int .i64 0, .int .i64 0, .int .i64 0, .int .i64 0, .int .i64 0, .int .i64 0, .int .i64 0, .int .i64 0, .int .i64 0, .int .i64 0, .int .i64 0, .int .i64 0, .int .i64 0, .int .i64 0, .int .i64 0, .int .i64 0, .int .i64 0, .int .i64 0, .int .i64 0, .int .i64 0, .int .i64 0, .int .i64 0, .int .i64 0, .int .i64 0, .int .i64 0, .int .i64 0, .bool false] 70)) wr.heap.size 0 (cc x)).heap.size := by rw [putC_size]; simp
      clear hn1 hpb HX1 HX2 HO HB HSr
      go_wp2_with (first | (refine wpList_load_cs rfl _ rfl aggSetD rfl (cc x) (cc_length x) HRD.out ?_) | (refine wpList_store_box rfl _ _ rfl rfl aggSetD rfl (cc x) rfl (cc_length x) (cc_one x) [.string ⟨#[]⟩, .int .i64 0, .string ⟨#[]⟩, .int .i64 0, .int .i64 0, .int .i64 0, .int .i64 0, .int .i64 0, .int .i64 0, .int .i64 0, .int .i64 0, .int .i64 0, .int .i64 0, .int .i64 0, .int .i64 0, .int .i64 0, .int .i64 0, .int .i64 0, .int .i64 0, .int .i64 0, .int .i64 0, .int .i64 0, .int .i64 0, .int .i64 0, .int .i64 0, .int .i64 0, .int .i64 0, .int .i64 0, .int .i64 0, .int .i64 0, .bool false] HNX.out rfl ?_; clear HNX; generalize putC (wr.alloc (.cells #[.string ⟨#[]⟩, .int .i64 0, .string ⟨#[]⟩, .int .i64 0, .int .i64 0, .int .i64 0, .int .i64 0, .int .i64 0, .int .i64 0, .int .i64 0, .int .i64 0, .int .i64 0, .int .i64 0, .int .i64 0, .int .i64 0, .int .i64 0, .int .i64 0, .int .i64 0, .int .i64 0, .int .i64 0, .int .i64 0, .int .i64 0, .int .i64 0, .int .i64 0, .int .i64 0, .int .i64 0, .int .i64 0, .int .i64 0, .int .i64 0, .int .i64 0, .bool false] 70)) wr.heap.size 0 (cc x) = W1 at HBX Y1 Y2 HO1 HB1 HS1 hsz1 ⊢; obtain ⟨n0, n1, n2, -, -, -, -⟩ := ccBox HBX.out; have m0 := Y2.out.cell 0 rfl; have HSN := Lib.hid (sl_nm W1 x 97); have hn2 := Below.new1 (w := W1) (.cells #[.string x.name, .int .i64 x.kind, .string x.frm, .string ⟨#[]⟩, .string ⟨#[]⟩, .string ⟨#[]⟩, .string ⟨#[]⟩, .string ⟨#[]⟩, .string ⟨#[]⟩, .string ⟨#[]⟩, .string ⟨#[]⟩] 97); have HO2 := Lib.hid (own_kept HO1.out (fun b e => hn2.block b (HO1.out.lt b e).2)); have Z1 := Lib.hid (Y1.out.below hn2 Y1.out.lt); have Z2 := Lib.hid (Y2.out.below hn2 Y2.out.lt); have HB2 := Lib.hid (HB1.out.trans (hn2.mono HB1.out.size)); have HS2 := Lib.hid (HS1.out.below hn2 (fun b' e => Nat.lt_of_lt_of_le (HV.out b' e) HB1.out.size)); have hsz2 : (W1.alloc (.cells #[.string x.name, .int .i64 x.kind, .string x.frm, .string ⟨#[]⟩, .string ⟨#[]⟩, .string ⟨#[]⟩, .string ⟨#[]⟩, .string ⟨#[]⟩, .string ⟨#[]⟩, .string ⟨#[]⟩, .string ⟨#[]⟩] 97)).heap.size = W1.heap.size + 1 := by simp) | (at_builtin; refine wpList_append_freshB _ rfl _ _ 61 rfl w.heap.size 97 i0 _ 11 168 Tryz.underlying61 hi hz0 hz1 hz2 rfl (by omega) (.slice D k cap) k _ rfl HO2.out (.slice (some ⟨W1.heap.size, 0, none⟩) 1 1) 1 (kc (nameM x)) rfl HSN.out (kc_one _) (by unfold maxLen; omega) (by omega) (by have := HB2.out.size; omega) ?_))
      intro A2 cap2 w5 hown5 hg5 hloc
      rw [← HE.out] at hown5
      have NM := nm_more Z2.out hg5 HBK.out HB2.out (by omega) hown5 (by rw [hsz2]; exact hloc)
      have c0 := NM.c0
      have f0 := NM.f0
      have U1 := Lib.hid (Z1.out.kept (NM.low _ (by omega)))
      have U2 := Lib.hid NM.box
      have HO5 := Lib.hid NM.own
      have HB5 := Lib.hid NM.below
      have HS5 := Lib.hid (HS2.out.kept (fun b' e => NM.low b' (by have := HV.out b' e; omega)))
      have hsz5 : w.heap.size + 2 ≤ (w5.setCell ⟨w.heap.size + 1, 0, none⟩ (.slice A2 (k + 1) cap2)).heap.size := by have := NM.size; omega
      have HBK5 := Lib.hid NM.hi
      clear hown5 hg5 hloc NM Z1 Z2 HO2 HB2 HS2 HBK Y1 Y2 HO1 HB1 HS1 HSN n0 n1 n2 m0 HBX
      go_wp2
      go_roundw
      case rel => exact ⟨k + 1, A2, cap2, by omega, by go_num, U1, U2, HO5, HB5, HS5, hsz5, HBK5⟩
      case measure => simp [RowKit.intOf]; omega
    case neg =>
      have hkn : k = n := by omega
      subst hkn
      have HT := Lib.hid (show ls.take k = ls from List.take_of_length_le (by rw [HL.out]; omega))
      have c1 := HX2.out.cell 0 rfl
      have c2 := HX1.out.cell 0 rfl
      have f2 := HX1.out.open_ 0
      have U := Lib.hid (HX1.out.set 0 (.slice D k cap))
      have c3 := U.out.cell 0 rfl
      have HO5 := Lib.hid (own_kept HO.out (w' := wr.setCell ⟨w.heap.size, 0, none⟩ (.slice D k cap)) (fun b e => Below.heap_setCell wr _ _ b (fun e2 => by have := HBK.out b e; simp only at e2; omega)))
      have HB5 := Lib.hid (HB.out.setCell (p := ⟨w.heap.size, 0, none⟩) (Nat.le_refl _) (.slice D k cap))
      clear HO HB HX1 HX2 HSr
      go_wp2
      refine bodyPost_ret (v := .agg #[.slice D k cap]) (results_box rfl _ w.heap.size [.slice D k cap] aggBookD rfl rfl U.out) rfl ?_
      refine ⟨_, rfl, ?_, HB5.out⟩
      have h0 := HO5.out
      rw [HT.out] at h0
      exact h0
end Go.Proofs.YtojjenclcidnkaaGreatDoor

/-
  The document's l6Names.
-/
set_option maxRecDepth 100000
namespace Go.Proofs.YtojjenclcidnkaaGreatDoor
open Go.ChangeShapes Go.WideShapes Go.ChangeAt Go.RowKit Go.Proofs.Palim

set_option maxHeartbeats 8000000 in
theorem names_any (vs vd vp vi : Value) (c : CoreM) (w : World) (h : CoreR w vs vd vp vi c) (hs : CoreShort c) :
    Calls Tryz.prog 19 #[cv c vs vd vp vi] w fun e w' => ∃ u, e = .returned (.agg #[u]) ∧ w'.ownsRow w.heap.size 97 11 u c.sets.length (kcs (namesM c.sets)) ∧ Below w.heap.size w w' := by
  obtain ⟨i0, hi, hz0, hz1, hz2⟩ := info_parts infoBkSet
  obtain ⟨txg, sets, ddt, parts, dirty, safe, logn⟩ := c
  obtain ⟨A0, k0, A1, k1, A2, k2, A3, k3, e0, e1, e2, e3⟩ := h.forms
  dsimp only at e0 e1 e2 e3
  subst e0 e1 e2 e3
  have HRR := Lib.hid h
  have HS := Lib.hid h.s
  have HLS := Lib.hid h.ls
  have HD := Lib.hid h.d
  have HLD := Lib.hid h.ld
  obtain ⟨n, HL⟩ : ∃ n, Hid (sets.length = n) := ⟨_, Lib.hid rfl⟩
  obtain ⟨nd, HLDT⟩ : ∃ nd, Hid (ddt.length = nd) := ⟨_, Lib.hid rfl⟩
  have hln : n ≤ 1048576 := HL.out ▸ hs.s
  have hck := h.s.le
  clear h hs
  dsimp only at HS HLS HD HLD hck
  rw [HL.out] at HS HLS hck
  rw [HLDT.out] at HD HLD
  unfold maxLen at hck
  have XC0 := Lib.hid (show Box _ w.heap.size [.int .i64 txg, .slice A0 n k0, .slice A1 nd k1, .slice A2 parts.length k2, .bool dirty, .slice A3 safe.length k3, .int .i64 logn] from box_new w #[.int .i64 txg, .slice A0 n k0, .slice A1 nd k1, .slice A2 parts.length k2, .bool dirty, .slice A3 safe.length k3, .int .i64 logn] 45)
  have B00 := Lib.hid (Below.new1 (w := w) (.cells #[.int .i64 txg, .slice A0 n k0, .slice A1 nd k1, .slice A2 parts.length k2, .bool dirty, .slice A3 safe.length k3, .int .i64 logn] 45))
  simp only
  have XC := Lib.hid ((XC0.out.alloc (.cells #[.slice none 0 0] 63)).alloc (.cells #[.slice none 0 0] 63))
  obtain ⟨Y1, Y2, hsz2, hB2⟩ := box2 (w.alloc (.cells #[.int .i64 txg, .slice A0 n k0, .slice A1 nd k1, .slice A2 parts.length k2, .bool dirty, .slice A3 safe.length k3, .int .i64 logn] 45)) #[.slice none 0 0] #[.slice none 0 0] 63 63
  have hsz1 : (w.alloc (.cells #[.int .i64 txg, .slice A0 n k0, .slice A1 nd k1, .slice A2 parts.length k2, .bool dirty, .slice A3 safe.length k3, .int .i64 logn] 45)).heap.size = w.heap.size + 1 := by simp
  rw [hsz1] at Y1 Y2 hsz2 hB2
  have X1 := Lib.hid Y1
  have X2 := Lib.hid Y2
  have B0 := Lib.hid (B00.out.trans (hB2.mono (by omega)))
  clear Y1 Y2 hB2 XC0 B00 hsz1
  go_enter Tryz.func19, Tryz.ntmps19
  go_upto_region 2 with fail
  rw [HL.out, HLDT.out]
  obtain ⟨W0, HWE⟩ : ∃ W0, ((w.alloc (.cells #[.int .i64 txg, .slice A0 n k0, .slice A1 nd k1, .slice A2 parts.length k2, .bool dirty, .slice A3 safe.length k3, .int .i64 logn] 45)).alloc (.cells #[.slice none 0 0] 63)).alloc (.cells #[.slice none 0 0] 63) = W0 := ⟨_, rfl⟩
  rw [HWE] at XC X1 X2 B0 hsz2 ⊢
  clear HWE
  go_wp2
  go_loopw [4] (fun i wr => ∃ (k : Nat) (D : Option Addr) (cap : Nat), k ≤ n ∧ i = .int .i64 k ∧ Hid (Box wr w.heap.size [.int .i64 txg, .slice A0 n k0, .slice A1 nd k1, .slice A2 parts.length k2, .bool dirty, .slice A3 safe.length k3, .int .i64 logn]) ∧ Hid (Box wr (w.heap.size + 1) [.slice none 0 0]) ∧ Hid (Box wr (w.heap.size + 1 + 1) [.slice D k cap]) ∧ Hid (wr.ownsRow w.heap.size 97 11 (.slice D k cap) k (kcs (namesM (sets.take k)))) ∧ Hid (Below w.heap.size w wr) ∧ w.heap.size + 3 ≤ wr.heap.size ∧ Hid (∀ b, (Value.slice D k cap).ownBlock = some b → w.heap.size + 1 + 1 < b)) (fun i _ => n - (RowKit.intOf i).toNat)
  case atStart => exact ⟨0, none, 0, Nat.zero_le _, rfl, XC, X1, X2, Lib.hid ⟨rfl, Or.inl ⟨rfl, rfl⟩⟩, B0, by omega, Lib.hid (fun b e => by cases e)⟩
  case round =>
    obtain ⟨k, D, cap, hk, rfl, HX0, HX1, HX2, HO, HB, hszr, HBK⟩ := hrel
    clear XC X1 X2 B0 hsz2
    have n1 := HX0.out.cell 1 rfl
    by_cases hlt : k < n
    case pos =>
      have hl0 : k < sets.length := by rw [HL.out]; exact hlt
      obtain ⟨b, off, c', hvv, _, _, hcell⟩ := (HS.out.below HB.out HLS.out).form (by omega)
      injection hvv with e1 e2 e3
      subst e1 e3
      clear e2
      obtain ⟨g0, g1, g2⟩ := set_head hcell k hl0
      have hk1 : (k : Int) < (n : Int) := by omega
      have hbl : b < w.heap.size := HLS.out b rfl
      have HE := Lib.hid (show kcs (namesM (sets.take (k + 1))) = kcs (namesM (sets.take k)) ++ kc (nameM sets[k]) from by
        rw [show namesM (sets.take (k + 1)) = namesM (sets.take k) ++ [nameM sets[k]] from by unfold namesM; rw [List.take_succ_eq_append_getElem hl0, List.map_append]; rfl, kcs_snoc])
      obtain ⟨x, HXX⟩ : ∃ x, Hid (sets[k] = x) := ⟨_, Lib.hid rfl⟩
      rw [HXX.out] at g0 g1 g2 HE
      have m0 := HX2.out.cell 0 rfl
      have hn2 : Below wr.heap.size wr (wr.drew.alloc (.cells #[.string x.name, .int .i64 x.kind, .string x.frm, .string ⟨#[]⟩, .string ⟨#[]⟩, .string ⟨#[]⟩, .string ⟨#[]⟩, .string ⟨#[]⟩, .string ⟨#[]⟩, .string ⟨#[]⟩, .string ⟨#[]⟩] 97)) := ((Below.refl _ wr).drew).trans (Below.new1 (w := wr.drew) (.cells #[.string x.name, .int .i64 x.kind, .string x.frm, .string ⟨#[]⟩, .string ⟨#[]⟩, .string ⟨#[]⟩, .string ⟨#[]⟩, .string ⟨#[]⟩, .string ⟨#[]⟩, .string ⟨#[]⟩, .string ⟨#[]⟩] 97))
      have HSN := Lib.hid (show Sl (wr.drew.alloc (.cells #[.string x.name, .int .i64 x.kind, .string x.frm, .string ⟨#[]⟩, .string ⟨#[]⟩, .string ⟨#[]⟩, .string ⟨#[]⟩, .string ⟨#[]⟩, .string ⟨#[]⟩, .string ⟨#[]⟩, .string ⟨#[]⟩] 97)) 11 (.slice (some ⟨wr.heap.size, 0, none⟩) 1 1) 1 (kc (nameM x)) from sl_nm wr.drew x 97)
      have HO2 := Lib.hid (own_kept HO.out (fun b e => hn2.block b (HO.out.lt b e).2))
      have Z0 := Lib.hid (HX0.out.below hn2 HX0.out.lt)
      have Z1 := Lib.hid (HX1.out.below hn2 HX1.out.lt)
      have Z2 := Lib.hid (HX2.out.below hn2 HX2.out.lt)
      have HB2 := Lib.hid (HB.out.trans (hn2.mono HB.out.size))
      have hsz3 : (wr.drew.alloc (.cells #[.string x.name, .int .i64 x.kind, .string x.frm, .string ⟨#[]⟩, .string ⟨#[]⟩, .string ⟨#[]⟩, .string ⟨#[]⟩, .string ⟨#[]⟩, .string ⟨#[]⟩, .string ⟨#[]⟩, .string ⟨#[]⟩] 97)).heap.size = wr.heap.size + 1 := show (wr.heap.push _).size = wr.heap.size + 1 from by simp
      clear hcell HXX
      go_wp2_with fail
      have hbw : b < wr.heap.size := by omega
      have q0 := (hn2.cell (p := ⟨b, off + k * 31, none⟩) hbw).trans g0
      have q1 := (hn2.cell (p := ⟨b, off + k * 31 + 1, none⟩) hbw).trans g1
      have q2 := (hn2.cell (p := ⟨b, off + k * 31 + 2, none⟩) hbw).trans g2
      have qn := Z0.out.cell 1 rfl
      have mz := Z2.out.cell 0 rfl
      have mz2 : (wr.alloc (.cells #[.string x.name, .int .i64 x.kind, .string x.frm, .string ⟨#[]⟩, .string ⟨#[]⟩, .string ⟨#[]⟩, .string ⟨#[]⟩, .string ⟨#[]⟩, .string ⟨#[]⟩, .string ⟨#[]⟩, .string ⟨#[]⟩] 97)).cell? ⟨w.heap.size + 1 + 1, 0, none⟩ = some (.slice D k cap) := mz
      refine wp_region_held_drew (S := fun w' => w'.cell? ⟨w.heap.size, 1, none⟩ = some (.slice (some ⟨b, off, none⟩) n k0) ∧ w'.cell? ⟨b, off + k * 31, none⟩ = some (.string x.name) ∧ w'.cell? ⟨b, off + k * 31 + 1, none⟩ = some (.int .i64 x.kind) ∧ w'.cell? ⟨b, off + k * 31 + 2, none⟩ = some (.string x.frm)) (by kernel_rfl) ⟨n1, g0, g1, g2⟩ (fun hHeld => ?_)
      refine wpAnyH_take (i := 0) (v := ?_) rfl (by kernel_rfl) (by kernel_rfl) (by kernel_rfl) (fun _ _ _ h => h) (Or.inl ⟨by first | kernel_rfl | rfl, ?_⟩) (by assumption) ?_
      rotate_left
      · (intro w' hSw; (try dsimp only at hSw); go_simp; try with_reducible rfl)
      try simp only [Act.put]
      refine wpAnyH_take (i := 2) (v := ?_) rfl (by kernel_rfl) (by kernel_rfl) (by kernel_rfl) (fun _ _ _ h => h) (Or.inl ⟨by first | kernel_rfl | rfl, ?_⟩) (by assumption) ?_
      rotate_left
      · (intro w' hSw; (try dsimp only at hSw); go_simp; try with_reducible rfl)
      try simp only [Act.put]
      refine wpAnyH_take (i := 3) (v := ?_) rfl (by kernel_rfl) (by kernel_rfl) (by kernel_rfl) (fun _ _ _ h => h) (Or.inl ⟨by first | kernel_rfl | rfl, ?_⟩) (by assumption) ?_
      rotate_left
      · (intro w' hSw; (try dsimp only at hSw); go_simp; try with_reducible rfl)
      try simp only [Act.put]
      refine wpAnyH_take (i := 4) (v := ?_) rfl (by kernel_rfl) (by kernel_rfl) (by kernel_rfl) (fun _ _ _ h => h) (Or.inl ⟨by first | kernel_rfl | rfl, ?_⟩) (by assumption) ?_
      rotate_left
      · (intro w' hSw; (try dsimp only at hSw); go_simp; try with_reducible rfl)
      try simp only [Act.put]
      refine wpAnyH_take (i := 5) (v := ?_) rfl (by kernel_rfl) (by kernel_rfl) (by kernel_rfl) (fun _ _ _ h => h) (Or.inl ⟨by first | kernel_rfl | rfl, ?_⟩) (by assumption) ?_
      rotate_left
      · (intro w' hSw; (try dsimp only at hSw); go_simp; try with_reducible rfl)
      try simp only [Act.put]
      refine wpAnyH_take (i := 6) (v := ?_) rfl (by kernel_rfl) (by kernel_rfl) (by kernel_rfl) (fun _ _ _ h => h) (Or.inl ⟨by first | kernel_rfl | rfl, ?_⟩) (by assumption) ?_
      rotate_left
      · (intro w' hSw; (try dsimp only at hSw); go_simp; try with_reducible rfl)
      try simp only [Act.put]
      refine wpAnyH_take (i := 7) (v := ?_) rfl (by kernel_rfl) (by kernel_rfl) (by kernel_rfl) (fun _ _ _ h => h) (Or.inl ⟨by first | kernel_rfl | rfl, ?_⟩) (by assumption) ?_
      rotate_left
      · (intro w' hSw; (try dsimp only at hSw); go_simp; try with_reducible rfl)
      try simp only [Act.put]
      refine wpAnyH_take (i := 8) (v := ?_) rfl (by kernel_rfl) (by kernel_rfl) (by kernel_rfl) (fun _ _ _ h => h) (Or.inl ⟨by first | kernel_rfl | rfl, ?_⟩) (by assumption) ?_
      rotate_left
      · (intro w' hSw; (try dsimp only at hSw); go_simp; try with_reducible rfl)
      try simp only [Act.put]
      refine wpAnyH_take (i := 9) (v := ?_) rfl (by kernel_rfl) (by kernel_rfl) (by kernel_rfl) (fun _ _ _ h => h) (Or.inl ⟨by first | kernel_rfl | rfl, ?_⟩) (by assumption) ?_
      rotate_left
      · (intro w' hSw; (try dsimp only at hSw); go_simp; try with_reducible rfl)
      try simp only [Act.put]
      refine wpAnyH_take (i := 10) (v := ?_) rfl (by kernel_rfl) (by kernel_rfl) (by kernel_rfl) (fun _ _ _ h => h) (Or.inl ⟨by first | kernel_rfl | rfl, ?_⟩) (by assumption) ?_
      rotate_left
      · (intro w' hSw; (try dsimp only at hSw); go_simp; try with_reducible rfl)
      try simp only [Act.put]
      refine wpAnyH_take (i := 11) (v := ?_) rfl (by kernel_rfl) (by kernel_rfl) (by kernel_rfl) (fun _ _ _ h => h) (Or.inl ⟨by first | kernel_rfl | rfl, ?_⟩) (by assumption) ?_
      rotate_left
      · (intro w' hSw; (try dsimp only at hSw); go_simp; try with_reducible rfl)
      try simp only [Act.put]
      refine wpAnyH_take (i := 12) (v := ?_) rfl (by kernel_rfl) (by kernel_rfl) (by kernel_rfl) (fun _ _ _ h => h) (Or.inl ⟨by first | kernel_rfl | rfl, ?_⟩) (by assumption) ?_
      rotate_left
      · (intro w' hSw; (try dsimp only at hSw); go_simp; try with_reducible rfl)
      try simp only [Act.put]
      refine wpAnyH_take (i := 13) (v := ?_) rfl (by kernel_rfl) (by kernel_rfl) (by kernel_rfl) (fun _ _ _ h => h) (Or.inl ⟨by first | kernel_rfl | rfl, ?_⟩) (by assumption) ?_
      rotate_left
      · (intro w' hSw; (try dsimp only at hSw); go_simp; try with_reducible rfl)
      try simp only [Act.put]
      refine wpAnyH_take (i := 14) (v := ?_) rfl (by kernel_rfl) (by kernel_rfl) (by kernel_rfl) (fun _ _ _ h => h) (Or.inl ⟨by first | kernel_rfl | rfl, ?_⟩) (by assumption) ?_
      rotate_left
      · (intro w' hSw; (try dsimp only at hSw); go_simp; try with_reducible rfl)
      try simp only [Act.put]
      refine wpAnyH_take (i := 15) (v := ?_) rfl (by kernel_rfl) (by kernel_rfl) (by kernel_rfl) (fun _ _ _ h => h) (Or.inl ⟨by first | kernel_rfl | rfl, ?_⟩) (by assumption) ?_
      rotate_left
      · (intro w' hSw; (try dsimp only at hSw); go_simp; try with_reducible rfl)
      try simp only [Act.put]
      refine wpAnyH_take (i := 16) (v := ?_) rfl (by kernel_rfl) (by kernel_rfl) (by kernel_rfl) (fun _ _ _ h => h) (Or.inl ⟨by first | kernel_rfl | rfl, ?_⟩) (by assumption) ?_
      rotate_left
      · (intro w' hSw; (try dsimp only at hSw); go_simp; try with_reducible rfl)
      try simp only [Act.put]
      refine wpAnyH_take (i := 17) (v := ?_) rfl (by kernel_rfl) (by kernel_rfl) (by kernel_rfl) (fun _ _ _ h => h) (Or.inl ⟨by first | kernel_rfl | rfl, ?_⟩) (by assumption) ?_
      rotate_left
      · (intro w' hSw; (try dsimp only at hSw); go_simp; try with_reducible rfl)
      try simp only [Act.put]
      refine wpAnyH_take (i := 18) (v := ?_) rfl (by kernel_rfl) (by kernel_rfl) (by kernel_rfl) (fun _ _ _ h => h) (Or.inl ⟨by first | kernel_rfl | rfl, ?_⟩) (by assumption) ?_
      rotate_left
      · (intro w' hSw; (try dsimp only at hSw); go_simp; try with_reducible rfl)
      try simp only [Act.put]
      refine wpAnyH_take (i := 19) (v := ?_) rfl (by kernel_rfl) (by kernel_rfl) (by kernel_rfl) (fun _ _ _ h => h) (Or.inl ⟨by first | kernel_rfl | rfl, ?_⟩) (by assumption) ?_
      rotate_left
      · (intro w' hSw; (try dsimp only at hSw); go_simp; try with_reducible rfl)
      try simp only [Act.put]
      refine wpAnyH_take (i := 20) (v := ?_) rfl (by kernel_rfl) (by kernel_rfl) (by kernel_rfl) (fun _ _ _ h => h) (Or.inl ⟨by first | kernel_rfl | rfl, ?_⟩) (by assumption) ?_
      rotate_left
      · (intro w' hSw; (try dsimp only at hSw); go_simp; try with_reducible rfl)
      try simp only [Act.put]
      refine wpAnyH_ready (rs := [1, 21]) (by kernel_rfl) (by simp) ?_
      refine AllReadyH.cons rfl (fun K hK => ?_) (AllReadyH.cons rfl (fun K hK => ?_) AllReadyH.nil)
      · go_simp
        refine hK.out _ _ ⟨n1, g0, g1, g2⟩ (fun hHeld1 => ?_)
        clear hK K
        try simp only [Act.put]
        refine wpAnyH_ready (rs := [21]) (by kernel_rfl) (by simp) ?_
        refine AllReadyH.cons rfl (fun K hK => ?_) AllReadyH.nil
        go_simp
        refine hK.out _ _ ⟨qn, q0, q1, q2⟩ (fun hHeld2 => ?_)
        clear hK K
        try simp only [Act.put]
        refine wpAnyH_ready (rs := [22]) (by kernel_rfl) (by simp) ?_
        refine AllReadyH.cons rfl (fun K hK => ?_) AllReadyH.nil
        refine step_append_fresh _ (by rfl) _ _ _ (by rfl) w.heap.size 97 i0 _ 11 168 Tryz.underlying61 hi hz0 hz1 hz2 rfl (by omega) (.slice D k cap) k _ (by rfl) HO2.out (.slice (some ⟨wr.heap.size, 0, none⟩) 1 1) 1 (kc (nameM x)) (by rfl) HSN.out (kc_one _) (by unfold maxLen; omega) (by omega) HB2.out.size ?_
        intro A2 cap2 w5 hown5 hg5 hloc
        rw [← HE.out] at hown5
        have NM := nm_more Z2.out hg5 HBK.out HB2.out (by omega) hown5 (by first | exact hloc | (rw [hsz3]; exact hloc))
        have hk5 : ∀ g, g < w.heap.size + 1 + 1 → w5.heap[g]? = (wr.drew.alloc (.cells #[.string x.name, .int .i64 x.kind, .string x.frm, .string ⟨#[]⟩, .string ⟨#[]⟩, .string ⟨#[]⟩, .string ⟨#[]⟩, .string ⟨#[]⟩, .string ⟨#[]⟩, .string ⟨#[]⟩, .string ⟨#[]⟩] 97)).heap[g]? := fun g hg => hg5.block g (Nat.lt_of_lt_of_le (show g < wr.heap.size by omega) hn2.size) (fun e => by have := HBK.out g e.symm; omega)
        have r0 := (World.cell?_of_block (a := ⟨b, off + k * 31, none⟩) (hk5 b (by omega))).trans q0
        have r1 := (World.cell?_of_block (a := ⟨b, off + k * 31 + 1, none⟩) (hk5 b (by omega))).trans q1
        have r2 := (World.cell?_of_block (a := ⟨b, off + k * 31 + 2, none⟩) (hk5 b (by omega))).trans q2
        have rn := (World.cell?_of_block (a := ⟨w.heap.size, 1, none⟩) (hk5 w.heap.size (by omega))).trans qn
        refine hK.out _ _ ⟨rn, r0, r1, r2⟩ (fun hHeld3 => ?_)
        clear hK K
        try simp only [Act.put]
        refine wpAnyH_take (i := 23) (v := ?_) rfl (by kernel_rfl) (by kernel_rfl) (by kernel_rfl) (fun _ _ _ h => h) (Or.inl ⟨by first | kernel_rfl | rfl, ?_⟩) (by assumption) ?_
        rotate_left
        · (intro w' hSw; (try dsimp only at hSw); go_simp; try with_reducible rfl)
        try simp only [Act.put]
        refine wpAnyH_ready (rs := [24]) (by kernel_rfl) (by simp) ?_
        refine AllReadyH.cons rfl (fun K hK => ?_) AllReadyH.nil
        have c0 := NM.c0
        have f0 := NM.f0
        have t0 := (World.cell?_of_block (a := ⟨b, off + k * 31, none⟩) (NM.low b (by omega))).trans q0
        have t1 := (World.cell?_of_block (a := ⟨b, off + k * 31 + 1, none⟩) (NM.low b (by omega))).trans q1
        have t2 := (World.cell?_of_block (a := ⟨b, off + k * 31 + 2, none⟩) (NM.low b (by omega))).trans q2
        have tn := (World.cell?_of_block (a := ⟨w.heap.size, 1, none⟩) (NM.low w.heap.size (by omega))).trans qn
        go_simp
        refine hK.out _ _ ⟨tn, t0, t1, t2⟩ (fun hHeld4 => ?_)
        clear hK K
        try simp only [Act.put]
        refine wpAnyH_done (by kernel_rfl) ?_ _
        go_simp
        clear hHeld hHeld1 hHeld2 hHeld3 hHeld4
        have U0 := Lib.hid (Z0.out.kept (NM.low _ (by omega)))
        have U1 := Lib.hid (Z1.out.kept (NM.low _ (by omega)))
        have U2 := Lib.hid NM.box
        have HO5 := Lib.hid NM.own
        have HB5 := Lib.hid NM.below
        have hsz5 : w.heap.size + 3 ≤ (w5.setCell ⟨w.heap.size + 1 + 1, 0, none⟩ (.slice A2 (k + 1) cap2)).heap.size := by have := NM.size; omega
        have HBK5 := Lib.hid NM.hi
        clear hown5 hg5 hloc NM Z0 Z1 Z2 HO2 HB2 HBK HSN q0 q1 q2 qn r0 r1 r2 rn t0 t1 t2 tn c0 f0 hk5 hn2 n1 m0 mz mz2 g0 g1 g2 HX0 HX1 HX2 HO HB
        go_wp2
        go_roundw
        case rel => exact ⟨k + 1, A2, cap2, by omega, by go_num, U0, U1, U2, HO5, HB5, hsz5, HBK5⟩
        case measure => simp [RowKit.intOf]; omega
      · go_simp
        refine hK.out _ _ ⟨qn, q0, q1, q2⟩ (fun hHeld1 => ?_)
        clear hK K
        try simp only [Act.put]
        refine wpAnyH_ready (rs := [1]) (by kernel_rfl) (by simp) ?_
        refine AllReadyH.cons rfl (fun K hK => ?_) AllReadyH.nil
        go_simp
        refine hK.out _ _ ⟨qn, q0, q1, q2⟩ (fun hHeld2 => ?_)
        clear hK K
        try simp only [Act.put]
        refine wpAnyH_ready (rs := [22]) (by kernel_rfl) (by simp) ?_
        refine AllReadyH.cons rfl (fun K hK => ?_) AllReadyH.nil
        refine step_append_fresh _ (by rfl) _ _ _ (by rfl) w.heap.size 97 i0 _ 11 168 Tryz.underlying61 hi hz0 hz1 hz2 rfl (by omega) (.slice D k cap) k _ (by rfl) HO2.out (.slice (some ⟨wr.heap.size, 0, none⟩) 1 1) 1 (kc (nameM x)) (by rfl) HSN.out (kc_one _) (by unfold maxLen; omega) (by omega) HB2.out.size ?_
        intro A2 cap2 w5 hown5 hg5 hloc
        rw [← HE.out] at hown5
        have NM := nm_more Z2.out hg5 HBK.out HB2.out (by omega) hown5 (by first | exact hloc | (rw [hsz3]; exact hloc))
        have hk5 : ∀ g, g < w.heap.size + 1 + 1 → w5.heap[g]? = (wr.drew.alloc (.cells #[.string x.name, .int .i64 x.kind, .string x.frm, .string ⟨#[]⟩, .string ⟨#[]⟩, .string ⟨#[]⟩, .string ⟨#[]⟩, .string ⟨#[]⟩, .string ⟨#[]⟩, .string ⟨#[]⟩, .string ⟨#[]⟩] 97)).heap[g]? := fun g hg => hg5.block g (Nat.lt_of_lt_of_le (show g < wr.heap.size by omega) hn2.size) (fun e => by have := HBK.out g e.symm; omega)
        have r0 := (World.cell?_of_block (a := ⟨b, off + k * 31, none⟩) (hk5 b (by omega))).trans q0
        have r1 := (World.cell?_of_block (a := ⟨b, off + k * 31 + 1, none⟩) (hk5 b (by omega))).trans q1
        have r2 := (World.cell?_of_block (a := ⟨b, off + k * 31 + 2, none⟩) (hk5 b (by omega))).trans q2
        have rn := (World.cell?_of_block (a := ⟨w.heap.size, 1, none⟩) (hk5 w.heap.size (by omega))).trans qn
        refine hK.out _ _ ⟨rn, r0, r1, r2⟩ (fun hHeld3 => ?_)
        clear hK K
        try simp only [Act.put]
        refine wpAnyH_take (i := 23) (v := ?_) rfl (by kernel_rfl) (by kernel_rfl) (by kernel_rfl) (fun _ _ _ h => h) (Or.inl ⟨by first | kernel_rfl | rfl, ?_⟩) (by assumption) ?_
        rotate_left
        · (intro w' hSw; (try dsimp only at hSw); go_simp; try with_reducible rfl)
        try simp only [Act.put]
        refine wpAnyH_ready (rs := [24]) (by kernel_rfl) (by simp) ?_
        refine AllReadyH.cons rfl (fun K hK => ?_) AllReadyH.nil
        have c0 := NM.c0
        have f0 := NM.f0
        have t0 := (World.cell?_of_block (a := ⟨b, off + k * 31, none⟩) (NM.low b (by omega))).trans q0
        have t1 := (World.cell?_of_block (a := ⟨b, off + k * 31 + 1, none⟩) (NM.low b (by omega))).trans q1
        have t2 := (World.cell?_of_block (a := ⟨b, off + k * 31 + 2, none⟩) (NM.low b (by omega))).trans q2
        have tn := (World.cell?_of_block (a := ⟨w.heap.size, 1, none⟩) (NM.low w.heap.size (by omega))).trans qn
        go_simp
        refine hK.out _ _ ⟨tn, t0, t1, t2⟩ (fun hHeld4 => ?_)
        clear hK K
        try simp only [Act.put]
        refine wpAnyH_done (by kernel_rfl) ?_ _
        go_simp
        clear hHeld hHeld1 hHeld2 hHeld3 hHeld4
        have U0 := Lib.hid (Z0.out.kept (NM.low _ (by omega)))
        have U1 := Lib.hid (Z1.out.kept (NM.low _ (by omega)))
        have U2 := Lib.hid NM.box
        have HO5 := Lib.hid NM.own
        have HB5 := Lib.hid NM.below
        have hsz5 : w.heap.size + 3 ≤ (w5.setCell ⟨w.heap.size + 1 + 1, 0, none⟩ (.slice A2 (k + 1) cap2)).heap.size := by have := NM.size; omega
        have HBK5 := Lib.hid NM.hi
        clear hown5 hg5 hloc NM Z0 Z1 Z2 HO2 HB2 HBK HSN q0 q1 q2 qn r0 r1 r2 rn t0 t1 t2 tn c0 f0 hk5 hn2 n1 m0 mz mz2 g0 g1 g2 HX0 HX1 HX2 HO HB
        go_wp2
        go_roundw
        case rel => exact ⟨k + 1, A2, cap2, by omega, by go_num, U0, U1, U2, HO5, HB5, hsz5, HBK5⟩
        case measure => simp [RowKit.intOf]; omega
    case neg =>
      have hkn : k = n := by omega
      subst hkn
      have HT := Lib.hid (show sets.take k = sets from List.take_of_length_le (by rw [HL.out]; omega))
      have c1 := HX2.out.cell 0 rfl
      have c2 := HX1.out.cell 0 rfl
      have f2 := HX1.out.open_ 0
      have U := Lib.hid (HX1.out.set 0 (.slice D k cap))
      have HO5 := Lib.hid (own_kept HO.out (w' := wr.setCell ⟨w.heap.size + 1, 0, none⟩ (.slice D k cap)) (fun b e => Below.heap_setCell wr _ _ b (fun e2 => by have := HBK.out b e; simp only at e2; omega)))
      have HB5 := Lib.hid (HB.out.setCell (p := ⟨w.heap.size + 1, 0, none⟩) (by simp) (.slice D k cap))
      clear HO HB HX1 HX2
      go_wp2
      refine bodyPost_ret (v := .agg #[.slice D k cap]) (results_box rfl _ (w.heap.size + 1) [.slice D k cap] aggBookD rfl rfl U.out) rfl ?_
      refine ⟨_, rfl, ?_, HB5.out⟩
      have h0 := HO5.out
      rw [HT.out] at h0
      rw [HL.out]
      exact h0
end Go.Proofs.YtojjenclcidnkaaGreatDoor

/-
  The document's l6Sums and l6Names.
-/
set_option maxRecDepth 100000
namespace Go.Proofs.YtojjenclcidnkaaGreatDoor
open Go.ChangeShapes Go.WideShapes Go.ChangeAt Go.RowKit Go.Proofs.Palim

/-- A pointer is told by a table. -/
def ToldP (E : List EntM) (p : PtrM) : Prop := 0 < p.at_ → ∃ e, findE E p.at_ = some e ∧ e.sum = p.sum

set_option maxHeartbeats 8000000 in
theorem specSums_any (vs vd vp vi : Value) (c : CoreM) (w : World) (h : CoreR w vs vd vp vi c) (hs : CoreShort c) (hdok : DdtOkM c.ddt) :
    Calls Tryz.prog 95 #[cv c vs vd vp vi] w fun e w' => e = .returned (.bool (decide (SumsM c))) ∧ Below w.heap.size w w' := by
  obtain ⟨ok, HOK⟩ : ∃ ok, Hid (decide (SumsM c) = ok) := ⟨_, Lib.hid rfl⟩
  rw [HOK.out]
  obtain ⟨txg, sets, ddt, parts, dirty, safe, logn⟩ := c
  obtain ⟨A0, k0, A1, k1, A2, k2, A3, k3, e0, e1, e2, e3⟩ := h.forms
  dsimp only at e0 e1 e2 e3
  subst e0 e1 e2 e3
  have HRR := Lib.hid h
  have HS := Lib.hid h.s
  have HLS := Lib.hid h.ls
  have HD := Lib.hid h.d
  have HLD := Lib.hid h.ld
  obtain ⟨n, HL⟩ : ∃ n, Hid (sets.length = n) := ⟨_, Lib.hid rfl⟩
  obtain ⟨nd, HLDT⟩ : ∃ nd, Hid (ddt.length = nd) := ⟨_, Lib.hid rfl⟩
  have hln : n ≤ 1048576 := HL.out ▸ hs.s
  have hck := h.s.le
  clear h hs
  dsimp only at HS HLS HD HLD hck
  rw [HL.out] at HS HLS hck
  rw [HLDT.out] at HD HLD
  unfold maxLen at hck
  have XC := Lib.hid (show Box _ w.heap.size [.int .i64 txg, .slice A0 n k0, .slice A1 nd k1, .slice A2 parts.length k2, .bool dirty, .slice A3 safe.length k3, .int .i64 logn] from box_new w #[.int .i64 txg, .slice A0 n k0, .slice A1 nd k1, .slice A2 parts.length k2, .bool dirty, .slice A3 safe.length k3, .int .i64 logn] 45)
  have B0 := Lib.hid (Below.new1 (w := w) (.cells #[.int .i64 txg, .slice A0 n k0, .slice A1 nd k1, .slice A2 parts.length k2, .bool dirty, .slice A3 safe.length k3, .int .i64 logn] 45))
  have HDG := Lib.hid (show GoodE ddt ddt.length from hdok.2)
  have HFIN := Lib.hid (show (∀ (i : Nat) (h : i < sets.length), i < n → ∀ p ∈ sets[i].map, ToldP ddt p) → true = ok from fun hg => HOK.out ▸ (decide_eq_true (show SumsM _ from fun p hp hpa => by
    obtain ⟨x, hx, hpx⟩ := List.mem_flatMap.1 hp
    obtain ⟨i, hi, rfl⟩ := List.mem_iff_getElem.1 hx
    exact hg i hi (by have := HL.out; simp only at hi; omega) p hpx hpa)).symm)
  have HBAD := Lib.hid (show ∀ (i : Nat) (h : i < sets.length) (p : PtrM), p ∈ sets[i].map → ¬ ToldP ddt p → false = ok from fun i hi p hp hb => HOK.out ▸ (decide_eq_false (fun c : SumsM ⟨txg, sets, ddt, parts, dirty, safe, logn⟩ => hb (fun hpa => c p (List.mem_flatMap.2 ⟨sets[i], List.getElem_mem hi, hp⟩) hpa))).symm)
  clear hdok
  go_enter Tryz.func95, Tryz.ntmps95
  go_upto_region 1 with fail
  rw [HL.out, HLDT.out]
  obtain ⟨W0, HWE⟩ : ∃ W0, w.alloc (.cells #[.int .i64 txg, .slice A0 n k0, .slice A1 nd k1, .slice A2 parts.length k2, .bool dirty, .slice A3 safe.length k3, .int .i64 logn] 45) = W0 := ⟨_, rfl⟩
  rw [HWE] at XC B0 ⊢
  clear HWE
  have n1 := XC.out.cell 1 rfl
  have HD0 := Lib.hid (HD.out.below B0.out HLD.out)
  have HS0 := Lib.hid (HS.out.below B0.out HLS.out)
  have hlW := XC.out.lt
  go_wp2
  clear n1
  go_loopw [3, 4] (fun i _ wr => ∃ (k : Nat), k ≤ n ∧ i = .int .i64 k ∧ Hid (Below W0.heap.size W0 wr) ∧ Hid (∀ (i : Nat) (h : i < sets.length), i < k → ∀ p ∈ sets[i].map, ToldP ddt p)) (fun i _ _ => n - (RowKit.intOf i).toNat)
  case atStart => exact ⟨0, Nat.zero_le _, rfl, Lib.hid (Below.refl _ _), Lib.hid (fun j _ h => absurd h (Nat.not_lt_zero _))⟩
  case round =>
    obtain ⟨k, hk, rfl, HB, HG⟩ := hrel
    have n1 := (XC.out.below HB.out hlW).cell 1 rfl
    by_cases hlt : k < n
    case pos =>
      have hl0 : k < sets.length := by rw [HL.out]; exact hlt
      have hk1 : (k : Int) < (n : Int) := by omega
      go_wp2
      go_loopw [4, 5, 6, 7] (fun i _ _ _ wr => ∃ (j : Nat), j ≤ 8 ∧ i = .int .i64 j ∧ Hid (Below W0.heap.size W0 wr) ∧ Hid (∀ (i : Nat) (h : i < sets[k].map.length), i < j → ToldP ddt sets[k].map[i])) (fun i _ _ _ _ => 8 - (RowKit.intOf i).toNat)
      case atStart => exact ⟨0, Nat.zero_le _, rfl, HB, Lib.hid (fun j _ h => absurd h (Nat.not_lt_zero _))⟩
      case round =>
        clear HB n1
        obtain ⟨j, hj, rfl, HB, HJ⟩ := hrel
        have n1 := (XC.out.below HB.out hlW).cell 1 rfl
        by_cases hj8 : j < 8
        case pos =>
          have hjl : j < sets[k].map.length := by rw [sets[k].h8]; exact hj8
          obtain ⟨b, off, c', hvv, _, _, hcell⟩ := (HS0.out.below HB.out (fun b e => Nat.lt_of_lt_of_le (HLS.out b e) B0.out.size)).form (by omega)
          injection hvv with e1 e2 e3
          subst e1 e3
          clear e2
          obtain ⟨g0, g1, g2⟩ := pt_read hcell k hl0 j hjl
          have hj1 : (j : Int) < 8 := by omega
          have HBS := Lib.hid (show ¬ ToldP ddt sets[k].map[j] → false = ok from fun h => HBAD.out k hl0 _ (List.getElem_mem hjl) h)
          have HGS := Lib.hid (show ToldP ddt sets[k].map[j] → ∀ (i : Nat) (h : i < sets[k].map.length), i < j + 1 → ToldP ddt sets[k].map[i] from fun hg i hi hik => by
            by_cases e : i = j
            · subst e; exact hg
            · exact HJ.out i hi (by omega))
          generalize sets[k].map[j] = y at g0 g1 g2 HBS HGS
          have hn1 := Below.new1 (w := wr) (.cells #[.int .i64 y.at_, .int .i64 y.sum, .int .i64 y.birth] 67)
          have HXP := Lib.hid (box_new wr #[.int .i64 y.at_, .int .i64 y.sum, .int .i64 y.birth] 67)
          have HB1 := Lib.hid (HB.out.trans (hn1.mono HB.out.size))
          have n2 := (XC.out.below HB1.out hlW).cell 2 rfl
          have HD1 := Lib.hid (HD0.out.below HB1.out (fun b e => Nat.lt_of_lt_of_le (HLD.out b e) B0.out.size))
          have HLD1 := Lib.hid (fun b e => Nat.lt_of_lt_of_le (HLD.out b e) (Nat.le_trans B0.out.size HB1.out.size))
          clear hcell hn1 HJ
          go_wp2_with fail
          refine (l5At_any _ ddt y.at_ _ (by rw [HLDT.out]; exact HD1.out) HLD1.out).mono ?_
          rintro e w3 ⟨kk, rr, rfl, hat, hth, hb⟩
          have HAT := Lib.hid hat
          have HTH := Lib.hid hth
          obtain ⟨p0, p1, -⟩ := (HXP.out.below hb HXP.out.lt).three
          have HB3 := Lib.hid (HB1.out.trans (hb.mono HB1.out.size))
          have HD3 := Lib.hid (HD1.out.below hb HLD1.out)
          have n2 := (XC.out.below HB3.out hlW).cell 2 rfl
          clear hat hth hb HXP HB HB1 g0 g1 g2 HD1
          by_cases hy : 0 < y.at_
          case neg =>
            have HG1 := Lib.hid (HGS.out (fun h => absurd h hy))
            have hy2 : ¬ y.at_ > 0 := hy
            have hy3 : decide (y.at_ > 0) = false := decide_eq_false hy
            have hy4 : decide (0 < y.at_) = false := decide_eq_false hy
            clear HBS HGS HAT HTH
            go_wp2_with fail
            refine wp_region_held_drew (S := fun w' => w'.cell? ⟨wr.heap.size, 0, none⟩ = some (.int .i64 y.at_) ∧ w'.cell? ⟨wr.heap.size, 1, none⟩ = some (.int .i64 y.sum) ∧ w'.cell? ⟨w.heap.size, 2, none⟩ = some (.slice A1 nd k1)) (by kernel_rfl) ⟨p0, p1, n2⟩ (fun hHeld => ?_)
            refine wpAnyH_take (i := 0) (v := ?_) rfl (by kernel_rfl) (by kernel_rfl) (by kernel_rfl) (fun _ _ _ h => h) (Or.inl ⟨by first | kernel_rfl | rfl, ?_⟩) (by assumption) ?_
            rotate_left
            · (intro w' hSw; (try dsimp only at hSw); go_simp; try with_reducible rfl)
            try simp only [Act.put]
            refine wpAnyH_take (i := 1) (v := ?_) rfl (by kernel_rfl) (by kernel_rfl) (by kernel_rfl) (fun _ _ _ h => h) (Or.inl ⟨by first | kernel_rfl | rfl, ?_⟩) (by assumption) ?_
            rotate_left
            · (intro w' hSw; (try dsimp only at hSw); go_simp; try with_reducible rfl)
            try simp only [Act.put]
            refine wpAnyH_take (i := 2) (v := ?_) rfl (by kernel_rfl) (by kernel_rfl) (by kernel_rfl) (fun _ _ _ h => h) (Or.inl ⟨by first | kernel_rfl | rfl, ?_⟩) (by assumption) ?_
            rotate_left
            · (intro w' hSw; (try dsimp only at hSw); go_simp; try with_reducible rfl)
            try simp only [Act.put]
            refine wpAnyH_take (i := 3) (v := ?_) rfl (by kernel_rfl) (by kernel_rfl) (by kernel_rfl) (fun _ _ _ h => h) (Or.inl ⟨by first | kernel_rfl | rfl, ?_⟩) (by assumption) ?_
            rotate_left
            · (intro w' hSw; (try dsimp only at hSw); go_simp; try with_reducible rfl)
            try simp only [Act.put]
            refine wpAnyH_take (i := 4) (v := undef) rfl (by kernel_rfl) (by kernel_rfl) (by kernel_rfl) (fun _ _ _ h => h) (Or.inr ⟨by kernel_rfl, rfl⟩) (by assumption) ?_
            try simp only [Act.put]
            refine wpAnyH_take (i := 5) (v := undef) rfl (by kernel_rfl) (by kernel_rfl) (by kernel_rfl) (fun _ _ _ h => h) (Or.inr ⟨by kernel_rfl, rfl⟩) (by assumption) ?_
            try simp only [Act.put]
            refine wpAnyH_take (i := 6) (v := undef) rfl (by kernel_rfl) (by kernel_rfl) (by kernel_rfl) (fun _ _ _ h => h) (Or.inr ⟨by kernel_rfl, rfl⟩) (by assumption) ?_
            try simp only [Act.put]
            refine wpAnyH_take (i := 7) (v := undef) rfl (by kernel_rfl) (by kernel_rfl) (by kernel_rfl) (fun _ _ _ h => h) (Or.inr ⟨by kernel_rfl, rfl⟩) (by assumption) ?_
            try simp only [Act.put]
            refine wpAnyH_take (i := 8) (v := undef) rfl (by kernel_rfl) (by kernel_rfl) (by kernel_rfl) (fun _ _ _ h => h) (Or.inr ⟨by kernel_rfl, rfl⟩) (by assumption) ?_
            try simp only [Act.put]
            refine wpAnyH_take (i := 9) (v := undef) rfl (by kernel_rfl) (by kernel_rfl) (by kernel_rfl) (fun _ _ _ h => h) (Or.inr ⟨by kernel_rfl, rfl⟩) (by assumption) ?_
            try simp only [Act.put]
            refine wpAnyH_take (i := 10) (v := undef) rfl (by kernel_rfl) (by kernel_rfl) (by kernel_rfl) (fun _ _ _ h => h) (Or.inr ⟨by kernel_rfl, rfl⟩) (by assumption) ?_
            try simp only [Act.put]
            refine wpAnyH_take (i := 11) (v := undef) rfl (by kernel_rfl) (by kernel_rfl) (by kernel_rfl) (fun _ _ _ h => h) (Or.inr ⟨by kernel_rfl, rfl⟩) (by assumption) ?_
            try simp only [Act.put]
            refine wpAnyH_take (i := 12) (v := undef) rfl (by kernel_rfl) (by kernel_rfl) (by kernel_rfl) (fun _ _ _ h => h) (Or.inr ⟨by kernel_rfl, rfl⟩) (by assumption) ?_
            try simp only [Act.put]
            refine wpAnyH_take (i := 13) (v := undef) rfl (by kernel_rfl) (by kernel_rfl) (by kernel_rfl) (fun _ _ _ h => h) (Or.inr ⟨by kernel_rfl, rfl⟩) (by assumption) ?_
            try simp only [Act.put]
            refine wpAnyH_take (i := 14) (v := undef) rfl (by kernel_rfl) (by kernel_rfl) (by kernel_rfl) (fun _ _ _ h => h) (Or.inr ⟨by kernel_rfl, rfl⟩) (by assumption) ?_
            try simp only [Act.put]
            refine wpAnyH_take (i := 15) (v := undef) rfl (by kernel_rfl) (by kernel_rfl) (by kernel_rfl) (fun _ _ _ h => h) (Or.inr ⟨by kernel_rfl, rfl⟩) (by assumption) ?_
            try simp only [Act.put]
            refine wpAnyH_take (i := 16) (v := undef) rfl (by kernel_rfl) (by kernel_rfl) (by kernel_rfl) (fun _ _ _ h => h) (Or.inr ⟨by kernel_rfl, rfl⟩) (by assumption) ?_
            try simp only [Act.put]
            refine wpAnyH_take (i := 17) (v := ?_) rfl (by kernel_rfl) (by kernel_rfl) (by kernel_rfl) (fun _ _ _ h => h) (Or.inl ⟨by first | kernel_rfl | rfl, ?_⟩) (by assumption) ?_
            rotate_left
            · (intro w' hSw; (try dsimp only at hSw); go_simp; try with_reducible rfl)
            try simp only [Act.put]
            refine wpAnyH_done (by kernel_rfl) ?_ _
            go_simp
            clear hHeld
            have HB4 := Lib.hid HB3.out.drew
            clear HB3 p0 p1 n2
            go_wp2
            go_roundw
            case rel => exact ⟨j + 1, by omega, by go_num, HB4, HG1⟩
            case measure => simp [RowKit.intOf]; omega
          case pos =>
            have hy2 : y.at_ > 0 := hy
            have hy3 : decide (y.at_ > 0) = true := decide_eq_true hy
            have hy4 : decide (0 < y.at_) = true := decide_eq_true hy
            cases rr with
            | false =>
              have HF := Lib.hid (HBS.out (fun c => by
                obtain ⟨e, he, _⟩ := c hy
                rw [find_none (at_none HDG.out HAT.out (fun h => by have := HTH.out.2 h; cases this))] at he
                cases he))
              clear HBS HGS HAT HTH
              go_wp2_with fail
              refine wp_region_held_drew (S := fun w' => w'.cell? ⟨wr.heap.size, 0, none⟩ = some (.int .i64 y.at_) ∧ w'.cell? ⟨wr.heap.size, 1, none⟩ = some (.int .i64 y.sum) ∧ w'.cell? ⟨w.heap.size, 2, none⟩ = some (.slice A1 nd k1)) (by kernel_rfl) ⟨p0, p1, n2⟩ (fun hHeld => ?_)
              refine wpAnyH_take (i := 0) (v := ?_) rfl (by kernel_rfl) (by kernel_rfl) (by kernel_rfl) (fun _ _ _ h => h) (Or.inl ⟨by first | kernel_rfl | rfl, ?_⟩) (by assumption) ?_
              rotate_left
              · (intro w' hSw; (try dsimp only at hSw); go_simp; try with_reducible rfl)
              try simp only [Act.put]
              refine wpAnyH_take (i := 1) (v := ?_) rfl (by kernel_rfl) (by kernel_rfl) (by kernel_rfl) (fun _ _ _ h => h) (Or.inl ⟨by first | kernel_rfl | rfl, ?_⟩) (by assumption) ?_
              rotate_left
              · (intro w' hSw; (try dsimp only at hSw); go_simp; try with_reducible rfl)
              try simp only [Act.put]
              refine wpAnyH_take (i := 2) (v := ?_) rfl (by kernel_rfl) (by kernel_rfl) (by kernel_rfl) (fun _ _ _ h => h) (Or.inl ⟨by first | kernel_rfl | rfl, ?_⟩) (by assumption) ?_
              rotate_left
              · (intro w' hSw; (try dsimp only at hSw); go_simp; try with_reducible rfl)
              try simp only [Act.put]
              refine wpAnyH_take (i := 3) (v := ?_) rfl (by kernel_rfl) (by kernel_rfl) (by kernel_rfl) (fun _ _ _ h => h) (Or.inl ⟨by first | kernel_rfl | rfl, ?_⟩) (by assumption) ?_
              rotate_left
              · (intro w' hSw; (try dsimp only at hSw); go_simp; try with_reducible rfl)
              try simp only [Act.put]
              refine wpAnyH_take (i := 4) (v := ?_) rfl (by kernel_rfl) (by kernel_rfl) (by kernel_rfl) (fun _ _ _ h => h) (Or.inl ⟨by first | kernel_rfl | rfl, ?_⟩) (by assumption) ?_
              rotate_left
              · (intro w' hSw; (try dsimp only at hSw); go_simp; try with_reducible rfl)
              try simp only [Act.put]
              refine wpAnyH_take (i := 5) (v := ?_) rfl (by kernel_rfl) (by kernel_rfl) (by kernel_rfl) (fun _ _ _ h => h) (Or.inl ⟨by first | kernel_rfl | rfl, ?_⟩) (by assumption) ?_
              rotate_left
              · (intro w' hSw; (try dsimp only at hSw); go_simp; try with_reducible rfl)
              try simp only [Act.put]
              refine wpAnyH_take (i := 6) (v := ?_) rfl (by kernel_rfl) (by kernel_rfl) (by kernel_rfl) (fun _ _ _ h => h) (Or.inl ⟨by first | kernel_rfl | rfl, ?_⟩) (by assumption) ?_
              rotate_left
              · (intro w' hSw; (try dsimp only at hSw); go_simp; try with_reducible rfl)
              try simp only [Act.put]
              refine wpAnyH_take (i := 7) (v := undef) rfl (by kernel_rfl) (by kernel_rfl) (by kernel_rfl) (fun _ _ _ h => h) (Or.inr ⟨by kernel_rfl, rfl⟩) (by assumption) ?_
              try simp only [Act.put]
              refine wpAnyH_take (i := 8) (v := undef) rfl (by kernel_rfl) (by kernel_rfl) (by kernel_rfl) (fun _ _ _ h => h) (Or.inr ⟨by kernel_rfl, rfl⟩) (by assumption) ?_
              try simp only [Act.put]
              refine wpAnyH_take (i := 9) (v := undef) rfl (by kernel_rfl) (by kernel_rfl) (by kernel_rfl) (fun _ _ _ h => h) (Or.inr ⟨by kernel_rfl, rfl⟩) (by assumption) ?_
              try simp only [Act.put]
              refine wpAnyH_take (i := 10) (v := undef) rfl (by kernel_rfl) (by kernel_rfl) (by kernel_rfl) (fun _ _ _ h => h) (Or.inr ⟨by kernel_rfl, rfl⟩) (by assumption) ?_
              try simp only [Act.put]
              refine wpAnyH_take (i := 11) (v := undef) rfl (by kernel_rfl) (by kernel_rfl) (by kernel_rfl) (fun _ _ _ h => h) (Or.inr ⟨by kernel_rfl, rfl⟩) (by assumption) ?_
              try simp only [Act.put]
              refine wpAnyH_take (i := 12) (v := undef) rfl (by kernel_rfl) (by kernel_rfl) (by kernel_rfl) (fun _ _ _ h => h) (Or.inr ⟨by kernel_rfl, rfl⟩) (by assumption) ?_
              try simp only [Act.put]
              refine wpAnyH_take (i := 13) (v := undef) rfl (by kernel_rfl) (by kernel_rfl) (by kernel_rfl) (fun _ _ _ h => h) (Or.inr ⟨by kernel_rfl, rfl⟩) (by assumption) ?_
              try simp only [Act.put]
              refine wpAnyH_take (i := 14) (v := undef) rfl (by kernel_rfl) (by kernel_rfl) (by kernel_rfl) (fun _ _ _ h => h) (Or.inr ⟨by kernel_rfl, rfl⟩) (by assumption) ?_
              try simp only [Act.put]
              refine wpAnyH_take (i := 15) (v := undef) rfl (by kernel_rfl) (by kernel_rfl) (by kernel_rfl) (fun _ _ _ h => h) (Or.inr ⟨by kernel_rfl, rfl⟩) (by assumption) ?_
              try simp only [Act.put]
              refine wpAnyH_take (i := 16) (v := ?_) rfl (by kernel_rfl) (by kernel_rfl) (by kernel_rfl) (fun _ _ _ h => h) (Or.inl ⟨by first | kernel_rfl | rfl, ?_⟩) (by assumption) ?_
              rotate_left
              · (intro w' hSw; (try dsimp only at hSw); go_simp; try with_reducible rfl)
              try simp only [Act.put]
              refine wpAnyH_take (i := 17) (v := ?_) rfl (by kernel_rfl) (by kernel_rfl) (by kernel_rfl) (fun _ _ _ h => h) (Or.inl ⟨by first | kernel_rfl | rfl, ?_⟩) (by assumption) ?_
              rotate_left
              · (intro w' hSw; (try dsimp only at hSw); go_simp; try with_reducible rfl)
              try simp only [Act.put]
              refine wpAnyH_done (by kernel_rfl) ?_ _
              go_simp
              clear hHeld
              have HB4 := Lib.hid HB3.out.drew
              clear HB3 p0 p1 n2
              go_wp2
              go_ret
              exact ⟨ret_boolB HF.out, B0.out.trans (HB4.out.mono B0.out.size)⟩
            | true =>
              obtain ⟨hkk, hf⟩ := at_there HAT.out (HTH.out.1 rfl)
              have hkn : kk < nd := by rw [← HLDT.out]; exact hkk
              have hkn' : (kk : Int) < (nd : Int) := by omega
              obtain ⟨bd, od, cd, hvd, _, _, hdc⟩ := HD3.out.form (by omega)
              injection hvd with e1 e2 e3
              subst e1 e3
              clear e2
              obtain ⟨q0, -, -⟩ := ent_read hdc kk hkk
              have HTT := Lib.hid (show ToldP ddt y ↔ ddt[kk].sum = y.sum from ⟨fun c => by obtain ⟨e, he, hse⟩ := c hy; rw [hf] at he; rw [Option.some.inj he]; exact hse, fun h _ => ⟨_, hf, h⟩⟩)
              generalize ddt[kk].sum = es at q0 HTT
              clear hf hdc hkk HAT HTH
              by_cases hes : es = y.sum
              case neg =>
                have HF := Lib.hid (HBS.out (fun c => hes (HTT.out.1 c)))
                have hq1 : (es != y.sum) = true := by simpa using hes
                have hq2 : (es == y.sum) = false := by simpa using hes
                have hq3 : decide (es = y.sum) = false := by simpa using hes
                clear HBS HGS hes HTT
                go_wp2_with fail
                refine wp_region_held_drew (S := fun w' => w'.cell? ⟨wr.heap.size, 0, none⟩ = some (.int .i64 y.at_) ∧ w'.cell? ⟨wr.heap.size, 1, none⟩ = some (.int .i64 y.sum) ∧ w'.cell? ⟨w.heap.size, 2, none⟩ = some (.slice (some ⟨bd, od, none⟩) nd k1) ∧ w'.cell? ⟨bd, od + kk * 3, none⟩ = some (.int .i64 es)) (by kernel_rfl) ⟨p0, p1, n2, q0⟩ (fun hHeld => ?_)
                refine wpAnyH_take (i := 0) (v := ?_) rfl (by kernel_rfl) (by kernel_rfl) (by kernel_rfl) (fun _ _ _ h => h) (Or.inl ⟨by first | kernel_rfl | rfl, ?_⟩) (by assumption) ?_
                rotate_left
                · (intro w' hSw; (try dsimp only at hSw); go_simp; try with_reducible rfl)
                try simp only [Act.put]
                refine wpAnyH_take (i := 1) (v := ?_) rfl (by kernel_rfl) (by kernel_rfl) (by kernel_rfl) (fun _ _ _ h => h) (Or.inl ⟨by first | kernel_rfl | rfl, ?_⟩) (by assumption) ?_
                rotate_left
                · (intro w' hSw; (try dsimp only at hSw); go_simp; try with_reducible rfl)
                try simp only [Act.put]
                refine wpAnyH_take (i := 2) (v := ?_) rfl (by kernel_rfl) (by kernel_rfl) (by kernel_rfl) (fun _ _ _ h => h) (Or.inl ⟨by first | kernel_rfl | rfl, ?_⟩) (by assumption) ?_
                rotate_left
                · (intro w' hSw; (try dsimp only at hSw); go_simp; try with_reducible rfl)
                try simp only [Act.put]
                refine wpAnyH_take (i := 3) (v := ?_) rfl (by kernel_rfl) (by kernel_rfl) (by kernel_rfl) (fun _ _ _ h => h) (Or.inl ⟨by first | kernel_rfl | rfl, ?_⟩) (by assumption) ?_
                rotate_left
                · (intro w' hSw; (try dsimp only at hSw); go_simp; try with_reducible rfl)
                try simp only [Act.put]
                refine wpAnyH_take (i := 4) (v := ?_) rfl (by kernel_rfl) (by kernel_rfl) (by kernel_rfl) (fun _ _ _ h => h) (Or.inl ⟨by first | kernel_rfl | rfl, ?_⟩) (by assumption) ?_
                rotate_left
                · (intro w' hSw; (try dsimp only at hSw); go_simp; try with_reducible rfl)
                try simp only [Act.put]
                refine wpAnyH_take (i := 5) (v := ?_) rfl (by kernel_rfl) (by kernel_rfl) (by kernel_rfl) (fun _ _ _ h => h) (Or.inl ⟨by first | kernel_rfl | rfl, ?_⟩) (by assumption) ?_
                rotate_left
                · (intro w' hSw; (try dsimp only at hSw); go_simp; try with_reducible rfl)
                try simp only [Act.put]
                refine wpAnyH_take (i := 6) (v := ?_) rfl (by kernel_rfl) (by kernel_rfl) (by kernel_rfl) (fun _ _ _ h => h) (Or.inl ⟨by first | kernel_rfl | rfl, ?_⟩) (by assumption) ?_
                rotate_left
                · (intro w' hSw; (try dsimp only at hSw); go_simp; try with_reducible rfl)
                try simp only [Act.put]
                refine wpAnyH_take (i := 7) (v := ?_) rfl (by kernel_rfl) (by kernel_rfl) (by kernel_rfl) (fun _ _ _ h => h) (Or.inl ⟨by first | kernel_rfl | rfl, ?_⟩) (by assumption) ?_
                rotate_left
                · (intro w' hSw; (try dsimp only at hSw); go_simp; try with_reducible rfl)
                try simp only [Act.put]
                refine wpAnyH_take (i := 8) (v := ?_) rfl (by kernel_rfl) (by kernel_rfl) (by kernel_rfl) (fun _ _ _ h => h) (Or.inl ⟨by first | kernel_rfl | rfl, ?_⟩) (by assumption) ?_
                rotate_left
                · (intro w' hSw; (try dsimp only at hSw); go_simp; try with_reducible rfl)
                try simp only [Act.put]
                refine wpAnyH_take (i := 9) (v := ?_) rfl (by kernel_rfl) (by kernel_rfl) (by kernel_rfl) (fun _ _ _ h => h) (Or.inl ⟨by first | kernel_rfl | rfl, ?_⟩) (by assumption) ?_
                rotate_left
                · (intro w' hSw; (try dsimp only at hSw); go_simp; try with_reducible rfl)
                try simp only [Act.put]
                refine wpAnyH_take (i := 10) (v := ?_) rfl (by kernel_rfl) (by kernel_rfl) (by kernel_rfl) (fun _ _ _ h => h) (Or.inl ⟨by first | kernel_rfl | rfl, ?_⟩) (by assumption) ?_
                rotate_left
                · (intro w' hSw; (try dsimp only at hSw); go_simp; try with_reducible rfl)
                try simp only [Act.put]
                refine wpAnyH_take (i := 11) (v := ?_) rfl (by kernel_rfl) (by kernel_rfl) (by kernel_rfl) (fun _ _ _ h => h) (Or.inl ⟨by first | kernel_rfl | rfl, ?_⟩) (by assumption) ?_
                rotate_left
                · (intro w' hSw; (try dsimp only at hSw); go_simp; try with_reducible rfl)
                try simp only [Act.put]
                refine wpAnyH_take (i := 12) (v := ?_) rfl (by kernel_rfl) (by kernel_rfl) (by kernel_rfl) (fun _ _ _ h => h) (Or.inl ⟨by first | kernel_rfl | rfl, ?_⟩) (by assumption) ?_
                rotate_left
                · (intro w' hSw; (try dsimp only at hSw); go_simp; try with_reducible rfl)
                try simp only [Act.put]
                refine wpAnyH_take (i := 13) (v := ?_) rfl (by kernel_rfl) (by kernel_rfl) (by kernel_rfl) (fun _ _ _ h => h) (Or.inl ⟨by first | kernel_rfl | rfl, ?_⟩) (by assumption) ?_
                rotate_left
                · (intro w' hSw; (try dsimp only at hSw); go_simp; try with_reducible rfl)
                try simp only [Act.put]
                refine wpAnyH_take (i := 14) (v := ?_) rfl (by kernel_rfl) (by kernel_rfl) (by kernel_rfl) (fun _ _ _ h => h) (Or.inl ⟨by first | kernel_rfl | rfl, ?_⟩) (by assumption) ?_
                rotate_left
                · (intro w' hSw; (try dsimp only at hSw); go_simp; try with_reducible rfl)
                try simp only [Act.put]
                refine wpAnyH_take (i := 15) (v := ?_) rfl (by kernel_rfl) (by kernel_rfl) (by kernel_rfl) (fun _ _ _ h => h) (Or.inl ⟨by first | kernel_rfl | rfl, ?_⟩) (by assumption) ?_
                rotate_left
                · (intro w' hSw; (try dsimp only at hSw); go_simp; try with_reducible rfl)
                try simp only [Act.put]
                refine wpAnyH_take (i := 16) (v := ?_) rfl (by kernel_rfl) (by kernel_rfl) (by kernel_rfl) (fun _ _ _ h => h) (Or.inl ⟨by first | kernel_rfl | rfl, ?_⟩) (by assumption) ?_
                rotate_left
                · (intro w' hSw; (try dsimp only at hSw); go_simp; try with_reducible rfl)
                try simp only [Act.put]
                refine wpAnyH_take (i := 17) (v := ?_) rfl (by kernel_rfl) (by kernel_rfl) (by kernel_rfl) (fun _ _ _ h => h) (Or.inl ⟨by first | kernel_rfl | rfl, ?_⟩) (by assumption) ?_
                rotate_left
                · (intro w' hSw; (try dsimp only at hSw); go_simp; try with_reducible rfl)
                try simp only [Act.put]
                refine wpAnyH_done (by kernel_rfl) ?_ _
                go_simp
                clear hHeld
                have HB4 := Lib.hid HB3.out.drew
                clear HB3 p0 p1 n2 q0
                go_wp2
                go_ret
                exact ⟨ret_boolB HF.out, B0.out.trans (HB4.out.mono B0.out.size)⟩
              case pos =>
                have HG1 := Lib.hid (HGS.out (HTT.out.2 hes))
                have hq1 : (es != y.sum) = false := by simpa using hes
                have hq2 : (es == y.sum) = true := by simpa using hes
                have hq3 : decide (es = y.sum) = true := by simpa using hes
                clear HBS HGS hes HTT
                go_wp2_with fail
                refine wp_region_held_drew (S := fun w' => w'.cell? ⟨wr.heap.size, 0, none⟩ = some (.int .i64 y.at_) ∧ w'.cell? ⟨wr.heap.size, 1, none⟩ = some (.int .i64 y.sum) ∧ w'.cell? ⟨w.heap.size, 2, none⟩ = some (.slice (some ⟨bd, od, none⟩) nd k1) ∧ w'.cell? ⟨bd, od + kk * 3, none⟩ = some (.int .i64 es)) (by kernel_rfl) ⟨p0, p1, n2, q0⟩ (fun hHeld => ?_)
                refine wpAnyH_take (i := 0) (v := ?_) rfl (by kernel_rfl) (by kernel_rfl) (by kernel_rfl) (fun _ _ _ h => h) (Or.inl ⟨by first | kernel_rfl | rfl, ?_⟩) (by assumption) ?_
                rotate_left
                · (intro w' hSw; (try dsimp only at hSw); go_simp; try with_reducible rfl)
                try simp only [Act.put]
                refine wpAnyH_take (i := 1) (v := ?_) rfl (by kernel_rfl) (by kernel_rfl) (by kernel_rfl) (fun _ _ _ h => h) (Or.inl ⟨by first | kernel_rfl | rfl, ?_⟩) (by assumption) ?_
                rotate_left
                · (intro w' hSw; (try dsimp only at hSw); go_simp; try with_reducible rfl)
                try simp only [Act.put]
                refine wpAnyH_take (i := 2) (v := ?_) rfl (by kernel_rfl) (by kernel_rfl) (by kernel_rfl) (fun _ _ _ h => h) (Or.inl ⟨by first | kernel_rfl | rfl, ?_⟩) (by assumption) ?_
                rotate_left
                · (intro w' hSw; (try dsimp only at hSw); go_simp; try with_reducible rfl)
                try simp only [Act.put]
                refine wpAnyH_take (i := 3) (v := ?_) rfl (by kernel_rfl) (by kernel_rfl) (by kernel_rfl) (fun _ _ _ h => h) (Or.inl ⟨by first | kernel_rfl | rfl, ?_⟩) (by assumption) ?_
                rotate_left
                · (intro w' hSw; (try dsimp only at hSw); go_simp; try with_reducible rfl)
                try simp only [Act.put]
                refine wpAnyH_take (i := 4) (v := ?_) rfl (by kernel_rfl) (by kernel_rfl) (by kernel_rfl) (fun _ _ _ h => h) (Or.inl ⟨by first | kernel_rfl | rfl, ?_⟩) (by assumption) ?_
                rotate_left
                · (intro w' hSw; (try dsimp only at hSw); go_simp; try with_reducible rfl)
                try simp only [Act.put]
                refine wpAnyH_take (i := 5) (v := ?_) rfl (by kernel_rfl) (by kernel_rfl) (by kernel_rfl) (fun _ _ _ h => h) (Or.inl ⟨by first | kernel_rfl | rfl, ?_⟩) (by assumption) ?_
                rotate_left
                · (intro w' hSw; (try dsimp only at hSw); go_simp; try with_reducible rfl)
                try simp only [Act.put]
                refine wpAnyH_take (i := 6) (v := ?_) rfl (by kernel_rfl) (by kernel_rfl) (by kernel_rfl) (fun _ _ _ h => h) (Or.inl ⟨by first | kernel_rfl | rfl, ?_⟩) (by assumption) ?_
                rotate_left
                · (intro w' hSw; (try dsimp only at hSw); go_simp; try with_reducible rfl)
                try simp only [Act.put]
                refine wpAnyH_take (i := 7) (v := ?_) rfl (by kernel_rfl) (by kernel_rfl) (by kernel_rfl) (fun _ _ _ h => h) (Or.inl ⟨by first | kernel_rfl | rfl, ?_⟩) (by assumption) ?_
                rotate_left
                · (intro w' hSw; (try dsimp only at hSw); go_simp; try with_reducible rfl)
                try simp only [Act.put]
                refine wpAnyH_take (i := 8) (v := ?_) rfl (by kernel_rfl) (by kernel_rfl) (by kernel_rfl) (fun _ _ _ h => h) (Or.inl ⟨by first | kernel_rfl | rfl, ?_⟩) (by assumption) ?_
                rotate_left
                · (intro w' hSw; (try dsimp only at hSw); go_simp; try with_reducible rfl)
                try simp only [Act.put]
                refine wpAnyH_take (i := 9) (v := ?_) rfl (by kernel_rfl) (by kernel_rfl) (by kernel_rfl) (fun _ _ _ h => h) (Or.inl ⟨by first | kernel_rfl | rfl, ?_⟩) (by assumption) ?_
                rotate_left
                · (intro w' hSw; (try dsimp only at hSw); go_simp; try with_reducible rfl)
                try simp only [Act.put]
                refine wpAnyH_take (i := 10) (v := ?_) rfl (by kernel_rfl) (by kernel_rfl) (by kernel_rfl) (fun _ _ _ h => h) (Or.inl ⟨by first | kernel_rfl | rfl, ?_⟩) (by assumption) ?_
                rotate_left
                · (intro w' hSw; (try dsimp only at hSw); go_simp; try with_reducible rfl)
                try simp only [Act.put]
                refine wpAnyH_take (i := 11) (v := ?_) rfl (by kernel_rfl) (by kernel_rfl) (by kernel_rfl) (fun _ _ _ h => h) (Or.inl ⟨by first | kernel_rfl | rfl, ?_⟩) (by assumption) ?_
                rotate_left
                · (intro w' hSw; (try dsimp only at hSw); go_simp; try with_reducible rfl)
                try simp only [Act.put]
                refine wpAnyH_take (i := 12) (v := ?_) rfl (by kernel_rfl) (by kernel_rfl) (by kernel_rfl) (fun _ _ _ h => h) (Or.inl ⟨by first | kernel_rfl | rfl, ?_⟩) (by assumption) ?_
                rotate_left
                · (intro w' hSw; (try dsimp only at hSw); go_simp; try with_reducible rfl)
                try simp only [Act.put]
                refine wpAnyH_take (i := 13) (v := ?_) rfl (by kernel_rfl) (by kernel_rfl) (by kernel_rfl) (fun _ _ _ h => h) (Or.inl ⟨by first | kernel_rfl | rfl, ?_⟩) (by assumption) ?_
                rotate_left
                · (intro w' hSw; (try dsimp only at hSw); go_simp; try with_reducible rfl)
                try simp only [Act.put]
                refine wpAnyH_take (i := 14) (v := ?_) rfl (by kernel_rfl) (by kernel_rfl) (by kernel_rfl) (fun _ _ _ h => h) (Or.inl ⟨by first | kernel_rfl | rfl, ?_⟩) (by assumption) ?_
                rotate_left
                · (intro w' hSw; (try dsimp only at hSw); go_simp; try with_reducible rfl)
                try simp only [Act.put]
                refine wpAnyH_take (i := 15) (v := ?_) rfl (by kernel_rfl) (by kernel_rfl) (by kernel_rfl) (fun _ _ _ h => h) (Or.inl ⟨by first | kernel_rfl | rfl, ?_⟩) (by assumption) ?_
                rotate_left
                · (intro w' hSw; (try dsimp only at hSw); go_simp; try with_reducible rfl)
                try simp only [Act.put]
                refine wpAnyH_take (i := 16) (v := ?_) rfl (by kernel_rfl) (by kernel_rfl) (by kernel_rfl) (fun _ _ _ h => h) (Or.inl ⟨by first | kernel_rfl | rfl, ?_⟩) (by assumption) ?_
                rotate_left
                · (intro w' hSw; (try dsimp only at hSw); go_simp; try with_reducible rfl)
                try simp only [Act.put]
                refine wpAnyH_take (i := 17) (v := ?_) rfl (by kernel_rfl) (by kernel_rfl) (by kernel_rfl) (fun _ _ _ h => h) (Or.inl ⟨by first | kernel_rfl | rfl, ?_⟩) (by assumption) ?_
                rotate_left
                · (intro w' hSw; (try dsimp only at hSw); go_simp; try with_reducible rfl)
                try simp only [Act.put]
                refine wpAnyH_done (by kernel_rfl) ?_ _
                go_simp
                clear hHeld
                have HB4 := Lib.hid HB3.out.drew
                clear HB3 p0 p1 n2 q0
                go_wp2
                go_roundw
                case rel => exact ⟨j + 1, by omega, by go_num, HB4, HG1⟩
                case measure => simp [RowKit.intOf]; omega
        case neg =>
          have HG1 := Lib.hid (show ∀ (i : Nat) (h : i < sets.length), i < k + 1 → ∀ p ∈ sets[i].map, ToldP ddt p from fun i hi hik => by
            by_cases e : i = k
            · subst e
              intro p hp
              obtain ⟨q, hq, rfl⟩ := List.mem_iff_getElem.1 hp
              exact HJ.out q hq (by rw [sets[i].h8] at hq; omega)
            · exact HG.out i hi (by omega))
          have hjj : ¬ (j : Int) < 8 := by omega
          clear HJ HG
          go_wp2
          go_roundw
          case rel => exact ⟨k + 1, by omega, by go_num, HB, HG1⟩
          case measure => simp [RowKit.intOf]; omega
    case neg =>
      have HF := Lib.hid (HFIN.out (fun i hi _ => HG.out i hi (by have := HL.out; omega)))
      go_wp2
      go_ret
      exact ⟨ret_boolB HF.out, B0.out.trans (HB.out.mono B0.out.size)⟩
theorem specSums_is (vs vd vp vi : Value) (c : CoreM) (r : Bool) (w : World) (h : CoreR w vs vd vp vi c) (hs : CoreShort c) (hdok : DdtOkM c.ddt) (hr : decide (SumsM c) = r) :
    Calls Tryz.prog 95 #[cv c vs vd vp vi] w fun e w' => e = .returned (.bool r) ∧ Below w.heap.size w w' := hr ▸ specSums_any vs vd vp vi c w h hs hdok
end Go.Proofs.YtojjenclcidnkaaGreatDoor

/-
  impl: the outline of a core's sets, and whether the sets are right.
-/
import Derived.Test.YtobjgdnmlibofaaGreatCoreD
import Derived.Test.YtobjgdnmlibofaaGreatISet
import Derived.Test.YtobjgdnmlibofaaGreatImOk
import Derived.Test.YtobjgdnmlibofaaGreatNmMore
set_option maxRecDepth 100000
namespace Go.Proofs.YtobjgdnmlibofaaGreat
open Go.ChangeShapes Go.WideShapes Go.ChangeAt Go.RowKit Go.Proofs.Palim

theorem kc_one (x : SetM) : ∀ u ∈ kc x, u.oneCell' = true := by
  intro u hu
  simp [kc] at hu
  rcases hu with rfl | rfl | rfl | rfl | rfl | rfl | rfl | rfl | rfl | rfl | rfl <;> rfl
theorem sl_nm (w : World) (x : CSetM) (e : Nat) : Sl (w.alloc (.cells #[.string x.name, .int .i64 x.kind, .string x.frm, .string ⟨#[]⟩, .string ⟨#[]⟩, .string ⟨#[]⟩, .string ⟨#[]⟩, .string ⟨#[]⟩, .string ⟨#[]⟩, .string ⟨#[]⟩, .string ⟨#[]⟩] e)) 11 (.slice (some ⟨w.heap.size, 0, none⟩) 1 1) 1 (kc (nameM x)) := by
  refine ⟨rfl, _, _, rfl, Nat.le_refl _, by unfold maxLen; omega, Or.inr ⟨w.heap.size, 0, rfl, fun j u hu => ?_⟩⟩
  have := (box_new w #[.string x.name, .int .i64 x.kind, .string x.frm, .string ⟨#[]⟩, .string ⟨#[]⟩, .string ⟨#[]⟩, .string ⟨#[]⟩, .string ⟨#[]⟩, .string ⟨#[]⟩, .string ⟨#[]⟩, .string ⟨#[]⟩] e).cell j hu
  rwa [Nat.zero_add]
theorem infoBkSet : (Tryz.prog.info? 140).map (fun i => (i.zero, i.size, i.bytes)) = some (some (.agg #[.string ⟨#[]⟩, .int .i64 0, .string ⟨#[]⟩, .string ⟨#[]⟩, .string ⟨#[]⟩, .string ⟨#[]⟩, .string ⟨#[]⟩, .string ⟨#[]⟩, .string ⟨#[]⟩, .string ⟨#[]⟩, .string ⟨#[]⟩]), 11, 168) := by kernel_rfl
theorem aggBookD : Agg Tryz.prog 94 1 := ⟨Tryz.isAgg94, Tryz.sizeOf94⟩
theorem aggSetD : Agg Tryz.prog 89 31 := ⟨Tryz.isAgg89, Tryz.sizeOf89⟩

set_option maxHeartbeats 4000000 in
theorem outline_any (v : Value) (ls : List CSetM) (w : World) (h : Sl w 31 v ls.length (ccs ls)) (hv : Low w.heap.size v) (hl : ls.length ≤ 1048576) :
    Calls Tryz.prog 134 #[v] w fun e w' => ∃ u, e = .returned (.agg #[u]) ∧ w'.ownsRow w.heap.size 140 11 u ls.length (kcs (namesM ls)) ∧ Below w.heap.size w w' := by
  obtain ⟨i0, hi, hz0, hz1, hz2⟩ := info_parts infoBkSet
  obtain ⟨n, HL⟩ : ∃ n, Hid (ls.length = n) := ⟨_, Lib.hid rfl⟩
  rw [HL.out] at h hl ⊢
  have hnm := h.le
  unfold maxLen at hnm
  obtain ⟨X1, X2, hsz, hB⟩ := box2 w #[.slice none 0 0] #[.slice none 0 0] 94 94
  have X1 := Lib.hid X1
  have X2 := Lib.hid X2
  have B0 := Lib.hid hB
  clear hB
  have HS := Lib.hid (h.below B0.out hv)
  obtain ⟨_, A, c, rfl, _, hcm, _⟩ := h
  unfold maxLen at hcm
  have HV := Lib.hid hv
  clear hv
  go_enter Tryz.func134, Tryz.ntmps134
  go_wp2
  generalize (w.alloc (.cells #[.slice none 0 0] 94)).alloc (.cells #[.slice none 0 0] 94) = W at X1 X2 B0 HS hsz ⊢
  go_loopw [5, 8] (fun _ i wr => ∃ (k : Nat) (D : Option Addr) (cap : Nat), k ≤ n ∧ i = .int .i64 k ∧ Hid (Box wr w.heap.size [.slice none 0 0]) ∧ Hid (Box wr (w.heap.size + 1) [.slice D k cap]) ∧ Hid (wr.ownsRow w.heap.size 140 11 (.slice D k cap) k (kcs (namesM (ls.take k)))) ∧ Hid (Below w.heap.size w wr) ∧ Hid (Sl wr 31 (.slice A n c) n (ccs ls)) ∧ w.heap.size + 2 ≤ wr.heap.size ∧ Hid (∀ b, (Value.slice D k cap).ownBlock = some b → w.heap.size + 1 < b)) (fun _ i _ => n - (RowKit.intOf i).toNat)
  case atStart => exact ⟨0, none, 0, Nat.zero_le _, rfl, X1, X2, Lib.hid ⟨rfl, Or.inl ⟨rfl, rfl⟩⟩, B0, HS, by omega, Lib.hid (fun b e => by cases e)⟩
  case round =>
    obtain ⟨k, D, cap, hk, rfl, HX1, HX2, HO, HB, HSr, hszr, HBK⟩ := hrel
    clear X1 X2 B0 HS hsz
    by_cases hlt : k < n
    case pos =>
      have hl0 : k < ls.length := by rw [HL.out]; exact hlt
      obtain ⟨b, off, c', hvv, _, _, hcell⟩ := HSr.out.form (by omega)
      injection hvv with e1 e2 e3
      subst e1 e3
      clear e2
      have hrd := cset_read hcell k hl0
      have hk1 : (k : Int) < (n : Int) := by omega
      have hbl : b < w.heap.size := HV.out b rfl
      have HE := Lib.hid (show kcs (namesM (ls.take (k + 1))) = kcs (namesM (ls.take k)) ++ kc (nameM ls[k]) from by
        rw [show namesM (ls.take (k + 1)) = namesM (ls.take k) ++ [nameM ls[k]] from by unfold namesM; rw [List.take_succ_eq_append_getElem hl0, List.map_append]; rfl, kcs_snoc])
      obtain ⟨x, HXX⟩ : ∃ x, Hid (ls[k] = x) := ⟨_, Lib.hid rfl⟩
      rw [HXX.out] at hrd HE
      have HRD := Lib.hid hrd
      clear hrd hcell hl0 HXX
      have hn1 := Below.new1 (w := wr) (.cells #[.string ⟨#[]⟩, .int .i64 0, .string ⟨#[]⟩, .int .i64 0, .int .i64 0, .int .i64 0, .int .i64 0, .int .i64 0, .int .i64 0, .int .i64 0, .int .i64 0, .int .i64 0, .int .i64 0, .int .i64 0, .int .i64 0, .int .i64 0, .int .i64 0, .int .i64 0, .int .i64 0, .int .i64 0, .int .i64 0, .int .i64 0, .int .i64 0, .int .i64 0, .int .i64 0, .int .i64 0, .int .i64 0, .int .i64 0, .int .i64 0, .int .i64 0, .bool false] 89)
      have HBX := Lib.hid ((show Box _ wr.heap.size [.string ⟨#[]⟩, .int .i64 0, .string ⟨#[]⟩, .int .i64 0, .int .i64 0, .int .i64 0, .int .i64 0, .int .i64 0, .int .i64 0, .int .i64 0, .int .i64 0, .int .i64 0, .int .i64 0, .int .i64 0, .int .i64 0, .int .i64 0, .int .i64 0, .int .i64 0, .int .i64 0, .int .i64 0, .int .i64 0, .int .i64 0, .int .i64 0, .int .i64 0, .int .i64 0, .int .i64 0, .int .i64 0, .int .i64 0, .int .i64 0, .int .i64 0, .bool false] from box_new wr #[.string ⟨#[]⟩, .int .i64 0, .string ⟨#[]⟩, .int .i64 0, .int .i64 0, .int .i64 0, .int .i64 0, .int .i64 0, .int .i64 0, .int .i64 0, .int .i64 0, .int .i64 0, .int .i64 0, .int .i64 0, .int .i64 0, .int .i64 0, .int .i64 0, .int .i64 0, .int .i64 0, .int .i64 0, .int .i64 0, .int .i64 0, .int .i64 0, .int .i64 0, .int .i64 0, .int .i64 0, .int .i64 0, .int .i64 0, .int .i64 0, .int .i64 0, .bool false] 89).putAll (cc x) (by rw [cc_length]; rfl))
      have hpb : Below wr.heap.size wr (putC (wr.alloc (.cells #[.string ⟨#[]⟩, .int .i64 0, .string ⟨#[]⟩, .int .i64 0, .int .i64 0, .int .i64 0, .int .i64 0, .int .i64 0, .int .i64 0, .int .i64 0, .int .i64 0, .int .i64 0, .int .i64 0, .int .i64 0, .int .i64 0, .int .i64 0, .int .i64 0, .int .i64 0, .int .i64 0, .int .i64 0, .int .i64 0, .int .i64 0, .int .i64 0, .int .i64 0, .int .i64 0, .int .i64 0, .int .i64 0, .int .i64 0, .int .i64 0, .int .i64 0, .bool false] 89)) wr.heap.size 0 (cc x)) := putC_below hn1 _ _ (Nat.le_refl _) _
      have HNX := Lib.hid (show Box _ wr.heap.size [.string ⟨#[]⟩, .int .i64 0, .string ⟨#[]⟩, .int .i64 0, .int .i64 0, .int .i64 0, .int .i64 0, .int .i64 0, .int .i64 0, .int .i64 0, .int .i64 0, .int .i64 0, .int .i64 0, .int .i64 0, .int .i64 0, .int .i64 0, .int .i64 0, .int .i64 0, .int .i64 0, .int .i64 0, .int .i64 0, .int .i64 0, .int .i64 0, .int .i64 0, .int .i64 0, .int .i64 0, .int .i64 0, .int .i64 0, .int .i64 0, .int .i64 0, .bool false] from box_new wr #[.string ⟨#[]⟩, .int .i64 0, .string ⟨#[]⟩, .int .i64 0, .int .i64 0, .int .i64 0, .int .i64 0, .int .i64 0, .int .i64 0, .int .i64 0, .int .i64 0, .int .i64 0, .int .i64 0, .int .i64 0, .int .i64 0, .int .i64 0, .int .i64 0, .int .i64 0, .int .i64 0, .int .i64 0, .int .i64 0, .int .i64 0, .int .i64 0, .int .i64 0, .int .i64 0, .int .i64 0, .int .i64 0, .int .i64 0, .int .i64 0, .int .i64 0, .bool false] 89)
      have Y1 := Lib.hid (HX1.out.below hpb HX1.out.lt)
      have Y2 := Lib.hid (HX2.out.below hpb HX2.out.lt)
      have HO1 := Lib.hid (own_kept HO.out (fun b e => hpb.block b (HO.out.lt b e).2))
      have HB1 := Lib.hid (HB.out.trans (hpb.mono HB.out.size))
      have HS1 := Lib.hid (HSr.out.below hpb (fun b' e => Nat.lt_of_lt_of_le (HV.out b' e) HB.out.size))
      have hsz1 : wr.heap.size + 1 = (putC (wr.alloc (.cells #[.string ⟨#[]⟩, .int .i64 0, .string ⟨#[]⟩, .int .i64 0, .int .i64 0, .int .i64 0, .int .i64 0, .int .i64 0, .int .i64 0, .int .i64 0, .int .i64 0, .int .i64 0, .int .i64 0, .int .i64 0, .int .i64 0, .int .i64 0, .int .i64 0, .int .i64 0, .int .i64 0, .int .i64 0, .int .i64 0, .int .i64 0, .int .i64 0, .int .i64 0, .int .i64 0, .int .i64 0, .int .i64 0, .int .i64 0, .int .i64 0, .int .i64 0, .bool false] 89)) wr.heap.size 0 (cc x)).heap.size := by rw [putC_size]; simp
      clear hn1 hpb HX1 HX2 HO HB HSr
      go_wp2_with (first | (refine wpList_load_cs rfl _ rfl aggSetD rfl (cc x) (cc_length x) HRD.out ?_) | (refine wpList_store_box rfl _ _ rfl rfl aggSetD rfl (cc x) rfl (cc_length x) (cc_one x) [.string ⟨#[]⟩, .int .i64 0, .string ⟨#[]⟩, .int .i64 0, .int .i64 0, .int .i64 0, .int .i64 0, .int .i64 0, .int .i64 0, .int .i64 0, .int .i64 0, .int .i64 0, .int .i64 0, .int .i64 0, .int .i64 0, .int .i64 0, .int .i64 0, .int .i64 0, .int .i64 0, .int .i64 0, .int .i64 0, .int .i64 0, .int .i64 0, .int .i64 0, .int .i64 0, .int .i64 0, .int .i64 0, .int .i64 0, .int .i64 0, .int .i64 0, .bool false] HNX.out rfl ?_; clear HNX; generalize putC (wr.alloc (.cells #[.string ⟨#[]⟩, .int .i64 0, .string ⟨#[]⟩, .int .i64 0, .int .i64 0, .int .i64 0, .int .i64 0, .int .i64 0, .int .i64 0, .int .i64 0, .int .i64 0, .int .i64 0, .int .i64 0, .int .i64 0, .int .i64 0, .int .i64 0, .int .i64 0, .int .i64 0, .int .i64 0, .int .i64 0, .int .i64 0, .int .i64 0, .int .i64 0, .int .i64 0, .int .i64 0, .int .i64 0, .int .i64 0, .int .i64 0, .int .i64 0, .int .i64 0, .bool false] 89)) wr.heap.size 0 (cc x) = W1 at HBX Y1 Y2 HO1 HB1 HS1 hsz1 ⊢; obtain ⟨n0, n1, n2, -, -, -, -⟩ := ccBox HBX.out; have m0 := Y2.out.cell 0 rfl; have HSN := Lib.hid (sl_nm W1 x 140); have hn2 := Below.new1 (w := W1) (.cells #[.string x.name, .int .i64 x.kind, .string x.frm, .string ⟨#[]⟩, .string ⟨#[]⟩, .string ⟨#[]⟩, .string ⟨#[]⟩, .string ⟨#[]⟩, .string ⟨#[]⟩, .string ⟨#[]⟩, .string ⟨#[]⟩] 140); have HO2 := Lib.hid (own_kept HO1.out (fun b e => hn2.block b (HO1.out.lt b e).2)); have Z1 := Lib.hid (Y1.out.below hn2 Y1.out.lt); have Z2 := Lib.hid (Y2.out.below hn2 Y2.out.lt); have HB2 := Lib.hid (HB1.out.trans (hn2.mono HB1.out.size)); have HS2 := Lib.hid (HS1.out.below hn2 (fun b' e => Nat.lt_of_lt_of_le (HV.out b' e) HB1.out.size)); have hsz2 : (W1.alloc (.cells #[.string x.name, .int .i64 x.kind, .string x.frm, .string ⟨#[]⟩, .string ⟨#[]⟩, .string ⟨#[]⟩, .string ⟨#[]⟩, .string ⟨#[]⟩, .string ⟨#[]⟩, .string ⟨#[]⟩, .string ⟨#[]⟩] 140)).heap.size = W1.heap.size + 1 := by simp) | (at_builtin; refine wpList_append_freshB _ rfl _ _ 92 rfl w.heap.size 140 i0 _ 11 168 Tryz.underlying92 hi hz0 hz1 hz2 rfl (by omega) (.slice D k cap) k _ rfl HO2.out (.slice (some ⟨W1.heap.size, 0, none⟩) 1 1) 1 (kc (nameM x)) rfl HSN.out (kc_one _) (by unfold maxLen; omega) (by omega) (by have := HB2.out.size; omega) ?_))
      intro A2 cap2 w5 hown5 hg5 hloc
      rw [← HE.out] at hown5
      have NM := nm_more Z2.out hg5 HBK.out HB2.out (by omega) hown5 (by rw [hsz2]; exact hloc)
      have c0 := NM.c0
      have f0 := NM.f0
      have U1 := Lib.hid (Z1.out.kept (NM.low _ (by omega)))
      have U2 := Lib.hid NM.box
      have HO5 := Lib.hid NM.own
      have HB5 := Lib.hid NM.below
      have HS5 := Lib.hid (HS2.out.kept (fun b' e => NM.low b' (by have := HV.out b' e; omega)))
      have hsz5 : w.heap.size + 2 ≤ (w5.setCell ⟨w.heap.size + 1, 0, none⟩ (.slice A2 (k + 1) cap2)).heap.size := by have := NM.size; omega
      have HBK5 := Lib.hid NM.hi
      clear hown5 hg5 hloc NM Z1 Z2 HO2 HB2 HS2 HBK Y1 Y2 HO1 HB1 HS1 HSN n0 n1 n2 m0 HBX
      go_wp2
      go_roundw
      case rel => exact ⟨k + 1, A2, cap2, by omega, by go_num, U1, U2, HO5, HB5, HS5, hsz5, HBK5⟩
      case measure => simp [RowKit.intOf]; omega
    case neg =>
      have hkn : k = n := by omega
      subst hkn
      have HT := Lib.hid (show ls.take k = ls from List.take_of_length_le (by rw [HL.out]; omega))
      have c1 := HX2.out.cell 0 rfl
      have c2 := HX1.out.cell 0 rfl
      have f2 := HX1.out.open_ 0
      have U := Lib.hid (HX1.out.set 0 (.slice D k cap))
      have c3 := U.out.cell 0 rfl
      have HO5 := Lib.hid (own_kept HO.out (w' := wr.setCell ⟨w.heap.size, 0, none⟩ (.slice D k cap)) (fun b e => Below.heap_setCell wr _ _ b (fun e2 => by have := HBK.out b e; simp only at e2; omega)))
      have HB5 := Lib.hid (HB.out.setCell (p := ⟨w.heap.size, 0, none⟩) (Nat.le_refl _) (.slice D k cap))
      clear HO HB HX1 HX2 HSr
      go_wp2
      refine bodyPost_ret (v := .agg #[.slice D k cap]) (results_box rfl _ w.heap.size [.slice D k cap] aggBookD rfl rfl U.out) rfl ?_
      refine ⟨_, rfl, ?_, HB5.out⟩
      have h0 := HO5.out
      rw [HT.out] at h0
      exact h0
end Go.Proofs.YtobjgdnmlibofaaGreat

/-
  impl's CoreRoot.
-/
import Derived.Test.YthcfiobnnceomaaDoorRootM
import Derived.Test.YthcfiobnnceomaaDoorISet
import Derived.Test.YthcfiobnnceomaaDoorKBox
import Derived.Test.YthcfiobnnceomaaDoorINm
import Derived.Test.YthcfiobnnceomaaDoorSpecRoots
import Derived.Deep.RegionHeld3
set_option maxRecDepth 100000
namespace Go.Proofs.YthcfiobnnceomaaDoor
open Go.ChangeShapes Go.WideShapes Go.ChangeAt Go.RowKit Go.Proofs.Palim

theorem Wr.drew {w : World} {x base : Nat} {v : Value} {ls : List ByteArray} (h : Wr w x base v ls) : Wr w.drew x base v ls := ⟨h.box.drew, own_kept h.own (fun _ _ => rfl), h.ne, h.le⟩
theorem fromB_zeroI {s : ByteArray} (h : s.size = 0) : fromB s = miB := if_pos h
theorem fromB_neI {s : ByteArray} (h : ¬ s.size = 0) : fromB s = s := if_neg h

set_option maxHeartbeats 8000000 in
theorem implRoot_any (vs vd vp vi : Value) (c : CoreM) (w : World) (h : CoreR w vs vd vp vi c) (hs : CoreShort c) (hp : HasPow w) :
    Calls Tryd.prog 8 #[cv c vs vd vp vi] w fun e w' => e = .returned (.string (rootText c.sets c.parts)) ∧ Below w.heap.size w w' := by
  have hnot : ∀ (x : Bool) (w : World), (Op.unary .not (.bool x)).run Tryd.prog w = .ok (.bool (!x)) w := fun _ _ => rfl
  obtain ⟨R, HR⟩ : ∃ R, Hid (rootText c.sets c.parts = R) := ⟨_, Lib.hid rfl⟩
  rw [HR.out]
  have P0 := Lib.hid hp
  clear hp
  have HS := Lib.hid hs
  obtain ⟨A0, k0, A1, k1, A2, k2, A3, k3, rfl, rfl, rfl, rfl⟩ := h.forms
  have HRD := Lib.hid h
  have B := Lib.hid (Below.new1 (w := w) (.cells #[.int .i64 c.txg, .slice A0 c.sets.length k0, .slice A1 c.ddt.length k1, .slice A2 c.parts.length k2, .bool c.dirty, .slice A3 c.safe.length k3, .int .i64 c.logn] 34))
  have XC := Lib.hid ((kbox_new h 34).box)
  clear h hs
  go_enter Tryd.func8, Tryd.ntmps8
  go_upto_region 1 with fail
  obtain ⟨W0, HWE⟩ : ∃ W0, w.alloc (.cells #[.int .i64 c.txg, .slice A0 c.sets.length k0, .slice A1 c.ddt.length k1, .slice A2 c.parts.length k2, .bool c.dirty, .slice A3 c.safe.length k3, .int .i64 c.logn] 34) = W0 := ⟨_, rfl⟩
  have hW0 : W0.heap.size = w.heap.size + 1 := by rw [← HWE]; simp
  rw [HWE] at XC B ⊢
  clear HWE
  have hX0 : w.heap.size < W0.heap.size := by omega
  have hX2 : w.heap.size ≤ W0.heap.size := by omega
  clear hW0
  have HWa := Lib.hid (wr_new W0 63)
  have hna := Below.new (w := W0) (.cells #[.slice none 0 0] 63)
  have hnb := Below.new (w := W0.alloc (.cells #[.slice none 0 0] 63)) (.cells (scs [rootB]).toArray 9)
  have hs5 := sl_strs (W0.alloc (.cells #[.slice none 0 0] 63)) [rootB] 9 1 rfl (by omega)
  rw [World.size_alloc] at hs5
  have S5 := Lib.hid hs5
  have hL5 : Low ((W0.alloc (.cells #[.slice none 0 0] 63)).alloc (.cells (scs [rootB]).toArray 9)).heap.size (.slice (some ⟨W0.heap.size + 1, 0, none⟩) 1 1) := fun b e => by (have hbx : W0.heap.size + 1 = b := (by simpa [Value.ownBlock] using e)); simp; omega
  have hrb : rootB.size ≤ 140737488355328 := show (4 : Nat) ≤ 140737488355328 by omega
  clear hs5
  have W5 := Lib.hid (HWa.out.below hnb)
  have X5 := Lib.hid ((XC.out.below hna XC.out.lt).below hnb (by have := XC.out.lt; simp; omega))
  have B5 := Lib.hid (B.out.trans ((hna.trans (hnb.mono hna.size)).mono B.out.size))
  clear HWa hna hnb XC B
  go_wp2_with fail
  refine (line_any W0.heap.size W0.heap.size (.slice none 0 0) [] _ [rootB] rootB _ W5.out S5.out hL5 (by simp) (by simp) hrb (joinB_one _ _)).mono ?_
  rintro e w6 ⟨rfl, ⟨v6, W6⟩, hb⟩
  have HW := Lib.hid (show Wr w6 W0.heap.size W0.heap.size v6 (rootLines (c.sets.take 0) []) from W6)
  have XC := Lib.hid (X5.out.below hb hX0)
  have B := Lib.hid (B5.out.trans (hb.mono hX2))
  clear hb W5 X5 B5 S5 W6 hL5 hrb
  have n1 := XC.out.cell 1 rfl
  have hsl := HS.out.s
  have hpl := HS.out.p
  go_wp2
  clear n1
  go_loopw [5, 6, 14] (fun _ _ i wr => ∃ (k : Nat) (v : Value), k ≤ c.sets.length ∧ i = .int .i64 (k : Int) ∧ Hid (Wr wr W0.heap.size W0.heap.size v (rootLines (c.sets.take k) [])) ∧ Hid (Below w.heap.size w wr) ∧ Hid (Box wr w.heap.size (kcore c (.slice A0 c.sets.length k0) (.slice A1 c.ddt.length k1) (.slice A2 c.parts.length k2) (.slice A3 c.safe.length k3))) ∧ Hid (∀ (j : Nat) (h : j < c.sets.length), j < k → SetOkC c.sets[j])) (fun _ _ i _ => c.sets.length - (RowKit.intOf i).toNat)
  case atStart => exact ⟨0, v6, Nat.zero_le _, rfl, HW, B, XC, Lib.hid (fun j _ h => absurd h (Nat.not_lt_zero _))⟩
  case round =>
    clear B XC HW
    obtain ⟨k, v, hk, rfl, HW, B, XC, HG⟩ := hrel
    by_cases hlt : k < c.sets.length
    case pos =>
      obtain ⟨b, off, c', hvv, _, _, hcell⟩ := (HRD.out.below B.out).s.form (by omega)
      injection hvv with e1 e2 e3
      subst e1 e3
      clear e2
      have hk1 : (k : Int) < (c.sets.length : Int) := by omega
      have HRS := Lib.hid (cset_read hcell k hlt)
      have HZK := Lib.hid (HS.out.z _ (List.getElem_mem hlt))
      have HBS := Lib.hid (show ¬ SetOkC c.sets[k] → emB = R from fun h => by rw [← HR.out]; unfold rootText; rw [if_neg (fun c' : RootOk _ _ => h (c'.1 _ (List.getElem_mem hlt)))])
      have HGS := Lib.hid (show SetOkC c.sets[k] → ∀ (j : Nat) (h : j < c.sets.length), j < k + 1 → SetOkC c.sets[j] from fun hg j hj hjk => by
        by_cases e : j = k
        · subst e; exact hg
        · exact HG.out j hj (by omega))
      have HLS := Lib.hid (fun (tl : ByteArray) (h : setLine c.sets[k] = tl) => show rootLines (c.sets.take (k + 1)) [] = rootLines (c.sets.take k) [] ++ [tl] from by rw [rootLines_set hlt, h])
      have hX1 : W0.heap.size < wr.heap.size := HW.out.box.lt
      have hNV := Lib.hid (show ∀ g, v.ownBlock = some g → g < wr.heap.size from fun g e => (HW.out.own.lt g e).2)
      generalize c.sets[k] = x at HRS HBS HGS HZK HLS
      clear HG hcell
      by_cases hg : SetOkC x
      case neg =>
        have HF := Lib.hid (HBS.out hg)
        have hor := decide_eq_false hg
        clear hg HBS HGS HLS
        have hn1 := Below.new1 (w := wr) (.cells #[.string ⟨#[]⟩, .int .i64 0, .string ⟨#[]⟩, .int .i64 0, .int .i64 0, .int .i64 0, .int .i64 0, .int .i64 0, .int .i64 0, .int .i64 0, .int .i64 0, .int .i64 0, .int .i64 0, .int .i64 0, .int .i64 0, .int .i64 0, .int .i64 0, .int .i64 0, .int .i64 0, .int .i64 0, .int .i64 0, .int .i64 0, .int .i64 0, .int .i64 0, .int .i64 0, .int .i64 0, .int .i64 0, .int .i64 0, .int .i64 0, .int .i64 0, .bool false] 51)
        have HBX := Lib.hid ((show Box _ wr.heap.size [.string ⟨#[]⟩, .int .i64 0, .string ⟨#[]⟩, .int .i64 0, .int .i64 0, .int .i64 0, .int .i64 0, .int .i64 0, .int .i64 0, .int .i64 0, .int .i64 0, .int .i64 0, .int .i64 0, .int .i64 0, .int .i64 0, .int .i64 0, .int .i64 0, .int .i64 0, .int .i64 0, .int .i64 0, .int .i64 0, .int .i64 0, .int .i64 0, .int .i64 0, .int .i64 0, .int .i64 0, .int .i64 0, .int .i64 0, .int .i64 0, .int .i64 0, .bool false] from box_new wr #[.string ⟨#[]⟩, .int .i64 0, .string ⟨#[]⟩, .int .i64 0, .int .i64 0, .int .i64 0, .int .i64 0, .int .i64 0, .int .i64 0, .int .i64 0, .int .i64 0, .int .i64 0, .int .i64 0, .int .i64 0, .int .i64 0, .int .i64 0, .int .i64 0, .int .i64 0, .int .i64 0, .int .i64 0, .int .i64 0, .int .i64 0, .int .i64 0, .int .i64 0, .int .i64 0, .int .i64 0, .int .i64 0, .int .i64 0, .int .i64 0, .int .i64 0, .bool false] 51).putAll (cc x) (by rw [cc_length]; rfl))
        have hpb : Below wr.heap.size wr (putC (wr.alloc (.cells #[.string ⟨#[]⟩, .int .i64 0, .string ⟨#[]⟩, .int .i64 0, .int .i64 0, .int .i64 0, .int .i64 0, .int .i64 0, .int .i64 0, .int .i64 0, .int .i64 0, .int .i64 0, .int .i64 0, .int .i64 0, .int .i64 0, .int .i64 0, .int .i64 0, .int .i64 0, .int .i64 0, .int .i64 0, .int .i64 0, .int .i64 0, .int .i64 0, .int .i64 0, .int .i64 0, .int .i64 0, .int .i64 0, .int .i64 0, .int .i64 0, .int .i64 0, .bool false] 51)) wr.heap.size 0 (cc x)) := putC_below hn1 _ _ (Nat.le_refl _) _
        have HNX := Lib.hid (show Box _ wr.heap.size [.string ⟨#[]⟩, .int .i64 0, .string ⟨#[]⟩, .int .i64 0, .int .i64 0, .int .i64 0, .int .i64 0, .int .i64 0, .int .i64 0, .int .i64 0, .int .i64 0, .int .i64 0, .int .i64 0, .int .i64 0, .int .i64 0, .int .i64 0, .int .i64 0, .int .i64 0, .int .i64 0, .int .i64 0, .int .i64 0, .int .i64 0, .int .i64 0, .int .i64 0, .int .i64 0, .int .i64 0, .int .i64 0, .int .i64 0, .int .i64 0, .int .i64 0, .bool false] from box_new wr #[.string ⟨#[]⟩, .int .i64 0, .string ⟨#[]⟩, .int .i64 0, .int .i64 0, .int .i64 0, .int .i64 0, .int .i64 0, .int .i64 0, .int .i64 0, .int .i64 0, .int .i64 0, .int .i64 0, .int .i64 0, .int .i64 0, .int .i64 0, .int .i64 0, .int .i64 0, .int .i64 0, .int .i64 0, .int .i64 0, .int .i64 0, .int .i64 0, .int .i64 0, .int .i64 0, .int .i64 0, .int .i64 0, .int .i64 0, .int .i64 0, .int .i64 0, .bool false] 51)
        have XC' := Lib.hid (XC.out.below hpb XC.out.lt)
        have B' := Lib.hid (B.out.trans (hpb.mono B.out.size))
        clear hn1 hpb XC B HW
        have XC := XC'
        have B := B'
        clear XC' B'
        go_wp2_with (first | (refine wpList_load_cs rfl _ rfl aggSetD rfl (cc x) (cc_length x) HRS.out ?_) | (refine wpList_load_box rfl _ rfl aggSetD rfl (cc x) (cc_length x) HBX.out ?_) | (refine wpList_store_box rfl _ _ rfl rfl aggSetD rfl (cc x) rfl (cc_length x) (cc_one x) [.string ⟨#[]⟩, .int .i64 0, .string ⟨#[]⟩, .int .i64 0, .int .i64 0, .int .i64 0, .int .i64 0, .int .i64 0, .int .i64 0, .int .i64 0, .int .i64 0, .int .i64 0, .int .i64 0, .int .i64 0, .int .i64 0, .int .i64 0, .int .i64 0, .int .i64 0, .int .i64 0, .int .i64 0, .int .i64 0, .int .i64 0, .int .i64 0, .int .i64 0, .int .i64 0, .int .i64 0, .int .i64 0, .int .i64 0, .int .i64 0, .int .i64 0, .bool false] HNX.out rfl ?_; clear HNX; generalize putC (wr.alloc (.cells #[.string ⟨#[]⟩, .int .i64 0, .string ⟨#[]⟩, .int .i64 0, .int .i64 0, .int .i64 0, .int .i64 0, .int .i64 0, .int .i64 0, .int .i64 0, .int .i64 0, .int .i64 0, .int .i64 0, .int .i64 0, .int .i64 0, .int .i64 0, .int .i64 0, .int .i64 0, .int .i64 0, .int .i64 0, .int .i64 0, .int .i64 0, .int .i64 0, .int .i64 0, .int .i64 0, .int .i64 0, .int .i64 0, .int .i64 0, .int .i64 0, .int .i64 0, .bool false] 51)) wr.heap.size 0 (cc x) = W1 at HBX B XC ⊢))
        refine (implSet_is x _ _ HZK.out hor).mono ?_
        rintro e w2 ⟨rfl, hb⟩
        have B' := Lib.hid (B.out.trans (hb.mono B.out.size))
        clear hb HBX B
        go_wp2
        go_ret
        exact ⟨ret_s HF.out, B'.out⟩
      case pos =>
        have HG1 := Lib.hid (HGS.out hg)
        have hor := decide_eq_true hg
        obtain ⟨t2, H2⟩ : ∃ t, Hid ((⟨(Lib.itoa x.kind).toArray⟩ : ByteArray) = t) := ⟨_, Lib.hid rfl⟩
        obtain ⟨t4, H4⟩ : ∃ t, Hid (ptrText x.home = t) := ⟨_, Lib.hid rfl⟩
        obtain ⟨tl, HTL⟩ : ∃ t, Hid (setLine x = t) := ⟨_, Lib.hid rfl⟩
        have HLS1 := Lib.hid (HLS.out tl HTL.out)
        have hkd := hg.2.2.1
        have htl : tl.size ≤ 110 := by rw [← HTL.out]; exact setLine_bd hg
        have HJ := Lib.hid (show ∀ t3, fromB x.frm = t3 → joinB [x.name, t2, t3, t4] spB = tl from fun t3 h3 => by rw [← HTL.out]; unfold setLine kindB; rw [H2.out, h3, H4.out])
        clear hg HBS HGS HLS
        have hn1 := Below.new1 (w := wr) (.cells #[.string ⟨#[]⟩, .int .i64 0, .string ⟨#[]⟩, .int .i64 0, .int .i64 0, .int .i64 0, .int .i64 0, .int .i64 0, .int .i64 0, .int .i64 0, .int .i64 0, .int .i64 0, .int .i64 0, .int .i64 0, .int .i64 0, .int .i64 0, .int .i64 0, .int .i64 0, .int .i64 0, .int .i64 0, .int .i64 0, .int .i64 0, .int .i64 0, .int .i64 0, .int .i64 0, .int .i64 0, .int .i64 0, .int .i64 0, .int .i64 0, .int .i64 0, .bool false] 51)
        have HBX := Lib.hid ((show Box _ wr.heap.size [.string ⟨#[]⟩, .int .i64 0, .string ⟨#[]⟩, .int .i64 0, .int .i64 0, .int .i64 0, .int .i64 0, .int .i64 0, .int .i64 0, .int .i64 0, .int .i64 0, .int .i64 0, .int .i64 0, .int .i64 0, .int .i64 0, .int .i64 0, .int .i64 0, .int .i64 0, .int .i64 0, .int .i64 0, .int .i64 0, .int .i64 0, .int .i64 0, .int .i64 0, .int .i64 0, .int .i64 0, .int .i64 0, .int .i64 0, .int .i64 0, .int .i64 0, .bool false] from box_new wr #[.string ⟨#[]⟩, .int .i64 0, .string ⟨#[]⟩, .int .i64 0, .int .i64 0, .int .i64 0, .int .i64 0, .int .i64 0, .int .i64 0, .int .i64 0, .int .i64 0, .int .i64 0, .int .i64 0, .int .i64 0, .int .i64 0, .int .i64 0, .int .i64 0, .int .i64 0, .int .i64 0, .int .i64 0, .int .i64 0, .int .i64 0, .int .i64 0, .int .i64 0, .int .i64 0, .int .i64 0, .int .i64 0, .int .i64 0, .int .i64 0, .int .i64 0, .bool false] 51).putAll (cc x) (by rw [cc_length]; rfl))
        have hpb : Below wr.heap.size wr (putC (wr.alloc (.cells #[.string ⟨#[]⟩, .int .i64 0, .string ⟨#[]⟩, .int .i64 0, .int .i64 0, .int .i64 0, .int .i64 0, .int .i64 0, .int .i64 0, .int .i64 0, .int .i64 0, .int .i64 0, .int .i64 0, .int .i64 0, .int .i64 0, .int .i64 0, .int .i64 0, .int .i64 0, .int .i64 0, .int .i64 0, .int .i64 0, .int .i64 0, .int .i64 0, .int .i64 0, .int .i64 0, .int .i64 0, .int .i64 0, .int .i64 0, .int .i64 0, .int .i64 0, .bool false] 51)) wr.heap.size 0 (cc x)) := putC_below hn1 _ _ (Nat.le_refl _) _
        have HNX := Lib.hid (show Box _ wr.heap.size [.string ⟨#[]⟩, .int .i64 0, .string ⟨#[]⟩, .int .i64 0, .int .i64 0, .int .i64 0, .int .i64 0, .int .i64 0, .int .i64 0, .int .i64 0, .int .i64 0, .int .i64 0, .int .i64 0, .int .i64 0, .int .i64 0, .int .i64 0, .int .i64 0, .int .i64 0, .int .i64 0, .int .i64 0, .int .i64 0, .int .i64 0, .int .i64 0, .int .i64 0, .int .i64 0, .int .i64 0, .int .i64 0, .int .i64 0, .int .i64 0, .int .i64 0, .bool false] from box_new wr #[.string ⟨#[]⟩, .int .i64 0, .string ⟨#[]⟩, .int .i64 0, .int .i64 0, .int .i64 0, .int .i64 0, .int .i64 0, .int .i64 0, .int .i64 0, .int .i64 0, .int .i64 0, .int .i64 0, .int .i64 0, .int .i64 0, .int .i64 0, .int .i64 0, .int .i64 0, .int .i64 0, .int .i64 0, .int .i64 0, .int .i64 0, .int .i64 0, .int .i64 0, .int .i64 0, .int .i64 0, .int .i64 0, .int .i64 0, .int .i64 0, .int .i64 0, .bool false] 51)
        have XC' := Lib.hid (XC.out.below hpb XC.out.lt)
        have B' := Lib.hid (B.out.trans (hpb.mono B.out.size))
        have HW' := Lib.hid (HW.out.below hpb)
        clear hn1 hpb XC B HW
        have XC := XC'
        have B := B'
        clear XC' B'
        go_wp2_with (first | (refine wpList_load_cs rfl _ rfl aggSetD rfl (cc x) (cc_length x) HRS.out ?_) | (refine wpList_load_box rfl _ rfl aggSetD rfl (cc x) (cc_length x) HBX.out ?_) | (refine wpList_store_box rfl _ _ rfl rfl aggSetD rfl (cc x) rfl (cc_length x) (cc_one x) [.string ⟨#[]⟩, .int .i64 0, .string ⟨#[]⟩, .int .i64 0, .int .i64 0, .int .i64 0, .int .i64 0, .int .i64 0, .int .i64 0, .int .i64 0, .int .i64 0, .int .i64 0, .int .i64 0, .int .i64 0, .int .i64 0, .int .i64 0, .int .i64 0, .int .i64 0, .int .i64 0, .int .i64 0, .int .i64 0, .int .i64 0, .int .i64 0, .int .i64 0, .int .i64 0, .int .i64 0, .int .i64 0, .int .i64 0, .int .i64 0, .int .i64 0, .bool false] HNX.out rfl ?_; clear HNX; generalize putC (wr.alloc (.cells #[.string ⟨#[]⟩, .int .i64 0, .string ⟨#[]⟩, .int .i64 0, .int .i64 0, .int .i64 0, .int .i64 0, .int .i64 0, .int .i64 0, .int .i64 0, .int .i64 0, .int .i64 0, .int .i64 0, .int .i64 0, .int .i64 0, .int .i64 0, .int .i64 0, .int .i64 0, .int .i64 0, .int .i64 0, .int .i64 0, .int .i64 0, .int .i64 0, .int .i64 0, .int .i64 0, .int .i64 0, .int .i64 0, .int .i64 0, .int .i64 0, .int .i64 0, .bool false] 51)) wr.heap.size 0 (cc x) = W1 at HBX B XC HW' ⊢))
        refine (implSet_is x _ _ HZK.out hor).mono ?_
        rintro e w2 ⟨rfl, hb⟩
        have HX := Lib.hid (HBX.out.below hb HBX.out.lt)
        have HW := Lib.hid (HW'.out.below hb)
        have XC' := Lib.hid (XC.out.below hb XC.out.lt)
        have B' := Lib.hid (B.out.trans (hb.mono B.out.size))
        clear hb HBX B XC HW'
        have XC := XC'
        have B := B'
        clear XC' B'
        obtain ⟨n0, n1, n2, n27, n28, n29, -⟩ := ccBox HX.out
        by_cases hf : x.frm.size = 0
        case pos =>
          have HJL := Lib.hid (HJ.out miB (fromB_zeroI hf))
          have hq := eqEmpty hf
          clear hf HJ
          go_wp2_with fail
          have D0 := Lib.hid HX.out.drew
          have DW := Lib.hid HW.out.drew
          have DC := Lib.hid XC.out.drew
          have DB := Lib.hid B.out.drew
          have hwr2 : wr.heap.size < w2.drew.heap.size := D0.out.lt
          clear HX HW XC B n0 n1 n2 n27 n28 n29
          refine wp_region_held_drew (S := fun w' => Box w' wr.heap.size (cc x)) (by kernel_rfl) D0.out (fun hHeld => ?_)
          generalize w2.drew = wd at D0 DW DC DB hwr2 ⊢
          refine wpAnyH_take (i := 0) (v := ?_) rfl (by kernel_rfl) (by kernel_rfl) (by kernel_rfl) (fun _ _ _ h => h) (Or.inl ⟨by first | kernel_rfl | rfl, ?_⟩) (by assumption) ?_
          rotate_left
          · (intro w' hSw; (try dsimp only at hSw); obtain ⟨n0, n1, n2, n27, n28, n29, -⟩ := ccBox hSw; clear hSw; go_simp; try with_reducible rfl)
          try simp only [Act.put]
          refine wpAnyH_take (i := 1) (v := ?_) rfl (by kernel_rfl) (by kernel_rfl) (by kernel_rfl) (fun _ _ _ h => h) (Or.inl ⟨by first | kernel_rfl | rfl, ?_⟩) (by assumption) ?_
          rotate_left
          · (intro w' hSw; (try dsimp only at hSw); obtain ⟨n0, n1, n2, n27, n28, n29, -⟩ := ccBox hSw; clear hSw; go_simp; try with_reducible rfl)
          try simp only [Act.put]
          refine wpAnyH_take (i := 2) (v := ?_) rfl (by kernel_rfl) (by kernel_rfl) (by kernel_rfl) (fun _ _ _ h => h) (Or.inl ⟨by first | kernel_rfl | rfl, ?_⟩) (by assumption) ?_
          rotate_left
          · (intro w' hSw; (try dsimp only at hSw); obtain ⟨n0, n1, n2, n27, n28, n29, -⟩ := ccBox hSw; clear hSw; go_simp; try with_reducible rfl)
          try simp only [Act.put]
          refine wpAnyH_take (i := 3) (v := ?_) rfl (by kernel_rfl) (by kernel_rfl) (by kernel_rfl) (fun _ _ _ h => h) (Or.inl ⟨by first | kernel_rfl | rfl, ?_⟩) (by assumption) ?_
          rotate_left
          · (intro w' hSw; (try dsimp only at hSw); obtain ⟨n0, n1, n2, n27, n28, n29, -⟩ := ccBox hSw; clear hSw; go_simp; try with_reducible rfl)
          try simp only [Act.put]
          refine wpAnyH_take (i := 5) (v := ?_) rfl (by kernel_rfl) (by kernel_rfl) (by kernel_rfl) (fun _ _ _ h => h) (Or.inl ⟨by first | kernel_rfl | rfl, ?_⟩) (by assumption) ?_
          rotate_left
          · (intro w' hSw; (try dsimp only at hSw); obtain ⟨n0, n1, n2, n27, n28, n29, -⟩ := ccBox hSw; clear hSw; go_simp; try with_reducible rfl)
          try simp only [Act.put]
          refine wpAnyH_take (i := 6) (v := ?_) rfl (by kernel_rfl) (by kernel_rfl) (by kernel_rfl) (fun _ _ _ h => h) (Or.inl ⟨by first | kernel_rfl | rfl, ?_⟩) (by assumption) ?_
          rotate_left
          · (intro w' hSw; (try dsimp only at hSw); obtain ⟨n0, n1, n2, n27, n28, n29, -⟩ := ccBox hSw; clear hSw; go_simp; try with_reducible rfl)
          try simp only [Act.put]
          refine wpAnyH_take (i := 7) (v := ?_) rfl (by kernel_rfl) (by kernel_rfl) (by kernel_rfl) (fun _ _ _ h => h) (Or.inl ⟨by first | kernel_rfl | rfl, ?_⟩) (by assumption) ?_
          rotate_left
          · (intro w' hSw; (try dsimp only at hSw); obtain ⟨n0, n1, n2, n27, n28, n29, -⟩ := ccBox hSw; clear hSw; go_simp; try with_reducible rfl)
          try simp only [Act.put]
          refine wpAnyH_ready (rs := [4]) (by kernel_rfl) (by simp) ?_
          refine AllReadyH.cons rfl (fun K hK => ?_) AllReadyH.nil
          go_simp
          go_at_call 30
          refine (itoaIs x.kind _ (by omega) (by omega) (P0.out.below DB.out P0.out.lt) t2 H2.out).mono ?_
          rintro e w3 ⟨rfl, hb⟩
          have D1 := Lib.hid (D0.out.below hb D0.out.lt)
          have DW1 := Lib.hid (DW.out.below hb)
          have DC1 := Lib.hid (DC.out.below hb DC.out.lt)
          have DB1 := Lib.hid (DB.out.trans (hb.mono DB.out.size))
          clear hb D0 DW DC DB
          go_wp2_with fail
          refine hK.out _ _ D1.out (fun hHeld1 => ?_)
          clear hK K
          try simp only [Act.put]
          refine wpAnyH_ready (rs := [8]) (by kernel_rfl) (by simp) ?_
          refine AllReadyH.cons rfl (fun K hK => ?_) AllReadyH.nil
          go_simp
          go_at_call 31
          refine (implPtrText_is x.home t4 _ (P0.out.below DB1.out P0.out.lt) H4.out).mono ?_
          rintro e w4 ⟨rfl, hb⟩
          have D2 := Lib.hid (D1.out.below hb D1.out.lt)
          have DW2 := Lib.hid (DW1.out.below hb)
          have DC2 := Lib.hid (DC1.out.below hb DC1.out.lt)
          have DB2 := Lib.hid (DB1.out.trans (hb.mono DB1.out.size))
          clear hb D1 DW1 DC1 DB1
          go_wp2_with fail
          refine hK.out _ _ D2.out (fun hHeld2 => ?_)
          clear hK K
          try simp only [Act.put]
          have hn5 := Below.new (w := w4) (.cells (scs [x.name, t2, miB, t4]).toArray 9)
          have S5 := Lib.hid (sl_strs w4 [x.name, t2, miB, t4] 9 4 rfl (by omega))
          have D3 := Lib.hid (D2.out.below hn5 D2.out.lt)
          have DW3 := Lib.hid (DW2.out.below hn5)
          have DC3 := Lib.hid (DC2.out.below hn5 DC2.out.lt)
          have DB3 := Lib.hid (DB2.out.trans (hn5.mono DB2.out.size))
          have hL5 : Low (w4.alloc (.cells (scs [x.name, t2, miB, t4]).toArray 9)).heap.size (.slice (some ⟨w4.heap.size, 0, none⟩) 4 4) := fun b e => by (have hbx : w4.heap.size = b := (by simpa [Value.ownBlock] using e)); simp; omega
          have hX4 : W0.heap.size ≤ w4.heap.size := Nat.le_trans DW2.out.le (Nat.le_of_lt DW2.out.box.lt)
          clear hn5 D2 DW2 DC2 DB2
          refine wpAnyH_ready (rs := [9]) (by kernel_rfl) (by simp) ?_
          refine AllReadyH.cons rfl (fun K hK => ?_) AllReadyH.nil
          go_simp
          refine hK.out _ _ D3.out (fun hHeld3 => ?_)
          clear hK K
          try simp only [Act.put]
          try (change wpAnyH _ _ _ _ _ _ _ _ (w4.alloc (.cells (scs [x.name, t2, miB, t4]).toArray 9)))
          obtain ⟨G4, HG4⟩ : ∃ G4, Hid (w4.heap.size = G4) := ⟨_, Lib.hid rfl⟩
          generalize w4.alloc (.cells (scs [x.name, t2, miB, t4]).toArray 9) = wa at S5 D3 DW3 DC3 DB3 hL5 ⊢
          refine wpAnyH_ready (rs := [10]) (by kernel_rfl) (by simp) ?_
          refine AllReadyH.cons rfl (fun K hK => ?_) AllReadyH.nil
          go_simp
          go_at_call 28
          refine (lineT_any W0.heap.size W0.heap.size v _ _ [x.name, t2, miB, t4] tl _ DW3.out S5.out hL5 (by rw [rootLines_length, List.length_take]; simp only [List.length_nil]; omega) (by simp) (by omega) HJL.out).mono ?_
          rintro e w6 ⟨rfl, ⟨v6, hw6⟩, hb, htn⟩
          have HW6 := Lib.hid (show Wr w6 W0.heap.size W0.heap.size v6 (rootLines (c.sets.take (k + 1)) []) from by rw [HLS1.out]; exact hw6)
          have D4 := Lib.hid (D3.out.kept (htn.block _ D3.out.lt (fun e => e.elim (fun e => by omega) (fun e => by have := hNV.out _ e; omega))))
          have DC4 := Lib.hid (DC3.out.below hb hX0)
          have DB4 := Lib.hid (DB3.out.trans (hb.mono hX2))
          clear hb hw6 htn DW3 D3 DC3 DB3 S5 hL5 hX4
          go_wp2_with fail
          refine hK.out _ _ D4.out (fun hHeld4 => ?_)
          clear hK K
          try simp only [Act.put]
          refine wpAnyH_done (by kernel_rfl) ?_ _
          go_simp
          clear hHeld hHeld1 hHeld2 hHeld3 hHeld4 D4
          go_wp2
          go_roundw
          case rel => exact ⟨k + 1, v6, by omega, by go_num, HW6, DB4, DC4, HG1⟩
          case measure => simp [RowKit.intOf]; omega
        case neg =>
          have HJL := Lib.hid (HJ.out x.frm (fromB_neI hf))
          have hq := neEmpty hf
          clear hf HJ
          go_wp2_with fail
          have D0 := Lib.hid HX.out.drew
          have DW := Lib.hid HW.out.drew
          have DC := Lib.hid XC.out.drew
          have DB := Lib.hid B.out.drew
          have hwr2 : wr.heap.size < w2.drew.heap.size := D0.out.lt
          clear HX HW XC B n0 n1 n2 n27 n28 n29
          refine wp_region_held_drew (S := fun w' => Box w' wr.heap.size (cc x)) (by kernel_rfl) D0.out (fun hHeld => ?_)
          generalize w2.drew = wd at D0 DW DC DB hwr2 ⊢
          refine wpAnyH_take (i := 0) (v := ?_) rfl (by kernel_rfl) (by kernel_rfl) (by kernel_rfl) (fun _ _ _ h => h) (Or.inl ⟨by first | kernel_rfl | rfl, ?_⟩) (by assumption) ?_
          rotate_left
          · (intro w' hSw; (try dsimp only at hSw); obtain ⟨n0, n1, n2, n27, n28, n29, -⟩ := ccBox hSw; clear hSw; go_simp; try with_reducible rfl)
          try simp only [Act.put]
          refine wpAnyH_take (i := 1) (v := ?_) rfl (by kernel_rfl) (by kernel_rfl) (by kernel_rfl) (fun _ _ _ h => h) (Or.inl ⟨by first | kernel_rfl | rfl, ?_⟩) (by assumption) ?_
          rotate_left
          · (intro w' hSw; (try dsimp only at hSw); obtain ⟨n0, n1, n2, n27, n28, n29, -⟩ := ccBox hSw; clear hSw; go_simp; try with_reducible rfl)
          try simp only [Act.put]
          refine wpAnyH_take (i := 2) (v := ?_) rfl (by kernel_rfl) (by kernel_rfl) (by kernel_rfl) (fun _ _ _ h => h) (Or.inl ⟨by first | kernel_rfl | rfl, ?_⟩) (by assumption) ?_
          rotate_left
          · (intro w' hSw; (try dsimp only at hSw); obtain ⟨n0, n1, n2, n27, n28, n29, -⟩ := ccBox hSw; clear hSw; go_simp; try with_reducible rfl)
          try simp only [Act.put]
          refine wpAnyH_take (i := 3) (v := ?_) rfl (by kernel_rfl) (by kernel_rfl) (by kernel_rfl) (fun _ _ _ h => h) (Or.inl ⟨by first | kernel_rfl | rfl, ?_⟩) (by assumption) ?_
          rotate_left
          · (intro w' hSw; (try dsimp only at hSw); obtain ⟨n0, n1, n2, n27, n28, n29, -⟩ := ccBox hSw; clear hSw; go_simp; try with_reducible rfl)
          try simp only [Act.put]
          refine wpAnyH_take (i := 5) (v := ?_) rfl (by kernel_rfl) (by kernel_rfl) (by kernel_rfl) (fun _ _ _ h => h) (Or.inl ⟨by first | kernel_rfl | rfl, ?_⟩) (by assumption) ?_
          rotate_left
          · (intro w' hSw; (try dsimp only at hSw); obtain ⟨n0, n1, n2, n27, n28, n29, -⟩ := ccBox hSw; clear hSw; go_simp; try with_reducible rfl)
          try simp only [Act.put]
          refine wpAnyH_take (i := 6) (v := ?_) rfl (by kernel_rfl) (by kernel_rfl) (by kernel_rfl) (fun _ _ _ h => h) (Or.inl ⟨by first | kernel_rfl | rfl, ?_⟩) (by assumption) ?_
          rotate_left
          · (intro w' hSw; (try dsimp only at hSw); obtain ⟨n0, n1, n2, n27, n28, n29, -⟩ := ccBox hSw; clear hSw; go_simp; try with_reducible rfl)
          try simp only [Act.put]
          refine wpAnyH_take (i := 7) (v := ?_) rfl (by kernel_rfl) (by kernel_rfl) (by kernel_rfl) (fun _ _ _ h => h) (Or.inl ⟨by first | kernel_rfl | rfl, ?_⟩) (by assumption) ?_
          rotate_left
          · (intro w' hSw; (try dsimp only at hSw); obtain ⟨n0, n1, n2, n27, n28, n29, -⟩ := ccBox hSw; clear hSw; go_simp; try with_reducible rfl)
          try simp only [Act.put]
          refine wpAnyH_ready (rs := [4]) (by kernel_rfl) (by simp) ?_
          refine AllReadyH.cons rfl (fun K hK => ?_) AllReadyH.nil
          go_simp
          go_at_call 30
          refine (itoaIs x.kind _ (by omega) (by omega) (P0.out.below DB.out P0.out.lt) t2 H2.out).mono ?_
          rintro e w3 ⟨rfl, hb⟩
          have D1 := Lib.hid (D0.out.below hb D0.out.lt)
          have DW1 := Lib.hid (DW.out.below hb)
          have DC1 := Lib.hid (DC.out.below hb DC.out.lt)
          have DB1 := Lib.hid (DB.out.trans (hb.mono DB.out.size))
          clear hb D0 DW DC DB
          go_wp2_with fail
          refine hK.out _ _ D1.out (fun hHeld1 => ?_)
          clear hK K
          try simp only [Act.put]
          refine wpAnyH_ready (rs := [8]) (by kernel_rfl) (by simp) ?_
          refine AllReadyH.cons rfl (fun K hK => ?_) AllReadyH.nil
          go_simp
          go_at_call 31
          refine (implPtrText_is x.home t4 _ (P0.out.below DB1.out P0.out.lt) H4.out).mono ?_
          rintro e w4 ⟨rfl, hb⟩
          have D2 := Lib.hid (D1.out.below hb D1.out.lt)
          have DW2 := Lib.hid (DW1.out.below hb)
          have DC2 := Lib.hid (DC1.out.below hb DC1.out.lt)
          have DB2 := Lib.hid (DB1.out.trans (hb.mono DB1.out.size))
          clear hb D1 DW1 DC1 DB1
          go_wp2_with fail
          refine hK.out _ _ D2.out (fun hHeld2 => ?_)
          clear hK K
          try simp only [Act.put]
          have hn5 := Below.new (w := w4) (.cells (scs [x.name, t2, x.frm, t4]).toArray 9)
          have S5 := Lib.hid (sl_strs w4 [x.name, t2, x.frm, t4] 9 4 rfl (by omega))
          have D3 := Lib.hid (D2.out.below hn5 D2.out.lt)
          have DW3 := Lib.hid (DW2.out.below hn5)
          have DC3 := Lib.hid (DC2.out.below hn5 DC2.out.lt)
          have DB3 := Lib.hid (DB2.out.trans (hn5.mono DB2.out.size))
          have hL5 : Low (w4.alloc (.cells (scs [x.name, t2, x.frm, t4]).toArray 9)).heap.size (.slice (some ⟨w4.heap.size, 0, none⟩) 4 4) := fun b e => by (have hbx : w4.heap.size = b := (by simpa [Value.ownBlock] using e)); simp; omega
          have hX4 : W0.heap.size ≤ w4.heap.size := Nat.le_trans DW2.out.le (Nat.le_of_lt DW2.out.box.lt)
          clear hn5 D2 DW2 DC2 DB2
          refine wpAnyH_ready (rs := [9]) (by kernel_rfl) (by simp) ?_
          refine AllReadyH.cons rfl (fun K hK => ?_) AllReadyH.nil
          go_simp
          refine hK.out _ _ D3.out (fun hHeld3 => ?_)
          clear hK K
          try simp only [Act.put]
          try (change wpAnyH _ _ _ _ _ _ _ _ (w4.alloc (.cells (scs [x.name, t2, x.frm, t4]).toArray 9)))
          obtain ⟨G4, HG4⟩ : ∃ G4, Hid (w4.heap.size = G4) := ⟨_, Lib.hid rfl⟩
          generalize w4.alloc (.cells (scs [x.name, t2, x.frm, t4]).toArray 9) = wa at S5 D3 DW3 DC3 DB3 hL5 ⊢
          refine wpAnyH_ready (rs := [10]) (by kernel_rfl) (by simp) ?_
          refine AllReadyH.cons rfl (fun K hK => ?_) AllReadyH.nil
          go_simp
          go_at_call 28
          refine (lineT_any W0.heap.size W0.heap.size v _ _ [x.name, t2, x.frm, t4] tl _ DW3.out S5.out hL5 (by rw [rootLines_length, List.length_take]; simp only [List.length_nil]; omega) (by simp) (by omega) HJL.out).mono ?_
          rintro e w6 ⟨rfl, ⟨v6, hw6⟩, hb, htn⟩
          have HW6 := Lib.hid (show Wr w6 W0.heap.size W0.heap.size v6 (rootLines (c.sets.take (k + 1)) []) from by rw [HLS1.out]; exact hw6)
          have D4 := Lib.hid (D3.out.kept (htn.block _ D3.out.lt (fun e => e.elim (fun e => by omega) (fun e => by have := hNV.out _ e; omega))))
          have DC4 := Lib.hid (DC3.out.below hb hX0)
          have DB4 := Lib.hid (DB3.out.trans (hb.mono hX2))
          clear hb hw6 htn DW3 D3 DC3 DB3 S5 hL5 hX4
          go_wp2_with fail
          refine hK.out _ _ D4.out (fun hHeld4 => ?_)
          clear hK K
          try simp only [Act.put]
          refine wpAnyH_done (by kernel_rfl) ?_ _
          go_simp
          clear hHeld hHeld1 hHeld2 hHeld3 hHeld4 D4
          go_wp2
          go_roundw
          case rel => exact ⟨k + 1, v6, by omega, by go_num, HW6, DB4, DC4, HG1⟩
          case measure => simp [RowKit.intOf]; omega
    case neg =>
      have HSO := Lib.hid (show ∀ x ∈ c.sets, SetOkC x from fun x hx => by
        obtain ⟨i, hi, rfl⟩ := List.mem_iff_getElem.1 hx
        exact HG.out i hi (by omega))
      have HW1 := Lib.hid (show Wr wr W0.heap.size W0.heap.size v (rootLines c.sets (c.parts.take 0)) from by have := HW.out; rw [List.take_of_length_le (by omega)] at this; exact this)
      have hkn : ¬ (k : Int) < (c.sets.length : Int) := by omega
      have n3 := XC.out.cell 3 rfl
      clear HG HW
      go_wp2
      clear n3 hkn hlt
      go_loopw [8, 40] (fun _ i wr => ∃ (k : Nat) (v : Value), k ≤ c.parts.length ∧ i = .int .i64 (k : Int) ∧ Hid (Wr wr W0.heap.size W0.heap.size v (rootLines c.sets (c.parts.take k))) ∧ Hid (Below w.heap.size w wr) ∧ Hid (Box wr w.heap.size (kcore c (.slice A0 c.sets.length k0) (.slice A1 c.ddt.length k1) (.slice A2 c.parts.length k2) (.slice A3 c.safe.length k3))) ∧ Hid (∀ (j : Nat) (h : j < c.parts.length), j < k → GoodM c.parts[j])) (fun _ i _ => c.parts.length - (RowKit.intOf i).toNat)
      case atStart => exact ⟨0, v, Nat.zero_le _, rfl, HW1, B, XC, Lib.hid (fun j _ h => absurd h (Nat.not_lt_zero _))⟩
      case round =>
        clear B XC HW1
        obtain ⟨k, v, hk, rfl, HW, B, XC, HG⟩ := hrel
        by_cases hlt : k < c.parts.length
        case pos =>
          obtain ⟨b, off, c', hvv, _, _, hcell⟩ := (HRD.out.below B.out).p.form (by omega)
          injection hvv with e1 e2 e3
          subst e1 e3
          clear e2
          have hbl : b < wr.heap.size := (HRD.out.below B.out).lp b rfl
          obtain ⟨g0, g1, g2⟩ := ptr_read hcell k hlt
          have hk1 : (k : Int) < (c.parts.length : Int) := by omega
          have HBS := Lib.hid (show ¬ GoodM c.parts[k] → emB = R from fun h => by rw [← HR.out]; unfold rootText; rw [if_neg (fun c' : RootOk _ _ => h (c'.2 _ (List.getElem_mem hlt)))])
          have HGS := Lib.hid (show GoodM c.parts[k] → ∀ (j : Nat) (h : j < c.parts.length), j < k + 1 → GoodM c.parts[j] from fun hg j hj hjk => by
            by_cases e : j = k
            · subst e; exact hg
            · exact HG.out j hj (by omega))
          have HLS := Lib.hid (fun (tl : ByteArray) (h : partLine c.parts[k] = tl) => show rootLines c.sets (c.parts.take (k + 1)) = rootLines c.sets (c.parts.take k) ++ [tl] from by rw [rootLines_part hlt, h])
          have hX1 : W0.heap.size ≤ wr.heap.size := Nat.le_trans HW.out.le (Nat.le_of_lt HW.out.box.lt)
          generalize c.parts[k] = y at g0 g1 g2 HBS HGS HLS
          clear HG hcell
          have hnp := Below.new (w := wr) (.cells #[.int .i64 y.at_, .int .i64 y.sum, .int .i64 y.birth] 48)
          have XB := Lib.hid (box_new wr #[.int .i64 y.at_, .int .i64 y.sum, .int .i64 y.birth] 48)
          have HW' := Lib.hid (HW.out.below hnp)
          have XC' := Lib.hid (XC.out.below hnp XC.out.lt)
          have B' := Lib.hid (B.out.trans (hnp.mono B.out.size))
          clear hnp HW XC B
          by_cases hg : GoodM y
          case neg =>
            have HF := Lib.hid (HBS.out hg)
            have hor := decide_eq_false hg
            clear hg HBS HGS HLS
            go_wp2_with fail
            refine (corePoints_is y _ _ hor).mono ?_
            rintro e w2 ⟨rfl, hb⟩
            have B := Lib.hid (B'.out.trans (hb.mono B'.out.size))
            clear hb B' XB
            go_wp2
            go_ret
            exact ⟨ret_s HF.out, B.out⟩
          case pos =>
            have HG1 := Lib.hid (HGS.out hg)
            have hor := decide_eq_true hg
            obtain ⟨t, HT⟩ : ∃ t, Hid (ptrText y = t) := ⟨_, Lib.hid rfl⟩
            obtain ⟨tl, HTL⟩ : ∃ t, Hid (partLine y = t) := ⟨_, Lib.hid rfl⟩
            have HLS1 := Lib.hid (HLS.out tl HTL.out)
            have htl : tl.size ≤ 110 := by rw [← HTL.out]; exact partLine_bd y
            have HJL := Lib.hid (show joinB [ptB, t] spB = tl from by rw [← HTL.out]; unfold partLine; rw [HT.out])
            clear hg HBS HGS HLS
            go_wp2_with fail
            refine (corePoints_is y _ _ hor).mono ?_
            rintro e w2 ⟨rfl, hb⟩
            have XB2 := Lib.hid (XB.out.below hb XB.out.lt)
            have HW2 := Lib.hid (HW'.out.below hb)
            have XC2 := Lib.hid (XC'.out.below hb XC'.out.lt)
            have B2 := Lib.hid (B'.out.trans (hb.mono B'.out.size))
            obtain ⟨x0, x1, x2⟩ := XB2.out.three
            clear hb XB HW' XC' B' XB2
            go_wp2_with fail
            refine (implPtrText_is y t _ (P0.out.below B2.out P0.out.lt) HT.out).mono ?_
            rintro e w4 ⟨rfl, hb⟩
            have hn5 := Below.new (w := w4) (.cells (scs [ptB, t]).toArray 9)
            have S5 := Lib.hid (sl_strs w4 [ptB, t] 9 2 rfl (by omega))
            have HW3 := Lib.hid ((HW2.out.below hb).below hn5)
            have XC3 := Lib.hid ((XC2.out.below hb XC2.out.lt).below hn5 (Nat.lt_of_lt_of_le XC2.out.lt hb.size))
            have B3 := Lib.hid (B2.out.trans ((hb.trans (hn5.mono hb.size)).mono B2.out.size))
            clear hb hn5 HW2 XC2 B2 x0 x1 x2
            go_wp2_with fail
            refine (line_any W0.heap.size W0.heap.size v _ _ [ptB, t] tl _ HW3.out S5.out (fun b e => by (have hbx : w4.heap.size = b := (by simpa [Value.ownBlock] using e)); simp; omega) (by rw [rootLines_length, List.length_take]; omega) (by simp) (by omega) HJL.out).mono ?_
            rintro e w6 ⟨rfl, ⟨v6, hw6⟩, hb⟩
            have HW6 := Lib.hid (show Wr w6 W0.heap.size W0.heap.size v6 (rootLines c.sets (c.parts.take (k + 1))) from by rw [HLS1.out]; exact hw6)
            have XC4 := Lib.hid (XC3.out.below hb hX0)
            have B4 := Lib.hid (B3.out.trans (hb.mono hX2))
            clear hb hw6 HW3 XC3 B3 S5
            go_wp2
            go_roundw
            case rel => exact ⟨k + 1, v6, by omega, by go_num, HW6, B4, XC4, HG1⟩
            case measure => simp [RowKit.intOf]; omega
        case neg =>
          have HK := Lib.hid (show joinB (rootLines c.sets c.parts) nlB = R from by
            rw [← HR.out]
            unfold rootText
            rw [if_pos (show RootOk c.sets c.parts from ⟨HSO.out, fun x hx => by
              obtain ⟨i, hi, rfl⟩ := List.mem_iff_getElem.1 hx
              exact HG.out i hi (by omega)⟩)])
          have hRs : R.size ≤ 240000000 := by
            rw [← HK.out]
            have h1 := root_bd (ss := c.sets) (ps := c.parts) HSO.out
            omega
          have HW2 := Lib.hid (show Wr wr W0.heap.size W0.heap.size v (rootLines c.sets c.parts) from by have := HW.out; rw [List.take_of_length_le (by omega)] at this; exact this)
          have hkn : ¬ (k : Int) < (c.parts.length : Int) := by omega
          clear HG HW
          go_wp2_with fail
          refine (text_wr W0.heap.size W0.heap.size v _ R _ HW2.out (by rw [rootLines_length]; omega) (by omega) HK.out).mono ?_
          rintro e w7 ⟨rfl, hb⟩
          have B7 := Lib.hid (B.out.trans (hb.mono B.out.size))
          clear hb B HW2
          go_wp2
          go_ret
          exact ⟨rfl, B7.out⟩
theorem implRoot_is (vs vd vp vi : Value) (c : CoreM) (r : ByteArray) (w : World) (h : CoreR w vs vd vp vi c) (hs : CoreShort c) (hp : HasPow w) (hr : rootText c.sets c.parts = r) :
    Calls Tryd.prog 8 #[cv c vs vd vp vi] w fun e w' => e = .returned (.string r) ∧ Below w.heap.size w w' := hr ▸ implRoot_any vs vd vp vi c w h hs hp
end Go.Proofs.YthcfiobnnceomaaDoor

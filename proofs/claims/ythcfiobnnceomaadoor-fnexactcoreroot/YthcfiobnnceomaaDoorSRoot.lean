/-
  The document's CoreRoot.
-/
import Derived.Test.YthcfiobnnceomaaDoorRootM
import Derived.Test.YthcfiobnnceomaaDoorSSet
import Derived.Test.YthcfiobnnceomaaDoorKBox
import Derived.Test.YthcfiobnnceomaaDoorINm
import Derived.Test.YthcfiobnnceomaaDoorSpecRoots
import Derived.Deep.RegionHeld3
set_option maxRecDepth 100000
namespace Go.Proofs.YthcfiobnnceomaaDoor
open Go.ChangeShapes Go.WideShapes Go.ChangeAt Go.RowKit Go.Proofs.Palim

theorem fromB_zero {s : ByteArray} (h : s.size = 0) : fromB s = miB := if_pos h
theorem fromB_ne {s : ByteArray} (h : ¬ s.size = 0) : fromB s = s := if_neg h
theorem l6From_is (s t : ByteArray) (w : World) (ht : fromB s = t) :
    Calls Tryd.prog 21 #[.string s] w fun e w' => e = .returned (.string t) ∧ Below w.heap.size w w' := by
  by_cases h : s.size = 0
  · have HT := Lib.hid ((fromB_zero h).symm.trans ht)
    have hq := eqEmpty h
    go_enter Tryd.func21, Tryd.ntmps21
    go_wp2
    go_ret
    exact ⟨ret_s HT.out, Below.refl _ _⟩
  · have HT := Lib.hid ((fromB_ne h).symm.trans ht)
    have hq := neEmpty h
    go_enter Tryd.func21, Tryd.ntmps21
    go_wp2
    go_ret
    exact ⟨ret_s HT.out, Below.refl _ _⟩

set_option maxHeartbeats 6000000 in
theorem specRoot_any (vs vd vp vi : Value) (c : CoreM) (w : World) (h : CoreR w vs vd vp vi c) (hs : CoreShort c) :
    Calls Tryd.prog 6 #[cv c vs vd vp vi] w fun e w' => e = .returned (.string (rootText c.sets c.parts)) ∧ Below w.heap.size w w' := by
  have hnot : ∀ (x : Bool) (w : World), (Op.unary .not (.bool x)).run Tryd.prog w = .ok (.bool (!x)) w := fun _ _ => rfl
  obtain ⟨R, HR⟩ : ∃ R, Hid (rootText c.sets c.parts = R) := ⟨_, Lib.hid rfl⟩
  rw [HR.out]
  have HS := Lib.hid hs
  obtain ⟨A0, k0, A1, k1, A2, k2, A3, k3, rfl, rfl, rfl, rfl⟩ := h.forms
  have HRD := Lib.hid h
  have B := Lib.hid (Below.new1 (w := w) (.cells #[.int .i64 c.txg, .slice A0 c.sets.length k0, .slice A1 c.ddt.length k1, .slice A2 c.parts.length k2, .bool c.dirty, .slice A3 c.safe.length k3, .int .i64 c.logn] 34))
  have XC := Lib.hid ((kbox_new h 34).box)
  clear h hs
  go_enter Tryd.func6, Tryd.ntmps6
  go_upto_region 1 with fail
  obtain ⟨W0, HWE⟩ : ∃ W0, w.alloc (.cells #[.int .i64 c.txg, .slice A0 c.sets.length k0, .slice A1 c.ddt.length k1, .slice A2 c.parts.length k2, .bool c.dirty, .slice A3 c.safe.length k3, .int .i64 c.logn] 34) = W0 := ⟨_, rfl⟩
  have hW0 : W0.heap.size = w.heap.size + 1 := by rw [← HWE]; simp
  rw [HWE] at XC B ⊢
  clear HWE
  go_wp2
  go_loopw [3, 4, 5] (fun s i _ wr => ∃ (k : Nat) (o : ByteArray), k ≤ c.sets.length ∧ s = .string o ∧ i = .int .i64 (k : Int) ∧ Hid (o = joinB (rootLines (c.sets.take k) []) nlB) ∧ Hid (Below w.heap.size w wr) ∧ Hid (Box wr w.heap.size (kcore c (.slice A0 c.sets.length k0) (.slice A1 c.ddt.length k1) (.slice A2 c.parts.length k2) (.slice A3 c.safe.length k3))) ∧ Hid (∀ (j : Nat) (h : j < c.sets.length), j < k → SetOkC c.sets[j])) (fun _ i _ _ => c.sets.length - (RowKit.intOf i).toNat)
  case atStart => exact ⟨0, rootB, Nat.zero_le _, rfl, rfl, Lib.hid (joinB_one rootB nlB).symm, B, XC, Lib.hid (fun j _ h => absurd h (Nat.not_lt_zero _))⟩
  case round =>
    clear B XC
    obtain ⟨k, o, hk, rfl, rfl, HO, B, XC, HG⟩ := hrel
    have n1 := XC.out.cell 1 rfl
    have hsl := HS.out.s
    by_cases hlt : k < c.sets.length
    case pos =>
      obtain ⟨b, off, c', hvv, _, _, hcell⟩ := (HRD.out.below B.out).s.form (by omega)
      injection hvv with e1 e2 e3
      subst e1 e3
      clear e2
      have hk1 : (k : Int) < (c.sets.length : Int) := by omega
      have HRS := Lib.hid (cset_read hcell k hlt)
      have HZK := Lib.hid (HS.out.z _ (List.getElem_mem hlt))
      have HBS := Lib.hid (show ¬ SetOkC c.sets[k] → emB = R from fun h => by rw [← HR.out]; unfold rootText; rw [if_neg (fun c' : RootOk _ _ => h (c'.1 _ (List.getElem_mem hlt)))])
      have HGS := Lib.hid (show SetOkC c.sets[k] → ∀ (j : Nat) (h : j < c.sets.length), j < k + 1 → SetOkC c.sets[j] from fun hg j hj hjk => by
        by_cases e : j = k
        · subst e; exact hg
        · exact HG.out j hj (by omega))
      have HOS := Lib.hid (fun (t1 t2 t3 t4 : ByteArray) (h1 : c.sets[k].name = t1) (h2 : kindB c.sets[k].kind = t2) (h3 : fromB c.sets[k].frm = t3) (h4 : ptrText c.sets[k].home = t4) => root_set hlt HO.out h1 h2 h3 h4)
      have hos : o.size ≤ 240000000 := by
        have h1 := root_bd (ss := c.sets.take k) (ps := []) (fun x hx => by
          obtain ⟨i, hi, rfl⟩ := List.mem_iff_getElem.1 hx
          rw [List.length_take] at hi
          rw [List.getElem_take]
          exact HG.out i (by omega) (by omega))
        rw [← HO.out, List.length_take] at h1
        simp only [List.length_nil] at h1
        omega
      generalize c.sets[k] = x at HRS HBS HGS HZK HOS
      clear HG hcell HO
      by_cases hg : SetOkC x
      case neg =>
        have HF := Lib.hid (HBS.out hg)
        have hor := decide_eq_false hg
        clear hg HBS HGS HOS
        have hn1 := Below.new1 (w := wr) (.cells #[.string ⟨#[]⟩, .int .i64 0, .string ⟨#[]⟩, .int .i64 0, .int .i64 0, .int .i64 0, .int .i64 0, .int .i64 0, .int .i64 0, .int .i64 0, .int .i64 0, .int .i64 0, .int .i64 0, .int .i64 0, .int .i64 0, .int .i64 0, .int .i64 0, .int .i64 0, .int .i64 0, .int .i64 0, .int .i64 0, .int .i64 0, .int .i64 0, .int .i64 0, .int .i64 0, .int .i64 0, .int .i64 0, .int .i64 0, .int .i64 0, .int .i64 0, .bool false] 51)
        have HBX := Lib.hid ((show Box _ wr.heap.size [.string ⟨#[]⟩, .int .i64 0, .string ⟨#[]⟩, .int .i64 0, .int .i64 0, .int .i64 0, .int .i64 0, .int .i64 0, .int .i64 0, .int .i64 0, .int .i64 0, .int .i64 0, .int .i64 0, .int .i64 0, .int .i64 0, .int .i64 0, .int .i64 0, .int .i64 0, .int .i64 0, .int .i64 0, .int .i64 0, .int .i64 0, .int .i64 0, .int .i64 0, .int .i64 0, .int .i64 0, .int .i64 0, .int .i64 0, .int .i64 0, .int .i64 0, .bool false] from box_new wr #[.string ⟨#[]⟩, .int .i64 0, .string ⟨#[]⟩, .int .i64 0, .int .i64 0, .int .i64 0, .int .i64 0, .int .i64 0, .int .i64 0, .int .i64 0, .int .i64 0, .int .i64 0, .int .i64 0, .int .i64 0, .int .i64 0, .int .i64 0, .int .i64 0, .int .i64 0, .int .i64 0, .int .i64 0, .int .i64 0, .int .i64 0, .int .i64 0, .int .i64 0, .int .i64 0, .int .i64 0, .int .i64 0, .int .i64 0, .int .i64 0, .int .i64 0, .bool false] 51).putAll (cc x) (by rw [cc_length]; rfl))
        have hpb : Below wr.heap.size wr (putC (wr.alloc (.cells #[.string ⟨#[]⟩, .int .i64 0, .string ⟨#[]⟩, .int .i64 0, .int .i64 0, .int .i64 0, .int .i64 0, .int .i64 0, .int .i64 0, .int .i64 0, .int .i64 0, .int .i64 0, .int .i64 0, .int .i64 0, .int .i64 0, .int .i64 0, .int .i64 0, .int .i64 0, .int .i64 0, .int .i64 0, .int .i64 0, .int .i64 0, .int .i64 0, .int .i64 0, .int .i64 0, .int .i64 0, .int .i64 0, .int .i64 0, .int .i64 0, .int .i64 0, .bool false] 51)) wr.heap.size 0 (cc x)) := putC_below hn1 _ _ (Nat.le_refl _) _
        have HNX := Lib.hid (show Box _ wr.heap.size [.string ⟨#[]⟩, .int .i64 0, .string ⟨#[]⟩, .int .i64 0, .int .i64 0, .int .i64 0, .int .i64 0, .int .i64 0, .int .i64 0, .int .i64 0, .int .i64 0, .int .i64 0, .int .i64 0, .int .i64 0, .int .i64 0, .int .i64 0, .int .i64 0, .int .i64 0, .int .i64 0, .int .i64 0, .int .i64 0, .int .i64 0, .int .i64 0, .int .i64 0, .int .i64 0, .int .i64 0, .int .i64 0, .int .i64 0, .int .i64 0, .int .i64 0, .bool false] from box_new wr #[.string ⟨#[]⟩, .int .i64 0, .string ⟨#[]⟩, .int .i64 0, .int .i64 0, .int .i64 0, .int .i64 0, .int .i64 0, .int .i64 0, .int .i64 0, .int .i64 0, .int .i64 0, .int .i64 0, .int .i64 0, .int .i64 0, .int .i64 0, .int .i64 0, .int .i64 0, .int .i64 0, .int .i64 0, .int .i64 0, .int .i64 0, .int .i64 0, .int .i64 0, .int .i64 0, .int .i64 0, .int .i64 0, .int .i64 0, .int .i64 0, .int .i64 0, .bool false] 51)
        have XC' := Lib.hid (XC.out.below hpb XC.out.lt)
        have B' := Lib.hid (B.out.trans (hpb.mono B.out.size))
        clear hn1 hpb XC B
        have XC := XC'
        have B := B'
        clear XC' B'
        go_wp2_with (first | (refine wpList_load_cs rfl _ rfl aggSetD rfl (cc x) (cc_length x) HRS.out ?_) | (refine wpList_load_box rfl _ rfl aggSetD rfl (cc x) (cc_length x) HBX.out ?_) | (refine wpList_store_box rfl _ _ rfl rfl aggSetD rfl (cc x) rfl (cc_length x) (cc_one x) [.string ⟨#[]⟩, .int .i64 0, .string ⟨#[]⟩, .int .i64 0, .int .i64 0, .int .i64 0, .int .i64 0, .int .i64 0, .int .i64 0, .int .i64 0, .int .i64 0, .int .i64 0, .int .i64 0, .int .i64 0, .int .i64 0, .int .i64 0, .int .i64 0, .int .i64 0, .int .i64 0, .int .i64 0, .int .i64 0, .int .i64 0, .int .i64 0, .int .i64 0, .int .i64 0, .int .i64 0, .int .i64 0, .int .i64 0, .int .i64 0, .int .i64 0, .bool false] HNX.out rfl ?_; clear HNX; generalize putC (wr.alloc (.cells #[.string ⟨#[]⟩, .int .i64 0, .string ⟨#[]⟩, .int .i64 0, .int .i64 0, .int .i64 0, .int .i64 0, .int .i64 0, .int .i64 0, .int .i64 0, .int .i64 0, .int .i64 0, .int .i64 0, .int .i64 0, .int .i64 0, .int .i64 0, .int .i64 0, .int .i64 0, .int .i64 0, .int .i64 0, .int .i64 0, .int .i64 0, .int .i64 0, .int .i64 0, .int .i64 0, .int .i64 0, .int .i64 0, .int .i64 0, .int .i64 0, .int .i64 0, .bool false] 51)) wr.heap.size 0 (cc x) = W1 at HBX B XC ⊢))
        refine (specSet_is x _ _ HZK.out hor).mono ?_
        rintro e w2 ⟨rfl, hb⟩
        have B' := Lib.hid (B.out.trans (hb.mono B.out.size))
        clear hb HBX B
        go_wp2
        go_ret
        exact ⟨ret_s HF.out, B'.out⟩
      case pos =>
        have HG1 := Lib.hid (HGS.out hg)
        have hor := decide_eq_true hg
        obtain ⟨t1, H1⟩ : ∃ t, Hid (x.name = t) := ⟨_, Lib.hid rfl⟩
        obtain ⟨t2, H2⟩ : ∃ t, Hid ((⟨(Lib.itoa x.kind).toArray⟩ : ByteArray) = t) := ⟨_, Lib.hid rfl⟩
        obtain ⟨t3, H3⟩ : ∃ t, Hid (fromB x.frm = t) := ⟨_, Lib.hid rfl⟩
        obtain ⟨t4, H4⟩ : ∃ t, Hid (ptrText x.home = t) := ⟨_, Lib.hid rfl⟩
        have HO1 := Lib.hid (HOS.out t1 t2 t3 t4 H1.out H2.out H3.out H4.out)
        have hkd := hg.2.2.1
        have z1 : t1.size ≤ 6 := by rw [← H1.out]; exact hg.1.2.1
        have z2 : t2.size ≤ 21 := by rw [← H2.out]; exact kindB_bd _ hg.2.2.1
        have z3 : t3.size ≤ 6 := by rw [← H3.out]; exact fromB_bd _ hg.2.1
        have z4 : t4.size ≤ 65 := by rw [← H4.out]; exact ptrText_le _
        have zs : spB.size = 1 := rfl
        have zn : nlB.size = 1 := rfl
        have ka0 : ∀ w, (Op.stringOp .add (o) nlB).run Tryd.prog w = .ok (.string (o ++ nlB)) w := add_str _ _ (by (try simp only [ByteArray.size_append]); omega)
        have ka1 : ∀ w, (Op.stringOp .add (o ++ nlB) t1).run Tryd.prog w = .ok (.string (o ++ nlB ++ t1)) w := add_str _ _ (by (try simp only [ByteArray.size_append]); omega)
        have ka2 : ∀ w, (Op.stringOp .add (o ++ nlB ++ t1) spB).run Tryd.prog w = .ok (.string (o ++ nlB ++ t1 ++ spB)) w := add_str _ _ (by (try simp only [ByteArray.size_append]); omega)
        have ka3 : ∀ w, (Op.stringOp .add (o ++ nlB ++ t1 ++ spB) t2).run Tryd.prog w = .ok (.string (o ++ nlB ++ t1 ++ spB ++ t2)) w := add_str _ _ (by (try simp only [ByteArray.size_append]); omega)
        have ka4 : ∀ w, (Op.stringOp .add (o ++ nlB ++ t1 ++ spB ++ t2) spB).run Tryd.prog w = .ok (.string (o ++ nlB ++ t1 ++ spB ++ t2 ++ spB)) w := add_str _ _ (by (try simp only [ByteArray.size_append]); omega)
        have ka5 : ∀ w, (Op.stringOp .add (o ++ nlB ++ t1 ++ spB ++ t2 ++ spB) t3).run Tryd.prog w = .ok (.string (o ++ nlB ++ t1 ++ spB ++ t2 ++ spB ++ t3)) w := add_str _ _ (by (try simp only [ByteArray.size_append]); omega)
        have ka6 : ∀ w, (Op.stringOp .add (o ++ nlB ++ t1 ++ spB ++ t2 ++ spB ++ t3) spB).run Tryd.prog w = .ok (.string (o ++ nlB ++ t1 ++ spB ++ t2 ++ spB ++ t3 ++ spB)) w := add_str _ _ (by (try simp only [ByteArray.size_append]); omega)
        have ka7 : ∀ w, (Op.stringOp .add (o ++ nlB ++ t1 ++ spB ++ t2 ++ spB ++ t3 ++ spB) t4).run Tryd.prog w = .ok (.string (o ++ nlB ++ t1 ++ spB ++ t2 ++ spB ++ t3 ++ spB ++ t4)) w := add_str _ _ (by (try simp only [ByteArray.size_append]); omega)
        clear hg HBS HGS HOS
        have hn1 := Below.new1 (w := wr) (.cells #[.string ⟨#[]⟩, .int .i64 0, .string ⟨#[]⟩, .int .i64 0, .int .i64 0, .int .i64 0, .int .i64 0, .int .i64 0, .int .i64 0, .int .i64 0, .int .i64 0, .int .i64 0, .int .i64 0, .int .i64 0, .int .i64 0, .int .i64 0, .int .i64 0, .int .i64 0, .int .i64 0, .int .i64 0, .int .i64 0, .int .i64 0, .int .i64 0, .int .i64 0, .int .i64 0, .int .i64 0, .int .i64 0, .int .i64 0, .int .i64 0, .int .i64 0, .bool false] 51)
        have HBX := Lib.hid ((show Box _ wr.heap.size [.string ⟨#[]⟩, .int .i64 0, .string ⟨#[]⟩, .int .i64 0, .int .i64 0, .int .i64 0, .int .i64 0, .int .i64 0, .int .i64 0, .int .i64 0, .int .i64 0, .int .i64 0, .int .i64 0, .int .i64 0, .int .i64 0, .int .i64 0, .int .i64 0, .int .i64 0, .int .i64 0, .int .i64 0, .int .i64 0, .int .i64 0, .int .i64 0, .int .i64 0, .int .i64 0, .int .i64 0, .int .i64 0, .int .i64 0, .int .i64 0, .int .i64 0, .bool false] from box_new wr #[.string ⟨#[]⟩, .int .i64 0, .string ⟨#[]⟩, .int .i64 0, .int .i64 0, .int .i64 0, .int .i64 0, .int .i64 0, .int .i64 0, .int .i64 0, .int .i64 0, .int .i64 0, .int .i64 0, .int .i64 0, .int .i64 0, .int .i64 0, .int .i64 0, .int .i64 0, .int .i64 0, .int .i64 0, .int .i64 0, .int .i64 0, .int .i64 0, .int .i64 0, .int .i64 0, .int .i64 0, .int .i64 0, .int .i64 0, .int .i64 0, .int .i64 0, .bool false] 51).putAll (cc x) (by rw [cc_length]; rfl))
        have hpb : Below wr.heap.size wr (putC (wr.alloc (.cells #[.string ⟨#[]⟩, .int .i64 0, .string ⟨#[]⟩, .int .i64 0, .int .i64 0, .int .i64 0, .int .i64 0, .int .i64 0, .int .i64 0, .int .i64 0, .int .i64 0, .int .i64 0, .int .i64 0, .int .i64 0, .int .i64 0, .int .i64 0, .int .i64 0, .int .i64 0, .int .i64 0, .int .i64 0, .int .i64 0, .int .i64 0, .int .i64 0, .int .i64 0, .int .i64 0, .int .i64 0, .int .i64 0, .int .i64 0, .int .i64 0, .int .i64 0, .bool false] 51)) wr.heap.size 0 (cc x)) := putC_below hn1 _ _ (Nat.le_refl _) _
        have HNX := Lib.hid (show Box _ wr.heap.size [.string ⟨#[]⟩, .int .i64 0, .string ⟨#[]⟩, .int .i64 0, .int .i64 0, .int .i64 0, .int .i64 0, .int .i64 0, .int .i64 0, .int .i64 0, .int .i64 0, .int .i64 0, .int .i64 0, .int .i64 0, .int .i64 0, .int .i64 0, .int .i64 0, .int .i64 0, .int .i64 0, .int .i64 0, .int .i64 0, .int .i64 0, .int .i64 0, .int .i64 0, .int .i64 0, .int .i64 0, .int .i64 0, .int .i64 0, .int .i64 0, .int .i64 0, .bool false] from box_new wr #[.string ⟨#[]⟩, .int .i64 0, .string ⟨#[]⟩, .int .i64 0, .int .i64 0, .int .i64 0, .int .i64 0, .int .i64 0, .int .i64 0, .int .i64 0, .int .i64 0, .int .i64 0, .int .i64 0, .int .i64 0, .int .i64 0, .int .i64 0, .int .i64 0, .int .i64 0, .int .i64 0, .int .i64 0, .int .i64 0, .int .i64 0, .int .i64 0, .int .i64 0, .int .i64 0, .int .i64 0, .int .i64 0, .int .i64 0, .int .i64 0, .int .i64 0, .bool false] 51)
        have XC' := Lib.hid (XC.out.below hpb XC.out.lt)
        have B' := Lib.hid (B.out.trans (hpb.mono B.out.size))
        clear hn1 hpb XC B
        have XC := XC'
        have B := B'
        clear XC' B'
        go_wp2_with (first | (refine wpList_load_cs rfl _ rfl aggSetD rfl (cc x) (cc_length x) HRS.out ?_) | (refine wpList_load_box rfl _ rfl aggSetD rfl (cc x) (cc_length x) HBX.out ?_) | (refine wpList_store_box rfl _ _ rfl rfl aggSetD rfl (cc x) rfl (cc_length x) (cc_one x) [.string ⟨#[]⟩, .int .i64 0, .string ⟨#[]⟩, .int .i64 0, .int .i64 0, .int .i64 0, .int .i64 0, .int .i64 0, .int .i64 0, .int .i64 0, .int .i64 0, .int .i64 0, .int .i64 0, .int .i64 0, .int .i64 0, .int .i64 0, .int .i64 0, .int .i64 0, .int .i64 0, .int .i64 0, .int .i64 0, .int .i64 0, .int .i64 0, .int .i64 0, .int .i64 0, .int .i64 0, .int .i64 0, .int .i64 0, .int .i64 0, .int .i64 0, .bool false] HNX.out rfl ?_; clear HNX; generalize putC (wr.alloc (.cells #[.string ⟨#[]⟩, .int .i64 0, .string ⟨#[]⟩, .int .i64 0, .int .i64 0, .int .i64 0, .int .i64 0, .int .i64 0, .int .i64 0, .int .i64 0, .int .i64 0, .int .i64 0, .int .i64 0, .int .i64 0, .int .i64 0, .int .i64 0, .int .i64 0, .int .i64 0, .int .i64 0, .int .i64 0, .int .i64 0, .int .i64 0, .int .i64 0, .int .i64 0, .int .i64 0, .int .i64 0, .int .i64 0, .int .i64 0, .int .i64 0, .int .i64 0, .bool false] 51)) wr.heap.size 0 (cc x) = W1 at HBX B XC ⊢))
        refine (specSet_is x _ _ HZK.out hor).mono ?_
        rintro e w2 ⟨rfl, hb⟩
        have HB2 := Lib.hid (HBX.out.below hb HBX.out.lt)
        have XC' := Lib.hid (XC.out.below hb XC.out.lt)
        have B' := Lib.hid (B.out.trans (hb.mono B.out.size))
        clear hb HBX B XC
        have XC := XC'
        have B := B'
        clear XC' B'
        obtain ⟨n0, n1', n2, n27, n28, n29, -⟩ := ccBox HB2.out
        rw [H1.out] at n0
        have hlt2 : wr.heap.size < w2.heap.size := HB2.out.lt
        clear HB2 n1
        have n1 := n1'
        clear n1'
        go_wp2_with fail
        go_region_held3 (fun w' => w2.heap.size ≤ w'.heap.size ∧ w'.cell? ⟨wr.heap.size, 0, none⟩ = some (.string t1) ∧ w'.cell? ⟨wr.heap.size, 1, none⟩ = some (.int .i64 x.kind) ∧ w'.cell? ⟨wr.heap.size, 2, none⟩ = some (.string x.frm) ∧ w'.cell? ⟨wr.heap.size, 27, none⟩ = some (.int .i64 x.home.at_) ∧ w'.cell? ⟨wr.heap.size, 28, none⟩ = some (.int .i64 x.home.sum) ∧ w'.cell? ⟨wr.heap.size, 29, none⟩ = some (.int .i64 x.home.birth))
    (first
      | exact ⟨by simp, n0, n1, n2, n27, n28, n29⟩
      | (go_split_ands
         refine ⟨Nat.le_trans (by assumption) hb5.size, ?_, ?_, ?_, ?_, ?_, ?_⟩
         all_goals (rw [hb5.cell (by simp <;> omega)]; assumption))
      | (go_split_ands
         refine ⟨Nat.le_trans (by assumption) hb4.size, ?_, ?_, ?_, ?_, ?_, ?_⟩
         all_goals (rw [hb4.cell (by simp <;> omega)]; assumption))
      | (go_split_ands
         refine ⟨Nat.le_trans (by assumption) hb3.size, ?_, ?_, ?_, ?_, ?_, ?_⟩
         all_goals (rw [hb3.cell (by simp <;> omega)]; assumption)))
    (first
      | (go_at_call 20; ((with_reducible refine (decIs x.kind _ (by omega) (by omega) t2 H2.out).mono ?_); rintro e w3 ⟨rfl, hb3⟩))
      | (go_at_call 21; ((with_reducible refine (l6From_is x.frm t3 _ H3.out).mono ?_); rintro e w4 ⟨rfl, hb4⟩))
      | (go_at_call 22; ((with_reducible refine (specPtrText_is x.home t4 _ H4.out).mono ?_); rintro e w5 ⟨rfl, hb5⟩)))
        have hb14 := below_three' (a := w2) hb3 hb4 hb5
        have XC' := Lib.hid (XC.out.below hb14 XC.out.lt)
        have B' := Lib.hid (B.out.trans (hb14.mono B.out.size))
        clear hb3 hb4 hb5 hb14 XC B n0 n1 n2 n27 n28 n29 ka0 ka1 ka2 ka3 ka4 ka5 ka6 ka7
        go_wp2
        go_roundw
        case rel => exact ⟨k + 1, _, by omega, rfl, by go_num, HO1, B', XC', HG1⟩
        case measure => simp [RowKit.intOf]; omega
    case neg =>
      have HSO := Lib.hid (show ∀ x ∈ c.sets, SetOkC x from fun x hx => by
        obtain ⟨i, hi, rfl⟩ := List.mem_iff_getElem.1 hx
        exact HG.out i hi (by omega))
      have HO1 := Lib.hid (show o = joinB (rootLines c.sets (c.parts.take 0)) nlB from by have := HO.out; rw [List.take_of_length_le (by omega)] at this; exact this)
      have hkn : ¬ (k : Int) < (c.sets.length : Int) := by omega
      clear HG HO
      go_wp2
      clear n1 hkn hlt
      go_loopw [3, 6] (fun s i wr => ∃ (k : Nat) (o : ByteArray), k ≤ c.parts.length ∧ s = .string o ∧ i = .int .i64 (k : Int) ∧ Hid (o = joinB (rootLines c.sets (c.parts.take k)) nlB) ∧ Hid (Below w.heap.size w wr) ∧ Hid (Box wr w.heap.size (kcore c (.slice A0 c.sets.length k0) (.slice A1 c.ddt.length k1) (.slice A2 c.parts.length k2) (.slice A3 c.safe.length k3))) ∧ Hid (∀ (j : Nat) (h : j < c.parts.length), j < k → GoodM c.parts[j])) (fun _ i _ => c.parts.length - (RowKit.intOf i).toNat)
      case atStart => exact ⟨0, o, Nat.zero_le _, rfl, rfl, HO1, B, XC, Lib.hid (fun j _ h => absurd h (Nat.not_lt_zero _))⟩
      case round =>
        clear B XC HO1
        obtain ⟨k, o, hk, rfl, rfl, HO, B, XC, HG⟩ := hrel
        have n3 := XC.out.cell 3 rfl
        have hpl := HS.out.p
        have hsl := HS.out.s
        by_cases hlt : k < c.parts.length
        case pos =>
          obtain ⟨b, off, c', hvv, _, _, hcell⟩ := (HRD.out.below B.out).p.form (by omega)
          injection hvv with e1 e2 e3
          subst e1 e3
          clear e2
          have hbl : b < wr.heap.size := (HRD.out.below B.out).lp b rfl
          obtain ⟨g0, g1, g2⟩ := ptr_read hcell k hlt
          have hk1 : (k : Int) < (c.parts.length : Int) := by omega
          have HBS := Lib.hid (show ¬ GoodM c.parts[k] → emB = R from fun h => by rw [← HR.out]; unfold rootText; rw [if_neg (fun c' : RootOk _ _ => h (c'.2 _ (List.getElem_mem hlt)))])
          have HGS := Lib.hid (show GoodM c.parts[k] → ∀ (j : Nat) (h : j < c.parts.length), j < k + 1 → GoodM c.parts[j] from fun hg j hj hjk => by
            by_cases e : j = k
            · subst e; exact hg
            · exact HG.out j hj (by omega))
          have HOS := Lib.hid (fun (t : ByteArray) (ht : ptrText c.parts[k] = t) => root_part (ss := c.sets) hlt HO.out ht)
          have hos : o.size ≤ 240000000 := by
            have h1 := root_bd (ss := c.sets) (ps := c.parts.take k) HSO.out
            rw [← HO.out, List.length_take] at h1
            omega
          generalize c.parts[k] = y at g0 g1 g2 HBS HGS HOS
          clear HG hcell
          by_cases hpo : PtrOkM y
          case neg =>
            have HF := Lib.hid (HBS.out (fun c => hpo (Or.inr c)))
            have hor := decide_eq_false hpo
            clear hpo HBS HGS HOS HO
            go_wp2_with fail
            refine (specPtrOk_is y _ _ hor).mono ?_
            rintro e w1 ⟨rfl, hb⟩
            have B' := Lib.hid (B.out.trans (hb.mono B.out.size))
            clear hb B
            go_wp2
            go_ret
            exact ⟨ret_s HF.out, B'.out⟩
          case pos =>
            have hor := decide_eq_true hpo
            by_cases hy0 : y.at_ = 0
            case pos =>
              have HF := Lib.hid (HBS.out (fun c => by have := c.1; omega))
              have hq1 : (y.at_ == 0) = true := by simpa using hy0
              have hq2 : decide (y.at_ = 0) = true := by simpa using hy0
              clear hpo HBS HGS hy0 HOS HO
              go_wp2_with fail
              refine (specPtrOk_is y _ _ hor).mono ?_
              rintro e w1 ⟨rfl, hb⟩
              have g0' := (hb.cell (p := ⟨b, off + k * 3, none⟩) hbl).trans g0
              have XC' := Lib.hid (XC.out.below hb XC.out.lt)
              have B' := Lib.hid (B.out.trans (hb.mono B.out.size))
              clear hb XC B
              have XC := XC'
              have B := B'
              clear XC' B'
              have n3' := XC.out.cell 3 rfl
              clear g0 n3
              go_wp2
              go_ret
              exact ⟨ret_s HF.out, B.out⟩
            case neg =>
              have hgy : GoodM y := by rcases hpo with h | h; exact absurd h.1 hy0; exact h
              have HG1 := Lib.hid (HGS.out hgy)
              have hq1 : (y.at_ == 0) = false := by simpa using hy0
              have hq2 : decide (y.at_ = 0) = false := by simpa using hy0
              obtain ⟨t, HT⟩ : ∃ t, Hid (ptrText y = t) := ⟨_, Lib.hid rfl⟩
              have HO1 := Lib.hid (HOS.out t HT.out)
              have zt : t.size ≤ 65 := by rw [← HT.out]; exact ptrText_le _
              have z3 : (⟨#[10, 46, 32]⟩ : ByteArray).size = 3 := rfl
              have ka0 : ∀ w, (Op.stringOp .add o (⟨#[10, 46, 32]⟩ : ByteArray)).run Tryd.prog w = .ok (.string (o ++ (⟨#[10, 46, 32]⟩ : ByteArray))) w := add_str _ _ (by omega)
              have ka1 : ∀ w, (Op.stringOp .add (o ++ (⟨#[10, 46, 32]⟩ : ByteArray)) t).run Tryd.prog w = .ok (.string (o ++ (⟨#[10, 46, 32]⟩ : ByteArray) ++ t)) w := add_str _ _ (by simp only [ByteArray.size_append]; omega)
              clear hpo HBS HGS hy0 HOS HO hgy
              go_wp2_with fail
              refine (specPtrOk_is y _ _ hor).mono ?_
              rintro e w1 ⟨rfl, hb⟩
              have g0' := (hb.cell (p := ⟨b, off + k * 3, none⟩) hbl).trans g0
              have g1' := (hb.cell (p := ⟨b, off + k * 3 + 1, none⟩) hbl).trans g1
              have g2' := (hb.cell (p := ⟨b, off + k * 3 + 2, none⟩) hbl).trans g2
              have XC' := Lib.hid (XC.out.below hb XC.out.lt)
              have B' := Lib.hid (B.out.trans (hb.mono B.out.size))
              clear hb XC B
              have XC := XC'
              have B := B'
              clear XC' B'
              have n3' := XC.out.cell 3 rfl
              clear g0 n3 g1 g2
              go_wp2_with fail
              refine (specPtrText_is y t _ HT.out).mono ?_
              rintro e w2 ⟨rfl, hb⟩
              have XC' := Lib.hid (XC.out.below hb XC.out.lt)
              have B' := Lib.hid (B.out.trans (hb.mono B.out.size))
              clear hb XC B g0' g1' g2' n3'
              go_wp2
              go_roundw
              case rel => exact ⟨k + 1, _, by omega, rfl, by go_num, HO1, B', XC', HG1⟩
              case measure => simp [RowKit.intOf]; omega
        case neg =>
          have HK := Lib.hid (show o = R from by
            rw [← HR.out]
            unfold rootText
            rw [if_pos (show RootOk c.sets c.parts from ⟨HSO.out, fun x hx => by
              obtain ⟨i, hi, rfl⟩ := List.mem_iff_getElem.1 hx
              exact HG.out i hi (by omega)⟩)]
            have := HO.out
            rw [List.take_of_length_le (by omega)] at this
            exact this)
          have hkn : ¬ (k : Int) < (c.parts.length : Int) := by omega
          clear HG HO
          go_wp2
          go_ret
          exact ⟨ret_s HK.out, B.out⟩
theorem specRoot_is (vs vd vp vi : Value) (c : CoreM) (r : ByteArray) (w : World) (h : CoreR w vs vd vp vi c) (hs : CoreShort c) (hr : rootText c.sets c.parts = r) :
    Calls Tryd.prog 6 #[cv c vs vd vp vi] w fun e w' => e = .returned (.string r) ∧ Below w.heap.size w w' := hr ▸ specRoot_any vs vd vp vi c w h hs
end Go.Proofs.YthcfiobnnceomaaDoor

/-
  The walk of the law FnSum.
-/
import Derived.Test.YtkghfdnbmidddaaDoorDrawSum
import Derived.Test.YtkghfdnbmidddaaDoorSumFacts
import Derived.Test.YtkghfdnbmidddaaDoorImplOpen
import Derived.Test.YtkghfdnbmidddaaDoorSpecUnhex
import Derived.WalkKit
import Derived.ProofKit
import Derived.Lib.Hide
import Derived.Lib.ConvBytes
import Derived.Laws.IdiomStrings
import Derived.WalkSpells
import Derived.WalkSmall
import Derived.StillTailTactics
namespace Go.Proofs.YtkghfdnbmidddaaDoor
open Go.ChangeShapes Go.WideShapes Go.ChangeAt Go.RowKit Go.Proofs.Palim

theorem u8_turn (c m : UInt8) : UInt8.ofNat ((c.toNat + 1 + m.toNat % 255) % 256) ≠ c := by
  intro e
  have h1 := congrArg UInt8.toNat e
  have hc := c.toNat_lt
  have hm := m.toNat_lt
  rw [UInt8.toNat_ofNat_of_lt' (by have : UInt8.size = 256 := rfl; omega)] at h1
  omega

/-- '[]byte(t)': a new block that holds the text's bytes, and may be written. -/
theorem conv_facts (t : ByteArray) (w : World) : ∃ (W : World) (cap : Nat), (convert 9 22 (.string t)).run Tryd.prog w = .ok (.slice (some ⟨w.heap.size, 0, none⟩) t.size cap) W ∧
    (∀ j (h : j < t.size), W.cell? ⟨w.heap.size, j, none⟩ = some (.int .u8 (t[j].toNat : Int))) ∧ (∀ j, j < t.size → W.frozen? ⟨w.heap.size, j, none⟩ = false) ∧ Below w.heap.size w W ∧ t.size ≤ cap := by
  refine ⟨_, _, Lib.run_convert_string_bytes w 9 22 5 t (u := .string) Tryd.underlying9 Tryd.underlying22 Tryd.underlying5, ?_, ?_, ?_, grownCap_ge _ _ _ _⟩
  · intro j h
    rw [Lib.bytesWorld_cell w _ t j h]
    have : t.data.toList.getD j 0 = t[j] := by
      rw [List.getD_eq_getElem?_getD, List.getElem?_eq_getElem (by simpa using h)]; rfl
    rw [this]
  · intro j h
    have hz : t.size ≤ (Lib.bytesCells w 5 t).size := by
      unfold Lib.bytesCells
      rw [Array.size_append, Array.size_map]
      exact Nat.le_add_right _ _
    simp only [World.frozen?, Lib.bytesWorld_at_new]
    simp
    omega
  · exact ⟨rfl, rfl, rfl, by rw [Lib.bytesWorld_size]; omega, fun k hk => Lib.bytesWorld_at_old w _ t k hk⟩

theorem turn_val (c m : UInt8) : ((c.toNat : Int) + 1 + (m.toNat : Int) % 255) % 256 = ((UInt8.ofNat ((c.toNat + 1 + m.toNat % 255) % 256)).toNat : Int) := by
  rw [UInt8.toNat_ofNat_of_lt' (by have : UInt8.size = 256 := rfl; omega)]; omega
/-- 'string(b)' behind one byte's store. -/
theorem conv_back (t : ByteArray) (w1 W : World) (cap kk : Nat) (z : UInt8) (hk : kk < t.size) (hc : ∀ j (h : j < t.size), W.cell? ⟨w1.heap.size, j, none⟩ = some (.int .u8 (t[j].toNat : Int))) (_hf : W.frozen? ⟨w1.heap.size, kk, none⟩ = false) :
    (convert 22 9 (.slice (some ⟨w1.heap.size, 0, none⟩) t.size cap)).run Tryd.prog (W.setCell ⟨w1.heap.size, kk, none⟩ (.int .u8 (z.toNat : Int))).drew =
      .ok (.string ⟨(t.data.toList.set kk z).toArray⟩) (W.setCell ⟨w1.heap.size, kk, none⟩ (.int .u8 (z.toNat : Int))).drew := by
  have hl : (t.data.toList.set kk z).length = t.size := by simp
  have h := run_convert_bytes_back (P := Tryd.prog) (W.setCell ⟨w1.heap.size, kk, none⟩ (.int .u8 (z.toNat : Int))).drew 22 9 5 ⟨w1.heap.size, 0, none⟩ cap (t.data.toList.set kk z)
    Tryd.underlying22 Tryd.underlying5 Tryd.underlying9 (fun j hj => by
      have hj' : j < t.size := by rw [hl] at hj; exact hj
      have ha : (⟨w1.heap.size, 0, none⟩ : Addr).add j = ⟨w1.heap.size, j, none⟩ := by unfold Addr.add; split <;> simp_all
      rw [ha]
      show (W.setCell ⟨w1.heap.size, kk, none⟩ (.int .u8 (z.toNat : Int))).cell? ⟨w1.heap.size, j, none⟩ = _
      by_cases e : kk = j
      · subst e
        rw [World.cell?_setCell_same _ _ _ (hc kk hk)]
        simp
      · rw [World.cell?_setCell_other _ _ _ _ (by intro h; injection h; omega), hc j hj']
        rw [List.getElem_set_ne e]
        rfl)
  rw [hl] at h
  exact h
theorem open_size {s t : ByteArray} (h : openB s = some t) : t.size ≤ s.size := by
  unfold openB at h
  split at h
  · cases h
  · split at h
    · rw [← Option.some.inj h]; exact tailB_size _ _
    · cases h
theorem hexOf_length (l : List UInt8) : (hexOf l).length = 2 * l.length := by
  induction l with
  | nil => rfl
  | cons c l ih => simp [hexOf] at ih ⊢; omega

set_option maxHeartbeats 2000000 in
theorem fnSum_walk (A1 A2 : Option Addr) (n1 c1 n2 c2 : Nat) (w : World) (h1 : Code w A1 n1 c1) (h2 : Code w A2 n2 c2) (hg : HasTab w) (hp : HasPow w) (hx : HasMax w) :
    Calls Tryd.prog 3 #[.slice A1 n1 c1, .slice A2 n2 c2] w fun e w' => e = .returned (.bool true) ∧ Below w.heap.size w w' := by
  have b1 : n1 ≤ maxLen := h1.2.1
  have b2 : n2 ≤ maxLen := h2.2.1
  unfold maxLen at b1 b2
  have H1 := Lib.hid h1
  have H2 := Lib.hid h2
  have HG := Lib.hid hg
  have HP := Lib.hid hp
  have HX := Lib.hid hx
  clear h1 h2 hg hp hx
  have hlg := HG.out.lt
  have hlp := HP.out.lt
  have hlx := HX.out.lt
  by_cases hl1 : 1048576 < n1
  · go_enter Tryd.func3, Tryd.ntmps3
    go_wp2
    go_ret
    exact ⟨rfl, Below.refl _ _⟩
  by_cases hl2 : 1048576 < n2
  · go_enter Tryd.func3, Tryd.ntmps3
    go_wp2
    go_ret
    exact ⟨rfl, Below.refl _ _⟩
  have hnot : ∀ (x : Bool) (w : World), (Op.unary .not (.bool x)).run Tryd.prog w = .ok (.bool (!x)) w := fun _ _ => rfl
  go_enter Tryd.func3, Tryd.ntmps3
  go_wp2_with fail
  refine (drawSumOf_any _ _ _ _ H1.out).mono ?_
  rintro e w1 ⟨t, ht, rfl, hb1⟩
  have htm : t.size ≤ maxLen := by unfold maxLen; omega
  have HTM := Lib.hid htm
  clear htm
  have HB1 := Lib.hid hb1
  clear hb1
  go_wp2_with fail
  refine (implSumOf_any _ _ HTM.out).mono ?_
  rintro e w' ⟨rfl, rfl⟩
  go_wp2_with fail
  refine (specSumOf_any _ _ HTM.out).mono ?_
  rintro e w' ⟨rfl, rfl⟩
  have hsb := sumOf_bd t
  by_cases hz : 0 < t.size ∧ 0 < n2
  · obtain ⟨hz1, hz2⟩ := hz
    obtain ⟨Wb, cap, hcv, hcell, hfz, hbb, hcap⟩ := conv_facts t w1
    obtain ⟨kk, HK⟩ : ∃ kk, Hid (kk = n2 % t.size) := ⟨_, Lib.hid rfl⟩
    have hkk : kk < t.size := by rw [HK.out]; exact Nat.mod_lt _ hz1
    have hk1 : (n2 : Int) % (t.size : Int) = (kk : Int) := by rw [HK.out]; rfl
    have hk2 : (n2 : Int).tmod (t.size : Int) = (kk : Int) := by rw [HK.out]; rfl
    have hk3 : (kk : Int) < (t.size : Int) := by omega
    obtain ⟨b, off, rfl, hbl, hcm⟩ := H2.out.2.2.2.resolve_left (by omega)
    obtain ⟨m, hm⟩ := hcm 0 hz2
    have hm' : Wb.cell? ⟨b, off, none⟩ = some (.int .u8 (m.toNat : Int)) :=
      (hbb.cell (show b < w1.heap.size from Nat.lt_of_lt_of_le hbl HB1.out.size)).trans ((HB1.out.cell hbl).trans hm)
    have hck := hcell kk hkk
    have hfk := hfz kk hkk
    have HCE := Lib.hid hcell
    have HBB := Lib.hid hbb
    clear hcell hfz hcm hm hbb
    have hn2z : (0 : Int) < (n2 : Int) := by omega
    obtain ⟨z, HZ⟩ : ∃ z, Hid (z = UInt8.ofNat ((t[kk].toNat + 1 + m.toNat % 255) % 256)) := ⟨_, Lib.hid rfl⟩
    have hzv : ((t[kk].toNat : Int) + 1 + (m.toNat : Int) % 255) % 256 = (z.toNat : Int) := by rw [HZ.out]; exact turn_val _ _
    have hcv2 := conv_back t w1 Wb cap kk z hkk HCE.out hfk
    rw [← hzv] at hcv2
    have HNE := Lib.hid (sumOf_set t kk z hkk (by rw [HZ.out]; exact u8_turn _ _))
    have HSZ := Lib.hid (show (⟨(t.data.toList.set kk z).toArray⟩ : ByteArray).size ≤ maxLen from by
      show (t.data.toList.set kk z).toArray.size ≤ maxLen
      have := HTM.out
      rw [List.size_toArray, List.length_set]; simpa using this)
    clear hzv
    go_wp2_with fail
    go_still_tail 13, (by kernel_rfl)
    change wpList _ _ _ _ _ Wb.drew
    go_wp2_with fail
    refine (implSumOf_any _ _ HSZ.out).mono ?_
    rintro e w' ⟨rfl, rfl⟩
    have hne : ((sumOf ⟨(t.data.toList.set kk z).toArray⟩ : Int) == sumOf t) = false := by simpa using HNE.out
    have HB2 := Lib.hid ((HB1.out.trans (HBB.out.mono HB1.out.size)).setCell (p := ⟨w1.heap.size, kk, none⟩) HB1.out.size (.int .u8 (((t[kk].toNat : Int) + 1 + (m.toNat : Int) % 255) % 256))).drew
    clear HB1
    have HB1 := HB2
    clear HB2 hcv hcv2 hck hfk hm'
    go_wp2_with fail
    refine (implSeal_any t _ HTM.out (HP.out.below HB1.out hlp)).mono ?_
    rintro e w3 ⟨rfl, hb3⟩
    have HB3 := Lib.hid (HB1.out.trans (hb3.mono HB1.out.size))
    clear hb3 HB1
    have hos := sealB_size t ht
    have HOS := Lib.hid (show (sealB t).size ≤ 1048576 from by omega)
    clear hos
    go_wp2_with fail
    refine (implOpen_any (sealB t) _ HOS.out (HP.out.below HB3.out hlp) (HX.out.below HB3.out hlx)).mono ?_
    rintro e w4 ⟨hb4, ho⟩
    obtain rfl : e = .returned (.tuple #[.string t, .bool true]) := by
      have hos := open_seal t (by omega)
      rcases ho with ⟨o, ho, rfl⟩ | ⟨ho, rfl⟩
      · rw [hos] at ho; rw [Option.some.inj ho]
      · rw [hos] at ho; cases ho
    have HB4 := Lib.hid (HB3.out.trans (hb4.mono HB3.out.size))
    clear hb4 HB3 ho
    go_wp2_with fail
    refine (implSumHex_any t _ (by omega) (HG.out.below HB4.out hlg).cell).mono ?_
    rintro e w5 ⟨rfl, hb5⟩
    have HB5 := Lib.hid (HB4.out.trans (hb5.mono HB4.out.size))
    clear hb5 HB4
    obtain ⟨hx, HHX⟩ : ∃ hx : ByteArray, Hid (hx = ⟨(hexOf t.data.toList).toArray⟩) := ⟨_, Lib.hid rfl⟩
    rw [← HHX.out]
    have hxs : hx.size = 2 * t.size := by
      rw [HHX.out]
      show (hexOf t.data.toList).toArray.size = 2 * t.size
      rw [List.size_toArray, hexOf_length]; simp
    have HXS := Lib.hid (show hx.size ≤ 1048576 from by omega)
    have HUX := Lib.hid (show unhex hx.data.toList = some t.data.toList from by rw [HHX.out]; exact unhex_hexOf _)
    go_wp2_with fail
    refine (implUnhex_any hx _ HXS.out (HG.out.below HB5.out hlg)).mono ?_
    rintro e w6 ⟨hb6, ho⟩
    obtain rfl : e = .returned (.tuple #[.string t, .bool true]) := by
      rcases ho with ⟨o, ho, rfl⟩ | ⟨ho, rfl⟩
      · rw [HUX.out] at ho; rw [← Option.some.inj ho, str_of]
      · rw [HUX.out] at ho; cases ho
    have HB6 := Lib.hid (HB5.out.trans (hb6.mono HB5.out.size))
    clear hb6 HB5 ho
    go_wp2_with fail
    refine (specSeal_any t _ HTM.out).mono ?_
    rintro e w7 ⟨rfl, hb7⟩
    have HB7 := Lib.hid (HB6.out.trans (hb7.mono HB6.out.size))
    clear hb7 HB6
    go_wp2_with fail
    refine (drawSumOpen_any _ _ _ _ (H2.out.below HB7.out)).mono ?_
    rintro e w8 ⟨torn, htz, rfl, hb8⟩
    have HB8 := Lib.hid (HB7.out.trans (hb8.mono HB7.out.size))
    clear hb8 HB7
    have HTZ := Lib.hid (show torn.size ≤ 1048576 from by omega)
    go_wp2_with fail
    refine (implOpen_any torn _ HTZ.out (HP.out.below HB8.out hlp) (HX.out.below HB8.out hlx)).mono ?_
    rintro e w9 ⟨hb9, ho9⟩
    have HB9 := Lib.hid (HB8.out.trans (hb9.mono HB8.out.size))
    clear hb9 HB8
    rcases ho9 with ⟨o, ho, rfl⟩ | ⟨ho, rfl⟩
    · have HO := Lib.hid ho
      clear ho
      go_wp2_with fail
      refine (specOpen_any torn _ HTZ.out).mono ?_
      rintro e w10 ⟨hb10, ho10⟩
      obtain rfl : e = .returned (.tuple #[.string o, .bool true]) := by
        rcases ho10 with ⟨o', ho', rfl⟩ | ⟨ho', rfl⟩
        · rw [HO.out] at ho'; rw [← Option.some.inj ho']
        · rw [HO.out] at ho'; cases ho'
      have HB10 := Lib.hid (HB9.out.trans (hb10.mono HB9.out.size))
      clear hb10 HB9 ho10
      have HOM := Lib.hid (show o.size ≤ maxLen from by have := open_size HO.out; unfold maxLen; omega)
      go_wp2_with fail
      refine (implSeal_any o _ HOM.out (HP.out.below HB10.out hlp)).mono ?_
      rintro e w11 ⟨rfl, hb11⟩
      rw [seal_of_open HO.out]
      have HB11 := Lib.hid (HB10.out.trans (hb11.mono HB10.out.size))
      clear hb11 HB10
      go_wp2
      go_ret
      exact ⟨rfl, HB11.out⟩
    · have HO := Lib.hid ho
      clear ho
      go_wp2_with fail
      refine (specOpen_any torn _ HTZ.out).mono ?_
      rintro e w10 ⟨hb10, ho10⟩
      obtain rfl : e = .returned (.tuple #[.string ⟨#[]⟩, .bool false]) := by
        rcases ho10 with ⟨o', ho', rfl⟩ | ⟨ho', rfl⟩
        · rw [HO.out] at ho'; cases ho'
        · rfl
      have HB10 := Lib.hid (HB9.out.trans (hb10.mono HB9.out.size))
      clear hb10 HB9 ho10
      go_wp2
      go_ret
      exact ⟨rfl, HB10.out⟩
  · go_wp2_with fail
    · refine (implSeal_any t _ HTM.out (HP.out.below HB1.out hlp)).mono ?_
      rintro e w3 ⟨rfl, hb3⟩
      have HB3 := Lib.hid (HB1.out.trans (hb3.mono HB1.out.size))
      clear hb3 HB1
      have hos := sealB_size t ht
      have HOS := Lib.hid (show (sealB t).size ≤ 1048576 from by omega)
      clear hos
      go_wp2_with fail
      refine (implOpen_any (sealB t) _ HOS.out (HP.out.below HB3.out hlp) (HX.out.below HB3.out hlx)).mono ?_
      rintro e w4 ⟨hb4, ho⟩
      obtain rfl : e = .returned (.tuple #[.string t, .bool true]) := by
        have hos := open_seal t (by omega)
        rcases ho with ⟨o, ho, rfl⟩ | ⟨ho, rfl⟩
        · rw [hos] at ho; rw [Option.some.inj ho]
        · rw [hos] at ho; cases ho
      have HB4 := Lib.hid (HB3.out.trans (hb4.mono HB3.out.size))
      clear hb4 HB3 ho
      go_wp2_with fail
      refine (implSumHex_any t _ (by omega) (HG.out.below HB4.out hlg).cell).mono ?_
      rintro e w5 ⟨rfl, hb5⟩
      have HB5 := Lib.hid (HB4.out.trans (hb5.mono HB4.out.size))
      clear hb5 HB4
      obtain ⟨hx, HHX⟩ : ∃ hx : ByteArray, Hid (hx = ⟨(hexOf t.data.toList).toArray⟩) := ⟨_, Lib.hid rfl⟩
      rw [← HHX.out]
      have hxs : hx.size = 2 * t.size := by
        rw [HHX.out]
        show (hexOf t.data.toList).toArray.size = 2 * t.size
        rw [List.size_toArray, hexOf_length]; simp
      have HXS := Lib.hid (show hx.size ≤ 1048576 from by omega)
      have HUX := Lib.hid (show unhex hx.data.toList = some t.data.toList from by rw [HHX.out]; exact unhex_hexOf _)
      go_wp2_with fail
      refine (implUnhex_any hx _ HXS.out (HG.out.below HB5.out hlg)).mono ?_
      rintro e w6 ⟨hb6, ho⟩
      obtain rfl : e = .returned (.tuple #[.string t, .bool true]) := by
        rcases ho with ⟨o, ho, rfl⟩ | ⟨ho, rfl⟩
        · rw [HUX.out] at ho; rw [← Option.some.inj ho, str_of]
        · rw [HUX.out] at ho; cases ho
      have HB6 := Lib.hid (HB5.out.trans (hb6.mono HB5.out.size))
      clear hb6 HB5 ho
      go_wp2_with fail
      refine (specSeal_any t _ HTM.out).mono ?_
      rintro e w7 ⟨rfl, hb7⟩
      have HB7 := Lib.hid (HB6.out.trans (hb7.mono HB6.out.size))
      clear hb7 HB6
      go_wp2_with fail
      refine (drawSumOpen_any _ _ _ _ (H2.out.below HB7.out)).mono ?_
      rintro e w8 ⟨torn, htz, rfl, hb8⟩
      have HB8 := Lib.hid (HB7.out.trans (hb8.mono HB7.out.size))
      clear hb8 HB7
      have HTZ := Lib.hid (show torn.size ≤ 1048576 from by omega)
      go_wp2_with fail
      refine (implOpen_any torn _ HTZ.out (HP.out.below HB8.out hlp) (HX.out.below HB8.out hlx)).mono ?_
      rintro e w9 ⟨hb9, ho9⟩
      have HB9 := Lib.hid (HB8.out.trans (hb9.mono HB8.out.size))
      clear hb9 HB8
      rcases ho9 with ⟨o, ho, rfl⟩ | ⟨ho, rfl⟩
      · have HO := Lib.hid ho
        clear ho
        go_wp2_with fail
        refine (specOpen_any torn _ HTZ.out).mono ?_
        rintro e w10 ⟨hb10, ho10⟩
        obtain rfl : e = .returned (.tuple #[.string o, .bool true]) := by
          rcases ho10 with ⟨o', ho', rfl⟩ | ⟨ho', rfl⟩
          · rw [HO.out] at ho'; rw [← Option.some.inj ho']
          · rw [HO.out] at ho'; cases ho'
        have HB10 := Lib.hid (HB9.out.trans (hb10.mono HB9.out.size))
        clear hb10 HB9 ho10
        have HOM := Lib.hid (show o.size ≤ maxLen from by have := open_size HO.out; unfold maxLen; omega)
        go_wp2_with fail
        refine (implSeal_any o _ HOM.out (HP.out.below HB10.out hlp)).mono ?_
        rintro e w11 ⟨rfl, hb11⟩
        rw [seal_of_open HO.out]
        have HB11 := Lib.hid (HB10.out.trans (hb11.mono HB10.out.size))
        clear hb11 HB10
        go_wp2
        go_ret
        exact ⟨rfl, HB11.out⟩
      · have HO := Lib.hid ho
        clear ho
        go_wp2_with fail
        refine (specOpen_any torn _ HTZ.out).mono ?_
        rintro e w10 ⟨hb10, ho10⟩
        obtain rfl : e = .returned (.tuple #[.string ⟨#[]⟩, .bool false]) := by
          rcases ho10 with ⟨o', ho', rfl⟩ | ⟨ho', rfl⟩
          · rw [HO.out] at ho'; cases ho'
          · rfl
        have HB10 := Lib.hid (HB9.out.trans (hb10.mono HB9.out.size))
        clear hb10 HB9 ho10
        go_wp2
        go_ret
        exact ⟨rfl, HB10.out⟩
    · refine (implSeal_any t _ HTM.out (HP.out.below HB1.out hlp)).mono ?_
      rintro e w3 ⟨rfl, hb3⟩
      have HB3 := Lib.hid (HB1.out.trans (hb3.mono HB1.out.size))
      clear hb3 HB1
      have hos := sealB_size t ht
      have HOS := Lib.hid (show (sealB t).size ≤ 1048576 from by omega)
      clear hos
      go_wp2_with fail
      refine (implOpen_any (sealB t) _ HOS.out (HP.out.below HB3.out hlp) (HX.out.below HB3.out hlx)).mono ?_
      rintro e w4 ⟨hb4, ho⟩
      obtain rfl : e = .returned (.tuple #[.string t, .bool true]) := by
        have hos := open_seal t (by omega)
        rcases ho with ⟨o, ho, rfl⟩ | ⟨ho, rfl⟩
        · rw [hos] at ho; rw [Option.some.inj ho]
        · rw [hos] at ho; cases ho
      have HB4 := Lib.hid (HB3.out.trans (hb4.mono HB3.out.size))
      clear hb4 HB3 ho
      go_wp2_with fail
      refine (implSumHex_any t _ (by omega) (HG.out.below HB4.out hlg).cell).mono ?_
      rintro e w5 ⟨rfl, hb5⟩
      have HB5 := Lib.hid (HB4.out.trans (hb5.mono HB4.out.size))
      clear hb5 HB4
      obtain ⟨hx, HHX⟩ : ∃ hx : ByteArray, Hid (hx = ⟨(hexOf t.data.toList).toArray⟩) := ⟨_, Lib.hid rfl⟩
      rw [← HHX.out]
      have hxs : hx.size = 2 * t.size := by
        rw [HHX.out]
        show (hexOf t.data.toList).toArray.size = 2 * t.size
        rw [List.size_toArray, hexOf_length]; simp
      have HXS := Lib.hid (show hx.size ≤ 1048576 from by omega)
      have HUX := Lib.hid (show unhex hx.data.toList = some t.data.toList from by rw [HHX.out]; exact unhex_hexOf _)
      go_wp2_with fail
      refine (implUnhex_any hx _ HXS.out (HG.out.below HB5.out hlg)).mono ?_
      rintro e w6 ⟨hb6, ho⟩
      obtain rfl : e = .returned (.tuple #[.string t, .bool true]) := by
        rcases ho with ⟨o, ho, rfl⟩ | ⟨ho, rfl⟩
        · rw [HUX.out] at ho; rw [← Option.some.inj ho, str_of]
        · rw [HUX.out] at ho; cases ho
      have HB6 := Lib.hid (HB5.out.trans (hb6.mono HB5.out.size))
      clear hb6 HB5 ho
      go_wp2_with fail
      refine (specSeal_any t _ HTM.out).mono ?_
      rintro e w7 ⟨rfl, hb7⟩
      have HB7 := Lib.hid (HB6.out.trans (hb7.mono HB6.out.size))
      clear hb7 HB6
      go_wp2_with fail
      refine (drawSumOpen_any _ _ _ _ (H2.out.below HB7.out)).mono ?_
      rintro e w8 ⟨torn, htz, rfl, hb8⟩
      have HB8 := Lib.hid (HB7.out.trans (hb8.mono HB7.out.size))
      clear hb8 HB7
      have HTZ := Lib.hid (show torn.size ≤ 1048576 from by omega)
      go_wp2_with fail
      refine (implOpen_any torn _ HTZ.out (HP.out.below HB8.out hlp) (HX.out.below HB8.out hlx)).mono ?_
      rintro e w9 ⟨hb9, ho9⟩
      have HB9 := Lib.hid (HB8.out.trans (hb9.mono HB8.out.size))
      clear hb9 HB8
      rcases ho9 with ⟨o, ho, rfl⟩ | ⟨ho, rfl⟩
      · have HO := Lib.hid ho
        clear ho
        go_wp2_with fail
        refine (specOpen_any torn _ HTZ.out).mono ?_
        rintro e w10 ⟨hb10, ho10⟩
        obtain rfl : e = .returned (.tuple #[.string o, .bool true]) := by
          rcases ho10 with ⟨o', ho', rfl⟩ | ⟨ho', rfl⟩
          · rw [HO.out] at ho'; rw [← Option.some.inj ho']
          · rw [HO.out] at ho'; cases ho'
        have HB10 := Lib.hid (HB9.out.trans (hb10.mono HB9.out.size))
        clear hb10 HB9 ho10
        have HOM := Lib.hid (show o.size ≤ maxLen from by have := open_size HO.out; unfold maxLen; omega)
        go_wp2_with fail
        refine (implSeal_any o _ HOM.out (HP.out.below HB10.out hlp)).mono ?_
        rintro e w11 ⟨rfl, hb11⟩
        rw [seal_of_open HO.out]
        have HB11 := Lib.hid (HB10.out.trans (hb11.mono HB10.out.size))
        clear hb11 HB10
        go_wp2
        go_ret
        exact ⟨rfl, HB11.out⟩
      · have HO := Lib.hid ho
        clear ho
        go_wp2_with fail
        refine (specOpen_any torn _ HTZ.out).mono ?_
        rintro e w10 ⟨hb10, ho10⟩
        obtain rfl : e = .returned (.tuple #[.string ⟨#[]⟩, .bool false]) := by
          rcases ho10 with ⟨o', ho', rfl⟩ | ⟨ho', rfl⟩
          · rw [HO.out] at ho'; cases ho'
          · rfl
        have HB10 := Lib.hid (HB9.out.trans (hb10.mono HB9.out.size))
        clear hb10 HB9 ho10
        go_wp2
        go_ret
        exact ⟨rfl, HB10.out⟩
end Go.Proofs.YtkghfdnbmidddaaDoor

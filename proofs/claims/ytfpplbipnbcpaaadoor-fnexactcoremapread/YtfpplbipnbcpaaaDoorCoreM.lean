/-
  A set's pointers written: CoreMap of both sides.
-/
import Derived.Test.YtfpplbipnbcpaaaDoorPtrA
import Derived.Test.YtfpplbipnbcpaaaDoorCoreUb
set_option maxRecDepth 100000
namespace Go.Proofs.YtfpplbipnbcpaaaDoor
open Go.ChangeShapes Go.WideShapes Go.ChangeAt Go.RowKit Go.Proofs.Palim

def MapOk (ps : List PtrM) : Prop := ∀ (j : Nat) (h : j < ps.length), PtrOkM ps[j]
noncomputable instance (ps : List PtrM) : Decidable (MapOk ps) := Classical.propDecidable _
noncomputable def mapText (ps : List PtrM) : ByteArray := if MapOk ps then joinB (ps.map ptrText) ⟨#[32]⟩ else ⟨#[]⟩
theorem ptrText_le (p : PtrM) : (ptrText p).size ≤ 65 := by
  by_cases h : GoodM p
  · exact ptrText_bd p h
  · unfold ptrText
    by_cases hn : NullM p
    · rw [if_neg (not_not_intro (show PtrOkM p from Or.inl hn)), if_pos hn]; show 1 ≤ 65; omega
    · rw [if_pos (fun c : PtrOkM p => c.elim hn h)]; show 0 ≤ 65; omega

set_option maxHeartbeats 2000000 in
theorem specMap_any (ps : List PtrM) (w : World) (h8 : ps.length = 8) :
    Calls Tryd.prog 26 #[.agg (pcs ps).toArray] w fun e w' => e = .returned (.string (mapText ps)) ∧ Below w.heap.size w w' := by
  have hnot : ∀ (x : Bool) (w : World), (Op.unary .not (.bool x)).run Tryd.prog w = .ok (.bool (!x)) w := fun _ _ => rfl
  obtain ⟨R, HR⟩ : ∃ R, Hid (mapText ps = R) := ⟨_, Lib.hid rfl⟩
  rw [HR.out]
  have H8 := Lib.hid h8
  have X1 := Lib.hid (box_new w (pcs ps).toArray 30)
  have B0 := Lib.hid (Below.new (w := w) (.cells (pcs ps).toArray 30))
  clear h8
  go_enter Tryd.func26, Tryd.ntmps26
  go_wp2_with fail
  go_loopw [3, 4] (fun s i wr => ∃ (k : Nat) (o : ByteArray), k ≤ 8 ∧ s = .string o ∧ i = .int .i64 k ∧ Hid (Box wr w.heap.size (pcs ps)) ∧ Hid (Below w.heap.size w wr) ∧ Hid (o = joinB ((ps.take k).map ptrText) ⟨#[32]⟩) ∧ Hid (o.size ≤ k * 66) ∧ Hid (∀ (j : Nat) (h : j < ps.length), j < k → PtrOkM ps[j])) (fun _ i _ => 8 - (intOf i).toNat)
  case atStart => exact ⟨0, ⟨#[]⟩, Nat.zero_le _, rfl, rfl, X1, B0, Lib.hid rfl, Lib.hid (Nat.zero_le _), Lib.hid (fun j _ h => absurd h (Nat.not_lt_zero _))⟩
  case round =>
    obtain ⟨k, o, hk, rfl, rfl, Y1, HB, HO, HZ0, HG⟩ := hrel
    clear X1 B0
    by_cases hlt : k < 8
    case pos =>
      have hk1 : (k : Int) < 8 := by omega
      have hl0 : k < ps.length := by rw [H8.out]; exact hlt
      obtain ⟨h1, h2, h3⟩ := ptr_box Y1.out k hl0
      have HTK := Lib.hid (show (ps.take (k + 1)).map ptrText = (ps.take k).map ptrText ++ [ptrText ps[k]] from by rw [List.take_succ_eq_append_getElem hl0, List.map_append, List.map_cons, List.map_nil])
      have HBAD := Lib.hid (show ¬ PtrOkM ps[k] → (⟨#[]⟩ : ByteArray) = R from fun h => by rw [← HR.out]; unfold mapText; rw [if_neg (fun c : MapOk ps => h (c k hl0))])
      have HG2 := Lib.hid (show PtrOkM ps[k] → ∀ (j : Nat) (h : j < ps.length), j < k + 1 → PtrOkM ps[j] from fun hh j h hj => by
        rcases Nat.lt_succ_iff_lt_or_eq.1 hj with h3 | rfl
        · exact HG.out j h h3
        · exact hh)
      generalize ps[k] = x at h1 h2 h3 HTK HBAD HG2
      by_cases hok : PtrOkM x
      case neg =>
        have HF := Lib.hid (HBAD.out hok)
        go_wp2_with fail
        refine (specPtrOk_is x _ false (decide_eq_false hok)).mono ?_
        rintro e w2 ⟨rfl, hb2⟩
        have HB2 := Lib.hid (HB.out.trans (hb2.mono HB.out.size))
        clear hb2 HB
        go_wp2
        go_ret
        exact ⟨ret_s HF.out, HB2.out⟩
      case pos =>
        have HG3 := Lib.hid (HG2.out hok)
        obtain ⟨t, HT⟩ : ∃ t, Hid (ptrText x = t) := ⟨_, Lib.hid rfl⟩
        have hts : t.size ≤ 65 := by rw [← HT.out]; exact ptrText_le x
        rw [HT.out] at HTK
        go_wp2_with fail
        refine (specPtrOk_is x _ true (decide_eq_true hok)).mono ?_
        rintro e w2 ⟨rfl, hb2⟩
        have HB2 := Lib.hid (HB.out.trans (hb2.mono HB.out.size))
        have Y2 := Lib.hid (Y1.out.below hb2 Y1.out.lt)
        have h1' := (hb2.cell (by have := Y1.out.lt; simpa using this)).trans h1
        have h2' := (hb2.cell (by have := Y1.out.lt; simpa using this)).trans h2
        have h3' := (hb2.cell (by have := Y1.out.lt; simpa using this)).trans h3
        have hz := HZ0.out
        have e1 : (⟨#[32]⟩ : ByteArray).size = 1 := rfl
        clear hb2 HB Y1 h1 h2 h3 HG HG2 HBAD hok
        by_cases hk0 : k = 0
        case pos =>
          have hd : decide ((k : Int) > 0) = false := decide_eq_false (by omega)
          have hd2 : ¬ ((k : Int) > 0) := by omega
          have ka : ∀ w, (Op.stringOp .add o t).run Tryd.prog w = .ok (.string (o ++ t)) w := add_str _ _ (by omega)
          have HE := Lib.hid (show o ++ t = joinB ((ps.take (k + 1)).map ptrText) ⟨#[32]⟩ from by
            have e0 : ps.take k = [] := by rw [hk0]; rfl
            have eo : o = ⟨#[]⟩ := by rw [HO.out, e0]; rfl
            rw [HTK.out, e0, List.map_nil, List.nil_append, joinB_one, eo]
            apply ByteArray.ext
            apply Array.ext'
            simp)
          have HZ := Lib.hid (show (o ++ t).size ≤ (k + 1) * 66 from by rw [ByteArray.size_append]; omega)
          clear hk0 HTK HO hz
          go_wp2_with fail
          refine (specPtrText_is x t _ HT.out).mono ?_
          rintro e w3 ⟨rfl, hb3⟩
          have HB3 := Lib.hid (HB2.out.trans (hb3.mono HB2.out.size))
          have Y3 := Lib.hid (Y2.out.below hb3 Y2.out.lt)
          clear hb3 HB2 Y2 h1' h2' h3'
          go_wp2
          go_roundw
          case rel => exact ⟨k + 1, _, by omega, rfl, by go_num, Y3, HB3, HE, HZ, HG3⟩
          case measure => simp [intOf]; omega
        case neg =>
          have hd : decide ((k : Int) > 0) = true := decide_eq_true (by omega)
          have hd2 : (k : Int) > 0 := by omega
          have k0 : ∀ w, (Op.stringOp .add o (⟨#[32]⟩ : ByteArray)).run Tryd.prog w = .ok (.string (o ++ (⟨#[32]⟩ : ByteArray))) w := add_str _ _ (by omega)
          have ka : ∀ w, (Op.stringOp .add (o ++ (⟨#[32]⟩ : ByteArray)) t).run Tryd.prog w = .ok (.string (o ++ (⟨#[32]⟩ : ByteArray) ++ t)) w := add_str _ _ (by rw [ByteArray.size_append]; omega)
          have HE := Lib.hid (show o ++ (⟨#[32]⟩ : ByteArray) ++ t = joinB ((ps.take (k + 1)).map ptrText) ⟨#[32]⟩ from by
            have e0 : (ps.take k).map ptrText ≠ [] := by
              intro h
              have := congrArg List.length h
              rw [List.length_map, List.length_take, H8.out] at this
              simp only [List.length_nil] at this
              omega
            rw [HTK.out, joinB_snoc, if_neg e0, ← HO.out])
          have HZ := Lib.hid (show (o ++ (⟨#[32]⟩ : ByteArray) ++ t).size ≤ (k + 1) * 66 from by rw [ByteArray.size_append, ByteArray.size_append]; omega)
          clear hk0 HTK HO hz
          go_wp2_with fail
          refine (specPtrText_is x t _ HT.out).mono ?_
          rintro e w3 ⟨rfl, hb3⟩
          have HB3 := Lib.hid (HB2.out.trans (hb3.mono HB2.out.size))
          have Y3 := Lib.hid (Y2.out.below hb3 Y2.out.lt)
          clear hb3 HB2 Y2 h1' h2' h3'
          go_wp2
          go_roundw
          case rel => exact ⟨k + 1, _, by omega, rfl, by go_num, Y3, HB3, HE, HZ, HG3⟩
          case measure => simp [intOf]; omega
    case neg =>
      have HK := Lib.hid (show o = R from by
        have h3 := H8.out
        rw [← HR.out, HO.out, List.take_of_length_le (by omega)]
        unfold mapText
        rw [if_pos (show MapOk ps from fun j h => HG.out j h (by omega))])
      clear HG HO HZ0
      go_wp2
      go_ret
      exact ⟨ret_s HK.out, HB.out⟩
theorem specMap_is (ps : List PtrM) (t : ByteArray) (w : World) (h8 : ps.length = 8) (ht : mapText ps = t) :
    Calls Tryd.prog 26 #[.agg (pcs ps).toArray] w fun e w' => e = .returned (.string t) ∧ Below w.heap.size w w' := ht ▸ specMap_any ps w h8
theorem all8p (p : Nat → Prop) (h0 : p 0) (h1 : p 1) (h2 : p 2) (h3 : p 3) (h4 : p 4) (h5 : p 5) (h6 : p 6) (h7 : p 7) (k : Nat) (h : k < 8) : p k := by
  match k, h with
  | 0, _ => exact h0
  | 1, _ => exact h1
  | 2, _ => exact h2
  | 3, _ => exact h3
  | 4, _ => exact h4
  | 5, _ => exact h5
  | 6, _ => exact h6
  | 7, _ => exact h7
theorem eight {α : Type} (ps : List α) (h : ps.length = 8) : ∃ a b c d e f g i, ps = [a, b, c, d, e, f, g, i] := by
  match ps, h with
  | [a, b, c, d, e, f, g, i], _ => exact ⟨a, b, c, d, e, f, g, i, rfl⟩
theorem idxMap (ps : List PtrM) (h8 : ps.length = 8) (k : Nat) (h : k < ps.length) (w : World) : (Instr.index 30 (.agg (pcs ps).toArray) (.int .i64 (k : Int))).run Tryd.prog w = .ok (pv ps[k]) w := by
  obtain ⟨a, b, c, d, e, f, g, i, rfl⟩ := eight ps h8
  have h1 := all8p (fun k => (Instr.index 30 (.agg (pcs [a, b, c, d, e, f, g, i]).toArray) (.int .i64 (k : Int))).run Tryd.prog w = .ok (pv ([a, b, c, d, e, f, g, i].getD k a)) w)
    (by kernel_rfl) (by kernel_rfl) (by kernel_rfl) (by kernel_rfl) (by kernel_rfl) (by kernel_rfl) (by kernel_rfl) (by kernel_rfl) k h
  rw [show [a, b, c, d, e, f, g, i].getD k a = [a, b, c, d, e, f, g, i][k] from by rw [List.getD, List.getElem?_eq_getElem h]; rfl] at h1
  exact h1

end Go.Proofs.YtfpplbipnbcpaaaDoor

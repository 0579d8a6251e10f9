/-
  A set's pointers written: CoreMap of both sides.
-/
import Derived.Test.YtoeaeckkmpdpiaaDoorPtrA
import Derived.Test.YtoeaeckkmpdpiaaDoorCoreUb
set_option maxRecDepth 100000
namespace Go.Proofs.YtoeaeckkmpdpiaaDoor
open Go.ChangeShapes Go.WideShapes Go.ChangeAt Go.RowKit Go.Proofs.Palim

def MapOk (ps : List PtrM) : Prop := ∀ (j : Nat) (h : j < ps.length), PtrOkM ps[j]
noncomputable instance (ps : List PtrM) : Decidable (MapOk ps) := Classical.propDecidable _
noncomputable def mapText (ps : List PtrM) : ByteArray := if MapOk ps then joinB (ps.map ptrText) ⟨#[32]⟩ else ⟨#[]⟩
theorem ptrText_le (p : PtrM) : (ptrText p).size ≤ 65 := by
  by_cases h : GoodM p
  · exact ptrText_bd p h
  · unfold ptrText
    by_cases hn : NullM p
    · rw [if_neg (not_not_intro (show PtrOkM p from Or.inl hn)), if_pos hn]; show 1 ≤ 65; omega
    · rw [if_pos (fun c : PtrOkM p => c.elim hn h)]; show 0 ≤ 65; omega

set_option maxHeartbeats 2000000 in
theorem specMap_any (ps : List PtrM) (w : World) (h8 : ps.length = 8) :
    Calls Tryd.prog 21 #[.agg (pcs ps).toArray] w fun e w' => e = .returned (.string (mapText ps)) ∧ Below w.heap.size w w' := by
  have hnot : ∀ (x : Bool) (w : World), (Op.unary .not (.bool x)).run Tryd.prog w = .ok (.bool (!x)) w := fun _ _ => rfl
  obtain ⟨R, HR⟩ : ∃ R, Hid (mapText ps = R) := ⟨_, Lib.hid rfl⟩
  rw [HR.out]
  have H8 := Lib.hid h8
  have X1 := Lib.hid (box_new w (pcs ps).toArray 51)
  have B0 := Lib.hid (Below.new (w := w) (.cells (pcs ps).toArray 51))
  clear h8
  go_enter Tryd.func21, Tryd.ntmps21
  go_wp2_with fail
  go_loopw [3, 4] (fun s i wr => ∃ (k : Nat) (o : ByteArray), k ≤ 8 ∧ s = .string o ∧ i = .int .i64 k ∧ Hid (Box wr w.heap.size (pcs ps)) ∧ Hid (Below w.heap.size w wr) ∧ Hid (o = joinB ((ps.take k).map ptrText) ⟨#[32]⟩) ∧ Hid (o.size ≤ k * 66) ∧ Hid (∀ (j : Nat) (h : j < ps.length), j < k → PtrOkM ps[j])) (fun _ i _ => 8 - (intOf i).toNat)
  case atStart => exact ⟨0, ⟨#[]⟩, Nat.zero_le _, rfl, rfl, X1, B0, Lib.hid rfl, Lib.hid (Nat.zero_le _), Lib.hid (fun j _ h => absurd h (Nat.not_lt_zero _))⟩
  case round =>
    obtain ⟨k, o, hk, rfl, rfl, Y1, HB, HO, HZ0, HG⟩ := hrel
    clear X1 B0
    by_cases hlt : k < 8
    case pos =>
      have hk1 : (k : Int) < 8 := by omega
      have hl0 : k < ps.length := by rw [H8.out]; exact hlt
      obtain ⟨h1, h2, h3⟩ := ptr_box Y1.out k hl0
      have HTK := Lib.hid (show (ps.take (k + 1)).map ptrText = (ps.take k).map ptrText ++ [ptrText ps[k]] from by rw [List.take_succ_eq_append_getElem hl0, List.map_append, List.map_cons, List.map_nil])
      have HBAD := Lib.hid (show ¬ PtrOkM ps[k] → (⟨#[]⟩ : ByteArray) = R from fun h => by rw [← HR.out]; unfold mapText; rw [if_neg (fun c : MapOk ps => h (c k hl0))])
      have HG2 := Lib.hid (show PtrOkM ps[k] → ∀ (j : Nat) (h : j < ps.length), j < k + 1 → PtrOkM ps[j] from fun hh j h hj => by
        rcases Nat.lt_succ_iff_lt_or_eq.1 hj with h3 | rfl
        · exact HG.out j h h3
        · exact hh)
      generalize ps[k] = x at h1 h2 h3 HTK HBAD HG2
      by_cases hok : PtrOkM x
      case neg =>
        have HF := Lib.hid (HBAD.out hok)
        go_wp2_with fail
        refine (specPtrOk_is x _ false (decide_eq_false hok)).mono ?_
        rintro e w2 ⟨rfl, hb2⟩
        have HB2 := Lib.hid (HB.out.trans (hb2.mono HB.out.size))
        clear hb2 HB
        go_wp2
        go_ret
        exact ⟨ret_s HF.out, HB2.out⟩
      case pos =>
        have HG3 := Lib.hid (HG2.out hok)
        obtain ⟨t, HT⟩ : ∃ t, Hid (ptrText x = t) := ⟨_, Lib.hid rfl⟩
        have hts : t.size ≤ 65 := by rw [← HT.out]; exact ptrText_le x
        rw [HT.out] at HTK
        go_wp2_with fail
        refine (specPtrOk_is x _ true (decide_eq_true hok)).mono ?_
        rintro e w2 ⟨rfl, hb2⟩
        have HB2 := Lib.hid (HB.out.trans (hb2.mono HB.out.size))
        have Y2 := Lib.hid (Y1.out.below hb2 Y1.out.lt)
        have h1' := (hb2.cell (by have := Y1.out.lt; simpa using this)).trans h1
        have h2' := (hb2.cell (by have := Y1.out.lt; simpa using this)).trans h2
        have h3' := (hb2.cell (by have := Y1.out.lt; simpa using this)).trans h3
        have hz := HZ0.out
        have e1 : (⟨#[32]⟩ : ByteArray).size = 1 := rfl
        clear hb2 HB Y1 h1 h2 h3 HG HG2 HBAD hok
        by_cases hk0 : k = 0
        case pos =>
          have hd : decide ((k : Int) > 0) = false := decide_eq_false (by omega)
          have hd2 : ¬ ((k : Int) > 0) := by omega
          have ka : ∀ w, (Op.stringOp .add o t).run Tryd.prog w = .ok (.string (o ++ t)) w := add_str _ _ (by omega)
          have HE := Lib.hid (show o ++ t = joinB ((ps.take (k + 1)).map ptrText) ⟨#[32]⟩ from by
            have e0 : ps.take k = [] := by rw [hk0]; rfl
            have eo : o = ⟨#[]⟩ := by rw [HO.out, e0]; rfl
            rw [HTK.out, e0, List.map_nil, List.nil_append, joinB_one, eo]
            apply ByteArray.ext
            apply Array.ext'
            simp)
          have HZ := Lib.hid (show (o ++ t).size ≤ (k + 1) * 66 from by rw [ByteArray.size_append]; omega)
          clear hk0 HTK HO hz
          go_wp2_with fail
          refine (specPtrText_is x t _ HT.out).mono ?_
          rintro e w3 ⟨rfl, hb3⟩
          have HB3 := Lib.hid (HB2.out.trans (hb3.mono HB2.out.size))
          have Y3 := Lib.hid (Y2.out.below hb3 Y2.out.lt)
          clear hb3 HB2 Y2 h1' h2' h3'
          go_wp2
          go_roundw
          case rel => exact ⟨k + 1, _, by omega, rfl, by go_num, Y3, HB3, HE, HZ, HG3⟩
          case measure => simp [intOf]; omega
        case neg =>
          have hd : decide ((k : Int) > 0) = true := decide_eq_true (by omega)
          have hd2 : (k : Int) > 0 := by omega
          have k0 : ∀ w, (Op.stringOp .add o (⟨#[32]⟩ : ByteArray)).run Tryd.prog w = .ok (.string (o ++ (⟨#[32]⟩ : ByteArray))) w := add_str _ _ (by omega)
          have ka : ∀ w, (Op.stringOp .add (o ++ (⟨#[32]⟩ : ByteArray)) t).run Tryd.prog w = .ok (.string (o ++ (⟨#[32]⟩ : ByteArray) ++ t)) w := add_str _ _ (by rw [ByteArray.size_append]; omega)
          have HE := Lib.hid (show o ++ (⟨#[32]⟩ : ByteArray) ++ t = joinB ((ps.take (k + 1)).map ptrText) ⟨#[32]⟩ from by
            have e0 : (ps.take k).map ptrText ≠ [] := by
              intro h
              have := congrArg List.length h
              rw [List.length_map, List.length_take, H8.out] at this
              simp only [List.length_nil] at this
              omega
            rw [HTK.out, joinB_snoc, if_neg e0, ← HO.out])
          have HZ := Lib.hid (show (o ++ (⟨#[32]⟩ : ByteArray) ++ t).size ≤ (k + 1) * 66 from by rw [ByteArray.size_append, ByteArray.size_append]; omega)
          clear hk0 HTK HO hz
          go_wp2_with fail
          refine (specPtrText_is x t _ HT.out).mono ?_
          rintro e w3 ⟨rfl, hb3⟩
          have HB3 := Lib.hid (HB2.out.trans (hb3.mono HB2.out.size))
          have Y3 := Lib.hid (Y2.out.below hb3 Y2.out.lt)
          clear hb3 HB2 Y2 h1' h2' h3'
          go_wp2
          go_roundw
          case rel => exact ⟨k + 1, _, by omega, rfl, by go_num, Y3, HB3, HE, HZ, HG3⟩
          case measure => simp [intOf]; omega
    case neg =>
      have HK := Lib.hid (show o = R from by
        have h3 := H8.out
        rw [← HR.out, HO.out, List.take_of_length_le (by omega)]
        unfold mapText
        rw [if_pos (show MapOk ps from fun j h => HG.out j h (by omega))])
      clear HG HO HZ0
      go_wp2
      go_ret
      exact ⟨ret_s HK.out, HB.out⟩
theorem specMap_is (ps : List PtrM) (t : ByteArray) (w : World) (h8 : ps.length = 8) (ht : mapText ps = t) :
    Calls Tryd.prog 21 #[.agg (pcs ps).toArray] w fun e w' => e = .returned (.string t) ∧ Below w.heap.size w w' := ht ▸ specMap_any ps w h8
theorem all8p (p : Nat → Prop) (h0 : p 0) (h1 : p 1) (h2 : p 2) (h3 : p 3) (h4 : p 4) (h5 : p 5) (h6 : p 6) (h7 : p 7) (k : Nat) (h : k < 8) : p k := by
  match k, h with
  | 0, _ => exact h0
  | 1, _ => exact h1
  | 2, _ => exact h2
  | 3, _ => exact h3
  | 4, _ => exact h4
  | 5, _ => exact h5
  | 6, _ => exact h6
  | 7, _ => exact h7
theorem eight {α : Type} (ps : List α) (h : ps.length = 8) : ∃ a b c d e f g i, ps = [a, b, c, d, e, f, g, i] := by
  match ps, h with
  | [a, b, c, d, e, f, g, i], _ => exact ⟨a, b, c, d, e, f, g, i, rfl⟩
theorem idxMap (ps : List PtrM) (h8 : ps.length = 8) (k : Nat) (h : k < ps.length) (w : World) : (Instr.index 51 (.agg (pcs ps).toArray) (.int .i64 (k : Int))).run Tryd.prog w = .ok (pv ps[k]) w := by
  obtain ⟨a, b, c, d, e, f, g, i, rfl⟩ := eight ps h8
  have h1 := all8p (fun k => (Instr.index 51 (.agg (pcs [a, b, c, d, e, f, g, i]).toArray) (.int .i64 (k : Int))).run Tryd.prog w = .ok (pv ([a, b, c, d, e, f, g, i].getD k a)) w)
    (by kernel_rfl) (by kernel_rfl) (by kernel_rfl) (by kernel_rfl) (by kernel_rfl) (by kernel_rfl) (by kernel_rfl) (by kernel_rfl) k h
  rw [show [a, b, c, d, e, f, g, i].getD k a = [a, b, c, d, e, f, g, i][k] from by rw [List.getD, List.getElem?_eq_getElem h]; rfl] at h1
  exact h1

set_option maxHeartbeats 2000000 in
theorem implMap_any (ps : List PtrM) (w : World) (h8 : ps.length = 8) (hp : HasPow w) :
    Calls Tryd.prog 23 #[.agg (pcs ps).toArray] w fun e w' => e = .returned (.string (mapText ps)) ∧ Below w.heap.size w w' := by
  have hnot : ∀ (x : Bool) (w : World), (Op.unary .not (.bool x)).run Tryd.prog w = .ok (.bool (!x)) w := fun _ _ => rfl
  obtain ⟨i0, hi, hz0, hz1, hz2⟩ := info_parts infoStr
  obtain ⟨R, HR⟩ : ∃ R, Hid (mapText ps = R) := ⟨_, Lib.hid rfl⟩
  rw [HR.out]
  have H8 := Lib.hid h8
  have P0 := Lib.hid hp
  have HL := Lib.hid (show (pcs ps).length = 24 by rw [pcs_length, h8])
  have X1 := Lib.hid (box_new w (pcs ps).toArray 51)
  have B0 := Lib.hid (Below.new (w := w) (.cells (pcs ps).toArray 51))
  clear h8 hp
  go_enter Tryd.func23, Tryd.ntmps23
  go_wp2_with (refine wpList_load_box rfl _ rfl aggMap rfl (pcs ps) HL.out X1.out ?_)
  go_loopw [3, 5, 8] (fun s _ i wr => ∃ (k : Nat) (A2 : Option Addr) (c2 : Nat), k ≤ 8 ∧ s = .slice A2 k c2 ∧ i = .int .i64 k ∧ Hid (Below w.heap.size w wr) ∧ Hid (wr.ownsRow w.heap.size 9 1 (.slice A2 k c2) k (scs ((ps.take k).map ptrText))) ∧ Hid (∀ (j : Nat) (h : j < ps.length), j < k → PtrOkM ps[j])) (fun _ _ i _ => 8 - (intOf i).toNat)
  case atStart => exact ⟨0, none, 0, Nat.zero_le _, rfl, rfl, B0, Lib.hid ⟨rfl, .inl ⟨rfl, rfl⟩⟩, Lib.hid (fun j _ h => absurd h (Nat.not_lt_zero _))⟩
  case round =>
    obtain ⟨k, A2, c2, hk, rfl, rfl, HB, HO, HG⟩ := hrel
    clear X1 B0
    by_cases hlt : k < 8
    case pos =>
      have hk1 : (k : Int) < 8 := by omega
      have hl0 : k < ps.length := by rw [H8.out]; exact hlt
      have hix := idxMap ps H8.out k hl0
      have HTK := Lib.hid (show (ps.take (k + 1)).map ptrText = (ps.take k).map ptrText ++ [ptrText ps[k]] from by rw [List.take_succ_eq_append_getElem hl0, List.map_append, List.map_cons, List.map_nil])
      have HBAD := Lib.hid (show ¬ PtrOkM ps[k] → (⟨#[]⟩ : ByteArray) = R from fun h => by rw [← HR.out]; unfold mapText; rw [if_neg (fun c : MapOk ps => h (c k hl0))])
      have HG2 := Lib.hid (show PtrOkM ps[k] → ∀ (j : Nat) (h : j < ps.length), j < k + 1 → PtrOkM ps[j] from fun hh j h hj => by
        rcases Nat.lt_succ_iff_lt_or_eq.1 hj with h3 | rfl
        · exact HG.out j h h3
        · exact hh)
      generalize ps[k] = x at hix HTK HBAD HG2
      have XB := Lib.hid (box_new wr #[.int .i64 x.at_, .int .i64 x.sum, .int .i64 x.birth] 23)
      have HBa := Lib.hid (HB.out.alloc HB.out.size (.cells #[.int .i64 x.at_, .int .i64 x.sum, .int .i64 x.birth] 23))
      have HOa := Lib.hid (own_kept HO.out (w' := wr.alloc (.cells #[.int .i64 x.at_, .int .i64 x.sum, .int .i64 x.birth] 23)) (fun b e => Below.heap_alloc _ _ b (HO.out.lt b e).2))
      clear HB HO
      by_cases hok : PtrOkM x
      case neg =>
        have HF := Lib.hid (HBAD.out hok)
        go_wp2_with fail
        refine (implPtrOk_is x _ false (decide_eq_false hok)).mono ?_
        rintro e w2 ⟨rfl, hb2⟩
        have HB2 := Lib.hid (HBa.out.trans (hb2.mono HBa.out.size))
        clear hb2 HBa
        go_wp2
        go_ret
        exact ⟨ret_s HF.out, HB2.out⟩
      case pos =>
        have HG3 := Lib.hid (HG2.out hok)
        obtain ⟨t, HT⟩ : ∃ t, Hid (ptrText x = t) := ⟨_, Lib.hid rfl⟩
        rw [HT.out] at HTK
        go_wp2_with fail
        refine (implPtrOk_is x _ true (decide_eq_true hok)).mono ?_
        rintro e w2 ⟨rfl, hb2⟩
        have HB2 := Lib.hid (HBa.out.trans (hb2.mono HBa.out.size))
        have XB2 := Lib.hid (XB.out.below hb2 XB.out.lt)
        have HO2 := Lib.hid (own_kept HOa.out (w' := w2) (fun b e => hb2.block b (HOa.out.lt b e).2))
        have P2 := Lib.hid (P0.out.below HB2.out P0.out.lt)
        obtain ⟨x0, x1, x2⟩ := XB2.out.three
        have hwr : wr.heap.size < w2.heap.size := XB2.out.lt
        clear hb2 HBa XB HOa hok HBAD HG2 HG XB2
        go_wp2_with fail
        refine (implPtrText_is x t _ P2.out HT.out).mono ?_
        rintro e w3 ⟨rfl, hb3⟩
        have HB3 := Lib.hid (HB2.out.trans (hb3.mono HB2.out.size))
        have HO3 := Lib.hid (own_kept HO2.out (w' := w3) (fun b e => hb3.block b (HO2.out.lt b e).2))
        have HO4 := Lib.hid (own_kept HO3.out (w' := w3.alloc (.cells #[.string t] 9)) (fun b e => Below.heap_alloc _ _ b (HO3.out.lt b e).2))
        have HS := Lib.hid (sl_one w3 t 9)
        have hw3 : w.heap.size ≤ w3.heap.size := HB3.out.size
        clear hb3 HB2 HO2 HO3 x0 x1 x2 P2
        go_wp2_with (first | (at_builtin; refine wpList_append_freshB _ rfl _ _ 28 rfl w.heap.size 9 i0 _ 1 16 Tryd.underlying28 hi hz0 hz1 hz2 rfl (by omega) (.slice A2 k c2) k _ rfl HO4.out (.slice (some ⟨w3.heap.size, 0, none⟩) 1 1) 1 [.string t] rfl HS.out (by simp [Value.oneCell']) (by unfold maxLen; omega) (by omega) (by simp; omega) ?_))
        intro A3 cap3 w4 hown4 hg4 _
        have HB4 := Lib.hid (show Below w.heap.size w w4 from (HB3.out.alloc hw3 (.cells #[.string t] 9)).grown hg4 (by simp; omega) (fun b e => (HO4.out.lt b e).1))
        have HO5 := Lib.hid (show w4.ownsRow w.heap.size 9 1 (.slice A3 (k + 1) cap3) (k + 1) (scs ((ps.take (k + 1)).map ptrText)) from by rw [HTK.out, scs_snoc]; first | exact hown4 | (rw [List.map_take]; exact hown4))
        clear hown4 hg4 HO4 HS HB3 HTK
        go_wp2
        go_roundw
        case rel => exact ⟨k + 1, A3, cap3, by omega, rfl, by go_num, HB4, HO5, HG3⟩
        case measure => simp [intOf]; omega
    case neg =>
      have hkn : k = 8 := by omega
      subst hkn
      have HK := Lib.hid (show joinB (ps.map ptrText) ⟨#[32]⟩ = R from by
        have h3 := H8.out
        rw [← HR.out]
        unfold mapText
        rw [if_pos (show MapOk ps from fun j h => HG.out j h (by omega))])
      have HW := Lib.hid (show wr.ownsRow w.heap.size 9 1 (.slice A2 8 c2) (ps.map ptrText).length (scs (ps.map ptrText)) from by
        have := HO.out
        rw [List.take_of_length_le (by rw [H8.out]; omega)] at this
        rw [List.length_map, H8.out]
        exact this)
      have HRS := Lib.hid (show R.size ≤ 140737488355328 from by
        rw [← HK.out]
        have h1 := joinB_bd (ps.map ptrText) ⟨#[32]⟩ 65 (by
          intro x hx
          obtain ⟨y, hy, rfl⟩ := List.mem_map.1 hx
          exact ptrText_le y)
        rw [List.length_map, H8.out] at h1
        have h2 : (⟨#[32]⟩ : ByteArray).size = 1 := rfl
        rw [h2] at h1
        omega)
      have W0 := Lib.hid (wr_new wr 85)
      have S0 := Lib.hid (Sl.below (sl_of_own HW.out) (Below.new (w := wr) (.cells #[.slice none 0 0] 85)) (low_of_own HW.out))
      have L0 := Lib.hid (show Low (wr.alloc (.cells #[.slice none 0 0] 85)).heap.size (.slice A2 8 c2) from fun b e => by have := low_of_own HW.out b e; simp; omega)
      have B1 := Lib.hid (HB.out.alloc HB.out.size (.cells #[.slice none 0 0] 85))
      have hle : w.heap.size ≤ wr.heap.size := HB.out.size
      clear HG HO HB HW
      go_wp2_with fail
      refine (line_any wr.heap.size wr.heap.size (.slice none 0 0) [] _ (ps.map ptrText) R _ W0.out S0.out L0.out (by simp) (by rw [List.length_map, H8.out]; omega) HRS.out HK.out).mono ?_
      rintro e w6 ⟨rfl, ⟨v6, W6⟩, hb⟩
      have HW6 := Lib.hid W6
      have B6 := Lib.hid (B1.out.trans (hb.mono hle))
      clear hb W0 B1 S0 W6 L0
      go_wp2_with fail
      refine (text_wr wr.heap.size wr.heap.size v6 _ R _ HW6.out (by simp) HRS.out (by rw [List.nil_append, joinB_one])).mono ?_
      rintro e w7 ⟨rfl, hb⟩
      have B7 := Lib.hid (B6.out.trans (hb.mono B6.out.size))
      clear hb B6 HW6
      go_wp2
      go_ret
      exact ⟨rfl, B7.out⟩
theorem implMap_is (ps : List PtrM) (t : ByteArray) (w : World) (h8 : ps.length = 8) (hp : HasPow w) (ht : mapText ps = t) :
    Calls Tryd.prog 23 #[.agg (pcs ps).toArray] w fun e w' => e = .returned (.string t) ∧ Below w.heap.size w w' := ht ▸ implMap_any ps w h8 hp

set_option maxHeartbeats 1000000 in
theorem lawCoreMap (ps : List PtrM) (w : World) (h8 : ps.length = 8) (hp : HasPow w) :
    Calls Tryd.prog 6 #[.agg (pcs ps).toArray] w fun e w' => e = .returned (.bool true) ∧ Below w.heap.size w w' := by
  obtain ⟨tx, HTX⟩ : ∃ tx, Hid (mapText ps = tx) := ⟨_, Lib.hid rfl⟩
  have hg := hp.lt
  have H8 := Lib.hid h8
  have HL := Lib.hid (show (pcs ps).length = 24 by rw [pcs_length, h8])
  have X0 := Lib.hid (box_new w (pcs ps).toArray 49)
  have B0 := Lib.hid (Below.new (w := w) (.cells (pcs ps).toArray 49))
  clear h8
  go_enter Tryd.func6, Tryd.ntmps6
  go_wp2_with (refine wpList_load_box rfl _ rfl aggMapL rfl (pcs ps) HL.out X0.out ?_)
  refine (toPtrA8_any ps _ H8.out).mono ?_
  rintro e w1 ⟨rfl, hb⟩
  have X1 := Lib.hid (X0.out.below hb X0.out.lt)
  have B1 := Lib.hid (B0.out.trans (hb.mono B0.out.size))
  clear hb X0 B0
  go_wp2_with fail
  refine (specMap_is ps tx _ H8.out HTX.out).mono ?_
  rintro e w2 ⟨rfl, hb⟩
  have X2 := Lib.hid (X1.out.below hb X1.out.lt)
  have B2 := Lib.hid (B1.out.trans (hb.mono B1.out.size))
  clear hb X1 B1
  go_wp2_with (refine wpList_load_box rfl _ rfl aggMapL rfl (pcs ps) HL.out X2.out ?_)
  refine (toPtrA8_any ps _ H8.out).mono ?_
  rintro e w3 ⟨rfl, hb⟩
  have B3 := Lib.hid (B2.out.trans (hb.mono B2.out.size))
  clear hb X2 B2
  go_wp2_with fail
  refine (implMap_is ps tx _ H8.out (hp.below B3.out hg) HTX.out).mono ?_
  rintro e w4 ⟨rfl, hb⟩
  have B4 := Lib.hid (B3.out.trans (hb.mono B3.out.size))
  clear hb B3
  go_wp2
  go_ret
  exact ⟨rfl, B4.out⟩
end Go.Proofs.YtoeaeckkmpdpiaaDoor

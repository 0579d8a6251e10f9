/-
  CoreUber of both sides.
-/
import Derived.Test.YtfpplbipnbcpaaaDoorCoreU
set_option maxRecDepth 100000
namespace Go.Proofs.YtfpplbipnbcpaaaDoor
open Go.ChangeShapes Go.WideShapes Go.ChangeAt Go.RowKit Go.Proofs.Palim

/-- The ring's word before it is sealed. -/
def uberB (z : Int) (p : PtrM) : ByteArray := (⟨(Lib.itoa z).toArray⟩ : ByteArray) ++ (⟨#[32]⟩ : ByteArray) ++ ptrText p ++ (⟨#[32]⟩ : ByteArray) ++ (⟨(Lib.itoa z).toArray⟩ : ByteArray)
def UberOk (z : Int) (p : PtrM) : Prop := 1 ≤ z ∧ z ≤ 1000000 ∧ GoodM p
instance (z : Int) (p : PtrM) : Decidable (UberOk z p) := by unfold UberOk; infer_instance
def uberText (z : Int) (p : PtrM) : ByteArray := if UberOk z p then sealB (uberB z p) else ⟨#[]⟩
theorem ptrText_bd (p : PtrM) (h : GoodM p) : (ptrText p).size ≤ 65 := by
  obtain ⟨h1, h2, h3, h4, h5, h6⟩ := id h
  have l1 := Lib.itoa_length_le p.at_ (by omega) (by omega)
  have l2 := Lib.itoa_length_le p.sum (by omega) (by omega)
  have l3 := Lib.itoa_length_le p.birth (by omega) (by omega)
  have hk : ¬ NullM p := fun c => by have := c.1; omega
  unfold ptrText
  rw [if_neg (not_not_intro (show PtrOkM p from Or.inr h)), if_neg hk]
  show (ptrL p).toArray.size ≤ 65
  simp [ptrL]
  omega
theorem specPtrText_is (p : PtrM) (t : ByteArray) (w : World) (ht : ptrText p = t) :
    Calls Tryd.prog 41 #[pv p] w fun e w' => e = .returned (.string t) ∧ Below w.heap.size w w' := ht ▸ specPtrText_any p w
theorem implPtrText_is (p : PtrM) (t : ByteArray) (w : World) (hp : HasPow w) (ht : ptrText p = t) :
    Calls Tryd.prog 68 #[pv p] w fun e w' => e = .returned (.string t) ∧ Below w.heap.size w w' := ht ▸ implPtrText_any p w hp
theorem specSeal_is (s t : ByteArray) (w : World) (hs : s.size ≤ 1000000) (ht : sealB s = t) :
    Calls Tryd.prog 46 #[.string s] w fun e w' => e = .returned (.string t) ∧ Below w.heap.size w w' := by
  subst ht; exact specSeal_any s w (by unfold maxLen; omega)
theorem implSeal_is (s t : ByteArray) (w : World) (hs : s.size ≤ 1000000) (hp : HasPow w) (ht : sealB s = t) :
    Calls Tryd.prog 69 #[.string s] w fun e w' => e = .returned (.string t) ∧ Below w.heap.size w w' := by
  subst ht; exact implSeal_any s w (by unfold maxLen; omega) hp

set_option maxHeartbeats 2000000 in
theorem specUber_any (z : Int) (p : PtrM) (w : World) :
    Calls Tryd.prog 30 #[.int .i64 z, pv p] w fun e w' => e = .returned (.string (uberText z p)) ∧ Below w.heap.size w w' := by
  have hnot : ∀ (x : Bool) (w : World), (Op.unary .not (.bool x)).run Tryd.prog w = .ok (.bool (!x)) w := fun _ _ => rfl
  obtain ⟨R, HR⟩ : ∃ R, Hid (uberText z p = R) := ⟨_, Lib.hid rfl⟩
  rw [HR.out]
  obtain ⟨hX, hsz, hB⟩ := box1 w #[.int .i64 p.at_, .int .i64 p.sum, .int .i64 p.birth] 29
  have XP := Lib.hid hX
  have B0 := Lib.hid hB
  clear hX hB
  have HN := Lib.hid (show ¬ UberOk z p → (⟨#[]⟩ : ByteArray) = R from fun h => by rw [← HR.out]; unfold uberText; rw [if_neg h])
  by_cases h1 : z < 1
  · have HF := Lib.hid (HN.out (fun c => by have := c.1; omega))
    go_enter Tryd.func30, Tryd.ntmps30
    go_wp2
    go_ret
    exact ⟨ret_s HF.out, B0.out⟩
  by_cases h2 : z > 1000000
  · have HF := Lib.hid (HN.out (fun c => by have := c.2.1; omega))
    go_enter Tryd.func30, Tryd.ntmps30
    go_wp2
    go_ret
    exact ⟨ret_s HF.out, B0.out⟩
  by_cases hok : PtrOkM p
  case neg =>
    have HF := Lib.hid (HN.out (fun c => hok (Or.inr c.2.2)))
    go_enter Tryd.func30, Tryd.ntmps30
    go_wp2_with fail
    refine (specPtrOk_is p _ false (decide_eq_false hok)).mono ?_
    rintro e w1 ⟨rfl, hb⟩
    have B1 := Lib.hid (B0.out.trans (hb.mono B0.out.size))
    go_wp2
    go_ret
    exact ⟨ret_s HF.out, B1.out⟩
  case pos =>
  go_enter Tryd.func30, Tryd.ntmps30
  go_wp2_with fail
  refine (specPtrOk_is p _ true (decide_eq_true hok)).mono ?_
  rintro e w1 ⟨rfl, hb⟩
  have XP1 := Lib.hid (XP.out.below hb XP.out.lt)
  have B1 := Lib.hid (B0.out.trans (hb.mono B0.out.size))
  have hlt : w.heap.size + 1 ≤ w1.heap.size := by have := hb.size; omega
  clear hb XP B0 hsz
  obtain ⟨x0, x1, x2⟩ := XP1.out.three
  by_cases hn : p.at_ = 0
  case pos =>
    have HF := Lib.hid (HN.out (fun c => by have := c.2.2.1; omega))
    rw [hn] at x0
    clear hok hn
    go_wp2
    go_ret
    exact ⟨ret_s HF.out, B1.out⟩
  case neg =>
  have hg : GoodM p := hok.resolve_left (fun c => hn c.1)
  have HT := Lib.hid (show sealB (uberB z p) = R from by rw [← HR.out]; unfold uberText; rw [if_pos ⟨by omega, by omega, hg⟩])
  have l1 := Lib.itoa_length_le z (by omega) (by omega)
  have l2 := ptrText_bd p hg
  obtain ⟨t1, H1⟩ : ∃ t, Hid ((⟨(Lib.itoa z).toArray⟩ : ByteArray) = t) := ⟨_, Lib.hid rfl⟩
  obtain ⟨t2, H2⟩ : ∃ t, Hid (ptrText p = t) := ⟨_, Lib.hid rfl⟩
  rw [H2.out] at l2
  have HU := Lib.hid (show uberB z p = t1 ++ (⟨#[32]⟩ : ByteArray) ++ t2 ++ (⟨#[32]⟩ : ByteArray) ++ t1 from by unfold uberB; rw [H1.out, H2.out])
  rw [HU.out] at HT
  have z1 : t1.size ≤ 21 := by rw [← H1.out]; show (Lib.itoa z).toArray.size ≤ 21; simpa using l1
  have k1 : ∀ w, (Op.stringOp .add t1 (⟨#[32]⟩ : ByteArray)).run Tryd.prog w = .ok (.string (t1 ++ (⟨#[32]⟩ : ByteArray))) w := add_str _ _ (by show t1.size + 1 ≤ _; omega)
  have k2 : ∀ w, (Op.stringOp .add (t1 ++ (⟨#[32]⟩ : ByteArray)) t2).run Tryd.prog w = .ok (.string (t1 ++ (⟨#[32]⟩ : ByteArray) ++ t2)) w := add_str _ _ (by rw [ByteArray.size_append]; show t1.size + 1 + _ ≤ _; omega)
  have k3 : ∀ w, (Op.stringOp .add (t1 ++ (⟨#[32]⟩ : ByteArray) ++ t2) (⟨#[32]⟩ : ByteArray)).run Tryd.prog w = .ok (.string (t1 ++ (⟨#[32]⟩ : ByteArray) ++ t2 ++ (⟨#[32]⟩ : ByteArray))) w := add_str _ _ (by rw [ByteArray.size_append, ByteArray.size_append]; show t1.size + 1 + _ + 1 ≤ _; omega)
  have k4 : ∀ w, (Op.stringOp .add (t1 ++ (⟨#[32]⟩ : ByteArray) ++ t2 ++ (⟨#[32]⟩ : ByteArray)) t1).run Tryd.prog w = .ok (.string (t1 ++ (⟨#[32]⟩ : ByteArray) ++ t2 ++ (⟨#[32]⟩ : ByteArray) ++ t1)) w := add_str _ _ (by rw [ByteArray.size_append, ByteArray.size_append, ByteArray.size_append]; show t1.size + 1 + _ + 1 + _ ≤ _; omega)
  have hsz : (t1 ++ (⟨#[32]⟩ : ByteArray) ++ t2 ++ (⟨#[32]⟩ : ByteArray) ++ t1).size ≤ 1000000 := by
    rw [ByteArray.size_append, ByteArray.size_append, ByteArray.size_append, ByteArray.size_append]; show t1.size + 1 + _ + 1 + _ ≤ _; omega
  clear l1 hok hg HN HU HR
  go_wp2_with fail
  go_region_held3 (fun w' => w.heap.size + 1 ≤ w'.heap.size ∧ w'.cell? ⟨w.heap.size, 0, none⟩ = some (.int .i64 p.at_) ∧ w'.cell? ⟨w.heap.size, 1, none⟩ = some (.int .i64 p.sum) ∧ w'.cell? ⟨w.heap.size, 2, none⟩ = some (.int .i64 p.birth))
    (first
      | exact ⟨by simp; omega, x0, x1, x2⟩
      | (go_split_ands
         refine ⟨Nat.le_trans (by assumption) hb5.size, ?_, ?_, ?_⟩
         all_goals (rw [hb5.cell (by simp <;> omega)]; assumption))
      | (go_split_ands
         refine ⟨Nat.le_trans (by assumption) hb4.size, ?_, ?_, ?_⟩
         all_goals (rw [hb4.cell (by simp <;> omega)]; assumption))
      | (go_split_ands
         refine ⟨Nat.le_trans (by assumption) hb3.size, ?_, ?_, ?_⟩
         all_goals (rw [hb3.cell (by simp <;> omega)]; assumption))
      | (go_split_ands
         refine ⟨Nat.le_trans (by assumption) hb2.size, ?_, ?_, ?_⟩
         all_goals (rw [hb2.cell (by simp <;> omega)]; assumption)))
    (first
      | (go_at_call 46; ((with_reducible refine (specSeal_is _ R _ hsz HT.out).mono ?_); rintro e w5 ⟨rfl, hb5⟩))
      | (go_at_call 41; ((with_reducible refine (specPtrText_is p t2 _ H2.out).mono ?_); rintro e w3 ⟨rfl, hb3⟩))
      | (go_at_call 34; ((with_reducible refine (decIs z _ (by omega) (by omega) t1 H1.out).mono ?_); first | (have hq3 := hb3; clear hq3; rintro e w4 ⟨rfl, hb4⟩) | (rintro e w2 ⟨rfl, hb2⟩))))
  have hb25 := (below_three' (a := w1) hb2 hb3 hb4).trans (hb5.mono (below_three' (a := w1) hb2 hb3 hb4).size)
  have B5 := Lib.hid (B1.out.trans (hb25.mono B1.out.size))
  clear hb2 hb3 hb4 hb5 hb25 x0 x1 x2 B1
  go_wp2
  go_ret
  exact ⟨rfl, B5.out⟩
theorem specUber_is (z : Int) (p : PtrM) (t : ByteArray) (w : World) (ht : uberText z p = t) :
    Calls Tryd.prog 30 #[.int .i64 z, pv p] w fun e w' => e = .returned (.string t) ∧ Below w.heap.size w w' := ht ▸ specUber_any z p w

theorem sl_strs (w : World) (ss : List ByteArray) (e : Nat) (n : Nat) (hn : ss.length = n) (hm : n ≤ 1000) : Sl (w.alloc (.cells (scs ss).toArray e)) 1 (.slice (some ⟨w.heap.size, 0, none⟩) n n) ss.length (scs ss) := by
  subst hn
  refine ⟨by rw [scs_length, Nat.mul_one], _, _, rfl, Nat.le_refl _, by unfold maxLen; omega, Or.inr ⟨w.heap.size, 0, rfl, fun j u hu => ?_⟩⟩
  have := (box_new w (scs ss).toArray e).cell j (by simpa using hu)
  rwa [Nat.zero_add]
theorem joinB_three (a b c sep : ByteArray) : joinB [a, b, c] sep = a ++ sep ++ b ++ sep ++ c := by
  have h1 := joinB_snoc [a, b] c sep
  have h2 := joinB_snoc [a] b sep
  rw [if_neg (by simp)] at h1 h2
  simp only [List.cons_append, List.nil_append] at h1 h2
  rw [h1, h2, joinB_one]

set_option maxHeartbeats 2000000 in
theorem implUber_any (z : Int) (p : PtrM) (w : World) (hp : HasPow w) :
    Calls Tryd.prog 49 #[.int .i64 z, pv p] w fun e w' => e = .returned (.string (uberText z p)) ∧ Below w.heap.size w w' := by
  have hnot : ∀ (x : Bool) (w : World), (Op.unary .not (.bool x)).run Tryd.prog w = .ok (.bool (!x)) w := fun _ _ => rfl
  obtain ⟨R, HR⟩ : ∃ R, Hid (uberText z p = R) := ⟨_, Lib.hid rfl⟩
  rw [HR.out]
  obtain ⟨hX, hsz, hB⟩ := box1 w #[.int .i64 p.at_, .int .i64 p.sum, .int .i64 p.birth] 29
  have XP := Lib.hid hX
  have B0 := Lib.hid hB
  have P0 := Lib.hid hp
  clear hX hB hp
  have HN := Lib.hid (show ¬ UberOk z p → (⟨#[]⟩ : ByteArray) = R from fun h => by rw [← HR.out]; unfold uberText; rw [if_neg h])
  by_cases h1 : z < 1
  · have HF := Lib.hid (HN.out (fun c => by have := c.1; omega))
    go_enter Tryd.func49, Tryd.ntmps49
    go_wp2
    go_ret
    exact ⟨ret_s HF.out, B0.out⟩
  by_cases h2 : z > 1000000
  · have HF := Lib.hid (HN.out (fun c => by have := c.2.1; omega))
    go_enter Tryd.func49, Tryd.ntmps49
    go_wp2
    go_ret
    exact ⟨ret_s HF.out, B0.out⟩
  by_cases hg : GoodM p
  case neg =>
    have HF := Lib.hid (HN.out (fun c => hg c.2.2))
    go_enter Tryd.func49, Tryd.ntmps49
    go_wp2_with fail
    refine (corePoints_is p _ false (decide_eq_false hg)).mono ?_
    rintro e w1 ⟨rfl, hb⟩
    have B1 := Lib.hid (B0.out.trans (hb.mono B0.out.size))
    go_wp2
    go_ret
    exact ⟨ret_s HF.out, B1.out⟩
  case pos =>
  have HT := Lib.hid (show sealB (uberB z p) = R from by rw [← HR.out]; unfold uberText; rw [if_pos ⟨by omega, by omega, hg⟩])
  have l1 := Lib.itoa_length_le z (by omega) (by omega)
  have l2 := ptrText_bd p hg
  obtain ⟨t1, H1⟩ : ∃ t, Hid ((⟨(Lib.itoa z).toArray⟩ : ByteArray) = t) := ⟨_, Lib.hid rfl⟩
  obtain ⟨t2, H2⟩ : ∃ t, Hid (ptrText p = t) := ⟨_, Lib.hid rfl⟩
  rw [H2.out] at l2
  have HU := Lib.hid (show uberB z p = joinB [t1, t2, t1] ⟨#[32]⟩ from by unfold uberB; rw [H1.out, H2.out, joinB_three])
  rw [HU.out] at HT
  have z1 : t1.size ≤ 21 := by rw [← H1.out]; show (Lib.itoa z).toArray.size ≤ 21; simpa using l1
  obtain ⟨t3, H3⟩ : ∃ t, Hid (joinB [t1, t2, t1] ⟨#[32]⟩ = t) := ⟨_, Lib.hid rfl⟩
  rw [H3.out] at HT
  have hsz3 : t3.size ≤ 1000000 := by
    rw [← H3.out, joinB_three, ByteArray.size_append, ByteArray.size_append, ByteArray.size_append, ByteArray.size_append]; show t1.size + 1 + _ + 1 + _ ≤ _; omega
  clear l1 HN HU HR
  go_enter Tryd.func49, Tryd.ntmps49
  go_wp2_with fail
  refine (corePoints_is p _ true (decide_eq_true hg)).mono ?_
  rintro e w1 ⟨rfl, hb⟩
  have XP1 := Lib.hid (XP.out.below hb XP.out.lt)
  have B1 := Lib.hid (B0.out.trans (hb.mono B0.out.size))
  have P1 := Lib.hid (P0.out.below B1.out P0.out.lt)
  have hlt : w.heap.size + 1 ≤ w1.heap.size := by have := hb.size; omega
  clear hb XP B0 hsz hg
  go_wp2_with fail
  refine (itoaIs z _ (by omega) (by omega) P1.out t1 H1.out).mono ?_
  rintro e w2 ⟨rfl, hb⟩
  have XP2 := Lib.hid (XP1.out.below hb XP1.out.lt)
  have B2 := Lib.hid (B1.out.trans (hb.mono B1.out.size))
  have P2 := Lib.hid (P0.out.below B2.out P0.out.lt)
  have hlt2 : w.heap.size + 1 ≤ w2.heap.size := by have := hb.size; omega
  clear hb XP1 B1 P1
  obtain ⟨x0, x1, x2⟩ := (XP2.out.alloc (.cells #[.slice none 0 0] 92)).three
  have W0 := Lib.hid (wr_new w2 92)
  have B3 := Lib.hid (B2.out.alloc B2.out.size (.cells #[.slice none 0 0] 92))
  have P3 := Lib.hid (P0.out.below B3.out P0.out.lt)
  clear XP2
  go_wp2_with fail
  refine (implPtrText_is p t2 _ P3.out H2.out).mono ?_
  rintro e w4 ⟨rfl, hb⟩
  have W4 := Lib.hid (W0.out.below hb)
  have B4 := Lib.hid (B3.out.trans (hb.mono B3.out.size))
  have hw4 : w2.heap.size + 1 ≤ w4.heap.size := by have := hb.size; simp at this; omega
  clear hb W0 B3 P3 x0 x1 x2
  have S5 := Lib.hid (sl_strs w4 [t1, t2, t1] 9 3 rfl (by omega))
  have W5 := Lib.hid (W4.out.below (Below.new (w := w4) (.cells (scs [t1, t2, t1]).toArray 9)))
  have B5 := Lib.hid (B4.out.alloc B4.out.size (.cells (scs [t1, t2, t1]).toArray 9))
  clear W4 B4
  go_wp2_with fail
  refine (line_any w2.heap.size w2.heap.size (.slice none 0 0) [] _ [t1, t2, t1] t3 _ W5.out S5.out (fun b e => by simp [Value.ownBlock] at e; simp; omega) (by simp) (by simp) (by omega) H3.out).mono ?_
  rintro e w6 ⟨rfl, ⟨v6, W6⟩, hb⟩
  have HW6 := Lib.hid W6
  have B6 := Lib.hid (B5.out.trans (hb.mono (by omega)))
  clear hb W5 B5 S5 W6
  go_wp2_with fail
  refine (text_wr w2.heap.size w2.heap.size v6 _ t3 _ HW6.out (by simp) (by omega) (by rw [List.nil_append, joinB_one])).mono ?_
  rintro e w7 ⟨rfl, hb⟩
  have B7 := Lib.hid (B6.out.trans (hb.mono B6.out.size))
  have P7 := Lib.hid (P0.out.below B7.out P0.out.lt)
  clear hb B6 HW6
  go_wp2_with fail
  refine (implSeal_is t3 R _ hsz3 P7.out HT.out).mono ?_
  rintro e w8 ⟨rfl, hb⟩
  have B8 := Lib.hid (B7.out.trans (hb.mono B7.out.size))
  clear hb B7
  go_wp2
  go_ret
  exact ⟨rfl, B8.out⟩
theorem implUber_is (z : Int) (p : PtrM) (t : ByteArray) (w : World) (hp : HasPow w) (ht : uberText z p = t) :
    Calls Tryd.prog 49 #[.int .i64 z, pv p] w fun e w' => e = .returned (.string t) ∧ Below w.heap.size w w' := ht ▸ implUber_any z p w hp
end Go.Proofs.YtfpplbipnbcpaaaDoor

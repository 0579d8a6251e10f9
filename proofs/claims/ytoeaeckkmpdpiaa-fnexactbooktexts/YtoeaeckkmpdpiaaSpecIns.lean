/-
  The document's l4Insert: a text put among others, ascending, once.
-/
import Derived.Test.YtoeaeckkmpdpiaaBookMath
import Derived.Test.YtoeaeckkmpdpiaaApp
import Derived.Test.YtoeaeckkmpdpiaaSpecAt
import Derived.BigQuiet
import Derived.OwnWalk
set_option maxRecDepth 100000
namespace Go.Proofs.Ytoeaeckkmpdpiaa
open Go.ChangeShapes Go.WideShapes Go.ChangeAt Go.RowKit Go.Proofs.Palim

/-- The place of a text among others, and it put there. -/
def insAt (ss : List ByteArray) (s : ByteArray) : Nat := (ss.takeWhile (fun x => decide (Lt x s))).length
def insM (ss : List ByteArray) (s : ByteArray) : List ByteArray := if ss[insAt ss s]? = some s then ss else ss.take (insAt ss s) ++ [s] ++ ss.drop (insAt ss s)
theorem insAt_eq : ∀ {ls : List ByteArray} {s : ByteArray} {k : Nat}, k ≤ ls.length → (∀ (j : Nat) (h : j < ls.length), j < k → Lt ls[j] s) → (∀ (h : k < ls.length), ¬ Lt ls[k] s) → insAt ls s = k
  | [], s, k, hk, _, _ => by simp at hk; subst hk; rfl
  | a :: l, s, 0, _, _, h2 => by
    have := h2 (by simp)
    simp at this
    simp [insAt, this]
  | a :: l, s, k + 1, hk, h1, h2 => by
    have ha := h1 0 (by simp) (by omega)
    simp at ha
    have ih := insAt_eq (ls := l) (s := s) (k := k) (by simpa using hk) (fun j h hj => h1 (j + 1) (by simpa using h) (by omega)) (fun h => h2 (by simpa using h))
    simp [insAt, ha] at ih ⊢
    exact ih
/-- What l4Insert leaves. -/
def InsPost (base : Nat) (v : Value) (ss : List ByteArray) (s : ByteArray) (w : World) (e : Ending) (w' : World) : Prop :=
  ∃ v', e = .returned v' ∧ w'.ownsRow base 9 1 v' (insM ss s).length (scs (insM ss s)) ∧ Turned (fun b => v.ownBlock = some b) w w'
set_option maxHeartbeats 2000000 in
theorem l4Insert_any (v : Value) (ss : List ByteArray) (s : ByteArray) (base : Nat) (w : World) (h : w.ownsRow base 9 1 v ss.length (scs ss)) (hb : base ≤ w.heap.size) (hn : ss.length ≤ 1000) :
    Calls Try.prog 32 #[v, .string s] w (InsPost base v ss s w) := by
  obtain ⟨i0, hi, hz0, hz1, hz2⟩ := info_parts infoStr
  have HO := Lib.hid h
  obtain ⟨_, A, c, rfl, hnc0, hcm0, hcell0⟩ := sl_of_own h
  have HSL := Lib.hid (sl_of_own h)
  clear h hcell0
  obtain ⟨n, HN⟩ : ∃ n, Hid (ss.length = n) := ⟨_, Lib.hid rfl⟩
  rw [HN.out] at hn hnc0 HO HSL ⊢
  unfold maxLen at hcm0
  go_enter Try.func32, Try.ntmps32
  go_wp2
  go_loop [5] (fun i => ∃ k : Nat, k ≤ n ∧ i = .int .i64 k ∧ Hid (∀ (j : Nat) (h : j < ss.length), j < k → Lt ss[j] s)) (fun i => n - (intOf i).toNat)
  case atStart => exact ⟨0, Nat.zero_le _, rfl, Lib.hid (fun j _ h => absurd h (Nat.not_lt_zero _))⟩
  case round =>
    obtain ⟨k, hk, rfl, HK⟩ := hrel
    by_cases hlt : k < n
    case pos =>
      have hl0 : k < ss.length := by rw [HN.out]; exact hlt
      obtain ⟨g, c', hv, hbg, hgl⟩ := HO.out.form (by omega)
      injection hv with e1 e2 e3
      subst e1 e3
      clear e2
      obtain ⟨⟨u, hu, g0⟩, -, -, -⟩ := own_at HO.out k (by omega)
      rw [scs_at ss k hl0] at hu
      obtain rfl := Option.some.inj hu
      clear hu
      have hk1 : (k : Int) < (n : Int) := by omega
      by_cases hL : Lt ss[k] s
      · have HK1 := Lib.hid (show ∀ (j : Nat) (h : j < ss.length), j < k + 1 → Lt ss[j] s from fun j h hj => by
          rcases Nat.lt_succ_iff_lt_or_eq.1 hj with h2 | rfl
          · exact HK.out j h h2
          · exact hL)
        have hL2 : Op.bytesLess ss[k].toList s.toList = true := hL
        clear hL HK
        generalize ss[k] = x at g0 hL2
        go_wp2
        go_round
        case rel => exact ⟨k + 1, by omega, by go_num, HK1⟩
        case measure => simp [intOf]; omega
      · have HA := Lib.hid (insAt_eq (by rw [HN.out]; exact hk) HK.out (fun _ => hL))
        have hL2 : Op.bytesLess ss[k].toList s.toList = false := by simpa [Lt] using hL
        by_cases he : ss[k] = s
        · have he2 : (ss[k].toList == s.toList) = true := by rw [he]; simp
          have HI := Lib.hid (show insM ss s = ss from if_pos (by rw [HA.out, List.getElem?_eq_getElem hl0, he]))
          clear hL HK he
          generalize ss[k] = x at g0 hL2 he2
          go_wp2
          go_ret
          exact ⟨_, rfl, by rw [HI.out, HN.out]; exact HO.out, Turned.refl _ _⟩
        · have he2 : (ss[k].toList == s.toList) = false := by rw [← beq_toListBytes, bytes_beq, decide_eq_false he]
          have HI := Lib.hid (show insM ss s = ss.take k ++ [s] ++ ss.drop k from by unfold insM; rw [HA.out, List.getElem?_eq_getElem hl0, if_neg (fun e => he (Option.some.inj e))])
          clear hL HK he
          generalize ss[k] = x at g0 hL2 he2
          have hb1 := Below.new1 (w := w) (.cells #[] 9)
          have hsd := sl_drop (xs := scs ss) (k := k) (w' := w.alloc (.cells #[] 9)) HSL.out hlt (hb1.block g hgl)
          rw [show (scs ss).drop k = scs (ss.drop k) from by simp [scs]] at hsd
          have HSD := Lib.hid hsd
          clear hsd hb1
          go_wp2_with (first | (at_builtin; refine wpList_append_freshB _ rfl _ _ 26 rfl w.heap.size 9 i0 _ 1 16 Try.underlying26 hi hz0 hz1 hz2 rfl (by omega) (.slice (some ⟨w.heap.size, 0, none⟩) 0 0) 0 [] rfl (World.ownsRow_made w #[] 0 (Nat.le_refl _) (by unfold maxLen; omega) rfl) (.slice (some ⟨g, k, none⟩) (n - k) (c - k)) (n - k) (scs (ss.drop k)) rfl HSD.out (scs_oneB _) (by unfold maxLen; omega) (by omega) (by simp) ?_))
          intro A1 cap1 w1 hown1 hg1 _
          have HB1 := Lib.hid (show Below w.heap.size w w1 from ((Below.refl _ w).alloc (Nat.le_refl _) _).grown hg1 (by simp) (by intro k hk; simp [Value.ownBlock] at hk; omega))
          have HOW1 := Lib.hid hown1
          clear hown1 hg1
          have HO1 := Lib.hid (own_kept HO.out (w' := w1) (fun b e => HB1.out.block b (HO.out.lt b e).2))
          have hb2 := Below.new1 (w := w1) (.cells #[.string s] 9)
          have HP := Lib.hid (own_kept (own_take HO1.out (k := k) (by omega)) (w' := w1.alloc (.cells #[.string s] 9)) (fun b e => hb2.block b ((own_take HO1.out (k := k) (by omega)).lt b e).2))
          have HS1 := Lib.hid (sl_one w1 s 9)
          clear hb2
          go_wp2_with (first | (at_builtin; refine wpList_append_freshB _ rfl _ _ 26 rfl base 9 i0 _ 1 16 Try.underlying26 hi hz0 hz1 hz2 rfl (by omega) (.slice (some ⟨g, 0, none⟩) k c) k _ rfl HP.out (.slice (some ⟨w1.heap.size, 0, none⟩) 1 1) 1 [.string s] rfl HS1.out (by simp [Value.oneCell']) (by unfold maxLen; omega) (by omega) (by have := HB1.out.size; simp; omega) ?_))
          intro A2 cap2 w2 hown2 hg2 hloc2
          have HOW2 := Lib.hid hown2
          have hT1 : Turned (fun b => b = g) w w2 := turned_grown (turned_of_below (HB1.out.trans ((Below.new1 (w := w1) (.cells #[.string s] 9)).mono HB1.out.size))) hg2 (fun b e => Or.inl (by simpa [Value.ownBlock] using e.symm))
          have HT1 := Lib.hid hT1
          have hkeep : ∀ b, (Value.slice A1 (n - k) cap1).ownBlock = some b → w2.heap[b]? = w1.heap[b]? := fun b e => by
            have h1 := HOW1.out.lt b e
            rw [hg2.block b (by simp; omega) (by simp [Value.ownBlock]; omega)]
            exact Below.heap_alloc _ _ b h1.2
          have HS2 := Lib.hid (sl_of_own (own_kept HOW1.out hkeep))
          clear hown2 hg2 hT1 hkeep
          go_wp2_with (first | (at_builtin; refine wpList_append_freshB _ rfl _ _ 26 rfl base 9 i0 _ 1 16 Try.underlying26 hi hz0 hz1 hz2 rfl (by omega) (.slice A2 (k + 1) cap2) (k + 1) _ rfl HOW2.out (.slice A1 (n - k) cap1) (n - k) (scs (ss.drop k)) rfl HS2.out (scs_oneB _) (by unfold maxLen; omega) (by omega) (by have := HT1.out.size; omega) ?_))
          intro A3 cap3 w3 hown3 hg3 hloc3
          have HOW3 := Lib.hid (show w3.ownsRow base 9 1 (.slice A3 (k + 1 + (n - k)) cap3) (insM ss s).length (scs (insM ss s)) from by
            have e1 : (insM ss s).length = k + 1 + (n - k) := by rw [HI.out]; simp [HN.out]; omega
            have e2 : scs (insM ss s) = (scs ss).take k ++ .string s :: scs (ss.drop k) := by rw [HI.out]; simp [scs, List.map_take]
            rw [e1, e2]
            exact hown3)
          have HT3 := Lib.hid (turned_grown HT1.out hg3 (fun b e => by
            rcases hloc2 with h2 | h2
            · left; rw [h2] at e; simpa [Value.ownBlock] using e.symm
            · right
              rw [h2] at e
              have := HB1.out.size
              have e' := Option.some.inj e
              have h5 : (w1.alloc (.cells #[.string s] 9)).heap.size = w1.heap.size + 1 := by simp
              omega))
          clear hown3 hg3 hloc3 hloc2
          go_wp2
          go_ret
          exact ⟨_, rfl, HOW3.out, HT3.out.mono (by rintro b _ rfl; rfl)⟩
    case neg =>
      have hkn : k = n := by omega
      have HA := Lib.hid (insAt_eq (by rw [HN.out]; exact hk) HK.out (fun h => absurd h (by rw [HN.out]; exact hlt)))
      have HI := Lib.hid (show insM ss s = ss ++ [s] from by
        have e1 : ss.take k = ss := List.take_of_length_le (by rw [HN.out]; omega)
        have e2 : ss.drop k = [] := List.drop_eq_nil_of_le (by rw [HN.out]; omega)
        unfold insM; rw [HA.out, List.getElem?_eq_none (by rw [HN.out]; omega), if_neg (by simp), e1, e2]; simp)
      clear HK HA
      subst hkn
      have hd : decide ((k : Int) < (k : Int)) = false := decide_eq_false (by omega)
      have hA : (A = none ∧ k = c) ∨ (∃ g, A = some ⟨g, 0, none⟩ ∧ k = c) ∨ ∃ g, A = some ⟨g, 0, none⟩ ∧ ¬ c = k := by
        rcases HO.out.2 with ⟨hv, hz⟩ | ⟨g, cap', cur, hv, _⟩
        · injection hv with e1 e2 e3
          exact Or.inl ⟨e1, by omega⟩
        · injection hv with e1 e2 e3
          by_cases hck : c = k
          · exact Or.inr (Or.inl ⟨g, e1, hck.symm⟩)
          · exact Or.inr (Or.inr ⟨g, e1, hck⟩)
      rcases hA with ⟨rfl, rfl⟩ | ⟨g, rfl, rfl⟩ | ⟨g, rfl, hck⟩
      all_goals
        go_wp2_with (first | (at_builtin; refine wpList_append_freshB _ rfl _ _ 26 rfl w.heap.size 9 i0 _ 1 16 Try.underlying26 hi hz0 hz1 hz2 rfl (by omega) (.slice (some ⟨w.heap.size, 0, none⟩) 0 0) 0 [] rfl (World.ownsRow_made w #[] 0 (Nat.le_refl _) (by unfold maxLen; omega) rfl) _ 0 [] rfl (sl_zero _ _ _ (by unfold maxLen; omega)) (by simp) (by unfold maxLen; omega) (by omega) (by simp) ?_))
        intro A1 cap1 w1 hown1 hg1 _
        have HB1 := Lib.hid (show Below w.heap.size w w1 from ((Below.refl _ w).alloc (Nat.le_refl _) _).grown hg1 (by simp) (by intro k hk; simp [Value.ownBlock] at hk; omega))
        have HOW1 := Lib.hid hown1
        clear hown1 hg1
        have HO1 := Lib.hid (own_kept HO.out (w' := w1) (fun b e => HB1.out.block b (HO.out.lt b e).2))
        have hb2 := Below.new1 (w := w1) (.cells #[.string s] 9)
        have HP := Lib.hid (own_kept HO1.out (w' := w1.alloc (.cells #[.string s] 9)) (fun b e => hb2.block b (HO1.out.lt b e).2))
        have HS1 := Lib.hid (sl_one w1 s 9)
        clear hb2
        go_wp2_with (first | (at_builtin; refine wpList_append_freshB _ rfl _ _ 26 rfl base 9 i0 _ 1 16 Try.underlying26 hi hz0 hz1 hz2 rfl (by omega) _ k _ rfl HP.out (.slice (some ⟨w1.heap.size, 0, none⟩) 1 1) 1 [.string s] rfl HS1.out (by simp [Value.oneCell']) (by unfold maxLen; omega) (by omega) (by have := HB1.out.size; simp; omega) ?_))
        intro A2 cap2 w2 hown2 hg2 hloc2
        have HOW2 := Lib.hid hown2
        have HT1 := Lib.hid (turned_grown (S := fun b => Value.ownBlock _ = some b) (w' := w2) (turned_of_below (HB1.out.trans ((Below.new1 (w := w1) (.cells #[.string s] 9)).mono HB1.out.size))) hg2 (fun b e => Or.inl e))
        have HS2 := Lib.hid (show Sl w2 1 (.slice A1 0 cap1) 0 [] from (sl_of_own HOW1.out).none_)
        clear hown2 hg2
        go_wp2_with (first | (at_builtin; refine wpList_append_freshB _ rfl _ _ 26 rfl base 9 i0 _ 1 16 Try.underlying26 hi hz0 hz1 hz2 rfl (by omega) (.slice A2 (k + 1) cap2) (k + 1) _ rfl HOW2.out (.slice A1 0 cap1) 0 [] rfl HS2.out (by simp) (by unfold maxLen; omega) (by omega) (by have := HT1.out.size; omega) ?_))
        intro A3 cap3 w3 hown3 hg3 hloc3
        have HOW3 := Lib.hid (show w3.ownsRow base 9 1 (.slice A3 (k + 1) cap3) (insM ss s).length (scs (insM ss s)) from by
          have e1 : (insM ss s).length = k + 1 := by rw [HI.out]; simp [HN.out]
          have e2 : scs (insM ss s) = scs ss ++ [.string s] := by rw [HI.out]; simp [scs]
          rw [e1, e2]
          simpa using hown3)
        have HT3 := Lib.hid (turned_grown HT1.out hg3 (fun b e => by
          rcases hloc2 with h2 | h2
          · left; rw [h2] at e; exact e
          · right
            rw [h2] at e
            have := HB1.out.size
            have e' := Option.some.inj e
            have h5 : (w1.alloc (.cells #[.string s] 9)).heap.size = w1.heap.size + 1 := by simp
            omega))
        clear hown3 hg3 hloc3 hloc2
        go_wp2
        go_ret
        exact ⟨_, rfl, HOW3.out, HT3.out⟩
end Go.Proofs.Ytoeaeckkmpdpiaa

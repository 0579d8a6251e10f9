/-
  A record torn over another one of the same place: what is read is the new one, or none.
-/
import Derived.Test.YtgjlhokakcdpbaaGreatDoorLogR
import Derived.Test.YtgjlhokakcdpbaaGreatDoorTorn
set_option maxRecDepth 100000
namespace Go.Proofs.YtgjlhokakcdpbaaGreatDoor
open Go.ChangeShapes Go.WideShapes Go.ChangeAt Go.RowKit Go.Proofs.Palim

theorem pieces_last (x y : List UInt8) (h : (32 : UInt8) ∉ y) : pieces32 (x ++ 32 :: y) = pieces32 x ++ [y] := by
  induction x with
  | nil => rw [List.nil_append, show pieces32 (32 :: y) = [] :: pieces32 y from if_pos rfl, pieces_one32 y h]; rfl
  | cons c x ih =>
    rw [List.cons_append, pieces32, pieces32]
    by_cases hc : c = 32
    · rw [if_pos hc, if_pos hc, ih]; rfl
    · rw [if_neg hc, if_neg hc, ih]
      cases hp : pieces32 x with
      | nil =>
        cases x with
        | nil => simp [pieces32] at hp
        | cons d x =>
          rw [pieces32] at hp
          split at hp
          · cases hp
          · split at hp <;> cases hp
      | cons q qs => rfl
theorem last_space (l : List UInt8) (h : (32 : UInt8) ∈ l) : ∃ u v, l = u ++ 32 :: v ∧ (32 : UInt8) ∉ v := by
  induction l with
  | nil => cases h
  | cons c l ih =>
    by_cases hl : (32 : UInt8) ∈ l
    · obtain ⟨u, v, e, hv⟩ := ih hl
      exact ⟨c :: u, v, by rw [e]; rfl, hv⟩
    · obtain rfl : c = 32 := ((List.mem_cons.1 h).resolve_right hl).symm
      exact ⟨[], l, rfl, hl⟩
theorem pieces_count (l : List UInt8) : (pieces32 l).length = l.count 32 + 1 := by
  induction l with
  | nil => rfl
  | cons c l ih =>
    rw [pieces32]
    by_cases hc : c = 32
    · rw [if_pos hc, List.length_cons, ih, hc, List.count_cons_self]
    · rw [if_neg hc, List.count_cons_of_ne hc]
      cases hp : pieces32 l with
      | nil => rw [hp] at ih; simp at ih
      | cons q qs => rw [hp] at ih; simpa using ih
/-- A record's text, as a list. -/
theorem log_text_list {r : RecM} (h : RecOk r) : (logText r).data.toList = Lib.itoa (sumOf (logB r)) ++ 58 :: (logB r).data.toList := by
  rw [log_of_ok h]
  unfold sealB
  rw [if_neg (by have := logB_size h; omega)]
theorem sum_nat (s : ByteArray) : ∃ n : Nat, sumOf s = (n : Int) ∧ n < 65521 := by
  obtain ⟨h0, h1⟩ := sumOf_bd s
  exact ⟨(sumOf s).toNat, by omega, by omega⟩
/-- The words of a record's text: the first one bears the checksum. -/
theorem log_text_pieces {r : RecM} (h : RecOk r) : ∃ n : Nat, n < 65521 ∧ (logText r).data.toList = Lib.decDigits n ++ 58 :: (logB r).data.toList ∧ pieces32 (logText r).data.toList = [Lib.decDigits n ++ 58 :: (markW r.txg r.seq).data.toList, (nameW r.a).data.toList, (blockW r.i).data.toList, (bytesW r.text).data.toList, (markW r.txg r.seq).data.toList] := by
  obtain ⟨n, hn, hl⟩ := sum_nat (logB r)
  have e := log_text_list h
  rw [hn, Lib.itoa_nonneg] at e
  refine ⟨n, hl, e, ?_⟩
  obtain ⟨h1, _, h3, _, h5, h6⟩ := h
  have n1 := mark_space h1
  have n2 : (32 : UInt8) ∉ (nameW r.a).data.toList := by rw [nameW_ok h3]; exact name_space h3
  have n3 : (32 : UInt8) ∉ (blockW r.i).data.toList := by rw [blockW_ok h5]; exact dec_space h5.1
  have n4 : (32 : UInt8) ∉ (bytesW r.text).data.toList := by rw [bytesW_ok h6]; exact hexW_space _
  have n0 : (32 : UInt8) ∉ Lib.decDigits n ++ 58 :: (markW r.txg r.seq).data.toList := fun c => by
    rcases List.mem_append.1 c with c | c
    · exact dig_space n c
    · rcases List.mem_cons.1 c with c | c
      · simp at c
      · exact n1 c
  rw [e, log_list]
  have e3 : ∀ (a b c : List UInt8), a ++ 58 :: (b ++ 32 :: c) = (a ++ 58 :: b) ++ 32 :: c := fun a b c => by simp
  rw [e3, pieces_cut32 _ _ n0, pieces_cut32 _ _ n2, pieces_cut32 _ _ n3, pieces_cut32 _ _ n4, pieces_one32 _ n1]
theorem colon_head {a b : Nat} {x y : List UInt8} (h : Lib.decDigits a ++ 58 :: x = Lib.decDigits b ++ 58 :: y) : a = b ∧ x = y := by
  have h1 := congrArg (fun l => Lib.indexByte l 58) h
  rw [index_after _ _ (digit_ne a), index_after _ _ (digit_ne b)] at h1
  have h2 : (Lib.decDigits a).length = (Lib.decDigits b).length := by omega
  obtain ⟨h3, h4⟩ := List.append_inj h h2
  exact ⟨dd_inj h3, by injection h4⟩
theorem dot_head {a b : Nat} {x y : List UInt8} (h : Lib.decDigits a ++ 46 :: x = Lib.decDigits b ++ 46 :: y) : a = b ∧ x = y := by
  have h1 := congrArg (fun l => Lib.indexByte l 46) h
  rw [index_at _ _ (dd_point a), index_at _ _ (dd_point b)] at h1
  have h2 : (Lib.decDigits a).length = (Lib.decDigits b).length := by omega
  obtain ⟨h3, h4⟩ := List.append_inj h h2
  exact ⟨dd_inj h3, by injection h4⟩
theorem dd_small {q : Nat} (h : q < 10) : Lib.decDigits q = [UInt8.ofNat (48 + q)] := Lib.decDigits_one (by omega)
/-- Two marks, one of which is the beginning of what begins with the other, are one. -/
theorem mark_head {t q t' q' : Int} {x y : List UInt8} (h : MarkOk t q) (h' : MarkOk t' q') (e : (markW t q).data.toList ++ x = (markW t' q').data.toList ++ y) : t = t' ∧ q = q' := by
  obtain ⟨h1, h2, h3, h4⟩ := id h
  obtain ⟨g1, g2, g3, g4⟩ := id h'
  obtain ⟨m, rfl⟩ := Int.eq_ofNat_of_zero_le (show 0 ≤ t by omega)
  obtain ⟨k, rfl⟩ := Int.eq_ofNat_of_zero_le h3
  obtain ⟨m', rfl⟩ := Int.eq_ofNat_of_zero_le (show 0 ≤ t' by omega)
  obtain ⟨k', rfl⟩ := Int.eq_ofNat_of_zero_le g3
  rw [mark_list h, mark_list h', List.append_assoc, List.append_assoc, List.cons_append, List.cons_append] at e
  obtain ⟨rfl, e2⟩ := dot_head e
  refine ⟨rfl, ?_⟩
  rw [dd_small (by omega), dd_small (by omega), List.singleton_append, List.singleton_append] at e2
  injection e2 with e3 _
  have := congrArg UInt8.toNat e3
  rw [dig_nat k (by omega), dig_nat k' (by omega)] at this
  omega
theorem dd_len5 {n : Nat} (h : n < 65521) : (Lib.decDigits n).length ≤ 5 := dd_len 4 n (by omega)
theorem torn_list (o s : ByteArray) : (tornM o s).data.toList = s.data.toList.take (s.size / 2) ++ o.data.toList.drop (min (s.size / 2) o.size) := by
  unfold tornM
  have e1 := piece_list s 0 (s.size / 2) (by omega)
  have e2 := piece_list o (min (s.size / 2) o.size) o.size (Nat.le_refl _)
  rw [ByteArray.data_append, Array.toList_append, e1, e2, List.drop_zero, Nat.sub_zero]
  congr 1
  refine List.take_of_length_le ?_
  rw [List.length_drop, ← size_list]
  omega
theorem words_same {r z : RecM} (hr : RecOk r) (hz : RecOk z) (h0 : (markW r.txg r.seq).data.toList = (markW z.txg z.seq).data.toList) (h1 : (nameW r.a).data.toList = (nameW z.a).data.toList) (h2 : (blockW r.i).data.toList = (blockW z.i).data.toList) (h3 : (bytesW r.text).data.toList = (bytesW z.text).data.toList) : z = r := by
  have e : logWs z = logWs r := by
    refine lists_inj _ _ ?_
    simp only [logWs, List.map_cons, List.map_nil, h0, h1, h2, h3]
  have e2 : logB z = logB r := by unfold logB; rw [e]
  exact lspells_one (t := logText r) ⟨hz, by rw [log_of_ok hz, log_of_ok hr, e2]⟩ ⟨hr, rfl⟩
theorem torn_spells {r z : RecM} {o : ByteArray} (hr : RecOk r) (ho : o = noB ∨ ∃ p, RecOk p ∧ o = logText p ∧ p.txg ≠ r.txg) (h : LSpells (tornM o (logText r)) z) : z = r := by
  obtain ⟨hz, et⟩ := h
  obtain ⟨n, hn, hl, hp⟩ := log_text_pieces hr
  obtain ⟨k, hk, hlz, hpz⟩ := log_text_pieces hz
  have hS := torn_list o (logText r)
  rw [← et] at hS
  have hsz : (logText r).size = (Lib.decDigits n).length + 1 + (logB r).size := by
    rw [size_list, hl, List.length_append, List.length_cons, ← size_list]; omega
  obtain ⟨S2, hS2⟩ : ∃ S2, S2 = (logText r).data.toList.drop ((logText r).size / 2) := ⟨_, rfl⟩
  have hcut := (List.take_append_drop ((logText r).size / 2) (logText r).data.toList)
  rw [← hS2] at hcut
  obtain ⟨O, hO⟩ : ∃ O, O = o.data.toList.drop (min ((logText r).size / 2) o.size) := ⟨_, rfl⟩
  have hocut := List.take_append_drop (min ((logText r).size / 2) o.size) o.data.toList
  rw [← hO] at hS hocut
  by_cases hsp : (32 : UInt8) ∈ O
  · exfalso
    obtain ⟨u, v, rfl, hv⟩ := last_space _ hsp
    have l1 := hpz
    rw [hS, ← List.append_assoc, pieces_last _ _ hv] at l1
    have e1 := congrArg List.getLast? l1
    simp at e1
    rcases ho with rfl | ⟨p, hpk, rfl, hne⟩
    · have hnil : noB.data.toList = [] := rfl
      rw [hnil] at hocut
      simp at hocut
    · obtain ⟨j, hj, _, hpp⟩ := log_text_pieces hpk
      rw [← hocut, ← List.append_assoc, pieces_last _ _ hv] at hpp
      have e2 := congrArg List.getLast? hpp
      simp at e2
      have e3 : (markW p.txg p.seq).data.toList ++ [] = (markW z.txg z.seq).data.toList ++ [] := by
        simp only [List.append_nil]
        exact e2.symm.trans e1
      have hpz1 := mark_head hpk.1 hz.1 e3
      -- the first mark of what is read is the new one's
      have hb5 := dd_len5 hn
      obtain ⟨a1, a2, a3, a4, a5, a6⟩ := id hr
      have z1 := markW_size a1
      have z2 := nameW_size a3
      have z3 := blockW_size a5
      have z4 := bytesW_size a6
      have zB : (logB r).size = 2 * (markW r.txg r.seq).size + (nameW r.a).size + (blockW r.i).size + (bytesW r.text).size + 4 := by
        unfold logB logWs
        rw [joinB_five]
        simp only [ByteArray.size_append]
        rw [show blB.size = 1 from rfl]
        omega
      have hhalf : (Lib.decDigits n).length + 1 + (markW r.txg r.seq).size ≤ (logText r).size / 2 := by omega
      have hpre : (logText r).data.toList.take ((Lib.decDigits n).length + 1 + (markW r.txg r.seq).size) = Lib.decDigits n ++ 58 :: (markW r.txg r.seq).data.toList := by
        rw [hl, log_list, size_list (markW r.txg r.seq)]
        have e4 : ∀ (a b c : List UInt8), (a ++ 58 :: (b ++ 32 :: c)).take (a.length + 1 + b.length) = a ++ 58 :: b := fun a b c => by
          rw [show a ++ 58 :: (b ++ 32 :: c) = (a ++ 58 :: b) ++ 32 :: c by simp]
          exact List.take_left' (by simp; omega)
        exact e4 _ _ _
      have hT : (logText z).data.toList = (Lib.decDigits n ++ 58 :: (markW r.txg r.seq).data.toList) ++ ((logText z).data.toList.drop ((Lib.decDigits n).length + 1 + (markW r.txg r.seq).size)) := by
        rw [← hpre]
        conv => lhs; rw [← List.take_append_drop ((Lib.decDigits n).length + 1 + (markW r.txg r.seq).size) (logText z).data.toList]
        congr 1
        rw [hS, List.take_append_of_le_length (by rw [List.length_take, ← size_list]; omega), List.take_take, Nat.min_eq_left hhalf]
      generalize (logText z).data.toList.drop ((Lib.decDigits n).length + 1 + (markW r.txg r.seq).size) = rest at hT
      rw [hlz, log_list, List.append_assoc, List.cons_append] at hT
      obtain ⟨_, e6⟩ := colon_head hT
      have e7 := mark_head hz.1 hr.1 e6
      exact hne (hpz1.1.trans e7.1)
  · have hcT : (logText z).data.toList.count 32 = 4 := by
      have := pieces_count (logText z).data.toList
      rw [hpz] at this
      simpa using this.symm
    have hcS : (logText r).data.toList.count 32 = 4 := by
      have := pieces_count (logText r).data.toList
      rw [hp] at this
      simpa using this.symm
    rw [hS, List.count_append, List.count_eq_zero.2 hsp] at hcT
    rw [← hcut, List.count_append] at hcS
    have hS20 : (32 : UInt8) ∉ S2 := List.count_eq_zero.1 (by omega)
    obtain ⟨S1, hS1⟩ : ∃ S1, S1 = (logText r).data.toList.take ((logText r).size / 2) := ⟨_, rfl⟩
    rw [← hS1] at hS hcut hcT
    have hin : (32 : UInt8) ∈ S1 := List.count_pos_iff.1 (by omega)
    obtain ⟨u, v, rfl, hv⟩ := last_space _ hin
    have e1 : pieces32 (logText r).data.toList = pieces32 u ++ [v ++ S2] := by
      rw [← hcut, List.append_assoc, List.cons_append, pieces_last _ _ (fun c => (List.mem_append.1 c).elim hv hS20)]
    have e2 : pieces32 (logText z).data.toList = pieces32 u ++ [v ++ O] := by
      rw [hS, List.append_assoc, List.cons_append, pieces_last _ _ (fun c => (List.mem_append.1 c).elim hv hsp)]
    rw [hp] at e1
    rw [hpz] at e2
    have f1 := congrArg List.dropLast e1
    have f2 := congrArg List.dropLast e2
    rw [List.dropLast_concat] at f1 f2
    have f3 := f1.trans f2.symm
    simp only [List.dropLast, List.cons.injEq, and_true] at f3
    obtain ⟨g0, g1, g2, g3⟩ := f3
    obtain ⟨_, g0'⟩ := colon_head g0
    exact words_same hr hz g0' g1 g2 g3
end Go.Proofs.YtgjlhokakcdpbaaGreatDoor

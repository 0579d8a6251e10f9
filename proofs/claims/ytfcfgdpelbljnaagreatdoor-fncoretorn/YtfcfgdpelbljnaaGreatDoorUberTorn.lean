/-
  The ring's word torn over another one of the same place: what is read is the new one, the old one, or none.
-/
import Derived.Test.YtfcfgdpelbljnaaGreatDoorUberM
import Derived.Test.YtfcfgdpelbljnaaGreatDoorTorn
set_option maxRecDepth 100000
namespace Go.Proofs.YtfcfgdpelbljnaaGreatDoor
open Go.ChangeShapes Go.WideShapes Go.ChangeAt Go.RowKit Go.Proofs.Palim

theorem pieces_ne (l : List UInt8) : pieces32 l ≠ [] := by
  cases l with
  | nil => simp [pieces32]
  | cons c l =>
    rw [pieces32]
    split
    · exact List.cons_ne_nil _ _
    · split <;> exact List.cons_ne_nil _ _
theorem pieces_app (x y : List UInt8) : pieces32 (x ++ 32 :: y) = pieces32 x ++ pieces32 y := by
  induction x with
  | nil => rw [List.nil_append, show pieces32 (32 :: y) = [] :: pieces32 y from if_pos rfl]; rfl
  | cons c x ih =>
    rw [List.cons_append, pieces32, pieces32]
    by_cases hc : c = 32
    · rw [if_pos hc, if_pos hc, ih]; rfl
    · rw [if_neg hc, if_neg hc, ih]
      cases hp : pieces32 x with
      | nil => exact absurd hp (pieces_ne x)
      | cons q qs => rfl
theorem pieces_len (l : List UInt8) : (pieces32 l).length = l.count 32 + 1 := by
  induction l with
  | nil => rfl
  | cons c l ih =>
    rw [pieces32]
    by_cases hc : c = 32
    · rw [if_pos hc, List.length_cons, ih, hc, List.count_cons_self]
    · rw [if_neg hc, List.count_cons_of_ne hc]
      cases hp : pieces32 l with
      | nil => rw [hp] at ih; simp at ih
      | cons q qs => rw [hp] at ih; simpa using ih
theorem last_sp (l : List UInt8) (h : (32 : UInt8) ∈ l) : ∃ u v, l = u ++ 32 :: v ∧ (32 : UInt8) ∉ v := by
  induction l with
  | nil => cases h
  | cons c l ih =>
    by_cases hl : (32 : UInt8) ∈ l
    · obtain ⟨u, v, e, hv⟩ := ih hl
      exact ⟨c :: u, v, by rw [e]; rfl, hv⟩
    · obtain rfl : c = 32 := ((List.mem_cons.1 h).resolve_right hl).symm
      exact ⟨[], l, rfl, hl⟩
theorem first_sp (l : List UInt8) (h : (32 : UInt8) ∈ l) : ∃ u v, l = u ++ 32 :: v ∧ (32 : UInt8) ∉ u := by
  obtain ⟨a, r, e, hn⟩ := part32 l h
  exact ⟨a, r, e, hn⟩
theorem colon_uber {a b : Nat} {x y : List UInt8} (h : Lib.decDigits a ++ 58 :: x = Lib.decDigits b ++ 58 :: y) : x = y := by
  have h1 := congrArg (fun l => Lib.indexByte l 58) h
  rw [index_after _ _ (digit_ne a), index_after _ _ (digit_ne b)] at h1
  have h2 : (Lib.decDigits a).length = (Lib.decDigits b).length := by omega
  obtain ⟨_, h4⟩ := List.append_inj h h2
  injection h4
theorem dd_same {a b : Nat} (h : Lib.decDigits a = Lib.decDigits b) : a = b := by
  have := congrArg (valF 0) h
  rwa [dd_val, dd_val] at this
theorem torn_lst (o s : ByteArray) : (tornM o s).data.toList = s.data.toList.take (s.size / 2) ++ o.data.toList.drop (min (s.size / 2) o.size) := by
  unfold tornM
  have e1 := piece_list s 0 (s.size / 2) (by omega)
  have e2 := piece_list o (min (s.size / 2) o.size) o.size (Nat.le_refl _)
  rw [ByteArray.data_append, Array.toList_append, e1, e2, List.drop_zero, Nat.sub_zero]
  congr 1
  refine List.take_of_length_le ?_
  rw [List.length_drop, ← size_list]
  omega
/-- The words of a ring's word: the first one bears the checksum. -/
theorem uber_text_pieces {n : Int} {p : PtrM} (h : UberOk n p) : ∃ m k : Nat, n = (k : Int) ∧ pieces32 (uberText n p).data.toList = [Lib.decDigits m ++ 58 :: Lib.decDigits k, (ptrText p).data.toList, Lib.decDigits k] := by
  obtain ⟨k, rfl⟩ := Int.eq_ofNat_of_zero_le (show 0 ≤ n by have := h.1; omega)
  have hs : ¬ 400 < (uberB (k : Int) p).size := by
    have h0 := uber_open h
    have h1 := seal_of_open h0
    refine fun hn => open_ne h0 ?_
    rw [← h1]; unfold sealB; rw [if_pos (by omega)]
  have hb := sumOf_bd (uberB (k : Int) p)
  obtain ⟨m, hm⟩ := Int.eq_ofNat_of_zero_le hb.1
  refine ⟨m, k, rfl, ?_⟩
  have e : (uberText (k : Int) p).data.toList = Lib.decDigits m ++ 58 :: (uberB (k : Int) p).data.toList := by
    unfold uberText
    rw [if_pos h]
    unfold sealB
    rw [if_neg hs, hm]
    show ((Lib.itoa ((m : Nat) : Int)) ++ 58 :: _ : List UInt8) = _
    rw [Lib.itoa_nonneg]
  have n0 : (32 : UInt8) ∉ Lib.decDigits m ++ 58 :: Lib.decDigits k := fun c => by
    rcases List.mem_append.1 c with c | c
    · exact dd_space m c
    · rcases List.mem_cons.1 c with c | c
      · simp at c
      · exact dd_space k c
  rw [e, uber_list]
  have e3 : ∀ (a b c : List UInt8), a ++ 58 :: (b ++ 32 :: c) = (a ++ 58 :: b) ++ 32 :: c := fun a b c => by simp
  rw [e3, pieces_cut32 _ _ n0, pieces_cut32 _ _ (ptr_space p), pieces_one32 _ (dd_space k)]
theorem ptr_same {p q : PtrM} (hp : GoodM p) (hq : GoodM q) (h : (ptrText p).data.toList = (ptrText q).data.toList) : p = q :=
  text_inj (Or.inr hp) (Or.inr hq) (ByteArray.ext (Array.ext' h))
theorem torn_uber {n m k : Int} {p q t : PtrM} {o : ByteArray} (hr : UberOk n p) (ho : o = ⟨#[]⟩ ∨ (UberOk m q ∧ o = uberText m q)) (hne : n ≠ m) (h : Spells (tornM o (uberText n p)) k t) : (k = n ∧ t = p) ∨ (k = m ∧ t = q) := by
  obtain ⟨hz, et⟩ := h
  obtain ⟨a, b, rfl, hp⟩ := uber_text_pieces hr
  obtain ⟨c, d, rfl, hpz⟩ := uber_text_pieces hz
  have hS := torn_lst o (uberText (b : Int) p)
  rw [← et] at hS
  obtain ⟨S1, hS1⟩ : ∃ S, S = (uberText (b : Int) p).data.toList.take ((uberText (b : Int) p).size / 2) := ⟨_, rfl⟩
  obtain ⟨S2, hS2⟩ : ∃ S2, S2 = (uberText (b : Int) p).data.toList.drop ((uberText (b : Int) p).size / 2) := ⟨_, rfl⟩
  have hcut := (List.take_append_drop ((uberText (b : Int) p).size / 2) (uberText (b : Int) p).data.toList)
  rw [← hS2, ← hS1] at hcut
  obtain ⟨O, hO⟩ : ∃ O, O = o.data.toList.drop (min ((uberText (b : Int) p).size / 2) o.size) := ⟨_, rfl⟩
  obtain ⟨U, hU⟩ : ∃ U, U = o.data.toList.take (min ((uberText (b : Int) p).size / 2) o.size) := ⟨_, rfl⟩
  have hocut := List.take_append_drop (min ((uberText (b : Int) p).size / 2) o.size) o.data.toList
  rw [← hO, ← hU] at hocut
  rw [← hO, ← hS1] at hS
  have hcT : (uberText (d : Int) t).data.toList.count 32 = 2 := by
    have := pieces_len (uberText (d : Int) t).data.toList
    rw [hpz] at this
    simpa using this.symm
  have hcS : (uberText (b : Int) p).data.toList.count 32 = 2 := by
    have := pieces_len (uberText (b : Int) p).data.toList
    rw [hp] at this
    simpa using this.symm
  by_cases hsp : (32 : UInt8) ∈ O
  · obtain ⟨u, v, rfl, hv⟩ := last_sp _ hsp
    have l1 := hpz
    rw [hS, ← List.append_assoc, pieces_app, pieces_one32 v hv] at l1
    rcases ho with rfl | ⟨hq, rfl⟩
    · have hnil : (⟨#[]⟩ : ByteArray).data.toList = [] := rfl
      rw [hnil] at hocut
      simp at hocut
    · obtain ⟨e, f, rfl, hpo⟩ := uber_text_pieces hq
      have l2 := hpo
      rw [← hocut, ← List.append_assoc, pieces_app, pieces_one32 v hv] at l2
      have e1 := congrArg List.getLast? l1
      have e2 := congrArg List.getLast? l2
      simp at e1 e2
      have hdf : d = f := dd_same (e1.symm.trans e2)
      subst hdf
      by_cases hu : (32 : UInt8) ∈ u
      · right
        refine ⟨rfl, ?_⟩
        obtain ⟨x, y, rfl, hy⟩ := last_sp _ hu
        rw [← List.append_assoc, pieces_app, pieces_one32 y hy] at l1 l2
        have e3 := congrArg (fun l => List.getLast? (List.dropLast l)) l1
        have e4 := congrArg (fun l => List.getLast? (List.dropLast l)) l2
        simp only [List.dropLast_concat, List.getLast?_concat] at e3 e4
        exact ptr_same hz.2.2 hq.2.2 (by
          have a1 : some y = some (ptrText t).data.toList := e3.trans (by simp)
          have a2 : some y = some (ptrText q).data.toList := e4.trans (by simp)
          exact (Option.some.inj a1).symm.trans (Option.some.inj a2))
      · exfalso
        have hin : (32 : UInt8) ∈ S1 := by
          rw [hS, List.count_append, List.count_append, List.count_cons_self, List.count_eq_zero.2 hu, List.count_eq_zero.2 hv] at hcT
          exact List.count_pos_iff.1 (by omega)
        obtain ⟨x, y, rfl, hx⟩ := first_sp _ hin
        have g1 := hpz
        have g2 := hp
        rw [hS, List.append_assoc, List.cons_append, pieces_cut32 _ _ hx] at g1
        rw [← hcut, List.append_assoc, List.cons_append, pieces_cut32 _ _ hx] at g2
        injection g1 with g1 _
        injection g2 with g2 _
        have := dd_same (colon_uber (g1.symm.trans g2))
        exact hne (by rw [this])
  · left
    rw [hS, List.count_append, List.count_eq_zero.2 hsp] at hcT
    rw [← hcut, List.count_append] at hcS
    have hS20 : (32 : UInt8) ∉ S2 := List.count_eq_zero.1 (by omega)
    have hin : (32 : UInt8) ∈ S1 := List.count_pos_iff.1 (by omega)
    obtain ⟨u, v, rfl, hv⟩ := last_sp _ hin
    have e1 : pieces32 (uberText (b : Int) p).data.toList = pieces32 u ++ [v ++ S2] := by
      rw [← hcut, List.append_assoc, List.cons_append, pieces_app, pieces_one32 _ (fun c => (List.mem_append.1 c).elim hv hS20)]
    have e2 : pieces32 (uberText (d : Int) t).data.toList = pieces32 u ++ [v ++ O] := by
      rw [hS, List.append_assoc, List.cons_append, pieces_app, pieces_one32 _ (fun c => (List.mem_append.1 c).elim hv hsp)]
    rw [hp] at e1
    rw [hpz] at e2
    have f1 := congrArg List.dropLast e1
    have f2 := congrArg List.dropLast e2
    rw [List.dropLast_concat] at f1 f2
    have f3 := f1.trans f2.symm
    simp only [List.dropLast, List.cons.injEq, and_true] at f3
    obtain ⟨g0, g1⟩ := f3
    exact ⟨by rw [dd_same (colon_uber g0)], (ptr_same hr.2.2 hz.2.2 g1).symm⟩
end Go.Proofs.YtfcfgdpelbljnaaGreatDoor

/-
  Texts cut at the byte 32: spec's l19Cut and the library's Split.
-/
import Derived.Test.YtojjenclcidnkaaDoorPtrNum
import Derived.Test.YtojjenclcidnkaaDoorStrS
import Derived.Test.YtojjenclcidnkaaDoorData
import Derived.Deep.AppendLies
import Derived.Test.YtojjenclcidnkaaDoorPtrCut
import Derived.Test.YtojjenclcidnkaaDoorShelf
import Derived.Lib.Split
import Derived.Lib.SplitLaws
set_option maxRecDepth 100000
namespace Go.Proofs.Palim
open Go
theorem index_at32 (a r : List UInt8) (h : (32 : UInt8) ∉ a) : Lib.indexByte (a ++ 32 :: r) 32 = (a.length : Int) := by
  induction a with
  | nil => simp [Lib.indexByte]
  | cons x a ih =>
    have hx : x ≠ 32 := fun e => h (by simp [e])
    have hi := ih (fun hm => h (by simp [hm]))
    simp only [List.cons_append, Lib.indexByte]
    rw [hi]
    have h1 : (x == 32) = false := by simpa using hx
    have h2 : ((a.length : Int) == -1) = false := beq_eq_false_iff_ne.2 (by omega)
    rw [h1, h2]
    simp
/-- The pieces32 of a text between points. -/
def pieces32 : List UInt8 → List (List UInt8)
  | [] => [[]]
  | x :: l => if x = 32 then [] :: pieces32 l else match pieces32 l with
    | p :: ps => (x :: p) :: ps
    | [] => [[x]]
theorem pieces_one32 (a : List UInt8) (h : (32 : UInt8) ∉ a) : pieces32 a = [a] := by
  induction a with
  | nil => rfl
  | cons x a ih =>
    have hx : x ≠ 32 := fun e => h (by simp [e])
    rw [pieces32, if_neg hx, ih (fun hm => h (by simp [hm]))]
theorem pieces_cut32 (a r : List UInt8) (h : (32 : UInt8) ∉ a) : pieces32 (a ++ 32 :: r) = a :: pieces32 r := by
  induction a with
  | nil => simp [pieces32]
  | cons x a ih =>
    have hx : x ≠ 32 := fun e => h (by simp [e])
    rw [List.cons_append, pieces32, if_neg hx, ih (fun hm => h (by simp [hm]))]

theorem no_index32 (a : List UInt8) (h : (32 : UInt8) ∉ a) : Lib.indexByte a 32 = -1 := by
  induction a with
  | nil => rfl
  | cons x a ih =>
    have hx : x ≠ 32 := fun e => h (by simp [e])
    have hi := ih (fun hm => h (by simp [hm]))
    simp only [Lib.indexByte]
    rw [hi]
    have h1 : (x == 32) = false := by simpa using hx
    rw [h1]
    simp
theorem part32 (l : List UInt8) (h : (32 : UInt8) ∈ l) : ∃ a r, l = a ++ 32 :: r ∧ (32 : UInt8) ∉ a := by
  induction l with
  | nil => cases h
  | cons x l ih =>
    by_cases hx : x = 32
    · exact ⟨[], l, by simp [hx], by simp⟩
    · obtain ⟨a, r, e, hn⟩ := ih ((List.mem_cons.1 h).resolve_left (fun e => hx e.symm))
      exact ⟨x :: a, r, by simp [e], fun hm => (List.mem_cons.1 hm).elim (fun e => hx e.symm) hn⟩
theorem splitK_pieces32 : ∀ (n : Nat) (l : List UInt8), l.length ≤ n → Lib.splitK [32] 0 (l.count 32) l = pieces32 l
  | 0, l, h => by
    obtain rfl := List.length_eq_zero_iff.1 (by omega : l.length = 0)
    rfl
  | n + 1, l, h => by
    by_cases hm : (32 : UInt8) ∈ l
    · obtain ⟨a, r, rfl, hn⟩ := part32 l hm
      have hc : (a ++ 32 :: r).count 32 = r.count 32 + 1 := by
        rw [List.count_append, List.count_eq_zero.2 hn, List.count_cons_self]; omega
      rw [hc, Lib.splitK, Lib.index_one, index_at32 a r hn, if_neg (by simp), pieces_cut32 a r hn]
      have ih := splitK_pieces32 n r (by simp at h; omega)
      simp only [Int.toNat_natCast, Nat.add_zero, List.length_singleton]
      rw [show (a ++ 32 :: r).take a.length = a by simp, show (a ++ 32 :: r).drop (a.length + 1) = r by simp, ih]
    · rw [List.count_eq_zero.2 hm, Lib.splitK, pieces_one32 l hm]
end Go.Proofs.Palim
namespace Go.Proofs.YtojjenclcidnkaaDoor
open Go.ChangeShapes Go.WideShapes Go.ChangeAt Go.RowKit Go.Proofs.Palim
/-- The pieces32 as they are found: those before f are out, none of the bytes from f to k is a point. -/
structure Cutting32 (l : List UInt8) (f k : Nat) (ps : List ByteArray) : Prop where
  no : ∀ j, f ≤ j → j < k → ∀ x, l[j]? = some x → x ≠ 32
  join : ps.map (fun b => b.data.toList) ++ pieces32 (l.drop f) = pieces32 l
theorem Cutting32.piece {l : List UInt8} {f k : Nat} {ps : List ByteArray} (h : Cutting32 l f k ps) (hf : f ≤ k) : (32 : UInt8) ∉ (l.drop f).take (k - f) := by
  intro hm
  obtain ⟨j, hj⟩ := List.mem_iff_getElem?.1 hm
  rw [List.getElem?_take] at hj
  split at hj
  · rw [List.getElem?_drop] at hj
    exact h.no (f + j) (by omega) (by omega) 32 hj rfl
  · cases hj
/-- A point at k: one more piece. -/
theorem Cutting32.hit {l : List UInt8} {f k : Nat} {ps : List ByteArray} {b : ByteArray} (h : Cutting32 l f k ps) (hf : f ≤ k) (hk : l[k]? = some 32) (hb : b.data.toList = (l.drop f).take (k - f)) : Cutting32 l (k + 1) (k + 1) (ps ++ [b]) := by
  refine ⟨fun j h1 h2 => by omega, ?_⟩
  have hkl := (List.getElem?_eq_some_iff.1 hk).1
  have e : l.drop f = (l.drop f).take (k - f) ++ 32 :: l.drop (k + 1) := by
    have h1 : (l.drop f).drop (k - f) = l.drop k := by rw [List.drop_drop]; congr 1; omega
    have h2 : l.drop k = 32 :: l.drop (k + 1) := by
      rw [List.drop_eq_getElem_cons hkl]
      have := (List.getElem?_eq_some_iff.1 hk).2
      rw [this]
    conv => lhs; rw [← List.take_append_drop (k - f) (l.drop f), h1, h2]
  have h3 := h.join
  rw [e, pieces_cut32 _ _ (h.piece hf)] at h3
  rw [← h3]
  simp [hb]
theorem Cutting32.miss {l : List UInt8} {f k : Nat} {ps : List ByteArray} (h : Cutting32 l f k ps) (hk : l[k]? ≠ some 32) : Cutting32 l f (k + 1) ps :=
  ⟨fun j h1 h2 x hx => by
    rcases Nat.lt_succ_iff_lt_or_eq.1 h2 with h3 | rfl
    · exact h.no j h1 h3 x hx
    · rintro rfl; exact hk hx, h.join⟩
theorem Cutting32.last {l : List UInt8} {f : Nat} {ps : List ByteArray} {b : ByteArray} (h : Cutting32 l f l.length ps) (hf : f ≤ l.length) (hb : b.data.toList = (l.drop f).take (l.length - f)) : (ps ++ [b]).map (fun b => b.data.toList) = pieces32 l := by
  have h3 := h.join
  have e : (l.drop f).take (l.length - f) = l.drop f := List.take_of_length_le (by simp)
  have hp := h.piece hf
  rw [e] at hp hb
  rw [pieces_one32 _ hp] at h3
  rw [← h3]
  simp [hb]

def CutPost32 (s : ByteArray) (w : World) (e : Ending) (w' : World) : Prop :=
  ∃ (v : Value) (ps : List ByteArray), e = .returned v ∧ ps.map (fun b => b.data.toList) = pieces32 s.data.toList ∧ Sl w' 1 v ps.length (scs ps) ∧ Low w'.heap.size v ∧ Below w.heap.size w w' ∧ ps.length ≤ s.size + 1 ∧ ∀ b ∈ ps, b.size ≤ s.size

set_option maxHeartbeats 1000000 in
theorem l19Cut32_any (s : ByteArray) (w : World) (hs : s.size ≤ 1048576) :
    Calls Tryd.prog 9 #[.string s, .int .u8 32] w (CutPost32 s w) := by
  obtain ⟨i0, hi_, hy0, hy1, hy2⟩ := info_parts infoStr
  have HO := Lib.hid (show (w.alloc (.cells #[] 9)).ownsRow w.heap.size 9 1 (.slice (some ⟨w.heap.size, 0, none⟩) 0 0) 0 (scs []) from own_empty (At.new rfl) (Nat.le_refl _))
  have HB0 := Lib.hid (show Below w.heap.size w (w.alloc (.cells #[] 9)) from (Below.refl _ _).alloc (Nat.le_refl _) _)
  have HC0 := Lib.hid (show Cutting32 s.data.toList 0 0 [] from ⟨fun j _ h => by omega, by simp⟩)
  go_enter Tryd.func9, Tryd.ntmps9
  go_wp2_with fail
  go_loopw [5, 6, 7] (fun v fr i wr => ∃ (k f m : Nat) (A : Option Addr) (c : Nat) (ps : List ByteArray), k ≤ s.size + 1 ∧ i = .int .i64 (k : Int) ∧ f ≤ k ∧ fr = .int .i64 (f : Int) ∧ v = .slice A m c ∧ m ≤ k ∧ Hid (ps.length = m) ∧ Hid (wr.ownsRow w.heap.size 9 1 (.slice A m c) m (scs ps)) ∧ Hid (Below w.heap.size w wr) ∧ Hid (∀ b ∈ ps, b.size ≤ s.size) ∧ Hid ((k ≤ s.size → Cutting32 s.data.toList f k ps) ∧ (k = s.size + 1 → ps.map (fun b => b.data.toList) = pieces32 s.data.toList))) (fun _ _ i _ => s.size + 1 - (intOf i).toNat)
  case atStart => exact ⟨0, 0, 0, _, _, [], by omega, rfl, by omega, rfl, rfl, by omega, Lib.hid rfl, HO, HB0, Lib.hid (by simp), Lib.hid ⟨fun _ => HC0.out, fun h => by omega⟩⟩
  case round =>
    clear HO HB0 HC0
    obtain ⟨k, f, m, A, c, ps, hk, rfl, hf, rfl, rfl, hm, HL, HOr, HBr, HZ, HC⟩ := hrel
    by_cases hlt : k < s.size + 1
    · have hkk : k ≤ s.size := by omega
      have HCk := Lib.hid (HC.out.1 hkk)
      clear HC
      by_cases hit : k = s.size ∨ (k < s.size ∧ s.data.toList[k]? = some 32)
      · have HN := Lib.hid (show (k + 1 ≤ s.size → Cutting32 s.data.toList (k + 1) (k + 1) (ps ++ [s.extract f k])) ∧ (k + 1 = s.size + 1 → (ps ++ [s.extract f k]).map (fun b => b.data.toList) = pieces32 s.data.toList) from by
          have hpl := piece_list s f k (by omega)
          refine ⟨fun h => ?_, fun h => ?_⟩
          · rcases hit with h2 | ⟨_, h2⟩
            · omega
            · exact HCk.out.hit hf h2 hpl
          · have e : k = s.data.toList.length := by rw [← size_list]; omega
            subst e
            exact HCk.out.last hf hpl)
        have hcase : k = s.size ∨ (k < s.size ∧ s.data.toList[k]? = some 32) := hit
        clear hit HCk
        rcases hcase with h1 | ⟨h1, h2⟩
        · have hb1 : ((k : Int) == (s.size : Int)) = true := beq_iff_eq.2 (by omega)
          clear h1
          have hpl := piece_list s f k (by omega)
          have hfk : (f : Int) ≤ (k : Int) := by omega
          have hks : (k : Int) ≤ (s.size : Int) := by omega
          have hw := HBr.out.size
          have hpz : (s.extract f k).size ≤ s.size := by rw [ByteArray.size_extract]; omega
          go_wp2_with (first
            | (at_builtin; refine wpList_append_lies _ rfl _ _ 28 rfl w.heap.size 9 i0 _ 1 16 Tryd.underlying28 hi_ hy0 hy1 hy2 rfl (by omega) _ m (scs ps) rfl (HOr.out.alloc _) ⟨wr.heap.size, 0, none⟩ 1 1 [.string (s.extract f k)] rfl rfl ?c1 (by simp; rfl) (by omega) (by unfold maxLen; omega) (by omega) (by simp; omega) (wr.heap.size + 1) (by simp) ?_))
          case c1 => exact World.news_of_block (cs := #[.string (s.extract f k)]) (t := 9) (fr := (0, 0)) (heap_alloc_new wr _)
          intro gg cap w3 hown3 hgrow hat hglt
          have HO3 := Lib.hid (show w3.ownsRow w.heap.size 9 1 (.slice (some ⟨gg, 0, none⟩) (m + 1) cap) (m + 1) (scs (ps ++ [s.extract f k])) from by rw [scs_snoc]; exact hown3)
          have HB3 := Lib.hid (show Below w.heap.size w w3 from ((HBr.out.alloc hw _).grown hgrow (by simp; omega) (fun b e => by have := (HOr.out.lt b e).1; omega)))
          have HL3 := Lib.hid (show (ps ++ [s.extract f k]).length = m + 1 from by simp [HL.out])
          have HZ3 := Lib.hid (show ∀ b ∈ ps ++ [s.extract f k], b.size ≤ s.size from fun b hb => by
            rcases List.mem_append.1 hb with h | h
            · exact HZ.out b h
            · obtain rfl := List.mem_singleton.1 h; exact hpz)
          clear hown3 hgrow hat hglt HOr HBr HL HZ hpl
          go_wp2
          go_roundw
          case rel => exact ⟨k + 1, k + 1, m + 1, _, _, ps ++ [s.extract f k], by omega, by go_num, by omega, by go_num, rfl, by omega, HL3, HO3, HB3, HZ3, HN⟩
          case measure => simp [intOf]; omega
        · have hb1 : ((k : Int) == (s.size : Int)) = false := beq_eq_false_iff_ne.2 (by omega)
          have hby : s[k].toNat = 32 := by
            have e : s.data.toList[k]? = some s[k] := List.getElem?_eq_getElem (by rw [← size_list]; exact h1)
            rw [e] at h2
            rw [Option.some.inj h2]; rfl
          clear h2
          have hpl := piece_list s f k (by omega)
          have hfk : (f : Int) ≤ (k : Int) := by omega
          have hks : (k : Int) ≤ (s.size : Int) := by omega
          have hw := HBr.out.size
          have hpz : (s.extract f k).size ≤ s.size := by rw [ByteArray.size_extract]; omega
          go_wp2_with (first
            | (at_builtin; refine wpList_append_lies _ rfl _ _ 28 rfl w.heap.size 9 i0 _ 1 16 Tryd.underlying28 hi_ hy0 hy1 hy2 rfl (by omega) _ m (scs ps) rfl (HOr.out.alloc _) ⟨wr.heap.size, 0, none⟩ 1 1 [.string (s.extract f k)] rfl rfl ?c1 (by simp; rfl) (by omega) (by unfold maxLen; omega) (by omega) (by simp; omega) (wr.heap.size + 1) (by simp) ?_))
          case c1 => exact World.news_of_block (cs := #[.string (s.extract f k)]) (t := 9) (fr := (0, 0)) (heap_alloc_new wr _)
          intro gg cap w3 hown3 hgrow hat hglt
          have HO3 := Lib.hid (show w3.ownsRow w.heap.size 9 1 (.slice (some ⟨gg, 0, none⟩) (m + 1) cap) (m + 1) (scs (ps ++ [s.extract f k])) from by rw [scs_snoc]; exact hown3)
          have HB3 := Lib.hid (show Below w.heap.size w w3 from ((HBr.out.alloc hw _).grown hgrow (by simp; omega) (fun b e => by have := (HOr.out.lt b e).1; omega)))
          have HL3 := Lib.hid (show (ps ++ [s.extract f k]).length = m + 1 from by simp [HL.out])
          have HZ3 := Lib.hid (show ∀ b ∈ ps ++ [s.extract f k], b.size ≤ s.size from fun b hb => by
            rcases List.mem_append.1 hb with h | h
            · exact HZ.out b h
            · obtain rfl := List.mem_singleton.1 h; exact hpz)
          clear hown3 hgrow hat hglt HOr HBr HL HZ hpl
          go_wp2
          go_roundw
          case rel => exact ⟨k + 1, k + 1, m + 1, _, _, ps ++ [s.extract f k], by omega, by go_num, by omega, by go_num, rfl, by omega, HL3, HO3, HB3, HZ3, HN⟩
          case measure => simp [intOf]; omega
      · have h1 : k < s.size := by
          rcases Nat.lt_or_ge k s.size with h | h
          · exact h
          · exact absurd (Or.inl (by omega)) hit
        have hby : ¬ s[k].toNat = 32 := fun e => hit (Or.inr ⟨h1, by
          have e2 : s.data.toList[k]? = some s[k] := List.getElem?_eq_getElem (by rw [← size_list]; exact h1)
          rw [e2]
          congr 1
          exact UInt8.toNat_inj.1 e⟩)
        have HN := Lib.hid (show (k + 1 ≤ s.size → Cutting32 s.data.toList f (k + 1) ps) ∧ (k + 1 = s.size + 1 → ps.map (fun b => b.data.toList) = pieces32 s.data.toList) from ⟨fun _ => HCk.out.miss (fun e => hit (Or.inr ⟨h1, e⟩)), fun h => by omega⟩)
        have hb1 : ((k : Int) == (s.size : Int)) = false := beq_eq_false_iff_ne.2 (by omega)
        have hb2 : ((s[k].toNat : Int) == 32) = false := beq_eq_false_iff_ne.2 (by omega)
        have hbd := s[k].toNat_lt
        clear hit HCk
        go_wp2
        go_roundw
        case rel => exact ⟨k + 1, f, m, _, _, ps, by omega, by go_num, by omega, rfl, rfl, by omega, HL, HOr, HBr, HZ, HN⟩
        case measure => simp [intOf]; omega
    · have HF := Lib.hid (HC.out.2 (by omega))
      go_wp2
      go_ret
      refine ⟨_, ps, rfl, HF.out, ?_, low_of_own HOr.out, HBr.out, by have := HL.out; omega, HZ.out⟩
      rw [HL.out]; exact sl_of_own HOr.out

theorem splitB_pieces32 (s : ByteArray) : (Lib.splitB ⟨#[32]⟩ 0 (Lib.countB s ⟨#[32]⟩) s).map (fun b => b.data.toList) = pieces32 s.data.toList := by
  have h1 : Lib.countB s ⟨#[32]⟩ = s.data.toList.count 32 := Lib.count_one 32 s.data.toList
  rw [h1]
  exact (Lib.splitB_data ⟨#[32]⟩ 0 _ s).trans (splitK_pieces32 _ _ (Nat.le_refl _))
theorem pieces32_le (l : List UInt8) : ∀ p ∈ pieces32 l, p.length ≤ l.length := by
  induction l with
  | nil => intro p hp; simp [pieces32] at hp; simp [hp]
  | cons x l ih =>
    intro p hp
    rw [pieces32] at hp
    split at hp
    · rcases List.mem_cons.1 hp with rfl | hp
      · simp
      · have := ih p hp; simp; omega
    · split at hp
      · rename_i q qs e
        rcases List.mem_cons.1 hp with rfl | hp
        · have := ih q (by rw [e]; simp); simp; omega
        · have := ih p (by rw [e]; exact List.mem_cons_of_mem _ hp); simp; omega
      · obtain rfl := List.mem_singleton.1 hp; simp
end Go.Proofs.YtojjenclcidnkaaDoor

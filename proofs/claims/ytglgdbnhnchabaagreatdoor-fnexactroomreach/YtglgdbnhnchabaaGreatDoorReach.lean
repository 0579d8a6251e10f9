/-
  Texts joined into one.
-/
import Derived.Test.YtglgdbnhnchabaaGreatDoorRoom
import Derived.OwnWalk
import Derived.BigQuiet
import Derived.Test.YtglgdbnhnchabaaGreatDoorMarks
import Derived.Maps.AppendAt
import Derived.RangeFuncBox
import Derived.RangeFuncFrom

/-
  A place put among places, ascending, once: the mathematics.
-/
set_option maxRecDepth 100000
namespace Go.Proofs.YtglgdbnhnchabaaGreatDoor
open Go.ChangeShapes Go.WideShapes Go.ChangeAt Go.RowKit Go.Proofs.Palim

/-- Where a place goes among places. -/
def atI (ls : List Int) (a : Int) : Nat := (ls.takeWhile (fun x => decide (x < a))).length
def insI (ls : List Int) (a : Int) : List Int := ls.take (atI ls a) ++ [a] ++ ls.drop (atI ls a)
def addI (ls : List Int) (a : Int) : List Int := if a < 13 ∨ a ∈ ls then ls else insI ls a
theorem atI_eq : ∀ {ls : List Int} {a : Int} {k : Nat}, k ≤ ls.length → (∀ (j : Nat) (h : j < ls.length), j < k → ls[j] < a) → (∀ (h : k < ls.length), ¬ ls[k] < a) → atI ls a = k
  | [], a, k, h, _, _ => by simp at h; subst h; rfl
  | x :: ls, a, 0, _, _, h2 => by
    have := h2 (by simp)
    unfold atI
    rw [List.takeWhile_cons_of_neg (by simpa using this)]
    rfl
  | x :: ls, a, k + 1, h, h1, h2 => by
    have h0 := h1 0 (by simp) (by omega)
    have ih := atI_eq (ls := ls) (a := a) (k := k) (by simpa using h) (fun j hj hjk => by have := h1 (j + 1) (by simpa using hj) (by omega); simpa using this) (fun hk => by have := h2 (by simpa using hk); simpa using this)
    unfold atI at ih ⊢
    rw [List.takeWhile_cons_of_pos (by simpa using h0), List.length_cons, ih]
theorem mem_insI (ls : List Int) (a x : Int) : x ∈ insI ls a ↔ x = a ∨ x ∈ ls := by
  unfold insI
  constructor
  · intro h
    simp only [List.mem_append, List.mem_singleton] at h
    rcases h with (h | h) | h
    · exact Or.inr (List.mem_of_mem_take h)
    · exact Or.inl h
    · exact Or.inr (List.mem_of_mem_drop h)
  · intro h
    simp only [List.mem_append, List.mem_singleton]
    rcases h with h | h
    · exact Or.inl (Or.inr h)
    · have h2 : x ∈ ls.take (atI ls a) ++ ls.drop (atI ls a) := by rw [List.take_append_drop]; exact h
      rcases List.mem_append.1 h2 with h3 | h3
      · exact Or.inl (Or.inl h3)
      · exact Or.inr h3
def AscI (ls : List Int) : Prop := ls.Pairwise (· < ·)
theorem take_at (ls : List Int) (a : Int) : ls.take (atI ls a) = ls.takeWhile (fun x => decide (x < a)) := by
  unfold atI
  induction ls with
  | nil => rfl
  | cons x ls ih =>
    by_cases h : x < a
    · rw [List.takeWhile_cons_of_pos (by simpa using h), List.length_cons, List.take_succ_cons, ih]
    · rw [List.takeWhile_cons_of_neg (by simpa using h)]; rfl
theorem drop_at (ls : List Int) (a : Int) : ls.drop (atI ls a) = ls.dropWhile (fun x => decide (x < a)) := by
  unfold atI
  induction ls with
  | nil => rfl
  | cons x ls ih =>
    by_cases h : x < a
    · rw [List.takeWhile_cons_of_pos (by simpa using h), List.dropWhile_cons_of_pos (by simpa using h), List.length_cons, List.drop_succ_cons, ih]
    · rw [List.takeWhile_cons_of_neg (by simpa using h), List.dropWhile_cons_of_neg (by simpa using h)]; rfl
theorem asc_dropWhile {ls : List Int} {a : Int} (h : AscI ls) (hn : a ∉ ls) : ∀ x ∈ ls.dropWhile (fun x => decide (x < a)), a < x := by
  induction ls with
  | nil => simp
  | cons y ls ih =>
    have hp := List.pairwise_cons.1 h
    by_cases hy : y < a
    · rw [List.dropWhile_cons_of_pos (by simpa using hy)]
      exact ih hp.2 (fun hm => hn (List.mem_cons_of_mem _ hm))
    · rw [List.dropWhile_cons_of_neg (by simpa using hy)]
      have hya : a < y := by
        have : a ≠ y := fun e => hn (by rw [e]; exact List.mem_cons_self ..)
        omega
      intro x hx
      rcases List.mem_cons.1 hx with rfl | hx
      · exact hya
      · have := hp.1 x hx; omega
theorem asc_insI {ls : List Int} {a : Int} (h : AscI ls) (hn : a ∉ ls) : AscI (insI ls a) := by
  unfold insI AscI
  rw [List.append_assoc, List.pairwise_append]
  have htk : ∀ x ∈ ls.take (atI ls a), x < a := by
    intro x hx
    rw [take_at] at hx
    have := List.all_takeWhile (p := fun x => decide (x < a)) (l := ls)
    rw [List.all_eq_true] at this
    simpa using this x hx
  have hdr : ∀ x ∈ ls.drop (atI ls a), a < x := by rw [drop_at]; exact asc_dropWhile h hn
  refine ⟨h.sublist (List.take_sublist _ _), ?_, ?_⟩
  · rw [List.singleton_append, List.pairwise_cons]
    exact ⟨hdr, h.sublist (List.drop_sublist _ _)⟩
  · intro x hx y hy
    have h1 := htk x hx
    rw [List.singleton_append] at hy
    rcases List.mem_cons.1 hy with rfl | hy
    · exact h1
    · have := hdr y hy; omega
theorem asc_addI {ls : List Int} {a : Int} (h : AscI ls) : AscI (addI ls a) := by
  unfold addI
  by_cases hc : a < 13 ∨ a ∈ ls
  · rw [if_pos hc]; exact h
  · rw [if_neg hc]; exact asc_insI h (fun hm => hc (Or.inr hm))
theorem mem_addI (ls : List Int) (a x : Int) : x ∈ addI ls a ↔ x ∈ ls ∨ (x = a ∧ 13 ≤ a) := by
  unfold addI
  by_cases hc : a < 13 ∨ a ∈ ls
  · rw [if_pos hc]
    constructor
    · exact Or.inl
    · rintro (h | ⟨rfl, h⟩)
      · exact h
      · rcases hc with hc | hc
        · omega
        · exact hc
  · rw [if_neg hc, mem_insI]
    constructor
    · rintro (rfl | h)
      · exact Or.inr ⟨rfl, by omega⟩
      · exact Or.inl h
    · rintro (h | ⟨rfl, _⟩)
      · exact Or.inr h
      · exact Or.inl rfl
/-- An ascending list is known by its members. -/
theorem asc_ext : ∀ {a b : List Int}, AscI a → AscI b → (∀ x, x ∈ a ↔ x ∈ b) → a = b
  | [], [], _, _, _ => rfl
  | [], y :: b, _, _, h => by have := (h y).2 (List.mem_cons_self ..); cases this
  | x :: a, [], _, _, h => by have := (h x).1 (List.mem_cons_self ..); cases this
  | x :: a, y :: b, ha, hb, h => by
    have ha' := List.pairwise_cons.1 ha
    have hb' := List.pairwise_cons.1 hb
    have e : x = y := by
      rcases List.mem_cons.1 ((h x).1 (List.mem_cons_self ..)) with e | hx
      · exact e
      · rcases List.mem_cons.1 ((h y).2 (List.mem_cons_self ..)) with e | hy
        · exact e.symm
        · have h1 := hb'.1 x hx
          have h2 := ha'.1 y hy
          omega
    subst e
    congr 1
    refine asc_ext ha'.2 hb'.2 fun z => ?_
    constructor
    · intro hz
      rcases List.mem_cons.1 ((h z).1 (List.mem_cons_of_mem _ hz)) with rfl | h2
      · have := ha'.1 z hz; omega
      · exact h2
    · intro hz
      rcases List.mem_cons.1 ((h z).2 (List.mem_cons_of_mem _ hz)) with rfl | h2
      · have := hb'.1 z hz; omega
      · exact h2
/-- The places that are reached: the root's, the entries', the sets' and the parts'. -/
def ptsR (c : CoreM) (root : Int) : List Int := root :: (c.ddt.map (·.at_) ++ c.sets.map (·.home.at_) ++ c.parts.map (·.at_))
noncomputable def reachM (c : CoreM) (root : Int) : List Int := (ptsR c root).foldl addI []
theorem foldl_addI (xs : List Int) : ∀ (ls : List Int), AscI ls → AscI (xs.foldl addI ls) ∧ ∀ x, x ∈ xs.foldl addI ls ↔ x ∈ ls ∨ (x ∈ xs ∧ 13 ≤ x) := by
  induction xs with
  | nil => intro ls h; exact ⟨h, fun x => by simp⟩
  | cons a xs ih =>
    intro ls h
    obtain ⟨h1, h2⟩ := ih (addI ls a) (asc_addI h)
    refine ⟨h1, fun x => ?_⟩
    rw [List.foldl_cons, h2 x, mem_addI, List.mem_cons]
    constructor
    · rintro ((h3 | ⟨rfl, h3⟩) | ⟨h3, h4⟩)
      · exact Or.inl h3
      · exact Or.inr ⟨Or.inl rfl, h3⟩
      · exact Or.inr ⟨Or.inr h3, h4⟩
    · rintro (h3 | ⟨rfl | h3, h4⟩)
      · exact Or.inl (Or.inl h3)
      · exact Or.inl (Or.inr ⟨rfl, h4⟩)
      · exact Or.inr ⟨h3, h4⟩
end Go.Proofs.YtglgdbnhnchabaaGreatDoor

/-
  The document's l7Add.
-/
set_option maxRecDepth 100000
namespace Go.Proofs.YtglgdbnhnchabaaGreatDoor
open Go.ChangeShapes Go.WideShapes Go.ChangeAt Go.RowKit Go.Proofs.Palim

theorem ics_oneI (zs : List Int) : ∀ u ∈ ics zs, u.oneCell' = true := by
  intro u hu
  obtain ⟨s, _, rfl⟩ := List.mem_map.1 hu
  rfl
def AddPost (base : Nat) (v : Value) (ss : List Int) (s : Int) (w : World) (e : Ending) (w' : World) : Prop :=
  ∃ v', e = .returned v' ∧ w'.ownsRow base 3 1 v' (addI ss s).length (ics (addI ss s)) ∧ Turned (fun b => v.ownBlock = some b) w w'

set_option maxHeartbeats 4000000 in
theorem l7Add_any (v : Value) (ss : List Int) (s : Int) (base : Nat) (w0 : World) (h : w0.ownsRow base 3 1 v ss.length (ics ss)) (hb : base ≤ w0.heap.size) (hn : ss.length ≤ 1000) :
    Calls Tryz.prog 61 #[v, .int .i64 s] w0 (AddPost base v ss s w0) := by
  obtain ⟨i0, hi, hz0, hz1, hz2⟩ := info_parts infoInt
  obtain ⟨_, A, c, rfl, hnc0, hcm0, hcell0⟩ := sl_of_own h
  have HO00 := Lib.hid h
  clear h hcell0
  by_cases h13 : s < 13
  case pos =>
    have HI := Lib.hid (show addI ss s = ss from if_pos (Or.inl h13))
    go_enter Tryz.func61, Tryz.ntmps61
    go_wp2
    go_ret
    exact ⟨_, rfl, by rw [HI.out]; exact HO00.out, Turned.refl _ _⟩
  case neg =>
  by_cases hmem : s ∈ ss
  case pos =>
    have HI := Lib.hid (show addI ss s = ss from if_pos (Or.inr hmem))
    have hor := decide_eq_true hmem
    go_enter Tryz.func61, Tryz.ntmps61
    go_wp2_with fail
    refine (l7Has_any _ ss s true _ (sl_of_own HO00.out) hor).mono ?_
    rintro e w ⟨rfl, hb2⟩
    have HO := Lib.hid (own_kept HO00.out (fun b e => hb2.block b (HO00.out.lt b e).2))
    have HT := Lib.hid (turned_of_below (S := fun b => (Value.slice A ss.length c).ownBlock = some b) hb2)
    clear hb2
    go_wp2
    go_ret
    exact ⟨_, rfl, by rw [HI.out]; exact HO.out, HT.out⟩
  case neg =>
  have HAI := Lib.hid (show addI ss s = insI ss s from if_neg (fun h => h.elim h13 hmem))
  have hor := decide_eq_false hmem
  unfold maxLen at hcm0
  go_enter Tryz.func61, Tryz.ntmps61
  go_wp2_with fail
  refine (l7Has_any _ ss s false _ (sl_of_own HO00.out) hor).mono ?_
  rintro e w ⟨rfl, hb2⟩
  have HO := Lib.hid (own_kept HO00.out (fun b e => hb2.block b (HO00.out.lt b e).2))
  have HT0 := Lib.hid (turned_of_below (S := fun b => (Value.slice A ss.length c).ownBlock = some b) hb2)
  replace hb := Nat.le_trans hb hb2.size
  clear hb2 hmem hor HO00
  have HSL := Lib.hid (sl_of_own HO.out)
  obtain ⟨n, HN⟩ : ∃ n, Hid (ss.length = n) := ⟨_, Lib.hid rfl⟩
  rw [HN.out] at hn hnc0 HO HSL HT0 ⊢
  go_wp2
  go_loop [5] (fun i => ∃ k : Nat, k ≤ n ∧ i = .int .i64 k ∧ Hid (∀ (j : Nat) (h : j < ss.length), j < k → ss[j] < s)) (fun i => n - (RowKit.intOf i).toNat)
  case atStart => exact ⟨0, Nat.zero_le _, rfl, Lib.hid (fun j _ h => absurd h (Nat.not_lt_zero _))⟩
  case round =>
    obtain ⟨k, hk, rfl, HK⟩ := hrel
    by_cases hlt : k < n
    case pos =>
      have hl0 : k < ss.length := by rw [HN.out]; exact hlt
      obtain ⟨g, c', hv, hbg, hgl⟩ := HO.out.form (by omega)
      injection hv with e1 e2 e3
      subst e1 e3
      clear e2
      obtain ⟨⟨u, hu, g0⟩, -, -, -⟩ := own_at HO.out k (by omega)
      rw [ics_at ss k hl0] at hu
      obtain rfl := Option.some.inj hu
      clear hu
      have hk1 : (k : Int) < (n : Int) := by omega
      by_cases hL : ss[k] < s
      · have HK1 := Lib.hid (show ∀ (j : Nat) (h : j < ss.length), j < k + 1 → ss[j] < s from fun j h hj => by
          rcases Nat.lt_succ_iff_lt_or_eq.1 hj with h2 | rfl
          · exact HK.out j h h2
          · exact hL)
        clear HK
        generalize ss[k] = x at g0 hL
        have hL2 : decide (x < s) = true := decide_eq_true hL
        go_wp2
        go_round
        case rel => exact ⟨k + 1, by omega, by go_num, HK1⟩
        case measure => simp [RowKit.intOf]; omega
      · have HA := Lib.hid (atI_eq (by rw [HN.out]; exact hk) HK.out (fun _ => hL))
        have HI := Lib.hid (show insI ss s = ss.take k ++ [s] ++ ss.drop k from by unfold insI; rw [HA.out])
        · clear HK
          generalize ss[k] = x at g0 hL
          have hL2 : decide (x < s) = false := decide_eq_false hL
          have hb1 := Below.new1 (w := w) (.cells #[] 3)
          have hsd := sl_drop (xs := ics ss) (k := k) (w' := w.alloc (.cells #[] 3)) HSL.out hlt (hb1.block g hgl)
          rw [show (ics ss).drop k = ics (ss.drop k) from by simp [ics]] at hsd
          have HSD := Lib.hid hsd
          clear hsd hb1
          go_wp2_with (first | (at_builtin; refine wpList_append_freshB _ rfl _ _ 25 rfl w.heap.size 3 i0 _ 1 8 Tryz.underlying25 hi hz0 hz1 hz2 rfl (by omega) (.slice (some ⟨w.heap.size, 0, none⟩) 0 0) 0 [] rfl (World.ownsRow_made w #[] 0 (Nat.le_refl _) (by unfold maxLen; omega) rfl) (.slice (some ⟨g, k, none⟩) (n - k) (c - k)) (n - k) (ics (ss.drop k)) rfl HSD.out (ics_oneI _) (by unfold maxLen; omega) (by omega) (by simp) ?_))
          intro A1 cap1 w1 hown1 hg1 _
          have HB1 := Lib.hid (show Below w.heap.size w w1 from ((Below.refl _ w).alloc (Nat.le_refl _) _).grown hg1 (by simp) (by intro k hk; simp [Value.ownBlock] at hk; omega))
          have HOW1 := Lib.hid hown1
          clear hown1 hg1
          have HO1 := Lib.hid (own_kept HO.out (w' := w1) (fun b e => HB1.out.block b (HO.out.lt b e).2))
          have hb2 := Below.new1 (w := w1) (.cells #[.int .i64 s] 3)
          have HP := Lib.hid (own_kept (own_take HO1.out (k := k) (by omega)) (w' := w1.alloc (.cells #[.int .i64 s] 3)) (fun b e => hb2.block b ((own_take HO1.out (k := k) (by omega)).lt b e).2))
          have HS1 := Lib.hid (sl_intR w1 s 3)
          clear hb2
          go_wp2_with (first | (at_builtin; refine wpList_append_freshB _ rfl _ _ 25 rfl base 3 i0 _ 1 8 Tryz.underlying25 hi hz0 hz1 hz2 rfl (by omega) (.slice (some ⟨g, 0, none⟩) k c) k _ rfl HP.out (.slice (some ⟨w1.heap.size, 0, none⟩) 1 1) 1 [.int .i64 s] rfl HS1.out (by simp [Value.oneCell']) (by unfold maxLen; omega) (by omega) (by have := HB1.out.size; simp; omega) ?_))
          intro A2 cap2 w2 hown2 hg2 hloc2
          have HOW2 := Lib.hid hown2
          have hT1 : Turned (fun b => b = g) w w2 := turned_grown (turned_of_below (HB1.out.trans ((Below.new1 (w := w1) (.cells #[.int .i64 s] 3)).mono HB1.out.size))) hg2 (fun b e => Or.inl (by simpa [Value.ownBlock] using e.symm))
          have HT1 := Lib.hid hT1
          have hkeep : ∀ b, (Value.slice A1 (n - k) cap1).ownBlock = some b → w2.heap[b]? = w1.heap[b]? := fun b e => by
            have h1 := HOW1.out.lt b e
            rw [hg2.block b (by simp; omega) (by simp [Value.ownBlock]; omega)]
            exact Below.heap_alloc _ _ b h1.2
          have HS2 := Lib.hid (sl_of_own (own_kept HOW1.out hkeep))
          clear hown2 hg2 hT1 hkeep
          go_wp2_with (first | (at_builtin; refine wpList_append_freshB _ rfl _ _ 25 rfl base 3 i0 _ 1 8 Tryz.underlying25 hi hz0 hz1 hz2 rfl (by omega) (.slice A2 (k + 1) cap2) (k + 1) _ rfl HOW2.out (.slice A1 (n - k) cap1) (n - k) (ics (ss.drop k)) rfl HS2.out (ics_oneI _) (by unfold maxLen; omega) (by omega) (by have := HT1.out.size; omega) ?_))
          intro A3 cap3 w3 hown3 hg3 hloc3
          have HOW3 := Lib.hid (show w3.ownsRow base 3 1 (.slice A3 (k + 1 + (n - k)) cap3) (insI ss s).length (ics (insI ss s)) from by
            have e1 : (insI ss s).length = k + 1 + (n - k) := by rw [HI.out]; simp [HN.out]; omega
            have e2 : ics (insI ss s) = (ics ss).take k ++ .int .i64 s :: ics (ss.drop k) := by rw [HI.out]; simp [ics, List.map_take]
            rw [e1, e2]
            exact hown3)
          have HT3 := Lib.hid (turned_grown HT1.out hg3 (fun b e => by
            rcases hloc2 with h2 | h2
            · left; rw [h2] at e; simpa [Value.ownBlock] using e.symm
            · right
              rw [h2] at e
              have := HB1.out.size
              have e' := Option.some.inj e
              have h5 : (w1.alloc (.cells #[.int .i64 s] 3)).heap.size = w1.heap.size + 1 := by simp
              omega))
          clear hown3 hg3 hloc3 hloc2
          go_wp2
          go_ret
          exact ⟨_, rfl, by rw [HAI.out]; exact HOW3.out, HT0.out.trans (HT3.out.mono (by rintro b _ rfl; rfl))⟩
    case neg =>
      have hkn : k = n := by omega
      have HA := Lib.hid (atI_eq (by rw [HN.out]; exact hk) HK.out (fun h => absurd h (by rw [HN.out]; exact hlt)))
      have HI := Lib.hid (show insI ss s = ss ++ [s] from by
        have e1 : ss.take k = ss := List.take_of_length_le (by rw [HN.out]; omega)
        have e2 : ss.drop k = [] := List.drop_eq_nil_of_le (by rw [HN.out]; omega)
        unfold insI; rw [HA.out, e1, e2]; simp)
      clear HK HA
      subst hkn
      have hd : decide ((k : Int) < (k : Int)) = false := decide_eq_false (by omega)
      have hA : (A = none ∧ k = c) ∨ (∃ g, A = some ⟨g, 0, none⟩ ∧ k = c) ∨ ∃ g, A = some ⟨g, 0, none⟩ ∧ ¬ c = k := by
        rcases HO.out.2 with ⟨hv, hz⟩ | ⟨g, cap', cur, hv, _⟩
        · injection hv with e1 e2 e3
          exact Or.inl ⟨e1, by omega⟩
        · injection hv with e1 e2 e3
          by_cases hck : c = k
          · exact Or.inr (Or.inl ⟨g, e1, hck.symm⟩)
          · exact Or.inr (Or.inr ⟨g, e1, hck⟩)
      rcases hA with ⟨rfl, rfl⟩ | ⟨g, rfl, rfl⟩ | ⟨g, rfl, hck⟩
      all_goals
        go_wp2_with (first | (at_builtin; refine wpList_append_freshB _ rfl _ _ 25 rfl w.heap.size 3 i0 _ 1 8 Tryz.underlying25 hi hz0 hz1 hz2 rfl (by omega) (.slice (some ⟨w.heap.size, 0, none⟩) 0 0) 0 [] rfl (World.ownsRow_made w #[] 0 (Nat.le_refl _) (by unfold maxLen; omega) rfl) _ 0 [] rfl (sl_zero _ _ _ (by unfold maxLen; omega)) (by simp) (by unfold maxLen; omega) (by omega) (by simp) ?_))
        intro A1 cap1 w1 hown1 hg1 _
        have HB1 := Lib.hid (show Below w.heap.size w w1 from ((Below.refl _ w).alloc (Nat.le_refl _) _).grown hg1 (by simp) (by intro k hk; simp [Value.ownBlock] at hk; omega))
        have HOW1 := Lib.hid hown1
        clear hown1 hg1
        have HO1 := Lib.hid (own_kept HO.out (w' := w1) (fun b e => HB1.out.block b (HO.out.lt b e).2))
        have hb2 := Below.new1 (w := w1) (.cells #[.int .i64 s] 3)
        have HP := Lib.hid (own_kept HO1.out (w' := w1.alloc (.cells #[.int .i64 s] 3)) (fun b e => hb2.block b (HO1.out.lt b e).2))
        have HS1 := Lib.hid (sl_intR w1 s 3)
        clear hb2
        go_wp2_with (first | (at_builtin; refine wpList_append_freshB _ rfl _ _ 25 rfl base 3 i0 _ 1 8 Tryz.underlying25 hi hz0 hz1 hz2 rfl (by omega) _ k _ rfl HP.out (.slice (some ⟨w1.heap.size, 0, none⟩) 1 1) 1 [.int .i64 s] rfl HS1.out (by simp [Value.oneCell']) (by unfold maxLen; omega) (by omega) (by have := HB1.out.size; simp; omega) ?_))
        intro A2 cap2 w2 hown2 hg2 hloc2
        have HOW2 := Lib.hid hown2
        have HT1 := Lib.hid (turned_grown (S := fun b => Value.ownBlock _ = some b) (w' := w2) (turned_of_below (HB1.out.trans ((Below.new1 (w := w1) (.cells #[.int .i64 s] 3)).mono HB1.out.size))) hg2 (fun b e => Or.inl e))
        have HS2 := Lib.hid (show Sl w2 1 (.slice A1 0 cap1) 0 [] from (sl_of_own HOW1.out).none_)
        clear hown2 hg2
        go_wp2_with (first | (at_builtin; refine wpList_append_freshB _ rfl _ _ 25 rfl base 3 i0 _ 1 8 Tryz.underlying25 hi hz0 hz1 hz2 rfl (by omega) (.slice A2 (k + 1) cap2) (k + 1) _ rfl HOW2.out (.slice A1 0 cap1) 0 [] rfl HS2.out (by simp) (by unfold maxLen; omega) (by omega) (by have := HT1.out.size; omega) ?_))
        intro A3 cap3 w3 hown3 hg3 hloc3
        have HOW3 := Lib.hid (show w3.ownsRow base 3 1 (.slice A3 (k + 1) cap3) (insI ss s).length (ics (insI ss s)) from by
          have e1 : (insI ss s).length = k + 1 := by rw [HI.out]; simp [HN.out]
          have e2 : ics (insI ss s) = ics ss ++ [.int .i64 s] := by rw [HI.out]; simp [ics]
          rw [e1, e2]
          simpa using hown3)
        have HT3 := Lib.hid (turned_grown HT1.out hg3 (fun b e => by
          rcases hloc2 with h2 | h2
          · left; rw [h2] at e; exact e
          · right
            rw [h2] at e
            have := HB1.out.size
            have e' := Option.some.inj e
            have h5 : (w1.alloc (.cells #[.int .i64 s] 3)).heap.size = w1.heap.size + 1 := by simp
            omega))
        clear hown3 hg3 hloc3 hloc2
        go_wp2
        go_ret
        exact ⟨_, rfl, by rw [HAI.out]; exact HOW3.out, HT0.out.trans HT3.out⟩
end Go.Proofs.YtglgdbnhnchabaaGreatDoor

/-
  The document's RoomReach.
-/
set_option maxRecDepth 100000
namespace Go.Proofs.YtglgdbnhnchabaaGreatDoor
open Go.ChangeShapes Go.WideShapes Go.ChangeAt Go.RowKit Go.Proofs.Palim

def foldR (root : Int) (xs : List Int) : List Int := (root :: xs).foldl addI []
theorem foldR_snoc (root : Int) (xs : List Int) (a : Int) : addI (foldR root xs) a = foldR root (xs ++ [a]) := by
  unfold foldR
  rw [← List.cons_append, List.foldl_append]
  rfl
theorem addI_len (ls : List Int) (a : Int) : (addI ls a).length ≤ ls.length + 1 := by
  unfold addI
  split
  · omega
  · unfold insI
    simp only [List.length_append, List.length_take, List.length_drop, List.length_singleton]
    omega
theorem foldl_len (xs : List Int) : ∀ ls : List Int, (xs.foldl addI ls).length ≤ ls.length + xs.length := by
  induction xs with
  | nil => intro ls; simp
  | cons a xs ih =>
    intro ls
    have h1 := ih (addI ls a)
    have h2 := addI_len ls a
    rw [List.foldl_cons, List.length_cons]
    omega
theorem foldR_len (root : Int) (xs : List Int) : (foldR root xs).length ≤ 1 + xs.length := by
  have := foldl_len (root :: xs) []
  unfold foldR
  simp only [List.length_cons, List.length_nil] at this
  omega
theorem cc_homeR (x : CSetM) : (cc x)[27]? = some (.int .i64 x.home.at_) := by
  have h8 := x.h8
  unfold cc
  rw [List.getElem?_append_right (by rw [List.length_append, pcs_length, h8]; simp [ch]), List.length_append, pcs_length, h8]
  rfl

set_option maxHeartbeats 6000000 in
theorem l7Reach_any (vs vd vp vi : Value) (c : CoreM) (root : Int) (w : World) (h : CoreR w vs vd vp vi c) (hs : CoreShort c) (hok : CoreOkM c) :
    Calls Tryz.prog 34 #[cv c vs vd vp vi, .int .i64 root] w fun e w' => ∃ v, e = .returned v ∧ w'.ownsRow w.heap.size 3 1 v (reachM c root).length (ics (reachM c root)) ∧ Below w.heap.size w w' := by
  have HS := Lib.hid hs
  have hd48 := hok.2.1.1
  have hp8 := hok.2.2.1
  have hs6 : c.sets.length ≤ 6 := by have := hok.2.2.2.2.2.2.2.1.1; rwa [namesM_length] at this
  obtain ⟨A0, k0, A1, k1, A2, k2, A3, k3, rfl, rfl, rfl, rfl⟩ := h.forms
  have HRD := Lib.hid h
  have hn1 := Below.new1 (w := w.alloc (.cells #[.int .i64 c.txg, .slice A0 c.sets.length k0, .slice A1 c.ddt.length k1, .slice A2 c.parts.length k2, .bool c.dirty, .slice A3 c.safe.length k3, .int .i64 c.logn] 34)) (.cells #[] 3)
  have X1 := Lib.hid (((kbox_new h 34).below hn1).box)
  have hb0 := Below.new1 (w := w) (.cells #[.int .i64 c.txg, .slice A0 c.sets.length k0, .slice A1 c.ddt.length k1, .slice A2 c.parts.length k2, .bool c.dirty, .slice A3 c.safe.length k3, .int .i64 c.logn] 34)
  have B1 := Lib.hid (hb0.trans (hn1.mono hb0.size))
  have O1 := Lib.hid (show World.ownsRow _ (w.heap.size + 1) 3 1 (.slice (some ⟨w.heap.size + 1, 0, none⟩) 0 0) ([] : List Int).length (ics []) from by have := World.ownsRow_made (e := 3) (w.alloc (.cells #[.int .i64 c.txg, .slice A0 c.sets.length k0, .slice A1 c.ddt.length k1, .slice A2 c.parts.length k2, .bool c.dirty, .slice A3 c.safe.length k3, .int .i64 c.logn] 34)) #[] 0 (Nat.le_refl _) (by unfold maxLen; omega) (rfl : (0 : Nat) * 1 = 0); simpa [ics] using this)
  clear h hs hn1 hb0 hok
  go_enter Tryz.func34, Tryz.ntmps34
  go_wp2_with fail
  obtain ⟨W0, HWE⟩ : ∃ W0, (w.alloc (.cells #[.int .i64 c.txg, .slice A0 c.sets.length k0, .slice A1 c.ddt.length k1, .slice A2 c.parts.length k2, .bool c.dirty, .slice A3 c.safe.length k3, .int .i64 c.logn] 34)).alloc (.cells #[] 3) = W0 := ⟨_, rfl⟩
  rw [HWE] at X1 B1 O1 ⊢
  clear HWE
  refine (l7Add_any _ [] root (w.heap.size + 1) _ O1.out (by have := X1.out.lt; omega) (by simp)).mono ?_
  rintro e w2 ⟨u, rfl, hown, ht⟩
  obtain ⟨_, D, cap, rfl, -, -, -⟩ := sl_of_own hown
  have XC := Lib.hid (X1.out.kept (ht.block _ X1.out.lt (fun e => by have := (O1.out.lt _ e).1; omega)))
  have B := Lib.hid (B1.out.trans (below_of_turned ht (fun b e => by have := (O1.out.lt b e).1; omega) B1.out.size))
  have HO := Lib.hid hown
  obtain ⟨zs, HZ0⟩ : ∃ zs, Hid (addI [] root = zs) := ⟨_, Lib.hid rfl⟩
  rw [HZ0.out] at HO ⊢
  obtain ⟨m0, HM0⟩ : ∃ m0, Hid (zs.length = m0) := ⟨_, Lib.hid rfl⟩
  rw [HM0.out] at HO ⊢
  have HZ := Lib.hid (show zs = foldR root ((c.ddt.take 0).map (·.at_)) ∧ zs.length = m0 from ⟨HZ0.out.symm, HM0.out⟩)
  clear hown ht X1 B1 O1 HZ0 HM0
  go_wp2
  go_loopw [5, 6] (fun o i wr => ∃ (k m : Nat) (D : Option Addr) (cap : Nat) (zs : List Int), k ≤ c.ddt.length ∧ i = .int .i64 (k : Int) ∧ o = .slice D m cap ∧ Hid (zs = foldR root ((c.ddt.take k).map (·.at_)) ∧ zs.length = m) ∧ Hid (wr.ownsRow (w.heap.size + 1) 3 1 (.slice D m cap) m (ics zs)) ∧ Hid (Box wr w.heap.size (kcore c (.slice A0 c.sets.length k0) (.slice A1 c.ddt.length k1) (.slice A2 c.parts.length k2) (.slice A3 c.safe.length k3))) ∧ Hid (Below w.heap.size w wr)) (fun _ i _ => c.ddt.length - (RowKit.intOf i).toNat)
  case atStart => exact ⟨0, _, _, _, zs, Nat.zero_le _, rfl, rfl, HZ, HO, XC, B⟩
  case round =>
    clear HZ HO XC B
    obtain ⟨k, m, D, cap, zs, hk, rfl, rfl, HZ, HO, XC, B⟩ := hrel
    have n2 := XC.out.cell 2 rfl
    by_cases hlt : k < c.ddt.length
    case pos =>
      obtain ⟨b, off, c', hvv, _, _, hcell⟩ := (HRD.out.below B.out).d.form (by omega)
      injection hvv with e1 e2 e3
      subst e1 e3
      clear e2
      have hk1 : (k : Int) < ((c.ddt.length : Nat) : Int) := by omega
      obtain ⟨-, g0, -⟩ := ent_read hcell k hlt
      have HST := Lib.hid (show addI zs ((c.ddt)[k].at_) = foldR root ((c.ddt.take (k + 1)).map (·.at_)) from by
        rw [HZ.out.1, List.take_succ_eq_append_getElem hlt]
        rw [List.map_append, foldR_snoc]; rfl)
      have hm : m ≤ 200 := by rw [← HZ.out.2, HZ.out.1]; refine Nat.le_trans (foldR_len _ _) ?_; simp only [List.length_append, List.length_map, List.length_take]; omega
      generalize (c.ddt)[k].at_ = y at g0 HST
      clear hcell
      go_wp2_with fail
      refine (l7Add_any _ zs y (w.heap.size + 1) _ (by rw [HZ.out.2]; exact HO.out) (by have := XC.out.lt; omega) (by rw [HZ.out.2]; omega)).mono ?_
      rintro e w2 ⟨u, rfl, hown, ht⟩
      obtain ⟨_, D2, cap2, rfl, -, -, -⟩ := sl_of_own hown
      have XC' := Lib.hid (XC.out.kept (ht.block _ XC.out.lt (fun e => by have := (HO.out.lt _ e).1; omega)))
      have B' := Lib.hid (B.out.trans (below_of_turned ht (fun b e => by have := (HO.out.lt b e).1; omega) B.out.size))
      have HO' := Lib.hid hown
      clear hown ht XC B HO g0 n2
      go_wp2
      go_roundw
      case rel => exact ⟨k + 1, _, _, _, addI zs y, by omega, by go_num, rfl, Lib.hid ⟨HST.out, rfl⟩, HO', XC', B'⟩
      case measure => simp [RowKit.intOf]; omega
    case neg =>
      have hkn : ¬ (k : Int) < ((c.ddt.length : Nat) : Int) := by omega
      have HK := Lib.hid (show k = c.ddt.length from by omega)
      have HZ2 := Lib.hid (show zs = foldR root (c.ddt.map (·.at_) ++ (c.sets.take 0).map (·.home.at_)) ∧ zs.length = m from ⟨by have h1 := HZ.out.1; rw [HK.out, List.take_length] at h1; rw [h1]; simp [foldR], HZ.out.2⟩)
      clear HZ HK
      have HZ := HZ2
      clear HZ2
      go_wp2
      clear n2 hkn hlt
      go_loopw [5, 7] (fun o i wr => ∃ (k m : Nat) (D : Option Addr) (cap : Nat) (zs : List Int), k ≤ c.sets.length ∧ i = .int .i64 (k : Int) ∧ o = .slice D m cap ∧ Hid (zs = foldR root (c.ddt.map (·.at_) ++ (c.sets.take k).map (·.home.at_)) ∧ zs.length = m) ∧ Hid (wr.ownsRow (w.heap.size + 1) 3 1 (.slice D m cap) m (ics zs)) ∧ Hid (Box wr w.heap.size (kcore c (.slice A0 c.sets.length k0) (.slice A1 c.ddt.length k1) (.slice A2 c.parts.length k2) (.slice A3 c.safe.length k3))) ∧ Hid (Below w.heap.size w wr)) (fun _ i _ => c.sets.length - (RowKit.intOf i).toNat)
      case atStart => exact ⟨0, _, _, _, zs, Nat.zero_le _, rfl, rfl, HZ, HO, XC, B⟩
      case round =>
        clear HZ HO XC B
        obtain ⟨k, m, D, cap, zs, hk, rfl, rfl, HZ, HO, XC, B⟩ := hrel
        have n1 := XC.out.cell 1 rfl
        by_cases hlt : k < c.sets.length
        case pos =>
          obtain ⟨b, off, c', hvv, _, _, hcell⟩ := (HRD.out.below B.out).s.form (by omega)
          injection hvv with e1 e2 e3
          subst e1 e3
          clear e2
          have hk1 : (k : Int) < ((c.sets.length : Nat) : Int) := by omega
          have g0 := cset_read hcell k hlt 27 _ (cc_homeR _)
          have HST := Lib.hid (show addI zs ((c.sets)[k].home.at_) = foldR root (c.ddt.map (·.at_) ++ (c.sets.take (k + 1)).map (·.home.at_)) from by
            rw [HZ.out.1, List.take_succ_eq_append_getElem hlt]
            rw [List.map_append, ← List.append_assoc, foldR_snoc]; rfl)
          have hm : m ≤ 200 := by rw [← HZ.out.2, HZ.out.1]; refine Nat.le_trans (foldR_len _ _) ?_; simp only [List.length_append, List.length_map, List.length_take]; omega
          generalize (c.sets)[k].home.at_ = y at g0 HST
          clear hcell
          go_wp2_with fail
          refine (l7Add_any _ zs y (w.heap.size + 1) _ (by rw [HZ.out.2]; exact HO.out) (by have := XC.out.lt; omega) (by rw [HZ.out.2]; omega)).mono ?_
          rintro e w2 ⟨u, rfl, hown, ht⟩
          obtain ⟨_, D2, cap2, rfl, -, -, -⟩ := sl_of_own hown
          have XC' := Lib.hid (XC.out.kept (ht.block _ XC.out.lt (fun e => by have := (HO.out.lt _ e).1; omega)))
          have B' := Lib.hid (B.out.trans (below_of_turned ht (fun b e => by have := (HO.out.lt b e).1; omega) B.out.size))
          have HO' := Lib.hid hown
          clear hown ht XC B HO g0 n1
          go_wp2
          go_roundw
          case rel => exact ⟨k + 1, _, _, _, addI zs y, by omega, by go_num, rfl, Lib.hid ⟨HST.out, rfl⟩, HO', XC', B'⟩
          case measure => simp [RowKit.intOf]; omega
        case neg =>
          have hkn : ¬ (k : Int) < ((c.sets.length : Nat) : Int) := by omega
          have HK := Lib.hid (show k = c.sets.length from by omega)
          have HZ2 := Lib.hid (show zs = foldR root (c.ddt.map (·.at_) ++ c.sets.map (·.home.at_) ++ (c.parts.take 0).map (·.at_)) ∧ zs.length = m from ⟨by have h1 := HZ.out.1; rw [HK.out, List.take_length] at h1; rw [h1]; simp [foldR], HZ.out.2⟩)
          clear HZ HK
          have HZ := HZ2
          clear HZ2
          go_wp2
          clear n1 hkn hlt
          go_loopw [5, 8] (fun o i wr => ∃ (k m : Nat) (D : Option Addr) (cap : Nat) (zs : List Int), k ≤ c.parts.length ∧ i = .int .i64 (k : Int) ∧ o = .slice D m cap ∧ Hid (zs = foldR root (c.ddt.map (·.at_) ++ c.sets.map (·.home.at_) ++ (c.parts.take k).map (·.at_)) ∧ zs.length = m) ∧ Hid (wr.ownsRow (w.heap.size + 1) 3 1 (.slice D m cap) m (ics zs)) ∧ Hid (Box wr w.heap.size (kcore c (.slice A0 c.sets.length k0) (.slice A1 c.ddt.length k1) (.slice A2 c.parts.length k2) (.slice A3 c.safe.length k3))) ∧ Hid (Below w.heap.size w wr)) (fun _ i _ => c.parts.length - (RowKit.intOf i).toNat)
          case atStart => exact ⟨0, _, _, _, zs, Nat.zero_le _, rfl, rfl, HZ, HO, XC, B⟩
          case round =>
            clear HZ HO XC B
            obtain ⟨k, m, D, cap, zs, hk, rfl, rfl, HZ, HO, XC, B⟩ := hrel
            have n3 := XC.out.cell 3 rfl
            by_cases hlt : k < c.parts.length
            case pos =>
              obtain ⟨b, off, c', hvv, _, _, hcell⟩ := (HRD.out.below B.out).p.form (by omega)
              injection hvv with e1 e2 e3
              subst e1 e3
              clear e2
              have hk1 : (k : Int) < ((c.parts.length : Nat) : Int) := by omega
              obtain ⟨g0, -, -⟩ := ptr_read hcell k hlt
              have HST := Lib.hid (show addI zs ((c.parts)[k].at_) = foldR root (c.ddt.map (·.at_) ++ c.sets.map (·.home.at_) ++ (c.parts.take (k + 1)).map (·.at_)) from by
                rw [HZ.out.1, List.take_succ_eq_append_getElem hlt]
                rw [List.map_append, ← List.append_assoc, foldR_snoc]; rfl)
              have hm : m ≤ 200 := by rw [← HZ.out.2, HZ.out.1]; refine Nat.le_trans (foldR_len _ _) ?_; simp only [List.length_append, List.length_map, List.length_take]; omega
              generalize (c.parts)[k].at_ = y at g0 HST
              clear hcell
              go_wp2_with fail
              refine (l7Add_any _ zs y (w.heap.size + 1) _ (by rw [HZ.out.2]; exact HO.out) (by have := XC.out.lt; omega) (by rw [HZ.out.2]; omega)).mono ?_
              rintro e w2 ⟨u, rfl, hown, ht⟩
              obtain ⟨_, D2, cap2, rfl, -, -, -⟩ := sl_of_own hown
              have XC' := Lib.hid (XC.out.kept (ht.block _ XC.out.lt (fun e => by have := (HO.out.lt _ e).1; omega)))
              have B' := Lib.hid (B.out.trans (below_of_turned ht (fun b e => by have := (HO.out.lt b e).1; omega) B.out.size))
              have HO' := Lib.hid hown
              clear hown ht XC B HO g0 n3
              go_wp2
              go_roundw
              case rel => exact ⟨k + 1, _, _, _, addI zs y, by omega, by go_num, rfl, Lib.hid ⟨HST.out, rfl⟩, HO', XC', B'⟩
              case measure => simp [RowKit.intOf]; omega
            case neg =>
              have hkn : ¬ (k : Int) < ((c.parts.length : Nat) : Int) := by omega
              have HK := Lib.hid (show k = c.parts.length from by omega)
              have HF := Lib.hid (show zs = reachM c root from by have h1 := HZ.out.1; rw [HK.out, List.take_length] at h1; exact h1)
              have HOF := Lib.hid (show wr.ownsRow w.heap.size 3 1 (.slice D m cap) (reachM c root).length (ics (reachM c root)) from by rw [← HF.out, HZ.out.2]; exact own_base HO.out (by omega))
              clear HZ HO
              go_wp2
              go_ret
              exact ⟨_, rfl, HOF.out, B.out⟩

end Go.Proofs.YtglgdbnhnchabaaGreatDoor

/-
  What is reached, from the bits: the mathematics.
-/
set_option maxRecDepth 100000
namespace Go.Proofs.YtglgdbnhnchabaaGreatDoor
open Go.ChangeShapes Go.WideShapes Go.ChangeAt Go.RowKit Go.Proofs.Palim

theorem addsB_at (xs : List Int) : ∀ (P : Nat → Bool) (i : Nat), (xs.foldl addB P) i = (P i || xs.any fun a => decide (13 ≤ a ∧ a < 120 ∧ (i : Int) = a)) := by
  induction xs with
  | nil => intro P i; simp
  | cons a xs ih => intro P i; rw [List.foldl_cons, ih, List.any_cons, ← Bool.or_assoc]; rfl
noncomputable def reachB (c : CoreM) (root : Int) : Nat → Bool := addB ((c.parts.map (·.at_)).foldl addB ((c.sets.map (·.home.at_)).foldl addB (storedB c.ddt))) root
theorem reachB_iff (c : CoreM) (root : Int) (i : Nat) : reachB c root i = true ↔ ∃ a ∈ ptsR c root, 13 ≤ a ∧ a < 120 ∧ (i : Int) = a := by
  unfold reachB
  rw [show ∀ Q : Nat → Bool, addB Q root i = (Q i || decide (13 ≤ root ∧ root < 120 ∧ (i : Int) = root)) from fun Q => rfl, addsB_at, addsB_at]
  unfold storedB
  simp only [Bool.or_eq_true, List.any_eq_true, decide_eq_true_eq, List.mem_map]
  unfold ptsR
  constructor
  · rintro (((⟨e, he, h⟩ | ⟨a, ⟨e, he, rfl⟩, h⟩) | ⟨a, ⟨e, he, rfl⟩, h⟩) | h)
    · exact ⟨e.at_, List.mem_cons_of_mem _ (List.mem_append_left _ (List.mem_append_left _ (List.mem_map_of_mem he))), h⟩
    · exact ⟨_, List.mem_cons_of_mem _ (List.mem_append_left _ (List.mem_append_right _ (List.mem_map_of_mem he))), h⟩
    · exact ⟨_, List.mem_cons_of_mem _ (List.mem_append_right _ (List.mem_map_of_mem he)), h⟩
    · exact ⟨root, List.mem_cons_self .., h⟩
  · rintro ⟨a, ha, h⟩
    rcases List.mem_cons.1 ha with rfl | ha
    · exact Or.inr h
    · rcases List.mem_append.1 ha with ha | ha
      · rcases List.mem_append.1 ha with ha | ha
        · obtain ⟨e, he, rfl⟩ := List.mem_map.1 ha
          exact Or.inl (Or.inl (Or.inl ⟨e, he, h⟩))
        · obtain ⟨e, he, rfl⟩ := List.mem_map.1 ha
          exact Or.inl (Or.inl (Or.inr ⟨_, ⟨e, he, rfl⟩, h⟩))
      · obtain ⟨e, he, rfl⟩ := List.mem_map.1 ha
        exact Or.inl (Or.inr ⟨_, ⟨e, he, rfl⟩, h⟩)
theorem pts_lt {c : CoreM} {root : Int} (hok : CoreOkM c) : ∀ a ∈ ptsR c root, a < 120 ∨ a = root := by
  intro a ha
  unfold ptsR at ha
  rcases List.mem_cons.1 ha with rfl | ha
  · exact Or.inr rfl
  · left
    rcases List.mem_append.1 ha with ha | ha
    · rcases List.mem_append.1 ha with ha | ha
      · obtain ⟨e, he, rfl⟩ := List.mem_map.1 ha
        obtain ⟨i, hi, rfl⟩ := List.mem_iff_getElem.1 he
        have h1 := (hok.2.1.2 i hi hi).1
        unfold EntOkM at h1
        omega
      · obtain ⟨e, he, rfl⟩ := List.mem_map.1 ha
        have h1 := (hok.2.2.2.2.2.1 e he).2.2.2.1
        unfold PtrOkM NullM GoodM at h1
        show e.home.at_ < 120
        omega
    · obtain ⟨e, he, rfl⟩ := List.mem_map.1 ha
      have h1 := hok.2.2.2.2.2.2.1 e he
      unfold GoodM at h1
      show e.at_ < 120
      omega
theorem mem_list {P : Nat → Bool} {m : Nat} {x : Int} : x ∈ natsI (listB P m) ↔ ∃ i : Nat, i < m ∧ P i = true ∧ (i : Int) = x := by
  unfold natsI listB
  constructor
  · intro h
    obtain ⟨i, hi, rfl⟩ := List.mem_map.1 h
    obtain ⟨h1, h2⟩ := List.mem_filter.1 hi
    exact ⟨i, List.mem_range.1 h1, h2, rfl⟩
  · rintro ⟨i, h1, h2, rfl⟩
    exact List.mem_map.2 ⟨i, List.mem_filter.2 ⟨List.mem_range.2 h1, h2⟩, rfl⟩
theorem asc_list (P : Nat → Bool) (m : Nat) : AscI (natsI (listB P m)) := by
  unfold AscI natsI listB
  rw [List.pairwise_map]
  exact (List.pairwise_lt_range (n := m)).sublist List.filter_sublist |>.imp (fun h => Int.ofNat_lt.2 h)
theorem reach_list {c : CoreM} {root : Int} (hok : CoreOkM c) : natsI (listB (reachB c root) 128) ++ (if 120 ≤ root then [root] else []) = reachM c root := by
  obtain ⟨h1, h2⟩ := foldl_addI (ptsR c root) [] (List.Pairwise.nil)
  have hm : ∀ x, x ∈ natsI (listB (reachB c root) 128) ↔ ∃ a ∈ ptsR c root, 13 ≤ a ∧ a < 120 ∧ x = a := by
    intro x
    rw [mem_list]
    constructor
    · rintro ⟨i, _, h, rfl⟩
      exact (reachB_iff c root i).1 h
    · rintro ⟨a, ha, h13, h120, rfl⟩
      obtain ⟨i, hi⟩ : ∃ i : Nat, (i : Int) = x := ⟨x.toNat, by omega⟩
      exact ⟨i, by omega, (reachB_iff c root i).2 ⟨x, ha, h13, h120, hi⟩, hi⟩
  refine asc_ext ?_ h1 fun x => ?_
  · unfold AscI
    rw [List.pairwise_append]
    refine ⟨asc_list _ _, ?_, ?_⟩
    · split <;> simp
    · intro x hx y hy
      obtain ⟨a, _, _, h3, rfl⟩ := (hm x).1 hx
      split at hy
      · rw [List.mem_singleton] at hy; omega
      · cases hy
  · rw [List.mem_append, hm x, show reachM c root = (ptsR c root).foldl addI [] from rfl, h2 x]
    constructor
    · rintro (⟨a, ha, h3, _, rfl⟩ | h)
      · exact Or.inr ⟨ha, h3⟩
      · split at h
        · rw [List.mem_singleton] at h
          subst h
          exact Or.inr ⟨List.mem_cons_self .., by omega⟩
        · cases h
    · rintro (h | ⟨ha, h3⟩)
      · cases h
      · rcases pts_lt hok x ha with h4 | rfl
        · exact Or.inl ⟨x, ha, h3, h4, rfl⟩
        · by_cases h5 : 120 ≤ x
          · right; rw [if_pos h5]; exact List.mem_singleton.2 rfl
          · exact Or.inl ⟨x, ha, h3, by omega, rfl⟩
noncomputable def reachC (c : CoreM) (root : Int) : List Int := if CoreOkM c then reachM c root else []
end Go.Proofs.YtglgdbnhnchabaaGreatDoor

/-
  The document's RoomReach, whole.
-/
set_option maxRecDepth 100000
namespace Go.Proofs.YtglgdbnhnchabaaGreatDoor
open Go.ChangeShapes Go.WideShapes Go.ChangeAt Go.RowKit Go.Proofs.Palim

set_option maxHeartbeats 4000000 in
theorem specReach_any (vs vd vp vi : Value) (c : CoreM) (root : Int) (w : World) (h : CoreR w vs vd vp vi c) (hs : CoreShort c) :
    Calls Tryz.prog 14 #[cv c vs vd vp vi, .int .i64 root] w fun e w' => ∃ v, e = .returned v ∧ w'.ownsRow w.heap.size 3 1 v (reachC c root).length (ics (reachC c root)) ∧ Below w.heap.size w w' := by
  have hnot : ∀ (x : Bool) (w : World), (Op.unary .not (.bool x)).run Tryz.prog w = .ok (.bool (!x)) w := fun _ _ => rfl
  have HS := Lib.hid hs
  obtain ⟨A0, k0, A1, k1, A2, k2, A3, k3, rfl, rfl, rfl, rfl⟩ := h.forms
  have HRD := Lib.hid h
  have hb0 := Below.new1 (w := w) (.cells #[.int .i64 c.txg, .slice A0 c.sets.length k0, .slice A1 c.ddt.length k1, .slice A2 c.parts.length k2, .bool c.dirty, .slice A3 c.safe.length k3, .int .i64 c.logn] 34)
  have B := Lib.hid hb0
  have XC := Lib.hid ((kbox_new h 34).box)
  clear h hs hb0
  go_enter Tryz.func14, Tryz.ntmps14
  go_upto_region 1 with fail
  obtain ⟨W0, HWE⟩ : ∃ W0, w.alloc (.cells #[.int .i64 c.txg, .slice A0 c.sets.length k0, .slice A1 c.ddt.length k1, .slice A2 c.parts.length k2, .bool c.dirty, .slice A3 c.safe.length k3, .int .i64 c.logn] 34) = W0 := ⟨_, rfl⟩
  rw [HWE] at XC B ⊢
  clear HWE
  by_cases hok : CoreOkM c
  case neg =>
    have HZ := Lib.hid (show reachC c root = [] from if_neg hok)
    have hor := decide_eq_false hok
    clear hok
    go_wp2_with (refine wpList_load_box rfl _ rfl aggCore rfl (kcore c (.slice A0 c.sets.length k0) (.slice A1 c.ddt.length k1) (.slice A2 c.parts.length k2) (.slice A3 c.safe.length k3)) rfl XC.out ?_)
    refine (specCoreOk_is _ _ _ _ c _ _ (HRD.out.below B.out) HS.out hor).mono ?_
    rintro e w2 ⟨rfl, hb⟩
    have XC' := Lib.hid (XC.out.below hb XC.out.lt)
    have B' := Lib.hid (B.out.trans (hb.mono B.out.size))
    clear hb XC B
    have XC := XC'
    have B := B'
    clear XC' B'
    go_wp2
    go_ret
    have hn := Below.new (w := w2) (.cells #[] 3)
    exact ⟨_, rfl, by rw [HZ.out]; exact own_base (World.ownsRow_made w2 #[] 0 (Nat.le_refl _) (by unfold maxLen; omega) rfl) B.out.size, B.out.trans (hn.mono B.out.size)⟩
  case pos =>
    have HZ := Lib.hid (show reachC c root = reachM c root from if_pos hok)
    have HOK := Lib.hid hok
    have hor := decide_eq_true hok
    clear hok
    go_wp2_with (refine wpList_load_box rfl _ rfl aggCore rfl (kcore c (.slice A0 c.sets.length k0) (.slice A1 c.ddt.length k1) (.slice A2 c.parts.length k2) (.slice A3 c.safe.length k3)) rfl XC.out ?_)
    refine (specCoreOk_is _ _ _ _ c _ _ (HRD.out.below B.out) HS.out hor).mono ?_
    rintro e w2 ⟨rfl, hb⟩
    have XC' := Lib.hid (XC.out.below hb XC.out.lt)
    have B' := Lib.hid (B.out.trans (hb.mono B.out.size))
    clear hb XC B
    have XC := XC'
    have B := B'
    clear XC' B'
    go_wp2_with (refine wpList_load_box rfl _ rfl aggCore rfl (kcore c (.slice A0 c.sets.length k0) (.slice A1 c.ddt.length k1) (.slice A2 c.parts.length k2) (.slice A3 c.safe.length k3)) rfl XC.out ?_)
    refine (l7Reach_any _ _ _ _ c root _ (HRD.out.below B.out) HS.out HOK.out).mono ?_
    rintro e w3 ⟨v, rfl, hown, hb⟩
    have HO := Lib.hid (own_base hown B.out.size)
    have B3 := Lib.hid (B.out.trans (hb.mono B.out.size))
    clear hown hb
    go_wp2
    go_ret
    exact ⟨_, rfl, by rw [HZ.out]; exact HO.out, B3.out⟩
end Go.Proofs.YtglgdbnhnchabaaGreatDoor

/-
  slices.Collect over the sectors' iterator.
-/
set_option maxRecDepth 100000
namespace Go.Proofs.YtglgdbnhnchabaaGreatDoor
open Go.ChangeShapes Go.WideShapes Go.ChangeAt Go.RowKit Go.Proofs.Palim Go.Shelf

attribute [local go_sem] Oper.semAt_some

theorem keepB_ofS {N : Nat} {W W' : World} (h : Below N W W') : KeepB N (fun _ => False) W W' := ⟨h.size, fun b hb _ => h.block b hb⟩
theorem upto2_le (x0 x1 : Nat) : (upto2 x0 x1 2).length ≤ 128 := by
  have h0 := bitsL_le x0
  have h1 := bitsL_le x1
  show (bitsL x0 ++ (bitsL x1).map (64 + ·)).length ≤ 128
  rw [List.length_append, List.length_map]
  omega

set_option maxHeartbeats 4000000 in
theorem appendSeq_in (m : Nat) (hm : 3 ≤ m) (G2 f0 f1 : Nat) (w : World) (hf0 : f0 < 2 ^ 64) (hf1 : f1 < 2 ^ 64) (hB2 : Box w G2 [.int .u64 (f0 : Int), .int .u64 (f1 : Int)]) (hT : HasBru w) :
    CallsIn Fence.wide m Tryz.prog 67 #[.slice none 0 0, .func (.func 55) #[] #[.pointer (some ⟨G2, 0, none⟩)]] w fun e w' => ∃ v, e = .returned v ∧ w'.ownsRow w.heap.size 3 1 v (upto2 f0 f1 2).length (ics (natsI (upto2 f0 f1 2))) ∧ Below w.heap.size w w' := by
  obtain ⟨i0, hi, hz0, hz1, hz2⟩ := info_parts infoInt
  have HT := Lib.hid hT
  have hn := Below.new (w := w) (.cells #[.slice none 0 0] 25)
  have XF3 := Lib.hid (Go.Boxed.new w 25 (.slice none 0 0))
  have XB := Lib.hid (hB2.below hn hB2.lt)
  have B3 := Lib.hid hn
  have HLN := Lib.hid (upto2_le f0 f1)
  clear hn hT hB2
  refine callsIn_of_wp_marks Tryz.func67 rfl trivial ?_ rfl
  simp only [Tryz.ntmps67, List.size_toArray, List.length_cons, List.length_nil, Nat.reduceAdd, Nat.reduceSub, Array.replicate_succ, Array.replicate_zero, List.push_toArray, List.append_toArray, List.nil_append, List.cons_append]
  gi_wp2_with fail
  obtain ⟨W0, hW0⟩ : ∃ W0, w.alloc (.cells #[.slice none 0 0] 25) = W0 := ⟨_, rfl⟩
  rw [hW0] at XB XF3 B3 ⊢
  clear hW0
  have hle0 := B3.out.size
  refine wpIn_rangeFunc_ownF rfl (by omega) (gf := 55) (lb := #[.pointer (some ⟨G2, 0, none⟩)]) rfl trivial (enters_of Tryz.func55 (by kernel_rfl) rfl)
    (all_stops _ (by omega) G2 w.heap.size (fun _ => False) f0 f1 hf0 hf1 W0 XB.out (HT.out.below B3.out HT.out.lt) HT.out.lt (fun h => h)) KeepB.trans (keepB_b hle0) (Below.refl _ _) (fun _ => rfl)
    (fun pre W => (∃ v, Go.Boxed W w.heap.size 25 v ∧ W.ownsRow w.heap.size 3 1 v pre.length (ics (natsI pre)) ∧ True) ∧ Below w.heap.size w W)
    (fun _ _ _ => False)
    (OwnFrom.and (Own.from (holdsRow_own w.heap.size w.heap.size 25 3 1 (fun pre : List Nat => pre.length) (fun pre => ics (natsI pre)) (fun _ _ => True)) _) (ownFrom_below (Nat.le_refl _) hle0))
    (fun _ _ _ _ _ hs _ _ => hs)
    ⟨⟨_, XF3.out, ⟨rfl, .inl ⟨rfl, rfl⟩⟩, trivial⟩, B3.out⟩
    (fun x => { tmps := #[.slice none 0 0, .func (.func 55) #[] #[.pointer (some ⟨G2, 0, none⟩)], .pointer (some ⟨w.heap.size, 0, none⟩), undef, .slice none 0 0, .int .i64 (x : Int), .func (.func 55) #[] #[.pointer (some ⟨G2, 0, none⟩)], .int .i64 (x : Int), undef, undef, undef, undef, undef], defers := [] })
    ?assign ?body ?done ?stop
  case assign =>
    intro l x W K hK
    simp only [encN]
    gi_wp2
    exact hK
  case body =>
    rintro l pre x W ⟨⟨v, hv, hrow, -⟩, hB⟩ hlt
    have hn128 := HLN.out
    have hc := hv.cell
    have hbs := hB.size
    gi_wp2_with (first
      | (gi_at_builtin; refine wpListIn_append_own _ rfl _ _ 25 rfl w.heap.size 3 i0 (.int .i64 0) 1 8 Tryz.underlying25 hi hz0 hz1 hz2 rfl (by decide) _ _ _ rfl (hrow.alloc _) ⟨W.heap.size, 0, none⟩ 1 1 [.int .i64 (x : Int)] rfl rfl (cell_one_new _ _ _) (by simp [Value.oneCell']) (by unfold maxLen; omega) (by omega) (by simp; omega) ?_; intro v' w4 hown' hgrow _; obtain ⟨g', cap', rfl⟩ := ownsRow_succ hown'; obtain ⟨hv1, hv2, hr2, hk2, hb2⟩ := Go.Boxed.appended hv (by decide) hrow hB.size (Nat.le_refl _) hown' hgrow; have hc1 := Go.Boxed.cell hv1; have hfz1 := Go.Boxed.frozen hv1)
      | gi_in)
    refine ⟨hk2, keepB_ofS hb2, ⟨⟨_, hv2, ?_, trivial⟩, hB.trans hb2⟩⟩
    rw [natsI_snoc, ics_snoc, List.length_append]
    exact hr2
  case done =>
    rintro D ys W hD rfl ⟨⟨v, hv, hrow, -⟩, hB⟩ hKD
    have hc := hv.cell
    gi_wp2
    refine leaves_two hKD (v := v) (by simp [results, Tryz.results67, go_sem]) ?_
    exact ⟨_, rfl, ownsRow_putObj hrow _ hKD rfl, hB.trans (belowK_b (w := w) (Nat.le_refl _) W D _ _ (by omega) hKD rfl rfl)⟩
  case stop =>
    rintro D c pre W _ _ h _
    exact h.elim

set_option maxHeartbeats 1000000 in
theorem collect_any (G2 f0 f1 : Nat) (w : World) (hf0 : f0 < 2 ^ 64) (hf1 : f1 < 2 ^ 64) (hB2 : Box w G2 [.int .u64 (f0 : Int), .int .u64 (f1 : Int)]) (hT : HasBru w) :
    Calls Tryz.prog 38 #[.func (.func 55) #[] #[.pointer (some ⟨G2, 0, none⟩)]] w fun e w' => ∃ v, e = .returned v ∧ w'.ownsRow w.heap.size 3 1 v (upto2 f0 f1 2).length (ics (natsI (upto2 f0 f1 2))) ∧ Below w.heap.size w w' := by
  have HA := Lib.hid (appendSeq_in 9 (by omega) G2 f0 f1 w hf0 hf1 hB2 hT)
  clear hB2 hT hf0 hf1
  go_enter Tryz.func38, Tryz.ntmps38
  go_wp2_with fail
  refine (callsIn_wide.1 HA.out).mono ?_
  rintro e w2 ⟨v, rfl, hown, hb⟩
  have HO := Lib.hid hown
  have B := Lib.hid hb
  clear hown hb
  go_wp2
  go_ret
  exact ⟨_, rfl, HO.out, B.out⟩
theorem all_any (x0 x1 : Nat) (w : World) :
    Calls Tryz.prog 27 #[.agg #[.int .u64 (x0 : Int), .int .u64 (x1 : Int)]] w fun e w' => e = .returned (.func (.func 55) #[] #[.pointer (some ⟨w.heap.size, 0, none⟩)]) ∧ w' = w.alloc (.cells #[.int .u64 (x0 : Int), .int .u64 (x1 : Int)] 53) := callsIn_wide.1 (all_in 9 x0 x1 w)
end Go.Proofs.YtglgdbnhnchabaaGreatDoor

/-
  impl's RoomReach.
-/
set_option maxRecDepth 100000
namespace Go.Proofs.YtglgdbnhnchabaaGreatDoor
open Go.ChangeShapes Go.WideShapes Go.ChangeAt Go.RowKit Go.Proofs.Palim

set_option maxHeartbeats 8000000 in
theorem implReach_any (vs vd vp vi : Value) (c : CoreM) (root : Int) (w : World) (h : CoreR w vs vd vp vi c) (hs : CoreShort c) (hT : HasBru w) :
    Calls Tryz.prog 15 #[cv c vs vd vp vi, .int .i64 root] w fun e w' => ∃ v, e = .returned v ∧ w'.ownsRow w.heap.size 3 1 v (reachC c root).length (ics (reachC c root)) ∧ Below w.heap.size w w' := by
  have hnot : ∀ (x : Bool) (w : World), (Op.unary .not (.bool x)).run Tryz.prog w = .ok (.bool (!x)) w := fun _ _ => rfl
  obtain ⟨i0, hi, hz0, hz1, hz2⟩ := info_parts infoInt
  have HS := Lib.hid hs
  have HT := Lib.hid hT
  have hsl := hs.s
  have hpl := hs.p
  obtain ⟨A0, k0, A1, k1, A2, k2, A3, k3, rfl, rfl, rfl, rfl⟩ := h.forms
  have HRD := Lib.hid h
  have hb0 := Below.new1 (w := w) (.cells #[.int .i64 c.txg, .slice A0 c.sets.length k0, .slice A1 c.ddt.length k1, .slice A2 c.parts.length k2, .bool c.dirty, .slice A3 c.safe.length k3, .int .i64 c.logn] 34)
  have B := Lib.hid hb0
  have XC := Lib.hid ((kbox_new h 34).box)
  clear h hs hb0 hT
  go_enter Tryz.func15, Tryz.ntmps15
  go_upto_region 1 with fail
  obtain ⟨W0, HWE⟩ : ∃ W0, w.alloc (.cells #[.int .i64 c.txg, .slice A0 c.sets.length k0, .slice A1 c.ddt.length k1, .slice A2 c.parts.length k2, .bool c.dirty, .slice A3 c.safe.length k3, .int .i64 c.logn] 34) = W0 := ⟨_, rfl⟩
  rw [HWE] at XC B ⊢
  clear HWE
  by_cases hok : CoreOkM c
  case neg =>
    have HZ := Lib.hid (show reachC c root = [] from if_neg hok)
    have hor := decide_eq_false hok
    clear hok
    go_wp2_with (refine wpList_load_box rfl _ rfl aggCore rfl (kcore c (.slice A0 c.sets.length k0) (.slice A1 c.ddt.length k1) (.slice A2 c.parts.length k2) (.slice A3 c.safe.length k3)) rfl XC.out ?_)
    refine (implCoreOk_is _ _ _ _ c _ _ (HRD.out.below B.out) HS.out hor).mono ?_
    rintro e w2 ⟨rfl, hb⟩
    have XC' := Lib.hid (XC.out.below hb XC.out.lt)
    have B' := Lib.hid (B.out.trans (hb.mono B.out.size))
    clear hb XC B
    have XC := XC'
    have B := B'
    clear XC' B'
    go_wp2
    go_ret
    exact ⟨_, rfl, by rw [HZ.out]; exact ⟨rfl, Or.inl ⟨rfl, rfl⟩⟩, B.out⟩
  case pos =>
    have HRC := Lib.hid (show reachC c root = reachM c root from if_pos hok)
    have HOK := Lib.hid hok
    have hor := decide_eq_true hok
    have hd48 := hok.2.1.1
    clear hok
    go_wp2_with (refine wpList_load_box rfl _ rfl aggCore rfl (kcore c (.slice A0 c.sets.length k0) (.slice A1 c.ddt.length k1) (.slice A2 c.parts.length k2) (.slice A3 c.safe.length k3)) rfl XC.out ?_)
    refine (implCoreOk_is _ _ _ _ c _ _ (HRD.out.below B.out) HS.out hor).mono ?_
    rintro e w2 ⟨rfl, hb⟩
    have XC' := Lib.hid (XC.out.below hb XC.out.lt)
    have B' := Lib.hid (B.out.trans (hb.mono B.out.size))
    clear hb XC B
    have XC := XC'
    have B := B'
    clear XC' B'
    have n2 := XC.out.cell 2 rfl
    go_wp2_with fail
    refine (rstored_any _ c.ddt _ (HRD.out.below B.out).d (HRD.out.below B.out).ld (by omega)).mono ?_
    rintro e w3 ⟨x0, x1, rfl, hbits, hb⟩
    have XC' := Lib.hid (XC.out.below hb XC.out.lt)
    have B' := Lib.hid (B.out.trans (hb.mono B.out.size))
    clear hb XC B
    have XC := XC'
    have B := B'
    clear XC' B'
    have hn4 := Below.new (w := w3) (.cells #[.int .u64 (x0 : Int), .int .u64 (x1 : Int)] 53)
    have XT := Lib.hid (show Box _ w3.heap.size [.int .u64 (x0 : Int), .int .u64 (x1 : Int)] from box_new w3 #[.int .u64 (x0 : Int), .int .u64 (x1 : Int)] 53)
    have HP := Lib.hid (show BitsR x0 x1 (((c.sets.take 0).map (·.home.at_)).foldl addB (storedB c.ddt)) from hbits)
    have hK5 : w.heap.size < w3.heap.size := XC.out.lt
    have XC' := Lib.hid (XC.out.below hn4 XC.out.lt)
    have B' := Lib.hid (B.out.trans (hn4.mono B.out.size))
    clear hn4 hbits XC B n2
    have XC := XC'
    have B := B'
    clear XC' B'
    have n1 := XC.out.cell 1 rfl
    go_wp2
    obtain ⟨K5, HK5⟩ : ∃ K5, w3.heap.size = K5 := ⟨_, rfl⟩
    obtain ⟨W4, hW4⟩ : ∃ W4, w3.alloc (.cells #[.int .u64 (x0 : Int), .int .u64 (x1 : Int)] 53) = W4 := ⟨_, rfl⟩
    rw [hW4] at XT XC B n1 ⊢
    rw [HK5] at XT hK5 ⊢
    clear hW4 HK5 n1
    go_loopw [7, 20] (fun _ i wr => ∃ (k x0 x1 : Nat), k ≤ c.sets.length ∧ i = .int .i64 (k : Int) ∧ Hid (BitsR x0 x1 (((c.sets.take k).map (·.home.at_)).foldl addB (storedB c.ddt))) ∧ Hid (Box wr K5 [.int .u64 (x0 : Int), .int .u64 (x1 : Int)]) ∧ Hid (Box wr w.heap.size (kcore c (.slice A0 c.sets.length k0) (.slice A1 c.ddt.length k1) (.slice A2 c.parts.length k2) (.slice A3 c.safe.length k3))) ∧ Hid (Below w.heap.size w wr)) (fun _ i _ => c.sets.length - (RowKit.intOf i).toNat)
    case atStart => exact ⟨0, x0, x1, Nat.zero_le _, rfl, HP, XT, XC, B⟩
    case round =>
      clear HP XT XC B
      obtain ⟨k, x0, x1, hk, rfl, HP, XT, XC, B⟩ := hrel
      by_cases hlt : k < c.sets.length
      case pos =>
        obtain ⟨b, off, c', hvv, _, _, hcell⟩ := (HRD.out.below B.out).s.form (by omega)
        injection hvv with e1 e2 e3
        subst e1 e3
        clear e2
        have hk1 : (k : Int) < (c.sets.length : Int) := by omega
        have HRS := Lib.hid (cset_read hcell k hlt)
        have HST := Lib.hid (show ∀ P : Nat → Bool, addB (((c.sets.take k).map (·.home.at_)).foldl addB P) c.sets[k].home.at_ = ((c.sets.take (k + 1)).map (·.home.at_)).foldl addB P from fun P => by rw [List.take_succ_eq_append_getElem hlt, List.map_append, List.foldl_append]; rfl)
        generalize c.sets[k] = x at HRS HST
        clear hcell
        have hn1 := Below.new1 (w := wr) (.cells #[.string ⟨#[]⟩, .int .i64 0, .string ⟨#[]⟩, .int .i64 0, .int .i64 0, .int .i64 0, .int .i64 0, .int .i64 0, .int .i64 0, .int .i64 0, .int .i64 0, .int .i64 0, .int .i64 0, .int .i64 0, .int .i64 0, .int .i64 0, .int .i64 0, .int .i64 0, .int .i64 0, .int .i64 0, .int .i64 0, .int .i64 0, .int .i64 0, .int .i64 0, .int .i64 0, .int .i64 0, .int .i64 0, .int .i64 0, .int .i64 0, .int .i64 0, .bool false] 69)
        have HBX := Lib.hid ((show Box _ wr.heap.size [.string ⟨#[]⟩, .int .i64 0, .string ⟨#[]⟩, .int .i64 0, .int .i64 0, .int .i64 0, .int .i64 0, .int .i64 0, .int .i64 0, .int .i64 0, .int .i64 0, .int .i64 0, .int .i64 0, .int .i64 0, .int .i64 0, .int .i64 0, .int .i64 0, .int .i64 0, .int .i64 0, .int .i64 0, .int .i64 0, .int .i64 0, .int .i64 0, .int .i64 0, .int .i64 0, .int .i64 0, .int .i64 0, .int .i64 0, .int .i64 0, .int .i64 0, .bool false] from box_new wr #[.string ⟨#[]⟩, .int .i64 0, .string ⟨#[]⟩, .int .i64 0, .int .i64 0, .int .i64 0, .int .i64 0, .int .i64 0, .int .i64 0, .int .i64 0, .int .i64 0, .int .i64 0, .int .i64 0, .int .i64 0, .int .i64 0, .int .i64 0, .int .i64 0, .int .i64 0, .int .i64 0, .int .i64 0, .int .i64 0, .int .i64 0, .int .i64 0, .int .i64 0, .int .i64 0, .int .i64 0, .int .i64 0, .int .i64 0, .int .i64 0, .int .i64 0, .bool false] 69).putAll (cc x) (by rw [cc_length]; rfl))
        have hpb : Below wr.heap.size wr (putC (wr.alloc (.cells #[.string ⟨#[]⟩, .int .i64 0, .string ⟨#[]⟩, .int .i64 0, .int .i64 0, .int .i64 0, .int .i64 0, .int .i64 0, .int .i64 0, .int .i64 0, .int .i64 0, .int .i64 0, .int .i64 0, .int .i64 0, .int .i64 0, .int .i64 0, .int .i64 0, .int .i64 0, .int .i64 0, .int .i64 0, .int .i64 0, .int .i64 0, .int .i64 0, .int .i64 0, .int .i64 0, .int .i64 0, .int .i64 0, .int .i64 0, .int .i64 0, .int .i64 0, .bool false] 69)) wr.heap.size 0 (cc x)) := putC_below hn1 _ _ (Nat.le_refl _) _
        have HNX := Lib.hid (show Box _ wr.heap.size [.string ⟨#[]⟩, .int .i64 0, .string ⟨#[]⟩, .int .i64 0, .int .i64 0, .int .i64 0, .int .i64 0, .int .i64 0, .int .i64 0, .int .i64 0, .int .i64 0, .int .i64 0, .int .i64 0, .int .i64 0, .int .i64 0, .int .i64 0, .int .i64 0, .int .i64 0, .int .i64 0, .int .i64 0, .int .i64 0, .int .i64 0, .int .i64 0, .int .i64 0, .int .i64 0, .int .i64 0, .int .i64 0, .int .i64 0, .int .i64 0, .int .i64 0, .bool false] from box_new wr #[.string ⟨#[]⟩, .int .i64 0, .string ⟨#[]⟩, .int .i64 0, .int .i64 0, .int .i64 0, .int .i64 0, .int .i64 0, .int .i64 0, .int .i64 0, .int .i64 0, .int .i64 0, .int .i64 0, .int .i64 0, .int .i64 0, .int .i64 0, .int .i64 0, .int .i64 0, .int .i64 0, .int .i64 0, .int .i64 0, .int .i64 0, .int .i64 0, .int .i64 0, .int .i64 0, .int .i64 0, .int .i64 0, .int .i64 0, .int .i64 0, .int .i64 0, .bool false] 69)
        have XC' := Lib.hid (XC.out.below hpb XC.out.lt)
        have XT' := Lib.hid (XT.out.below hpb XT.out.lt)
        have B' := Lib.hid (B.out.trans (hpb.mono B.out.size))
        clear hn1 hpb XC B XT
        have XC := XC'
        have B := B'
        have XT := XT'
        clear XC' B' XT'
        have n27 := (ccBox HBX.out).2.2.2.1
        go_wp2_with (first | (refine wpList_load_cs rfl _ rfl aggSetD rfl (cc x) (cc_length x) HRS.out ?_) | (refine wpList_store_box rfl _ _ rfl rfl aggSetD rfl (cc x) rfl (cc_length x) (cc_one x) [.string ⟨#[]⟩, .int .i64 0, .string ⟨#[]⟩, .int .i64 0, .int .i64 0, .int .i64 0, .int .i64 0, .int .i64 0, .int .i64 0, .int .i64 0, .int .i64 0, .int .i64 0, .int .i64 0, .int .i64 0, .int .i64 0, .int .i64 0, .int .i64 0, .int .i64 0, .int .i64 0, .int .i64 0, .int .i64 0, .int .i64 0, .int .i64 0, .int .i64 0, .int .i64 0, .int .i64 0, .int .i64 0, .int .i64 0, .int .i64 0, .int .i64 0, .bool false] HNX.out rfl ?_; clear HNX; generalize putC (wr.alloc (.cells #[.string ⟨#[]⟩, .int .i64 0, .string ⟨#[]⟩, .int .i64 0, .int .i64 0, .int .i64 0, .int .i64 0, .int .i64 0, .int .i64 0, .int .i64 0, .int .i64 0, .int .i64 0, .int .i64 0, .int .i64 0, .int .i64 0, .int .i64 0, .int .i64 0, .int .i64 0, .int .i64 0, .int .i64 0, .int .i64 0, .int .i64 0, .int .i64 0, .int .i64 0, .int .i64 0, .int .i64 0, .int .i64 0, .int .i64 0, .int .i64 0, .int .i64 0, .bool false] 69)) wr.heap.size 0 (cc x) = W1 at HBX n27 B XC XT ⊢))
        refine (badd_any K5 x0 x1 _ x.home.at_ _ XT.out HP.out).mono ?_
        rintro e w2 ⟨rfl, hpost⟩
        clear HBX n27 HRS
        obtain ⟨u0, u1, hbr, hbx, ht⟩ := hpost
        have HP' := Lib.hid hbr
        have XT' := Lib.hid hbx
        have XC' := Lib.hid (XC.out.kept (ht.block _ XC.out.lt (fun e => by omega)))
        have B' := Lib.hid (B.out.trans (below_of_turned ht (fun b e => by omega) B.out.size))
        clear hbr hbx ht XC B XT HP
        go_wp2
        go_roundw
        case rel => exact ⟨k + 1, u0, u1, by omega, by go_num, Lib.hid (by rw [← HST.out]; exact HP'.out), XT', XC', B'⟩
        case measure => simp [RowKit.intOf]; omega
      case neg =>
        have HK := Lib.hid (show k = c.sets.length from by omega)
        have hkn : ¬ (k : Int) < (c.sets.length : Int) := by omega
        have HP2 := Lib.hid (show BitsR x0 x1 (((c.parts.take 0).map (·.at_)).foldl addB ((c.sets.map (·.home.at_)).foldl addB (storedB c.ddt))) from by have h1 := HP.out; rw [HK.out, List.take_length] at h1; exact h1)
        clear HP HK
        have HP := HP2
        clear HP2
        have n3 := XC.out.cell 3 rfl
        go_wp2
        clear n3 hkn hlt
        go_loopw [9, 32] (fun _ i wr => ∃ (k x0 x1 : Nat), k ≤ c.parts.length ∧ i = .int .i64 (k : Int) ∧ Hid (BitsR x0 x1 (((c.parts.take k).map (·.at_)).foldl addB ((c.sets.map (·.home.at_)).foldl addB (storedB c.ddt)))) ∧ Hid (Box wr K5 [.int .u64 (x0 : Int), .int .u64 (x1 : Int)]) ∧ Hid (Box wr w.heap.size (kcore c (.slice A0 c.sets.length k0) (.slice A1 c.ddt.length k1) (.slice A2 c.parts.length k2) (.slice A3 c.safe.length k3))) ∧ Hid (Below w.heap.size w wr)) (fun _ i _ => c.parts.length - (RowKit.intOf i).toNat)
        case atStart => exact ⟨0, x0, x1, Nat.zero_le _, rfl, HP, XT, XC, B⟩
        case round =>
          clear HP XT XC B
          obtain ⟨k, x0, x1, hk, rfl, HP, XT, XC, B⟩ := hrel
          by_cases hlt : k < c.parts.length
          case pos =>
            obtain ⟨b, off, c', hvv, _, _, hcell⟩ := (HRD.out.below B.out).p.form (by omega)
            injection hvv with e1 e2 e3
            subst e1 e3
            clear e2
            have hk1 : (k : Int) < (c.parts.length : Int) := by omega
            obtain ⟨g0, g1, g2⟩ := ptr_read hcell k hlt
            have HST := Lib.hid (show ∀ P : Nat → Bool, addB (((c.parts.take k).map (·.at_)).foldl addB P) c.parts[k].at_ = ((c.parts.take (k + 1)).map (·.at_)).foldl addB P from fun P => by rw [List.take_succ_eq_append_getElem hlt, List.map_append, List.foldl_append]; rfl)
            generalize c.parts[k] = y at g0 g1 g2 HST
            clear hcell
            have hnp := Below.new (w := wr) (.cells #[.int .i64 y.at_, .int .i64 y.sum, .int .i64 y.birth] 66)
            have xb0 := (show Box _ wr.heap.size [.int .i64 y.at_, .int .i64 y.sum, .int .i64 y.birth] from box_new wr #[.int .i64 y.at_, .int .i64 y.sum, .int .i64 y.birth] 66).cell 0 rfl
            have XC' := Lib.hid (XC.out.below hnp XC.out.lt)
            have XT' := Lib.hid (XT.out.below hnp XT.out.lt)
            have B' := Lib.hid (B.out.trans (hnp.mono B.out.size))
            clear hnp XC B XT
            have XC := XC'
            have B := B'
            have XT := XT'
            clear XC' B' XT'
            go_wp2_with fail
            refine (badd_any K5 x0 x1 _ y.at_ _ XT.out HP.out).mono ?_
            rintro e w2 ⟨rfl, hpost⟩
            clear g0 g1 g2 xb0
            obtain ⟨u0, u1, hbr, hbx, ht⟩ := hpost
            have HP' := Lib.hid hbr
            have XT' := Lib.hid hbx
            have XC' := Lib.hid (XC.out.kept (ht.block _ XC.out.lt (fun e => by omega)))
            have B' := Lib.hid (B.out.trans (below_of_turned ht (fun b e => by omega) B.out.size))
            clear hbr hbx ht XC B XT HP
            go_wp2
            go_roundw
            case rel => exact ⟨k + 1, u0, u1, by omega, by go_num, Lib.hid (by rw [← HST.out]; exact HP'.out), XT', XC', B'⟩
            case measure => simp [RowKit.intOf]; omega
          case neg =>
            have HK := Lib.hid (show k = c.parts.length from by omega)
            have hkn : ¬ (k : Int) < (c.parts.length : Int) := by omega
            have HP2 := Lib.hid (show BitsR x0 x1 ((c.parts.map (·.at_)).foldl addB ((c.sets.map (·.home.at_)).foldl addB (storedB c.ddt))) from by have h1 := HP.out; rw [HK.out, List.take_length] at h1; exact h1)
            clear HP HK
            have HP := HP2
            clear HP2
            go_wp2_with fail
            refine (badd_any K5 x0 x1 _ root _ XT.out HP.out).mono ?_
            rintro e w2 ⟨rfl, hpost⟩
            obtain ⟨u0, u1, hbr, hbx, ht⟩ := hpost
            have HP' := Lib.hid hbr
            have XT' := Lib.hid hbx
            have XC' := Lib.hid (XC.out.kept (ht.block _ XC.out.lt (fun e => by omega)))
            have B' := Lib.hid (B.out.trans (below_of_turned ht (fun b e => by omega) B.out.size))
            clear hbr hbx ht XC B XT HP
            have HL := Lib.hid (show natsI (upto2 u0 u1 2) ++ (if 120 ≤ root then [root] else []) = reachM c root from by
              have e : upto2 u0 u1 2 = listB (reachB c root) 128 := by
                unfold reachB
                rw [← bits_list HP'.out]
                rfl
              rw [← reach_list HOK.out, e])
            have hl0 := HP'.out.l0
            have hl1 := HP'.out.l1
            have c0 := XT'.out.cell 0 rfl
            have c1 := XT'.out.cell 1 rfl
            clear hkn hlt
            go_wp2_with fail
            refine (all_any u0 u1 _).mono ?_
            rintro e w3 ⟨rfl, rfl⟩
            have hn3 := Below.new (w := w2) (.cells #[.int .u64 (u0 : Int), .int .u64 (u1 : Int)] 53)
            have XB := Lib.hid (show Box _ w2.heap.size [.int .u64 (u0 : Int), .int .u64 (u1 : Int)] from box_new w2 #[.int .u64 (u0 : Int), .int .u64 (u1 : Int)] 53)
            have B3 := Lib.hid (B'.out.trans (hn3.mono B'.out.size))
            clear hn3 B' XC' XT' c0 c1
            obtain ⟨G2, HG2⟩ : ∃ G2, w2.heap.size = G2 := ⟨_, rfl⟩
            obtain ⟨W3, hW3⟩ : ∃ W3, w2.alloc (.cells #[.int .u64 (u0 : Int), .int .u64 (u1 : Int)] 53) = W3 := ⟨_, rfl⟩
            rw [hW3] at XB B3 ⊢
            rw [HG2] at XB ⊢
            clear hW3 HG2
            go_wp2_with fail
            refine (collect_any G2 u0 u1 _ hl0 hl1 XB.out (HT.out.below B3.out HT.out.lt)).mono ?_
            rintro e w4 ⟨lv, rfl, hown, hb⟩
            have HO := Lib.hid (own_base hown B3.out.size)
            have B4 := Lib.hid (B3.out.trans (hb.mono B3.out.size))
            have hln := upto2_le u0 u1
            obtain ⟨_, LA, lc, rfl, -, -, -⟩ := sl_of_own hown
            clear hown hb B3 XB
            by_cases hr : 120 ≤ root
            case neg =>
              have hr2 : ¬ root ≥ 120 := by omega
              have HF := Lib.hid (show natsI (upto2 u0 u1 2) = reachC c root from by rw [HRC.out, ← HL.out, if_neg hr]; simp)
              go_wp2
              go_ret
              exact ⟨_, rfl, by rw [← HF.out, natsI_length]; exact HO.out, B4.out⟩
            case pos =>
              have hr2 : root ≥ 120 := by omega
              have HF := Lib.hid (show natsI (upto2 u0 u1 2) ++ [root] = reachC c root from by rw [HRC.out, ← HL.out, if_pos hr])
              have hn5 := Below.new (w := w4) (.cells #[.int .i64 root] 3)
              have HO5 := Lib.hid (own_kept HO.out (fun b e => hn5.block b (HO.out.lt b e).2))
              have HS5 := Lib.hid (sl_intR w4 root 3)
              have B5 := Lib.hid (B4.out.trans (hn5.mono B4.out.size))
              have hw4 : w.heap.size ≤ w4.heap.size := B4.out.size
              clear hn5 HO B4
              go_wp2_with (first | (at_builtin; refine wpList_append_freshB _ rfl _ _ 25 rfl w.heap.size 3 i0 _ 1 8 Tryz.underlying25 hi hz0 hz1 hz2 rfl (by omega) (.slice LA (upto2 u0 u1 2).length lc) (upto2 u0 u1 2).length _ rfl HO5.out (.slice (some ⟨w4.heap.size, 0, none⟩) 1 1) 1 [.int .i64 root] rfl HS5.out (by simp [Value.oneCell']) (by unfold maxLen; omega) (by omega) (by simp; omega) ?_))
              intro A6 cap6 w6 hown6 hg6 _
              have HO6 := Lib.hid (show w6.ownsRow w.heap.size 3 1 (.slice A6 ((upto2 u0 u1 2).length + 1) cap6) (reachC c root).length (ics (reachC c root)) from by
                rw [← HF.out, ics_snoc, List.length_append, natsI_length]
                exact hown6)
              have B6 := Lib.hid (B5.out.trans (below_grownB hg6 (fun b e => (HO5.out.lt b e).1) B5.out.size))
              clear hown6 hg6 HO5 HS5 B5
              go_wp2
              go_ret
              exact ⟨_, rfl, HO6.out, B6.out⟩

end Go.Proofs.YtglgdbnhnchabaaGreatDoor

/-
  The document's DdtAdd and DdtDrop.
-/
import Derived.Test.YthhgjjdnkhmggaaTabM
import Derived.Test.YthhgjjdnkhmggaaApp
import Derived.Test.YthhgjjdnkhmggaaDdtCnt
import Derived.BigQuiet
import Derived.OwnWalk
import Derived.Deep.RegionHeld3
import Derived.Deep.CutRange
set_option maxRecDepth 100000
namespace Go.Proofs.Ythhgjjdnkhmggaa
open Go.ChangeShapes Go.WideShapes Go.ChangeAt Go.RowKit Go.Proofs.Palim

theorem ec_oneS (x : EntM) : ∀ u ∈ ec x, u.oneCell' = true := by
  intro u hu
  simp [ec] at hu
  rcases hu with rfl | rfl | rfl <;> rfl
theorem ecs_oneS (ls : List EntM) : ∀ u ∈ ecs ls, u.oneCell' = true := by
  intro u hu
  obtain ⟨x, _, hx⟩ := List.mem_flatMap.1 hu
  exact ec_oneS x u hx
theorem sl_entS (w : World) (x : EntM) (e : Nat) : Sl (w.alloc (.cells #[.int .i64 x.sum, .int .i64 x.at_, .int .i64 x.count] e)) 3 (.slice (some ⟨w.heap.size, 0, none⟩) 1 1) 1 (ec x) := by
  refine ⟨rfl, _, _, rfl, Nat.le_refl _, by unfold maxLen; omega, Or.inr ⟨w.heap.size, 0, rfl, fun j u hu => ?_⟩⟩
  have := (box_new w #[.int .i64 x.sum, .int .i64 x.at_, .int .i64 x.count] e).cell j hu
  rwa [Nat.zero_add]
theorem ecs_append (a b : List EntM) : ecs (a ++ b) = ecs a ++ ecs b := by simp [ecs]
theorem ecs_drop (ls : List EntM) : ∀ k, (ecs ls).drop (k * 3) = ecs (ls.drop k) := by
  induction ls with
  | nil => intro k; simp [ecs]
  | cons x ls ih =>
    intro k
    cases k with
    | zero => simp
    | succ k =>
      have e : ecs (x :: ls) = ec x ++ ecs ls := by simp [ecs]
      rw [e, show (k + 1) * 3 = (ec x).length + k * 3 by simp [ec]; omega, List.drop_length_add_append, ih k]
      rfl
theorem ecs_take (ls : List EntM) : ∀ k, (ecs ls).take (k * 3) = ecs (ls.take k) := by
  induction ls with
  | nil => intro k; simp [ecs]
  | cons x ls ih =>
    intro k
    cases k with
    | zero => simp [ecs]
    | succ k =>
      have e : ecs (x :: ls) = ec x ++ ecs ls := by simp [ecs]
      rw [e, show (k + 1) * 3 = (ec x).length + k * 3 by simp [ec]; omega, List.take_length_add_append, ih k]
      simp [ecs]
theorem ecs_set (ls : List EntM) : ∀ (k : Nat) (hk : k < ls.length) (c : Int), (ecs ls).set (k * 3 + 2) (.int .i64 c) = ecs (ls.set k ⟨(ls[k]'hk).sum, (ls[k]'hk).at_, c⟩) := by
  induction ls with
  | nil => intro k hk; simp at hk
  | cons x ls ih =>
    intro k hk c
    have e : ecs (x :: ls) = ec x ++ ecs ls := by simp [ecs]
    cases k with
    | zero => simp [ecs, ec]
    | succ k =>
      rw [e, show (k + 1) * 3 + 2 = k * 3 + 2 + 3 by omega]
      have h3 : ∀ (l : List Value) (j : Nat) (v : Value), (ec x ++ l).set (j + 3) v = ec x ++ l.set j v := fun l j v => by simp [ec]
      rw [h3, ih k (by simpa using hk) c]
      simp [ecs]
theorem sl_drop3 {w w' : World} {g n c k : Nat} {xs : List Value} (h : Sl w 3 (.slice (some ⟨g, 0, none⟩) n c) n xs) (hk : k < n) (hb : w'.heap[g]? = w.heap[g]?) : Sl w' 3 (.slice (some ⟨g, k * 3, none⟩) (n - k) (c - k)) (n - k) (xs.drop (k * 3)) := by
  obtain ⟨h1, A, c', hv, h2, h3, h4⟩ := h
  injection hv with e1 e2 e3
  subst e1 e3
  refine ⟨by rw [List.length_drop, h1]; omega, _, _, rfl, by omega, by omega, Or.inr ⟨g, k * 3, rfl, fun j u hu => ?_⟩⟩
  obtain ⟨b, off, hA, hc⟩ := h4.resolve_left (by omega)
  injection hA with hA
  injection hA with ha hb2 hc2
  subst ha hb2
  rw [List.getElem?_drop] at hu
  have := hc _ _ hu
  rw [Nat.zero_add] at this
  exact (World.cell?_of_block hb).trans this
theorem sl_zero3 (w : World) (A : Option Addr) (c : Nat) (hc : c ≤ maxLen) : Sl w 3 (.slice A 0 c) 0 [] := ⟨rfl, A, c, rfl, Nat.zero_le _, hc, Or.inl rfl⟩
theorem own_bS {w w' : World} {base e sz n : Nat} {v : Value} {xs : List Value} (h : w.ownsRow base e sz v n xs) (hb : Below w.heap.size w w') : w'.ownsRow base e sz v n xs := own_kept h (fun b e => hb.block b (h.lt b e).2)

set_option maxHeartbeats 1000000 in
theorem l5Copy_any (v : Value) (ls : List EntM) (w : World) (h : Sl w 3 v ls.length (ecs ls)) (hv : Low w.heap.size v) (hl : ls.length ≤ 1000) :
    Calls Try.prog 48 #[v] w (NewEnts w ls) := by
  obtain ⟨i0, hi, hz0, hz1, hz2⟩ := info_parts infoEnt
  obtain ⟨n, HN⟩ : ∃ n, Hid (ls.length = n) := ⟨_, Lib.hid rfl⟩
  rw [HN.out] at hl
  have hb1 := Below.new1 (w := w) (.cells #[] 81)
  have HS := Lib.hid (show Sl (w.alloc (.cells #[] 81)) 3 v n (ecs ls) from by rw [← HN.out]; exact h.below hb1 hv)
  obtain ⟨_, A, c, rfl, -, -, -⟩ := h
  rw [HN.out] at HS hv ⊢
  clear hv hb1
  go_enter Try.func48, Try.ntmps48
  go_wp2_with (first | (at_builtin; refine wpList_append_freshB _ rfl _ _ 31 rfl w.heap.size 81 i0 _ 3 24 Try.underlying31 hi hz0 hz1 hz2 rfl (by omega) (.slice (some ⟨w.heap.size, 0, none⟩) 0 0) 0 [] rfl (World.ownsRow_made w #[] 0 (Nat.le_refl _) (by unfold maxLen; omega) rfl) (.slice A n c) n (ecs ls) rfl HS.out (ecs_oneS _) (by unfold maxLen; omega) (by omega) (by simp) ?_))
  intro A1 cap1 w1 hown1 hg1 _
  have HB1 := Lib.hid (show Below w.heap.size w w1 from ((Below.refl _ w).alloc (Nat.le_refl _) _).grown hg1 (by simp) (by intro k hk; simp [Value.ownBlock] at hk; omega))
  have HO := Lib.hid (show w1.ownsRow w.heap.size 81 3 (.slice A1 n cap1) n (ecs ls) from by simpa using hown1)
  clear hown1 hg1
  go_wp2
  go_ret
  refine ⟨_, rfl, ?_, HB1.out⟩
  rw [HN.out]
  exact HO.out

theorem addE_bad {T : List EntM} (hok : ∀ e ∈ T, EntOkM e) {s a : Int} (h : ¬ EntOkM ⟨s, a, 1⟩) : addE T s a = none := by
  cases hx : addE T s a with
  | none => rfl
  | some T' =>
    obtain ⟨h1, h2, _, _⟩ := addE_some hx
    exfalso
    obtain ⟨o1, o2, o3, o4, o5, o6⟩ := h2
    exact h ⟨o1, o2, o3, o4, by show (1 : Int) ≤ 1; omega, by show (1 : Int) ≤ 1000; omega⟩
theorem addE_sum {T : List EntM} {s a : Int} {e : EntM} (hf : findE T a = some e) (h : e.sum ≠ s ∨ e.count = 1000) : addE T s a = none := by
  cases hx : addE T s a with
  | none => rfl
  | some T' =>
    obtain ⟨h1, h2, _, _⟩ := addE_some hx
    rw [hf] at h1 h2
    simp only [Option.getD_some] at h1 h2
    rcases h with h | h
    · exact absurd h1 h
    · have := h2.2.2.2.2.2
      simp only at this
      omega
theorem addE_there {T : List EntM} (hA : AscE T) (hok : ∀ e ∈ T, EntOkM e) {s a : Int} {k : Nat} (hk : k < T.length) (ha : (T[k]'hk).at_ = a) (hs : (T[k]'hk).sum = s) (hc : (T[k]'hk).count ≠ 1000) :
    addE T s a = some (T.set k ⟨(T[k]'hk).sum, (T[k]'hk).at_, (T[k]'hk).count + 1⟩) := by
  have hm := List.getElem_mem hk
  have hf : findE T a = some T[k] := by rw [← ha]; exact findE_mem hA hm
  obtain ⟨o1, o2, o3, o4, o5, o6⟩ := hok _ hm
  rw [addE_intro (by rw [hf]; exact hs) (by rw [hf]; exact ⟨by show 0 ≤ s; omega, by show s < 65521; omega, by show 1 ≤ a; omega, by show a < 120; omega, by show 1 ≤ T[k].count + 1; omega, by show T[k].count + 1 ≤ 1000; omega⟩) (fun hh => by rw [hf] at hh; cases hh), hf]
  simp only [Option.getD_some]
  have h3 := putM_set hA (x := ⟨(T[k]'hk).sum, (T[k]'hk).at_, (T[k]'hk).count + 1⟩) hk rfl
  rw [← h3, hs, ha]
theorem addE_full {T : List EntM} {s a : Int} (hf : findE T a = none) (h : T.length = 48) : addE T s a = none := by
  cases hx : addE T s a with
  | none => rfl
  | some T' => exact absurd h ((addE_some hx).2.2.1 (by rw [hf]; rfl))
theorem addE_new {T : List EntM} {s a : Int} {k : Nat} (hat : AtP T a k) (hn : ¬ ThereP T a k) (hf : findE T a = none) (hok : EntOkM ⟨s, a, 1⟩) (h : T.length ≠ 48) : addE T s a = some (T.take k ++ ⟨s, a, 1⟩ :: T.drop k) := by
  rw [addE_intro (by rw [hf]; rfl) (by rw [hf]; exact hok) (fun _ => h), hf]
  simp only [Option.getD_none]
  rw [putM_ins hat.1 (fun i hi hik => hat.2.1 i hi hik) (fun hh => by
    have h1 := hat.2.2 hh
    have h2 : T[k].at_ ≠ a := fun c => hn ⟨hh, c⟩
    show a < T[k].at_
    omega)]
  rfl
/-- A list of entries of the call's own, and whether it was done. -/
def PairS (w : World) (T : List EntM) (R : Bool) (e : Ending) (w' : World) : Prop :=
  ∃ v, e = .returned (.tuple #[v, .bool R]) ∧ w'.ownsRow w.heap.size 81 3 v T.length (ecs T) ∧ Below w.heap.size w w'
theorem nil_entsS (w : World) (base : Nat) : w.ownsRow base 81 3 (.slice none 0 0) ([] : List EntM).length (ecs []) := ⟨rfl, Or.inl ⟨rfl, rfl⟩⟩

set_option maxHeartbeats 4000000 in
theorem SpecDdtAdd_is (v : Value) (ls : List EntM) (s a : Int) (T : List EntM) (R : Bool) (w : World) (h : Sl w 3 v ls.length (ecs ls)) (hv : Low w.heap.size v) (hs : (Lit.int .i64 s).wf = true) (ha : (Lit.int .i64 a).wf = true) (hT : (addR ls s a).1 = T) (hR : (addR ls s a).2 = R) :
    Calls Try.prog 14 #[v, .int .i64 s, .int .i64 a] w (PairS w T R) := by
  have hnot : ∀ (x : Bool) (w : World), (Op.unary .not (.bool x)).run Try.prog w = .ok (.bool (!x)) w := fun _ _ => rfl
  obtain ⟨i0, hi, hz0, hz1, hz2⟩ := info_parts infoEnt
  have HV := Lib.hid hv
  have HD := Lib.hid h
  have HT := Lib.hid hT
  have HR := Lib.hid hR
  obtain ⟨_, A, c, rfl, -, -, -⟩ := h
  clear hv hT hR
  go_enter Try.func14, Try.ntmps14
  go_wp2_with fail
  refine (SpecDdtOk_any _ ls _ HD.out HV.out).mono ?_
  rintro e w1 ⟨rfl, hb⟩
  have HD1 := Lib.hid (HD.out.below hb HV.out)
  have HV1 := Lib.hid (fun b e => Nat.lt_of_lt_of_le (HV.out b e) hb.size)
  have B1 := Lib.hid hb
  clear hb HD HV
  by_cases hok : DdtOkM ls
  case neg =>
    rw [decide_eq_false hok]
    have HZ := Lib.hid (show T = [] ∧ R = false from by rw [← HT.out, ← HR.out]; unfold addR; rw [if_neg hok]; exact ⟨rfl, rfl⟩)
    clear hok
    go_wp2
    refine bodyPost_ret (v := .tuple #[.slice none 0 0, .bool false]) (by simp [results, Try.results14, go_sem]) rfl ?_
    obtain ⟨rfl, rfl⟩ := HZ.out
    exact ⟨_, rfl, nil_entsS _ _, B1.out⟩
  case pos =>
  rw [decide_eq_true hok]
  have HA := Lib.hid (ascE_of_good hok.2)
  have HK := Lib.hid (show ∀ e ∈ ls, EntOkM e from fun e he => by
    obtain ⟨i, hi, rfl⟩ := List.mem_iff_getElem.1 he
    exact (hok.2 i hi hi).1)
  have HC := Lib.hid (show (addE ls s a).getD ls = T ∧ (addE ls s a).isSome = R from by
    rw [← HT.out, ← HR.out]; unfold addR; rw [if_pos hok]; cases addE ls s a <;> exact ⟨rfl, rfl⟩)
  have hl48 := hok.1
  have HG := Lib.hid hok.2
  clear hok
  go_wp2_with fail
  refine (l5Copy_any _ ls _ HD1.out HV1.out (by omega)).mono ?_
  rintro e w2 ⟨vo, rfl, how, hb⟩
  have B2 := Lib.hid (B1.out.trans (hb.mono B1.out.size))
  have HO2 := Lib.hid (own_base how B1.out.size)
  obtain ⟨_, A, c, rfl, hnc, hcm, -⟩ := sl_of_own how
  unfold maxLen at hcm
  clear how hb B1 HD1 HV1
  go_wp2_with fail
  refine (l5At_any _ ls a _ (sl_of_own HO2.out) (fun b e => (HO2.out.lt b e).2)).mono ?_
  rintro e w3 ⟨k, r, rfl, hat, hth, hb⟩
  have HAT := Lib.hid hat
  have HTH := Lib.hid hth
  have B3 := Lib.hid (B2.out.trans (hb.mono B2.out.size))
  have HO3 := Lib.hid (own_bS HO2.out hb)
  clear hat hth hb HO2 B2
  obtain ⟨n, HN⟩ : ∃ n, Hid (ls.length = n) := ⟨_, Lib.hid rfl⟩
  rw [HN.out] at HO3 hl48 hnc ⊢
  by_cases hent : EntOkM ⟨s, a, 1⟩
  case neg =>
    have hor := decide_eq_false hent
    have HZ := Lib.hid (show T = ls ∧ R = false from by
      have := HC.out
      rw [addE_bad HK.out hent] at this
      exact ⟨this.1.symm, this.2.symm⟩)
    clear hent
    go_wp2_with fail
    refine (specEnt_is ⟨s, a, 1⟩ _ _ hor).mono ?_
    rintro e w4 ⟨rfl, hb⟩
    have B4 := Lib.hid (B3.out.trans (hb.mono B3.out.size))
    have HO4 := Lib.hid (own_bS HO3.out hb)
    clear hb B3 HO3
    go_wp2
    refine bodyPost_ret (v := .tuple #[.slice A n c, .bool false]) (by simp [results, Try.results14, go_sem]) rfl ?_
    obtain ⟨rfl, rfl⟩ := HZ.out
    exact ⟨_, rfl, by rw [HN.out]; exact HO4.out, B4.out⟩
  case pos =>
  have hor := decide_eq_true hent
  have HE := Lib.hid hent
  clear hent
  go_wp2_with fail
  refine (specEnt_is ⟨s, a, 1⟩ _ _ hor).mono ?_
  rintro e w4 ⟨rfl, hb⟩
  have B4 := Lib.hid (B3.out.trans (hb.mono B3.out.size))
  have HO4 := Lib.hid (own_bS HO3.out hb)
  clear hb B3 HO3 hor
  cases r with
  | true =>
    obtain ⟨hk, hka⟩ := HTH.out.1 rfl
    have hkn : k < n := by rw [← HN.out]; exact hk
    have hkn' : (k : Int) < (n : Int) := by omega
    have HKA := Lib.hid hka
    have hm := HK.out _ (List.getElem_mem hk)
    have HF := Lib.hid (show findE ls a = some ls[k] from by rw [← hka]; exact findE_mem HA.out (List.getElem_mem hk))
    obtain ⟨g, c', hvv, hbg, hgl⟩ := HO4.out.form (by omega)
    injection hvv with e1 e2 e3
    subst e1 e3
    clear e2
    have hat := ecs_at ls k hk
    obtain ⟨⟨u0, hu0, g0⟩, -, -, -⟩ := own_at HO4.out (k * 3) (by omega)
    obtain ⟨⟨u2, hu2, g2⟩, f2, -, -⟩ := own_at HO4.out (k * 3 + 2) (by omega)
    rw [hat.1] at hu0
    rw [hat.2.2] at hu2
    obtain rfl := Option.some.inj hu0
    obtain rfl := Option.some.inj hu2
    clear hu0 hu2 hat hka
    have HSET := Lib.hid (show ls[k].sum = s → ls[k].count ≠ 1000 → T = ls.set k ⟨ls[k].sum, ls[k].at_, ls[k].count + 1⟩ ∧ R = true from fun h1 h2 => by
      have := HC.out
      rw [addE_there HA.out HK.out hk HKA.out h1 h2] at this
      exact ⟨this.1.symm, this.2.symm⟩)
    have HNO := Lib.hid (show ls[k].sum ≠ s ∨ ls[k].count = 1000 → T = ls ∧ R = false from fun h1 => by
      have := HC.out
      rw [addE_sum HF.out h1] at this
      exact ⟨this.1.symm, this.2.symm⟩)
    have HES := Lib.hid (ecs_set ls k hk (ls[k].count + 1))
    obtain ⟨o1, o2, o3, o4, o5, o6⟩ := hm
    generalize ls[k] = y at g0 g2 HSET HNO HES o1 o2 o3 o4 o5 o6
    clear HF HKA hk
    by_cases h1 : y.sum = s
    case neg =>
      have hq : (y.sum != s) = true := by simpa using h1
      have HZ := Lib.hid (HNO.out (Or.inl h1))
      clear HNO HSET h1
      go_wp2
      refine bodyPost_ret (v := .tuple #[.slice (some ⟨g, 0, none⟩) n c, .bool false]) (by simp [results, Try.results14, go_sem]) rfl ?_
      obtain ⟨rfl, rfl⟩ := HZ.out
      exact ⟨_, rfl, by rw [HN.out]; exact HO4.out, B4.out⟩
    case pos =>
    have hq : (y.sum != s) = false := by simp [h1]
    by_cases h2 : y.count = 1000
    case pos =>
      have hq2 : (y.count == 1000) = true := by simp [h2]
      have hq3 : decide (y.count = 1000) = true := by simp [h2]
      have HZ := Lib.hid (HNO.out (Or.inr h2))
      clear HNO HSET h1 h2
      go_wp2
      refine bodyPost_ret (v := .tuple #[.slice (some ⟨g, 0, none⟩) n c, .bool false]) (by simp [results, Try.results14, go_sem]) rfl ?_
      obtain ⟨rfl, rfl⟩ := HZ.out
      exact ⟨_, rfl, by rw [HN.out]; exact HO4.out, B4.out⟩
    case neg =>
    have hq2 : (y.count == 1000) = false := by simp [h2]
    have hq3 : decide (y.count = 1000) = false := by simp [h2]
    have hwr : IntKind.wrap .i64 (y.count + 1) = y.count + 1 := IntWalk.i64_in _ (by omega)
    have HZ := Lib.hid (HSET.out h1 h2)
    have HO5 := Lib.hid (own_setN HO4.out (k * 3 + 2) (.int .i64 (y.count + 1)))
    rw [HES.out] at HO5
    have hgB := (HO4.out.lt g rfl).1
    have B5 := Lib.hid (B4.out.setCell (p := ⟨g, k * 3 + 2, none⟩) hgB (.int .i64 (y.count + 1)))
    clear HNO HSET h1 h2
    go_wp2
    refine bodyPost_ret (v := .tuple #[.slice (some ⟨g, 0, none⟩) n c, .bool true]) (by simp [results, Try.results14, go_sem]) rfl ?_
    obtain ⟨rfl, rfl⟩ := HZ.out
    exact ⟨_, rfl, by rw [List.length_set, HN.out]; exact HO5.out, B5.out⟩
  | false =>
    have HNT := Lib.hid (show ¬ ThereP ls a k from fun h => by have := HTH.out.2 h; cases this)
    have HF := Lib.hid (find_none (at_none HG.out HAT.out HNT.out))
    by_cases h48 : n = 48
    case pos =>
      have HZ := Lib.hid (show T = ls ∧ R = false from by
        have := HC.out
        rw [addE_full HF.out (by rw [HN.out]; exact h48)] at this
        exact ⟨this.1.symm, this.2.symm⟩)
      have hq : decide ((n : Int) = 48) = true := by simp; omega
      have hq2 : ((n : Int) == 48) = true := by simp; omega
      clear h48
      go_wp2
      refine bodyPost_ret (v := .tuple #[.slice A n c, .bool false]) (by simp [results, Try.results14, go_sem]) rfl ?_
      obtain ⟨rfl, rfl⟩ := HZ.out
      exact ⟨_, rfl, by rw [HN.out]; exact HO4.out, B4.out⟩
    case neg =>
    have hq : decide ((n : Int) = 48) = false := by simp; omega
    have hq2 : ((n : Int) == 48) = false := by simp; omega
    have HZ := Lib.hid (show T = ls.take k ++ ⟨s, a, 1⟩ :: ls.drop k ∧ R = true from by
      have := HC.out
      rw [addE_new HAT.out HNT.out HF.out HE.out (by rw [HN.out]; exact h48)] at this
      exact ⟨this.1.symm, this.2.symm⟩)
    have hkn := HAT.out.1
    rw [HN.out] at hkn
    have HSL := Lib.hid (sl_of_own HO4.out)
    clear h48
    by_cases hlt : k < n
    case pos =>
      obtain ⟨g, c', hvv, hbg, hgl⟩ := HO4.out.form (by omega)
      injection hvv with e1 e2 e3
      subst e1 e3
      clear e2
      have hsd := sl_drop3 (k := k) (w' := w4) HSL.out hlt rfl
      rw [ecs_drop] at hsd
      have hdl : (ls.drop k).length = n - k := by rw [List.length_drop, HN.out]
      have HSD := Lib.hid hsd
      clear hsd
      go_wp2_with fail
      refine (l5Copy_any _ (ls.drop k) _ (by rw [hdl]; exact HSD.out) (fun b e => (HO4.out.lt b (by simpa [Value.ownBlock] using e)).2) (by omega)).mono ?_
      rintro e w5 ⟨vt, rfl, howt, hb⟩
      rw [hdl] at howt
      obtain ⟨_, At, ct, rfl, -, -, -⟩ := sl_of_own howt
      have HOT := Lib.hid howt
      have B5 := Lib.hid (B4.out.trans (hb.mono B4.out.size))
      have HO5 := Lib.hid (own_bS HO4.out hb)
      have h45 := hb.size
      have h4 := B4.out.size
      clear howt hb HO4 B4 HSL HSD
      have hb2 := Below.new1 (w := w5) (.cells #[.int .i64 s, .int .i64 a, .int .i64 1] 81)
      have HP := Lib.hid (own_kept (own_take HO5.out (k := k) (by omega)) (w' := w5.alloc (.cells #[.int .i64 s, .int .i64 a, .int .i64 1] 81)) (fun b e => hb2.block b ((own_take HO5.out (k := k) (by omega)).lt b e).2))
      rw [ecs_take] at HP
      have HS1 := Lib.hid (sl_entS w5 ⟨s, a, 1⟩ 81)
      have hsz5 : (w5.alloc (.cells #[.int .i64 s, .int .i64 a, .int .i64 1] 81)).heap.size = w5.heap.size + 1 := by simp
      clear hb2
      go_wp2_with (first | (at_builtin; refine wpList_append_freshB _ rfl _ _ 31 rfl w.heap.size 81 i0 _ 3 24 Try.underlying31 hi hz0 hz1 hz2 rfl (by omega) (.slice (some ⟨g, 0, none⟩) k c) k _ rfl HP.out (.slice (some ⟨w5.heap.size, 0, none⟩) 1 1) 1 (ec ⟨s, a, 1⟩) rfl HS1.out (ec_oneS _) (by unfold maxLen; omega) (by omega) (by omega) ?_))
      intro A2 cap2 w6 hown2 hg2 hloc2
      have HOW2 := Lib.hid hown2
      have B6 := Lib.hid (show Below w.heap.size w w6 from (B5.out.trans ((Below.new1 _).mono B5.out.size)).grown hg2 (by omega) (fun b e => (HP.out.lt b e).1))
      have hkeep : ∀ b, (Value.slice At (n - k) ct).ownBlock = some b → w6.heap[b]? = w5.heap[b]? := fun b e => by
        have h1 := HOT.out.lt b e
        rw [hg2.block b (by omega) (by simp [Value.ownBlock]; omega)]
        exact Below.heap_alloc _ _ b h1.2
      have HS2 := Lib.hid (sl_of_own (own_kept HOT.out hkeep))
      clear hown2 hg2 hkeep HO5 HP HOT
      go_wp2_with (first | (at_builtin; refine wpList_append_freshB _ rfl _ _ 31 rfl w.heap.size 81 i0 _ 3 24 Try.underlying31 hi hz0 hz1 hz2 rfl (by omega) (.slice A2 (k + 1) cap2) (k + 1) _ rfl HOW2.out (.slice At (n - k) ct) (n - k) (ecs (ls.drop k)) rfl HS2.out (ecs_oneS _) (by unfold maxLen; omega) (by omega) (by have := B6.out.size; omega) ?_))
      intro A3 cap3 w7 hown3 hg3 hloc3
      have HO7 := Lib.hid (show w7.ownsRow w.heap.size 81 3 (.slice A3 (k + 1 + (n - k)) cap3) (ls.take k ++ ⟨s, a, 1⟩ :: ls.drop k).length (ecs (ls.take k ++ ⟨s, a, 1⟩ :: ls.drop k)) from by
        have e1 : (ls.take k ++ ⟨s, a, 1⟩ :: ls.drop k : List EntM).length = k + 1 + (n - k) := by simp [HN.out]; omega
        have e2 : ecs (ls.take k ++ ⟨s, a, 1⟩ :: ls.drop k) = ecs (ls.take k) ++ ec ⟨s, a, 1⟩ ++ ecs (ls.drop k) := by simp [ecs]
        rw [e1, e2, List.append_assoc]
        exact hown3)
      have B7 := Lib.hid (B6.out.grown hg3 B6.out.size (fun b e => (HOW2.out.lt b e).1))
      clear hown3 hg3 hloc3 hloc2 HOW2 B6
      go_wp2
      refine bodyPost_ret (v := .tuple #[.slice A3 (k + 1 + (n - k)) cap3, .bool true]) (by simp [results, Try.results14, go_sem]) rfl ?_
      obtain ⟨rfl, rfl⟩ := HZ.out
      exact ⟨_, rfl, HO7.out, B7.out⟩
    case neg =>
      have hkn2 : k = n := by omega
      subst hkn2
      have hd0 : ls.drop k = [] := List.drop_eq_nil_of_le (by rw [HN.out]; omega)
      have ht0 : ls.take k = ls := List.take_of_length_le (by rw [HN.out]; omega)
      rw [hd0, ht0] at HZ
      have hA : (A = none ∧ k = c) ∨ (∃ g, A = some ⟨g, 0, none⟩ ∧ k = c) ∨ ∃ g, A = some ⟨g, 0, none⟩ ∧ ¬ c = k := by
        rcases HO4.out.2 with ⟨hv, hz⟩ | ⟨g, cap', cur, hv, _⟩
        · injection hv with e1 e2 e3
          exact Or.inl ⟨e1, by omega⟩
        · injection hv with e1 e2 e3
          by_cases hck : c = k
          · exact Or.inr (Or.inl ⟨g, e1, hck.symm⟩)
          · exact Or.inr (Or.inr ⟨g, e1, hck⟩)
      have hkd : (k : Int) ≤ (k : Int) := by omega
      clear hd0 ht0
      rcases hA with ⟨rfl, rfl⟩ | ⟨g, rfl, rfl⟩ | ⟨g, rfl, hck⟩
      all_goals
        go_wp2_with fail
        refine (l5Copy_any _ ([] : List EntM) _ (sl_zero3 _ _ _ (by unfold maxLen; omega)) (by intro b e; have e2 := e; simp [Value.ownBlock] at e2; try exact (HO4.out.lt b (by rw [← e2]; rfl)).2) (by simp)).mono ?_
        rintro e w5 ⟨vt, rfl, howt, hb⟩
        obtain ⟨_, At, ct, rfl, -, -, -⟩ := sl_of_own howt
        have HOT := Lib.hid howt
        have B5 := Lib.hid (B4.out.trans (hb.mono B4.out.size))
        have HO5 := Lib.hid (own_bS HO4.out hb)
        have h45 := hb.size
        have h4 := B4.out.size
        clear howt hb HO4 B4 HSL
        have hb2 := Below.new1 (w := w5) (.cells #[.int .i64 s, .int .i64 a, .int .i64 1] 81)
        have HP := Lib.hid (own_kept HO5.out (w' := w5.alloc (.cells #[.int .i64 s, .int .i64 a, .int .i64 1] 81)) (fun b e => hb2.block b (HO5.out.lt b e).2))
        have HS1 := Lib.hid (sl_entS w5 ⟨s, a, 1⟩ 81)
        have hsz5 : (w5.alloc (.cells #[.int .i64 s, .int .i64 a, .int .i64 1] 81)).heap.size = w5.heap.size + 1 := by simp
        clear hb2
        go_wp2_with (first | (at_builtin; refine wpList_append_freshB _ rfl _ _ 31 rfl w.heap.size 81 i0 _ 3 24 Try.underlying31 hi hz0 hz1 hz2 rfl (by omega) _ k _ rfl HP.out (.slice (some ⟨w5.heap.size, 0, none⟩) 1 1) 1 (ec ⟨s, a, 1⟩) rfl HS1.out (ec_oneS _) (by unfold maxLen; omega) (by omega) (by omega) ?_))
        intro A2 cap2 w6 hown2 hg2 hloc2
        have HOW2 := Lib.hid hown2
        have B6 := Lib.hid (show Below w.heap.size w w6 from (B5.out.trans ((Below.new1 _).mono B5.out.size)).grown hg2 (by omega) (fun b e => (HP.out.lt b e).1))
        have HS2 := Lib.hid (show Sl w6 3 (.slice At 0 ct) 0 [] from (sl_of_own HOT.out).none_)
        clear hown2 hg2 HO5 HP HOT
        go_wp2_with (first | (at_builtin; refine wpList_append_freshB _ rfl _ _ 31 rfl w.heap.size 81 i0 _ 3 24 Try.underlying31 hi hz0 hz1 hz2 rfl (by omega) (.slice A2 (k + 1) cap2) (k + 1) _ rfl HOW2.out (.slice At 0 ct) 0 [] rfl HS2.out (by simp) (by unfold maxLen; omega) (by omega) (by have := B6.out.size; omega) ?_))
        intro A3 cap3 w7 hown3 hg3 hloc3
        have HO7 := Lib.hid (show w7.ownsRow w.heap.size 81 3 (.slice A3 (k + 1) cap3) (ls ++ [(⟨s, a, 1⟩ : EntM)]).length (ecs (ls ++ [(⟨s, a, 1⟩ : EntM)])) from by
          have e1 : (ls ++ [(⟨s, a, 1⟩ : EntM)]).length = k + 1 := by simp [HN.out]
          rw [e1, ecs_snoc]
          simpa using hown3)
        have B7 := Lib.hid (B6.out.grown hg3 B6.out.size (fun b e => (HOW2.out.lt b e).1))
        clear hown3 hg3 hloc3 hloc2 HOW2 B6
        go_wp2
        refine bodyPost_ret (v := .tuple #[.slice A3 (k + 1) cap3, .bool true]) (by simp [results, Try.results14, go_sem]) rfl ?_
        obtain ⟨rfl, rfl⟩ := HZ.out
        exact ⟨_, rfl, HO7.out, B7.out⟩

set_option maxHeartbeats 4000000 in
theorem SpecDdtDrop_is (v : Value) (ls : List EntM) (a : Int) (T : List EntM) (R : Bool) (w : World) (h : Sl w 3 v ls.length (ecs ls)) (hv : Low w.heap.size v) (ha : (Lit.int .i64 a).wf = true) (hT : (dropR ls a).1 = T) (hR : (dropR ls a).2 = R) :
    Calls Try.prog 20 #[v, .int .i64 a] w (PairS w T R) := by
  have hnot : ∀ (x : Bool) (w : World), (Op.unary .not (.bool x)).run Try.prog w = .ok (.bool (!x)) w := fun _ _ => rfl
  obtain ⟨i0, hi, hz0, hz1, hz2⟩ := info_parts infoEnt
  have HV := Lib.hid hv
  have HD := Lib.hid h
  have HT := Lib.hid hT
  have HR := Lib.hid hR
  obtain ⟨_, A0, c0, rfl, hnc0, hcm0, -⟩ := h
  unfold maxLen at hcm0
  clear hv hT hR
  go_enter Try.func20, Try.ntmps20
  go_wp2_with fail
  refine (SpecDdtOk_any _ ls _ HD.out HV.out).mono ?_
  rintro e w1 ⟨rfl, hb⟩
  have HD1 := Lib.hid (HD.out.below hb HV.out)
  have HV1 := Lib.hid (fun b e => Nat.lt_of_lt_of_le (HV.out b e) hb.size)
  have B1 := Lib.hid hb
  clear hb HD
  by_cases hok : DdtOkM ls
  case neg =>
    rw [decide_eq_false hok]
    have HZ := Lib.hid (show T = [] ∧ R = false from by rw [← HT.out, ← HR.out]; unfold dropR; rw [if_neg hok]; exact ⟨rfl, rfl⟩)
    clear hok
    go_wp2
    refine bodyPost_ret (v := .tuple #[.slice none 0 0, .bool false]) (by simp [results, Try.results20, go_sem]) rfl ?_
    obtain ⟨rfl, rfl⟩ := HZ.out
    exact ⟨_, rfl, nil_entsS _ _, B1.out⟩
  case pos =>
  rw [decide_eq_true hok]
  have HA := Lib.hid (ascE_of_good hok.2)
  have HK := Lib.hid (show ∀ e ∈ ls, EntOkM e from fun e he => by
    obtain ⟨i, hi, rfl⟩ := List.mem_iff_getElem.1 he
    exact (hok.2 i hi hi).1)
  have HC := Lib.hid (show dropR ls a = (findE ls a).elim (ls, false) (fun e => (if e.count = 1 then delM ls a else putM ls ⟨e.sum, a, e.count - 1⟩, true)) from by unfold dropR; rw [if_pos hok]; cases findE ls a <;> rfl)
  have hl48 := hok.1
  have HG := Lib.hid hok.2
  clear hok
  go_wp2_with fail
  refine (l5Copy_any _ ls _ HD1.out HV1.out (by omega)).mono ?_
  rintro e w2 ⟨vo, rfl, how, hb⟩
  have B2 := Lib.hid (B1.out.trans (hb.mono B1.out.size))
  have HO2 := Lib.hid (own_base how B1.out.size)
  have HD2 := Lib.hid (HD1.out.below hb HV1.out)
  have HV2 := Lib.hid (fun b e => Nat.lt_of_lt_of_le (HV1.out b e) hb.size)
  obtain ⟨_, A, c, rfl, hnc, hcm, -⟩ := sl_of_own how
  unfold maxLen at hcm
  clear how hb B1 HD1 HV1
  go_wp2_with fail
  refine (l5At_any _ ls a _ (sl_of_own HO2.out) (fun b e => (HO2.out.lt b e).2)).mono ?_
  rintro e w3 ⟨k, r, rfl, hat, hth, hb⟩
  have HAT := Lib.hid hat
  have HTH := Lib.hid hth
  have B3 := Lib.hid (B2.out.trans (hb.mono B2.out.size))
  have HO3 := Lib.hid (own_bS HO2.out hb)
  have HD3 := Lib.hid (HD2.out.below hb HV2.out)
  have HV3 := Lib.hid (fun b e => Nat.lt_of_lt_of_le (HV2.out b e) hb.size)
  clear hat hth hb HO2 B2 HD2 HV2
  obtain ⟨n, HN⟩ : ∃ n, Hid (ls.length = n) := ⟨_, Lib.hid rfl⟩
  rw [HN.out] at HO3 hl48 hnc hnc0 HD3 HV3 HV ⊢
  cases r with
  | false =>
    have HNT := Lib.hid (show ¬ ThereP ls a k from fun h => by have := HTH.out.2 h; cases this)
    have hf := find_none (at_none HG.out HAT.out HNT.out)
    have HZ := Lib.hid (show T = ls ∧ R = false from by
      have := HC.out
      rw [hf] at this
      rw [← HT.out, ← HR.out, this]
      exact ⟨rfl, rfl⟩)
    clear hf
    go_wp2
    refine bodyPost_ret (v := .tuple #[.slice A n c, .bool false]) (by simp [results, Try.results20, go_sem]) rfl ?_
    obtain ⟨rfl, rfl⟩ := HZ.out
    exact ⟨_, rfl, by rw [HN.out]; exact HO3.out, B3.out⟩
  | true =>
    obtain ⟨hk, hka⟩ := HTH.out.1 rfl
    have hkn : k < n := by rw [← HN.out]; exact hk
    have hkn' : (k : Int) < (n : Int) := by omega
    have hm := HK.out _ (List.getElem_mem hk)
    have hf : findE ls a = some ls[k] := by rw [← hka]; exact findE_mem HA.out (List.getElem_mem hk)
    have HZ := Lib.hid (show T = (if ls[k].count = 1 then ls.take k ++ ls.drop (k + 1) else ls.set k ⟨ls[k].sum, ls[k].at_, ls[k].count - 1⟩) ∧ R = true from by
      have := HC.out
      rw [hf] at this
      rw [← HT.out, ← HR.out, this]
      refine ⟨?_, rfl⟩
      simp only [Option.elim]
      rw [delM_at HA.out hk hka]
      have h3 := putM_set HA.out (x := ⟨(ls[k]'hk).sum, (ls[k]'hk).at_, (ls[k]'hk).count - 1⟩) hk rfl
      rw [← h3, hka])
    obtain ⟨g, c', hvv, hbg, hgl⟩ := HO3.out.form (by omega)
    injection hvv with e1 e2 e3
    subst e1 e3
    clear e2
    have hat := ecs_at ls k hk
    obtain ⟨⟨u2, hu2, g2⟩, f2, -, -⟩ := own_at HO3.out (k * 3 + 2) (by omega)
    rw [hat.2.2] at hu2
    obtain rfl := Option.some.inj hu2
    clear hu2 hat hka hf
    have HES := Lib.hid (ecs_set ls k hk (ls[k].count - 1))
    obtain ⟨o1, o2, o3, o4, o5, o6⟩ := hm
    have HO4 := own_setN HO3.out (k * 3 + 2) (.int .i64 (ls[k].count - 1))
    rw [HES.out] at HO4
    have HO4 := Lib.hid HO4
    have hgB := (HO3.out.lt g rfl).1
    have B4 := Lib.hid (B3.out.setCell (p := ⟨g, k * 3 + 2, none⟩) hgB (.int .i64 (ls[k].count - 1)))
    obtain ⟨bd, od, cd, hvd, -, -, -⟩ := HD3.out.form (by omega)
    injection hvd with e1 e2 e3
    subst e1 e3
    clear e2
    have hbdl := HV.out bd rfl
    have HD4 := Lib.hid (HD3.out.kept (w' := w3.setCell ⟨g, k * 3 + 2, none⟩ (.int .i64 (ls[k].count - 1))) (fun b e => Below.heap_setCell w3 _ _ b (fun e2 => by have := HV.out b (by simpa [Value.ownBlock] using e); simp only at e2; omega)))
    have g4 : (w3.setCell ⟨g, k * 3 + 2, none⟩ (.int .i64 (ls[k].count - 1))).cell? ⟨g, k * 3 + 2, none⟩ = some (.int .i64 (ls[k].count - 1)) := by
      obtain ⟨⟨u, hu, hc⟩, -, -, -⟩ := own_at HO4.out (k * 3 + 2) (by omega)
      rw [← HES.out, List.getElem?_set_self (by rw [ecs_length, HN.out]; omega)] at hu
      rw [hc, ← Option.some.inj hu]
    generalize ls[k] = y at g2 g4 HZ HES HO4 B4 HD4 o1 o2 o3 o4 o5 o6
    have hwr : IntKind.wrap .i64 (y.count - 1) = y.count - 1 := IntWalk.i64_in _ (by omega)
    by_cases hc1 : y.count = 1
    case neg =>
      have hq : decide (y.count - 1 = 0) = false := decide_eq_false (by omega)
      have hq2 : ((y.count - 1) == 0) = false := by simp; omega
      have HZ2 := Lib.hid (show T = ls.set k ⟨y.sum, y.at_, y.count - 1⟩ ∧ R = true from by have := HZ.out; rw [if_neg hc1] at this; exact this)
      clear hc1 HZ
      go_wp2
      refine bodyPost_ret (v := .tuple #[.slice (some ⟨g, 0, none⟩) n c, .bool true]) (by simp [results, Try.results20, go_sem]) rfl ?_
      obtain ⟨rfl, rfl⟩ := HZ2.out
      exact ⟨_, rfl, by rw [List.length_set, HN.out]; exact HO4.out, B4.out⟩
    case pos =>
      have hq : decide (y.count - 1 = 0) = true := decide_eq_true (by omega)
      have hq2 : ((y.count - 1) == 0) = true := by simp; omega
      have HZ2 := Lib.hid (show T = ls.take k ++ ls.drop (k + 1) ∧ R = true from by have := HZ.out; rw [if_pos hc1] at this; exact this)
      clear hc1 HZ
      go_upto_region 9 with fail
      have HD5 := Lib.hid (show Sl (w3.setCell ⟨g, k * 3 + 2, none⟩ (.int .i64 (y.count - 1))) 3 (.slice (some ⟨bd, od, none⟩) k c0) (ls.take k).length (ecs (ls.take k)) from by
        have hl : (ls.take k).length = k := by rw [List.length_take, HN.out]; omega
        rw [hl, ← ecs_take]
        obtain ⟨h1, A', c', hv, h2, h3, h4⟩ := HD4.out
        injection hv with e1 e2 e3
        subst e1 e3
        refine ⟨by rw [List.length_take, h1]; omega, _, _, rfl, by omega, h3, ?_⟩
        rcases h4 with h4 | ⟨b', off', hA, hc⟩
        · left; omega
        · right
          refine ⟨b', off', hA, fun j u hu => hc j u ?_⟩
          rw [List.getElem?_take] at hu
          split at hu
          · exact hu
          · cases hu)
      have hlk : (ls.take k).length = k := by rw [List.length_take, HN.out]; omega
      obtain ⟨j, HJ⟩ : ∃ j, Hid (k + 1 = j) := ⟨_, Lib.hid rfl⟩
      have hwk : IntKind.wrap .i64 ((k : Int) + 1) = (j : Int) := by rw [IntWalk.i64_in _ (by omega)]; have := HJ.out; omega
      have hjn : j ≤ n := by have := HJ.out; omega
      have hjn' : (j : Int) ≤ (n : Int) := by omega
      have hjd : (ls.drop j).length = n - j := by rw [List.length_drop, HN.out]
      have HDJ := Lib.hid (show ∀ w', w'.heap[bd]? = (w3.setCell ⟨g, k * 3 + 2, none⟩ (.int .i64 (y.count - 1))).heap[bd]? → ∀ A' c', (j < n → A' = some ⟨bd, od + j * 3, none⟩ ∧ c' = c0 - j) → c' ≤ 9223372036854775807 → n - j ≤ c' → Sl w' 3 (.slice A' (n - j) c') (n - j) (ecs (ls.drop j)) from by
        intro w' hw' A' c' hA' hc' hnc'
        refine ⟨by rw [ecs_length, hjd], A', c', rfl, hnc', by unfold maxLen; omega, ?_⟩
        by_cases hj : j < n
        · obtain ⟨rfl, rfl⟩ := hA' hj
          right
          refine ⟨bd, od + j * 3, rfl, fun i u hu => ?_⟩
          obtain ⟨h1, A', c', hv, h2, h3, h4⟩ := HD4.out
          obtain ⟨b', off', hA, hc⟩ := h4.resolve_left (by omega)
          injection hv with e1 e2 e3
          rw [hA] at e1
          injection e1 with e1
          injection e1 with e4 e5
          subst e4 e5
          rw [← ecs_drop, List.getElem?_drop] at hu
          have := hc _ _ hu
          rw [Nat.add_assoc]
          exact (World.cell?_of_block hw').trans this
        · left; omega)
      have hbg2 := hgB
      have hway : j < n ∨ (j = n ∧ c0 = n) ∨ (j = n ∧ ¬ c0 = n) := by omega
      clear g2 g4 f2 HO4 HO3 HD3 HD4 HES hq hq2 hwr o1 o2 o3 o4 o5 o6
      generalize w3.setCell ⟨g, k * 3 + 2, none⟩ (.int .i64 (y.count - 1)) = W at HD5 HDJ B4 ⊢
      have hkc : k ≤ c0 := by omega
      have hkc' : (k : Int) ≤ (c0 : Int) := by omega
      have hjl := HJ.out
      have hbW : bd < W.heap.size := by have := B4.out.size; omega
      have hLW := Lib.hid (show ∀ b, (Value.slice (some ⟨bd, od, none⟩) k c0).ownBlock = some b → b < W.heap.size from fun b e => by have h := HV.out b (by simpa [Value.ownBlock] using e); have := B4.out.size; omega)
      rcases hway with hj | ⟨rfl, rfl⟩ | ⟨rfl, hjc⟩
      all_goals
        refine wp_region_held_drew (S := fun _ => True) (by kernel_rfl) trivial (fun hHeld => ?_)
        refine wpAnyH_take (i := 0) (v := ?_) rfl (by kernel_rfl) (by kernel_rfl) (by kernel_rfl) (fun _ _ _ h => h) (Or.inl ⟨by rfl, ?_⟩) (by assumption) ?_
        rotate_left
        · (intro w' hSw; clear hSw; go_simp; try with_reducible rfl)
        try simp only [Act.put]
        refine wpAnyH_take (i := 1) (v := ?_) rfl (by kernel_rfl) (by kernel_rfl) (by kernel_rfl) (fun _ _ _ h => h) (Or.inl ⟨by rfl, ?_⟩) (by assumption) ?_
        rotate_left
        · (intro w' hSw; clear hSw; go_simp; try with_reducible rfl)
        try simp only [Act.put]
        refine wpAnyH_take (i := 2) (v := ?_) rfl (by kernel_rfl) (by kernel_rfl) (by kernel_rfl) (fun _ _ _ h => h) (Or.inl ⟨by rfl, ?_⟩) (by assumption) ?_
        rotate_left
        · (intro w' hSw; clear hSw; go_simp; try with_reducible rfl)
        try simp only [Act.put]
        refine wpAnyH_take (i := 4) (v := ?_) rfl (by kernel_rfl) (by kernel_rfl) (by kernel_rfl) (fun _ _ _ h => h) (Or.inl ⟨by rfl, ?_⟩) (by assumption) ?_
        rotate_left
        · (intro w' hSw; clear hSw; go_simp; try with_reducible rfl)
        try simp only [Act.put]
        refine wpAnyH_take (i := 5) (v := ?_) rfl (by kernel_rfl) (by kernel_rfl) (by kernel_rfl) (fun _ _ _ h => h) (Or.inl ⟨by rfl, ?_⟩) (by assumption) ?_
        rotate_left
        · (intro w' hSw; clear hSw; go_simp; try with_reducible rfl)
        try simp only [Act.put]
        refine wpAnyH_take (i := 6) (v := ?_) rfl (by kernel_rfl) (by kernel_rfl) (by kernel_rfl) (fun _ _ _ h => h) (Or.inl ⟨by rfl, ?_⟩) (by assumption) ?_
        rotate_left
        · (intro w' hSw; clear hSw; go_simp; try with_reducible rfl)
        try simp only [Act.put]
        refine wpAnyH_take (i := 7) (v := ?_) rfl (by kernel_rfl) (by kernel_rfl) (by kernel_rfl) (fun _ _ _ h => h) (Or.inl ⟨by rfl, ?_⟩) (by assumption) ?_
        rotate_left
        · (intro w' hSw; clear hSw; go_simp; try with_reducible rfl)
        try simp only [Act.put]
        refine wpAnyH_ready (rs := [3]) (by kernel_rfl) (by simp) ?_
        refine AllReadyH.cons rfl (fun K hK => ?_) AllReadyH.nil
        go_simp
        go_at_call 48
        refine (l5Copy_any _ (ls.take k) W.drew (show Sl W.drew 3 (.slice (some ⟨bd, od, none⟩) k c0) (ls.take k).length (ecs (ls.take k)) from HD5.out) hLW.out (by omega)).mono ?_
        rintro e w5 ⟨vt, rfl, howt, hb5⟩
        rw [hlk] at howt
        go_wp2_with fail
        refine hK.out _ _ trivial (fun hHeld2 => ?_)
        clear hK K
        try simp only [Act.put]
        refine wpAnyH_ready (rs := [8]) (by kernel_rfl) (by simp) ?_
        refine AllReadyH.cons rfl (fun K hK => ?_) AllReadyH.nil
        have h5 := hb5.size
        have hdr : W.drew.heap.size = W.heap.size := rfl
        first
          | (refine step_append_fresh _ (by rfl) _ _ _ (by rfl) W.heap.size 81 i0 _ 3 24 Try.underlying31 hi hz0 hz1 hz2 rfl (by omega) _ k _ (by rfl) howt  _ (n - j) (ecs (ls.drop j)) (by rfl) (HDJ.out w5 (hb5.block bd hbW) _ _ (fun _ => ⟨rfl, rfl⟩) (by omega) (by omega)) (ecs_oneS _) (by unfold maxLen; omega) (by omega) (by omega) ?_)
          | (refine step_append_fresh _ (by rfl) _ _ _ (by rfl) W.heap.size 81 i0 _ 3 24 Try.underlying31 hi hz0 hz1 hz2 rfl (by omega) _ k _ (by rfl) howt  _ 0 [] (by rfl) (sl_zero3 _ _ _ (by unfold maxLen; omega)) (by simp) (by unfold maxLen; omega) (by omega) (by omega) ?_)
        intro A3 cap3 w6 hown3 hg3 hloc3
        refine hK.out _ _ trivial (fun hHeld3 => ?_)
        clear hK K
        try simp only [Act.put]
        refine wpAnyH_take (i := 9) (v := ?_) rfl (by kernel_rfl) (by kernel_rfl) (by kernel_rfl) (fun _ _ _ h => h) (Or.inl ⟨by rfl, ?_⟩) (by assumption) ?_
        rotate_left
        · (intro w' hSw; clear hSw; go_simp; try with_reducible rfl)
        try simp only [Act.put]
        refine wpAnyH_done (by kernel_rfl) ?_ _
        go_simp
        clear hHeld hHeld2 hHeld3
        have HO6 := Lib.hid hown3
        have HB5 := B4.out.trans ((show Below W.heap.size W w5 from (below_drewB W).trans hb5).mono B4.out.size)
        have B6 := Lib.hid (HB5.grown hg3 HB5.size (fun b e => by have := (howt.lt b e).1; have := B4.out.size; omega))
        have hW1 := B4.out.size
        clear hown3 hg3 hloc3 howt hb5 HB5
        go_wp2
        first
          | refine bodyPost_ret (v := .tuple #[.slice A3 (k + (n - j)) cap3, .bool true]) (by simp [results, Try.results20, go_sem]; done) rfl ?_
          | refine bodyPost_ret (v := .tuple #[.slice A3 k cap3, .bool true]) (by simp [results, Try.results20, go_sem]; done) rfl ?_
        obtain ⟨rfl, rfl⟩ := HZ2.out
        refine ⟨_, rfl, ?_, B6.out⟩
        have hO := own_base HO6.out hW1
        rw [HJ.out, ecs_append]
        first
          | (have e1 : (ls.take k ++ ls.drop j).length = k + (n - j) := by rw [List.length_append, hlk, hjd]
             rw [e1]; exact hO)
          | (have e0 : ls.drop c0 = [] := List.drop_eq_nil_of_le (by have := HN.out; omega)
             have e1 : (ls.take k ++ ls.drop c0).length = k := by rw [e0, List.append_nil, hlk]
             rw [e1, e0]; simpa [ecs] using hO)
          | (have e0 : ls.drop j = [] := List.drop_eq_nil_of_le (by have := HN.out; omega)
             have e1 : (ls.take k ++ ls.drop j).length = k := by rw [e0, List.append_nil, hlk]
             rw [e1, e0]; simpa [ecs] using hO)
end Go.Proofs.Ythhgjjdnkhmggaa

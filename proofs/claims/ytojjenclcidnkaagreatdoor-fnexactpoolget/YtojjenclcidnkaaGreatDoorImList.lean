/-
  impl's table told as a list; DdtAdd and DdtDrop of impl.
-/
import Derived.Test.YtojjenclcidnkaaGreatDoorTab
import Derived.Test.YtojjenclcidnkaaGreatDoorData
import Derived.Test.YtojjenclcidnkaaGreatDoorIter
set_option maxRecDepth 100000
namespace Go.Proofs.YtojjenclcidnkaaGreatDoor
open Go.ChangeShapes Go.WideShapes Go.ChangeAt Go.RowKit Go.Proofs.Palim Go.Maps

theorem ec_one (x : EntM) : ∀ u ∈ ec x, u.oneCell' = true := by
  intro u hu
  simp [ec] at hu
  rcases hu with rfl | rfl | rfl <;> rfl
theorem ecs_one (ls : List EntM) : ∀ u ∈ ecs ls, u.oneCell' = true := by
  intro u hu
  obtain ⟨x, _, hx⟩ := List.mem_flatMap.1 hu
  exact ec_one x u hx
theorem sl_ent (w : World) (x : EntM) (e : Nat) : Sl (w.alloc (.cells #[.int .i64 x.sum, .int .i64 x.at_, .int .i64 x.count] e)) 3 (.slice (some ⟨w.heap.size, 0, none⟩) 1 1) 1 (ec x) := by
  refine ⟨rfl, _, _, rfl, Nat.le_refl _, by unfold maxLen; omega, Or.inr ⟨w.heap.size, 0, rfl, fun j u hu => ?_⟩⟩
  have := (box_new w #[.int .i64 x.sum, .int .i64 x.at_, .int .i64 x.count] e).cell j hu
  rwa [Nat.zero_add]

set_option maxHeartbeats 4000000 in
theorem tlist_any (m : Nat) (T : List EntM) (w : World) (h : MapE w m T) (hA : AscE T) (hok : ∀ e ∈ T, EntOkM e) (hlen : T.length ≤ 48) :
    Calls Tryz.prog 154 #[.map (some m)] w (NewEnts w T) := by
  obtain ⟨i0, hi, hz0, hz1, hz2⟩ := info_parts infoEnt
  obtain ⟨n, HN⟩ : ∃ n, Hid (T.length = n) := ⟨_, Lib.hid rfl⟩
  have HM := Lib.hid h
  have HA := Lib.hid hA
  have HK := Lib.hid hok
  have hml := h.lt
  have hl1 := h.len 3
  rw [HN.out] at hl1 hlen
  clear h hA hok
  go_enter Tryz.func154, Tryz.ntmps154
  go_wp2_with (first | (at_make; refine wpList_make_own _ rfl _ _ 42 rfl w.heap.size 135 i0 (.agg #[.int .i64 0, .int .i64 0, .int .i64 0]) 3 Tryz.underlying42 hi hz0 hz1 _ _ _ n rfl rfl rfl (by rw [hz2]; omega) (by unfold maxLen; omega) (Nat.le_refl _) ?_))
  intro w1 hown hgrow
  have HB1 := Lib.hid (show Below w.heap.size w w1 from (Below.refl _ w).grown hgrow (Nat.le_refl _) (fun _ h => by cases h))
  have HM1 := Lib.hid (HM.out.below HB1.out hml)
  have HO1 := Lib.hid hown
  have hs1 : w.heap.size < w1.heap.size := (hown.lt _ rfl).2
  clear hown hgrow
  go_wp2_with fail
  refine (Tryz.keysI_calls _ _).mono ?_
  rintro e w2 ⟨rfl, rfl⟩
  go_wp2_with fail
  obtain ⟨D, ho, hsz, hl⟩ := HM1.out
  refine (Tryz.sortedI_calls m _ D entR w1 ho (by rw [hsz, HN.out]; unfold maxLen; omega) (by rw [hsz, HN.out]; omega)).mono ?_
  rintro e w3 ⟨vk, ss, rfl, hp, hrow, -, hb⟩
  rw [keys_sorted ho HA.out (fun x hx => ent_wf (HK.out x hx)) (fun a ha => (hl a ha).1) hp] at hrow
  have hsl : ss.length = n := by
    have := congrArg List.length (keys_sorted ho HA.out (fun x hx => ent_wf (HK.out x hx)) (fun a ha => (hl a ha).1) hp)
    rw [List.length_mergeSort, List.length_map, HN.out] at this
    exact this
  rw [hsl] at hrow
  have hsz1 : (w1.alloc (.cells #[.map (some m)] 214)).heap.size = w1.heap.size + 1 := by simp
  rw [hsz1] at hrow
  have hb13 : Below w1.heap.size w1 w3 := (Below.new1 _).trans (hb.mono (by rw [hsz1]; omega))
  have HB3 := Lib.hid (HB1.out.trans (hb13.mono (by omega)))
  have HM3 := Lib.hid (HM1.out.below hb13 (by omega))
  have HO3 := Lib.hid (own_kept HO1.out (w' := w3) (fun b e => hb13.block b (by have := (HO1.out.lt b e).2; omega)))
  have HKS := Lib.hid (sl_of_own hrow)
  have hkb := Lib.hid (show ∀ b, vk.ownBlock = some b → w1.heap.size < b ∧ b < w3.heap.size from fun b e => by have := hrow.lt b e; omega)
  have hs3 : w1.heap.size ≤ w3.heap.size := hb13.size
  obtain ⟨_, Ak, ck, rfl, hnk, hck, _⟩ := sl_of_own hrow
  unfold maxLen at hck
  clear ho hsz hl hp hrow hsl hsz1 hb hb13 HM1 HO1 HB1
  go_wp2
  go_loopw [3, 5, 13] (fun l _ i wr => ∃ (k : Nat) (A : Option Addr) (cap : Nat), k ≤ n ∧ i = .int .i64 k ∧ l = .slice A k cap ∧ Hid (wr.ownsRow w.heap.size 135 3 (.slice A k cap) k (ecs (T.take k))) ∧ Hid (Below w.heap.size w wr) ∧ Hid (MapE wr m T) ∧ Hid (Sl wr 1 (.slice Ak n ck) n ((T.map (·.at_)).map encZ)) ∧ w3.heap.size ≤ wr.heap.size ∧ Hid (∀ b, (Value.slice A k cap).ownBlock = some b → b = w.heap.size ∨ w3.heap.size ≤ b)) (fun _ _ i _ => n - (RowKit.intOf i).toNat)
  case atStart => exact ⟨0, some ⟨w.heap.size, 0, none⟩, n, Nat.zero_le _, rfl, rfl, Lib.hid HO3.out, HB3, HM3, HKS, Nat.le_refl _, Lib.hid (fun b e => Or.inl (by simpa [Value.ownBlock] using e.symm))⟩
  case round =>
    obtain ⟨k, A, cap, hk, rfl, rfl, HO, HW, HMr, HKr, hsr, HBK⟩ := hrel
    by_cases hlt : k < n
    · have hl0 : k < T.length := by rw [HN.out]; exact hlt
      obtain ⟨kb, ko, ck', hvk, -, -, hkc⟩ := HKr.out.form (by omega)
      injection hvk with e1 e2 e3
      subst e1 e3
      clear e2
      have g0 := hkc k (encZ T[k].at_) (by simp [hl0])
      have hk1 : (k : Int) < (n : Int) := by omega
      have hlk := HMr.out.look1 (ent_wf (HK.out _ (List.getElem_mem hl0)))
      rw [findE_mem HA.out (List.getElem_mem hl0)] at hlk
      have HE := Lib.hid (show ecs (T.take (k + 1)) = ecs (T.take k) ++ ec T[k] from by rw [List.take_succ_eq_append_getElem hl0, ecs_snoc])
      generalize T[k] = y at g0 hlk HE
      have hlk' : (Instr.lookup 214 (.map (some m)) (.int .i64 y.at_) false).run Tryz.prog wr = .ok (.agg #[.int .i64 y.sum, .int .i64 y.at_, .int .i64 y.count]) wr := hlk
      have hn1 := Below.new1 (w := wr) (.cells #[.int .i64 y.sum, .int .i64 y.at_, .int .i64 y.count] 135)
      have HO2 := Lib.hid (own_kept HO.out (w' := wr.alloc (.cells #[.int .i64 y.sum, .int .i64 y.at_, .int .i64 y.count] 135)) (fun b e => hn1.block b (HO.out.lt b e).2))
      have HS1 := Lib.hid (sl_ent wr y 135)
      have HW2 := Lib.hid (HW.out.trans (hn1.mono HW.out.size))
      have HM2 := Lib.hid (HMr.out.below hn1 HMr.out.lt)
      have HK2 := Lib.hid (HKr.out.below hn1 (fun b e => by have := (hkb.out b e).2; omega))
      have hsz : (wr.alloc (.cells #[.int .i64 y.sum, .int .i64 y.at_, .int .i64 y.count] 135)).heap.size = wr.heap.size + 1 := by simp
      clear hlk hkc hn1 HO HW HMr HKr hl0
      go_wp2_with (first | (at_builtin; refine wpList_append_freshB _ rfl _ _ 42 rfl w.heap.size 135 i0 _ 3 24 Tryz.underlying42 hi hz0 hz1 hz2 rfl (by omega) (.slice A k cap) k _ rfl HO2.out (.slice (some ⟨wr.heap.size, 0, none⟩) 1 1) 1 (ec y) rfl HS1.out (ec_one y) (by unfold maxLen; omega) (by omega) (by have := HW2.out.size; omega) ?_))
      intro A1 cap1 w5 hown5 hg5 hloc
      rw [← HE.out] at hown5
      have HO5 := Lib.hid hown5
      have HW5 := Lib.hid (HW2.out.grown hg5 (by omega) (fun b e => by rcases HBK.out b e with h | h <;> omega))
      have hmk : ∀ b, b ≠ w.heap.size → b < w3.heap.size → w5.heap[b]? = (wr.alloc (.cells #[.int .i64 y.sum, .int .i64 y.at_, .int .i64 y.count] 135)).heap[b]? := fun b hb1 hb2 => hg5.block b (by omega) (fun e => by rcases HBK.out b e.symm with h | h <;> omega)
      have HM5 := Lib.hid (HM2.out.kept (hmk m (by omega) (by omega)))
      have HK5 := Lib.hid (HK2.out.kept (fun b e => by have := hkb.out b e; exact hmk b (by omega) (by omega)))
      have hsr5 : w3.heap.size ≤ w5.heap.size := by have := hg5.size; omega
      have HBK5 := Lib.hid (show ∀ b, (Value.slice A1 (k + 1) cap1).ownBlock = some b → b = w.heap.size ∨ w3.heap.size ≤ b from fun b e => by
        rcases hloc with h | h
        · rw [h] at e; exact HBK.out b e
        · rw [h] at e; have := Option.some.inj e; omega)
      clear hown5 hg5 hloc hmk HO2 HW2 HM2 HK2 HBK
      go_wp2
      go_roundw
      case rel => exact ⟨k + 1, A1, cap1, by omega, by go_num, rfl, HO5, HW5, HM5, HK5, hsr5, HBK5⟩
      case measure => simp [RowKit.intOf]; omega
    · have hkn : k = n := by omega
      have HT := Lib.hid (show T.take k = T from List.take_of_length_le (by rw [HN.out]; omega))
      go_wp2
      go_ret
      refine ⟨_, rfl, ?_, HW.out⟩
      have h0 := HO.out
      rw [HT.out, hkn] at h0
      rw [HN.out, hkn]
      exact h0

/-- A list of entries of the call's own, and whether it was done. -/
def PairE (w : World) (T : List EntM) (R : Bool) (e : Ending) (w' : World) : Prop :=
  ∃ v, e = .returned (.tuple #[v, .bool R]) ∧ w'.ownsRow w.heap.size 135 3 v T.length (ecs T) ∧ Below w.heap.size w w'
theorem nil_ents (w : World) (base : Nat) : w.ownsRow base 135 3 (.slice none 0 0) ([] : List EntM).length (ecs []) := ⟨rfl, Or.inl ⟨rfl, rfl⟩⟩
theorem asc_addE {T T' : List EntM} (hA : AscE T) (hok : ∀ e ∈ T, EntOkM e) {s a : Int} (h : addE T s a = some T') : AscE T' ∧ ∀ e ∈ T', EntOkM e := by
  obtain ⟨_, h2, _, rfl⟩ := addE_some h
  refine ⟨asc_putM hA _, fun e he => ?_⟩
  rcases mem_putM he with rfl | he
  · exact h2
  · exact hok e he
theorem asc_subE {T T' : List EntM} (hA : AscE T) (hok : ∀ e ∈ T, EntOkM e) (hl : T.length ≤ 48) {a : Int} (h : subE T a = some T') : AscE T' ∧ (∀ e ∈ T', EntOkM e) ∧ T'.length ≤ 48 := by
  unfold subE at h
  cases hf : findE T a with
  | none => rw [hf] at h; cases h
  | some e0 =>
    rw [hf] at h
    obtain rfl := Option.some.inj h
    simp only
    obtain ⟨m1, m2⟩ := findE_some hf
    obtain ⟨o1, o2, o3, o4, o5, o6⟩ := hok e0 m1
    split
    · exact ⟨asc_delM hA _, fun e he => hok e (List.mem_filter.1 he).1, Nat.le_trans (delM_le _ _) hl⟩
    · refine ⟨asc_putM hA _, fun e he => ?_, ?_⟩
      · rcases mem_putM he with rfl | he
        · exact ⟨o1, o2, by show 1 ≤ a; omega, by show a < 120; omega, by show 1 ≤ e0.count - 1; omega, by show e0.count - 1 ≤ 1000; omega⟩
        · exact hok e he
      · rw [length_putM hA]
        simp only
        rw [hf]
        simpa using hl

end Go.Proofs.YtojjenclcidnkaaGreatDoor

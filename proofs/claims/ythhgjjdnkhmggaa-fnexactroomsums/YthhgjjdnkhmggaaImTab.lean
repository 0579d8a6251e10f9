/-
  impl's table: opened, one more, one fewer.
-/
import Derived.Test.YthhgjjdnkhmggaaTabE
import Derived.Test.YthhgjjdnkhmggaaApp
import Derived.Test.YthhgjjdnkhmggaaDdtOk
set_option maxRecDepth 100000
namespace Go.Proofs.Ythhgjjdnkhmggaa
open Go.ChangeShapes Go.WideShapes Go.ChangeAt Go.RowKit Go.Proofs.Palim Go.Maps

theorem ent_wf {e : EntM} (h : EntOkM e) : (Lit.int .i64 e.at_).wf = true := wf_i64 (by have := h.2.2.1; omega) (by have := h.2.2.2.1; omega)
theorem ok_of_good {ls : List EntM} (h : GoodE ls ls.length) : ∀ e ∈ ls, EntOkM e := fun e he => by
  obtain ⟨i, hi, rfl⟩ := List.mem_iff_getElem.1 he
  exact (h i hi hi).1
theorem turned_map {S : Nat → Prop} {a w w' : World} {m : Nat} (h : Turned S a w) (ht : w.mapTurned w' m) (hm : S m ∨ a.heap.size ≤ m) : Turned S a w' := turned_grown h ht.grown (fun b e => by cases e; exact hm)
theorem mapE_box {w : World} {m b : Nat} {T : List EntM} {vs : List Value} (h : MapE w m T) (hx : Box w b vs) : b ≠ m := by
  rintro rfl
  obtain ⟨D, ⟨es, clock, hb, _⟩, _⟩ := h
  obtain ⟨c, e, hc, _⟩ := hx
  rw [hb] at hc
  cases hc
theorem MapE.setCell {w : World} {m : Nat} {T : List EntM} (h : MapE w m T) {p : Addr} (hp : m ≠ p.block) (u : Value) : MapE (w.setCell p u) m T := h.kept (Below.heap_setCell w p u m hp)
theorem MapE.alloc {w : World} {m : Nat} {T : List EntM} (h : MapE w m T) (o : Obj) : MapE (w.alloc o) m T := h.kept (Below.heap_alloc w o m h.lt)
theorem below_mapTurnedE {B : Nat} {w0 w w' : World} {m : Nat} (h : Below B w0 w) (ht : w.mapTurned w' m) (hm : B ≤ m) : Below B w0 w' :=
  h.grown ht.grown (Nat.le_trans hm (by obtain ⟨es, c, _, _, hb, _⟩ := ht; exact Nat.le_of_lt (Array.getElem?_eq_some_iff.1 hb).1)) (fun j hj => by cases hj; exact hm)

def OpenedE (w : World) (ls : List EntM) (e : Ending) (w' : World) : Prop := ∃ m, e = .returned (.map (some m)) ∧ MapE w' m ls ∧ w.heap.size ≤ m ∧ Below w.heap.size w w'

set_option maxHeartbeats 2000000 in
theorem ddtOpen_any (v : Value) (ls : List EntM) (w : World) (h : Sl w 3 v ls.length (ecs ls)) (hv : Low w.heap.size v) (hl : ls.length ≤ 48) (hg : GoodE ls ls.length) :
    Calls Try.prog 52 #[v] w (OpenedE w ls) := by
  have hmm := @run_makeMap Try.prog
  obtain ⟨n, HL⟩ : ∃ n, Hid (ls.length = n) := ⟨_, Lib.hid rfl⟩
  have HA := Lib.hid (ascE_of_good hg)
  have HK := Lib.hid (ok_of_good hg)
  have HM0 := Lib.hid (mapE_made w)
  have HB0 := Lib.hid (Below.new1 (w := w) (.map #[] 0))
  rw [HL.out] at h hl
  clear hg
  have hsz0 : (w.alloc (.map #[] 0)).heap.size = w.heap.size + 1 := by simp
  by_cases hn : n = 0
  · subst hn
    have HE := Lib.hid (List.length_eq_zero_iff.1 HL.out)
    obtain ⟨_, A, c, rfl, _, _, _⟩ := h
    go_enter Try.func52, Try.ntmps52
    go_wp2
    go_loop [9] (fun i => i = .int .i64 0) (fun _ => 0)
    case atStart => rfl
    case round =>
      subst hrel
      go_wp2
      go_ret
      exact ⟨_, rfl, by rw [HE.out]; exact HM0.out, Nat.le_refl _, HB0.out⟩
  · obtain ⟨b, off, c, rfl, hnc, hcm, hcell⟩ := h.form (by omega)
    unfold maxLen at hcm
    have hbl : b < w.heap.size := hv b rfl
    have HC := Lib.hid hcell
    clear hcell h hv
    go_enter Try.func52, Try.ntmps52
    go_wp2
    generalize w.alloc (.map #[] 0) = W at HM0 HB0 hsz0
    go_loopw [5, 9] (fun _ i wr => ∃ (k : Nat), k ≤ n ∧ i = .int .i64 k ∧ Hid (MapE wr w.heap.size (ls.take k)) ∧ Hid (Below w.heap.size w wr) ∧ wr.heap.size > w.heap.size) (fun _ i _ => n - (RowKit.intOf i).toNat)
    case atStart => exact ⟨0, Nat.zero_le _, rfl, Lib.hid (by simpa using HM0.out), HB0, by omega⟩
    case round =>
      obtain ⟨k, hk, rfl, HM, HW, hgt⟩ := hrel
      by_cases hlt : k < n
      · have hl0 : k < ls.length := by rw [HL.out]; exact hlt
        obtain ⟨g0, g1, g2⟩ := ent_read (fun j u hu => (HW.out.cell hbl).trans (HC.out j u hu)) k hl0
        have hk1 : (k : Int) < (n : Int) := by omega
        have HP := Lib.hid (show putM (ls.take k) ls[k] = ls.take (k + 1) from by
          rw [putM_snoc, List.take_succ_eq_append_getElem hl0]
          intro y hy
          obtain ⟨i, hi, rfl⟩ := List.mem_iff_getElem.1 hy
          have hi2 : i < k := by have := hi; rw [List.length_take] at this; omega
          rw [List.getElem_take]
          exact (List.pairwise_iff_getElem.1 HA.out) i k (by omega) hl0 hi2)
        have HT := Lib.hid (show AscE (ls.take k) from List.Pairwise.sublist (List.take_sublist _ _) HA.out)
        have hwf := ent_wf (HK.out _ (List.getElem_mem hl0))
        have hln : (ls.take k).length < 1000000 := by rw [List.length_take]; omega
        generalize ls[k] = y at g0 g1 g2 HP hwf
        clear hl0
        have HX := Lib.hid (box_new wr #[.int .i64 y.sum, .int .i64 y.at_, .int .i64 y.count] 81)
        have hnw := Below.new1 (w := wr) (.cells #[.int .i64 y.sum, .int .i64 y.at_, .int .i64 y.count] 81)
        have HM1 := HM.out.alloc (.cells #[.int .i64 y.sum, .int .i64 y.at_, .int .i64 y.count] 81)
        have HW1 := Lib.hid (HW.out.trans (hnw.mono HW.out.size))
        obtain ⟨w3, hrun, hm3, ht3⟩ := HM1.put HT.out hwf hln
        rw [HP.out] at hm3
        have hrun' : (Instr.mapUpdate 85 (.map (some w.heap.size)) (.int .i64 y.at_) (.agg #[.int .i64 y.sum, .int .i64 y.at_, .int .i64 y.count])).run Try.prog (wr.alloc (.cells #[.int .i64 y.sum, .int .i64 y.at_, .int .i64 y.count] 81)) = .ok () w3 := hrun
        have HM3 := Lib.hid hm3
        have HW3 := Lib.hid (below_mapTurnedE HW1.out ht3 (Nat.le_refl _))
        have hgt3 : w3.heap.size > w.heap.size := hm3.lt
        clear hrun hm3 ht3 hnw HM HM1 HW HW1 HT
        go_wp2
        go_roundw
        case rel => exact ⟨k + 1, by omega, by go_num, HM3, HW3, hgt3⟩
        case measure => simp [RowKit.intOf]; omega
      · have HT := Lib.hid (show ls.take k = ls from List.take_of_length_le (by rw [HL.out]; omega))
        go_wp2
        go_ret
        exact ⟨_, rfl, by have := HM.out; rw [HT.out] at this; exact this, Nat.le_refl _, HW.out⟩

/-- What add and drop leave. -/
def AddedE (m : Nat) (T' : Option (List EntM)) (T : List EntM) (w : World) (e : Ending) (w' : World) : Prop :=
  e = .returned (.bool T'.isSome) ∧ MapE w' m (T'.getD T) ∧ Turned (fun b => b = m) w w'

set_option maxHeartbeats 4000000 in
theorem tadd_any (m : Nat) (T : List EntM) (s a : Int) (w : World) (h : MapE w m T) (hA : AscE T) (hok : ∀ e ∈ T, EntOkM e) (hlen : T.length ≤ 48) (hwf : (Lit.int .i64 a).wf = true) :
    Calls Try.prog 53 #[.map (some m), .int .i64 s, .int .i64 a] w (AddedE m (addE T s a) T w) := by
  have hnot : ∀ (x : Bool) (w : World), (Op.unary .not (.bool x)).run Try.prog w = .ok (.bool (!x)) w := fun _ _ => rfl
  have hlook := h.look hwf
  have HM := Lib.hid h
  have HA := Lib.hid hA
  have hml := h.lt
  obtain ⟨R, HR⟩ : ∃ R, Hid (addE T s a = R) := ⟨_, Lib.hid rfl⟩
  rw [HR.out]
  cases hf : findE T a with
  | some e0 =>
    obtain ⟨m1, m2⟩ := findE_some hf
    rw [hf] at hlook
    have hlook' : (Instr.lookup 85 (.map (some m)) (.int .i64 a) true).run Try.prog w = .ok (.tuple #[.agg #[.int .i64 e0.sum, .int .i64 e0.at_, .int .i64 e0.count], .bool true]) w := hlook
    obtain ⟨o1, o2, o3, o4, o5, o6⟩ := hok e0 m1
    have hwr : IntKind.wrap .i64 (e0.count + 1) = e0.count + 1 := IntWalk.i64_in _ (by omega)
    have HF := Lib.hid hf
    clear hlook hf h hok hA
    obtain ⟨s0, a0, c0⟩ := e0
    simp only at hlook' hwr o1 o2 o3 o4 o5 o6 m2
    subst m2
    by_cases hs : s0 = s
    case neg =>
      have hsq : (s0 != s) = true := by simpa using hs
      have hN := Lib.hid (show R = none from by
        rw [← HR.out]
        cases hx : addE T s a0 with
        | none => rfl
        | some T' => have := (addE_some hx).1; rw [HF.out] at this; exact absurd this hs)
      have HB := Lib.hid (Below.new1 (w := w) (.cells #[.int .i64 s0, .int .i64 a0, .int .i64 (c0 + 1)] 81))
      have HM1 := Lib.hid (HM.out.alloc (.cells #[.int .i64 s0, .int .i64 a0, .int .i64 (c0 + 1)] 81))
      go_enter Try.func53, Try.ntmps53
      go_wp2
      go_ret
      rw [hN.out]
      exact ⟨rfl, HM1.out, turned_of_below HB.out⟩
    case pos =>
    subst hs
    by_cases hok2 : EntOkM ⟨s0, a0, c0 + 1⟩
    case neg =>
      have hor := decide_eq_false hok2
      have hN := Lib.hid (show R = none from by
        rw [← HR.out]
        cases hx : addE T s0 a0 with
        | none => rfl
        | some T' => have := (addE_some hx).2.1; rw [HF.out] at this; exact absurd this hok2)
      have hB := Below.new1 (w := w) (.cells #[.int .i64 s0, .int .i64 a0, .int .i64 (c0 + 1)] 81)
      have HB := Lib.hid hB
      have HM1 := Lib.hid (HM.out.alloc (.cells #[.int .i64 s0, .int .i64 a0, .int .i64 (c0 + 1)] 81))
      clear hok2
      go_enter Try.func53, Try.ntmps53
      go_wp2_with fail
      refine (implEnt_is ⟨s0, a0, c0 + 1⟩ _ _ hor).mono ?_
      rintro e w2 ⟨rfl, hb2⟩
      have HB2 := Lib.hid (hB.trans (hb2.mono hB.size))
      have HM2 := Lib.hid (HM1.out.below hb2 HM1.out.lt)
      clear hb2 hB
      go_wp2
      go_ret
      rw [hN.out]
      exact ⟨rfl, HM2.out, turned_of_below HB2.out⟩
    case pos =>
    have hor := decide_eq_true hok2
    have hS := Lib.hid (show R = some (putM T ⟨s0, a0, c0 + 1⟩) from by
      rw [← HR.out, addE_intro (by rw [HF.out]; rfl) (by rw [HF.out]; exact hok2) (fun hh => by rw [HF.out] at hh; cases hh), HF.out]
      rfl)
    have hB := Below.new1 (w := w) (.cells #[.int .i64 s0, .int .i64 a0, .int .i64 (c0 + 1)] 81)
    have HX := box_new w #[.int .i64 s0, .int .i64 a0, .int .i64 (c0 + 1)] 81
    have HM1 := Lib.hid (HM.out.alloc (.cells #[.int .i64 s0, .int .i64 a0, .int .i64 (c0 + 1)] 81))
    clear hok2
    go_enter Try.func53, Try.ntmps53
    go_wp2_with fail
    refine (implEnt_is ⟨s0, a0, c0 + 1⟩ _ _ hor).mono ?_
    rintro e w2 ⟨rfl, hb2⟩
    have HX2 := HX.below hb2 HX.lt
    obtain ⟨x0, x1, x2⟩ := HX2.three
    have HB2 := Lib.hid (hB.trans (hb2.mono hB.size))
    have HM2 := Lib.hid (HM1.out.below hb2 HM1.out.lt)
    have hrl := HM2.out.len 3
    obtain ⟨w3, hrun, hm3, ht3⟩ := HM2.out.put HA.out (x := ⟨s0, a0, c0 + 1⟩) hwf (by omega)
    have hrun' : (Instr.mapUpdate 85 (.map (some m)) (.int .i64 a0) (.agg #[.int .i64 s0, .int .i64 a0, .int .i64 (c0 + 1)])).run Try.prog w2 = .ok () w3 := hrun
    have HM3 := Lib.hid hm3
    have HT3 := Lib.hid (turned_map (S := fun b => b = m) (turned_of_below HB2.out) ht3 (Or.inl rfl))
    clear hb2 hB HX HX2 hrun hm3 ht3
    go_wp2
    go_ret
    rw [hS.out]
    exact ⟨rfl, HM3.out, HT3.out⟩
  | none =>
    rw [hf] at hlook
    have hlook' : (Instr.lookup 85 (.map (some m)) (.int .i64 a) true).run Try.prog w = .ok (.tuple #[.agg #[.int .i64 0, .int .i64 0, .int .i64 0], .bool false]) w := hlook
    have HF := Lib.hid hf
    clear hlook hf h hok hA
    by_cases hok2 : EntOkM ⟨s, a, 1⟩
    case neg =>
      have hor := decide_eq_false hok2
      have hN := Lib.hid (show R = none from by
        rw [← HR.out]
        cases hx : addE T s a with
        | none => rfl
        | some T' => have := (addE_some hx).2.1; rw [HF.out] at this; exact absurd this hok2)
      have hB := Below.new1 (w := w) (.cells #[.int .i64 s, .int .i64 a, .int .i64 (1)] 81)
      have HB := Lib.hid hB
      have HM1 := Lib.hid (HM.out.alloc (.cells #[.int .i64 s, .int .i64 a, .int .i64 (1)] 81))
      clear hok2
      go_enter Try.func53, Try.ntmps53
      go_wp2_with fail
      refine (implEnt_is ⟨s, a, 1⟩ _ _ hor).mono ?_
      rintro e w2 ⟨rfl, hb2⟩
      have HB2 := Lib.hid (hB.trans (hb2.mono hB.size))
      have HM2 := Lib.hid (HM1.out.below hb2 HM1.out.lt)
      clear hb2 hB
      go_wp2
      go_ret
      rw [hN.out]
      exact ⟨rfl, HM2.out, turned_of_below HB2.out⟩
    case pos =>
    have hor := decide_eq_true hok2
    by_cases h48 : T.length = 48
    case pos =>
      have hN := Lib.hid (show R = none from by
        rw [← HR.out]
        cases hx : addE T s a with
        | none => rfl
        | some T' => exact absurd h48 ((addE_some hx).2.2.1 (by rw [HF.out]; rfl)))
      have hB := Below.new1 (w := w) (.cells #[.int .i64 s, .int .i64 a, .int .i64 (1)] 81)
      have HX := box_new w #[.int .i64 s, .int .i64 a, .int .i64 (1)] 81
      have HM1 := Lib.hid (HM.out.alloc (.cells #[.int .i64 s, .int .i64 a, .int .i64 (1)] 81))
      clear hok2
      go_enter Try.func53, Try.ntmps53
      go_wp2_with fail
      refine (implEnt_is ⟨s, a, 1⟩ _ _ hor).mono ?_
      rintro e w2 ⟨rfl, hb2⟩
      have HX2 := HX.below hb2 HX.lt
      obtain ⟨x0, x1, x2⟩ := HX2.three
      have HB2 := Lib.hid (hB.trans (hb2.mono hB.size))
      have HM2 := Lib.hid (HM1.out.below hb2 HM1.out.lt)
      have hrl := HM2.out.len 3
      obtain ⟨w3, hrun, hm3, ht3⟩ := HM2.out.put HA.out (x := ⟨s, a, 1⟩) hwf (by omega)
      have hrun' : (Instr.mapUpdate 85 (.map (some m)) (.int .i64 a) (.agg #[.int .i64 s, .int .i64 a, .int .i64 (1)])).run Try.prog w2 = .ok () w3 := hrun
      have HM3 := Lib.hid hm3
      have HT3 := Lib.hid (turned_map (S := fun b => b = m) (turned_of_below HB2.out) ht3 (Or.inl rfl))
      clear hb2 hB HX HX2 hrun hm3 ht3
      rw [h48] at hrl
      clear hrun'
      go_wp2
      go_ret
      rw [hN.out]
      exact ⟨rfl, HM2.out, turned_of_below HB2.out⟩
    case neg =>
    have hq : ((T.length : Int) == 48) = false := by simp; omega
    have hq2 : ¬ (T.length : Int) = 48 := by omega
    have hS := Lib.hid (show R = some (putM T ⟨s, a, 1⟩) from by
      rw [← HR.out, addE_intro (by rw [HF.out]; rfl) (by rw [HF.out]; exact hok2) (fun _ => h48), HF.out]
      rfl)
    have hB := Below.new1 (w := w) (.cells #[.int .i64 s, .int .i64 a, .int .i64 (1)] 81)
    have HX := box_new w #[.int .i64 s, .int .i64 a, .int .i64 (1)] 81
    have HM1 := Lib.hid (HM.out.alloc (.cells #[.int .i64 s, .int .i64 a, .int .i64 (1)] 81))
    clear hok2
    go_enter Try.func53, Try.ntmps53
    go_wp2_with fail
    refine (implEnt_is ⟨s, a, 1⟩ _ _ hor).mono ?_
    rintro e w2 ⟨rfl, hb2⟩
    have HX2 := HX.below hb2 HX.lt
    obtain ⟨x0, x1, x2⟩ := HX2.three
    have HB2 := Lib.hid (hB.trans (hb2.mono hB.size))
    have HM2 := Lib.hid (HM1.out.below hb2 HM1.out.lt)
    have hrl := HM2.out.len 3
    obtain ⟨w3, hrun, hm3, ht3⟩ := HM2.out.put HA.out (x := ⟨s, a, 1⟩) hwf (by omega)
    have hrun' : (Instr.mapUpdate 85 (.map (some m)) (.int .i64 a) (.agg #[.int .i64 s, .int .i64 a, .int .i64 (1)])).run Try.prog w2 = .ok () w3 := hrun
    have HM3 := Lib.hid hm3
    have HT3 := Lib.hid (turned_map (S := fun b => b = m) (turned_of_below HB2.out) ht3 (Or.inl rfl))
    clear hb2 hB HX HX2 hrun hm3 ht3
    go_wp2
    go_ret
    rw [hS.out]
    exact ⟨rfl, HM3.out, HT3.out⟩

/-- One fewer. -/
noncomputable def subE (T : List EntM) (a : Int) : Option (List EntM) := (findE T a).map fun e => if e.count = 1 then delM T a else putM T ⟨e.sum, a, e.count - 1⟩

set_option maxHeartbeats 4000000 in
theorem tdrop_any (m : Nat) (T : List EntM) (a : Int) (w : World) (h : MapE w m T) (hA : AscE T) (hok : ∀ e ∈ T, EntOkM e) (hlen : T.length ≤ 48) (hwf : (Lit.int .i64 a).wf = true) :
    Calls Try.prog 56 #[.map (some m), .int .i64 a] w (AddedE m (subE T a) T w) := by
  have hnot : ∀ (x : Bool) (w : World), (Op.unary .not (.bool x)).run Try.prog w = .ok (.bool (!x)) w := fun _ _ => rfl
  have hlook := h.look hwf
  have HM := Lib.hid h
  have HA := Lib.hid hA
  have hml := h.lt
  obtain ⟨R, HR⟩ : ∃ R, Hid (subE T a = R) := ⟨_, Lib.hid rfl⟩
  rw [HR.out]
  cases hf : findE T a with
  | none =>
    rw [hf] at hlook
    have hlook' : (Instr.lookup 85 (.map (some m)) (.int .i64 a) true).run Try.prog w = .ok (.tuple #[.agg #[.int .i64 0, .int .i64 0, .int .i64 0], .bool false]) w := hlook
    have HN := Lib.hid (show R = none from by rw [← HR.out]; unfold subE; rw [hf]; rfl)
    have HB := Lib.hid (Below.new1 (w := w) (.cells #[.int .i64 0, .int .i64 0, .int .i64 0] 81))
    have HM1 := Lib.hid (HM.out.alloc (.cells #[.int .i64 0, .int .i64 0, .int .i64 0] 81))
    clear hlook hf h hok hA
    go_enter Try.func56, Try.ntmps56
    go_wp2
    go_ret
    rw [HN.out]
    exact ⟨rfl, HM1.out, turned_of_below HB.out⟩
  | some e0 =>
    obtain ⟨m1, m2⟩ := findE_some hf
    rw [hf] at hlook
    have hlook' : (Instr.lookup 85 (.map (some m)) (.int .i64 a) true).run Try.prog w = .ok (.tuple #[.agg #[.int .i64 e0.sum, .int .i64 e0.at_, .int .i64 e0.count], .bool true]) w := hlook
    obtain ⟨o1, o2, o3, o4, o5, o6⟩ := hok e0 m1
    have hwr : IntKind.wrap .i64 (e0.count - 1) = e0.count - 1 := IntWalk.i64_in _ (by omega)
    have HF := Lib.hid hf
    clear hlook hf h hok hA
    obtain ⟨s0, a0, c0⟩ := e0
    simp only at hlook' hwr o1 o2 o3 o4 o5 o6 m2
    subst m2
    have HX := Lib.hid (box_new w #[.int .i64 s0, .int .i64 a0, .int .i64 (c0 - 1)] 81)
    have hB := Below.new1 (w := w) (.cells #[.int .i64 s0, .int .i64 a0, .int .i64 (c0 - 1)] 81)
    have HM1 := Lib.hid (HM.out.alloc (.cells #[.int .i64 s0, .int .i64 a0, .int .i64 (c0 - 1)] 81))
    obtain ⟨w3, hrun, hm3, ht3⟩ := HM1.out.put HA.out (x := ⟨s0, a0, c0 - 1⟩) hwf (by omega)
    have hrun' : (Instr.mapUpdate 85 (.map (some m)) (.int .i64 a0) (.agg #[.int .i64 s0, .int .i64 a0, .int .i64 (c0 - 1)])).run Try.prog (w.alloc (.cells #[.int .i64 s0, .int .i64 a0, .int .i64 (c0 - 1)] 81)) = .ok () w3 := hrun
    have HM3 := Lib.hid hm3
    have HT3 := Lib.hid (turned_map (S := fun b => b = m) (turned_of_below hB) ht3 (Or.inl rfl))
    have HX3 := Lib.hid (HX.out.kept (ht3.grown.block _ HX.out.lt (fun e => by have := Option.some.inj e; omega)))
    obtain ⟨x0, x1, x2⟩ := HX3.out.three
    clear hrun ht3 hB HX
    by_cases hc : c0 = 1
    case neg =>
      have hcz : ¬ (c0 - 1 = 0) := by omega
      have hcq : ((c0 - 1) == 0) = false := by simpa using hcz
      have hS := Lib.hid (show R = some (putM T ⟨s0, a0, c0 - 1⟩) from by
        rw [← HR.out]; unfold subE; rw [HF.out]; simp only [Option.map_some]; rw [if_neg hc])
      clear hm3
      go_enter Try.func56, Try.ntmps56
      go_wp2
      go_ret
      rw [hS.out]
      exact ⟨rfl, HM3.out, HT3.out⟩
    case pos =>
      have hcz : decide (c0 - 1 = 0) = true := decide_eq_true (by omega)
      have hcq : ((c0 - 1) == 0) = true := by simp; omega
      have hS := Lib.hid (show R = some (delM T a0) from by
        rw [← HR.out]; unfold subE; rw [HF.out]; simp only [Option.map_some]; rw [if_pos hc])
      obtain ⟨w4, hrun4, hm4, ht4⟩ := hm3.drop (asc_putM HA.out _) (a := a0) hwf (by rw [findE_putM HA.out]; simp) 3
      rw [delM_putM HA.out ⟨s0, a0, c0 - 1⟩] at hm4
      have hrun5 : ∀ ty, (Builtin.delete_ #[85, 3] ty #[.map (some m), .int .i64 a0]).run Try.prog w3 = .ok (.tuple #[]) w4 := fun ty => hrun4
      clear hrun4
      have HM4 := Lib.hid hm4
      have HT4 := Lib.hid (turned_map HT3.out ht4 (Or.inl rfl))
      clear hm3 hm4 ht4 hc
      go_enter Try.func56, Try.ntmps56
      go_wp2
      go_ret
      rw [hS.out]
      exact ⟨rfl, HM4.out, HT4.out⟩
end Go.Proofs.Ythhgjjdnkhmggaa

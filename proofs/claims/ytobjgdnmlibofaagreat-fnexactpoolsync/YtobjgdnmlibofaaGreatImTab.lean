/-
  impl's table: opened, one more, one fewer.
-/
import Derived.Test.YtobjgdnmlibofaaGreatTabE
import Derived.Test.YtobjgdnmlibofaaGreatApp
import Derived.Test.YtobjgdnmlibofaaGreatDdtOk
set_option maxRecDepth 100000
namespace Go.Proofs.YtobjgdnmlibofaaGreat
open Go.ChangeShapes Go.WideShapes Go.ChangeAt Go.RowKit Go.Proofs.Palim Go.Maps

theorem ent_wf {e : EntM} (h : EntOkM e) : (Lit.int .i64 e.at_).wf = true := wf_i64 (by have := h.2.2.1; omega) (by have := h.2.2.2.1; omega)
theorem ok_of_good {ls : List EntM} (h : GoodE ls ls.length) : ∀ e ∈ ls, EntOkM e := fun e he => by
  obtain ⟨i, hi, rfl⟩ := List.mem_iff_getElem.1 he
  exact (h i hi hi).1
theorem turned_map {S : Nat → Prop} {a w w' : World} {m : Nat} (h : Turned S a w) (ht : w.mapTurned w' m) (hm : S m ∨ a.heap.size ≤ m) : Turned S a w' := turned_grown h ht.grown (fun b e => by cases e; exact hm)
theorem mapE_box {w : World} {m b : Nat} {T : List EntM} {vs : List Value} (h : MapE w m T) (hx : Box w b vs) : b ≠ m := by
  rintro rfl
  obtain ⟨D, ⟨es, clock, hb, _⟩, _⟩ := h
  obtain ⟨c, e, hc, _⟩ := hx
  rw [hb] at hc
  cases hc
theorem MapE.setCell {w : World} {m : Nat} {T : List EntM} (h : MapE w m T) {p : Addr} (hp : m ≠ p.block) (u : Value) : MapE (w.setCell p u) m T := h.kept (Below.heap_setCell w p u m hp)
theorem MapE.alloc {w : World} {m : Nat} {T : List EntM} (h : MapE w m T) (o : Obj) : MapE (w.alloc o) m T := h.kept (Below.heap_alloc w o m h.lt)
theorem below_mapTurnedE {B : Nat} {w0 w w' : World} {m : Nat} (h : Below B w0 w) (ht : w.mapTurned w' m) (hm : B ≤ m) : Below B w0 w' :=
  h.grown ht.grown (Nat.le_trans hm (by obtain ⟨es, c, _, _, hb, _⟩ := ht; exact Nat.le_of_lt (Array.getElem?_eq_some_iff.1 hb).1)) (fun j hj => by cases hj; exact hm)

def OpenedE (w : World) (ls : List EntM) (e : Ending) (w' : World) : Prop := ∃ m, e = .returned (.map (some m)) ∧ MapE w' m ls ∧ w.heap.size ≤ m ∧ Below w.heap.size w w'

/-- What add and drop leave. -/
def AddedE (m : Nat) (T' : Option (List EntM)) (T : List EntM) (w : World) (e : Ending) (w' : World) : Prop :=
  e = .returned (.bool T'.isSome) ∧ MapE w' m (T'.getD T) ∧ Turned (fun b => b = m) w w'

set_option maxHeartbeats 4000000 in
theorem tadd_any (m : Nat) (T : List EntM) (s a : Int) (w : World) (h : MapE w m T) (hA : AscE T) (hok : ∀ e ∈ T, EntOkM e) (hlen : T.length ≤ 48) (hwf : (Lit.int .i64 a).wf = true) :
    Calls Tryz.prog 135 #[.map (some m), .int .i64 s, .int .i64 a] w (AddedE m (addE T s a) T w) := by
  have hnot : ∀ (x : Bool) (w : World), (Op.unary .not (.bool x)).run Tryz.prog w = .ok (.bool (!x)) w := fun _ _ => rfl
  have hlook := h.look hwf
  have HM := Lib.hid h
  have HA := Lib.hid hA
  have hml := h.lt
  obtain ⟨R, HR⟩ : ∃ R, Hid (addE T s a = R) := ⟨_, Lib.hid rfl⟩
  rw [HR.out]
  cases hf : findE T a with
  | some e0 =>
    obtain ⟨m1, m2⟩ := findE_some hf
    rw [hf] at hlook
    have hlook' : (Instr.lookup 164 (.map (some m)) (.int .i64 a) true).run Tryz.prog w = .ok (.tuple #[.agg #[.int .i64 e0.sum, .int .i64 e0.at_, .int .i64 e0.count], .bool true]) w := hlook
    obtain ⟨o1, o2, o3, o4, o5, o6⟩ := hok e0 m1
    have hwr : IntKind.wrap .i64 (e0.count + 1) = e0.count + 1 := IntWalk.i64_in _ (by omega)
    have HF := Lib.hid hf
    clear hlook hf h hok hA
    obtain ⟨s0, a0, c0⟩ := e0
    simp only at hlook' hwr o1 o2 o3 o4 o5 o6 m2
    subst m2
    by_cases hs : s0 = s
    case neg =>
      have hsq : (s0 != s) = true := by simpa using hs
      have hN := Lib.hid (show R = none from by
        rw [← HR.out]
        cases hx : addE T s a0 with
        | none => rfl
        | some T' => have := (addE_some hx).1; rw [HF.out] at this; exact absurd this hs)
      have HB := Lib.hid (Below.new1 (w := w) (.cells #[.int .i64 s0, .int .i64 a0, .int .i64 (c0 + 1)] 126))
      have HM1 := Lib.hid (HM.out.alloc (.cells #[.int .i64 s0, .int .i64 a0, .int .i64 (c0 + 1)] 126))
      go_enter Tryz.func135, Tryz.ntmps135
      go_wp2
      go_ret
      rw [hN.out]
      exact ⟨rfl, HM1.out, turned_of_below HB.out⟩
    case pos =>
    subst hs
    by_cases hok2 : EntOkM ⟨s0, a0, c0 + 1⟩
    case neg =>
      have hor := decide_eq_false hok2
      have hN := Lib.hid (show R = none from by
        rw [← HR.out]
        cases hx : addE T s0 a0 with
        | none => rfl
        | some T' => have := (addE_some hx).2.1; rw [HF.out] at this; exact absurd this hok2)
      have hB := Below.new1 (w := w) (.cells #[.int .i64 s0, .int .i64 a0, .int .i64 (c0 + 1)] 126)
      have HB := Lib.hid hB
      have HM1 := Lib.hid (HM.out.alloc (.cells #[.int .i64 s0, .int .i64 a0, .int .i64 (c0 + 1)] 126))
      clear hok2
      go_enter Tryz.func135, Tryz.ntmps135
      go_wp2_with fail
      refine (implEnt_is ⟨s0, a0, c0 + 1⟩ _ _ hor).mono ?_
      rintro e w2 ⟨rfl, hb2⟩
      have HB2 := Lib.hid (hB.trans (hb2.mono hB.size))
      have HM2 := Lib.hid (HM1.out.below hb2 HM1.out.lt)
      clear hb2 hB
      go_wp2
      go_ret
      rw [hN.out]
      exact ⟨rfl, HM2.out, turned_of_below HB2.out⟩
    case pos =>
    have hor := decide_eq_true hok2
    have hS := Lib.hid (show R = some (putTb T ⟨s0, a0, c0 + 1⟩) from by
      rw [← HR.out, addE_intro (by rw [HF.out]; rfl) (by rw [HF.out]; exact hok2) (fun hh => by rw [HF.out] at hh; cases hh), HF.out]
      rfl)
    have hB := Below.new1 (w := w) (.cells #[.int .i64 s0, .int .i64 a0, .int .i64 (c0 + 1)] 126)
    have HX := box_new w #[.int .i64 s0, .int .i64 a0, .int .i64 (c0 + 1)] 126
    have HM1 := Lib.hid (HM.out.alloc (.cells #[.int .i64 s0, .int .i64 a0, .int .i64 (c0 + 1)] 126))
    clear hok2
    go_enter Tryz.func135, Tryz.ntmps135
    go_wp2_with fail
    refine (implEnt_is ⟨s0, a0, c0 + 1⟩ _ _ hor).mono ?_
    rintro e w2 ⟨rfl, hb2⟩
    have HX2 := HX.below hb2 HX.lt
    obtain ⟨x0, x1, x2⟩ := HX2.three
    have HB2 := Lib.hid (hB.trans (hb2.mono hB.size))
    have HM2 := Lib.hid (HM1.out.below hb2 HM1.out.lt)
    have hrl := HM2.out.len 3
    obtain ⟨w3, hrun, hm3, ht3⟩ := HM2.out.put HA.out (x := ⟨s0, a0, c0 + 1⟩) hwf (by omega)
    have hrun' : (Instr.mapUpdate 164 (.map (some m)) (.int .i64 a0) (.agg #[.int .i64 s0, .int .i64 a0, .int .i64 (c0 + 1)])).run Tryz.prog w2 = .ok () w3 := hrun
    have HM3 := Lib.hid hm3
    have HT3 := Lib.hid (turned_map (S := fun b => b = m) (turned_of_below HB2.out) ht3 (Or.inl rfl))
    clear hb2 hB HX HX2 hrun hm3 ht3
    go_wp2
    go_ret
    rw [hS.out]
    exact ⟨rfl, HM3.out, HT3.out⟩
  | none =>
    rw [hf] at hlook
    have hlook' : (Instr.lookup 164 (.map (some m)) (.int .i64 a) true).run Tryz.prog w = .ok (.tuple #[.agg #[.int .i64 0, .int .i64 0, .int .i64 0], .bool false]) w := hlook
    have HF := Lib.hid hf
    clear hlook hf h hok hA
    by_cases hok2 : EntOkM ⟨s, a, 1⟩
    case neg =>
      have hor := decide_eq_false hok2
      have hN := Lib.hid (show R = none from by
        rw [← HR.out]
        cases hx : addE T s a with
        | none => rfl
        | some T' => have := (addE_some hx).2.1; rw [HF.out] at this; exact absurd this hok2)
      have hB := Below.new1 (w := w) (.cells #[.int .i64 s, .int .i64 a, .int .i64 (1)] 126)
      have HB := Lib.hid hB
      have HM1 := Lib.hid (HM.out.alloc (.cells #[.int .i64 s, .int .i64 a, .int .i64 (1)] 126))
      clear hok2
      go_enter Tryz.func135, Tryz.ntmps135
      go_wp2_with fail
      refine (implEnt_is ⟨s, a, 1⟩ _ _ hor).mono ?_
      rintro e w2 ⟨rfl, hb2⟩
      have HB2 := Lib.hid (hB.trans (hb2.mono hB.size))
      have HM2 := Lib.hid (HM1.out.below hb2 HM1.out.lt)
      clear hb2 hB
      go_wp2
      go_ret
      rw [hN.out]
      exact ⟨rfl, HM2.out, turned_of_below HB2.out⟩
    case pos =>
    have hor := decide_eq_true hok2
    by_cases h48 : T.length = 48
    case pos =>
      have hN := Lib.hid (show R = none from by
        rw [← HR.out]
        cases hx : addE T s a with
        | none => rfl
        | some T' => exact absurd h48 ((addE_some hx).2.2.1 (by rw [HF.out]; rfl)))
      have hB := Below.new1 (w := w) (.cells #[.int .i64 s, .int .i64 a, .int .i64 (1)] 126)
      have HX := box_new w #[.int .i64 s, .int .i64 a, .int .i64 (1)] 126
      have HM1 := Lib.hid (HM.out.alloc (.cells #[.int .i64 s, .int .i64 a, .int .i64 (1)] 126))
      clear hok2
      go_enter Tryz.func135, Tryz.ntmps135
      go_wp2_with fail
      refine (implEnt_is ⟨s, a, 1⟩ _ _ hor).mono ?_
      rintro e w2 ⟨rfl, hb2⟩
      have HX2 := HX.below hb2 HX.lt
      obtain ⟨x0, x1, x2⟩ := HX2.three
      have HB2 := Lib.hid (hB.trans (hb2.mono hB.size))
      have HM2 := Lib.hid (HM1.out.below hb2 HM1.out.lt)
      have hrl := HM2.out.len 3
      obtain ⟨w3, hrun, hm3, ht3⟩ := HM2.out.put HA.out (x := ⟨s, a, 1⟩) hwf (by omega)
      have hrun' : (Instr.mapUpdate 164 (.map (some m)) (.int .i64 a) (.agg #[.int .i64 s, .int .i64 a, .int .i64 (1)])).run Tryz.prog w2 = .ok () w3 := hrun
      have HM3 := Lib.hid hm3
      have HT3 := Lib.hid (turned_map (S := fun b => b = m) (turned_of_below HB2.out) ht3 (Or.inl rfl))
      clear hb2 hB HX HX2 hrun hm3 ht3
      rw [h48] at hrl
      clear hrun'
      go_wp2
      go_ret
      rw [hN.out]
      exact ⟨rfl, HM2.out, turned_of_below HB2.out⟩
    case neg =>
    have hq : ((T.length : Int) == 48) = false := by simp; omega
    have hq2 : ¬ (T.length : Int) = 48 := by omega
    have hS := Lib.hid (show R = some (putTb T ⟨s, a, 1⟩) from by
      rw [← HR.out, addE_intro (by rw [HF.out]; rfl) (by rw [HF.out]; exact hok2) (fun _ => h48), HF.out]
      rfl)
    have hB := Below.new1 (w := w) (.cells #[.int .i64 s, .int .i64 a, .int .i64 (1)] 126)
    have HX := box_new w #[.int .i64 s, .int .i64 a, .int .i64 (1)] 126
    have HM1 := Lib.hid (HM.out.alloc (.cells #[.int .i64 s, .int .i64 a, .int .i64 (1)] 126))
    clear hok2
    go_enter Tryz.func135, Tryz.ntmps135
    go_wp2_with fail
    refine (implEnt_is ⟨s, a, 1⟩ _ _ hor).mono ?_
    rintro e w2 ⟨rfl, hb2⟩
    have HX2 := HX.below hb2 HX.lt
    obtain ⟨x0, x1, x2⟩ := HX2.three
    have HB2 := Lib.hid (hB.trans (hb2.mono hB.size))
    have HM2 := Lib.hid (HM1.out.below hb2 HM1.out.lt)
    have hrl := HM2.out.len 3
    obtain ⟨w3, hrun, hm3, ht3⟩ := HM2.out.put HA.out (x := ⟨s, a, 1⟩) hwf (by omega)
    have hrun' : (Instr.mapUpdate 164 (.map (some m)) (.int .i64 a) (.agg #[.int .i64 s, .int .i64 a, .int .i64 (1)])).run Tryz.prog w2 = .ok () w3 := hrun
    have HM3 := Lib.hid hm3
    have HT3 := Lib.hid (turned_map (S := fun b => b = m) (turned_of_below HB2.out) ht3 (Or.inl rfl))
    clear hb2 hB HX HX2 hrun hm3 ht3
    go_wp2
    go_ret
    rw [hS.out]
    exact ⟨rfl, HM3.out, HT3.out⟩

/-- One fewer. -/
noncomputable def subE (T : List EntM) (a : Int) : Option (List EntM) := (findE T a).map fun e => if e.count = 1 then delM T a else putTb T ⟨e.sum, a, e.count - 1⟩

end Go.Proofs.YtobjgdnmlibofaaGreat

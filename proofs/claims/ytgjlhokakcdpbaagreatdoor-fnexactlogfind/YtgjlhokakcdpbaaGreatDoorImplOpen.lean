/-
  Opening a sealed text, by the program: the inner function panics where it can't, and that is recovered.
-/
import Derived.Test.YtgjlhokakcdpbaaGreatDoorOpen
import Derived.Test.YtgjlhokakcdpbaaGreatDoorImplUnhex
import Derived.Test.YtgjlhokakcdpbaaGreatDoorShelf
import Derived.WalkKit
import Derived.ProofKit
import Derived.Lib.Hide
import Derived.WalkSpells
import Derived.WalkSmall
import Derived.Defers
import Derived.Recover
import Derived.Laws.Pointers
import Derived.Deep.Draws
set_option maxRecDepth 100000
namespace Go.Proofs.YtgjlhokakcdpbaaGreatDoor
open Go.ChangeShapes Go.WideShapes Go.ChangeAt Go.RowKit Go.Proofs.Palim

/-- The library's variable that its search reads holds some number. -/
def HasMax (w : World) : Prop := ∃ m, w.cell? ⟨0, 0, none⟩ = some (.int .i64 m)
theorem HasMax.lt {w : World} (h : HasMax w) : 0 < w.heap.size := by
  obtain ⟨m, h⟩ := h
  exact World.block_lt_of_cell? _ _ h
theorem HasMax.below {w w' : World} {B : Nat} (h : HasMax w) (hb : Below B w w') (hB : 0 < B) : HasMax w' := by
  obtain ⟨m, h⟩ := h
  exact ⟨m, (hb.cell hB).trans h⟩

def UnsealPost (s : ByteArray) (w : World) (e : Ending) (w' : World) : Prop :=
  Below w.heap.size w w' ∧ ((∃ t, openB s = some t ∧ e = .returned (.string t)) ∨ (openB s = none ∧ e = .panicked malformed))

theorem cut_miss (s : ByteArray) (h : Lib.indexByte s.data.toList 58 = -1) : Lib.cut s.data.toList [58] = (s.data.toList, [], false) := by
  unfold Lib.cut
  rw [Lib.index_one, h]
  rfl
theorem cut_hit (s : ByteArray) (k : Nat) (h : Lib.indexByte s.data.toList 58 = (k : Int)) : Lib.cut s.data.toList [58] = (s.data.toList.take k, s.data.toList.drop (k + 1), true) := by
  unfold Lib.cut
  rw [Lib.index_one, h, if_pos (by omega)]
  simp

theorem clone_any (s : ByteArray) (w : World) (hs : s.size ≤ 281474976710656) :
    Calls Tryz.prog 193 #[.string s] w fun e w' => e = .returned (.string s) ∧ Below w.heap.size w w' := by
  go_enter Tryz.func193, Tryz.ntmps193
  go_wp2_with fail
  refine (Tryz.stringslite_Clone _ _ hs).mono ?_
  rintro e w1 ⟨rfl, hb⟩
  go_wp2
  go_ret
  exact ⟨rfl, hb⟩

theorem below_draws {B : Nat} {a w : World} (h : Below B a w) (n : Nat) : Below B a (w.drewN n) := ⟨h.os, h.tape, h.output, h.size, h.block⟩

/-- What 'strings.Cut(sealed, ":")' gives. -/
theorem cut_any (s : ByteArray) (w : World) (hs : s.size ≤ 1048576) (hx : HasMax w) :
    Calls Tryz.prog 170 #[.string s, .string ⟨#[58]⟩] w fun e w' => Below w.heap.size w w' ∧
      ((openB s = none ∧ ∃ a b, e = .returned (.tuple #[.string a, .string b, .bool false])) ∨ (∃ k : Nat, openB s = (if sealB (tailB s k) = s then some (tailB s k) else none) ∧ ∃ a, e = .returned (.tuple #[.string a, .string (tailB s k), .bool true]))) := by
  obtain ⟨m, hm⟩ := hx
  refine (Tryz.strings_Cut s ⟨#[58]⟩ m w (by omega) hm).mono ?_
  rintro e w1 ⟨he, n, rfl⟩
  refine ⟨below_draws (Below.refl _ _) _, ?_⟩
  rcases colon_cases s with ⟨h1, ho, -⟩ | ⟨k, h1, _, _, -, ho⟩
  · left
    refine ⟨ho, ?_⟩
    rw [show (⟨#[58]⟩ : ByteArray).data.toList = [58] from rfl, cut_miss s h1] at he
    exact ⟨_, _, he⟩
  · right
    refine ⟨k, ho, ?_⟩
    rw [show (⟨#[58]⟩ : ByteArray).data.toList = [58] from rfl, cut_hit s k h1] at he
    exact ⟨_, he⟩

set_option maxHeartbeats 400000 in
theorem sumUnseal_any (s : ByteArray) (w : World) (hs : s.size ≤ 1048576) (hp : HasPow w) (hx : HasMax w) :
    Calls Tryz.prog 168 #[.string s] w (UnsealPost s w) := by
  have hlp := hp.lt
  have hnot : ∀ (x : Bool) (w : World), (Op.unary .not (.bool x)).run Tryz.prog w = .ok (.bool (!x)) w := fun _ _ => rfl
  go_enter Tryz.func168, Tryz.ntmps168
  go_wp2_with fail
  refine (cut_any _ _ hs hx).mono ?_
  rintro e w1 ⟨hb1, ⟨ho, a, b, rfl⟩ | ⟨k, ho, a, rfl⟩⟩
  · have HO := Lib.hid ho
    clear ho
    go_wp2
    exact ⟨rfl, hb1, Or.inr ⟨HO.out, rfl⟩⟩
  · have HO := Lib.hid ho
    have htz := tailB_size s k
    have HTM := Lib.hid (show (tailB s k).size ≤ maxLen from by unfold maxLen; omega)
    have HTC := Lib.hid (show (tailB s k).size ≤ 281474976710656 from by omega)
    clear ho htz
    go_wp2_with fail
    refine (implSeal_any _ _ HTM.out (hp.below hb1 hlp)).mono ?_
    rintro e w2 ⟨rfl, hb2⟩
    have hb12 : Below w.heap.size w w2 := hb1.trans (hb2.mono hb1.size)
    by_cases he : sealB (tailB s k) = s
    · have HO2 := Lib.hid (show openB s = some (tailB s k) from by rw [HO.out, if_pos he])
      go_wp2_with fail
      refine (clone_any _ _ HTC.out).mono ?_
      rintro e w3 ⟨rfl, hb3⟩
      go_wp2
      go_ret
      exact ⟨hb12.trans (hb3.mono hb12.size), Or.inl ⟨_, HO2.out, rfl⟩⟩
    · have hq := str_ne he
      have HO2 := Lib.hid (show openB s = none from by rw [HO.out, if_neg he])
      clear he
      go_wp2
      exact ⟨rfl, hb12, Or.inr ⟨HO2.out, rfl⟩⟩

theorem openCatch_panicking (p q : Addr) (x : ByteArray) (y : Bool) (u : TypeId) (pv : Value) (older : List PanicEntry) (w : World) (hp : w.cell? p = some (.string x)) (hpf : w.frozen? p = false)
    (hq : w.cell? q = some (.bool y)) (hqf : w.frozen? q = false) (hne : p.block ≠ q.block) :
    CallsD Tryz.prog 167 #[.pointer (some p), .pointer (some q)] (.panicking ({ v := .iface u pv, recovered := false } :: older)) w fun e u' w' =>
      e = .returned (.tuple #[]) ∧ u' = .panicking ({ v := .iface u pv, recovered := true } :: older) ∧ w' = (w.setCell p (.string ⟨#[]⟩)).setCell q (.bool false) := by
  have hq' : (w.setCell p (.string ⟨#[]⟩)).cell? q = some (.bool y) := by
    rw [World.cell?_setCell_other _ _ _ _ (fun e => hne (by rw [e]))]; exact hq
  refine callsD_of_wpS Tryz.func167 rfl fun c₀ cs hu => ?_
  apply wpS_seq
  apply wpS_region
  simp [wpOpsS, go_sem, recoverD, hu, Tryz.ntmps167, Exit.thenS]
  refine wpS_cond (t := true) (by simp [Act.eval, Array.replicate]) ?_
  simp only [if_true]
  apply wpS_region
  simp [wpOpsS, go_sem, hp, hpf, hq', hqf, bodyPostS, results, Tryz.results167]

theorem openCatch_idle (p q : Addr) (w : World) :
    CallsD Tryz.prog 167 #[.pointer (some p), .pointer (some q)] .returning w fun e u' w' => e = .returned (.tuple #[]) ∧ u' = .returning ∧ w' = w := by
  refine callsD_of_wpS Tryz.func167 rfl fun c₀ cs hu => ?_
  apply wpS_seq
  apply wpS_region
  simp [wpOpsS, go_sem, recoverD, hu, Tryz.ntmps167, Exit.thenS]
  refine wpS_cond (t := false) (by simp [Act.eval, Array.replicate]) ?_
  simp only [Bool.false_eq_true, if_false]
  refine wpS_of_wp (wp_skip ?_)
  cases c₀
  simp_all [bodyPostS, results, Tryz.results167]

set_option maxHeartbeats 1000000 in
theorem implOpen_any (s : ByteArray) (w : World) (hs : s.size ≤ 1048576) (hp : HasPow w) (hx : HasMax w) :
    Calls Tryz.prog 112 #[.string s] w (OpenPost s w) := by
  have hmf : ∀ (fn : Fn) (first cap : Array Value) (w : World), (Instr.makeFunc fn first cap).run Tryz.prog w = .ok (.func fn first cap) w := fun _ _ _ _ => rfl
  have hlp := hp.lt
  have hlx := hx.lt
  have H0 := Lib.hid (two_new w (.string ⟨#[]⟩) (.bool false) 9 4)
  go_enter_defers Tryz.func112, Tryz.ntmps112
  go_wp2_with fail
  obtain ⟨c0, f0, c1, f1, hz, hB⟩ := H0.out
  refine (sumUnseal_any _ _ hs (hp.below hB hlp) (hx.below hB hlx)).mono ?_
  generalize (w.alloc (.cells #[.string ⟨#[]⟩] 9)).alloc (.cells #[.bool false] 4) = W at *
  rintro e w1 ⟨hb, h⟩
  have d0 : w1.cell? ⟨w.heap.size, 0, none⟩ = some (.string ⟨#[]⟩) := (hb.cell (by simp; omega)).trans c0
  have d1 : w1.cell? ⟨w.heap.size + 1, 0, none⟩ = some (.bool false) := (hb.cell (by simp; omega)).trans c1
  have e0 : w1.frozen? ⟨w.heap.size, 0, none⟩ = false := (hb.frozen (by simp; omega)).trans f0
  have e1 : w1.frozen? ⟨w.heap.size + 1, 0, none⟩ = false := (hb.frozen (by simp; omega)).trans f1
  have hB1 : Below w.heap.size w w1 := hB.trans (hb.mono (by omega))
  clear c0 c1 f0 f1 hB hb H0 hp hx hz
  rcases h with ⟨t, hu, rfl⟩ | ⟨hu, rfl⟩
  · have HU := Lib.hid hu
    clear hu
    go_wp2
    refine leaves_cons (f := 167) (args := #[.pointer (some ⟨w.heap.size, 0, none⟩), .pointer (some ⟨w.heap.size + 1, 0, none⟩)]) (by simp) (by simp [go_sem]) ?_
    refine (openCatch_idle _ _ _).mono ?_
    rintro e u' w'' ⟨rfl, rfl, rfl⟩
    have g0 : ((w1.setCell ⟨w.heap.size, 0, none⟩ (.string t)).setCell ⟨w.heap.size + 1, 0, none⟩ (.bool true)).cell? ⟨w.heap.size, 0, none⟩ = some (.string t) := by
      rw [World.cell?_setCell_other _ _ _ _ (by simp)]; exact World.cell?_setCell_same _ _ _ d0
    have g1 : ((w1.setCell ⟨w.heap.size, 0, none⟩ (.string t)).setCell ⟨w.heap.size + 1, 0, none⟩ (.bool true)).cell? ⟨w.heap.size + 1, 0, none⟩ = some (.bool true) := by
      refine World.cell?_setCell_same _ _ _ (u := .bool false) ?_
      rw [World.cell?_setCell_other _ _ _ _ (by simp)]; exact d1
    have hB2 := (hB1.setCell (p := ⟨w.heap.size, 0, none⟩) (Nat.le_refl _) (.string t)).setCell (p := ⟨w.heap.size + 1, 0, none⟩) (Nat.le_succ _) (.bool true)
    refine ⟨.tuple #[.string t, .bool true], ?_, hB2, Or.inl ⟨t, HU.out, rfl⟩⟩
    simp [results, Tryz.results112, go_sem, g0, g1]
  · have HU := Lib.hid hu
    clear hu
    go_wp2
    refine leaves_cons (f := 167) (args := #[.pointer (some ⟨w.heap.size, 0, none⟩), .pointer (some ⟨w.heap.size + 1, 0, none⟩)]) (by simp) (by simp [go_sem]) ?_
    refine (openCatch_panicking _ _ _ _ _ _ _ _ d0 e0 d1 e1 (by simp)).mono ?_
    rintro e u' w'' ⟨rfl, rfl, rfl⟩
    have g0 : ((w1.setCell ⟨w.heap.size, 0, none⟩ (.string ⟨#[]⟩)).setCell ⟨w.heap.size + 1, 0, none⟩ (.bool false)).cell? ⟨w.heap.size, 0, none⟩ = some (.string ⟨#[]⟩) := by
      rw [World.cell?_setCell_other _ _ _ _ (by simp)]; exact World.cell?_setCell_same _ _ _ d0
    have g1 : ((w1.setCell ⟨w.heap.size, 0, none⟩ (.string ⟨#[]⟩)).setCell ⟨w.heap.size + 1, 0, none⟩ (.bool false)).cell? ⟨w.heap.size + 1, 0, none⟩ = some (.bool false) := by
      refine World.cell?_setCell_same _ _ _ (u := .bool false) ?_
      rw [World.cell?_setCell_other _ _ _ _ (by simp)]; exact d1
    have hB2 := (hB1.setCell (p := ⟨w.heap.size, 0, none⟩) (Nat.le_refl _) (.string ⟨#[]⟩)).setCell (p := ⟨w.heap.size + 1, 0, none⟩) (Nat.le_succ _) (.bool false)
    refine ⟨.tuple #[.string ⟨#[]⟩, .bool false], ?_, hB2, Or.inr ⟨HU.out, rfl⟩⟩
    simp [results, Tryz.results112, go_sem, g0, g1]
end Go.Proofs.YtgjlhokakcdpbaaGreatDoor

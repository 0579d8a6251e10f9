/-
  The program's reader of hexadecimals: what its inner reader panics with is recovered.
-/
import Derived.Test.YtgjlhokakcdpbaaGreatDoorSumBytes
import Derived.WalkKit
import Derived.ProofKit
import Derived.Lib.Hide
import Derived.WalkSpells
import Derived.WalkSmall
import Derived.Defers
import Derived.Recover
import Derived.Laws.Pointers
set_option maxRecDepth 100000
namespace Go.Proofs.YtgjlhokakcdpbaaGreatDoor
open Go.ChangeShapes Go.WideShapes Go.ChangeAt Go.RowKit Go.Proofs.Palim

theorem unhexCatch_panicking (p q : Addr) (x : ByteArray) (y : Bool) (u : TypeId) (pv : Value) (older : List PanicEntry) (w : World) (hp : w.cell? p = some (.string x)) (hpf : w.frozen? p = false)
    (hq : w.cell? q = some (.bool y)) (hqf : w.frozen? q = false) (hne : p.block ≠ q.block) :
    CallsD Tryz.prog 200 #[.pointer (some p), .pointer (some q)] (.panicking ({ v := .iface u pv, recovered := false } :: older)) w fun e u' w' =>
      e = .returned (.tuple #[]) ∧ u' = .panicking ({ v := .iface u pv, recovered := true } :: older) ∧ w' = (w.setCell p (.string ⟨#[]⟩)).setCell q (.bool false) := by
  have hq' : (w.setCell p (.string ⟨#[]⟩)).cell? q = some (.bool y) := by
    rw [World.cell?_setCell_other _ _ _ _ (fun e => hne (by rw [e]))]; exact hq
  refine callsD_of_wpS Tryz.func200 rfl fun c₀ cs hu => ?_
  apply wpS_seq
  apply wpS_region
  simp [wpOpsS, go_sem, recoverD, hu, Tryz.ntmps200, Exit.thenS]
  refine wpS_cond (t := true) (by simp [Act.eval, Array.replicate]) ?_
  simp only [if_true]
  apply wpS_region
  simp [wpOpsS, go_sem, hp, hpf, hq', hqf, bodyPostS, results, Tryz.results200]

theorem unhexCatch_idle (p q : Addr) (w : World) :
    CallsD Tryz.prog 200 #[.pointer (some p), .pointer (some q)] .returning w fun e u' w' => e = .returned (.tuple #[]) ∧ u' = .returning ∧ w' = w := by
  refine callsD_of_wpS Tryz.func200 rfl fun c₀ cs hu => ?_
  apply wpS_seq
  apply wpS_region
  simp [wpOpsS, go_sem, recoverD, hu, Tryz.ntmps200, Exit.thenS]
  refine wpS_cond (t := false) (by simp [Act.eval, Array.replicate]) ?_
  simp only [Bool.false_eq_true, if_false]
  refine wpS_of_wp (wp_skip ?_)
  cases c₀
  simp_all [bodyPostS, results, Tryz.results200]

def UnhexPost (s : ByteArray) (w : World) (e : Ending) (w' : World) : Prop :=
  Below w.heap.size w w' ∧ ((∃ o, unhex s.data.toList = some o ∧ e = .returned (.tuple #[.string ⟨o.toArray⟩, .bool true])) ∨ (unhex s.data.toList = none ∧ e = .returned (.tuple #[.string ⟨#[]⟩, .bool false])))

/-- Two named results that a closure captures lie in two new blocks. -/
theorem two_new (w : World) (x y : Value) (t u : TypeId) : let W := (w.alloc (.cells #[x] t)).alloc (.cells #[y] u)
    W.cell? ⟨w.heap.size, 0, none⟩ = some x ∧ W.frozen? ⟨w.heap.size, 0, none⟩ = false ∧ W.cell? ⟨w.heap.size + 1, 0, none⟩ = some y ∧ W.frozen? ⟨w.heap.size + 1, 0, none⟩ = false ∧
    W.heap.size = w.heap.size + 2 ∧ Below w.heap.size w W := by
  refine ⟨by simp [go_sem], by simp [go_sem], by simp [go_sem], by simp [go_sem], by simp, ((Below.refl _ _).alloc (Nat.le_refl _) _).alloc (by simp) _⟩

set_option maxHeartbeats 1000000 in
theorem implUnhex_any (s : ByteArray) (w : World) (hs : s.size ≤ 1048576) (hg : HasTab w) :
    Calls Tryz.prog 172 #[.string s] w (UnhexPost s w) := by
  have hmf : ∀ (fn : Fn) (first cap : Array Value) (w : World), (Instr.makeFunc fn first cap).run Tryz.prog w = .ok (.func fn first cap) w := fun _ _ _ _ => rfl
  have hlg := hg.lt
  have H0 := Lib.hid (two_new w (.string ⟨#[]⟩) (.bool false) 9 4)
  go_enter_defers Tryz.func172, Tryz.ntmps172
  go_wp2_with fail
  obtain ⟨c0, f0, c1, f1, hz, hB⟩ := H0.out
  refine (sumBytes_any _ _ hs (hg.below hB hlg)).mono ?_
  generalize (w.alloc (.cells #[.string ⟨#[]⟩] 9)).alloc (.cells #[.bool false] 4) = W at *
  rintro e w1 ⟨hb, h⟩
  have d0 : w1.cell? ⟨w.heap.size, 0, none⟩ = some (.string ⟨#[]⟩) := (hb.cell (by simp; omega)).trans c0
  have d1 : w1.cell? ⟨w.heap.size + 1, 0, none⟩ = some (.bool false) := (hb.cell (by simp; omega)).trans c1
  have e0 : w1.frozen? ⟨w.heap.size, 0, none⟩ = false := (hb.frozen (by simp; omega)).trans f0
  have e1 : w1.frozen? ⟨w.heap.size + 1, 0, none⟩ = false := (hb.frozen (by simp; omega)).trans f1
  have hB1 : Below w.heap.size w w1 := hB.trans (hb.mono (by omega))
  clear c0 c1 f0 f1 hB hb H0 hg hz
  rcases h with ⟨o, hu, rfl⟩ | ⟨hu, rfl⟩
  · have HU := Lib.hid hu
    clear hu
    go_wp2
    refine leaves_cons (f := 200) (args := #[.pointer (some ⟨w.heap.size, 0, none⟩), .pointer (some ⟨w.heap.size + 1, 0, none⟩)]) (by simp) (by simp [go_sem]) ?_
    refine (unhexCatch_idle _ _ _).mono ?_
    rintro e u' w'' ⟨rfl, rfl, rfl⟩
    have g0 : ((w1.setCell ⟨w.heap.size, 0, none⟩ (.string ⟨o.toArray⟩)).setCell ⟨w.heap.size + 1, 0, none⟩ (.bool true)).cell? ⟨w.heap.size, 0, none⟩ = some (.string ⟨o.toArray⟩) := by
      rw [World.cell?_setCell_other _ _ _ _ (by simp)]; exact World.cell?_setCell_same _ _ _ d0
    have g1 : ((w1.setCell ⟨w.heap.size, 0, none⟩ (.string ⟨o.toArray⟩)).setCell ⟨w.heap.size + 1, 0, none⟩ (.bool true)).cell? ⟨w.heap.size + 1, 0, none⟩ = some (.bool true) := by
      refine World.cell?_setCell_same _ _ _ (u := .bool false) ?_
      rw [World.cell?_setCell_other _ _ _ _ (by simp)]; exact d1
    have hB2 := (hB1.setCell (p := ⟨w.heap.size, 0, none⟩) (Nat.le_refl _) (.string ⟨o.toArray⟩)).setCell (p := ⟨w.heap.size + 1, 0, none⟩) (Nat.le_succ _) (.bool true)
    refine ⟨.tuple #[.string ⟨o.toArray⟩, .bool true], ?_, hB2, Or.inl ⟨o, HU.out, rfl⟩⟩
    simp [results, Tryz.results172, go_sem, g0, g1]
  · have HU := Lib.hid hu
    clear hu
    go_wp2
    refine leaves_cons (f := 200) (args := #[.pointer (some ⟨w.heap.size, 0, none⟩), .pointer (some ⟨w.heap.size + 1, 0, none⟩)]) (by simp) (by simp [go_sem]) ?_
    refine (unhexCatch_panicking _ _ _ _ _ _ _ _ d0 e0 d1 e1 (by simp)).mono ?_
    rintro e u' w'' ⟨rfl, rfl, rfl⟩
    have g0 : ((w1.setCell ⟨w.heap.size, 0, none⟩ (.string ⟨#[]⟩)).setCell ⟨w.heap.size + 1, 0, none⟩ (.bool false)).cell? ⟨w.heap.size, 0, none⟩ = some (.string ⟨#[]⟩) := by
      rw [World.cell?_setCell_other _ _ _ _ (by simp)]; exact World.cell?_setCell_same _ _ _ d0
    have g1 : ((w1.setCell ⟨w.heap.size, 0, none⟩ (.string ⟨#[]⟩)).setCell ⟨w.heap.size + 1, 0, none⟩ (.bool false)).cell? ⟨w.heap.size + 1, 0, none⟩ = some (.bool false) := by
      refine World.cell?_setCell_same _ _ _ (u := .bool false) ?_
      rw [World.cell?_setCell_other _ _ _ _ (by simp)]; exact d1
    have hB2 := (hB1.setCell (p := ⟨w.heap.size, 0, none⟩) (Nat.le_refl _) (.string ⟨#[]⟩)).setCell (p := ⟨w.heap.size + 1, 0, none⟩) (Nat.le_succ _) (.bool false)
    refine ⟨.tuple #[.string ⟨#[]⟩, .bool false], ?_, hB2, Or.inr ⟨HU.out, rfl⟩⟩
    simp [results, Tryz.results172, go_sem, g0, g1]
end Go.Proofs.YtgjlhokakcdpbaaGreatDoor

/-
  impl's CoreUberRead: what panics inside is recovered.
-/
import Derived.Test.YtfcfgdpelbljnaaGreatDoorIUber
set_option maxRecDepth 100000
namespace Go.Proofs.YtfcfgdpelbljnaaGreatDoor
open Go.ChangeShapes Go.WideShapes Go.ChangeAt Go.RowKit Go.Proofs.Palim

theorem uberCatch_panicking (P Q R : Nat) (a x y z b : Value) (u : TypeId) (pv : Value) (older : List PanicEntry) (w : World) (hP : Box w P [a]) (hQ : Box w Q [x, y, z]) (hR : Box w R [b]) (hPQ : P ≠ Q) (hPR : P ≠ R) (hQR : Q ≠ R) :
    CallsD Tryz.prog 31 #[.pointer (some ⟨P, 0, none⟩), .pointer (some ⟨Q, 0, none⟩), .pointer (some ⟨R, 0, none⟩)] (.panicking ({ v := .iface u pv, recovered := false } :: older)) w fun e u' w' =>
      e = .returned (.tuple #[]) ∧ u' = .panicking ({ v := .iface u pv, recovered := true } :: older) ∧ w' = ((((w.setCell ⟨P, 0, none⟩ (.int .i64 0)).setCell ⟨Q, 0, none⟩ (.int .i64 0)).setCell ⟨Q, 1, none⟩ (.int .i64 0)).setCell ⟨Q, 2, none⟩ (.int .i64 0)).setCell ⟨R, 0, none⟩ (.bool false) := by
  have p0 := hP.cell 0 rfl
  have pf := hP.open_ 0
  have Q1 := hQ.other (p := ⟨P, 0, none⟩) (Ne.symm hPQ) (.int .i64 0)
  have q0 := Q1.cell 0 rfl
  have qf0 := Q1.open_ 0
  have Q2 := Q1.set 0 (.int .i64 0)
  have q1 := Q2.cell 1 rfl
  have qf1 := Q2.open_ 1
  have Q3 := Q2.set 1 (.int .i64 0)
  have q2 := Q3.cell 2 rfl
  have qf2 := Q3.open_ 2
  have R1 := (((hR.other (p := ⟨P, 0, none⟩) (Ne.symm hPR) (.int .i64 0)).other (p := ⟨Q, 0, none⟩) (Ne.symm hQR) (.int .i64 0)).other (p := ⟨Q, 1, none⟩) (Ne.symm hQR) (.int .i64 0)).other (p := ⟨Q, 2, none⟩) (Ne.symm hQR) (.int .i64 0)
  have r0 := R1.cell 0 rfl
  have rf := R1.open_ 0
  refine callsD_of_wpS Tryz.func31 rfl fun c₀ cs hu => ?_
  apply wpS_seq
  apply wpS_region
  simp [wpOpsS, go_sem, recoverD, hu, Tryz.ntmps31, Exit.thenS]
  refine wpS_cond (t := true) (by simp [Act.eval, Array.replicate]) ?_
  simp only [if_true]
  apply wpS_region
  simp [wpOpsS, go_sem, p0, pf, q0, qf0, q1, qf1, q2, qf2, r0, rf, bodyPostS, results, Tryz.results31]

theorem uberCatch_idle (p q r : Addr) (w : World) :
    CallsD Tryz.prog 31 #[.pointer (some p), .pointer (some q), .pointer (some r)] .returning w fun e u' w' => e = .returned (.tuple #[]) ∧ u' = .returning ∧ w' = w := by
  refine callsD_of_wpS Tryz.func31 rfl fun c₀ cs hu => ?_
  apply wpS_seq
  apply wpS_region
  simp [wpOpsS, go_sem, recoverD, hu, Tryz.ntmps31, Exit.thenS]
  refine wpS_cond (t := false) (by simp [Act.eval, Array.replicate]) ?_
  simp only [Bool.false_eq_true, if_false]
  refine wpS_of_wp (wp_skip ?_)
  cases c₀
  simp_all [bodyPostS, results, Tryz.results31]

set_option maxHeartbeats 2000000 in
theorem implUberRead_any (t : ByteArray) (w : World) (ht : t.size ≤ 1048576) (hv : LibVars w) :
    Calls Tryz.prog 10 #[.string t] w (UReadPost t w) := by
  have hmf : ∀ (fn : Fn) (first cap : Array Value) (w : World), (Instr.makeFunc fn first cap).run Tryz.prog w = .ok (.func fn first cap) w := fun _ _ _ _ => rfl
  obtain ⟨b1, b2, b3, hsz, hB⟩ := box3 w #[.int .i64 0] #[.int .i64 0, .int .i64 0, .int .i64 0] #[.bool false] 3 24 4
  have X1 := Lib.hid b1
  have X2 := Lib.hid b2
  have X3 := Lib.hid b3
  have B0 := Lib.hid hB
  have HV0 := Lib.hid (hv.below hB)
  clear b1 b2 b3 hB hv hsz
  go_enter_defers Tryz.func10, Tryz.ntmps10
  go_wp2_with fail
  refine (uberOf_any t _ ht HV0.out).mono ?_
  rintro e w1 ⟨hb, h⟩
  have Y1 := Lib.hid (X1.out.below hb X1.out.lt)
  have Y2 := Lib.hid (X2.out.below hb X2.out.lt)
  have Y3 := Lib.hid (X3.out.below hb X3.out.lt)
  have B1 := Lib.hid (B0.out.trans (hb.mono B0.out.size))
  clear hb X1 X2 X3 B0 HV0
  rcases h with ⟨n, p, hsp, rfl⟩ | ⟨hno, rfl⟩
  · have HS := Lib.hid hsp
    clear hsp
    have p0 := Y1.out.cell 0 rfl
    have pf := Y1.out.open_ 0
    obtain ⟨q0, q1, q2⟩ := Y2.out.three
    have qf0 := Y2.out.open_ 0
    have qf1 := Y2.out.open_ 1
    have qf2 := Y2.out.open_ 2
    have r0 := Y3.out.cell 0 rfl
    have rf := Y3.out.open_ 0
    go_wp2_with fail
    have Z1 := Lib.hid ((((Y1.out.set 0 (.int .i64 n)).other (p := ⟨w.heap.size + 1, 0, none⟩) (by simp) (.int .i64 p.at_)).other (p := ⟨w.heap.size + 1, 1, none⟩) (by simp) (.int .i64 p.sum)).other (p := ⟨w.heap.size + 1, 2, none⟩) (by simp) (.int .i64 p.birth))
    have Z2 := Lib.hid ((((Y2.out.other (p := ⟨w.heap.size, 0, none⟩) (by simp) (.int .i64 n)).set 0 (.int .i64 p.at_)).set 1 (.int .i64 p.sum)).set 2 (.int .i64 p.birth))
    have Z3 := Lib.hid ((((Y3.out.other (p := ⟨w.heap.size, 0, none⟩) (by simp; omega) (.int .i64 n)).other (p := ⟨w.heap.size + 1, 0, none⟩) (by simp) (.int .i64 p.at_)).other (p := ⟨w.heap.size + 1, 1, none⟩) (by simp) (.int .i64 p.sum)).other (p := ⟨w.heap.size + 1, 2, none⟩) (by simp) (.int .i64 p.birth))
    have B2 := Lib.hid ((((B1.out.setCell (p := ⟨w.heap.size, 0, none⟩) (Nat.le_refl _) (.int .i64 n)).setCell (p := ⟨w.heap.size + 1, 0, none⟩) (Nat.le_succ _) (.int .i64 p.at_)).setCell (p := ⟨w.heap.size + 1, 1, none⟩) (Nat.le_succ _) (.int .i64 p.sum)).setCell (p := ⟨w.heap.size + 1, 2, none⟩) (Nat.le_succ _) (.int .i64 p.birth))
    clear p0 pf q0 q1 q2 qf0 qf1 qf2 r0 rf Y1 Y2 Y3 B1
    generalize ((((w1.setCell ⟨w.heap.size, 0, none⟩ (.int .i64 n)).setCell ⟨w.heap.size + 1, 0, none⟩ (.int .i64 p.at_)).setCell ⟨w.heap.size + 1, 1, none⟩ (.int .i64 p.sum)).setCell ⟨w.heap.size + 1, 2, none⟩ (.int .i64 p.birth)) = W1 at Z1 Z2 Z3 B2 ⊢
    have p0 := Box.cell (vs := [.int .i64 n]) Z1.out 0 rfl
    have pf := Z1.out.open_ 0
    obtain ⟨q0, q1, q2⟩ := Box.three (x := .int .i64 p.at_) (y := .int .i64 p.sum) (z := .int .i64 p.birth) Z2.out
    have qf0 := Z2.out.open_ 0
    have qf1 := Z2.out.open_ 1
    have qf2 := Z2.out.open_ 2
    have r0 := Z3.out.cell 0 rfl
    have rf := Z3.out.open_ 0
    go_region
    all_goals
      go_wp2
      refine leaves_cons (f := 31) (args := #[.pointer (some ⟨w.heap.size, 0, none⟩), .pointer (some ⟨w.heap.size + 1, 0, none⟩), .pointer (some ⟨w.heap.size + 1 + 1, 0, none⟩)]) (by simp) (by simp [go_sem]) ?_
      refine (uberCatch_idle _ _ _ _).mono ?_
      rintro e u' w'' ⟨rfl, rfl, rfl⟩
      have U1 := (((((Box.set (vs := [.int .i64 n]) Z1.out 0 (.int .i64 n)).other (p := ⟨w.heap.size + 1, 0, none⟩) (by simp) (.int .i64 p.at_)).other (p := ⟨w.heap.size + 1, 1, none⟩) (by simp) (.int .i64 p.sum)).other (p := ⟨w.heap.size + 1, 2, none⟩) (by simp) (.int .i64 p.birth)).other (p := ⟨w.heap.size + 1 + 1, 0, none⟩) (by simp; omega) (.bool true)).drew
      have U2 := (((((Box.other (vs := [.int .i64 p.at_, .int .i64 p.sum, .int .i64 p.birth]) Z2.out (p := ⟨w.heap.size, 0, none⟩) (by simp) (.int .i64 n)).set 0 (.int .i64 p.at_)).set 1 (.int .i64 p.sum)).set 2 (.int .i64 p.birth)).other (p := ⟨w.heap.size + 1 + 1, 0, none⟩) (by simp) (.bool true)).drew
      have U3 := (((((Z3.out.other (p := ⟨w.heap.size, 0, none⟩) (by simp; omega) (.int .i64 n)).other (p := ⟨w.heap.size + 1, 0, none⟩) (by simp) (.int .i64 p.at_)).other (p := ⟨w.heap.size + 1, 1, none⟩) (by simp) (.int .i64 p.sum)).other (p := ⟨w.heap.size + 1, 2, none⟩) (by simp) (.int .i64 p.birth)).set 0 (.bool true)).drew
      have z1 := U1.cell 0 rfl
      have z2 := U2.cell 0 rfl
      have z3 := U2.cell 1 rfl
      have z4 := U2.cell 2 rfl
      have z5 := U3.cell 0 rfl
      have hB2 := (((((B2.out.setCell (p := ⟨w.heap.size, 0, none⟩) (Nat.le_refl _) (.int .i64 n)).setCell (p := ⟨w.heap.size + 1, 0, none⟩) (Nat.le_succ _) (.int .i64 p.at_)).setCell (p := ⟨w.heap.size + 1, 1, none⟩) (Nat.le_succ _) (.int .i64 p.sum)).setCell (p := ⟨w.heap.size + 1, 2, none⟩) (Nat.le_succ _) (.int .i64 p.birth)).setCell (p := ⟨w.heap.size + 1 + 1, 0, none⟩) (by simp; omega) (.bool true)).drew
      refine ⟨.tuple #[.int .i64 n, pv p, .bool true], ?_, hB2, Or.inl ⟨n, p, HS.out, rfl⟩⟩
      simp [results, Tryz.results10, go_sem, z1, z2, z3, z4, z5, pv]
  · have HN := Lib.hid hno
    clear hno
    go_wp2
    refine leaves_cons (f := 31) (args := #[.pointer (some ⟨w.heap.size, 0, none⟩), .pointer (some ⟨w.heap.size + 1, 0, none⟩), .pointer (some ⟨w.heap.size + 1 + 1, 0, none⟩)]) (by simp) (by simp [go_sem]) ?_
    refine (uberCatch_panicking _ _ _ _ _ _ _ _ _ _ _ _ Y1.out Y2.out Y3.out (by omega) (by omega) (by omega)).mono ?_
    rintro e u' w'' ⟨rfl, rfl, rfl⟩
    have Z1 := ((((Y1.out.set 0 (.int .i64 0)).other (p := ⟨w.heap.size + 1, 0, none⟩) (by simp) (.int .i64 0)).other (p := ⟨w.heap.size + 1, 1, none⟩) (by simp) (.int .i64 0)).other (p := ⟨w.heap.size + 1, 2, none⟩) (by simp) (.int .i64 0)).other (p := ⟨w.heap.size + 1 + 1, 0, none⟩) (by simp; omega) (.bool false)
    have Z2 := ((((Y2.out.other (p := ⟨w.heap.size, 0, none⟩) (by simp) (.int .i64 0)).set 0 (.int .i64 0)).set 1 (.int .i64 0)).set 2 (.int .i64 0)).other (p := ⟨w.heap.size + 1 + 1, 0, none⟩) (by simp) (.bool false)
    have Z3 := ((((Y3.out.other (p := ⟨w.heap.size, 0, none⟩) (by simp; omega) (.int .i64 0)).other (p := ⟨w.heap.size + 1, 0, none⟩) (by simp) (.int .i64 0)).other (p := ⟨w.heap.size + 1, 1, none⟩) (by simp) (.int .i64 0)).other (p := ⟨w.heap.size + 1, 2, none⟩) (by simp) (.int .i64 0)).set 0 (.bool false)
    have z1 := Z1.cell 0 rfl
    have z2 := Z2.cell 0 rfl
    have z3 := Z2.cell 1 rfl
    have z4 := Z2.cell 2 rfl
    have z5 := Z3.cell 0 rfl
    have hB2 := ((((B1.out.setCell (p := ⟨w.heap.size, 0, none⟩) (Nat.le_refl _) (.int .i64 0)).setCell (p := ⟨w.heap.size + 1, 0, none⟩) (Nat.le_succ _) (.int .i64 0)).setCell (p := ⟨w.heap.size + 1, 1, none⟩) (Nat.le_succ _) (.int .i64 0)).setCell (p := ⟨w.heap.size + 1, 2, none⟩) (Nat.le_succ _) (.int .i64 0)).setCell (p := ⟨w.heap.size + 1 + 1, 0, none⟩) (by simp; omega) (.bool false)
    refine ⟨.tuple #[.int .i64 0, pv noPtr, .bool false], ?_, hB2, Or.inr ⟨HN.out, rfl⟩⟩
    simp [results, Tryz.results10, go_sem, z1, z2, z3, z4, z5, pv, noPtr]
end Go.Proofs.YtfcfgdpelbljnaaGreatDoor

/-
  impl's LogRead: what panics inside is recovered.
-/
import Derived.Test.YtgjlhokakcdpbaaGreatDoorILogU
set_option maxRecDepth 100000
namespace Go.Proofs.YtgjlhokakcdpbaaGreatDoor
open Go.ChangeShapes Go.WideShapes Go.ChangeAt Go.RowKit Go.Proofs.Palim

theorem logCatch_panicking (P Q : Nat) (x0 x1 x2 x3 x4 x5 x6 b : Value) (u : TypeId) (pv : Value) (older : List PanicEntry) (w : World) (hP : Box w P [x0, x1, x2, x3, x4, x5, x6]) (hQ : Box w Q [b]) (hPQ : P ≠ Q) :
    CallsD Tryz.prog 40 #[.pointer (some ⟨P, 0, none⟩), .pointer (some ⟨Q, 0, none⟩)] (.panicking ({ v := .iface u pv, recovered := false } :: older)) w fun e u' w' =>
      e = .returned (.tuple #[]) ∧ u' = .panicking ({ v := .iface u pv, recovered := true } :: older) ∧ w' = (((((((w.setCell ⟨P, 0, none⟩ (.int .i64 0)).setCell ⟨P, 1, none⟩ (.int .i64 0)).setCell ⟨P, 2, none⟩ (.int .i64 0)).setCell ⟨P, 3, none⟩ (.string ⟨#[]⟩)).setCell ⟨P, 4, none⟩ (.string ⟨#[]⟩)).setCell ⟨P, 5, none⟩ (.int .i64 0)).setCell ⟨P, 6, none⟩ (.string ⟨#[]⟩)).setCell ⟨Q, 0, none⟩ (.bool false) := by
  have p0 := hP.cell 0 rfl
  have pf0 := hP.open_ 0
  have P1 := hP.set 0 (.int .i64 0)
  have p1 := P1.cell 1 rfl
  have pf1 := P1.open_ 1
  have P2 := P1.set 1 (.int .i64 0)
  have p2 := P2.cell 2 rfl
  have pf2 := P2.open_ 2
  have P3 := P2.set 2 (.int .i64 0)
  have p3 := P3.cell 3 rfl
  have pf3 := P3.open_ 3
  have P4 := P3.set 3 (.string ⟨#[]⟩)
  have p4 := P4.cell 4 rfl
  have pf4 := P4.open_ 4
  have P5 := P4.set 4 (.string ⟨#[]⟩)
  have p5 := P5.cell 5 rfl
  have pf5 := P5.open_ 5
  have P6 := P5.set 5 (.int .i64 0)
  have p6 := P6.cell 6 rfl
  have pf6 := P6.open_ 6
  have Q1 := (((((((hQ.other (p := ⟨P, 0, none⟩) (Ne.symm hPQ) (.int .i64 0)).other (p := ⟨P, 1, none⟩) (Ne.symm hPQ) (.int .i64 0)).other (p := ⟨P, 2, none⟩) (Ne.symm hPQ) (.int .i64 0)).other (p := ⟨P, 3, none⟩) (Ne.symm hPQ) (.string ⟨#[]⟩)).other (p := ⟨P, 4, none⟩) (Ne.symm hPQ) (.string ⟨#[]⟩)).other (p := ⟨P, 5, none⟩) (Ne.symm hPQ) (.int .i64 0)).other (p := ⟨P, 6, none⟩) (Ne.symm hPQ) (.string ⟨#[]⟩))
  have r0 := Q1.cell 0 rfl
  have rf := Q1.open_ 0
  refine callsD_of_wpS Tryz.func40 rfl fun c₀ cs hu => ?_
  apply wpS_seq
  apply wpS_region
  simp [wpOpsS, go_sem, recoverD, hu, Tryz.ntmps40, Exit.thenS]
  refine wpS_cond (t := true) (by simp [Act.eval, Array.replicate]) ?_
  simp only [if_true]
  apply wpS_region
  simp [wpOpsS, go_sem, p0, pf0, p1, pf1, p2, pf2, p3, pf3, p4, pf4, p5, pf5, p6, pf6, r0, rf, bodyPostS, results, Tryz.results40]
theorem logCatch_idle (p q : Addr) (w : World) :
    CallsD Tryz.prog 40 #[.pointer (some p), .pointer (some q)] .returning w fun e u' w' => e = .returned (.tuple #[]) ∧ u' = .returning ∧ w' = w := by
  refine callsD_of_wpS Tryz.func40 rfl fun c₀ cs hu => ?_
  apply wpS_seq
  apply wpS_region
  simp [wpOpsS, go_sem, recoverD, hu, Tryz.ntmps40, Exit.thenS]
  refine wpS_cond (t := false) (by simp [Act.eval, Array.replicate]) ?_
  simp only [Bool.false_eq_true, if_false]
  refine wpS_of_wp (wp_skip ?_)
  cases c₀
  simp_all [bodyPostS, results, Tryz.results40]
set_option maxHeartbeats 4000000 in
theorem implLogRead_any (t : ByteArray) (w : World) (ht : t.size ≤ 1048576) (hv : LogVars w) :
    Calls Tryz.prog 8 #[.string t] w (LReadPost t w) := by
  have hmf : ∀ (fn : Fn) (first cap : Array Value) (w : World), (Instr.makeFunc fn first cap).run Tryz.prog w = .ok (.func fn first cap) w := fun _ _ _ _ => rfl
  obtain ⟨b1, b2, hsz, hB⟩ := box2 w #[.int .i64 0, .int .i64 0, .int .i64 0, .string ⟨#[]⟩, .string ⟨#[]⟩, .int .i64 0, .string ⟨#[]⟩] #[.bool false] 26 4
  have X1 := Lib.hid b1
  have X2 := Lib.hid b2
  have B0 := Lib.hid hB
  have HV0 := Lib.hid (hv.below hB)
  clear b1 b2 hB hv hsz
  go_enter_defers Tryz.func8, Tryz.ntmps8
  go_wp2_with fail
  refine (logUnseal_any t _ ht HV0.out).mono ?_
  rintro e w1 ⟨hb, h⟩
  have Y1 := Lib.hid (X1.out.below hb X1.out.lt)
  have Y2 := Lib.hid (X2.out.below hb X2.out.lt)
  have B1 := Lib.hid (B0.out.trans (hb.mono B0.out.size))
  clear hb X1 X2 B0 HV0
  rcases h with ⟨r, hsp, rfl⟩ | ⟨hno, rfl⟩
  · have HS := Lib.hid hsp
    clear hsp
    have p0 := Y1.out.cell 0 rfl
    have pf0 := Y1.out.open_ 0
    have p1 := Y1.out.cell 1 rfl
    have pf1 := Y1.out.open_ 1
    have p2 := Y1.out.cell 2 rfl
    have pf2 := Y1.out.open_ 2
    have p3 := Y1.out.cell 3 rfl
    have pf3 := Y1.out.open_ 3
    have p4 := Y1.out.cell 4 rfl
    have pf4 := Y1.out.open_ 4
    have p5 := Y1.out.cell 5 rfl
    have pf5 := Y1.out.open_ 5
    have p6 := Y1.out.cell 6 rfl
    have pf6 := Y1.out.open_ 6
    have q0 := Y2.out.cell 0 rfl
    have qf := Y2.out.open_ 0
    have U1 := ((((((((Y1.out.set 0 (.int .i64 r.txg)).set 1 (.int .i64 r.seq)).set 2 (.int .i64 r.kind)).set 3 (.string r.a)).set 4 (.string r.b)).set 5 (.int .i64 r.i)).set 6 (.string r.text))).other (p := ⟨w.heap.size + 1, 0, none⟩) (by simp) (.bool true)
    have U2 := ((((((((Y2.out.other (p := ⟨w.heap.size, 0, none⟩) (by simp) (.int .i64 r.txg)).other (p := ⟨w.heap.size, 1, none⟩) (by simp) (.int .i64 r.seq)).other (p := ⟨w.heap.size, 2, none⟩) (by simp) (.int .i64 r.kind)).other (p := ⟨w.heap.size, 3, none⟩) (by simp) (.string r.a)).other (p := ⟨w.heap.size, 4, none⟩) (by simp) (.string r.b)).other (p := ⟨w.heap.size, 5, none⟩) (by simp) (.int .i64 r.i)).other (p := ⟨w.heap.size, 6, none⟩) (by simp) (.string r.text))).set 0 (.bool true)
    have hB2 := ((((((((B1.out.setCell (p := ⟨w.heap.size, 0, none⟩) (Nat.le_refl _) (.int .i64 r.txg)).setCell (p := ⟨w.heap.size, 1, none⟩) (Nat.le_refl _) (.int .i64 r.seq)).setCell (p := ⟨w.heap.size, 2, none⟩) (Nat.le_refl _) (.int .i64 r.kind)).setCell (p := ⟨w.heap.size, 3, none⟩) (Nat.le_refl _) (.string r.a)).setCell (p := ⟨w.heap.size, 4, none⟩) (Nat.le_refl _) (.string r.b)).setCell (p := ⟨w.heap.size, 5, none⟩) (Nat.le_refl _) (.int .i64 r.i)).setCell (p := ⟨w.heap.size, 6, none⟩) (Nat.le_refl _) (.string r.text))).setCell (p := ⟨w.heap.size + 1, 0, none⟩) (Nat.le_succ _) (.bool true)
    go_wp2
    refine leaves_cons (f := 40) (args := #[.pointer (some ⟨w.heap.size, 0, none⟩), .pointer (some ⟨w.heap.size + 1, 0, none⟩)]) (by simp) (by simp [go_sem]) ?_
    refine (logCatch_idle _ _ _).mono ?_
    rintro e u' w'' ⟨rfl, rfl, rfl⟩
    have z0 := U1.cell 0 rfl
    have z1 := U1.cell 1 rfl
    have z2 := U1.cell 2 rfl
    have z3 := U1.cell 3 rfl
    have z4 := U1.cell 4 rfl
    have z5 := U1.cell 5 rfl
    have z6 := U1.cell 6 rfl
    have z7 := U2.cell 0 rfl
    refine ⟨.tuple #[rv r, .bool true], ?_, hB2, Or.inl ⟨r, HS.out, rfl⟩⟩
    simp [results, Tryz.results8, go_sem, z0, z1, z2, z3, z4, z5, z6, z7]
  · have HN := Lib.hid hno
    clear hno
    go_wp2
    refine leaves_cons (f := 40) (args := #[.pointer (some ⟨w.heap.size, 0, none⟩), .pointer (some ⟨w.heap.size + 1, 0, none⟩)]) (by simp) (by simp [go_sem]) ?_
    refine (logCatch_panicking _ _ _ _ _ _ _ _ _ _ _ _ _ _ Y1.out Y2.out (by omega)).mono ?_
    rintro e u' w'' ⟨rfl, rfl, rfl⟩
    have U1 := ((((((((Y1.out.set 0 (.int .i64 0)).set 1 (.int .i64 0)).set 2 (.int .i64 0)).set 3 (.string ⟨#[]⟩)).set 4 (.string ⟨#[]⟩)).set 5 (.int .i64 0)).set 6 (.string ⟨#[]⟩))).other (p := ⟨w.heap.size + 1, 0, none⟩) (by simp) (.bool false)
    have U2 := ((((((((Y2.out.other (p := ⟨w.heap.size, 0, none⟩) (by simp) (.int .i64 0)).other (p := ⟨w.heap.size, 1, none⟩) (by simp) (.int .i64 0)).other (p := ⟨w.heap.size, 2, none⟩) (by simp) (.int .i64 0)).other (p := ⟨w.heap.size, 3, none⟩) (by simp) (.string ⟨#[]⟩)).other (p := ⟨w.heap.size, 4, none⟩) (by simp) (.string ⟨#[]⟩)).other (p := ⟨w.heap.size, 5, none⟩) (by simp) (.int .i64 0)).other (p := ⟨w.heap.size, 6, none⟩) (by simp) (.string ⟨#[]⟩))).set 0 (.bool false)
    have hB2 := ((((((((B1.out.setCell (p := ⟨w.heap.size, 0, none⟩) (Nat.le_refl _) (.int .i64 0)).setCell (p := ⟨w.heap.size, 1, none⟩) (Nat.le_refl _) (.int .i64 0)).setCell (p := ⟨w.heap.size, 2, none⟩) (Nat.le_refl _) (.int .i64 0)).setCell (p := ⟨w.heap.size, 3, none⟩) (Nat.le_refl _) (.string ⟨#[]⟩)).setCell (p := ⟨w.heap.size, 4, none⟩) (Nat.le_refl _) (.string ⟨#[]⟩)).setCell (p := ⟨w.heap.size, 5, none⟩) (Nat.le_refl _) (.int .i64 0)).setCell (p := ⟨w.heap.size, 6, none⟩) (Nat.le_refl _) (.string ⟨#[]⟩))).setCell (p := ⟨w.heap.size + 1, 0, none⟩) (Nat.le_succ _) (.bool false)
    have z0 := U1.cell 0 rfl
    have z1 := U1.cell 1 rfl
    have z2 := U1.cell 2 rfl
    have z3 := U1.cell 3 rfl
    have z4 := U1.cell 4 rfl
    have z5 := U1.cell 5 rfl
    have z6 := U1.cell 6 rfl
    have z7 := U2.cell 0 rfl
    refine ⟨.tuple #[rv noRec, .bool false], ?_, hB2, Or.inr ⟨HN.out, rfl⟩⟩
    simp [results, Tryz.results8, go_sem, z0, z1, z2, z3, z4, z5, z6, z7]
end Go.Proofs.YtgjlhokakcdpbaaGreatDoor

/-
  A drawn record.
-/
import Derived.Test.YtgjlhokakcdpbaaGreatDoorDraws
import Derived.Test.YtgjlhokakcdpbaaGreatDoorLogM
set_option maxRecDepth 100000
namespace Go.Proofs.YtgjlhokakcdpbaaGreatDoor
open Go.ChangeShapes Go.WideShapes Go.ChangeAt Go.RowKit Go.Proofs.Palim

/-- How long the texts of a drawn record are. -/
def RecSmall (r : RecM) : Prop := r.a.size ≤ 3 ∧ r.b.size ≤ 1 ∧ r.text.size ≤ 25
def DLPost (w : World) (g k : Nat) (e : Ending) (w' : World) : Prop :=
  ∃ (r : RecM) (k' : Nat), e = .returned (rv r) ∧ RecSmall r ∧ w.grownBy w' (some g) ∧ Rd w' g k' ∧ k' ≤ k + 40
def nameBits : List ByteArray := [⟨#[97]⟩, ⟨#[98]⟩, ⟨#[99]⟩, ⟨#[100]⟩, ⟨#[101]⟩, ⟨#[102]⟩, ⟨#[103]⟩, ⟨#[118, 111, 108]⟩]
theorem nameBits_size : ∀ s ∈ nameBits, s.size ≤ 3 := by decide
theorem l4Name_any (g k : Nat) (w : World) (hr : Rd w g k) (hk : k ≤ 900000) :
    Calls Tryz.prog 102 #[.pointer (some ⟨g, 0, none⟩)] w fun e w' => ∃ s : ByteArray, s.size ≤ 3 ∧ e = .returned (.string s) ∧ w.grownBy w' (some g) ∧ Rd w' g (k + 1) := by
  have hg := hr.lt
  have HR := Lib.hid (hr.alloc (.cells (scs nameBits).toArray 9))
  have HG := Lib.hid (grown_alloc (World.grownBy.refl w (some g)) (.cells (scs nameBits).toArray 9))
  clear hr
  go_enter Tryz.func102, Tryz.ntmps102
  go_wp2_with fail
  refine (ofO g k w.heap.size 8 nameBits 9 (0, 0) _ HR.out (by omega) (heap_alloc_new w _) (by omega) rfl (by omega) (by omega)).mono ?_
  rintro e w1 ⟨s, hs, rfl, hg1, hr1⟩
  have HS := Lib.hid (nameBits_size s hs)
  have HR1 := Lib.hid hr1
  have HG1 := Lib.hid (grownR_trans HG.out hg1)
  clear hs hr1 hg1
  go_wp2
  go_ret
  exact ⟨s, HS.out, rfl, HG1.out, HR1.out⟩
def badNames : List ByteArray := [⟨#[]⟩, ⟨#[65]⟩, ⟨#[97, 32, 98]⟩]
theorem badNames_size : ∀ s ∈ badNames, s.size ≤ 3 := by decide

set_option maxHeartbeats 8000000 in
theorem l9Drawn_any (g k : Nat) (w : World) (hr : Rd w g k) (hk : k ≤ 800000) :
    Calls Tryz.prog 35 #[.pointer (some ⟨g, 0, none⟩)] w (DLPost w g k) := by
  have hg := hr.lt
  have X0 := Lib.hid (box_new w #[.int .i64 0, .int .i64 0, .int .i64 0, .string ⟨#[]⟩, .string ⟨#[]⟩, .int .i64 0, .string ⟨#[]⟩] 26)
  have R0 := Lib.hid (hr.alloc (.cells #[.int .i64 0, .int .i64 0, .int .i64 0, .string ⟨#[]⟩, .string ⟨#[]⟩, .int .i64 0, .string ⟨#[]⟩] 26))
  have G0 := Lib.hid (grown_alloc (World.grownBy.refl w (some g)) (.cells #[.int .i64 0, .int .i64 0, .int .i64 0, .string ⟨#[]⟩, .string ⟨#[]⟩, .int .i64 0, .string ⟨#[]⟩] 26))
  have hw0 : w.heap.size + 1 ≤ (w.alloc (.cells #[.int .i64 0, .int .i64 0, .int .i64 0, .string ⟨#[]⟩, .string ⟨#[]⟩, .int .i64 0, .string ⟨#[]⟩] 26)).heap.size := by simp
  clear hr
  go_enter Tryz.func35, Tryz.ntmps35
  go_wp2_with fail
  refine (pickO g k 9 _ R0.out (by omega) (by omega) (by omega)).mono ?_
  rintro e w1 ⟨p1, hp1, rfl, hg1, hr1⟩
  have X1 := Lib.hid (box_grownR X0.out hg1 (by omega))
  have R1 := Lib.hid hr1
  have G1 := Lib.hid (grownR_trans G0.out hg1)
  have hw1 : w.heap.size + 1 ≤ w1.heap.size := Nat.le_trans hw0 hg1.size
  have e1 : IntKind.i64.wrap (1 + (p1 : Int)) = 1 + (p1 : Int) := IntWalk.i64_in _ (by omega)
  clear hg1 hr1 X0 R0 G0 hw0
  go_wp2_with fail
  refine (pickO g (k + 1) 8 _ R1.out (by omega) (by omega) (by omega)).mono ?_
  rintro e w2 ⟨p2, hp2, rfl, hg2, hr2⟩
  have X2 := Lib.hid (box_grownR X1.out hg2 (by omega))
  have R2 := Lib.hid hr2
  have G2 := Lib.hid (grownR_trans G1.out hg2)
  have hw2 : w.heap.size + 1 ≤ w2.heap.size := Nat.le_trans hw1 hg2.size
  clear hg2 hr2 X1 R1 G1 hw1
  go_wp2_with fail
  refine (l4Name_any g (k + 1 + 1) _ R2.out (by omega)).mono ?_
  rintro e w3 ⟨s3, hs3, rfl, hg3, hr3⟩
  have X3 := Lib.hid (box_grownR X2.out hg3 (by omega))
  have R3 := Lib.hid hr3
  have G3 := Lib.hid (grownR_trans G2.out hg3)
  have hw3 : w.heap.size + 1 ≤ w3.heap.size := Nat.le_trans hw2 hg3.size
  clear hg3 hr3 X2 R2 G2 hw2
  go_wp2_with fail
  refine (pickO g (k + 1 + 1 + 1) 8 _ R3.out (by omega) (by omega) (by omega)).mono ?_
  rintro e w4 ⟨p4, hp4, rfl, hg4, hr4⟩
  have X4 := Lib.hid (box_grownR X3.out hg4 (by omega))
  have R4 := Lib.hid hr4
  have G4 := Lib.hid (grownR_trans G3.out hg4)
  have hw4 : w.heap.size + 1 ≤ w4.heap.size := Nat.le_trans hw3 hg4.size
  clear hg4 hr4 X3 R3 G3 hw3
  go_wp2_with fail
  refine (l1Text_any g (k + 1 + 1 + 1 + 1) _ R4.out (by omega)).mono ?_
  rintro e w5 ⟨s5, k5, hs5, hk5, rfl, hg5, hr5⟩
  have X5 := Lib.hid ((box_grownR X4.out hg5 (by omega)).alloc (.cells #[.int .i64 (1 + (p1 : Int)), .int .i64 (p2 : Int), .int .i64 3, .string s3, .string ⟨#[]⟩, .int .i64 (p4 : Int), .string s5] 26))
  have Y5 := Lib.hid (box_new w5 #[.int .i64 (1 + (p1 : Int)), .int .i64 (p2 : Int), .int .i64 3, .string s3, .string ⟨#[]⟩, .int .i64 (p4 : Int), .string s5] 26)
  have R5 := Lib.hid (hr5.alloc (.cells #[.int .i64 (1 + (p1 : Int)), .int .i64 (p2 : Int), .int .i64 3, .string s3, .string ⟨#[]⟩, .int .i64 (p4 : Int), .string s5] 26))
  have G5 := Lib.hid (grown_alloc (grownR_trans G4.out hg5) (.cells #[.int .i64 (1 + (p1 : Int)), .int .i64 (p2 : Int), .int .i64 3, .string s3, .string ⟨#[]⟩, .int .i64 (p4 : Int), .string s5] 26))
  have hw5 : w.heap.size + 1 ≤ w5.heap.size := Nat.le_trans hw4 hg5.size
  clear hg5 hr5 X4 R4 G4 hw4
  go_wp2_with fail
  refine (pickO g k5 28 _ R5.out (by omega) (by omega) (by omega)).mono ?_
  rintro e w6 ⟨j, hj, rfl, hg6, hr6⟩
  have X6 := Lib.hid (box_grownR X5.out hg6 (by omega))
  have Y6 := Lib.hid (box_grownR Y5.out hg6 (by omega))
  have R6 := Lib.hid hr6
  have G6 := Lib.hid (grownR_trans G5.out hg6)
  have hw6 : w5.heap.size + 1 ≤ w6.heap.size := by have := hg6.size; simp at this; omega
  clear hg6 hr6 X5 R5 G5 Y5
  rcases (show j = 0 ∨ j = 1 ∨ j = 2 ∨ j = 3 ∨ j = 4 ∨ j = 5 ∨ j = 6 ∨ 7 ≤ j by omega) with rfl | rfl | rfl | rfl | rfl | rfl | rfl | h7
  · have R6a := Lib.hid (R6.out.alloc (.cells (ics [0, -1, 1000000, 1000001]).toArray 3))
    have X6a := Lib.hid (X6.out.alloc (.cells (ics [0, -1, 1000000, 1000001]).toArray 3))
    have Y6a := Lib.hid (Y6.out.alloc (.cells (ics [0, -1, 1000000, 1000001]).toArray 3))
    have G6a := Lib.hid (grown_alloc G6.out (.cells (ics [0, -1, 1000000, 1000001]).toArray 3))
    go_wp2_with fail
    refine (numO g (k5 + 1) w6.heap.size 4 [0, -1, 1000000, 1000001] 3 (0, 0) _ R6a.out (by omega) (heap_alloc_new w6 _) (by omega) rfl (by omega) (by omega)).mono ?_
    rintro e w7 ⟨v7, hv7, rfl, hg7, hr7⟩
    have X7 := Lib.hid (box_grownR X6a.out hg7 (by omega))
    have Y7 := Lib.hid (box_grownR Y6a.out hg7 (by omega))
    have R7 := Lib.hid hr7
    have G7 := Lib.hid (grownR_trans G6a.out hg7)
    clear hg7 hr7 hv7 X6a Y6a R6a G6a
    clear X6 Y6 R6 G6
    have cc := Y7.out.cell 0 rfl
    have ff := Y7.out.open_ 0
    have Y8 := Lib.hid (show Box _ w5.heap.size [.int .i64 v7, .int .i64 (p2 : Int), .int .i64 3, .string s3, .string ⟨#[]⟩, .int .i64 (p4 : Int), .string s5] from Y7.out.set 0 (.int .i64 v7))
    have X8 := Lib.hid (X7.out.other (p := ⟨w5.heap.size, 0, none⟩) (by simp; omega) (.int .i64 v7))
    have R8 := Lib.hid (Rd.setR R7.out (show g < w5.heap.size by omega) 0 (.int .i64 v7))
    have G8 := Lib.hid (grownR_set G7.out (show w.heap.size ≤ w5.heap.size by omega) 0 (.int .i64 v7))
    clear X7 Y7 R7 G7
    have a0 := Y8.out.cell 0 rfl
    have a1 := Y8.out.cell 1 rfl
    have a2 := Y8.out.cell 2 rfl
    have a3 := Y8.out.cell 3 rfl
    have a4 := Y8.out.cell 4 rfl
    have a5 := Y8.out.cell 5 rfl
    have a6 := Y8.out.cell 6 rfl
    have c0 := X8.out.cell 0 rfl
    have c1 := X8.out.cell 1 rfl
    have c2 := X8.out.cell 2 rfl
    have c3 := X8.out.cell 3 rfl
    have c4 := X8.out.cell 4 rfl
    have c5 := X8.out.cell 5 rfl
    have c6 := X8.out.cell 6 rfl
    have f0 := X8.out.open_ 0
    have f1 := X8.out.open_ 1
    have f2 := X8.out.open_ 2
    have f3 := X8.out.open_ 3
    have f4 := X8.out.open_ 4
    have f5 := X8.out.open_ 5
    have f6 := X8.out.open_ 6
    have XE := Lib.hid (show Box _ w.heap.size [.int .i64 v7, .int .i64 (p2 : Int), .int .i64 3, .string s3, .string ⟨#[]⟩, .int .i64 (p4 : Int), .string s5] from (((((((X8.out.set 0 (.int .i64 v7)).set 1 (.int .i64 (p2 : Int))).set 2 (.int .i64 3)).set 3 (.string s3)).set 4 (.string ⟨#[]⟩)).set 5 (.int .i64 (p4 : Int))).set 6 (.string s5)))
    have GE := Lib.hid (grownR_set (grownR_set (grownR_set (grownR_set (grownR_set (grownR_set (grownR_set G8.out (Nat.le_refl _) 0 (.int .i64 v7)) (Nat.le_refl _) 1 (.int .i64 (p2 : Int))) (Nat.le_refl _) 2 (.int .i64 3)) (Nat.le_refl _) 3 (.string s3)) (Nat.le_refl _) 4 (.string ⟨#[]⟩)) (Nat.le_refl _) 5 (.int .i64 (p4 : Int))) (Nat.le_refl _) 6 (.string s5))
    have RE := Lib.hid (Rd.setR (Rd.setR (Rd.setR (Rd.setR (Rd.setR (Rd.setR (Rd.setR R8.out hg 0 (.int .i64 v7)) hg 1 (.int .i64 (p2 : Int))) hg 2 (.int .i64 3)) hg 3 (.string s3)) hg 4 (.string ⟨#[]⟩)) hg 5 (.int .i64 (p4 : Int))) hg 6 (.string s5))
    go_wp2
    have y0 := XE.out.cell 0 rfl
    have y1 := XE.out.cell 1 rfl
    have y2 := XE.out.cell 2 rfl
    have y3 := XE.out.cell 3 rfl
    have y4 := XE.out.cell 4 rfl
    have y5 := XE.out.cell 5 rfl
    have y6 := XE.out.cell 6 rfl
    refine bodyPost_ret (v := rv ⟨v7, (p2 : Int), 3, s3, ⟨#[]⟩, (p4 : Int), s5⟩) ?_ rfl ⟨_, _, rfl, ⟨hs3, by show 0 ≤ 1; omega, by simp only; omega⟩, GE.out, RE.out, by omega⟩
    simp [results, Tryz.results35, go_sem, y0, y1, y2, y3, y4, y5, y6]
  · have R6a := Lib.hid (R6.out.alloc (.cells (ics [-1, 8]).toArray 3))
    have X6a := Lib.hid (X6.out.alloc (.cells (ics [-1, 8]).toArray 3))
    have Y6a := Lib.hid (Y6.out.alloc (.cells (ics [-1, 8]).toArray 3))
    have G6a := Lib.hid (grown_alloc G6.out (.cells (ics [-1, 8]).toArray 3))
    go_wp2_with fail
    refine (numO g (k5 + 1) w6.heap.size 2 [-1, 8] 3 (0, 0) _ R6a.out (by omega) (heap_alloc_new w6 _) (by omega) rfl (by omega) (by omega)).mono ?_
    rintro e w7 ⟨v7, hv7, rfl, hg7, hr7⟩
    have X7 := Lib.hid (box_grownR X6a.out hg7 (by omega))
    have Y7 := Lib.hid (box_grownR Y6a.out hg7 (by omega))
    have R7 := Lib.hid hr7
    have G7 := Lib.hid (grownR_trans G6a.out hg7)
    clear hg7 hr7 hv7 X6a Y6a R6a G6a
    clear X6 Y6 R6 G6
    have cc := Y7.out.cell 1 rfl
    have ff := Y7.out.open_ 1
    have Y8 := Lib.hid (show Box _ w5.heap.size [.int .i64 (1 + (p1 : Int)), .int .i64 v7, .int .i64 3, .string s3, .string ⟨#[]⟩, .int .i64 (p4 : Int), .string s5] from Y7.out.set 1 (.int .i64 v7))
    have X8 := Lib.hid (X7.out.other (p := ⟨w5.heap.size, 1, none⟩) (by simp; omega) (.int .i64 v7))
    have R8 := Lib.hid (Rd.setR R7.out (show g < w5.heap.size by omega) 1 (.int .i64 v7))
    have G8 := Lib.hid (grownR_set G7.out (show w.heap.size ≤ w5.heap.size by omega) 1 (.int .i64 v7))
    clear X7 Y7 R7 G7
    have a0 := Y8.out.cell 0 rfl
    have a1 := Y8.out.cell 1 rfl
    have a2 := Y8.out.cell 2 rfl
    have a3 := Y8.out.cell 3 rfl
    have a4 := Y8.out.cell 4 rfl
    have a5 := Y8.out.cell 5 rfl
    have a6 := Y8.out.cell 6 rfl
    have c0 := X8.out.cell 0 rfl
    have c1 := X8.out.cell 1 rfl
    have c2 := X8.out.cell 2 rfl
    have c3 := X8.out.cell 3 rfl
    have c4 := X8.out.cell 4 rfl
    have c5 := X8.out.cell 5 rfl
    have c6 := X8.out.cell 6 rfl
    have f0 := X8.out.open_ 0
    have f1 := X8.out.open_ 1
    have f2 := X8.out.open_ 2
    have f3 := X8.out.open_ 3
    have f4 := X8.out.open_ 4
    have f5 := X8.out.open_ 5
    have f6 := X8.out.open_ 6
    have XE := Lib.hid (show Box _ w.heap.size [.int .i64 (1 + (p1 : Int)), .int .i64 v7, .int .i64 3, .string s3, .string ⟨#[]⟩, .int .i64 (p4 : Int), .string s5] from (((((((X8.out.set 0 (.int .i64 (1 + (p1 : Int)))).set 1 (.int .i64 v7)).set 2 (.int .i64 3)).set 3 (.string s3)).set 4 (.string ⟨#[]⟩)).set 5 (.int .i64 (p4 : Int))).set 6 (.string s5)))
    have GE := Lib.hid (grownR_set (grownR_set (grownR_set (grownR_set (grownR_set (grownR_set (grownR_set G8.out (Nat.le_refl _) 0 (.int .i64 (1 + (p1 : Int)))) (Nat.le_refl _) 1 (.int .i64 v7)) (Nat.le_refl _) 2 (.int .i64 3)) (Nat.le_refl _) 3 (.string s3)) (Nat.le_refl _) 4 (.string ⟨#[]⟩)) (Nat.le_refl _) 5 (.int .i64 (p4 : Int))) (Nat.le_refl _) 6 (.string s5))
    have RE := Lib.hid (Rd.setR (Rd.setR (Rd.setR (Rd.setR (Rd.setR (Rd.setR (Rd.setR R8.out hg 0 (.int .i64 (1 + (p1 : Int)))) hg 1 (.int .i64 v7)) hg 2 (.int .i64 3)) hg 3 (.string s3)) hg 4 (.string ⟨#[]⟩)) hg 5 (.int .i64 (p4 : Int))) hg 6 (.string s5))
    go_wp2
    have y0 := XE.out.cell 0 rfl
    have y1 := XE.out.cell 1 rfl
    have y2 := XE.out.cell 2 rfl
    have y3 := XE.out.cell 3 rfl
    have y4 := XE.out.cell 4 rfl
    have y5 := XE.out.cell 5 rfl
    have y6 := XE.out.cell 6 rfl
    refine bodyPost_ret (v := rv ⟨1 + (p1 : Int), v7, 3, s3, ⟨#[]⟩, (p4 : Int), s5⟩) ?_ rfl ⟨_, _, rfl, ⟨hs3, by show 0 ≤ 1; omega, by simp only; omega⟩, GE.out, RE.out, by omega⟩
    simp [results, Tryz.results35, go_sem, y0, y1, y2, y3, y4, y5, y6]
  · have R6a := Lib.hid (R6.out.alloc (.cells (ics [1, 0]).toArray 3))
    have X6a := Lib.hid (X6.out.alloc (.cells (ics [1, 0]).toArray 3))
    have Y6a := Lib.hid (Y6.out.alloc (.cells (ics [1, 0]).toArray 3))
    have G6a := Lib.hid (grown_alloc G6.out (.cells (ics [1, 0]).toArray 3))
    go_wp2_with fail
    refine (numO g (k5 + 1) w6.heap.size 2 [1, 0] 3 (0, 0) _ R6a.out (by omega) (heap_alloc_new w6 _) (by omega) rfl (by omega) (by omega)).mono ?_
    rintro e w7 ⟨v7, hv7, rfl, hg7, hr7⟩
    have X7 := Lib.hid (box_grownR X6a.out hg7 (by omega))
    have Y7 := Lib.hid (box_grownR Y6a.out hg7 (by omega))
    have R7 := Lib.hid hr7
    have G7 := Lib.hid (grownR_trans G6a.out hg7)
    clear hg7 hr7 hv7 X6a Y6a R6a G6a
    clear X6 Y6 R6 G6
    have cc := Y7.out.cell 2 rfl
    have ff := Y7.out.open_ 2
    have Y8 := Lib.hid (show Box _ w5.heap.size [.int .i64 (1 + (p1 : Int)), .int .i64 (p2 : Int), .int .i64 v7, .string s3, .string ⟨#[]⟩, .int .i64 (p4 : Int), .string s5] from Y7.out.set 2 (.int .i64 v7))
    have X8 := Lib.hid (X7.out.other (p := ⟨w5.heap.size, 2, none⟩) (by simp; omega) (.int .i64 v7))
    have R8 := Lib.hid (Rd.setR R7.out (show g < w5.heap.size by omega) 2 (.int .i64 v7))
    have G8 := Lib.hid (grownR_set G7.out (show w.heap.size ≤ w5.heap.size by omega) 2 (.int .i64 v7))
    clear X7 Y7 R7 G7
    have a0 := Y8.out.cell 0 rfl
    have a1 := Y8.out.cell 1 rfl
    have a2 := Y8.out.cell 2 rfl
    have a3 := Y8.out.cell 3 rfl
    have a4 := Y8.out.cell 4 rfl
    have a5 := Y8.out.cell 5 rfl
    have a6 := Y8.out.cell 6 rfl
    have c0 := X8.out.cell 0 rfl
    have c1 := X8.out.cell 1 rfl
    have c2 := X8.out.cell 2 rfl
    have c3 := X8.out.cell 3 rfl
    have c4 := X8.out.cell 4 rfl
    have c5 := X8.out.cell 5 rfl
    have c6 := X8.out.cell 6 rfl
    have f0 := X8.out.open_ 0
    have f1 := X8.out.open_ 1
    have f2 := X8.out.open_ 2
    have f3 := X8.out.open_ 3
    have f4 := X8.out.open_ 4
    have f5 := X8.out.open_ 5
    have f6 := X8.out.open_ 6
    have XE := Lib.hid (show Box _ w.heap.size [.int .i64 (1 + (p1 : Int)), .int .i64 (p2 : Int), .int .i64 v7, .string s3, .string ⟨#[]⟩, .int .i64 (p4 : Int), .string s5] from (((((((X8.out.set 0 (.int .i64 (1 + (p1 : Int)))).set 1 (.int .i64 (p2 : Int))).set 2 (.int .i64 v7)).set 3 (.string s3)).set 4 (.string ⟨#[]⟩)).set 5 (.int .i64 (p4 : Int))).set 6 (.string s5)))
    have GE := Lib.hid (grownR_set (grownR_set (grownR_set (grownR_set (grownR_set (grownR_set (grownR_set G8.out (Nat.le_refl _) 0 (.int .i64 (1 + (p1 : Int)))) (Nat.le_refl _) 1 (.int .i64 (p2 : Int))) (Nat.le_refl _) 2 (.int .i64 v7)) (Nat.le_refl _) 3 (.string s3)) (Nat.le_refl _) 4 (.string ⟨#[]⟩)) (Nat.le_refl _) 5 (.int .i64 (p4 : Int))) (Nat.le_refl _) 6 (.string s5))
    have RE := Lib.hid (Rd.setR (Rd.setR (Rd.setR (Rd.setR (Rd.setR (Rd.setR (Rd.setR R8.out hg 0 (.int .i64 (1 + (p1 : Int)))) hg 1 (.int .i64 (p2 : Int))) hg 2 (.int .i64 v7)) hg 3 (.string s3)) hg 4 (.string ⟨#[]⟩)) hg 5 (.int .i64 (p4 : Int))) hg 6 (.string s5))
    go_wp2
    have y0 := XE.out.cell 0 rfl
    have y1 := XE.out.cell 1 rfl
    have y2 := XE.out.cell 2 rfl
    have y3 := XE.out.cell 3 rfl
    have y4 := XE.out.cell 4 rfl
    have y5 := XE.out.cell 5 rfl
    have y6 := XE.out.cell 6 rfl
    refine bodyPost_ret (v := rv ⟨1 + (p1 : Int), (p2 : Int), v7, s3, ⟨#[]⟩, (p4 : Int), s5⟩) ?_ rfl ⟨_, _, rfl, ⟨hs3, by show 0 ≤ 1; omega, by simp only; omega⟩, GE.out, RE.out, by omega⟩
    simp [results, Tryz.results35, go_sem, y0, y1, y2, y3, y4, y5, y6]
  · have R6a := Lib.hid (R6.out.alloc (.cells (scs badNames).toArray 9))
    have X6a := Lib.hid (X6.out.alloc (.cells (scs badNames).toArray 9))
    have Y6a := Lib.hid (Y6.out.alloc (.cells (scs badNames).toArray 9))
    have G6a := Lib.hid (grown_alloc G6.out (.cells (scs badNames).toArray 9))
    go_wp2_with fail
    refine (ofO g (k5 + 1) w6.heap.size 3 badNames 9 (0, 0) _ R6a.out (by omega) (heap_alloc_new w6 _) (by omega) rfl (by omega) (by omega)).mono ?_
    rintro e w7 ⟨v7, hv7, rfl, hg7, hr7⟩
    have hz7 := badNames_size v7 hv7
    have X7 := Lib.hid (box_grownR X6a.out hg7 (by omega))
    have Y7 := Lib.hid (box_grownR Y6a.out hg7 (by omega))
    have R7 := Lib.hid hr7
    have G7 := Lib.hid (grownR_trans G6a.out hg7)
    clear hg7 hr7 hv7 X6a Y6a R6a G6a
    clear X6 Y6 R6 G6
    have cc := Y7.out.cell 3 rfl
    have ff := Y7.out.open_ 3
    have Y8 := Lib.hid (show Box _ w5.heap.size [.int .i64 (1 + (p1 : Int)), .int .i64 (p2 : Int), .int .i64 3, .string v7, .string ⟨#[]⟩, .int .i64 (p4 : Int), .string s5] from Y7.out.set 3 (.string v7))
    have X8 := Lib.hid (X7.out.other (p := ⟨w5.heap.size, 3, none⟩) (by simp; omega) (.string v7))
    have R8 := Lib.hid (Rd.setR R7.out (show g < w5.heap.size by omega) 3 (.string v7))
    have G8 := Lib.hid (grownR_set G7.out (show w.heap.size ≤ w5.heap.size by omega) 3 (.string v7))
    clear X7 Y7 R7 G7
    have a0 := Y8.out.cell 0 rfl
    have a1 := Y8.out.cell 1 rfl
    have a2 := Y8.out.cell 2 rfl
    have a3 := Y8.out.cell 3 rfl
    have a4 := Y8.out.cell 4 rfl
    have a5 := Y8.out.cell 5 rfl
    have a6 := Y8.out.cell 6 rfl
    have c0 := X8.out.cell 0 rfl
    have c1 := X8.out.cell 1 rfl
    have c2 := X8.out.cell 2 rfl
    have c3 := X8.out.cell 3 rfl
    have c4 := X8.out.cell 4 rfl
    have c5 := X8.out.cell 5 rfl
    have c6 := X8.out.cell 6 rfl
    have f0 := X8.out.open_ 0
    have f1 := X8.out.open_ 1
    have f2 := X8.out.open_ 2
    have f3 := X8.out.open_ 3
    have f4 := X8.out.open_ 4
    have f5 := X8.out.open_ 5
    have f6 := X8.out.open_ 6
    have XE := Lib.hid (show Box _ w.heap.size [.int .i64 (1 + (p1 : Int)), .int .i64 (p2 : Int), .int .i64 3, .string v7, .string ⟨#[]⟩, .int .i64 (p4 : Int), .string s5] from (((((((X8.out.set 0 (.int .i64 (1 + (p1 : Int)))).set 1 (.int .i64 (p2 : Int))).set 2 (.int .i64 3)).set 3 (.string v7)).set 4 (.string ⟨#[]⟩)).set 5 (.int .i64 (p4 : Int))).set 6 (.string s5)))
    have GE := Lib.hid (grownR_set (grownR_set (grownR_set (grownR_set (grownR_set (grownR_set (grownR_set G8.out (Nat.le_refl _) 0 (.int .i64 (1 + (p1 : Int)))) (Nat.le_refl _) 1 (.int .i64 (p2 : Int))) (Nat.le_refl _) 2 (.int .i64 3)) (Nat.le_refl _) 3 (.string v7)) (Nat.le_refl _) 4 (.string ⟨#[]⟩)) (Nat.le_refl _) 5 (.int .i64 (p4 : Int))) (Nat.le_refl _) 6 (.string s5))
    have RE := Lib.hid (Rd.setR (Rd.setR (Rd.setR (Rd.setR (Rd.setR (Rd.setR (Rd.setR R8.out hg 0 (.int .i64 (1 + (p1 : Int)))) hg 1 (.int .i64 (p2 : Int))) hg 2 (.int .i64 3)) hg 3 (.string v7)) hg 4 (.string ⟨#[]⟩)) hg 5 (.int .i64 (p4 : Int))) hg 6 (.string s5))
    go_wp2
    have y0 := XE.out.cell 0 rfl
    have y1 := XE.out.cell 1 rfl
    have y2 := XE.out.cell 2 rfl
    have y3 := XE.out.cell 3 rfl
    have y4 := XE.out.cell 4 rfl
    have y5 := XE.out.cell 5 rfl
    have y6 := XE.out.cell 6 rfl
    refine bodyPost_ret (v := rv ⟨1 + (p1 : Int), (p2 : Int), 3, v7, ⟨#[]⟩, (p4 : Int), s5⟩) ?_ rfl ⟨_, _, rfl, ⟨hz7, by show 0 ≤ 1; omega, by simp only; omega⟩, GE.out, RE.out, by omega⟩
    simp [results, Tryz.results35, go_sem, y0, y1, y2, y3, y4, y5, y6]
  · have R6a := Lib.hid (R6.out.alloc (.cells (ics [-1, 8]).toArray 3))
    have X6a := Lib.hid (X6.out.alloc (.cells (ics [-1, 8]).toArray 3))
    have Y6a := Lib.hid (Y6.out.alloc (.cells (ics [-1, 8]).toArray 3))
    have G6a := Lib.hid (grown_alloc G6.out (.cells (ics [-1, 8]).toArray 3))
    go_wp2_with fail
    refine (numO g (k5 + 1) w6.heap.size 2 [-1, 8] 3 (0, 0) _ R6a.out (by omega) (heap_alloc_new w6 _) (by omega) rfl (by omega) (by omega)).mono ?_
    rintro e w7 ⟨v7, hv7, rfl, hg7, hr7⟩
    have X7 := Lib.hid (box_grownR X6a.out hg7 (by omega))
    have Y7 := Lib.hid (box_grownR Y6a.out hg7 (by omega))
    have R7 := Lib.hid hr7
    have G7 := Lib.hid (grownR_trans G6a.out hg7)
    clear hg7 hr7 hv7 X6a Y6a R6a G6a
    clear X6 Y6 R6 G6
    have cc := Y7.out.cell 5 rfl
    have ff := Y7.out.open_ 5
    have Y8 := Lib.hid (show Box _ w5.heap.size [.int .i64 (1 + (p1 : Int)), .int .i64 (p2 : Int), .int .i64 3, .string s3, .string ⟨#[]⟩, .int .i64 v7, .string s5] from Y7.out.set 5 (.int .i64 v7))
    have X8 := Lib.hid (X7.out.other (p := ⟨w5.heap.size, 5, none⟩) (by simp; omega) (.int .i64 v7))
    have R8 := Lib.hid (Rd.setR R7.out (show g < w5.heap.size by omega) 5 (.int .i64 v7))
    have G8 := Lib.hid (grownR_set G7.out (show w.heap.size ≤ w5.heap.size by omega) 5 (.int .i64 v7))
    clear X7 Y7 R7 G7
    have a0 := Y8.out.cell 0 rfl
    have a1 := Y8.out.cell 1 rfl
    have a2 := Y8.out.cell 2 rfl
    have a3 := Y8.out.cell 3 rfl
    have a4 := Y8.out.cell 4 rfl
    have a5 := Y8.out.cell 5 rfl
    have a6 := Y8.out.cell 6 rfl
    have c0 := X8.out.cell 0 rfl
    have c1 := X8.out.cell 1 rfl
    have c2 := X8.out.cell 2 rfl
    have c3 := X8.out.cell 3 rfl
    have c4 := X8.out.cell 4 rfl
    have c5 := X8.out.cell 5 rfl
    have c6 := X8.out.cell 6 rfl
    have f0 := X8.out.open_ 0
    have f1 := X8.out.open_ 1
    have f2 := X8.out.open_ 2
    have f3 := X8.out.open_ 3
    have f4 := X8.out.open_ 4
    have f5 := X8.out.open_ 5
    have f6 := X8.out.open_ 6
    have XE := Lib.hid (show Box _ w.heap.size [.int .i64 (1 + (p1 : Int)), .int .i64 (p2 : Int), .int .i64 3, .string s3, .string ⟨#[]⟩, .int .i64 v7, .string s5] from (((((((X8.out.set 0 (.int .i64 (1 + (p1 : Int)))).set 1 (.int .i64 (p2 : Int))).set 2 (.int .i64 3)).set 3 (.string s3)).set 4 (.string ⟨#[]⟩)).set 5 (.int .i64 v7)).set 6 (.string s5)))
    have GE := Lib.hid (grownR_set (grownR_set (grownR_set (grownR_set (grownR_set (grownR_set (grownR_set G8.out (Nat.le_refl _) 0 (.int .i64 (1 + (p1 : Int)))) (Nat.le_refl _) 1 (.int .i64 (p2 : Int))) (Nat.le_refl _) 2 (.int .i64 3)) (Nat.le_refl _) 3 (.string s3)) (Nat.le_refl _) 4 (.string ⟨#[]⟩)) (Nat.le_refl _) 5 (.int .i64 v7)) (Nat.le_refl _) 6 (.string s5))
    have RE := Lib.hid (Rd.setR (Rd.setR (Rd.setR (Rd.setR (Rd.setR (Rd.setR (Rd.setR R8.out hg 0 (.int .i64 (1 + (p1 : Int)))) hg 1 (.int .i64 (p2 : Int))) hg 2 (.int .i64 3)) hg 3 (.string s3)) hg 4 (.string ⟨#[]⟩)) hg 5 (.int .i64 v7)) hg 6 (.string s5))
    go_wp2
    have y0 := XE.out.cell 0 rfl
    have y1 := XE.out.cell 1 rfl
    have y2 := XE.out.cell 2 rfl
    have y3 := XE.out.cell 3 rfl
    have y4 := XE.out.cell 4 rfl
    have y5 := XE.out.cell 5 rfl
    have y6 := XE.out.cell 6 rfl
    refine bodyPost_ret (v := rv ⟨1 + (p1 : Int), (p2 : Int), 3, s3, ⟨#[]⟩, v7, s5⟩) ?_ rfl ⟨_, _, rfl, ⟨hs3, by show 0 ≤ 1; omega, by simp only; omega⟩, GE.out, RE.out, by omega⟩
    simp [results, Tryz.results35, go_sem, y0, y1, y2, y3, y4, y5, y6]
  · go_wp2_with fail
    refine (pickO g (k5 + 1) 2 _ R6.out (by omega) (by omega) (by omega)).mono ?_
    rintro e w6a ⟨q, hq, rfl, hg7a, hr7a⟩
    have e24 : IntKind.i64.wrap (24 + (q : Int)) = ((24 + q : Nat) : Int) := by rw [IntWalk.i64_in _ (by omega)]; omega
    have X6b := Lib.hid (box_grownR X6.out hg7a (by omega))
    have Y6b := Lib.hid (box_grownR Y6.out hg7a (by omega))
    have R6b := Lib.hid hr7a
    have G6b := Lib.hid (grownR_trans G6.out hg7a)
    have hw6b : w5.heap.size + 1 ≤ w6a.heap.size := Nat.le_trans hw6 hg7a.size
    clear hg7a hr7a
    go_wp2_with fail
    refine (l19Many_any 122 (24 + q) _ (by omega)).mono ?_
    rintro e w7 ⟨v7, hv7, rfl, hb7⟩
    have X7 := Lib.hid (X6b.out.below hb7 X6b.out.lt)
    have Y7 := Lib.hid (Y6b.out.below hb7 Y6b.out.lt)
    have R7 := Lib.hid (R6b.out.belowR hb7)
    have G7 := Lib.hid (grownR_below G6b.out (hb7.mono (by omega)))
    have hz7 : v7.size ≤ 25 := by omega
    clear hb7 hv7 X6b Y6b R6b G6b
    clear X6 Y6 R6 G6
    have cc := Y7.out.cell 6 rfl
    have ff := Y7.out.open_ 6
    have Y8 := Lib.hid (show Box _ w5.heap.size [.int .i64 (1 + (p1 : Int)), .int .i64 (p2 : Int), .int .i64 3, .string s3, .string ⟨#[]⟩, .int .i64 (p4 : Int), .string v7] from Y7.out.set 6 (.string v7))
    have X8 := Lib.hid (X7.out.other (p := ⟨w5.heap.size, 6, none⟩) (by simp; omega) (.string v7))
    have R8 := Lib.hid (Rd.setR R7.out (show g < w5.heap.size by omega) 6 (.string v7))
    have G8 := Lib.hid (grownR_set G7.out (show w.heap.size ≤ w5.heap.size by omega) 6 (.string v7))
    clear X7 Y7 R7 G7
    have a0 := Y8.out.cell 0 rfl
    have a1 := Y8.out.cell 1 rfl
    have a2 := Y8.out.cell 2 rfl
    have a3 := Y8.out.cell 3 rfl
    have a4 := Y8.out.cell 4 rfl
    have a5 := Y8.out.cell 5 rfl
    have a6 := Y8.out.cell 6 rfl
    have c0 := X8.out.cell 0 rfl
    have c1 := X8.out.cell 1 rfl
    have c2 := X8.out.cell 2 rfl
    have c3 := X8.out.cell 3 rfl
    have c4 := X8.out.cell 4 rfl
    have c5 := X8.out.cell 5 rfl
    have c6 := X8.out.cell 6 rfl
    have f0 := X8.out.open_ 0
    have f1 := X8.out.open_ 1
    have f2 := X8.out.open_ 2
    have f3 := X8.out.open_ 3
    have f4 := X8.out.open_ 4
    have f5 := X8.out.open_ 5
    have f6 := X8.out.open_ 6
    have XE := Lib.hid (show Box _ w.heap.size [.int .i64 (1 + (p1 : Int)), .int .i64 (p2 : Int), .int .i64 3, .string s3, .string ⟨#[]⟩, .int .i64 (p4 : Int), .string v7] from (((((((X8.out.set 0 (.int .i64 (1 + (p1 : Int)))).set 1 (.int .i64 (p2 : Int))).set 2 (.int .i64 3)).set 3 (.string s3)).set 4 (.string ⟨#[]⟩)).set 5 (.int .i64 (p4 : Int))).set 6 (.string v7)))
    have GE := Lib.hid (grownR_set (grownR_set (grownR_set (grownR_set (grownR_set (grownR_set (grownR_set G8.out (Nat.le_refl _) 0 (.int .i64 (1 + (p1 : Int)))) (Nat.le_refl _) 1 (.int .i64 (p2 : Int))) (Nat.le_refl _) 2 (.int .i64 3)) (Nat.le_refl _) 3 (.string s3)) (Nat.le_refl _) 4 (.string ⟨#[]⟩)) (Nat.le_refl _) 5 (.int .i64 (p4 : Int))) (Nat.le_refl _) 6 (.string v7))
    have RE := Lib.hid (Rd.setR (Rd.setR (Rd.setR (Rd.setR (Rd.setR (Rd.setR (Rd.setR R8.out hg 0 (.int .i64 (1 + (p1 : Int)))) hg 1 (.int .i64 (p2 : Int))) hg 2 (.int .i64 3)) hg 3 (.string s3)) hg 4 (.string ⟨#[]⟩)) hg 5 (.int .i64 (p4 : Int))) hg 6 (.string v7))
    go_wp2
    have y0 := XE.out.cell 0 rfl
    have y1 := XE.out.cell 1 rfl
    have y2 := XE.out.cell 2 rfl
    have y3 := XE.out.cell 3 rfl
    have y4 := XE.out.cell 4 rfl
    have y5 := XE.out.cell 5 rfl
    have y6 := XE.out.cell 6 rfl
    refine bodyPost_ret (v := rv ⟨1 + (p1 : Int), (p2 : Int), 3, s3, ⟨#[]⟩, (p4 : Int), v7⟩) ?_ rfl ⟨_, _, rfl, ⟨hs3, by show 0 ≤ 1; omega, hz7⟩, GE.out, RE.out, by omega⟩
    simp [results, Tryz.results35, go_sem, y0, y1, y2, y3, y4, y5, y6]
  · have X7 := X6
    have Y7 := Y6
    have R7 := R6
    have G7 := G6
    clear X6 Y6 R6 G6
    have cc := Y7.out.cell 4 rfl
    have ff := Y7.out.open_ 4
    have Y8 := Lib.hid (show Box _ w5.heap.size [.int .i64 (1 + (p1 : Int)), .int .i64 (p2 : Int), .int .i64 3, .string s3, .string ⟨#[98]⟩, .int .i64 (p4 : Int), .string s5] from Y7.out.set 4 (.string ⟨#[98]⟩))
    have X8 := Lib.hid (X7.out.other (p := ⟨w5.heap.size, 4, none⟩) (by simp; omega) (.string ⟨#[98]⟩))
    have R8 := Lib.hid (Rd.setR R7.out (show g < w5.heap.size by omega) 4 (.string ⟨#[98]⟩))
    have G8 := Lib.hid (grownR_set G7.out (show w.heap.size ≤ w5.heap.size by omega) 4 (.string ⟨#[98]⟩))
    clear X7 Y7 R7 G7
    have a0 := Y8.out.cell 0 rfl
    have a1 := Y8.out.cell 1 rfl
    have a2 := Y8.out.cell 2 rfl
    have a3 := Y8.out.cell 3 rfl
    have a4 := Y8.out.cell 4 rfl
    have a5 := Y8.out.cell 5 rfl
    have a6 := Y8.out.cell 6 rfl
    have c0 := X8.out.cell 0 rfl
    have c1 := X8.out.cell 1 rfl
    have c2 := X8.out.cell 2 rfl
    have c3 := X8.out.cell 3 rfl
    have c4 := X8.out.cell 4 rfl
    have c5 := X8.out.cell 5 rfl
    have c6 := X8.out.cell 6 rfl
    have f0 := X8.out.open_ 0
    have f1 := X8.out.open_ 1
    have f2 := X8.out.open_ 2
    have f3 := X8.out.open_ 3
    have f4 := X8.out.open_ 4
    have f5 := X8.out.open_ 5
    have f6 := X8.out.open_ 6
    have XE := Lib.hid (show Box _ w.heap.size [.int .i64 (1 + (p1 : Int)), .int .i64 (p2 : Int), .int .i64 3, .string s3, .string ⟨#[98]⟩, .int .i64 (p4 : Int), .string s5] from (((((((X8.out.set 0 (.int .i64 (1 + (p1 : Int)))).set 1 (.int .i64 (p2 : Int))).set 2 (.int .i64 3)).set 3 (.string s3)).set 4 (.string ⟨#[98]⟩)).set 5 (.int .i64 (p4 : Int))).set 6 (.string s5)))
    have GE := Lib.hid (grownR_set (grownR_set (grownR_set (grownR_set (grownR_set (grownR_set (grownR_set G8.out (Nat.le_refl _) 0 (.int .i64 (1 + (p1 : Int)))) (Nat.le_refl _) 1 (.int .i64 (p2 : Int))) (Nat.le_refl _) 2 (.int .i64 3)) (Nat.le_refl _) 3 (.string s3)) (Nat.le_refl _) 4 (.string ⟨#[98]⟩)) (Nat.le_refl _) 5 (.int .i64 (p4 : Int))) (Nat.le_refl _) 6 (.string s5))
    have RE := Lib.hid (Rd.setR (Rd.setR (Rd.setR (Rd.setR (Rd.setR (Rd.setR (Rd.setR R8.out hg 0 (.int .i64 (1 + (p1 : Int)))) hg 1 (.int .i64 (p2 : Int))) hg 2 (.int .i64 3)) hg 3 (.string s3)) hg 4 (.string ⟨#[98]⟩)) hg 5 (.int .i64 (p4 : Int))) hg 6 (.string s5))
    go_wp2
    have y0 := XE.out.cell 0 rfl
    have y1 := XE.out.cell 1 rfl
    have y2 := XE.out.cell 2 rfl
    have y3 := XE.out.cell 3 rfl
    have y4 := XE.out.cell 4 rfl
    have y5 := XE.out.cell 5 rfl
    have y6 := XE.out.cell 6 rfl
    refine bodyPost_ret (v := rv ⟨1 + (p1 : Int), (p2 : Int), 3, s3, ⟨#[98]⟩, (p4 : Int), s5⟩) ?_ rfl ⟨_, _, rfl, ⟨hs3, by show 1 ≤ 1; omega, by simp only; omega⟩, GE.out, RE.out, by omega⟩
    simp [results, Tryz.results35, go_sem, y0, y1, y2, y3, y4, y5, y6]
  · have hj0 : ((j : Int) == 0) = false := beq_eq_false_iff_ne.2 (by omega)
    have hj1 : ((j : Int) == 1) = false := beq_eq_false_iff_ne.2 (by omega)
    have hj2 : ((j : Int) == 2) = false := beq_eq_false_iff_ne.2 (by omega)
    have hj3 : ((j : Int) == 3) = false := beq_eq_false_iff_ne.2 (by omega)
    have hj4 : ((j : Int) == 4) = false := beq_eq_false_iff_ne.2 (by omega)
    have hj5 : ((j : Int) == 5) = false := beq_eq_false_iff_ne.2 (by omega)
    have hj6 : ((j : Int) == 6) = false := beq_eq_false_iff_ne.2 (by omega)
    have a0 := Y6.out.cell 0 rfl
    have a1 := Y6.out.cell 1 rfl
    have a2 := Y6.out.cell 2 rfl
    have a3 := Y6.out.cell 3 rfl
    have a4 := Y6.out.cell 4 rfl
    have a5 := Y6.out.cell 5 rfl
    have a6 := Y6.out.cell 6 rfl
    have c0 := X6.out.cell 0 rfl
    have c1 := X6.out.cell 1 rfl
    have c2 := X6.out.cell 2 rfl
    have c3 := X6.out.cell 3 rfl
    have c4 := X6.out.cell 4 rfl
    have c5 := X6.out.cell 5 rfl
    have c6 := X6.out.cell 6 rfl
    have f0 := X6.out.open_ 0
    have f1 := X6.out.open_ 1
    have f2 := X6.out.open_ 2
    have f3 := X6.out.open_ 3
    have f4 := X6.out.open_ 4
    have f5 := X6.out.open_ 5
    have f6 := X6.out.open_ 6
    have XE := Lib.hid (show Box _ w.heap.size [.int .i64 (1 + (p1 : Int)), .int .i64 (p2 : Int), .int .i64 3, .string s3, .string ⟨#[]⟩, .int .i64 (p4 : Int), .string s5] from (((((((X6.out.set 0 (.int .i64 (1 + (p1 : Int)))).set 1 (.int .i64 (p2 : Int))).set 2 (.int .i64 3)).set 3 (.string s3)).set 4 (.string ⟨#[]⟩)).set 5 (.int .i64 (p4 : Int))).set 6 (.string s5)))
    have GE := Lib.hid (grownR_set (grownR_set (grownR_set (grownR_set (grownR_set (grownR_set (grownR_set G6.out (Nat.le_refl _) 0 (.int .i64 (1 + (p1 : Int)))) (Nat.le_refl _) 1 (.int .i64 (p2 : Int))) (Nat.le_refl _) 2 (.int .i64 3)) (Nat.le_refl _) 3 (.string s3)) (Nat.le_refl _) 4 (.string ⟨#[]⟩)) (Nat.le_refl _) 5 (.int .i64 (p4 : Int))) (Nat.le_refl _) 6 (.string s5))
    have RE := Lib.hid (Rd.setR (Rd.setR (Rd.setR (Rd.setR (Rd.setR (Rd.setR (Rd.setR R6.out hg 0 (.int .i64 (1 + (p1 : Int)))) hg 1 (.int .i64 (p2 : Int))) hg 2 (.int .i64 3)) hg 3 (.string s3)) hg 4 (.string ⟨#[]⟩)) hg 5 (.int .i64 (p4 : Int))) hg 6 (.string s5))
    go_wp2
    have y0 := XE.out.cell 0 rfl
    have y1 := XE.out.cell 1 rfl
    have y2 := XE.out.cell 2 rfl
    have y3 := XE.out.cell 3 rfl
    have y4 := XE.out.cell 4 rfl
    have y5 := XE.out.cell 5 rfl
    have y6 := XE.out.cell 6 rfl
    refine bodyPost_ret (v := rv ⟨1 + (p1 : Int), (p2 : Int), 3, s3, ⟨#[]⟩, (p4 : Int), s5⟩) ?_ rfl ⟨_, _, rfl, ⟨hs3, by show 0 ≤ 1; omega, by simp only; omega⟩, GE.out, RE.out, by omega⟩
    simp [results, Tryz.results35, go_sem, y0, y1, y2, y3, y4, y5, y6]
set_option maxHeartbeats 1000000 in
theorem drawLogText_any (A : Option Addr) (n c : Nat) (w : World) (h : Code w A n c) :
    Calls Tryz.prog 6 #[.slice A n c] w fun e w' => ∃ r : RecM, RecSmall r ∧ e = .returned (rv r) ∧ Below w.heap.size w w' := by
  have X0 := Lib.hid (box_new w #[.int .i64 0, .int .i64 0, .int .i64 0, .string ⟨#[]⟩, .string ⟨#[]⟩, .int .i64 0, .string ⟨#[]⟩] 26)
  have hn0 := Below.new (w := w) (.cells #[.int .i64 0, .int .i64 0, .int .i64 0, .string ⟨#[]⟩, .string ⟨#[]⟩, .int .i64 0, .string ⟨#[]⟩] 26)
  have B0 := Lib.hid hn0
  have C0 := Lib.hid (h.below hn0)
  clear hn0 h
  go_enter Tryz.func6, Tryz.ntmps6
  go_wp2_with fail
  refine (l19Open_any A n c _ C0.out).mono ?_
  rintro e w1 ⟨he, hb, hr⟩
  have hsz : (w.alloc (.cells #[.int .i64 0, .int .i64 0, .int .i64 0, .string ⟨#[]⟩, .string ⟨#[]⟩, .int .i64 0, .string ⟨#[]⟩] 26)).heap.size = w.heap.size + 1 := by simp
  have X1 := Lib.hid (X0.out.below hb X0.out.lt)
  have B1 := Lib.hid (B0.out.trans (hb.mono B0.out.size))
  rw [hsz] at he hr
  subst he
  have R1 := Lib.hid hr
  clear hb hr X0 hsz
  go_wp2_with fail
  refine (l9Drawn_any (w.heap.size + 1) 0 _ R1.out (by omega)).mono ?_
  rintro e w2 ⟨r, k2, rfl, hsm, hg2, _, _⟩
  have X2 := Lib.hid (box_grownR X1.out hg2 (by omega))
  have B2 := Lib.hid (B1.out.grown hg2 B1.out.size (fun k h => by have := Option.some.inj h; omega))
  have HS := Lib.hid hsm
  clear hg2 hsm X1 B1 R1
  have c0 := X2.out.cell 0 rfl
  have f0 := X2.out.open_ 0
  have c1 := X2.out.cell 1 rfl
  have f1 := X2.out.open_ 1
  have c2 := X2.out.cell 2 rfl
  have f2 := X2.out.open_ 2
  have c3 := X2.out.cell 3 rfl
  have f3 := X2.out.open_ 3
  have c4 := X2.out.cell 4 rfl
  have f4 := X2.out.open_ 4
  have c5 := X2.out.cell 5 rfl
  have f5 := X2.out.open_ 5
  have c6 := X2.out.cell 6 rfl
  have f6 := X2.out.open_ 6
  have XE := Lib.hid (show Box _ w.heap.size [.int .i64 r.txg, .int .i64 r.seq, .int .i64 r.kind, .string r.a, .string r.b, .int .i64 r.i, .string r.text] from (((((((X2.out.set 0 (.int .i64 r.txg)).set 1 (.int .i64 r.seq)).set 2 (.int .i64 r.kind)).set 3 (.string r.a)).set 4 (.string r.b)).set 5 (.int .i64 r.i)).set 6 (.string r.text)))
  have BE := Lib.hid (((((((B2.out.setCell (p := ⟨w.heap.size, 0, none⟩) (Nat.le_refl _) (.int .i64 r.txg)).setCell (p := ⟨w.heap.size, 1, none⟩) (Nat.le_refl _) (.int .i64 r.seq)).setCell (p := ⟨w.heap.size, 2, none⟩) (Nat.le_refl _) (.int .i64 r.kind)).setCell (p := ⟨w.heap.size, 3, none⟩) (Nat.le_refl _) (.string r.a)).setCell (p := ⟨w.heap.size, 4, none⟩) (Nat.le_refl _) (.string r.b)).setCell (p := ⟨w.heap.size, 5, none⟩) (Nat.le_refl _) (.int .i64 r.i)).setCell (p := ⟨w.heap.size, 6, none⟩) (Nat.le_refl _) (.string r.text))
  go_wp2
  have y0 := XE.out.cell 0 rfl
  have y1 := XE.out.cell 1 rfl
  have y2 := XE.out.cell 2 rfl
  have y3 := XE.out.cell 3 rfl
  have y4 := XE.out.cell 4 rfl
  have y5 := XE.out.cell 5 rfl
  have y6 := XE.out.cell 6 rfl
  refine bodyPost_ret (v := rv r) ?_ rfl ⟨r, HS.out, rfl, BE.out⟩
  simp [results, Tryz.results6, go_sem, y0, y1, y2, y3, y4, y5, y6]
end Go.Proofs.YtgjlhokakcdpbaaGreatDoor

/-
  impl.RoomSums.
-/
import Derived.Test.YthcfiobnnceomaaRoom
set_option maxRecDepth 100000
namespace Go.Proofs.Ythcfiobnnceomaa
open Go.ChangeShapes Go.WideShapes Go.ChangeAt Go.RowKit Go.Proofs.Palim

set_option maxHeartbeats 1000000 in
theorem implRoomSums_is (vs vd vp vi : Value) (c : CoreM) (n : Int) (s o f : Nat) (w : World) (h : CoreR w vs vd vp vi c) (hs : CoreShort c) (hn0 : -9223372036854775808 ≤ n) (hr : sumS c n = s ∧ sumO c n = o ∧ sumF c n = f) :
    Calls Try.prog 8 #[cv c vs vd vp vi, .int .i64 n] w fun e w' => e = .returned (.tuple #[.int .i64 (s : Int), .int .i64 (o : Int), .int .i64 (f : Int)]) ∧ Below w.heap.size w w' := by
  have HS := Lib.hid hs
  have HR := Lib.hid hr
  obtain ⟨A0, k0, A1, k1, A2, k2, A3, k3, rfl, rfl, rfl, rfl⟩ := h.forms
  have HRD := Lib.hid h
  have hb0 := Below.new1 (w := w) (.cells #[.int .i64 c.txg, .slice A0 c.sets.length k0, .slice A1 c.ddt.length k1, .slice A2 c.parts.length k2, .bool c.dirty, .slice A3 c.safe.length k3, .int .i64 c.logn] 35)
  have B := Lib.hid hb0
  have XC := Lib.hid ((kbox_new h 35).box)
  clear h hs hr hb0
  go_enter Try.func8, Try.ntmps8
  go_upto_region 1 with fail
  obtain ⟨W0, HWE⟩ : ∃ W0, w.alloc (.cells #[.int .i64 c.txg, .slice A0 c.sets.length k0, .slice A1 c.ddt.length k1, .slice A2 c.parts.length k2, .bool c.dirty, .slice A3 c.safe.length k3, .int .i64 c.logn] 35) = W0 := ⟨_, rfl⟩
  rw [HWE] at XC B ⊢
  clear HWE
  go_wp2_with (refine wpList_load_box rfl _ rfl aggCore rfl (kcore c (.slice A0 c.sets.length k0) (.slice A1 c.ddt.length k1) (.slice A2 c.parts.length k2) (.slice A3 c.safe.length k3)) rfl XC.out ?_)
  refine (roomOf_is _ _ _ _ c n _ (HRD.out.below B.out) HS.out hn0).mono ?_
  rintro e w2 ⟨a0, a1, b0, b1, f0, f1, rfl, hsp, hb⟩
  have HSP := Lib.hid hsp
  have hn10 := Below.new1 (w := w2) (.cells #[.int .u64 (a0 : Int), .int .u64 (a1 : Int), .int .u64 (b0 : Int), .int .u64 (b1 : Int), .int .u64 (f0 : Int), .int .u64 (f1 : Int)] 58)
  have X7 := Lib.hid (show Box _ w2.heap.size [.int .u64 (a0 : Int), .int .u64 (a1 : Int), .int .u64 (b0 : Int), .int .u64 (b1 : Int), .int .u64 (f0 : Int), .int .u64 (f1 : Int)] from box_new w2 #[.int .u64 (a0 : Int), .int .u64 (a1 : Int), .int .u64 (b0 : Int), .int .u64 (b1 : Int), .int .u64 (f0 : Int), .int .u64 (f1 : Int)] 58)
  have B' := Lib.hid (B.out.trans ((hb.trans (hn10.mono hb.size)).mono B.out.size))
  clear XC B hb hsp hn10
  have B := B'
  clear B'
  go_upto_region 2 with fail
  obtain ⟨W4, HWE⟩ : ∃ W4, w2.alloc (.cells #[.int .u64 (a0 : Int), .int .u64 (a1 : Int), .int .u64 (b0 : Int), .int .u64 (b1 : Int), .int .u64 (f0 : Int), .int .u64 (f1 : Int)] 58) = W4 := ⟨_, rfl⟩
  rw [HWE] at X7 B ⊢
  clear HWE
  obtain ⟨K0, HK0⟩ : ∃ K0, w2.heap.size = K0 := ⟨_, rfl⟩
  rw [HK0] at X7 ⊢
  clear HK0
  refine wp_region_held_drew (S := fun w' => Box w' K0 [.int .u64 (a0 : Int), .int .u64 (a1 : Int), .int .u64 (b0 : Int), .int .u64 (b1 : Int), .int .u64 (f0 : Int), .int .u64 (f1 : Int)]) (by kernel_rfl) X7.out (fun hHeld => ?_)
  have F0 := Lib.hid X7.out.drew
  have B0 := Lib.hid B.out.drew
  clear X7 B
  refine wpAnyH_take (i := 0) (v := .pointer (some ⟨K0, 0, none⟩)) rfl (by kernel_rfl) (by kernel_rfl) (by kernel_rfl) (fun _ _ _ h => h) (Or.inl ⟨by first | kernel_rfl | rfl, fun w' _ => by first | rfl | kernel_rfl | go_simp⟩) (by assumption) ?_
  try simp only [Act.put]
  refine wpAnyH_take (i := 1) (v := .agg #[.int .u64 (a0 : Int), .int .u64 (a1 : Int)]) rfl (by kernel_rfl) (by kernel_rfl) (by kernel_rfl) (fun _ _ _ h => h) (Or.inl ⟨by first | kernel_rfl | rfl, fun w' hSw => exec_load_cs (b := K0) (off := 0) _ rfl aggBits rfl [.int .u64 (a0 : Int), .int .u64 (a1 : Int)] rfl (Box.part (p := []) (m := [.int .u64 (a0 : Int), .int .u64 (a1 : Int)]) (q := [.int .u64 (b0 : Int), .int .u64 (b1 : Int), .int .u64 (f0 : Int), .int .u64 (f1 : Int)]) hSw 0 rfl)⟩) (by assumption) ?_
  try simp only [Act.put]
  refine wpAnyH_take (i := 3) (v := .pointer (some ⟨K0, 2, none⟩)) rfl (by kernel_rfl) (by kernel_rfl) (by kernel_rfl) (fun _ _ _ h => h) (Or.inl ⟨by first | kernel_rfl | rfl, fun w' _ => by first | rfl | kernel_rfl | go_simp⟩) (by assumption) ?_
  try simp only [Act.put]
  refine wpAnyH_take (i := 4) (v := .agg #[.int .u64 (b0 : Int), .int .u64 (b1 : Int)]) rfl (by kernel_rfl) (by kernel_rfl) (by kernel_rfl) (fun _ _ _ h => h) (Or.inl ⟨by first | kernel_rfl | rfl, fun w' hSw => exec_load_cs (b := K0) (off := 2) _ rfl aggBits rfl [.int .u64 (b0 : Int), .int .u64 (b1 : Int)] rfl (Box.part (p := [.int .u64 (a0 : Int), .int .u64 (a1 : Int)]) (m := [.int .u64 (b0 : Int), .int .u64 (b1 : Int)]) (q := [.int .u64 (f0 : Int), .int .u64 (f1 : Int)]) hSw 2 rfl)⟩) (by assumption) ?_
  try simp only [Act.put]
  refine wpAnyH_take (i := 6) (v := .pointer (some ⟨K0, 4, none⟩)) rfl (by kernel_rfl) (by kernel_rfl) (by kernel_rfl) (fun _ _ _ h => h) (Or.inl ⟨by first | kernel_rfl | rfl, fun w' _ => by first | rfl | kernel_rfl | go_simp⟩) (by assumption) ?_
  try simp only [Act.put]
  refine wpAnyH_take (i := 7) (v := .agg #[.int .u64 (f0 : Int), .int .u64 (f1 : Int)]) rfl (by kernel_rfl) (by kernel_rfl) (by kernel_rfl) (fun _ _ _ h => h) (Or.inl ⟨by first | kernel_rfl | rfl, fun w' hSw => exec_load_cs (b := K0) (off := 4) _ rfl aggBits rfl [.int .u64 (f0 : Int), .int .u64 (f1 : Int)] rfl (Box.part (p := [.int .u64 (a0 : Int), .int .u64 (a1 : Int), .int .u64 (b0 : Int), .int .u64 (b1 : Int)]) (m := [.int .u64 (f0 : Int), .int .u64 (f1 : Int)]) (q := []) hSw 4 rfl)⟩) (by assumption) ?_
  try simp only [Act.put]
  refine wpAnyH_ready (rs := [2]) (by kernel_rfl) (by simp) ?_
  refine AllReadyH.cons rfl (fun K hK => ?_) AllReadyH.nil
  go_simp
  go_at_call 25
  refine (bcount_is _ _ _ _ HSP.out.s ((cnt_ok c n (partS c n)).trans HR.out.1) _).mono ?_
  rintro e w5 ⟨rfl, hb2⟩
  go_wp2_with fail
  have F2 := Lib.hid (F0.out.below hb2 F0.out.lt)
  have B2 := Lib.hid (B0.out.trans (hb2.mono B0.out.size))
  refine hK.out _ _ F2.out (fun hHeld2 => ?_)
  clear hK K hb2 F0 B0
  try simp only [Act.put]
  refine wpAnyH_ready (rs := [5]) (by kernel_rfl) (by simp) ?_
  refine AllReadyH.cons rfl (fun K hK => ?_) AllReadyH.nil
  go_simp
  go_at_call 25
  refine (bcount_is _ _ _ _ HSP.out.o ((cnt_ok c n (partO c n)).trans HR.out.2.1) _).mono ?_
  rintro e w6 ⟨rfl, hb5⟩
  go_wp2_with fail
  have F5 := Lib.hid (F2.out.below hb5 F2.out.lt)
  have B5 := Lib.hid (B2.out.trans (hb5.mono B2.out.size))
  refine hK.out _ _ F5.out (fun hHeld5 => ?_)
  clear hK K hb5 F2 B2
  try simp only [Act.put]
  refine wpAnyH_ready (rs := [8]) (by kernel_rfl) (by simp) ?_
  refine AllReadyH.cons rfl (fun K hK => ?_) AllReadyH.nil
  go_simp
  go_at_call 25
  refine (bcount_is _ _ _ _ HSP.out.f ((cnt_ok c n (partF c n)).trans HR.out.2.2) _).mono ?_
  rintro e w7 ⟨rfl, hb8⟩
  go_wp2_with fail
  have F8 := Lib.hid (F5.out.below hb8 F5.out.lt)
  have B8 := Lib.hid (B5.out.trans (hb8.mono B5.out.size))
  refine hK.out _ _ F8.out (fun hHeld8 => ?_)
  clear hK K hb8 F5 B5
  try simp only [Act.put]
  refine wpAnyH_take (i := 9) (v := ?_) rfl (by kernel_rfl) (by kernel_rfl) (by kernel_rfl) (fun _ _ _ h => h) (Or.inl ⟨by first | kernel_rfl | rfl, ?_⟩) (by assumption) ?_
  rotate_left
  · (intro w' hSw; clear hSw; go_simp; try with_reducible rfl)
  try simp only [Act.put]
  refine wpAnyH_take (i := 10) (v := ?_) rfl (by kernel_rfl) (by kernel_rfl) (by kernel_rfl) (fun _ _ _ h => h) (Or.inl ⟨by first | kernel_rfl | rfl, ?_⟩) (by assumption) ?_
  rotate_left
  · (intro w' hSw; clear hSw; go_simp; try with_reducible rfl)
  try simp only [Act.put]
  refine wpAnyH_take (i := 11) (v := ?_) rfl (by kernel_rfl) (by kernel_rfl) (by kernel_rfl) (fun _ _ _ h => h) (Or.inl ⟨by first | kernel_rfl | rfl, ?_⟩) (by assumption) ?_
  rotate_left
  · (intro w' hSw; clear hSw; go_simp; try with_reducible rfl)
  try simp only [Act.put]
  refine wpAnyH_done (by kernel_rfl) ?_ _
  go_simp
  clear hHeld hHeld2 hHeld5 hHeld8
  go_wp2
  refine bodyPost_ret (v := .tuple #[.int .i64 (s : Int), .int .i64 (o : Int), .int .i64 (f : Int)]) (by simp [results, Try.results8, go_sem]) rfl ?_
  exact ⟨rfl, B8.out⟩
end Go.Proofs.Ythcfiobnnceomaa

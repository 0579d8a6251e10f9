/-
  impl's logRecords: the iterator hands out what the log has of a commit, in order, to whatever loop body keeps the disk.
-/
import Derived.Test.YtgjlhokakcdpbaaGreatDoorIRec
import Derived.Test.YtgjlhokakcdpbaaGreatDoorImKeep
import Derived.Test.YtgjlhokakcdpbaaGreatDoorImBack
set_option maxRecDepth 100000
namespace Go.Proofs.YtgjlhokakcdpbaaGreatDoor
open Go.ChangeShapes Go.WideShapes Go.ChangeAt Go.RowKit Go.Proofs.Palim Go.Shelf

attribute [local go_sem] Oper.semAt_some

theorem sl_keptL {w w' : World} {sz n : Nat} {v : Value} {xs : List Value} (h : Sl w sz v n xs) (hb : ∀ b, v.ownBlock = some b → w'.heap[b]? = w.heap[b]?) : Sl w' sz v n xs := by
  obtain ⟨h1, A, c, rfl, h2, h3, h4⟩ := h
  refine ⟨h1, A, c, rfl, h2, h3, h4.imp id ?_⟩
  rintro ⟨b, off, rfl, hc⟩
  exact ⟨b, off, rfl, fun j u hu => (World.cell?_of_block (a := ⟨b, off + j, none⟩) (hb b rfl)).trans (hc j u hu)⟩
theorem diskR_kept {w w' : World} {B : Nat} {v0 v1 vl : Value} {d : DiskM} (h : DiskR w v0 v1 vl d) (l0 : Low B v0) (l1 : Low B v1) (ll : Low B vl) (hs : w.heap.size ≤ w'.heap.size) (hb : ∀ b, b < B → w'.heap[b]? = w.heap[b]?) : DiskR w' v0 v1 vl d :=
  ⟨sl_keptL h.r0 fun b e => hb b (l0 b e), sl_keptL h.r1 fun b e => hb b (l1 b e), sl_keptL h.rl fun b e => hb b (ll b e), h.l0.mono hs, h.l1.mono hs, h.ll.mono hs⟩
/-- The variables that the reading of records looks at lie below B. -/
def VarsLow (B : Nat) : Prop := 1 < B ∧ 0 < B ∧ 2 < B ∧ 3 < B ∧ 4 < B
theorem varsLow {w : World} (h : LogVars w) : VarsLow w.heap.size := by
  obtain ⟨m, hm⟩ := h.libs.mx
  obtain ⟨t1, p1, h1⟩ := h.libs.es
  obtain ⟨t2, p2, h2⟩ := h.libs.er
  exact ⟨h.libs.pow.lt, World.block_lt_of_cell? _ _ hm, World.block_lt_of_cell? _ _ h1, World.block_lt_of_cell? _ _ h2, h.tab.lt⟩
theorem logVars_kept {B : Nat} {w w' : World} (h : LogVars w) (hV : VarsLow B) (hb : ∀ b, b < B → w'.heap[b]? = w.heap[b]?) : LogVars w' := by
  obtain ⟨g1, g2, g3, g4, g5⟩ := hV
  obtain ⟨m, hm⟩ := h.libs.mx
  obtain ⟨t1, p1, h1⟩ := h.libs.es
  obtain ⟨t2, p2, h2⟩ := h.libs.er
  obtain ⟨tt, fr, ht⟩ := h.tab
  refine ⟨⟨?_, ⟨m, (World.cell?_of_block (a := ⟨0, 0, none⟩) (hb _ g2)).trans hm⟩, ⟨t1, p1, (World.cell?_of_block (a := ⟨2, 0, none⟩) (hb _ g3)).trans h1⟩, ⟨t2, p2, (World.cell?_of_block (a := ⟨3, 0, none⟩) (hb _ g4)).trans h2⟩⟩, ⟨tt, fr, (hb _ g5).trans ht⟩⟩
  have hp := h.libs.pow
  unfold HasPow Lib.TabIs World.var? at hp ⊢
  rw [gPow] at hp ⊢
  simp only [Option.bind_some] at hp ⊢
  rw [hb _ g1]
  exact hp
set_option maxHeartbeats 4000000 in
theorem recs1_in (n : Nat) (hn : 1 ≤ n) (l Bs Bt N Bz : Nat) (S : Nat → Prop) (v0 v1 vl : Value) (d : DiskM) (t : Int) (zs : List RecM) (hz : FoundM d t zs) (hds : DiskShort d) (J Jx : List RecM → World → Prop)
    (hJa : ∀ s W W', J s W → Below W.heap.size W W' → J s W')
    (hY : ∀ pre x W, J pre W → pre.length < zs.length → YieldAt Fence.wide (n - 1) Tryz.prog l #[rv x] W fun e W' =>
      (e = .returned (.bool true) ∧ J (pre ++ [x]) W' ∧ KeepB N S W W') ∨ (e = .returned (.bool false) ∧ Jx (pre ++ [x]) W'))
    (W : World) (hBs : Box W Bs [v0, v1, vl]) (hBt : Box W Bt [.int .i64 t]) (hN : Bs < N ∧ ¬ S Bs) (hT : Bt < N ∧ ¬ S Bt) (hSz : ∀ b, S b → Bz ≤ b) (hzN : Bz ≤ N) (hNW : N ≤ W.heap.size)
    (hD : DiskR W v0 v1 vl d) (l0 : Low Bz v0) (l1 : Low Bz v1) (ll : Low Bz vl) (hV : LogVars W) (hVz : VarsLow Bz) (h0 : J [] W) :
    CallsIn Fence.wide n Tryz.prog 161 #[.func (.yield l) #[] #[], .pointer (some ⟨Bs, 0, none⟩), .pointer (some ⟨Bt, 0, none⟩)] W fun e W' => (∃ v, e = .returned v) ∧
      ((∃ ys, ys = zs ∧ J ys W') ∨ (∃ pre, pre <+: zs ∧ Jx pre W')) := by
  have hnot : ∀ (x : Bool) (w : World), (Op.unary .not (.bool x)).run Tryz.prog w = .ok (.bool (!x)) w := fun _ _ => rfl
  have HZ := Lib.hid hz
  have HY := Lib.hid hY
  have HJA := Lib.hid hJa
  have HDS := Lib.hid hds
  have HBS := Lib.hid hBs
  have HBT := Lib.hid hBt
  have HD := Lib.hid hD
  have HV := Lib.hid hV
  have HSZ := Lib.hid hSz
  clear hz hY hJa hds hBs hBt hD hV hSz
  refine callsIn_of_wp Tryz.func161 rfl trivial ?_ rfl
  simp only [Tryz.ntmps161, List.size_toArray, List.length_cons, List.length_nil, Nat.reduceAdd, Nat.reduceSub, Array.replicate_succ, Array.replicate_zero, List.push_toArray, List.append_toArray, List.nil_append, List.cons_append]
  gi_wp2
  gi_loopw [4, 5, 6, 7] (fun _ _ _ i wr => ∃ k : Nat, k ≤ 8 ∧ i = .int .i64 (k : Int) ∧ Hid (k ≤ zs.length) ∧ Hid (J (zs.take k) wr) ∧ Hid (KeepB N S W wr)) (fun _ _ _ i _ => 8 - (intOf i).toNat)
  case atStart => exact ⟨0, Nat.zero_le _, rfl, Lib.hid (Nat.zero_le _), Lib.hid h0, Lib.hid (KeepB.refl _ _ _)⟩
  case round =>
    obtain ⟨k, hk, rfl, HKZ, HJ, HK⟩ := hrel
    by_cases hlt : k < 8
    · have hk1 : (k : Int) < 8 := by omega
      have hkeep : ∀ b, b < Bz → wr.heap[b]? = W.heap[b]? := fun b hb => HK.out.block b (by omega) (fun h => by have := HSZ.out b h; omega)
      have XB := Lib.hid (show Box wr Bs [v0, v1, vl] from HBS.out.kept (HK.out.block Bs hN.1 hN.2))
      have XT := Lib.hid (show Box wr Bt [.int .i64 t] from HBT.out.kept (HK.out.block Bt hT.1 hT.2))
      have HDr := Lib.hid (diskR_kept HD.out l0 l1 ll HK.out.size hkeep)
      have HVr := Lib.hid (logVars_kept HV.out hVz hkeep)
      have hwN : N ≤ wr.heap.size := Nat.le_trans hNW HK.out.size
      obtain ⟨b0, b1, b2⟩ := XB.out.three
      have t0 := XT.out.cell 0 rfl
      clear hkeep
      gi_wp2_with fail
      refine ⟨trivial, (callsIn_wide.2 (logRecord_any v0 v1 vl d t k _ HDr.out HDS.out hlt HVr.out)).mono ?_⟩
      rintro e w3 ⟨hb, o, ho, rfl⟩
      have HB3 := Lib.hid hb
      clear hb b0 b1 b2 t0 HDr HVr XB XT
      cases o with
      | none =>
        have hkz := found_stop HZ.out HKZ.out ho
        have hn4 := Below.new (w := w3) (.cells #[.int .i64 0, .int .i64 0, .int .i64 0, .string ⟨#[]⟩, .string ⟨#[]⟩, .int .i64 0, .string ⟨#[]⟩] 26)
        have HJ4 := Lib.hid (show J zs _ from by
          have := HJA.out _ _ _ (HJA.out _ _ _ HJ.out HB3.out) hn4
          rwa [List.take_of_length_le (by omega)] at this)
        clear hn4 ho hkz
        simp only [recL]
        gi_wp2
        refine ⟨(fun f e => by cases e), ?_⟩
        gi_wp2
        refine bodyPost_ret (results_none rfl _ _ _) rfl ?_
        exact ⟨⟨_, rfl⟩, .inl ⟨_, rfl, HJ4.out⟩⟩
      | some r =>
        obtain ⟨hpk, hzk⟩ := found_some HZ.out HKZ.out hlt ho
        have hn4 := Below.new (w := w3) (.cells #[.int .i64 r.txg, .int .i64 r.seq, .int .i64 r.kind, .string r.a, .string r.b, .int .i64 r.i, .string r.text] 26)
        have Y4 := Lib.hid (box_new w3 #[.int .i64 r.txg, .int .i64 r.seq, .int .i64 r.kind, .string r.a, .string r.b, .int .i64 r.i, .string r.text] 26)
        have HJ4 := Lib.hid (HJA.out _ _ _ (HJA.out _ _ _ HJ.out HB3.out) hn4)
        have HK4 := Lib.hid ((HK.out.trans (KeepB.of_below (S := S) HB3.out hwN)).trans (KeepB.of_below (S := S) hn4 (Nat.le_trans hwN HB3.out.size)))
        have HP := Lib.hid (show zs.take (k + 1) = zs.take k ++ [r] from by rw [List.take_succ_eq_append_getElem hpk, hzk])
        have HKZ2 := Lib.hid (show k + 1 ≤ zs.length from hpk)
        obtain ⟨fn, tmps, assign, body, hy, hR⟩ := HY.out (zs.take k) r _ HJ4.out (by rw [List.length_take]; omega)
        rw [← HP.out] at hR
        have HR := Lib.hid hR
        have z0 := Y4.out.cell 0 rfl
        have z1 := Y4.out.cell 1 rfl
        have z2 := Y4.out.cell 2 rfl
        have z3 := Y4.out.cell 3 rfl
        have z4 := Y4.out.cell 4 rfl
        have z5 := Y4.out.cell 5 rfl
        have z6 := Y4.out.cell 6 rfl
        clear hR hn4 ho hpk hzk HP Y4 HJ HK HB3 HKZ
        simp only [recL]
        gi_wp2
        refine HR.out.mono ?_
        rintro e W3 (⟨rfl, hJ3, hk3⟩ | ⟨rfl, hJx3⟩)
        · have HJ3 := Lib.hid hJ3
          have HK3 := Lib.hid (HK4.out.trans hk3)
          clear hJ3 hk3 HR hy z0 z1 z2 z3 z4 z5 z6 HJ4 HK4
          gi_wp2
          go_roundw
          case rel => exact ⟨k + 1, by omega, by go_num, HKZ2, HJ3, HK3⟩
          case measure => simp [intOf]; omega
        · have HJ3 := Lib.hid hJx3
          clear hJx3 HR hy z0 z1 z2 z3 z4 z5 z6 HJ4 HK4
          gi_wp2
          refine bodyPost_ret (results_none rfl _ _ _) rfl ?_
          exact ⟨⟨_, rfl⟩, .inr ⟨_, List.take_prefix _ _, HJ3.out⟩⟩
    · have HE := Lib.hid (show zs.take k = zs from List.take_of_length_le (by have := HZ.out.1; omega))
      have hk1 : ¬ (k : Int) < 8 := by omega
      gi_wp2
      go_end0
      have HX := Lib.hid (show J zs wr from by have h := HJ.out; rw [HE.out] at h; exact h)
      first | exact ⟨⟨_, rfl⟩, .inl HX.out⟩ | exact ⟨⟨_, rfl⟩, .inl ⟨_, rfl, HX.out⟩⟩
set_option maxHeartbeats 400000 in
theorem recs_in (n : Nat) (v0 v1 vl : Value) (t : Int) (w : World) :
    CallsIn Fence.wide n Tryz.prog 98 #[.agg #[v0, v1, vl], .int .i64 t] w fun e w' => e = .returned (.func (.func 161) #[] #[.pointer (some ⟨w.heap.size, 0, none⟩), .pointer (some ⟨w.heap.size + 1, 0, none⟩)]) ∧ w' = (w.alloc (.cells #[v0, v1, vl] 36)).alloc (.cells #[.int .i64 t] 3) := by
  refine callsIn_of_wp Tryz.func98 rfl trivial ?_ rfl
  simp only [Tryz.ntmps98, List.size_toArray, List.length_cons, List.length_nil, Nat.reduceAdd, Nat.reduceSub, Array.replicate_succ, Array.replicate_zero, List.push_toArray, List.append_toArray, List.nil_append, List.cons_append]
  gi_wp2
  go_ret
  exact ⟨rfl, rfl⟩
theorem recs_stops (n : Nat) (hn : 1 ≤ n) (Bs Bt N Bz : Nat) (S : Nat → Prop) (v0 v1 vl : Value) (d : DiskM) (t : Int) (zs : List RecM) (hz : FoundM d t zs) (hds : DiskShort d) (w : World)
    (hBs : Box w Bs [v0, v1, vl]) (hBt : Box w Bt [.int .i64 t]) (hN : Bs < N ∧ ¬ S Bs) (hT : Bt < N ∧ ¬ S Bt) (hSz : ∀ b, S b → Bz ≤ b) (hzN : Bz ≤ N) (hNw : N ≤ w.heap.size)
    (hD : DiskR w v0 v1 vl d) (l0 : Low Bz v0) (l1 : Low Bz v1) (ll : Low Bz vl) (hV : LogVars w) (hVz : VarsLow Bz) :
    SeqStopsK Fence.wide n Tryz.prog 161 #[.pointer (some ⟨Bs, 0, none⟩), .pointer (some ⟨Bt, 0, none⟩)] (fun r : RecM => #[rv r]) (KeepB N S) (fun ys => ys = zs) (fun pre => pre <+: zs) zs.length w := fun l J Jx W hW hJ _ hY h0 =>
  recs1_in n hn l Bs Bt N Bz S v0 v1 vl d t zs hz hds J Jx (fun s X X' hs hb => hJ s X X' none hs ⟨hb.os, hb.tape, hb.output, hb.size, fun i hi _ => hb.block i hi⟩ (fun r e => by cases e)) hY W (hBs.below hW hBs.lt) (hBt.below hW hBt.lt) hN hT hSz hzN (Nat.le_trans hNw hW.size) (hD.below hW) l0 l1 ll (hV.below hW) hVz h0
end Go.Proofs.YtgjlhokakcdpbaaGreatDoor

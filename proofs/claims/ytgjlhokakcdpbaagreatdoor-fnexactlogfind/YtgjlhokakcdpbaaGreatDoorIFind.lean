/-
  impl's LogFind.
-/
import Derived.Test.YtgjlhokakcdpbaaGreatDoorSFind2
import Derived.Test.YtgjlhokakcdpbaaGreatDoorIRecs
import Derived.Maps.AppendAt
import Derived.RangeFuncBox
import Derived.RangeFuncNested
import Derived.Test.YtgjlhokakcdpbaaGreatDoorImDiskFall
set_option maxRecDepth 100000
namespace Go.Proofs.YtgjlhokakcdpbaaGreatDoor
open Go.ChangeShapes Go.WideShapes Go.ChangeAt Go.RowKit Go.Proofs.Palim

open Go.Shelf
attribute [local go_sem] Oper.semAt_some

theorem op_new (X : World) (r : RecM) (e : Nat) : ∀ j u, (oc r)[j]? = some u → (X.alloc (.cells #[.int .i64 r.kind, .string r.a, .string r.b, .int .i64 r.i, .string r.text] e)).cell? ((⟨X.heap.size, 0, none⟩ : Addr).add j) = some u := by
  intro j u hu
  have := (box_new X #[.int .i64 r.kind, .string r.a, .string r.b, .int .i64 r.i, .string r.text] e).cell j hu
  unfold Addr.add
  split
  · rename_i h0
    obtain rfl : j = 0 := by simpa using h0
    exact this
  · rw [Nat.zero_add]
    exact this
set_option maxHeartbeats 4000000 in
theorem implLFind_any (v0 v1 vl : Value) (d : DiskM) (t : Int) (w : World) (h : DiskR w v0 v1 vl d) (hs : DiskShort d) (hV : LogVars w) :
    Calls Tryz.prog 31 #[.agg #[v0, v1, vl], .int .i64 t] w (NewOps d t w) := by
  obtain ⟨i0, hi, hz0, hz1, hz2⟩ := info_parts infoOp
  obtain ⟨zs, hzs⟩ := found_ex d t
  have HZ := Lib.hid hzs
  have HS := Lib.hid hs
  have HV := Lib.hid hV
  have HD := Lib.hid h
  have hb0 := Below.new (w := w) (.cells #[v0, v1, vl] 36)
  have hb1 := Below.new (w := w.alloc (.cells #[v0, v1, vl] 36)) (.cells #[.slice none 0 0] 71)
  have B := Lib.hid (hb0.trans (hb1.mono hb0.size))
  have XD := Lib.hid ((box_new w #[v0, v1, vl] 36).below hb1 (by simp))
  have XF := Lib.hid (show Go.Boxed _ (w.heap.size + 1) 71 (.slice none 0 0) from by have := Go.Boxed.new (w.alloc (.cells #[v0, v1, vl] 36)) 71 (.slice none 0 0); rwa [World.size_alloc] at this)
  have HN1 := Lib.hid (show ((w.alloc (.cells #[v0, v1, vl] 36)).alloc (.cells #[.slice none 0 0] 71)).heap.size = w.heap.size + 2 from by simp)
  clear h hs hb0 hb1 hV hzs
  refine (callsIn_wide (n := 9)).1 ?_
  refine callsIn_of_wp_marks Tryz.func31 rfl trivial ?_ rfl
  simp only [Tryz.ntmps31, List.size_toArray, List.length_cons, List.length_nil, Nat.reduceAdd, Nat.reduceSub, Array.replicate_succ, Array.replicate_zero, List.push_toArray, List.append_toArray, List.nil_append, List.cons_append]
  gi_wp2_with fail
  generalize (w.alloc (.cells #[v0, v1, vl] 36)).alloc (.cells #[.slice none 0 0] 71) = w1 at B XD XF HN1 ⊢
  refine ⟨trivial, (recs_in _ v0 v1 vl t _).mono ?_⟩
  rintro e w2 ⟨rfl, rfl⟩
  have hn2 := Below.new (w := w1) (.cells #[v0, v1, vl] 36)
  have hn3 := Below.new (w := w1.alloc (.cells #[v0, v1, vl] 36)) (.cells #[.int .i64 t] 3)
  have hn4 := hn2.trans (hn3.mono hn2.size)
  have B3 := Lib.hid (B.out.trans (hn4.mono B.out.size))
  have YD := Lib.hid (show Box _ (w.heap.size + 2) [v0, v1, vl] from by have := (box_new w1 #[v0, v1, vl] 36).below hn3 (by simp); rwa [HN1.out] at this)
  have YT := Lib.hid (show Box _ (w.heap.size + 3) [.int .i64 t] from by have := box_new (w1.alloc (.cells #[v0, v1, vl] 36)) #[.int .i64 t] 3; rwa [World.size_alloc, HN1.out] at this)
  have XF3 := Lib.hid ((hn4.block _ XF.out.lt).trans XF.out : Go.Boxed _ (w.heap.size + 1) 71 (.slice none 0 0))
  have HN3 := Lib.hid (show ((w1.alloc (.cells #[v0, v1, vl] 36)).alloc (.cells #[.int .i64 t] 3)).heap.size = w.heap.size + 4 from by simp [HN1.out])
  rw [HN1.out, show w.heap.size + 2 + 1 = w.heap.size + 3 from rfl]
  clear hn2 hn3 hn4 B XD XF HN1
  generalize (w1.alloc (.cells #[v0, v1, vl] 36)).alloc (.cells #[.int .i64 t] 3) = W0 at B3 YD YT XF3 HN3 ⊢
  gi_wp2_with fail
  have hle0 := B3.out.size
  have HLN := Lib.hid HZ.out.1
  refine wpIn_rangeFunc_ownH rfl (by omega) (gf := 161) (lb := #[.pointer (some ⟨w.heap.size + 2, 0, none⟩), .pointer (some ⟨w.heap.size + 3, 0, none⟩)]) rfl trivial (enters_of Tryz.func161 (by kernel_rfl) rfl)
    (recs_stops _ (by omega) (w.heap.size + 2) (w.heap.size + 3) (w.heap.size + 4) w.heap.size (fun b => b = w.heap.size + 1) v0 v1 vl d t zs HZ.out HS.out W0 YD.out YT.out ⟨by omega, by omega⟩ ⟨by omega, by omega⟩ (fun b e => by omega) (by omega) (by rw [HN3.out]; omega)
      (HD.out.below B3.out) HD.out.l0 HD.out.l1 HD.out.ll (HV.out.below B3.out) (varsLow HV.out))
    KeepB.trans (keepB_b (by rw [HN3.out]; omega)) (Below.refl _ _) (fun _ => rfl)
    (fun pre W => (∃ v, Go.Boxed W (w.heap.size + 1) 71 v ∧ W.ownsRow (w.heap.size + 4) 24 5 v pre.length (ocs pre) ∧ True) ∧ Below w.heap.size w W ∧ w.heap.size + 4 ≤ W.heap.size)
    (fun _ _ _ => False)
    (OwnFrom.and (Own.from (holdsRow_own (w.heap.size + 4) (w.heap.size + 1) 71 24 5 (fun pre : List RecM => pre.length) (fun pre => ocs pre) (fun _ _ => True)) _) (OwnFrom.and (ownFrom_below (Nat.le_refl _) hle0) (fun _ X Y row hs hg _ => Nat.le_trans hs hg.size)))
    (fun _ _ _ _ _ hs _ _ => hs)
    ⟨⟨_, XF3.out, ⟨rfl, .inl ⟨rfl, rfl⟩⟩, trivial⟩, B3.out, by rw [HN3.out]; omega⟩
    (fun x a' W => ∃ Bx, w.heap.size + 4 ≤ Bx ∧ Box W Bx [.int .i64 x.txg, .int .i64 x.seq, .int .i64 x.kind, .string x.a, .string x.b, .int .i64 x.i, .string x.text] ∧ a' = { tmps := #[.agg #[v0, v1, vl], .int .i64 t, .pointer (some ⟨w.heap.size, 0, none⟩), undef, .slice none 0 0, .pointer (some ⟨w.heap.size + 1, 0, none⟩), .pointer (some ⟨Bx, 0, none⟩), .agg #[v0, v1, vl], .int .i64 t, .func (.func 161) #[] #[.pointer (some ⟨w.heap.size + 2, 0, none⟩), .pointer (some ⟨w.heap.size + 3, 0, none⟩)], rv x, undef, undef, undef, undef, undef, undef], defers := [] })
    (fun x a' _ X Y row hs hg hr => by obtain ⟨Bx, h1, h2, h3⟩ := hs; exact ⟨Bx, h1, box_own (β := Unit) _ _ () X Y row h2 hg (fun r e => (hr r e).2), h3⟩)
    ?assign ?body ?done ?stop
  case assign =>
    rintro l pre x W K ⟨⟨v, hv, hrow, -⟩, hB, hsz⟩ hK
    have HKK := Lib.hid hK
    clear hK
    gi_wp2
    exact HKK.out _ _ ((KeepsOthers.alloc _ _).from _) (KeepB.of_below (Below.new _) hsz) ⟨⟨v, hv.alloc _, hrow.alloc _, trivial⟩, hB.trans ((Below.new _).mono hB.size), Nat.le_trans hsz (Below.new _).size⟩ ⟨W.heap.size, hsz, box_new W _ _, rfl⟩
  case body =>
    rintro l pre x a' W hl ⟨r, hr⟩ ⟨⟨v, hv, hrow, -⟩, hB, hsz⟩ ⟨Bx, hBx, bx, rfl⟩ hlt
    have hn8 : pre.length < 8 := by have := HLN.out; omega
    have hc := hv.cell
    have hbs := hB.size
    have z2 := bx.cell 2 rfl
    have z3 := bx.cell 3 rfl
    have z4 := bx.cell 4 rfl
    have z5 := bx.cell 5 rfl
    have z6 := bx.cell 6 rfl
    have HSL := Lib.hid (op_new W x 24)
    have HRL := Lib.hid (own_base hrow (show w.heap.size ≤ w.heap.size + 4 by omega))
    clear bx hr
    gi_wp2_with (first
      | (gi_at_builtin; refine wpListIn_append_own _ rfl _ _ 71 rfl (w.heap.size + 4) 24 i0 _ 5 64 Tryz.underlying71 hi hz0 hz1 hz2 rfl (by decide) _ _ _ rfl (hrow.alloc _) ⟨W.heap.size, 0, none⟩ 1 1 (oc x) rfl rfl HSL.out (oc_one x) (by unfold maxLen; omega) (by omega) (by simp; omega) ?_; intro v' w4 hown' hgrow _; obtain ⟨g', cap', rfl⟩ := ownsRow_succ hown'; obtain ⟨hv1, hv2, hr2, hk2, hb2⟩ := Go.Boxed.appended hv (by decide) HRL.out hB.size (by omega) (own_base hown' (by omega)) hgrow; have hc1 := Go.Boxed.cell hv1; have hfz1 := Go.Boxed.frozen hv1)
      | gi_in)
    refine ⟨hk2.from _, ⟨hb2.size, fun b hb hne => ?_⟩, ⟨⟨_, hv2, ?_, trivial⟩, hB.trans hb2, Nat.le_trans hsz hb2.size⟩⟩
    · refine (Below.heap_setCell w4 _ _ b hne).trans ((hgrow.block b (by simp; omega) (fun e => by have := (hrow.lt b e.symm).1; omega)).trans (Below.heap_alloc _ _ b (by omega)))
    · rw [ocs_snoc, List.length_append]
      exact own_kept hown' (fun b e => Below.heap_setCell w4 _ _ b (by have := (hown'.lt b e).1; show b ≠ w.heap.size + 1; omega))
  case done =>
    rintro D ys W hD rfl ⟨⟨v, hv, hrow, -⟩, hB, -⟩ hKD
    have hc := hv.cell
    gi_wp2
    refine leaves_two hKD (v := v) (by simp [results, Tryz.results31, go_sem]) ?_
    exact ⟨_, _, HZ.out, rfl, own_base (ownsRow_putObj hrow _ hKD rfl) (by omega), hB.trans (belowK_b (w := w) (Nat.le_refl _) W D _ _ (by omega) hKD rfl rfl)⟩
  case stop =>
    rintro D c pre W _ _ h _
    exact h.elim
end Go.Proofs.YtgjlhokakcdpbaaGreatDoor

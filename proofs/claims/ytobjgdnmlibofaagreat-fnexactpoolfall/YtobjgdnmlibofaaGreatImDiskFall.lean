/-
  impl's DiskFall: a range over diskFates.
-/
import Derived.Test.YtobjgdnmlibofaaGreatImFates
import Derived.Test.YtobjgdnmlibofaaGreatImDiskRead
import Derived.Test.YtobjgdnmlibofaaGreatRound
set_option maxRecDepth 100000
namespace Go.Proofs.YtobjgdnmlibofaaGreat
open Go.ChangeShapes Go.WideShapes Go.ChangeAt Go.RowKit Go.Proofs.Palim Go.Shelf

attribute [local go_sem] Oper.semAt_some

theorem below_drew' (w : World) : Below w.heap.size w w.drew := (Below.refl _ _).drew
theorem own_grown {w w' : World} {base e sz n : Nat} {v : Value} {xs : List Value} {row : Option Nat} (h : w.ownsRow base e sz v n xs) (hg : w.grownBy w' row) (hr : ∀ r, row = some r → ∃ o : Obj, w.heap[r]? = some o ∧ o.isCells = false) : w'.ownsRow base e sz v n xs :=
  own_kept h fun b eb => hg.block b (h.lt b eb).2 (fun er => by
    obtain ⟨o, ho, hc⟩ := hr b er.symm
    rcases h.2 with ⟨rfl, _⟩ | ⟨g, cap, cur, rfl, _, hgb, _⟩
    · simp [Value.ownBlock] at eb
    · have e2 : g = b := by simpa [Value.ownBlock] using eb
      subst e2
      rw [hgb] at ho
      cases ho
      cases hc)
theorem DiskOwn.grown {w w' : World} {base : Nat} {v0 v1 vl : Value} {d : DiskM} {row : Option Nat} (h : DiskOwn w base v0 v1 vl d) (hg : w.grownBy w' row) (hr : ∀ r, row = some r → ∃ o : Obj, w.heap[r]? = some o ∧ o.isCells = false) : DiskOwn w' base v0 v1 vl d :=
  ⟨own_grown h.o0 hg hr, own_grown h.o1 hg hr, own_grown h.ol hg hr, h.p01, h.p0l, h.p1l⟩
theorem Dr.own_ {β : Type} {B : Nat} {w : World} {x : Nat} {u0 u1 ul : Value} (f : β → DiskM) (hB : w.heap.size ≤ B) : OwnFrom B (fun (s : β) W => Dr w W x u0 u1 ul (f s)) := fun s X Y row h hg hr =>
  ⟨box_own _ _ s X Y row h.xr hg (fun r e => (hr r e).2), box_own _ _ s X Y row h.xo hg (fun r e => (hr r e).2), h.own.grown hg (fun r e => (hr r e).2), h.nx, ownFrom_below (β := β) (Nat.le_refl _) hB s X Y row h.below hg hr, h.hx⟩
theorem KeepsFrom.of_turned {B : Nat} {S : Nat → Prop} {W W' : World} (ht : Turned S W W') (hS : ∀ b, S b → b < B) : KeepsFrom B W W' :=
  ⟨ht.size, fun k o hB hk _ => (ht.block k (Array.getElem?_eq_some_iff.1 hk).1 (fun h => by have := hS k h; omega)).trans hk⟩
theorem keepsFrom_below {B : Nat} {W W' : World} (h : Below W.heap.size W W') : KeepsFrom B W W' :=
  ⟨h.size, fun k o _ hk _ => (h.block k (Array.getElem?_eq_some_iff.1 hk).1).trans hk⟩
theorem attach_val {α : Type} {p : α → Prop} : ∀ (l : List α) (h : ∀ x ∈ l, p x), ∃ zs : List { x : α // p x }, zs.map (·.1) = l
  | [], _ => ⟨[], rfl⟩
  | x :: l, h => by
    obtain ⟨zs, hz⟩ := attach_val l (fun y hy => h y (by simp [hy]))
    exact ⟨⟨x, h x (by simp)⟩ :: zs, by simp [hz]⟩

set_option maxHeartbeats 8000000 in
theorem ImplDiskFall_any (d : DiskM) (fs : List Int) (v0 v1 vl vf : Value) (w : World) (h : DiskR w v0 v1 vl d) (hs : DiskShort d) (hf : Sl w 1 vf fs.length (ics fs)) (hfl : Low w.heap.size vf) (hfn : fs.length ≤ 1048576) :
    Calls Tryz.prog 41 #[.agg #[v0, v1, vl], vf] w (NewDisk w (fallM d fs)) := by
  have hnot : ∀ (x : Bool) (w : World), (Op.unary .not (.bool x)).run Tryz.prog w = .ok (.bool (!x)) w := fun _ _ => rfl
  have hsf := hf
  obtain ⟨_, Af, cf, rfl, _⟩ := hsf
  have HFT := Lib.hid hf
  have HFL := Lib.hid hfl
  clear hf hfl
  obtain ⟨nf, HNF⟩ : ∃ n, Hid (fs.length = n) := ⟨_, Lib.hid rfl⟩
  have HFN := Lib.hid hfn
  rw [HNF.out] at HFL ⊢
  have HFT' := Lib.hid (show Sl w 1 (.slice Af nf cf) fs.length (ics fs) from by have := HFT.out; rwa [HNF.out] at this ⊢)
  clear HFT hfn
  obtain ⟨_, A0, c0, rfl, _⟩ := h.r0
  obtain ⟨_, A1, c1, rfl, _⟩ := h.r1
  obtain ⟨_, Al, cl, rfl, _⟩ := h.rl
  have HD := Lib.hid h
  have HS := Lib.hid hs
  clear h hs
  obtain ⟨hA, hR, hsz, hB⟩ := box2 w #[.slice A0 d.s0.length c0, .slice A1 d.s1.length c1, .slice Al d.late.length cl] #[.slice none 0 0, .slice none 0 0, .slice none 0 0] 39 39
  have RD := Lib.hid (HD.out.below hB)
  have XD := Lib.hid hA
  have XR := Lib.hid hR
  have B0 := Lib.hid hB
  clear hA hR hB
  refine (callsIn_wide (n := 12)).1 ?_
  refine callsIn_of_wp_marks Tryz.func41 rfl trivial ?_ rfl
  simp only [Tryz.ntmps41, List.size_toArray, List.length_cons, List.length_nil, Nat.reduceAdd, Nat.reduceSub, Array.replicate_succ, Array.replicate_zero, List.push_toArray, List.append_toArray, List.nil_append, List.cons_append]
  gi_wp2_with fail
  by_cases hok : DiskOkM d
  · have hok' := Lib.hid (decide_eq_true hok)
    have HK := Lib.hid hok
    have HF := Lib.hid (show fallM d fs = _ from if_pos hok)
    refine ⟨trivial, (callsIn_wide.2 (ImOk_is _ _ _ d _ RD.out HS.out true hok'.out)).mono ?_⟩
    rintro e w1 ⟨rfl, hb⟩
    have RD1 := Lib.hid (RD.out.below hb)
    have XD1 := Lib.hid (XD.out.below hb (by omega))
    have XR1 := Lib.hid (XR.out.below hb (by omega))
    have B1 := Lib.hid (B0.out.trans (hb.mono (by omega)))
    have hs1 : w.heap.size + 2 ≤ w1.heap.size := by have := hb.size; omega
    clear hb RD XD XR B0 hsz hok hok'
    obtain ⟨x0, x1, x2⟩ := XD1.out.three
    gi_wp2_with fail
    refine ⟨trivial, (callsIn_wide.2 (diskCopy_any _ _ _ d _ RD1.out HS.out)).mono ?_⟩
    rintro e w2 ⟨u0, u1, ul, rfl, ho, hb⟩
    obtain ⟨U0, e0, U1, e1, Ul, el, rfl, rfl, rfl⟩ := ho.forms
    have DR := Lib.hid (dr_start 108 XR1.out B1.out hs1 ho hb)
    have hUlow : ∀ b, DTurns (.slice U0 d.s0.length e0) (.slice U1 d.s1.length e1) (.slice Ul d.late.length el) b → b < w2.heap.size := by
      rintro b (e | e | e)
      · exact ho.reads.l0 b e
      · exact ho.reads.l1 b e
      · exact ho.reads.ll b e
    have hUbig : ∀ b, DTurns (.slice U0 d.s0.length e0) (.slice U1 d.s1.length e1) (.slice Ul d.late.length el) b → w.heap.size + 2 ≤ b := by
      rintro b (e | e | e)
      · exact (DR.out.own.o0.lt b e).1
      · exact (DR.out.own.o1.lt b e).1
      · exact (DR.out.own.ol.lt b e).1
    have hn := Below.new (w := w2) (.cells #[.slice U0 d.s0.length e0, .slice U1 d.s1.length e1, .slice Ul d.late.length el] 108)
    have XD2 := Lib.hid ((XD1.out.below hb (by omega)).alloc (.cells #[.slice U0 d.s0.length e0, .slice U1 d.s1.length e1, .slice Ul d.late.length el] 108))
    clear ho hb hn RD1 XD1 XR1 B1 x0 x1 x2
    obtain ⟨x0, x1, x2⟩ := XD2.out.three
    gi_wp2_with fail
    refine ⟨trivial, (fates_in _ Al Af d.late.length cl nf cf _).mono ?_⟩
    rintro e w4 ⟨rfl, rfl⟩
    simp only [World.size_alloc]
    obtain ⟨hX, hY, _, hBB⟩ := box2 (w2.alloc (.cells #[.slice U0 d.s0.length e0, .slice U1 d.s1.length e1, .slice Ul d.late.length el] 108)) #[.slice Al d.late.length cl] #[.slice Af nf cf] 37 30
    simp only [World.size_alloc] at hX hY
    have hwz : (((w2.alloc (.cells #[.slice U0 d.s0.length e0, .slice U1 d.s1.length e1, .slice Ul d.late.length el] 108)).alloc (.cells #[.slice Al d.late.length cl] 37)).alloc (.cells #[.slice Af nf cf] 30)).heap.size = w2.heap.size + 3 := by simp
    have DR3 := Lib.hid (DR.out.on hBB)
    have hcs := hX.cell 0 rfl
    have hcf := hY.cell 0 rfl
    clear hX hY hBB DR XD2 x0 x1 x2
    gi_wp2_with fail
    obtain ⟨W0, hW0⟩ : ∃ W0, ((w2.alloc (.cells #[.slice U0 d.s0.length e0, .slice U1 d.s1.length e1, .slice Ul d.late.length el] 108)).alloc (.cells #[.slice Al d.late.length cl] 37)).alloc (.cells #[.slice Af nf cf] 30) = W0 := ⟨_, rfl⟩
    rw [hW0] at DR3 hcs hcf hwz ⊢
    clear hW0
    have hw2 := DR3.out.hx
    have RD3 := Lib.hid (HD.out.below DR3.out.below)
    have FT3 := Lib.hid (HFT'.out.below DR3.out.below HFL.out)
    obtain ⟨zs, hzs⟩ := attach_val (p := fun x : LateM × Int => There d.s0.length x.1.side x.1.at_ x.1.text.size) (pairs d.late fs) (fun x hx => by
      obtain ⟨i, hi, rfl⟩ := List.mem_iff_getElem.1 hx
      have hl := pairs_len d.late fs
      rw [pairs_at d.late fs i hi (by omega)]
      exact HK.out.2.2.2.2.2.2 _ (List.getElem_mem _))
    have HZS := Lib.hid hzs
    refine wpIn_rangeFunc_ownH rfl (by omega) (gf := 127) (lb := #[.pointer (some ⟨w2.heap.size + 1, 0, none⟩), .pointer (some ⟨w2.heap.size + 1 + 1, 0, none⟩)]) rfl trivial (enters_of Tryz.func127 (by kernel_rfl) rfl)
      (fates_stops _ (by omega) (w2.heap.size + 1) (w2.heap.size + 1 + 1) W0.heap.size (DTurns (.slice U0 d.s0.length e0) (.slice U1 d.s1.length e1) (.slice Ul d.late.length el)) (.slice Al d.late.length cl) (.slice Af nf cf) d.late fs zs hzs W0 hcs (by omega) RD3.out.rl RD3.out.ll HS.out.nl (by omega) (fun h => by have := hUlow _ h; omega)
        (fun b e => ⟨RD3.out.ll b e, fun h => by have := HD.out.ll b e; have := hUbig b h; omega⟩) hcf (by omega) FT3.out (HFL.out.mono DR3.out.below.size) HFN.out (by omega) (fun h => by have := hUlow _ h; omega)
        (fun b e => ⟨by have := HFL.out b e; omega, fun h => by have := HFL.out b e; have := hUbig b h; omega⟩) (Nat.le_refl _)) KeepB.trans (keepB_b (Nat.le_refl _)) (Below.refl _ _) (fun _ => rfl)
      (fun pre W => Dr w W w2.heap.size (.slice U0 d.s0.length e0) (.slice U1 d.s1.length e1) (.slice Ul d.late.length el) ⟨(fallAll (d.s0, d.s1) (pre.map (·.1))).1, (fallAll (d.s0, d.s1) (pre.map (·.1))).2, d.late⟩ ∧ W0.heap.size ≤ W.heap.size)
      (fun _ _ _ => False)
      (OwnFrom.and (Dr.own_ _ (by omega)) (fun _ X Y row hs hg _ => Nat.le_trans hs hg.size))
      (fun _ _ _ _ _ hs _ _ => hs)
      ⟨DR3.out, Nat.le_refl _⟩
      (fun x a' W => ∃ Bx, W0.heap.size ≤ Bx ∧ Box W Bx [.int .i64 x.1.1.side, .int .i64 x.1.1.at_, .string x.1.1.text] ∧ a' = { tmps := #[.agg #[.slice A0 d.s0.length c0, .slice A1 d.s1.length c1, .slice Al d.late.length cl], .slice Af nf cf, .pointer (some ⟨w.heap.size, 0, none⟩), undef, .pointer (some ⟨w.heap.size + 1, 0, none⟩), .pointer (some ⟨w2.heap.size, 0, none⟩), .pointer (some ⟨Bx, 0, none⟩), .int .i64 x.1.2, .agg #[.slice A0 d.s0.length c0, .slice A1 d.s1.length c1, .slice Al d.late.length cl], .bool true, .bool false, undef, .agg #[.slice A0 d.s0.length c0, .slice A1 d.s1.length c1, .slice Al d.late.length cl], .agg #[.slice U0 d.s0.length e0, .slice U1 d.s1.length e1, .slice Ul d.late.length el], .pointer (some ⟨w.heap.size, 2, none⟩), .slice Al d.late.length cl, .slice Af nf cf, .func (.func 127) #[] #[.pointer (some ⟨w2.heap.size + 1, 0, none⟩), .pointer (some ⟨w2.heap.size + 1 + 1, 0, none⟩)], .agg #[.int .i64 x.1.1.side, .int .i64 x.1.1.at_, .string x.1.1.text], .int .i64 x.1.2, undef, undef, undef, undef, undef, undef, undef, undef, undef, undef, undef, undef, undef, undef, undef, undef, undef, undef, undef, undef, undef, undef, undef, undef, undef, undef, undef, undef, undef, undef, undef, undef, undef, undef], defers := [] })
      (fun x a' _ X Y row hs hg hr => by obtain ⟨Bx, h1, h2, h3⟩ := hs; exact ⟨Bx, h1, box_own (β := Unit) _ _ () X Y row h2 hg (fun r e => (hr r e).2), h3⟩)
      ?assign ?body ?done ?stop
    case assign =>
      rintro l pre x W K ⟨hdr, hsz⟩ hK
      have HKK := Lib.hid hK
      have HDR := Lib.hid hdr
      clear hK hdr
      simp only [encFate]
      gi_wp2
      exact HKK.out _ _ ((KeepsOthers.alloc _ _).from _) (KeepB.of_below (Below.new _) hsz) ⟨HDR.out.on (Below.new _), Nat.le_trans hsz (Below.new _).size⟩ ⟨W.heap.size, hsz, box_new W _ _, rfl⟩
    case body =>
      rintro l pre ⟨⟨⟨xs, xa, xt⟩, f⟩, hpr⟩ a' W hl ⟨r, hr⟩ ⟨hdr, hsz⟩ ⟨Bx, hBx, bx, rfl⟩ hlt
      simp only at hpr bx ⊢
      have HSN := Lib.hid (show fallAll (d.s0, d.s1) ((pre ++ [(⟨(⟨xs, xa, xt⟩, f), hpr⟩ : { x : LateM × Int // There d.s0.length x.1.side x.1.at_ x.1.text.size })]).map (·.1)) = fallStep (fallAll (d.s0, d.s1) (pre.map (·.1))) (⟨xs, xa, xt⟩, f) from by rw [List.map_append]; exact fallAll_snoc _ _ _)
      have H0 := Lib.hid (show (fallAll (d.s0, d.s1) (pre.map (·.1))).1.length ≤ 1048576 from by rw [(fallAll_len _ _).1]; exact HS.out.n0)
      have H1 := Lib.hid (show (fallAll (d.s0, d.s1) (pre.map (·.1))).2.length ≤ 1048576 from by rw [(fallAll_len _ _).2]; exact HS.out.n1)
      have HX := Lib.hid (show Has (fallAll (d.s0, d.s1) (pre.map (·.1))).1.length (fallAll (d.s0, d.s1) (pre.map (·.1))).2.length xs xa from by
        rw [(fallAll_len _ _).1, (fallAll_len _ _).2]
        show Has d.s0.length d.s1.length _ _
        rw [HK.out.2.2.1]
        exact ((has_there _ _ _ _).2 hpr).1)
      obtain ⟨z0, z1, z2⟩ := bx.three
      obtain ⟨y0, y1, y2⟩ := hdr.xo.three
      have HDR := Lib.hid hdr
      by_cases hf1 : f = 1
      · subst hf1
        clear bx hdr
        gi_wp2_with fail
        refine ⟨trivial, (CallsIn.inRound l (callsIn_wide.2 (put_any _ _ (.slice Ul d.late.length el) ⟨(fallAll (d.s0, d.s1) (pre.map (·.1))).1, (fallAll (d.s0, d.s1) (pre.map (·.1))).2, d.late⟩ _ xs xa xt _ HDR.out.own H0.out H1.out HX.out))).mono ?_⟩
        rintro e w5 ⟨rfl, ho, ht⟩
        have DR5 := Lib.hid (HDR.out.turned ht ho)
        have KF := Lib.hid (KeepsFrom.of_turned (B := W0.heap.size) ht (fun b hb => by have := hUlow b hb; omega))
        have KB := Lib.hid (KeepB.of_turned (N := W0.heap.size) ht hsz)
        have hz5 := ht.size
        clear ho ht HDR z0 z1 z2 y0 y1 y2
        gi_wp2
        refine ⟨KF.out, KB.out, ?_, by omega⟩
        rw [HSN.out, show fallStep (fallAll (d.s0, d.s1) (pre.map (·.1))) (⟨xs, xa, xt⟩, 1) = layM (fallAll (d.s0, d.s1) (pre.map (·.1))) xs xa.toNat xt from by unfold fallStep; rw [if_pos rfl]]
        exact DR5.out
      · by_cases hf2 : f = 2
        · subst hf2
          have hsn : xt.size ≤ maxLen := by have := hpr.2.2.2.2; unfold maxLen; omega
          have HALL := Lib.hid (show (∀ s ∈ (fallAll (d.s0, d.s1) (pre.map (·.1))).1, s.size ≤ 1048576) ∧ ∀ s ∈ (fallAll (d.s0, d.s1) (pre.map (·.1))).2, s.size ≤ 1048576 from
            fallAll_all (B := 1048576) _ (fun y hy => by
              obtain ⟨q, hq, rfl⟩ := List.mem_map.1 hy
              have := q.2.2.2.2.2
              omega) (d.s0, d.s1) HS.out.z0 HS.out.z1)
          gi_wp2_with fail
          have XO := Lib.hid (show Box W.drew w2.heap.size [.slice U0 d.s0.length e0, .slice U1 d.s1.length e1, .slice Ul d.late.length el] from hdr.xo)
          have XB := Lib.hid (show Box W.drew Bx [.int .i64 xs, .int .i64 xa, .string xt] from bx)
          have DRd := Lib.hid (hdr.on (below_drew' W))
          refine region_round (S := fun w' => w'.cell? ⟨w2.heap.size, 0, none⟩ = some (.slice U0 d.s0.length e0) ∧ w'.cell? ⟨w2.heap.size, 1, none⟩ = some (.slice U1 d.s1.length e1) ∧ w'.cell? ⟨Bx, 0, none⟩ = some (.int .i64 xs) ∧ w'.cell? ⟨Bx, 1, none⟩ = some (.int .i64 xa) ∧ w'.cell? ⟨Bx, 2, none⟩ = some (.string xt)) (by kernel_rfl) (by kernel_rfl) (fun _ _ h => h) ⟨XO.out.cell 0 rfl, XO.out.cell 1 rfl, XB.out.cell 0 rfl, XB.out.cell 1 rfl, XB.out.cell 2 rfl⟩ (fun hHeld => ?_)
          refine wpAnyH_take (i := 0) (v := ?_) rfl (by kernel_rfl) (by kernel_rfl) (by kernel_rfl) (fun _ _ _ h => h) (Or.inl ⟨by rfl, ?_⟩) (by assumption) ?_
          rotate_left
          · (intro w' hSw; (try dsimp only at hSw); go_simp; try with_reducible rfl)
          try simp only [Act.put]
          refine wpAnyH_take (i := 1) (v := ?_) rfl (by kernel_rfl) (by kernel_rfl) (by kernel_rfl) (fun _ _ _ h => h) (Or.inl ⟨by rfl, ?_⟩) (by assumption) ?_
          rotate_left
          · (intro w' hSw; (try dsimp only at hSw); go_simp; try with_reducible rfl)
          try simp only [Act.put]
          refine wpAnyH_take (i := 2) (v := ?_) rfl (by kernel_rfl) (by kernel_rfl) (by kernel_rfl) (fun _ _ _ h => h) (Or.inl ⟨by rfl, ?_⟩) (by assumption) ?_
          rotate_left
          · (intro w' hSw; (try dsimp only at hSw); go_simp; try with_reducible rfl)
          try simp only [Act.put]
          refine wpAnyH_take (i := 3) (v := ?_) rfl (by kernel_rfl) (by kernel_rfl) (by kernel_rfl) (fun _ _ _ h => h) (Or.inl ⟨by rfl, ?_⟩) (by assumption) ?_
          rotate_left
          · (intro w' hSw; (try dsimp only at hSw); go_simp; try with_reducible rfl)
          try simp only [Act.put]
          refine wpAnyH_take (i := 4) (v := ?_) rfl (by kernel_rfl) (by kernel_rfl) (by kernel_rfl) (fun _ _ _ h => h) (Or.inl ⟨by rfl, ?_⟩) (by assumption) ?_
          rotate_left
          · (intro w' hSw; (try dsimp only at hSw); go_simp; try with_reducible rfl)
          try simp only [Act.put]
          refine wpAnyH_take (i := 5) (v := ?_) rfl (by kernel_rfl) (by kernel_rfl) (by kernel_rfl) (fun _ _ _ h => h) (Or.inl ⟨by rfl, ?_⟩) (by assumption) ?_
          rotate_left
          · (intro w' hSw; (try dsimp only at hSw); go_simp; try with_reducible rfl)
          try simp only [Act.put]
          refine wpAnyH_take (i := 6) (v := ?_) rfl (by kernel_rfl) (by kernel_rfl) (by kernel_rfl) (fun _ _ _ h => h) (Or.inl ⟨by rfl, ?_⟩) (by assumption) ?_
          rotate_left
          · (intro w' hSw; (try dsimp only at hSw); go_simp; try with_reducible rfl)
          try simp only [Act.put]
          refine wpAnyH_take (i := 7) (v := ?_) rfl (by kernel_rfl) (by kernel_rfl) (by kernel_rfl) (fun _ _ _ h => h) (Or.inl ⟨by rfl, ?_⟩) (by assumption) ?_
          rotate_left
          · (intro w' hSw; (try dsimp only at hSw); go_simp; try with_reducible rfl)
          try simp only [Act.put]
          refine wpAnyH_take (i := 8) (v := ?_) rfl (by kernel_rfl) (by kernel_rfl) (by kernel_rfl) (fun _ _ _ h => h) (Or.inl ⟨by rfl, ?_⟩) (by assumption) ?_
          rotate_left
          · (intro w' hSw; (try dsimp only at hSw); go_simp; try with_reducible rfl)
          try simp only [Act.put]
          refine wpAnyH_take (i := 9) (v := ?_) rfl (by kernel_rfl) (by kernel_rfl) (by kernel_rfl) (fun _ _ _ h => h) (Or.inl ⟨by rfl, ?_⟩) (by assumption) ?_
          rotate_left
          · (intro w' hSw; (try dsimp only at hSw); go_simp; try with_reducible rfl)
          try simp only [Act.put]
          refine wpAnyH_take (i := 10) (v := ?_) rfl (by kernel_rfl) (by kernel_rfl) (by kernel_rfl) (fun _ _ _ h => h) (Or.inl ⟨by rfl, ?_⟩) (by assumption) ?_
          rotate_left
          · (intro w' hSw; (try dsimp only at hSw); go_simp; try with_reducible rfl)
          try simp only [Act.put]
          refine wpAnyH_take (i := 11) (v := ?_) rfl (by kernel_rfl) (by kernel_rfl) (by kernel_rfl) (fun _ _ _ h => h) (Or.inl ⟨by rfl, ?_⟩) (by assumption) ?_
          rotate_left
          · (intro w' hSw; (try dsimp only at hSw); go_simp; try with_reducible rfl)
          try simp only [Act.put]
          refine wpAnyH_take (i := 13) (v := ?_) rfl (by kernel_rfl) (by kernel_rfl) (by kernel_rfl) (fun _ _ _ h => h) (Or.inl ⟨by rfl, ?_⟩) (by assumption) ?_
          rotate_left
          · (intro w' hSw; (try dsimp only at hSw); go_simp; try with_reducible rfl)
          try simp only [Act.put]
          refine wpAnyH_take (i := 14) (v := ?_) rfl (by kernel_rfl) (by kernel_rfl) (by kernel_rfl) (fun _ _ _ h => h) (Or.inl ⟨by rfl, ?_⟩) (by assumption) ?_
          rotate_left
          · (intro w' hSw; (try dsimp only at hSw); go_simp; try with_reducible rfl)
          try simp only [Act.put]
          refine wpAnyH_ready (rs := [12]) (by kernel_rfl) (by simp) ?_
          refine AllReadyH.cons rfl (fun K hK => ?_) AllReadyH.nil
          go_simp
          go_at_call 91
          with_reducible refine (text_any _ _ (.slice Ul d.late.length el) ⟨(fallAll (d.s0, d.s1) (pre.map (·.1))).1, (fallAll (d.s0, d.s1) (pre.map (·.1))).2, d.late⟩ xs xa _ DRd.out.own.reads H0.out H1.out HX.out).mono ?_
          rintro e w5 ⟨rfl, hb5⟩
          obtain ⟨old, HOLD⟩ : ∃ old, Hid (sectOf (fallAll (d.s0, d.s1) (pre.map (·.1))) xs xa.toNat = old) := ⟨_, Lib.hid rfl⟩
          rw [show (sideOf ⟨(fallAll (d.s0, d.s1) (pre.map (·.1))).1, (fallAll (d.s0, d.s1) (pre.map (·.1))).2, d.late⟩ xs).getD xa.toNat ⟨#[]⟩ = old from HOLD.out]
          go_wp2_with fail
          have XO5 := Lib.hid (XO.out.below hb5 XO.out.lt)
          have XB5 := Lib.hid (XB.out.below hb5 XB.out.lt)
          have DR5 := Lib.hid (DRd.out.on hb5)
          have hz5 := hb5.size
          refine hK.out _ _ ⟨XO5.out.cell 0 rfl, XO5.out.cell 1 rfl, XB5.out.cell 0 rfl, XB5.out.cell 1 rfl, XB5.out.cell 2 rfl⟩ (fun hHeld2 => ?_)
          clear hK K
          try simp only [Act.put]
          have hso : old.size ≤ maxLen := by
            have h1 := sectOf_all (P := fun s => s.size ≤ 1048576) HALL.out.1 HALL.out.2 (Nat.zero_le _) xs xa.toNat
            rw [HOLD.out] at h1
            unfold maxLen; omega
          refine wpAnyH_ready (rs := [15]) (by kernel_rfl) (by simp) ?_
          refine AllReadyH.cons rfl (fun K hK => ?_) AllReadyH.nil
          go_simp
          go_at_call 90
          with_reducible refine (diskTorn_any old xt _ hso hsn).mono ?_
          rintro e w6 ⟨rfl, q6, rfl⟩
          go_wp2_with fail
          refine hK.out _ _ ⟨XO5.out.cell 0 rfl, XO5.out.cell 1 rfl, XB5.out.cell 0 rfl, XB5.out.cell 1 rfl, XB5.out.cell 2 rfl⟩ (fun hHeld3 => ?_)
          clear hK K
          try simp only [Act.put]
          have DR6 := Lib.hid (DR5.out.on (w2 := w5.drewN q6) ⟨rfl, rfl, rfl, Nat.le_refl _, fun _ _ => rfl⟩)
          refine wpAnyH_ready (rs := [16]) (by kernel_rfl) (by simp) ?_
          refine AllReadyH.cons rfl (fun K hK => ?_) AllReadyH.nil
          go_simp
          go_at_call 76
          with_reducible refine (put_any _ _ (.slice Ul d.late.length el) ⟨(fallAll (d.s0, d.s1) (pre.map (·.1))).1, (fallAll (d.s0, d.s1) (pre.map (·.1))).2, d.late⟩ _ xs xa (tornM old xt) _ DR6.out.own H0.out H1.out HX.out).mono ?_
          rintro e w7 ⟨rfl, ho, ht⟩
          go_wp2_with fail
          have XO7 := Lib.hid ((show Box (w5.drewN q6) _ _ from XO5.out).turned ht DR6.out.nx)
          have XB7 := Lib.hid ((show Box (w5.drewN q6) _ _ from XB5.out).turned ht (fun h => by have := hUlow Bx h; omega))
          have DR7 := Lib.hid (DR6.out.turned ht ho)
          have KF := Lib.hid (KeepsFrom.of_turned (B := W0.heap.size) ht (fun b hb => by have := hUlow b hb; omega))
          have KB := Lib.hid (KeepB.of_turned (N := W0.heap.size) ht (by show _ ≤ w5.heap.size; simp at hz5; omega))
          refine hK.out _ _ ⟨XO7.out.cell 0 rfl, XO7.out.cell 1 rfl, XB7.out.cell 0 rfl, XB7.out.cell 1 rfl, XB7.out.cell 2 rfl⟩ (fun hHeld4 => ?_)
          clear hK K
          refine wpAnyH_done (by kernel_rfl) ?_ _
          have hz7 := ht.size
          have BK := Lib.hid (KeepB.trans (KeepB.of_below (S := DTurns (.slice U0 d.s0.length e0) (.slice U1 d.s1.length e1) (.slice Ul d.late.length el)) (below_drew' W) hsz) (KeepB.trans (KeepB.of_below (S := DTurns (.slice U0 d.s0.length e0) (.slice U1 d.s1.length e1) (.slice Ul d.late.length el)) hb5 (by simpa using hsz)) (KeepB.trans (B := w5.drewN q6) ⟨Nat.le_refl _, fun _ _ _ => rfl⟩ KB.out)))
          have BF := Lib.hid ((keepsFrom_below (B := W0.heap.size) (below_drew' W)).trans ((keepsFrom_below (B := W0.heap.size) hb5).trans (KeepsFrom.trans (Y := w5.drewN q6) ⟨Nat.le_refl _, fun _ _ _ h _ => h⟩ KF.out)))
          gi_wp2
          refine ⟨BF.out, BK.out, ?_, by show _ ≤ w7.heap.size; have : (w5.drewN q6).heap.size = w5.heap.size := rfl; simp at hz5; omega⟩
          rw [HSN.out, show fallStep (fallAll (d.s0, d.s1) (pre.map (·.1))) (⟨xs, xa, xt⟩, 2) = layM (fallAll (d.s0, d.s1) (pre.map (·.1))) xs xa.toNat (tornM old xt) from by unfold fallStep; rw [if_neg (by simp), if_pos rfl, ← HOLD.out]]
          exact DR7.out
        · gi_wp2
          refine ⟨KeepsFrom.refl _ _, KeepB.refl _ _ _, ?_, by omega⟩
          rw [HSN.out, show fallStep (fallAll (d.s0, d.s1) (pre.map (·.1))) (⟨xs, xa, xt⟩, f) = fallAll (d.s0, d.s1) (pre.map (·.1)) from by unfold fallStep; rw [if_neg hf1, if_neg hf2]]
          exact HDR.out
    case done =>
      rintro D ys W hD rfl ⟨hdr, hsz⟩ hKD
      rw [HZS.out] at hdr
      have DR1 := Lib.hid hdr.noLate
      obtain ⟨y0, y1, y2⟩ := hdr.xo.three
      have f3 := hdr.xo.open_ 2
      obtain ⟨z0, z1, z2⟩ := DR1.out.xo.three
      have HKD := Lib.hid (show (W.setCell ⟨w2.heap.size, 2, none⟩ (.slice none 0 0)).heap[D]? = some (.deferred (some [])) from (Below.heap_setCell _ _ _ _ (by simp; omega)).trans hKD)
      clear hdr hKD
      gi_wp2_with fail
      refine ⟨trivial, (callsIn_wide.2 (disk_any _ _ _ _ _ _ _ _ _ _)).mono ?_⟩
      rintro e w5 ⟨rfl, hb⟩
      have DR2 := Lib.hid (DR1.out.on hb)
      have HKD5 := Lib.hid ((hb.block D (Array.getElem?_eq_some_iff.1 HKD.out).1).trans HKD.out)
      clear hb DR1 HKD y0 y1 y2 f3 z0 z1 z2
      obtain ⟨r0, r1, r2⟩ := DR2.out.xr.three
      have f0 := DR2.out.xr.open_ 0
      have f1 := DR2.out.xr.open_ 1
      have f2 := DR2.out.xr.open_ 2
      have q3 := Lib.hid (((DR2.out.xr.set 0 (.slice U0 d.s0.length e0)).set 1 (.slice U1 d.s1.length e1)).set 2 (.slice none 0 0))
      have HKD6 := Lib.hid (show (((w5.setCell ⟨w.heap.size + 1, 0, none⟩ (.slice U0 d.s0.length e0)).setCell ⟨w.heap.size + 1, 1, none⟩ (.slice U1 d.s1.length e1)).setCell ⟨w.heap.size + 1, 2, none⟩ (.slice none 0 0)).heap[D]? = some (.deferred (some [])) from by
        rw [Below.heap_setCell _ _ _ _ (by simp; omega), Below.heap_setCell _ _ _ _ (by simp; omega), Below.heap_setCell _ _ _ _ (by simp; omega)]; exact HKD5.out)
      have q4 := Lib.hid ((box_own (β := Unit) (w.heap.size + 1) [.slice U0 d.s0.length e0, .slice U1 d.s1.length e1, .slice none 0 0]).putObj (s := ()) (.deferred none) q3.out HKD6.out rfl)
      gi_wp2
      have k0 := q4.out.cell 0 rfl
      have k1 := q4.out.cell 1 rfl
      have k2 := q4.out.cell 2 rfl
      refine leaves_two HKD6.out (v := .agg #[.slice U0 d.s0.length e0, .slice U1 d.s1.length e1, .slice none 0 0]) (by simp [results, Tryz.results41, go_sem, k0, k1, k2]) ?_
      rw [HF.out]
      exact ⟨_, _, _, rfl, DR2.out.back.1.grown (grownBy_putObj' _ D _) (fun r e => by cases e; exact ⟨_, HKD6.out, rfl⟩), DR2.out.back.2.trans (belowK_b (w := w) (Nat.le_refl _) _ D _ _ (by omega) HKD6.out rfl rfl)⟩
    case stop =>
      rintro D c pre W _ _ h _
      exact h.elim
  · have hok' := Lib.hid (decide_eq_false hok)
    have HF := Lib.hid (show fallM d fs = noDisk from if_neg hok)
    clear hok
    refine ⟨trivial, (callsIn_wide.2 (ImOk_is _ _ _ d _ RD.out HS.out false hok'.out)).mono ?_⟩
    rintro e w1 ⟨rfl, hb⟩
    have XR1 := Lib.hid (XR.out.below hb (by omega))
    have B1 := Lib.hid (B0.out.trans (hb.mono (by omega)))
    clear hb RD XD XR B0 hsz
    obtain ⟨x0, x1, x2⟩ := XR1.out.three
    have f0 := XR1.out.open_ 0
    have f1 := XR1.out.open_ 1
    have f2 := XR1.out.open_ 2
    gi_wp2
    have q1 := XR1.out.set 0 (.slice none 0 0)
    have q2 := q1.set 1 (.slice none 0 0)
    have q3 := q2.set 2 (.slice none 0 0)
    refine ⟨.agg #[.slice none 0 0, .slice none 0 0, .slice none 0 0], (by simp [results, Tryz.results41, go_sem, q1.cell 0 rfl, q2.cell 1 rfl, q3.cell 2 rfl]), ?_⟩
    rw [HF.out]
    exact ⟨_, _, _, rfl, noDisk_own _ _, ((B1.out.setCell (by simp) _).setCell (by simp) _).setCell (by simp) _⟩
end Go.Proofs.YtobjgdnmlibofaaGreat

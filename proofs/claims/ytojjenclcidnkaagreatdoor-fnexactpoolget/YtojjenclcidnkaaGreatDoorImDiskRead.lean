/-
  impl's DiskRead: a range over slices.Backward.
-/
import Derived.Test.YtojjenclcidnkaaGreatDoorImBack
set_option maxRecDepth 100000
namespace Go.Proofs.YtojjenclcidnkaaGreatDoor
open Go.ChangeShapes Go.WideShapes Go.ChangeAt Go.RowKit Go.Proofs.Palim Go.Shelf

attribute [local go_sem] Oper.semAt_some

theorem box_own {β : Type} (b : Nat) (vs : List Value) : Own (fun (_ : β) W => Box W b vs) := fun _ X Y row hs hg hr =>
  hs.kept (hg.block _ hs.lt (fun e => by
    obtain ⟨o, ho, hc⟩ := hr b e.symm
    obtain ⟨c, t, hb, _⟩ := hs
    rw [hb] at ho
    cases ho
    cases hc))

/-- The variables of DiskRead, in their boxes. -/
structure RS (w W : World) (v0 v1 vl : Value) (side at_ : Int) (txt : ByteArray) (ok : Bool) : Prop where
  xd : Box W w.heap.size [v0, v1, vl]
  xs : Box W (w.heap.size + 1) [.int .i64 side]
  xa : Box W (w.heap.size + 1 + 1) [.int .i64 at_]
  xt : Box W (w.heap.size + 1 + 1 + 1) [.string txt]
  xb : Box W (w.heap.size + 1 + 1 + 1 + 1) [.bool ok]
  x2 : Box W (w.heap.size + 1 + 1 + 1 + 1 + 1) [v0, v1]
  below : Below w.heap.size w W
theorem RS.on {w W W' : World} {v0 v1 vl : Value} {side at_ : Int} {txt : ByteArray} {ok : Bool} (h : RS w W v0 v1 vl side at_ txt ok) (hb : Below W.heap.size W W') : RS w W' v0 v1 vl side at_ txt ok :=
  ⟨h.xd.below hb h.xd.lt, h.xs.below hb h.xs.lt, h.xa.below hb h.xa.lt, h.xt.below hb h.xt.lt, h.xb.below hb h.xb.lt, h.x2.below hb h.x2.lt, h.below.trans (hb.mono h.below.size)⟩
theorem RS.own {β : Type} {B : Nat} {w : World} (v0 v1 vl : Value) (side at_ : Int) (txt : ByteArray) (ok : Bool) (hB : w.heap.size ≤ B) : OwnFrom B (fun (_ : β) W => RS w W v0 v1 vl side at_ txt ok) := fun s X Y row h hg hr =>
  ⟨box_own _ _ s X Y row h.xd hg (fun r e => (hr r e).2), box_own _ _ s X Y row h.xs hg (fun r e => (hr r e).2), box_own _ _ s X Y row h.xa hg (fun r e => (hr r e).2), box_own _ _ s X Y row h.xt hg (fun r e => (hr r e).2), box_own _ _ s X Y row h.xb hg (fun r e => (hr r e).2), box_own _ _ s X Y row h.x2 hg (fun r e => (hr r e).2),
    ownFrom_below (β := β) (Nat.le_refl _) hB s X Y row h.below hg hr⟩
theorem rs_start (w : World) (v0 v1 vl : Value) (side at_ : Int) (t0 t1 t2 t3 t4 t5 : Nat) :
    RS w ((((((w.alloc (.cells #[v0, v1, vl] t0)).alloc (.cells #[.int .i64 side] t1)).alloc (.cells #[.int .i64 at_] t2)).alloc (.cells #[.string ⟨#[]⟩] t3)).alloc (.cells #[.bool false] t4)).alloc (.cells #[v0, v1] t5)) v0 v1 vl side at_ ⟨#[]⟩ false := by
  have n1 := box_new (w.alloc (.cells #[v0, v1, vl] t0)) #[.int .i64 side] t1
  have n2 := box_new ((w.alloc (.cells #[v0, v1, vl] t0)).alloc (.cells #[.int .i64 side] t1)) #[.int .i64 at_] t2
  have n3 := box_new (((w.alloc (.cells #[v0, v1, vl] t0)).alloc (.cells #[.int .i64 side] t1)).alloc (.cells #[.int .i64 at_] t2)) #[.string ⟨#[]⟩] t3
  have n4 := box_new ((((w.alloc (.cells #[v0, v1, vl] t0)).alloc (.cells #[.int .i64 side] t1)).alloc (.cells #[.int .i64 at_] t2)).alloc (.cells #[.string ⟨#[]⟩] t3)) #[.bool false] t4
  have n5 := box_new (((((w.alloc (.cells #[v0, v1, vl] t0)).alloc (.cells #[.int .i64 side] t1)).alloc (.cells #[.int .i64 at_] t2)).alloc (.cells #[.string ⟨#[]⟩] t3)).alloc (.cells #[.bool false] t4)) #[v0, v1] t5
  simp only [World.size_alloc] at n1 n2 n3 n4 n5
  exact ⟨((((((box_new w _ t0).alloc _).alloc _).alloc _).alloc _).alloc _), ((((n1.alloc _).alloc _).alloc _).alloc _), (((n2.alloc _).alloc _).alloc _), ((n3.alloc _).alloc _), n4.alloc _, n5,
    ((((((Below.refl _ w).alloc (Nat.le_refl _) _).alloc (by simp) _).alloc (by simp; omega) _).alloc (by simp; omega) _).alloc (by simp; omega) _).alloc (by simp; omega) _⟩

theorem RS.put {w W : World} {v0 v1 vl : Value} {side at_ : Int} {txt : ByteArray} {ok : Bool} (h : RS w W v0 v1 vl side at_ txt ok) (t : ByteArray) (b : Bool) :
    RS w ((W.setCell ⟨w.heap.size + 1 + 1 + 1, 0, none⟩ (.string t)).setCell ⟨w.heap.size + 1 + 1 + 1 + 1, 0, none⟩ (.bool b)) v0 v1 vl side at_ t b :=
  ⟨(h.xd.other (by show _ ≠ _; simp only; omega) _).other (by show _ ≠ _; simp only; omega) _, (h.xs.other (by show _ ≠ _; simp only; omega) _).other (by show _ ≠ _; simp only; omega) _, (h.xa.other (by show _ ≠ _; simp only; omega) _).other (by show _ ≠ _; simp only; omega) _, (h.xt.set 0 _).other (by show _ ≠ _; simp only; omega) _, (h.xb.other (by show _ ≠ _; simp only; omega) _).set 0 _, (h.x2.other (by show _ ≠ _; simp only; omega) _).other (by show _ ≠ _; simp only; omega) _,
    (h.below.setCell (by show _ ≤ _; simp only; omega) _).setCell (by show _ ≤ _; simp only; omega) _⟩

/-- This write is of that sector. -/
def Hit (side at_ : Int) (x : Int × LateM) : Prop := x.2.side = side ∧ x.2.at_ = at_
theorem lastOf_miss {side at_ : Int} {ls : List LateM} (h : ∀ y ∈ ls, ¬ (y.side = side ∧ y.at_ = at_)) : lastOf side at_ ls = none := by
  induction ls with
  | nil => rfl
  | cons y ls ih =>
    simp only [lastOf]
    rw [ih (fun z hz => h z (by simp [hz]))]
    simp [h y (by simp)]
theorem mem_snd {pre : List (Int × LateM)} {side at_ : Int} (h : ∀ x ∈ pre, ¬ Hit side at_ x) : ∀ y ∈ (pre.map Prod.snd).reverse, ¬ (y.side = side ∧ y.at_ = at_) := fun y hy => by
  rw [List.mem_reverse] at hy
  obtain ⟨x, hx, rfl⟩ := List.mem_map.1 hy
  exact h x hx
theorem lastOf_all {side at_ : Int} {ls : List LateM} (h : ∀ x ∈ backs 0 ls, ¬ Hit side at_ x) : lastOf side at_ ls = none := by
  have h2 := mem_snd h
  rw [backs_snd, List.reverse_reverse] at h2
  exact lastOf_miss h2
theorem lastOf_hit {side at_ : Int} {ls : List LateM} {pre : List (Int × LateM)} {x : Int × LateM} (hp : pre ++ [x] <+: backs 0 ls) (hn : ∀ y ∈ pre, ¬ Hit side at_ y) (hx : Hit side at_ x) : lastOf side at_ ls = some x.2.text := by
  obtain ⟨t, ht⟩ := hp
  have h2 := congrArg (List.map Prod.snd) ht
  rw [backs_snd] at h2
  have h3 : ls = (t.map Prod.snd).reverse ++ [x.2] ++ (pre.map Prod.snd).reverse := by
    rw [← List.reverse_reverse ls, ← h2]
    simp
  rw [h3, lastOf_append, lastOf_miss (mem_snd hn), lastOf_snoc, if_pos (show x.2.side = side ∧ x.2.at_ = at_ from hx)]
  rfl

set_option maxHeartbeats 4000000 in
theorem ImplDiskRead_any (d : DiskM) (side at_ : Int) (v0 v1 vl : Value) (w : World) (h : DiskR w v0 v1 vl d) (hs : DiskShort d) :
    Calls Tryz.prog 138 #[.agg #[v0, v1, vl], .int .i64 side, .int .i64 at_] w fun e w' => e = .returned (.tuple #[.string (readOut d side at_), .bool (decide (CanRead d side at_))]) ∧ Below w.heap.size w w' := by
  have hnot : ∀ (x : Bool) (w : World), (Op.unary .not (.bool x)).run Tryz.prog w = .ok (.bool (!x)) w := fun _ _ => rfl
  obtain ⟨_, A0, c0, rfl, _⟩ := h.r0
  obtain ⟨_, A1, c1, rfl, _⟩ := h.r1
  obtain ⟨_, Al, cl, rfl, _⟩ := h.rl
  have HD := Lib.hid h
  have HS := Lib.hid hs
  clear h hs
  have R0 := Lib.hid (rs_start w (.slice A0 d.s0.length c0) (.slice A1 d.s1.length c1) (.slice Al d.late.length cl) side at_ 40 3 3 9 4 211)
  have RD := Lib.hid (HD.out.below R0.out.below)
  refine (callsIn_wide (n := 9)).1 ?_
  refine callsIn_of_wp_marks Tryz.func138 rfl trivial ?_ rfl
  simp only [Tryz.ntmps138, List.size_toArray, List.length_cons, List.length_nil, Nat.reduceAdd, Nat.reduceSub, Array.replicate_succ, Array.replicate_zero, List.push_toArray, List.append_toArray, List.nil_append, List.cons_append]
  gi_wp2_with fail
  by_cases hok : DiskOkM d
  · have hok' := Lib.hid (decide_eq_true hok)
    have HK := Lib.hid hok
    refine ⟨trivial, (callsIn_wide.2 (ImOk_is _ _ _ d _ RD.out HS.out true hok'.out)).mono ?_⟩
    rintro e w1 ⟨rfl, hb⟩
    have R1 := Lib.hid (R0.out.on hb)
    clear hb R0 RD hok hok'
    have HN := Lib.hid HK.out.2.2.1
    have cs := R1.out.xs.cell 0 rfl
    have ca := R1.out.xa.cell 0 rfl
    obtain ⟨y0, y1⟩ := R1.out.x2.two
    by_cases hth : There d.s0.length side at_ 0
    · have HTH := Lib.hid hth
      have HHAS := Lib.hid (show Has d.s0.length d.s1.length side at_ from by rw [HN.out]; exact ((has_there _ _ _ _).2 hth).1)
      have HC := Lib.hid (show CanRead d side at_ from ⟨HK.out, hth⟩)
      gi_wp2_with fail
      refine ⟨trivial, (callsIn_wide.2 (has_are _ _ d.s0.length _ d.s1.length _ HN.out side at_ _ true (decide_eq_true hth))).mono ?_⟩
      rintro e w2 ⟨rfl, hb⟩
      have R2 := Lib.hid (R1.out.on hb)
      clear hb R1 cs ca y0 y1 hth
      obtain ⟨x0, x1, x2⟩ := R2.out.xd.three
      gi_wp2_with fail
      refine ⟨trivial, (back_in _ Al d.late.length cl w2).mono ?_⟩
      rintro e w3 ⟨rfl, rfl⟩
      have hx2 := R2.out.x2.lt
      have R3 := Lib.hid (R2.out.on (Below.new (.cells #[.slice Al d.late.length cl] 38)))
      have hbx := (box_new w2 #[.slice Al d.late.length cl] 38).cell 0 rfl
      have hws : (w2.alloc (.cells #[.slice Al d.late.length cl] 38)).heap.size = w2.heap.size + 1 := by simp
      have RD3 := Lib.hid (HD.out.below R3.out.below)
      clear R2 x0 x1 x2
      gi_wp2_with fail
      obtain ⟨W0, hW0⟩ : ∃ W0, w2.alloc (.cells #[.slice Al d.late.length cl] 38) = W0 := ⟨_, rfl⟩
      rw [hW0] at R3 hbx hws RD3 ⊢
      clear hW0
      have hlow : ∀ b, (Value.slice Al d.late.length cl).ownBlock = some b → b < W0.heap.size ∧ ¬ False := fun b e => ⟨RD3.out.ll b e, id⟩
      refine wpIn_rangeFunc_ownH rfl (by omega) (gf := 172) (lb := #[.pointer (some ⟨w2.heap.size, 0, none⟩)]) rfl trivial (enters_of Tryz.func172 (by kernel_rfl) rfl)
        (back_stops _ (by omega) w2.heap.size W0.heap.size (fun _ => False) (.slice Al d.late.length cl) d.late W0 hbx (by omega) RD3.out.rl RD3.out.ll HS.out.nl (by omega) id hlow) KeepB.trans (keepB_b (Nat.le_refl _)) (Below.refl _ _) (fun _ => rfl)
        (fun pre W => (RS w W (.slice A0 d.s0.length c0) (.slice A1 d.s1.length c1) (.slice Al d.late.length cl) side at_ ⟨#[]⟩ false ∧ W0.heap.size ≤ W.heap.size) ∧ ∀ x ∈ pre, ¬ Hit side at_ x)
        (fun c pre W => RS w W (.slice A0 d.s0.length c0) (.slice A1 d.s1.length c1) (.slice Al d.late.length cl) side at_ (match pre.getLast? with | some x => x.2.text | none => ⟨#[]⟩) true ∧ c = .ret ∧ ∃ pre' x, pre = pre' ++ [x] ∧ (∀ x ∈ pre', ¬ Hit side at_ x) ∧ Hit side at_ x)
        (OwnFrom.and (OwnFrom.and (RS.own _ _ _ _ _ _ _ (by omega)) (fun _ X Y row hs hg _ => Nat.le_trans hs hg.size)) (ownFrom_pure _ _))
        (fun c => OwnFrom.and (fun pre X Y row hs hg hr => RS.own (β := Unit) _ _ _ _ _ _ _ (by omega) () X Y row hs hg hr) (ownFrom_pure _ _))
        ⟨⟨R3.out, Nat.le_refl _⟩, by simp⟩
        (fun x a' W => ∃ Bx, W0.heap.size ≤ Bx ∧ Box W Bx [.int .i64 x.2.side, .int .i64 x.2.at_, .string x.2.text] ∧ a' = { tmps := #[.agg #[.slice A0 d.s0.length c0, .slice A1 d.s1.length c1, .slice Al d.late.length cl], .int .i64 side, .int .i64 at_, .pointer (some ⟨w.heap.size, 0, none⟩), .pointer (some ⟨w.heap.size + 1, 0, none⟩), .pointer (some ⟨w.heap.size + 1 + 1, 0, none⟩), .pointer (some ⟨w.heap.size + 1 + 1 + 1, 0, none⟩), .pointer (some ⟨w.heap.size + 1 + 1 + 1 + 1, 0, none⟩), .pointer (some ⟨w.heap.size + 1 + 1 + 1 + 1 + 1, 0, none⟩), undef, .pointer (some ⟨Bx, 0, none⟩), .pointer (some ⟨w.heap.size, 0, none⟩), .agg #[.slice A0 d.s0.length c0, .slice A1 d.s1.length c1], .agg #[.slice A0 d.s0.length c0, .slice A1 d.s1.length c1, .slice Al d.late.length cl], .bool true, .bool false, .bool false, .agg #[.slice A0 d.s0.length c0, .slice A1 d.s1.length c1], .int .i64 side, .int .i64 at_, .bool true, .bool false, .bool false, .pointer (some ⟨w.heap.size, 2, none⟩), .slice Al d.late.length cl, .func (.func 172) #[] #[.pointer (some ⟨w2.heap.size, 0, none⟩)], .int .i64 x.1, .agg #[.int .i64 x.2.side, .int .i64 x.2.at_, .string x.2.text], undef, undef, undef, undef, undef, undef, undef, undef, undef, undef, undef, undef, undef, undef, undef, undef], defers := [] })
        (fun x a' _ X Y row hs hg hr => by obtain ⟨Bx, h1, h2, h3⟩ := hs; exact ⟨Bx, h1, box_own (β := Unit) _ _ () X Y row h2 hg (fun r e => (hr r e).2), h3⟩)
        ?assign ?body ?done ?stop
      case assign =>
        rintro l pre x W K ⟨⟨hrs, hsz⟩, hno⟩ hK
        have HKK := Lib.hid hK
        have HRS := Lib.hid hrs
        have HNO := Lib.hid hno
        clear hK hrs hno
        simp only [encBack]
        gi_wp2
        exact HKK.out _ _ ((KeepsOthers.alloc _ _).from _) (KeepB.of_below (Below.new _) hsz) ⟨⟨HRS.out.on (Below.new _), Nat.le_trans hsz (Below.new _).size⟩, HNO.out⟩ ⟨W.heap.size, hsz, box_new W _ _, rfl⟩
      case body =>
        rintro l pre x a' W hl ⟨r, hr⟩ ⟨⟨hrs, hsz⟩, hno⟩ ⟨Bx, hBx, bx, rfl⟩ hlt
        obtain ⟨z0, z1, z2⟩ := bx.three
        have cs := hrs.xs.cell 0 rfl
        have ca := hrs.xa.cell 0 rfl
        have ct := hrs.xt.cell 0 rfl
        have cb := hrs.xb.cell 0 rfl
        have ft := hrs.xt.open_ 0
        have fb := hrs.xb.open_ 0
        have HRS := Lib.hid hrs
        have HNO := Lib.hid hno
        clear hrs hno bx
        by_cases hit : Hit side at_ x
        · have HIT := Lib.hid hit
          obtain ⟨h1, h2⟩ := hit
          gi_wp2
          refine ⟨((KeepsOthers.setCell _ _ _).trans (KeepsOthers.setCell _ _ _)).from _, ?_, rfl, pre, x, rfl, HNO.out, HIT.out⟩
          simp only [List.getLast?_append, List.getLast?_singleton, Option.some_or]
          exact HRS.out.put _ _
        · have HIT := Lib.hid hit
          have hc : ¬ x.2.side = side ∨ (x.2.side = side ∧ ¬ x.2.at_ = at_) := by
            by_cases h : x.2.side = side
            · exact Or.inr ⟨h, fun h2 => hit ⟨h, h2⟩⟩
            · exact Or.inl h
          clear hit
          rcases hc with h1 | ⟨h1, h2⟩
          all_goals
            gi_wp2
            exact ⟨KeepsFrom.refl _ _, KeepB.refl _ _ _, ⟨HRS.out, hsz⟩, fun y hy => by
              rcases List.mem_append.1 hy with h | h
              · exact HNO.out y h
              · simp at h; subst h; exact HIT.out⟩
      case done =>
        rintro D xs W hD rfl ⟨⟨hrs, hsz⟩, hno⟩ hKD
        have HE := Lib.hid (show readOut d side at_ = (sideOf d side).getD at_.toNat ⟨#[]⟩ from by unfold readOut; rw [if_pos HC.out]; unfold secM; rw [lastOf_all hno]; rfl)
        have HRS := Lib.hid hrs
        have HKD := Lib.hid hKD
        have cs := hrs.xs.cell 0 rfl
        have ca := hrs.xa.cell 0 rfl
        obtain ⟨y0, y1⟩ := hrs.x2.two
        have RDW := Lib.hid (HD.out.below hrs.below)
        clear hrs hno hKD
        gi_wp2_with fail
        refine ⟨trivial, (callsIn_wide.2 (text_any _ _ _ d side at_ _ RDW.out HS.out.n0 HS.out.n1 HHAS.out)).mono ?_⟩
        rintro e w5 ⟨rfl, hb⟩
        rw [← HE.out]
        have R5 := Lib.hid (HRS.out.on hb)
        have HKD5 := Lib.hid ((hb.block D (Array.getElem?_eq_some_iff.1 HKD.out).1).trans HKD.out)
        clear hb HRS HKD cs ca y0 y1 RDW
        have ct := R5.out.xt.cell 0 rfl
        have cb := R5.out.xb.cell 0 rfl
        have ft := R5.out.xt.open_ 0
        have fb := R5.out.xb.open_ 0
        obtain ⟨tx, HTX⟩ : ∃ tx, Hid (readOut d side at_ = tx) := ⟨_, Lib.hid rfl⟩
        rw [HTX.out]
        have R6 := Lib.hid (R5.out.put tx true)
        have HKD6 := Lib.hid (show ((w5.setCell ⟨w.heap.size + 1 + 1 + 1, 0, none⟩ (.string tx)).setCell ⟨w.heap.size + 1 + 1 + 1 + 1, 0, none⟩ (.bool true)).heap[D]? = some (.deferred (some [])) from by
          rw [Below.heap_setCell _ _ _ _ (by simp; omega), Below.heap_setCell _ _ _ _ (by simp; omega)]; exact HKD5.out)
        have R7 := Lib.hid ((RS.own (β := Unit) (B := W0.heap.size) _ _ _ _ _ _ _ (by omega)).putObj (s := ()) (.deferred none) R6.out hD HKD6.out rfl)
        gi_wp2
        have c1 := R7.out.xt.cell 0 rfl
        have c2 := R7.out.xb.cell 0 rfl
        refine leaves_two HKD6.out (v := .tuple #[.string tx, .bool true]) (by simp [results, Tryz.results138, go_sem, c1, c2]) ⟨?_, R7.out.below⟩
        rw [decide_eq_true HC.out, HTX.out]
      case stop =>
        rintro D c pre W hD hSp ⟨hrs, rfl, pre', x, rfl, hno, hit⟩ hKD
        simp only [List.getLast?_append, List.getLast?_singleton, Option.some_or] at hrs
        have HE := Lib.hid (show readOut d side at_ = x.2.text from by unfold readOut; rw [if_pos HC.out]; unfold secM; rw [lastOf_hit hSp hno hit]; rfl)
        have R6 := Lib.hid hrs
        have HKD6 := Lib.hid hKD
        clear hrs hKD hno hit hSp
        have R7 := Lib.hid ((RS.own (β := Unit) (B := W0.heap.size) _ _ _ _ _ _ _ (by omega)).putObj (s := ()) (.deferred none) R6.out hD HKD6.out rfl)
        gi_wp2
        have c1 := R7.out.xt.cell 0 rfl
        have c2 := R7.out.xb.cell 0 rfl
        refine leaves_two HKD6.out (v := .tuple #[.string x.2.text, .bool true]) (by simp [results, Tryz.results138, go_sem, c1, c2]) ⟨?_, R7.out.below⟩
        rw [decide_eq_true HC.out, HE.out]
    · have HC := Lib.hid (show ¬ CanRead d side at_ from fun h => hth h.2)
      gi_wp2_with fail
      refine ⟨trivial, (callsIn_wide.2 (has_are _ _ d.s0.length _ d.s1.length _ HN.out side at_ _ false (decide_eq_false hth))).mono ?_⟩
      rintro e w2 ⟨rfl, hb⟩
      have R2 := Lib.hid (R1.out.on hb)
      clear hb R1 cs ca y0 y1 hth
      have ct := R2.out.xt.cell 0 rfl
      have cb := R2.out.xb.cell 0 rfl
      have ft := R2.out.xt.open_ 0
      have fb := R2.out.xb.open_ 0
      have R6 := Lib.hid (R2.out.put ⟨#[]⟩ false)
      gi_wp2
      have c1 := R6.out.xt.cell 0 rfl
      have c2 := R6.out.xb.cell 0 rfl
      refine ⟨.tuple #[.string ⟨#[]⟩, .bool false], (by simp [results, Tryz.results138, go_sem, c1, c2]), ?_, R6.out.below⟩
      rw [decide_eq_false HC.out]
      exact ret_two (show (⟨#[]⟩ : ByteArray) = readOut d side at_ from (if_neg HC.out).symm) rfl
  · have HC := Lib.hid (show ¬ CanRead d side at_ from fun h => hok h.1)
    refine ⟨trivial, (callsIn_wide.2 (ImOk_is _ _ _ d _ RD.out HS.out false (decide_eq_false hok))).mono ?_⟩
    rintro e w1 ⟨rfl, hb⟩
    have R2 := Lib.hid (R0.out.on hb)
    clear hb R0 RD hok
    have ct := R2.out.xt.cell 0 rfl
    have cb := R2.out.xb.cell 0 rfl
    have ft := R2.out.xt.open_ 0
    have fb := R2.out.xb.open_ 0
    have R6 := Lib.hid (R2.out.put ⟨#[]⟩ false)
    gi_wp2
    refine ⟨trivial, ?_⟩
    gi_wp2
    have c1 := R6.out.xt.cell 0 rfl
    have c2 := R6.out.xb.cell 0 rfl
    refine ⟨.tuple #[.string ⟨#[]⟩, .bool false], (by simp [results, Tryz.results138, go_sem, c1, c2]), ?_, R6.out.below⟩
    rw [decide_eq_false HC.out]
    exact ret_two (show (⟨#[]⟩ : ByteArray) = readOut d side at_ from (if_neg HC.out).symm) rfl
end Go.Proofs.YtojjenclcidnkaaGreatDoor

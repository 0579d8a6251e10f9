/-
  impl's DiskRead: a range over slices.Backward.
-/
import Derived.Test.YtobjgdnmlibofaaGreatImBack
set_option maxRecDepth 100000
namespace Go.Proofs.YtobjgdnmlibofaaGreat
open Go.ChangeShapes Go.WideShapes Go.ChangeAt Go.RowKit Go.Proofs.Palim Go.Shelf

attribute [local go_sem] Oper.semAt_some

theorem box_own {β : Type} (b : Nat) (vs : List Value) : Own (fun (_ : β) W => Box W b vs) := fun _ X Y row hs hg hr =>
  hs.kept (hg.block _ hs.lt (fun e => by
    obtain ⟨o, ho, hc⟩ := hr b e.symm
    obtain ⟨c, t, hb, _⟩ := hs
    rw [hb] at ho
    cases ho
    cases hc))

/-- The variables of DiskRead, in their boxes. -/
structure RS (w W : World) (v0 v1 vl : Value) (side at_ : Int) (txt : ByteArray) (ok : Bool) : Prop where
  xd : Box W w.heap.size [v0, v1, vl]
  xs : Box W (w.heap.size + 1) [.int .i64 side]
  xa : Box W (w.heap.size + 1 + 1) [.int .i64 at_]
  xt : Box W (w.heap.size + 1 + 1 + 1) [.string txt]
  xb : Box W (w.heap.size + 1 + 1 + 1 + 1) [.bool ok]
  x2 : Box W (w.heap.size + 1 + 1 + 1 + 1 + 1) [v0, v1]
  below : Below w.heap.size w W
theorem RS.on {w W W' : World} {v0 v1 vl : Value} {side at_ : Int} {txt : ByteArray} {ok : Bool} (h : RS w W v0 v1 vl side at_ txt ok) (hb : Below W.heap.size W W') : RS w W' v0 v1 vl side at_ txt ok :=
  ⟨h.xd.below hb h.xd.lt, h.xs.below hb h.xs.lt, h.xa.below hb h.xa.lt, h.xt.below hb h.xt.lt, h.xb.below hb h.xb.lt, h.x2.below hb h.x2.lt, h.below.trans (hb.mono h.below.size)⟩
theorem RS.own {β : Type} {B : Nat} {w : World} (v0 v1 vl : Value) (side at_ : Int) (txt : ByteArray) (ok : Bool) (hB : w.heap.size ≤ B) : OwnFrom B (fun (_ : β) W => RS w W v0 v1 vl side at_ txt ok) := fun s X Y row h hg hr =>
  ⟨box_own _ _ s X Y row h.xd hg (fun r e => (hr r e).2), box_own _ _ s X Y row h.xs hg (fun r e => (hr r e).2), box_own _ _ s X Y row h.xa hg (fun r e => (hr r e).2), box_own _ _ s X Y row h.xt hg (fun r e => (hr r e).2), box_own _ _ s X Y row h.xb hg (fun r e => (hr r e).2), box_own _ _ s X Y row h.x2 hg (fun r e => (hr r e).2),
    ownFrom_below (β := β) (Nat.le_refl _) hB s X Y row h.below hg hr⟩
theorem rs_start (w : World) (v0 v1 vl : Value) (side at_ : Int) (t0 t1 t2 t3 t4 t5 : Nat) :
    RS w ((((((w.alloc (.cells #[v0, v1, vl] t0)).alloc (.cells #[.int .i64 side] t1)).alloc (.cells #[.int .i64 at_] t2)).alloc (.cells #[.string ⟨#[]⟩] t3)).alloc (.cells #[.bool false] t4)).alloc (.cells #[v0, v1] t5)) v0 v1 vl side at_ ⟨#[]⟩ false := by
  have n1 := box_new (w.alloc (.cells #[v0, v1, vl] t0)) #[.int .i64 side] t1
  have n2 := box_new ((w.alloc (.cells #[v0, v1, vl] t0)).alloc (.cells #[.int .i64 side] t1)) #[.int .i64 at_] t2
  have n3 := box_new (((w.alloc (.cells #[v0, v1, vl] t0)).alloc (.cells #[.int .i64 side] t1)).alloc (.cells #[.int .i64 at_] t2)) #[.string ⟨#[]⟩] t3
  have n4 := box_new ((((w.alloc (.cells #[v0, v1, vl] t0)).alloc (.cells #[.int .i64 side] t1)).alloc (.cells #[.int .i64 at_] t2)).alloc (.cells #[.string ⟨#[]⟩] t3)) #[.bool false] t4
  have n5 := box_new (((((w.alloc (.cells #[v0, v1, vl] t0)).alloc (.cells #[.int .i64 side] t1)).alloc (.cells #[.int .i64 at_] t2)).alloc (.cells #[.string ⟨#[]⟩] t3)).alloc (.cells #[.bool false] t4)) #[v0, v1] t5
  simp only [World.size_alloc] at n1 n2 n3 n4 n5
  exact ⟨((((((box_new w _ t0).alloc _).alloc _).alloc _).alloc _).alloc _), ((((n1.alloc _).alloc _).alloc _).alloc _), (((n2.alloc _).alloc _).alloc _), ((n3.alloc _).alloc _), n4.alloc _, n5,
    ((((((Below.refl _ w).alloc (Nat.le_refl _) _).alloc (by simp) _).alloc (by simp; omega) _).alloc (by simp; omega) _).alloc (by simp; omega) _).alloc (by simp; omega) _⟩

theorem RS.put {w W : World} {v0 v1 vl : Value} {side at_ : Int} {txt : ByteArray} {ok : Bool} (h : RS w W v0 v1 vl side at_ txt ok) (t : ByteArray) (b : Bool) :
    RS w ((W.setCell ⟨w.heap.size + 1 + 1 + 1, 0, none⟩ (.string t)).setCell ⟨w.heap.size + 1 + 1 + 1 + 1, 0, none⟩ (.bool b)) v0 v1 vl side at_ t b :=
  ⟨(h.xd.other (by show _ ≠ _; simp only; omega) _).other (by show _ ≠ _; simp only; omega) _, (h.xs.other (by show _ ≠ _; simp only; omega) _).other (by show _ ≠ _; simp only; omega) _, (h.xa.other (by show _ ≠ _; simp only; omega) _).other (by show _ ≠ _; simp only; omega) _, (h.xt.set 0 _).other (by show _ ≠ _; simp only; omega) _, (h.xb.other (by show _ ≠ _; simp only; omega) _).set 0 _, (h.x2.other (by show _ ≠ _; simp only; omega) _).other (by show _ ≠ _; simp only; omega) _,
    (h.below.setCell (by show _ ≤ _; simp only; omega) _).setCell (by show _ ≤ _; simp only; omega) _⟩

/-- This write is of that sector. -/
def Hit (side at_ : Int) (x : Int × LateM) : Prop := x.2.side = side ∧ x.2.at_ = at_
theorem lastOf_miss {side at_ : Int} {ls : List LateM} (h : ∀ y ∈ ls, ¬ (y.side = side ∧ y.at_ = at_)) : lastOf side at_ ls = none := by
  induction ls with
  | nil => rfl
  | cons y ls ih =>
    simp only [lastOf]
    rw [ih (fun z hz => h z (by simp [hz]))]
    simp [h y (by simp)]
theorem mem_snd {pre : List (Int × LateM)} {side at_ : Int} (h : ∀ x ∈ pre, ¬ Hit side at_ x) : ∀ y ∈ (pre.map Prod.snd).reverse, ¬ (y.side = side ∧ y.at_ = at_) := fun y hy => by
  rw [List.mem_reverse] at hy
  obtain ⟨x, hx, rfl⟩ := List.mem_map.1 hy
  exact h x hx
theorem lastOf_all {side at_ : Int} {ls : List LateM} (h : ∀ x ∈ backs 0 ls, ¬ Hit side at_ x) : lastOf side at_ ls = none := by
  have h2 := mem_snd h
  rw [backs_snd, List.reverse_reverse] at h2
  exact lastOf_miss h2
theorem lastOf_hit {side at_ : Int} {ls : List LateM} {pre : List (Int × LateM)} {x : Int × LateM} (hp : pre ++ [x] <+: backs 0 ls) (hn : ∀ y ∈ pre, ¬ Hit side at_ y) (hx : Hit side at_ x) : lastOf side at_ ls = some x.2.text := by
  obtain ⟨t, ht⟩ := hp
  have h2 := congrArg (List.map Prod.snd) ht
  rw [backs_snd] at h2
  have h3 : ls = (t.map Prod.snd).reverse ++ [x.2] ++ (pre.map Prod.snd).reverse := by
    rw [← List.reverse_reverse ls, ← h2]
    simp
  rw [h3, lastOf_append, lastOf_miss (mem_snd hn), lastOf_snoc, if_pos (show x.2.side = side ∧ x.2.at_ = at_ from hx)]
  rfl

end Go.Proofs.YtobjgdnmlibofaaGreat

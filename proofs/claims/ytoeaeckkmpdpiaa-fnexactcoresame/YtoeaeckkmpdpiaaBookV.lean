/-
  Books: as plain data, read in memory, and the laws' own helpers on them.
-/
import Derived.Test.YtoeaeckkmpdpiaaSetS2
import Derived.Test.YtoeaeckkmpdpiaaBookName
set_option maxRecDepth 100000
namespace Go.Proofs.Ytoeaeckkmpdpiaa
open Go.ChangeShapes Go.WideShapes Go.ChangeAt Go.RowKit Go.Proofs.Palim

theorem list_eq_ofB {α : Type} {a b : List α} (hl : a.length = b.length) (h : ∀ (j : Nat) (h0 : j < a.length) (h1 : j < b.length), a[j] = b[j]) : a = b := List.ext_getElem hl fun j h0 h1 => h j h0 h1
theorem ret_boolB {a b : Bool} (h : a = b) : Ending.returned (.bool a) = Ending.returned (.bool b) := by rw [h]

/-- A book reads as these sets, and its block is there. -/
structure BookR (w : World) (v : Value) (ls : List SetM) : Prop where
  r : Sl w 11 v ls.length (kcs ls)
  l : ∀ b, v.ownBlock = some b → b < w.heap.size
theorem BookR.below {w w' : World} {v : Value} {ls : List SetM} {B : Nat} (h : BookR w v ls) (hb : Below B w w') (hB : w.heap.size ≤ B) : BookR w' v ls :=
  ⟨h.r.below hb (fun b e => Nat.lt_of_lt_of_le (h.l b e) hB), fun b e => Nat.lt_of_lt_of_le (h.l b e) hb.size⟩
theorem BookR.form {w : World} {v : Value} {ls : List SetM} (h : BookR w v ls) : ∃ A c, v = .slice A ls.length c := by
  obtain ⟨_, A, c, rfl, _⟩ := h.r
  exact ⟨A, c, rfl⟩
/-- A book that is not too long, and whose texts are not. -/
structure BookShort (ls : List SetM) : Prop where
  n : ls.length ≤ 1048576
  z : ∀ x ∈ ls, x.name.size ≤ 1048576 ∧ x.frm.size ≤ 1048576 ∧ ∀ s ∈ x.bs, s.size ≤ 1048576
/-- The book is the call's own. -/
structure BookOwn (w : World) (base : Nat) (v : Value) (ls : List SetM) : Prop where
  o : w.ownsRow base 65 11 v ls.length (kcs ls)
theorem BookOwn.reads {w : World} {base : Nat} {v : Value} {ls : List SetM} (h : BookOwn w base v ls) : BookR w v ls := ⟨sl_of_own h.o, fun b e => (h.o.lt b e).2⟩
theorem BookOwn.below {w w' : World} {base : Nat} {v : Value} {ls : List SetM} (h : BookOwn w base v ls) (hb : Below w.heap.size w w') : BookOwn w' base v ls := ⟨own_kept h.o fun b e => hb.block b (h.o.lt b e).2⟩
/-- A new book. -/
def NewBook (w : World) (ls : List SetM) (e : Ending) (w' : World) : Prop := ∃ v, e = .returned (.agg #[v]) ∧ BookOwn w' w.heap.size v ls ∧ Below w.heap.size w w'

theorem Below.new1 {w : World} (o : Obj) : Below w.heap.size w (w.alloc o) := (Below.refl _ _).alloc (Nat.le_refl _) _

set_option maxHeartbeats 1000000 in
theorem szBook_any (v : Value) (ls : List SetM) (left : Int) (w : World) (h : BookR w v ls) (hz : ∀ x ∈ ls, KFit x) (h0 : 0 ≤ left) (h1 : left ≤ 1048576) :
    Calls Try.prog 7 #[.agg #[v], .int .i64 left] w fun e w' => (∃ r : Int, e = .returned (.int .i64 r) ∧ (r = -1 ∨ 0 ≤ r ∧ r + ls.length + kszs ls = left)) ∧ Below w.heap.size w w' := by
  have HR := Lib.hid h
  have HZ := Lib.hid hz
  clear h hz
  obtain ⟨A, c, rfl⟩ := HR.out.form
  go_enter Try.func7, Try.ntmps7
  go_wp2_with fail
  have hb0 := Below.new1 (w := w) (.cells #[.slice A ls.length c] 24)
  have HR1 := HR.out.below hb0 (Nat.le_refl _)
  refine (szBookSetS_any _ ls left _ HR1.r HR1.l HZ.out h0 h1).mono ?_
  rintro e w2 ⟨⟨r, rfl, hr⟩, hb⟩
  have HB := Lib.hid (hb0.trans (hb.mono hb0.size))
  clear hb hb0 HR1
  rcases hr with rfl | ⟨hr0, hr1⟩
  · go_wp2
    go_ret
    exact ⟨⟨-1, rfl, Or.inl rfl⟩, HB.out⟩
  · have hr2 : ¬ r < 0 := by omega
    have HR := Lib.hid hr1
    clear hr1
    go_wp2
    go_ret
    exact ⟨⟨r, rfl, Or.inr ⟨hr0, HR.out⟩⟩, HB.out⟩

set_option maxHeartbeats 1000000 in
theorem toBook_any (v : Value) (ls : List SetM) (w : World) (h : BookR w v ls) (hs : BookShort ls) :
    Calls Try.prog 9 #[.agg #[v]] w (NewBook w ls) := by
  have HR := Lib.hid h
  have HS := Lib.hid hs
  clear h hs
  obtain ⟨A, c, rfl⟩ := HR.out.form
  go_enter Try.func9, Try.ntmps9
  go_wp2_with fail
  obtain ⟨hA, hP, hU, hsz, hB⟩ := box3 w #[.slice A ls.length c] #[.slice none 0 0] #[.slice none 0 0] 24 30 30
  have HR1 := HR.out.below hB (Nat.le_refl _)
  refine (toBookSetS_any _ ls _ HR1.r HR1.l HS.out.n).mono ?_
  rintro e w2 ⟨u, rfl, ho, hb⟩
  obtain ⟨_, A', c', rfl, _⟩ := sl_of_own ho
  have HP := Lib.hid (hP.below hb (by omega))
  have HU := Lib.hid (hU.below hb (by omega))
  have HB := Lib.hid (hB.trans (hb.mono (by omega)))
  have HO := Lib.hid (own_base ho (base' := w.heap.size + 3) (by omega))
  have hsz2 : w.heap.size + 3 ≤ w2.heap.size := by have := hb.size; omega
  clear ho hb hA hP hU hB HR1 hsz
  have y0 := HU.out.cell 0 rfl
  have f0 := HU.out.open_ 0
  have z0 := HP.out.cell 0 rfl
  have e0 := HP.out.open_ 0
  go_wp2
  have p0 := ((HP.out.other (p := ⟨w.heap.size + 1 + 1, 0, none⟩) (by simp) (.slice A' ls.length c')).set 0 (.slice A' ls.length c')).cell 0 rfl
  refine bodyPost_ret (v := .agg #[.slice A' ls.length c']) (by simp [results, Try.results9, go_sem, p0]) rfl ⟨_, rfl, ⟨?_⟩, ?_⟩
  · exact own_base (ownsRow_setCell_below (ownsRow_setCell_below HO.out (by simp) _) (by simp) _) (by omega)
  · exact (HB.out.setCell (by simp; omega) _).setCell (by simp) _

set_option maxHeartbeats 1000000 in
theorem eqBook_same (va vb : Value) (ls : List SetM) (w : World) (ha : BookR w va ls) (hb : BookR w vb ls) (hs : BookShort ls) :
    Calls Try.prog 12 #[.agg #[va], .agg #[vb]] w fun e w' => e = .returned (.bool true) ∧ Below w.heap.size w w' := by
  have HA := Lib.hid ha
  have HB := Lib.hid hb
  have HS := Lib.hid hs
  clear ha hb hs
  obtain ⟨A, c, rfl⟩ := HA.out.form
  obtain ⟨A', c', rfl⟩ := HB.out.form
  go_enter Try.func12, Try.ntmps12
  go_wp2_with fail
  obtain ⟨_, _, hsz, hb0⟩ := box2 w #[.slice A ls.length c] #[.slice A' ls.length c'] 30 30
  have HA1 := HA.out.below hb0 (Nat.le_refl _)
  have HB1 := HB.out.below hb0 (Nat.le_refl _)
  refine (eqBookSetS_same _ _ ls _ HA1.r HB1.r HA1.l HB1.l HS.out.n).mono ?_
  rintro e w2 ⟨rfl, hb⟩
  have HW := Lib.hid (hb0.trans (hb.mono hb0.size))
  clear hb hb0 HA1 HB1 hsz
  go_wp2
  go_ret
  exact ⟨rfl, HW.out⟩

theorem tot_le8 {ss : List ByteArray} {s : ByteArray} (h : s ∈ ss) : s.size ≤ tot ss := by
  induction ss with
  | nil => cases h
  | cons a ss ih =>
    rcases List.mem_cons.1 h with rfl | h
    · simp [tot]
    · have := ih h; simp [tot] at this ⊢; omega
theorem kszs_le {ls : List SetM} {x : SetM} (h : x ∈ ls) : ksz x ≤ kszs ls := by
  induction ls with
  | nil => cases h
  | cons a ss ih =>
    rcases List.mem_cons.1 h with rfl | h
    · simp [kszs]
    · have := ih h; simp [kszs] at this ⊢; omega
theorem book_short {ls : List SetM} (h : ls.length + kszs ls ≤ 1048576) : BookShort ls := by
  refine ⟨by omega, fun x hx => ?_⟩
  have h1 := kszs_le hx
  unfold ksz at h1
  refine ⟨by omega, by omega, fun s hs => ?_⟩
  have := tot_le8 hs
  omega
end Go.Proofs.Ytoeaeckkmpdpiaa

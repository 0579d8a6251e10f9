/-
  Texts joined into one: the draws of disks, and what they want.
-/
import Derived.Test.YtfcfgdpelbljnaaGreatDoorBase
import Derived.Test.YtfcfgdpelbljnaaGreatDoorPtrCut
import Derived.Lib.AtoiErrMem

/-
  A pointer at a text: BlkTo, spec's and impl's.
-/
set_option maxRecDepth 100000
namespace Go.Proofs.YtfcfgdpelbljnaaGreatDoor
open Go.ChangeShapes Go.WideShapes Go.ChangeAt Go.RowKit Go.Proofs.Palim

def noPtr : PtrM := ⟨0, 0, 0⟩
/-- The pointer at a text. -/
def toM (at_ : Int) (text : ByteArray) (birth : Int) : PtrM := if PtrOkM ⟨at_, sumOf text, birth⟩ then ⟨at_, sumOf text, birth⟩ else noPtr

theorem ret_p {p q : PtrM} (h : p = q) : Ending.returned (pv p) = Ending.returned (pv q) := by rw [h]

set_option maxHeartbeats 400000 in
theorem specBlkTo_any (at_ : Int) (text : ByteArray) (birth : Int) (w : World) (ht : text.size ≤ maxLen) :
    Calls Tryz.prog 38 #[.int .i64 at_, .string text, .int .i64 birth] w fun e w' => e = .returned (pv (toM at_ text birth)) ∧ Below w.heap.size w w' := by
  have hnot : ∀ (x : Bool) (w : World), (Op.unary .not (.bool x)).run Tryz.prog w = .ok (.bool (!x)) w := fun _ _ => rfl
  obtain ⟨s, HS⟩ : ∃ s, Hid (sumOf text = s) := ⟨_, Lib.hid rfl⟩
  go_enter Tryz.func38, Tryz.ntmps38
  go_wp2_with fail
  refine (specSumOf_any text _ ht).mono ?_
  rintro e w1 ⟨rfl, rfl⟩
  rw [HS.out]
  obtain ⟨hA, hR, hsz, hB⟩ := box2 w #[.int .i64 0, .int .i64 0, .int .i64 0] #[.int .i64 at_, .int .i64 s, .int .i64 birth] 24 24
  have XA := Lib.hid hA
  have XR := Lib.hid hR
  have B0 := Lib.hid hB
  clear hA hR hB
  by_cases hat : at_ < 1
  · have HE := Lib.hid (show toM at_ text birth = noPtr from by
      unfold toM; rw [HS.out]; split
      · rename_i h
        rcases h with h | h
        · obtain ⟨h1, h2, h3⟩ := h; simp only at h1 h2 h3; subst h1 h2 h3; rfl
        · have := h.1; simp only at this; omega
      · rfl)
    obtain ⟨x0, x1, x2⟩ := XA.out.three
    have f0 := XA.out.open_ 0
    have f1 := XA.out.open_ 1
    have f2 := XA.out.open_ 2
    have B2 := B0
    go_wp2
    have q1 := XA.out.set 0 (.int .i64 0)
    have q2 := q1.set 1 (.int .i64 0)
    have q3 := q2.set 2 (.int .i64 0)
    refine bodyPost_ret (v := pv noPtr) (by simp [results, Tryz.results38, go_sem, noPtr, q1.cell 0 rfl, q2.cell 1 rfl, q3.cell 2 rfl]) rfl ⟨ret_p HE.out.symm, ?_⟩
    first
      | exact ((B2.out.setCell (by simp) _).setCell (by simp) _).setCell (by simp) _
      | exact ((Below.refl _ w).alloc (Nat.le_refl _) _).alloc (by simp) _
  go_wp2_with fail
  by_cases hok : PtrOkM ⟨at_, s, birth⟩
  · have HE := Lib.hid (show toM at_ text birth = ⟨at_, s, birth⟩ from by unfold toM; rw [HS.out, if_pos hok])
    refine (specPtrOk_is ⟨at_, s, birth⟩ _ true (decide_eq_true hok)).mono ?_
    rintro e w2 ⟨rfl, hb⟩
    have XA2 := Lib.hid (XA.out.below hb XA.out.lt)
    have XR2 := Lib.hid (XR.out.below hb XR.out.lt)
    have B2 := Lib.hid (B0.out.trans (hb.mono B0.out.size))
    clear hb XA XR B0 hok
    obtain ⟨x0, x1, x2⟩ := XA2.out.three
    obtain ⟨y0, y1, y2⟩ := XR2.out.three
    have f0 := XA2.out.open_ 0
    have f1 := XA2.out.open_ 1
    have f2 := XA2.out.open_ 2
    go_wp2
    have q1 := XA2.out.set 0 (.int .i64 at_)
    have q2 := q1.set 1 (.int .i64 s)
    have q3 := q2.set 2 (.int .i64 birth)
    refine bodyPost_ret (v := pv ⟨at_, s, birth⟩) (by simp [results, Tryz.results38, go_sem, q1.cell 0 rfl, q2.cell 1 rfl, q3.cell 2 rfl]) rfl ⟨ret_p HE.out.symm, ?_⟩
    exact ((B2.out.setCell (by simp) _).setCell (by simp) _).setCell (by simp) _
  · have HE := Lib.hid (show toM at_ text birth = noPtr from by unfold toM; rw [HS.out, if_neg hok])
    refine (specPtrOk_is ⟨at_, s, birth⟩ _ false (decide_eq_false hok)).mono ?_
    rintro e w2 ⟨rfl, hb⟩
    have XA2 := Lib.hid (XA.out.below hb XA.out.lt)
    have B2 := Lib.hid (B0.out.trans (hb.mono B0.out.size))
    clear hb XA XR B0 hok
    obtain ⟨x0, x1, x2⟩ := XA2.out.three
    have f0 := XA2.out.open_ 0
    have f1 := XA2.out.open_ 1
    have f2 := XA2.out.open_ 2
    go_wp2
    have q1 := XA2.out.set 0 (.int .i64 0)
    have q2 := q1.set 1 (.int .i64 0)
    have q3 := q2.set 2 (.int .i64 0)
    refine bodyPost_ret (v := pv noPtr) (by simp [results, Tryz.results38, go_sem, noPtr, q1.cell 0 rfl, q2.cell 1 rfl, q3.cell 2 rfl]) rfl ⟨ret_p HE.out.symm, ?_⟩
    exact ((B2.out.setCell (by simp) _).setCell (by simp) _).setCell (by simp) _
end Go.Proofs.YtfcfgdpelbljnaaGreatDoor

/-
  Pointers read: what a text spells, and spec's PtrRead.
-/
set_option maxRecDepth 100000
namespace Go.Proofs.YtfcfgdpelbljnaaGreatDoor
open Go.ChangeShapes Go.WideShapes Go.ChangeAt Go.RowKit Go.Proofs.Palim

theorem good_text {p : PtrM} (h : GoodM p) : ptrText p = ⟨(ptrL p).toArray⟩ := by
  unfold ptrText
  rw [if_neg (not_not_intro (show PtrOkM p from Or.inr h)), if_neg (fun hn => by have := h.1; have := hn.1; omega)]
theorem null_text {p : PtrM} (h : NullM p) : ptrText p = ⟨#[45]⟩ := by
  unfold ptrText
  rw [if_neg (not_not_intro (show PtrOkM p from Or.inl h)), if_pos h]
/-- A good pointer's text is three numerals between points. -/
theorem good_dd {p : PtrM} (h : GoodM p) : ∃ a b c : Nat, p = ⟨(a : Int), (b : Int), (c : Int)⟩ ∧ a < 100000000 ∧ b < 100000000 ∧ c < 100000000 ∧ ptrL p = Lib.decDigits a ++ 46 :: (Lib.decDigits b ++ 46 :: Lib.decDigits c) := by
  obtain ⟨x, y, z⟩ := p
  obtain ⟨h1, h2, h3, h4, h5, h6⟩ := h
  simp only at h1 h2 h3 h4 h5 h6
  obtain ⟨a, rfl⟩ : ∃ a : Nat, x = a := ⟨x.toNat, by omega⟩
  obtain ⟨b, rfl⟩ : ∃ b : Nat, y = b := ⟨y.toNat, by omega⟩
  obtain ⟨c, rfl⟩ : ∃ c : Nat, z = c := ⟨z.toNat, by omega⟩
  exact ⟨a, b, c, rfl, by omega, by omega, by omega, by simp only [ptrL, Lib.itoa_nonneg]⟩
/-- The three numbers of a text, as the library reads them. -/
def parseL (l : List UInt8) : Option PtrM :=
  match Lib.atoiAll (Lib.cut l [46]).1, Lib.atoiAll (Lib.cut (Lib.cut l [46]).2.1 [46]).1, Lib.atoiAll (Lib.cut (Lib.cut l [46]).2.1 [46]).2.1 with
  | .ok x, .ok y, .ok z => some ⟨x, y, z⟩
  | _, _, _ => none
theorem parse_good {p : PtrM} (h : GoodM p) : parseL (ptrL p) = some p := by
  obtain ⟨a, b, c, rfl, ha, hb, hc, e⟩ := good_dd h
  rw [e]
  unfold parseL
  rw [cut_at _ _ (dd_point a)]
  simp only
  rw [cut_at _ _ (dd_point b)]
  simp only
  rw [atoi_digs a (by omega), atoi_digs b (by omega), atoi_digs c (by omega)]
theorem pieces_good (a b c : Nat) : pieces (Lib.decDigits a ++ 46 :: (Lib.decDigits b ++ 46 :: Lib.decDigits c)) = [Lib.decDigits a, Lib.decDigits b, Lib.decDigits c] := by
  rw [pieces_cut _ _ (dd_point a), pieces_cut _ _ (dd_point b), pieces_one _ (dd_point c)]
theorem text_inj {p q : PtrM} (hp : PtrOkM p) (hq : PtrOkM q) (h : ptrText p = ptrText q) : p = q := by
  rcases hp with hp | hp <;> rcases hq with hq | hq
  · obtain ⟨a, b, c⟩ := p
    obtain ⟨x, y, z⟩ := q
    obtain ⟨h1, h2, h3⟩ := hp
    obtain ⟨h4, h5, h6⟩ := hq
    simp only at h1 h2 h3 h4 h5 h6
    subst h1 h2 h3 h4 h5 h6
    rfl
  · exfalso
    rw [null_text hp, good_text hq] at h
    have h2 := congrArg (fun b : ByteArray => b.data.toList) h
    have h3 := parse_good hq
    simp only at h2
    rw [← h2] at h3
    have h4 : parseL [45] = none := by decide +kernel
    rw [h4] at h3
    cases h3
  · exfalso
    rw [null_text hq, good_text hp] at h
    have h2 := congrArg (fun b : ByteArray => b.data.toList) h
    have h3 := parse_good hp
    simp only at h2
    rw [h2] at h3
    have h4 : parseL [45] = none := by decide +kernel
    rw [h4] at h3
    cases h3
  · rw [good_text hp, good_text hq] at h
    have h2 := congrArg (fun b : ByteArray => b.data.toList) h
    simp only at h2
    have h3 := parse_good hp
    rw [h2, parse_good hq] at h3
    exact (Option.some.inj h3).symm
open Classical in
/-- The pointer that a text spells. -/
noncomputable def readM (t : ByteArray) : Option PtrM := if h : ∃ p, PtrOkM p ∧ ptrText p = t then some (Classical.choose h) else none
theorem readM_some {p : PtrM} {t : ByteArray} (h : PtrOkM p) (ht : ptrText p = t) : readM t = some p := by
  have hx : ∃ p, PtrOkM p ∧ ptrText p = t := ⟨p, h, ht⟩
  unfold readM
  rw [dif_pos hx]
  have hc := Classical.choose_spec hx
  rw [text_inj hc.1 h (hc.2.trans ht.symm)]
/-- No pointer: none that is good has this text, and it is not the null pointer's. -/
theorem readM_none {t : ByteArray} (hn : t ≠ ⟨#[45]⟩) (h : ∀ p, GoodM p → t.data.toList ≠ ptrL p) : readM t = none := by
  unfold readM
  rw [dif_neg]
  rintro ⟨p, hp | hp, ht⟩
  · exact hn (ht.symm.trans (null_text hp))
  · refine h p hp ?_
    rw [← ht, good_text hp]
theorem ok_of_text {p : PtrM} {t : ByteArray} (h : ptrText p = t) (hz : t.size ≠ 0) : PtrOkM p := by
  by_cases hk : PtrOkM p
  · exact hk
  · unfold ptrText at h
    rw [if_pos hk] at h
    exact absurd (by rw [← h]; rfl) hz

def ReadPost (t : ByteArray) (w : World) (e : Ending) (w' : World) : Prop :=
  Below w.heap.size w w' ∧ ((∃ p, readM t = some p ∧ e = .returned (.tuple #[pv p, .bool true])) ∨ (readM t = none ∧ e = .returned (.tuple #[pv noPtr, .bool false])))
theorem readM_dash : readM ⟨#[45]⟩ = some noPtr := readM_some (p := noPtr) (Or.inl ⟨rfl, rfl, rfl⟩) (null_text ⟨rfl, rfl, rfl⟩)
theorem low_cell {w : World} {v : Value} {n : Nat} {ps : List ByteArray} (h : Sl w 1 v n (scs ps)) (hn : 0 < n) : ∃ b off c, v = .slice (some ⟨b, off, none⟩) n c ∧ n ≤ c ∧ c ≤ maxLen ∧ ∀ j (hj : j < ps.length), w.cell? ⟨b, off + j, none⟩ = some (.string ps[j]) := by
  obtain ⟨b, off, c, hv, h1, h2, h3⟩ := h.form hn
  exact ⟨b, off, c, hv, h1, h2, fun j hj => h3 j _ (scs_at ps j hj)⟩
theorem ptrText_is (p : PtrM) (w : World) (t : ByteArray) (h : ptrText p = t) :
    Calls Tryz.prog 25 #[pv p] w fun e w' => e = .returned (.string t) ∧ Below w.heap.size w w' := h ▸ specPtrText_any p w
theorem ne_dash {t : ByteArray} (h : t ≠ ⟨#[45]⟩) : (t.toList == [45]) = false := by
  rw [ByteArray.toList_eq]
  refine beq_eq_false_iff_ne.2 fun e => h ?_
  apply ByteArray.ext
  apply Array.ext'
  exact e
theorem ne_text {a b : ByteArray} (h : a ≠ b) : (a.toList == b.toList) = false := by
  rw [ByteArray.toList_eq, ByteArray.toList_eq]
  refine beq_eq_false_iff_ne.2 fun e => h ?_
  apply ByteArray.ext
  exact Array.ext' e

end Go.Proofs.YtfcfgdpelbljnaaGreatDoor

/-
  Pointers read: impl's PtrRead.
-/
set_option maxRecDepth 100000
namespace Go.Proofs.YtfcfgdpelbljnaaGreatDoor
open Go.ChangeShapes Go.WideShapes Go.ChangeAt Go.RowKit Go.Proofs.Palim

/-- What the library's functions read of its variables. -/
structure LibVars (w : World) : Prop where
  pow : HasPow w
  mx : ∃ m, w.cell? ⟨1, 0, none⟩ = some (.int .i64 m)
  es : ∃ te pe, w.cell? ⟨2, 0, none⟩ = some (.iface te pe)
  er : ∃ te pe, w.cell? ⟨3, 0, none⟩ = some (.iface te pe)
theorem LibVars.below {w w' : World} (h : LibVars w) (hb : Below w.heap.size w w') : LibVars w' := by
  obtain ⟨h1, ⟨m, h2⟩, ⟨te, pe, h3⟩, ⟨te', pe', h4⟩⟩ := h
  exact ⟨h1.below hb h1.lt, ⟨m, (hb.cell (World.block_lt_of_cell? _ _ h2)).trans h2⟩, ⟨te, pe, (hb.cell (World.block_lt_of_cell? _ _ h3)).trans h3⟩, ⟨te', pe', (hb.cell (World.block_lt_of_cell? _ _ h4)).trans h4⟩⟩

def AtoiPost (s : ByteArray) (w : World) (e : Ending) (w' : World) : Prop :=
  Below w.heap.size w w' ∧ ((∃ n, Lib.atoiAll s.data.toList = .ok n ∧ e = .returned (.tuple #[.int .i64 n, .nilIface])) ∨ ((∀ n, Lib.atoiAll s.data.toList ≠ .ok n) ∧ ∃ n te pe, e = .returned (.tuple #[.int .i64 n, .iface te pe])))
theorem atoi_any (s : ByteArray) (w : World) (hs : s.size ≤ 1048576) (hv : LibVars w) : Calls Tryz.prog 71 #[.string s] w (AtoiPost s w) := by
  rcases h : Lib.atoiAll s.data.toList with v | _ | _
  · refine (Tryz.strconv_Atoi_ok s (by omega) v h w).mono ?_
    rintro e w' ⟨rfl, hw⟩
    refine ⟨?_, Or.inl ⟨v, h, rfl⟩⟩
    rcases hw with rfl | ⟨t, rfl⟩
    · exact Below.refl _ _
    · exact Lib.bytesWorld_below _ _ _
  · obtain ⟨te, pe, h3⟩ := hv.es
    refine (Tryz.strconv_Atoi_syntax s (by omega) h _ w h3 (Or.inr ⟨te, pe, rfl⟩)).mono ?_
    rintro e w' ⟨N, rfl, _, _, hb⟩
    exact ⟨hb, Or.inr ⟨fun n e => (by rw [h] at e; cases e), _, _, _, rfl⟩⟩
  · obtain ⟨te, pe, h3⟩ := hv.er
    refine (Tryz.strconv_Atoi_range s (by omega) h _ w h3 (Or.inr ⟨te, pe, rfl⟩)).mono ?_
    rintro e w' ⟨N, rfl, _, _, hb⟩
    exact ⟨hb, Or.inr ⟨fun n e => (by rw [h] at e; cases e), _, _, _, rfl⟩⟩
def CutP (s : ByteArray) (w : World) (e : Ending) (w' : World) : Prop :=
  ∃ a b c, e = .returned (.tuple #[.string a, .string b, .bool c]) ∧ a.data.toList = (Lib.cut s.data.toList [46]).1 ∧ b.data.toList = (Lib.cut s.data.toList [46]).2.1 ∧ a.size ≤ s.size ∧ b.size ≤ s.size ∧ Below w.heap.size w w'
theorem cut_len (l : List UInt8) : (Lib.cut l [46]).1.length ≤ l.length ∧ (Lib.cut l [46]).2.1.length ≤ l.length := by
  unfold Lib.cut
  split
  · simp; omega
  · simp
theorem cutP_any (s : ByteArray) (w : World) (hs : s.size ≤ 1048576) (hv : LibVars w) : Calls Tryz.prog 79 #[.string s, .string ⟨#[46]⟩] w (CutP s w) := by
  obtain ⟨m, hm⟩ := hv.mx
  refine (Tryz.strings_Cut s ⟨#[46]⟩ m w (by omega) hm).mono ?_
  rintro e w1 ⟨he, n, rfl⟩
  have hl := cut_len s.data.toList
  refine ⟨_, _, _, he, by simp, by simp, ?_, ?_, ⟨rfl, rfl, rfl, Nat.le_refl _, fun _ _ => rfl⟩⟩
  · rw [size_list, size_list]; simpa using hl.1
  · rw [size_list, size_list]; simpa using hl.2
theorem idx3_0 (a b c : ByteArray) (w : World) : (Instr.index 140 (.agg #[.string a, .string b, .string c]) (.int .i64 0)).run Tryz.prog w = .ok (.string a) w := by kernel_rfl
theorem idx3_1 (a b c : ByteArray) (w : World) : (Instr.index 140 (.agg #[.string a, .string b, .string c]) (.int .i64 1)).run Tryz.prog w = .ok (.string b) w := by kernel_rfl
theorem idx3_2 (a b c : ByteArray) (w : World) : (Instr.index 140 (.agg #[.string a, .string b, .string c]) (.int .i64 2)).run Tryz.prog w = .ok (.string c) w := by kernel_rfl
theorem implText_is (p : PtrM) (w : World) (hp : HasPow w) (t : ByteArray) (h : ptrText p = t) :
    Calls Tryz.prog 19 #[pv p] w fun e w' => e = .returned (.string t) ∧ Below w.heap.size w w' := h ▸ implPtrText_any p w hp
theorem parse_bad {l : List UInt8} {a b c : ByteArray} (ha : a.data.toList = (Lib.cut l [46]).1) (hb : b.data.toList = (Lib.cut (Lib.cut l [46]).2.1 [46]).1) (hc : c.data.toList = (Lib.cut (Lib.cut l [46]).2.1 [46]).2.1)
    (h : (∀ n, Lib.atoiAll a.data.toList ≠ .ok n) ∨ (∀ n, Lib.atoiAll b.data.toList ≠ .ok n) ∨ (∀ n, Lib.atoiAll c.data.toList ≠ .ok n)) : parseL l = none := by
  unfold parseL
  rw [← ha, ← hb, ← hc]
  split
  · rename_i x y z h1 h2 h3
    rcases h with h | h | h
    · exact absurd h1 (h _)
    · exact absurd h2 (h _)
    · exact absurd h3 (h _)
  · rfl
theorem parse_ok {l : List UInt8} {a b c : ByteArray} {x y z : Int} (ha : a.data.toList = (Lib.cut l [46]).1) (hb : b.data.toList = (Lib.cut (Lib.cut l [46]).2.1 [46]).1) (hc : c.data.toList = (Lib.cut (Lib.cut l [46]).2.1 [46]).2.1)
    (h1 : Lib.atoiAll a.data.toList = .ok x) (h2 : Lib.atoiAll b.data.toList = .ok y) (h3 : Lib.atoiAll c.data.toList = .ok z) : parseL l = some ⟨x, y, z⟩ := by
  unfold parseL
  rw [← ha, ← hb, ← hc, h1, h2, h3]
theorem read_bad {t : ByteArray} (hn : t ≠ ⟨#[45]⟩) (h : parseL t.data.toList = none) : readM t = none := readM_none hn (fun p hp e => by
  have := parse_good hp
  rw [← e, h] at this
  cases this)

def NumPost (t : ByteArray) (w : World) (e : Ending) (w' : World) : Prop :=
  Below w.heap.size w w' ∧ ((∃ p : PtrM, parseL t.data.toList = some p ∧ e = .returned (.tuple #[pv p, .bool true])) ∨ (parseL t.data.toList = none ∧ e = .returned (.tuple #[.agg #[.int .i64 0, .int .i64 0, .int .i64 0], .bool false])))
set_option maxHeartbeats 2000000 in
theorem blkNumbers_any (t : ByteArray) (w : World) (ht : t.size ≤ 1048576) (hv : LibVars w) :
    Calls Tryz.prog 86 #[.string t] w (NumPost t w) := by
  have X0 := Lib.hid (box_new w #[.int .i64 0, .int .i64 0, .int .i64 0] 118)
  have B0 := Lib.hid (Below.new (w := w) (.cells #[.int .i64 0, .int .i64 0, .int .i64 0] 118))
  have HV := Lib.hid hv
  clear hv
  go_enter Tryz.func86, Tryz.ntmps86
  go_wp2_with fail
  refine (cutP_any t _ ht (HV.out.below B0.out)).mono ?_
  rintro e w1 ⟨a, rest, q1, rfl, ha, hr, za, zr, hb⟩
  have X1 := Lib.hid (X0.out.below hb X0.out.lt)
  have B1 := Lib.hid (B0.out.trans (hb.mono B0.out.size))
  clear hb X0 B0
  go_wp2_with fail
  refine (cutP_any rest _ (by omega) (HV.out.below B1.out)).mono ?_
  rintro e w2 ⟨b, c, q2, rfl, hb_, hc_, zb, zc, hb⟩
  rw [hr] at hb_ hc_
  have HA := Lib.hid ha
  have HBB := Lib.hid hb_
  have HCC := Lib.hid hc_
  have X2 := Lib.hid (X1.out.below hb X1.out.lt)
  have B2 := Lib.hid (B1.out.trans (hb.mono B1.out.size))
  have zb' : b.size ≤ 1048576 := by omega
  have zc' : c.size ≤ 1048576 := by omega
  have za' : a.size ≤ 1048576 := by omega
  clear hb X1 B1 ha hr hb_ hc_ zr za zb zc
  have i0 := idx3_0 a b c
  have i1 := idx3_1 a b c
  have i2 := idx3_2 a b c
  go_wp2_with fail
  refine wp_loop_rounds 4 ?_
  rw [rounds_succ]
  go_wp2_with fail
  refine (atoi_any a _ za' (HV.out.below B2.out)).mono ?_
  rintro e w4 ⟨hb, ⟨n0, hok0, rfl⟩ | ⟨hno, nx, te, pe, rfl⟩⟩
  rotate_left
  · have HNO := Lib.hid (parse_bad HA.out HBB.out HCC.out (Or.inl hno))
    have X9 := Lib.hid (X2.out.below hb X2.out.lt)
    have B9 := Lib.hid (B2.out.trans (hb.mono B2.out.size))
    clear hb hno X2 B2
    obtain ⟨r0, r1, r2⟩ := X9.out.three
    have f0 := X9.out.open_ 0
    have f1 := X9.out.open_ 1
    have f2 := X9.out.open_ 2
    have Q1 := Lib.hid (X9.out.set 0 (.int .i64 0))
    have Q2 := Lib.hid (Q1.out.set 1 (.int .i64 0))
    have Q3 := Lib.hid (Q2.out.set 2 (.int .i64 0))
    go_wp2
    refine bodyPost_ret (v := .tuple #[pv noPtr, .bool false]) (by simp [results, Tryz.results86, go_sem, noPtr, Q1.out.cell 0 rfl, Q2.out.cell 1 rfl, Q3.out.cell 2 rfl]) rfl ⟨((B9.out.setCell (by simp) _).setCell (by simp) _).setCell (by simp) _, Or.inr ⟨HNO.out, rfl⟩⟩
  have HOK0 := Lib.hid hok0
  have Xb0 := Lib.hid (X2.out.below hb X2.out.lt)
  have Bb0 := Lib.hid (B2.out.trans (hb.mono B2.out.size))
  clear hb hok0 X2 B2
  obtain ⟨y0, y1, y2⟩ := Xb0.out.three
  have g0 := Xb0.out.open_ 0
  have XN0 := Lib.hid (Xb0.out.set 0 (.int .i64 n0))
  have BN0 := Lib.hid (Bb0.out.setCell (p := ⟨w.heap.size, 0, none⟩) (Nat.le_refl _) (.int .i64 n0))
  go_wp2_with fail
  generalize w4.setCell ⟨w.heap.size, 0, none⟩ (.int .i64 n0) = w5 at XN0 BN0 ⊢
  clear y0 y1 y2 g0 Xb0 Bb0
  rw [rounds_succ]
  go_wp2_with fail
  refine (atoi_any b _ zb' (HV.out.below BN0.out)).mono ?_
  rintro e w6 ⟨hb, ⟨n1, hok1, rfl⟩ | ⟨hno, nx, te, pe, rfl⟩⟩
  rotate_left
  · have HNO := Lib.hid (parse_bad HA.out HBB.out HCC.out (Or.inr (Or.inl hno)))
    have X9 := Lib.hid (XN0.out.below hb XN0.out.lt)
    have B9 := Lib.hid (BN0.out.trans (hb.mono BN0.out.size))
    clear hb hno XN0 BN0
    obtain ⟨r0, r1, r2⟩ := X9.out.three
    have f0 := X9.out.open_ 0
    have f1 := X9.out.open_ 1
    have f2 := X9.out.open_ 2
    have Q1 := Lib.hid (X9.out.set 0 (.int .i64 0))
    have Q2 := Lib.hid (Q1.out.set 1 (.int .i64 0))
    have Q3 := Lib.hid (Q2.out.set 2 (.int .i64 0))
    go_wp2
    refine bodyPost_ret (v := .tuple #[pv noPtr, .bool false]) (by simp [results, Tryz.results86, go_sem, noPtr, Q1.out.cell 0 rfl, Q2.out.cell 1 rfl, Q3.out.cell 2 rfl]) rfl ⟨((B9.out.setCell (by simp) _).setCell (by simp) _).setCell (by simp) _, Or.inr ⟨HNO.out, rfl⟩⟩
  have HOK1 := Lib.hid hok1
  have Xb1 := Lib.hid (XN0.out.below hb XN0.out.lt)
  have Bb1 := Lib.hid (BN0.out.trans (hb.mono BN0.out.size))
  clear hb hok1 XN0 BN0
  obtain ⟨y0, y1, y2⟩ := Xb1.out.three
  have g0 := Xb1.out.open_ 1
  have XN1 := Lib.hid (Xb1.out.set 1 (.int .i64 n1))
  have BN1 := Lib.hid (Bb1.out.setCell (p := ⟨w.heap.size, 1, none⟩) (Nat.le_refl _) (.int .i64 n1))
  go_wp2_with fail
  generalize w6.setCell ⟨w.heap.size, 1, none⟩ (.int .i64 n1) = w7 at XN1 BN1 ⊢
  clear y0 y1 y2 g0 Xb1 Bb1
  rw [rounds_succ]
  go_wp2_with fail
  refine (atoi_any c _ zc' (HV.out.below BN1.out)).mono ?_
  rintro e w8 ⟨hb, ⟨n2, hok2, rfl⟩ | ⟨hno, nx, te, pe, rfl⟩⟩
  rotate_left
  · have HNO := Lib.hid (parse_bad HA.out HBB.out HCC.out (Or.inr (Or.inr hno)))
    have X9 := Lib.hid (XN1.out.below hb XN1.out.lt)
    have B9 := Lib.hid (BN1.out.trans (hb.mono BN1.out.size))
    clear hb hno XN1 BN1
    obtain ⟨r0, r1, r2⟩ := X9.out.three
    have f0 := X9.out.open_ 0
    have f1 := X9.out.open_ 1
    have f2 := X9.out.open_ 2
    have Q1 := Lib.hid (X9.out.set 0 (.int .i64 0))
    have Q2 := Lib.hid (Q1.out.set 1 (.int .i64 0))
    have Q3 := Lib.hid (Q2.out.set 2 (.int .i64 0))
    go_wp2
    refine bodyPost_ret (v := .tuple #[pv noPtr, .bool false]) (by simp [results, Tryz.results86, go_sem, noPtr, Q1.out.cell 0 rfl, Q2.out.cell 1 rfl, Q3.out.cell 2 rfl]) rfl ⟨((B9.out.setCell (by simp) _).setCell (by simp) _).setCell (by simp) _, Or.inr ⟨HNO.out, rfl⟩⟩
  have HOK2 := Lib.hid hok2
  have Xb2 := Lib.hid (XN1.out.below hb XN1.out.lt)
  have Bb2 := Lib.hid (BN1.out.trans (hb.mono BN1.out.size))
  clear hb hok2 XN1 BN1
  obtain ⟨y0, y1, y2⟩ := Xb2.out.three
  have g0 := Xb2.out.open_ 2
  have XN2 := Lib.hid (Xb2.out.set 2 (.int .i64 n2))
  have BN2 := Lib.hid (Bb2.out.setCell (p := ⟨w.heap.size, 2, none⟩) (Nat.le_refl _) (.int .i64 n2))
  go_wp2_with fail
  generalize w8.setCell ⟨w.heap.size, 2, none⟩ (.int .i64 n2) = w9 at XN2 BN2 ⊢
  clear y0 y1 y2 g0 Xb2 Bb2
  rw [rounds_succ]
  have HPAR := Lib.hid (parse_ok HA.out HBB.out HCC.out HOK0.out HOK1.out HOK2.out)
  clear HA HBB HCC
  obtain ⟨y0, y1, y2⟩ := XN2.out.three
  have f0 := XN2.out.open_ 0
  have f1 := XN2.out.open_ 1
  have f2 := XN2.out.open_ 2
  have Q1 := Lib.hid (XN2.out.set 0 (.int .i64 n0))
  have Q2 := Lib.hid (Q1.out.set 1 (.int .i64 n1))
  have Q3 := Lib.hid (Q2.out.set 2 (.int .i64 n2))
  go_wp2
  refine bodyPost_ret (v := .tuple #[pv ⟨n0, n1, n2⟩, .bool true]) (by simp [results, Tryz.results86, go_sem, Q1.out.cell 0 rfl, Q2.out.cell 1 rfl, Q3.out.cell 2 rfl]) rfl ⟨((BN2.out.setCell (by simp) _).setCell (by simp) _).setCell (by simp) _, Or.inl ⟨_, HPAR.out, rfl⟩⟩

set_option maxHeartbeats 2000000 in
theorem implPtrRead_any (t : ByteArray) (w : World) (ht : t.size ≤ 1048576) (hv : LibVars w) :
    Calls Tryz.prog 72 #[.string t] w (ReadPost t w) := by
  have hnot : ∀ (x : Bool) (w : World), (Op.unary .not (.bool x)).run Tryz.prog w = .ok (.bool (!x)) w := fun _ _ => rfl
  have X0 := Lib.hid (box_new w #[.int .i64 0, .int .i64 0, .int .i64 0] 24)
  have B0 := Lib.hid (Below.new (w := w) (.cells #[.int .i64 0, .int .i64 0, .int .i64 0] 24))
  have HV := Lib.hid hv
  clear hv
  by_cases hd : t = ⟨#[45]⟩
  · subst hd
    go_enter Tryz.func72, Tryz.ntmps72
    go_wp2
    refine bodyPost_ret (v := .tuple #[pv noPtr, .bool true]) (by simp [results, Tryz.results72, go_sem, noPtr]) rfl ⟨B0.out, Or.inl ⟨noPtr, readM_dash, rfl⟩⟩
  have hcmp := ne_dash hd
  have HDN := Lib.hid hd
  clear hd
  go_enter Tryz.func72, Tryz.ntmps72
  go_wp2_with fail
  refine (blkNumbers_any t _ ht (HV.out.below B0.out)).mono ?_
  rintro e w1 ⟨hb, ⟨⟨n0, n1, n2⟩, hpar, rfl⟩ | ⟨hno, rfl⟩⟩
  rotate_left
  · have HNO := Lib.hid (read_bad HDN.out hno)
    have X9 := Lib.hid ((X0.out.below hb X0.out.lt).alloc (.cells #[.int .i64 0, .int .i64 0, .int .i64 0] 118))
    have B9 := Lib.hid ((B0.out.trans (hb.mono B0.out.size)).alloc (Nat.le_trans B0.out.size hb.size) (.cells #[.int .i64 0, .int .i64 0, .int .i64 0] 118))
    clear hb hno X0 B0
    go_upto_region 4 with fail
    generalize w1.alloc (.cells #[.int .i64 0, .int .i64 0, .int .i64 0] 118) = w2 at X9 B9 ⊢
    obtain ⟨r0, r1, r2⟩ := X9.out.three
    have f0 := X9.out.open_ 0
    have f1 := X9.out.open_ 1
    have f2 := X9.out.open_ 2
    have Q1 := Lib.hid (X9.out.set 0 (.int .i64 0))
    have Q2 := Lib.hid (Q1.out.set 1 (.int .i64 0))
    have Q3 := Lib.hid (Q2.out.set 2 (.int .i64 0))
    go_wp2
    refine bodyPost_ret (v := .tuple #[pv noPtr, .bool false]) (by simp [results, Tryz.results72, go_sem, noPtr, Q1.out.cell 0 rfl, Q2.out.cell 1 rfl, Q3.out.cell 2 rfl]) rfl ⟨((B9.out.setCell (by simp) _).setCell (by simp) _).setCell (by simp) _, Or.inr ⟨HNO.out, rfl⟩⟩
  have HPAR := Lib.hid hpar
  have X9 := Lib.hid ((X0.out.below hb X0.out.lt).alloc (.cells #[.int .i64 n0, .int .i64 n1, .int .i64 n2] 118))
  have B9 := Lib.hid ((B0.out.trans (hb.mono B0.out.size)).alloc (Nat.le_trans B0.out.size hb.size) (.cells #[.int .i64 n0, .int .i64 n1, .int .i64 n2] 118))
  have XF9 := Lib.hid (box_new w1 #[.int .i64 n0, .int .i64 n1, .int .i64 n2] 118)
  clear hb hpar X0 B0
  go_upto_region 4 with fail
  generalize w1.alloc (.cells #[.int .i64 n0, .int .i64 n1, .int .i64 n2] 118) = w9 at X9 B9 XF9 ⊢
  generalize w1.heap.size = F at XF9 ⊢
  obtain ⟨y0, y1, y2⟩ := XF9.out.three
  have XT := Lib.hid (X9.out.alloc (.cells #[.int .i64 n0, .int .i64 n1, .int .i64 n2] 24))
  have XP := Lib.hid (box_new w9 #[.int .i64 n0, .int .i64 n1, .int .i64 n2] 24)
  have BT := Lib.hid (B9.out.alloc B9.out.size (.cells #[.int .i64 n0, .int .i64 n1, .int .i64 n2] 24))
  obtain ⟨tp, HTP⟩ : ∃ tp, Hid (ptrText ⟨n0, n1, n2⟩ = tp) := ⟨_, Lib.hid rfl⟩
  go_wp2_with fail
  refine (implText_is ⟨n0, n1, n2⟩ _ (HV.out.below BT.out).pow tp HTP.out).mono ?_
  rintro e w10 ⟨rfl, hb⟩
  have X10 := Lib.hid (XT.out.below hb XT.out.lt)
  have XP10 := Lib.hid (XP.out.below hb XP.out.lt)
  have B10 := Lib.hid (BT.out.trans (hb.mono BT.out.size))
  clear hb XT XP BT X9 XF9 B9 y0 y1 y2
  by_cases heq : tp = t
  · subst heq
    have HSOME := Lib.hid (readM_some (ok_of_text HTP.out (by
      intro h0
      have e0 : tp.data.toList = [] := List.eq_nil_of_length_eq_zero (by rw [← size_list]; exact h0)
      have h1 := HPAR.out
      rw [e0] at h1
      have h2 : parseL [] = none := by decide +kernel
      rw [h2] at h1
      cases h1)) HTP.out)
    obtain ⟨r0, r1, r2⟩ := X10.out.three
    have f0 := X10.out.open_ 0
    have f1 := X10.out.open_ 1
    have f2 := X10.out.open_ 2
    obtain ⟨y0, y1, y2⟩ := XP10.out.three
    have Q1 := Lib.hid (X10.out.set 0 (.int .i64 n0))
    have Q2 := Lib.hid (Q1.out.set 1 (.int .i64 n1))
    have Q3 := Lib.hid (Q2.out.set 2 (.int .i64 n2))
    go_wp2
    refine bodyPost_ret (v := .tuple #[pv ⟨n0, n1, n2⟩, .bool true]) (by simp [results, Tryz.results72, go_sem, Q1.out.cell 0 rfl, Q2.out.cell 1 rfl, Q3.out.cell 2 rfl]) rfl ⟨((B10.out.setCell (by simp) _).setCell (by simp) _).setCell (by simp) _, Or.inl ⟨_, HSOME.out, rfl⟩⟩
  · have HNO := Lib.hid (readM_none HDN.out (fun p hp e => heq (by
      have h1 := parse_good hp
      rw [← e, HPAR.out] at h1
      have h2 := Option.some.inj h1
      rw [← HTP.out, h2, good_text hp]
      apply ByteArray.ext
      exact Array.ext' (by simpa using e.symm))))
    have hcmp2 := ne_text heq
    obtain ⟨r0, r1, r2⟩ := X10.out.three
    have f0 := X10.out.open_ 0
    have f1 := X10.out.open_ 1
    have f2 := X10.out.open_ 2
    have Q1 := Lib.hid (X10.out.set 0 (.int .i64 0))
    have Q2 := Lib.hid (Q1.out.set 1 (.int .i64 0))
    have Q3 := Lib.hid (Q2.out.set 2 (.int .i64 0))
    go_wp2
    refine bodyPost_ret (v := .tuple #[pv noPtr, .bool false]) (by simp [results, Tryz.results72, go_sem, noPtr, Q1.out.cell 0 rfl, Q2.out.cell 1 rfl, Q3.out.cell 2 rfl]) rfl ⟨((B10.out.setCell (by simp) _).setCell (by simp) _).setCell (by simp) _, Or.inr ⟨HNO.out, rfl⟩⟩
end Go.Proofs.YtfcfgdpelbljnaaGreatDoor

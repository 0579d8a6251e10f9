/-
  The laws' own helpers on lists of strings: copied, compared, measured, marked and asked for the marks.
-/
import Derived.Test.YtobjgdnmlibofaaGreatRows
import Derived.Test.YtobjgdnmlibofaaGreatSum
import Derived.Test.YtobjgdnmlibofaaGreatBytes
import Derived.Test.YtobjgdnmlibofaaGreatMem
import Derived.WalkKit
import Derived.ProofKit
import Derived.Lib.Hide
import Derived.Lib.ItoaNum
import Derived.Lib.ItoaMem
import Derived.Lib.ItoaLen
import Derived.WalkSpells
import Derived.WalkSmall
import Derived.Deep.QuietTactic
import Derived.BigQuiet
import Derived.Deep.Draws
import Derived.Deep.RegionHeld3
set_option maxRecDepth 100000
namespace Go.Proofs.YtobjgdnmlibofaaGreat
open Go.ChangeShapes Go.WideShapes Go.ChangeAt Go.RowKit Go.Proofs.Palim

theorem infoStr : (Tryz.prog.info? 9).map (fun i => (i.zero, i.size, i.bytes)) = some (some (.string ⟨#[]⟩), 1, 16) := by kernel_rfl

/-- A new list of strings of the call's own. -/
def NewStrs (w : World) (ss : List ByteArray) (e : Ending) (w' : World) : Prop :=
  ∃ v, e = .returned v ∧ w'.ownsRow w.heap.size 9 1 v ss.length (scs ss) ∧ Below w.heap.size w w'

set_option maxHeartbeats 400000 in
theorem toStringS_any (v : Value) (ss : List ByteArray) (w : World) (h : Sl w 1 v ss.length (scs ss)) (hs : ss.length ≤ 1048576) :
    Calls Tryz.prog 105 #[v] w (NewStrs w ss) := by
  obtain ⟨i0, hi, hz0, hz1, hz2⟩ := info_parts infoStr
  obtain ⟨n, HN⟩ : ∃ n, Hid (ss.length = n) := ⟨_, Lib.hid rfl⟩
  rw [HN.out] at h hs
  by_cases hn : n = 0
  · subst hn
    have HE := Lib.hid (List.length_eq_zero_iff.1 HN.out)
    obtain ⟨_, A, c, rfl, _, _, _⟩ := h
    go_enter Tryz.func105, Tryz.ntmps105
    go_wp2_with (first | (at_make; refine wpList_make_full _ rfl _ _ 22 rfl w.heap.size 9 i0 (.string ⟨#[]⟩) 1 Tryz.underlying22 hi hz0 hz1 _ _ _ _ 0 rfl rfl (by omega) (by omega) (by omega) (by unfold maxLen; omega) (Nat.le_refl _) ?_))
    intro w1 hown hgrow
    go_wp2
    go_loopw [4] (fun i wr => i = .int .i64 0 ∧ wr = w1) (fun _ _ => 0)
    case atStart => exact ⟨rfl, rfl⟩
    case round =>
      obtain ⟨rfl, rfl⟩ := hrel
      go_wp2
      go_ret
      refine ⟨_, rfl, ?_, (Below.refl _ _).grown hgrow (Nat.le_refl _) (fun _ h => by cases h)⟩
      rw [HE.out]
      have e0 := List.length_eq_zero_iff.1 (show (madeCells #[Value.string ⟨#[]⟩] 0).toList.length = 0 from by simpa using hown.1)
      have h2 := hown
      rw [e0] at h2
      exact h2
  · obtain ⟨b, off, c, rfl, hnc, hcm, hcell⟩ := h.form (by omega)
    have hbl : b < w.heap.size := h.lt (by omega) (by omega) b rfl
    have HC := Lib.hid hcell
    unfold maxLen at hcm
    clear hcell h
    go_enter Tryz.func105, Tryz.ntmps105
    go_wp2_with (first | (at_make; refine wpList_make_full _ rfl _ _ 22 rfl w.heap.size 9 i0 (.string ⟨#[]⟩) 1 Tryz.underlying22 hi hz0 hz1 _ _ _ _ n rfl rfl rfl rfl (by rw [hz2]; omega) (by unfold maxLen; omega) (Nat.le_refl _) ?_))
    intro w1 hown hgrow
    go_wp2
    go_loopw [4] (fun i wr => ∃ (k : Nat) (xs : List Value), k ≤ n ∧ i = .int .i64 k ∧ Hid (wr.ownsRow w.heap.size 9 1 (.slice (some ⟨w.heap.size, 0, none⟩) n n) n xs) ∧ Hid (xs.take k = scs (ss.take k)) ∧ Hid (Below w.heap.size w wr)) (fun i _ => n - (intOf i).toNat)
    case atStart => exact ⟨0, _, Nat.zero_le _, rfl, Lib.hid hown, Lib.hid rfl, Lib.hid ((Below.refl _ _).grown hgrow (Nat.le_refl _) (fun _ h => by cases h))⟩
    case round =>
      obtain ⟨k, xs, hk, rfl, HO, HT, HB⟩ := hrel
      clear hown hgrow
      by_cases hlt : k < n
      · have hlt' : k < ss.length := by rw [HN.out]; exact hlt
        have hrd : wr.cell? ⟨b, off + k, none⟩ = some (.string ss[k]) := (HB.out.cell hbl).trans (HC.out k _ (scs_at ss k hlt'))
        obtain ⟨⟨u, _, hcu⟩, hfu, _, _⟩ := own_at HO.out k (by omega)
        have HO2 := Lib.hid (own_set HO.out k (.string ss[k]))
        have HB2 := Lib.hid (HB.out.setCell (p := ⟨w.heap.size, k, none⟩) (Nat.le_refl _) (.string ss[k]))
        have HT2 := Lib.hid (show (xs.set k (.string ss[k])).take (k + 1) = scs (ss.take (k + 1)) from by
          have hl : k < xs.length := by have := HO.out.1; omega
          rw [take_set_succ xs k _ hl, HT.out, List.take_succ_eq_append_getElem hlt', scs_snoc])
        clear HO HT HB
        go_wp2
        go_roundw
        case rel => exact ⟨k + 1, _, by omega, by go_num, HO2, HT2, HB2⟩
        case measure => simp [intOf]; omega
      · have hkn : k = n := by omega
        have HX := Lib.hid (show xs = scs ss from by
          have hl := HO.out.1
          have ht := HT.out
          rw [List.take_of_length_le (by omega), List.take_of_length_le (by rw [HN.out]; omega)] at ht
          exact ht)
        clear hkn
        go_wp2
        go_ret
        refine ⟨_, rfl, ?_, HB.out⟩
        rw [HN.out, ← HX.out]
        exact HO.out

theorem drewN_zero (w : World) : w.drewN 0 = w := rfl
/-- Only the count of draws has moved. -/
def Drawn (v : Value) (w : World) (e : Ending) (w' : World) : Prop := e = .returned v ∧ ∃ q, w' = w.drewN q

set_option maxHeartbeats 400000 in
theorem eqStringS_same (va vb : Value) (ss : List ByteArray) (w : World) (ha : Sl w 1 va ss.length (scs ss)) (hb : Sl w 1 vb ss.length (scs ss)) (hs : ss.length ≤ 1048576) :
    Calls Tryz.prog 116 #[va, vb] w (Drawn (.bool true) w) := by
  obtain ⟨n, HN⟩ : ∃ n, Hid (ss.length = n) := ⟨_, Lib.hid rfl⟩
  rw [HN.out] at ha hb hs
  by_cases hn : n = 0
  · subst hn
    obtain ⟨_, A, c, rfl, _, _, _⟩ := ha
    obtain ⟨_, A', c', rfl, _, _, _⟩ := hb
    go_enter Tryz.func116, Tryz.ntmps116
    go_wp2
    go_loopw [5] (fun i wr => i = .int .i64 0 ∧ wr = w) (fun _ _ => 0)
    case atStart => exact ⟨rfl, rfl⟩
    case round =>
      obtain ⟨rfl, rfl⟩ := hrel
      go_wp2
      go_ret
      exact ⟨rfl, 0, rfl⟩
  · obtain ⟨b, off, c, rfl, hnc, hcm, hcell⟩ := ha.form (by omega)
    obtain ⟨b', off', c', rfl, hnc', hcm', hcell'⟩ := hb.form (by omega)
    have HC := Lib.hid hcell
    have HC' := Lib.hid hcell'
    unfold maxLen at hcm hcm'
    clear hcell hcell' ha hb
    go_enter Tryz.func116, Tryz.ntmps116
    go_wp2
    go_loopw [5] (fun i wr => ∃ (k q : Nat), k ≤ n ∧ i = .int .i64 k ∧ wr = w.drewN q) (fun i _ => n - (intOf i).toNat)
    case atStart => exact ⟨0, 0, Nat.zero_le _, rfl, rfl⟩
    case round =>
      obtain ⟨k, q, hk, rfl, rfl⟩ := hrel
      by_cases hlt : k < n
      · have hlt' : k < ss.length := by rw [HN.out]; exact hlt
        have h1 : w.cell? ⟨b, off + k, none⟩ = some (.string ss[k]) := HC.out k _ (scs_at ss k hlt')
        have h2 : w.cell? ⟨b', off' + k, none⟩ = some (.string ss[k]) := HC'.out k _ (scs_at ss k hlt')
        have hk1 : (k : Int) < (n : Int) := by omega
        go_wp2_with fail
        go_quiet (fail)
        go_wp2
        go_roundw
        case rel => exact ⟨k + 1, _, by omega, by go_num, rfl⟩
        case measure => simp [intOf]; omega
      · go_wp2
        go_ret
        exact ⟨rfl, q, rfl⟩

/-- The bytes of a list of strings. -/
def tot (ss : List ByteArray) : Nat := (ss.map ByteArray.size).sum
theorem tot_snoc (a : List ByteArray) (s : ByteArray) : tot (a ++ [s]) = tot a + s.size := by simp [tot]
/-- What is left behind n elements and t bytes; or less than nothing. -/
def SzPost (m : Nat) (left : Int) (w : World) (e : Ending) (w' : World) : Prop := ∃ r : Int, e = .returned (.int .i64 r) ∧ w = w' ∧ (r = -1 ∨ 0 ≤ r ∧ r + m = left)

set_option maxHeartbeats 400000 in
theorem szStringS_any (v : Value) (ss : List ByteArray) (left : Int) (w : World) (h : Sl w 1 v ss.length (scs ss)) (hz : ∀ s ∈ ss, s.size ≤ maxLen) (h0 : 0 ≤ left) (h1 : left ≤ 1048576) :
    Calls Tryz.prog 97 #[v, .int .i64 left] w (SzPost (ss.length + tot ss) left w) := by
  obtain ⟨n, HN⟩ : ∃ n, Hid (ss.length = n) := ⟨_, Lib.hid rfl⟩
  have HZ := Lib.hid hz
  clear hz
  rw [HN.out] at h
  have hnm := h.le
  unfold maxLen at hnm
  by_cases hbig : left < n
  · obtain ⟨_, A, c, rfl, _, _, _⟩ := h
    go_enter Tryz.func97, Tryz.ntmps97
    go_wp2
    go_ret
    exact ⟨-1, rfl, rfl, Or.inl rfl⟩
  by_cases hn : n = 0
  · subst hn
    have HE := Lib.hid (List.length_eq_zero_iff.1 HN.out)
    obtain ⟨_, A, c, rfl, _, _, _⟩ := h
    go_enter Tryz.func97, Tryz.ntmps97
    go_wp2
    go_loop [1, 5] (fun l i => l = .int .i64 left ∧ i = .int .i64 0) (fun _ _ => 0)
    case atStart => exact ⟨rfl, rfl⟩
    case round =>
      obtain ⟨rfl, rfl⟩ := hrel
      go_wp2
      go_ret
      exact ⟨left, rfl, rfl, Or.inr ⟨h0, by rw [HE.out]; simp [tot]⟩⟩
  · obtain ⟨b, off, c, rfl, hnc, hcm, hcell⟩ := h.form (by omega)
    have HC := Lib.hid hcell
    unfold maxLen at hcm
    clear hcell h
    go_enter Tryz.func97, Tryz.ntmps97
    go_wp2
    go_loop [1, 5] (fun l i => ∃ (k : Nat) (r : Int), k ≤ n ∧ i = .int .i64 k ∧ l = .int .i64 r ∧ 0 ≤ r ∧ r ≤ left ∧ Hid (r + n + tot (ss.take k) = left)) (fun _ i => n - (intOf i).toNat)
    case atStart => exact ⟨0, left - n, Nat.zero_le _, rfl, rfl, by omega, by omega, Lib.hid (by simp [tot])⟩
    case round =>
      obtain ⟨k, r, hk, rfl, rfl, hr0, hr1, HR⟩ := hrel
      by_cases hlt : k < n
      · have hlt' : k < ss.length := by rw [HN.out]; exact hlt
        have hrd : w.cell? ⟨b, off + k, none⟩ = some (.string ss[k]) := HC.out k _ (scs_at ss k hlt')
        have hsz := HZ.out ss[k] (List.getElem_mem _)
        unfold maxLen at hsz
        have HT := Lib.hid (show tot (ss.take (k + 1)) = tot (ss.take k) + ss[k].size from by rw [List.take_succ_eq_append_getElem hlt', tot_snoc])
        obtain ⟨s, HS⟩ : ∃ s, Hid (s = ss[k]) := ⟨_, Lib.hid rfl⟩
        rw [← HS.out] at hrd hsz
        by_cases hneg : r < s.size
        · go_wp2
          go_ret
          exact ⟨-1, rfl, rfl, Or.inl rfl⟩
        · go_wp2
          go_round
          case rel => exact ⟨k + 1, r - s.size, by omega, by go_num, by go_num, by omega, by omega, Lib.hid (by have h1 := HR.out; have h2 := HT.out; rw [← HS.out] at h2; rw [h2]; omega)⟩
          case measure => simp [intOf]; omega
      · have HK := Lib.hid (show ss.take k = ss from List.take_of_length_le (by rw [HN.out]; omega))
        go_wp2
        go_ret
        exact ⟨r, rfl, rfl, Or.inr ⟨hr0, by have h1 := HR.out; rw [HK.out] at h1; rw [HN.out]; omega⟩⟩

/-- The text of a mark. -/
def mkText (k : Nat) : ByteArray := ⟨(109 :: Lib.decDigits k).toArray⟩

set_option maxHeartbeats 400000 in
theorem markText_any (n : Nat) (w : World) (h0 : 1 ≤ n) (hn : n < 1000000000) :
    Calls Tryz.prog 125 #[.int .i64 (n : Int)] w fun e w' => e = .returned (.string (mkText n)) ∧ Below w.heap.size w w' := by
  go_enter Tryz.func125, Tryz.ntmps125
  go_wp2
  go_loopw [0, 3] (fun i v wr => ∃ (m : Nat) (o : List UInt8), m ≤ n ∧ i = .int .i64 (m : Int) ∧ v = .string ⟨o.toArray⟩ ∧ Below w.heap.size w wr ∧ Hid (Lib.decDigits n = (if m = 0 then [] else Lib.decDigits m) ++ o)) (fun i _ _ => (intOf i).toNat)
  case atStart => exact ⟨n, [], Nat.le_refl _, rfl, rfl, Below.refl _ _, Lib.hid (by rw [if_neg (by omega)]; simp)⟩
  case round =>
    obtain ⟨m, o, hm, rfl, rfl, hb, HD⟩ := hrel
    have ho : o.length ≤ 21 := by
      have h1 := congrArg List.length HD.out
      have h2 := Lib.itoa_length_le (n : Int) (by omega) (by omega)
      rw [Lib.itoa_nonneg] at h2
      rw [List.length_append] at h1
      omega
    by_cases hlt : 0 < m
    · obtain ⟨c, HC⟩ : ∃ c, Hid (c = UInt8.ofNat (48 + m % 10)) := ⟨_, Lib.hid rfl⟩
      have hcv := run_convert_one (P := Tryz.prog) wr 121 9 5 Tryz.underlying121 Tryz.underlying5 Tryz.underlying9 (48 + (m : Int) % 10) c (by rw [HC.out]; exact digit_of m)
      have HN := Lib.hid (show Lib.decDigits m = (if m / 10 = 0 then [] else Lib.decDigits (m / 10)) ++ [c] from by
        rw [HC.out]
        by_cases h10 : m < 10
        · rw [if_pos (by omega), Lib.decDigits_one h10, Nat.mod_eq_of_lt h10]; rfl
        · rw [if_neg (by omega), Lib.decDigits, dif_neg h10])
      go_wp2
      go_roundw
      case rel => exact ⟨m / 10, c :: o, by omega, by go_num, by rw [show (⟨#[c]⟩ : ByteArray) = ⟨[c].toArray⟩ from rfl, str_app]; rfl, hb.alloc hb.size _, Lib.hid (by rw [HD.out, if_neg (by omega), HN.out]; simp)⟩
      case measure => simp [intOf]; omega
    · have hm0 : m = 0 := by omega
      have HF := Lib.hid (show Lib.decDigits n = o from by rw [HD.out, if_pos hm0]; rfl)
      clear hm0
      go_wp2
      go_ret
      refine ⟨?_, hb⟩
      show Ending.returned (.string ((⟨[109].toArray⟩ : ByteArray) ++ ⟨o.toArray⟩)) = _
      rw [str_app, ← HF.out]
      rfl

/-- The marks from k on. -/
def marks (k n : Nat) : List ByteArray := (List.range n).map fun i => mkText (k + i)
theorem marks_length (k n : Nat) : (marks k n).length = n := by simp [marks]
theorem marks_succ (k n : Nat) : marks k (n + 1) = marks k n ++ [mkText (k + n)] := by simp [marks, List.range_succ]
theorem marks_at (k n i : Nat) (h' : i < (marks k n).length) : (marks k n)[i] = mkText (k + i) := by simp [marks]

/-- Marked: the slice holds the marks, and nothing else that was there has turned. -/
def Marked (k : Nat) (v : Value) (base n : Nat) (w : World) (e : Ending) (w' : World) : Prop :=
  e = .returned (.int .i64 ((k + n : Nat) : Int)) ∧ w'.ownsRow base 9 1 v n (scs (marks k n)) ∧ Turned (fun b => v.ownBlock = some b) w w'

set_option maxHeartbeats 400000 in
theorem markStringS_any (v : Value) (n k base : Nat) (xs0 : List Value) (w : World) (h : w.ownsRow base 9 1 v n xs0) (hs : n ≤ 1048576) (hk0 : 1 ≤ k) (hk1 : k ≤ 100000000) :
    Calls Tryz.prog 124 #[v, .int .i64 (k : Int)] w (Marked k v base n w) := by
  by_cases hn : n = 0
  · subst hn
    obtain ⟨_, A, c, rfl, _, _, _⟩ := sl_of_own h
    have HO := Lib.hid h
    clear h
    go_enter Tryz.func124, Tryz.ntmps124
    go_wp2
    go_loopw [1, 5] (fun l i wr => l = .int .i64 (k : Int) ∧ i = .int .i64 0 ∧ wr = w) (fun _ _ _ => 0)
    case atStart => exact ⟨rfl, rfl, rfl⟩
    case round =>
      obtain ⟨rfl, rfl, rfl⟩ := hrel
      go_wp2
      go_ret
      refine ⟨rfl, ?_, Turned.refl _ _⟩
      have h0 := HO.out
      have e0 := List.length_eq_zero_iff.1 (show xs0.length = 0 from by simpa using h0.1)
      rw [e0] at h0
      exact h0
  · obtain ⟨g, cap, rfl, hbg, hgl⟩ := h.form (by omega)
    have hcp : cap ≤ maxLen ∧ n ≤ cap := by
      rcases h.2 with ⟨hv, _⟩ | ⟨g', cap', cur, hv, _, _, h1, h2, _⟩
      · cases hv
      · injection hv with e1 e2 e3
        subst e3
        exact ⟨h2, h1⟩
    obtain ⟨hcp1, hcp2⟩ := hcp
    unfold maxLen at hcp1
    have HO0 := Lib.hid h
    clear h
    go_enter Tryz.func124, Tryz.ntmps124
    go_wp2
    go_loopw [1, 5] (fun l i wr => ∃ (j kk : Nat) (xs : List Value), j ≤ n ∧ kk = k + j ∧ l = .int .i64 (kk : Int) ∧ i = .int .i64 (j : Int) ∧ Hid (wr.ownsRow base 9 1 (.slice (some ⟨g, 0, none⟩) n cap) n xs) ∧ Hid (xs.take j = scs (marks k j)) ∧ Hid (Turned (fun b => b = g) w wr)) (fun _ i _ => n - (intOf i).toNat)
    case atStart => exact ⟨0, k, _, Nat.zero_le _, rfl, rfl, rfl, HO0, Lib.hid rfl, Lib.hid (Turned.refl _ _)⟩
    case round =>
      obtain ⟨j, kk, xs, hj, hkk, rfl, rfl, HO, HT, HW⟩ := hrel
      have HK := Lib.hid hkk
      have hkb : kk ≤ 101048576 := by omega
      have hkb1 : 1 ≤ kk := by omega
      clear hkk
      by_cases hlt : j < n
      · go_wp2_with fail
        refine (markText_any kk _ hkb1 (by omega)).mono ?_
        rintro e w2 ⟨rfl, hb2⟩
        have HO1 := Lib.hid (own_kept HO.out (w' := w2) (fun b e => hb2.block b (by have := HO.out.lt b e; omega)))
        obtain ⟨⟨u, _, hcu⟩, hfu, _, _⟩ := own_at HO1.out j (by omega)
        have HO2 := Lib.hid (own_set HO1.out j (.string (mkText kk)))
        have HW2 := Lib.hid (turned_setCell (HW.out.trans (turned_of_below hb2)) (p := ⟨g, j, none⟩) rfl (.string (mkText kk)))
        have HT2 := Lib.hid (show (xs.set j (.string (mkText kk))).take (j + 1) = scs (marks k (j + 1)) from by
          have hl : j < xs.length := by have := HO.out.1; omega
          rw [take_set_succ xs j _ hl, HT.out, marks_succ, scs_snoc, HK.out])
        clear HO HT HW HO1 hb2
        go_wp2
        go_roundw
        case rel => exact ⟨j + 1, kk + 1, _, by omega, by have := HK.out; omega, by go_num, by go_num, HO2, HT2, HW2⟩
        case measure => simp [intOf]; omega
      · have hjn : j = n := by omega
        have HX := Lib.hid (show xs = scs (marks k n) from by
          have hl := HO.out.1
          have ht := HT.out
          rw [List.take_of_length_le (by omega), hjn] at ht
          exact ht)
        have HKN := Lib.hid (show kk = k + n from by rw [HK.out, hjn])
        clear hjn
        go_wp2
        go_ret
        refine ⟨?_, ?_, HW.out.mono ?_⟩
        · exact ret_int (by rw [HKN.out])
        · rw [← HX.out]; exact HO.out
        · rintro b _ rfl; rfl

def HeldPost (r : Int) (w : World) (e : Ending) (w' : World) : Prop := e = .returned (.int .i64 r) ∧ Below w.heap.size w w'

set_option maxHeartbeats 400000 in
theorem heldStringS_any (v : Value) (n k : Nat) (w : World) (h : Sl w 1 v n (scs (marks k n))) (hv : ∀ b, v.ownBlock = some b → b < w.heap.size) (hs : n ≤ 1048576) (hk0 : 1 ≤ k) (hk1 : k ≤ 100000000) :
    Calls Tryz.prog 126 #[v, .int .i64 (k : Int)] w (HeldPost ((k + n : Nat) : Int) w) := by
  by_cases hn : n = 0
  · subst hn
    obtain ⟨_, A, c, rfl, _, _, _⟩ := h
    clear hv
    go_enter Tryz.func126, Tryz.ntmps126
    go_wp2
    go_loopw [1, 5] (fun l i wr => l = .int .i64 (k : Int) ∧ i = .int .i64 0 ∧ wr = w) (fun _ _ _ => 0)
    case atStart => exact ⟨rfl, rfl, rfl⟩
    case round =>
      obtain ⟨rfl, rfl, rfl⟩ := hrel
      go_wp2
      go_ret
      exact ⟨rfl, Below.refl _ _⟩
  · obtain ⟨b, off, c, rfl, hnc, hcm, hcell⟩ := h.form (by omega)
    have hbl : b < w.heap.size := hv b rfl
    have HC := Lib.hid hcell
    unfold maxLen at hcm
    clear hcell h hv
    go_enter Tryz.func126, Tryz.ntmps126
    go_wp2
    go_loopw [1, 5] (fun l i wr => ∃ (j kk : Nat), j ≤ n ∧ Hid (kk = k + j) ∧ l = .int .i64 (kk : Int) ∧ i = .int .i64 (j : Int) ∧ Hid (Below w.heap.size w wr)) (fun _ i _ => n - (intOf i).toNat)
    case atStart => exact ⟨0, k, Nat.zero_le _, Lib.hid rfl, rfl, rfl, Lib.hid (Below.refl _ _)⟩
    case round =>
      obtain ⟨j, kk, hj, HK, rfl, rfl, HB⟩ := hrel
      have hkb : kk ≤ 101048576 := by have := HK.out; omega
      have hkb1 : 1 ≤ kk := by have := HK.out; omega
      by_cases hlt : j < n
      · have hrd : wr.cell? ⟨b, off + j, none⟩ = some (.string (mkText kk)) := by
          refine (HB.out.cell hbl).trans (HC.out j _ ?_)
          rw [scs_at _ j (by rw [marks_length]; exact hlt), marks_at, HK.out]
        have hj1 : (j : Int) < (n : Int) := by omega
        have hbr : b < wr.heap.size := Nat.lt_of_lt_of_le hbl HB.out.size
        go_wp2_with fail
        go_region_held3 (fun w' => w'.cell? ⟨b, off + j, none⟩ = some (.string (mkText kk)))
          (first
            | go_keep
            | (rw [hb2.cell (by simp <;> omega)]; assumption))
          ((go_at_call 125; ((with_reducible refine (markText_any kk _ hkb1 (by omega)).mono ?_); rintro e w2 ⟨rfl, hb2⟩)))
        all_goals
          have HB2 := Lib.hid (HB.out.drew.trans (hb2.mono (by have := HB.out.size; simp; omega)))
          clear HB hb2 hrd
          go_wp2
          go_roundw
          case rel => exact ⟨j + 1, kk + 1, by omega, Lib.hid (by have := HK.out; omega), by go_num, by go_num, HB2⟩
          case measure => simp [intOf]; omega
      · have HKN := Lib.hid (show kk = k + n from by have := HK.out; omega)
        go_wp2
        go_ret
        exact ⟨ret_int (by rw [HKN.out]), HB.out⟩
end Go.Proofs.YtobjgdnmlibofaaGreat

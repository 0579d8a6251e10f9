/-
  The laws' own helpers on lists of late writes.
-/
import Derived.Test.YtobjgdnmlibofaaGreatStrS
import Derived.WalkKit
import Derived.ProofKit
import Derived.Lib.Hide
import Derived.WalkSpells
import Derived.WalkSmall
import Derived.Laws.Pointers
set_option maxRecDepth 100000
namespace Go.Proofs.YtobjgdnmlibofaaGreat
open Go.ChangeShapes Go.WideShapes Go.ChangeAt Go.RowKit Go.Proofs.Palim

/-- A late write, as plain data. -/
structure LateM where
  side : Int
  at_ : Int
  text : ByteArray
def lc (x : LateM) : List Value := [.int .i64 x.side, .int .i64 x.at_, .string x.text]
def lcs (ls : List LateM) : List Value := ls.flatMap lc
theorem lcs_length (ls : List LateM) : (lcs ls).length = ls.length * 3 := by
  induction ls with
  | nil => rfl
  | cons x ls ih => simp [lcs, lc] at ih ⊢; omega
theorem lcs_snoc (a : List LateM) (x : LateM) : lcs (a ++ [x]) = lcs a ++ lc x := by simp [lcs]
theorem lcs_at (ls : List LateM) : ∀ (k : Nat) (h : k < ls.length), (lcs ls)[k * 3]? = some (.int .i64 ls[k].side) ∧ (lcs ls)[k * 3 + 1]? = some (.int .i64 ls[k].at_) ∧ (lcs ls)[k * 3 + 2]? = some (.string ls[k].text) := by
  induction ls with
  | nil => intro k h; simp at h
  | cons x ls ih =>
    intro k h
    have e : lcs (x :: ls) = [.int .i64 x.side, .int .i64 x.at_, .string x.text] ++ lcs ls := by simp [lcs, lc]
    cases k with
    | zero => rw [e]; exact ⟨rfl, rfl, rfl⟩
    | succ k =>
      have := ih k (by simpa using h)
      rw [e, show (k + 1) * 3 = k * 3 + 3 by omega]
      rw [List.getElem?_append_right (by simp), List.getElem?_append_right (by simp <;> omega), List.getElem?_append_right (by simp <;> omega)]
      simp only [List.length_cons, List.length_nil, List.getElem_cons_succ]
      rw [show k * 3 + 3 - (0 + 1 + 1 + 1) = k * 3 by omega, show k * 3 + 3 + 1 - (0 + 1 + 1 + 1) = k * 3 + 1 by omega, show k * 3 + 3 + 2 - (0 + 1 + 1 + 1) = k * 3 + 2 by omega]
      exact this
theorem late_read {w : World} {ls : List LateM} {b off : Nat} (hc : ∀ j u, (lcs ls)[j]? = some u → w.cell? ⟨b, off + j, none⟩ = some u) (k : Nat) (h : k < ls.length) :
    w.cell? ⟨b, off + k * 3, none⟩ = some (.int .i64 ls[k].side) ∧ w.cell? ⟨b, off + k * 3 + 1, none⟩ = some (.int .i64 ls[k].at_) ∧ w.cell? ⟨b, off + k * 3 + 2, none⟩ = some (.string ls[k].text) := by
  have hat := lcs_at ls k h
  exact ⟨hc _ _ hat.1, by rw [Nat.add_assoc]; exact hc _ _ hat.2.1, by rw [Nat.add_assoc]; exact hc _ _ hat.2.2⟩
/-- As a value. -/
def lv (x : LateM) : Value := .agg #[.int .i64 x.side, .int .i64 x.at_, .string x.text]

set_option maxHeartbeats 400000 in
theorem toDiskLate_any (a b : Int) (s : ByteArray) (w : World) :
    Calls Tryz.prog 106 #[.agg #[.int .i64 a, .int .i64 b, .string s]] w fun e w' => e = .returned (.agg #[.int .i64 a, .int .i64 b, .string s]) ∧ Below w.heap.size w w' := by
  go_enter Tryz.func106, Tryz.ntmps106
  go_wp2
  refine bodyPost_ret (v := .agg #[.int .i64 a, .int .i64 b, .string s]) (by simp [results, Tryz.results106, go_sem]) rfl ⟨rfl, ?_⟩
  exact (((Below.refl _ _).alloc (Nat.le_refl _) _).alloc (by simp) _).alloc (by simp; omega) _

set_option maxHeartbeats 400000 in
theorem szDiskLate_any (a b : Int) (s : ByteArray) (left : Int) (w : World) (hs : s.size ≤ maxLen) (h0 : 0 ≤ left) (h1 : left ≤ 1048576) :
    Calls Tryz.prog 98 #[.agg #[.int .i64 a, .int .i64 b, .string s], .int .i64 left] w fun e w' => e = .returned (.int .i64 (if left < s.size then -1 else left - s.size)) ∧ Below w.heap.size w w' := by
  unfold maxLen at hs
  by_cases hl : left < s.size
  · rw [if_pos hl]
    go_enter Tryz.func98, Tryz.ntmps98
    go_wp2
    go_ret
    exact ⟨rfl, (Below.refl _ _).alloc (Nat.le_refl _) _⟩
  · rw [if_neg hl]
    go_enter Tryz.func98, Tryz.ntmps98
    go_wp2
    go_ret
    exact ⟨rfl, (Below.refl _ _).alloc (Nat.le_refl _) _⟩

set_option maxHeartbeats 400000 in
theorem eqDiskLate_same (a b : Int) (s : ByteArray) (w : World) :
    Calls Tryz.prog 117 #[.agg #[.int .i64 a, .int .i64 b, .string s], .agg #[.int .i64 a, .int .i64 b, .string s]] w fun e w' => e = .returned (.bool true) ∧ Below w.heap.size w w' := by
  go_enter Tryz.func117, Tryz.ntmps117
  go_wp2
  go_ret
  exact ⟨rfl, ((Below.refl _ _).alloc (Nat.le_refl _) _).alloc (by simp) _⟩

set_option maxHeartbeats 400000 in
theorem szDiskLateS_any (v : Value) (ls : List LateM) (left : Int) (w : World) (h : Sl w 3 v ls.length (lcs ls)) (hv : ∀ b, v.ownBlock = some b → b < w.heap.size) (hz : ∀ x ∈ ls, x.text.size ≤ maxLen) (h0 : 0 ≤ left) (h1 : left ≤ 1048576) :
    Calls Tryz.prog 46 #[v, .int .i64 left] w fun e w' => (∃ r : Int, e = .returned (.int .i64 r) ∧ (r = -1 ∨ 0 ≤ r ∧ r + ls.length + tot (ls.map (·.text)) = left)) ∧ Below w.heap.size w w' := by
  obtain ⟨n, HN⟩ : ∃ n, Hid (ls.length = n) := ⟨_, Lib.hid rfl⟩
  have HZ := Lib.hid hz
  clear hz
  rw [HN.out] at h
  have hnm := h.le
  unfold maxLen at hnm
  by_cases hbig : left < n
  · obtain ⟨_, A, c, rfl, _, _, _⟩ := h
    go_enter Tryz.func46, Tryz.ntmps46
    go_wp2
    go_ret
    exact ⟨⟨-1, rfl, Or.inl rfl⟩, Below.refl _ _⟩
  by_cases hn : n = 0
  · subst hn
    have HE := Lib.hid (List.length_eq_zero_iff.1 HN.out)
    obtain ⟨_, A, c, rfl, _, _, _⟩ := h
    clear hv
    go_enter Tryz.func46, Tryz.ntmps46
    go_wp2
    go_loop [1, 5] (fun l i => l = .int .i64 left ∧ i = .int .i64 0) (fun _ _ => 0)
    case atStart => exact ⟨rfl, rfl⟩
    case round =>
      obtain ⟨rfl, rfl⟩ := hrel
      go_wp2
      go_ret
      exact ⟨⟨left, rfl, Or.inr ⟨h0, by rw [HE.out]; simp [tot]⟩⟩, Below.refl _ _⟩
  · obtain ⟨b, off, c, rfl, hnc, hcm, hcell⟩ := h.form (by omega)
    have hbl : b < w.heap.size := hv b rfl
    have HC := Lib.hid hcell
    unfold maxLen at hcm
    clear hcell h hv
    go_enter Tryz.func46, Tryz.ntmps46
    go_wp2
    go_loopw [1, 5] (fun l i wr => ∃ (k : Nat) (r : Int), k ≤ n ∧ i = .int .i64 k ∧ l = .int .i64 r ∧ 0 ≤ r ∧ r ≤ left ∧ Hid (r + n + tot ((ls.take k).map (·.text)) = left) ∧ Hid (Below w.heap.size w wr)) (fun _ i _ => n - (intOf i).toNat)
    case atStart => exact ⟨0, left - n, Nat.zero_le _, rfl, rfl, by omega, by omega, Lib.hid (by simp [tot]), Lib.hid (Below.refl _ _)⟩
    case round =>
      obtain ⟨k, r, hk, rfl, rfl, hr0, hr1, HR, HB⟩ := hrel
      by_cases hlt : k < n
      · have hlt' : k < ls.length := by rw [HN.out]; exact hlt
        have hrd := late_read (fun j u hu => (HB.out.cell hbl).trans (HC.out j u hu)) k hlt'
        have HT := Lib.hid (show tot ((ls.take (k + 1)).map (·.text)) = tot ((ls.take k).map (·.text)) + ls[k].text.size from by rw [List.take_succ_eq_append_getElem hlt', List.map_append, List.map_cons, List.map_nil, tot_snoc])
        have HS := Lib.hid (HZ.out ls[k] (List.getElem_mem _))
        generalize ls[k] = x at hrd HT HS
        obtain ⟨xa, xb, xs⟩ := x
        obtain ⟨h1, h2, h3⟩ := hrd
        have hxs : xs.size ≤ maxLen := HS.out
        unfold maxLen at hxs
        go_wp2_with fail
        refine (szDiskLate_any xa xb xs r _ HS.out hr0 (by omega)).mono ?_
        rintro e w2 ⟨rfl, hb2⟩
        have HB2 := Lib.hid (HB.out.trans (hb2.mono HB.out.size))
        clear HB hb2 h1 h2 h3
        by_cases hneg : r < xs.size
        · rw [if_pos hneg]
          go_wp2
          go_ret
          exact ⟨⟨-1, rfl, Or.inl rfl⟩, HB2.out⟩
        · rw [if_neg hneg]
          go_wp2
          go_roundw
          case rel => exact ⟨k + 1, r - xs.size, by omega, by go_num, rfl, by omega, by omega, Lib.hid (by have h1 := HR.out; have h2 := HT.out; rw [h2]; omega), HB2⟩
          case measure => simp [intOf]; omega
      · have HK := Lib.hid (show ls.take k = ls from List.take_of_length_le (by rw [HN.out]; omega))
        go_wp2
        go_ret
        exact ⟨⟨r, rfl, Or.inr ⟨hr0, by have h1 := HR.out; rw [HK.out] at h1; rw [HN.out]; omega⟩⟩, HB.out⟩

theorem infoLate : (Tryz.prog.info? 81).map (fun i => (i.zero, i.size, i.bytes)) = some (some (.agg #[.int .i64 0, .int .i64 0, .string ⟨#[]⟩]), 3, 32) := by kernel_rfl

/-- A new list of late writes of the call's own. -/
def NewLates (w : World) (ls : List LateM) (e : Ending) (w' : World) : Prop :=
  ∃ v, e = .returned v ∧ w'.ownsRow w.heap.size 81 3 v ls.length (lcs ls) ∧ Below w.heap.size w w'

set_option maxHeartbeats 400000 in
theorem toDiskLateS_any (v : Value) (ls : List LateM) (w : World) (h : Sl w 3 v ls.length (lcs ls)) (hv : ∀ b, v.ownBlock = some b → b < w.heap.size) (hs : ls.length ≤ 1048576) :
    Calls Tryz.prog 61 #[v] w (NewLates w ls) := by
  obtain ⟨i0, hi, hz0, hz1, hz2⟩ := info_parts infoLate
  obtain ⟨n, HN⟩ : ∃ n, Hid (ls.length = n) := ⟨_, Lib.hid rfl⟩
  rw [HN.out] at h hs
  by_cases hn : n = 0
  · subst hn
    have HE := Lib.hid (List.length_eq_zero_iff.1 HN.out)
    obtain ⟨_, A, c, rfl, _, _, _⟩ := h
    clear hv
    go_enter Tryz.func61, Tryz.ntmps61
    go_wp2_with (first | (at_make; refine wpList_make_full _ rfl _ _ 37 rfl w.heap.size 81 i0 (.agg #[.int .i64 0, .int .i64 0, .string ⟨#[]⟩]) 3 Tryz.underlying37 hi hz0 hz1 _ _ _ _ 0 rfl rfl (by omega) (by omega) (by omega) (by unfold maxLen; omega) (Nat.le_refl _) ?_))
    intro w1 hown hgrow
    go_wp2
    go_loopw [4] (fun i wr => i = .int .i64 0 ∧ wr = w1) (fun _ _ => 0)
    case atStart => exact ⟨rfl, rfl⟩
    case round =>
      obtain ⟨rfl, rfl⟩ := hrel
      go_wp2
      go_ret
      refine ⟨_, rfl, ?_, (Below.refl _ _).grown hgrow (Nat.le_refl _) (fun _ h => by cases h)⟩
      rw [HE.out]
      have h2 := hown
      rw [List.length_eq_zero_iff.1 (hown.1.trans (Nat.zero_mul _))] at h2
      exact h2
  · obtain ⟨b, off, c, rfl, hnc, hcm, hcell⟩ := h.form (by omega)
    have hbl : b < w.heap.size := hv b rfl
    have HC := Lib.hid hcell
    unfold maxLen at hcm
    clear hcell h hv
    go_enter Tryz.func61, Tryz.ntmps61
    go_wp2_with (first | (at_make; refine wpList_make_full _ rfl _ _ 37 rfl w.heap.size 81 i0 (.agg #[.int .i64 0, .int .i64 0, .string ⟨#[]⟩]) 3 Tryz.underlying37 hi hz0 hz1 _ _ _ _ n rfl rfl rfl rfl (by rw [hz2]; omega) (by unfold maxLen; omega) (Nat.le_refl _) ?_))
    intro w1 hown hgrow
    go_wp2
    go_loopw [4] (fun i wr => ∃ (k : Nat) (xs : List Value), k ≤ n ∧ i = .int .i64 k ∧ Hid (wr.ownsRow w.heap.size 81 3 (.slice (some ⟨w.heap.size, 0, none⟩) n n) n xs) ∧ Hid (xs.take (k * 3) = lcs (ls.take k)) ∧ Hid (Below w.heap.size w wr)) (fun i _ => n - (intOf i).toNat)
    case atStart => exact ⟨0, _, Nat.zero_le _, rfl, Lib.hid hown, Lib.hid rfl, Lib.hid ((Below.refl _ _).grown hgrow (Nat.le_refl _) (fun _ h => by cases h))⟩
    case round =>
      obtain ⟨k, xs, hk, rfl, HO, HT, HB⟩ := hrel
      clear hown hgrow
      by_cases hlt : k < n
      · have hlt' : k < ls.length := by rw [HN.out]; exact hlt
        have hrd := late_read (fun j u hu => (HB.out.cell hbl).trans (HC.out j u hu)) k hlt'
        obtain ⟨x, HX⟩ : ∃ x, Hid (x = ls[k]) := ⟨_, Lib.hid rfl⟩
        rw [← HX.out] at hrd
        obtain ⟨h1, h2, h3⟩ := hrd
        go_wp2_with fail
        refine (toDiskLate_any x.side x.at_ x.text _).mono ?_
        rintro e w2 ⟨rfl, hb2⟩
        have HB1 := Lib.hid (HB.out.trans (hb2.mono HB.out.size))
        have HO1 := Lib.hid (own_kept HO.out (w' := w2) (fun b e => hb2.block b (by have := HO.out.lt b e; omega)))
        obtain ⟨⟨u0, _, hc0⟩, hf0, _, _⟩ := own_at HO1.out (k * 3) (by omega)
        obtain ⟨⟨u1, _, hc1⟩, hf1, _, _⟩ := own_at HO1.out (k * 3 + 1) (by omega)
        obtain ⟨⟨u2, _, hc2⟩, hf2, _, _⟩ := own_at HO1.out (k * 3 + 2) (by omega)
        have HO2 := Lib.hid (own_setN (own_setN (own_setN HO1.out (k * 3) (.int .i64 x.side)) (k * 3 + 1) (.int .i64 x.at_)) (k * 3 + 2) (.string x.text))
        have HB2 := Lib.hid (((HB1.out.setCell (p := ⟨w.heap.size, k * 3, none⟩) (Nat.le_refl _) (.int .i64 x.side)).setCell (p := ⟨w.heap.size, k * 3 + 1, none⟩) (Nat.le_refl _) (.int .i64 x.at_)).setCell (p := ⟨w.heap.size, k * 3 + 2, none⟩) (Nat.le_refl _) (.string x.text))
        have HT2 := Lib.hid (show (((xs.set (k * 3) (.int .i64 x.side)).set (k * 3 + 1) (.int .i64 x.at_)).set (k * 3 + 2) (.string x.text)).take ((k + 1) * 3) = lcs (ls.take (k + 1)) from by
          have hl : k * 3 + 2 < xs.length := by have := HO.out.1; omega
          rw [take_set3 xs k _ _ _ hl, HT.out, List.take_succ_eq_append_getElem hlt', lcs_snoc, ← HX.out]
          rfl)
        clear h1 h2 h3 hb2 HO HO1 HB HB1 HT
        go_wp2
        go_roundw
        case rel => exact ⟨k + 1, _, by omega, by go_num, HO2, HT2, HB2⟩
        case measure => simp [intOf]; omega
      · have hkn : k = n := by omega
        have HX := Lib.hid (show xs = lcs ls from by
          have hl := HO.out.1
          have ht := HT.out
          rw [List.take_of_length_le (by omega), List.take_of_length_le (by rw [HN.out]; omega)] at ht
          exact ht)
        clear hkn
        go_wp2
        go_ret
        refine ⟨_, rfl, ?_, HB.out⟩
        rw [HN.out, ← HX.out]
        exact HO.out

set_option maxHeartbeats 400000 in
theorem eqDiskLateS_same (va vb : Value) (ls : List LateM) (w : World) (ha : Sl w 3 va ls.length (lcs ls)) (hb : Sl w 3 vb ls.length (lcs ls)) (hva : ∀ b, va.ownBlock = some b → b < w.heap.size) (hvb : ∀ b, vb.ownBlock = some b → b < w.heap.size) (hs : ls.length ≤ 1048576) :
    Calls Tryz.prog 68 #[va, vb] w fun e w' => e = .returned (.bool true) ∧ Below w.heap.size w w' := by
  obtain ⟨n, HN⟩ : ∃ n, Hid (ls.length = n) := ⟨_, Lib.hid rfl⟩
  rw [HN.out] at ha hb hs
  have hnot : ∀ (x : Bool) (w : World), (Op.unary .not (.bool x)).run Tryz.prog w = .ok (.bool (!x)) w := fun _ _ => rfl
  by_cases hn : n = 0
  · subst hn
    obtain ⟨_, A, c, rfl, _, _, _⟩ := ha
    obtain ⟨_, A', c', rfl, _, _, _⟩ := hb
    clear hva hvb
    go_enter Tryz.func68, Tryz.ntmps68
    go_wp2
    go_loopw [5] (fun i wr => i = .int .i64 0 ∧ wr = w) (fun _ _ => 0)
    case atStart => exact ⟨rfl, rfl⟩
    case round =>
      obtain ⟨rfl, rfl⟩ := hrel
      go_wp2
      go_ret
      exact ⟨rfl, Below.refl _ _⟩
  · obtain ⟨b, off, c, rfl, hnc, hcm, hcell⟩ := ha.form (by omega)
    obtain ⟨b', off', c', rfl, hnc', hcm', hcell'⟩ := hb.form (by omega)
    have hbl : b < w.heap.size := hva b rfl
    have hbl' : b' < w.heap.size := hvb b' rfl
    have HC := Lib.hid hcell
    have HC' := Lib.hid hcell'
    unfold maxLen at hcm hcm'
    clear hcell hcell' ha hb hva hvb
    go_enter Tryz.func68, Tryz.ntmps68
    go_wp2
    go_loopw [5] (fun i wr => ∃ (k : Nat), k ≤ n ∧ i = .int .i64 k ∧ Hid (Below w.heap.size w wr)) (fun i _ => n - (intOf i).toNat)
    case atStart => exact ⟨0, Nat.zero_le _, rfl, Lib.hid (Below.refl _ _)⟩
    case round =>
      obtain ⟨k, hk, rfl, HB⟩ := hrel
      by_cases hlt : k < n
      · have hlt' : k < ls.length := by rw [HN.out]; exact hlt
        have hrd := late_read (fun j u hu => (HB.out.cell hbl).trans (HC.out j u hu)) k hlt'
        have hrd' := late_read (fun j u hu => (HB.out.cell hbl').trans (HC'.out j u hu)) k hlt'
        generalize ls[k] = x at hrd hrd'
        obtain ⟨h1, h2, h3⟩ := hrd
        obtain ⟨h1', h2', h3'⟩ := hrd'
        have hk1 : (k : Int) < (n : Int) := by omega
        go_wp2_with fail
        go_region_held3 (fun w' => w'.cell? ⟨b, off + k * 3, none⟩ = some (.int .i64 x.side) ∧ w'.cell? ⟨b, off + k * 3 + 1, none⟩ = some (.int .i64 x.at_) ∧ w'.cell? ⟨b, off + k * 3 + 2, none⟩ = some (.string x.text) ∧ w'.cell? ⟨b', off' + k * 3, none⟩ = some (.int .i64 x.side) ∧ w'.cell? ⟨b', off' + k * 3 + 1, none⟩ = some (.int .i64 x.at_) ∧ w'.cell? ⟨b', off' + k * 3 + 2, none⟩ = some (.string x.text))
          (first
            | go_keep
            | (go_split_ands
               refine ⟨?_, ?_, ?_, ?_, ?_, ?_⟩
               all_goals (rw [hb2.cell (by have := HB.out.size; simp <;> omega)]; assumption)))
          ((go_at_call 117; ((with_reducible refine (eqDiskLate_same x.side x.at_ x.text _).mono ?_); rintro e w2 ⟨rfl, hb2⟩)))
        all_goals
          have HB2 := Lib.hid (HB.out.drew.trans (hb2.mono (by have := HB.out.size; simp; omega)))
          clear HB hb2 h1 h2 h3 h1' h2' h3'
          go_wp2
          go_roundw
          case rel => exact ⟨k + 1, by omega, by go_num, HB2⟩
          case measure => simp [intOf]; omega
      · go_wp2
        go_ret
        exact ⟨rfl, HB.out⟩
end Go.Proofs.YtobjgdnmlibofaaGreat

/-
  The laws' own helpers on sets of a book and on their eight blocks.
-/
import Derived.Test.YtoeaeckkmpdpiaaStrS
import Derived.Test.YtoeaeckkmpdpiaaBox
import Derived.WalkKit
import Derived.ProofKit
import Derived.Lib.Hide
import Derived.WalkSpells
import Derived.WalkSmall
import Derived.Laws.Pointers
set_option maxRecDepth 100000
namespace Go.Proofs.Ytoeaeckkmpdpiaa
open Go.ChangeShapes Go.WideShapes Go.ChangeAt Go.RowKit Go.Proofs.Palim

/-- A set, as plain data. -/
structure SetM where
  name : ByteArray
  kind : Int
  frm : ByteArray
  b0 : ByteArray
  b1 : ByteArray
  b2 : ByteArray
  b3 : ByteArray
  b4 : ByteArray
  b5 : ByteArray
  b6 : ByteArray
  b7 : ByteArray
def SetM.bs (x : SetM) : List ByteArray := [x.b0, x.b1, x.b2, x.b3, x.b4, x.b5, x.b6, x.b7]
theorem SetM.bs_length (x : SetM) : x.bs.length = 8 := rfl
/-- Its cells, and those of a list of sets. -/
def kc (x : SetM) : List Value := [.string x.name, .int .i64 x.kind, .string x.frm, .string x.b0, .string x.b1, .string x.b2, .string x.b3, .string x.b4, .string x.b5, .string x.b6, .string x.b7]
theorem kc_length (x : SetM) : (kc x).length = 11 := rfl
theorem kc_bs (x : SetM) (j : Nat) (h : j < 8) : (kc x)[3 + j]? = some (.string (x.bs[j]'(by rw [x.bs_length]; exact h))) := by
  match j, h with
  | 0, _ => rfl
  | 1, _ => rfl
  | 2, _ => rfl
  | 3, _ => rfl
  | 4, _ => rfl
  | 5, _ => rfl
  | 6, _ => rfl
  | 7, _ => rfl
def kcs (ls : List SetM) : List Value := ls.flatMap kc
theorem kcs_length (ls : List SetM) : (kcs ls).length = ls.length * 11 := by
  induction ls with
  | nil => rfl
  | cons x ls ih => simp [kcs, kc] at ih ⊢; omega
theorem kcs_snoc (a : List SetM) (x : SetM) : kcs (a ++ [x]) = kcs a ++ kc x := by simp [kcs]
theorem kcs_append (a b : List SetM) : kcs (a ++ b) = kcs a ++ kcs b := by simp [kcs]
theorem kcs_at (ls : List SetM) : ∀ (k : Nat) (h : k < ls.length) (j : Nat), j < 11 → (kcs ls)[k * 11 + j]? = (kc ls[k])[j]? := by
  induction ls with
  | nil => intro k h; simp at h
  | cons x ls ih =>
    intro k h j hj
    have e : kcs (x :: ls) = kc x ++ kcs ls := by simp [kcs]
    cases k with
    | zero => rw [e, List.getElem?_append_left (by rw [kc_length]; omega)]; simp
    | succ k =>
      have := ih k (by simpa using h) j hj
      rw [e, List.getElem?_append_right (by rw [kc_length]; omega), kc_length, show (k + 1) * 11 + j - 11 = k * 11 + j by omega, this]
      simp
/-- A set reads at these cells. -/
def SetAt (w : World) (b o : Nat) (x : SetM) : Prop := ∀ j u, (kc x)[j]? = some u → w.cell? ⟨b, o + j, none⟩ = some u
theorem SetAt.all {w : World} {b o : Nat} {x : SetM} (h : SetAt w b o x) :
    w.cell? ⟨b, o, none⟩ = some (.string x.name) ∧ w.cell? ⟨b, o + 1, none⟩ = some (.int .i64 x.kind) ∧ w.cell? ⟨b, o + 2, none⟩ = some (.string x.frm) ∧
    w.cell? ⟨b, o + 3, none⟩ = some (.string x.b0) ∧ w.cell? ⟨b, o + 4, none⟩ = some (.string x.b1) ∧ w.cell? ⟨b, o + 5, none⟩ = some (.string x.b2) ∧ w.cell? ⟨b, o + 6, none⟩ = some (.string x.b3) ∧
    w.cell? ⟨b, o + 7, none⟩ = some (.string x.b4) ∧ w.cell? ⟨b, o + 8, none⟩ = some (.string x.b5) ∧ w.cell? ⟨b, o + 9, none⟩ = some (.string x.b6) ∧ w.cell? ⟨b, o + 10, none⟩ = some (.string x.b7) :=
  ⟨h 0 _ rfl, h 1 _ rfl, h 2 _ rfl, h 3 _ rfl, h 4 _ rfl, h 5 _ rfl, h 6 _ rfl, h 7 _ rfl, h 8 _ rfl, h 9 _ rfl, h 10 _ rfl⟩
theorem SetAt.blk {w : World} {b o : Nat} {x : SetM} (h : SetAt w b o x) (j : Nat) (hj : j < 8) : w.cell? ⟨b, o + 3 + j, none⟩ = some (.string (x.bs[j]'(by rw [x.bs_length]; exact hj))) := by
  rw [Nat.add_assoc]; exact h (3 + j) _ (kc_bs x j hj)
theorem SetAt.kept {w w' : World} {b o : Nat} {x : SetM} (h : SetAt w b o x) (hk : w'.heap[b]? = w.heap[b]?) : SetAt w' b o x := fun j u hu => (World.cell?_of_block hk).trans (h j u hu)
theorem SetAt.below {w w' : World} {b o B : Nat} {x : SetM} (h : SetAt w b o x) (hb : Below B w w') (hB : b < B) : SetAt w' b o x := h.kept (hb.block b hB)
theorem SetAt.lt {w : World} {b o : Nat} {x : SetM} (h : SetAt w b o x) : b < w.heap.size := World.block_lt_of_cell? w _ (h 0 _ rfl)
theorem set_read {w : World} {ls : List SetM} {b off : Nat} (hc : ∀ j u, (kcs ls)[j]? = some u → w.cell? ⟨b, off + j, none⟩ = some u) (k : Nat) (h : k < ls.length) : SetAt w b (off + k * 11) ls[k] := by
  intro j u hu
  have hj : j < 11 := (List.getElem?_eq_some_iff.1 hu).1
  rw [Nat.add_assoc]
  exact hc _ _ ((kcs_at ls k h j hj).trans hu)

theorem below_drewN {B : Nat} {w w' : World} (h : Below B w w') (q : Nat) : Below B w (w'.drewN q) := ⟨h.os, h.tape, h.output, h.size, h.block⟩

set_option maxHeartbeats 1000000 in
theorem toStringA8_any (x : SetM) (w : World) :
    Calls Try.prog 85 #[.agg #[.string x.b0, .string x.b1, .string x.b2, .string x.b3, .string x.b4, .string x.b5, .string x.b6, .string x.b7]] w fun e w' => e = .returned (.agg #[.string x.b0, .string x.b1, .string x.b2, .string x.b3, .string x.b4, .string x.b5, .string x.b6, .string x.b7]) ∧ w' = ((w.alloc (.cells #[.string x.b0, .string x.b1, .string x.b2, .string x.b3, .string x.b4, .string x.b5, .string x.b6, .string x.b7] 63)).alloc (.cells #[.string x.b0, .string x.b1, .string x.b2, .string x.b3, .string x.b4, .string x.b5, .string x.b6, .string x.b7] 63)).alloc (.cells #[.string x.b0, .string x.b1, .string x.b2, .string x.b3, .string x.b4, .string x.b5, .string x.b6, .string x.b7] 63) := by
  go_enter Try.func85, Try.ntmps85
  go_wp2
  refine wp_loop_rounds 9 ?_
  iterate 9
    rw [rounds_succ]
    go_wp2
  refine bodyPost_ret (v := .agg #[.string x.b0, .string x.b1, .string x.b2, .string x.b3, .string x.b4, .string x.b5, .string x.b6, .string x.b7]) (by simp [results, Try.results85, go_sem]) rfl ⟨rfl, ?_⟩
  rfl

set_option maxHeartbeats 1000000 in
theorem szStringA8_any (x : SetM) (left : Int) (w : World) (hz : ∀ s ∈ x.bs, s.size ≤ maxLen) (h0 : 0 ≤ left) (h1 : left ≤ 1048576) :
    Calls Try.prog 83 #[.agg #[.string x.b0, .string x.b1, .string x.b2, .string x.b3, .string x.b4, .string x.b5, .string x.b6, .string x.b7], .int .i64 left] w fun e w' => (∃ r : Int, e = .returned (.int .i64 r) ∧ (r = -1 ∨ 0 ≤ r ∧ r + tot x.bs = left)) ∧ Below w.heap.size w w' := by
  have HZ := Lib.hid hz
  clear hz
  go_enter Try.func83, Try.ntmps83
  go_wp2
  have HX := Lib.hid (box_new w #[.string x.b0, .string x.b1, .string x.b2, .string x.b3, .string x.b4, .string x.b5, .string x.b6, .string x.b7] 63)
  have HB := Lib.hid (show Below w.heap.size w (w.alloc (.cells #[.string x.b0, .string x.b1, .string x.b2, .string x.b3, .string x.b4, .string x.b5, .string x.b6, .string x.b7] 63)) from (Below.refl _ _).alloc (Nat.le_refl _) _)
  generalize w.alloc (.cells #[.string x.b0, .string x.b1, .string x.b2, .string x.b3, .string x.b4, .string x.b5, .string x.b6, .string x.b7] 63) = W at HX HB
  go_loop [1, 5] (fun l i => ∃ (k : Nat) (r : Int), k ≤ 8 ∧ i = .int .i64 k ∧ l = .int .i64 r ∧ 0 ≤ r ∧ r ≤ left ∧ Hid (r + tot (x.bs.take k) = left)) (fun _ i => 8 - (intOf i).toNat)
  case atStart => exact ⟨0, left, Nat.zero_le _, rfl, rfl, h0, Int.le_refl _, Lib.hid (by simp [tot])⟩
  case round =>
    obtain ⟨k, r, hk, rfl, rfl, hr0, hr1, HR⟩ := hrel
    by_cases hlt : k < 8
    · have hlt' : k < x.bs.length := hlt
      have hrd : W.cell? ⟨w.heap.size, k, none⟩ = some (.string x.bs[k]) := HX.out.cell k (by
        have := kc_bs x k hlt
        rw [show kc x = [.string x.name, .int .i64 x.kind, .string x.frm] ++ #[Value.string x.b0, .string x.b1, .string x.b2, .string x.b3, .string x.b4, .string x.b5, .string x.b6, .string x.b7].toList from rfl, List.getElem?_append_right (by simp)] at this
        simpa using this)
      have hsz := HZ.out x.bs[k] (List.getElem_mem _)
      unfold maxLen at hsz
      have HT := Lib.hid (show tot (x.bs.take (k + 1)) = tot (x.bs.take k) + x.bs[k].size from by rw [List.take_succ_eq_append_getElem hlt', tot_snoc])
      obtain ⟨s, HS⟩ : ∃ s, Hid (s = x.bs[k]) := ⟨_, Lib.hid rfl⟩
      rw [← HS.out] at hrd hsz
      by_cases hneg : r < s.size
      · go_wp2
        go_ret
        exact ⟨⟨-1, rfl, Or.inl rfl⟩, HB.out⟩
      · go_wp2
        go_round
        case rel => exact ⟨k + 1, r - s.size, by omega, by go_num, by go_num, by omega, by omega, Lib.hid (by have h1 := HR.out; have h2 := HT.out; rw [← HS.out] at h2; rw [h2]; omega)⟩
        case measure => simp [intOf]; omega
    · have HK := Lib.hid (show x.bs.take k = x.bs from List.take_of_length_le (by rw [x.bs_length]; omega))
      go_wp2
      go_ret
      exact ⟨⟨r, rfl, Or.inr ⟨hr0, by have h1 := HR.out; rw [HK.out] at h1; exact h1⟩⟩, HB.out⟩

set_option maxHeartbeats 1000000 in
theorem eqStringA8_same (x : SetM) (w : World) :
    Calls Try.prog 98 #[.agg #[.string x.b0, .string x.b1, .string x.b2, .string x.b3, .string x.b4, .string x.b5, .string x.b6, .string x.b7], .agg #[.string x.b0, .string x.b1, .string x.b2, .string x.b3, .string x.b4, .string x.b5, .string x.b6, .string x.b7]] w fun e w' => e = .returned (.bool true) ∧ Below w.heap.size w w' := by
  have hck : ∀ (k : Nat) (h : k < x.bs.length), ([Value.string x.b0, .string x.b1, .string x.b2, .string x.b3, .string x.b4, .string x.b5, .string x.b6, .string x.b7])[k]? = some (.string x.bs[k]) := fun k h => by
    have := kc_bs x k h
    rw [show kc x = [.string x.name, .int .i64 x.kind, .string x.frm] ++ [Value.string x.b0, .string x.b1, .string x.b2, .string x.b3, .string x.b4, .string x.b5, .string x.b6, .string x.b7] from rfl, List.getElem?_append_right (by simp)] at this
    simpa using this
  have HCK := Lib.hid hck
  clear hck
  go_enter Try.func98, Try.ntmps98
  go_wp2
  have HB2 := Lib.hid (box2 w #[.string x.b0, .string x.b1, .string x.b2, .string x.b3, .string x.b4, .string x.b5, .string x.b6, .string x.b7] #[.string x.b0, .string x.b1, .string x.b2, .string x.b3, .string x.b4, .string x.b5, .string x.b6, .string x.b7] 63 63)
  generalize ((w.alloc (.cells #[.string x.b0, .string x.b1, .string x.b2, .string x.b3, .string x.b4, .string x.b5, .string x.b6, .string x.b7] 63)).alloc (.cells #[.string x.b0, .string x.b1, .string x.b2, .string x.b3, .string x.b4, .string x.b5, .string x.b6, .string x.b7] 63)) = W at HB2
  go_loopw [5] (fun i wr => ∃ (k q : Nat), k ≤ 8 ∧ i = .int .i64 k ∧ wr = W.drewN q) (fun i _ => 8 - (intOf i).toNat)
  case atStart => exact ⟨0, 0, Nat.zero_le _, rfl, rfl⟩
  case round =>
    obtain ⟨k, q, hk, rfl, rfl⟩ := hrel
    by_cases hlt : k < 8
    · have hlt' : k < x.bs.length := hlt
      have h1 : W.cell? ⟨w.heap.size, k, none⟩ = some (.string x.bs[k]) := HB2.out.1.cell k (HCK.out k hlt')
      have h2 : W.cell? ⟨w.heap.size + 1, k, none⟩ = some (.string x.bs[k]) := HB2.out.2.1.cell k (HCK.out k hlt')
      have hk1 : (k : Int) < 8 := by omega
      go_wp2_with fail
      go_quiet (fail)
      go_wp2
      go_roundw
      case rel => exact ⟨k + 1, _, by omega, by go_num, rfl⟩
      case measure => simp [intOf]; omega
    · go_wp2
      go_ret
      exact ⟨rfl, below_drewN HB2.out.2.2.2 q⟩

/-- A set as a value. -/
theorem infoSet : (Try.prog.info? 65).map (fun i => (i.zero, i.size, i.bytes)) = some (some (.agg #[.string ⟨#[]⟩, .int .i64 0, .string ⟨#[]⟩, .string ⟨#[]⟩, .string ⟨#[]⟩, .string ⟨#[]⟩, .string ⟨#[]⟩, .string ⟨#[]⟩, .string ⟨#[]⟩, .string ⟨#[]⟩, .string ⟨#[]⟩]), 11, 168) := by kernel_rfl

set_option maxHeartbeats 1000000 in
theorem toBookSet_any (x : SetM) (w : World) :
    Calls Try.prog 68 #[.agg #[.string x.name, .int .i64 x.kind, .string x.frm, .string x.b0, .string x.b1, .string x.b2, .string x.b3, .string x.b4, .string x.b5, .string x.b6, .string x.b7]] w fun e w' => e = .returned (.agg #[.string x.name, .int .i64 x.kind, .string x.frm, .string x.b0, .string x.b1, .string x.b2, .string x.b3, .string x.b4, .string x.b5, .string x.b6, .string x.b7]) ∧ Below w.heap.size w w' := by
  go_enter Try.func68, Try.ntmps68
  go_wp2_with fail
  refine (toStringA8_any x _).mono ?_
  rintro e w2 ⟨rfl, rfl⟩
  go_wp2
  refine bodyPost_ret (v := .agg #[.string x.name, .int .i64 x.kind, .string x.frm, .string x.b0, .string x.b1, .string x.b2, .string x.b3, .string x.b4, .string x.b5, .string x.b6, .string x.b7]) (by simp [results, Try.results68, go_sem]) rfl ⟨rfl, ?_⟩
  exact ((((((Below.refl _ _).alloc (Nat.le_refl _) _).alloc (by simp) _).alloc (by simp; omega) _).alloc (by simp; omega) _).alloc (by simp; omega) _).alloc (by simp; omega) _
end Go.Proofs.Ytoeaeckkmpdpiaa

/-
  slices.Clone at lists of strings and of late writes: the same cells in memory of the call's own.
-/
import Derived.Test.YtobjgdnmlibofaaGreatDiskCopy
import Derived.Test.YtobjgdnmlibofaaGreatImHas
import Derived.Lib.SliceRun
set_option maxRecDepth 100000
namespace Go.Proofs.Palim
open Go Go.RowKit
theorem wpList_append_fresh {P : Program} (w : World) {ops : Array Oper} {rest : List Oper} {o : Oper} {a : Act} {Q : Exit → Act → World → Prop} (hgd : o.guard = none) (s x : Operand) (t : TypeId)
    (ho : o.op = .call { callee := .builtin .append, args := #[s, x], argTypes := #[t, t] })
    (base : Nat) (e : TypeId) (i : TypeInfo) (z : Value) (size bytes : Nat) (ht : P.underlying t = some (.slice e)) (hi : P.info? e = some i) (hz : i.zero = some z)
    (hsize : i.size = size) (hby : i.bytes = bytes) (hzs : z.cells.size = size) (hsz : 0 < size)
    (v : Value) (n : Nat) (xs : List Value) (hs : a.eval s = v) (hown : w.ownsRow base e size v n xs)
    (u : Value) (m : Nat) (news : List Value) (hx : a.eval x = u) (hsl : Sl w size u m news) (h1 : ∀ u ∈ news, u.oneCell' = true)
    (h63 : n + m ≤ maxLen) (hbytes : (n + m) * bytes ≤ 140737488355328) (hbase : base ≤ w.heap.size)
    (h : ∀ A cap w', w'.ownsRow base e size (.slice A (n + m) cap) (n + m) (xs ++ news) → w.grownBy w' v.ownBlock → ((Value.slice A (n + m) cap).ownBlock = v.ownBlock ∨ (Value.slice A (n + m) cap).ownBlock = some w.heap.size) → wpList P ops Q rest (a.put o.dst (.slice A (n + m) cap)) w') : wpList P ops Q (o :: rest) a w :=
  wpList_plain hgd fun _ hK => wp_append_fresh w s x t ho base e i z size bytes ht hi hz hsize hby hzs hsz v n xs hs hown u m news hx hsl h1 h63 hbytes hbase fun A cap w' h2 h3 h4 => hK _ _ (h A cap w' h2 h3 h4)
end Go.Proofs.Palim
namespace Go.Proofs.YtobjgdnmlibofaaGreat
open Go.ChangeShapes Go.WideShapes Go.ChangeAt Go.RowKit Go.Proofs.Palim

/-- A slice of the call's own with the same cells. -/
def Cloned (w : World) (e sz n : Nat) (xs : List Value) (en : Ending) (w' : World) : Prop := ∃ A c, en = .returned (.slice A n c) ∧ w'.ownsRow w.heap.size e sz (.slice A n c) n xs ∧ Below w.heap.size w w'

theorem clone_done {w w1 : World} {e sz n m cap cp : Nat} {A : Option Addr} {xs : List Value} (hown : w1.ownsRow w.heap.size e sz (.slice A n cap) n xs) (hg : (w.alloc (.cells #[] m)).grownBy w1 (Value.slice (some ⟨w.heap.size, 0, none⟩) 0 cp).ownBlock) :
    w1.ownsRow w.heap.size e sz (.slice A n cap) n xs ∧ Below w.heap.size w w1 := by
  exact ⟨hown, ((Below.refl _ w).alloc (Nat.le_refl _) _).grown hg (by simp) (by intro k hk; simp [Value.ownBlock] at hk; omega)⟩

set_option maxHeartbeats 400000 in
theorem cloneStr_any (v : Value) (ss : List ByteArray) (w : World) (h : Sl w 1 v ss.length (scs ss)) (hl : Low w.heap.size v) (hn : ss.length ≤ 1048576) :
    Calls Tryz.prog 123 #[v] w (Cloned w 9 1 ss.length (scs ss)) := by
  obtain ⟨i0, hi, hz0, hz1, hz2⟩ := info_parts infoStr
  have q : ∀ (w : World) (a : Option Addr) (n c n' c' : Nat), (binOp .eql 22 (.slice a n c) (.slice none n' c')).run Tryz.prog w = .ok (.bool a.isNone) w := fun w a n c n' c' => Lib.run_eql_slice_nil w _ _ a n c n' c' Tryz.underlying22
  obtain ⟨n, HN⟩ : ∃ n, Hid (ss.length = n) := ⟨_, Lib.hid rfl⟩
  rw [HN.out] at h hn ⊢
  have HS := Lib.hid h
  have HL := Lib.hid hl
  obtain ⟨hlen, A, c, rfl, hnc, hcm, hcell⟩ := h
  clear hl
  cases A with
  | none =>
    have hz : n = 0 := hcell.resolve_right (by rintro ⟨_, _, h, _⟩; cases h)
    subst hz
    have HE := Lib.hid (show scs ss = [] from List.length_eq_zero_iff.1 hlen)
    clear hlen hcell
    go_enter Tryz.func123, Tryz.ntmps123
    go_wp2
    go_ret
    exact ⟨none, 0, rfl, by rw [HE.out]; exact ⟨rfl, .inl ⟨rfl, rfl⟩⟩, Below.refl _ _⟩
  | some a =>
    have HM := Lib.hid hcm
    clear hlen hcell hnc hcm
    go_enter Tryz.func123, Tryz.ntmps123
    go_wp2_with (first
      | (at_builtin; refine wpList_append_fresh _ rfl _ _ 22 rfl w.heap.size 9 i0 _ 1 16 Tryz.underlying22 hi hz0 hz1 hz2 rfl (by omega) (.slice (some ⟨w.heap.size, 0, none⟩) 0 0) 0 [] rfl (own_empty (At.new rfl) (Nat.le_refl _))
          (.slice (some a) n c) n (scs ss) rfl (HS.out.below ((Below.refl _ w).alloc (Nat.le_refl _) _) HL.out) (scs_one _) (by unfold maxLen; omega) (by omega) (by simp) ?_))
    intro A' cap w1 hown hg _
    obtain ⟨hown', hb⟩ := clone_done hown hg
    have HO := Lib.hid hown'
    have HB := Lib.hid hb
    clear hown hg hown' hb
    go_wp2
    go_ret
    exact ⟨A', cap, rfl, HO.out, HB.out⟩

set_option maxHeartbeats 400000 in
theorem cloneLate_any (v : Value) (ls : List LateM) (w : World) (h : Sl w 3 v ls.length (lcs ls)) (hl : Low w.heap.size v) (hn : ls.length ≤ 1048576) :
    Calls Tryz.prog 122 #[v] w (Cloned w 81 3 ls.length (lcs ls)) := by
  obtain ⟨i0, hi, hz0, hz1, hz2⟩ := info_parts infoLate
  have q : ∀ (w : World) (a : Option Addr) (n c n' c' : Nat), (binOp .eql 37 (.slice a n c) (.slice none n' c')).run Tryz.prog w = .ok (.bool a.isNone) w := fun w a n c n' c' => Lib.run_eql_slice_nil w _ _ a n c n' c' Tryz.underlying37
  obtain ⟨n, HN⟩ : ∃ n, Hid (ls.length = n) := ⟨_, Lib.hid rfl⟩
  rw [HN.out] at h hn ⊢
  have HS := Lib.hid h
  have HL := Lib.hid hl
  obtain ⟨hlen, A, c, rfl, hnc, hcm, hcell⟩ := h
  clear hl
  cases A with
  | none =>
    have hz : n = 0 := hcell.resolve_right (by rintro ⟨_, _, h, _⟩; cases h)
    subst hz
    have HE := Lib.hid (show lcs ls = [] from List.length_eq_zero_iff.1 (by simpa using hlen))
    clear hlen hcell
    go_enter Tryz.func122, Tryz.ntmps122
    go_wp2
    go_ret
    exact ⟨none, 0, rfl, by rw [HE.out]; exact ⟨rfl, .inl ⟨rfl, rfl⟩⟩, Below.refl _ _⟩
  | some a =>
    have HM := Lib.hid hcm
    clear hlen hcell hnc hcm
    go_enter Tryz.func122, Tryz.ntmps122
    go_wp2_with (first
      | (at_builtin; refine wpList_append_fresh _ rfl _ _ 37 rfl w.heap.size 81 i0 _ 3 32 Tryz.underlying37 hi hz0 hz1 hz2 rfl (by omega) (.slice (some ⟨w.heap.size, 0, none⟩) 0 0) 0 [] rfl (own_empty (At.new rfl) (Nat.le_refl _))
          (.slice (some a) n c) n (lcs ls) rfl (HS.out.below ((Below.refl _ w).alloc (Nat.le_refl _) _) HL.out) (lcs_one _) (by unfold maxLen; omega) (by omega) (by simp) ?_))
    intro A' cap w1 hown hg _
    obtain ⟨hown', hb⟩ := clone_done hown hg
    have HO := Lib.hid hown'
    have HB := Lib.hid hb
    clear hown hg hown' hb
    go_wp2
    go_ret
    exact ⟨A', cap, rfl, HO.out, HB.out⟩
end Go.Proofs.YtobjgdnmlibofaaGreat

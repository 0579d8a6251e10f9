/-
  spec's DiskRead.
-/
import Derived.Test.YtoeaeckkmpdpiaaDoorDiskOk
namespace Go.Proofs.YtoeaeckkmpdpiaaDoor
open Go.ChangeShapes Go.WideShapes Go.ChangeAt Go.RowKit Go.Proofs.Palim

/-- The text of a sector that is there: the last late write of it, or what lies on the side. -/
def lastOf (side at_ : Int) : List LateM → Option ByteArray
  | [] => none
  | x :: xs => match lastOf side at_ xs with
    | some t => some t
    | none => if x.side = side ∧ x.at_ = at_ then some x.text else none
theorem lastOf_snoc (side at_ : Int) (ls : List LateM) (x : LateM) : lastOf side at_ (ls ++ [x]) = if x.side = side ∧ x.at_ = at_ then some x.text else lastOf side at_ ls := by
  induction ls with
  | nil => simp [lastOf]
  | cons y ls ih =>
    simp only [List.cons_append, lastOf, ih]
    by_cases h : x.side = side ∧ x.at_ = at_
    · simp [h]
    · simp [h]
def sideOf (d : DiskM) (side : Int) : List ByteArray := if side = 0 then d.s0 else d.s1
def readM (d : DiskM) (side at_ : Int) : ByteArray := (lastOf side at_ d.late).getD ((sideOf d side).getD at_.toNat ⟨#[]⟩)

theorem lastOf_append (side at_ : Int) (a b : List LateM) : lastOf side at_ (a ++ b) = (lastOf side at_ b).or (lastOf side at_ a) := by
  induction a with
  | nil => simp [lastOf]
  | cons x a ih =>
    simp only [List.cons_append, lastOf, ih]
    cases lastOf side at_ b <;> simp
theorem lastOf_at {side at_ : Int} {ls : List LateM} {j : Nat} (hj : j < ls.length) (hn : lastOf side at_ (ls.drop (j + 1)) = none) :
    (ls[j].side = side ∧ ls[j].at_ = at_ → lastOf side at_ ls = some ls[j].text) ∧ (¬ (ls[j].side = side ∧ ls[j].at_ = at_) → lastOf side at_ (ls.drop j) = none) := by
  have hd : ls.drop j = ls[j] :: ls.drop (j + 1) := List.drop_eq_getElem_cons hj
  constructor
  · intro h
    have h2 : lastOf side at_ (ls.drop j) = some ls[j].text := by rw [hd]; simp [lastOf, hn, h]
    have h3 := lastOf_append side at_ (ls.take j) (ls.drop j)
    rw [List.take_append_drop, h2] at h3
    exact h3
  · intro h
    rw [hd]; simp [lastOf, hn, h]

theorem ret_str {a b : ByteArray} (h : a = b) : Ending.returned (.string a) = Ending.returned (.string b) := by rw [h]

set_option maxHeartbeats 1000000 in
theorem l2Read_any (v0 v1 vl : Value) (d : DiskM) (side at_ : Int) (w : World) (h : DiskR w v0 v1 vl d) (hs : DiskShort d) (hs0 : side = 0 ∨ side = 1) (ha0 : 0 ≤ at_) (ha1 : at_ < d.s0.length) (ha2 : d.s1.length = d.s0.length) :
    Calls Tryd.prog 63 #[.agg #[v0, v1, vl], .int .i64 side, .int .i64 at_] w fun e w' => e = .returned (.string (readM d side at_)) ∧ Below w.heap.size w w' := by
  obtain ⟨k, rfl⟩ : ∃ k : Nat, at_ = k := ⟨at_.toNat, by omega⟩
  have hk0 : k < d.s0.length := by omega
  have hk1 : k < d.s1.length := by omega
  obtain ⟨b0, o0, c0, rfl, hc0, hm0, hcell0⟩ := h.r0.form (by omega)
  obtain ⟨b1, o1, c1, rfl, hc1, hm1, hcell1⟩ := h.r1.form (by omega)
  obtain ⟨_, Al, cl, rfl, _⟩ := h.rl
  have hnl := hs.nl
  have HD := Lib.hid h
  have g0 := hcell0 k _ (scs_at d.s0 k hk0)
  have g1 := hcell1 k _ (scs_at d.s1 k hk1)
  have hbl0 : b0 < w.heap.size := h.l0 b0 rfl
  have hbl1 : b1 < w.heap.size := h.l1 b1 rfl
  have E0 := Lib.hid (show (sideOf d 0).getD ((k : Nat) : Int).toNat ⟨#[]⟩ = d.s0[k] from by simp [sideOf, hk0])
  have E1 := Lib.hid (show (sideOf d 1).getD ((k : Nat) : Int).toNat ⟨#[]⟩ = d.s1[k] from by simp [sideOf, hk1])
  generalize d.s0[k] = t0 at g0 E0
  generalize d.s1[k] = t1 at g1 E1
  have hs1' := hs.n1
  have hs0' := hs.n0
  obtain ⟨n0, H0⟩ : ∃ n, Hid (d.s0.length = n) := ⟨_, Lib.hid rfl⟩
  obtain ⟨n1, H1⟩ : ∃ n, Hid (d.s1.length = n) := ⟨_, Lib.hid rfl⟩
  obtain ⟨nl, HL⟩ : ∃ n, Hid (d.late.length = n) := ⟨_, Lib.hid rfl⟩
  rw [HL.out] at hnl HD ⊢
  rw [H0.out] at HD ha1 ha2 hc0 hk0 hs0' ⊢
  rw [H1.out] at HD ha2 hc1 hk1 hs1' ⊢
  unfold maxLen at hm0 hm1
  clear h hs hcell0 hcell1 ha0 ha1 ha2
  have HSD := Lib.hid hs0
  clear hs0
  go_enter Tryd.func63, Tryd.ntmps63
  go_wp2
  go_loopw [7] (fun i wr => ∃ j : Nat, j ≤ nl ∧ i = .int .i64 ((j : Int) - 1) ∧ wr = w.alloc (.cells #[.slice (some ⟨b0, o0, none⟩) n0 c0, .slice (some ⟨b1, o1, none⟩) n1 c1, .slice Al nl cl] 39) ∧ Hid (lastOf side (k : Int) (d.late.drop j) = none)) (fun i _ => (intOf i + 1).toNat)
  case atStart => exact ⟨nl, Nat.le_refl _, rfl, rfl, Lib.hid (by rw [List.drop_of_length_le (by rw [HL.out]; exact Nat.le_refl _)]; rfl)⟩
  case round =>
    obtain ⟨j, hj, rfl, rfl, HN⟩ := hrel
    by_cases hj0 : j = 0
    · subst hj0
      have HE := Lib.hid (show lastOf side (k : Int) d.late = none from HN.out)
      have e2 := HSD.out
      rcases e2 with rfl | rfl
      · go_wp2
        go_ret
        exact ⟨ret_str (show t0 = readM d 0 (k : Int) from by unfold readM; rw [HE.out, E0.out]; rfl), (Below.refl _ _).alloc (Nat.le_refl _) _⟩
      · go_wp2
        go_ret
        exact ⟨ret_str (show t1 = readM d 1 (k : Int) from by unfold readM; rw [HE.out, E1.out]; rfl), (Below.refl _ _).alloc (Nat.le_refl _) _⟩
    · obtain ⟨m, rfl⟩ : ∃ m, j = m + 1 := ⟨j - 1, by omega⟩
      have hml : m < d.late.length := by rw [HL.out]; omega
      obtain ⟨bl, ol, cl', el, hcl, hmx, hcell⟩ := HD.out.rl.form (by have := HL.out; omega)
      injection el with el el' el''
      subst el el''
      rw [HL.out] at hcl
      unfold maxLen at hmx
      have hbll : bl < w.heap.size := HD.out.ll bl rfl
      have hrd := late_read hcell m hml
      have HX := Lib.hid (lastOf_at hml HN.out)
      generalize d.late[m] = x at hrd HX
      obtain ⟨p1, p2, p3⟩ := hrd
      have hm1 : (m : Int) < (nl : Int) := by omega
      clear hcell el' hml HN hj0
      have hi1 : ((m + 1 : Nat) : Int) - 1 = (m : Int) := by omega
      rw [hi1]
      by_cases hx : x.side = side ∧ x.at_ = (k : Int)
      · have HE := Lib.hid (HX.out.1 hx)
        obtain ⟨hx1, hx2⟩ := hx
        clear HX
        go_wp2
        go_ret
        exact ⟨ret_str (show x.text = readM d side (k : Int) from by unfold readM; rw [HE.out]; rfl), (Below.refl _ _).alloc (Nat.le_refl _) _⟩
      · have HE := Lib.hid (HX.out.2 hx)
        have hx' : ¬ x.side = side ∨ (x.side = side ∧ ¬ x.at_ = (k : Int)) := by
          by_cases h : x.side = side
          · exact Or.inr ⟨h, fun h2 => hx ⟨h, h2⟩⟩
          · exact Or.inl h
        clear HX hx
        rcases hx' with hx1 | ⟨hx1, hx2⟩
        all_goals
          go_wp2
          go_roundw
          case rel => exact ⟨m, by omega, by go_num, by first | trivial | rfl, HE⟩
          case measure => simp [intOf]
end Go.Proofs.YtoeaeckkmpdpiaaDoor

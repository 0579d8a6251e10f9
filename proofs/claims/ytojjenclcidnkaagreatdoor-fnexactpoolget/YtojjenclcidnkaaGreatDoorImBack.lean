/-
  slices.Backward at late writes: the iterator hands out each write with its place, from the last to the first, to whatever loop body keeps the writes' memory.
-/
import Derived.Test.YtojjenclcidnkaaGreatDoorDiskB
import Derived.Test.YtojjenclcidnkaaGreatDoorImKeep
import Derived.RangeFuncNested
import Derived.RangeFuncLeaves
import Derived.Shelf.Abstract
import Derived.WalkKit
import Derived.OwnWalkIn
import Derived.TacticsInMore
import Derived.LoopNIn
import Derived.LoopIn
set_option maxRecDepth 100000
namespace Go.Proofs.YtojjenclcidnkaaGreatDoor
open Go.ChangeShapes Go.WideShapes Go.ChangeAt Go.RowKit Go.Proofs.Palim Go.Shelf

attribute [local go_sem] Oper.semAt_some

/-- A late write as a value, and with its place as an iterator hands it out. -/
def lval (x : LateM) : Value := .agg #[.int .i64 x.side, .int .i64 x.at_, .string x.text]
def encBack (x : Int × LateM) : Array Value := #[.int .i64 x.1, .agg #[.int .i64 x.2.side, .int .i64 x.2.at_, .string x.2.text]]
/-- The writes with their places, from the last to the first. -/
def backs : Nat → List LateM → List (Int × LateM)
  | _, [] => []
  | k, x :: xs => backs (k + 1) xs ++ [((k : Int), x)]
theorem backs_append (a b : List LateM) : ∀ k, backs k (a ++ b) = backs (k + a.length) b ++ backs k a := by
  induction a with
  | nil => intro k; simp [backs]
  | cons x a ih => intro k; simp only [List.cons_append, backs, ih, List.append_assoc, List.length_cons]; rw [show k + 1 + a.length = k + (a.length + 1) by omega]
theorem backs_len (l : List LateM) : ∀ k, (backs k l).length = l.length := by
  induction l with
  | nil => intro k; rfl
  | cons x l ih => intro k; simp [backs, ih]
theorem backs_snd (l : List LateM) : ∀ k, (backs k l).map Prod.snd = l.reverse := by
  induction l with
  | nil => intro k; rfl
  | cons x l ih => intro k; simp [backs, ih]
theorem backs_pre (ls : List LateM) (m : Nat) : backs m (ls.drop m) <+: backs 0 ls := by
  rcases Nat.lt_or_ge ls.length m with h | h
  · rw [List.drop_of_length_le (by omega)]; exact List.nil_prefix
  · have h2 := backs_append (ls.take m) (ls.drop m) 0
    rw [List.take_append_drop, List.length_take, Nat.min_eq_left h, Nat.zero_add] at h2
    rw [h2]; exact List.prefix_append _ _
theorem backs_step (ls : List LateM) (m : Nat) (h : m < ls.length) : backs m (ls.drop m) = backs (m + 1) (ls.drop (m + 1)) ++ [((m : Int), ls[m])] := by
  rw [List.drop_eq_getElem_cons h]; rfl

set_option maxHeartbeats 1000000 in
theorem back1_in (n : Nat) (hn : 1 ≤ n) (l Bs N : Nat) (S : Nat → Prop) (v : Value) (ls : List LateM) (J Jx : List (Int × LateM) → World → Prop)
    (hY : ∀ pre x W, J pre W → pre.length < ls.length → YieldAt Fence.wide (n - 1) Tryz.prog l (encBack x) W fun e W' =>
      (e = .returned (.bool true) ∧ J (pre ++ [x]) W' ∧ KeepB N S W W') ∨ (e = .returned (.bool false) ∧ Jx (pre ++ [x]) W'))
    (W : World) (hBs : W.cell? ⟨Bs, 0, none⟩ = some v) (hsl : Sl W 3 v ls.length (lcs ls)) (hlen : ls.length ≤ 1048576) (hN : Bs < N) (hS : ¬ S Bs) (hvN : ∀ b, v.ownBlock = some b → b < N ∧ ¬ S b) (h0 : J [] W) :
    CallsIn Fence.wide n Tryz.prog 172 #[.func (.yield l) #[] #[], .pointer (some ⟨Bs, 0, none⟩)] W fun e W' => (∃ v, e = .returned v) ∧
      ((∃ ys, ys = backs 0 ls ∧ J ys W') ∨ (∃ pre, pre <+: backs 0 ls ∧ Jx pre W')) := by
  have hsl0 := hsl
  obtain ⟨_, A, c, rfl, _⟩ := hsl0
  obtain ⟨nl, HL⟩ : ∃ n, Hid (ls.length = n) := ⟨_, Lib.hid rfl⟩
  have HSL := Lib.hid hsl
  have HY := Lib.hid hY
  have HB := Lib.hid hBs
  rw [HL.out] at hBs hvN hlen HSL HB
  have HV := Lib.hid hvN
  clear hsl hY hvN
  refine callsIn_of_wp Tryz.func172 rfl trivial ?_ rfl
  simp only [Tryz.ntmps172, List.size_toArray, List.length_cons, List.length_nil, Nat.reduceAdd, Nat.reduceSub, Array.replicate_succ, Array.replicate_zero, List.push_toArray, List.append_toArray, List.nil_append, List.cons_append]
  gi_wp2
  gi_loopw [3] (fun i wr => ∃ k : Nat, k ≤ nl ∧ i = .int .i64 ((k : Int) - 1) ∧ Hid (J (backs k (ls.drop k)) wr) ∧ Hid (KeepB N S W wr)) (fun i _ => (intOf i + 1).toNat)
  case atStart => exact ⟨nl, Nat.le_refl _, rfl, Lib.hid (by rw [List.drop_of_length_le (by rw [HL.out]; exact Nat.le_refl _)]; exact h0), Lib.hid (KeepB.refl _ _ _)⟩
  case round =>
    obtain ⟨k, hk, rfl, HJ, HK⟩ := hrel
    have hc : wr.cell? ⟨Bs, 0, none⟩ = some (.slice A nl c) := (World.cell?_of_block (a := ⟨Bs, 0, none⟩) (HK.out.block Bs hN hS)).trans HB.out
    by_cases hk0 : k = 0
    · subst hk0
      gi_wp2
      go_end0
      exact ⟨⟨_, rfl⟩, .inl ⟨_, rfl, HJ.out⟩⟩
    · obtain ⟨m, rfl⟩ : ∃ m, k = m + 1 := ⟨k - 1, by omega⟩
      have hml : m < ls.length := by rw [HL.out]; omega
      obtain ⟨b, off, c', ef, hnc, hcm, hcell⟩ := HSL.out.form (by omega)
      injection ef with e1 e2 e3
      subst e1 e3
      unfold maxLen at hcm
      have hb := HV.out b rfl
      have hrd := late_read (fun j u hu => (World.cell?_of_block (a := ⟨b, off + j, none⟩) (HK.out.block b hb.1 hb.2)).trans (hcell j u hu)) m hml
      obtain ⟨fn, tmps, assign, body, hy, hR⟩ := HY.out _ ((m : Int), ls[m]) wr HJ.out (by rw [backs_len, List.length_drop]; omega)
      have HP := Lib.hid (backs_step ls m hml)
      rw [← HP.out] at hR
      have HR := Lib.hid hR
      have hi1 : ((m + 1 : Nat) : Int) - 1 = (m : Int) := by omega
      rw [hi1]
      have hm1 : (m : Int) < (nl : Int) := by omega
      have hn1 : (m : Int) - 1 ≥ -9223372036854775808 := by omega
      simp only [encBack] at hy
      generalize ls[m] = x at hrd hy
      obtain ⟨p1, p2, p3⟩ := hrd
      clear hR hcell e2 HP hml hk0
      gi_wp2
      refine HR.out.mono ?_
      rintro e W3 (⟨rfl, hJ3, hk3⟩ | ⟨rfl, hJx3⟩)
      · have HJ3 := Lib.hid hJ3
        have HK3 := Lib.hid (HK.out.trans hk3)
        clear hJ3 hk3 HR hy HJ HK p1 p2 p3 hc
        gi_wp2
        go_roundw
        case rel => exact ⟨m, by omega, by go_num, HJ3, HK3⟩
        case measure => simp [intOf]
      · have HJ3 := Lib.hid hJx3
        clear hJx3 HR hy HJ HK p1 p2 p3 hc
        gi_wp2
        refine bodyPost_ret (results_none rfl _ _ _) rfl ?_
        exact ⟨⟨_, rfl⟩, .inr ⟨_, backs_pre ls m, HJ3.out⟩⟩

set_option maxHeartbeats 400000 in
theorem back_in (n : Nat) (A : Option Addr) (m c : Nat) (w : World) :
    CallsIn Fence.wide n Tryz.prog 155 #[.slice A m c] w fun e w' => e = .returned (.func (.func 172) #[] #[.pointer (some ⟨w.heap.size, 0, none⟩)]) ∧ w' = w.alloc (.cells #[.slice A m c] 38) := by
  refine callsIn_of_wp Tryz.func155 rfl trivial ?_ rfl
  simp only [Tryz.ntmps155, List.size_toArray, List.length_cons, List.length_nil, Nat.reduceAdd, Nat.reduceSub, Array.replicate_succ, Array.replicate_zero, List.push_toArray, List.append_toArray, List.nil_append, List.cons_append]
  gi_wp2
  go_ret
  exact ⟨rfl, rfl⟩

theorem back_stops (n : Nat) (hn : 1 ≤ n) (Bs N : Nat) (S : Nat → Prop) (v : Value) (ls : List LateM) (w : World) (hc : w.cell? ⟨Bs, 0, none⟩ = some v) (hBs : Bs < w.heap.size) (hsl : Sl w 3 v ls.length (lcs ls)) (hlow : Low w.heap.size v) (hlen : ls.length ≤ 1048576)
    (hN : Bs < N) (hS : ¬ S Bs) (hvN : ∀ b, v.ownBlock = some b → b < N ∧ ¬ S b) :
    SeqStopsK Fence.wide n Tryz.prog 172 #[.pointer (some ⟨Bs, 0, none⟩)] encBack (KeepB N S) (fun ys => ys = backs 0 ls) (fun pre => pre <+: backs 0 ls) ls.length w := fun l J Jx W hW _ _ hY h0 =>
  back1_in n hn l Bs N S v ls J Jx hY W ((hW.cell (p := ⟨Bs, 0, none⟩) hBs).trans hc) (hsl.below hW hlow) hlen hN hS hvN h0
end Go.Proofs.YtojjenclcidnkaaGreatDoor

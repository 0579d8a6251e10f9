/-
  Lists of calls: read, and held against one another.
-/
import Derived.Test.YtgjlhokakcdpbaaGreatDoorFindM
import Derived.WalkKit
import Derived.Deep.RegionHeld3
set_option maxRecDepth 100000
namespace Go.Proofs.YtgjlhokakcdpbaaGreatDoor
open Go.ChangeShapes Go.WideShapes Go.ChangeAt Go.RowKit Go.Proofs.Palim

theorem infoOp : (Tryz.prog.info? 24).map (fun i => (i.zero, i.size, i.bytes)) = some (some (.agg #[.int .i64 0, .string ⟨#[]⟩, .string ⟨#[]⟩, .int .i64 0, .string ⟨#[]⟩]), 5, 64) := by kernel_rfl
theorem ocs_at (ls : List RecM) : ∀ (k : Nat) (h : k < ls.length), (ocs ls)[k * 5]? = some (.int .i64 ls[k].kind) ∧ (ocs ls)[k * 5 + 1]? = some (.string ls[k].a) ∧ (ocs ls)[k * 5 + 2]? = some (.string ls[k].b) ∧ (ocs ls)[k * 5 + 3]? = some (.int .i64 ls[k].i) ∧ (ocs ls)[k * 5 + 4]? = some (.string ls[k].text) := by
  induction ls with
  | nil => intro k h; simp at h
  | cons x ls ih =>
    intro k h
    have e : ocs (x :: ls) = [.int .i64 x.kind, .string x.a, .string x.b, .int .i64 x.i, .string x.text] ++ ocs ls := by simp [ocs, oc]
    cases k with
    | zero => rw [e]; exact ⟨rfl, rfl, rfl, rfl, rfl⟩
    | succ k =>
      have := ih k (by simpa using h)
      rw [e, show (k + 1) * 5 = k * 5 + 5 by omega]
      rw [List.getElem?_append_right (by simp), List.getElem?_append_right (by simp <;> omega), List.getElem?_append_right (by simp <;> omega), List.getElem?_append_right (by simp <;> omega), List.getElem?_append_right (by simp <;> omega)]
      simp only [List.length_cons, List.length_nil, List.getElem_cons_succ]
      rw [show k * 5 + 5 - (0 + 1 + 1 + 1 + 1 + 1) = k * 5 by omega, show k * 5 + 5 + 1 - (0 + 1 + 1 + 1 + 1 + 1) = k * 5 + 1 by omega, show k * 5 + 5 + 2 - (0 + 1 + 1 + 1 + 1 + 1) = k * 5 + 2 by omega, show k * 5 + 5 + 3 - (0 + 1 + 1 + 1 + 1 + 1) = k * 5 + 3 by omega, show k * 5 + 5 + 4 - (0 + 1 + 1 + 1 + 1 + 1) = k * 5 + 4 by omega]
      exact this
theorem op_read {w : World} {ls : List RecM} {b off : Nat} (hc : ∀ j u, (ocs ls)[j]? = some u → w.cell? ⟨b, off + j, none⟩ = some u) (k : Nat) (h : k < ls.length) :
    w.cell? ⟨b, off + k * 5, none⟩ = some (.int .i64 ls[k].kind) ∧ w.cell? ⟨b, off + k * 5 + 1, none⟩ = some (.string ls[k].a) ∧ w.cell? ⟨b, off + k * 5 + 2, none⟩ = some (.string ls[k].b) ∧ w.cell? ⟨b, off + k * 5 + 3, none⟩ = some (.int .i64 ls[k].i) ∧ w.cell? ⟨b, off + k * 5 + 4, none⟩ = some (.string ls[k].text) := by
  have hat := ocs_at ls k h
  exact ⟨hc _ _ hat.1, by rw [Nat.add_assoc]; exact hc _ _ hat.2.1, by rw [Nat.add_assoc]; exact hc _ _ hat.2.2.1, by rw [Nat.add_assoc]; exact hc _ _ hat.2.2.2.1, by rw [Nat.add_assoc]; exact hc _ _ hat.2.2.2.2⟩
theorem eqOpS_same (k i : Int) (a b t : ByteArray) (w : World) :
    Calls Tryz.prog 99 #[.agg #[.int .i64 k, .string a, .string b, .int .i64 i, .string t], .agg #[.int .i64 k, .string a, .string b, .int .i64 i, .string t]] w fun e w' => e = .returned (.bool true) ∧ Below w.heap.size w w' := by
  have ha : (a.toList == a.toList) = true := by simp
  have hb : (b.toList == b.toList) = true := by simp
  have ht : (t.toList == t.toList) = true := by simp
  have hk : (k != k) = false := by simp
  have hi : (i != i) = false := by simp
  obtain ⟨b1, b2, hsz, hB⟩ := box2 w #[.int .i64 k, .string a, .string b, .int .i64 i, .string t] #[.int .i64 k, .string a, .string b, .int .i64 i, .string t] 24 24
  go_enter Tryz.func99, Tryz.ntmps99
  go_wp2
  go_ret
  exact ⟨rfl, hB⟩
set_option maxHeartbeats 4000000 in
theorem eqBookOpS_same (va vb : Value) (ls : List RecM) (w : World) (ha : Sl w 5 va ls.length (ocs ls)) (hb : Sl w 5 vb ls.length (ocs ls)) (hva : ∀ b, va.ownBlock = some b → b < w.heap.size) (hvb : ∀ b, vb.ownBlock = some b → b < w.heap.size) (hs : ls.length ≤ 1048576) :
    Calls Tryz.prog 32 #[va, vb] w fun e w' => e = .returned (.bool true) ∧ Below w.heap.size w w' := by
  obtain ⟨n, HN⟩ : ∃ n, Hid (ls.length = n) := ⟨_, Lib.hid rfl⟩
  rw [HN.out] at ha hb hs
  have hnot : ∀ (x : Bool) (w : World), (Op.unary .not (.bool x)).run Tryz.prog w = .ok (.bool (!x)) w := fun _ _ => rfl
  by_cases hn : n = 0
  · subst hn
    obtain ⟨_, A, c, rfl, _, _, _⟩ := ha
    obtain ⟨_, A', c', rfl, _, _, _⟩ := hb
    clear hva hvb
    go_enter Tryz.func32, Tryz.ntmps32
    go_wp2
    go_loopw [5] (fun i wr => i = .int .i64 0 ∧ wr = w) (fun _ _ => 0)
    case atStart => exact ⟨rfl, rfl⟩
    case round =>
      obtain ⟨rfl, rfl⟩ := hrel
      go_wp2
      go_ret
      exact ⟨rfl, Below.refl _ _⟩
  · obtain ⟨b, off, c, rfl, hnc, hcm, hcell⟩ := ha.form (by omega)
    obtain ⟨b', off', c', rfl, hnc', hcm', hcell'⟩ := hb.form (by omega)
    have hbl : b < w.heap.size := hva b rfl
    have hbl' : b' < w.heap.size := hvb b' rfl
    have HC := Lib.hid hcell
    have HC' := Lib.hid hcell'
    unfold maxLen at hcm hcm'
    clear hcell hcell' ha hb hva hvb
    go_enter Tryz.func32, Tryz.ntmps32
    go_wp2
    go_loopw [5] (fun i wr => ∃ (k : Nat), k ≤ n ∧ i = .int .i64 k ∧ Hid (Below w.heap.size w wr)) (fun i _ => n - (intOf i).toNat)
    case atStart => exact ⟨0, Nat.zero_le _, rfl, Lib.hid (Below.refl _ _)⟩
    case round =>
      obtain ⟨k, hk, rfl, HB⟩ := hrel
      by_cases hlt : k < n
      · have hlt' : k < ls.length := by rw [HN.out]; exact hlt
        have hrd := op_read (fun j u hu => (HB.out.cell hbl).trans (HC.out j u hu)) k hlt'
        have hrd' := op_read (fun j u hu => (HB.out.cell hbl').trans (HC'.out j u hu)) k hlt'
        generalize ls[k] = x at hrd hrd'
        obtain ⟨h1, h2, h3, h4, h5⟩ := hrd
        obtain ⟨h1', h2', h3', h4', h5'⟩ := hrd'
        have hk1 : (k : Int) < (n : Int) := by omega
        go_wp2_with fail
        go_region_held3 (fun w' => w'.cell? ⟨b, off + k * 5, none⟩ = some (.int .i64 x.kind) ∧ w'.cell? ⟨b, off + k * 5 + 1, none⟩ = some (.string x.a) ∧ w'.cell? ⟨b, off + k * 5 + 2, none⟩ = some (.string x.b) ∧ w'.cell? ⟨b, off + k * 5 + 3, none⟩ = some (.int .i64 x.i) ∧ w'.cell? ⟨b, off + k * 5 + 4, none⟩ = some (.string x.text) ∧ w'.cell? ⟨b', off' + k * 5, none⟩ = some (.int .i64 x.kind) ∧ w'.cell? ⟨b', off' + k * 5 + 1, none⟩ = some (.string x.a) ∧ w'.cell? ⟨b', off' + k * 5 + 2, none⟩ = some (.string x.b) ∧ w'.cell? ⟨b', off' + k * 5 + 3, none⟩ = some (.int .i64 x.i) ∧ w'.cell? ⟨b', off' + k * 5 + 4, none⟩ = some (.string x.text))
          (first
            | go_keep
            | (go_split_ands
               refine ⟨?_, ?_, ?_, ?_, ?_, ?_, ?_, ?_, ?_, ?_⟩
               all_goals (rw [hb2.cell (by have := HB.out.size; simp <;> omega)]; assumption)))
          ((go_at_call 99; ((with_reducible refine (eqOpS_same x.kind x.i x.a x.b x.text _).mono ?_); rintro e w2 ⟨rfl, hb2⟩)))
        all_goals
          have HB2 := Lib.hid (HB.out.drew.trans (hb2.mono (by have := HB.out.size; simp; omega)))
          clear HB hb2 h1 h2 h3 h4 h5 h1' h2' h3' h4' h5'
          go_wp2
          go_roundw
          case rel => exact ⟨k + 1, by omega, by go_num, HB2⟩
          case measure => simp [intOf]; omega
      · go_wp2
        go_ret
        exact ⟨rfl, HB.out⟩
end Go.Proofs.YtgjlhokakcdpbaaGreatDoor

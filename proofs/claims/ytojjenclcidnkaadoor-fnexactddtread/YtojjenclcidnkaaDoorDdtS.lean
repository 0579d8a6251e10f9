/-
  The laws' own helpers on the entries of the table of blocks.
-/
import Derived.Test.YtojjenclcidnkaaDoorStrS
import Derived.WalkKit
import Derived.ProofKit
import Derived.Lib.Hide
import Derived.WalkSpells
import Derived.WalkSmall
import Derived.Laws.Pointers
set_option maxRecDepth 100000
namespace Go.Proofs.YtojjenclcidnkaaDoor
open Go.ChangeShapes Go.WideShapes Go.ChangeAt Go.RowKit Go.Proofs.Palim

/-- An entry, as plain data. -/
structure EntM where
  sum : Int
  at_ : Int
  count : Int
def ec (x : EntM) : List Value := [.int .i64 x.sum, .int .i64 x.at_, .int .i64 x.count]
def ecs (ls : List EntM) : List Value := ls.flatMap ec
theorem ecs_length (ls : List EntM) : (ecs ls).length = ls.length * 3 := by
  induction ls with
  | nil => rfl
  | cons x ls ih => simp [ecs, ec] at ih ⊢; omega
theorem ecs_snoc (a : List EntM) (x : EntM) : ecs (a ++ [x]) = ecs a ++ ec x := by simp [ecs]
theorem ecs_at (ls : List EntM) : ∀ (k : Nat) (h : k < ls.length), (ecs ls)[k * 3]? = some (.int .i64 ls[k].sum) ∧ (ecs ls)[k * 3 + 1]? = some (.int .i64 ls[k].at_) ∧ (ecs ls)[k * 3 + 2]? = some (.int .i64 ls[k].count) := by
  induction ls with
  | nil => intro k h; simp at h
  | cons x ls ih =>
    intro k h
    have e : ecs (x :: ls) = [.int .i64 x.sum, .int .i64 x.at_, .int .i64 x.count] ++ ecs ls := by simp [ecs, ec]
    cases k with
    | zero => rw [e]; exact ⟨rfl, rfl, rfl⟩
    | succ k =>
      have := ih k (by simpa using h)
      rw [e, show (k + 1) * 3 = k * 3 + 3 by omega]
      rw [List.getElem?_append_right (by simp), List.getElem?_append_right (by simp <;> omega), List.getElem?_append_right (by simp <;> omega)]
      simp only [List.length_cons, List.length_nil, List.getElem_cons_succ]
      rw [show k * 3 + 3 - (0 + 1 + 1 + 1) = k * 3 by omega, show k * 3 + 3 + 1 - (0 + 1 + 1 + 1) = k * 3 + 1 by omega, show k * 3 + 3 + 2 - (0 + 1 + 1 + 1) = k * 3 + 2 by omega]
      exact this
theorem ent_read {w : World} {ls : List EntM} {b off : Nat} (hc : ∀ j u, (ecs ls)[j]? = some u → w.cell? ⟨b, off + j, none⟩ = some u) (k : Nat) (h : k < ls.length) :
    w.cell? ⟨b, off + k * 3, none⟩ = some (.int .i64 ls[k].sum) ∧ w.cell? ⟨b, off + k * 3 + 1, none⟩ = some (.int .i64 ls[k].at_) ∧ w.cell? ⟨b, off + k * 3 + 2, none⟩ = some (.int .i64 ls[k].count) := by
  have hat := ecs_at ls k h
  exact ⟨hc _ _ hat.1, by rw [Nat.add_assoc]; exact hc _ _ hat.2.1, by rw [Nat.add_assoc]; exact hc _ _ hat.2.2⟩
/-- As a value. -/
def entV (x : EntM) : Value := .agg #[.int .i64 x.sum, .int .i64 x.at_, .int .i64 x.count]

set_option maxHeartbeats 400000 in
theorem eqDdtEntry_same (a b s : Int) (w : World) :
    Calls Tryd.prog 16 #[.agg #[.int .i64 a, .int .i64 b, .int .i64 s], .agg #[.int .i64 a, .int .i64 b, .int .i64 s]] w fun e w' => e = .returned (.bool true) ∧ Below w.heap.size w w' := by
  go_enter Tryd.func16, Tryd.ntmps16
  go_wp2
  go_ret
  exact ⟨rfl, ((Below.refl _ _).alloc (Nat.le_refl _) _).alloc (by simp) _⟩

theorem infoEnt : (Tryd.prog.info? 33).map (fun i => (i.zero, i.size, i.bytes)) = some (some (.agg #[.int .i64 0, .int .i64 0, .int .i64 0]), 3, 24) := by kernel_rfl

/-- A new list of entries of the call's own. -/
def NewEnts (w : World) (ls : List EntM) (e : Ending) (w' : World) : Prop :=
  ∃ v, e = .returned v ∧ w'.ownsRow w.heap.size 33 3 v ls.length (ecs ls) ∧ Below w.heap.size w w'

set_option maxHeartbeats 400000 in
theorem eqDdtEntryS_same (va vb : Value) (ls : List EntM) (w : World) (ha : Sl w 3 va ls.length (ecs ls)) (hb : Sl w 3 vb ls.length (ecs ls)) (hva : ∀ b, va.ownBlock = some b → b < w.heap.size) (hvb : ∀ b, vb.ownBlock = some b → b < w.heap.size) (hs : ls.length ≤ 1048576) :
    Calls Tryd.prog 6 #[va, vb] w fun e w' => e = .returned (.bool true) ∧ Below w.heap.size w w' := by
  obtain ⟨n, HN⟩ : ∃ n, Hid (ls.length = n) := ⟨_, Lib.hid rfl⟩
  rw [HN.out] at ha hb hs
  have hnot : ∀ (x : Bool) (w : World), (Op.unary .not (.bool x)).run Tryd.prog w = .ok (.bool (!x)) w := fun _ _ => rfl
  by_cases hn : n = 0
  · subst hn
    obtain ⟨_, A, c, rfl, _, _, _⟩ := ha
    obtain ⟨_, A', c', rfl, _, _, _⟩ := hb
    clear hva hvb
    go_enter Tryd.func6, Tryd.ntmps6
    go_wp2
    go_loopw [5] (fun i wr => i = .int .i64 0 ∧ wr = w) (fun _ _ => 0)
    case atStart => exact ⟨rfl, rfl⟩
    case round =>
      obtain ⟨rfl, rfl⟩ := hrel
      go_wp2
      go_ret
      exact ⟨rfl, Below.refl _ _⟩
  · obtain ⟨b, off, c, rfl, hnc, hcm, hcell⟩ := ha.form (by omega)
    obtain ⟨b', off', c', rfl, hnc', hcm', hcell'⟩ := hb.form (by omega)
    have hbl : b < w.heap.size := hva b rfl
    have hbl' : b' < w.heap.size := hvb b' rfl
    have HC := Lib.hid hcell
    have HC' := Lib.hid hcell'
    unfold maxLen at hcm hcm'
    clear hcell hcell' ha hb hva hvb
    go_enter Tryd.func6, Tryd.ntmps6
    go_wp2
    go_loopw [5] (fun i wr => ∃ (k : Nat), k ≤ n ∧ i = .int .i64 k ∧ Hid (Below w.heap.size w wr)) (fun i _ => n - (intOf i).toNat)
    case atStart => exact ⟨0, Nat.zero_le _, rfl, Lib.hid (Below.refl _ _)⟩
    case round =>
      obtain ⟨k, hk, rfl, HB⟩ := hrel
      by_cases hlt : k < n
      · have hlt' : k < ls.length := by rw [HN.out]; exact hlt
        have hrd := ent_read (fun j u hu => (HB.out.cell hbl).trans (HC.out j u hu)) k hlt'
        have hrd' := ent_read (fun j u hu => (HB.out.cell hbl').trans (HC'.out j u hu)) k hlt'
        generalize ls[k] = x at hrd hrd'
        obtain ⟨h1, h2, h3⟩ := hrd
        obtain ⟨h1', h2', h3'⟩ := hrd'
        have hk1 : (k : Int) < (n : Int) := by omega
        go_wp2_with fail
        go_region_held3 (fun w' => w'.cell? ⟨b, off + k * 3, none⟩ = some (.int .i64 x.sum) ∧ w'.cell? ⟨b, off + k * 3 + 1, none⟩ = some (.int .i64 x.at_) ∧ w'.cell? ⟨b, off + k * 3 + 2, none⟩ = some (.int .i64 x.count) ∧ w'.cell? ⟨b', off' + k * 3, none⟩ = some (.int .i64 x.sum) ∧ w'.cell? ⟨b', off' + k * 3 + 1, none⟩ = some (.int .i64 x.at_) ∧ w'.cell? ⟨b', off' + k * 3 + 2, none⟩ = some (.int .i64 x.count))
          (first
            | go_keep
            | (go_split_ands
               refine ⟨?_, ?_, ?_, ?_, ?_, ?_⟩
               all_goals (rw [hb2.cell (by have := HB.out.size; simp <;> omega)]; assumption)))
          ((go_at_call 16; ((with_reducible refine (eqDdtEntry_same x.sum x.at_ x.count _).mono ?_); rintro e w2 ⟨rfl, hb2⟩)))
        all_goals
          have HB2 := Lib.hid (HB.out.drew.trans (hb2.mono (by have := HB.out.size; simp; omega)))
          clear HB hb2 h1 h2 h3 h1' h2' h3'
          go_wp2
          go_roundw
          case rel => exact ⟨k + 1, by omega, by go_num, HB2⟩
          case measure => simp [intOf]; omega
      · go_wp2
        go_ret
        exact ⟨rfl, HB.out⟩
end Go.Proofs.YtojjenclcidnkaaDoor

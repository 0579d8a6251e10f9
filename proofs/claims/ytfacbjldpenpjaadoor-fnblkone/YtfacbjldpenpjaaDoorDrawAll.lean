/-
  Texts joined into one: the draws of disks, and what they want.
-/
import Derived.Test.YtfacbjldpenpjaaDoorImPut
import Derived.Test.YtfacbjldpenpjaaDoorDiskWrite
import Derived.WalkKit
import Derived.IntWalk
import Derived.Test.YtfacbjldpenpjaaDoorRows
import Derived.Test.YtfacbjldpenpjaaDoorSum
import Derived.ProofKit
import Derived.Lib.Hide
import Derived.WalkSpells
import Derived.WalkSmall
import Derived.Laws.Pointers
import Derived.Deep.QuietTactic
import Derived.BigQuiet
import Derived.Deep.Draws
import Derived.Test.YtfacbjldpenpjaaDoorMem
import Derived.Maps.AppendAt
import Derived.Test.YtfacbjldpenpjaaDoorDiskArg
import Derived.Test.YtfacbjldpenpjaaDoorFresh
import Derived.Test.YtfacbjldpenpjaaDoorImClone
import Derived.Test.YtfacbjldpenpjaaDoorImBack
import Derived.RangeFuncNested
import Derived.RangeFuncLeaves
import Derived.OrdersIn
import Derived.OrdersHeld
import Derived.Deep.RegionHeld3
import Derived.TacticsIn
import Derived.Test.YtfacbjldpenpjaaDoorImDiskRead
import Derived.Test.YtfacbjldpenpjaaDoorLDiskFlush
import Derived.Test.YtfacbjldpenpjaaDoorFrame
import Derived.OpenShut
import Derived.Test.YtfacbjldpenpjaaDoorImDiskWrite
import Derived.Test.YtfacbjldpenpjaaDoorPDiskWrite
import Derived.Laws.BitsAllLaws
import Derived.StillTailTactics
import Derived.Deep.CutRange
import Derived.Test.YtfacbjldpenpjaaDoorDiskOpen

/-
  Half of a write: spec's l2Torn and impl's diskTorn.
-/
set_option maxRecDepth 100000
namespace Go.Proofs.YtfacbjldpenpjaaDoor
open Go.ChangeShapes Go.WideShapes Go.ChangeAt Go.RowKit Go.Proofs.Palim

/-- What a sector holds after half of a write to it. -/
def tornM (old now : ByteArray) : ByteArray := now.extract 0 (now.size / 2) ++ old.extract (min (now.size / 2) old.size) old.size

set_option maxHeartbeats 400000 in
theorem diskTorn_any (old now : ByteArray) (w : World) (h0 : old.size ≤ maxLen) (h1 : now.size ≤ maxLen) :
    Calls Tryd.prog 53 #[.string old, .string now] w (Drawn (.string (tornM old now)) w) := by
  unfold maxLen at h0 h1
  go_enter Tryd.func53, Tryd.ntmps53
  go_wp2_with fail
  go_quiet (fail)
  have HE := Lib.hid (show (if (old.size : Int) < (now.size : Int) / 2 then (old.size : Int) else (now.size : Int) / 2).toNat = min (now.size / 2) old.size from by split <;> omega)
  rw [HE.out]
  go_wp2
  all_goals
    go_ret
    exact ⟨rfl, nq, rfl⟩

theorem tornM_size {old now : ByteArray} {B : Nat} (h0 : old.size ≤ B) (h1 : now.size ≤ B) : (tornM old now).size ≤ B := by
  unfold tornM
  rw [ByteArray.size_append, ByteArray.size_extract, ByteArray.size_extract]
  omega

/-- Each late write with what becomes of it. -/
def pairs : List LateM → List Int → List (LateM × Int)
  | [], _ => []
  | l :: ls, [] => (l, 0) :: pairs ls []
  | l :: ls, f :: fs => (l, f) :: pairs ls fs
theorem pairs_len (ls : List LateM) : ∀ fs, (pairs ls fs).length = ls.length := by
  induction ls with
  | nil => intro fs; rfl
  | cons l ls ih => intro fs; cases fs <;> simp [pairs, ih]
theorem pairs_at (ls : List LateM) : ∀ (fs : List Int) (k : Nat) (h : k < (pairs ls fs).length) (h' : k < ls.length), (pairs ls fs)[k] = (ls[k], fs.getD k 0) := by
  induction ls with
  | nil => intro fs k h h'; cases h'
  | cons l ls ih =>
    intro fs k h h'
    cases fs with
    | nil => cases k with
      | zero => simp [pairs]
      | succ k => simp only [pairs, List.getElem_cons_succ]; rw [ih _ _ _ (by simpa using h')]; simp
    | cons f fs => cases k with
      | zero => simp [pairs]
      | succ k => simp only [pairs, List.getElem_cons_succ]; rw [ih _ _ _ (by simpa using h')]; simp
/-- The text of a sector of two sides. -/
def sectOf (p : List ByteArray × List ByteArray) (side : Int) (k : Nat) : ByteArray := (if side = 0 then p.1 else p.2).getD k ⟨#[]⟩
def fallStep (p : List ByteArray × List ByteArray) (x : LateM × Int) : List ByteArray × List ByteArray :=
  if x.2 = 1 then layM p x.1.side x.1.at_.toNat x.1.text else if x.2 = 2 then layM p x.1.side x.1.at_.toNat (tornM (sectOf p x.1.side x.1.at_.toNat) x.1.text) else p
def fallAll (p : List ByteArray × List ByteArray) (xs : List (LateM × Int)) : List ByteArray × List ByteArray := xs.foldl fallStep p
theorem fallAll_snoc (p : List ByteArray × List ByteArray) (xs : List (LateM × Int)) (x : LateM × Int) : fallAll p (xs ++ [x]) = fallStep (fallAll p xs) x := by simp [fallAll]
theorem fallStep_len (p : List ByteArray × List ByteArray) (x : LateM × Int) : (fallStep p x).1.length = p.1.length ∧ (fallStep p x).2.length = p.2.length := by
  unfold fallStep
  split
  · exact layM_len _ _ _ _
  · split
    · exact layM_len _ _ _ _
    · exact ⟨rfl, rfl⟩
theorem fallAll_len (xs : List (LateM × Int)) : ∀ p : List ByteArray × List ByteArray, (fallAll p xs).1.length = p.1.length ∧ (fallAll p xs).2.length = p.2.length := by
  induction xs with
  | nil => intro p; exact ⟨rfl, rfl⟩
  | cons x xs ih =>
    intro p
    have h := ih (fallStep p x)
    have h2 := fallStep_len p x
    exact ⟨h.1.trans h2.1, h.2.trans h2.2⟩
theorem fallAll_none (xs : List (LateM × Int)) (h : ∀ x ∈ xs, x.2 = 0) : ∀ p, fallAll p xs = p := by
  induction xs with
  | nil => intro p; rfl
  | cons x xs ih =>
    intro p
    show fallAll (fallStep p x) xs = p
    rw [ih (fun y hy => h y (by simp [hy]))]
    unfold fallStep
    rw [h x (by simp), if_neg (by omega), if_neg (by omega)]
theorem pairs_late {ls : List LateM} {fs : List Int} {k : Nat} (hk : fs.length ≤ k ∨ ls.length ≤ k) : ∀ x ∈ (pairs ls fs).drop k, x.2 = 0 := by
  intro x hx
  obtain ⟨i, hi, rfl⟩ := List.mem_iff_getElem.1 hx
  have hl := pairs_len ls fs
  rw [List.length_drop, hl] at hi
  rw [List.getElem_drop, pairs_at ls fs (k + i) (by omega) (by omega)]
  rcases hk with h | h
  · simp [List.getD, List.getElem?_eq_none (show fs.length ≤ k + i by omega)]
  · omega
theorem fallAll_take {p : List ByteArray × List ByteArray} {ls : List LateM} {fs : List Int} {k : Nat} (hk : fs.length ≤ k ∨ ls.length ≤ k) : fallAll p ((pairs ls fs).take k) = fallAll p (pairs ls fs) := by
  have h : fallAll p (pairs ls fs) = fallAll (fallAll p ((pairs ls fs).take k)) ((pairs ls fs).drop k) := by
    unfold fallAll
    rw [← List.foldl_append, List.take_append_drop]
  rw [h, fallAll_none _ (pairs_late hk)]
def fallM (d : DiskM) (fs : List Int) : DiskM := if DiskOkM d then ⟨(fallAll (d.s0, d.s1) (pairs d.late fs)).1, (fallAll (d.s0, d.s1) (pairs d.late fs)).2, []⟩ else noDisk
theorem sectOf_all {P : ByteArray → Prop} {p : List ByteArray × List ByteArray} (h0 : ∀ s ∈ p.1, P s) (h1 : ∀ s ∈ p.2, P s) (he : P ⟨#[]⟩) (side : Int) (k : Nat) : P (sectOf p side k) := by
  unfold sectOf
  split
  · rcases Nat.lt_or_ge k p.1.length with h | h
    · rw [show p.1.getD k ⟨#[]⟩ = p.1[k] by simp [List.getD, List.getElem?_eq_getElem h]]; exact h0 _ (List.getElem_mem h)
    · rw [show p.1.getD k ⟨#[]⟩ = ⟨#[]⟩ by simp [List.getD, List.getElem?_eq_none h]]; exact he
  · rcases Nat.lt_or_ge k p.2.length with h | h
    · rw [show p.2.getD k ⟨#[]⟩ = p.2[k] by simp [List.getD, List.getElem?_eq_getElem h]]; exact h1 _ (List.getElem_mem h)
    · rw [show p.2.getD k ⟨#[]⟩ = ⟨#[]⟩ by simp [List.getD, List.getElem?_eq_none h]]; exact he
theorem layM_all {P : ByteArray → Prop} {p : List ByteArray × List ByteArray} (h0 : ∀ s ∈ p.1, P s) (h1 : ∀ s ∈ p.2, P s) {t : ByteArray} (ht : P t) (side : Int) (k : Nat) : (∀ s ∈ (layM p side k t).1, P s) ∧ ∀ s ∈ (layM p side k t).2, P s := by
  have hset : ∀ {ss : List ByteArray}, (∀ s ∈ ss, P s) → ∀ s ∈ ss.set k t, P s := fun h s hs => by
    rcases List.mem_or_eq_of_mem_set hs with h' | h'
    · exact h s h'
    · exact h' ▸ ht
  unfold layM
  split
  · exact ⟨hset h0, h1⟩
  · exact ⟨h0, hset h1⟩
theorem fallAll_all {B : Nat} (xs : List (LateM × Int)) (hx : ∀ x ∈ xs, x.1.text.size ≤ B) : ∀ p : List ByteArray × List ByteArray, (∀ s ∈ p.1, s.size ≤ B) → (∀ s ∈ p.2, s.size ≤ B) → (∀ s ∈ (fallAll p xs).1, s.size ≤ B) ∧ ∀ s ∈ (fallAll p xs).2, s.size ≤ B := by
  induction xs with
  | nil => intro p h0 h1; exact ⟨h0, h1⟩
  | cons x xs ih =>
    intro p h0 h1
    have ht := hx x (by simp)
    have h := show (∀ s ∈ (fallStep p x).1, s.size ≤ B) ∧ ∀ s ∈ (fallStep p x).2, s.size ≤ B from by
      unfold fallStep
      split
      · exact layM_all h0 h1 ht _ _
      · split
        · exact layM_all h0 h1 (tornM_size (sectOf_all (P := fun s => s.size ≤ B) h0 h1 (Nat.zero_le _) _ _) ht) _ _
        · exact ⟨h0, h1⟩
    exact ih (fun y hy => hx y (by simp [hy])) _ h.1 h.2
theorem pairs_text {B : Nat} {ls : List LateM} (h : ∀ l ∈ ls, l.text.size ≤ B) (fs : List Int) : ∀ x ∈ pairs ls fs, x.1.text.size ≤ B := by
  intro x hx
  obtain ⟨i, hi, rfl⟩ := List.mem_iff_getElem.1 hx
  have hl := pairs_len ls fs
  rw [pairs_at ls fs i hi (by omega)]
  exact h _ (List.getElem_mem _)
theorem short_fall {d : DiskM} {fs : List Int} (h : DiskShort d) : DiskShort (fallM d fs) := by
  unfold fallM
  split
  · have hl := fallAll_len (pairs d.late fs) (d.s0, d.s1)
    have ha := fallAll_all (B := 1048576) (pairs d.late fs) (pairs_text h.zl fs) (d.s0, d.s1) h.z0 h.z1
    exact ⟨by rw [hl.1]; exact h.n0, by rw [hl.2]; exact h.n1, by simp, ha.1, ha.2, by simp⟩
  · exact short_no
theorem sect_at {p : List ByteArray × List ByteArray} {side : Int} {k : Nat} {u : Value} (h : (side = 0 ∧ (scs p.1)[k]? = some u) ∨ (side = 1 ∧ (scs p.2)[k]? = some u)) : u = .string (sectOf p side k) := by
  unfold sectOf
  rcases h with ⟨rfl, h⟩ | ⟨rfl, h⟩
  · have hk := (List.getElem?_eq_some_iff.1 h).1
    rw [scs_length] at hk
    rw [scs_at _ _ hk] at h
    simp [List.getD, List.getElem?_eq_getElem hk, ← Option.some.inj h]
  · have hk := (List.getElem?_eq_some_iff.1 h).1
    rw [scs_length] at hk
    rw [scs_at _ _ hk] at h
    simp [List.getD, List.getElem?_eq_getElem hk, ← Option.some.inj h]
end Go.Proofs.YtfacbjldpenpjaaDoor

/-
  Two writes of one sector, one behind the other: what is read then, and what a power failure that keeps all of them, or all but the last, leaves.
-/
set_option maxRecDepth 100000
namespace Go.Proofs.YtfacbjldpenpjaaDoor
open Go.Proofs.Palim

theorem pairs_ones : ∀ (ls : List LateM) (n : Nat), ls.length ≤ n → pairs ls (List.replicate n 1) = ls.map fun l => (l, 1)
  | [], _, _ => rfl
  | l :: ls, n, h => by
    obtain ⟨m, rfl⟩ : ∃ m, n = m + 1 := ⟨n - 1, by simp at h; omega⟩
    rw [List.replicate_succ]
    simp only [pairs, List.map_cons]
    rw [pairs_ones ls m (by simpa using h)]
theorem pairs_short : ∀ (ls : List LateM) (x : LateM), pairs (ls ++ [x]) (List.replicate ls.length 1) = (ls.map fun l => (l, (1 : Int))) ++ [(x, 0)]
  | [], _ => rfl
  | l :: ls, x => by
    rw [List.length_cons, List.replicate_succ]
    simp only [List.cons_append, pairs, List.map_cons]
    rw [pairs_short ls x]
theorem fallAll_ones (p : List ByteArray × List ByteArray) (ls : List LateM) : fallAll p (ls.map fun l => (l, 1)) = layAll p ls := by
  unfold fallAll layAll
  rw [List.foldl_map]
  congr 1
theorem sectOf_lay {p : List ByteArray × List ByteArray} {side : Int} {k : Nat} {t : ByteArray} (h : (side = 0 ∧ k < p.1.length) ∨ (side = 1 ∧ k < p.2.length)) : sectOf (layM p side k t) side k = t := by
  unfold sectOf layM
  rcases h with ⟨rfl, h⟩ | ⟨rfl, h⟩
  · simp [List.getD, h]
  · simp [List.getD, h]

theorem canRead_of {d : DiskM} {side at_ : Int} {n : Nat} (hok : DiskOkM d) (h : There d.s0.length side at_ n) : CanRead d side at_ := ⟨hok, by unfold There at *; omega⟩
theorem ok_fall {d : DiskM} {fs : List Int} (h : DiskOkM d) : DiskOkM (fallM d fs) ∧ (fallM d fs).s0.length = d.s0.length := by
  have e : fallM d fs = _ := if_pos h
  have hl := fallAll_len (pairs d.late fs) (d.s0, d.s1)
  have ha := fallAll_all (B := 420) (pairs d.late fs) (pairs_text (fun l hl => (h.2.2.2.2.2.2 l hl).2.2.2.2) fs) (d.s0, d.s1) h.2.2.2.2.1 h.2.2.2.2.2.1
  rw [e]
  refine ⟨⟨?_, ?_, ?_, by simp, ha.1, ha.2, by simp⟩, hl.1⟩
  · rw [hl.1]; exact h.1
  · rw [hl.1]; exact h.2.1
  · rw [hl.1, hl.2]; exact h.2.2.1
theorem read_fall {d : DiskM} {fs : List Int} {side at_ : Int} {n : Nat} (h : DiskOkM d) (ht : There d.s0.length side at_ n) : readOut (fallM d fs) side at_ = sectOf (fallAll (d.s0, d.s1) (pairs d.late fs)) side at_.toNat := by
  have ho := ok_fall (fs := fs) h
  have hc : CanRead (fallM d fs) side at_ := canRead_of (n := n) ho.1 (by rw [ho.2]; exact ht)
  have e : fallM d fs = _ := if_pos h
  unfold readOut
  rw [if_pos hc]
  unfold readM
  rw [e]
  rfl

/-- The two writes. -/
structure Twice (d : DiskM) (side at_ : Int) (text other : ByteArray) : Prop where
  first : CanWrite d side at_ text
  second : CanWrite (writeM d side at_ text) side at_ other
theorem Twice.x {d : DiskM} {side at_ : Int} {text other : ByteArray} (h : Twice d side at_ text other) : writeM d side at_ text = ⟨d.s0, d.s1, d.late ++ [⟨side, at_, text⟩]⟩ := if_pos h.first
theorem Twice.y {d : DiskM} {side at_ : Int} {text other : ByteArray} (h : Twice d side at_ text other) : writeM (writeM d side at_ text) side at_ other = ⟨d.s0, d.s1, d.late ++ [⟨side, at_, text⟩] ++ [⟨side, at_, other⟩]⟩ := by
  have e : writeM (writeM d side at_ text) side at_ other = _ := if_pos h.second
  rw [e, h.x]
theorem Twice.ok {d : DiskM} {side at_ : Int} {text other : ByteArray} (h : Twice d side at_ text other) : DiskOkM (writeM (writeM d side at_ text) side at_ other) := by
  have h2 := h.second
  rw [h.x] at h2
  rw [h.y]
  obtain ⟨hk, ht, hn⟩ := h2
  refine ⟨hk.1, hk.2.1, hk.2.2.1, ?_, hk.2.2.2.2.1, hk.2.2.2.2.2.1, ?_⟩
  · have h4 := hk.2.2.2.1
    simp only [List.length_append, List.length_singleton] at h4 hn ⊢
    omega
  · intro l hl
    rcases List.mem_append.1 hl with h' | h'
    · exact hk.2.2.2.2.2.2 l h'
    · obtain rfl := List.mem_singleton.1 h'
      exact ht
theorem Twice.there {d : DiskM} {side at_ : Int} {text other : ByteArray} (h : Twice d side at_ text other) : There (writeM (writeM d side at_ text) side at_ other).s0.length side at_ text.size := by
  rw [h.y]; exact h.first.2.1
theorem Twice.sector {d : DiskM} {side at_ : Int} {text other : ByteArray} (h : Twice d side at_ text other) {p : List ByteArray × List ByteArray} (h0 : p.1.length = d.s0.length) (h1 : p.2.length = d.s1.length) : (side = 0 ∧ at_.toNat < p.1.length) ∨ (side = 1 ∧ at_.toNat < p.2.length) := by
  have ht := h.first.2.1
  have hn := h.first.1.2.2.1
  unfold There at ht
  omega
/-- The last write is read. -/
theorem Twice.read {d : DiskM} {side at_ : Int} {text other : ByteArray} (h : Twice d side at_ text other) : readOut (writeM (writeM d side at_ text) side at_ other) side at_ = other := by
  unfold readOut
  rw [if_pos (canRead_of h.ok h.there)]
  unfold readM
  rw [h.y]
  simp only
  rw [lastOf_snoc, if_pos ⟨rfl, rfl⟩]
  rfl
/-- All are kept: the last one stays. -/
theorem Twice.kept {d : DiskM} {side at_ : Int} {text other : ByteArray} (h : Twice d side at_ text other) (n : Nat) (hn : n = (writeM (writeM d side at_ text) side at_ other).late.length) : readOut (fallM (writeM (writeM d side at_ text) side at_ other) (List.replicate n 1)) side at_ = other := by
  rw [read_fall h.ok h.there]
  rw [h.y] at hn ⊢
  simp only at hn ⊢
  rw [pairs_ones _ _ (by omega), fallAll_ones, layAll_snoc]
  refine sectOf_lay (h.sector ?_ ?_)
  · rw [(layAll_len _ _).1]
  · rw [(layAll_len _ _).2]
/-- All but the last are kept: the one before it stays. -/
theorem Twice.lost {d : DiskM} {side at_ : Int} {text other : ByteArray} (h : Twice d side at_ text other) (n : Nat) (hn : n + 1 = (writeM (writeM d side at_ text) side at_ other).late.length) : readOut (fallM (writeM (writeM d side at_ text) side at_ other) (List.replicate n 1)) side at_ = text := by
  rw [read_fall h.ok h.there]
  rw [h.y] at hn ⊢
  simp only at hn ⊢
  have hl : n = (d.late ++ [(⟨side, at_, text⟩ : LateM)]).length := by simp at hn ⊢; omega
  rw [hl, pairs_short, fallAll_snoc, fallAll_ones]
  unfold fallStep
  rw [if_neg (by simp), if_neg (by simp), layAll_snoc]
  refine sectOf_lay (h.sector ?_ ?_)
  · rw [(layAll_len _ _).1]
  · rw [(layAll_len _ _).2]
end Go.Proofs.YtfacbjldpenpjaaDoor

/-
  The number that a reader picks past its code's end lies below its bound: plain arithmetic.
-/
namespace Go.Proofs.Palim
open Go Go.RowKit

/-- The exclusive or of two small numbers is not negative. -/
theorem xor_small (a b : Nat) (ha : a < 4294967296) (hb : b < 4294967296) : 0 ≤ bits .xor .i64 (a : Int) (b : Int) := by
  have e : bits .xor .i64 (a : Int) (b : Int) = IntKind.i64.wrap ((BitVec.ofInt 64 (a : Int) ^^^ BitVec.ofInt 64 (b : Int)).toNat : Int) := rfl
  have one : ∀ c : Nat, c < 4294967296 → (BitVec.ofInt 64 (c : Int)).toNat = c := fun c hc => by
    rw [BitVec.ofInt_natCast, BitVec.toNat_ofNat, Nat.mod_eq_of_lt (by omega)]
  have lt : a ^^^ b < 2 ^ 32 := Nat.xor_lt_two_pow (by omega) (by omega)
  rw [e, BitVec.toNat_xor, one a ha, one b hb, IntWalk.i64_in _ (by omega)]
  exact Int.natCast_nonneg _

theorem pick_val (x y : UInt8) (k n m : Nat) (hk : k ≤ 1000000) (hm : 0 < m) : ∃ r : Nat, r < m ∧
    (bits .xor .i64 (wrap64 ((x.toNat : Int) * 131 + (y.toNat : Int) * 1117 + (k : Int) * 29 + wrap64 (wrap64 ((k : Int) / (n : Int)) * 53)))
      (wrap64 ((wrap64 ((x.toNat : Int) * 131 + (y.toNat : Int) * 1117 + (k : Int) * 29 + wrap64 (wrap64 ((k : Int) / (n : Int)) * 53))).tdiv 64))).tmod (m : Int) = (r : Int) := by
  have hx := x.toNat_lt
  have hy := y.toNat_lt
  have hq : k / n ≤ k := Nat.div_le_self _ _
  obtain ⟨Q, hQ, hQ1⟩ : ∃ Q : Nat, (k : Int) / (n : Int) = (Q : Int) ∧ Q ≤ k := ⟨k / n, rfl, hq⟩
  rw [hQ, IntWalk.wrap64_in (Q : Int) (by omega), IntWalk.wrap64_in ((Q : Int) * 53) (by omega)]
  obtain ⟨X, hX, hX1⟩ : ∃ X : Nat, (x.toNat : Int) * 131 + (y.toNat : Int) * 1117 + (k : Int) * 29 + (Q : Int) * 53 = (X : Int) ∧ X < 4294967296 :=
    ⟨x.toNat * 131 + y.toNat * 1117 + k * 29 + Q * 53, by omega, by omega⟩
  rw [hX, IntWalk.wrap64_in (X : Int) (by omega)]
  have e1 : (X : Int).tdiv 64 = ((X / 64 : Nat) : Int) := rfl
  rw [e1, IntWalk.wrap64_in ((X / 64 : Nat) : Int) (by omega)]
  have h0 := xor_small X (X / 64) hX1 (by omega)
  obtain ⟨Y, hY⟩ : ∃ Y : Nat, bits .xor .i64 (X : Int) ((X / 64 : Nat) : Int) = (Y : Int) := ⟨(bits .xor .i64 (X : Int) ((X / 64 : Nat) : Int)).toNat, by omega⟩
  rw [hY]
  exact ⟨Y % m, Nat.mod_lt _ hm, rfl⟩
end Go.Proofs.Palim

/-
  The reader of codes from which the laws' inputs are drawn: it picks numbers below a bound, and turns nothing but itself.
-/
namespace Go.Proofs.YtfacbjldpenpjaaDoor
open Go.ChangeShapes Go.WideShapes Go.ChangeAt Go.RowKit Go.Proofs.Palim

/-- A reader lies in block g; it has picked k times. -/
def Rd (w : World) (g k : Nat) : Prop := ∃ (A : Option Addr) (n c : Nat), w.heap[g]? = some (.cells #[.slice A n c, .int .i64 (k : Int)] 114 (0, 0)) ∧ n ≤ 2000 ∧
  (n = 0 ∨ ∃ b off, A = some ⟨b, off, none⟩ ∧ b < g ∧ ∀ i, i < n → ∃ x : UInt8, w.cell? ⟨b, off + i, none⟩ = some (.int .u8 (x.toNat : Int)))
theorem Rd.lt {w : World} {g k : Nat} (h : Rd w g k) : g < w.heap.size := by
  obtain ⟨A, n, c, h, _⟩ := h
  exact (Array.getElem?_eq_some_iff.1 h).1
/-- One more pick. -/
theorem Rd.next {w : World} {g k : Nat} (h : Rd w g k) (q : Nat) : Rd ((w.setCell ⟨g, 1, none⟩ (.int .i64 ((k : Int) + 1))).drewN q) g (k + 1) := by
  obtain ⟨A, n, c, h, hn, hr⟩ := h
  refine ⟨A, n, c, ?_, hn, ?_⟩
  · show (w.setCell ⟨g, 1, none⟩ (.int .i64 ((k : Int) + 1))).heap[g]? = _
    simp [World.setCell, Array.getElem?_modify, h]
  · refine hr.imp id ?_
    rintro ⟨b, off, rfl, hb, hc⟩
    refine ⟨b, off, rfl, hb, fun i hi => ?_⟩
    obtain ⟨x, hx⟩ := hc i hi
    refine ⟨x, ?_⟩
    show (w.setCell ⟨g, 1, none⟩ (.int .i64 ((k : Int) + 1))).cell? _ = _
    rw [World.cell?_setCell_other _ _ _ _ (by intro e; injection e; omega)]
    exact hx

def PickPost (w : World) (g k m : Nat) (e : Ending) (w' : World) : Prop :=
  ∃ r q : Nat, (r < m ∨ m = 0 ∧ r = 0) ∧ e = .returned (.int .i64 (r : Int)) ∧ w' = (w.setCell ⟨g, 1, none⟩ (.int .i64 ((k : Int) + 1))).drewN q

set_option maxHeartbeats 1000000 in
theorem pick_any (g k m : Nat) (w : World) (hr : Rd w g k) (hk : k ≤ 1000000) (hm : m ≤ 2147483647) :
    Calls Tryd.prog 35 #[.pointer (some ⟨g, 0, none⟩), .int .i64 (m : Int)] w (PickPost w g k m) := by
  obtain ⟨A, n, c, hh, hn, hrd⟩ := hr
  have c0 : w.cell? ⟨g, 0, none⟩ = some (.slice A n c) := cell_of_row w g 0 _ _ _ hh
  have c1 : w.cell? ⟨g, 1, none⟩ = some (.int .i64 (k : Int)) := cell_of_row w g 1 _ _ _ hh
  have f1 : w.frozen? ⟨g, 1, none⟩ = false := by simp [World.frozen?, hh]
  clear hh
  by_cases hz : m < 1
  · go_enter Tryd.func35, Tryd.ntmps35
    go_wp2
    go_ret
    exact ⟨0, 0, by omega, rfl, rfl⟩
  by_cases hn0 : n = 0
  · subst hn0
    go_enter Tryd.func35, Tryd.ntmps35
    go_wp2
    all_goals go_ret
    all_goals exact ⟨0, 0, by omega, rfl, rfl⟩
  obtain ⟨b, off, rfl, hb, hc⟩ := hrd.resolve_left hn0
  have hz0 : ((n : Int) == 0) = false := by simpa using hn0
  by_cases hkn : k < n
  · obtain ⟨x, hx⟩ := hc k hkn
    have hxb := x.toNat_lt
    have hx' : (w.setCell ⟨g, 1, none⟩ (.int .i64 ((k : Int) + 1))).cell? ⟨b, off + k, none⟩ = some (.int .u8 (x.toNat : Int)) := by
      rw [World.cell?_setCell_other _ _ _ _ (by intro e; injection e; omega)]; exact hx
    clear hx hc hrd
    go_enter Tryd.func35, Tryd.ntmps35
    go_wp2
    go_ret
    exact ⟨x.toNat % m, 0, Or.inl (Nat.mod_lt _ (by omega)), ret_int (by omega), rfl⟩
  · obtain ⟨i1, HI1⟩ : ∃ i, Hid (i = k % n) := ⟨_, Lib.hid rfl⟩
    obtain ⟨i2, HI2⟩ : ∃ i, Hid (i = (k * 7 + 3) % n) := ⟨_, Lib.hid rfl⟩
    have hi1 : i1 < n := by rw [HI1.out]; exact Nat.mod_lt _ (by omega)
    have hi2 : i2 < n := by rw [HI2.out]; exact Nat.mod_lt _ (by omega)
    obtain ⟨x, hx⟩ := hc i1 hi1
    obtain ⟨y, hy⟩ := hc i2 hi2
    have hxb := x.toNat_lt
    have hyb := y.toNat_lt
    have hx' : (w.setCell ⟨g, 1, none⟩ (.int .i64 ((k : Int) + 1))).cell? ⟨b, off + i1, none⟩ = some (.int .u8 (x.toNat : Int)) := by
      rw [World.cell?_setCell_other _ _ _ _ (by intro e; injection e; omega)]; exact hx
    have hy' : (w.setCell ⟨g, 1, none⟩ (.int .i64 ((k : Int) + 1))).cell? ⟨b, off + i2, none⟩ = some (.int .u8 (y.toNat : Int)) := by
      rw [World.cell?_setCell_other _ _ _ _ (by intro e; injection e; omega)]; exact hy
    clear hx hy hc hrd
    have e1 : (k : Int).tmod (n : Int) = (i1 : Int) := by rw [HI1.out]; rfl
    have e2 : IntKind.i64.wrap (i1 : Int) = (i1 : Int) := IntWalk.i64_in _ (by omega)
    have e3 : IntKind.i64.wrap ((k : Int) * 7) = (k : Int) * 7 := IntWalk.i64_in _ (by omega)
    have e4 : IntKind.i64.wrap ((k : Int) * 7 + 3) = (k : Int) * 7 + 3 := IntWalk.i64_in _ (by omega)
    have e5 : ((k : Int) * 7 + 3).tmod (n : Int) = (i2 : Int) := by rw [HI2.out]; rfl
    have e6 : IntKind.i64.wrap (i2 : Int) = (i2 : Int) := IntWalk.i64_in _ (by omega)
    have e7 : (i1 : Int) < (n : Int) := by omega
    have e8 : (i2 : Int) < (n : Int) := by omega
    go_enter Tryd.func35, Tryd.ntmps35
    go_wp2_with fail
    go_quiet (fail)
    go_wp2
    go_ret
    obtain ⟨r, hr1, hr2⟩ := pick_val x y k n m hk (by omega)
    exact ⟨r, nq, Or.inl hr1, ret_int hr2, rfl⟩
end Go.Proofs.YtfacbjldpenpjaaDoor

/-
  Drawn texts: 'of' hands back one of its list; a drawn text is short; the reader alone is turned, and new blocks are laid.
-/
namespace Go.Proofs.YtfacbjldpenpjaaDoor
open Go.ChangeShapes Go.WideShapes Go.ChangeAt Go.RowKit Go.Proofs.Palim

/-- A reader stands as it was where its own block and its code's are as they were. -/
theorem Rd.kept {w w' : World} {g k : Nat} (h : Rd w g k) (hb : ∀ b, b ≤ g → w'.heap[b]? = w.heap[b]?) : Rd w' g k := by
  obtain ⟨A, n, c, h, hn, hr⟩ := h
  refine ⟨A, n, c, by rw [hb g (Nat.le_refl _)]; exact h, hn, hr.imp id ?_⟩
  rintro ⟨b, off, rfl, hlt, hc⟩
  refine ⟨b, off, rfl, hlt, fun i hi => ?_⟩
  obtain ⟨x, hx⟩ := hc i hi
  exact ⟨x, (World.cell?_of_block (hb b (by omega))).trans hx⟩
theorem Rd.alloc {w : World} {g k : Nat} (h : Rd w g k) (o : Obj) : Rd (w.alloc o) g k :=
  h.kept fun b hb => Below.heap_alloc w o b (by have := h.lt; omega)
theorem grown_pick {w0 w : World} {g : Nat} (h : w0.grownBy w (some g)) (v : Value) (q : Nat) : w0.grownBy ((w.setCell ⟨g, 1, none⟩ v).drewN q) (some g) :=
  ⟨h.os, h.tape, h.output, by simpa [World.setCell] using h.size, fun i hi hne => by
    have e : ((w.setCell ⟨g, 1, none⟩ v).drewN q).heap[i]? = (w.setCell ⟨g, 1, none⟩ v).heap[i]? := rfl
    rw [e, Below.heap_setCell w _ v i (fun e => hne (by rw [e]))]
    exact h.block i hi hne⟩
theorem grown_alloc {w0 w : World} {g : Nat} (h : w0.grownBy w (some g)) (o : Obj) : w0.grownBy (w.alloc o) (some g) :=
  ⟨h.os, h.tape, h.output, Nat.le_trans h.size (by simp), fun i hi hne => (Below.heap_alloc w o i (Nat.lt_of_lt_of_le hi h.size)).trans (h.block i hi hne)⟩

def OfPost (w : World) (g k : Nat) (ss : List ByteArray) (e : Ending) (w' : World) : Prop :=
  ∃ s q, s ∈ ss ∧ e = .returned (.string s) ∧ w' = (w.setCell ⟨g, 1, none⟩ (.int .i64 ((k : Int) + 1))).drewN q

set_option maxHeartbeats 400000 in
theorem of_any (g k h L : Nat) (ss : List ByteArray) (t : TypeId) (fr : Nat × Nat) (w : World) (hr : Rd w g k) (hk : k ≤ 1000000) (hh : w.heap[h]? = some (.cells (scs ss).toArray t fr)) (hgh : h ≠ g) (hL : ss.length = L) (hs0 : 0 < L) (hs1 : L ≤ 1000) :
    Calls Tryd.prog 76 #[.pointer (some ⟨g, 0, none⟩), .slice (some ⟨h, 0, none⟩) L L] w (OfPost w g k ss) := by
  have HR := Lib.hid hr
  have HH := Lib.hid hh
  have HL := Lib.hid hL
  clear hr hh hL
  go_enter Tryd.func76, Tryd.ntmps76
  go_wp2_with fail
  refine (pick_any g k L w HR.out hk (by omega)).mono ?_
  rintro e w1 ⟨r, q, hr, rfl, rfl⟩
  have hr1 : r < ss.length := by have := HL.out; omega
  have hr2 : (r : Int) < (L : Int) := by omega
  have hc : (w.setCell ⟨g, 1, none⟩ (.int .i64 ((k : Int) + 1))).cell? ⟨h, r, none⟩ = some (.string ss[r]) := by
    rw [World.cell?_setCell_other _ _ _ _ (by intro e; injection e; omega), cell_of_row w h r _ _ _ HH.out]
    simp [scs, hr1]
  clear hr
  go_wp2
  go_ret
  exact ⟨ss[r], q, List.getElem_mem _, rfl, rfl⟩

/-- What a drawn text is made of. -/
def textBits : List ByteArray := [⟨#[97]⟩, ⟨#[98]⟩, ⟨#[32]⟩, ⟨#[58]⟩, ⟨#[10]⟩, ⟨#[49, 50]⟩, ⟨#[255]⟩, ⟨#[0]⟩, ⟨#[120, 121, 122]⟩]
theorem textBits_size : ∀ s ∈ textBits, s.size ≤ 3 := by decide

def TextPost (w : World) (g k : Nat) (e : Ending) (w' : World) : Prop :=
  ∃ (t : ByteArray) (k' : Nat), t.size ≤ 18 ∧ k' ≤ k + 7 ∧ e = .returned (.string t) ∧ w.grownBy w' (some g) ∧ Rd w' g k'

set_option maxHeartbeats 400000 in
theorem l1Text_any (g k : Nat) (w : World) (hr : Rd w g k) (hk : k ≤ 900000) :
    Calls Tryd.prog 36 #[.pointer (some ⟨g, 0, none⟩)] w (TextPost w g k) := by
  have HR := Lib.hid hr
  clear hr
  go_enter Tryd.func36, Tryd.ntmps36
  go_wp2_with fail
  refine (pick_any g k 7 w HR.out (by omega) (by omega)).mono ?_
  rintro e w1 ⟨r, q, hr, rfl, rfl⟩
  have HR1 := Lib.hid (HR.out.next q)
  have HG := Lib.hid (grown_pick (World.grownBy.refl w (some g)) (.int .i64 ((k : Int) + 1)) q)
  have hr7 : r < 7 := by omega
  clear hr
  go_wp2_with fail
  go_loopw [3, 4] (fun v i wr => ∃ (j kk : Nat) (t : ByteArray), j ≤ 6 ∧ i = .int .i64 (j : Int) ∧ v = .string t ∧ t.size + 3 * j ≤ 18 ∧ kk + j ≤ k + 7 ∧ Hid (Rd wr g kk) ∧ Hid (w.grownBy wr (some g))) (fun _ i _ => (intOf i).toNat)
  case atStart => exact ⟨r, k + 1, ⟨#[]⟩, by omega, rfl, rfl, by show 0 + 3 * r ≤ 18; omega, by omega, HR1, HG⟩
  case round =>
    obtain ⟨j, kk, t, hj, rfl, rfl, ht, hkk, HRr, HGr⟩ := hrel
    by_cases hlt : 0 < j
    · go_wp2_with fail
      refine (of_any g kk wr.heap.size 9 textBits 9 (0, 0) _ (HRr.out.alloc _) (by omega) (heap_alloc_new wr _) (by have := HRr.out.lt; omega) rfl (by omega) (by omega)).mono ?_
      rintro e w2 ⟨s, q2, hs, rfl, rfl⟩
      have hs3 := textBits_size s hs
      have HR2 := Lib.hid ((HRr.out.alloc (.cells (scs textBits).toArray 9)).next q2)
      have HG2 := Lib.hid (grown_pick (grown_alloc HGr.out (.cells (scs textBits).toArray 9)) (.int .i64 ((kk : Int) + 1)) q2)
      clear hs
      have hsz : (t ++ s).size = t.size + s.size := ByteArray.size_append
      have HSZ := Lib.hid hsz
      clear hsz
      go_wp2
      go_roundw
      case rel => exact ⟨j - 1, kk + 1, t ++ s, by omega, by go_num, rfl, by have := HSZ.out; omega, by omega, HR2, HG2⟩
      case measure => simp [intOf]; omega
    · go_wp2
      go_ret
      exact ⟨t, kk, by omega, by omega, rfl, HGr.out, HRr.out⟩
end Go.Proofs.YtfacbjldpenpjaaDoor

/-
  The laws' own helpers on lists of numbers: copied, compared and marked; and such a list that came in as an argument.
-/
set_option maxRecDepth 100000
namespace Go.Proofs.YtfacbjldpenpjaaDoor
open Go.ChangeShapes Go.WideShapes Go.ChangeAt Go.RowKit Go.Proofs.Palim Go.Deep

/-- The cells of a list of numbers. -/
def ics (zs : List Int) : List Value := zs.map (Value.int .i64)
theorem ics_length (zs : List Int) : (ics zs).length = zs.length := by simp [ics]
theorem ics_at (zs : List Int) (k : Nat) (h : k < zs.length) : (ics zs)[k]? = some (.int .i64 zs[k]) := by simp [ics, h]
theorem ics_snoc (a : List Int) (z : Int) : ics (a ++ [z]) = ics a ++ [.int .i64 z] := by simp [ics]
theorem infoInt : (Tryd.prog.info? 3).map (fun i => (i.zero, i.size, i.bytes)) = some (some (.int .i64 0), 1, 8) := by kernel_rfl

/-- A new list of numbers of the call's own. -/
def NewInts (w : World) (ss : List Int) (e : Ending) (w' : World) : Prop :=
  ∃ v, e = .returned v ∧ w'.ownsRow w.heap.size 3 1 v ss.length (ics ss) ∧ Below w.heap.size w w'

/-- Marked: the slice is the call's own still, and nothing else that was there has turned. -/
def MarkedI (k : Nat) (v : Value) (base n : Nat) (w : World) (e : Ending) (w' : World) : Prop :=
  e = .returned (.int .i64 ((k + n : Nat) : Int)) ∧ (∃ zs : List Int, zs.length = n ∧ w'.ownsRow base 3 1 v n (ics zs)) ∧ Turned (fun b => v.ownBlock = some b) w w'
def imarks (k n : Nat) : List Int := (List.range n).map fun i => ((k + i : Nat) : Int)
theorem imarks_length (k n : Nat) : (imarks k n).length = n := by simp [imarks]
theorem imarks_succ (k n : Nat) : imarks k (n + 1) = imarks k n ++ [((k + n : Nat) : Int)] := by simp [imarks, List.range_succ]

section
variable {H : Type} {enc : TypeId × Value → H} {W : World}
/-- A list of numbers that came in. -/
theorem ints_of {base fuel : Nat} {v : Value} {x : DataW H × List MemPlace} (ho : Cell.okWide Tryd.prog W .any base 88 v) (h : DataW.trod enc Tryd.prog W 0 (fun _ => true) true fuel 88 [v] = some x) :
    ∃ zs : List Int, Sl W 1 v zs.length (ics zs) := by
  rcases open_slice Tryd.underlying88 h with ⟨hcs, _⟩ | ⟨a, len, cap, m, n, D, Pl, hcs, _, hl, hm, hmm, _, hx⟩
  · obtain rfl : v = .slice none 0 0 := by simpa using hcs
    exact ⟨[], ⟨rfl, none, 0, rfl, Nat.le_refl _, Nat.zero_le _, Or.inl rfl⟩⟩
  · obtain rfl : v = .slice (some a) len cap := by simpa using hcs
    simp only [if_true] at hmm
    subst hmm
    have hsp : a.spot = none := by
      simp only [Cell.okWide, Tryd.underlying88, Cell.ok] at ho
      exact ho.2.2.2.1
    obtain ⟨b, off, sp⟩ := a
    simp at hsp
    subst hsp
    rw [cells3] at hx
    obtain ⟨L, hL⟩ := choose_lt (α := Int) (p := fun i z => W.cell? ⟨b, off + i, none⟩ = some (.int .i64 z)) (n := len) (fun i hi => by
      obtain ⟨cs', h1, h2⟩ := hx i (by omega)
      obtain ⟨z, hz, _, _⟩ := DataW.trod_int Tryd.underlying3 h2
      refine ⟨z, ?_⟩
      rw [add_none] at h1
      obtain ⟨_, _, hc⟩ := World.cells?_some h1
      have h0 := hc 0 (by omega)
      rw [add_none] at h0
      simp only [Nat.mul_one, Nat.add_zero] at h0
      rw [h0, hz]
      rfl)
    refine ⟨(List.range len).map L, ⟨by simp [ics], some ⟨b, off, none⟩, m, by simp, by simpa using hl, hm, Or.inr ⟨b, off, rfl, fun j u hu => ?_⟩⟩⟩
    have hj : j < len := by
      have := (List.getElem?_eq_some_iff.1 hu).1
      simpa [ics] using this
    rw [hL j hj]
    simpa [ics, hj] using hu
end
end Go.Proofs.YtfacbjldpenpjaaDoor

/-
  Drawn numbers, fates and long texts, and the reader opened: the reader alone is turned, and new blocks are laid.
-/
set_option maxRecDepth 100000
namespace Go.Proofs.YtfacbjldpenpjaaDoor
open Go.ChangeShapes Go.WideShapes Go.ChangeAt Go.RowKit Go.Proofs.Palim

/-- A code that came in: its bytes lie in a block that is there. -/
def Code (w : World) (A : Option Addr) (n c : Nat) : Prop := n ≤ c ∧ n ≤ maxLen ∧ c ≤ maxLen ∧
  (n = 0 ∨ ∃ b off, A = some ⟨b, off, none⟩ ∧ b < w.heap.size ∧ ∀ i, i < n → ∃ x : UInt8, w.cell? ⟨b, off + i, none⟩ = some (.int .u8 (x.toNat : Int)))
theorem Code.below {w w' : World} {A : Option Addr} {n c : Nat} (h : Code w A n c) (hb : Below w.heap.size w w') : Code w' A n c := by
  obtain ⟨h1, h2, h3, h4⟩ := h
  refine ⟨h1, h2, h3, h4.imp id ?_⟩
  rintro ⟨b, off, rfl, hlt, hc⟩
  refine ⟨b, off, rfl, Nat.lt_of_lt_of_le hlt hb.size, fun i hi => ?_⟩
  obtain ⟨x, hx⟩ := hc i hi
  exact ⟨x, (hb.cell hlt).trans hx⟩

def OpenedPost (w : World) (e : Ending) (w' : World) : Prop :=
  e = .returned (.pointer (some ⟨w.heap.size, 0, none⟩)) ∧ Below w.heap.size w w' ∧ Rd w' w.heap.size 0

theorem opened {w : World} {A : Option Addr} {n c : Nat} (hn : n ≤ 2000) (h : n = 0 ∨ ∃ b off, A = some ⟨b, off, none⟩ ∧ b < w.heap.size ∧ ∀ i, i < n → ∃ x : UInt8, w.cell? ⟨b, off + i, none⟩ = some (.int .u8 (x.toNat : Int))) :
    Rd (w.alloc (.cells #[.slice A n c, .int .i64 0] 114)) w.heap.size 0 := by
  refine ⟨A, n, c, heap_alloc_new w _, hn, h.imp id ?_⟩
  rintro ⟨b, off, rfl, hlt, hc⟩
  refine ⟨b, off, rfl, hlt, fun i hi => ?_⟩
  obtain ⟨x, hx⟩ := hc i hi
  exact ⟨x, (World.cell?_alloc_lt w _ _ hlt).trans hx⟩

set_option maxHeartbeats 400000 in
theorem l19Open_any (A : Option Addr) (n c : Nat) (w : World) (h : Code w A n c) :
    Calls Tryd.prog 33 #[.slice A n c] w (OpenedPost w) := by
  obtain ⟨h1, h2, h3, h4⟩ := h
  have H4 := Lib.hid h4
  clear h4
  unfold maxLen at h2 h3
  by_cases hl : 2000 < n
  · go_enter Tryd.func33, Tryd.ntmps33
    go_wp2
    all_goals go_ret
    all_goals refine ⟨rfl, (Below.refl _ _).alloc (Nat.le_refl _) _, opened (by omega) ?_⟩
    all_goals
      right
      obtain ⟨b, off, rfl, hlt, hc⟩ := H4.out.resolve_left (by omega)
      exact ⟨b, off, rfl, hlt, fun i hi => hc i (by omega)⟩
  · go_enter Tryd.func33, Tryd.ntmps33
    go_wp2
    all_goals go_ret
    all_goals exact ⟨rfl, (Below.refl _ _).alloc (Nat.le_refl _) _, opened (by omega) H4.out⟩

theorem below_dr {B : Nat} {a w : World} (h : Below B a w) (n : Nat) : Below B a (w.drewN n) := ⟨h.os, h.tape, h.output, h.size, h.block⟩
theorem below_of_reader {w w1 w2 : World} (hb : Below w.heap.size w w1) (hg : w1.grownBy w2 (some w.heap.size)) : Below w.heap.size w w2 :=
  hb.grown hg hb.size (fun k h => by injection h; omega)

def NumPost (w : World) (g k : Nat) (zs : List Int) (e : Ending) (w' : World) : Prop :=
  ∃ z q, z ∈ zs ∧ e = .returned (.int .i64 z) ∧ w' = (w.setCell ⟨g, 1, none⟩ (.int .i64 ((k : Int) + 1))).drewN q

def ManyPost (w : World) (n : Nat) (e : Ending) (w' : World) : Prop := ∃ t : ByteArray, t.size ≤ n ∧ e = .returned (.string t) ∧ Below w.heap.size w w'

def FatePost (w : World) (g k : Nat) (e : Ending) (w' : World) : Prop :=
  ∃ (fs : List Int) (v : Value) (k' : Nat), fs.length ≤ 15 ∧ k' ≤ k + 16 ∧ e = .returned v ∧ w'.ownsRow w.heap.size 3 1 v fs.length (ics fs) ∧ w.grownBy w' (some g) ∧ Rd w' g k'

end Go.Proofs.YtfacbjldpenpjaaDoor

/-
  impl's diskFates: the iterator hands out each late write with what becomes of it, in their order, to whatever loop body keeps their memory.
-/
set_option maxRecDepth 100000
namespace Go.Proofs.YtfacbjldpenpjaaDoor
open Go.ChangeShapes Go.WideShapes Go.ChangeAt Go.RowKit Go.Proofs.Palim Go.Shelf

attribute [local go_sem] Oper.semAt_some

def encFate (x : LateM × Int) : Array Value := #[.agg #[.int .i64 x.1.side, .int .i64 x.1.at_, .string x.1.text], .int .i64 x.2]

set_option maxHeartbeats 2000000 in
theorem fates1_in (n : Nat) (hn : 1 ≤ n) (l Bs Bf N : Nat) (S : Nat → Prop) (v vf : Value) (ls : List LateM) (fs : List Int) {Pr : LateM × Int → Prop} (zs : List { x : LateM × Int // Pr x }) (hz : zs.map (·.1) = pairs ls fs) (J Jx : List { x : LateM × Int // Pr x } → World → Prop)
    (hJa : ∀ s W o, J s W → J s (W.alloc o))
    (hY : ∀ pre x W, J pre W → pre.length < ls.length → YieldAt Fence.wide (n - 1) Tryd.prog l (encFate x.1) W fun e W' =>
      (e = .returned (.bool true) ∧ J (pre ++ [x]) W' ∧ KeepB N S W W') ∨ (e = .returned (.bool false) ∧ Jx (pre ++ [x]) W'))
    (W : World) (hBs : W.cell? ⟨Bs, 0, none⟩ = some v) (hsl : Sl W 3 v ls.length (lcs ls)) (hlen : ls.length ≤ 1048576) (hN : Bs < N) (hS : ¬ S Bs) (hvN : ∀ b, v.ownBlock = some b → b < N ∧ ¬ S b)
    (hBf : W.cell? ⟨Bf, 0, none⟩ = some vf) (hfl : Sl W 1 vf fs.length (ics fs)) (hflen : fs.length ≤ 1048576) (hfN : Bf < N) (hfS : ¬ S Bf) (hvf : ∀ b, vf.ownBlock = some b → b < N ∧ ¬ S b) (hNW : N ≤ W.heap.size) (h0 : J [] W) :
    CallsIn Fence.wide n Tryd.prog 86 #[.func (.yield l) #[] #[], .pointer (some ⟨Bs, 0, none⟩), .pointer (some ⟨Bf, 0, none⟩)] W fun e W' => (∃ v, e = .returned v) ∧
      ((∃ ys, ys = zs ∧ J ys W') ∨ (∃ pre, pre <+: zs ∧ Jx pre W')) := by
  have hzl : zs.length = ls.length := by have h := congrArg List.length hz; rwa [List.length_map, pairs_len] at h
  have HZ := Lib.hid hz
  have HZL := Lib.hid hzl
  clear hz hzl
  have hsl0 := hsl
  obtain ⟨_, A, c, rfl, _⟩ := hsl0
  have hfl0 := hfl
  obtain ⟨_, Af, cf, rfl, _⟩ := hfl0
  obtain ⟨nl, HL⟩ : ∃ n, Hid (ls.length = n) := ⟨_, Lib.hid rfl⟩
  obtain ⟨nf, HF⟩ : ∃ n, Hid (fs.length = n) := ⟨_, Lib.hid rfl⟩
  have HSL := Lib.hid hsl
  have HFL := Lib.hid hfl
  have HY := Lib.hid hY
  have HB := Lib.hid hBs
  have HBF := Lib.hid hBf
  have HJA := Lib.hid hJa
  rw [HL.out] at hBs hvN hlen HSL HB
  rw [HF.out] at hBf hvf hflen HFL HBF
  have HV := Lib.hid hvN
  have HVF := Lib.hid hvf
  clear hsl hY hvN hfl hvf hJa
  refine callsIn_of_wp Tryd.func86 rfl trivial ?_ rfl
  simp only [Tryd.ntmps86, List.size_toArray, List.length_cons, List.length_nil, Nat.reduceAdd, Nat.reduceSub, Array.replicate_succ, Array.replicate_zero, List.push_toArray, List.append_toArray, List.nil_append, List.cons_append]
  gi_wp2
  gi_loopw [9] (fun i wr => ∃ k : Nat, k ≤ nl ∧ i = .int .i64 (k : Int) ∧ Hid (J (zs.take k) wr) ∧ Hid (KeepB N S W wr)) (fun i _ => nl - (intOf i).toNat)
  case atStart => exact ⟨0, Nat.zero_le _, rfl, Lib.hid h0, Lib.hid (KeepB.refl _ _ _)⟩
  case round =>
    obtain ⟨k, hk, rfl, HJ, HK⟩ := hrel
    have hc : wr.cell? ⟨Bs, 0, none⟩ = some (.slice A nl c) := (World.cell?_of_block (a := ⟨Bs, 0, none⟩) (HK.out.block Bs hN hS)).trans HB.out
    have hcf : wr.cell? ⟨Bf, 0, none⟩ = some (.slice Af nf cf) := (World.cell?_of_block (a := ⟨Bf, 0, none⟩) (HK.out.block Bf hfN hfS)).trans HBF.out
    have hwN : N ≤ wr.heap.size := Nat.le_trans hNW HK.out.size
    have hBsl : Bs < wr.heap.size := by omega
    have hBfl : Bf < wr.heap.size := by omega
    by_cases hlt : k < nl
    · have hml : k < ls.length := by rw [HL.out]; omega
      obtain ⟨b, off, c', ef, hnc, hcm, hcell⟩ := HSL.out.form (by omega)
      injection ef with e1 e2 e3
      subst e1 e3
      unfold maxLen at hcm
      have hb := HV.out b rfl
      have hrd := late_read (fun j u hu => (World.cell?_of_block (a := ⟨b, off + j, none⟩) (HK.out.block b hb.1 hb.2)).trans (hcell j u hu)) k hml
      have hpk : k < zs.length := by rw [HZL.out]; exact hml
      have HP := Lib.hid (show zs.take (k + 1) = zs.take k ++ [zs[k]] from List.take_succ_eq_append_getElem hpk)
      have HPL := Lib.hid (show (zs.take k).length < ls.length from by rw [List.length_take]; omega)
      have hzk : zs[k].1 = (ls[k], fs.getD k 0) := by
        have h1 : (zs.map (·.1))[k]? = some zs[k].1 := by simp [hpk]
        have h2 : (pairs ls fs)[k]? = some (ls[k], fs.getD k 0) := by rw [List.getElem?_eq_getElem (by rw [pairs_len]; exact hml), pairs_at ls fs k _ hml]
        rw [HZ.out, h2] at h1
        exact (Option.some.inj h1).symm
      generalize ls[k] = x at hrd hzk
      obtain ⟨p1, p2, p3⟩ := hrd
      have HJ1 := Lib.hid (HJA.out _ _ (.cells #[.int .i64 x.side, .int .i64 x.at_, .string x.text] 79) HJ.out)
      have HK1 := Lib.hid (HK.out.trans (KeepB.of_below (S := S) (Below.new (w := wr) (.cells #[.int .i64 x.side, .int .i64 x.at_, .string x.text] 79)) hwN))
      obtain ⟨fn, tmps, assign, body, hy, hR⟩ := HY.out _ zs[k] _ HJ1.out HPL.out
      rw [← HP.out] at hR
      rw [hzk] at hy
      clear hzk
      have HR := Lib.hid hR
      have hk1 : (k : Int) < (nl : Int) := by omega
      simp only [encFate] at hy
      clear hR hcell e2 HP hml hpk HPL
      by_cases hkf : k < nf
      · have hlf : k < fs.length := by rw [HF.out]; exact hkf
        obtain ⟨bf, of, cf', ef', hcf1, hmf, hcellf⟩ := HFL.out.form (by omega)
        injection ef' with ef1 ef2 ef3
        subst ef1 ef3
        unfold maxLen at hmf
        have hbf := HVF.out bf rfl
        have hfd := (World.cell?_of_block (a := ⟨bf, of + k, none⟩) (HK.out.block bf hbf.1 hbf.2)).trans (hcellf k _ (ics_at fs k hlf))
        have hbfl : bf < wr.heap.size := by omega
        rw [show fs.getD k 0 = fs[k] from by simp [List.getD, List.getElem?_eq_getElem hlf]] at hy
        generalize fs[k] = f at hfd hy
        have hkf1 : (k : Int) < (nf : Int) := by omega
        clear hcellf ef2
        gi_wp2
        refine HR.out.mono ?_
        rintro e W3 (⟨rfl, hJ3, hk3⟩ | ⟨rfl, hJx3⟩)
        · have HJ3 := Lib.hid hJ3
          have HK3 := Lib.hid (HK1.out.trans hk3)
          clear hJ3 hk3 HR hy HJ HK p1 p2 p3 hc hcf hfd HJ1 HK1
          gi_wp2
          go_roundw
          case rel => exact ⟨k + 1, by omega, by go_num, HJ3, HK3⟩
          case measure => simp [intOf]; omega
        · have HJ3 := Lib.hid hJx3
          clear hJx3 HR hy HJ HK p1 p2 p3 hc hcf hfd HJ1 HK1
          gi_wp2
          refine bodyPost_ret (results_none rfl _ _ _) rfl ?_
          exact ⟨⟨_, rfl⟩, .inr ⟨_, List.take_prefix _ _, HJ3.out⟩⟩
      · have hlf : fs.length ≤ k := by rw [HF.out]; omega
        rw [show fs.getD k 0 = 0 from by simp [List.getD, List.getElem?_eq_none hlf]] at hy
        have hkf1 : ¬ (k : Int) < (nf : Int) := by omega
        gi_wp2
        refine HR.out.mono ?_
        rintro e W3 (⟨rfl, hJ3, hk3⟩ | ⟨rfl, hJx3⟩)
        · have HJ3 := Lib.hid hJ3
          have HK3 := Lib.hid (HK1.out.trans hk3)
          clear hJ3 hk3 HR hy HJ HK p1 p2 p3 hc hcf HJ1 HK1
          gi_wp2
          go_roundw
          case rel => exact ⟨k + 1, by omega, by go_num, HJ3, HK3⟩
          case measure => simp [intOf]; omega
        · have HJ3 := Lib.hid hJx3
          clear hJx3 HR hy HJ HK p1 p2 p3 hc hcf HJ1 HK1
          gi_wp2
          refine bodyPost_ret (results_none rfl _ _ _) rfl ?_
          exact ⟨⟨_, rfl⟩, .inr ⟨_, List.take_prefix _ _, HJ3.out⟩⟩
    · have HE := Lib.hid (show zs.take k = zs from List.take_of_length_le (by rw [HZL.out, HL.out]; omega))
      gi_wp2
      go_end0
      exact ⟨⟨_, rfl⟩, .inl ⟨_, rfl, by have h := HJ.out; rw [HE.out] at h; exact h⟩⟩

set_option maxHeartbeats 400000 in
theorem fates_in (n : Nat) (A Af : Option Addr) (m c mf cf : Nat) (w : World) :
    CallsIn Fence.wide n Tryd.prog 51 #[.slice A m c, .slice Af mf cf] w fun e w' => e = .returned (.func (.func 86) #[] #[.pointer (some ⟨w.heap.size, 0, none⟩), .pointer (some ⟨w.heap.size + 1, 0, none⟩)]) ∧ w' = (w.alloc (.cells #[.slice A m c] 25)).alloc (.cells #[.slice Af mf cf] 88) := by
  refine callsIn_of_wp Tryd.func51 rfl trivial ?_ rfl
  simp only [Tryd.ntmps51, List.size_toArray, List.length_cons, List.length_nil, Nat.reduceAdd, Nat.reduceSub, Array.replicate_succ, Array.replicate_zero, List.push_toArray, List.append_toArray, List.nil_append, List.cons_append]
  gi_wp2
  go_ret
  exact ⟨rfl, rfl⟩

theorem fates_stops (n : Nat) (hn : 1 ≤ n) (Bs Bf N : Nat) (S : Nat → Prop) (v vf : Value) (ls : List LateM) (fs : List Int) {Pr : LateM × Int → Prop} (zs : List { x : LateM × Int // Pr x }) (hz : zs.map (·.1) = pairs ls fs) (w : World) (hc : w.cell? ⟨Bs, 0, none⟩ = some v) (hBs : Bs < w.heap.size) (hsl : Sl w 3 v ls.length (lcs ls)) (hlow : Low w.heap.size v) (hlen : ls.length ≤ 1048576)
    (hN : Bs < N) (hS : ¬ S Bs) (hvN : ∀ b, v.ownBlock = some b → b < N ∧ ¬ S b)
    (hcf : w.cell? ⟨Bf, 0, none⟩ = some vf) (hBf : Bf < w.heap.size) (hfl : Sl w 1 vf fs.length (ics fs)) (hflow : Low w.heap.size vf) (hflen : fs.length ≤ 1048576) (hfN : Bf < N) (hfS : ¬ S Bf) (hvf : ∀ b, vf.ownBlock = some b → b < N ∧ ¬ S b) (hNw : N ≤ w.heap.size) :
    SeqStopsK Fence.wide n Tryd.prog 86 #[.pointer (some ⟨Bs, 0, none⟩), .pointer (some ⟨Bf, 0, none⟩)] (fun x : { x : LateM × Int // Pr x } => encFate x.1) (KeepB N S) (fun ys => ys = zs) (fun pre => pre <+: zs) ls.length w := fun l J Jx W hW hJ _ hY h0 =>
  fates1_in n hn l Bs Bf N S v vf ls fs zs hz J Jx (fun s X o hs => hJ s X _ none hs (World.grownBy_alloc X o none) (fun r e => by cases e)) hY W ((hW.cell (p := ⟨Bs, 0, none⟩) hBs).trans hc) (hsl.below hW hlow) hlen hN hS hvN ((hW.cell (p := ⟨Bf, 0, none⟩) hBf).trans hcf) (hfl.below hW hflow) hflen hfN hfS hvf (Nat.le_trans hNw hW.size) h0
end Go.Proofs.YtfacbjldpenpjaaDoor

/-
  A region that draws its order, within a round of a range over a function: walked as outside of one.
-/
namespace Go.Proofs.Palim
open Go

section
variable {P : Program} {ops : Array Oper} {Q : Exit → Act → World → Prop} {l n : Nat}

theorem upon_round {o : Oper} {a : Act} {K K' : Act → World → Prop} (hK : ∀ a w, K a w → K' a w) : ∀ r : Result Next, o.upon P a K Q r → o.uponIn (Fence.wide.inRound l) n P a K' Q r
  | .ok (.value _) _, h => hK _ _ h
  | .ok .skip _, h => hK _ _ h
  | .ok (.defer _) _, h => hK _ _ h
  | .ok (.enter f args) w, h => ⟨fun h => (by cases h), CallsIn.inRound l ((callsIn_wide.2 h).mono fun e w' he => by
      cases e with
      | returned v => exact hK _ _ he
      | panicked c => exact he
      | outgrown => exact he)⟩
  | .ok (.row row args) w, h => ⟨fun h => (by cases h), fun c cs _ => by
      obtain ⟨v, w', hr, hs⟩ := h c cs
      exact ⟨v, w', hK _ _ hr, stepsIn_wide.2 hs⟩⟩
  | .halt (.panic _) _, h => h

theorem wpIn_round {o : Oper} {a : Act} {w : World} {K K' : Act → World → Prop} (hK : ∀ a w, K a w → K' a w) (hd : ∀ c, o.op ≠ .defer c) (h : o.wp P a w K Q) : o.wpIn (Fence.wide.inRound l) n P a w K' Q := by
  refine ⟨fun _ _ => trivial, ?_⟩
  show o.uponIn (Fence.wide.inRound l) n P a K' Q ((o.semAt (some l) a.eval).run P w)
  rw [Oper.semAt_some l _ o hd]
  exact upon_round hK _ h

theorem any_round (hQ : ¬ LetsOut Q) (hd : ∀ (i : Nat) (o : Oper), ops[i]? = some o → ∀ c, o.op ≠ .defer c) (md : Region.Mode) : ∀ (fuel : Nat) (listed : Array Bool) (a : Act) (w : World), wpAny P md ops Q fuel listed a w → wpAnyIn (Fence.wide.inRound l) n P md ops Q fuel listed a w
  | 0, _, _, _, h => h
  | fuel + 1, listed, a, w, h => by
    refine ⟨h.1, fun i hi => ?_⟩
    have h2 := h.2 i hi
    unfold wpOp at h2
    unfold wpOpIn
    cases ho : ops[i]? with
    | none =>
      rw [ho] at h2
      exact any_round hQ hd md fuel _ _ _ h2
    | some o =>
      rw [ho] at h2
      simp only at h2 ⊢
      split
      · rename_i hw
        rw [if_pos hw] at h2
        rcases h2 with h2 | h2
        · exact wpIn_round (fun a w hh => any_round hQ hd md fuel _ a w hh) (hd i o ho) h2
        · exact absurd h2.2 hQ
      · rename_i hw
        rw [if_neg hw] at h2
        exact ⟨fun _ _ => trivial, any_round hQ hd md fuel _ _ _ h2⟩

theorem lets_no (hQ : ∀ a w, ¬ Q .outgrown a w) : ¬ LetsOut Q := fun ⟨a, w, h⟩ => hQ a w h

def noDefer (ops : Array Oper) : Bool := ops.toList.all fun o => match o.op with | .defer _ => false | _ => true
theorem noDefer_spec {ops : Array Oper} (h : noDefer ops = true) : ∀ (i : Nat) (o : Oper), ops[i]? = some o → ∀ c, o.op ≠ .defer c := by
  intro i o ho c hc
  unfold noDefer at h
  rw [List.all_eq_true] at h
  have hm : o ∈ ops.toList := by
    rw [Array.getElem?_eq_some_iff] at ho
    obtain ⟨hi, rfl⟩ := ho
    simp
  have := h o hm
  simp [hc] at this

/-- THE STEP: a region within a round, from its walk under S as 'wp_region_held_drew' begins one. -/
theorem region_round {id : Nat} {a : Act} {w : World} {S : World → Prop} (hm : P.follows .mixedOrders = true) (hd : noDefer ops = true) (hQ : ∀ a w, ¬ Q .outgrown a w) (hS : S w.drew)
    (h : S w.drew → wpAnyH P .any ops Q S ops.size (Array.replicate ops.size false) a w.drew) : (Code.region id ops true).wpIn (Fence.wide.inRound l) n P Q a w :=
  wpIn_region_any hm (any_round (lets_no hQ) (noDefer_spec hd) _ _ _ _ _ (wpAny_of_held _ _ _ _ (h hS)))
end
end Go.Proofs.Palim

/-
  impl's DiskFall: a range over diskFates.
-/
set_option maxRecDepth 100000
namespace Go.Proofs.YtfacbjldpenpjaaDoor
open Go.ChangeShapes Go.WideShapes Go.ChangeAt Go.RowKit Go.Proofs.Palim Go.Shelf

attribute [local go_sem] Oper.semAt_some

theorem below_drew' (w : World) : Below w.heap.size w w.drew := (Below.refl _ _).drew
theorem own_grown {w w' : World} {base e sz n : Nat} {v : Value} {xs : List Value} {row : Option Nat} (h : w.ownsRow base e sz v n xs) (hg : w.grownBy w' row) (hr : ∀ r, row = some r → ∃ o : Obj, w.heap[r]? = some o ∧ o.isCells = false) : w'.ownsRow base e sz v n xs :=
  own_kept h fun b eb => hg.block b (h.lt b eb).2 (fun er => by
    obtain ⟨o, ho, hc⟩ := hr b er.symm
    rcases h.2 with ⟨rfl, _⟩ | ⟨g, cap, cur, rfl, _, hgb, _⟩
    · simp [Value.ownBlock] at eb
    · have e2 : g = b := by simpa [Value.ownBlock] using eb
      subst e2
      rw [hgb] at ho
      cases ho
      cases hc)
theorem DiskOwn.grown {w w' : World} {base : Nat} {v0 v1 vl : Value} {d : DiskM} {row : Option Nat} (h : DiskOwn w base v0 v1 vl d) (hg : w.grownBy w' row) (hr : ∀ r, row = some r → ∃ o : Obj, w.heap[r]? = some o ∧ o.isCells = false) : DiskOwn w' base v0 v1 vl d :=
  ⟨own_grown h.o0 hg hr, own_grown h.o1 hg hr, own_grown h.ol hg hr, h.p01, h.p0l, h.p1l⟩
theorem Dr.own_ {β : Type} {B : Nat} {w : World} {x : Nat} {u0 u1 ul : Value} (f : β → DiskM) (hB : w.heap.size ≤ B) : OwnFrom B (fun (s : β) W => Dr w W x u0 u1 ul (f s)) := fun s X Y row h hg hr =>
  ⟨box_own _ _ s X Y row h.xr hg (fun r e => (hr r e).2), box_own _ _ s X Y row h.xo hg (fun r e => (hr r e).2), h.own.grown hg (fun r e => (hr r e).2), h.nx, ownFrom_below (β := β) (Nat.le_refl _) hB s X Y row h.below hg hr, h.hx⟩
theorem KeepsFrom.of_turned {B : Nat} {S : Nat → Prop} {W W' : World} (ht : Turned S W W') (hS : ∀ b, S b → b < B) : KeepsFrom B W W' :=
  ⟨ht.size, fun k o hB hk _ => (ht.block k (Array.getElem?_eq_some_iff.1 hk).1 (fun h => by have := hS k h; omega)).trans hk⟩
theorem keepsFrom_below {B : Nat} {W W' : World} (h : Below W.heap.size W W') : KeepsFrom B W W' :=
  ⟨h.size, fun k o _ hk _ => (h.block k (Array.getElem?_eq_some_iff.1 hk).1).trans hk⟩
theorem attach_val {α : Type} {p : α → Prop} : ∀ (l : List α) (h : ∀ x ∈ l, p x), ∃ zs : List { x : α // p x }, zs.map (·.1) = l
  | [], _ => ⟨[], rfl⟩
  | x :: l, h => by
    obtain ⟨zs, hz⟩ := attach_val l (fun y hy => h y (by simp [hy]))
    exact ⟨⟨x, h x (by simp)⟩ :: zs, by simp [hz]⟩

set_option maxHeartbeats 8000000 in
theorem ImplDiskFall_any (d : DiskM) (fs : List Int) (v0 v1 vl vf : Value) (w : World) (h : DiskR w v0 v1 vl d) (hs : DiskShort d) (hf : Sl w 1 vf fs.length (ics fs)) (hfl : Low w.heap.size vf) (hfn : fs.length ≤ 1048576) :
    Calls Tryd.prog 15 #[.agg #[v0, v1, vl], vf] w (NewDisk w (fallM d fs)) := by
  have hnot : ∀ (x : Bool) (w : World), (Op.unary .not (.bool x)).run Tryd.prog w = .ok (.bool (!x)) w := fun _ _ => rfl
  have hsf := hf
  obtain ⟨_, Af, cf, rfl, _⟩ := hsf
  have HFT := Lib.hid hf
  have HFL := Lib.hid hfl
  clear hf hfl
  obtain ⟨nf, HNF⟩ : ∃ n, Hid (fs.length = n) := ⟨_, Lib.hid rfl⟩
  have HFN := Lib.hid hfn
  rw [HNF.out] at HFL ⊢
  have HFT' := Lib.hid (show Sl w 1 (.slice Af nf cf) fs.length (ics fs) from by have := HFT.out; rwa [HNF.out] at this ⊢)
  clear HFT hfn
  obtain ⟨_, A0, c0, rfl, _⟩ := h.r0
  obtain ⟨_, A1, c1, rfl, _⟩ := h.r1
  obtain ⟨_, Al, cl, rfl, _⟩ := h.rl
  have HD := Lib.hid h
  have HS := Lib.hid hs
  clear h hs
  obtain ⟨hA, hR, hsz, hB⟩ := box2 w #[.slice A0 d.s0.length c0, .slice A1 d.s1.length c1, .slice Al d.late.length cl] #[.slice none 0 0, .slice none 0 0, .slice none 0 0] 27 27
  have RD := Lib.hid (HD.out.below hB)
  have XD := Lib.hid hA
  have XR := Lib.hid hR
  have B0 := Lib.hid hB
  clear hA hR hB
  refine (callsIn_wide (n := 12)).1 ?_
  refine callsIn_of_wp_marks Tryd.func15 rfl trivial ?_ rfl
  simp only [Tryd.ntmps15, List.size_toArray, List.length_cons, List.length_nil, Nat.reduceAdd, Nat.reduceSub, Array.replicate_succ, Array.replicate_zero, List.push_toArray, List.append_toArray, List.nil_append, List.cons_append]
  gi_wp2_with fail
  by_cases hok : DiskOkM d
  · have hok' := Lib.hid (decide_eq_true hok)
    have HK := Lib.hid hok
    have HF := Lib.hid (show fallM d fs = _ from if_pos hok)
    refine ⟨trivial, (callsIn_wide.2 (ImOk_is _ _ _ d _ RD.out HS.out true hok'.out)).mono ?_⟩
    rintro e w1 ⟨rfl, hb⟩
    have RD1 := Lib.hid (RD.out.below hb)
    have XD1 := Lib.hid (XD.out.below hb (by omega))
    have XR1 := Lib.hid (XR.out.below hb (by omega))
    have B1 := Lib.hid (B0.out.trans (hb.mono (by omega)))
    have hs1 : w.heap.size + 2 ≤ w1.heap.size := by have := hb.size; omega
    clear hb RD XD XR B0 hsz hok hok'
    obtain ⟨x0, x1, x2⟩ := XD1.out.three
    gi_wp2_with fail
    refine ⟨trivial, (callsIn_wide.2 (diskCopy_any _ _ _ d _ RD1.out HS.out)).mono ?_⟩
    rintro e w2 ⟨u0, u1, ul, rfl, ho, hb⟩
    obtain ⟨U0, e0, U1, e1, Ul, el, rfl, rfl, rfl⟩ := ho.forms
    have DR := Lib.hid (dr_start 70 XR1.out B1.out hs1 ho hb)
    have hUlow : ∀ b, DTurns (.slice U0 d.s0.length e0) (.slice U1 d.s1.length e1) (.slice Ul d.late.length el) b → b < w2.heap.size := by
      rintro b (e | e | e)
      · exact ho.reads.l0 b e
      · exact ho.reads.l1 b e
      · exact ho.reads.ll b e
    have hUbig : ∀ b, DTurns (.slice U0 d.s0.length e0) (.slice U1 d.s1.length e1) (.slice Ul d.late.length el) b → w.heap.size + 2 ≤ b := by
      rintro b (e | e | e)
      · exact (DR.out.own.o0.lt b e).1
      · exact (DR.out.own.o1.lt b e).1
      · exact (DR.out.own.ol.lt b e).1
    have hn := Below.new (w := w2) (.cells #[.slice U0 d.s0.length e0, .slice U1 d.s1.length e1, .slice Ul d.late.length el] 70)
    have XD2 := Lib.hid ((XD1.out.below hb (by omega)).alloc (.cells #[.slice U0 d.s0.length e0, .slice U1 d.s1.length e1, .slice Ul d.late.length el] 70))
    clear ho hb hn RD1 XD1 XR1 B1 x0 x1 x2
    obtain ⟨x0, x1, x2⟩ := XD2.out.three
    gi_wp2_with fail
    refine ⟨trivial, (fates_in _ Al Af d.late.length cl nf cf _).mono ?_⟩
    rintro e w4 ⟨rfl, rfl⟩
    simp only [World.size_alloc]
    obtain ⟨hX, hY, _, hBB⟩ := box2 (w2.alloc (.cells #[.slice U0 d.s0.length e0, .slice U1 d.s1.length e1, .slice Ul d.late.length el] 70)) #[.slice Al d.late.length cl] #[.slice Af nf cf] 25 88
    simp only [World.size_alloc] at hX hY
    have hwz : (((w2.alloc (.cells #[.slice U0 d.s0.length e0, .slice U1 d.s1.length e1, .slice Ul d.late.length el] 70)).alloc (.cells #[.slice Al d.late.length cl] 25)).alloc (.cells #[.slice Af nf cf] 88)).heap.size = w2.heap.size + 3 := by simp
    have DR3 := Lib.hid (DR.out.on hBB)
    have hcs := hX.cell 0 rfl
    have hcf := hY.cell 0 rfl
    clear hX hY hBB DR XD2 x0 x1 x2
    gi_wp2_with fail
    obtain ⟨W0, hW0⟩ : ∃ W0, ((w2.alloc (.cells #[.slice U0 d.s0.length e0, .slice U1 d.s1.length e1, .slice Ul d.late.length el] 70)).alloc (.cells #[.slice Al d.late.length cl] 25)).alloc (.cells #[.slice Af nf cf] 88) = W0 := ⟨_, rfl⟩
    rw [hW0] at DR3 hcs hcf hwz ⊢
    clear hW0
    have hw2 := DR3.out.hx
    have RD3 := Lib.hid (HD.out.below DR3.out.below)
    have FT3 := Lib.hid (HFT'.out.below DR3.out.below HFL.out)
    obtain ⟨zs, hzs⟩ := attach_val (p := fun x : LateM × Int => There d.s0.length x.1.side x.1.at_ x.1.text.size) (pairs d.late fs) (fun x hx => by
      obtain ⟨i, hi, rfl⟩ := List.mem_iff_getElem.1 hx
      have hl := pairs_len d.late fs
      rw [pairs_at d.late fs i hi (by omega)]
      exact HK.out.2.2.2.2.2.2 _ (List.getElem_mem _))
    have HZS := Lib.hid hzs
    refine wpIn_rangeFunc_ownH rfl (by omega) (gf := 86) (lb := #[.pointer (some ⟨w2.heap.size + 1, 0, none⟩), .pointer (some ⟨w2.heap.size + 1 + 1, 0, none⟩)]) rfl trivial (enters_of Tryd.func86 (by kernel_rfl) rfl)
      (fates_stops _ (by omega) (w2.heap.size + 1) (w2.heap.size + 1 + 1) W0.heap.size (DTurns (.slice U0 d.s0.length e0) (.slice U1 d.s1.length e1) (.slice Ul d.late.length el)) (.slice Al d.late.length cl) (.slice Af nf cf) d.late fs zs hzs W0 hcs (by omega) RD3.out.rl RD3.out.ll HS.out.nl (by omega) (fun h => by have := hUlow _ h; omega)
        (fun b e => ⟨RD3.out.ll b e, fun h => by have := HD.out.ll b e; have := hUbig b h; omega⟩) hcf (by omega) FT3.out (HFL.out.mono DR3.out.below.size) HFN.out (by omega) (fun h => by have := hUlow _ h; omega)
        (fun b e => ⟨by have := HFL.out b e; omega, fun h => by have := HFL.out b e; have := hUbig b h; omega⟩) (Nat.le_refl _)) KeepB.trans (keepB_b (Nat.le_refl _)) (Below.refl _ _) (fun _ => rfl)
      (fun pre W => Dr w W w2.heap.size (.slice U0 d.s0.length e0) (.slice U1 d.s1.length e1) (.slice Ul d.late.length el) ⟨(fallAll (d.s0, d.s1) (pre.map (·.1))).1, (fallAll (d.s0, d.s1) (pre.map (·.1))).2, d.late⟩ ∧ W0.heap.size ≤ W.heap.size)
      (fun _ _ _ => False)
      (OwnFrom.and (Dr.own_ _ (by omega)) (fun _ X Y row hs hg _ => Nat.le_trans hs hg.size))
      (fun _ _ _ _ _ hs _ _ => hs)
      ⟨DR3.out, Nat.le_refl _⟩
      (fun x a' W => ∃ Bx, W0.heap.size ≤ Bx ∧ Box W Bx [.int .i64 x.1.1.side, .int .i64 x.1.1.at_, .string x.1.1.text] ∧ a' = { tmps := #[.agg #[.slice A0 d.s0.length c0, .slice A1 d.s1.length c1, .slice Al d.late.length cl], .slice Af nf cf, .pointer (some ⟨w.heap.size, 0, none⟩), undef, .pointer (some ⟨w.heap.size + 1, 0, none⟩), .pointer (some ⟨w2.heap.size, 0, none⟩), .pointer (some ⟨Bx, 0, none⟩), .int .i64 x.1.2, .agg #[.slice A0 d.s0.length c0, .slice A1 d.s1.length c1, .slice Al d.late.length cl], .bool true, .bool false, undef, .agg #[.slice A0 d.s0.length c0, .slice A1 d.s1.length c1, .slice Al d.late.length cl], .agg #[.slice U0 d.s0.length e0, .slice U1 d.s1.length e1, .slice Ul d.late.length el], .pointer (some ⟨w.heap.size, 2, none⟩), .slice Al d.late.length cl, .slice Af nf cf, .func (.func 86) #[] #[.pointer (some ⟨w2.heap.size + 1, 0, none⟩), .pointer (some ⟨w2.heap.size + 1 + 1, 0, none⟩)], .agg #[.int .i64 x.1.1.side, .int .i64 x.1.1.at_, .string x.1.1.text], .int .i64 x.1.2, undef, undef, undef, undef, undef, undef, undef, undef, undef, undef, undef, undef, undef, undef, undef, undef, undef, undef, undef, undef, undef, undef, undef, undef, undef, undef, undef, undef, undef, undef, undef, undef, undef, undef], defers := [] })
      (fun x a' _ X Y row hs hg hr => by obtain ⟨Bx, h1, h2, h3⟩ := hs; exact ⟨Bx, h1, box_own (β := Unit) _ _ () X Y row h2 hg (fun r e => (hr r e).2), h3⟩)
      ?assign ?body ?done ?stop
    case assign =>
      rintro l pre x W K ⟨hdr, hsz⟩ hK
      have HKK := Lib.hid hK
      have HDR := Lib.hid hdr
      clear hK hdr
      simp only [encFate]
      gi_wp2
      exact HKK.out _ _ ((KeepsOthers.alloc _ _).from _) (KeepB.of_below (Below.new _) hsz) ⟨HDR.out.on (Below.new _), Nat.le_trans hsz (Below.new _).size⟩ ⟨W.heap.size, hsz, box_new W _ _, rfl⟩
    case body =>
      rintro l pre ⟨⟨⟨xs, xa, xt⟩, f⟩, hpr⟩ a' W hl ⟨r, hr⟩ ⟨hdr, hsz⟩ ⟨Bx, hBx, bx, rfl⟩ hlt
      simp only at hpr bx ⊢
      have HSN := Lib.hid (show fallAll (d.s0, d.s1) ((pre ++ [(⟨(⟨xs, xa, xt⟩, f), hpr⟩ : { x : LateM × Int // There d.s0.length x.1.side x.1.at_ x.1.text.size })]).map (·.1)) = fallStep (fallAll (d.s0, d.s1) (pre.map (·.1))) (⟨xs, xa, xt⟩, f) from by rw [List.map_append]; exact fallAll_snoc _ _ _)
      have H0 := Lib.hid (show (fallAll (d.s0, d.s1) (pre.map (·.1))).1.length ≤ 1048576 from by rw [(fallAll_len _ _).1]; exact HS.out.n0)
      have H1 := Lib.hid (show (fallAll (d.s0, d.s1) (pre.map (·.1))).2.length ≤ 1048576 from by rw [(fallAll_len _ _).2]; exact HS.out.n1)
      have HX := Lib.hid (show Has (fallAll (d.s0, d.s1) (pre.map (·.1))).1.length (fallAll (d.s0, d.s1) (pre.map (·.1))).2.length xs xa from by
        rw [(fallAll_len _ _).1, (fallAll_len _ _).2]
        show Has d.s0.length d.s1.length _ _
        rw [HK.out.2.2.1]
        exact ((has_there _ _ _ _).2 hpr).1)
      obtain ⟨z0, z1, z2⟩ := bx.three
      obtain ⟨y0, y1, y2⟩ := hdr.xo.three
      have HDR := Lib.hid hdr
      by_cases hf1 : f = 1
      · subst hf1
        clear bx hdr
        gi_wp2_with fail
        refine ⟨trivial, (CallsIn.inRound l (callsIn_wide.2 (put_any _ _ (.slice Ul d.late.length el) ⟨(fallAll (d.s0, d.s1) (pre.map (·.1))).1, (fallAll (d.s0, d.s1) (pre.map (·.1))).2, d.late⟩ _ xs xa xt _ HDR.out.own H0.out H1.out HX.out))).mono ?_⟩
        rintro e w5 ⟨rfl, ho, ht⟩
        have DR5 := Lib.hid (HDR.out.turned ht ho)
        have KF := Lib.hid (KeepsFrom.of_turned (B := W0.heap.size) ht (fun b hb => by have := hUlow b hb; omega))
        have KB := Lib.hid (KeepB.of_turned (N := W0.heap.size) ht hsz)
        have hz5 := ht.size
        clear ho ht HDR z0 z1 z2 y0 y1 y2
        gi_wp2
        refine ⟨KF.out, KB.out, ?_, by omega⟩
        rw [HSN.out, show fallStep (fallAll (d.s0, d.s1) (pre.map (·.1))) (⟨xs, xa, xt⟩, 1) = layM (fallAll (d.s0, d.s1) (pre.map (·.1))) xs xa.toNat xt from by unfold fallStep; rw [if_pos rfl]]
        exact DR5.out
      · by_cases hf2 : f = 2
        · subst hf2
          have hsn : xt.size ≤ maxLen := by have := hpr.2.2.2.2; unfold maxLen; omega
          have HALL := Lib.hid (show (∀ s ∈ (fallAll (d.s0, d.s1) (pre.map (·.1))).1, s.size ≤ 1048576) ∧ ∀ s ∈ (fallAll (d.s0, d.s1) (pre.map (·.1))).2, s.size ≤ 1048576 from
            fallAll_all (B := 1048576) _ (fun y hy => by
              obtain ⟨q, hq, rfl⟩ := List.mem_map.1 hy
              have := q.2.2.2.2.2
              omega) (d.s0, d.s1) HS.out.z0 HS.out.z1)
          gi_wp2_with fail
          have XO := Lib.hid (show Box W.drew w2.heap.size [.slice U0 d.s0.length e0, .slice U1 d.s1.length e1, .slice Ul d.late.length el] from hdr.xo)
          have XB := Lib.hid (show Box W.drew Bx [.int .i64 xs, .int .i64 xa, .string xt] from bx)
          have DRd := Lib.hid (hdr.on (below_drew' W))
          refine region_round (S := fun w' => w'.cell? ⟨w2.heap.size, 0, none⟩ = some (.slice U0 d.s0.length e0) ∧ w'.cell? ⟨w2.heap.size, 1, none⟩ = some (.slice U1 d.s1.length e1) ∧ w'.cell? ⟨Bx, 0, none⟩ = some (.int .i64 xs) ∧ w'.cell? ⟨Bx, 1, none⟩ = some (.int .i64 xa) ∧ w'.cell? ⟨Bx, 2, none⟩ = some (.string xt)) (by kernel_rfl) (by kernel_rfl) (fun _ _ h => h) ⟨XO.out.cell 0 rfl, XO.out.cell 1 rfl, XB.out.cell 0 rfl, XB.out.cell 1 rfl, XB.out.cell 2 rfl⟩ (fun hHeld => ?_)
          refine wpAnyH_take (i := 0) (v := ?_) rfl (by kernel_rfl) (by kernel_rfl) (by kernel_rfl) (fun _ _ _ h => h) (Or.inl ⟨by rfl, ?_⟩) (by assumption) ?_
          rotate_left
          · (intro w' hSw; (try dsimp only at hSw); go_simp; try with_reducible rfl)
          try simp only [Act.put]
          refine wpAnyH_take (i := 1) (v := ?_) rfl (by kernel_rfl) (by kernel_rfl) (by kernel_rfl) (fun _ _ _ h => h) (Or.inl ⟨by rfl, ?_⟩) (by assumption) ?_
          rotate_left
          · (intro w' hSw; (try dsimp only at hSw); go_simp; try with_reducible rfl)
          try simp only [Act.put]
          refine wpAnyH_take (i := 2) (v := ?_) rfl (by kernel_rfl) (by kernel_rfl) (by kernel_rfl) (fun _ _ _ h => h) (Or.inl ⟨by rfl, ?_⟩) (by assumption) ?_
          rotate_left
          · (intro w' hSw; (try dsimp only at hSw); go_simp; try with_reducible rfl)
          try simp only [Act.put]
          refine wpAnyH_take (i := 3) (v := ?_) rfl (by kernel_rfl) (by kernel_rfl) (by kernel_rfl) (fun _ _ _ h => h) (Or.inl ⟨by rfl, ?_⟩) (by assumption) ?_
          rotate_left
          · (intro w' hSw; (try dsimp only at hSw); go_simp; try with_reducible rfl)
          try simp only [Act.put]
          refine wpAnyH_take (i := 4) (v := ?_) rfl (by kernel_rfl) (by kernel_rfl) (by kernel_rfl) (fun _ _ _ h => h) (Or.inl ⟨by rfl, ?_⟩) (by assumption) ?_
          rotate_left
          · (intro w' hSw; (try dsimp only at hSw); go_simp; try with_reducible rfl)
          try simp only [Act.put]
          refine wpAnyH_take (i := 5) (v := ?_) rfl (by kernel_rfl) (by kernel_rfl) (by kernel_rfl) (fun _ _ _ h => h) (Or.inl ⟨by rfl, ?_⟩) (by assumption) ?_
          rotate_left
          · (intro w' hSw; (try dsimp only at hSw); go_simp; try with_reducible rfl)
          try simp only [Act.put]
          refine wpAnyH_take (i := 6) (v := ?_) rfl (by kernel_rfl) (by kernel_rfl) (by kernel_rfl) (fun _ _ _ h => h) (Or.inl ⟨by rfl, ?_⟩) (by assumption) ?_
          rotate_left
          · (intro w' hSw; (try dsimp only at hSw); go_simp; try with_reducible rfl)
          try simp only [Act.put]
          refine wpAnyH_take (i := 7) (v := ?_) rfl (by kernel_rfl) (by kernel_rfl) (by kernel_rfl) (fun _ _ _ h => h) (Or.inl ⟨by rfl, ?_⟩) (by assumption) ?_
          rotate_left
          · (intro w' hSw; (try dsimp only at hSw); go_simp; try with_reducible rfl)
          try simp only [Act.put]
          refine wpAnyH_take (i := 8) (v := ?_) rfl (by kernel_rfl) (by kernel_rfl) (by kernel_rfl) (fun _ _ _ h => h) (Or.inl ⟨by rfl, ?_⟩) (by assumption) ?_
          rotate_left
          · (intro w' hSw; (try dsimp only at hSw); go_simp; try with_reducible rfl)
          try simp only [Act.put]
          refine wpAnyH_take (i := 9) (v := ?_) rfl (by kernel_rfl) (by kernel_rfl) (by kernel_rfl) (fun _ _ _ h => h) (Or.inl ⟨by rfl, ?_⟩) (by assumption) ?_
          rotate_left
          · (intro w' hSw; (try dsimp only at hSw); go_simp; try with_reducible rfl)
          try simp only [Act.put]
          refine wpAnyH_take (i := 10) (v := ?_) rfl (by kernel_rfl) (by kernel_rfl) (by kernel_rfl) (fun _ _ _ h => h) (Or.inl ⟨by rfl, ?_⟩) (by assumption) ?_
          rotate_left
          · (intro w' hSw; (try dsimp only at hSw); go_simp; try with_reducible rfl)
          try simp only [Act.put]
          refine wpAnyH_take (i := 11) (v := ?_) rfl (by kernel_rfl) (by kernel_rfl) (by kernel_rfl) (fun _ _ _ h => h) (Or.inl ⟨by rfl, ?_⟩) (by assumption) ?_
          rotate_left
          · (intro w' hSw; (try dsimp only at hSw); go_simp; try with_reducible rfl)
          try simp only [Act.put]
          refine wpAnyH_take (i := 13) (v := ?_) rfl (by kernel_rfl) (by kernel_rfl) (by kernel_rfl) (fun _ _ _ h => h) (Or.inl ⟨by rfl, ?_⟩) (by assumption) ?_
          rotate_left
          · (intro w' hSw; (try dsimp only at hSw); go_simp; try with_reducible rfl)
          try simp only [Act.put]
          refine wpAnyH_take (i := 14) (v := ?_) rfl (by kernel_rfl) (by kernel_rfl) (by kernel_rfl) (fun _ _ _ h => h) (Or.inl ⟨by rfl, ?_⟩) (by assumption) ?_
          rotate_left
          · (intro w' hSw; (try dsimp only at hSw); go_simp; try with_reducible rfl)
          try simp only [Act.put]
          refine wpAnyH_ready (rs := [12]) (by kernel_rfl) (by simp) ?_
          refine AllReadyH.cons rfl (fun K hK => ?_) AllReadyH.nil
          go_simp
          go_at_call 46
          with_reducible refine (text_any _ _ (.slice Ul d.late.length el) ⟨(fallAll (d.s0, d.s1) (pre.map (·.1))).1, (fallAll (d.s0, d.s1) (pre.map (·.1))).2, d.late⟩ xs xa _ DRd.out.own.reads H0.out H1.out HX.out).mono ?_
          rintro e w5 ⟨rfl, hb5⟩
          obtain ⟨old, HOLD⟩ : ∃ old, Hid (sectOf (fallAll (d.s0, d.s1) (pre.map (·.1))) xs xa.toNat = old) := ⟨_, Lib.hid rfl⟩
          rw [show (sideOf ⟨(fallAll (d.s0, d.s1) (pre.map (·.1))).1, (fallAll (d.s0, d.s1) (pre.map (·.1))).2, d.late⟩ xs).getD xa.toNat ⟨#[]⟩ = old from HOLD.out]
          go_wp2_with fail
          have XO5 := Lib.hid (XO.out.below hb5 XO.out.lt)
          have XB5 := Lib.hid (XB.out.below hb5 XB.out.lt)
          have DR5 := Lib.hid (DRd.out.on hb5)
          have hz5 := hb5.size
          refine hK.out _ _ ⟨XO5.out.cell 0 rfl, XO5.out.cell 1 rfl, XB5.out.cell 0 rfl, XB5.out.cell 1 rfl, XB5.out.cell 2 rfl⟩ (fun hHeld2 => ?_)
          clear hK K
          try simp only [Act.put]
          have hso : old.size ≤ maxLen := by
            have h1 := sectOf_all (P := fun s => s.size ≤ 1048576) HALL.out.1 HALL.out.2 (Nat.zero_le _) xs xa.toNat
            rw [HOLD.out] at h1
            unfold maxLen; omega
          refine wpAnyH_ready (rs := [15]) (by kernel_rfl) (by simp) ?_
          refine AllReadyH.cons rfl (fun K hK => ?_) AllReadyH.nil
          go_simp
          go_at_call 53
          with_reducible refine (diskTorn_any old xt _ hso hsn).mono ?_
          rintro e w6 ⟨rfl, q6, rfl⟩
          go_wp2_with fail
          refine hK.out _ _ ⟨XO5.out.cell 0 rfl, XO5.out.cell 1 rfl, XB5.out.cell 0 rfl, XB5.out.cell 1 rfl, XB5.out.cell 2 rfl⟩ (fun hHeld3 => ?_)
          clear hK K
          try simp only [Act.put]
          have DR6 := Lib.hid (DR5.out.on (w2 := w5.drewN q6) ⟨rfl, rfl, rfl, Nat.le_refl _, fun _ _ => rfl⟩)
          refine wpAnyH_ready (rs := [16]) (by kernel_rfl) (by simp) ?_
          refine AllReadyH.cons rfl (fun K hK => ?_) AllReadyH.nil
          go_simp
          go_at_call 52
          with_reducible refine (put_any _ _ (.slice Ul d.late.length el) ⟨(fallAll (d.s0, d.s1) (pre.map (·.1))).1, (fallAll (d.s0, d.s1) (pre.map (·.1))).2, d.late⟩ _ xs xa (tornM old xt) _ DR6.out.own H0.out H1.out HX.out).mono ?_
          rintro e w7 ⟨rfl, ho, ht⟩
          go_wp2_with fail
          have XO7 := Lib.hid ((show Box (w5.drewN q6) _ _ from XO5.out).turned ht DR6.out.nx)
          have XB7 := Lib.hid ((show Box (w5.drewN q6) _ _ from XB5.out).turned ht (fun h => by have := hUlow Bx h; omega))
          have DR7 := Lib.hid (DR6.out.turned ht ho)
          have KF := Lib.hid (KeepsFrom.of_turned (B := W0.heap.size) ht (fun b hb => by have := hUlow b hb; omega))
          have KB := Lib.hid (KeepB.of_turned (N := W0.heap.size) ht (by show _ ≤ w5.heap.size; simp at hz5; omega))
          refine hK.out _ _ ⟨XO7.out.cell 0 rfl, XO7.out.cell 1 rfl, XB7.out.cell 0 rfl, XB7.out.cell 1 rfl, XB7.out.cell 2 rfl⟩ (fun hHeld4 => ?_)
          clear hK K
          refine wpAnyH_done (by kernel_rfl) ?_ _
          have hz7 := ht.size
          have BK := Lib.hid (KeepB.trans (KeepB.of_below (S := DTurns (.slice U0 d.s0.length e0) (.slice U1 d.s1.length e1) (.slice Ul d.late.length el)) (below_drew' W) hsz) (KeepB.trans (KeepB.of_below (S := DTurns (.slice U0 d.s0.length e0) (.slice U1 d.s1.length e1) (.slice Ul d.late.length el)) hb5 (by simpa using hsz)) (KeepB.trans (B := w5.drewN q6) ⟨Nat.le_refl _, fun _ _ _ => rfl⟩ KB.out)))
          have BF := Lib.hid ((keepsFrom_below (B := W0.heap.size) (below_drew' W)).trans ((keepsFrom_below (B := W0.heap.size) hb5).trans (KeepsFrom.trans (Y := w5.drewN q6) ⟨Nat.le_refl _, fun _ _ _ h _ => h⟩ KF.out)))
          gi_wp2
          refine ⟨BF.out, BK.out, ?_, by show _ ≤ w7.heap.size; have : (w5.drewN q6).heap.size = w5.heap.size := rfl; simp at hz5; omega⟩
          rw [HSN.out, show fallStep (fallAll (d.s0, d.s1) (pre.map (·.1))) (⟨xs, xa, xt⟩, 2) = layM (fallAll (d.s0, d.s1) (pre.map (·.1))) xs xa.toNat (tornM old xt) from by unfold fallStep; rw [if_neg (by simp), if_pos rfl, ← HOLD.out]]
          exact DR7.out
        · gi_wp2
          refine ⟨KeepsFrom.refl _ _, KeepB.refl _ _ _, ?_, by omega⟩
          rw [HSN.out, show fallStep (fallAll (d.s0, d.s1) (pre.map (·.1))) (⟨xs, xa, xt⟩, f) = fallAll (d.s0, d.s1) (pre.map (·.1)) from by unfold fallStep; rw [if_neg hf1, if_neg hf2]]
          exact HDR.out
    case done =>
      rintro D ys W hD rfl ⟨hdr, hsz⟩ hKD
      rw [HZS.out] at hdr
      have DR1 := Lib.hid hdr.noLate
      obtain ⟨y0, y1, y2⟩ := hdr.xo.three
      have f3 := hdr.xo.open_ 2
      obtain ⟨z0, z1, z2⟩ := DR1.out.xo.three
      have HKD := Lib.hid (show (W.setCell ⟨w2.heap.size, 2, none⟩ (.slice none 0 0)).heap[D]? = some (.deferred (some [])) from (Below.heap_setCell _ _ _ _ (by simp; omega)).trans hKD)
      clear hdr hKD
      gi_wp2_with fail
      refine ⟨trivial, (callsIn_wide.2 (disk_any _ _ _ _ _ _ _ _ _ _)).mono ?_⟩
      rintro e w5 ⟨rfl, hb⟩
      have DR2 := Lib.hid (DR1.out.on hb)
      have HKD5 := Lib.hid ((hb.block D (Array.getElem?_eq_some_iff.1 HKD.out).1).trans HKD.out)
      clear hb DR1 HKD y0 y1 y2 f3 z0 z1 z2
      obtain ⟨r0, r1, r2⟩ := DR2.out.xr.three
      have f0 := DR2.out.xr.open_ 0
      have f1 := DR2.out.xr.open_ 1
      have f2 := DR2.out.xr.open_ 2
      have q3 := Lib.hid (((DR2.out.xr.set 0 (.slice U0 d.s0.length e0)).set 1 (.slice U1 d.s1.length e1)).set 2 (.slice none 0 0))
      have HKD6 := Lib.hid (show (((w5.setCell ⟨w.heap.size + 1, 0, none⟩ (.slice U0 d.s0.length e0)).setCell ⟨w.heap.size + 1, 1, none⟩ (.slice U1 d.s1.length e1)).setCell ⟨w.heap.size + 1, 2, none⟩ (.slice none 0 0)).heap[D]? = some (.deferred (some [])) from by
        rw [Below.heap_setCell _ _ _ _ (by simp; omega), Below.heap_setCell _ _ _ _ (by simp; omega), Below.heap_setCell _ _ _ _ (by simp; omega)]; exact HKD5.out)
      have q4 := Lib.hid ((box_own (β := Unit) (w.heap.size + 1) [.slice U0 d.s0.length e0, .slice U1 d.s1.length e1, .slice none 0 0]).putObj (s := ()) (.deferred none) q3.out HKD6.out rfl)
      gi_wp2
      have k0 := q4.out.cell 0 rfl
      have k1 := q4.out.cell 1 rfl
      have k2 := q4.out.cell 2 rfl
      refine leaves_two HKD6.out (v := .agg #[.slice U0 d.s0.length e0, .slice U1 d.s1.length e1, .slice none 0 0]) (by simp [results, Tryd.results15, go_sem, k0, k1, k2]) ?_
      rw [HF.out]
      exact ⟨_, _, _, rfl, DR2.out.back.1.grown (grownBy_putObj' _ D _) (fun r e => by cases e; exact ⟨_, HKD6.out, rfl⟩), DR2.out.back.2.trans (belowK_b (w := w) (Nat.le_refl _) _ D _ _ (by omega) HKD6.out rfl rfl)⟩
    case stop =>
      rintro D c pre W _ _ h _
      exact h.elim
  · have hok' := Lib.hid (decide_eq_false hok)
    have HF := Lib.hid (show fallM d fs = noDisk from if_neg hok)
    clear hok
    refine ⟨trivial, (callsIn_wide.2 (ImOk_is _ _ _ d _ RD.out HS.out false hok'.out)).mono ?_⟩
    rintro e w1 ⟨rfl, hb⟩
    have XR1 := Lib.hid (XR.out.below hb (by omega))
    have B1 := Lib.hid (B0.out.trans (hb.mono (by omega)))
    clear hb RD XD XR B0 hsz
    obtain ⟨x0, x1, x2⟩ := XR1.out.three
    have f0 := XR1.out.open_ 0
    have f1 := XR1.out.open_ 1
    have f2 := XR1.out.open_ 2
    gi_wp2
    have q1 := XR1.out.set 0 (.slice none 0 0)
    have q2 := q1.set 1 (.slice none 0 0)
    have q3 := q2.set 2 (.slice none 0 0)
    refine ⟨.agg #[.slice none 0 0, .slice none 0 0, .slice none 0 0], (by simp [results, Tryd.results15, go_sem, q1.cell 0 rfl, q2.cell 1 rfl, q3.cell 2 rfl]), ?_⟩
    rw [HF.out]
    exact ⟨_, _, _, rfl, noDisk_own _ _, ((B1.out.setCell (by simp) _).setCell (by simp) _).setCell (by simp) _⟩
end Go.Proofs.YtfacbjldpenpjaaDoor

/-
  impl's DiskFlush.
-/
set_option maxRecDepth 100000
namespace Go.Proofs.YtfacbjldpenpjaaDoor
open Go.ChangeShapes Go.WideShapes Go.ChangeAt Go.RowKit Go.Proofs.Palim

set_option maxHeartbeats 1000000 in
theorem ImplDiskFlush_any (d : DiskM) (v0 v1 vl : Value) (w : World) (h : DiskR w v0 v1 vl d) (hs : DiskShort d) :
    Calls Tryd.prog 16 #[.agg #[v0, v1, vl]] w (NewDisk w (flushM d)) := by
  have hnot : ∀ (x : Bool) (w : World), (Op.unary .not (.bool x)).run Tryd.prog w = .ok (.bool (!x)) w := fun _ _ => rfl
  obtain ⟨_, A0, c0, rfl, _⟩ := h.r0
  obtain ⟨_, A1, c1, rfl, _⟩ := h.r1
  obtain ⟨_, Al, cl, rfl, _⟩ := h.rl
  have HD := Lib.hid h
  have HS := Lib.hid hs
  have hnl := hs.nl
  clear h hs
  obtain ⟨hA, hR, hsz, hB⟩ := box2 w #[.slice A0 d.s0.length c0, .slice A1 d.s1.length c1, .slice Al d.late.length cl] #[.slice none 0 0, .slice none 0 0, .slice none 0 0] 27 27
  have RD := Lib.hid (HD.out.below hB)
  have XD := Lib.hid hA
  have XR := Lib.hid hR
  have B0 := Lib.hid hB
  clear hA hR hB
  by_cases hok : DiskOkM d
  · have hok' := Lib.hid (decide_eq_true hok)
    have HK := Lib.hid hok
    go_enter Tryd.func16, Tryd.ntmps16
    go_wp2_with fail
    refine (ImOk_is _ _ _ d _ RD.out HS.out true hok'.out).mono ?_
    rintro e w1 ⟨rfl, hb⟩
    have RD1 := Lib.hid (RD.out.below hb)
    have XD1 := Lib.hid (XD.out.below hb (by omega))
    have XR1 := Lib.hid (XR.out.below hb (by omega))
    have B1 := Lib.hid (B0.out.trans (hb.mono (by omega)))
    have hs1 : w.heap.size + 2 ≤ w1.heap.size := by have := hb.size; omega
    clear hb RD XD XR B0 hsz hok hok'
    obtain ⟨x0, x1, x2⟩ := XD1.out.three
    go_wp2_with fail
    refine (diskCopy_any _ _ _ d _ RD1.out HS.out).mono ?_
    rintro e w2 ⟨u0, u1, ul, rfl, ho, hb⟩
    obtain ⟨U0, e0, U1, e1, Ul, el, rfl, rfl, rfl⟩ := ho.forms
    have DR := Lib.hid (dr_start 70 XR1.out B1.out hs1 ho hb)
    have hn := Below.new (w := w2) (.cells #[.slice U0 d.s0.length e0, .slice U1 d.s1.length e1, .slice Ul d.late.length el] 70)
    have RD2 := Lib.hid ((RD1.out.below hb).below hn)
    have XD2 := Lib.hid ((XD1.out.below hb (by omega)).alloc (.cells #[.slice U0 d.s0.length e0, .slice U1 d.s1.length e1, .slice Ul d.late.length el] 70))
    clear ho hb hn RD1 XD1 XR1 B1 x0 x1 x2
    have HF := Lib.hid (show flushM d = _ from if_pos HK.out)
    obtain ⟨nl, HL⟩ : ∃ n, Hid (d.late.length = n) := ⟨_, Lib.hid rfl⟩
    rw [HL.out] at DR hnl ⊢
    have LEN := Lib.hid (fun ls => layAll_len ls (d.s0, d.s1))
    have hn0 := HS.out.n0
    have hn1 := HS.out.n1
    obtain ⟨x0, x1, x2⟩ := DR.out.xo.three
    go_wp2
    go_loopw [15] (fun i wr => ∃ k : Nat, k ≤ nl ∧ i = .int .i64 (k : Int) ∧ Hid (Dr w wr w2.heap.size (.slice U0 d.s0.length e0) (.slice U1 d.s1.length e1) (.slice Ul nl el) ⟨(layAll (d.s0, d.s1) (d.late.take k)).1, (layAll (d.s0, d.s1) (d.late.take k)).2, d.late⟩)) (fun i _ => nl - (intOf i).toNat)
    case atStart => exact ⟨0, Nat.zero_le _, rfl, DR⟩
    case round =>
      clear DR x0 x1 x2 RD2 XD2
      obtain ⟨k, hk, rfl, DR⟩ := hrel
      by_cases hlt : k < nl
      · have hll : k < d.late.length := by rw [HL.out]; exact hlt
        have hsl := sl_of_own DR.out.own.ol
        simp only at hsl
        obtain ⟨bl, ol, cl', el', hcl, hml, hcell⟩ := hsl.form (by omega)
        injection el' with el1 el2 el3
        subst el1 el3
        rw [HL.out] at hcl
        unfold maxLen at hml
        have hbll : bl < wr.heap.size := (DR.out.own.ol.lt bl rfl).2
        have hrd := late_read hcell k hll
        have hx := HK.out.2.2.2.2.2.2 _ (List.getElem_mem hll)
        have HP := Lib.hid (show layAll (d.s0, d.s1) (d.late.take (k + 1)) = layM (layAll (d.s0, d.s1) (d.late.take k)) d.late[k].side d.late[k].at_.toNat d.late[k].text from by
          rw [List.take_succ_eq_append_getElem hll, layAll_snoc])
        generalize d.late[k] = x at hrd hx HP
        obtain ⟨p1, p2, p3⟩ := hrd
        have HX := Lib.hid (show Has (layAll (d.s0, d.s1) (d.late.take k)).1.length (layAll (d.s0, d.s1) (d.late.take k)).2.length x.side x.at_ from by
          rw [(LEN.out _).1, (LEN.out _).2]
          show Has d.s0.length d.s1.length _ _
          rw [HK.out.2.2.1]
          exact ((has_there _ _ _ _).2 hx).1)
        have H0 := Lib.hid (show (layAll (d.s0, d.s1) (d.late.take k)).1.length ≤ 1048576 from by rw [(LEN.out _).1]; exact hn0)
        have H1 := Lib.hid (show (layAll (d.s0, d.s1) (d.late.take k)).2.length ≤ 1048576 from by rw [(LEN.out _).2]; exact hn1)
        have DR1 := Lib.hid (DR.out.on (Below.new (.cells #[.int .i64 x.side, .int .i64 x.at_, .string x.text] 79)))
        have hk1 : (k : Int) < (nl : Int) := by omega
        clear hcell el2 hll hx hsl DR
        obtain ⟨x0, x1, x2⟩ := DR1.out.xo.three
        go_wp2_with fail
        refine (put_any _ _ _ ⟨(layAll (d.s0, d.s1) (d.late.take k)).1, (layAll (d.s0, d.s1) (d.late.take k)).2, d.late⟩ _ x.side x.at_ x.text _ DR1.out.own H0.out H1.out HX.out).mono ?_
        rintro e w3 ⟨rfl, ho, ht⟩
        have DR2 := Lib.hid (DR1.out.turned ht ho)
        clear ho ht DR1 x0 x1 x2 p1 p2 p3
        go_wp2
        go_roundw
        case rel =>
          refine ⟨k + 1, by omega, by go_num, Lib.hid ?_⟩
          rw [HP.out]
          exact DR2.out
        case measure => simp [intOf]; omega
      · have HE := Lib.hid (show d.late.take k = d.late from List.take_of_length_le (by rw [HL.out]; omega))
        rw [HE.out] at DR
        have DR1 := Lib.hid DR.out.noLate
        obtain ⟨z0, z1, z2⟩ := DR.out.xo.three
        have f3 := DR.out.xo.open_ 2
        obtain ⟨z0, z1, z2⟩ := DR1.out.xo.three
        go_wp2_with fail
        refine (disk_any _ _ _ _ _ _ _ _ _ _).mono ?_
        rintro e w4 ⟨rfl, hb⟩
        have DR2 := Lib.hid (DR1.out.on hb)
        clear DR DR1 hb z0 z1 z2 f3
        obtain ⟨r0, r1, r2⟩ := DR2.out.xr.three
        have f0 := DR2.out.xr.open_ 0
        have f1 := DR2.out.xr.open_ 1
        have f2 := DR2.out.xr.open_ 2
        go_wp2
        refine bodyPost_ret (v := .agg #[.slice U0 d.s0.length e0, .slice U1 d.s1.length e1, .slice none 0 0]) (by simp [results, Tryd.results16, go_sem, DR2.out.cells.1, DR2.out.cells.2.1, DR2.out.cells.2.2]) rfl (by rw [HF.out]; exact DR2.out.agg)
  · have hok' := Lib.hid (decide_eq_false hok)
    have HF := Lib.hid (show flushM d = noDisk from if_neg hok)
    clear hok
    go_enter Tryd.func16, Tryd.ntmps16
    go_wp2_with fail
    refine (ImOk_is _ _ _ d _ RD.out HS.out false hok'.out).mono ?_
    rintro e w1 ⟨rfl, hb⟩
    have XR1 := Lib.hid (XR.out.below hb (by omega))
    have B1 := Lib.hid (B0.out.trans (hb.mono (by omega)))
    clear hb RD XD XR B0 hsz
    obtain ⟨x0, x1, x2⟩ := XR1.out.three
    have f0 := XR1.out.open_ 0
    have f1 := XR1.out.open_ 1
    have f2 := XR1.out.open_ 2
    go_wp2
    have q1 := XR1.out.set 0 (.slice none 0 0)
    have q2 := q1.set 1 (.slice none 0 0)
    have q3 := q2.set 2 (.slice none 0 0)
    refine bodyPost_ret (v := .agg #[.slice none 0 0, .slice none 0 0, .slice none 0 0]) (by simp [results, Tryd.results16, go_sem, q1.cell 0 rfl, q2.cell 1 rfl, q3.cell 2 rfl]) rfl ?_
    rw [HF.out]
    exact ⟨_, _, _, rfl, noDisk_own _ _, ((B1.out.setCell (by simp) _).setCell (by simp) _).setCell (by simp) _⟩
end Go.Proofs.YtfacbjldpenpjaaDoor

/-
  The law FnExactDiskFlush, but for impl's contract.
-/
namespace Go.Proofs.YtfacbjldpenpjaaDoor
open Go.ChangeShapes Go.WideShapes Go.ChangeAt Go.RowKit Go.Proofs.Palim


def ImplDiskFlush : Prop := ∀ (d : DiskM) (v0 v1 vl : Value) (w : World), DiskR w v0 v1 vl d → DiskShort d → Calls Tryd.prog 16 #[.agg #[v0, v1, vl]] w (NewDisk w (flushM d))

theorem layAll_all {P : ByteArray → Prop} (ls : List LateM) (hl : ∀ l ∈ ls, P l.text) : ∀ p : List ByteArray × List ByteArray, (∀ s ∈ p.1, P s) → (∀ s ∈ p.2, P s) → (∀ s ∈ (layAll p ls).1, P s) ∧ ∀ s ∈ (layAll p ls).2, P s := by
  induction ls with
  | nil => intro p h1 h2; exact ⟨h1, h2⟩
  | cons l ls ih =>
    intro p h1 h2
    have hx := hl l (by simp)
    refine ih (fun l hl' => hl l (by simp [hl'])) (layM p l.side l.at_.toNat l.text) ?_ ?_
    · intro s hs
      unfold layM at hs
      split at hs
      · rcases List.mem_or_eq_of_mem_set hs with h | rfl
        · exact h1 s h
        · exact hx
      · exact h1 s hs
    · intro s hs
      unfold layM at hs
      split at hs
      · exact h2 s hs
      · rcases List.mem_or_eq_of_mem_set hs with h | rfl
        · exact h2 s h
        · exact hx
theorem short_flush {d : DiskM} (h : DiskShort d) : DiskShort (flushM d) := by
  unfold flushM
  split
  · have hl := layAll_len d.late (d.s0, d.s1)
    have ha := layAll_all (P := fun s => s.size ≤ 1048576) d.late h.zl (d.s0, d.s1) h.z0 h.z1
    exact ⟨by rw [hl.1]; exact h.n0, by rw [hl.2]; exact h.n1, Nat.zero_le _, ha.1, ha.2, by simp⟩
  · exact short_no

namespace fnExactDiskFlush
theorem own : ownKnob Tryd.prog.godebug = none := by kernel_rfl
theorem laidOut : laidOutB Tryd.prog = true := by kernel_rfl
end fnExactDiskFlush
end Go.Proofs.YtfacbjldpenpjaaDoor

/-
  The law on the last write of a sector, walked: what is asked of the draws is hDraw.
-/
set_option maxRecDepth 100000
namespace Go.Proofs.YtfacbjldpenpjaaDoor
open Go.ChangeShapes Go.WideShapes Go.ChangeAt Go.RowKit Go.Proofs.Palim

/-- A disk, a sector and a text are drawn: they read as such, and are short. -/
def DrawnW (w : World) (e : Ending) (w' : World) : Prop :=
  ∃ (d : DiskM) (side at_ : Int) (text : ByteArray) (v0 v1 vl : Value), e = .returned (.tuple #[.agg #[v0, v1, vl], .int .i64 side, .int .i64 at_, .string text]) ∧ DiskOwn w' w.heap.size v0 v1 vl d ∧ DiskShort d ∧ text.size ≤ 1000 ∧ Below w.heap.size w w'

theorem Boxed.under {w w' : World} {x B C : Nat} {v0 v1 vl : Value} {d : DiskM} (h : Boxed w x B v0 v1 vl d) (hb : Below C w w') (hx : x < C) : Boxed w' x B v0 v1 vl d :=
  ⟨h.box.below hb hx, h.low, ⟨h.reads.r0.below hb fun b e => by have := h.low.l0 b e; have := h.lt; omega, h.reads.r1.below hb fun b e => by have := h.low.l1 b e; have := h.lt; omega, h.reads.rl.below hb fun b e => by have := h.low.ll b e; have := h.lt; omega, h.reads.l0.mono hb.size, h.reads.l1.mono hb.size, h.reads.ll.mono hb.size⟩, h.lt⟩
theorem Sl.ones {w : World} {A : Option Addr} {N c : Nat} (h : Sl w 1 (.slice A (N + 1) c) (N + 1) (ics (List.replicate (N + 1) 1))) : Sl w 1 (.slice A N c) N (ics (List.replicate N 1)) := by
  obtain ⟨b, off, c', hv, h1, h2, h3⟩ := h.form (by omega)
  injection hv with e1 e2 e3
  subst e1 e3
  refine ⟨by simp [ics], _, _, rfl, by omega, h2, Or.inr ⟨b, off, rfl, fun j u hu => h3 j u ?_⟩⟩
  have hj := (List.getElem?_eq_some_iff.1 hu).1
  simp [ics] at hj
  simp [ics, hj] at hu
  simp [ics, show j < N + 1 by omega, hu]

end Go.Proofs.YtfacbjldpenpjaaDoor

/-
  Bits of a byte turned: '[]byte(s)', a byte changed, 'string(b)'; and what DiskRot makes of a disk.
-/
set_option maxRecDepth 100000
namespace Go.Proofs.YtfacbjldpenpjaaDoor
open Go.ChangeShapes Go.WideShapes Go.ChangeAt Go.RowKit Go.Proofs.Palim

/-- Block b begins with these bytes, and they may be written. -/
def ByteBlk (w : World) (b : Nat) (l : List UInt8) : Prop := ∀ (j : Nat) (h : j < l.length), w.cell? ⟨b, j, none⟩ = some (.int .u8 (l[j].toNat : Int)) ∧ w.frozen? ⟨b, j, none⟩ = false
theorem ByteBlk.kept {w w' : World} {b : Nat} {l : List UInt8} (h : ByteBlk w b l) (hb : w'.heap[b]? = w.heap[b]?) : ByteBlk w' b l := fun j hj => by
  have h1 := h j hj
  constructor
  · rw [World.cell?_of_block (a := ⟨b, j, none⟩) hb]; exact h1.1
  · have : w'.frozen? ⟨b, j, none⟩ = w.frozen? ⟨b, j, none⟩ := by simp [World.frozen?, hb]
    rw [this]; exact h1.2
theorem ByteBlk.drew {w : World} {b : Nat} {l : List UInt8} (h : ByteBlk w b l) : ByteBlk w.drew b l := h.kept (show w.drew.heap[b]? = w.heap[b]? from rfl)
theorem ByteBlk.set {w : World} {b : Nat} {l : List UInt8} (h : ByteBlk w b l) (k : Nat) (z : UInt8) (hk : k < l.length) : ByteBlk (w.setCell ⟨b, k, none⟩ (.int .u8 (z.toNat : Int))) b (l.set k z) := fun j hj => by
  rw [List.length_set] at hj
  have h1 := h j hj
  have h2 := h k hk
  constructor
  · by_cases e : k = j
    · subst e
      rw [World.cell?_setCell_same' _ _ _ (by rw [h2.1]; rfl)]
      simp
    · rw [List.getElem_set_ne e]
      rw [World.cell?_setCell_other _ _ _ _ (fun h => e (by injection h)), h1.1]
  · rw [World.frozen?_setCell]; exact h1.2

theorem bytes_row (s : ByteArray) (cap j : Nat) (h : j < s.data.toList.length) : (bytesRow s cap)[j]? = some (.int .u8 (s.data.toList[j].toNat : Int)) := by
  have hj : j < s.data.size := by simpa using h
  unfold bytesRow
  rw [Array.getElem?_append_left (by simpa using hj), Array.getElem?_map, Array.getElem?_eq_getElem hj]
  simp

theorem bytes_new (s : ByteArray) (w : World) : ∃ cap w', (convert 9 22 (.string s)).run Tryd.prog w = .ok (.slice (some ⟨w.heap.size, 0, none⟩) s.size cap) w' ∧ Below w.heap.size w w' ∧ w'.heap.size = w.heap.size + 1 ∧ ByteBlk w' w.heap.size s.data.toList := by
  refine ⟨_, _, run_bytes_of_string w 9 22 5 s Tryd.underlying9 Tryd.underlying22 Tryd.underlying5, ?_, by simp, fun j hj => ?_⟩
  · exact (Below.refl _ w).drew.alloc (Nat.le_refl _) _
  · have hh : (w.drew.alloc (.cells (bytesRow s (grownCap w s.size 0 5)) 5 ((bytesRow s (grownCap w s.size 0 5)).size, (bytesRow s (grownCap w s.size 0 5)).size + 1))).heap[w.heap.size]? = some (.cells (bytesRow s (grownCap w s.size 0 5)) 5 ((bytesRow s (grownCap w s.size 0 5)).size, (bytesRow s (grownCap w s.size 0 5)).size + 1)) := by
      show (w.heap.push _)[w.heap.size]? = _
      simp
    have hr := bytes_row s (grownCap w s.size 0 5) j hj
    have hlt := (Array.getElem?_eq_some_iff.1 hr).1
    constructor
    · simp only [World.cell?, hh]; exact hr
    · simp only [World.frozen?, hh]
      simp
      omega
theorem bytes_back (w : World) (b cap : Nat) (l : List UInt8) (h : ByteBlk w b l) : (convert 22 9 (.slice (some ⟨b, 0, none⟩) l.length cap)).run Tryd.prog w = .ok (.string ⟨l.toArray⟩) w :=
  run_convert_bytes_back w 22 9 5 ⟨b, 0, none⟩ cap l Tryd.underlying22 Tryd.underlying5 Tryd.underlying9 fun j hj => by
    have ha : (⟨b, 0, none⟩ : Addr).add j = ⟨b, j, none⟩ := by unfold Addr.add; split <;> simp_all
    rw [ha]; exact (h j hj).1

/-- A byte with bits turned. -/
def rotB (s : ByteArray) (k m : Nat) : ByteArray := ⟨(s.data.toList.set k (UInt8.ofNat ((s.data.toList.getD k 0).toNat ^^^ m))).toArray⟩
theorem rot_byte (c : UInt8) (m : Nat) (hm : m ≤ 255) : bits .xor .u8 (c.toNat : Int) ((m : Nat) : Int) = ((UInt8.ofNat (c.toNat ^^^ m)).toNat : Int) := by
  have hc := c.toNat_lt
  rw [u8_xor_nat _ _ hc (by omega), UInt8.toNat_ofNat_of_lt' (Nat.xor_lt_two_pow (n := 8) (by simpa using hc) (by omega))]
theorem rotB_size (s : ByteArray) (k m : Nat) : (rotB s k m).size = s.size := by
  show (s.data.toList.set k _).toArray.size = s.data.size
  simp
def sect (d : DiskM) (side at_ : Int) : ByteArray := (sideOf d side).getD at_.toNat ⟨#[]⟩
def CanRot (d : DiskM) (side at_ k mask : Int) : Prop := There d.s0.length side at_ 0 ∧ 0 ≤ k ∧ k < (sect d side at_).size ∧ 1 ≤ mask ∧ mask ≤ 255
instance (d : DiskM) (side at_ k mask : Int) : Decidable (CanRot d side at_ k mask) := by unfold CanRot; infer_instance
def rotM (d : DiskM) (side at_ k mask : Int) : DiskM := if DiskOkM d then (if CanRot d side at_ k mask then putM d side at_ (rotB (sect d side at_) k.toNat mask.toNat) else d) else noDisk

theorem DiskOwn.put0 {w : World} {base g c : Nat} {v1 vl : Value} {d : DiskM} (ho : DiskOwn w base (.slice (some ⟨g, 0, none⟩) d.s0.length c) v1 vl d) (k : Nat) (t : ByteArray) :
    DiskOwn (w.setCell ⟨g, k, none⟩ (.string t)) base (.slice (some ⟨g, 0, none⟩) d.s0.length c) v1 vl (putM d 0 (k : Int) t) ∧ Turned (DTurns (.slice (some ⟨g, 0, none⟩) d.s0.length c) v1 vl) w (w.setCell ⟨g, k, none⟩ (.string t)) := by
  have hp := own_put ho.o0 k t
  refine ⟨⟨hp, ?_, own_kept ho.ol fun b e => Below.heap_setCell _ _ _ _ fun e' => ho.p0l g rfl (by rw [e]; exact congrArg some e'), ho.p01, ho.p0l, ho.p1l⟩, turned_setCell (Turned.refl _ w) (p := ⟨g, k, none⟩) (Or.inl rfl) _⟩
  exact own_kept ho.o1 fun b e => Below.heap_setCell _ _ _ _ fun e' => ho.p01 g rfl (by rw [e]; exact congrArg some e')
theorem DiskOwn.put1 {w : World} {base g c : Nat} {v0 vl : Value} {d : DiskM} (ho : DiskOwn w base v0 (.slice (some ⟨g, 0, none⟩) d.s1.length c) vl d) (k : Nat) (t : ByteArray) :
    DiskOwn (w.setCell ⟨g, k, none⟩ (.string t)) base v0 (.slice (some ⟨g, 0, none⟩) d.s1.length c) vl (putM d 1 (k : Int) t) ∧ Turned (DTurns v0 (.slice (some ⟨g, 0, none⟩) d.s1.length c) vl) w (w.setCell ⟨g, k, none⟩ (.string t)) := by
  have hp := own_put ho.o1 k t
  refine ⟨⟨?_, hp, own_kept ho.ol fun b e => Below.heap_setCell _ _ _ _ fun e' => ho.p1l g rfl (by rw [e]; exact congrArg some e'), ho.p01, ho.p0l, ho.p1l⟩, turned_setCell (Turned.refl _ w) (p := ⟨g, k, none⟩) (Or.inr (Or.inl rfl)) _⟩
  exact own_kept ho.o0 fun b e => Below.heap_setCell _ _ _ _ fun e' => ho.p01 b e (congrArg some e'.symm)
end Go.Proofs.YtfacbjldpenpjaaDoor

/-
  spec's DiskFall.
-/
set_option maxRecDepth 100000
namespace Go.Proofs.YtfacbjldpenpjaaDoor
open Go.ChangeShapes Go.WideShapes Go.ChangeAt Go.RowKit Go.Proofs.Palim

theorem DiskOwn.put0' {w : World} {base g c n : Nat} {v1 vl : Value} {d : DiskM} (ho : DiskOwn w base (.slice (some ⟨g, 0, none⟩) n c) v1 vl d) (k : Nat) (t : ByteArray) (hn : d.s0.length = n) :
    DiskOwn (w.setCell ⟨g, k, none⟩ (.string t)) base (.slice (some ⟨g, 0, none⟩) n c) v1 vl (putM d 0 (k : Int) t) ∧ Turned (DTurns (.slice (some ⟨g, 0, none⟩) n c) v1 vl) w (w.setCell ⟨g, k, none⟩ (.string t)) := by subst hn; exact ho.put0 k t
theorem DiskOwn.put1' {w : World} {base g c n : Nat} {v0 vl : Value} {d : DiskM} (ho : DiskOwn w base v0 (.slice (some ⟨g, 0, none⟩) n c) vl d) (k : Nat) (t : ByteArray) (hn : d.s1.length = n) :
    DiskOwn (w.setCell ⟨g, k, none⟩ (.string t)) base v0 (.slice (some ⟨g, 0, none⟩) n c) vl (putM d 1 (k : Int) t) ∧ Turned (DTurns v0 (.slice (some ⟨g, 0, none⟩) n c) vl) w (w.setCell ⟨g, k, none⟩ (.string t)) := by subst hn; exact ho.put1 k t

end Go.Proofs.YtfacbjldpenpjaaDoor

/-
  A drawn disk: what holds while it is drawn, and steps that turn nothing but the reader.
-/
set_option maxRecDepth 100000
namespace Go.Proofs.YtfacbjldpenpjaaDoor
open Go.ChangeShapes Go.WideShapes Go.ChangeAt Go.RowKit Go.Proofs.Palim

/-- A small disk: what the draws keep to. -/
structure Tiny (d : DiskM) : Prop where
  short : DiskShort d
  n0 : d.s0.length ≤ 100
  n1 : d.s1.length ≤ 100
  nl : d.late.length ≤ 600
theorem tiny_no : Tiny noDisk := ⟨short_no, by simp [noDisk], by simp [noDisk], by simp [noDisk]⟩
theorem tiny_open {n : Int} (h : n ≤ 100) : Tiny (openM n) := by
  refine ⟨short_open n, ?_, ?_, ?_⟩ <;> (unfold openM; split <;> simp [noDisk]; try omega)
theorem tiny_write {d : DiskM} {side at_ : Int} {text : ByteArray} (ht : text.size ≤ 1048576) (h : Tiny d) : Tiny (writeM d side at_ text) := by
  refine ⟨short_write ht h.short, ?_, ?_, ?_⟩
  · unfold writeM
    split
    · exact h.n0
    · split
      · exact h.n0
      · simp [noDisk]
  · unfold writeM
    split
    · exact h.n1
    · split
      · exact h.n1
      · simp [noDisk]
  · unfold writeM
    split
    · rename_i hc
      have h1 := hc.1.2.2.2.1
      have h2 := hc.2.2
      simp only [List.length_append, List.length_singleton]
      omega
    · split
      · exact h.nl
      · simp [noDisk]
theorem tiny_fall {d : DiskM} {fs : List Int} (h : Tiny d) : Tiny (fallM d fs) := by
  have hl := fallAll_len (pairs d.late fs) (d.s0, d.s1)
  refine ⟨short_fall h.short, ?_, ?_, ?_⟩
  · unfold fallM
    split
    · rw [hl.1]; exact h.n0
    · simp [noDisk]
  · unfold fallM
    split
    · rw [hl.2]; exact h.n1
    · simp [noDisk]
  · unfold fallM
    split <;> simp [noDisk]

theorem tiny_flush {d : DiskM} (h : Tiny d) : Tiny (flushM d) := by
  have hl := layAll_len d.late (d.s0, d.s1)
  refine ⟨short_flush h.short, ?_, ?_, ?_⟩
  · unfold flushM
    split
    · rw [hl.1]; exact h.n0
    · simp [noDisk]
  · unfold flushM
    split
    · rw [hl.2]; exact h.n1
    · simp [noDisk]
  · unfold flushM
    split <;> simp [noDisk]

/-- A pick, seen from outside: the reader alone is turned. -/
theorem pick_op (g k m : Nat) (w : World) (hr : Rd w g k) (hk : k ≤ 1000000) (hm : m ≤ 2147483647) (hm0 : 0 < m) :
    Calls Tryd.prog 35 #[.pointer (some ⟨g, 0, none⟩), .int .i64 (m : Int)] w fun e w' => ∃ r : Nat, r < m ∧ e = .returned (.int .i64 (r : Int)) ∧ w.grownBy w' (some g) ∧ Rd w' g (k + 1) := by
  refine (pick_any g k m w hr hk hm).mono ?_
  rintro e w' ⟨r, q, h, rfl, rfl⟩
  exact ⟨r, by omega, rfl, grown_pick (World.grownBy.refl w (some g)) _ q, hr.next q⟩
theorem box_grownG {w w' : World} {b g : Nat} {vs : List Value} (h : Box w b vs) (hg : w.grownBy w' (some g)) (hb : b ≠ g) : Box w' b vs := h.kept (hg.block b h.lt (fun e => hb (Option.some.inj e)))
theorem DiskOwn.grownG {w w' : World} {C g : Nat} {v0 v1 vl : Value} {d : DiskM} (h : DiskOwn w C v0 v1 vl d) (hg : w.grownBy w' (some g)) (hC : g < C) : DiskOwn w' C v0 v1 vl d := h.kept fun b hb hc => hg.block b hb (fun e => by have := Option.some.inj e; omega)
theorem grown_trans {a b c : World} {g : Nat} (h : a.grownBy b (some g)) (k : b.grownBy c (some g)) : a.grownBy c (some g) :=
  ⟨k.os.trans h.os, k.tape.trans h.tape, k.output.trans h.output, Nat.le_trans h.size k.size, fun i hi hne => (k.block i (Nat.lt_of_lt_of_le hi h.size) hne).trans (h.block i hi hne)⟩
theorem grown_below {a b c : World} {g : Nat} (h : a.grownBy b (some g)) (k : Below b.heap.size b c) : a.grownBy c (some g) :=
  ⟨k.os.trans h.os, k.tape.trans h.tape, k.output.trans h.output, Nat.le_trans h.size k.size, fun i hi hne => (k.block i (Nat.lt_of_lt_of_le hi h.size)).trans (h.block i hi hne)⟩
theorem Rd.below {w w' : World} {g k : Nat} (h : Rd w g k) (hb : Below w.heap.size w w') : Rd w' g k := h.kept fun b hb' => hb.block b (by have := h.lt; omega)

/-- What holds while a disk is drawn into the box x. -/
structure LD (w wr : World) (g x kk : Nat) (u0 u1 ul : Value) (d : DiskM) : Prop where
  xr : Box wr w.heap.size [.slice none 0 0, .slice none 0 0, .slice none 0 0]
  xo : Box wr x [u0, u1, ul]
  own : DiskOwn wr (w.heap.size + 1) u0 u1 ul d
  nx : ¬ DTurns u0 u1 ul x
  hx : w.heap.size + 1 ≤ x
  rd : Rd wr g kk
  gr : w.grownBy wr (some g)
  tiny : Tiny d
  hg : g < w.heap.size
theorem LD.grown {w wr w2 : World} {g x kk k2 : Nat} {u0 u1 ul : Value} {d : DiskM} (h : LD w wr g x kk u0 u1 ul d) (hg : wr.grownBy w2 (some g)) (hr : Rd w2 g k2) : LD w w2 g x k2 u0 u1 ul d :=
  ⟨box_grownG h.xr hg (by have := h.hg; omega), box_grownG h.xo hg (by have := h.hg; have := h.hx; omega), h.own.grownG hg (by have := h.hg; omega), h.nx, h.hx, hr, grown_trans h.gr hg, h.tiny, h.hg⟩
theorem LD.below {w wr w2 : World} {g x kk : Nat} {u0 u1 ul : Value} {d : DiskM} (h : LD w wr g x kk u0 u1 ul d) (hb : Below wr.heap.size wr w2) : LD w w2 g x kk u0 u1 ul d :=
  ⟨h.xr.below hb h.xr.lt, h.xo.below hb h.xo.lt, h.own.below hb, h.nx, h.hx, h.rd.below hb, grown_below h.gr hb, h.tiny, h.hg⟩
theorem grown_set {a b : World} {g x : Nat} (h : a.grownBy b (some g)) (hx : a.heap.size ≤ x) (j : Nat) (u : Value) : a.grownBy (b.setCell ⟨x, j, none⟩ u) (some g) :=
  ⟨h.os, h.tape, h.output, by simpa [World.setCell] using h.size, fun i hi hne => (Below.heap_setCell b _ u i (by simp; omega)).trans (h.block i hi hne)⟩
/-- Another disk laid into the box. -/
theorem LD.put {w wr : World} {g x kk : Nat} {u0 u1 ul s0 s1 sl : Value} {d d' : DiskM} (h : LD w wr g x kk u0 u1 ul d) (ho : DiskOwn wr (w.heap.size + 1) s0 s1 sl d') (nx : ¬ DTurns s0 s1 sl x) (ht : Tiny d') :
    LD w (((wr.setCell ⟨x, 0, none⟩ s0).setCell ⟨x, 1, none⟩ s1).setCell ⟨x, 2, none⟩ sl) g x kk s0 s1 sl d' := by
  have hx := h.hx
  have hg := h.hg
  refine ⟨((h.xr.other (by simp; omega) _).other (by simp; omega) _).other (by simp; omega) _, ((h.xo.set 0 s0).set 1 s1).set 2 sl, ?_, nx, hx, ?_, grown_set (grown_set (grown_set h.gr (by omega) 0 s0) (by omega) 1 s1) (by omega) 2 sl, ht, hg⟩
  · have hk : ∀ b, b ≠ x → (((wr.setCell ⟨x, 0, none⟩ s0).setCell ⟨x, 1, none⟩ s1).setCell ⟨x, 2, none⟩ sl).heap[b]? = wr.heap[b]? := fun b hb => by
      rw [Below.heap_setCell _ _ _ _ hb, Below.heap_setCell _ _ _ _ hb, Below.heap_setCell _ _ _ _ hb]
    exact ⟨own_kept ho.o0 fun b e => hk b (fun e' => nx (Or.inl (e' ▸ e))), own_kept ho.o1 fun b e => hk b (fun e' => nx (Or.inr (Or.inl (e' ▸ e)))), own_kept ho.ol fun b e => hk b (fun e' => nx (Or.inr (Or.inr (e' ▸ e)))), ho.p01, ho.p0l, ho.p1l⟩
  · refine h.rd.kept fun b hb => ?_
    rw [Below.heap_setCell _ _ _ _ (by simp; omega), Below.heap_setCell _ _ _ _ (by simp; omega), Below.heap_setCell _ _ _ _ (by simp; omega)]
end Go.Proofs.YtfacbjldpenpjaaDoor

/-
  spec's l2Disk: a drawn disk.
-/
set_option maxRecDepth 100000
namespace Go.Proofs.YtfacbjldpenpjaaDoor
open Go.ChangeShapes Go.WideShapes Go.ChangeAt Go.RowKit Go.Proofs.Palim

def DrawnD (w : World) (g : Nat) (e : Ending) (w' : World) : Prop :=
  ∃ (d : DiskM) (v0 v1 vl : Value) (k' : Nat), e = .returned (.agg #[v0, v1, vl]) ∧ DiskOwn w' w.heap.size v0 v1 vl d ∧ DiskShort d ∧ k' ≤ 5000 ∧ w.grownBy w' (some g) ∧ Rd w' g k'
theorem pick_2 (g k : Nat) (w : World) (hr : Rd w g k) (hk : k ≤ 1000000) :
    Calls Tryd.prog 35 #[.pointer (some ⟨g, 0, none⟩), .int .i64 2] w fun e w' => ∃ r : Nat, r < 2 ∧ e = .returned (.int .i64 (r : Int)) ∧ w.grownBy w' (some g) ∧ Rd w' g (k + 1) := pick_op g k 2 w hr hk (by omega) (by omega)
theorem pick_6 (g k : Nat) (w : World) (hr : Rd w g k) (hk : k ≤ 1000000) :
    Calls Tryd.prog 35 #[.pointer (some ⟨g, 0, none⟩), .int .i64 6] w fun e w' => ∃ r : Nat, r < 6 ∧ e = .returned (.int .i64 (r : Int)) ∧ w.grownBy w' (some g) ∧ Rd w' g (k + 1) := pick_op g k 6 w hr hk (by omega) (by omega)
theorem pick_8 (g k : Nat) (w : World) (hr : Rd w g k) (hk : k ≤ 1000000) :
    Calls Tryd.prog 35 #[.pointer (some ⟨g, 0, none⟩), .int .i64 8] w fun e w' => ∃ r : Nat, r < 8 ∧ e = .returned (.int .i64 (r : Int)) ∧ w.grownBy w' (some g) ∧ Rd w' g (k + 1) := pick_op g k 8 w hr hk (by omega) (by omega)
theorem pick_14 (g k : Nat) (w : World) (hr : Rd w g k) (hk : k ≤ 1000000) :
    Calls Tryd.prog 35 #[.pointer (some ⟨g, 0, none⟩), .int .i64 14] w fun e w' => ∃ r : Nat, r < 14 ∧ e = .returned (.int .i64 (r : Int)) ∧ w.grownBy w' (some g) ∧ Rd w' g (k + 1) := pick_op g k 14 w hr hk (by omega) (by omega)
theorem pick_20 (g k : Nat) (w : World) (hr : Rd w g k) (hk : k ≤ 1000000) :
    Calls Tryd.prog 35 #[.pointer (some ⟨g, 0, none⟩), .int .i64 20] w fun e w' => ∃ r : Nat, r < 20 ∧ e = .returned (.int .i64 (r : Int)) ∧ w.grownBy w' (some g) ∧ Rd w' g (k + 1) := pick_op g k 20 w hr hk (by omega) (by omega)
theorem pick_24 (g k : Nat) (w : World) (hr : Rd w g k) (hk : k ≤ 1000000) :
    Calls Tryd.prog 35 #[.pointer (some ⟨g, 0, none⟩), .int .i64 24] w fun e w' => ∃ r : Nat, r < 24 ∧ e = .returned (.int .i64 (r : Int)) ∧ w.grownBy w' (some g) ∧ Rd w' g (k + 1) := pick_op g k 24 w hr hk (by omega) (by omega)

/-- A disk in a box of its own, beside the one that is drawn. -/
structure Beside (w wx : World) (X N : Nat) (s0 s1 sl : Value) (r : DiskM) : Prop where
  box : Box wx N [s0, s1, sl]
  own : DiskOwn wx (w.heap.size + 1) s0 s1 sl r
  nx : ¬ DTurns s0 s1 sl X
  ne : N ≠ X
  tiny : Tiny r
theorem LD.set {w wr : World} {g x kk N : Nat} {u0 u1 ul : Value} {d : DiskM} (h : LD w wr g x kk u0 u1 ul d) (hN : x < N) (hn : ¬ DTurns u0 u1 ul N) (hg : g < N) (j : Nat) (v : Value) : LD w (wr.setCell ⟨N, j, none⟩ v) g x kk u0 u1 ul d := by
  have hx := h.hx
  have hk : ∀ b, b ≠ N → (wr.setCell ⟨N, j, none⟩ v).heap[b]? = wr.heap[b]? := fun b hb => Below.heap_setCell _ _ _ _ hb
  refine ⟨h.xr.other (by simp; omega) v, h.xo.other (by simp; omega) v, ⟨own_kept h.own.o0 fun b e => hk b (fun e' => hn (Or.inl (e' ▸ e))), own_kept h.own.o1 fun b e => hk b (fun e' => hn (Or.inr (Or.inl (e' ▸ e)))), own_kept h.own.ol fun b e => hk b (fun e' => hn (Or.inr (Or.inr (e' ▸ e)))), h.own.p01, h.own.p0l, h.own.p1l⟩, h.nx, h.hx, h.rd.kept fun b hb => hk b (by omega), grown_set h.gr (by omega) j v, h.tiny, h.hg⟩
theorem stored {w wr : World} {g x kk N : Nat} {u0 u1 ul s0 s1 sl : Value} {d r : DiskM} {cs : List Value} (h : LD w wr g x kk u0 u1 ul d) (ho : DiskOwn wr (w.heap.size + 1) s0 s1 sl r) (hsx : ¬ DTurns s0 s1 sl x) (hnx : ¬ DTurns s0 s1 sl N) (hb : Box wr N cs) (hN : x < N ∧ g < N) (hT : Tiny r) (hcs : cs.length = 3 := by rfl) (hn : ¬ DTurns u0 u1 ul N := by assumption) :
    LD w (((wr.setCell ⟨N, 0, none⟩ s0).setCell ⟨N, 1, none⟩ s1).setCell ⟨N, 2, none⟩ sl) g x kk u0 u1 ul d ∧ Beside w (((wr.setCell ⟨N, 0, none⟩ s0).setCell ⟨N, 1, none⟩ s1).setCell ⟨N, 2, none⟩ sl) x N s0 s1 sl r := by
  have hk : ∀ b, b ≠ N → (((wr.setCell ⟨N, 0, none⟩ s0).setCell ⟨N, 1, none⟩ s1).setCell ⟨N, 2, none⟩ sl).heap[b]? = wr.heap[b]? := fun b hb => by
    rw [Below.heap_setCell _ _ _ _ hb, Below.heap_setCell _ _ _ _ hb, Below.heap_setCell _ _ _ _ hb]
  refine ⟨((h.set hN.1 hn hN.2 0 s0).set hN.1 hn hN.2 1 s1).set hN.1 hn hN.2 2 sl, ?_, ⟨own_kept ho.o0 fun b e => hk b (fun e' => hnx (Or.inl (e' ▸ e))), own_kept ho.o1 fun b e => hk b (fun e' => hnx (Or.inr (Or.inl (e' ▸ e)))), own_kept ho.ol fun b e => hk b (fun e' => hnx (Or.inr (Or.inr (e' ▸ e)))), ho.p01, ho.p0l, ho.p1l⟩, hsx, by omega, hT⟩
  match cs, hcs with
  | [a, b, c], _ => exact ((hb.set 0 s0).set 1 s1).set 2 sl

/-- A drawn disk at last, in the box X. -/
structure Fin (w W : World) (g X kk : Nat) (v0 v1 vl : Value) (d : DiskM) : Prop where
  xr : Box W w.heap.size [.slice none 0 0, .slice none 0 0, .slice none 0 0]
  xo : Box W X [v0, v1, vl]
  own : DiskOwn W (w.heap.size + 1) v0 v1 vl d
  rd : Rd W g kk
  gr : w.grownBy W (some g)
  short : DiskShort d
  hg : g < w.heap.size
  hx : w.heap.size + 1 ≤ X
theorem LD.fin {w wr : World} {g x kk : Nat} {u0 u1 ul : Value} {d : DiskM} (h : LD w wr g x kk u0 u1 ul d) : Fin w wr g x kk u0 u1 ul d := ⟨h.xr, h.xo, h.own, h.rd, h.gr, h.tiny.short, h.hg, h.hx⟩
/-- It is handed back. -/
theorem Fin.back {w W : World} {g X kk : Nat} {v0 v1 vl : Value} {d : DiskM} (h : Fin w W g X kk v0 v1 vl d) (hk : kk ≤ 5000) : DrawnD w g (.returned (.agg #[v0, v1, vl])) (((W.setCell ⟨w.heap.size, 0, none⟩ v0).setCell ⟨w.heap.size, 1, none⟩ v1).setCell ⟨w.heap.size, 2, none⟩ vl) := by
  have hg := h.hg
  refine ⟨d, v0, v1, vl, kk, rfl, (h.own.set3 (by simp) (by simp) (by simp)).base (by omega), h.short, hk, grown_set (grown_set (grown_set h.gr (by omega) 0 v0) (by omega) 1 v1) (by omega) 2 vl, ?_⟩
  refine h.rd.kept fun b hb => ?_
  rw [Below.heap_setCell _ _ _ _ (by simp; omega), Below.heap_setCell _ _ _ _ (by simp; omega), Below.heap_setCell _ _ _ _ (by simp; omega)]
/-- Side 0 struck. -/
theorem LD.struck {w wr : World} {g x kk : Nat} {u0 u1 ul : Value} {d : DiskM} (h : LD w wr g x kk u0 u1 ul d) : Fin w (wr.setCell ⟨x, 0, none⟩ (.slice none 0 0)) g x kk (.slice none 0 0) u1 ul ⟨[], d.s1, d.late⟩ := by
  have hx := h.hx
  have hg := h.hg
  have hk : ∀ b, b ≠ x → (wr.setCell ⟨x, 0, none⟩ (.slice none 0 0)).heap[b]? = wr.heap[b]? := fun b hb => Below.heap_setCell _ _ _ _ hb
  have hs := h.tiny.short
  exact ⟨h.xr.other (by simp; omega) _, h.xo.set 0 _, ⟨⟨rfl, .inl ⟨rfl, rfl⟩⟩, own_kept h.own.o1 fun b e => hk b (fun e' => h.nx (Or.inr (Or.inl (e' ▸ e)))), own_kept h.own.ol fun b e => hk b (fun e' => h.nx (Or.inr (Or.inr (e' ▸ e)))), fun _ e => by simp [Value.ownBlock] at e, fun _ e => by simp [Value.ownBlock] at e, h.own.p1l⟩, h.rd.kept fun b hb => hk b (by omega), grown_set h.gr (by omega) 0 _, ⟨by simp, hs.n1, hs.nl, by simp, hs.z1, hs.zl⟩, hg, hx⟩
/-- One sector more on side 1. -/
theorem LD.more1 {w wr w3 : World} {g x kk gg cap n1 e1 : Nat} {u0 ul : Value} {U1 : Option Addr} {d : DiskM} {o : Obj} {t : ByteArray} (h : LD w wr g x kk u0 (.slice U1 n1 e1) ul d) (hn : d.s1.length = n1) (ht : t.size ≤ 1048576)
    (hw : w3.ownsRow (w.heap.size + 1) 9 1 (.slice (some ⟨gg, 0, none⟩) (n1 + 1) cap) (n1 + 1) (scs d.s1 ++ [.string t])) (hg : (wr.alloc o).grownBy w3 (Value.slice U1 n1 e1).ownBlock) (hat : (Value.slice U1 n1 e1).ownBlock = some gg ∨ gg = wr.heap.size + 1) :
    Box w3 x [u0, .slice U1 n1 e1, ul] ∧ Fin w (w3.setCell ⟨x, 1, none⟩ (.slice (some ⟨gg, 0, none⟩) (n1 + 1) cap)) g x kk u0 (.slice (some ⟨gg, 0, none⟩) (n1 + 1) cap) ul ⟨d.s0, d.s1 ++ [t], d.late⟩ := by
  have hx := h.hx
  have hgl := h.hg
  have hxl := h.xo.lt
  have hkeep : ∀ b, b < wr.heap.size → (Value.slice U1 n1 e1).ownBlock ≠ some b → w3.heap[b]? = wr.heap[b]? := fun b hb hne =>
    (hg.block b (by simp; omega) (fun e => hne e.symm)).trans (Below.heap_alloc wr o b hb)
  have hlow : ∀ b, b < w.heap.size + 1 → b < wr.heap.size → w3.heap[b]? = wr.heap[b]? := fun b hb hb2 => hkeep b hb2 (fun e => by have := (h.own.o1.lt b e).1; omega)
  have hgx : gg ≠ x := by
    rcases hat with e | e
    · intro e'; exact h.nx (Or.inr (Or.inl (by rw [e, e'])))
    · omega
  have o0 := own_kept h.own.o0 (w' := w3) fun b e => hkeep b (h.own.o0.lt b e).2 (fun e' => h.own.p01 b e e')
  have ol := own_kept h.own.ol (w' := w3) fun b e => hkeep b (h.own.ol.lt b e).2 (fun e' => h.own.p1l b e' e)
  have hs := h.tiny.short
  have hn1 := h.tiny.n1
  have hk : ∀ b, b ≠ x → (w3.setCell ⟨x, 1, none⟩ (.slice (some ⟨gg, 0, none⟩) (n1 + 1) cap)).heap[b]? = w3.heap[b]? := fun b hb => Below.heap_setCell _ _ _ _ hb
  have hxo : Box w3 x [u0, .slice U1 n1 e1, ul] := h.xo.kept (hkeep x hxl (fun e => h.nx (Or.inr (Or.inl e))))
  have hwr : w.heap.size < wr.heap.size := h.xr.lt
  refine ⟨hxo, (h.xr.kept (hlow _ (by omega) hwr)).other (by simp; omega) _, hxo.set 1 _, ⟨own_kept o0 fun b e => hk b (fun e' => h.nx (Or.inl (e' ▸ e))), ?_, own_kept ol fun b e => hk b (fun e' => h.nx (Or.inr (Or.inr (e' ▸ e)))), ?_, h.own.p0l, ?_⟩, ?_, ?_, ⟨hs.n0, by simp; omega, hs.nl, hs.z0, ?_, hs.zl⟩, hgl, hx⟩
  · have hl : (d.s1 ++ [t]).length = n1 + 1 := by simp [hn]
    show World.ownsRow _ _ _ _ _ (d.s1 ++ [t]).length (scs (d.s1 ++ [t]))
    rw [hl, scs_snoc]
    exact own_kept hw fun b e => hk b (fun e' => hgx ((by simpa [Value.ownBlock] using e : gg = b).trans e'))
  · intro b e e'
    have hbg : gg = b := by simpa [Value.ownBlock] using e'
    subst hbg
    rcases hat with h' | h'
    · exact h.own.p01 _ e h'
    · have := (h.own.o0.lt _ e).2; omega
  · intro b e e'
    have hbg : gg = b := by simpa [Value.ownBlock] using e
    subst hbg
    rcases hat with h' | h'
    · exact h.own.p1l _ h' e'
    · have := (h.own.ol.lt _ e').2; omega
  · exact h.rd.kept fun b hb => (hk b (by omega)).trans (hlow b (by omega) (by omega))
  · refine grown_set (a := w) ?_ (by omega) 1 _
    exact ⟨(hg.os.trans rfl).trans h.gr.os, (hg.tape.trans rfl).trans h.gr.tape, (hg.output.trans rfl).trans h.gr.output, Nat.le_trans h.gr.size (Nat.le_trans (by simp) hg.size), fun b hb hne => (hlow b (by omega) (by omega)).trans (h.gr.block b hb hne)⟩
  · intro s hs'
    rcases List.mem_append.1 hs' with h' | h'
    · exact hs.z1 s h'
    · obtain rfl := List.mem_singleton.1 h'; exact ht

/-- One late write more. -/
theorem LD.moreL {w wr w3 : World} {g x kk gg cap nl el : Nat} {u0 u1 : Value} {Ul : Option Addr} {d : DiskM} {o : Obj} {l : LateM} (h : LD w wr g x kk u0 u1 (.slice Ul nl el) d) (hn : d.late.length = nl) (ht : l.text.size ≤ 1048576)
    (hw : w3.ownsRow (w.heap.size + 1) 79 3 (.slice (some ⟨gg, 0, none⟩) (nl + 1) cap) (nl + 1) (lcs d.late ++ lc l)) (hg : (wr.alloc o).grownBy w3 (Value.slice Ul nl el).ownBlock) (hat : (Value.slice Ul nl el).ownBlock = some gg ∨ gg = wr.heap.size + 1) :
    Box w3 x [u0, u1, .slice Ul nl el] ∧ Fin w (w3.setCell ⟨x, 2, none⟩ (.slice (some ⟨gg, 0, none⟩) (nl + 1) cap)) g x kk u0 u1 (.slice (some ⟨gg, 0, none⟩) (nl + 1) cap) ⟨d.s0, d.s1, d.late ++ [l]⟩ := by
  have hx := h.hx
  have hgl := h.hg
  have hxl := h.xo.lt
  have hkeep : ∀ b, b < wr.heap.size → (Value.slice Ul nl el).ownBlock ≠ some b → w3.heap[b]? = wr.heap[b]? := fun b hb hne =>
    (hg.block b (by simp; omega) (fun e => hne e.symm)).trans (Below.heap_alloc wr o b hb)
  have hlow : ∀ b, b < w.heap.size + 1 → b < wr.heap.size → w3.heap[b]? = wr.heap[b]? := fun b hb hb2 => hkeep b hb2 (fun e => by have := (h.own.ol.lt b e).1; omega)
  have hgx : gg ≠ x := by
    rcases hat with e | e
    · intro e'; exact h.nx (Or.inr (Or.inr (by rw [e, e'])))
    · omega
  have o0 := own_kept h.own.o0 (w' := w3) fun b e => hkeep b (h.own.o0.lt b e).2 (fun e' => h.own.p0l b e e')
  have o1 := own_kept h.own.o1 (w' := w3) fun b e => hkeep b (h.own.o1.lt b e).2 (fun e' => h.own.p1l b e e')
  have hs := h.tiny.short
  have hnl := h.tiny.nl
  have hk : ∀ b, b ≠ x → (w3.setCell ⟨x, 2, none⟩ (.slice (some ⟨gg, 0, none⟩) (nl + 1) cap)).heap[b]? = w3.heap[b]? := fun b hb => Below.heap_setCell _ _ _ _ hb
  have hxo : Box w3 x [u0, u1, .slice Ul nl el] := h.xo.kept (hkeep x hxl (fun e => h.nx (Or.inr (Or.inr e))))
  have hwr : w.heap.size < wr.heap.size := h.xr.lt
  refine ⟨hxo, (h.xr.kept (hlow _ (by omega) hwr)).other (by simp; omega) _, hxo.set 2 _, ⟨own_kept o0 fun b e => hk b (fun e' => h.nx (Or.inl (e' ▸ e))), own_kept o1 fun b e => hk b (fun e' => h.nx (Or.inr (Or.inl (e' ▸ e)))), ?_, h.own.p01, ?_, ?_⟩, ?_, ?_, ⟨hs.n0, hs.n1, by simp; omega, hs.z0, hs.z1, ?_⟩, hgl, hx⟩
  · have hl : (d.late ++ [l]).length = nl + 1 := by simp [hn]
    show World.ownsRow _ _ _ _ _ (d.late ++ [l]).length (lcs (d.late ++ [l]))
    rw [hl, lcs_snoc]
    exact own_kept hw fun b e => hk b (fun e' => hgx ((by simpa [Value.ownBlock] using e : gg = b).trans e'))
  · intro b e e'
    have hbg : gg = b := by simpa [Value.ownBlock] using e'
    subst hbg
    rcases hat with h' | h'
    · exact h.own.p0l _ e h'
    · have := (h.own.o0.lt _ e).2; omega
  · intro b e e'
    have hbg : gg = b := by simpa [Value.ownBlock] using e'
    subst hbg
    rcases hat with h' | h'
    · exact h.own.p1l _ e h'
    · have := (h.own.o1.lt _ e).2; omega
  · exact h.rd.kept fun b hb => (hk b (by omega)).trans (hlow b (by omega) (by omega))
  · refine grown_set (a := w) ?_ (by omega) 2 _
    exact ⟨(hg.os.trans rfl).trans h.gr.os, (hg.tape.trans rfl).trans h.gr.tape, (hg.output.trans rfl).trans h.gr.output, Nat.le_trans h.gr.size (Nat.le_trans (by simp) hg.size), fun b hb hne => (hlow b (by omega) (by omega)).trans (h.gr.block b hb hne)⟩
  · intro s hs'
    rcases List.mem_append.1 hs' with h' | h'
    · exact hs.zl s h'
    · obtain rfl := List.mem_singleton.1 h'; exact ht
theorem heapN {w : World} {b : Nat} {o : Obj} (h : w.heap[b]? = some o) (o2 : Obj) : (w.alloc o2).heap[b]? = some o := (Below.heap_alloc w o2 b (Array.getElem?_eq_some_iff.1 h).1).trans h
theorem heapG {w w' : World} {b g : Nat} {o : Obj} (h : w.heap[b]? = some o) (hg : w.grownBy w' (some g)) (hne : b ≠ g) : w'.heap[b]? = some o := (hg.block b (Array.getElem?_eq_some_iff.1 h).1 (fun e => hne (Option.some.inj e))).trans h

/-- Behind the write of a round: the box N holds the disk written. -/
def Wrote (w : World) (g X k : Nat) (u0 u1 ul : Value) (d : DiskM) (s5 : Value) (wx : World) : Prop :=
  ∃ N s0 s1 sl r k2, s5 = .pointer (some ⟨N, 0, none⟩) ∧ k2 ≤ k + 9 ∧ Hid (LD w wx g X k2 u0 u1 ul d) ∧ Hid (Beside w wx X N s0 s1 sl r)

end Go.Proofs.YtfacbjldpenpjaaDoor

/-
  impl's DiskOpen: two sides of empty sectors, or no disk.
-/
set_option maxRecDepth 100000
namespace Go.Proofs.YtfacbjldpenpjaaDoor
open Go.ChangeShapes Go.WideShapes Go.ChangeAt Go.RowKit Go.Proofs.Palim

/-- After the three stores of a disk into a box of the call's own. -/
theorem Below.set3 {B : Nat} {w w' : World} (h : Below B w w') {b : Nat} (hb : B ≤ b) (x y z : Value) : Below B w (((w'.setCell ⟨b, 0, none⟩ x).setCell ⟨b, 1, none⟩ y).setCell ⟨b, 2, none⟩ z) :=
  ((h.setCell (p := ⟨b, 0, none⟩) hb x).setCell (p := ⟨b, 1, none⟩) hb y).setCell (p := ⟨b, 2, none⟩) hb z

end Go.Proofs.YtfacbjldpenpjaaDoor

/-
  spec's DrawDiskWrite: a disk, a sector and a text are drawn (hD: what l2Disk hands back).
-/
set_option maxRecDepth 100000
namespace Go.Proofs.YtfacbjldpenpjaaDoor
open Go.ChangeShapes Go.WideShapes Go.ChangeAt Go.RowKit Go.Proofs.Palim

theorem pickW2 (g k : Nat) (w : World) (hr : Rd w g k) (hk : k ≤ 1000000) :
    Calls Tryd.prog 35 #[.pointer (some ⟨g, 0, none⟩), .int .i64 2] w fun e w' => ∃ r : Nat, r < 2 ∧ e = .returned (.int .i64 (r : Int)) ∧ w.grownBy w' (some g) ∧ Rd w' g (k + 1) := pick_op g k 2 w hr hk (by omega) (by omega)
theorem pickW8 (g k : Nat) (w : World) (hr : Rd w g k) (hk : k ≤ 1000000) :
    Calls Tryd.prog 35 #[.pointer (some ⟨g, 0, none⟩), .int .i64 8] w fun e w' => ∃ r : Nat, r < 8 ∧ e = .returned (.int .i64 (r : Int)) ∧ w.grownBy w' (some g) ∧ Rd w' g (k + 1) := pick_op g k 8 w hr hk (by omega) (by omega)
theorem pickW20 (g k : Nat) (w : World) (hr : Rd w g k) (hk : k ≤ 1000000) :
    Calls Tryd.prog 35 #[.pointer (some ⟨g, 0, none⟩), .int .i64 20] w fun e w' => ∃ r : Nat, r < 20 ∧ e = .returned (.int .i64 (r : Int)) ∧ w.grownBy w' (some g) ∧ Rd w' g (k + 1) := pick_op g k 20 w hr hk (by omega) (by omega)
/-- A disk is drawn, and lies in the box x; the reader is g, the result's box is the first made. -/
structure WD (w wr : World) (g x k : Nat) (v0 v1 vl : Value) (d : DiskM) : Prop where
  xr : Box wr w.heap.size [.slice none 0 0, .slice none 0 0, .slice none 0 0]
  xo : Box wr x [v0, v1, vl]
  own : DiskOwn wr (g + 1) v0 v1 vl d
  rd : Rd wr g k
  bl : Below w.heap.size w wr
  hg : w.heap.size < g
  hx : g < x
  short : DiskShort d
theorem WD.lt {w wr : World} {g x k : Nat} {v0 v1 vl : Value} {d : DiskM} (h : WD w wr g x k v0 v1 vl d) : w.heap.size < x := Nat.lt_trans h.hg h.hx
theorem WD.grown {w wr w2 : World} {g x k k2 : Nat} {v0 v1 vl : Value} {d : DiskM} (h : WD w wr g x k v0 v1 vl d) (hg : wr.grownBy w2 (some g)) (hr : Rd w2 g k2) : WD w w2 g x k2 v0 v1 vl d :=
  ⟨box_grownG h.xr hg (Nat.ne_of_lt h.hg), box_grownG h.xo hg (Nat.ne_of_gt h.hx), h.own.grownG hg (Nat.lt_succ_self _), hr, h.bl.grown hg h.bl.size (fun k e => by injection e with e; have := h.hg; omega), h.hg, h.hx, h.short⟩
theorem WD.below {w wr w2 : World} {g x k : Nat} {v0 v1 vl : Value} {d : DiskM} (h : WD w wr g x k v0 v1 vl d) (hb : Below wr.heap.size wr w2) : WD w w2 g x k v0 v1 vl d :=
  ⟨h.xr.below hb h.xr.lt, h.xo.below hb h.xo.lt, h.own.below hb, h.rd.below hb, h.bl.trans (hb.mono h.bl.size), h.hg, h.hx, h.short⟩
theorem WD.back {w wr : World} {g x k : Nat} {v0 v1 vl : Value} {d : DiskM} (h : WD w wr g x k v0 v1 vl d) (side at_ : Int) (t : ByteArray) (ht : t.size ≤ 1000) :
    Box (((wr.setCell ⟨w.heap.size, 0, none⟩ v0).setCell ⟨w.heap.size, 1, none⟩ v1).setCell ⟨w.heap.size, 2, none⟩ vl) x [v0, v1, vl] ∧
    DrawnW w (.returned (.tuple #[.agg #[v0, v1, vl], .int .i64 side, .int .i64 at_, .string t])) (((wr.setCell ⟨w.heap.size, 0, none⟩ v0).setCell ⟨w.heap.size, 1, none⟩ v1).setCell ⟨w.heap.size, 2, none⟩ vl) := by
  have hg := h.hg
  have hx := h.lt
  refine ⟨((h.xo.other (by simp; omega) _).other (by simp; omega) _).other (by simp; omega) _, d, side, at_, t, v0, v1, vl, rfl, (h.own.set3 (by simp; omega) (by simp; omega) (by simp; omega)).base (by omega), h.short, ht, Below.set3 h.bl (Nat.le_refl _) _ _ _⟩

end Go.Proofs.YtfacbjldpenpjaaDoor

/-
  When a core is right: what it is, and where its cells lie.
-/
import Derived.Test.YtobjgdnmlibofaaGreatCoreCnt
import Derived.Test.YtobjgdnmlibofaaGreatCoreV
import Derived.Test.YtobjgdnmlibofaaGreatBookName
import Derived.Test.YtobjgdnmlibofaaGreatDdtOk
import Derived.Deep.RegionHeld3
set_option maxRecDepth 100000
namespace Go.Proofs.YtobjgdnmlibofaaGreat
open Go.ChangeShapes Go.WideShapes Go.ChangeAt Go.RowKit Go.Proofs.Palim

/-- The first k places are places, ascending. -/
def GoodP (ls : List Int) (k : Nat) : Prop := ∀ (j : Nat) (h : j < ls.length), j < k → (13 ≤ ls[j] ∧ ls[j] < 120) ∧ ∀ (_ : 0 < j), (ls[j - 1]'(by omega)) < ls[j]
def PlacesM (ls : List Int) : Prop := GoodP ls ls.length
noncomputable instance (ls : List Int) : Decidable (PlacesM ls) := Classical.propDecidable _
theorem goodP_succ {ls : List Int} {k : Nat} (h : GoodP ls k) (hk : k < ls.length) (h1 : 13 ≤ ls[k] ∧ ls[k] < 120) (h2 : ∀ (_ : 0 < k), (ls[k - 1]'(by omega)) < ls[k]) : GoodP ls (k + 1) := by
  intro j hj hjk
  by_cases e : j = k
  · subst e; exact ⟨h1, h2⟩
  · exact h j hj (by omega)
def PartsM (ls : List PtrM) : Prop := ∀ p ∈ ls, GoodM p
instance (ls : List PtrM) : Decidable (PartsM ls) := by unfold PartsM; infer_instance
def SetOkC (x : CSetM) : Prop := NameOk x.name ∧ (x.frm.size = 0 ∨ NameOk x.frm) ∧ (1 ≤ x.kind ∧ x.kind ≤ 2) ∧ PtrOkM x.home ∧ ∀ p ∈ x.map, PtrOkM p
instance (x : CSetM) : Decidable (SetOkC x) := by unfold SetOkC; infer_instance
abbrev emB : ByteArray := ⟨#[]⟩
def nameM (x : CSetM) : SetM := ⟨x.name, x.kind, x.frm, emB, emB, emB, emB, emB, emB, emB, emB⟩
def namesM (ls : List CSetM) : List SetM := ls.map nameM
theorem namesM_length (ls : List CSetM) : (namesM ls).length = ls.length := by simp [namesM]
def ptsM (ls : List CSetM) : List PtrM := ls.flatMap (·.map)
def CountsM (c : CoreM) : Prop := (∀ e ∈ c.ddt, (cntM (ptsM c.sets) e.at_ : Int) = e.count) ∧ allM c.ddt = (liveM (ptsM c.sets) : Nat)
def SumsM (c : CoreM) : Prop := ∀ p ∈ ptsM c.sets, 0 < p.at_ → ∃ e, findE c.ddt p.at_ = some e ∧ e.sum = p.sum
noncomputable instance (c : CoreM) : Decidable (CountsM c) := Classical.propDecidable _
noncomputable instance (c : CoreM) : Decidable (SumsM c) := Classical.propDecidable _
/-- A core is right. -/
def CoreOkM (c : CoreM) : Prop := (0 ≤ c.txg ∧ c.txg ≤ 1000000) ∧ DdtOkM c.ddt ∧ c.parts.length ≤ 8 ∧ PlacesM c.safe ∧ (0 ≤ c.logn ∧ c.logn ≤ 8) ∧ (∀ x ∈ c.sets, SetOkC x) ∧ PartsM c.parts ∧ BookOkM (namesM c.sets) ∧ CountsM c ∧ SumsM c
noncomputable instance (c : CoreM) : Decidable (CoreOkM c) := Classical.propDecidable _

theorem cc_map (x : CSetM) (i : Nat) (u : Value) (h : (pcs x.map)[i]? = some u) : (cc x)[3 + i]? = some u := by
  have hi := (List.getElem?_eq_some_iff.1 h).1
  unfold cc
  rw [List.append_assoc, List.getElem?_append_right (by simp [ch]), show 3 + i - (ch x).length = i by simp [ch], List.getElem?_append_left hi]
  exact h
theorem pcs_atD (ls : List PtrM) : ∀ (k : Nat) (h : k < ls.length) (j : Nat), j < 3 → (pcs ls)[k * 3 + j]? = (pc ls[k])[j]? := by
  induction ls with
  | nil => intro k h; simp at h
  | cons x ls ih =>
    intro k h j hj
    have e : pcs (x :: ls) = pc x ++ pcs ls := by simp [pcs]
    match k, h with
    | 0, _ =>
      rw [e, Nat.zero_mul, Nat.zero_add, List.getElem?_append_left (by simpa [pc] using hj)]
      simp
    | k + 1, h =>
      rw [e, List.getElem?_append_right (by simp [pc]; omega), show (pc x).length = 3 by rfl, show (k + 1) * 3 + j - 3 = k * 3 + j by omega, ih k (by simpa using h) j hj]
      simp
/-- A pointer's cells in a list of sets. -/
theorem pt_read {w : World} {ls : List CSetM} {b off : Nat} (hc : ∀ j u, (ccs ls)[j]? = some u → w.cell? ⟨b, off + j, none⟩ = some u) (k : Nat) (h : k < ls.length) (j : Nat) (hj : j < ls[k].map.length) :
    w.cell? ⟨b, off + k * 31 + 3 + j * 3, none⟩ = some (.int .i64 ls[k].map[j].at_) ∧ w.cell? ⟨b, off + k * 31 + 3 + j * 3 + 1, none⟩ = some (.int .i64 ls[k].map[j].sum) ∧ w.cell? ⟨b, off + k * 31 + 3 + j * 3 + 2, none⟩ = some (.int .i64 ls[k].map[j].birth) := by
  have hr := cset_read hc k h
  have hp : ∀ i, i < 3 → ∀ u, (pc ls[k].map[j])[i]? = some u → w.cell? ⟨b, off + k * 31 + 3 + j * 3 + i, none⟩ = some u := fun i hi u hu => by
    have h2 := cc_map ls[k] (j * 3 + i) u (by rw [pcs_atD _ j hj i hi]; exact hu)
    have h3 := hr _ _ h2
    rw [← h3]
    congr 2
    omega
  exact ⟨hp 0 (by omega) _ rfl, hp 1 (by omega) _ rfl, hp 2 (by omega) _ rfl⟩
/-- A set's first three cells in a list of sets. -/
theorem set_head {w : World} {ls : List CSetM} {b off : Nat} (hc : ∀ j u, (ccs ls)[j]? = some u → w.cell? ⟨b, off + j, none⟩ = some u) (k : Nat) (h : k < ls.length) :
    w.cell? ⟨b, off + k * 31, none⟩ = some (.string ls[k].name) ∧ w.cell? ⟨b, off + k * 31 + 1, none⟩ = some (.int .i64 ls[k].kind) ∧ w.cell? ⟨b, off + k * 31 + 2, none⟩ = some (.string ls[k].frm) := by
  have hr := cset_read hc k h
  exact ⟨hr 0 _ rfl, hr 1 _ rfl, hr 2 _ rfl⟩
theorem all8D (p : Nat → Prop) (h0 : p 0) (h1 : p 1) (h2 : p 2) (h3 : p 3) (h4 : p 4) (h5 : p 5) (h6 : p 6) (h7 : p 7) (k : Nat) (h : k < 8) : p k := by
  match k, h with
  | 0, _ => exact h0
  | 1, _ => exact h1
  | 2, _ => exact h2
  | 3, _ => exact h3
  | 4, _ => exact h4
  | 5, _ => exact h5
  | 6, _ => exact h6
  | 7, _ => exact h7
theorem eightD (ps : List PtrM) (h : ps.length = 8) : ∃ a b c d e f g i, ps = [a, b, c, d, e, f, g, i] := by
  match ps, h with
  | [a, b, c, d, e, f, g, i], _ => exact ⟨a, b, c, d, e, f, g, i, rfl⟩
theorem idxMapD (ps : List PtrM) (h8 : ps.length = 8) (k : Nat) (h : k < ps.length) (w : World) : (Instr.index 87 (.agg (pcs ps).toArray) (.int .i64 (k : Int))).run Tryz.prog w = .ok (pv ps[k]) w := by
  obtain ⟨a, b, c, d, e, f, g, i, rfl⟩ := eightD ps h8
  have h1 := all8D (fun k => (Instr.index 87 (.agg (pcs [a, b, c, d, e, f, g, i]).toArray) (.int .i64 (k : Int))).run Tryz.prog w = .ok (pv ([a, b, c, d, e, f, g, i].getD k a)) w)
    (by kernel_rfl) (by kernel_rfl) (by kernel_rfl) (by kernel_rfl) (by kernel_rfl) (by kernel_rfl) (by kernel_rfl) (by kernel_rfl) k h
  rw [show [a, b, c, d, e, f, g, i].getD k a = [a, b, c, d, e, f, g, i][k] from by rw [List.getD, List.getElem?_eq_getElem h]; rfl] at h1
  exact h1
end Go.Proofs.YtobjgdnmlibofaaGreat

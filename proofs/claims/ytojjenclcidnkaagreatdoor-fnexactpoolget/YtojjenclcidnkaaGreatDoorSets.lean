/-
  Texts joined into one.
-/
import Derived.Test.YtojjenclcidnkaaGreatDoorTab
import Derived.Test.YtojjenclcidnkaaGreatDoorData
import Derived.Test.YtojjenclcidnkaaGreatDoorDdtOk
import Derived.Deep.RegionHeld3
import Derived.Test.YtojjenclcidnkaaGreatDoorRoots
import Derived.Test.YtojjenclcidnkaaGreatDoorBase
import Derived.Test.YtojjenclcidnkaaGreatDoorApp
import Derived.BigQuiet

/-
  When a core is right: what it is, and where its cells lie.
-/
set_option maxRecDepth 100000
namespace Go.Proofs.YtojjenclcidnkaaGreatDoor
open Go.ChangeShapes Go.WideShapes Go.ChangeAt Go.RowKit Go.Proofs.Palim

/-- The first k places are places, ascending. -/
def GoodP (ls : List Int) (k : Nat) : Prop := ∀ (j : Nat) (h : j < ls.length), j < k → (13 ≤ ls[j] ∧ ls[j] < 120) ∧ ∀ (_ : 0 < j), (ls[j - 1]'(by omega)) < ls[j]
def PlacesM (ls : List Int) : Prop := GoodP ls ls.length
noncomputable instance (ls : List Int) : Decidable (PlacesM ls) := Classical.propDecidable _
theorem goodP_succ {ls : List Int} {k : Nat} (h : GoodP ls k) (hk : k < ls.length) (h1 : 13 ≤ ls[k] ∧ ls[k] < 120) (h2 : ∀ (_ : 0 < k), (ls[k - 1]'(by omega)) < ls[k]) : GoodP ls (k + 1) := by
  intro j hj hjk
  by_cases e : j = k
  · subst e; exact ⟨h1, h2⟩
  · exact h j hj (by omega)
def PartsM (ls : List PtrM) : Prop := ∀ p ∈ ls, GoodM p
instance (ls : List PtrM) : Decidable (PartsM ls) := by unfold PartsM; infer_instance
def SetOkC (x : CSetM) : Prop := NameOk x.name ∧ (x.frm.size = 0 ∨ NameOk x.frm) ∧ (1 ≤ x.kind ∧ x.kind ≤ 2) ∧ PtrOkM x.home ∧ ∀ p ∈ x.map, PtrOkM p
instance (x : CSetM) : Decidable (SetOkC x) := by unfold SetOkC; infer_instance
abbrev emB : ByteArray := ⟨#[]⟩
def nameM (x : CSetM) : SetM := ⟨x.name, x.kind, x.frm, emB, emB, emB, emB, emB, emB, emB, emB⟩
def namesM (ls : List CSetM) : List SetM := ls.map nameM
theorem namesM_length (ls : List CSetM) : (namesM ls).length = ls.length := by simp [namesM]
def ptsM (ls : List CSetM) : List PtrM := ls.flatMap (·.map)
def CountsM (c : CoreM) : Prop := (∀ e ∈ c.ddt, (cntM (ptsM c.sets) e.at_ : Int) = e.count) ∧ allM c.ddt = (liveM (ptsM c.sets) : Nat)
def SumsM (c : CoreM) : Prop := ∀ p ∈ ptsM c.sets, 0 < p.at_ → ∃ e, findE c.ddt p.at_ = some e ∧ e.sum = p.sum
noncomputable instance (c : CoreM) : Decidable (CountsM c) := Classical.propDecidable _
noncomputable instance (c : CoreM) : Decidable (SumsM c) := Classical.propDecidable _
/-- A core is right. -/
def CoreOkM (c : CoreM) : Prop := (0 ≤ c.txg ∧ c.txg ≤ 1000000) ∧ DdtOkM c.ddt ∧ c.parts.length ≤ 8 ∧ PlacesM c.safe ∧ (0 ≤ c.logn ∧ c.logn ≤ 8) ∧ (∀ x ∈ c.sets, SetOkC x) ∧ PartsM c.parts ∧ BookOkM (namesM c.sets) ∧ CountsM c ∧ SumsM c
noncomputable instance (c : CoreM) : Decidable (CoreOkM c) := Classical.propDecidable _

theorem cc_map (x : CSetM) (i : Nat) (u : Value) (h : (pcs x.map)[i]? = some u) : (cc x)[3 + i]? = some u := by
  have hi := (List.getElem?_eq_some_iff.1 h).1
  unfold cc
  rw [List.append_assoc, List.getElem?_append_right (by simp [ch]), show 3 + i - (ch x).length = i by simp [ch], List.getElem?_append_left hi]
  exact h
theorem pcs_atD (ls : List PtrM) : ∀ (k : Nat) (h : k < ls.length) (j : Nat), j < 3 → (pcs ls)[k * 3 + j]? = (pc ls[k])[j]? := by
  induction ls with
  | nil => intro k h; simp at h
  | cons x ls ih =>
    intro k h j hj
    have e : pcs (x :: ls) = pc x ++ pcs ls := by simp [pcs]
    match k, h with
    | 0, _ =>
      rw [e, Nat.zero_mul, Nat.zero_add, List.getElem?_append_left (by simpa [pc] using hj)]
      simp
    | k + 1, h =>
      rw [e, List.getElem?_append_right (by simp [pc]; omega), show (pc x).length = 3 by rfl, show (k + 1) * 3 + j - 3 = k * 3 + j by omega, ih k (by simpa using h) j hj]
      simp
/-- A pointer's cells in a list of sets. -/
theorem pt_read {w : World} {ls : List CSetM} {b off : Nat} (hc : ∀ j u, (ccs ls)[j]? = some u → w.cell? ⟨b, off + j, none⟩ = some u) (k : Nat) (h : k < ls.length) (j : Nat) (hj : j < ls[k].map.length) :
    w.cell? ⟨b, off + k * 31 + 3 + j * 3, none⟩ = some (.int .i64 ls[k].map[j].at_) ∧ w.cell? ⟨b, off + k * 31 + 3 + j * 3 + 1, none⟩ = some (.int .i64 ls[k].map[j].sum) ∧ w.cell? ⟨b, off + k * 31 + 3 + j * 3 + 2, none⟩ = some (.int .i64 ls[k].map[j].birth) := by
  have hr := cset_read hc k h
  have hp : ∀ i, i < 3 → ∀ u, (pc ls[k].map[j])[i]? = some u → w.cell? ⟨b, off + k * 31 + 3 + j * 3 + i, none⟩ = some u := fun i hi u hu => by
    have h2 := cc_map ls[k] (j * 3 + i) u (by rw [pcs_atD _ j hj i hi]; exact hu)
    have h3 := hr _ _ h2
    rw [← h3]
    congr 2
    omega
  exact ⟨hp 0 (by omega) _ rfl, hp 1 (by omega) _ rfl, hp 2 (by omega) _ rfl⟩
/-- A set's first three cells in a list of sets. -/
theorem set_head {w : World} {ls : List CSetM} {b off : Nat} (hc : ∀ j u, (ccs ls)[j]? = some u → w.cell? ⟨b, off + j, none⟩ = some u) (k : Nat) (h : k < ls.length) :
    w.cell? ⟨b, off + k * 31, none⟩ = some (.string ls[k].name) ∧ w.cell? ⟨b, off + k * 31 + 1, none⟩ = some (.int .i64 ls[k].kind) ∧ w.cell? ⟨b, off + k * 31 + 2, none⟩ = some (.string ls[k].frm) := by
  have hr := cset_read hc k h
  exact ⟨hr 0 _ rfl, hr 1 _ rfl, hr 2 _ rfl⟩
theorem all8D (p : Nat → Prop) (h0 : p 0) (h1 : p 1) (h2 : p 2) (h3 : p 3) (h4 : p 4) (h5 : p 5) (h6 : p 6) (h7 : p 7) (k : Nat) (h : k < 8) : p k := by
  match k, h with
  | 0, _ => exact h0
  | 1, _ => exact h1
  | 2, _ => exact h2
  | 3, _ => exact h3
  | 4, _ => exact h4
  | 5, _ => exact h5
  | 6, _ => exact h6
  | 7, _ => exact h7
theorem eightD (ps : List PtrM) (h : ps.length = 8) : ∃ a b c d e f g i, ps = [a, b, c, d, e, f, g, i] := by
  match ps, h with
  | [a, b, c, d, e, f, g, i], _ => exact ⟨a, b, c, d, e, f, g, i, rfl⟩
theorem idxMapD (ps : List PtrM) (h8 : ps.length = 8) (k : Nat) (h : k < ps.length) (w : World) : (Instr.index 68 (.agg (pcs ps).toArray) (.int .i64 (k : Int))).run Tryz.prog w = .ok (pv ps[k]) w := by
  obtain ⟨a, b, c, d, e, f, g, i, rfl⟩ := eightD ps h8
  have h1 := all8D (fun k => (Instr.index 68 (.agg (pcs [a, b, c, d, e, f, g, i]).toArray) (.int .i64 (k : Int))).run Tryz.prog w = .ok (pv ([a, b, c, d, e, f, g, i].getD k a)) w)
    (by kernel_rfl) (by kernel_rfl) (by kernel_rfl) (by kernel_rfl) (by kernel_rfl) (by kernel_rfl) (by kernel_rfl) (by kernel_rfl) k h
  rw [show [a, b, c, d, e, f, g, i].getD k a = [a, b, c, d, e, f, g, i][k] from by rw [List.getD, List.getElem?_eq_getElem h]; rfl] at h1
  exact h1
end Go.Proofs.YtojjenclcidnkaaGreatDoor

/-
  The document's counting of pointers: l6Refs, l6Counts, l6Sums.
-/
set_option maxRecDepth 100000
namespace Go.Proofs.YtojjenclcidnkaaGreatDoor
open Go.ChangeShapes Go.WideShapes Go.ChangeAt Go.RowKit Go.Proofs.Palim

theorem ptsM_snoc {ls : List CSetM} {k : Nat} (h : k < ls.length) : ptsM (ls.take (k + 1)) = ptsM (ls.take k) ++ ls[k].map := by
  unfold ptsM
  rw [List.take_succ_eq_append_getElem h, List.flatMap_append]
  simp
theorem ptsM_len : ∀ ls : List CSetM, (ptsM ls).length = ls.length * 8
  | [] => rfl
  | x :: ls => by
    have := ptsM_len ls
    unfold ptsM at this ⊢
    rw [List.flatMap_cons, List.length_append, x.h8, this, List.length_cons]
    omega
theorem take_snoc {α : Type} {l : List α} {j : Nat} (h : j < l.length) (P : List α) : P ++ l.take (j + 1) = (P ++ l.take j) ++ [l[j]] := by rw [List.take_succ_eq_append_getElem h, List.append_assoc]
theorem cnt_le (P : List PtrM) (a : Int) : cntM P a ≤ P.length := List.countP_le_length
theorem live_le (P : List PtrM) : liveM P ≤ P.length := List.countP_le_length
theorem cnt_snoc (P : List PtrM) (p : PtrM) (a : Int) : cntM (P ++ [p]) a = cntM P a + if p.at_ = a then 1 else 0 := by rw [cnt_append, cnt_cons]; rfl
theorem live_snoc (P : List PtrM) (p : PtrM) : liveM (P ++ [p]) = liveM P + if 0 < p.at_ then 1 else 0 := by
  unfold liveM
  rw [List.countP_append, List.countP_cons]
  by_cases h : 0 < p.at_ <;> simp [h]
theorem CoreR.drew' {w : World} {vs vd vp vi : Value} {c : CoreM} (h : CoreR w vs vd vp vi c) : CoreR w.drew vs vd vp vi c := ⟨h.s, h.d, h.p, h.i, h.ls, h.ld, h.lp, h.li⟩
theorem aggCoreD : Agg Tryz.prog 45 7 := ⟨Tryz.isAgg45, Tryz.sizeOf45⟩

set_option maxHeartbeats 4000000 in
theorem refs_any (vs vd vp vi : Value) (c : CoreM) (a : Int) (w : World) (h : CoreR w vs vd vp vi c) (hs : CoreShort c) (ha : 0 < a) :
    Calls Tryz.prog 128 #[cv c vs vd vp vi, .int .i64 a] w fun e w' => e = .returned (.int .i64 (cntM (ptsM c.sets) a : Nat)) ∧ Below w.heap.size w w' := by
  obtain ⟨txg, sets, ddt, parts, dirty, safe, logn⟩ := c
  obtain ⟨A0, k0, A1, k1, A2, k2, A3, k3, e0, e1, e2, e3⟩ := h.forms
  dsimp only at e0 e1 e2 e3
  subst e0 e1 e2 e3
  have HRR := Lib.hid h
  have HS := Lib.hid h.s
  have HLS := Lib.hid h.ls
  have HD := Lib.hid h.d
  have HLD := Lib.hid h.ld
  obtain ⟨n, HL⟩ : ∃ n, Hid (sets.length = n) := ⟨_, Lib.hid rfl⟩
  obtain ⟨nd, HLDT⟩ : ∃ nd, Hid (ddt.length = nd) := ⟨_, Lib.hid rfl⟩
  have hln : n ≤ 1048576 := HL.out ▸ hs.s
  have hck := h.s.le
  clear h hs
  dsimp only at HS HLS HD HLD hck
  rw [HL.out] at HS HLS hck
  rw [HLDT.out] at HD HLD
  unfold maxLen at hck
  have XC := Lib.hid (show Box _ w.heap.size [.int .i64 txg, .slice A0 n k0, .slice A1 nd k1, .slice A2 parts.length k2, .bool dirty, .slice A3 safe.length k3, .int .i64 logn] from box_new w #[.int .i64 txg, .slice A0 n k0, .slice A1 nd k1, .slice A2 parts.length k2, .bool dirty, .slice A3 safe.length k3, .int .i64 logn] 45)
  have B0 := Lib.hid (Below.new1 (w := w) (.cells #[.int .i64 txg, .slice A0 n k0, .slice A1 nd k1, .slice A2 parts.length k2, .bool dirty, .slice A3 safe.length k3, .int .i64 logn] 45))
  obtain ⟨R, HR⟩ : ∃ R : Nat, Hid (cntM (ptsM sets) a = R) := ⟨_, Lib.hid rfl⟩
  simp only
  rw [HR.out]
  have had : decide (a > 0) = true := decide_eq_true ha
  go_enter Tryz.func128, Tryz.ntmps128
  go_upto_region 1 with fail
  rw [HL.out, HLDT.out]
  obtain ⟨W0, HWE⟩ : ∃ W0, w.alloc (.cells #[.int .i64 txg, .slice A0 n k0, .slice A1 nd k1, .slice A2 parts.length k2, .bool dirty, .slice A3 safe.length k3, .int .i64 logn] 45) = W0 := ⟨_, rfl⟩
  rw [HWE] at XC B0 ⊢
  clear HWE
  have n1 := XC.out.cell 1 rfl
  go_wp2
  go_loop [5, 6, 7] (fun r i _ => ∃ (k m : Nat), k ≤ n ∧ i = .int .i64 k ∧ r = .int .i64 m ∧ m ≤ 8 * k ∧ Hid (cntM (ptsM (sets.take k)) a = m)) (fun _ i _ => n - (RowKit.intOf i).toNat)
  case atStart => exact ⟨0, 0, Nat.zero_le _, rfl, rfl, Nat.le_refl _, Lib.hid rfl⟩
  case round =>
    obtain ⟨k, m, hk, rfl, rfl, hm8, HM⟩ := hrel
    by_cases hlt : k < n
    case pos =>
      have hl0 : k < sets.length := by rw [HL.out]; exact hlt
      obtain ⟨b, off, c', hvv, _, _, hcell⟩ := (HS.out.below B0.out HLS.out).form (by omega)
      injection hvv with e1 e2 e3
      subst e1 e3
      clear e2
      have hk1 : (k : Int) < (n : Int) := by omega
      have HC := Lib.hid hcell
      clear hcell
      go_wp2
      go_loop [5, 7] (fun r i => ∃ (j m : Nat), j ≤ 8 ∧ i = .int .i64 j ∧ r = .int .i64 m ∧ m ≤ 8 * k + j ∧ Hid (cntM (ptsM (sets.take k) ++ sets[k].map.take j) a = m)) (fun _ i => 8 - (RowKit.intOf i).toNat)
      case atStart => exact ⟨0, m, Nat.zero_le _, rfl, rfl, by omega, Lib.hid (by rw [List.take_zero, List.append_nil]; exact HM.out)⟩
      case round =>
        clear HM
        obtain ⟨j, m, hj, rfl, rfl, hmj, HM⟩ := hrel
        by_cases hj8 : j < 8
        case pos =>
          have hjl : j < sets[k].map.length := by rw [sets[k].h8]; exact hj8
          obtain ⟨g0, g1, g2⟩ := pt_read HC.out k hl0 j hjl
          have hj1 : (j : Int) < 8 := by omega
          have HT := Lib.hid (show cntM (ptsM (sets.take k) ++ sets[k].map.take (j + 1)) a = m + if sets[k].map[j].at_ = a then 1 else 0 from by rw [take_snoc hjl, cnt_snoc, HM.out])
          generalize sets[k].map[j].at_ = y at g0 HT
          clear g1 g2 hjl HM
          by_cases hy : y = a
          case pos =>
            have HT2 := Lib.hid (show cntM (ptsM (sets.take k) ++ sets[k].map.take (j + 1)) a = m + 1 from by rw [HT.out, if_pos hy])
            have hyq : (y == a) = true := by simpa using hy
            have hyd : decide (y = a) = true := by simpa using hy
            have hwr : IntKind.wrap .i64 ((m : Int) + 1) = ((m + 1 : Nat) : Int) := by rw [IntWalk.i64_in _ (by omega)]; omega
            clear HT hy
            go_wp2
            go_round
            case rel => exact ⟨j + 1, m + 1, by omega, by go_num, by first | rfl | go_num, by omega, HT2⟩
            case measure => simp [RowKit.intOf]; omega
          case neg =>
            have HT2 := Lib.hid (show cntM (ptsM (sets.take k) ++ sets[k].map.take (j + 1)) a = m from by rw [HT.out, if_neg hy]; rfl)
            have hyq : (y == a) = false := by simpa using hy
            have hyd : decide (y = a) = false := by simpa using hy
            clear HT hy
            go_wp2
            go_round
            case rel => exact ⟨j + 1, m, by omega, by go_num, rfl, by omega, HT2⟩
            case measure => simp [RowKit.intOf]; omega
        case neg =>
          have HT2 := Lib.hid (show cntM (ptsM (sets.take (k + 1))) a = m from by
            have e : sets[k].map.take j = sets[k].map := List.take_of_length_le (by rw [sets[k].h8]; omega)
            rw [ptsM_snoc hl0, ← HM.out, e])
          have hjj : ¬ (j : Int) < 8 := by omega
          clear HM
          go_wp2
          go_round
          case rel => exact ⟨k + 1, m, by omega, by go_num, rfl, by omega, HT2⟩
          case measure => simp [RowKit.intOf]; omega
    case neg =>
      have HF := Lib.hid (show m = R from by rw [← HR.out, ← HM.out, List.take_of_length_le (by rw [HL.out]; omega)])
      go_wp2
      go_ret
      have hF := HF.out
      subst hF
      first
        | exact ⟨rfl, B0.out⟩
        | exact ⟨by rw [← HR.out], B0.out⟩
        | exact ⟨by simp only [HR.out], B0.out⟩
theorem refs_is (vs vd vp vi : Value) (c : CoreM) (a : Int) (r : Nat) (w : World) (h : CoreR w vs vd vp vi c) (hs : CoreShort c) (ha : 0 < a) (hr : cntM (ptsM c.sets) a = r) :
    Calls Tryz.prog 128 #[cv c vs vd vp vi, .int .i64 a] w fun e w' => e = .returned (.int .i64 r) ∧ Below w.heap.size w w' := hr ▸ refs_any vs vd vp vi c a w h hs ha

theorem allM_snoc (ls : List EntM) (x : EntM) : allM (ls ++ [x]) = allM ls + x.count := by
  unfold allM
  rw [List.map_append, List.sum_append]
  simp
theorem all_bound : ∀ ls : List EntM, (∀ e ∈ ls, EntOkM e) → 0 ≤ allM ls ∧ allM ls ≤ 1000 * ls.length
  | [], _ => by simp [allM]
  | x :: ls, h => by
    have ih := all_bound ls (fun e he => h e (List.mem_cons_of_mem _ he))
    obtain ⟨_, _, _, _, o5, o6⟩ := h x (by simp)
    have e : allM (x :: ls) = x.count + allM ls := by simp [allM]
    rw [e, List.length_cons]
    omega

set_option maxHeartbeats 8000000 in
theorem specCounts_any (vs vd vp vi : Value) (c : CoreM) (w : World) (h : CoreR w vs vd vp vi c) (hs : CoreShort c) (hdok : DdtOkM c.ddt) :
    Calls Tryz.prog 94 #[cv c vs vd vp vi] w fun e w' => e = .returned (.bool (decide (CountsM c))) ∧ Below w.heap.size w w' := by
  obtain ⟨ok, HOK⟩ : ∃ ok, Hid (decide (CountsM c) = ok) := ⟨_, Lib.hid rfl⟩
  rw [HOK.out]
  have HSH := Lib.hid hs
  have HDK := Lib.hid hdok
  obtain ⟨txg, sets, ddt, parts, dirty, safe, logn⟩ := c
  obtain ⟨A0, k0, A1, k1, A2, k2, A3, k3, e0, e1, e2, e3⟩ := h.forms
  dsimp only at e0 e1 e2 e3
  subst e0 e1 e2 e3
  have HRR := Lib.hid h
  have HS := Lib.hid h.s
  have HLS := Lib.hid h.ls
  have HD := Lib.hid h.d
  have HLD := Lib.hid h.ld
  obtain ⟨n, HL⟩ : ∃ n, Hid (sets.length = n) := ⟨_, Lib.hid rfl⟩
  obtain ⟨nd, HLDT⟩ : ∃ nd, Hid (ddt.length = nd) := ⟨_, Lib.hid rfl⟩
  have hln : n ≤ 1048576 := HL.out ▸ hs.s
  have hck := h.s.le
  clear h hs
  dsimp only at HS HLS HD HLD hck
  rw [HL.out] at HS HLS hck
  rw [HLDT.out] at HD HLD
  unfold maxLen at hck
  have XC := Lib.hid (show Box _ w.heap.size [.int .i64 txg, .slice A0 n k0, .slice A1 nd k1, .slice A2 parts.length k2, .bool dirty, .slice A3 safe.length k3, .int .i64 logn] from box_new w #[.int .i64 txg, .slice A0 n k0, .slice A1 nd k1, .slice A2 parts.length k2, .bool dirty, .slice A3 safe.length k3, .int .i64 logn] 45)
  have B0 := Lib.hid (Below.new1 (w := w) (.cells #[.int .i64 txg, .slice A0 n k0, .slice A1 nd k1, .slice A2 parts.length k2, .bool dirty, .slice A3 safe.length k3, .int .i64 logn] 45))
  have hnd48 : nd ≤ 48 := HLDT.out ▸ hdok.1
  have HKO := Lib.hid (show ∀ e ∈ ddt, EntOkM e from fun e he => by
    obtain ⟨i, hi, rfl⟩ := List.mem_iff_getElem.1 he
    exact (hdok.2 i hi hi).1)
  clear hdok
  have HC2 := Lib.hid (show CoreR w (.slice A0 n k0) (.slice A1 nd k1) (.slice A2 parts.length k2) (.slice A3 safe.length k3) ⟨txg, sets, ddt, parts, dirty, safe, logn⟩ from by
    have := HRR.out
    simp only [HL.out, HLDT.out] at this
    exact this)
  go_enter Tryz.func94, Tryz.ntmps94
  go_upto_region 1 with fail
  rw [HL.out, HLDT.out]
  obtain ⟨W0, HWE⟩ : ∃ W0, w.alloc (.cells #[.int .i64 txg, .slice A0 n k0, .slice A1 nd k1, .slice A2 parts.length k2, .bool dirty, .slice A3 safe.length k3, .int .i64 logn] 45) = W0 := ⟨_, rfl⟩
  rw [HWE] at XC B0 ⊢
  clear HWE
  have n1 := XC.out.cell 1 rfl
  have n2 := XC.out.cell 2 rfl
  have HD0 := Lib.hid (HD.out.below B0.out HLD.out)
  have HS0 := Lib.hid (HS.out.below B0.out HLS.out)
  have HC0 := Lib.hid (HC2.out.below B0.out)
  have hlW := XC.out.lt
  go_wp2
  clear n1 n2
  go_loopw [3, 4] (fun al i wr => ∃ (k : Nat) (s : Int), k ≤ nd ∧ i = .int .i64 k ∧ al = .int .i64 s ∧ Hid (allM (ddt.take k) = s) ∧ Hid (Below W0.heap.size W0 wr) ∧ Hid (∀ (j : Nat) (h : j < ddt.length), j < k → (cntM (ptsM sets) ddt[j].at_ : Int) = ddt[j].count)) (fun _ i _ => nd - (RowKit.intOf i).toNat)
  case atStart => exact ⟨0, 0, Nat.zero_le _, rfl, rfl, Lib.hid rfl, Lib.hid (Below.refl _ _), Lib.hid (fun j _ h => absurd h (Nat.not_lt_zero _))⟩
  case round =>
    obtain ⟨k, s, hk, rfl, rfl, HA, HB, HG⟩ := hrel
    have HX := Lib.hid (XC.out.below HB.out hlW)
    have n1 := HX.out.cell 1 rfl
    have n2 := HX.out.cell 2 rfl
    by_cases hlt : k < nd
    case pos =>
      have hl0 : k < ddt.length := by rw [HLDT.out]; exact hlt
      obtain ⟨b, off, c', hvv, _, _, hcell⟩ := (HD0.out.below HB.out (fun b e => Nat.lt_of_lt_of_le (HLD.out b e) B0.out.size)).form (by omega)
      injection hvv with e1 e2 e3
      subst e1 e3
      clear e2
      obtain ⟨g0, g1, g2⟩ := ent_read hcell k hl0
      have hk1 : (k : Int) < (nd : Int) := by omega
      have HBS := Lib.hid (show ¬ (cntM (ptsM sets) ddt[k].at_ : Int) = ddt[k].count → false = ok from fun h => HOK.out ▸ (decide_eq_false (fun c => h (c.1 _ (List.getElem_mem hl0)))).symm)
      have HGS := Lib.hid (show (cntM (ptsM sets) ddt[k].at_ : Int) = ddt[k].count → ∀ (j : Nat) (h : j < ddt.length), j < k + 1 → (cntM (ptsM sets) ddt[j].at_ : Int) = ddt[j].count from fun hg j hj hjk => by
        by_cases e : j = k
        · subst e; exact hg
        · exact HG.out j hj (by omega))
      have HA2 := Lib.hid (show allM (ddt.take (k + 1)) = s + ddt[k].count from by rw [List.take_succ_eq_append_getElem hl0, allM_snoc, HA.out])
      have hab := all_bound (ddt.take (k + 1)) (fun e he => HKO.out e (List.mem_of_mem_take he))
      rw [HA2.out, List.length_take] at hab
      have hpos := (HKO.out _ (List.getElem_mem hl0)).2.2.1
      generalize ddt[k] = y at g0 g1 g2 HBS HGS HA2 hab hpos
      obtain ⟨r, HCN⟩ : ∃ r : Nat, Hid (cntM (ptsM sets) y.at_ = r) := ⟨_, Lib.hid rfl⟩
      rw [HCN.out] at HBS HGS
      have hwr : IntKind.wrap .i64 (s + y.count) = s + y.count := IntWalk.i64_in _ (by omega)
      have hbl : b < W0.heap.size := Nat.lt_of_lt_of_le (HLD.out b rfl) B0.out.size
      clear HA HG hl0 hcell hab
      by_cases hry : (r : Int) = y.count
      case neg =>
        have HF := Lib.hid (HBS.out hry)
        have hq1 : ((r : Int) != y.count) = true := by simpa using hry
        have hq2 : ((r : Int) == y.count) = false := by simpa using hry
        have hq3 : decide ((r : Int) = y.count) = false := by simpa using hry
        clear hry HBS HGS
        go_wp2_with fail
        refine wp_region_held_drew (S := fun w' => Box w' w.heap.size [.int .i64 txg, .slice A0 n k0, .slice (some ⟨b, off, none⟩) nd k1, .slice A2 parts.length k2, .bool dirty, .slice A3 safe.length k3, .int .i64 logn] ∧ w'.cell? ⟨b, off + k * 3 + 1, none⟩ = some (.int .i64 y.at_) ∧ w'.cell? ⟨b, off + k * 3 + 2, none⟩ = some (.int .i64 y.count)) (by kernel_rfl) ⟨HX.out, g1, g2⟩ (fun hHeld => ?_)
        refine wpAnyH_take (i := 0) (v := .agg ([.int .i64 txg, .slice A0 n k0, .slice (some ⟨b, off, none⟩) nd k1, .slice A2 parts.length k2, .bool dirty, .slice A3 safe.length k3, .int .i64 logn] : List Value).toArray) rfl (by kernel_rfl) (by kernel_rfl) (by kernel_rfl) (fun _ _ _ h => h) (Or.inl ⟨by first | kernel_rfl | rfl, fun w' hSw => exec_load_cs (b := w.heap.size) (off := 0) _ rfl aggCoreD (by kernel_rfl) _ rfl hSw.1.cells⟩) (by assumption) ?_
        try simp only [Act.put]
        refine wpAnyH_take (i := 1) (v := ?_) rfl (by kernel_rfl) (by kernel_rfl) (by kernel_rfl) (fun _ _ _ h => h) (Or.inl ⟨by first | kernel_rfl | rfl, ?_⟩) (by assumption) ?_
        rotate_left
        · (intro w' hSw; have hSc := hSw.1.cell 2 rfl; have hS1 := hSw.2.1; have hS2 := hSw.2.2; clear hSw; go_simp; try with_reducible rfl)
        try simp only [Act.put]
        refine wpAnyH_take (i := 2) (v := ?_) rfl (by kernel_rfl) (by kernel_rfl) (by kernel_rfl) (fun _ _ _ h => h) (Or.inl ⟨by first | kernel_rfl | rfl, ?_⟩) (by assumption) ?_
        rotate_left
        · (intro w' hSw; have hSc := hSw.1.cell 2 rfl; have hS1 := hSw.2.1; have hS2 := hSw.2.2; clear hSw; go_simp; try with_reducible rfl)
        try simp only [Act.put]
        refine wpAnyH_take (i := 3) (v := ?_) rfl (by kernel_rfl) (by kernel_rfl) (by kernel_rfl) (fun _ _ _ h => h) (Or.inl ⟨by first | kernel_rfl | rfl, ?_⟩) (by assumption) ?_
        rotate_left
        · (intro w' hSw; have hSc := hSw.1.cell 2 rfl; have hS1 := hSw.2.1; have hS2 := hSw.2.2; clear hSw; go_simp; try with_reducible rfl)
        try simp only [Act.put]
        refine wpAnyH_take (i := 4) (v := ?_) rfl (by kernel_rfl) (by kernel_rfl) (by kernel_rfl) (fun _ _ _ h => h) (Or.inl ⟨by first | kernel_rfl | rfl, ?_⟩) (by assumption) ?_
        rotate_left
        · (intro w' hSw; have hSc := hSw.1.cell 2 rfl; have hS1 := hSw.2.1; have hS2 := hSw.2.2; clear hSw; go_simp; try with_reducible rfl)
        try simp only [Act.put]
        refine wpAnyH_take (i := 5) (v := ?_) rfl (by kernel_rfl) (by kernel_rfl) (by kernel_rfl) (fun _ _ _ h => h) (Or.inl ⟨by first | kernel_rfl | rfl, ?_⟩) (by assumption) ?_
        rotate_left
        · (intro w' hSw; have hSc := hSw.1.cell 2 rfl; have hS1 := hSw.2.1; have hS2 := hSw.2.2; clear hSw; go_simp; try with_reducible rfl)
        try simp only [Act.put]
        refine wpAnyH_take (i := 6) (v := ?_) rfl (by kernel_rfl) (by kernel_rfl) (by kernel_rfl) (fun _ _ _ h => h) (Or.inl ⟨by first | kernel_rfl | rfl, ?_⟩) (by assumption) ?_
        rotate_left
        · (intro w' hSw; have hSc := hSw.1.cell 2 rfl; have hS1 := hSw.2.1; have hS2 := hSw.2.2; clear hSw; go_simp; try with_reducible rfl)
        try simp only [Act.put]
        refine wpAnyH_take (i := 8) (v := ?_) rfl (by kernel_rfl) (by kernel_rfl) (by kernel_rfl) (fun _ _ _ h => h) (Or.inl ⟨by first | kernel_rfl | rfl, ?_⟩) (by assumption) ?_
        rotate_left
        · (intro w' hSw; have hSc := hSw.1.cell 2 rfl; have hS1 := hSw.2.1; have hS2 := hSw.2.2; clear hSw; go_simp; try with_reducible rfl)
        try simp only [Act.put]
        refine wpAnyH_take (i := 9) (v := ?_) rfl (by kernel_rfl) (by kernel_rfl) (by kernel_rfl) (fun _ _ _ h => h) (Or.inl ⟨by first | kernel_rfl | rfl, ?_⟩) (by assumption) ?_
        rotate_left
        · (intro w' hSw; have hSc := hSw.1.cell 2 rfl; have hS1 := hSw.2.1; have hS2 := hSw.2.2; clear hSw; go_simp; try with_reducible rfl)
        try simp only [Act.put]
        refine wpAnyH_take (i := 10) (v := ?_) rfl (by kernel_rfl) (by kernel_rfl) (by kernel_rfl) (fun _ _ _ h => h) (Or.inl ⟨by first | kernel_rfl | rfl, ?_⟩) (by assumption) ?_
        rotate_left
        · (intro w' hSw; have hSc := hSw.1.cell 2 rfl; have hS1 := hSw.2.1; have hS2 := hSw.2.2; clear hSw; go_simp; try with_reducible rfl)
        try simp only [Act.put]
        refine wpAnyH_take (i := 11) (v := ?_) rfl (by kernel_rfl) (by kernel_rfl) (by kernel_rfl) (fun _ _ _ h => h) (Or.inl ⟨by first | kernel_rfl | rfl, ?_⟩) (by assumption) ?_
        rotate_left
        · (intro w' hSw; have hSc := hSw.1.cell 2 rfl; have hS1 := hSw.2.1; have hS2 := hSw.2.2; clear hSw; go_simp; try with_reducible rfl)
        try simp only [Act.put]
        refine wpAnyH_take (i := 12) (v := ?_) rfl (by kernel_rfl) (by kernel_rfl) (by kernel_rfl) (fun _ _ _ h => h) (Or.inl ⟨by first | kernel_rfl | rfl, ?_⟩) (by assumption) ?_
        rotate_left
        · (intro w' hSw; have hSc := hSw.1.cell 2 rfl; have hS1 := hSw.2.1; have hS2 := hSw.2.2; clear hSw; go_simp; try with_reducible rfl)
        try simp only [Act.put]
        refine wpAnyH_take (i := 13) (v := ?_) rfl (by kernel_rfl) (by kernel_rfl) (by kernel_rfl) (fun _ _ _ h => h) (Or.inl ⟨by first | kernel_rfl | rfl, ?_⟩) (by assumption) ?_
        rotate_left
        · (intro w' hSw; have hSc := hSw.1.cell 2 rfl; have hS1 := hSw.2.1; have hS2 := hSw.2.2; clear hSw; go_simp; try with_reducible rfl)
        try simp only [Act.put]
        refine wpAnyH_ready (rs := [7]) (by kernel_rfl) (by simp) ?_
        refine AllReadyH.cons rfl (fun K hK => ?_) AllReadyH.nil
        go_simp
        go_at_call 128
        refine (refs_is _ _ _ _ ⟨txg, sets, ddt, parts, dirty, safe, logn⟩ y.at_ r wr.drew (show CoreR wr.drew _ _ _ _ _ from (HC0.out.below HB.out).drew') HSH.out (by omega) HCN.out).mono ?_
        rintro e w3 ⟨rfl, hb3⟩
        have hb13 : Below wr.heap.size wr w3 := ((Below.refl _ wr).drew).trans hb3
        have hszr := HB.out.size
        have hbw : b < wr.heap.size := by omega
        have hlx := HX.out.lt
        go_wp2_with fail
        refine hK.out _ _ ⟨HX.out.below hb13 hlx, by rw [hb13.cell hbw]; exact g1, by rw [hb13.cell hbw]; exact g2⟩ (fun hHeld2 => ?_)
        clear hK K
        try simp only [Act.put]
        refine wpAnyH_take (i := 14) (v := ?_) rfl (by kernel_rfl) (by kernel_rfl) (by kernel_rfl) (fun _ _ _ h => h) (Or.inl ⟨by first | kernel_rfl | rfl, ?_⟩) (by assumption) ?_
        rotate_left
        · (intro w' hSw; clear hSw; go_simp; try with_reducible rfl)
        try simp only [Act.put]
        refine wpAnyH_done (by kernel_rfl) ?_ _
        go_simp
        clear hHeld hHeld2
        have HB3 := Lib.hid (HB.out.trans (hb13.mono HB.out.size))
        have HX3 := Lib.hid (HX.out.below hb13 hlx)
        have n2' := HX3.out.cell 2 rfl
        have g2' : w3.cell? ⟨b, off + k * 3 + 2, none⟩ = some (.int .i64 y.count) := by rw [hb13.cell hbw]; exact g2
        clear hb13 hb3 HB HX n1 n2 g0 g1 g2
        go_wp2
        go_ret
        exact ⟨ret_boolB HF.out, B0.out.trans (HB3.out.mono B0.out.size)⟩
      case pos =>
        have HG1 := Lib.hid (HGS.out hry)
        have hq1 : ((r : Int) != y.count) = false := by simpa using hry
        have hq2 : ((r : Int) == y.count) = true := by simpa using hry
        have hq3 : decide ((r : Int) = y.count) = true := by simpa using hry
        clear hry HBS HGS
        go_wp2_with fail
        refine wp_region_held_drew (S := fun w' => Box w' w.heap.size [.int .i64 txg, .slice A0 n k0, .slice (some ⟨b, off, none⟩) nd k1, .slice A2 parts.length k2, .bool dirty, .slice A3 safe.length k3, .int .i64 logn] ∧ w'.cell? ⟨b, off + k * 3 + 1, none⟩ = some (.int .i64 y.at_) ∧ w'.cell? ⟨b, off + k * 3 + 2, none⟩ = some (.int .i64 y.count)) (by kernel_rfl) ⟨HX.out, g1, g2⟩ (fun hHeld => ?_)
        refine wpAnyH_take (i := 0) (v := .agg ([.int .i64 txg, .slice A0 n k0, .slice (some ⟨b, off, none⟩) nd k1, .slice A2 parts.length k2, .bool dirty, .slice A3 safe.length k3, .int .i64 logn] : List Value).toArray) rfl (by kernel_rfl) (by kernel_rfl) (by kernel_rfl) (fun _ _ _ h => h) (Or.inl ⟨by first | kernel_rfl | rfl, fun w' hSw => exec_load_cs (b := w.heap.size) (off := 0) _ rfl aggCoreD (by kernel_rfl) _ rfl hSw.1.cells⟩) (by assumption) ?_
        try simp only [Act.put]
        refine wpAnyH_take (i := 1) (v := ?_) rfl (by kernel_rfl) (by kernel_rfl) (by kernel_rfl) (fun _ _ _ h => h) (Or.inl ⟨by first | kernel_rfl | rfl, ?_⟩) (by assumption) ?_
        rotate_left
        · (intro w' hSw; have hSc := hSw.1.cell 2 rfl; have hS1 := hSw.2.1; have hS2 := hSw.2.2; clear hSw; go_simp; try with_reducible rfl)
        try simp only [Act.put]
        refine wpAnyH_take (i := 2) (v := ?_) rfl (by kernel_rfl) (by kernel_rfl) (by kernel_rfl) (fun _ _ _ h => h) (Or.inl ⟨by first | kernel_rfl | rfl, ?_⟩) (by assumption) ?_
        rotate_left
        · (intro w' hSw; have hSc := hSw.1.cell 2 rfl; have hS1 := hSw.2.1; have hS2 := hSw.2.2; clear hSw; go_simp; try with_reducible rfl)
        try simp only [Act.put]
        refine wpAnyH_take (i := 3) (v := ?_) rfl (by kernel_rfl) (by kernel_rfl) (by kernel_rfl) (fun _ _ _ h => h) (Or.inl ⟨by first | kernel_rfl | rfl, ?_⟩) (by assumption) ?_
        rotate_left
        · (intro w' hSw; have hSc := hSw.1.cell 2 rfl; have hS1 := hSw.2.1; have hS2 := hSw.2.2; clear hSw; go_simp; try with_reducible rfl)
        try simp only [Act.put]
        refine wpAnyH_take (i := 4) (v := ?_) rfl (by kernel_rfl) (by kernel_rfl) (by kernel_rfl) (fun _ _ _ h => h) (Or.inl ⟨by first | kernel_rfl | rfl, ?_⟩) (by assumption) ?_
        rotate_left
        · (intro w' hSw; have hSc := hSw.1.cell 2 rfl; have hS1 := hSw.2.1; have hS2 := hSw.2.2; clear hSw; go_simp; try with_reducible rfl)
        try simp only [Act.put]
        refine wpAnyH_take (i := 5) (v := ?_) rfl (by kernel_rfl) (by kernel_rfl) (by kernel_rfl) (fun _ _ _ h => h) (Or.inl ⟨by first | kernel_rfl | rfl, ?_⟩) (by assumption) ?_
        rotate_left
        · (intro w' hSw; have hSc := hSw.1.cell 2 rfl; have hS1 := hSw.2.1; have hS2 := hSw.2.2; clear hSw; go_simp; try with_reducible rfl)
        try simp only [Act.put]
        refine wpAnyH_take (i := 6) (v := ?_) rfl (by kernel_rfl) (by kernel_rfl) (by kernel_rfl) (fun _ _ _ h => h) (Or.inl ⟨by first | kernel_rfl | rfl, ?_⟩) (by assumption) ?_
        rotate_left
        · (intro w' hSw; have hSc := hSw.1.cell 2 rfl; have hS1 := hSw.2.1; have hS2 := hSw.2.2; clear hSw; go_simp; try with_reducible rfl)
        try simp only [Act.put]
        refine wpAnyH_take (i := 8) (v := ?_) rfl (by kernel_rfl) (by kernel_rfl) (by kernel_rfl) (fun _ _ _ h => h) (Or.inl ⟨by first | kernel_rfl | rfl, ?_⟩) (by assumption) ?_
        rotate_left
        · (intro w' hSw; have hSc := hSw.1.cell 2 rfl; have hS1 := hSw.2.1; have hS2 := hSw.2.2; clear hSw; go_simp; try with_reducible rfl)
        try simp only [Act.put]
        refine wpAnyH_take (i := 9) (v := ?_) rfl (by kernel_rfl) (by kernel_rfl) (by kernel_rfl) (fun _ _ _ h => h) (Or.inl ⟨by first | kernel_rfl | rfl, ?_⟩) (by assumption) ?_
        rotate_left
        · (intro w' hSw; have hSc := hSw.1.cell 2 rfl; have hS1 := hSw.2.1; have hS2 := hSw.2.2; clear hSw; go_simp; try with_reducible rfl)
        try simp only [Act.put]
        refine wpAnyH_take (i := 10) (v := ?_) rfl (by kernel_rfl) (by kernel_rfl) (by kernel_rfl) (fun _ _ _ h => h) (Or.inl ⟨by first | kernel_rfl | rfl, ?_⟩) (by assumption) ?_
        rotate_left
        · (intro w' hSw; have hSc := hSw.1.cell 2 rfl; have hS1 := hSw.2.1; have hS2 := hSw.2.2; clear hSw; go_simp; try with_reducible rfl)
        try simp only [Act.put]
        refine wpAnyH_take (i := 11) (v := ?_) rfl (by kernel_rfl) (by kernel_rfl) (by kernel_rfl) (fun _ _ _ h => h) (Or.inl ⟨by first | kernel_rfl | rfl, ?_⟩) (by assumption) ?_
        rotate_left
        · (intro w' hSw; have hSc := hSw.1.cell 2 rfl; have hS1 := hSw.2.1; have hS2 := hSw.2.2; clear hSw; go_simp; try with_reducible rfl)
        try simp only [Act.put]
        refine wpAnyH_take (i := 12) (v := ?_) rfl (by kernel_rfl) (by kernel_rfl) (by kernel_rfl) (fun _ _ _ h => h) (Or.inl ⟨by first | kernel_rfl | rfl, ?_⟩) (by assumption) ?_
        rotate_left
        · (intro w' hSw; have hSc := hSw.1.cell 2 rfl; have hS1 := hSw.2.1; have hS2 := hSw.2.2; clear hSw; go_simp; try with_reducible rfl)
        try simp only [Act.put]
        refine wpAnyH_take (i := 13) (v := ?_) rfl (by kernel_rfl) (by kernel_rfl) (by kernel_rfl) (fun _ _ _ h => h) (Or.inl ⟨by first | kernel_rfl | rfl, ?_⟩) (by assumption) ?_
        rotate_left
        · (intro w' hSw; have hSc := hSw.1.cell 2 rfl; have hS1 := hSw.2.1; have hS2 := hSw.2.2; clear hSw; go_simp; try with_reducible rfl)
        try simp only [Act.put]
        refine wpAnyH_ready (rs := [7]) (by kernel_rfl) (by simp) ?_
        refine AllReadyH.cons rfl (fun K hK => ?_) AllReadyH.nil
        go_simp
        go_at_call 128
        refine (refs_is _ _ _ _ ⟨txg, sets, ddt, parts, dirty, safe, logn⟩ y.at_ r wr.drew (show CoreR wr.drew _ _ _ _ _ from (HC0.out.below HB.out).drew') HSH.out (by omega) HCN.out).mono ?_
        rintro e w3 ⟨rfl, hb3⟩
        have hb13 : Below wr.heap.size wr w3 := ((Below.refl _ wr).drew).trans hb3
        have hszr := HB.out.size
        have hbw : b < wr.heap.size := by omega
        have hlx := HX.out.lt
        go_wp2_with fail
        refine hK.out _ _ ⟨HX.out.below hb13 hlx, by rw [hb13.cell hbw]; exact g1, by rw [hb13.cell hbw]; exact g2⟩ (fun hHeld2 => ?_)
        clear hK K
        try simp only [Act.put]
        refine wpAnyH_take (i := 14) (v := ?_) rfl (by kernel_rfl) (by kernel_rfl) (by kernel_rfl) (fun _ _ _ h => h) (Or.inl ⟨by first | kernel_rfl | rfl, ?_⟩) (by assumption) ?_
        rotate_left
        · (intro w' hSw; clear hSw; go_simp; try with_reducible rfl)
        try simp only [Act.put]
        refine wpAnyH_done (by kernel_rfl) ?_ _
        go_simp
        clear hHeld hHeld2
        have HB3 := Lib.hid (HB.out.trans (hb13.mono HB.out.size))
        have HX3 := Lib.hid (HX.out.below hb13 hlx)
        have n2' := HX3.out.cell 2 rfl
        have g2' : w3.cell? ⟨b, off + k * 3 + 2, none⟩ = some (.int .i64 y.count) := by rw [hb13.cell hbw]; exact g2
        clear hb13 hb3 HB HX n1 n2 g0 g1 g2
        go_wp2
        go_roundw
        case rel => exact ⟨k + 1, s + y.count, by omega, by go_num, rfl, HA2, HB3, HG1⟩
        case measure => simp [RowKit.intOf]; omega
    case neg =>
      have HG1 := Lib.hid (show ∀ e ∈ ddt, (cntM (ptsM sets) e.at_ : Int) = e.count from fun e he => by
        obtain ⟨i, hi, rfl⟩ := List.mem_iff_getElem.1 he
        exact HG.out i hi (by have := HLDT.out; omega))
      have HA1 := Lib.hid (show allM ddt = s from by rw [← HA.out, List.take_of_length_le (by rw [HLDT.out]; omega)])
      have hsb := all_bound ddt HKO.out
      rw [HA1.out, HLDT.out] at hsb
      have HFIN := Lib.hid (show decide (s - (liveM (ptsM sets) : Nat) = 0) = ok from by
        rw [← HOK.out]
        by_cases e : s - (liveM (ptsM sets) : Nat) = 0
        · rw [decide_eq_true e, decide_eq_true (show CountsM _ from ⟨HG1.out, by show allM ddt = (liveM (ptsM sets) : Nat); rw [HA1.out]; omega⟩)]
        · rw [decide_eq_false e, decide_eq_false (fun c : CountsM ⟨txg, sets, ddt, parts, dirty, safe, logn⟩ => e (by have h2 : allM ddt = (liveM (ptsM sets) : Nat) := c.2; rw [HA1.out] at h2; omega))])
      have HSr := Lib.hid (HS0.out.below HB.out (fun b e => Nat.lt_of_lt_of_le (HLS.out b e) B0.out.size))
      have B1 := Lib.hid (B0.out.trans (HB.out.mono B0.out.size))
      have hkn : ¬ (k : Int) < (nd : Int) := by omega
      clear HA HG HB hlt HD0 HS0 HC0 XC B0
      go_wp2
      go_loop [3, 5, 6] (fun al i _ => ∃ (k m : Nat), k ≤ n ∧ i = .int .i64 k ∧ al = .int .i64 (s - (m : Int)) ∧ m ≤ 8 * k ∧ Hid (liveM (ptsM (sets.take k)) = m)) (fun _ i _ => n - (RowKit.intOf i).toNat)
      case atStart => exact ⟨0, 0, Nat.zero_le _, rfl, by simp, Nat.le_refl _, Lib.hid rfl⟩
      case round =>
        obtain ⟨k, m, hk, rfl, rfl, hm8, HM⟩ := hrel
        by_cases hlt : k < n
        case pos =>
          have hl0 : k < sets.length := by rw [HL.out]; exact hlt
          obtain ⟨b, off, c', hvv, _, _, hcell⟩ := HSr.out.form (by omega)
          injection hvv with e1 e2 e3
          subst e1 e3
          clear e2
          have hk1 : (k : Int) < (n : Int) := by omega
          have HC := Lib.hid hcell
          clear hcell
          go_wp2
          go_loop [3, 6] (fun al i => ∃ (j m : Nat), j ≤ 8 ∧ i = .int .i64 j ∧ al = .int .i64 (s - (m : Int)) ∧ m ≤ 8 * k + j ∧ Hid (liveM (ptsM (sets.take k) ++ sets[k].map.take j) = m)) (fun _ i => 8 - (RowKit.intOf i).toNat)
          case atStart => exact ⟨0, m, Nat.zero_le _, rfl, rfl, by omega, Lib.hid (by rw [List.take_zero, List.append_nil]; exact HM.out)⟩
          case round =>
            clear HM
            obtain ⟨j, m, hj, rfl, rfl, hmj, HM⟩ := hrel
            by_cases hj8 : j < 8
            case pos =>
              have hjl : j < sets[k].map.length := by rw [sets[k].h8]; exact hj8
              obtain ⟨g0, g1, g2⟩ := pt_read HC.out k hl0 j hjl
              have hj1 : (j : Int) < 8 := by omega
              have HT := Lib.hid (show liveM (ptsM (sets.take k) ++ sets[k].map.take (j + 1)) = m + if 0 < sets[k].map[j].at_ then 1 else 0 from by rw [take_snoc hjl, live_snoc, HM.out])
              generalize sets[k].map[j].at_ = y at g0 HT
              clear g1 g2 hjl HM
              by_cases hy : 0 < y
              case pos =>
                have HT2 := Lib.hid (show liveM (ptsM (sets.take k) ++ sets[k].map.take (j + 1)) = m + 1 from by rw [HT.out, if_pos hy])
                have hyd : y > 0 := hy
                have hwr : IntKind.wrap .i64 (s - (m : Int) - 1) = s - ((m + 1 : Nat) : Int) := by rw [IntWalk.i64_in _ (by omega)]; omega
                clear HT
                go_wp2
                go_round
                case rel => exact ⟨j + 1, m + 1, by omega, by go_num, by first | rfl | go_num, by omega, HT2⟩
                case measure => simp [RowKit.intOf]; omega
              case neg =>
                have HT2 := Lib.hid (show liveM (ptsM (sets.take k) ++ sets[k].map.take (j + 1)) = m from by rw [HT.out, if_neg hy]; rfl)
                have hyd : ¬ y > 0 := hy
                clear HT
                go_wp2
                go_round
                case rel => exact ⟨j + 1, m, by omega, by go_num, rfl, by omega, HT2⟩
                case measure => simp [RowKit.intOf]; omega
            case neg =>
              have HT2 := Lib.hid (show liveM (ptsM (sets.take (k + 1))) = m from by
                have e : sets[k].map.take j = sets[k].map := List.take_of_length_le (by rw [sets[k].h8]; omega)
                rw [ptsM_snoc hl0, ← HM.out, e])
              have hjj : ¬ (j : Int) < 8 := by omega
              clear HM
              go_wp2
              go_round
              case rel => exact ⟨k + 1, m, by omega, by go_num, rfl, by omega, HT2⟩
              case measure => simp [RowKit.intOf]; omega
        case neg =>
          have HF := Lib.hid (show decide (s - (m : Int) = 0) = ok from by
            rw [← HFIN.out, ← HM.out, List.take_of_length_le (by rw [HL.out]; omega)])
          have hqe : ((s - (m : Int)) == 0) = decide (s - (m : Int) = 0) := rfl
          go_wp2
          go_ret
          exact ⟨ret_boolB HF.out, B1.out⟩
theorem specCounts_is (vs vd vp vi : Value) (c : CoreM) (r : Bool) (w : World) (h : CoreR w vs vd vp vi c) (hs : CoreShort c) (hdok : DdtOkM c.ddt) (hr : decide (CountsM c) = r) :
    Calls Tryz.prog 94 #[cv c vs vd vp vi] w fun e w' => e = .returned (.bool r) ∧ Below w.heap.size w w' := hr ▸ specCounts_any vs vd vp vi c w h hs hdok
end Go.Proofs.YtojjenclcidnkaaGreatDoor

/-
  One more set in a book that is being made in a box.
-/
set_option maxRecDepth 100000
namespace Go.Proofs.YtojjenclcidnkaaGreatDoor
open Go.ChangeShapes Go.WideShapes Go.ChangeAt Go.RowKit Go.Proofs.Palim

structure NmMore (w w4 w5 w6 : World) (xb : Nat) (old new : Value) (k : Nat) (ys : List Value) : Prop where
  c0 : w5.cell? ⟨xb, 0, none⟩ = some old
  f0 : w5.frozen? ⟨xb, 0, none⟩ = false
  box : Box w6 xb [new]
  own : w6.ownsRow w.heap.size 97 11 new k ys
  below : Below w.heap.size w w6
  hi : ∀ b, new.ownBlock = some b → xb < b
  low : ∀ g, g < xb → w6.heap[g]? = w4.heap[g]?
  size : w4.heap.size ≤ w6.heap.size
theorem nm_more {w w4 w5 : World} {xb : Nat} {D A2 : Option Addr} {k cap cap2 : Nat} {ys : List Value} (hx : Box w4 xb [.slice D k cap]) (hg : w4.grownBy w5 (Value.slice D k cap).ownBlock) (hK : ∀ b, (Value.slice D k cap).ownBlock = some b → xb < b) (hB : Below w.heap.size w w4) (hxb : w.heap.size ≤ xb)
    (hown : w5.ownsRow w.heap.size 97 11 (.slice A2 (k + 1) cap2) (k + 1) ys) (hloc : (Value.slice A2 (k + 1) cap2).ownBlock = (Value.slice D k cap).ownBlock ∨ (Value.slice A2 (k + 1) cap2).ownBlock = some w4.heap.size) :
    NmMore w w4 w5 (w5.setCell ⟨xb, 0, none⟩ (.slice A2 (k + 1) cap2)) xb (.slice D k cap) (.slice A2 (k + 1) cap2) (k + 1) ys := by
  have hxl := hx.lt
  have hhi : ∀ b, (Value.slice A2 (k + 1) cap2).ownBlock = some b → xb < b := fun b e => by
    rcases hloc with h | h
    · rw [h] at e; exact hK b e
    · rw [h] at e; have := Option.some.inj e; omega
  have hkeep : ∀ g, g ≤ xb → w5.heap[g]? = w4.heap[g]? := fun g hgx => hg.block g (by omega) (fun e => by have := hK g e.symm; omega)
  have h5 := hx.kept (hkeep xb (Nat.le_refl _))
  refine ⟨h5.cell 0 rfl, h5.open_ 0, h5.set 0 _, own_kept hown (fun b e => Below.heap_setCell w5 _ _ b (fun e2 => by have := hhi b e; simp only at e2; omega)), ?_, hhi, fun g hgx => ?_, ?_⟩
  · exact (hB.grown hg hB.size (fun b e => by have := hK b e; omega)).setCell (p := ⟨xb, 0, none⟩) hxb _
  · rw [Below.heap_setCell w5 _ _ g (fun e2 => by simp only at e2; omega)]
    exact hkeep g (by omega)
  · have := hg.size
    simp [World.setCell]
    exact this
end Go.Proofs.YtojjenclcidnkaaGreatDoor

/-
  A set of the core by itself: impl.coreSetOk.
-/
set_option maxRecDepth 100000
namespace Go.Proofs.YtojjenclcidnkaaGreatDoor
open Go.ChangeShapes Go.WideShapes Go.ChangeAt Go.RowKit Go.Proofs.Palim

set_option maxHeartbeats 4000000 in
theorem implSet_any (x : CSetM) (w : World) (hz : x.name.size ≤ 1048576 ∧ x.frm.size ≤ 1048576) :
    Calls Tryz.prog 118 #[.agg (cc x).toArray] w fun e w' => e = .returned (.bool (decide (SetOkC x))) ∧ Below w.heap.size w w' := by
  have hnot : ∀ (x : Bool) (w : World), (Op.unary .not (.bool x)).run Tryz.prog w = .ok (.bool (!x)) w := fun _ _ => rfl
  obtain ⟨ok, HOK⟩ : ∃ ok, Hid (decide (SetOkC x) = ok) := ⟨_, Lib.hid rfl⟩
  rw [HOK.out]
  have hzn : x.name.size ≤ maxLen := by unfold maxLen; have := hz.1; omega
  have hzf : x.frm.size ≤ maxLen := by unfold maxLen; have := hz.2; omega
  have HZN := Lib.hid hzn
  have HZF := Lib.hid hzf
  have X0 := Lib.hid (show Box _ w.heap.size (cc x) from box_new w (cc x).toArray 70)
  have B0 := Lib.hid (Below.new1 (w := w) (.cells (cc x).toArray 70))
  clear hz hzn hzf
  have HBAD := Lib.hid (show ¬ SetOkC x → false = ok from fun h => HOK.out ▸ (decide_eq_false h).symm)
  have H8 := Lib.hid x.h8
  go_enter Tryz.func118, Tryz.ntmps118
  go_upto_region 1 with fail
  obtain ⟨W, HWE⟩ : ∃ W, w.alloc (.cells (cc x).toArray 70) = W := ⟨_, rfl⟩
  rw [HWE] at X0 B0 ⊢
  clear HWE
  obtain ⟨n0, n1, n2, -, -, -, -⟩ := ccBox (x := x) X0.out
  go_wp2_with fail
  refine (ImplBookName_any x.name _ HZN.out).mono ?_
  rintro e W ⟨rfl, rfl⟩
  have hb := Below.refl W.heap.size W
  have Y1 := Lib.hid (X0.out.below hb X0.out.lt)
  have B1 := Lib.hid (B0.out.trans (hb.mono B0.out.size))
  clear hb X0 B0 n0 n1 n2
  by_cases hnm : NameOk x.name
  case neg =>
    rw [decide_eq_false hnm]
    have HF := Lib.hid (HBAD.out (fun c => hnm c.1))
    clear hnm
    go_wp2
    go_ret
    exact ⟨ret_boolB HF.out, B1.out⟩
  case pos =>
  rw [decide_eq_true hnm]
  have HNM := Lib.hid hnm
  clear hnm
  obtain ⟨-, n1, n2, -, -, -, -⟩ := ccBox Y1.out
  by_cases hf0 : x.frm.size = 0
  case pos =>
    have hq := eqEmpty hf0
    have HF0 := Lib.hid hf0
    clear hf0
    obtain ⟨-, n1, -, n4, n5, n6, -⟩ := ccBox Y1.out
    by_cases hkd : 1 ≤ x.kind ∧ x.kind ≤ 2
    case neg =>
      have HF := Lib.hid (HBAD.out (fun c => hkd c.2.2.1))
      have hk2 : x.kind < 1 ∨ (¬ x.kind < 1 ∧ x.kind > 2) := by omega
      have hk3 : (x.kind != 1) = true := by simp; omega
      have hk4 : (x.kind != 2) = true := by simp; omega
      clear hkd
      go_wp2
      go_ret
      exact ⟨ret_boolB HF.out, B1.out⟩
    case pos =>
    have HKD := Lib.hid hkd
    have hk3 : ((x.kind != 1) = false ∧ True) ∨ ((x.kind != 1) = true ∧ (x.kind != 2) = false) := by
      rcases (show x.kind = 1 ∨ x.kind = 2 by omega) with h | h
      · exact Or.inl ⟨by simp [h], trivial⟩
      · exact Or.inr ⟨by simp [h], by simp [h]⟩
    clear hkd n4 n5 n6
    have HFIN := Lib.hid (show (∀ (j : Nat) (h : j < x.map.length), j < 8 → PtrOkM x.map[j]) → decide (PtrOkM x.home) = ok from fun hg => HOK.out ▸ (by
      have hm : ∀ p ∈ x.map, PtrOkM p := fun p hp => by
        obtain ⟨i, hi, rfl⟩ := List.mem_iff_getElem.1 hp
        exact hg i hi (by have := H8.out; omega)
      by_cases hho : PtrOkM x.home
      · rw [decide_eq_true hho]; exact (decide_eq_true (show SetOkC x from ⟨HNM.out, Or.inl HF0.out, HKD.out, hho, hm⟩)).symm
      · rw [decide_eq_false hho]; exact (decide_eq_false (fun c : SetOkC x => hho c.2.2.2.1)).symm))
    rcases hk3 with ⟨hk3, -⟩ | ⟨hk3, hk4⟩
    all_goals
      go_wp2_with (refine wpList_load_cs rfl _ rfl aggMap rfl (pcs x.map) (cmap_len x) (Box.part (p := ch x) (m := pcs x.map) (q := pc x.home ++ [.bool x.dirty]) Y1.out 3 rfl) ?_)
      clear hk3
      go_loopw [4, 32] (fun _ i wr => ∃ (k : Nat), k ≤ 8 ∧ i = .int .i64 k ∧ Hid (Below w.heap.size w wr) ∧ Hid (Box wr w.heap.size (cc x)) ∧ Hid (∀ (j : Nat) (h : j < x.map.length), j < k → PtrOkM x.map[j])) (fun _ i _ => 8 - (RowKit.intOf i).toNat)
      case atStart => exact ⟨0, Nat.zero_le _, rfl, B1, Y1, Lib.hid (fun j _ h => absurd h (Nat.not_lt_zero _))⟩
      case round =>
        obtain ⟨k, hk, rfl, HB, HX, HG⟩ := hrel
        by_cases hlt : k < 8
        case pos =>
          have hl0 : k < x.map.length := by rw [H8.out]; exact hlt
          have hk1 : (k : Int) < 8 := by omega
          have HBS := Lib.hid (show ¬ PtrOkM x.map[k] → false = ok from fun h => HBAD.out (fun c => h (c.2.2.2.2 _ (List.getElem_mem hl0))))
          have HGS := Lib.hid (show PtrOkM x.map[k] → ∀ (j : Nat) (h : j < x.map.length), j < k + 1 → PtrOkM x.map[j] from fun hg j hj hjk => by
            by_cases e : j = k
            · subst e; exact hg
            · exact HG.out j hj (by omega))
          have hix := idxMapD x.map H8.out k hl0
          generalize x.map[k] = y at hix HBS HGS
          clear HG hl0
          have hn := Below.new1 (w := wr) (.cells #[.int .i64 y.at_, .int .i64 y.sum, .int .i64 y.birth] 67)
          have HX1 := Lib.hid (HX.out.below hn HX.out.lt)
          have HB1 := Lib.hid (HB.out.trans (hn.mono HB.out.size))
          clear hn HX HB
          by_cases hg : PtrOkM y
          case neg =>
            have HF := Lib.hid (HBS.out hg)
            have hor := decide_eq_false hg
            clear hg HBS HGS
            go_wp2_with fail
            refine (implPtrOk_is y _ _ hor).mono ?_
            rintro e w4 ⟨rfl, hb⟩
            have HB2 := Lib.hid (HB1.out.trans (hb.mono HB1.out.size))
            clear hb
            go_wp2
            go_ret
            exact ⟨ret_boolB HF.out, HB2.out⟩
          case pos =>
            have HG1 := Lib.hid (HGS.out hg)
            have hor := decide_eq_true hg
            clear hg HBS HGS
            go_wp2_with fail
            refine (implPtrOk_is y _ _ hor).mono ?_
            rintro e w4 ⟨rfl, hb⟩
            have HB2 := Lib.hid (HB1.out.trans (hb.mono HB1.out.size))
            have HX2 := Lib.hid (HX1.out.below hb HX1.out.lt)
            clear hb
            go_wp2
            go_roundw
            case rel => exact ⟨k + 1, by omega, by go_num, HB2, HX2, HG1⟩
            case measure => simp [RowKit.intOf]; omega
        case neg =>
          have HF := Lib.hid (HFIN.out (fun j hj _ => HG.out j hj (by have := H8.out; omega)))
          have hkk : ¬ (k : Int) < 8 := by omega
          obtain ⟨-, -, -, n4, n5, n6, -⟩ := ccBox HX.out
          go_wp2_with fail
          refine (implPtrOk_is x.home _ _ rfl).mono ?_
          rintro e w4 ⟨rfl, hb⟩
          have HB2 := Lib.hid (HB.out.trans (hb.mono HB.out.size))
          clear hb
          go_wp2
          go_ret
          exact ⟨ret_boolB HF.out, HB2.out⟩
  case neg =>
    have hq := neEmpty hf0
    have HF0 := Lib.hid hf0
    clear hf0
    go_wp2_with fail
    refine (ImplBookName_any x.frm _ HZF.out).mono ?_
    rintro e W ⟨rfl, rfl⟩
    have hb := Below.refl W.heap.size W
    have Y2 := Lib.hid (Y1.out.below hb Y1.out.lt)
    have B2 := Lib.hid (B1.out.trans (hb.mono B1.out.size))
    clear hb Y1 B1 n1 n2
    by_cases hfm : NameOk x.frm
    case neg =>
      rw [decide_eq_false hfm]
      have HF := Lib.hid (HBAD.out (fun c => by rcases c.2.1 with h | h; exact HF0.out h; exact hfm h))
      clear hfm
      go_wp2
      go_ret
      exact ⟨ret_boolB HF.out, B2.out⟩
    case pos =>
    rw [decide_eq_true hfm]
    have HFM := Lib.hid hfm
    clear hfm
    obtain ⟨-, n1, -, n4, n5, n6, -⟩ := ccBox Y2.out
    by_cases hkd : 1 ≤ x.kind ∧ x.kind ≤ 2
    case neg =>
      have HF := Lib.hid (HBAD.out (fun c => hkd c.2.2.1))
      have hk2 : x.kind < 1 ∨ (¬ x.kind < 1 ∧ x.kind > 2) := by omega
      have hk3 : (x.kind != 1) = true := by simp; omega
      have hk4 : (x.kind != 2) = true := by simp; omega
      clear hkd
      go_wp2
      go_ret
      exact ⟨ret_boolB HF.out, B2.out⟩
    case pos =>
    have HKD := Lib.hid hkd
    have hk3 : ((x.kind != 1) = false ∧ True) ∨ ((x.kind != 1) = true ∧ (x.kind != 2) = false) := by
      rcases (show x.kind = 1 ∨ x.kind = 2 by omega) with h | h
      · exact Or.inl ⟨by simp [h], trivial⟩
      · exact Or.inr ⟨by simp [h], by simp [h]⟩
    clear hkd n4 n5 n6
    have HFIN := Lib.hid (show (∀ (j : Nat) (h : j < x.map.length), j < 8 → PtrOkM x.map[j]) → decide (PtrOkM x.home) = ok from fun hg => HOK.out ▸ (by
      have hm : ∀ p ∈ x.map, PtrOkM p := fun p hp => by
        obtain ⟨i, hi, rfl⟩ := List.mem_iff_getElem.1 hp
        exact hg i hi (by have := H8.out; omega)
      by_cases hho : PtrOkM x.home
      · rw [decide_eq_true hho]; exact (decide_eq_true (show SetOkC x from ⟨HNM.out, Or.inr HFM.out, HKD.out, hho, hm⟩)).symm
      · rw [decide_eq_false hho]; exact (decide_eq_false (fun c : SetOkC x => hho c.2.2.2.1)).symm))
    rcases hk3 with ⟨hk3, -⟩ | ⟨hk3, hk4⟩
    all_goals
      go_wp2_with (refine wpList_load_cs rfl _ rfl aggMap rfl (pcs x.map) (cmap_len x) (Box.part (p := ch x) (m := pcs x.map) (q := pc x.home ++ [.bool x.dirty]) Y2.out 3 rfl) ?_)
      clear hk3
      go_loopw [4, 32] (fun _ i wr => ∃ (k : Nat), k ≤ 8 ∧ i = .int .i64 k ∧ Hid (Below w.heap.size w wr) ∧ Hid (Box wr w.heap.size (cc x)) ∧ Hid (∀ (j : Nat) (h : j < x.map.length), j < k → PtrOkM x.map[j])) (fun _ i _ => 8 - (RowKit.intOf i).toNat)
      case atStart => exact ⟨0, Nat.zero_le _, rfl, B2, Y2, Lib.hid (fun j _ h => absurd h (Nat.not_lt_zero _))⟩
      case round =>
        obtain ⟨k, hk, rfl, HB, HX, HG⟩ := hrel
        by_cases hlt : k < 8
        case pos =>
          have hl0 : k < x.map.length := by rw [H8.out]; exact hlt
          have hk1 : (k : Int) < 8 := by omega
          have HBS := Lib.hid (show ¬ PtrOkM x.map[k] → false = ok from fun h => HBAD.out (fun c => h (c.2.2.2.2 _ (List.getElem_mem hl0))))
          have HGS := Lib.hid (show PtrOkM x.map[k] → ∀ (j : Nat) (h : j < x.map.length), j < k + 1 → PtrOkM x.map[j] from fun hg j hj hjk => by
            by_cases e : j = k
            · subst e; exact hg
            · exact HG.out j hj (by omega))
          have hix := idxMapD x.map H8.out k hl0
          generalize x.map[k] = y at hix HBS HGS
          clear HG hl0
          have hn := Below.new1 (w := wr) (.cells #[.int .i64 y.at_, .int .i64 y.sum, .int .i64 y.birth] 67)
          have HX1 := Lib.hid (HX.out.below hn HX.out.lt)
          have HB1 := Lib.hid (HB.out.trans (hn.mono HB.out.size))
          clear hn HX HB
          by_cases hg : PtrOkM y
          case neg =>
            have HF := Lib.hid (HBS.out hg)
            have hor := decide_eq_false hg
            clear hg HBS HGS
            go_wp2_with fail
            refine (implPtrOk_is y _ _ hor).mono ?_
            rintro e w4 ⟨rfl, hb⟩
            have HB2 := Lib.hid (HB1.out.trans (hb.mono HB1.out.size))
            clear hb
            go_wp2
            go_ret
            exact ⟨ret_boolB HF.out, HB2.out⟩
          case pos =>
            have HG1 := Lib.hid (HGS.out hg)
            have hor := decide_eq_true hg
            clear hg HBS HGS
            go_wp2_with fail
            refine (implPtrOk_is y _ _ hor).mono ?_
            rintro e w4 ⟨rfl, hb⟩
            have HB2 := Lib.hid (HB1.out.trans (hb.mono HB1.out.size))
            have HX2 := Lib.hid (HX1.out.below hb HX1.out.lt)
            clear hb
            go_wp2
            go_roundw
            case rel => exact ⟨k + 1, by omega, by go_num, HB2, HX2, HG1⟩
            case measure => simp [RowKit.intOf]; omega
        case neg =>
          have HF := Lib.hid (HFIN.out (fun j hj _ => HG.out j hj (by have := H8.out; omega)))
          have hkk : ¬ (k : Int) < 8 := by omega
          obtain ⟨-, -, -, n4, n5, n6, -⟩ := ccBox HX.out
          go_wp2_with fail
          refine (implPtrOk_is x.home _ _ rfl).mono ?_
          rintro e w4 ⟨rfl, hb⟩
          have HB2 := Lib.hid (HB.out.trans (hb.mono HB.out.size))
          clear hb
          go_wp2
          go_ret
          exact ⟨ret_boolB HF.out, HB2.out⟩
theorem implSet_is (x : CSetM) (r : Bool) (w : World) (hz : x.name.size ≤ 1048576 ∧ x.frm.size ≤ 1048576) (hr : decide (SetOkC x) = r) :
    Calls Tryz.prog 118 #[.agg (cc x).toArray] w fun e w' => e = .returned (.bool r) ∧ Below w.heap.size w w' := hr ▸ implSet_any x w hz
end Go.Proofs.YtojjenclcidnkaaGreatDoor

/-
  The document's l6Places.
-/
set_option maxRecDepth 100000
namespace Go.Proofs.YtojjenclcidnkaaGreatDoor
open Go.ChangeShapes Go.WideShapes Go.ChangeAt Go.RowKit Go.Proofs.Palim

set_option maxHeartbeats 8000000 in
theorem specPlaces_any (v : Value) (ls : List Int) (w : World) (h : Sl w 1 v ls.length (ics ls)) (hv : Low w.heap.size v) :
    Calls Tryz.prog 93 #[v] w fun e w' => e = .returned (.bool (decide (PlacesM ls))) ∧ Below w.heap.size w w' := by
  obtain ⟨ok, HOK⟩ : ∃ ok, Hid (decide (PlacesM ls) = ok) := ⟨_, Lib.hid rfl⟩
  rw [HOK.out]
  obtain ⟨n, HL⟩ : ∃ n, Hid (ls.length = n) := ⟨_, Lib.hid rfl⟩
  rw [HL.out] at h
  have hnm := h.le
  unfold maxLen at hnm
  have hfin : ∀ k, GoodP ls k → n ≤ k → true = ok := fun k hk hkn => HOK.out ▸ (decide_eq_true (show PlacesM ls from fun j hj h' => hk j hj (by have := HL.out; omega))).symm
  have HFIN := Lib.hid hfin
  clear hfin
  by_cases hn0 : n = 0
  · subst hn0
    have HF := Lib.hid (HFIN.out 0 (fun j _ h => absurd h (Nat.not_lt_zero _)) (Nat.le_refl _))
    obtain ⟨_, A, c, rfl, _, _, _⟩ := h
    go_enter Tryz.func93, Tryz.ntmps93
    go_wp2
    go_loopw [3] (fun i wr => i = .int .i64 0 ∧ wr = w) (fun _ _ => 0)
    case atStart => exact ⟨rfl, rfl⟩
    case round =>
      obtain ⟨rfl, rfl⟩ := hrel
      go_wp2
      go_ret
      exact ⟨ret_boolB HF.out, Below.refl _ _⟩
  obtain ⟨b, off, c, rfl, hnc, hcm, hcell⟩ := h.form (by omega)
  have hbl : b < w.heap.size := hv b rfl
  have HC := Lib.hid hcell
  unfold maxLen at hcm
  clear hcell h hv
  go_enter Tryz.func93, Tryz.ntmps93
  go_wp2
  go_loopw [3] (fun i wr => ∃ (k : Nat), k ≤ n ∧ i = .int .i64 k ∧ Hid (Below w.heap.size w wr) ∧ Hid (GoodP ls k)) (fun i _ => n - (RowKit.intOf i).toNat)
  case atStart => exact ⟨0, Nat.zero_le _, rfl, Lib.hid (Below.refl _ _), Lib.hid (fun j _ h => absurd h (Nat.not_lt_zero _))⟩
  case round =>
    obtain ⟨k, hk, rfl, HW, HG⟩ := hrel
    by_cases hlt : k < n
    case pos =>
      have hl0 : k < ls.length := by rw [HL.out]; exact hlt
      have g0 := (HW.out.cell hbl).trans (HC.out k _ (ics_at ls k hl0))
      have hk1 : (k : Int) < (n : Int) := by omega
      have HBS := Lib.hid (show ¬ (13 ≤ ls[k] ∧ ls[k] < 120) → false = ok from fun h => HOK.out ▸ (decide_eq_false (fun c => h (c k hl0 hl0).1)).symm)
      have HGS := Lib.hid (fun h1 h2 => goodP_succ HG.out hl0 h1 h2)
      by_cases hk0 : k = 0
      case pos =>
        subst hk0
        rw [Nat.add_zero] at g0
        generalize ls[0] = y at g0 HBS HGS
        by_cases hr : 13 ≤ y ∧ y < 120
        case neg =>
          have HF := Lib.hid (HBS.out hr)
          have hr2 : y < 13 ∨ (¬ y < 13 ∧ y ≥ 120) := by omega
          clear hr HBS HGS
          rcases hr2 with h1 | ⟨h1, h2⟩
          · have d1 : decide (y < 13) = true := decide_eq_true h1
            go_wp2_with fail
            refine wp_region_held_drew (S := fun w' => w'.cell? ⟨b, off, none⟩ = some (.int .i64 y)) (by kernel_rfl) g0 (fun hHeld => ?_)
            refine wpAnyH_take (i := 0) (v := ?_) rfl (by kernel_rfl) (by kernel_rfl) (by kernel_rfl) (fun _ _ _ h => h) (Or.inl ⟨by first | kernel_rfl | rfl, ?_⟩) (by assumption) ?_
            rotate_left
            · (intro w' hSw; (try dsimp only at hSw); go_simp; try with_reducible rfl)
            try simp only [Act.put]
            refine wpAnyH_take (i := 1) (v := ?_) rfl (by kernel_rfl) (by kernel_rfl) (by kernel_rfl) (fun _ _ _ h => h) (Or.inl ⟨by first | kernel_rfl | rfl, ?_⟩) (by assumption) ?_
            rotate_left
            · (intro w' hSw; (try dsimp only at hSw); go_simp; try with_reducible rfl)
            try simp only [Act.put]
            refine wpAnyH_take (i := 2) (v := ?_) rfl (by kernel_rfl) (by kernel_rfl) (by kernel_rfl) (fun _ _ _ h => h) (Or.inl ⟨by first | kernel_rfl | rfl, ?_⟩) (by assumption) ?_
            rotate_left
            · (intro w' hSw; (try dsimp only at hSw); go_simp; try with_reducible rfl)
            try simp only [Act.put]
            refine wpAnyH_take (i := 3) (v := ?_) rfl (by kernel_rfl) (by kernel_rfl) (by kernel_rfl) (fun _ _ _ h => h) (Or.inl ⟨by first | kernel_rfl | rfl, ?_⟩) (by assumption) ?_
            rotate_left
            · (intro w' hSw; (try dsimp only at hSw); go_simp; try with_reducible rfl)
            try simp only [Act.put]
            refine wpAnyH_take (i := 4) (v := ?_) rfl (by kernel_rfl) (by kernel_rfl) (by kernel_rfl) (fun _ _ _ h => h) (Or.inl ⟨by first | kernel_rfl | rfl, ?_⟩) (by assumption) ?_
            rotate_left
            · (intro w' hSw; (try dsimp only at hSw); go_simp; try with_reducible rfl)
            try simp only [Act.put]
            refine wpAnyH_take (i := 5) (v := ?_) rfl (by kernel_rfl) (by kernel_rfl) (by kernel_rfl) (fun _ _ _ h => h) (Or.inl ⟨by first | kernel_rfl | rfl, ?_⟩) (by assumption) ?_
            rotate_left
            · (intro w' hSw; (try dsimp only at hSw); go_simp; try with_reducible rfl)
            try simp only [Act.put]
            refine wpAnyH_take (i := 6) (v := undef) rfl (by kernel_rfl) (by kernel_rfl) (by kernel_rfl) (fun _ _ _ h => h) (Or.inr ⟨by kernel_rfl, rfl⟩) (by assumption) ?_
            try simp only [Act.put]
            refine wpAnyH_take (i := 7) (v := undef) rfl (by kernel_rfl) (by kernel_rfl) (by kernel_rfl) (fun _ _ _ h => h) (Or.inr ⟨by kernel_rfl, rfl⟩) (by assumption) ?_
            try simp only [Act.put]
            refine wpAnyH_take (i := 8) (v := undef) rfl (by kernel_rfl) (by kernel_rfl) (by kernel_rfl) (fun _ _ _ h => h) (Or.inr ⟨by kernel_rfl, rfl⟩) (by assumption) ?_
            try simp only [Act.put]
            refine wpAnyH_take (i := 9) (v := undef) rfl (by kernel_rfl) (by kernel_rfl) (by kernel_rfl) (fun _ _ _ h => h) (Or.inr ⟨by kernel_rfl, rfl⟩) (by assumption) ?_
            try simp only [Act.put]
            refine wpAnyH_take (i := 10) (v := undef) rfl (by kernel_rfl) (by kernel_rfl) (by kernel_rfl) (fun _ _ _ h => h) (Or.inr ⟨by kernel_rfl, rfl⟩) (by assumption) ?_
            try simp only [Act.put]
            refine wpAnyH_take (i := 11) (v := ?_) rfl (by kernel_rfl) (by kernel_rfl) (by kernel_rfl) (fun _ _ _ h => h) (Or.inl ⟨by first | kernel_rfl | rfl, ?_⟩) (by assumption) ?_
            rotate_left
            · (intro w' hSw; (try dsimp only at hSw); go_simp; try with_reducible rfl)
            try simp only [Act.put]
            refine wpAnyH_take (i := 12) (v := ?_) rfl (by kernel_rfl) (by kernel_rfl) (by kernel_rfl) (fun _ _ _ h => h) (Or.inl ⟨by first | kernel_rfl | rfl, ?_⟩) (by assumption) ?_
            rotate_left
            · (intro w' hSw; (try dsimp only at hSw); go_simp; try with_reducible rfl)
            try simp only [Act.put]
            refine wpAnyH_take (i := 13) (v := undef) rfl (by kernel_rfl) (by kernel_rfl) (by kernel_rfl) (fun _ _ _ h => h) (Or.inr ⟨by kernel_rfl, rfl⟩) (by assumption) ?_
            try simp only [Act.put]
            refine wpAnyH_take (i := 14) (v := undef) rfl (by kernel_rfl) (by kernel_rfl) (by kernel_rfl) (fun _ _ _ h => h) (Or.inr ⟨by kernel_rfl, rfl⟩) (by assumption) ?_
            try simp only [Act.put]
            refine wpAnyH_take (i := 15) (v := undef) rfl (by kernel_rfl) (by kernel_rfl) (by kernel_rfl) (fun _ _ _ h => h) (Or.inr ⟨by kernel_rfl, rfl⟩) (by assumption) ?_
            try simp only [Act.put]
            refine wpAnyH_take (i := 16) (v := undef) rfl (by kernel_rfl) (by kernel_rfl) (by kernel_rfl) (fun _ _ _ h => h) (Or.inr ⟨by kernel_rfl, rfl⟩) (by assumption) ?_
            try simp only [Act.put]
            refine wpAnyH_take (i := 17) (v := undef) rfl (by kernel_rfl) (by kernel_rfl) (by kernel_rfl) (fun _ _ _ h => h) (Or.inr ⟨by kernel_rfl, rfl⟩) (by assumption) ?_
            try simp only [Act.put]
            refine wpAnyH_take (i := 18) (v := undef) rfl (by kernel_rfl) (by kernel_rfl) (by kernel_rfl) (fun _ _ _ h => h) (Or.inr ⟨by kernel_rfl, rfl⟩) (by assumption) ?_
            try simp only [Act.put]
            refine wpAnyH_take (i := 19) (v := undef) rfl (by kernel_rfl) (by kernel_rfl) (by kernel_rfl) (fun _ _ _ h => h) (Or.inr ⟨by kernel_rfl, rfl⟩) (by assumption) ?_
            try simp only [Act.put]
            refine wpAnyH_take (i := 20) (v := undef) rfl (by kernel_rfl) (by kernel_rfl) (by kernel_rfl) (fun _ _ _ h => h) (Or.inr ⟨by kernel_rfl, rfl⟩) (by assumption) ?_
            try simp only [Act.put]
            refine wpAnyH_take (i := 21) (v := undef) rfl (by kernel_rfl) (by kernel_rfl) (by kernel_rfl) (fun _ _ _ h => h) (Or.inr ⟨by kernel_rfl, rfl⟩) (by assumption) ?_
            try simp only [Act.put]
            refine wpAnyH_take (i := 22) (v := undef) rfl (by kernel_rfl) (by kernel_rfl) (by kernel_rfl) (fun _ _ _ h => h) (Or.inr ⟨by kernel_rfl, rfl⟩) (by assumption) ?_
            try simp only [Act.put]
            refine wpAnyH_take (i := 23) (v := undef) rfl (by kernel_rfl) (by kernel_rfl) (by kernel_rfl) (fun _ _ _ h => h) (Or.inr ⟨by kernel_rfl, rfl⟩) (by assumption) ?_
            try simp only [Act.put]
            refine wpAnyH_take (i := 24) (v := undef) rfl (by kernel_rfl) (by kernel_rfl) (by kernel_rfl) (fun _ _ _ h => h) (Or.inr ⟨by kernel_rfl, rfl⟩) (by assumption) ?_
            try simp only [Act.put]
            refine wpAnyH_take (i := 25) (v := undef) rfl (by kernel_rfl) (by kernel_rfl) (by kernel_rfl) (fun _ _ _ h => h) (Or.inr ⟨by kernel_rfl, rfl⟩) (by assumption) ?_
            try simp only [Act.put]
            refine wpAnyH_take (i := 26) (v := undef) rfl (by kernel_rfl) (by kernel_rfl) (by kernel_rfl) (fun _ _ _ h => h) (Or.inr ⟨by kernel_rfl, rfl⟩) (by assumption) ?_
            try simp only [Act.put]
            refine wpAnyH_take (i := 27) (v := ?_) rfl (by kernel_rfl) (by kernel_rfl) (by kernel_rfl) (fun _ _ _ h => h) (Or.inl ⟨by first | kernel_rfl | rfl, ?_⟩) (by assumption) ?_
            rotate_left
            · (intro w' hSw; (try dsimp only at hSw); go_simp; try with_reducible rfl)
            try simp only [Act.put]
            refine wpAnyH_done (by kernel_rfl) ?_ _
            go_simp
            clear hHeld
            go_wp2
            go_ret
            exact ⟨ret_boolB HF.out, HW.out.drew⟩
          · have d1 : decide (y < 13) = false := decide_eq_false h1
            have d2 : decide (y ≥ 120) = true := decide_eq_true h2
            have d3 : decide (120 ≤ y) = true := decide_eq_true h2
            go_wp2_with fail
            refine wp_region_held_drew (S := fun w' => w'.cell? ⟨b, off, none⟩ = some (.int .i64 y)) (by kernel_rfl) g0 (fun hHeld => ?_)
            refine wpAnyH_take (i := 0) (v := ?_) rfl (by kernel_rfl) (by kernel_rfl) (by kernel_rfl) (fun _ _ _ h => h) (Or.inl ⟨by first | kernel_rfl | rfl, ?_⟩) (by assumption) ?_
            rotate_left
            · (intro w' hSw; (try dsimp only at hSw); go_simp; try with_reducible rfl)
            try simp only [Act.put]
            refine wpAnyH_take (i := 1) (v := ?_) rfl (by kernel_rfl) (by kernel_rfl) (by kernel_rfl) (fun _ _ _ h => h) (Or.inl ⟨by first | kernel_rfl | rfl, ?_⟩) (by assumption) ?_
            rotate_left
            · (intro w' hSw; (try dsimp only at hSw); go_simp; try with_reducible rfl)
            try simp only [Act.put]
            refine wpAnyH_take (i := 2) (v := ?_) rfl (by kernel_rfl) (by kernel_rfl) (by kernel_rfl) (fun _ _ _ h => h) (Or.inl ⟨by first | kernel_rfl | rfl, ?_⟩) (by assumption) ?_
            rotate_left
            · (intro w' hSw; (try dsimp only at hSw); go_simp; try with_reducible rfl)
            try simp only [Act.put]
            refine wpAnyH_take (i := 3) (v := ?_) rfl (by kernel_rfl) (by kernel_rfl) (by kernel_rfl) (fun _ _ _ h => h) (Or.inl ⟨by first | kernel_rfl | rfl, ?_⟩) (by assumption) ?_
            rotate_left
            · (intro w' hSw; (try dsimp only at hSw); go_simp; try with_reducible rfl)
            try simp only [Act.put]
            refine wpAnyH_take (i := 4) (v := ?_) rfl (by kernel_rfl) (by kernel_rfl) (by kernel_rfl) (fun _ _ _ h => h) (Or.inl ⟨by first | kernel_rfl | rfl, ?_⟩) (by assumption) ?_
            rotate_left
            · (intro w' hSw; (try dsimp only at hSw); go_simp; try with_reducible rfl)
            try simp only [Act.put]
            refine wpAnyH_take (i := 5) (v := ?_) rfl (by kernel_rfl) (by kernel_rfl) (by kernel_rfl) (fun _ _ _ h => h) (Or.inl ⟨by first | kernel_rfl | rfl, ?_⟩) (by assumption) ?_
            rotate_left
            · (intro w' hSw; (try dsimp only at hSw); go_simp; try with_reducible rfl)
            try simp only [Act.put]
            refine wpAnyH_take (i := 6) (v := ?_) rfl (by kernel_rfl) (by kernel_rfl) (by kernel_rfl) (fun _ _ _ h => h) (Or.inl ⟨by first | kernel_rfl | rfl, ?_⟩) (by assumption) ?_
            rotate_left
            · (intro w' hSw; (try dsimp only at hSw); go_simp; try with_reducible rfl)
            try simp only [Act.put]
            refine wpAnyH_take (i := 7) (v := ?_) rfl (by kernel_rfl) (by kernel_rfl) (by kernel_rfl) (fun _ _ _ h => h) (Or.inl ⟨by first | kernel_rfl | rfl, ?_⟩) (by assumption) ?_
            rotate_left
            · (intro w' hSw; (try dsimp only at hSw); go_simp; try with_reducible rfl)
            try simp only [Act.put]
            refine wpAnyH_take (i := 8) (v := ?_) rfl (by kernel_rfl) (by kernel_rfl) (by kernel_rfl) (fun _ _ _ h => h) (Or.inl ⟨by first | kernel_rfl | rfl, ?_⟩) (by assumption) ?_
            rotate_left
            · (intro w' hSw; (try dsimp only at hSw); go_simp; try with_reducible rfl)
            try simp only [Act.put]
            refine wpAnyH_take (i := 9) (v := ?_) rfl (by kernel_rfl) (by kernel_rfl) (by kernel_rfl) (fun _ _ _ h => h) (Or.inl ⟨by first | kernel_rfl | rfl, ?_⟩) (by assumption) ?_
            rotate_left
            · (intro w' hSw; (try dsimp only at hSw); go_simp; try with_reducible rfl)
            try simp only [Act.put]
            refine wpAnyH_take (i := 10) (v := ?_) rfl (by kernel_rfl) (by kernel_rfl) (by kernel_rfl) (fun _ _ _ h => h) (Or.inl ⟨by first | kernel_rfl | rfl, ?_⟩) (by assumption) ?_
            rotate_left
            · (intro w' hSw; (try dsimp only at hSw); go_simp; try with_reducible rfl)
            try simp only [Act.put]
            refine wpAnyH_take (i := 11) (v := ?_) rfl (by kernel_rfl) (by kernel_rfl) (by kernel_rfl) (fun _ _ _ h => h) (Or.inl ⟨by first | kernel_rfl | rfl, ?_⟩) (by assumption) ?_
            rotate_left
            · (intro w' hSw; (try dsimp only at hSw); go_simp; try with_reducible rfl)
            try simp only [Act.put]
            refine wpAnyH_take (i := 12) (v := ?_) rfl (by kernel_rfl) (by kernel_rfl) (by kernel_rfl) (fun _ _ _ h => h) (Or.inl ⟨by first | kernel_rfl | rfl, ?_⟩) (by assumption) ?_
            rotate_left
            · (intro w' hSw; (try dsimp only at hSw); go_simp; try with_reducible rfl)
            try simp only [Act.put]
            refine wpAnyH_take (i := 13) (v := undef) rfl (by kernel_rfl) (by kernel_rfl) (by kernel_rfl) (fun _ _ _ h => h) (Or.inr ⟨by kernel_rfl, rfl⟩) (by assumption) ?_
            try simp only [Act.put]
            refine wpAnyH_take (i := 14) (v := undef) rfl (by kernel_rfl) (by kernel_rfl) (by kernel_rfl) (fun _ _ _ h => h) (Or.inr ⟨by kernel_rfl, rfl⟩) (by assumption) ?_
            try simp only [Act.put]
            refine wpAnyH_take (i := 15) (v := undef) rfl (by kernel_rfl) (by kernel_rfl) (by kernel_rfl) (fun _ _ _ h => h) (Or.inr ⟨by kernel_rfl, rfl⟩) (by assumption) ?_
            try simp only [Act.put]
            refine wpAnyH_take (i := 16) (v := undef) rfl (by kernel_rfl) (by kernel_rfl) (by kernel_rfl) (fun _ _ _ h => h) (Or.inr ⟨by kernel_rfl, rfl⟩) (by assumption) ?_
            try simp only [Act.put]
            refine wpAnyH_take (i := 17) (v := undef) rfl (by kernel_rfl) (by kernel_rfl) (by kernel_rfl) (fun _ _ _ h => h) (Or.inr ⟨by kernel_rfl, rfl⟩) (by assumption) ?_
            try simp only [Act.put]
            refine wpAnyH_take (i := 18) (v := undef) rfl (by kernel_rfl) (by kernel_rfl) (by kernel_rfl) (fun _ _ _ h => h) (Or.inr ⟨by kernel_rfl, rfl⟩) (by assumption) ?_
            try simp only [Act.put]
            refine wpAnyH_take (i := 19) (v := undef) rfl (by kernel_rfl) (by kernel_rfl) (by kernel_rfl) (fun _ _ _ h => h) (Or.inr ⟨by kernel_rfl, rfl⟩) (by assumption) ?_
            try simp only [Act.put]
            refine wpAnyH_take (i := 20) (v := undef) rfl (by kernel_rfl) (by kernel_rfl) (by kernel_rfl) (fun _ _ _ h => h) (Or.inr ⟨by kernel_rfl, rfl⟩) (by assumption) ?_
            try simp only [Act.put]
            refine wpAnyH_take (i := 21) (v := undef) rfl (by kernel_rfl) (by kernel_rfl) (by kernel_rfl) (fun _ _ _ h => h) (Or.inr ⟨by kernel_rfl, rfl⟩) (by assumption) ?_
            try simp only [Act.put]
            refine wpAnyH_take (i := 22) (v := undef) rfl (by kernel_rfl) (by kernel_rfl) (by kernel_rfl) (fun _ _ _ h => h) (Or.inr ⟨by kernel_rfl, rfl⟩) (by assumption) ?_
            try simp only [Act.put]
            refine wpAnyH_take (i := 23) (v := undef) rfl (by kernel_rfl) (by kernel_rfl) (by kernel_rfl) (fun _ _ _ h => h) (Or.inr ⟨by kernel_rfl, rfl⟩) (by assumption) ?_
            try simp only [Act.put]
            refine wpAnyH_take (i := 24) (v := undef) rfl (by kernel_rfl) (by kernel_rfl) (by kernel_rfl) (fun _ _ _ h => h) (Or.inr ⟨by kernel_rfl, rfl⟩) (by assumption) ?_
            try simp only [Act.put]
            refine wpAnyH_take (i := 25) (v := undef) rfl (by kernel_rfl) (by kernel_rfl) (by kernel_rfl) (fun _ _ _ h => h) (Or.inr ⟨by kernel_rfl, rfl⟩) (by assumption) ?_
            try simp only [Act.put]
            refine wpAnyH_take (i := 26) (v := undef) rfl (by kernel_rfl) (by kernel_rfl) (by kernel_rfl) (fun _ _ _ h => h) (Or.inr ⟨by kernel_rfl, rfl⟩) (by assumption) ?_
            try simp only [Act.put]
            refine wpAnyH_take (i := 27) (v := ?_) rfl (by kernel_rfl) (by kernel_rfl) (by kernel_rfl) (fun _ _ _ h => h) (Or.inl ⟨by first | kernel_rfl | rfl, ?_⟩) (by assumption) ?_
            rotate_left
            · (intro w' hSw; (try dsimp only at hSw); go_simp; try with_reducible rfl)
            try simp only [Act.put]
            refine wpAnyH_done (by kernel_rfl) ?_ _
            go_simp
            clear hHeld
            go_wp2
            go_ret
            exact ⟨ret_boolB HF.out, HW.out.drew⟩
        case pos =>
          have HG1 := Lib.hid (HGS.out hr (fun h => absurd h (Nat.lt_irrefl _)))
          obtain ⟨r1, r2⟩ := hr
          have r3 : ¬ y < 13 := by omega
          have r4 : ¬ y ≥ 120 := by omega
          have d1 : decide (y < 13) = false := decide_eq_false r3
          have d2 : decide (y ≥ 120) = false := decide_eq_false r4
          have d3 : decide (120 ≤ y) = false := decide_eq_false r4
          clear HBS HGS
          go_wp2_with fail
          refine wp_region_held_drew (S := fun w' => w'.cell? ⟨b, off, none⟩ = some (.int .i64 y)) (by kernel_rfl) g0 (fun hHeld => ?_)
          refine wpAnyH_take (i := 0) (v := ?_) rfl (by kernel_rfl) (by kernel_rfl) (by kernel_rfl) (fun _ _ _ h => h) (Or.inl ⟨by first | kernel_rfl | rfl, ?_⟩) (by assumption) ?_
          rotate_left
          · (intro w' hSw; (try dsimp only at hSw); go_simp; try with_reducible rfl)
          try simp only [Act.put]
          refine wpAnyH_take (i := 1) (v := ?_) rfl (by kernel_rfl) (by kernel_rfl) (by kernel_rfl) (fun _ _ _ h => h) (Or.inl ⟨by first | kernel_rfl | rfl, ?_⟩) (by assumption) ?_
          rotate_left
          · (intro w' hSw; (try dsimp only at hSw); go_simp; try with_reducible rfl)
          try simp only [Act.put]
          refine wpAnyH_take (i := 2) (v := ?_) rfl (by kernel_rfl) (by kernel_rfl) (by kernel_rfl) (fun _ _ _ h => h) (Or.inl ⟨by first | kernel_rfl | rfl, ?_⟩) (by assumption) ?_
          rotate_left
          · (intro w' hSw; (try dsimp only at hSw); go_simp; try with_reducible rfl)
          try simp only [Act.put]
          refine wpAnyH_take (i := 3) (v := ?_) rfl (by kernel_rfl) (by kernel_rfl) (by kernel_rfl) (fun _ _ _ h => h) (Or.inl ⟨by first | kernel_rfl | rfl, ?_⟩) (by assumption) ?_
          rotate_left
          · (intro w' hSw; (try dsimp only at hSw); go_simp; try with_reducible rfl)
          try simp only [Act.put]
          refine wpAnyH_take (i := 4) (v := ?_) rfl (by kernel_rfl) (by kernel_rfl) (by kernel_rfl) (fun _ _ _ h => h) (Or.inl ⟨by first | kernel_rfl | rfl, ?_⟩) (by assumption) ?_
          rotate_left
          · (intro w' hSw; (try dsimp only at hSw); go_simp; try with_reducible rfl)
          try simp only [Act.put]
          refine wpAnyH_take (i := 5) (v := ?_) rfl (by kernel_rfl) (by kernel_rfl) (by kernel_rfl) (fun _ _ _ h => h) (Or.inl ⟨by first | kernel_rfl | rfl, ?_⟩) (by assumption) ?_
          rotate_left
          · (intro w' hSw; (try dsimp only at hSw); go_simp; try with_reducible rfl)
          try simp only [Act.put]
          refine wpAnyH_take (i := 6) (v := ?_) rfl (by kernel_rfl) (by kernel_rfl) (by kernel_rfl) (fun _ _ _ h => h) (Or.inl ⟨by first | kernel_rfl | rfl, ?_⟩) (by assumption) ?_
          rotate_left
          · (intro w' hSw; (try dsimp only at hSw); go_simp; try with_reducible rfl)
          try simp only [Act.put]
          refine wpAnyH_take (i := 7) (v := ?_) rfl (by kernel_rfl) (by kernel_rfl) (by kernel_rfl) (fun _ _ _ h => h) (Or.inl ⟨by first | kernel_rfl | rfl, ?_⟩) (by assumption) ?_
          rotate_left
          · (intro w' hSw; (try dsimp only at hSw); go_simp; try with_reducible rfl)
          try simp only [Act.put]
          refine wpAnyH_take (i := 8) (v := ?_) rfl (by kernel_rfl) (by kernel_rfl) (by kernel_rfl) (fun _ _ _ h => h) (Or.inl ⟨by first | kernel_rfl | rfl, ?_⟩) (by assumption) ?_
          rotate_left
          · (intro w' hSw; (try dsimp only at hSw); go_simp; try with_reducible rfl)
          try simp only [Act.put]
          refine wpAnyH_take (i := 9) (v := ?_) rfl (by kernel_rfl) (by kernel_rfl) (by kernel_rfl) (fun _ _ _ h => h) (Or.inl ⟨by first | kernel_rfl | rfl, ?_⟩) (by assumption) ?_
          rotate_left
          · (intro w' hSw; (try dsimp only at hSw); go_simp; try with_reducible rfl)
          try simp only [Act.put]
          refine wpAnyH_take (i := 10) (v := ?_) rfl (by kernel_rfl) (by kernel_rfl) (by kernel_rfl) (fun _ _ _ h => h) (Or.inl ⟨by first | kernel_rfl | rfl, ?_⟩) (by assumption) ?_
          rotate_left
          · (intro w' hSw; (try dsimp only at hSw); go_simp; try with_reducible rfl)
          try simp only [Act.put]
          refine wpAnyH_take (i := 11) (v := ?_) rfl (by kernel_rfl) (by kernel_rfl) (by kernel_rfl) (fun _ _ _ h => h) (Or.inl ⟨by first | kernel_rfl | rfl, ?_⟩) (by assumption) ?_
          rotate_left
          · (intro w' hSw; (try dsimp only at hSw); go_simp; try with_reducible rfl)
          try simp only [Act.put]
          refine wpAnyH_take (i := 12) (v := ?_) rfl (by kernel_rfl) (by kernel_rfl) (by kernel_rfl) (fun _ _ _ h => h) (Or.inl ⟨by first | kernel_rfl | rfl, ?_⟩) (by assumption) ?_
          rotate_left
          · (intro w' hSw; (try dsimp only at hSw); go_simp; try with_reducible rfl)
          try simp only [Act.put]
          refine wpAnyH_take (i := 13) (v := ?_) rfl (by kernel_rfl) (by kernel_rfl) (by kernel_rfl) (fun _ _ _ h => h) (Or.inl ⟨by first | kernel_rfl | rfl, ?_⟩) (by assumption) ?_
          rotate_left
          · (intro w' hSw; (try dsimp only at hSw); go_simp; try with_reducible rfl)
          try simp only [Act.put]
          refine wpAnyH_take (i := 14) (v := ?_) rfl (by kernel_rfl) (by kernel_rfl) (by kernel_rfl) (fun _ _ _ h => h) (Or.inl ⟨by first | kernel_rfl | rfl, ?_⟩) (by assumption) ?_
          rotate_left
          · (intro w' hSw; (try dsimp only at hSw); go_simp; try with_reducible rfl)
          try simp only [Act.put]
          refine wpAnyH_take (i := 15) (v := ?_) rfl (by kernel_rfl) (by kernel_rfl) (by kernel_rfl) (fun _ _ _ h => h) (Or.inl ⟨by first | kernel_rfl | rfl, ?_⟩) (by assumption) ?_
          rotate_left
          · (intro w' hSw; (try dsimp only at hSw); go_simp; try with_reducible rfl)
          try simp only [Act.put]
          refine wpAnyH_take (i := 16) (v := undef) rfl (by kernel_rfl) (by kernel_rfl) (by kernel_rfl) (fun _ _ _ h => h) (Or.inr ⟨by kernel_rfl, rfl⟩) (by assumption) ?_
          try simp only [Act.put]
          refine wpAnyH_take (i := 17) (v := undef) rfl (by kernel_rfl) (by kernel_rfl) (by kernel_rfl) (fun _ _ _ h => h) (Or.inr ⟨by kernel_rfl, rfl⟩) (by assumption) ?_
          try simp only [Act.put]
          refine wpAnyH_take (i := 18) (v := undef) rfl (by kernel_rfl) (by kernel_rfl) (by kernel_rfl) (fun _ _ _ h => h) (Or.inr ⟨by kernel_rfl, rfl⟩) (by assumption) ?_
          try simp only [Act.put]
          refine wpAnyH_take (i := 19) (v := undef) rfl (by kernel_rfl) (by kernel_rfl) (by kernel_rfl) (fun _ _ _ h => h) (Or.inr ⟨by kernel_rfl, rfl⟩) (by assumption) ?_
          try simp only [Act.put]
          refine wpAnyH_take (i := 20) (v := undef) rfl (by kernel_rfl) (by kernel_rfl) (by kernel_rfl) (fun _ _ _ h => h) (Or.inr ⟨by kernel_rfl, rfl⟩) (by assumption) ?_
          try simp only [Act.put]
          refine wpAnyH_take (i := 21) (v := undef) rfl (by kernel_rfl) (by kernel_rfl) (by kernel_rfl) (fun _ _ _ h => h) (Or.inr ⟨by kernel_rfl, rfl⟩) (by assumption) ?_
          try simp only [Act.put]
          refine wpAnyH_take (i := 22) (v := undef) rfl (by kernel_rfl) (by kernel_rfl) (by kernel_rfl) (fun _ _ _ h => h) (Or.inr ⟨by kernel_rfl, rfl⟩) (by assumption) ?_
          try simp only [Act.put]
          refine wpAnyH_take (i := 23) (v := undef) rfl (by kernel_rfl) (by kernel_rfl) (by kernel_rfl) (fun _ _ _ h => h) (Or.inr ⟨by kernel_rfl, rfl⟩) (by assumption) ?_
          try simp only [Act.put]
          refine wpAnyH_take (i := 24) (v := undef) rfl (by kernel_rfl) (by kernel_rfl) (by kernel_rfl) (fun _ _ _ h => h) (Or.inr ⟨by kernel_rfl, rfl⟩) (by assumption) ?_
          try simp only [Act.put]
          refine wpAnyH_take (i := 25) (v := undef) rfl (by kernel_rfl) (by kernel_rfl) (by kernel_rfl) (fun _ _ _ h => h) (Or.inr ⟨by kernel_rfl, rfl⟩) (by assumption) ?_
          try simp only [Act.put]
          refine wpAnyH_take (i := 26) (v := ?_) rfl (by kernel_rfl) (by kernel_rfl) (by kernel_rfl) (fun _ _ _ h => h) (Or.inl ⟨by first | kernel_rfl | rfl, ?_⟩) (by assumption) ?_
          rotate_left
          · (intro w' hSw; (try dsimp only at hSw); go_simp; try with_reducible rfl)
          try simp only [Act.put]
          refine wpAnyH_take (i := 27) (v := ?_) rfl (by kernel_rfl) (by kernel_rfl) (by kernel_rfl) (fun _ _ _ h => h) (Or.inl ⟨by first | kernel_rfl | rfl, ?_⟩) (by assumption) ?_
          rotate_left
          · (intro w' hSw; (try dsimp only at hSw); go_simp; try with_reducible rfl)
          try simp only [Act.put]
          refine wpAnyH_done (by kernel_rfl) ?_ _
          go_simp
          clear hHeld
          go_wp2
          go_roundw
          case rel => exact ⟨0 + 1, by omega, by go_num, Lib.hid HW.out.drew, HG1⟩
          case measure => simp [RowKit.intOf]; omega
      case neg =>
        obtain ⟨j, HJ⟩ : ∃ j, Hid (j = k - 1) := ⟨_, Lib.hid rfl⟩
        have hjl : j < ls.length := by rw [HJ.out]; omega
        have p0 := (HW.out.cell hbl).trans (HC.out j _ (ics_at ls j hjl))
        have hwk : IntKind.wrap .i64 ((k : Int) - 1) = (j : Int) := by rw [IntWalk.i64_in _ (by omega), HJ.out]; omega
        have hjn : (j : Int) < (n : Int) := by have := HL.out; omega
        have hjn2 : j < n := by have := HL.out; omega
        have hkp : (k : Int) > 0 := by omega
        have hkd : decide ((k : Int) > 0) = true := decide_eq_true hkp
        have hkd2 : decide (0 < (k : Int)) = true := decide_eq_true hkp
        have hkd3 : decide (0 < k) = true := decide_eq_true (by omega)
        have HBA := Lib.hid (show ¬ ls[j] < ls[k] → false = ok from fun h => HOK.out ▸ (decide_eq_false (fun c => by
          have h2 := (c k hl0 hl0).2 (by omega)
          have e : ls[j] = ls[k - 1]'(by omega) := by congr 1 <;> exact HJ.out
          rw [e] at h
          exact h h2)).symm)
        have HGT := Lib.hid (show (13 ≤ ls[k] ∧ ls[k] < 120) → ls[j] < ls[k] → GoodP ls (k + 1) from fun h1 h2 => HGS.out h1 (fun _ => by
          have e : ls[j] = ls[k - 1]'(by omega) := by congr 1 <;> exact HJ.out
          rw [← e]
          exact h2))
        clear HGS
        generalize ls[k] = y at g0 HBS HBA HGT
        generalize ls[j] = p at p0 HBA HGT
        by_cases hr : 13 ≤ y ∧ y < 120
        case neg =>
          have HF := Lib.hid (HBS.out hr)
          have hr2 : y < 13 ∨ (¬ y < 13 ∧ y ≥ 120) := by omega
          clear hr HBS HBA HGT
          rcases hr2 with h1 | ⟨h1, h2⟩
          · have d1 : decide (y < 13) = true := decide_eq_true h1
            go_wp2_with fail
            refine wp_region_held_drew (S := fun w' => w'.cell? ⟨b, off + k, none⟩ = some (.int .i64 y) ∧ w'.cell? ⟨b, off + j, none⟩ = some (.int .i64 p)) (by kernel_rfl) ⟨g0, p0⟩ (fun hHeld => ?_)
            refine wpAnyH_take (i := 0) (v := ?_) rfl (by kernel_rfl) (by kernel_rfl) (by kernel_rfl) (fun _ _ _ h => h) (Or.inl ⟨by first | kernel_rfl | rfl, ?_⟩) (by assumption) ?_
            rotate_left
            · (intro w' hSw; (try dsimp only at hSw); go_simp; try with_reducible rfl)
            try simp only [Act.put]
            refine wpAnyH_take (i := 1) (v := ?_) rfl (by kernel_rfl) (by kernel_rfl) (by kernel_rfl) (fun _ _ _ h => h) (Or.inl ⟨by first | kernel_rfl | rfl, ?_⟩) (by assumption) ?_
            rotate_left
            · (intro w' hSw; (try dsimp only at hSw); go_simp; try with_reducible rfl)
            try simp only [Act.put]
            refine wpAnyH_take (i := 2) (v := ?_) rfl (by kernel_rfl) (by kernel_rfl) (by kernel_rfl) (fun _ _ _ h => h) (Or.inl ⟨by first | kernel_rfl | rfl, ?_⟩) (by assumption) ?_
            rotate_left
            · (intro w' hSw; (try dsimp only at hSw); go_simp; try with_reducible rfl)
            try simp only [Act.put]
            refine wpAnyH_take (i := 3) (v := ?_) rfl (by kernel_rfl) (by kernel_rfl) (by kernel_rfl) (fun _ _ _ h => h) (Or.inl ⟨by first | kernel_rfl | rfl, ?_⟩) (by assumption) ?_
            rotate_left
            · (intro w' hSw; (try dsimp only at hSw); go_simp; try with_reducible rfl)
            try simp only [Act.put]
            refine wpAnyH_take (i := 4) (v := ?_) rfl (by kernel_rfl) (by kernel_rfl) (by kernel_rfl) (fun _ _ _ h => h) (Or.inl ⟨by first | kernel_rfl | rfl, ?_⟩) (by assumption) ?_
            rotate_left
            · (intro w' hSw; (try dsimp only at hSw); go_simp; try with_reducible rfl)
            try simp only [Act.put]
            refine wpAnyH_take (i := 5) (v := ?_) rfl (by kernel_rfl) (by kernel_rfl) (by kernel_rfl) (fun _ _ _ h => h) (Or.inl ⟨by first | kernel_rfl | rfl, ?_⟩) (by assumption) ?_
            rotate_left
            · (intro w' hSw; (try dsimp only at hSw); go_simp; try with_reducible rfl)
            try simp only [Act.put]
            refine wpAnyH_take (i := 6) (v := undef) rfl (by kernel_rfl) (by kernel_rfl) (by kernel_rfl) (fun _ _ _ h => h) (Or.inr ⟨by kernel_rfl, rfl⟩) (by assumption) ?_
            try simp only [Act.put]
            refine wpAnyH_take (i := 7) (v := undef) rfl (by kernel_rfl) (by kernel_rfl) (by kernel_rfl) (fun _ _ _ h => h) (Or.inr ⟨by kernel_rfl, rfl⟩) (by assumption) ?_
            try simp only [Act.put]
            refine wpAnyH_take (i := 8) (v := undef) rfl (by kernel_rfl) (by kernel_rfl) (by kernel_rfl) (fun _ _ _ h => h) (Or.inr ⟨by kernel_rfl, rfl⟩) (by assumption) ?_
            try simp only [Act.put]
            refine wpAnyH_take (i := 9) (v := undef) rfl (by kernel_rfl) (by kernel_rfl) (by kernel_rfl) (fun _ _ _ h => h) (Or.inr ⟨by kernel_rfl, rfl⟩) (by assumption) ?_
            try simp only [Act.put]
            refine wpAnyH_take (i := 10) (v := undef) rfl (by kernel_rfl) (by kernel_rfl) (by kernel_rfl) (fun _ _ _ h => h) (Or.inr ⟨by kernel_rfl, rfl⟩) (by assumption) ?_
            try simp only [Act.put]
            refine wpAnyH_take (i := 11) (v := ?_) rfl (by kernel_rfl) (by kernel_rfl) (by kernel_rfl) (fun _ _ _ h => h) (Or.inl ⟨by first | kernel_rfl | rfl, ?_⟩) (by assumption) ?_
            rotate_left
            · (intro w' hSw; (try dsimp only at hSw); go_simp; try with_reducible rfl)
            try simp only [Act.put]
            refine wpAnyH_take (i := 12) (v := ?_) rfl (by kernel_rfl) (by kernel_rfl) (by kernel_rfl) (fun _ _ _ h => h) (Or.inl ⟨by first | kernel_rfl | rfl, ?_⟩) (by assumption) ?_
            rotate_left
            · (intro w' hSw; (try dsimp only at hSw); go_simp; try with_reducible rfl)
            try simp only [Act.put]
            refine wpAnyH_take (i := 13) (v := undef) rfl (by kernel_rfl) (by kernel_rfl) (by kernel_rfl) (fun _ _ _ h => h) (Or.inr ⟨by kernel_rfl, rfl⟩) (by assumption) ?_
            try simp only [Act.put]
            refine wpAnyH_take (i := 14) (v := undef) rfl (by kernel_rfl) (by kernel_rfl) (by kernel_rfl) (fun _ _ _ h => h) (Or.inr ⟨by kernel_rfl, rfl⟩) (by assumption) ?_
            try simp only [Act.put]
            refine wpAnyH_take (i := 15) (v := undef) rfl (by kernel_rfl) (by kernel_rfl) (by kernel_rfl) (fun _ _ _ h => h) (Or.inr ⟨by kernel_rfl, rfl⟩) (by assumption) ?_
            try simp only [Act.put]
            refine wpAnyH_take (i := 16) (v := undef) rfl (by kernel_rfl) (by kernel_rfl) (by kernel_rfl) (fun _ _ _ h => h) (Or.inr ⟨by kernel_rfl, rfl⟩) (by assumption) ?_
            try simp only [Act.put]
            refine wpAnyH_take (i := 17) (v := undef) rfl (by kernel_rfl) (by kernel_rfl) (by kernel_rfl) (fun _ _ _ h => h) (Or.inr ⟨by kernel_rfl, rfl⟩) (by assumption) ?_
            try simp only [Act.put]
            refine wpAnyH_take (i := 18) (v := undef) rfl (by kernel_rfl) (by kernel_rfl) (by kernel_rfl) (fun _ _ _ h => h) (Or.inr ⟨by kernel_rfl, rfl⟩) (by assumption) ?_
            try simp only [Act.put]
            refine wpAnyH_take (i := 19) (v := undef) rfl (by kernel_rfl) (by kernel_rfl) (by kernel_rfl) (fun _ _ _ h => h) (Or.inr ⟨by kernel_rfl, rfl⟩) (by assumption) ?_
            try simp only [Act.put]
            refine wpAnyH_take (i := 20) (v := undef) rfl (by kernel_rfl) (by kernel_rfl) (by kernel_rfl) (fun _ _ _ h => h) (Or.inr ⟨by kernel_rfl, rfl⟩) (by assumption) ?_
            try simp only [Act.put]
            refine wpAnyH_take (i := 21) (v := undef) rfl (by kernel_rfl) (by kernel_rfl) (by kernel_rfl) (fun _ _ _ h => h) (Or.inr ⟨by kernel_rfl, rfl⟩) (by assumption) ?_
            try simp only [Act.put]
            refine wpAnyH_take (i := 22) (v := undef) rfl (by kernel_rfl) (by kernel_rfl) (by kernel_rfl) (fun _ _ _ h => h) (Or.inr ⟨by kernel_rfl, rfl⟩) (by assumption) ?_
            try simp only [Act.put]
            refine wpAnyH_take (i := 23) (v := undef) rfl (by kernel_rfl) (by kernel_rfl) (by kernel_rfl) (fun _ _ _ h => h) (Or.inr ⟨by kernel_rfl, rfl⟩) (by assumption) ?_
            try simp only [Act.put]
            refine wpAnyH_take (i := 24) (v := undef) rfl (by kernel_rfl) (by kernel_rfl) (by kernel_rfl) (fun _ _ _ h => h) (Or.inr ⟨by kernel_rfl, rfl⟩) (by assumption) ?_
            try simp only [Act.put]
            refine wpAnyH_take (i := 25) (v := undef) rfl (by kernel_rfl) (by kernel_rfl) (by kernel_rfl) (fun _ _ _ h => h) (Or.inr ⟨by kernel_rfl, rfl⟩) (by assumption) ?_
            try simp only [Act.put]
            refine wpAnyH_take (i := 26) (v := undef) rfl (by kernel_rfl) (by kernel_rfl) (by kernel_rfl) (fun _ _ _ h => h) (Or.inr ⟨by kernel_rfl, rfl⟩) (by assumption) ?_
            try simp only [Act.put]
            refine wpAnyH_take (i := 27) (v := ?_) rfl (by kernel_rfl) (by kernel_rfl) (by kernel_rfl) (fun _ _ _ h => h) (Or.inl ⟨by first | kernel_rfl | rfl, ?_⟩) (by assumption) ?_
            rotate_left
            · (intro w' hSw; (try dsimp only at hSw); go_simp; try with_reducible rfl)
            try simp only [Act.put]
            refine wpAnyH_done (by kernel_rfl) ?_ _
            go_simp
            clear hHeld
            go_wp2
            go_ret
            exact ⟨ret_boolB HF.out, HW.out.drew⟩
          · have d1 : decide (y < 13) = false := decide_eq_false h1
            have d2 : decide (y ≥ 120) = true := decide_eq_true h2
            have d3 : decide (120 ≤ y) = true := decide_eq_true h2
            go_wp2_with fail
            refine wp_region_held_drew (S := fun w' => w'.cell? ⟨b, off + k, none⟩ = some (.int .i64 y) ∧ w'.cell? ⟨b, off + j, none⟩ = some (.int .i64 p)) (by kernel_rfl) ⟨g0, p0⟩ (fun hHeld => ?_)
            refine wpAnyH_take (i := 0) (v := ?_) rfl (by kernel_rfl) (by kernel_rfl) (by kernel_rfl) (fun _ _ _ h => h) (Or.inl ⟨by first | kernel_rfl | rfl, ?_⟩) (by assumption) ?_
            rotate_left
            · (intro w' hSw; (try dsimp only at hSw); go_simp; try with_reducible rfl)
            try simp only [Act.put]
            refine wpAnyH_take (i := 1) (v := ?_) rfl (by kernel_rfl) (by kernel_rfl) (by kernel_rfl) (fun _ _ _ h => h) (Or.inl ⟨by first | kernel_rfl | rfl, ?_⟩) (by assumption) ?_
            rotate_left
            · (intro w' hSw; (try dsimp only at hSw); go_simp; try with_reducible rfl)
            try simp only [Act.put]
            refine wpAnyH_take (i := 2) (v := ?_) rfl (by kernel_rfl) (by kernel_rfl) (by kernel_rfl) (fun _ _ _ h => h) (Or.inl ⟨by first | kernel_rfl | rfl, ?_⟩) (by assumption) ?_
            rotate_left
            · (intro w' hSw; (try dsimp only at hSw); go_simp; try with_reducible rfl)
            try simp only [Act.put]
            refine wpAnyH_take (i := 3) (v := ?_) rfl (by kernel_rfl) (by kernel_rfl) (by kernel_rfl) (fun _ _ _ h => h) (Or.inl ⟨by first | kernel_rfl | rfl, ?_⟩) (by assumption) ?_
            rotate_left
            · (intro w' hSw; (try dsimp only at hSw); go_simp; try with_reducible rfl)
            try simp only [Act.put]
            refine wpAnyH_take (i := 4) (v := ?_) rfl (by kernel_rfl) (by kernel_rfl) (by kernel_rfl) (fun _ _ _ h => h) (Or.inl ⟨by first | kernel_rfl | rfl, ?_⟩) (by assumption) ?_
            rotate_left
            · (intro w' hSw; (try dsimp only at hSw); go_simp; try with_reducible rfl)
            try simp only [Act.put]
            refine wpAnyH_take (i := 5) (v := ?_) rfl (by kernel_rfl) (by kernel_rfl) (by kernel_rfl) (fun _ _ _ h => h) (Or.inl ⟨by first | kernel_rfl | rfl, ?_⟩) (by assumption) ?_
            rotate_left
            · (intro w' hSw; (try dsimp only at hSw); go_simp; try with_reducible rfl)
            try simp only [Act.put]
            refine wpAnyH_take (i := 6) (v := ?_) rfl (by kernel_rfl) (by kernel_rfl) (by kernel_rfl) (fun _ _ _ h => h) (Or.inl ⟨by first | kernel_rfl | rfl, ?_⟩) (by assumption) ?_
            rotate_left
            · (intro w' hSw; (try dsimp only at hSw); go_simp; try with_reducible rfl)
            try simp only [Act.put]
            refine wpAnyH_take (i := 7) (v := ?_) rfl (by kernel_rfl) (by kernel_rfl) (by kernel_rfl) (fun _ _ _ h => h) (Or.inl ⟨by first | kernel_rfl | rfl, ?_⟩) (by assumption) ?_
            rotate_left
            · (intro w' hSw; (try dsimp only at hSw); go_simp; try with_reducible rfl)
            try simp only [Act.put]
            refine wpAnyH_take (i := 8) (v := ?_) rfl (by kernel_rfl) (by kernel_rfl) (by kernel_rfl) (fun _ _ _ h => h) (Or.inl ⟨by first | kernel_rfl | rfl, ?_⟩) (by assumption) ?_
            rotate_left
            · (intro w' hSw; (try dsimp only at hSw); go_simp; try with_reducible rfl)
            try simp only [Act.put]
            refine wpAnyH_take (i := 9) (v := ?_) rfl (by kernel_rfl) (by kernel_rfl) (by kernel_rfl) (fun _ _ _ h => h) (Or.inl ⟨by first | kernel_rfl | rfl, ?_⟩) (by assumption) ?_
            rotate_left
            · (intro w' hSw; (try dsimp only at hSw); go_simp; try with_reducible rfl)
            try simp only [Act.put]
            refine wpAnyH_take (i := 10) (v := ?_) rfl (by kernel_rfl) (by kernel_rfl) (by kernel_rfl) (fun _ _ _ h => h) (Or.inl ⟨by first | kernel_rfl | rfl, ?_⟩) (by assumption) ?_
            rotate_left
            · (intro w' hSw; (try dsimp only at hSw); go_simp; try with_reducible rfl)
            try simp only [Act.put]
            refine wpAnyH_take (i := 11) (v := ?_) rfl (by kernel_rfl) (by kernel_rfl) (by kernel_rfl) (fun _ _ _ h => h) (Or.inl ⟨by first | kernel_rfl | rfl, ?_⟩) (by assumption) ?_
            rotate_left
            · (intro w' hSw; (try dsimp only at hSw); go_simp; try with_reducible rfl)
            try simp only [Act.put]
            refine wpAnyH_take (i := 12) (v := ?_) rfl (by kernel_rfl) (by kernel_rfl) (by kernel_rfl) (fun _ _ _ h => h) (Or.inl ⟨by first | kernel_rfl | rfl, ?_⟩) (by assumption) ?_
            rotate_left
            · (intro w' hSw; (try dsimp only at hSw); go_simp; try with_reducible rfl)
            try simp only [Act.put]
            refine wpAnyH_take (i := 13) (v := undef) rfl (by kernel_rfl) (by kernel_rfl) (by kernel_rfl) (fun _ _ _ h => h) (Or.inr ⟨by kernel_rfl, rfl⟩) (by assumption) ?_
            try simp only [Act.put]
            refine wpAnyH_take (i := 14) (v := undef) rfl (by kernel_rfl) (by kernel_rfl) (by kernel_rfl) (fun _ _ _ h => h) (Or.inr ⟨by kernel_rfl, rfl⟩) (by assumption) ?_
            try simp only [Act.put]
            refine wpAnyH_take (i := 15) (v := undef) rfl (by kernel_rfl) (by kernel_rfl) (by kernel_rfl) (fun _ _ _ h => h) (Or.inr ⟨by kernel_rfl, rfl⟩) (by assumption) ?_
            try simp only [Act.put]
            refine wpAnyH_take (i := 16) (v := undef) rfl (by kernel_rfl) (by kernel_rfl) (by kernel_rfl) (fun _ _ _ h => h) (Or.inr ⟨by kernel_rfl, rfl⟩) (by assumption) ?_
            try simp only [Act.put]
            refine wpAnyH_take (i := 17) (v := undef) rfl (by kernel_rfl) (by kernel_rfl) (by kernel_rfl) (fun _ _ _ h => h) (Or.inr ⟨by kernel_rfl, rfl⟩) (by assumption) ?_
            try simp only [Act.put]
            refine wpAnyH_take (i := 18) (v := undef) rfl (by kernel_rfl) (by kernel_rfl) (by kernel_rfl) (fun _ _ _ h => h) (Or.inr ⟨by kernel_rfl, rfl⟩) (by assumption) ?_
            try simp only [Act.put]
            refine wpAnyH_take (i := 19) (v := undef) rfl (by kernel_rfl) (by kernel_rfl) (by kernel_rfl) (fun _ _ _ h => h) (Or.inr ⟨by kernel_rfl, rfl⟩) (by assumption) ?_
            try simp only [Act.put]
            refine wpAnyH_take (i := 20) (v := undef) rfl (by kernel_rfl) (by kernel_rfl) (by kernel_rfl) (fun _ _ _ h => h) (Or.inr ⟨by kernel_rfl, rfl⟩) (by assumption) ?_
            try simp only [Act.put]
            refine wpAnyH_take (i := 21) (v := undef) rfl (by kernel_rfl) (by kernel_rfl) (by kernel_rfl) (fun _ _ _ h => h) (Or.inr ⟨by kernel_rfl, rfl⟩) (by assumption) ?_
            try simp only [Act.put]
            refine wpAnyH_take (i := 22) (v := undef) rfl (by kernel_rfl) (by kernel_rfl) (by kernel_rfl) (fun _ _ _ h => h) (Or.inr ⟨by kernel_rfl, rfl⟩) (by assumption) ?_
            try simp only [Act.put]
            refine wpAnyH_take (i := 23) (v := undef) rfl (by kernel_rfl) (by kernel_rfl) (by kernel_rfl) (fun _ _ _ h => h) (Or.inr ⟨by kernel_rfl, rfl⟩) (by assumption) ?_
            try simp only [Act.put]
            refine wpAnyH_take (i := 24) (v := undef) rfl (by kernel_rfl) (by kernel_rfl) (by kernel_rfl) (fun _ _ _ h => h) (Or.inr ⟨by kernel_rfl, rfl⟩) (by assumption) ?_
            try simp only [Act.put]
            refine wpAnyH_take (i := 25) (v := undef) rfl (by kernel_rfl) (by kernel_rfl) (by kernel_rfl) (fun _ _ _ h => h) (Or.inr ⟨by kernel_rfl, rfl⟩) (by assumption) ?_
            try simp only [Act.put]
            refine wpAnyH_take (i := 26) (v := undef) rfl (by kernel_rfl) (by kernel_rfl) (by kernel_rfl) (fun _ _ _ h => h) (Or.inr ⟨by kernel_rfl, rfl⟩) (by assumption) ?_
            try simp only [Act.put]
            refine wpAnyH_take (i := 27) (v := ?_) rfl (by kernel_rfl) (by kernel_rfl) (by kernel_rfl) (fun _ _ _ h => h) (Or.inl ⟨by first | kernel_rfl | rfl, ?_⟩) (by assumption) ?_
            rotate_left
            · (intro w' hSw; (try dsimp only at hSw); go_simp; try with_reducible rfl)
            try simp only [Act.put]
            refine wpAnyH_done (by kernel_rfl) ?_ _
            go_simp
            clear hHeld
            go_wp2
            go_ret
            exact ⟨ret_boolB HF.out, HW.out.drew⟩
        case pos =>
          obtain ⟨r1, r2⟩ := hr
          have r3 : ¬ y < 13 := by omega
          have r4 : ¬ y ≥ 120 := by omega
          have d1 : decide (y < 13) = false := decide_eq_false r3
          have d2 : decide (y ≥ 120) = false := decide_eq_false r4
          have d3 : decide (120 ≤ y) = false := decide_eq_false r4
          by_cases hp : p < y
          case neg =>
            have HF := Lib.hid (HBA.out hp)
            have hp2 : y ≤ p := by omega
            have hpd : decide (y ≤ p) = true := decide_eq_true hp2
            clear HBS HBA HGT hp
            go_wp2_with fail
            refine wp_region_held_drew (S := fun w' => w'.cell? ⟨b, off + k, none⟩ = some (.int .i64 y) ∧ w'.cell? ⟨b, off + j, none⟩ = some (.int .i64 p)) (by kernel_rfl) ⟨g0, p0⟩ (fun hHeld => ?_)
            refine wpAnyH_take (i := 0) (v := ?_) rfl (by kernel_rfl) (by kernel_rfl) (by kernel_rfl) (fun _ _ _ h => h) (Or.inl ⟨by first | kernel_rfl | rfl, ?_⟩) (by assumption) ?_
            rotate_left
            · (intro w' hSw; (try dsimp only at hSw); go_simp; try with_reducible rfl)
            try simp only [Act.put]
            refine wpAnyH_take (i := 1) (v := ?_) rfl (by kernel_rfl) (by kernel_rfl) (by kernel_rfl) (fun _ _ _ h => h) (Or.inl ⟨by first | kernel_rfl | rfl, ?_⟩) (by assumption) ?_
            rotate_left
            · (intro w' hSw; (try dsimp only at hSw); go_simp; try with_reducible rfl)
            try simp only [Act.put]
            refine wpAnyH_take (i := 2) (v := ?_) rfl (by kernel_rfl) (by kernel_rfl) (by kernel_rfl) (fun _ _ _ h => h) (Or.inl ⟨by first | kernel_rfl | rfl, ?_⟩) (by assumption) ?_
            rotate_left
            · (intro w' hSw; (try dsimp only at hSw); go_simp; try with_reducible rfl)
            try simp only [Act.put]
            refine wpAnyH_take (i := 3) (v := ?_) rfl (by kernel_rfl) (by kernel_rfl) (by kernel_rfl) (fun _ _ _ h => h) (Or.inl ⟨by first | kernel_rfl | rfl, ?_⟩) (by assumption) ?_
            rotate_left
            · (intro w' hSw; (try dsimp only at hSw); go_simp; try with_reducible rfl)
            try simp only [Act.put]
            refine wpAnyH_take (i := 4) (v := ?_) rfl (by kernel_rfl) (by kernel_rfl) (by kernel_rfl) (fun _ _ _ h => h) (Or.inl ⟨by first | kernel_rfl | rfl, ?_⟩) (by assumption) ?_
            rotate_left
            · (intro w' hSw; (try dsimp only at hSw); go_simp; try with_reducible rfl)
            try simp only [Act.put]
            refine wpAnyH_take (i := 5) (v := ?_) rfl (by kernel_rfl) (by kernel_rfl) (by kernel_rfl) (fun _ _ _ h => h) (Or.inl ⟨by first | kernel_rfl | rfl, ?_⟩) (by assumption) ?_
            rotate_left
            · (intro w' hSw; (try dsimp only at hSw); go_simp; try with_reducible rfl)
            try simp only [Act.put]
            refine wpAnyH_take (i := 6) (v := ?_) rfl (by kernel_rfl) (by kernel_rfl) (by kernel_rfl) (fun _ _ _ h => h) (Or.inl ⟨by first | kernel_rfl | rfl, ?_⟩) (by assumption) ?_
            rotate_left
            · (intro w' hSw; (try dsimp only at hSw); go_simp; try with_reducible rfl)
            try simp only [Act.put]
            refine wpAnyH_take (i := 7) (v := ?_) rfl (by kernel_rfl) (by kernel_rfl) (by kernel_rfl) (fun _ _ _ h => h) (Or.inl ⟨by first | kernel_rfl | rfl, ?_⟩) (by assumption) ?_
            rotate_left
            · (intro w' hSw; (try dsimp only at hSw); go_simp; try with_reducible rfl)
            try simp only [Act.put]
            refine wpAnyH_take (i := 8) (v := ?_) rfl (by kernel_rfl) (by kernel_rfl) (by kernel_rfl) (fun _ _ _ h => h) (Or.inl ⟨by first | kernel_rfl | rfl, ?_⟩) (by assumption) ?_
            rotate_left
            · (intro w' hSw; (try dsimp only at hSw); go_simp; try with_reducible rfl)
            try simp only [Act.put]
            refine wpAnyH_take (i := 9) (v := ?_) rfl (by kernel_rfl) (by kernel_rfl) (by kernel_rfl) (fun _ _ _ h => h) (Or.inl ⟨by first | kernel_rfl | rfl, ?_⟩) (by assumption) ?_
            rotate_left
            · (intro w' hSw; (try dsimp only at hSw); go_simp; try with_reducible rfl)
            try simp only [Act.put]
            refine wpAnyH_take (i := 10) (v := ?_) rfl (by kernel_rfl) (by kernel_rfl) (by kernel_rfl) (fun _ _ _ h => h) (Or.inl ⟨by first | kernel_rfl | rfl, ?_⟩) (by assumption) ?_
            rotate_left
            · (intro w' hSw; (try dsimp only at hSw); go_simp; try with_reducible rfl)
            try simp only [Act.put]
            refine wpAnyH_take (i := 11) (v := ?_) rfl (by kernel_rfl) (by kernel_rfl) (by kernel_rfl) (fun _ _ _ h => h) (Or.inl ⟨by first | kernel_rfl | rfl, ?_⟩) (by assumption) ?_
            rotate_left
            · (intro w' hSw; (try dsimp only at hSw); go_simp; try with_reducible rfl)
            try simp only [Act.put]
            refine wpAnyH_take (i := 12) (v := ?_) rfl (by kernel_rfl) (by kernel_rfl) (by kernel_rfl) (fun _ _ _ h => h) (Or.inl ⟨by first | kernel_rfl | rfl, ?_⟩) (by assumption) ?_
            rotate_left
            · (intro w' hSw; (try dsimp only at hSw); go_simp; try with_reducible rfl)
            try simp only [Act.put]
            refine wpAnyH_take (i := 13) (v := ?_) rfl (by kernel_rfl) (by kernel_rfl) (by kernel_rfl) (fun _ _ _ h => h) (Or.inl ⟨by first | kernel_rfl | rfl, ?_⟩) (by assumption) ?_
            rotate_left
            · (intro w' hSw; (try dsimp only at hSw); go_simp; try with_reducible rfl)
            try simp only [Act.put]
            refine wpAnyH_take (i := 14) (v := ?_) rfl (by kernel_rfl) (by kernel_rfl) (by kernel_rfl) (fun _ _ _ h => h) (Or.inl ⟨by first | kernel_rfl | rfl, ?_⟩) (by assumption) ?_
            rotate_left
            · (intro w' hSw; (try dsimp only at hSw); go_simp; try with_reducible rfl)
            try simp only [Act.put]
            refine wpAnyH_take (i := 15) (v := ?_) rfl (by kernel_rfl) (by kernel_rfl) (by kernel_rfl) (fun _ _ _ h => h) (Or.inl ⟨by first | kernel_rfl | rfl, ?_⟩) (by assumption) ?_
            rotate_left
            · (intro w' hSw; (try dsimp only at hSw); go_simp; try with_reducible rfl)
            try simp only [Act.put]
            refine wpAnyH_take (i := 16) (v := ?_) rfl (by kernel_rfl) (by kernel_rfl) (by kernel_rfl) (fun _ _ _ h => h) (Or.inl ⟨by first | kernel_rfl | rfl, ?_⟩) (by assumption) ?_
            rotate_left
            · (intro w' hSw; (try dsimp only at hSw); go_simp; try with_reducible rfl)
            try simp only [Act.put]
            refine wpAnyH_take (i := 17) (v := ?_) rfl (by kernel_rfl) (by kernel_rfl) (by kernel_rfl) (fun _ _ _ h => h) (Or.inl ⟨by first | kernel_rfl | rfl, ?_⟩) (by assumption) ?_
            rotate_left
            · (intro w' hSw; (try dsimp only at hSw); go_simp; try with_reducible rfl)
            try simp only [Act.put]
            refine wpAnyH_take (i := 18) (v := ?_) rfl (by kernel_rfl) (by kernel_rfl) (by kernel_rfl) (fun _ _ _ h => h) (Or.inl ⟨by first | kernel_rfl | rfl, ?_⟩) (by assumption) ?_
            rotate_left
            · (intro w' hSw; (try dsimp only at hSw); go_simp; try with_reducible rfl)
            try simp only [Act.put]
            refine wpAnyH_take (i := 19) (v := ?_) rfl (by kernel_rfl) (by kernel_rfl) (by kernel_rfl) (fun _ _ _ h => h) (Or.inl ⟨by first | kernel_rfl | rfl, ?_⟩) (by assumption) ?_
            rotate_left
            · (intro w' hSw; (try dsimp only at hSw); go_simp; try with_reducible rfl)
            try simp only [Act.put]
            refine wpAnyH_take (i := 20) (v := ?_) rfl (by kernel_rfl) (by kernel_rfl) (by kernel_rfl) (fun _ _ _ h => h) (Or.inl ⟨by first | kernel_rfl | rfl, ?_⟩) (by assumption) ?_
            rotate_left
            · (intro w' hSw; (try dsimp only at hSw); go_simp; try with_reducible rfl)
            try simp only [Act.put]
            refine wpAnyH_take (i := 21) (v := ?_) rfl (by kernel_rfl) (by kernel_rfl) (by kernel_rfl) (fun _ _ _ h => h) (Or.inl ⟨by first | kernel_rfl | rfl, ?_⟩) (by assumption) ?_
            rotate_left
            · (intro w' hSw; (try dsimp only at hSw); go_simp; try with_reducible rfl)
            try simp only [Act.put]
            refine wpAnyH_take (i := 22) (v := ?_) rfl (by kernel_rfl) (by kernel_rfl) (by kernel_rfl) (fun _ _ _ h => h) (Or.inl ⟨by first | kernel_rfl | rfl, ?_⟩) (by assumption) ?_
            rotate_left
            · (intro w' hSw; (try dsimp only at hSw); go_simp; try with_reducible rfl)
            try simp only [Act.put]
            refine wpAnyH_take (i := 23) (v := ?_) rfl (by kernel_rfl) (by kernel_rfl) (by kernel_rfl) (fun _ _ _ h => h) (Or.inl ⟨by first | kernel_rfl | rfl, ?_⟩) (by assumption) ?_
            rotate_left
            · (intro w' hSw; (try dsimp only at hSw); go_simp; try with_reducible rfl)
            try simp only [Act.put]
            refine wpAnyH_take (i := 24) (v := ?_) rfl (by kernel_rfl) (by kernel_rfl) (by kernel_rfl) (fun _ _ _ h => h) (Or.inl ⟨by first | kernel_rfl | rfl, ?_⟩) (by assumption) ?_
            rotate_left
            · (intro w' hSw; (try dsimp only at hSw); go_simp; try with_reducible rfl)
            try simp only [Act.put]
            refine wpAnyH_take (i := 25) (v := ?_) rfl (by kernel_rfl) (by kernel_rfl) (by kernel_rfl) (fun _ _ _ h => h) (Or.inl ⟨by first | kernel_rfl | rfl, ?_⟩) (by assumption) ?_
            rotate_left
            · (intro w' hSw; (try dsimp only at hSw); go_simp; try with_reducible rfl)
            try simp only [Act.put]
            refine wpAnyH_take (i := 26) (v := ?_) rfl (by kernel_rfl) (by kernel_rfl) (by kernel_rfl) (fun _ _ _ h => h) (Or.inl ⟨by first | kernel_rfl | rfl, ?_⟩) (by assumption) ?_
            rotate_left
            · (intro w' hSw; (try dsimp only at hSw); go_simp; try with_reducible rfl)
            try simp only [Act.put]
            refine wpAnyH_take (i := 27) (v := ?_) rfl (by kernel_rfl) (by kernel_rfl) (by kernel_rfl) (fun _ _ _ h => h) (Or.inl ⟨by first | kernel_rfl | rfl, ?_⟩) (by assumption) ?_
            rotate_left
            · (intro w' hSw; (try dsimp only at hSw); go_simp; try with_reducible rfl)
            try simp only [Act.put]
            refine wpAnyH_done (by kernel_rfl) ?_ _
            go_simp
            clear hHeld
            go_wp2
            go_ret
            exact ⟨ret_boolB HF.out, HW.out.drew⟩
          case pos =>
            have HG1 := Lib.hid (HGT.out ⟨r1, r2⟩ hp)
            have hp2 : ¬ y ≤ p := by omega
            have hpd : decide (y ≤ p) = false := decide_eq_false hp2
            clear HBS HBA HGT hp
            go_wp2_with fail
            refine wp_region_held_drew (S := fun w' => w'.cell? ⟨b, off + k, none⟩ = some (.int .i64 y) ∧ w'.cell? ⟨b, off + j, none⟩ = some (.int .i64 p)) (by kernel_rfl) ⟨g0, p0⟩ (fun hHeld => ?_)
            refine wpAnyH_take (i := 0) (v := ?_) rfl (by kernel_rfl) (by kernel_rfl) (by kernel_rfl) (fun _ _ _ h => h) (Or.inl ⟨by first | kernel_rfl | rfl, ?_⟩) (by assumption) ?_
            rotate_left
            · (intro w' hSw; (try dsimp only at hSw); go_simp; try with_reducible rfl)
            try simp only [Act.put]
            refine wpAnyH_take (i := 1) (v := ?_) rfl (by kernel_rfl) (by kernel_rfl) (by kernel_rfl) (fun _ _ _ h => h) (Or.inl ⟨by first | kernel_rfl | rfl, ?_⟩) (by assumption) ?_
            rotate_left
            · (intro w' hSw; (try dsimp only at hSw); go_simp; try with_reducible rfl)
            try simp only [Act.put]
            refine wpAnyH_take (i := 2) (v := ?_) rfl (by kernel_rfl) (by kernel_rfl) (by kernel_rfl) (fun _ _ _ h => h) (Or.inl ⟨by first | kernel_rfl | rfl, ?_⟩) (by assumption) ?_
            rotate_left
            · (intro w' hSw; (try dsimp only at hSw); go_simp; try with_reducible rfl)
            try simp only [Act.put]
            refine wpAnyH_take (i := 3) (v := ?_) rfl (by kernel_rfl) (by kernel_rfl) (by kernel_rfl) (fun _ _ _ h => h) (Or.inl ⟨by first | kernel_rfl | rfl, ?_⟩) (by assumption) ?_
            rotate_left
            · (intro w' hSw; (try dsimp only at hSw); go_simp; try with_reducible rfl)
            try simp only [Act.put]
            refine wpAnyH_take (i := 4) (v := ?_) rfl (by kernel_rfl) (by kernel_rfl) (by kernel_rfl) (fun _ _ _ h => h) (Or.inl ⟨by first | kernel_rfl | rfl, ?_⟩) (by assumption) ?_
            rotate_left
            · (intro w' hSw; (try dsimp only at hSw); go_simp; try with_reducible rfl)
            try simp only [Act.put]
            refine wpAnyH_take (i := 5) (v := ?_) rfl (by kernel_rfl) (by kernel_rfl) (by kernel_rfl) (fun _ _ _ h => h) (Or.inl ⟨by first | kernel_rfl | rfl, ?_⟩) (by assumption) ?_
            rotate_left
            · (intro w' hSw; (try dsimp only at hSw); go_simp; try with_reducible rfl)
            try simp only [Act.put]
            refine wpAnyH_take (i := 6) (v := ?_) rfl (by kernel_rfl) (by kernel_rfl) (by kernel_rfl) (fun _ _ _ h => h) (Or.inl ⟨by first | kernel_rfl | rfl, ?_⟩) (by assumption) ?_
            rotate_left
            · (intro w' hSw; (try dsimp only at hSw); go_simp; try with_reducible rfl)
            try simp only [Act.put]
            refine wpAnyH_take (i := 7) (v := ?_) rfl (by kernel_rfl) (by kernel_rfl) (by kernel_rfl) (fun _ _ _ h => h) (Or.inl ⟨by first | kernel_rfl | rfl, ?_⟩) (by assumption) ?_
            rotate_left
            · (intro w' hSw; (try dsimp only at hSw); go_simp; try with_reducible rfl)
            try simp only [Act.put]
            refine wpAnyH_take (i := 8) (v := ?_) rfl (by kernel_rfl) (by kernel_rfl) (by kernel_rfl) (fun _ _ _ h => h) (Or.inl ⟨by first | kernel_rfl | rfl, ?_⟩) (by assumption) ?_
            rotate_left
            · (intro w' hSw; (try dsimp only at hSw); go_simp; try with_reducible rfl)
            try simp only [Act.put]
            refine wpAnyH_take (i := 9) (v := ?_) rfl (by kernel_rfl) (by kernel_rfl) (by kernel_rfl) (fun _ _ _ h => h) (Or.inl ⟨by first | kernel_rfl | rfl, ?_⟩) (by assumption) ?_
            rotate_left
            · (intro w' hSw; (try dsimp only at hSw); go_simp; try with_reducible rfl)
            try simp only [Act.put]
            refine wpAnyH_take (i := 10) (v := ?_) rfl (by kernel_rfl) (by kernel_rfl) (by kernel_rfl) (fun _ _ _ h => h) (Or.inl ⟨by first | kernel_rfl | rfl, ?_⟩) (by assumption) ?_
            rotate_left
            · (intro w' hSw; (try dsimp only at hSw); go_simp; try with_reducible rfl)
            try simp only [Act.put]
            refine wpAnyH_take (i := 11) (v := ?_) rfl (by kernel_rfl) (by kernel_rfl) (by kernel_rfl) (fun _ _ _ h => h) (Or.inl ⟨by first | kernel_rfl | rfl, ?_⟩) (by assumption) ?_
            rotate_left
            · (intro w' hSw; (try dsimp only at hSw); go_simp; try with_reducible rfl)
            try simp only [Act.put]
            refine wpAnyH_take (i := 12) (v := ?_) rfl (by kernel_rfl) (by kernel_rfl) (by kernel_rfl) (fun _ _ _ h => h) (Or.inl ⟨by first | kernel_rfl | rfl, ?_⟩) (by assumption) ?_
            rotate_left
            · (intro w' hSw; (try dsimp only at hSw); go_simp; try with_reducible rfl)
            try simp only [Act.put]
            refine wpAnyH_take (i := 13) (v := ?_) rfl (by kernel_rfl) (by kernel_rfl) (by kernel_rfl) (fun _ _ _ h => h) (Or.inl ⟨by first | kernel_rfl | rfl, ?_⟩) (by assumption) ?_
            rotate_left
            · (intro w' hSw; (try dsimp only at hSw); go_simp; try with_reducible rfl)
            try simp only [Act.put]
            refine wpAnyH_take (i := 14) (v := ?_) rfl (by kernel_rfl) (by kernel_rfl) (by kernel_rfl) (fun _ _ _ h => h) (Or.inl ⟨by first | kernel_rfl | rfl, ?_⟩) (by assumption) ?_
            rotate_left
            · (intro w' hSw; (try dsimp only at hSw); go_simp; try with_reducible rfl)
            try simp only [Act.put]
            refine wpAnyH_take (i := 15) (v := ?_) rfl (by kernel_rfl) (by kernel_rfl) (by kernel_rfl) (fun _ _ _ h => h) (Or.inl ⟨by first | kernel_rfl | rfl, ?_⟩) (by assumption) ?_
            rotate_left
            · (intro w' hSw; (try dsimp only at hSw); go_simp; try with_reducible rfl)
            try simp only [Act.put]
            refine wpAnyH_take (i := 16) (v := ?_) rfl (by kernel_rfl) (by kernel_rfl) (by kernel_rfl) (fun _ _ _ h => h) (Or.inl ⟨by first | kernel_rfl | rfl, ?_⟩) (by assumption) ?_
            rotate_left
            · (intro w' hSw; (try dsimp only at hSw); go_simp; try with_reducible rfl)
            try simp only [Act.put]
            refine wpAnyH_take (i := 17) (v := ?_) rfl (by kernel_rfl) (by kernel_rfl) (by kernel_rfl) (fun _ _ _ h => h) (Or.inl ⟨by first | kernel_rfl | rfl, ?_⟩) (by assumption) ?_
            rotate_left
            · (intro w' hSw; (try dsimp only at hSw); go_simp; try with_reducible rfl)
            try simp only [Act.put]
            refine wpAnyH_take (i := 18) (v := ?_) rfl (by kernel_rfl) (by kernel_rfl) (by kernel_rfl) (fun _ _ _ h => h) (Or.inl ⟨by first | kernel_rfl | rfl, ?_⟩) (by assumption) ?_
            rotate_left
            · (intro w' hSw; (try dsimp only at hSw); go_simp; try with_reducible rfl)
            try simp only [Act.put]
            refine wpAnyH_take (i := 19) (v := ?_) rfl (by kernel_rfl) (by kernel_rfl) (by kernel_rfl) (fun _ _ _ h => h) (Or.inl ⟨by first | kernel_rfl | rfl, ?_⟩) (by assumption) ?_
            rotate_left
            · (intro w' hSw; (try dsimp only at hSw); go_simp; try with_reducible rfl)
            try simp only [Act.put]
            refine wpAnyH_take (i := 20) (v := ?_) rfl (by kernel_rfl) (by kernel_rfl) (by kernel_rfl) (fun _ _ _ h => h) (Or.inl ⟨by first | kernel_rfl | rfl, ?_⟩) (by assumption) ?_
            rotate_left
            · (intro w' hSw; (try dsimp only at hSw); go_simp; try with_reducible rfl)
            try simp only [Act.put]
            refine wpAnyH_take (i := 21) (v := ?_) rfl (by kernel_rfl) (by kernel_rfl) (by kernel_rfl) (fun _ _ _ h => h) (Or.inl ⟨by first | kernel_rfl | rfl, ?_⟩) (by assumption) ?_
            rotate_left
            · (intro w' hSw; (try dsimp only at hSw); go_simp; try with_reducible rfl)
            try simp only [Act.put]
            refine wpAnyH_take (i := 22) (v := ?_) rfl (by kernel_rfl) (by kernel_rfl) (by kernel_rfl) (fun _ _ _ h => h) (Or.inl ⟨by first | kernel_rfl | rfl, ?_⟩) (by assumption) ?_
            rotate_left
            · (intro w' hSw; (try dsimp only at hSw); go_simp; try with_reducible rfl)
            try simp only [Act.put]
            refine wpAnyH_take (i := 23) (v := ?_) rfl (by kernel_rfl) (by kernel_rfl) (by kernel_rfl) (fun _ _ _ h => h) (Or.inl ⟨by first | kernel_rfl | rfl, ?_⟩) (by assumption) ?_
            rotate_left
            · (intro w' hSw; (try dsimp only at hSw); go_simp; try with_reducible rfl)
            try simp only [Act.put]
            refine wpAnyH_take (i := 24) (v := ?_) rfl (by kernel_rfl) (by kernel_rfl) (by kernel_rfl) (fun _ _ _ h => h) (Or.inl ⟨by first | kernel_rfl | rfl, ?_⟩) (by assumption) ?_
            rotate_left
            · (intro w' hSw; (try dsimp only at hSw); go_simp; try with_reducible rfl)
            try simp only [Act.put]
            refine wpAnyH_take (i := 25) (v := ?_) rfl (by kernel_rfl) (by kernel_rfl) (by kernel_rfl) (fun _ _ _ h => h) (Or.inl ⟨by first | kernel_rfl | rfl, ?_⟩) (by assumption) ?_
            rotate_left
            · (intro w' hSw; (try dsimp only at hSw); go_simp; try with_reducible rfl)
            try simp only [Act.put]
            refine wpAnyH_take (i := 26) (v := ?_) rfl (by kernel_rfl) (by kernel_rfl) (by kernel_rfl) (fun _ _ _ h => h) (Or.inl ⟨by first | kernel_rfl | rfl, ?_⟩) (by assumption) ?_
            rotate_left
            · (intro w' hSw; (try dsimp only at hSw); go_simp; try with_reducible rfl)
            try simp only [Act.put]
            refine wpAnyH_take (i := 27) (v := ?_) rfl (by kernel_rfl) (by kernel_rfl) (by kernel_rfl) (fun _ _ _ h => h) (Or.inl ⟨by first | kernel_rfl | rfl, ?_⟩) (by assumption) ?_
            rotate_left
            · (intro w' hSw; (try dsimp only at hSw); go_simp; try with_reducible rfl)
            try simp only [Act.put]
            refine wpAnyH_done (by kernel_rfl) ?_ _
            go_simp
            clear hHeld
            go_wp2
            go_roundw
            case rel => exact ⟨k + 1, by omega, by go_num, Lib.hid HW.out.drew, HG1⟩
            case measure => simp [RowKit.intOf]; omega
    case neg =>
      have HF := Lib.hid (HFIN.out k HG.out (by omega))
      go_wp2
      go_ret
      exact ⟨ret_boolB HF.out, HW.out⟩
theorem specPlaces_is (v : Value) (ls : List Int) (r : Bool) (w : World) (h : Sl w 1 v ls.length (ics ls)) (hv : Low w.heap.size v) (hr : decide (PlacesM ls) = r) :
    Calls Tryz.prog 93 #[v] w fun e w' => e = .returned (.bool r) ∧ Below w.heap.size w w' := hr ▸ specPlaces_any v ls w h hv
end Go.Proofs.YtojjenclcidnkaaGreatDoor

/-
  A set of the core by itself: spec.l6Set.
-/
set_option maxRecDepth 100000
namespace Go.Proofs.YtojjenclcidnkaaGreatDoor
open Go.ChangeShapes Go.WideShapes Go.ChangeAt Go.RowKit Go.Proofs.Palim

set_option maxHeartbeats 4000000 in
theorem specSet_any (x : CSetM) (w : World) (hz : x.name.size ≤ 1048576 ∧ x.frm.size ≤ 1048576) :
    Calls Tryz.prog 72 #[.agg (cc x).toArray] w fun e w' => e = .returned (.bool (decide (SetOkC x))) ∧ Below w.heap.size w w' := by
  have hnot : ∀ (x : Bool) (w : World), (Op.unary .not (.bool x)).run Tryz.prog w = .ok (.bool (!x)) w := fun _ _ => rfl
  obtain ⟨ok, HOK⟩ : ∃ ok, Hid (decide (SetOkC x) = ok) := ⟨_, Lib.hid rfl⟩
  rw [HOK.out]
  have hzn : x.name.size ≤ maxLen := by unfold maxLen; have := hz.1; omega
  have hzf : x.frm.size ≤ maxLen := by unfold maxLen; have := hz.2; omega
  have HZN := Lib.hid hzn
  have HZF := Lib.hid hzf
  have X0 := Lib.hid (show Box _ w.heap.size (cc x) from box_new w (cc x).toArray 70)
  have B0 := Lib.hid (Below.new1 (w := w) (.cells (cc x).toArray 70))
  clear hz hzn hzf
  have HBAD := Lib.hid (show ¬ SetOkC x → false = ok from fun h => HOK.out ▸ (decide_eq_false h).symm)
  have H8 := Lib.hid x.h8
  go_enter Tryz.func72, Tryz.ntmps72
  go_upto_region 1 with fail
  obtain ⟨W, HWE⟩ : ∃ W, w.alloc (.cells (cc x).toArray 70) = W := ⟨_, rfl⟩
  rw [HWE] at X0 B0 ⊢
  clear HWE
  obtain ⟨n0, n1, n2, -, -, -, -⟩ := ccBox (x := x) X0.out
  go_wp2_with fail
  refine (BookName_any x.name _ HZN.out).mono ?_
  rintro e W ⟨rfl, rfl⟩
  have hb := Below.refl W.heap.size W
  have Y1 := Lib.hid (X0.out.below hb X0.out.lt)
  have B1 := Lib.hid (B0.out.trans (hb.mono B0.out.size))
  clear hb X0 B0 n0 n1 n2
  by_cases hnm : NameOk x.name
  case neg =>
    rw [decide_eq_false hnm]
    have HF := Lib.hid (HBAD.out (fun c => hnm c.1))
    clear hnm
    go_wp2
    go_ret
    exact ⟨ret_boolB HF.out, B1.out⟩
  case pos =>
  rw [decide_eq_true hnm]
  have HNM := Lib.hid hnm
  clear hnm
  obtain ⟨-, n1, n2, -, -, -, -⟩ := ccBox Y1.out
  by_cases hf0 : x.frm.size = 0
  case pos =>
    have hq := eqEmpty hf0
    have HF0 := Lib.hid hf0
    clear hf0
    obtain ⟨-, n1, -, n4, n5, n6, -⟩ := ccBox Y1.out
    by_cases hkd : 1 ≤ x.kind ∧ x.kind ≤ 2
    case neg =>
      have HF := Lib.hid (HBAD.out (fun c => hkd c.2.2.1))
      have hk2 : x.kind < 1 ∨ (¬ x.kind < 1 ∧ x.kind > 2) := by omega
      clear hkd
      rcases hk2 with h1 | ⟨h1, h2⟩
      all_goals
        go_wp2
        go_ret
        exact ⟨ret_boolB HF.out, B1.out⟩
    case pos =>
    have HKD := Lib.hid hkd
    have hk3 : ¬ x.kind < 1 := by omega
    have hk4 : ¬ x.kind > 2 := by omega
    clear hkd
    go_wp2_with fail
    by_cases hho : PtrOkM x.home
    case neg =>
      have HF := Lib.hid (HBAD.out (fun c => hho c.2.2.2.1))
      have hor := decide_eq_false hho
      clear hho
      refine (specPtrOk_is x.home _ _ hor).mono ?_
      rintro e w3 ⟨rfl, hb⟩
      have B2 := Lib.hid (B1.out.trans (hb.mono B1.out.size))
      clear hb
      go_wp2
      go_ret
      exact ⟨ret_boolB HF.out, B2.out⟩
    case pos =>
    have HHO := Lib.hid hho
    have hor := decide_eq_true hho
    clear hho
    refine (specPtrOk_is x.home _ _ hor).mono ?_
    rintro e w3 ⟨rfl, hb⟩
    have Y2 := Lib.hid (Y1.out.below hb Y1.out.lt)
    have B2 := Lib.hid (B1.out.trans (hb.mono B1.out.size))
    clear hb Y1 B1 n1 n4 n5 n6 hor hk3 hk4
    have HFIN := Lib.hid (show (∀ (j : Nat) (h : j < x.map.length), j < 8 → PtrOkM x.map[j]) → true = ok from fun hg => HOK.out ▸ (decide_eq_true (show SetOkC x from ⟨HNM.out, Or.inl HF0.out, HKD.out, HHO.out, fun p hp => by
      obtain ⟨i, hi, rfl⟩ := List.mem_iff_getElem.1 hp
      exact hg i hi (by have := H8.out; omega)⟩)).symm)
    go_wp2
    go_loopw [3] (fun i wr => ∃ (k : Nat), k ≤ 8 ∧ i = .int .i64 k ∧ Hid (Below w.heap.size w wr) ∧ Hid (Box wr w.heap.size (cc x)) ∧ Hid (∀ (j : Nat) (h : j < x.map.length), j < k → PtrOkM x.map[j])) (fun i _ => 8 - (RowKit.intOf i).toNat)
    case atStart => exact ⟨0, Nat.zero_le _, rfl, B2, Y2, Lib.hid (fun j _ h => absurd h (Nat.not_lt_zero _))⟩
    case round =>
      obtain ⟨k, hk, rfl, HB, HX, HG⟩ := hrel
      by_cases hlt : k < 8
      case pos =>
        have hl0 : k < x.map.length := by rw [H8.out]; exact hlt
        have hk1 : (k : Int) < 8 := by omega
        have HBS := Lib.hid (show ¬ PtrOkM x.map[k] → false = ok from fun h => HBAD.out (fun c => h (c.2.2.2.2 _ (List.getElem_mem hl0))))
        have HGS := Lib.hid (show PtrOkM x.map[k] → ∀ (j : Nat) (h : j < x.map.length), j < k + 1 → PtrOkM x.map[j] from fun hg j hj hjk => by
          by_cases e : j = k
          · subst e; exact hg
          · exact HG.out j hj (by omega))
        have hpr : ∀ i, i < 3 → ∀ u, (pc x.map[k])[i]? = some u → wr.cell? ⟨w.heap.size, 3 + k * 3 + i, none⟩ = some u := fun i hi u hu => by
          have h2 := cc_map x (k * 3 + i) u (by rw [pcs_atD _ k hl0 i hi]; exact hu)
          have := HX.out.cell _ h2
          rwa [show 3 + k * 3 + i = 3 + (k * 3 + i) by omega]
        have g0 := hpr 0 (by omega) _ rfl
        have g1 := hpr 1 (by omega) _ rfl
        have g2 := hpr 2 (by omega) _ rfl
        rw [Nat.add_zero] at g0
        clear hpr
        generalize x.map[k] = y at g0 g1 g2 HBS HGS
        clear HG hl0
        by_cases hg : PtrOkM y
        case neg =>
          have HF := Lib.hid (HBS.out hg)
          have hor := decide_eq_false hg
          clear hg HBS HGS
          go_wp2_with fail
          refine (specPtrOk_is y _ _ hor).mono ?_
          rintro e w4 ⟨rfl, hb⟩
          have HB2 := Lib.hid (HB.out.trans (hb.mono HB.out.size))
          clear hb
          go_wp2
          go_ret
          exact ⟨ret_boolB HF.out, HB2.out⟩
        case pos =>
          have HG1 := Lib.hid (HGS.out hg)
          have hor := decide_eq_true hg
          clear hg HBS HGS
          go_wp2_with fail
          refine (specPtrOk_is y _ _ hor).mono ?_
          rintro e w4 ⟨rfl, hb⟩
          have HB2 := Lib.hid (HB.out.trans (hb.mono HB.out.size))
          have HX2 := Lib.hid (HX.out.below hb HX.out.lt)
          clear hb
          go_wp2
          go_roundw
          case rel => exact ⟨k + 1, by omega, by go_num, HB2, HX2, HG1⟩
          case measure => simp [RowKit.intOf]; omega
      case neg =>
        have HF := Lib.hid (HFIN.out (fun j hj _ => HG.out j hj (by have := H8.out; omega)))
        go_wp2
        go_ret
        exact ⟨ret_boolB HF.out, HB.out⟩
  case neg =>
    have hq := neEmpty hf0
    have HF0 := Lib.hid hf0
    clear hf0
    go_wp2_with fail
    refine (BookName_any x.frm _ HZF.out).mono ?_
    rintro e W ⟨rfl, rfl⟩
    have hb := Below.refl W.heap.size W
    have Y2 := Lib.hid (Y1.out.below hb Y1.out.lt)
    have B2 := Lib.hid (B1.out.trans (hb.mono B1.out.size))
    clear hb Y1 B1 n1 n2
    by_cases hfm : NameOk x.frm
    case neg =>
      rw [decide_eq_false hfm]
      have HF := Lib.hid (HBAD.out (fun c => by rcases c.2.1 with h | h; exact HF0.out h; exact hfm h))
      clear hfm
      go_wp2
      go_ret
      exact ⟨ret_boolB HF.out, B2.out⟩
    case pos =>
    rw [decide_eq_true hfm]
    have HFM := Lib.hid hfm
    clear hfm
    obtain ⟨-, n1, -, n4, n5, n6, -⟩ := ccBox Y2.out
    by_cases hkd : 1 ≤ x.kind ∧ x.kind ≤ 2
    case neg =>
      have HF := Lib.hid (HBAD.out (fun c => hkd c.2.2.1))
      have hk2 : x.kind < 1 ∨ (¬ x.kind < 1 ∧ x.kind > 2) := by omega
      clear hkd
      rcases hk2 with h1 | ⟨h1, h2⟩
      all_goals
        go_wp2
        go_ret
        exact ⟨ret_boolB HF.out, B2.out⟩
    case pos =>
    have HKD := Lib.hid hkd
    have hk3 : ¬ x.kind < 1 := by omega
    have hk4 : ¬ x.kind > 2 := by omega
    clear hkd
    go_wp2_with fail
    by_cases hho : PtrOkM x.home
    case neg =>
      have HF := Lib.hid (HBAD.out (fun c => hho c.2.2.2.1))
      have hor := decide_eq_false hho
      clear hho
      refine (specPtrOk_is x.home _ _ hor).mono ?_
      rintro e w3 ⟨rfl, hb⟩
      have B3 := Lib.hid (B2.out.trans (hb.mono B2.out.size))
      clear hb
      go_wp2
      go_ret
      exact ⟨ret_boolB HF.out, B3.out⟩
    case pos =>
    have HHO := Lib.hid hho
    have hor := decide_eq_true hho
    clear hho
    refine (specPtrOk_is x.home _ _ hor).mono ?_
    rintro e w3 ⟨rfl, hb⟩
    have Y3 := Lib.hid (Y2.out.below hb Y2.out.lt)
    have B3 := Lib.hid (B2.out.trans (hb.mono B2.out.size))
    clear hb Y2 B2 n1 n4 n5 n6 hor hk3 hk4
    have HFIN := Lib.hid (show (∀ (j : Nat) (h : j < x.map.length), j < 8 → PtrOkM x.map[j]) → true = ok from fun hg => HOK.out ▸ (decide_eq_true (show SetOkC x from ⟨HNM.out, Or.inr HFM.out, HKD.out, HHO.out, fun p hp => by
      obtain ⟨i, hi, rfl⟩ := List.mem_iff_getElem.1 hp
      exact hg i hi (by have := H8.out; omega)⟩)).symm)
    go_wp2
    go_loopw [3] (fun i wr => ∃ (k : Nat), k ≤ 8 ∧ i = .int .i64 k ∧ Hid (Below w.heap.size w wr) ∧ Hid (Box wr w.heap.size (cc x)) ∧ Hid (∀ (j : Nat) (h : j < x.map.length), j < k → PtrOkM x.map[j])) (fun i _ => 8 - (RowKit.intOf i).toNat)
    case atStart => exact ⟨0, Nat.zero_le _, rfl, B3, Y3, Lib.hid (fun j _ h => absurd h (Nat.not_lt_zero _))⟩
    case round =>
      obtain ⟨k, hk, rfl, HB, HX, HG⟩ := hrel
      by_cases hlt : k < 8
      case pos =>
        have hl0 : k < x.map.length := by rw [H8.out]; exact hlt
        have hk1 : (k : Int) < 8 := by omega
        have HBS := Lib.hid (show ¬ PtrOkM x.map[k] → false = ok from fun h => HBAD.out (fun c => h (c.2.2.2.2 _ (List.getElem_mem hl0))))
        have HGS := Lib.hid (show PtrOkM x.map[k] → ∀ (j : Nat) (h : j < x.map.length), j < k + 1 → PtrOkM x.map[j] from fun hg j hj hjk => by
          by_cases e : j = k
          · subst e; exact hg
          · exact HG.out j hj (by omega))
        have hpr : ∀ i, i < 3 → ∀ u, (pc x.map[k])[i]? = some u → wr.cell? ⟨w.heap.size, 3 + k * 3 + i, none⟩ = some u := fun i hi u hu => by
          have h2 := cc_map x (k * 3 + i) u (by rw [pcs_atD _ k hl0 i hi]; exact hu)
          have := HX.out.cell _ h2
          rwa [show 3 + k * 3 + i = 3 + (k * 3 + i) by omega]
        have g0 := hpr 0 (by omega) _ rfl
        have g1 := hpr 1 (by omega) _ rfl
        have g2 := hpr 2 (by omega) _ rfl
        rw [Nat.add_zero] at g0
        clear hpr
        generalize x.map[k] = y at g0 g1 g2 HBS HGS
        clear HG hl0
        by_cases hg : PtrOkM y
        case neg =>
          have HF := Lib.hid (HBS.out hg)
          have hor := decide_eq_false hg
          clear hg HBS HGS
          go_wp2_with fail
          refine (specPtrOk_is y _ _ hor).mono ?_
          rintro e w4 ⟨rfl, hb⟩
          have HB2 := Lib.hid (HB.out.trans (hb.mono HB.out.size))
          clear hb
          go_wp2
          go_ret
          exact ⟨ret_boolB HF.out, HB2.out⟩
        case pos =>
          have HG1 := Lib.hid (HGS.out hg)
          have hor := decide_eq_true hg
          clear hg HBS HGS
          go_wp2_with fail
          refine (specPtrOk_is y _ _ hor).mono ?_
          rintro e w4 ⟨rfl, hb⟩
          have HB2 := Lib.hid (HB.out.trans (hb.mono HB.out.size))
          have HX2 := Lib.hid (HX.out.below hb HX.out.lt)
          clear hb
          go_wp2
          go_roundw
          case rel => exact ⟨k + 1, by omega, by go_num, HB2, HX2, HG1⟩
          case measure => simp [RowKit.intOf]; omega
      case neg =>
        have HF := Lib.hid (HFIN.out (fun j hj _ => HG.out j hj (by have := H8.out; omega)))
        go_wp2
        go_ret
        exact ⟨ret_boolB HF.out, HB.out⟩
theorem specSet_is (x : CSetM) (r : Bool) (w : World) (hz : x.name.size ≤ 1048576 ∧ x.frm.size ≤ 1048576) (hr : decide (SetOkC x) = r) :
    Calls Tryz.prog 72 #[.agg (cc x).toArray] w fun e w' => e = .returned (.bool r) ∧ Below w.heap.size w w' := hr ▸ specSet_any x w hz
end Go.Proofs.YtojjenclcidnkaaGreatDoor

/-
  impl: places, pointers that point, parts.
-/
set_option maxRecDepth 100000
namespace Go.Proofs.YtojjenclcidnkaaGreatDoor
open Go.ChangeShapes Go.WideShapes Go.ChangeAt Go.RowKit Go.Proofs.Palim

set_option maxHeartbeats 2000000 in
theorem implSafe_any (v : Value) (ls : List Int) (w : World) (h : Sl w 1 v ls.length (ics ls)) (hv : Low w.heap.size v) :
    Calls Tryz.prog 134 #[v] w fun e w' => e = .returned (.bool (decide (PlacesM ls))) ∧ Below w.heap.size w w' := by
  obtain ⟨ok, HOK⟩ : ∃ ok, Hid (decide (PlacesM ls) = ok) := ⟨_, Lib.hid rfl⟩
  rw [HOK.out]
  obtain ⟨n, HL⟩ : ∃ n, Hid (ls.length = n) := ⟨_, Lib.hid rfl⟩
  rw [HL.out] at h
  have hnm := h.le
  unfold maxLen at hnm
  have hfin : ∀ k, GoodP ls k → n ≤ k → true = ok := fun k hk hkn => HOK.out ▸ (decide_eq_true (show PlacesM ls from fun j hj h' => hk j hj (by have := HL.out; omega))).symm
  have HFIN := Lib.hid hfin
  clear hfin
  by_cases hn0 : n = 0
  · subst hn0
    have HF := Lib.hid (HFIN.out 0 (fun j _ h => absurd h (Nat.not_lt_zero _)) (Nat.le_refl _))
    obtain ⟨_, A, c, rfl, _, _, _⟩ := h
    go_enter Tryz.func134, Tryz.ntmps134
    go_wp2
    go_loopw [3, 4, 7] (fun _ _ i wr => i = .int .i64 0 ∧ wr = w) (fun _ _ _ _ => 0)
    case atStart => exact ⟨rfl, rfl⟩
    case round =>
      obtain ⟨rfl, rfl⟩ := hrel
      go_wp2
      go_ret
      exact ⟨ret_boolB HF.out, Below.refl _ _⟩
  obtain ⟨b, off, c, rfl, hnc, hcm, hcell⟩ := h.form (by omega)
  have hbl : b < w.heap.size := hv b rfl
  have HC := Lib.hid hcell
  unfold maxLen at hcm
  clear hcell h hv
  go_enter Tryz.func134, Tryz.ntmps134
  go_wp2
  go_loopw [3, 4, 7] (fun _ _ i wr => ∃ (k : Nat), k ≤ n ∧ i = .int .i64 k ∧ wr = w ∧ Hid (GoodP ls k)) (fun _ _ i _ => n - (RowKit.intOf i).toNat)
  case atStart => exact ⟨0, Nat.zero_le _, rfl, rfl, Lib.hid (fun j _ h => absurd h (Nat.not_lt_zero _))⟩
  case round =>
    obtain ⟨k, hk, rfl, rfl, HG⟩ := hrel
    by_cases hlt : k < n
    case pos =>
      have hl0 : k < ls.length := by rw [HL.out]; exact hlt
      have g0 := HC.out k _ (ics_at ls k hl0)
      have hk1 : (k : Int) < (n : Int) := by omega
      have HBS := Lib.hid (show ¬ (13 ≤ ls[k] ∧ ls[k] < 120) → false = ok from fun h => HOK.out ▸ (decide_eq_false (fun c => h (c k hl0 hl0).1)).symm)
      have HGS := Lib.hid (fun h1 h2 => goodP_succ HG.out hl0 h1 h2)
      by_cases hk0 : k = 0
      case pos =>
        subst hk0
        rw [Nat.add_zero] at g0
        generalize ls[0] = y at g0 HBS HGS
        by_cases hr : 13 ≤ y ∧ y < 120
        case neg =>
          have HF := Lib.hid (HBS.out hr)
          have hr2 : y < 13 ∨ (¬ y < 13 ∧ y ≥ 120) := by omega
          clear hr HBS HGS
          rcases hr2 with h1 | ⟨h1, h2⟩
          all_goals
            go_wp2
            go_ret
            exact ⟨ret_boolB HF.out, Below.refl _ _⟩
        case pos =>
          have HG1 := Lib.hid (HGS.out hr (fun h => absurd h (Nat.lt_irrefl _)))
          obtain ⟨r1, r2⟩ := hr
          have r3 : ¬ y < 13 := by omega
          have r4 : ¬ y ≥ 120 := by omega
          clear HBS HGS
          go_wp2
          go_roundw
          case rel => exact ⟨0 + 1, by omega, by go_num, by first | rfl | trivial, HG1⟩
          case measure => simp [RowKit.intOf]; omega
      case neg =>
        obtain ⟨j, HJ⟩ : ∃ j, Hid (j = k - 1) := ⟨_, Lib.hid rfl⟩
        have hjl : j < ls.length := by rw [HJ.out]; omega
        have p0 := HC.out j _ (ics_at ls j hjl)
        have hwk : IntKind.wrap .i64 ((k : Int) - 1) = (j : Int) := by rw [IntWalk.i64_in _ (by omega), HJ.out]; omega
        have hjn : (j : Int) < (n : Int) := by have := HL.out; omega
        have hjn2 : j < n := by have := HL.out; omega
        have hkp : (k : Int) > 0 := by omega
        have hkd : decide ((k : Int) > 0) = true := decide_eq_true hkp
        have HBA := Lib.hid (show ¬ ls[j] < ls[k] → false = ok from fun h => HOK.out ▸ (decide_eq_false (fun c => by
          have h2 := (c k hl0 hl0).2 (by omega)
          have e : ls[j] = ls[k - 1]'(by omega) := by congr 1 <;> exact HJ.out
          rw [e] at h
          exact h h2)).symm)
        have HGT := Lib.hid (show (13 ≤ ls[k] ∧ ls[k] < 120) → ls[j] < ls[k] → GoodP ls (k + 1) from fun h1 h2 => HGS.out h1 (fun _ => by
          have e : ls[j] = ls[k - 1]'(by omega) := by congr 1 <;> exact HJ.out
          rw [← e]
          exact h2))
        clear HGS
        generalize ls[k] = y at g0 HBS HBA HGT
        generalize ls[j] = p at p0 HBA HGT
        by_cases hr : 13 ≤ y ∧ y < 120
        case neg =>
          have HF := Lib.hid (HBS.out hr)
          have hr2 : y < 13 ∨ (¬ y < 13 ∧ y ≥ 120) := by omega
          clear hr HBS HBA HGT
          rcases hr2 with h1 | ⟨h1, h2⟩
          all_goals
            go_wp2
            go_ret
            exact ⟨ret_boolB HF.out, Below.refl _ _⟩
        case pos =>
          obtain ⟨r1, r2⟩ := hr
          have r3 : ¬ y < 13 := by omega
          have r4 : ¬ y ≥ 120 := by omega
          by_cases hp : p < y
          case neg =>
            have HF := Lib.hid (HBA.out hp)
            have hp2 : p ≥ y := by omega
            clear HBS HBA HGT hp
            go_wp2
            go_ret
            exact ⟨ret_boolB HF.out, Below.refl _ _⟩
          case pos =>
            have HG1 := Lib.hid (HGT.out ⟨r1, r2⟩ hp)
            have hp2 : ¬ p ≥ y := by omega
            clear HBS HBA HGT hp
            go_wp2
            go_roundw
            case rel => exact ⟨k + 1, by omega, by go_num, by first | rfl | trivial, HG1⟩
            case measure => simp [RowKit.intOf]; omega
    case neg =>
      have HF := Lib.hid (HFIN.out k HG.out (by omega))
      go_wp2
      go_ret
      exact ⟨ret_boolB HF.out, Below.refl _ _⟩
theorem implSafe_is (v : Value) (ls : List Int) (r : Bool) (w : World) (h : Sl w 1 v ls.length (ics ls)) (hv : Low w.heap.size v) (hr : decide (PlacesM ls) = r) :
    Calls Tryz.prog 134 #[v] w fun e w' => e = .returned (.bool r) ∧ Below w.heap.size w w' := hr ▸ implSafe_any v ls w h hv

set_option maxHeartbeats 1000000 in
theorem corePoints_any (p : PtrM) (w : World) :
    Calls Tryz.prog 121 #[pv p] w fun e w' => e = .returned (.bool (decide (GoodM p))) ∧ Below w.heap.size w w' := by
  obtain ⟨r, HR⟩ : ∃ r, Hid (decide (GoodM p) = r) := ⟨_, Lib.hid rfl⟩
  rw [HR.out]
  have hB := Below.new1 (w := w) (.cells #[.int .i64 p.at_, .int .i64 p.sum, .int .i64 p.birth] 67)
  have hX := box_new w #[.int .i64 p.at_, .int .i64 p.sum, .int .i64 p.birth] 67
  by_cases hok : PtrOkM p
  case neg =>
    have HF := Lib.hid (show false = r from HR.out ▸ (decide_eq_false (fun c => hok (Or.inr c))).symm)
    have hor := decide_eq_false hok
    clear hok
    go_enter Tryz.func121, Tryz.ntmps121
    go_wp2_with fail
    refine (implPtrOk_is p _ _ hor).mono ?_
    rintro e w1 ⟨rfl, hb⟩
    have HB := Lib.hid (hB.trans (hb.mono hB.size))
    clear hB hX hb
    go_wp2
    go_ret
    exact ⟨ret_boolB HF.out, HB.out⟩
  case pos =>
    have hor := decide_eq_true hok
    obtain ⟨a, s, b⟩ := p
    by_cases hn : a = 0
    case pos =>
      have hz : s = 0 ∧ b = 0 := by
        rcases hok with h | h
        · exact ⟨h.2.1, h.2.2⟩
        · have := h.1; simp only at this; omega
      obtain ⟨rfl, rfl⟩ := hz
      subst hn
      have HF := Lib.hid (show false = r from HR.out ▸ (decide_eq_false (fun c => by have := c.1; simp only at this; omega)).symm)
      clear hok
      go_enter Tryz.func121, Tryz.ntmps121
      go_wp2_with fail
      refine (implPtrOk_is ⟨0, 0, 0⟩ _ _ hor).mono ?_
      rintro e w1 ⟨rfl, hb⟩
      have HB := Lib.hid (hB.trans (hb.mono hB.size))
      obtain ⟨x0, x1, x2⟩ := (hX.below hb hX.lt).three
      clear hB hX hb
      go_wp2
      go_ret
      exact ⟨ret_boolB HF.out, HB.out⟩
    case neg =>
      have HF := Lib.hid (show true = r from HR.out ▸ (decide_eq_true (by rcases hok with h | h; exact absurd h.1 hn; exact h)).symm)
      have hq : (a == 0) = false := by simpa using hn
      have hq2 : decide (a = 0) = false := by simpa using hn
      clear hok
      go_enter Tryz.func121, Tryz.ntmps121
      go_wp2_with fail
      refine (implPtrOk_is ⟨a, s, b⟩ _ _ hor).mono ?_
      rintro e w1 ⟨rfl, hb⟩
      have HB := Lib.hid (hB.trans (hb.mono hB.size))
      obtain ⟨x0, x1, x2⟩ := (hX.below hb hX.lt).three
      clear hB hX hb
      go_wp2
      go_ret
      exact ⟨ret_boolB HF.out, HB.out⟩
theorem corePoints_is (p : PtrM) (r : Bool) (w : World) (hr : decide (GoodM p) = r) :
    Calls Tryz.prog 121 #[pv p] w fun e w' => e = .returned (.bool r) ∧ Below w.heap.size w w' := hr ▸ corePoints_any p w

set_option maxHeartbeats 2000000 in
theorem implParts_any (v : Value) (ls : List PtrM) (w : World) (h : Sl w 3 v ls.length (pcs ls)) (hv : Low w.heap.size v) :
    Calls Tryz.prog 133 #[v] w fun e w' => e = .returned (.bool (decide (ls.length ≤ 8 ∧ PartsM ls))) ∧ Below w.heap.size w w' := by
  have hnot : ∀ (x : Bool) (w : World), (Op.unary .not (.bool x)).run Tryz.prog w = .ok (.bool (!x)) w := fun _ _ => rfl
  obtain ⟨ok, HOK⟩ : ∃ ok, Hid (decide (ls.length ≤ 8 ∧ PartsM ls) = ok) := ⟨_, Lib.hid rfl⟩
  rw [HOK.out]
  obtain ⟨n, HL⟩ : ∃ n, Hid (ls.length = n) := ⟨_, Lib.hid rfl⟩
  rw [HL.out] at h
  have hnm := h.le
  unfold maxLen at hnm
  have HFIN := Lib.hid (show (∀ (j : Nat) (h : j < ls.length), j < n → GoodM ls[j]) → decide (n ≤ 8) = ok from fun hg => by
    rw [← HOK.out, HL.out]
    have hp : PartsM ls := fun p hp => by
      obtain ⟨i, hi, rfl⟩ := List.mem_iff_getElem.1 hp
      exact hg i hi (by have := HL.out; omega)
    by_cases h8 : n ≤ 8 <;> simp [h8, hp])
  by_cases hn0 : n = 0
  · subst hn0
    have HF := Lib.hid (HFIN.out (fun j _ h => absurd h (Nat.not_lt_zero _)))
    obtain ⟨_, A, c, rfl, _, _, _⟩ := h
    go_enter Tryz.func133, Tryz.ntmps133
    go_wp2
    go_loopw [4, 7] (fun _ i wr => i = .int .i64 0 ∧ wr = w) (fun _ _ _ => 0)
    case atStart => exact ⟨rfl, rfl⟩
    case round =>
      obtain ⟨rfl, rfl⟩ := hrel
      go_wp2
      go_ret
      exact ⟨ret_boolB HF.out, Below.refl _ _⟩
  obtain ⟨b, off, c, rfl, hnc, hcm, hcell⟩ := h.form (by omega)
  have hbl : b < w.heap.size := hv b rfl
  have HC := Lib.hid hcell
  unfold maxLen at hcm
  clear hcell h hv
  go_enter Tryz.func133, Tryz.ntmps133
  go_wp2
  go_loopw [4, 7] (fun _ i wr => ∃ (k : Nat), k ≤ n ∧ i = .int .i64 k ∧ Hid (Below w.heap.size w wr) ∧ Hid (∀ (j : Nat) (h : j < ls.length), j < k → GoodM ls[j])) (fun _ i _ => n - (RowKit.intOf i).toNat)
  case atStart => exact ⟨0, Nat.zero_le _, rfl, Lib.hid (Below.refl _ _), Lib.hid (fun j _ h => absurd h (Nat.not_lt_zero _))⟩
  case round =>
    obtain ⟨k, hk, rfl, HB, HG⟩ := hrel
    by_cases hlt : k < n
    case pos =>
      have hl0 : k < ls.length := by rw [HL.out]; exact hlt
      obtain ⟨g0, g1, g2⟩ := ptr_read (fun j u hu => (HB.out.cell hbl).trans (HC.out j u hu)) k hl0
      have hk1 : (k : Int) < (n : Int) := by omega
      have HBS := Lib.hid (show ¬ GoodM ls[k] → false = ok from fun h => HOK.out ▸ (decide_eq_false (fun c => h (c.2 _ (List.getElem_mem hl0)))).symm)
      have HGS := Lib.hid (show GoodM ls[k] → ∀ (j : Nat) (h : j < ls.length), j < k + 1 → GoodM ls[j] from fun hg j hj hjk => by
        by_cases e : j = k
        · subst e; exact hg
        · exact HG.out j hj (by omega))
      generalize ls[k] = y at g0 g1 g2 HBS HGS
      clear HG hl0
      have hB := Below.new1 (w := wr) (.cells #[.int .i64 y.at_, .int .i64 y.sum, .int .i64 y.birth] 67)
      by_cases hg : GoodM y
      case neg =>
        have HF := Lib.hid (HBS.out hg)
        have hor := decide_eq_false hg
        clear hg HBS HGS
        go_wp2_with fail
        refine (corePoints_is y _ _ hor).mono ?_
        rintro e w1 ⟨rfl, hb⟩
        have HB1 := Lib.hid (HB.out.trans ((hB.trans (hb.mono hB.size)).mono HB.out.size))
        clear hB hb HB
        go_wp2
        go_ret
        exact ⟨ret_boolB HF.out, HB1.out⟩
      case pos =>
        have HG1 := Lib.hid (HGS.out hg)
        have hor := decide_eq_true hg
        clear hg HBS HGS
        go_wp2_with fail
        refine (corePoints_is y _ _ hor).mono ?_
        rintro e w1 ⟨rfl, hb⟩
        have HB1 := Lib.hid (HB.out.trans ((hB.trans (hb.mono hB.size)).mono HB.out.size))
        clear hB hb HB
        go_wp2
        go_roundw
        case rel => exact ⟨k + 1, by omega, by go_num, HB1, HG1⟩
        case measure => simp [RowKit.intOf]; omega
    case neg =>
      have HF := Lib.hid (HFIN.out (fun j hj _ => HG.out j hj (by have := HL.out; omega)))
      have hd : decide ((n : Int) ≤ 8) = decide (n ≤ 8) := by
        by_cases h8 : n ≤ 8
        · rw [decide_eq_true h8, decide_eq_true (by omega)]
        · rw [decide_eq_false h8, decide_eq_false (by omega)]
      clear HFIN
      go_wp2
      go_ret
      exact ⟨ret_boolB HF.out, HB.out⟩
theorem implParts_is (v : Value) (ls : List PtrM) (r : Bool) (w : World) (h : Sl w 3 v ls.length (pcs ls)) (hv : Low w.heap.size v) (hr : decide (ls.length ≤ 8 ∧ PartsM ls) = r) :
    Calls Tryz.prog 133 #[v] w fun e w' => e = .returned (.bool r) ∧ Below w.heap.size w w' := hr ▸ implParts_any v ls w h hv
end Go.Proofs.YtojjenclcidnkaaGreatDoor

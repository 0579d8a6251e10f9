/-
  impl's sets by name: a map from names to boxes that hold a set each; bookOpen, and a set by itself.
-/
import Derived.Test.YtobjgdnmlibofaaGreatSpecOk
import Derived.Maps.OwnSet
set_option maxRecDepth 100000
namespace Go.Proofs.YtobjgdnmlibofaaGreat
open Go.ChangeShapes Go.WideShapes Go.ChangeAt Go.RowKit Go.Proofs.Palim Go.Maps

theorem all8 (p : Nat → Prop) (h0 : p 0) (h1 : p 1) (h2 : p 2) (h3 : p 3) (h4 : p 4) (h5 : p 5) (h6 : p 6) (h7 : p 7) (k : Nat) (h : k < 8) : p k := by
  match k, h with
  | 0, _ => exact h0
  | 1, _ => exact h1
  | 2, _ => exact h2
  | 3, _ => exact h3
  | 4, _ => exact h4
  | 5, _ => exact h5
  | 6, _ => exact h6
  | 7, _ => exact h7
theorem idx8 (x : SetM) (k : Nat) (h : k < 8) (w : World) : (Instr.index 138 (.agg #[.string x.b0, .string x.b1, .string x.b2, .string x.b3, .string x.b4, .string x.b5, .string x.b6, .string x.b7]) (.int .i64 (k : Int))).run Tryz.prog w = .ok (.string (x.bs[k]'h)) w := by
  have h1 := all8 (fun k => (Instr.index 138 (.agg #[.string x.b0, .string x.b1, .string x.b2, .string x.b3, .string x.b4, .string x.b5, .string x.b6, .string x.b7]) (.int .i64 (k : Int))).run Tryz.prog w = .ok (.string (x.bs.getD k ⟨#[]⟩)) w)
    (by kernel_rfl) (by kernel_rfl) (by kernel_rfl) (by kernel_rfl) (by kernel_rfl) (by kernel_rfl) (by kernel_rfl) (by kernel_rfl) k h
  have e : x.bs.getD k ⟨#[]⟩ = x.bs[k]'h := by simp [List.getD, List.getElem?_eq_getElem (show k < x.bs.length from h)]; rfl
  rw [e] at h1
  exact h1

set_option maxHeartbeats 2000000 in
theorem bookSetOk_any (x : SetM) (w : World) (hz : x.name.size ≤ 1048576 ∧ x.frm.size ≤ 1048576 ∧ ∀ s ∈ x.bs, s.size ≤ 1048576) :
    Calls Tryz.prog 141 #[.agg #[.string x.name, .int .i64 x.kind, .string x.frm, .string x.b0, .string x.b1, .string x.b2, .string x.b3, .string x.b4, .string x.b5, .string x.b6, .string x.b7]] w fun e w' => e = .returned (.bool (decide (SetOkM x))) ∧ Below w.heap.size w w' := by
  have hnot : ∀ (x : Bool) (w : World), (Op.unary .not (.bool x)).run Tryz.prog w = .ok (.bool (!x)) w := fun _ _ => rfl
  obtain ⟨ok, HOK⟩ : ∃ ok, Hid (decide (SetOkM x) = ok) := ⟨_, Lib.hid rfl⟩
  rw [HOK.out]
  have hzn : x.name.size ≤ maxLen := by unfold maxLen; have := hz.1; omega
  have HZ := Lib.hid hz
  have HW := Lib.hid (Below.new1 (w := w) (.cells #[.string x.name, .int .i64 x.kind, .string x.frm, .string x.b0, .string x.b1, .string x.b2, .string x.b3, .string x.b4, .string x.b5, .string x.b6, .string x.b7] 140))
  clear hz
  by_cases hnm : NameOk x.name
  case neg =>
    have hnr := decide_eq_false hnm
    have HF := Lib.hid (HOK.out.symm.trans (decide_eq_false fun c => hnm c.1))
    go_enter Tryz.func141, Tryz.ntmps141
    go_wp2_with fail
    refine (ImplBookName_any x.name _ hzn).mono ?_
    rintro e w1 ⟨rfl, rfl⟩
    rw [hnr]
    go_wp2
    go_ret
    exact ⟨ret_boolB HF.out.symm, HW.out⟩
  case pos =>
  have hnr := decide_eq_true hnm
  by_cases hkd : x.kind = 1 ∨ x.kind = 2
  case neg =>
    have HF := Lib.hid (HOK.out.symm.trans (decide_eq_false fun c => hkd c.2.1))
    have hk1 : (x.kind != 1) = true := by simp; omega
    have hk2 : (x.kind != 2) = true := by simp; omega
    go_enter Tryz.func141, Tryz.ntmps141
    go_wp2_with fail
    refine (ImplBookName_any x.name _ hzn).mono ?_
    rintro e w1 ⟨rfl, rfl⟩
    rw [hnr]
    go_wp2
    go_ret
    exact ⟨ret_boolB HF.out.symm, HW.out⟩
  case pos =>
  have HGO := Lib.hid (show (∀ s ∈ x.bs, s.size ≤ 24) → ok = true from fun h => HOK.out.symm.trans (decide_eq_true ⟨hnm, hkd, h⟩))
  have HBA := Lib.hid (show ¬ (∀ s ∈ x.bs, s.size ≤ 24) → ok = false from fun h => HOK.out.symm.trans (decide_eq_false fun c => h c.2.2))
  have hk12 : ((x.kind != 1) = false ∧ True) ∨ ((x.kind != 1) = true ∧ (x.kind != 2) = false) := by
    rcases hkd with h | h
    · exact Or.inl ⟨by simp [h], trivial⟩
    · exact Or.inr ⟨by simp [h], by simp [h]⟩
  clear hkd hnm HOK
  rcases hk12 with ⟨hk1, _⟩ | ⟨hk1, hk2⟩
  all_goals
    go_enter Tryz.func141, Tryz.ntmps141
    go_wp2_with fail
    refine (ImplBookName_any x.name _ hzn).mono ?_
    rintro e w1 ⟨rfl, rfl⟩
    rw [hnr]
    go_wp2
    generalize w.alloc (.cells #[.string x.name, .int .i64 x.kind, .string x.frm, .string x.b0, .string x.b1, .string x.b2, .string x.b3, .string x.b4, .string x.b5, .string x.b6, .string x.b7] 140) = W at HW
    go_loop [4, 21] (fun _ i => ∃ j : Nat, j ≤ 8 ∧ i = .int .i64 j ∧ Hid (∀ (i : Nat) (h : i < x.bs.length), i < j → x.bs[i].size ≤ 24)) (fun _ i => 8 - (intOf i).toNat)
    case atStart => exact ⟨0, Nat.zero_le _, rfl, Lib.hid (fun j _ h => absurd h (Nat.not_lt_zero _))⟩
    case round =>
      obtain ⟨j, hj, rfl, HJ⟩ := hrel
      by_cases hj8 : j < 8
      · have hjl : j < x.bs.length := hj8
        have hix := idx8 x j hj8 W
        have hzt := HZ.out.2.2 _ (List.getElem_mem hjl)
        have HBJ := Lib.hid (show ¬ x.bs[j].size ≤ 24 → ok = false from fun hh => HBA.out fun c => hh (c _ (List.getElem_mem hjl)))
        have HJ2 := Lib.hid (show x.bs[j].size ≤ 24 → ∀ (i : Nat) (h : i < x.bs.length), i < j + 1 → x.bs[i].size ≤ 24 from fun hh i h hi => by
          rcases Nat.lt_succ_iff_lt_or_eq.1 hi with h3 | rfl
          · exact HJ.out i h h3
          · exact hh)
        generalize x.bs[j] = t at hix HBJ HJ2 hzt
        by_cases ht : t.size ≤ 24
        · have HJ3 := Lib.hid (HJ2.out ht)
          have htz : ¬ (t.size : Int) > 24 := by omega
          clear HJ HJ2 HBJ
          go_wp2
          go_round
          case rel => exact ⟨j + 1, by omega, by go_num, HJ3⟩
          case measure => simp [intOf]; omega
        · have HF := Lib.hid (HBJ.out ht)
          have htz : (t.size : Int) > 24 := by omega
          clear HJ HJ2 HBJ
          go_wp2
          go_ret
          exact ⟨ret_boolB HF.out.symm, HW.out⟩
      · have HG2 := Lib.hid (HGO.out fun s hs => by
          obtain ⟨i, hi, rfl⟩ := List.mem_iff_getElem.1 hs
          exact HJ.out i hi (by have : x.bs.length = 8 := rfl; omega))
        clear HJ
        go_wp2
        go_ret
        exact ⟨ret_boolB HG2.out.symm, HW.out⟩

/-- How a pointer to a box reads; and nil. -/
def ptrE : Value → Option (DataW Unit × List MemPlace)
  | .pointer none => some (.lit (.bool false), [])
  | .pointer (some ⟨b, 0, none⟩) => some (.lit (.int .i64 (b : Int)), [])
  | _ => none
def kL (s : ByteArray) : Lit := .string s.data.toList
def pD (b : Nat) : DataW Unit := .lit (.int .i64 (b : Int))
def nD : DataW Unit := .lit (.bool false)
theorem ptrE_inv {v : Value} {b : Nat} {ps : List MemPlace} (h : ptrE v = some (pD b, ps)) : v = .pointer (some ⟨b, 0, none⟩) := by
  unfold ptrE at h
  split at h
  · simp [pD] at h
  · simp only [pD, Option.some.injEq, Prod.mk.injEq, DataW.lit.injEq, Lit.int.injEq, true_and] at h
    have : _ = b := Int.ofNat.inj h.1
    rw [this]
  · cases h
theorem ptrE_nil {v : Value} {ps : List MemPlace} (h : ptrE v = some (nD, ps)) : v = .pointer none := by
  unfold ptrE at h
  split at h
  · rfl
  · simp [nD] at h
  · cases h
theorem kL_inj {a b : ByteArray} (h : kL a = kL b) : a = b := by
  unfold kL at h
  injection h with h
  cases a; cases b
  simp only [ByteArray.mk.injEq]
  exact Array.toList_inj.1 h
theorem kL_key (s : ByteArray) : WideAt.IsKeyLit (kL s) := by simp [kL, WideAt.IsKeyLit]

/-- Where a name leads. -/
def lookB (L : List (ByteArray × Nat)) (s : ByteArray) : Option Nat := (L.find? (fun p => decide (p.1 = s))).map (·.2)
theorem look_app_new {L : List (ByteArray × Nat)} {s : ByteArray} {b : Nat} (h : lookB L s = none) (t : ByteArray) : lookB (L ++ [(s, b)]) t = if t = s then some b else lookB L t := by
  unfold lookB at h ⊢
  rw [List.find?_append]
  by_cases e : t = s
  · subst e
    have h' : L.find? (fun p => decide (p.1 = t)) = none := by simpa using h
    rw [h']; simp
  · rw [if_neg e]
    have : ([(s, b)].find? fun p => decide (p.1 = t)) = none := by
      simp only [List.find?_cons, List.find?_nil]
      rw [decide_eq_false (fun c => e c.symm)]
    rw [this]; simp
/-- The map m leads from each of these names to its block. -/
def MapB (w : World) (m : Nat) (L : List (ByteArray × Nat)) : Prop :=
  ∃ D, w.ownsMap Tryz.prog 9 ptrE m L.length D ∧ Maps.size D = L.length ∧ ∀ s : ByteArray, s.size ≤ maxLen → Maps.has D (kL s) = (lookB L s).isSome ∧ D.atKey (kL s) nD = ((lookB L s).map pD).getD nD

section
variable {w : World} {m : Nat} {L : List (ByteArray × Nat)}
theorem keyB : Keyed Tryz.prog 9 := string_keyed Tryz.underlying9
theorem keyOfB {s : ByteArray} (h : s.size ≤ maxLen) : keyOf Tryz.prog 9 (.string s) = some (kL s) := WideMaps.keyOf_string_mk (P := Tryz.prog) Tryz.underlying9 h
theorem owns_tight {R : Value → Option (DataW Unit × List MemPlace)} {n : Nat} {D : DataW Unit} (h : w.ownsMap Tryz.prog 9 R m n D) : w.ownsMap Tryz.prog 9 R m (Maps.size D) D := by
  obtain ⟨es, clock, hb, F, hs, rfl⟩ := h
  exact ⟨es, clock, hb, F, by simp [Maps.size, length_sorted], rfl⟩
theorem mapB_made (w : World) : MapB (w.alloc (.map #[] 0)) w.heap.size [] :=
  ⟨.map [], World.ownsMap_made w Tryz.prog 9 ptrE, rfl, fun s _ => ⟨rfl, rfl⟩⟩
theorem MapB.lt (h : MapB w m L) : m < w.heap.size := by obtain ⟨D, ho, _⟩ := h; exact ho.lt
theorem MapB.kept {w' : World} (h : MapB w m L) (hk : w'.heap[m]? = w.heap[m]?) : MapB w' m L := by
  obtain ⟨D, ⟨es, clock, hb, rest⟩, h2⟩ := h
  exact ⟨D, ⟨es, clock, hk.trans hb, rest⟩, h2⟩
theorem MapB.below {w' : World} {B : Nat} (h : MapB w m L) (hb : Below B w w') (hB : m < B) : MapB w' m L := h.kept (hb.block m hB)
theorem MapB.notBox {b : Nat} {vs : List Value} (h : MapB w m L) (hx : Box w b vs) : b ≠ m := by
  rintro rfl
  obtain ⟨D, ⟨es, clock, hb, _⟩, _⟩ := h
  obtain ⟨c, e, hc, _⟩ := hx
  rw [hb] at hc
  cases hc
theorem zeroPtr (w : World) : (zeroValue 176).run Tryz.prog w = .ok (.pointer none) w := by kernel_rfl
def lookV (o : Option Nat) : Value := .tuple #[.pointer (o.map fun b => ⟨b, 0, none⟩), .bool o.isSome]
theorem MapB.look (h : MapB w m L) {s : ByteArray} (hs : s.size ≤ maxLen) : (Instr.lookup 169 (.map (some m)) (.string s) true).run Tryz.prog w = .ok (lookV (lookB L s)) w := by
  obtain ⟨D, ho, _, hl⟩ := h
  obtain ⟨v, ps, hrun, hv⟩ := ho.look_ok keyB Tryz.underlying169 (zeroPtr w) (zd := nD) (zp := []) rfl (keyOfB hs)
  obtain ⟨h1, h2⟩ := hl s hs
  rw [hrun, h1]
  rw [h2] at hv
  unfold lookV
  cases hlk : lookB L s with
  | none => rw [hlk] at hv; rw [ptrE_nil hv]; rfl
  | some b => rw [hlk] at hv; rw [ptrE_inv hv]; rfl
theorem MapB.len (h : MapB w m L) (ty : TypeId) : (Builtin.len_ #[169] ty #[.map (some m)]).run Tryz.prog w = .ok (.int .i64 (L.length : Int)) w := by
  obtain ⟨D, ho, hsz, _⟩ := h
  rw [ho.len Tryz.underlying169 ty, hsz]
theorem MapB.put (h : MapB w m L) {s : ByteArray} (hs : s.size ≤ maxLen) (hn : lookB L s = none) (hlen : L.length < 100) (b : Nat) :
    ∃ w', (Instr.mapUpdate 169 (.map (some m)) (.string s) (.pointer (some ⟨b, 0, none⟩))).run Tryz.prog w = .ok () w' ∧ MapB w' m (L ++ [(s, b)]) ∧ w.mapTurned w' m := by
  obtain ⟨D, ho, hsz, hl⟩ := h
  obtain ⟨w', hrun, ho', hturn⟩ := ho.store keyB Tryz.underlying169 (by unfold maxLen; omega) (key := .string s) (val := .pointer (some ⟨b, 0, none⟩)) (d := pD b) (ps := []) (keyOfB hs) rfl
  have hT := ho.tidy keyB
  have hh : Maps.has D (kL s) = false := by rw [(hl s hs).1, hn]; rfl
  have hs2 : Maps.size (D.put (kL s) (pD b)) = (L ++ [(s, b)]).length := by rw [Maps.size_put hT, hh]; simp [hsz]
  refine ⟨w', hrun, ⟨_, hs2 ▸ owns_tight ho', hs2, fun t ht => ?_⟩, hturn⟩
  rw [look_app_new hn]
  by_cases e : t = s
  · subst e
    rw [if_pos rfl, Maps.has_put_same hT.isMap (kL_key t), Maps.atKey_put_same hT.isMap (kL_key t)]
    exact ⟨rfl, rfl⟩
  · rw [if_neg e, Maps.has_put_other (fun c => e (kL_inj c)), Maps.atKey_put_other (fun c => e (kL_inj c))]
    exact hl t ht
end
theorem below_mapTurned {B : Nat} {w0 w w' : World} {m : Nat} (h : Below B w0 w) (ht : w.mapTurned w' m) (hm : B ≤ m) : Below B w0 w' :=
  h.grown ht.grown (Nat.le_trans hm (by obtain ⟨es, c, _, _, hb, _⟩ := ht; exact Nat.le_of_lt (Array.getElem?_eq_some_iff.1 hb).1)) (fun j hj => by cases hj; exact hm)
theorem box_mapTurned {w w' : World} {m b : Nat} {vs : List Value} (h : Box w b vs) (ht : w.mapTurned w' m) (hb : b ≠ m) : Box w' b vs := h.kept (ht.grown.block b h.lt (fun e => hb (Option.some.inj e)))

/-- The sets by name: each in a box of its own. -/
structure SetsB (w : World) (base m : Nat) (Lb : List (Nat × SetM)) : Prop where
  map : MapB w m (Lb.map fun p => (p.2.name, p.1))
  hm : base ≤ m
  box : ∀ p ∈ Lb, Box w p.1 (kc p.2) ∧ base ≤ p.1
  names : Lb.Pairwise (fun p q => p.2.name ≠ q.2.name)
  apart : Lb.Pairwise (fun p q => p.1 ≠ q.1)
theorem SetsB.below {w w' : World} {base m : Nat} {Lb : List (Nat × SetM)} (h : SetsB w base m Lb) (hb : Below w.heap.size w w') : SetsB w' base m Lb :=
  ⟨h.map.below hb h.map.lt, h.hm, fun p hp => ⟨(h.box p hp).1.below hb (h.box p hp).1.lt, (h.box p hp).2⟩, h.names, h.apart⟩
theorem look_none {Lb : List (Nat × SetM)} {s : ByteArray} (h : ∀ p ∈ Lb, p.2.name ≠ s) : lookB (Lb.map fun p => (p.2.name, p.1)) s = none := by
  unfold lookB
  have : (Lb.map fun p => (p.2.name, p.1)).find? (fun p => decide (p.1 = s)) = none := by
    rw [List.find?_eq_none]
    intro q hq
    obtain ⟨p, hp, rfl⟩ := List.mem_map.1 hq
    simpa using h p hp
  rw [this]; rfl
theorem look_find : ∀ (Lb : List (Nat × SetM)) (s : ByteArray), (lookB (Lb.map fun p => (p.2.name, p.1)) s = none ∧ findM (Lb.map (·.2)) s = none) ∨ ∃ p ∈ Lb, lookB (Lb.map fun p => (p.2.name, p.1)) s = some p.1 ∧ findM (Lb.map (·.2)) s = some p.2 ∧ p.2.name = s
  | [], s => Or.inl ⟨rfl, rfl⟩
  | p :: Lb, s => by
    by_cases h : p.2.name = s
    · exact Or.inr ⟨p, by simp, by simp [lookB, h], by simp [findM, h], h⟩
    · have e1 : lookB ((p :: Lb).map fun p => (p.2.name, p.1)) s = lookB (Lb.map fun p => (p.2.name, p.1)) s := by simp [lookB, List.find?_cons, h]
      have e2 : findM ((p :: Lb).map (·.2)) s = findM (Lb.map (·.2)) s := by simp [findM, List.find?_cons, h]
      rw [e1, e2]
      rcases look_find Lb s with h | ⟨q, hq, h⟩
      · exact Or.inl h
      · exact Or.inr ⟨q, by simp [hq], h⟩

set_option maxHeartbeats 2000000 in
theorem bookOpen_any (v : Value) (ls : List SetM) (w : World) (h : BookR w v ls) (hl : ls.length ≤ 6) (ha : Asc ls) (hz : ∀ x ∈ ls, x.name.size ≤ maxLen) :
    Calls Tryz.prog 142 #[.agg #[v]] w fun e w' => ∃ m Lb, e = .returned (.map (some m)) ∧ SetsB w' w.heap.size m Lb ∧ Lb.map (·.2) = ls ∧ Below w.heap.size w w' := by
  have hmm := @run_makeMap Tryz.prog
  have HA := Lib.hid ha
  have HZ := Lib.hid hz
  have hb0 := Below.new1 (w := w) (.cells #[v] 94)
  have hb1 := hb0.trans ((Below.new1 (w := w.alloc (.cells #[v] 94)) (.map #[] 0)).mono hb0.size)
  have h1 := h.below hb1 (Nat.le_refl _)
  have HM0 := Lib.hid (mapB_made (w.alloc (.cells #[v] 94)))
  have HW0 := Lib.hid hb1
  clear ha hz hb0 hb1
  obtain ⟨A, c, rfl⟩ := h.form
  obtain ⟨n, HL⟩ : ∃ n, Hid (ls.length = n) := ⟨_, Lib.hid rfl⟩
  have hcells := h1.r
  have HLOW := Lib.hid h.l
  clear h1 h
  rw [HL.out] at hcells hl HM0 HW0 HLOW ⊢
  have hsz0 : ((w.alloc (.cells #[.slice A n c] 94)).alloc (.map #[] 0)).heap.size = w.heap.size + 2 := by simp
  by_cases hn : n = 0
  · subst hn
    have HE := Lib.hid (List.length_eq_zero_iff.1 HL.out)
    go_enter Tryz.func142, Tryz.ntmps142
    go_wp2
    go_loop [5, 10] (fun _ i => i = .int .i64 0) (fun _ _ => 0)
    case atStart => rfl
    case round =>
      subst hrel
      go_wp2
      go_ret
      exact ⟨_, rfl, [], ⟨by simpa using HM0.out, by omega, by simp, List.Pairwise.nil, List.Pairwise.nil⟩, by rw [HE.out]; rfl, HW0.out⟩
  · obtain ⟨b, off, c', hv, hnc, hcm, hcell⟩ := hcells.form (by omega)
    injection hv with e1 e2 e3
    subst e1 e3
    clear e2 hcells
    unfold maxLen at hcm
    have hbl : b < w.heap.size := HLOW.out b rfl
    have HC := Lib.hid hcell
    clear hcell
    go_enter Tryz.func142, Tryz.ntmps142
    go_wp2
    have HM1 : Hid (MapB ((w.alloc (.cells #[.slice (some ⟨b, off, none⟩) n c] 94)).alloc (.map #[] 0)) (w.heap.size + 1) []) := Lib.hid (by simpa using HM0.out)
    clear HM0
    generalize (w.alloc (.cells #[.slice (some ⟨b, off, none⟩) n c] 94)).alloc (.map #[] 0) = W at HM1 HW0 HC hsz0
    go_loopw [5, 10] (fun _ i wr => ∃ (k : Nat) (Lb : List (Nat × SetM)), k ≤ n ∧ i = .int .i64 k ∧ Hid (SetsB wr w.heap.size (w.heap.size + 1) Lb) ∧ Hid (Lb.map (·.2) = ls.take k) ∧ Hid (Below w.heap.size w wr) ∧ Hid (Below w.heap.size W wr)) (fun _ i _ => n - (intOf i).toNat)
    case atStart => exact ⟨0, [], Nat.zero_le _, rfl, Lib.hid ⟨HM1.out, by omega, by simp, List.Pairwise.nil, List.Pairwise.nil⟩, Lib.hid rfl, HW0, Lib.hid (Below.refl _ _)⟩
    case round =>
      obtain ⟨k, Lb, hk, rfl, HS, HT, HW, HV⟩ := hrel
      by_cases hlt : k < n
      · have hl0 : k < ls.length := by rw [HL.out]; exact hlt
        obtain ⟨g0, g1, g2, g3, g4, g5, g6, g7, g8, g9, g10⟩ := (set_read (fun j u hu => (HV.out.cell hbl).trans (HC.out j u hu)) k hl0).all
        have hk1 : (k : Int) < (n : Int) := by omega
        have hzn := HZ.out _ (List.getElem_mem hl0)
        have HT2 := Lib.hid (show ls.take (k + 1) = Lb.map (·.2) ++ [ls[k]] from by rw [List.take_succ_eq_append_getElem hl0, HT.out])
        have HNE := Lib.hid (show ∀ p ∈ Lb, p.2.name ≠ ls[k].name from fun p hp => by
          have hm : p.2 ∈ ls.take k := by rw [← HT.out]; exact List.mem_map_of_mem (f := (·.2)) hp
          obtain ⟨i, hi, e⟩ := List.mem_iff_getElem.1 hm
          have hi2 : i < k := by have := hi; rw [List.length_take] at this; omega
          rw [← e, List.getElem_take]
          exact ((List.pairwise_iff_getElem.1 HA.out) i k (by omega) hl0 hi2).ne)
        have hLbl : Lb.length = k := by have := congrArg List.length HT.out; rw [List.length_map, List.length_take] at this; omega
        generalize ls[k] = y at g0 g1 g2 g3 g4 g5 g6 g7 g8 g9 g10 hzn HT2 HNE
        clear hl0 HT
        have hsw := HS.out.map.lt
        have hnw := Below.new1 (w := wr) (.cells #[.string y.name, .int .i64 y.kind, .string y.frm, .string y.b0, .string y.b1, .string y.b2, .string y.b3, .string y.b4, .string y.b5, .string y.b6, .string y.b7] 140)
        have HS1 := Lib.hid (HS.out.below hnw)
        have HX := Lib.hid (show Box _ wr.heap.size (kc y) from box_new wr #[.string y.name, .int .i64 y.kind, .string y.frm, .string y.b0, .string y.b1, .string y.b2, .string y.b3, .string y.b4, .string y.b5, .string y.b6, .string y.b7] 140)
        have s0 := HX.out.cell 0 rfl
        have HW1 := Lib.hid (HW.out.trans (hnw.mono HW.out.size))
        have HV1 := Lib.hid (HV.out.trans (hnw.mono (Nat.le_trans (by omega) HV.out.size)))
        obtain ⟨w3, hrun, hm3, ht3⟩ := HS1.out.map.put hzn (look_none HNE.out) (by simp; omega) wr.heap.size
        have HS3 := Lib.hid (show SetsB w3 w.heap.size (w.heap.size + 1) (Lb ++ [(wr.heap.size, y)]) from by
          refine ⟨by simpa using hm3, by omega, fun p hp => ?_, ?_, ?_⟩
          · rcases List.mem_append.1 hp with hp | hp
            · have := HS1.out.box p hp
              exact ⟨box_mapTurned this.1 ht3 (HS1.out.map.notBox this.1), this.2⟩
            · obtain rfl : p = (wr.heap.size, y) := by simpa using hp
              exact ⟨box_mapTurned HX.out ht3 (HS1.out.map.notBox HX.out), by simp; omega⟩
          · rw [List.pairwise_append]
            exact ⟨HS.out.names, List.pairwise_singleton _ _, fun p hp q hq => by obtain rfl : q = (wr.heap.size, y) := by simpa using hq
                                                                                  exact HNE.out p hp⟩
          · rw [List.pairwise_append]
            exact ⟨HS.out.apart, List.pairwise_singleton _ _, fun p hp q hq => by obtain rfl : q = (wr.heap.size, y) := by simpa using hq
                                                                                  have := (HS.out.box p hp).1.lt
                                                                                  simp; omega⟩)
        have HW3 := Lib.hid (below_mapTurned HW1.out ht3 (by omega))
        have HV3 := Lib.hid (below_mapTurned HV1.out ht3 (by omega))
        clear HS HS1 HW HV HW1 HV1 hm3 ht3 hnw HX
        go_wp2
        go_roundw
        case rel => exact ⟨k + 1, _, by omega, by go_num, HS3, Lib.hid (by rw [HT2.out]; simp), HW3, HV3⟩
        case measure => simp [intOf]; omega
      · have HT2 := Lib.hid (show Lb.map (·.2) = ls from by rw [HT.out, List.take_of_length_le (by rw [HL.out]; omega)])
        go_wp2
        go_ret
        first
          | exact ⟨_, rfl, Lb, HS.out, HT2.out, HW.out⟩
          | exact ⟨_, Lb, rfl, HS.out, HT2.out, HW.out⟩
end Go.Proofs.YtobjgdnmlibofaaGreat

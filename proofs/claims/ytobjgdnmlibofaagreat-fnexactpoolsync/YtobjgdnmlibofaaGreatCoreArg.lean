/-
  A core that came in as an argument, opened.
-/
import Derived.Test.YtobjgdnmlibofaaGreatDdtArg
import Derived.Test.YtobjgdnmlibofaaGreatPtrAArg
import Derived.Test.YtobjgdnmlibofaaGreatCoreV
import Derived.OpenShut
import Derived.Deep.Strs
import Derived.ChangeSame
set_option maxRecDepth 100000
namespace Go.Proofs.YtobjgdnmlibofaaGreat
open Go.ChangeShapes Go.WideShapes Go.ChangeAt Go.RowKit Go.Proofs.Palim Go.Deep

section
variable {H : Type} {enc : TypeId × Value → H} {W : World}
theorem trod_struct6 {P : Program} {w : World} {base : Nat} {spare : Nat → Bool} {held : Bool} {t : TypeId} {f0 f1 f2 f3 f4 f5 : Field} {fuel : Nat} {cs : List Value} {x : DataW H × List MemPlace} (ht : P.underlying t = some (.struct #[f0, f1, f2, f3, f4, f5])) (h : DataW.trod enc P w base spare held fuel t cs = some x) :
    ∃ y0 y1 y2 y3 y4 y5 n, cs.length = P.cellsOf t ∧ DataW.trod enc P w base spare held n f0.type ((cs.drop f0.offset).take (P.cellsOf f0.type)) = some y0 ∧ DataW.trod enc P w base spare held n f1.type ((cs.drop f1.offset).take (P.cellsOf f1.type)) = some y1 ∧ DataW.trod enc P w base spare held n f2.type ((cs.drop f2.offset).take (P.cellsOf f2.type)) = some y2 ∧ DataW.trod enc P w base spare held n f3.type ((cs.drop f3.offset).take (P.cellsOf f3.type)) = some y3 ∧ DataW.trod enc P w base spare held n f4.type ((cs.drop f4.offset).take (P.cellsOf f4.type)) = some y4 ∧ DataW.trod enc P w base spare held n f5.type ((cs.drop f5.offset).take (P.cellsOf f5.type)) = some y5 := by
  obtain ⟨xs, n, _, rfl, hl, hlen, hf⟩ := DataW.trod_struct ht h
  match xs, hlen with
  | [y0, y1, y2, y3, y4, y5], _ => exact ⟨y0, y1, y2, y3, y4, y5, n, hl, by simpa using hf 0 f0 rfl, by simpa using hf 1 f1 rfl, by simpa using hf 2 f2 rfl, by simpa using hf 3 f3 rfl, by simpa using hf 4 f4 rfl, by simpa using hf 5 f5 rfl⟩
theorem trod_struct7 {P : Program} {w : World} {base : Nat} {spare : Nat → Bool} {held : Bool} {t : TypeId} {f0 f1 f2 f3 f4 f5 f6 : Field} {fuel : Nat} {cs : List Value} {x : DataW H × List MemPlace} (ht : P.underlying t = some (.struct #[f0, f1, f2, f3, f4, f5, f6])) (h : DataW.trod enc P w base spare held fuel t cs = some x) :
    ∃ y0 y1 y2 y3 y4 y5 y6 n, cs.length = P.cellsOf t ∧ DataW.trod enc P w base spare held n f0.type ((cs.drop f0.offset).take (P.cellsOf f0.type)) = some y0 ∧ DataW.trod enc P w base spare held n f1.type ((cs.drop f1.offset).take (P.cellsOf f1.type)) = some y1 ∧ DataW.trod enc P w base spare held n f2.type ((cs.drop f2.offset).take (P.cellsOf f2.type)) = some y2 ∧ DataW.trod enc P w base spare held n f3.type ((cs.drop f3.offset).take (P.cellsOf f3.type)) = some y3 ∧ DataW.trod enc P w base spare held n f4.type ((cs.drop f4.offset).take (P.cellsOf f4.type)) = some y4 ∧ DataW.trod enc P w base spare held n f5.type ((cs.drop f5.offset).take (P.cellsOf f5.type)) = some y5 ∧ DataW.trod enc P w base spare held n f6.type ((cs.drop f6.offset).take (P.cellsOf f6.type)) = some y6 := by
  obtain ⟨xs, n, _, rfl, hl, hlen, hf⟩ := DataW.trod_struct ht h
  match xs, hlen with
  | [y0, y1, y2, y3, y4, y5, y6], _ => exact ⟨y0, y1, y2, y3, y4, y5, y6, n, hl, by simpa using hf 0 f0 rfl, by simpa using hf 1 f1 rfl, by simpa using hf 2 f2 rfl, by simpa using hf 3 f3 rfl, by simpa using hf 4 f4 rfl, by simpa using hf 5 f5 rfl, by simpa using hf 6 f6 rfl⟩
theorem kcellsS : Tryz.prog.cellsOf 9 = 1 := by kernel_rfl
theorem kcellsI : Tryz.prog.cellsOf 3 = 1 := by kernel_rfl
theorem kcellsB : Tryz.prog.cellsOf 4 = 1 := by kernel_rfl
theorem kcellsK : Tryz.prog.cellsOf 135 = 31 := by kernel_rfl
theorem kcellsC : Tryz.prog.cellsOf 32 = 7 := by kernel_rfl
theorem kcellsKs : Tryz.prog.cellsOf 27 = 1 := by kernel_rfl
theorem kcellsEs : Tryz.prog.cellsOf 28 = 1 := by kernel_rfl
theorem kcellsPs : Tryz.prog.cellsOf 29 = 1 := by kernel_rfl
theorem kcellsIs : Tryz.prog.cellsOf 30 = 1 := by kernel_rfl
theorem add_noneK {b off i : Nat} : (⟨b, off, none⟩ : Addr).add i = ⟨b, off + i, none⟩ := by unfold Addr.add; simp

/-- What a set that came in keeps to. -/
structure CSetFits (x : CSetM) : Prop where
  n : x.name.size ≤ maxLen
  f : x.frm.size ≤ maxLen
  k : -9223372036854775808 ≤ x.kind ∧ x.kind ≤ 9223372036854775807
  m : ∀ p ∈ x.map, PtrFits p
  h : PtrFits x.home
theorem cut_at (cs : List Value) (k n : Nat) : (cs.drop k).take n ++ cs.drop (k + n) = cs.drop k := by
  rw [← List.drop_drop]; exact List.take_append_drop n (cs.drop k)
instance : Inhabited CSetM := ⟨⟨⟨#[]⟩, 0, ⟨#[]⟩, List.replicate 8 ⟨0, 0, 0⟩, ⟨0, 0, 0⟩, false, by simp⟩⟩
instance : Inhabited PtrM := ⟨⟨0, 0, 0⟩⟩
theorem cset_of {fuel : Nat} {cs : List Value} {x : DataW H × List MemPlace} (h : DataW.trod enc Tryz.prog W 0 (fun _ => true) true fuel 135 cs = some x) :
    ∃ l : CSetM, cs = cc l ∧ CSetFits l := by
  obtain ⟨y0, y1, y2, y3, y4, y5, n, hl, t0, t1, t2, t3, t4, t5⟩ := trod_struct6 Tryz.underlying135 h
  rw [kcellsK] at hl
  simp only [kcellsS, kcellsI, kcellsB, cellsMapL, cellsPtrL] at t0 t1 t2 t3 t4 t5
  obtain ⟨a, ha, _, wa⟩ := DataW.trod_string Tryz.underlying9 t0
  obtain ⟨b, hb, _, wb⟩ := DataW.trod_int Tryz.underlying3 t1
  obtain ⟨s, hs, _, hz⟩ := DataW.trod_string Tryz.underlying9 t2
  obtain ⟨ps, h8, hm, fm⟩ := mapc_of t3
  obtain ⟨q, hq, fq⟩ := ptrc_of t4
  obtain ⟨d, hd, _⟩ := DataW.trod_bool Tryz.underlying4 t5
  refine ⟨⟨a, b, s, ps, q, d, h8⟩, ?_, ⟨wa, hz, bounds_i64 wb, fm, fq⟩⟩
  have e0 := cut_at cs 0 1
  have e1 := cut_at cs 1 1
  have e2 := cut_at cs 2 1
  have e3 := cut_at cs 3 24
  have e4 := cut_at cs 27 3
  have e5 := cut_at cs 30 1
  rw [ha] at e0
  rw [hb] at e1
  rw [hs] at e2
  rw [hm] at e3
  rw [hq] at e4
  rw [hd] at e5
  have e6 : cs.drop 31 = [] := List.drop_eq_nil_of_le (by omega)
  simp only [Nat.reduceAdd] at e0 e1 e2 e3 e4 e5
  rw [e6] at e5
  rw [← e5] at e4
  rw [← e4] at e3
  rw [← e3] at e2
  rw [← e2] at e1
  rw [← e1] at e0
  have e7 : cs.drop 0 = cs := rfl
  rw [e7] at e0
  rw [← e0]
  simp [cc, ch]

theorem csets_of {base fuel : Nat} {v : Value} {x : DataW H × List MemPlace} (ho : Cell.okWide Tryz.prog W .any base 27 v) (h : DataW.trod enc Tryz.prog W 0 (fun _ => true) true fuel 27 [v] = some x) :
    ∃ ls : List CSetM, Sl W 31 v ls.length (ccs ls) ∧ ∀ l ∈ ls, CSetFits l := by
  rcases open_slice Tryz.underlying27 h with ⟨hcs, _⟩ | ⟨a, len, cap, m, n, D, Pl, hcs, _, hl, hm, hmm, _, hx⟩
  · obtain rfl : v = .slice none 0 0 := by simpa using hcs
    exact ⟨[], ⟨rfl, none, 0, rfl, Nat.le_refl _, Nat.zero_le _, Or.inl rfl⟩, by simp⟩
  · obtain rfl : v = .slice (some a) len cap := by simpa using hcs
    simp only [if_true] at hmm
    subst hmm
    have hsp : a.spot = none := by
      simp only [Cell.okWide, Tryz.underlying27, Cell.ok] at ho
      exact ho.2.2.2.1
    obtain ⟨b, off, sp⟩ := a
    simp at hsp
    subst hsp
    rw [kcellsK] at hx
    obtain ⟨L, hL⟩ := choose_lt (α := CSetM) (p := fun i l => (∀ j u, (cc l)[j]? = some u → W.cell? ⟨b, off + i * 31 + j, none⟩ = some u) ∧ CSetFits l) (n := len) (fun i hi => by
      obtain ⟨cs', h1, h2⟩ := hx i (by omega)
      obtain ⟨l, rfl, hr⟩ := cset_of h2
      rw [add_noneK] at h1
      refine ⟨l, ?_, hr⟩
      obtain ⟨_, _, hc⟩ := World.cells?_some h1
      intro j u hu
      have hj : j < (cc l).length := (List.getElem?_eq_some_iff.1 hu).1
      have h0 := hc j (by have e := cc_length l; rw [e] at hj; exact hj)
      rw [add_noneK] at h0
      rw [h0, ← hu])
    refine ⟨(List.range len).map L, ⟨ccs_length _, some ⟨b, off, none⟩, m, by simp, by simpa using hl, hm, Or.inr ⟨b, off, rfl, fun j u hu => ?_⟩⟩, ?_⟩
    · have hj : j < len * 31 := by
        have h := (List.getElem?_eq_some_iff.1 hu).1
        rw [ccs_length] at h
        simpa using h
      have hk : j / 31 < ((List.range len).map L).length := by simp; omega
      have hat := ccs_at ((List.range len).map L) (j / 31) hk (j % 31) (by omega)
      have hcl := (hL (j / 31) (by omega)).1 (j % 31)
      simp only [List.getElem_map, List.getElem_range] at hat
      rw [show j / 31 * 31 + j % 31 = j by omega, hu] at hat
      have := hcl u hat.symm
      rwa [Nat.add_assoc, show j / 31 * 31 + j % 31 = j by omega] at this
    · intro l hl
      obtain ⟨i, hi, rfl⟩ := List.mem_map.1 hl
      exact (hL i (List.mem_range.1 hi)).2

theorem pc_length (p : PtrM) : (pc p).length = 3 := rfl
theorem pcs_atK (ls : List PtrM) : ∀ (k : Nat) (h : k < ls.length) (j : Nat), j < 3 → (pcs ls)[k * 3 + j]? = (pc ls[k])[j]? := by
  induction ls with
  | nil => intro k h; simp at h
  | cons x ls ih =>
    intro k h j hj
    have e : pcs (x :: ls) = pc x ++ pcs ls := by simp [pcs]
    match k, h with
    | 0, _ =>
      rw [e, List.getElem?_append_left (by rw [pc_length]; omega)]
      simp
    | k + 1, h =>
      rw [e, List.getElem?_append_right (by rw [pc_length]; omega), pc_length, show (k + 1) * 3 + j - 3 = k * 3 + j by omega, ih k (by simpa using h) j hj]
      simp
theorem parts_of {base fuel : Nat} {v : Value} {x : DataW H × List MemPlace} (ho : Cell.okWide Tryz.prog W .any base 29 v) (h : DataW.trod enc Tryz.prog W 0 (fun _ => true) true fuel 29 [v] = some x) :
    ∃ ls : List PtrM, Sl W 3 v ls.length (pcs ls) ∧ ∀ l ∈ ls, PtrFits l := by
  rcases open_slice Tryz.underlying29 h with ⟨hcs, _⟩ | ⟨a, len, cap, m, n, D, Pl, hcs, _, hl, hm, hmm, _, hx⟩
  · obtain rfl : v = .slice none 0 0 := by simpa using hcs
    exact ⟨[], ⟨rfl, none, 0, rfl, Nat.le_refl _, Nat.zero_le _, Or.inl rfl⟩, by simp⟩
  · obtain rfl : v = .slice (some a) len cap := by simpa using hcs
    simp only [if_true] at hmm
    subst hmm
    have hsp : a.spot = none := by
      simp only [Cell.okWide, Tryz.underlying29, Cell.ok] at ho
      exact ho.2.2.2.1
    obtain ⟨b, off, sp⟩ := a
    simp at hsp
    subst hsp
    rw [cellsPtrL] at hx
    obtain ⟨L, hL⟩ := choose_lt (α := PtrM) (p := fun i l => (∀ j u, (pc l)[j]? = some u → W.cell? ⟨b, off + i * 3 + j, none⟩ = some u) ∧ PtrFits l) (n := len) (fun i hi => by
      obtain ⟨cs', h1, h2⟩ := hx i (by omega)
      obtain ⟨l, rfl, hr⟩ := ptrc_of h2
      rw [add_noneK] at h1
      refine ⟨l, ?_, hr⟩
      obtain ⟨_, _, hc⟩ := World.cells?_some h1
      intro j u hu
      have hj : j < (pc l).length := (List.getElem?_eq_some_iff.1 hu).1
      have h0 := hc j (by have e := pc_length l; rw [e] at hj; exact hj)
      rw [add_noneK] at h0
      rw [h0, ← hu])
    refine ⟨(List.range len).map L, ⟨pcs_length _, some ⟨b, off, none⟩, m, by simp, by simpa using hl, hm, Or.inr ⟨b, off, rfl, fun j u hu => ?_⟩⟩, ?_⟩
    · have hj : j < len * 3 := by
        have h := (List.getElem?_eq_some_iff.1 hu).1
        rw [pcs_length] at h
        simpa using h
      have hk : j / 3 < ((List.range len).map L).length := by simp; omega
      have hat := pcs_atK ((List.range len).map L) (j / 3) hk (j % 3) (by omega)
      have hcl := (hL (j / 3) (by omega)).1 (j % 3)
      simp only [List.getElem_map, List.getElem_range] at hat
      rw [show j / 3 * 3 + j % 3 = j by omega, hu] at hat
      have := hcl u hat.symm
      rwa [Nat.add_assoc, show j / 3 * 3 + j % 3 = j by omega] at this
    · intro l hl
      obtain ⟨i, hi, rfl⟩ := List.mem_map.1 hl
      exact (hL i (List.mem_range.1 hi)).2

theorem ktypesC : Tryz.prog.cellTypes Tryz.prog.depth 32 = some [3, 27, 28, 29, 4, 30, 3] := by kernel_rfl
/-- What a core that came in keeps to. -/
structure CoreFits (c : CoreM) : Prop where
  t : -9223372036854775808 ≤ c.txg ∧ c.txg ≤ 9223372036854775807
  l : -9223372036854775808 ≤ c.logn ∧ c.logn ≤ 9223372036854775807
  s : ∀ x ∈ c.sets, CSetFits x
  d : ∀ x ∈ c.ddt, EntFits x
  p : ∀ x ∈ c.parts, PtrFits x
/-- A core that came in. -/
theorem core_of {base : Nat} {v : Value} {x : DataW H} {p : List MemPlace} (ho : Value.okWide Tryz.prog W .any base 32 v) (h : DataW.Trod enc Tryz.prog W 0 (fun _ => true) true 32 v x p) :
    ∃ vs vd vp vi c, v = cv c vs vd vp vi ∧ CoreR W vs vd vp vi c ∧ CoreFits c := by
  simp only [Value.okWide, Tryz.underlying32] at ho
  obtain ⟨cs, rfl, hsz, hrow⟩ := ho
  rw [kcellsC] at hsz
  obtain ⟨u0, u1, u2, u3, u4, u5, u6, rfl⟩ : ∃ u0 u1 u2 u3 u4 u5 u6, cs = #[u0, u1, u2, u3, u4, u5, u6] := by
    match cs, hsz with
    | ⟨[u0, u1, u2, u3, u4, u5, u6]⟩, _ => exact ⟨u0, u1, u2, u3, u4, u5, u6, rfl⟩
  obtain ⟨ts, hts, _, hok⟩ := hrow
  obtain rfl := Option.some.inj (ktypesC.symm.trans hts)
  obtain ⟨k1, e1, o1⟩ := hok 1 u1 rfl
  obtain ⟨k2, e2, o2⟩ := hok 2 u2 rfl
  obtain ⟨k3, e3, o3⟩ := hok 3 u3 rfl
  obtain ⟨k5, e5, o5⟩ := hok 5 u5 rfl
  simp at e1 e2 e3 e5
  subst e1 e2 e3 e5
  obtain ⟨fuel, hf⟩ := h
  obtain ⟨y0, y1, y2, y3, y4, y5, y6, n, _, t0, t1, t2, t3, t4, t5, t6⟩ := trod_struct7 Tryz.underlying32 hf
  simp only [kcellsI, kcellsB, kcellsKs, kcellsEs, kcellsPs, kcellsIs, Value.cells, List.drop, List.take] at t0 t1 t2 t3 t4 t5 t6
  obtain ⟨a, ha, _, wa⟩ := DataW.trod_int Tryz.underlying3 t0
  obtain ⟨sets, r1, f1⟩ := csets_of (enc := enc) o1 t1
  obtain ⟨ddt, r2, f2⟩ := ents_of (enc := enc) o2 t2
  obtain ⟨parts, r3, f3⟩ := parts_of (enc := enc) o3 t3
  obtain ⟨d, hd, _⟩ := DataW.trod_bool Tryz.underlying4 t4
  obtain ⟨safe, r5⟩ := ints_of (enc := enc) o5 t5
  obtain ⟨b, hb, _, wb⟩ := DataW.trod_int Tryz.underlying3 t6
  simp at ha hd hb
  subst ha hd hb
  exact ⟨u1, u2, u3, u5, ⟨a, sets, ddt, parts, d, safe, b⟩, rfl, ⟨r1, r2, r3, r5, low_of_ok Tryz.underlying27 o1, low_of_ok Tryz.underlying28 o2, low_of_ok Tryz.underlying29 o3, low_of_ok Tryz.underlying30 o5⟩, ⟨bounds_i64 wa, bounds_i64 wb, f1, f2, f3⟩⟩
end
end Go.Proofs.YtobjgdnmlibofaaGreat

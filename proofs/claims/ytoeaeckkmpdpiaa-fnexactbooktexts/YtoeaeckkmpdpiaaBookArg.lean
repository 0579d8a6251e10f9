/-
  A book that came in as an argument, opened.
-/
import Derived.Test.YtoeaeckkmpdpiaaBookV
import Derived.OpenShut
import Derived.Deep.Strs
import Derived.ChangeSame
set_option maxRecDepth 100000
namespace Go.Proofs.Ytoeaeckkmpdpiaa
open Go.ChangeShapes Go.WideShapes Go.ChangeAt Go.RowKit Go.Proofs.Palim Go.Deep

section
variable {H : Type} {enc : TypeId × Value → H} {W : World}

theorem trod_struct4 {P : Program} {w : World} {base : Nat} {spare : Nat → Bool} {held : Bool} {t : TypeId} {f0 f1 f2 f3 : Field} {fuel : Nat} {cs : List Value} {x : DataW H × List MemPlace} (ht : P.underlying t = some (.struct #[f0, f1, f2, f3])) (h : DataW.trod enc P w base spare held fuel t cs = some x) :
    ∃ y0 y1 y2 y3 n, cs.length = P.cellsOf t ∧ DataW.trod enc P w base spare held n f0.type ((cs.drop f0.offset).take (P.cellsOf f0.type)) = some y0 ∧ DataW.trod enc P w base spare held n f1.type ((cs.drop f1.offset).take (P.cellsOf f1.type)) = some y1 ∧ DataW.trod enc P w base spare held n f2.type ((cs.drop f2.offset).take (P.cellsOf f2.type)) = some y2 ∧ DataW.trod enc P w base spare held n f3.type ((cs.drop f3.offset).take (P.cellsOf f3.type)) = some y3 := by
  obtain ⟨xs, n, _, rfl, hl, hlen, hf⟩ := DataW.trod_struct ht h
  match xs, hlen with
  | [y0, y1, y2, y3], _ => exact ⟨y0, y1, y2, y3, n, hl, by simpa using hf 0 f0 rfl, by simpa using hf 1 f1 rfl, by simpa using hf 2 f2 rfl, by simpa using hf 3 f3 rfl⟩
theorem trod_struct5 {P : Program} {w : World} {base : Nat} {spare : Nat → Bool} {held : Bool} {t : TypeId} {f0 f1 f2 f3 f4 : Field} {fuel : Nat} {cs : List Value} {x : DataW H × List MemPlace} (ht : P.underlying t = some (.struct #[f0, f1, f2, f3, f4])) (h : DataW.trod enc P w base spare held fuel t cs = some x) :
    ∃ y0 y1 y2 y3 y4 n, cs.length = P.cellsOf t ∧ DataW.trod enc P w base spare held n f0.type ((cs.drop f0.offset).take (P.cellsOf f0.type)) = some y0 ∧ DataW.trod enc P w base spare held n f1.type ((cs.drop f1.offset).take (P.cellsOf f1.type)) = some y1 ∧ DataW.trod enc P w base spare held n f2.type ((cs.drop f2.offset).take (P.cellsOf f2.type)) = some y2 ∧ DataW.trod enc P w base spare held n f3.type ((cs.drop f3.offset).take (P.cellsOf f3.type)) = some y3 ∧ DataW.trod enc P w base spare held n f4.type ((cs.drop f4.offset).take (P.cellsOf f4.type)) = some y4 := by
  obtain ⟨xs, n, _, rfl, hl, hlen, hf⟩ := DataW.trod_struct ht h
  match xs, hlen with
  | [y0, y1, y2, y3, y4], _ => exact ⟨y0, y1, y2, y3, y4, n, hl, by simpa using hf 0 f0 rfl, by simpa using hf 1 f1 rfl, by simpa using hf 2 f2 rfl, by simpa using hf 3 f3 rfl, by simpa using hf 4 f4 rfl⟩
theorem add_noneB {b off i : Nat} : (⟨b, off, none⟩ : Addr).add i = ⟨b, off + i, none⟩ := by unfold Addr.add; simp
theorem bcellsS : Try.prog.cellsOf 9 = 1 := by kernel_rfl
theorem bcellsI : Try.prog.cellsOf 3 = 1 := by kernel_rfl
theorem bcellsA : Try.prog.cellsOf 63 = 8 := by kernel_rfl
theorem bcellsK : Try.prog.cellsOf 104 = 11 := by kernel_rfl
theorem bcellsKs : Try.prog.cellsOf 22 = 1 := by kernel_rfl
theorem bcellsB : Try.prog.cellsOf 24 = 1 := by kernel_rfl

instance : Inhabited SetM := ⟨⟨⟨#[]⟩, 0, ⟨#[]⟩, ⟨#[]⟩, ⟨#[]⟩, ⟨#[]⟩, ⟨#[]⟩, ⟨#[]⟩, ⟨#[]⟩, ⟨#[]⟩, ⟨#[]⟩⟩⟩

/-- One set that came in. -/
theorem set_of {fuel : Nat} {cs : List Value} {x : DataW H × List MemPlace} (h : DataW.trod enc Try.prog W 0 (fun _ => true) true fuel 104 cs = some x) :
    ∃ l : SetM, cs = kc l ∧ KFit l ∧ -9223372036854775808 ≤ l.kind ∧ l.kind ≤ 9223372036854775807 := by
  obtain ⟨y0, y1, y2, y3, n, hl, t0, t1, t2, t3⟩ := trod_struct4 Try.underlying104 h
  rw [bcellsK] at hl
  match cs, hl with
  | [c0, c1, c2, c3, c4, c5, c6, c7, c8, c9, c10], _ =>
    simp only [bcellsS, bcellsI, bcellsA, List.drop, List.take] at t0 t1 t2 t3
    obtain ⟨a, ha, _, wa⟩ := DataW.trod_string Try.underlying9 t0
    obtain ⟨b, hb, _, wb⟩ := DataW.trod_int Try.underlying3 t1
    obtain ⟨s, hs, _, hz⟩ := DataW.trod_string Try.underlying9 t2
    simp at ha hb hs
    subst ha hb hs
    obtain ⟨xs, m, _, _, _, hlen, hel⟩ := DataW.trod_array Try.underlying63 t3
    match xs, hlen with
    | [e0, e1, e2, e3, e4, e5, e6, e7], _ =>
      have k0 := hel 0 (by omega)
      have k1 := hel 1 (by omega)
      have k2 := hel 2 (by omega)
      have k3 := hel 3 (by omega)
      have k4 := hel 4 (by omega)
      have k5 := hel 5 (by omega)
      have k6 := hel 6 (by omega)
      have k7 := hel 7 (by omega)
      simp only [bcellsS] at k0 k1 k2 k3 k4 k5 k6 k7
      obtain ⟨s0, f0, _, z0⟩ := DataW.trod_string Try.underlying9 k0
      obtain ⟨s1, f1, _, z1⟩ := DataW.trod_string Try.underlying9 k1
      obtain ⟨s2, f2, _, z2⟩ := DataW.trod_string Try.underlying9 k2
      obtain ⟨s3, f3, _, z3⟩ := DataW.trod_string Try.underlying9 k3
      obtain ⟨s4, f4, _, z4⟩ := DataW.trod_string Try.underlying9 k4
      obtain ⟨s5, f5, _, z5⟩ := DataW.trod_string Try.underlying9 k5
      obtain ⟨s6, f6, _, z6⟩ := DataW.trod_string Try.underlying9 k6
      obtain ⟨s7, f7, _, z7⟩ := DataW.trod_string Try.underlying9 k7
      simp at f0 f1 f2 f3 f4 f5 f6 f7
      subst f0 f1 f2 f3 f4 f5 f6 f7
      refine ⟨⟨a, b, s, s0, s1, s2, s3, s4, s5, s6, s7⟩, rfl, ⟨wa, hz, ?_⟩, bounds_i64 wb⟩
      intro t ht
      simp only [SetM.bs, List.mem_cons, List.not_mem_nil, or_false] at ht
      rcases ht with rfl | rfl | rfl | rfl | rfl | rfl | rfl | rfl <;> assumption

theorem low_of_okB {base : Nat} {t e : TypeId} {v : Value} (ht : Try.prog.underlying t = some (.slice e)) (h : Cell.okWide Try.prog W .any base t v) : ∀ b, v.ownBlock = some b → b < W.heap.size := by
  intro b hb
  match v, hb with
  | .slice (some a) n c, hb =>
    simp only [Cell.okWide, ht, Cell.ok] at h
    obtain ⟨_, _, _, _, row, cells, hs, _⟩ := h
    have e : a.block = b := by simpa [Value.ownBlock] using hb
    subst e
    unfold World.shape? at hs
    split at hs
    · rename_i hh
      exact (Array.getElem?_eq_some_iff.1 hh).1
    · cases hs
  | .slice none n c, hb => simp [Value.ownBlock] at hb
  | .pointer (some a), hb => simp [Cell.okWide, ht, Cell.ok] at h

/-- Sets that came in. -/
theorem sets_of {base fuel : Nat} {v : Value} {x : DataW H × List MemPlace} (ho : Cell.okWide Try.prog W .any base 22 v) (h : DataW.trod enc Try.prog W 0 (fun _ => true) true fuel 22 [v] = some x) :
    ∃ ls : List SetM, Sl W 11 v ls.length (kcs ls) ∧ ∀ l ∈ ls, KFit l ∧ -9223372036854775808 ≤ l.kind ∧ l.kind ≤ 9223372036854775807 := by
  rcases open_slice Try.underlying22 h with ⟨hcs, _⟩ | ⟨a, len, cap, m, n, D, Pl, hcs, _, hl, hm, hmm, _, hx⟩
  · obtain rfl : v = .slice none 0 0 := by simpa using hcs
    exact ⟨[], ⟨rfl, none, 0, rfl, Nat.le_refl _, Nat.zero_le _, Or.inl rfl⟩, by simp⟩
  · obtain rfl : v = .slice (some a) len cap := by simpa using hcs
    simp only [if_true] at hmm
    subst hmm
    have hsp : a.spot = none := by
      simp only [Cell.okWide, Try.underlying22, Cell.ok] at ho
      exact ho.2.2.2.1
    obtain ⟨b, off, sp⟩ := a
    simp at hsp
    subst hsp
    rw [bcellsK] at hx
    obtain ⟨L, hL⟩ := choose_lt (α := SetM) (p := fun i l => SetAt W b (off + i * 11) l ∧ KFit l ∧ -9223372036854775808 ≤ l.kind ∧ l.kind ≤ 9223372036854775807) (n := len) (fun i hi => by
      obtain ⟨cs', h1, h2⟩ := hx i (by omega)
      obtain ⟨l, rfl, hr⟩ := set_of h2
      rw [add_noneB] at h1
      refine ⟨l, ?_, hr⟩
      obtain ⟨_, _, hc⟩ := World.cells?_some h1
      intro j u hu
      have hj : j < (kc l).length := (List.getElem?_eq_some_iff.1 hu).1
      have h0 := hc j (by simpa [kc_length] using hj)
      rw [add_noneB] at h0
      rw [h0, ← hu])
    refine ⟨(List.range len).map L, ⟨kcs_length _, some ⟨b, off, none⟩, m, by simp, by simpa using hl, hm, Or.inr ⟨b, off, rfl, fun j u hu => ?_⟩⟩, ?_⟩
    · have hj : j < len * 11 := by
        have h := (List.getElem?_eq_some_iff.1 hu).1
        rw [kcs_length] at h
        simpa using h
      have hk : j / 11 < ((List.range len).map L).length := by simp; omega
      have hat := kcs_at ((List.range len).map L) (j / 11) hk (j % 11) (by omega)
      have hcl := (hL (j / 11) (by omega)).1 (j % 11)
      simp only [List.getElem_map, List.getElem_range] at hat
      rw [show j / 11 * 11 + j % 11 = j by omega, hu] at hat
      have := hcl u hat.symm
      rwa [Nat.add_assoc, show j / 11 * 11 + j % 11 = j by omega] at this
    · intro l hl
      obtain ⟨i, hi, rfl⟩ := List.mem_map.1 hl
      exact (hL i (List.mem_range.1 hi)).2

theorem btypesB : Try.prog.cellTypes Try.prog.depth 24 = some [22] := by kernel_rfl

/-- Kinds are numbers of 64 bits. -/
def KindsFit (ls : List SetM) : Prop := ∀ l ∈ ls, -9223372036854775808 ≤ l.kind ∧ l.kind ≤ 9223372036854775807

/-- A book that came in. -/
theorem book_of {base : Nat} {v : Value} {x : DataW H} {p : List MemPlace} (ho : Value.okWide Try.prog W .any base 24 v) (h : DataW.Trod enc Try.prog W 0 (fun _ => true) true 24 v x p) :
    ∃ u ls, v = .agg #[u] ∧ BookR W u ls ∧ (∀ l ∈ ls, KFit l) ∧ KindsFit ls := by
  simp only [Value.okWide, Try.underlying24] at ho
  obtain ⟨cs, rfl, hsz, hrow⟩ := ho
  rw [bcellsB] at hsz
  obtain ⟨u, rfl⟩ : ∃ u, cs = #[u] := by
    match cs, hsz with
    | ⟨[u]⟩, _ => exact ⟨u, rfl⟩
  obtain ⟨ts, hts, _, hok⟩ := hrow
  obtain rfl := Option.some.inj (btypesB.symm.trans hts)
  obtain ⟨t0, e0, o0⟩ := hok 0 u rfl
  simp at e0
  subst e0
  obtain ⟨fuel, hf⟩ := h
  obtain ⟨y0, n, _, _, u0⟩ := trod_struct1 Try.underlying24 hf
  simp only [bcellsKs, Value.cells, List.drop, List.take] at u0
  obtain ⟨ls, hls, hz⟩ := sets_of (enc := enc) o0 u0
  exact ⟨u, ls, rfl, ⟨hls, low_of_okB Try.underlying22 o0⟩, fun l hl => (hz l hl).1, fun l hl => (hz l hl).2⟩
end
end Go.Proofs.Ytoeaeckkmpdpiaa

/-
  A disk that came in as an argument, opened: it reads as a disk, and its blocks are there.
-/
import Derived.Test.YtobjgdnmlibofaaGreatDiskLaw
import Derived.OpenShut
import Derived.Deep.Strs
import Derived.ChangeSame
set_option maxRecDepth 100000
namespace Go.Proofs.YtobjgdnmlibofaaGreat
open Go.ChangeShapes Go.WideShapes Go.ChangeAt Go.RowKit Go.Proofs.Palim Go.Deep

section
variable {H : Type} {enc : TypeId × Value → H} {W : World}

/-- A slice that may come in has its block. -/
theorem low_of_ok {base : Nat} {t e : TypeId} {v : Value} (ht : Tryz.prog.underlying t = some (.slice e)) (h : Cell.okWide Tryz.prog W .any base t v) : Low W.heap.size v := by
  intro b hb
  match v, hb with
  | .slice (some a) n c, hb =>
    simp only [Cell.okWide, ht, Cell.ok] at h
    obtain ⟨_, _, _, _, row, cells, hs, _⟩ := h
    have e : a.block = b := by simpa [Value.ownBlock] using hb
    subst e
    unfold World.shape? at hs
    split at hs
    · rename_i hh
      exact (Array.getElem?_eq_some_iff.1 hh).1
    · cases hs
  | .slice none n c, hb => simp [Value.ownBlock] at hb
  | .pointer (some a), hb => simp [Cell.okWide, ht, Cell.ok] at h

theorem add_none {b off i : Nat} : (⟨b, off, none⟩ : Addr).add i = ⟨b, off + i, none⟩ := by unfold Addr.add; simp

theorem cells9 : Tryz.prog.cellsOf 9 = 1 := by kernel_rfl

/-- A list of strings that came in. -/
theorem strs_of {base fuel : Nat} {v : Value} {x : DataW H × List MemPlace} (ho : Cell.okWide Tryz.prog W .any base 22 v) (h : DataW.trod enc Tryz.prog W 0 (fun _ => true) true fuel 22 [v] = some x) :
    ∃ ss : List ByteArray, Sl W 1 v ss.length (scs ss) ∧ ∀ s ∈ ss, s.size ≤ maxLen := by
  rcases open_strs Tryz.underlying22 Tryz.underlying9 cells9 h with ⟨hcs, _⟩ | ⟨a, len, cap, m, Sx, hcs, _, hl, hm, hmm, _, hcell⟩
  · obtain rfl : v = .slice none 0 0 := by simpa using hcs
    exact ⟨[], ⟨rfl, none, 0, rfl, Nat.le_refl _, Nat.zero_le _, Or.inl rfl⟩, by simp⟩
  · obtain rfl : v = .slice (some a) len cap := by simpa using hcs
    simp only [if_true] at hmm
    subst hmm
    refine ⟨(List.range len).map Sx, ⟨by simp [scs], some a, m, by simp, by simpa using hl, hm, ?_⟩, ?_⟩
    · right
      have hsp : a.spot = none := by
        simp only [Cell.okWide, Tryz.underlying22, Cell.ok] at ho
        exact ho.2.2.2.1
      obtain ⟨b, off, sp⟩ := a
      simp at hsp
      subst hsp
      refine ⟨b, off, rfl, fun j u hu => ?_⟩
      have hj : j < len := by
        have := (List.getElem?_eq_some_iff.1 hu).1
        simpa [scs] using this
      have := (hcell j (by omega)).1
      rw [add_none] at this
      rw [this]
      simpa [scs, hj] using hu
    · intro s hs
      obtain ⟨i, hi, rfl⟩ := List.mem_map.1 hs
      exact (hcell i (by have := List.mem_range.1 hi; omega)).2

theorem cellsLate : Tryz.prog.cellsOf 130 = 3 := by kernel_rfl
theorem cells3 : Tryz.prog.cellsOf 3 = 1 := by kernel_rfl
theorem cells23 : Tryz.prog.cellsOf 22 = 1 := by kernel_rfl
theorem cells24 : Tryz.prog.cellsOf 23 = 2 := by kernel_rfl
theorem cells41 : Tryz.prog.cellsOf 24 = 1 := by kernel_rfl

instance : Inhabited LateM := ⟨⟨0, 0, ⟨#[]⟩⟩⟩

/-- One late write that came in. -/
theorem late_of {fuel : Nat} {cs : List Value} {x : DataW H × List MemPlace} (h : DataW.trod enc Tryz.prog W 0 (fun _ => true) true fuel 130 cs = some x) :
    ∃ l : LateM, cs = lc l ∧ l.text.size ≤ maxLen ∧ (-9223372036854775808 ≤ l.side ∧ l.side ≤ 9223372036854775807) ∧ -9223372036854775808 ≤ l.at_ ∧ l.at_ ≤ 9223372036854775807 := by
  obtain ⟨y0, y1, y2, n, _, hl, t0, t1, t2⟩ := trod_struct3 Tryz.underlying130 h
  rw [cellsLate] at hl
  match cs, hl with
  | [c0, c1, c2], _ =>
    simp only [cells3, cells9, List.drop, List.take] at t0 t1 t2
    obtain ⟨a, ha, _, wa⟩ := DataW.trod_int Tryz.underlying3 t0
    obtain ⟨b, hb, _, wb⟩ := DataW.trod_int Tryz.underlying3 t1
    obtain ⟨s, hs, _, hz⟩ := DataW.trod_string Tryz.underlying9 t2
    simp at ha hb hs
    subst ha hb hs
    exact ⟨⟨a, b, s⟩, rfl, hz, bounds_i64 wa, bounds_i64 wb⟩

/-- Late writes that came in. -/
theorem lates_of {base fuel : Nat} {v : Value} {x : DataW H × List MemPlace} (ho : Cell.okWide Tryz.prog W .any base 24 v) (h : DataW.trod enc Tryz.prog W 0 (fun _ => true) true fuel 24 [v] = some x) :
    ∃ ls : List LateM, Sl W 3 v ls.length (lcs ls) ∧ ∀ l ∈ ls, l.text.size ≤ maxLen ∧ (-9223372036854775808 ≤ l.side ∧ l.side ≤ 9223372036854775807) ∧ -9223372036854775808 ≤ l.at_ ∧ l.at_ ≤ 9223372036854775807 := by
  rcases open_slice Tryz.underlying24 h with ⟨hcs, _⟩ | ⟨a, len, cap, m, n, D, Pl, hcs, _, hl, hm, hmm, _, hx⟩
  · obtain rfl : v = .slice none 0 0 := by simpa using hcs
    exact ⟨[], ⟨rfl, none, 0, rfl, Nat.le_refl _, Nat.zero_le _, Or.inl rfl⟩, by simp⟩
  · obtain rfl : v = .slice (some a) len cap := by simpa using hcs
    simp only [if_true] at hmm
    subst hmm
    have hsp : a.spot = none := by
      simp only [Cell.okWide, Tryz.underlying24, Cell.ok] at ho
      exact ho.2.2.2.1
    obtain ⟨b, off, sp⟩ := a
    simp at hsp
    subst hsp
    rw [cellsLate] at hx
    obtain ⟨L, hL⟩ := choose_lt (α := LateM) (p := fun i l => (W.cell? ⟨b, off + i * 3, none⟩ = some (.int .i64 l.side) ∧ W.cell? ⟨b, off + i * 3 + 1, none⟩ = some (.int .i64 l.at_) ∧ W.cell? ⟨b, off + i * 3 + 2, none⟩ = some (.string l.text)) ∧ l.text.size ≤ maxLen ∧ (-9223372036854775808 ≤ l.side ∧ l.side ≤ 9223372036854775807) ∧ -9223372036854775808 ≤ l.at_ ∧ l.at_ ≤ 9223372036854775807) (n := len) (fun i hi => by
      obtain ⟨cs', h1, h2⟩ := hx i (by omega)
      obtain ⟨l, rfl, hr⟩ := late_of h2
      rw [add_none] at h1
      refine ⟨l, ?_, hr⟩
      obtain ⟨_, _, hc⟩ := World.cells?_some h1
      have h0 := hc 0 (by omega)
      have h1 := hc 1 (by omega)
      have h2 := hc 2 (by omega)
      rw [add_none] at h0 h1 h2
      exact ⟨h0, h1, h2⟩)
    refine ⟨(List.range len).map L, ⟨lcs_length _, some ⟨b, off, none⟩, m, by simp, by simpa using hl, hm, Or.inr ⟨b, off, rfl, fun j u hu => ?_⟩⟩, ?_⟩
    · have hj : j < len * 3 := by
        have h := (List.getElem?_eq_some_iff.1 hu).1
        rw [lcs_length] at h
        simpa using h
      have hk : j / 3 < ((List.range len).map L).length := by simp; omega
      have hat := lcs_at ((List.range len).map L) (j / 3) hk
      have hcl := (hL (j / 3) (by omega)).1
      simp only [List.getElem_map, List.getElem_range] at hat
      have hj3 : j = j / 3 * 3 ∨ j = j / 3 * 3 + 1 ∨ j = j / 3 * 3 + 2 := by omega
      generalize j / 3 = k at hat hcl hj3
      rcases hj3 with rfl | rfl | rfl
      · rw [hat.1] at hu; rw [hcl.1]; exact hu
      · rw [hat.2.1] at hu; rw [← Nat.add_assoc, hcl.2.1]; exact hu
      · rw [hat.2.2] at hu; rw [← Nat.add_assoc, hcl.2.2]; exact hu
    · intro l hl
      obtain ⟨i, hi, rfl⟩ := List.mem_map.1 hl
      exact (hL i (List.mem_range.1 hi)).2

theorem cellsDisk : Tryz.prog.cellsOf 26 = 3 := by kernel_rfl
theorem typesDisk : Tryz.prog.cellTypes Tryz.prog.depth 26 = some [22, 22, 24] := by kernel_rfl

/-- A disk that came in. -/
theorem disk_of {base : Nat} {v : Value} {x : DataW H} {p : List MemPlace} (ho : Value.okWide Tryz.prog W .any base 26 v) (h : DataW.Trod enc Tryz.prog W 0 (fun _ => true) true 26 v x p) :
    ∃ v0 v1 vl d, v = .agg #[v0, v1, vl] ∧ DiskR W v0 v1 vl d ∧ (∀ s ∈ d.s0, s.size ≤ maxLen) ∧ (∀ s ∈ d.s1, s.size ≤ maxLen) ∧ ∀ l ∈ d.late, l.text.size ≤ maxLen := by
  simp only [Value.okWide, Tryz.underlying26] at ho
  obtain ⟨cs, rfl, hsz, hrow⟩ := ho
  rw [cellsDisk] at hsz
  obtain ⟨v0, v1, vl, rfl⟩ : ∃ v0 v1 vl, cs = #[v0, v1, vl] := by
    match cs, hsz with
    | ⟨[v0, v1, vl]⟩, _ => exact ⟨v0, v1, vl, rfl⟩
  obtain ⟨ts, hts, _, hok⟩ := hrow
  obtain rfl := Option.some.inj (typesDisk.symm.trans hts)
  obtain ⟨t0, e0, o0⟩ := hok 0 v0 rfl
  obtain ⟨t1, e1, o1⟩ := hok 1 v1 rfl
  obtain ⟨tl, el, ol⟩ := hok 2 vl rfl
  simp at e0 e1 el
  subst e0 e1 el
  obtain ⟨fuel, hf⟩ := h
  obtain ⟨y0, y1, n, _, _, u0, u1⟩ := trod_struct2 Tryz.underlying26 hf
  simp only [cells24, cells41, Value.cells, List.drop, List.take] at u0 u1
  obtain ⟨xs, m, _, _, _, hlen, hel⟩ := DataW.trod_array Tryz.underlying23 u0
  match xs, hlen with
  | [a, b], _ =>
    have ha := hel 0 (by omega)
    have hb := hel 1 (by omega)
    simp only [cells23] at ha hb
    obtain ⟨ss0, hs0, hz0⟩ := strs_of (enc := enc) o0 ha
    obtain ⟨ss1, hs1, hz1⟩ := strs_of (enc := enc) o1 hb
    obtain ⟨ls, hls, hzl⟩ := lates_of (enc := enc) ol u1
    exact ⟨v0, v1, vl, ⟨ss0, ss1, ls⟩, rfl, ⟨hs0, hs1, hls, low_of_ok Tryz.underlying22 o0, low_of_ok Tryz.underlying22 o1, low_of_ok Tryz.underlying24 ol⟩, hz0, hz1, fun l hl => (hzl l hl).1⟩
end
end Go.Proofs.YtobjgdnmlibofaaGreat

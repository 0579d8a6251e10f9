/-
  A store that came in as an argument, opened.
-/
import Derived.Test.YtobjgdnmlibofaaGreatPoolL
import Derived.Test.YtobjgdnmlibofaaGreatDiskArg
import Derived.Test.YtobjgdnmlibofaaGreatCoreArg
set_option maxRecDepth 100000
namespace Go.Proofs.YtobjgdnmlibofaaGreat
open Go.ChangeShapes Go.WideShapes Go.ChangeAt Go.RowKit Go.Proofs.Palim Go.Deep

section
variable {H : Type} {enc : TypeId × Value → H} {W : World}
theorem kcellsP : Tryz.prog.cellsOf 34 = 11 := by kernel_rfl
theorem ktypesP : Tryz.prog.cellTypes Tryz.prog.depth 34 = some [22, 22, 24, 3, 27, 28, 29, 4, 30, 3, 4] := by kernel_rfl
/-- A store that came in. -/
theorem pool_of {base : Nat} {v : Value} {x : DataW H} {p : List MemPlace} (ho : Value.okWide Tryz.prog W .any base 34 v) (h : DataW.Trod enc Tryz.prog W 0 (fun _ => true) true 34 v x p) :
    ∃ (u : PV) (q : PoolM), v = u.val q ∧ PoolR W u q ∧ PoolFits q := by
  simp only [Value.okWide, Tryz.underlying34] at ho
  obtain ⟨cs, rfl, hsz, hrow⟩ := ho
  rw [kcellsP] at hsz
  obtain ⟨v0, v1, vl, u0, u1, u2, u3, u4, u5, u6, ub, rfl⟩ : ∃ v0 v1 vl u0 u1 u2 u3 u4 u5 u6 ub, cs = #[v0, v1, vl, u0, u1, u2, u3, u4, u5, u6, ub] := by
    match cs, hsz with
    | ⟨[v0, v1, vl, u0, u1, u2, u3, u4, u5, u6, ub]⟩, _ => exact ⟨v0, v1, vl, u0, u1, u2, u3, u4, u5, u6, ub, rfl⟩
  obtain ⟨ts, hts, _, hok⟩ := hrow
  obtain rfl := Option.some.inj (ktypesP.symm.trans hts)
  obtain ⟨k0, e0, o0⟩ := hok 0 v0 rfl
  obtain ⟨k1, e1, o1⟩ := hok 1 v1 rfl
  obtain ⟨kl, el, ol⟩ := hok 2 vl rfl
  obtain ⟨m1, f1, p1⟩ := hok 4 u1 rfl
  obtain ⟨m2, f2, p2⟩ := hok 5 u2 rfl
  obtain ⟨m3, f3, p3⟩ := hok 6 u3 rfl
  obtain ⟨m5, f5, p5⟩ := hok 8 u5 rfl
  simp at e0 e1 el f1 f2 f3 f5
  subst e0 e1 el f1 f2 f3 f5
  obtain ⟨fuel, hf⟩ := h
  obtain ⟨yd, yc, yb, n, _, _, td, tc, tb⟩ := trod_struct3 Tryz.underlying34 hf
  simp only [cellsDisk, kcellsC, kcellsB, Value.cells, List.drop, List.take] at td tc tb
  obtain ⟨y0, y1, nd, _, _, d0, d1⟩ := trod_struct2 Tryz.underlying26 td
  simp only [cells24, cells41, List.drop, List.take] at d0 d1
  obtain ⟨ss0, ss1, hs0, hz0, hs1, hz1⟩ : ∃ ss0 ss1, Sl W 1 v0 ss0.length (scs ss0) ∧ (∀ s ∈ ss0, s.size ≤ maxLen) ∧ Sl W 1 v1 ss1.length (scs ss1) ∧ ∀ s ∈ ss1, s.size ≤ maxLen := by
    obtain ⟨xs, m, _, _, _, hlen, hel⟩ := DataW.trod_array Tryz.underlying23 d0
    match xs, hlen with
    | [a, b], _ =>
      have ha := hel 0 (by omega)
      have hb := hel 1 (by omega)
      simp only [cells23] at ha hb
      obtain ⟨ss0, hs0, hz0⟩ := strs_of (enc := enc) o0 ha
      obtain ⟨ss1, hs1, hz1⟩ := strs_of (enc := enc) o1 hb
      exact ⟨ss0, ss1, hs0, hz0, hs1, hz1⟩
  obtain ⟨ls, hls, hzl⟩ := lates_of (enc := enc) ol d1
  obtain ⟨z0, z1, z2, z3, z4, z5, z6, nc, _, t0, t1, t2, t3, t4, t5, t6⟩ := trod_struct7 Tryz.underlying32 tc
  simp only [kcellsI, kcellsB, kcellsKs, kcellsEs, kcellsPs, kcellsIs, List.drop, List.take] at t0 t1 t2 t3 t4 t5 t6
  obtain ⟨a, ha, _, wa⟩ := DataW.trod_int Tryz.underlying3 t0
  obtain ⟨sets, r1, g1⟩ := csets_of (enc := enc) p1 t1
  obtain ⟨ddt, r2, g2⟩ := ents_of (enc := enc) p2 t2
  obtain ⟨parts, r3, g3⟩ := parts_of (enc := enc) p3 t3
  obtain ⟨d, hd, _⟩ := DataW.trod_bool Tryz.underlying4 t4
  obtain ⟨safe, r5⟩ := ints_of (enc := enc) p5 t5
  obtain ⟨b, hb, _, wb⟩ := DataW.trod_int Tryz.underlying3 t6
  obtain ⟨up, hu, _⟩ := DataW.trod_bool Tryz.underlying4 tb
  simp at ha hd hb hu
  subst ha hd hb hu
  exact ⟨⟨v0, v1, vl, u1, u2, u3, u5⟩, ⟨⟨ss0, ss1, ls⟩, ⟨a, sets, ddt, parts, d, safe, b⟩, up⟩, rfl,
    ⟨⟨hs0, hs1, hls, low_of_ok Tryz.underlying22 o0, low_of_ok Tryz.underlying22 o1, low_of_ok Tryz.underlying24 ol⟩,
     ⟨r1, r2, r3, r5, low_of_ok Tryz.underlying27 p1, low_of_ok Tryz.underlying28 p2, low_of_ok Tryz.underlying29 p3, low_of_ok Tryz.underlying30 p5⟩⟩,
    ⟨hz0, hz1, fun l hl => (hzl l hl).1, ⟨bounds_i64 wa, bounds_i64 wb, g1, g2, g3⟩⟩⟩
end
end Go.Proofs.YtobjgdnmlibofaaGreat

/-
  Go's == and != on pointers, entries and sets of the core.
-/
import Derived.Test.YtojjenclcidnkaaGreatDoorBase
import Derived.Test.YtojjenclcidnkaaGreatDoorSetEq
set_option maxRecDepth 100000
namespace Go.Proofs.YtojjenclcidnkaaGreatDoor
open Go.ChangeShapes Go.WideShapes Go.ChangeAt Go.RowKit Go.Proofs.Palim

theorem ptr_eq {p q : PtrM} : p = q ↔ p.at_ = q.at_ ∧ p.sum = q.sum ∧ p.birth = q.birth := by cases p; cases q; simp
instance : DecidableEq PtrM := fun p q => decidable_of_iff _ ptr_eq.symm
theorem ent_eq {p q : EntM} : p = q ↔ p.sum = q.sum ∧ p.at_ = q.at_ ∧ p.count = q.count := by cases p; cases q; simp
instance : DecidableEq EntM := fun p q => decidable_of_iff _ ent_eq.symm
theorem cset_eq {x y : CSetM} : x = y ↔ x.name = y.name ∧ x.kind = y.kind ∧ x.frm = y.frm ∧ x.map = y.map ∧ x.home = y.home ∧ x.dirty = y.dirty := by cases x; cases y; simp
noncomputable instance : DecidableEq CSetM := fun _ _ => Classical.propDecidable _

theorem equalPtr (d : Nat) (p q : PtrM) (w : World) : (Op.equalIn (d + 1 + 1) 67 (pv p) (pv q)).run Tryz.prog w = .ok (decide (p = q)) w := by
  obtain ⟨a, s, b⟩ := p
  obtain ⟨c, t, e⟩ := q
  have hS : Tryz.prog.underlying 67 = some (.struct (Tryz.prog.fieldsOf 67)) := by kernel_rfl
  have hp : Tryz.prog.stoodInHeld 67 = false := by kernel_rfl
  have u3 := Tryz.underlying3
  have a3 := Tryz.isAgg3
  have z3 := Tryz.sizeOf3
  rw [run_equalIn_agg w (d + 1) 67 _ _ hS hp]
  simp only [Program.fieldsOf, Tryz.underlying67]
  by_cases h1 : a = c <;> by_cases h2 : s = t <;> by_cases h3 : b = e <;> simp [h1, h2, h3, ptr_eq, go_sem]
theorem neqPtr (p q : PtrM) (w : World) : (binOp .neq 67 (pv p) (pv q)).run Tryz.prog w = .ok (.bool (!decide (p = q))) w := by
  rw [run_neq_struct, show (10000 : Nat) = 9998 + 1 + 1 from rfl, equalPtr]; rfl
theorem neqEnt (p q : EntM) (w : World) : (binOp .neq 135 (entV p) (entV q)).run Tryz.prog w = .ok (.bool (!decide (p = q))) w := by
  obtain ⟨a, s, b⟩ := p
  obtain ⟨c, t, e⟩ := q
  have hS : Tryz.prog.underlying 135 = some (.struct (Tryz.prog.fieldsOf 135)) := by kernel_rfl
  have hp : Tryz.prog.stoodInHeld 135 = false := by kernel_rfl
  have u3 := Tryz.underlying3
  have a3 := Tryz.isAgg3
  have z3 := Tryz.sizeOf3
  unfold entV
  rw [run_neq_struct, show (10000 : Nat) = 9999 + 1 from rfl, run_equalIn_agg w 9999 135 _ _ hS hp]
  simp only [Program.fieldsOf, Tryz.underlying135]
  by_cases h1 : a = c <;> by_cases h2 : s = t <;> by_cases h3 : b = e <;> simp [h1, h2, h3, ent_eq, go_sem]
theorem eightP {α : Type} (ps : List α) (h : ps.length = 8) : ∃ a b c d e f g i, ps = [a, b, c, d, e, f, g, i] := by
  match ps, h with
  | [a, b, c, d, e, f, g, i], _ => exact ⟨a, b, c, d, e, f, g, i, rfl⟩
set_option maxHeartbeats 1000000 in
theorem equalMap (d : Nat) (ps qs : List PtrM) (hp : ps.length = 8) (hq : qs.length = 8) (w : World) : (Op.equalIn (d + 1 + 1 + 1) 68 (.agg (pcs ps).toArray) (.agg (pcs qs).toArray)).run Tryz.prog w = .ok (decide (ps = qs)) w := by
  obtain ⟨a, b, c, d0, e, f, g, i, rfl⟩ := eightP ps hp
  obtain ⟨a', b', c', d', e', f', g', i', rfl⟩ := eightP qs hq
  have hr : ∀ (p q : PtrM) (w : World), (Op.equalIn (d + 2) 67 (pv p) (pv q)).run Tryz.prog w = .ok (decide (p = q)) w := equalPtr d
  have x0 : ∀ (w : World), (part 67 (pcs [a, b, c, d0, e, f, g, i]).toArray 0).run Tryz.prog w = .ok (pv a) w := fun w => by kernel_rfl
  have y0 : ∀ (w : World), (part 67 (pcs [a', b', c', d', e', f', g', i']).toArray 0).run Tryz.prog w = .ok (pv a') w := fun w => by kernel_rfl
  have x1 : ∀ (w : World), (part 67 (pcs [a, b, c, d0, e, f, g, i]).toArray 3).run Tryz.prog w = .ok (pv b) w := fun w => by kernel_rfl
  have y1 : ∀ (w : World), (part 67 (pcs [a', b', c', d', e', f', g', i']).toArray 3).run Tryz.prog w = .ok (pv b') w := fun w => by kernel_rfl
  have x2 : ∀ (w : World), (part 67 (pcs [a, b, c, d0, e, f, g, i]).toArray 6).run Tryz.prog w = .ok (pv c) w := fun w => by kernel_rfl
  have y2 : ∀ (w : World), (part 67 (pcs [a', b', c', d', e', f', g', i']).toArray 6).run Tryz.prog w = .ok (pv c') w := fun w => by kernel_rfl
  have x3 : ∀ (w : World), (part 67 (pcs [a, b, c, d0, e, f, g, i]).toArray 9).run Tryz.prog w = .ok (pv d0) w := fun w => by kernel_rfl
  have y3 : ∀ (w : World), (part 67 (pcs [a', b', c', d', e', f', g', i']).toArray 9).run Tryz.prog w = .ok (pv d') w := fun w => by kernel_rfl
  have x4 : ∀ (w : World), (part 67 (pcs [a, b, c, d0, e, f, g, i]).toArray 12).run Tryz.prog w = .ok (pv e) w := fun w => by kernel_rfl
  have y4 : ∀ (w : World), (part 67 (pcs [a', b', c', d', e', f', g', i']).toArray 12).run Tryz.prog w = .ok (pv e') w := fun w => by kernel_rfl
  have x5 : ∀ (w : World), (part 67 (pcs [a, b, c, d0, e, f, g, i]).toArray 15).run Tryz.prog w = .ok (pv f) w := fun w => by kernel_rfl
  have y5 : ∀ (w : World), (part 67 (pcs [a', b', c', d', e', f', g', i']).toArray 15).run Tryz.prog w = .ok (pv f') w := fun w => by kernel_rfl
  have x6 : ∀ (w : World), (part 67 (pcs [a, b, c, d0, e, f, g, i]).toArray 18).run Tryz.prog w = .ok (pv g) w := fun w => by kernel_rfl
  have y6 : ∀ (w : World), (part 67 (pcs [a', b', c', d', e', f', g', i']).toArray 18).run Tryz.prog w = .ok (pv g') w := fun w => by kernel_rfl
  have x7 : ∀ (w : World), (part 67 (pcs [a, b, c, d0, e, f, g, i]).toArray 21).run Tryz.prog w = .ok (pv i) w := fun w => by kernel_rfl
  have y7 : ∀ (w : World), (part 67 (pcs [a', b', c', d', e', f', g', i']).toArray 21).run Tryz.prog w = .ok (pv i') w := fun w => by kernel_rfl
  generalize (pcs [a, b, c, d0, e, f, g, i]).toArray = X at *
  generalize (pcs [a', b', c', d', e', f', g', i']).toArray = Y at *
  have z9 := Tryz.sizeOf67
  rw [Op.equalIn]
  simp only [Sem.run_bind, run_underlying Tryz.underlying68, Result.andThen_ok, z9]
  simp [List.range', x0, y0, x1, y1, x2, y2, x3, y3, x4, y4, x5, y5, x6, y6, x7, y7, hr, Result.andThen]
  by_cases h0 : a = a'
  case neg => simp [h0, x0, y0, x1, y1, x2, y2, x3, y3, x4, y4, x5, y5, x6, y6, x7, y7, hr, Result.andThen]
  by_cases h1 : b = b'
  case neg => simp [h1, h0, x0, y0, x1, y1, x2, y2, x3, y3, x4, y4, x5, y5, x6, y6, x7, y7, hr, Result.andThen]
  by_cases h2 : c = c'
  case neg => simp [h2, h0, h1, x0, y0, x1, y1, x2, y2, x3, y3, x4, y4, x5, y5, x6, y6, x7, y7, hr, Result.andThen]
  by_cases h3 : d0 = d'
  case neg => simp [h3, h0, h1, h2, x0, y0, x1, y1, x2, y2, x3, y3, x4, y4, x5, y5, x6, y6, x7, y7, hr, Result.andThen]
  by_cases h4 : e = e'
  case neg => simp [h4, h0, h1, h2, h3, x0, y0, x1, y1, x2, y2, x3, y3, x4, y4, x5, y5, x6, y6, x7, y7, hr, Result.andThen]
  by_cases h5 : f = f'
  case neg => simp [h5, h0, h1, h2, h3, h4, x0, y0, x1, y1, x2, y2, x3, y3, x4, y4, x5, y5, x6, y6, x7, y7, hr, Result.andThen]
  by_cases h6 : g = g'
  case neg => simp [h6, h0, h1, h2, h3, h4, h5, x0, y0, x1, y1, x2, y2, x3, y3, x4, y4, x5, y5, x6, y6, x7, y7, hr, Result.andThen]
  by_cases h7 : i = i'
  case neg => simp [h7, h0, h1, h2, h3, h4, h5, h6, x0, y0, x1, y1, x2, y2, x3, y3, x4, y4, x5, y5, x6, y6, x7, y7, hr, Result.andThen]
  simp [h0, h1, h2, h3, h4, h5, h6, h7, x0, y0, x1, y1, x2, y2, x3, y3, x4, y4, x5, y5, x6, y6, x7, y7, hr, Result.andThen]
set_option maxHeartbeats 2000000 in
theorem neqCSet (x y : CSetM) (w : World) : (binOp .neq 70 (.agg (cc x).toArray) (.agg (cc y).toArray)).run Tryz.prog w = .ok (.bool (!decide (x = y))) w := by
  have hS : Tryz.prog.underlying 70 = some (.struct (Tryz.prog.fieldsOf 70)) := by kernel_rfl
  have hp : Tryz.prog.stoodInHeld 70 = false := by kernel_rfl
  have u3 := Tryz.underlying3
  have a3 := Tryz.isAgg3
  have z3 := Tryz.sizeOf3
  have h8 : ∀ w : World, (Op.equalIn 9999 68 (.agg (pcs x.map).toArray) (.agg (pcs y.map).toArray)).run Tryz.prog w = .ok (decide (x.map = y.map)) w := equalMap 9996 x.map y.map x.h8 y.h8
  have c0 : ∀ x : CSetM, (cc x)[0]? = some (.string x.name) := fun x => rfl
  have c1 : ∀ x : CSetM, (cc x)[1]? = some (.int .i64 x.kind) := fun x => rfl
  have c2 : ∀ x : CSetM, (cc x)[2]? = some (.string x.frm) := fun x => rfl
  have cm : ∀ x : CSetM, List.take 24 (List.drop 3 (cc x)) = pcs x.map := fun x => by
    have := cmap_len x
    simp [cc, ch, ← this]
  have ct : ∀ (x : CSetM) (k : Nat), (cc x)[k + 27]? = (pc x.home ++ [.bool x.dirty])[k]? := fun x k => by
    have := cmap_len x
    have e : (ch x ++ pcs x.map).length = 27 := by simp [ch, this]
    rw [cc, List.getElem?_append_right (by omega), e]
    congr 1
  have c3 : ∀ x : CSetM, (cc x)[27]? = some (.int .i64 x.home.at_) := fun x => ct x 0
  have c4 : ∀ x : CSetM, (cc x)[28]? = some (.int .i64 x.home.sum) := fun x => ct x 1
  have c5 : ∀ x : CSetM, (cc x)[29]? = some (.int .i64 x.home.birth) := fun x => ct x 2
  have c6 : ∀ x : CSetM, (cc x)[30]? = some (.bool x.dirty) := fun x => ct x 3
  clear ct
  rw [run_neq_struct, show (10000 : Nat) = 9999 + 1 from rfl, run_equalIn_agg w 9999 70 _ _ hS hp]
  simp only [Program.fieldsOf, Tryz.underlying70]
  have e3 : ∀ a b : ByteArray, a.toList = b.toList ↔ a = b := fun a b => by
    have h1 := beq_toListBytes a b
    rw [bytes_beq] at h1
    by_cases h : a = b
    · subst h; simp
    · rw [decide_eq_false h] at h1
      exact ⟨fun e => absurd e (beq_eq_false_iff_ne.1 h1.symm), fun e => absurd e h⟩
  go_simp
  try simp only [c0, c1, c2, c3, c4, c5, c6, cm]
  try go_simp
  have PE := @ptr_eq x.home y.home
  have CE := @cset_eq x y
  by_cases h1 : x.name = y.name
  case neg => simp [h1, CE]
  by_cases h2 : x.kind = y.kind
  case neg => simp [h1, h2, CE]
  by_cases h3 : x.frm = y.frm
  case neg => simp [h1, h2, h3, CE]
  by_cases h4 : x.map = y.map
  case neg => simp [h1, h2, h3, h4, CE]
  by_cases h5 : x.home.at_ = y.home.at_
  case neg => simp [h1, h2, h3, h4, h5, PE, CE, go_sem]
  by_cases h6 : x.home.sum = y.home.sum
  case neg => simp [h1, h2, h3, h4, h5, h6, PE, CE, go_sem]
  by_cases h7 : x.home.birth = y.home.birth
  case neg => simp [h1, h2, h3, h4, h5, h6, h7, PE, CE, go_sem]
  by_cases hd : x.dirty = y.dirty
  case neg => simp [h1, h2, h3, h4, h5, h6, h7, hd, PE, CE, go_sem]
  simp [h1, h2, h3, h4, h5, h6, h7, hd, PE, CE, go_sem]
end Go.Proofs.YtojjenclcidnkaaGreatDoor

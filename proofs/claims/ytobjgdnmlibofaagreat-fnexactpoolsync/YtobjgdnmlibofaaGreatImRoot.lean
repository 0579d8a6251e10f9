/-
  impl's rooted: following From by name.
-/
import Derived.Test.YtobjgdnmlibofaaGreatImOpen
set_option maxRecDepth 100000
namespace Go.Proofs.YtobjgdnmlibofaaGreat
open Go.ChangeShapes Go.WideShapes Go.ChangeAt Go.RowKit Go.Proofs.Palim Go.Maps

theorem roots_true {ls : List SetM} {x : SetM} {m : Nat} (hk : x.kind = 1) (h : x.frm.size = 0) : rootsM ls (m + 1) x = true := by rw [rootsM, if_pos ⟨hk, h⟩]
theorem roots_miss {ls : List SetM} {x : SetM} {m : Nat} (h : ¬ (x.kind = 1 ∧ x.frm.size = 0)) (hf : findM ls x.frm = none) : rootsM ls (m + 1) x = false := by rw [rootsM, if_neg h, hf]
theorem roots_hit {ls : List SetM} {x y : SetM} {m : Nat} (h : ¬ (x.kind = 1 ∧ x.frm.size = 0)) (hf : findM ls x.frm = some y) : rootsM ls (m + 1) x = if y.kind = x.kind then false else rootsM ls m y := by rw [rootsM, if_neg h, hf]

set_option maxHeartbeats 4000000 in
theorem rooted_any (m base : Nat) (Lb : List (Nat × SetM)) (x : SetM) (w : World) (h : SetsB w base m Lb) (hl : Lb.length ≤ 6) (hx : x.frm.size ≤ maxLen) (hz : ∀ p ∈ Lb, p.2.frm.size ≤ maxLen) :
    Calls Tryz.prog 143 #[.map (some m), .agg #[.string x.name, .int .i64 x.kind, .string x.frm, .string x.b0, .string x.b1, .string x.b2, .string x.b3, .string x.b4, .string x.b5, .string x.b6, .string x.b7]] w fun e w' => e = .returned (.bool (rootsM (Lb.map (·.2)) Lb.length x)) ∧ Below w.heap.size w w' := by
  have hnot : ∀ (x : Bool) (w : World), (Op.unary .not (.bool x)).run Tryz.prog w = .ok (.bool (!x)) w := fun _ _ => rfl
  obtain ⟨n, HL⟩ : ∃ n, Hid (Lb.length = n) := ⟨_, Lib.hid rfl⟩
  obtain ⟨ok, HOK⟩ : ∃ ok, Hid (rootsM (Lb.map (·.2)) Lb.length x = ok) := ⟨_, Lib.hid rfl⟩
  rw [HOK.out]
  have HS := Lib.hid h
  have HZ := Lib.hid hz
  have HXZ := Lib.hid hx
  have HY := Lib.hid (show Box _ w.heap.size (kc x) from box_new w #[.string x.name, .int .i64 x.kind, .string x.frm, .string x.b0, .string x.b1, .string x.b2, .string x.b3, .string x.b4, .string x.b5, .string x.b6, .string x.b7] 140)
  have HW := Lib.hid (Below.new1 (w := w) (.cells #[.string x.name, .int .i64 x.kind, .string x.frm, .string x.b0, .string x.b1, .string x.b2, .string x.b3, .string x.b4, .string x.b5, .string x.b6, .string x.b7] 140))
  have hlen := (HS.out.below HW.out).map.len
  rw [List.length_map, HL.out] at hlen
  rw [HL.out] at hl HOK
  clear h hz hx
  go_enter Tryz.func143, Tryz.ntmps143
  go_wp2
  clear hlen
  generalize w.alloc (.cells #[.string x.name, .int .i64 x.kind, .string x.frm, .string x.b0, .string x.b1, .string x.b2, .string x.b3, .string x.b4, .string x.b5, .string x.b6, .string x.b7] 140) = W at HY HW
  go_loopw [5, 6, 9] (fun _ _ i wr => ∃ (k : Nat) (z : SetM), k ≤ n ∧ i = .int .i64 k ∧ Hid (z.frm.size ≤ maxLen) ∧ Hid (Box wr w.heap.size (kc z)) ∧ Hid (Below w.heap.size w wr) ∧ Hid (rootsM (Lb.map (·.2)) (n - k) z = ok)) (fun _ _ i _ => n - (intOf i).toNat)
  case atStart => exact ⟨0, x, Nat.zero_le _, rfl, HXZ, HY, HW, HOK⟩
  case round =>
    obtain ⟨k, z, hk, rfl, HFZ, HY1, HW1, HQ⟩ := hrel
    clear HY HW HOK HXZ
    obtain ⟨g0, g1, g2, g3, g4, g5, g6, g7, g8, g9, g10⟩ := (setAt_of_box HY1.out).all
    simp only [Nat.zero_add] at g1 g2 g3 g4 g5 g6 g7 g8 g9 g10
    by_cases hlt : k < n
    · obtain ⟨j, HM⟩ : ∃ j, Hid (n - k = j + 1) := ⟨n - k - 1, Lib.hid (by omega)⟩
      rw [HM.out] at HQ
      by_cases hr : z.kind = 1 ∧ z.frm.size = 0
      · have he2 := eqEmpty hr.2
        have hk2 : (z.kind == 1) = true := by simp [hr.1]
        have HF := Lib.hid ((roots_true hr.1 hr.2).symm.trans HQ.out)
        clear hr HQ
        go_wp2
        go_ret
        exact ⟨ret_boolB HF.out, HW1.out⟩
      · have HR := Lib.hid hr
        have hkk : ((z.kind == 1) = false) ∨ ((z.kind == 1) = true ∧ (z.frm.toList == []) = false) := by
          by_cases h1 : z.kind = 1
          · exact Or.inr ⟨by simp [h1], neEmpty fun c => hr ⟨h1, c⟩⟩
          · exact Or.inl (by simp [h1])
        clear hr
        have HS1 := Lib.hid (HS.out.below HW1.out)
        have hlook := HS1.out.map.look HFZ.out
        rcases look_find Lb z.frm with ⟨h1, h2⟩ | ⟨p, hp, h1, h2, -⟩
        · rw [h1] at hlook
          simp only [lookV, Option.map_none, Option.isSome_none] at hlook
          have HF := Lib.hid ((roots_miss HR.out h2).symm.trans HQ.out)
          clear h1 h2 HQ
          rcases hkk with hk2 | ⟨hk2, he2⟩
          all_goals
            go_wp2_with fail
            go_quiet (fail)
            go_wp2
            go_ret
            exact ⟨ret_boolB HF.out, below_drewN HW1.out _⟩
        · rw [h1] at hlook
          obtain ⟨pb, y⟩ := p
          simp only [lookV, Option.map_some, Option.isSome_some] at hlook
          have HSM := Lib.hid ((roots_hit HR.out h2).symm.trans HQ.out)
          have HPB := Lib.hid (HS1.out.box (pb, y) hp).1
          have HFY := Lib.hid (HZ.out (pb, y) hp)
          obtain ⟨q0, q1, q2, q3, q4, q5, q6, q7, q8, q9, q10⟩ := (setAt_of_box HPB.out).all
          simp only [Nat.zero_add] at q1 q2 q3 q4 q5 q6 q7 q8 q9 q10
          have hpb : pb < w.heap.size := (HS.out.box (pb, y) hp).1.lt
          clear h1 h2 hp HQ
          by_cases hky : y.kind = z.kind
          · have HF := Lib.hid (HSM.out.symm.trans (if_pos hky))
            have hkq : (y.kind == z.kind) = true := by simp [hky]
            clear HSM hky
            rcases hkk with hk2 | ⟨hk2, he2⟩
            all_goals
              go_wp2_with fail
              go_quiet (fail)
              go_wp2
              go_ret
              exact ⟨ret_boolB HF.out.symm, below_drewN HW1.out _⟩
          · have HF := Lib.hid ((if_neg hky).symm.trans HSM.out)
            have hkq : (y.kind == z.kind) = false := by simp [hky]
            clear HSM hky
            have f0 := HY1.out.open_ 0
            have f1 := HY1.out.open_ 1
            have f2 := HY1.out.open_ 2
            have f3 := HY1.out.open_ 3
            have f4 := HY1.out.open_ 4
            have f5 := HY1.out.open_ 5
            have f6 := HY1.out.open_ 6
            have f7 := HY1.out.open_ 7
            have f8 := HY1.out.open_ 8
            have f9 := HY1.out.open_ 9
            have f10 := HY1.out.open_ 10
            rcases hkk with hk2 | ⟨hk2, he2⟩
            all_goals
              go_wp2_with fail
              go_quiet (fail)
              go_wp2
              go_roundw
              case rel => exact ⟨k + 1, y, by omega, by go_num, HFY, Lib.hid (Box.set11 (HY1.out.drewN _) y), Lib.hid (below_set11 (below_drewN HW1.out _) (by omega) y), Lib.hid (by have := HM.out; rw [show n - (k + 1) = j by omega]; exact HF.out)⟩
              case measure => simp [intOf]; omega
    · have HF := Lib.hid (show false = ok from by have := HQ.out; rw [show n - k = 0 by omega] at this; exact this)
      go_wp2
      go_ret
      exact ⟨ret_boolB HF.out, HW1.out⟩
end Go.Proofs.YtobjgdnmlibofaaGreat

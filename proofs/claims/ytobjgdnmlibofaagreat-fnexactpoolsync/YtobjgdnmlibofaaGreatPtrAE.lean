/-
  eqPtrA8 of eight pointers and themselves.
-/
import Derived.Test.YtobjgdnmlibofaaGreatPtrA
import Derived.Deep.RegionHeld3
set_option maxRecDepth 100000
namespace Go.Proofs.YtobjgdnmlibofaaGreat
open Go.ChangeShapes Go.WideShapes Go.ChangeAt Go.RowKit Go.Proofs.Palim

set_option maxHeartbeats 1000000 in
theorem eqPtrA8_same (ps : List PtrM) (w : World) (h8 : ps.length = 8) :
    Calls Tryz.prog 138 #[.agg (pcs ps).toArray, .agg (pcs ps).toArray] w fun e w' => e = .returned (.bool true) ∧ Below w.heap.size w w' := by
  have hnot : ∀ (x : Bool) (w : World), (Op.unary .not (.bool x)).run Tryz.prog w = .ok (.bool (!x)) w := fun _ _ => rfl
  have H8 := Lib.hid h8
  obtain ⟨b1, b2, hsz, hB⟩ := box2 w (pcs ps).toArray (pcs ps).toArray 87 87
  have X1 := Lib.hid b1
  have X2 := Lib.hid b2
  have B0 := Lib.hid hB
  clear b1 b2 hB h8 hsz
  go_enter Tryz.func138, Tryz.ntmps138
  go_wp2_with fail
  go_loopw [5] (fun i wr => ∃ (k : Nat), k ≤ 8 ∧ i = .int .i64 k ∧ Hid (Box wr w.heap.size (pcs ps)) ∧ Hid (Box wr (w.heap.size + 1) (pcs ps)) ∧ Hid (Below w.heap.size w wr)) (fun i _ => 8 - (intOf i).toNat)
  case atStart => exact ⟨0, Nat.zero_le _, rfl, X1, X2, B0⟩
  case round =>
    obtain ⟨k, hk, rfl, Y1, Y2, HB⟩ := hrel
    clear X1 X2 B0
    by_cases hlt : k < 8
    case pos =>
      have hk1 : (k : Int) < 8 := by omega
      have hl0 : k < ps.length := by rw [H8.out]; exact hlt
      obtain ⟨h1, h2, h3⟩ := ptr_box Y1.out k hl0
      obtain ⟨g1, g2, g3⟩ := ptr_box Y2.out k hl0
      have hx1 := Y1.out.lt
      have hx2 := Y2.out.lt
      generalize ps[k] = x at h1 h2 h3 g1 g2 g3
      go_wp2_with fail
      go_region_held3 (fun w' => w'.cell? ⟨w.heap.size, k * 3, none⟩ = some (.int .i64 x.at_) ∧ w'.cell? ⟨w.heap.size, k * 3 + 1, none⟩ = some (.int .i64 x.sum) ∧ w'.cell? ⟨w.heap.size, k * 3 + 2, none⟩ = some (.int .i64 x.birth) ∧ w'.cell? ⟨w.heap.size + 1, k * 3, none⟩ = some (.int .i64 x.at_) ∧ w'.cell? ⟨w.heap.size + 1, k * 3 + 1, none⟩ = some (.int .i64 x.sum) ∧ w'.cell? ⟨w.heap.size + 1, k * 3 + 2, none⟩ = some (.int .i64 x.birth))
        (first
          | exact ⟨h1, h2, h3, g1, g2, g3⟩
          | (go_split_ands
             refine ⟨?_, ?_, ?_, ?_, ?_, ?_⟩
             all_goals (rw [hb2.cell (by simp <;> omega)]; assumption)))
        ((go_at_call 120; ((with_reducible refine (eqPtr_same x _).mono ?_); rintro e w2 ⟨rfl, hb2⟩)))
      all_goals
        have hb3 := (Below.refl wr.heap.size wr).drew.trans hb2
        have Z1 := Lib.hid (Y1.out.below hb3 hx1)
        have Z2 := Lib.hid (Y2.out.below hb3 hx2)
        have HB2 := Lib.hid (HB.out.trans (hb3.mono HB.out.size))
        clear hb2 hb3 HB Y1 Y2 h1 h2 h3 g1 g2 g3
        go_wp2
        go_roundw
        case rel => exact ⟨k + 1, by omega, by go_num, Z1, Z2, HB2⟩
        case measure => simp [intOf]; omega
    case neg =>
      go_wp2
      go_ret
      exact ⟨rfl, HB.out⟩
end Go.Proofs.YtobjgdnmlibofaaGreat

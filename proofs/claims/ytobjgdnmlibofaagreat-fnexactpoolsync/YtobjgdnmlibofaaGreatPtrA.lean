/-
  A set's pointers: eight in an array; the laws' helpers on them.
-/
import Derived.Test.YtobjgdnmlibofaaGreatPtr
import Derived.Test.YtobjgdnmlibofaaGreatBig
import Derived.Test.YtobjgdnmlibofaaGreatDdtS
set_option maxRecDepth 100000
namespace Go.Proofs.YtobjgdnmlibofaaGreat
open Go.ChangeShapes Go.WideShapes Go.ChangeAt Go.RowKit Go.Proofs.Palim

def pc (p : PtrM) : List Value := [.int .i64 p.at_, .int .i64 p.sum, .int .i64 p.birth]
def pcs (ps : List PtrM) : List Value := ps.flatMap pc
theorem pcs_length (ls : List PtrM) : (pcs ls).length = ls.length * 3 := by
  induction ls with
  | nil => rfl
  | cons x ls ih => simp [pcs, pc] at ih ⊢; omega
theorem pcs_snoc (a : List PtrM) (x : PtrM) : pcs (a ++ [x]) = pcs a ++ pc x := by simp [pcs]
theorem pcs_at (ls : List PtrM) : ∀ (k : Nat) (h : k < ls.length), (pcs ls)[k * 3]? = some (.int .i64 ls[k].at_) ∧ (pcs ls)[k * 3 + 1]? = some (.int .i64 ls[k].sum) ∧ (pcs ls)[k * 3 + 2]? = some (.int .i64 ls[k].birth) := by
  induction ls with
  | nil => intro k h; simp at h
  | cons x ls ih =>
    intro k h
    have e : pcs (x :: ls) = [.int .i64 x.at_, .int .i64 x.sum, .int .i64 x.birth] ++ pcs ls := by simp [pcs, pc]
    cases k with
    | zero => rw [e]; exact ⟨rfl, rfl, rfl⟩
    | succ k =>
      have := ih k (by simpa using h)
      rw [e, show (k + 1) * 3 = k * 3 + 3 by omega]
      rw [List.getElem?_append_right (by simp), List.getElem?_append_right (by simp <;> omega), List.getElem?_append_right (by simp <;> omega)]
      simp only [List.length_cons, List.length_nil, List.getElem_cons_succ]
      rw [show k * 3 + 3 - (0 + 1 + 1 + 1) = k * 3 by omega, show k * 3 + 3 + 1 - (0 + 1 + 1 + 1) = k * 3 + 1 by omega, show k * 3 + 3 + 2 - (0 + 1 + 1 + 1) = k * 3 + 2 by omega]
      exact this
theorem ptr_read {w : World} {ls : List PtrM} {b off : Nat} (hc : ∀ j u, (pcs ls)[j]? = some u → w.cell? ⟨b, off + j, none⟩ = some u) (k : Nat) (h : k < ls.length) :
    w.cell? ⟨b, off + k * 3, none⟩ = some (.int .i64 ls[k].at_) ∧ w.cell? ⟨b, off + k * 3 + 1, none⟩ = some (.int .i64 ls[k].sum) ∧ w.cell? ⟨b, off + k * 3 + 2, none⟩ = some (.int .i64 ls[k].birth) := by
  have hat := pcs_at ls k h
  exact ⟨hc _ _ hat.1, by rw [Nat.add_assoc]; exact hc _ _ hat.2.1, by rw [Nat.add_assoc]; exact hc _ _ hat.2.2⟩
theorem ptr_box {w : World} {ls : List PtrM} {b : Nat} (hB : Box w b (pcs ls)) (k : Nat) (h : k < ls.length) :
    w.cell? ⟨b, k * 3, none⟩ = some (.int .i64 ls[k].at_) ∧ w.cell? ⟨b, k * 3 + 1, none⟩ = some (.int .i64 ls[k].sum) ∧ w.cell? ⟨b, k * 3 + 2, none⟩ = some (.int .i64 ls[k].birth) := by
  have hat := pcs_at ls k h
  exact ⟨hB.cell _ hat.1, hB.cell _ hat.2.1, hB.cell _ hat.2.2⟩
theorem pcs_one (ls : List PtrM) : ∀ v ∈ pcs ls, v.oneCell' = true := by
  intro v hv
  obtain ⟨p, _, hp⟩ := List.mem_flatMap.1 hv
  simp [pc] at hp
  rcases hp with rfl | rfl | rfl <;> rfl
/-- Eight pointers' value. -/
def mapV (ps : List PtrM) : Value := .agg (pcs ps).toArray
theorem aggMapL : Agg Tryz.prog 133 24 := ⟨Tryz.isAgg133, Tryz.sizeOf133⟩
theorem aggMap : Agg Tryz.prog 87 24 := ⟨Tryz.isAgg87, Tryz.sizeOf87⟩

/-- Eight null pointers. -/
def z24 : Array Value := #[.int .i64 0, .int .i64 0, .int .i64 0, .int .i64 0, .int .i64 0, .int .i64 0, .int .i64 0, .int .i64 0, .int .i64 0, .int .i64 0, .int .i64 0, .int .i64 0, .int .i64 0, .int .i64 0, .int .i64 0, .int .i64 0, .int .i64 0, .int .i64 0, .int .i64 0, .int .i64 0, .int .i64 0, .int .i64 0, .int .i64 0, .int .i64 0]

set_option maxHeartbeats 1000000 in
theorem toPtrA8_any (ps : List PtrM) (w : World) (h8 : ps.length = 8) :
    Calls Tryz.prog 129 #[.agg (pcs ps).toArray] w fun e w' => e = .returned (.agg (pcs ps).toArray) ∧ Below w.heap.size w w' := by
  have HL := Lib.hid (show (pcs ps).length = 24 by rw [pcs_length, h8])
  have H8 := Lib.hid h8
  obtain ⟨b1, b2, b3, hsz, hB⟩ := box3 w (pcs ps).toArray z24 z24 133 87 87
  have X1 := Lib.hid b1
  have X2 := Lib.hid b2
  have X3 := Lib.hid b3
  have B0 := Lib.hid hB
  clear b1 b2 b3 hB h8
  go_enter Tryz.func129, Tryz.ntmps129
  go_wp2_with fail
  go_loopw [4] (fun i wr => ∃ (k : Nat) (cs : List Value), k ≤ 8 ∧ i = .int .i64 k ∧ Hid (Box wr w.heap.size (pcs ps)) ∧ Hid (Box wr (w.heap.size + 1) z24.toList) ∧ Hid (Box wr (w.heap.size + 1 + 1) cs) ∧ Hid (cs.length = 24) ∧ Hid (cs.take (k * 3) = pcs (ps.take k)) ∧ Hid (Below w.heap.size w wr)) (fun i _ => 8 - (intOf i).toNat)
  case atStart => exact ⟨0, z24.toList, Nat.zero_le _, rfl, X1, X2, X3, Lib.hid rfl, Lib.hid rfl, B0⟩
  case round =>
    obtain ⟨k, cs, hk, rfl, Y1, Y2, Y3, HC, HT, HB⟩ := hrel
    clear X1 X2 X3 B0 hsz
    by_cases hlt : k < 8
    case pos =>
      have hk1 : (k : Int) < 8 := by omega
      have hl0 : k < ps.length := by rw [H8.out]; exact hlt
      obtain ⟨h1, h2, h3⟩ := ptr_box Y1.out k hl0
      obtain ⟨x, HX⟩ : ∃ x, Hid (x = ps[k]) := ⟨_, Lib.hid rfl⟩
      rw [← HX.out] at h1 h2 h3
      go_wp2_with fail
      refine (toPtr_any x _).mono ?_
      rintro e w2 ⟨rfl, hb2⟩
      have Z1 := Lib.hid (Y1.out.below hb2 Y1.out.lt)
      have Z2 := Lib.hid (Y2.out.below hb2 Y2.out.lt)
      have Z3 := Lib.hid (Y3.out.below hb2 Y3.out.lt)
      have HB1 := Lib.hid (HB.out.trans (hb2.mono HB.out.size))
      have hcl := HC.out
      have c0 := Z3.out.cell (k * 3) (List.getElem?_eq_getElem (by omega))
      have c1 := Z3.out.cell (k * 3 + 1) (List.getElem?_eq_getElem (by omega))
      have c2 := Z3.out.cell (k * 3 + 2) (List.getElem?_eq_getElem (by omega))
      have f0 := Z3.out.open_ (k * 3)
      have f1 := Z3.out.open_ (k * 3 + 1)
      have f2 := Z3.out.open_ (k * 3 + 2)
      generalize cs[k * 3] = u0 at c0
      generalize cs[k * 3 + 1] = u1 at c1
      generalize cs[k * 3 + 2] = u2 at c2
      have V1 := Lib.hid (((Z1.out.other (p := ⟨w.heap.size + 1 + 1, k * 3, none⟩) (by simp; omega) (.int .i64 x.at_)).other (p := ⟨w.heap.size + 1 + 1, k * 3 + 1, none⟩) (by simp; omega) (.int .i64 x.sum)).other (p := ⟨w.heap.size + 1 + 1, k * 3 + 2, none⟩) (by simp; omega) (.int .i64 x.birth))
      have V2 := Lib.hid (((Z2.out.other (p := ⟨w.heap.size + 1 + 1, k * 3, none⟩) (by simp) (.int .i64 x.at_)).other (p := ⟨w.heap.size + 1 + 1, k * 3 + 1, none⟩) (by simp) (.int .i64 x.sum)).other (p := ⟨w.heap.size + 1 + 1, k * 3 + 2, none⟩) (by simp) (.int .i64 x.birth))
      have V3 := Lib.hid (((Z3.out.set (k * 3) (.int .i64 x.at_)).set (k * 3 + 1) (.int .i64 x.sum)).set (k * 3 + 2) (.int .i64 x.birth))
      have HC2 := Lib.hid (show (((cs.set (k * 3) (.int .i64 x.at_)).set (k * 3 + 1) (.int .i64 x.sum)).set (k * 3 + 2) (.int .i64 x.birth)).length = 24 by simpa using hcl)
      have HT2 := Lib.hid (show (((cs.set (k * 3) (.int .i64 x.at_)).set (k * 3 + 1) (.int .i64 x.sum)).set (k * 3 + 2) (.int .i64 x.birth)).take ((k + 1) * 3) = pcs (ps.take (k + 1)) from by
        rw [take_set3 cs k _ _ _ (by omega), HT.out, List.take_succ_eq_append_getElem hl0, pcs_snoc, ← HX.out]
        rfl)
      have HB2 := Lib.hid (((HB1.out.setCell (p := ⟨w.heap.size + 1 + 1, k * 3, none⟩) (by simp; omega) (.int .i64 x.at_)).setCell (p := ⟨w.heap.size + 1 + 1, k * 3 + 1, none⟩) (by simp; omega) (.int .i64 x.sum)).setCell (p := ⟨w.heap.size + 1 + 1, k * 3 + 2, none⟩) (by simp; omega) (.int .i64 x.birth))
      clear h1 h2 h3 hb2 Y1 Y2 Y3 Z1 Z2 Z3 HB HB1 HC HT hcl
      go_wp2
      go_roundw
      case rel => exact ⟨k + 1, _, by omega, by go_num, V1, V2, V3, HC2, HT2, HB2⟩
      case measure => simp [intOf]; omega
    case neg =>
      have hk8 : k = 8 := by omega
      have HE := Lib.hid (show Box wr (w.heap.size + 1 + 1) (pcs ps) from by
        have h1 := HT.out
        have h2 := HC.out
        have h3 := H8.out
        rw [List.take_of_length_le (by omega), List.take_of_length_le (by omega)] at h1
        rw [← h1]; exact Y3.out)
      have HP := Lib.hid (Y2.out.putAll (pcs ps) (by rw [HL.out]; rfl))
      have HB3 := Lib.hid (putC_below HB.out (w.heap.size + 1) 0 (by omega) (pcs ps))
      clear hk8 HT HC Y1 Y3
      go_wp2_with (first | (refine wpList_load_box rfl _ rfl aggMap rfl (pcs ps) HL.out HE.out ?_) | (refine wpList_store_box rfl _ _ rfl rfl aggMap rfl (pcs ps) rfl HL.out (pcs_one ps) z24.toList Y2.out rfl ?_))
      refine bodyPost_ret (results_box rfl _ (w.heap.size + 1) (pcs ps) aggMap HL.out rfl HP.out) rfl ⟨rfl, HB3.out⟩
end Go.Proofs.YtobjgdnmlibofaaGreat

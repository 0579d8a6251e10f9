/-
  Sets of the core as data; the laws' helpers on one set.
-/
import Derived.Test.YtobjgdnmlibofaaGreatPtrAE
import Derived.Test.YtobjgdnmlibofaaGreatPtrS
import Derived.Deep.CutRange
import Derived.Test.YtobjgdnmlibofaaGreatDiskV
set_option maxRecDepth 100000
namespace Go.Proofs.Palim
open Go
theorem Box.part {w : World} {g : Nat} {p m q : List Value} (h : Box w g (p ++ m ++ q)) (n : Nat) (hn : p.length = n) : ∀ j u, m[j]? = some u → w.cell? ⟨g, n + j, none⟩ = some u := by
  intro j u hu
  subst hn
  refine h.cell _ ?_
  have hj := (List.getElem?_eq_some_iff.1 hu).1
  rw [List.append_assoc, List.getElem?_append_right (by omega), Nat.add_sub_cancel_left, List.getElem?_append_left hj]
  exact hu
theorem Box.mid {w : World} {g : Nat} {p old q : List Value} (h : Box w g (p ++ old ++ q)) (vs : List Value) (n : Nat) (hn : p.length = n) (hl : old.length = vs.length) : Box (putC w g n vs) g (p ++ vs ++ q) := by
  subst hn; exact Box.putC_mid vs w g p old q h hl
theorem Box.may_mid {w : World} {g : Nat} {p old q : List Value} (h : Box w g (p ++ old ++ q)) (n k : Nat) (hn : p.length = n) (hl : old.length = k) : ∀ j, j < k → (∃ u, w.cell? ⟨g, n + 0 + j, none⟩ = some u) ∧ w.frozen? ⟨g, n + 0 + j, none⟩ = false :=
  h.may n k (by simp; omega)
end Go.Proofs.Palim
namespace Go.Proofs.YtobjgdnmlibofaaGreat
open Go.ChangeShapes Go.WideShapes Go.ChangeAt Go.RowKit Go.Proofs.Palim

/-- A set of the core, as plain data. -/
structure CSetM where
  name : ByteArray
  kind : Int
  frm : ByteArray
  map : List PtrM
  home : PtrM
  dirty : Bool
  h8 : map.length = 8
/-- Its cells. -/
def ch (x : CSetM) : List Value := [.string x.name, .int .i64 x.kind, .string x.frm]
def cc (x : CSetM) : List Value := ch x ++ pcs x.map ++ (pc x.home ++ [.bool x.dirty])
theorem cmap_len (x : CSetM) : (pcs x.map).length = 24 := by rw [pcs_length, x.h8]
theorem cc_length (x : CSetM) : (cc x).length = 31 := by simp [cc, ch, pc, cmap_len]
theorem cc_one (x : CSetM) : ∀ v ∈ cc x, v.oneCell' = true := by
  intro v hv
  rcases List.mem_append.1 hv with hv | hv
  · rcases List.mem_append.1 hv with hv | hv
    · simp [ch] at hv
      rcases hv with rfl | rfl | rfl <;> rfl
    · exact pcs_one _ v hv
  · simp [pc] at hv
    rcases hv with rfl | rfl | rfl | rfl <;> rfl
theorem cc_home (x : CSetM) : cc x = (ch x ++ pcs x.map) ++ pc x.home ++ [.bool x.dirty] := by simp [cc]
theorem chm_len (x : CSetM) : (ch x ++ pcs x.map).length = 27 := by simp [ch, cmap_len]
theorem ccBox {w : World} {g : Nat} {x : CSetM} (h : Box w g (cc x)) : w.cell? ⟨g, 0, none⟩ = some (.string x.name) ∧ w.cell? ⟨g, 1, none⟩ = some (.int .i64 x.kind) ∧ w.cell? ⟨g, 2, none⟩ = some (.string x.frm) ∧ w.cell? ⟨g, 27, none⟩ = some (.int .i64 x.home.at_) ∧ w.cell? ⟨g, 28, none⟩ = some (.int .i64 x.home.sum) ∧ w.cell? ⟨g, 29, none⟩ = some (.int .i64 x.home.birth) ∧ w.cell? ⟨g, 30, none⟩ = some (.bool x.dirty) := by
  have hh := Box.part (p := ch x ++ pcs x.map) (m := pc x.home ++ [.bool x.dirty]) (q := []) (by simpa [cc] using h) 27 (chm_len x)
  exact ⟨h.cell 0 rfl, h.cell 1 rfl, h.cell 2 rfl, hh 0 _ rfl, hh 1 _ rfl, hh 2 _ rfl, hh 3 _ rfl⟩
theorem aggSetL : Agg Tryz.prog 135 31 := ⟨Tryz.isAgg135, Tryz.sizeOf135⟩
theorem aggSet : Agg Tryz.prog 89 31 := ⟨Tryz.isAgg89, Tryz.sizeOf89⟩
theorem aggPtrI : Agg Tryz.prog 86 3 := ⟨Tryz.isAgg86, Tryz.sizeOf86⟩
theorem pc_one (p : PtrM) : ∀ v ∈ pc p, v.oneCell' = true := by
  intro v hv
  simp [pc] at hv
  rcases hv with rfl | rfl | rfl <;> rfl

set_option maxHeartbeats 2000000 in
theorem toCoreSet_any (x : CSetM) (w : World) :
    Calls Tryz.prog 107 #[.agg (cc x).toArray] w fun e w' => e = .returned (.agg (cc x).toArray) ∧ Below w.heap.size w w' := by
  obtain ⟨b1, b2, b3, hsz, hB⟩ := box3 w (cc x).toArray #[.string ⟨#[]⟩, .int .i64 0, .string ⟨#[]⟩, .int .i64 0, .int .i64 0, .int .i64 0, .int .i64 0, .int .i64 0, .int .i64 0, .int .i64 0, .int .i64 0, .int .i64 0, .int .i64 0, .int .i64 0, .int .i64 0, .int .i64 0, .int .i64 0, .int .i64 0, .int .i64 0, .int .i64 0, .int .i64 0, .int .i64 0, .int .i64 0, .int .i64 0, .int .i64 0, .int .i64 0, .int .i64 0, .int .i64 0, .int .i64 0, .int .i64 0, .bool false] #[.string ⟨#[]⟩, .int .i64 0, .string ⟨#[]⟩, .int .i64 0, .int .i64 0, .int .i64 0, .int .i64 0, .int .i64 0, .int .i64 0, .int .i64 0, .int .i64 0, .int .i64 0, .int .i64 0, .int .i64 0, .int .i64 0, .int .i64 0, .int .i64 0, .int .i64 0, .int .i64 0, .int .i64 0, .int .i64 0, .int .i64 0, .int .i64 0, .int .i64 0, .int .i64 0, .int .i64 0, .int .i64 0, .int .i64 0, .int .i64 0, .int .i64 0, .bool false] 135 89 89
  have X1 := Lib.hid b1
  have X2 := Lib.hid b2
  have X3 := Lib.hid b3
  have B0 := Lib.hid hB
  clear b1 b2 b3 hB hsz
  go_enter Tryz.func107, Tryz.ntmps107
  go_upto_region 2 with fail
  generalize ((w.alloc (.cells (cc x).toArray 135)).alloc (.cells #[.string ⟨#[]⟩, .int .i64 0, .string ⟨#[]⟩, .int .i64 0, .int .i64 0, .int .i64 0, .int .i64 0, .int .i64 0, .int .i64 0, .int .i64 0, .int .i64 0, .int .i64 0, .int .i64 0, .int .i64 0, .int .i64 0, .int .i64 0, .int .i64 0, .int .i64 0, .int .i64 0, .int .i64 0, .int .i64 0, .int .i64 0, .int .i64 0, .int .i64 0, .int .i64 0, .int .i64 0, .int .i64 0, .int .i64 0, .int .i64 0, .int .i64 0, .bool false] 89)).alloc (.cells #[.string ⟨#[]⟩, .int .i64 0, .string ⟨#[]⟩, .int .i64 0, .int .i64 0, .int .i64 0, .int .i64 0, .int .i64 0, .int .i64 0, .int .i64 0, .int .i64 0, .int .i64 0, .int .i64 0, .int .i64 0, .int .i64 0, .int .i64 0, .int .i64 0, .int .i64 0, .int .i64 0, .int .i64 0, .int .i64 0, .int .i64 0, .int .i64 0, .int .i64 0, .int .i64 0, .int .i64 0, .int .i64 0, .int .i64 0, .int .i64 0, .int .i64 0, .bool false] 89) = W at X1 X2 X3 B0 ⊢
  obtain ⟨n0, n1, n2, -, -, -, -⟩ := ccBox (x := x) X1.out
  have c0 := X3.out.cell 0 rfl
  have c1 := X3.out.cell 1 rfl
  have c2 := X3.out.cell 2 rfl
  have f0 := X3.out.open_ 0
  have f1 := X3.out.open_ 1
  have f2 := X3.out.open_ 2
  have Y1 := Lib.hid (((X1.out.other (p := ⟨w.heap.size + 1 + 1, 0, none⟩) (by simp; omega) (.string x.name)).other (p := ⟨w.heap.size + 1 + 1, 1, none⟩) (by simp; omega) (.int .i64 x.kind)).other (p := ⟨w.heap.size + 1 + 1, 2, none⟩) (by simp; omega) (.string x.frm))
  have Y2 := Lib.hid (((X2.out.other (p := ⟨w.heap.size + 1 + 1, 0, none⟩) (by simp) (.string x.name)).other (p := ⟨w.heap.size + 1 + 1, 1, none⟩) (by simp) (.int .i64 x.kind)).other (p := ⟨w.heap.size + 1 + 1, 2, none⟩) (by simp) (.string x.frm))
  have Y3 := Lib.hid (show Box (((W.setCell ⟨w.heap.size + 1 + 1, 0, none⟩ (.string x.name)).setCell ⟨w.heap.size + 1 + 1, 1, none⟩ (.int .i64 x.kind)).setCell ⟨w.heap.size + 1 + 1, 2, none⟩ (.string x.frm)) (w.heap.size + 1 + 1) (ch x ++ [.int .i64 0, .int .i64 0, .int .i64 0, .int .i64 0, .int .i64 0, .int .i64 0, .int .i64 0, .int .i64 0, .int .i64 0, .int .i64 0, .int .i64 0, .int .i64 0, .int .i64 0, .int .i64 0, .int .i64 0, .int .i64 0, .int .i64 0, .int .i64 0, .int .i64 0, .int .i64 0, .int .i64 0, .int .i64 0, .int .i64 0, .int .i64 0] ++ [.int .i64 0, .int .i64 0, .int .i64 0, .bool false]) from ((X3.out.set 0 (.string x.name)).set 1 (.int .i64 x.kind)).set 2 (.string x.frm))
  have B1 := Lib.hid (((B0.out.setCell (p := ⟨w.heap.size + 1 + 1, 0, none⟩) (by simp; omega) (.string x.name)).setCell (p := ⟨w.heap.size + 1 + 1, 1, none⟩) (by simp; omega) (.int .i64 x.kind)).setCell (p := ⟨w.heap.size + 1 + 1, 2, none⟩) (by simp; omega) (.string x.frm))
  clear X1 X2 X3 B0
  go_upto_region 5 with fail
  generalize ((W.setCell ⟨w.heap.size + 1 + 1, 0, none⟩ (.string x.name)).setCell ⟨w.heap.size + 1 + 1, 1, none⟩ (.int .i64 x.kind)).setCell ⟨w.heap.size + 1 + 1, 2, none⟩ (.string x.frm) = W1 at Y1 Y2 Y3 B1 ⊢
  clear n0 n1 n2 c0 c1 c2 f0 f1 f2
  go_wp2_with (refine wpList_load_cs rfl _ rfl aggMapL rfl (pcs x.map) (cmap_len x) (Box.part (p := ch x) (m := pcs x.map) (q := pc x.home ++ [.bool x.dirty]) Y1.out 3 rfl) ?_)
  refine (toPtrA8_any x.map _ x.h8).mono ?_
  rintro e w2 ⟨rfl, hb⟩
  have Z1 := Lib.hid (Y1.out.below hb Y1.out.lt)
  have Z2 := Lib.hid (Y2.out.below hb Y2.out.lt)
  have Z3 := Lib.hid (Y3.out.below hb Y3.out.lt)
  have B2 := Lib.hid (B1.out.trans (hb.mono B1.out.size))
  clear hb Y1 Y2 Y3 B1
  have U1 := Lib.hid (show Box (putC w2 (w.heap.size + 1 + 1) 3 (pcs x.map)) w.heap.size (cc x) from Z1.out.kept (putC_heap _ _ _ _ _ (by omega)))
  have U2 := Lib.hid (show Box (putC w2 (w.heap.size + 1 + 1) 3 (pcs x.map)) (w.heap.size + 1) _ from Z2.out.kept (putC_heap _ _ _ _ _ (by omega)))
  have U3 := Lib.hid (Box.mid (p := ch x) (q := [.int .i64 0, .int .i64 0, .int .i64 0, .bool false]) Z3.out (pcs x.map) 3 rfl (by rw [cmap_len]; rfl))
  have B3 := Lib.hid (putC_below B2.out (w.heap.size + 1 + 1) 3 (by omega) (pcs x.map))
  have HM3 := Lib.hid (Box.may_mid (p := ch x) (q := [.int .i64 0, .int .i64 0, .int .i64 0, .bool false]) Z3.out 3 24 rfl rfl)
  clear Z1 Z2 Z3 B2
  go_upto_region 6 with (refine wpList_store_cs rfl _ _ rfl rfl aggMap rfl (pcs x.map) rfl (cmap_len x) (pcs_one x.map) (by rw [cmap_len]; exact HM3.out) ?_)
  generalize putC w2 (w.heap.size + 1 + 1) 3 (pcs x.map) = W3 at U1 U2 U3 B3 ⊢
  clear HM3
  obtain ⟨-, -, -, n3, n4, n5, n6⟩ := ccBox (x := x) U1.out
  go_wp2_with fail
  refine (toPtr_any x.home _).mono ?_
  rintro e w4 ⟨rfl, hb⟩
  have V1 := Lib.hid (U1.out.below hb U1.out.lt)
  have V2 := Lib.hid (U2.out.below hb U2.out.lt)
  have V3 := Lib.hid (show Box w4 (w.heap.size + 1 + 1) ((ch x ++ pcs x.map) ++ [.int .i64 0, .int .i64 0, .int .i64 0] ++ [.bool false]) from by simpa using U3.out.below hb U3.out.lt)
  have B4 := Lib.hid (B3.out.trans (hb.mono B3.out.size))
  clear hb U1 U2 U3 B3 n3 n4 n5 n6
  have S1 := Lib.hid (show Box (putC w4 (w.heap.size + 1 + 1) 27 (pc x.home)) w.heap.size (cc x) from V1.out.kept (putC_heap _ _ _ _ _ (by omega)))
  have S2 := Lib.hid (show Box (putC w4 (w.heap.size + 1 + 1) 27 (pc x.home)) (w.heap.size + 1) _ from V2.out.kept (putC_heap _ _ _ _ _ (by omega)))
  have S3 := Lib.hid (Box.mid (p := ch x ++ pcs x.map) (q := [.bool false]) V3.out (pc x.home) 27 (chm_len x) rfl)
  have B5 := Lib.hid (putC_below B4.out (w.heap.size + 1 + 1) 27 (by omega) (pc x.home))
  have HM5 := Lib.hid (Box.may_mid (p := ch x ++ pcs x.map) (q := [.bool false]) V3.out 27 3 (chm_len x) rfl)
  clear V1 V2 V3 B4
  go_upto_region 7 with (refine wpList_store_cs rfl _ _ rfl rfl aggPtrI rfl (pc x.home) rfl rfl (pc_one x.home) HM5.out ?_)
  generalize putC w4 (w.heap.size + 1 + 1) 27 (pc x.home) = W5 at S1 S2 S3 B5 ⊢
  clear HM5
  obtain ⟨-, -, -, -, -, -, n6⟩ := ccBox (x := x) S1.out
  have k6 := Box.part (p := ch x ++ pcs x.map ++ pc x.home) (m := [.bool false]) (q := []) (by simpa using S3.out) 30 (by simp [ch, pc, cmap_len]) 0 _ rfl
  have q6 := S3.out.open_ 30
  have R2 := Lib.hid (S2.out.other (p := ⟨w.heap.size + 1 + 1, 30, none⟩) (by simp) (.bool x.dirty))
  have R3 := Lib.hid (show Box (W5.setCell ⟨w.heap.size + 1 + 1, 30, none⟩ (.bool x.dirty)) (w.heap.size + 1 + 1) (cc x) from by
    have h1 := Box.mid (p := ch x ++ pcs x.map ++ pc x.home) (old := [.bool false]) (q := []) (by simpa using S3.out) [.bool x.dirty] 30 (by simp [ch, pc, cmap_len]) rfl
    rw [cc_home]
    simpa [putC] using h1)
  have B6 := Lib.hid (B5.out.setCell (p := ⟨w.heap.size + 1 + 1, 30, none⟩) (by simp; omega) (.bool x.dirty))
  clear S1 S2 S3 B5
  go_upto_region 8 with fail
  generalize W5.setCell ⟨w.heap.size + 1 + 1, 30, none⟩ (.bool x.dirty) = W6 at R2 R3 B6 ⊢
  clear n6 k6 q6
  have HPF := Lib.hid (Box.putAll R2.out (cc x) (by rw [cc_length]; rfl))
  have HBF := Lib.hid (putC_below B6.out (w.heap.size + 1) 0 (by omega) (cc x))
  go_wp2_with (first | (refine wpList_load_box rfl _ rfl aggSet rfl (cc x) (cc_length x) R3.out ?_) | (refine wpList_store_box rfl _ _ rfl rfl aggSet rfl (cc x) rfl (cc_length x) (cc_one x) _ R2.out rfl ?_; generalize putC W6 (w.heap.size + 1) 0 (cc x) = WF at HPF HBF ⊢))
  refine bodyPost_ret (results_box rfl _ (w.heap.size + 1) (cc x) aggSet (cc_length x) rfl HPF.out) rfl ⟨rfl, HBF.out⟩
end Go.Proofs.YtobjgdnmlibofaaGreat

/-
  The law on LogRead, walked.
-/
import Derived.Test.YtgjlhokakcdpbaaDoorILogR
set_option maxRecDepth 100000
namespace Go.Proofs.YtgjlhokakcdpbaaDoor
open Go.ChangeShapes Go.WideShapes Go.ChangeAt Go.RowKit Go.Proofs.Palim

theorem eqOp_same (k i : Int) (a b t : ByteArray) (w : World) :
    Calls Tryd.prog 27 #[.agg #[.int .i64 k, .string a, .string b, .int .i64 i, .string t], .agg #[.int .i64 k, .string a, .string b, .int .i64 i, .string t]] w fun e w' => e = .returned (.bool true) ∧ Below w.heap.size w w' := by
  have ha : (a.toList == a.toList) = true := by simp
  have hb : (b.toList == b.toList) = true := by simp
  have ht : (t.toList == t.toList) = true := by simp
  have hk : (k != k) = false := by simp
  have hi : (i != i) = false := by simp
  obtain ⟨b1, b2, hsz, hB⟩ := box2 w #[.int .i64 k, .string a, .string b, .int .i64 i, .string t] #[.int .i64 k, .string a, .string b, .int .i64 i, .string t] 28 28
  go_enter Tryd.func27, Tryd.ntmps27
  go_wp2
  go_ret
  exact ⟨rfl, hB⟩
theorem eqRec_same (r : RecM) (w : World) :
    Calls Tryd.prog 11 #[rv r, rv r] w fun e w' => e = .returned (.bool true) ∧ Below w.heap.size w w' := by
  have hnot : ∀ (x : Bool) (w : World), (Op.unary .not (.bool x)).run Tryd.prog w = .ok (.bool (!x)) w := fun _ _ => rfl
  have h1 : (r.txg != r.txg) = false := by simp
  have h2 : (r.seq != r.seq) = false := by simp
  obtain ⟨b1, b2, hsz, hB⟩ := box2 w #[.int .i64 r.txg, .int .i64 r.seq, .int .i64 r.kind, .string r.a, .string r.b, .int .i64 r.i, .string r.text] #[.int .i64 r.txg, .int .i64 r.seq, .int .i64 r.kind, .string r.a, .string r.b, .int .i64 r.i, .string r.text] 30 30
  have X1 := Lib.hid b1
  have X2 := Lib.hid b2
  have B0 := Lib.hid hB
  clear b1 b2 hsz hB
  go_enter Tryd.func11, Tryd.ntmps11
  go_wp2_with fail
  refine (eqOp_same r.kind r.i r.a r.b r.text _).mono ?_
  rintro e w1 ⟨rfl, hb⟩
  have B1 := Lib.hid (B0.out.trans (hb.mono B0.out.size))
  clear hb
  go_wp2
  go_ret
  exact ⟨rfl, B1.out⟩
set_option maxHeartbeats 1000000 in
theorem lawLogRead (t : ByteArray) (w : World) (h0 : t.size ≤ maxLen) (hv : LogVars w) :
    Calls Tryd.prog 4 #[.string t] w fun e w' => e = .returned (.bool true) ∧ Below w.heap.size w w' := by
  have hnot : ∀ (x : Bool) (w : World), (Op.unary .not (.bool x)).run Tryd.prog w = .ok (.bool (!x)) w := fun _ _ => rfl
  unfold maxLen at h0
  have HV := Lib.hid hv
  clear hv
  by_cases hl : 1048576 < t.size
  · go_enter Tryd.func4, Tryd.ntmps4
    go_wp2
    go_ret
    exact ⟨rfl, Below.refl _ _⟩
  · go_enter Tryd.func4, Tryd.ntmps4
    go_wp2_with fail
    refine (specLogRead_any t _ (by omega)).mono ?_
    rintro e w1 ⟨hb, h⟩
    have B1 := Lib.hid hb
    have HV1 := Lib.hid (HV.out.below hb)
    clear hb HV
    obtain ⟨r, ok, rfl, HS⟩ : ∃ r ok, e = .returned (.tuple #[rv r, .bool ok]) ∧ Hid ((ok = true ∧ LSpells t r) ∨ (ok = false ∧ r = noRec ∧ ∀ x, ¬ LSpells t x)) := by
      rcases h with ⟨r, hs, rfl⟩ | ⟨hn, rfl⟩
      · exact ⟨r, true, rfl, Lib.hid (Or.inl ⟨rfl, hs⟩)⟩
      · exact ⟨noRec, false, rfl, Lib.hid (Or.inr ⟨rfl, rfl, hn⟩)⟩
    clear h
    have X1 := Lib.hid (box_new w1 #[.int .i64 r.txg, .int .i64 r.seq, .int .i64 r.kind, .string r.a, .string r.b, .int .i64 r.i, .string r.text] 30)
    have hn1 := Below.new (w := w1) (.cells #[.int .i64 r.txg, .int .i64 r.seq, .int .i64 r.kind, .string r.a, .string r.b, .int .i64 r.i, .string r.text] 30)
    have HV1b := Lib.hid (HV1.out.below hn1)
    have B1b := Lib.hid (B1.out.trans (hn1.mono B1.out.size))
    clear hn1 B1 HV1
    go_wp2_with fail
    refine (implLogRead_any t _ (by omega) HV1b.out).mono ?_
    rintro e w2 ⟨hb, h⟩
    have X2 := Lib.hid (X1.out.below hb X1.out.lt)
    have B2 := Lib.hid (B1b.out.trans (hb.mono B1b.out.size))
    clear hb B1b HV1b X1
    obtain rfl : e = .returned (.tuple #[rv r, .bool ok]) := by
      rcases h with ⟨r', hs, rfl⟩ | ⟨hn, rfl⟩
      · rcases HS.out with ⟨rfl, hr⟩ | ⟨_, _, hno⟩
        · rw [lspells_one hs hr]
        · exact absurd hs (hno _)
      · rcases HS.out with ⟨_, hr⟩ | ⟨rfl, rfl, _⟩
        · exact absurd hr (hn _)
        · rfl
    clear h HS
    have hok : (ok != ok) = false := by cases ok <;> rfl
    have X3 := Lib.hid (X2.out.alloc (.cells #[.int .i64 r.txg, .int .i64 r.seq, .int .i64 r.kind, .string r.a, .string r.b, .int .i64 r.i, .string r.text] 30))
    have Y3 := Lib.hid (box_new w2 #[.int .i64 r.txg, .int .i64 r.seq, .int .i64 r.kind, .string r.a, .string r.b, .int .i64 r.i, .string r.text] 30)
    have B2b := Lib.hid (B2.out.alloc B2.out.size (.cells #[.int .i64 r.txg, .int .i64 r.seq, .int .i64 r.kind, .string r.a, .string r.b, .int .i64 r.i, .string r.text] 30))
    have hx2 := X2.out.lt
    clear X2 B2
    have x0 := X3.out.cell 0 rfl
    have y0 := Y3.out.cell 0 rfl
    have x1 := X3.out.cell 1 rfl
    have y1 := Y3.out.cell 1 rfl
    have x2 := X3.out.cell 2 rfl
    have y2 := Y3.out.cell 2 rfl
    have x3 := X3.out.cell 3 rfl
    have y3 := Y3.out.cell 3 rfl
    have x4 := X3.out.cell 4 rfl
    have y4 := Y3.out.cell 4 rfl
    have x5 := X3.out.cell 5 rfl
    have y5 := Y3.out.cell 5 rfl
    have x6 := X3.out.cell 6 rfl
    have y6 := Y3.out.cell 6 rfl
    go_wp2_with fail
    refine (eqRec_same r _).mono ?_
    rintro e w3 ⟨rfl, hb⟩
    have B3 := Lib.hid (B2b.out.trans (hb.mono B2b.out.size))
    clear hb B2b
    go_wp2
    go_ret
    exact ⟨rfl, B3.out⟩
end Go.Proofs.YtgjlhokakcdpbaaDoor

/-
  spec's LogFind.
-/
import Derived.Test.YtgjlhokakcdpbaaGreatDoorSFind
import Derived.Test.YtgjlhokakcdpbaaGreatDoorOpS
import Derived.Test.YtgjlhokakcdpbaaGreatDoorTexts
set_option maxRecDepth 100000
namespace Go.Proofs.YtgjlhokakcdpbaaGreatDoor
open Go.ChangeShapes Go.WideShapes Go.ChangeAt Go.RowKit Go.Proofs.Palim

theorem sl_op (w : World) (r : RecM) (e : Nat) : Sl (w.alloc (.cells #[.int .i64 r.kind, .string r.a, .string r.b, .int .i64 r.i, .string r.text] e)) 5 (.slice (some ⟨w.heap.size, 0, none⟩) 1 1) 1 (oc r) := by
  refine ⟨rfl, _, _, rfl, Nat.le_refl _, by unfold maxLen; omega, Or.inr ⟨w.heap.size, 0, rfl, fun j u hu => ?_⟩⟩
  have := (box_new w #[.int .i64 r.kind, .string r.a, .string r.b, .int .i64 r.i, .string r.text] e).cell j hu
  rwa [Nat.zero_add]
theorem oc_one (r : RecM) : ∀ u ∈ oc r, u.oneCell' = true := by
  intro u hu
  simp only [oc, List.mem_cons, List.not_mem_nil, or_false] at hu
  rcases hu with rfl | rfl | rfl | rfl | rfl <;> rfl
/-- A new list of what a log holds. -/
def NewOps (d : DiskM) (t : Int) (w : World) (e : Ending) (w' : World) : Prop :=
  ∃ v ls, FoundM d t ls ∧ e = .returned v ∧ w'.ownsRow w.heap.size 24 5 v ls.length (ocs ls) ∧ Below w.heap.size w w'
set_option maxHeartbeats 4000000 in
theorem specLFind_any (v0 v1 vl : Value) (d : DiskM) (t : Int) (w : World) (h : DiskR w v0 v1 vl d) (hs : DiskShort d) :
    Calls Tryz.prog 30 #[.agg #[v0, v1, vl], .int .i64 t] w (NewOps d t w) := by
  have hnot : ∀ (x : Bool) (w : World), (Op.unary .not (.bool x)).run Tryz.prog w = .ok (.bool (!x)) w := fun _ _ => rfl
  obtain ⟨i0, hi, hz0, hz1, hz2⟩ := info_parts infoOp
  have HS := Lib.hid hs
  obtain ⟨b1, b2, hsz, hB⟩ := box2 w #[v0, v1, vl] #[] 36 24
  have XD := Lib.hid b1
  have B := Lib.hid hB
  have HD := Lib.hid h
  have HO := Lib.hid (show ((w.alloc (.cells #[v0, v1, vl] 36)).alloc (.cells #[] 24)).ownsRow (w.heap.size + 1) 24 5 (.slice (some ⟨w.heap.size + 1, 0, none⟩) 0 0) 0 (ocs []) from by
    have := own_empty (base := w.heap.size + 1) (sz := 5) (At.new (w := w.alloc (.cells #[v0, v1, vl] 36)) (e := 24) rfl) (by simp)
    rwa [World.size_alloc] at this)
  clear b1 b2 hsz hB h hs
  go_enter Tryz.func30, Tryz.ntmps30
  go_wp2_with fail
  go_loopw [5, 6, 7, 8] (fun o i _ _ wr => ∃ (k : Nat) (A : Option Addr) (c : Nat) (ls : List RecM), k ≤ 8 ∧ o = .slice A k c ∧ i = .int .i64 (k : Int) ∧ Hid (ls.length = k) ∧ Hid (LeadM d t ls) ∧ Hid (wr.ownsRow (w.heap.size + 1) 24 5 (.slice A k c) k (ocs ls)) ∧ Hid (Below w.heap.size w wr) ∧ Hid (Box wr w.heap.size [v0, v1, vl])) (fun _ i _ _ _ => 8 - (intOf i).toNat)
  case atStart => exact ⟨0, _, 0, [], Nat.zero_le _, rfl, rfl, Lib.hid rfl, Lib.hid (fun j hj => absurd hj (Nat.not_lt_zero _)), HO, B, XD⟩
  case round =>
    clear B XD HO
    obtain ⟨k, A, c, ls, hk, rfl, rfl, HL, HLD, HO, B, XD⟩ := hrel
    by_cases hlt : k < 8
    case pos =>
      have hk2 : (k : Int) < 8 := by omega
      have ek : IntKind.i64.wrap ((k : Int) + 1) = (k : Int) + 1 := IntWalk.i64_in _ (by omega)
      obtain ⟨d0, d1, d2⟩ := XD.out.three
      go_wp2_with fail
      refine (l9Rec_any v0 v1 vl d t k _ (HD.out.below B.out) HS.out hlt).mono ?_
      rintro e w3 ⟨hb, o, ho, rfl⟩
      have B3 := Lib.hid (B.out.trans (hb.mono B.out.size))
      have XD3 := Lib.hid (XD.out.below hb XD.out.lt)
      have HO3 := Lib.hid (own_kept HO.out (w' := w3) (fun b e => hb.block b (HO.out.lt b e).2))
      have hw3 : w.heap.size ≤ w3.heap.size := B3.out.size
      clear hb B XD HO d0 d1 d2
      cases o with
      | none =>
        have HF := Lib.hid (show FoundM d t ls from ⟨by have := HL.out; omega, HLD.out, fun _ => by rw [HL.out]; exact ho⟩)
        have HLk := Lib.hid (show w3.ownsRow (w.heap.size + 1) 24 5 (.slice A k c) ls.length (ocs ls) from by rw [HL.out]; exact HO3.out)
        have B4 := Lib.hid (B3.out.alloc hw3 (.cells #[.int .i64 0, .string ⟨#[]⟩, .string ⟨#[]⟩, .int .i64 0, .string ⟨#[]⟩] 24))
        have HL4 := Lib.hid (own_kept HLk.out (w' := w3.alloc (.cells #[.int .i64 0, .string ⟨#[]⟩, .string ⟨#[]⟩, .int .i64 0, .string ⟨#[]⟩] 24)) (fun b e => Below.heap_alloc _ _ b (HLk.out.lt b e).2))
        clear ho HO3 HLk
        simp only [recV]
        go_wp2
        go_ret
        exact ⟨_, ls, HF.out, rfl, own_base HL4.out (Nat.le_succ _), B4.out⟩
      | some r =>
        have HLN := Lib.hid (show LeadM d t (ls ++ [r]) from lead_snoc HLD.out (by rw [HL.out]; exact ho))
        have Y4 := Lib.hid ((box_new w3 #[.int .i64 r.kind, .string r.a, .string r.b, .int .i64 r.i, .string r.text] 24))
        have B4 := Lib.hid (B3.out.alloc hw3 (.cells #[.int .i64 r.kind, .string r.a, .string r.b, .int .i64 r.i, .string r.text] 24))
        have XD4 := Lib.hid (XD3.out.alloc (.cells #[.int .i64 r.kind, .string r.a, .string r.b, .int .i64 r.i, .string r.text] 24))
        have HO4 := Lib.hid (own_kept HO3.out (w' := w3.alloc (.cells #[.int .i64 r.kind, .string r.a, .string r.b, .int .i64 r.i, .string r.text] 24)) (fun b e => Below.heap_alloc _ _ b (HO3.out.lt b e).2))
        have z0 := Y4.out.cell 0 rfl
        have z1 := Y4.out.cell 1 rfl
        have z2 := Y4.out.cell 2 rfl
        have z3 := Y4.out.cell 3 rfl
        have z4 := Y4.out.cell 4 rfl
        have hw4 : (w3.alloc (.cells #[.int .i64 r.kind, .string r.a, .string r.b, .int .i64 r.i, .string r.text] 24)).heap.size = w3.heap.size + 1 := by simp
        have HS5 := sl_op (w3.alloc (.cells #[.int .i64 r.kind, .string r.a, .string r.b, .int .i64 r.i, .string r.text] 24)) r 24
        rw [hw4] at HS5
        have HSL := Lib.hid HS5
        have HO5 := Lib.hid (own_kept HO4.out (w' := (w3.alloc (.cells #[.int .i64 r.kind, .string r.a, .string r.b, .int .i64 r.i, .string r.text] 24)).alloc (.cells #[.int .i64 r.kind, .string r.a, .string r.b, .int .i64 r.i, .string r.text] 24)) (fun b e => Below.heap_alloc _ _ b (HO4.out.lt b e).2))
        have B5 := Lib.hid (B4.out.alloc B4.out.size (.cells #[.int .i64 r.kind, .string r.a, .string r.b, .int .i64 r.i, .string r.text] 24))
        have XD5 := Lib.hid (XD4.out.alloc (.cells #[.int .i64 r.kind, .string r.a, .string r.b, .int .i64 r.i, .string r.text] 24))
        clear ho HO3 HO4 B3 XD3 B4 XD4 HS5 hw4
        simp only [recV, oc]
        go_wp2_with (first | (at_builtin; refine wpList_append_freshB _ rfl _ _ 71 rfl (w.heap.size + 1) 24 i0 _ 5 64 Tryz.underlying71 hi hz0 hz1 hz2 rfl (by omega) (.slice A k c) k _ rfl HO5.out (.slice (some ⟨w3.heap.size + 1, 0, none⟩) 1 1) 1 (oc r) rfl HSL.out (oc_one r) (by unfold maxLen; omega) (by omega) (by simp; omega) ?_))
        intro A3 cap3 w6 hown3 hg3 _
        have B6 := Lib.hid (show Below w.heap.size w w6 from B5.out.grown hg3 (by simp; omega) (fun b e => by have := (HO5.out.lt b e).1; omega))
        have XD6 := Lib.hid (show Box w6 w.heap.size [v0, v1, vl] from XD5.out.kept (hg3.block _ XD5.out.lt (fun e => by have := (HO5.out.lt _ e.symm).1; omega)))
        have HO6 := Lib.hid (show w6.ownsRow (w.heap.size + 1) 24 5 (.slice A3 (k + 1) cap3) (k + 1) (ocs (ls ++ [r])) from by rw [ocs_snoc]; exact hown3)
        clear hown3 hg3 HO5 HSL B5 XD5
        go_wp2
        go_roundw
        case rel => exact ⟨k + 1, A3, cap3, ls ++ [r], by omega, rfl, by go_num, Lib.hid (by simp [HL.out]), HLN, HO6, B6, XD6⟩
        case measure => simp [intOf]; omega
    case neg =>
      have hk2 : ¬ (k : Int) < 8 := by omega
      have HF := Lib.hid (show FoundM d t ls from ⟨by have := HL.out; omega, HLD.out, fun h => by have := HL.out; omega⟩)
      have HLk := Lib.hid (show wr.ownsRow (w.heap.size + 1) 24 5 (.slice A k c) ls.length (ocs ls) from by rw [HL.out]; exact HO.out)
      go_wp2
      go_ret
      exact ⟨_, ls, HF.out, rfl, own_base HLk.out (Nat.le_succ _), B.out⟩
end Go.Proofs.YtgjlhokakcdpbaaGreatDoor

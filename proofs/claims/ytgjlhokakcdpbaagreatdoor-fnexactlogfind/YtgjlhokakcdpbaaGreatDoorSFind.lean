/-
  spec's l9Rec: the record of a slot.
-/
import Derived.Test.YtgjlhokakcdpbaaGreatDoorFindM
import Derived.Test.YtgjlhokakcdpbaaGreatDoorSLogR
import Derived.Test.YtgjlhokakcdpbaaGreatDoorRdOut
set_option maxRecDepth 100000
namespace Go.Proofs.YtgjlhokakcdpbaaGreatDoor
open Go.ChangeShapes Go.WideShapes Go.ChangeAt Go.RowKit Go.Proofs.Palim

/-- What the reading of a slot answers. -/
def recV : Option RecM → Value
  | some r => .tuple #[.agg (oc r).toArray, .bool true]
  | none => .tuple #[.agg #[.int .i64 0, .string ⟨#[]⟩, .string ⟨#[]⟩, .int .i64 0, .string ⟨#[]⟩], .bool false]
def recL : Option RecM → Value
  | some r => .tuple #[rv r, .bool true]
  | none => .tuple #[rv noRec, .bool false]

set_option maxHeartbeats 4000000 in
theorem l9Rec_any (v0 v1 vl : Value) (d : DiskM) (t : Int) (q : Nat) (w : World) (h : DiskR w v0 v1 vl d) (hs : DiskShort d) (hq : q < 8) :
    Calls Tryz.prog 97 #[.agg #[v0, v1, vl], .int .i64 t, .int .i64 (q : Int)] w fun e w' => Below w.heap.size w w' ∧ ∃ o, SlotM d t q o ∧ e = .returned (recV o) := by
  have hnot : ∀ (x : Bool) (w : World), (Op.unary .not (.bool x)).run Tryz.prog w = .ok (.bool (!x)) w := fun _ _ => rfl
  have e5 : IntKind.i64.wrap (5 + (q : Int)) = 5 + (q : Int) := IntWalk.i64_in _ (by omega)
  have HS := Lib.hid hs
  obtain ⟨b1, b2, hsz, hB⟩ := box2 w #[v0, v1, vl] #[.int .i64 0, .string ⟨#[]⟩, .string ⟨#[]⟩, .int .i64 0, .string ⟨#[]⟩] 36 24
  have XD := Lib.hid b1
  have XR := Lib.hid b2
  have B := Lib.hid hB
  have HD := Lib.hid h
  clear b1 b2 hsz hB h hs
  go_enter Tryz.func97, Tryz.ntmps97
  go_wp2_with fail
  go_loopw [8, 9, 10, 11, 12] (fun sd _ _ _ _ wr => ∃ k : Nat, k ≤ 2 ∧ sd = .int .i64 (k : Int) ∧ Hid (Below w.heap.size w wr) ∧ Hid (Box wr w.heap.size [v0, v1, vl]) ∧ Hid (Box wr (w.heap.size + 1) [.int .i64 0, .string ⟨#[]⟩, .string ⟨#[]⟩, .int .i64 0, .string ⟨#[]⟩]) ∧ Hid (∀ j : Nat, j < k → ∀ x, ¬ HitM d (j : Int) t q x)) (fun sd _ _ _ _ _ => 2 - (intOf sd).toNat)
  case atStart => exact ⟨0, Nat.zero_le _, rfl, B, XD, XR, Lib.hid (fun _ h => absurd h (Nat.not_lt_zero _))⟩
  case round =>
    clear B XD XR
    obtain ⟨k, hk, rfl, B, XD, XR, HNO⟩ := hrel
    by_cases hlt : k < 2
    case pos =>
      have hk2 : (k : Int) < 2 := by omega
      have ek : IntKind.i64.wrap ((k : Int) + 1) = (k : Int) + 1 := IntWalk.i64_in _ (by omega)
      obtain ⟨d0, d1, d2⟩ := XD.out.three
      go_wp2_with fail
      refine (DiskRead_any _ _ _ d (k : Int) (5 + (q : Int)) _ (HD.out.below B.out) HS.out).mono ?_
      rintro e w4 ⟨rfl, hb⟩
      have B4 := Lib.hid (B.out.trans (hb.mono B.out.size))
      have XD4 := Lib.hid (XD.out.below hb XD.out.lt)
      have XR4 := Lib.hid (XR.out.below hb XR.out.lt)
      clear hb B XD XR d0 d1 d2
      obtain ⟨tx, HTX⟩ : ∃ tx, Hid (readOut d (k : Int) (5 + (q : Int)) = tx) := ⟨_, Lib.hid rfl⟩
      have htx : tx.size ≤ 420 := by rw [← HTX.out]; exact readOut_le _ _ _
      rw [HTX.out]
      go_wp2_with fail
      refine (specLogRead_any tx _ (by omega)).mono ?_
      rintro e w5 ⟨hb, h⟩
      have B5 := Lib.hid (B4.out.trans (hb.mono B4.out.size))
      have XD5 := Lib.hid (XD4.out.below hb XD4.out.lt)
      have XR5 := Lib.hid (XR4.out.below hb XR4.out.lt)
      clear hb B4 XD4 XR4
      rcases h with ⟨r, hsp, rfl⟩ | ⟨hno, rfl⟩
      · have HSP := Lib.hid hsp
        clear hsp
        have hn6 := Below.new (w := w5) (.cells #[.int .i64 r.txg, .int .i64 r.seq, .int .i64 r.kind, .string r.a, .string r.b, .int .i64 r.i, .string r.text] 26)
        have Y6 := Lib.hid (box_new w5 #[.int .i64 r.txg, .int .i64 r.seq, .int .i64 r.kind, .string r.a, .string r.b, .int .i64 r.i, .string r.text] 26)
        have B6 := Lib.hid (B5.out.trans (hn6.mono B5.out.size))
        have XD6 := Lib.hid (XD5.out.below hn6 XD5.out.lt)
        have XR6 := Lib.hid (XR5.out.below hn6 XR5.out.lt)
        clear hn6 B5 XD5 XR5
        have z0 := Y6.out.cell 0 rfl
        have z1 := Y6.out.cell 1 rfl
        by_cases ht : r.txg = t
        · have htq : (r.txg == t) = true := by simp [ht]
          by_cases hsq : r.seq = (q : Int)
          · have hsqq : (r.seq == (q : Int)) = true := by simp [hsq]
            have HH := Lib.hid (show SlotM d t q (some r) from by
              have hit : HitM d (k : Int) t q r := ⟨by rw [HTX.out]; exact HSP.out, ht, hsq⟩
              rcases (show k = 0 ∨ k = 1 by omega) with rfl | rfl
              · exact Or.inl hit
              · exact Or.inr ⟨fun x hx => HNO.out 0 (by omega) x hx, hit⟩)
            clear ht hsq
            have z2 := Y6.out.cell 2 rfl
            have z3 := Y6.out.cell 3 rfl
            have z4 := Y6.out.cell 4 rfl
            have z5 := Y6.out.cell 5 rfl
            have z6 := Y6.out.cell 6 rfl
            have c0 := XR6.out.cell 0 rfl
            have c1 := XR6.out.cell 1 rfl
            have c2 := XR6.out.cell 2 rfl
            have c3 := XR6.out.cell 3 rfl
            have c4 := XR6.out.cell 4 rfl
            have f0 := XR6.out.open_ 0
            have f1 := XR6.out.open_ 1
            have f2 := XR6.out.open_ 2
            have f3 := XR6.out.open_ 3
            have f4 := XR6.out.open_ 4
            have XE := Lib.hid (show Box _ (w.heap.size + 1) [.int .i64 r.kind, .string r.a, .string r.b, .int .i64 r.i, .string r.text] from (((((XR6.out.set 0 (.int .i64 r.kind)).set 1 (.string r.a)).set 2 (.string r.b)).set 3 (.int .i64 r.i)).set 4 (.string r.text)))
            have BE := Lib.hid (((((B6.out.setCell (p := ⟨(w.heap.size + 1), 0, none⟩) (Nat.le_succ _) (.int .i64 r.kind)).setCell (p := ⟨(w.heap.size + 1), 1, none⟩) (Nat.le_succ _) (.string r.a)).setCell (p := ⟨(w.heap.size + 1), 2, none⟩) (Nat.le_succ _) (.string r.b)).setCell (p := ⟨(w.heap.size + 1), 3, none⟩) (Nat.le_succ _) (.int .i64 r.i)).setCell (p := ⟨(w.heap.size + 1), 4, none⟩) (Nat.le_succ _) (.string r.text))
            go_wp2
            have y0 := XE.out.cell 0 rfl
            have y1 := XE.out.cell 1 rfl
            have y2 := XE.out.cell 2 rfl
            have y3 := XE.out.cell 3 rfl
            have y4 := XE.out.cell 4 rfl
            refine bodyPost_ret (v := .tuple #[.agg (oc r).toArray, .bool true]) ?_ rfl ⟨BE.out, some r, HH.out, rfl⟩
            simp [results, Tryz.results97, go_sem, y0, y1, y2, y3, y4, oc]
          · have hsqq : (r.seq == (q : Int)) = false := by simpa using hsq
            have HN2 := Lib.hid (show ∀ j : Nat, j < k + 1 → ∀ x, ¬ HitM d (j : Int) t q x from fun j hj x hx => by
              by_cases e : j < k
              · exact HNO.out j e x hx
              · obtain rfl : j = k := by omega
                have h1 := hx.1
                rw [HTX.out] at h1
                have h2 := lspells_one h1 HSP.out
                subst h2
                exact hsq hx.2.2)
            clear ht hsq
            go_wp2
            go_roundw
            case rel => exact ⟨k + 1, by omega, by go_num, B6, XD6, XR6, HN2⟩
            case measure => simp [intOf]; omega
        · have htq : (r.txg == t) = false := by simpa using ht
          have HN2 := Lib.hid (show ∀ j : Nat, j < k + 1 → ∀ x, ¬ HitM d (j : Int) t q x from fun j hj x hx => by
            by_cases e : j < k
            · exact HNO.out j e x hx
            · obtain rfl : j = k := by omega
              have h1 := hx.1
              rw [HTX.out] at h1
              have h2 := lspells_one h1 HSP.out
              subst h2
              exact ht hx.2.1)
          clear ht
          go_wp2
          go_roundw
          case rel => exact ⟨k + 1, by omega, by go_num, B6, XD6, XR6, HN2⟩
          case measure => simp [intOf]; omega
      · have HN2 := Lib.hid (show ∀ j : Nat, j < k + 1 → ∀ x, ¬ HitM d (j : Int) t q x from fun j hj x hx => by
          by_cases e : j < k
          · exact HNO.out j e x hx
          · obtain rfl : j = k := by omega
            have h1 := hx.1
            rw [HTX.out] at h1
            exact hno x h1)
        clear hno
        have hn6 := Below.new (w := w5) (.cells #[.int .i64 0, .int .i64 0, .int .i64 0, .string ⟨#[]⟩, .string ⟨#[]⟩, .int .i64 0, .string ⟨#[]⟩] 26)
        have B6 := Lib.hid (B5.out.trans (hn6.mono B5.out.size))
        have XD6 := Lib.hid (XD5.out.below hn6 XD5.out.lt)
        have XR6 := Lib.hid (XR5.out.below hn6 XR5.out.lt)
        clear hn6 B5 XD5 XR5
        go_wp2
        go_roundw
        case rel => exact ⟨k + 1, by omega, by go_num, B6, XD6, XR6, HN2⟩
        case measure => simp [intOf]; omega
    case neg =>
      have hk2 : ¬ (k : Int) < 2 := by omega
      have HE := Lib.hid (show SlotM d t q none from ⟨fun x hx => HNO.out 0 (by omega) x hx, fun x hx => HNO.out 1 (by omega) x hx⟩)
      have c0 := XR.out.cell 0 rfl
      have c1 := XR.out.cell 1 rfl
      have c2 := XR.out.cell 2 rfl
      have c3 := XR.out.cell 3 rfl
      have c4 := XR.out.cell 4 rfl
      have f0 := XR.out.open_ 0
      have f1 := XR.out.open_ 1
      have f2 := XR.out.open_ 2
      have f3 := XR.out.open_ 3
      have f4 := XR.out.open_ 4
      have XE := Lib.hid (show Box _ (w.heap.size + 1) [.int .i64 0, .string ⟨#[]⟩, .string ⟨#[]⟩, .int .i64 0, .string ⟨#[]⟩] from (((((XR.out.set 0 (.int .i64 0)).set 1 (.string ⟨#[]⟩)).set 2 (.string ⟨#[]⟩)).set 3 (.int .i64 0)).set 4 (.string ⟨#[]⟩)))
      have BE := Lib.hid (((((B.out.setCell (p := ⟨(w.heap.size + 1), 0, none⟩) (Nat.le_succ _) (.int .i64 0)).setCell (p := ⟨(w.heap.size + 1), 1, none⟩) (Nat.le_succ _) (.string ⟨#[]⟩)).setCell (p := ⟨(w.heap.size + 1), 2, none⟩) (Nat.le_succ _) (.string ⟨#[]⟩)).setCell (p := ⟨(w.heap.size + 1), 3, none⟩) (Nat.le_succ _) (.int .i64 0)).setCell (p := ⟨(w.heap.size + 1), 4, none⟩) (Nat.le_succ _) (.string ⟨#[]⟩))
      go_wp2
      have y0 := XE.out.cell 0 rfl
      have y1 := XE.out.cell 1 rfl
      have y2 := XE.out.cell 2 rfl
      have y3 := XE.out.cell 3 rfl
      have y4 := XE.out.cell 4 rfl
      refine bodyPost_ret (v := .tuple #[.agg #[.int .i64 0, .string ⟨#[]⟩, .string ⟨#[]⟩, .int .i64 0, .string ⟨#[]⟩], .bool false]) ?_ rfl ⟨BE.out, none, HE.out, rfl⟩
      simp [results, Tryz.results97, go_sem, y0, y1, y2, y3, y4]
end Go.Proofs.YtgjlhokakcdpbaaGreatDoor

/-
  spec's DiskRead.
-/
import Derived.Test.YtoeaeckkmpdpiaaDoorDiskRead
import Derived.Test.YtoeaeckkmpdpiaaDoorDiskLaw
namespace Go.Proofs.YtoeaeckkmpdpiaaDoor
open Go.ChangeShapes Go.WideShapes Go.ChangeAt Go.RowKit Go.Proofs.Palim

def CanRead (d : DiskM) (side at_ : Int) : Prop := DiskOkM d ∧ There d.s0.length side at_ 0
instance (d : DiskM) (side at_ : Int) : Decidable (CanRead d side at_) := by unfold CanRead; infer_instance
def readOut (d : DiskM) (side at_ : Int) : ByteArray := if CanRead d side at_ then readM d side at_ else ⟨#[]⟩

theorem DiskOk_is (v0 v1 vl : Value) (d : DiskM) (w : World) (h : DiskR w v0 v1 vl d) (hs : DiskShort d) (r : Bool) (hr : decide (DiskOkM d) = r) :
    Calls Tryd.prog 90 #[.agg #[v0, v1, vl]] w fun e w' => e = .returned (.bool r) ∧ Below w.heap.size w w' := hr ▸ DiskOk_any v0 v1 vl d w h hs
theorem ret_two {a b : ByteArray} {x y : Bool} (h : a = b) (h2 : x = y) : Ending.returned (.tuple #[.string a, .bool x]) = Ending.returned (.tuple #[.string b, .bool y]) := by rw [h, h2]

set_option maxHeartbeats 1000000 in
theorem DiskRead_any (v0 v1 vl : Value) (d : DiskM) (side at_ : Int) (w : World) (h : DiskR w v0 v1 vl d) (hs : DiskShort d) :
    Calls Tryd.prog 78 #[.agg #[v0, v1, vl], .int .i64 side, .int .i64 at_] w fun e w' => e = .returned (.tuple #[.string (readOut d side at_), .bool (decide (CanRead d side at_))]) ∧ Below w.heap.size w w' := by
  have hnot : ∀ (x : Bool) (w : World), (Op.unary .not (.bool x)).run Tryd.prog w = .ok (.bool (!x)) w := fun _ _ => rfl
  obtain ⟨_, A0, c0, rfl, _⟩ := h.r0
  have XD := Lib.hid (boxed_new h 39)
  have B0 := Lib.hid (Below.new (w := w) (.cells #[.slice A0 d.s0.length c0, v1, vl] 39))
  have HS := Lib.hid hs
  clear h hs
  have hzero : (⟨#[]⟩ : ByteArray).size ≤ maxLen := Nat.zero_le _
  by_cases hok : DiskOkM d
  · by_cases hth : There d.s0.length side at_ 0
    · have HC := Lib.hid (show CanRead d side at_ from ⟨hok, hth⟩)
      have HK := Lib.hid hok
      have HT := Lib.hid hth
      have hok' := Lib.hid (decide_eq_true hok)
      have hth' := Lib.hid (show decide (There d.s0.length side at_ (⟨#[]⟩ : ByteArray).size) = true from decide_eq_true hth)
      clear hok hth
      go_enter Tryd.func78, Tryd.ntmps78
      go_wp2_with fail
      refine (DiskOk_is _ _ _ d _ XD.out.reads HS.out true hok'.out).mono ?_
      rintro e w1 ⟨rfl, hb⟩
      have XD1 := Lib.hid (XD.out.below hb)
      have B1 := Lib.hid (B0.out.trans (hb.mono B0.out.size))
      clear hb XD B0
      obtain ⟨x0, x1, x2⟩ := XD1.out.box.three
      go_wp2_with fail
      refine (l2There_is v1 vl A0 _ c0 side at_ ⟨#[]⟩ _ hzero true hth'.out).mono ?_
      rintro e w2 ⟨rfl, hb⟩
      have XD2 := Lib.hid (XD1.out.below hb)
      have B2 := Lib.hid (B1.out.trans (hb.mono B1.out.size))
      clear hb XD1 B1 x0 x1 x2
      obtain ⟨x0, x1, x2⟩ := XD2.out.box.three
      go_wp2_with fail
      refine (l2Read_any _ _ _ d side at_ _ XD2.out.reads HS.out (by have := HT.out; unfold There at this; omega) (by have := HT.out; unfold There at this; omega) (by have := HT.out; unfold There at this; omega) HK.out.2.2.1).mono ?_
      rintro e w3 ⟨rfl, hb⟩
      have B3 := Lib.hid (B2.out.trans (hb.mono B2.out.size))
      clear hb XD2 B2 x0 x1 x2
      go_wp2
      go_ret2
      exact ⟨ret_two (show readM d side at_ = readOut d side at_ from (if_pos HC.out).symm) (decide_eq_true HC.out).symm, B3.out⟩
    · have HC := Lib.hid (show ¬ CanRead d side at_ from fun h => hth h.2)
      have hok' := Lib.hid (decide_eq_true hok)
      have hth' := Lib.hid (show decide (There d.s0.length side at_ (⟨#[]⟩ : ByteArray).size) = false from decide_eq_false hth)
      clear hok hth
      go_enter Tryd.func78, Tryd.ntmps78
      go_wp2_with fail
      refine (DiskOk_is _ _ _ d _ XD.out.reads HS.out true hok'.out).mono ?_
      rintro e w1 ⟨rfl, hb⟩
      have XD1 := Lib.hid (XD.out.below hb)
      have B1 := Lib.hid (B0.out.trans (hb.mono B0.out.size))
      clear hb XD B0
      obtain ⟨x0, x1, x2⟩ := XD1.out.box.three
      go_wp2_with fail
      refine (l2There_is v1 vl A0 _ c0 side at_ ⟨#[]⟩ _ hzero false hth'.out).mono ?_
      rintro e w2 ⟨rfl, hb⟩
      have B2 := Lib.hid (B1.out.trans (hb.mono B1.out.size))
      clear hb XD1 B1 x0 x1 x2
      go_wp2
      go_ret2
      exact ⟨ret_two (show (⟨#[]⟩ : ByteArray) = readOut d side at_ from (if_neg HC.out).symm) (decide_eq_false HC.out).symm, B2.out⟩
  · have HC := Lib.hid (show ¬ CanRead d side at_ from fun h => hok h.1)
    have hok' := Lib.hid (decide_eq_false hok)
    clear hok
    go_enter Tryd.func78, Tryd.ntmps78
    go_wp2_with fail
    refine (DiskOk_is _ _ _ d _ XD.out.reads HS.out false hok'.out).mono ?_
    rintro e w1 ⟨rfl, hb⟩
    have B1 := Lib.hid (B0.out.trans (hb.mono B0.out.size))
    clear hb XD B0
    go_wp2
    go_ret2
    exact ⟨ret_two (show (⟨#[]⟩ : ByteArray) = readOut d side at_ from (if_neg HC.out).symm) (decide_eq_false HC.out).symm, B1.out⟩
end Go.Proofs.YtoeaeckkmpdpiaaDoor

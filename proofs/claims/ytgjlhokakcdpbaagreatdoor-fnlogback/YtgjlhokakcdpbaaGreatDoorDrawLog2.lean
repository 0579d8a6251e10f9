/-
  A drawn text of a record, one in two torn.
-/
import Derived.Test.YtgjlhokakcdpbaaGreatDoorDrawLog
import Derived.Test.YtgjlhokakcdpbaaGreatDoorSLog
import Derived.Deep.RegionHeld3
set_option maxRecDepth 100000
namespace Go.Proofs.YtgjlhokakcdpbaaGreatDoor
open Go.ChangeShapes Go.WideShapes Go.ChangeAt Go.RowKit Go.Proofs.Palim

theorem logText_size (r : RecM) : (logText r).size ≤ 200 := by
  by_cases h : RecOk r
  · have hs := (logB_size h).2
    rw [log_of_ok h]
    unfold sealB
    rw [if_neg (by omega)]
    have hb := sumOf_bd (logB r)
    have l := Lib.itoa_length_le (sumOf (logB r)) (by omega) (by omega)
    show (Lib.itoa (sumOf (logB r)) ++ 58 :: (logB r).data.toList).toArray.size ≤ 200
    have e : (logB r).data.toList.length = (logB r).size := Array.length_toList
    rw [List.size_toArray, List.length_append, List.length_cons, e]
    omega
  · rw [log_of_no h]; exact Nat.zero_le _
def tornBits : List ByteArray := [⟨#[]⟩, ⟨#[48]⟩, ⟨#[45]⟩, ⟨#[32]⟩, ⟨#[46]⟩, ⟨#[10]⟩, ⟨#[49]⟩, ⟨#[97]⟩]
theorem tornBits_size : ∀ s ∈ tornBits, s.size ≤ 1 := by decide
theorem extract_leL (s : ByteArray) (a b : Nat) : (s.extract a b).size ≤ s.size := by rw [ByteArray.size_extract]; omega
theorem grownR_drew {a b : World} {g : Nat} (h : a.grownBy b (some g)) (n : Nat) : a.grownBy (b.drewN n) (some g) := ⟨h.os, h.tape, h.output, h.size, h.block⟩
theorem grownR_like {a b b' : World} {g : Nat} (h : a.grownBy b (some g)) (hos : b'.os = b.os) (ht : b'.tape = b.tape) (ho : b'.output = b.output) (hh : b'.heap = b.heap) : a.grownBy b' (some g) :=
  ⟨hos.trans h.os, ht.trans h.tape, ho.trans h.output, by rw [hh]; exact h.size, fun i hi hne => by rw [hh]; exact h.block i hi hne⟩
set_option maxHeartbeats 2000000 in
theorem l8Torn_any (g k0 : Nat) (u : ByteArray) (w : World) (hr : Rd w g k0) (hk : k0 ≤ 800000) (hu : u.size ≤ 200) :
    Calls Tryz.prog 46 #[.pointer (some ⟨g, 0, none⟩), .string u] w fun e w' => ∃ t : ByteArray, t.size ≤ 500 ∧ e = .returned (.string t) ∧ w.grownBy w' (some g) := by
  have HR := Lib.hid hr
  have hlt := hr.lt
  clear hr
  by_cases h0 : u.size = 0
  · have h0i : ((u.size : Int) == 0) = true := by simp [h0]
    go_enter Tryz.func46, Tryz.ntmps46
    go_wp2
    go_ret
    exact ⟨u, by omega, rfl, World.grownBy.refl w (some g)⟩
  have h0i : ((u.size : Int) == 0) = false := beq_eq_false_iff_ne.2 (by omega)
  go_enter Tryz.func46, Tryz.ntmps46
  go_wp2_with fail
  refine (pickO g k0 2 _ HR.out (by omega) (by omega) (by omega)).mono ?_
  rintro e w4 ⟨r4, hr4, rfl, hg4, hrd4⟩
  have HR4 := Lib.hid hrd4
  have HG4 := Lib.hid hg4
  clear hrd4 hg4 HR
  by_cases h1 : r4 = 0
  · subst h1
    go_wp2
    go_ret
    exact ⟨u, by omega, rfl, HG4.out⟩
  have h1i : ((r4 : Int) == 0) = false := beq_eq_false_iff_ne.2 (by omega)
  go_wp2_with fail
  refine (pickO g (k0 + 1) u.size _ HR4.out (by omega) (by omega) (by omega)).mono ?_
  rintro e w5 ⟨k, hk5, rfl, hg5, hrd5⟩
  have HR5 := Lib.hid hrd5
  have HG5 := Lib.hid (grownR_trans HG4.out hg5)
  have hg5l := HR5.out.lt
  clear hrd5 hg5 HR4 HG4 h1 h1i hr4
  have hk1 : (k : Int) ≤ (u.size : Int) := by omega
  have hk0 : (0 : Int) ≤ (k : Int) := Int.natCast_nonneg _
  obtain ⟨p, hp⟩ : ∃ p, u.extract 0 k = p := ⟨_, rfl⟩
  have hps : p.size ≤ 200 := by rw [← hp]; exact Nat.le_trans (extract_leL u 0 k) hu
  go_wp2_with fail
  go_region_held3 (fun _ => True)
    (exact trivial)
    (first
      | (go_at_call 105; ((refine (of_any _ (k0 + 1 + 1) w5.heap.size 8 tornBits 9 (0, 0) _ (by exact HR5.out.alloc _) (by omega) (by exact heap_alloc_new w5 _) (by have := HR5.out.lt; omega) rfl (by omega) (by omega)).mono ?_); rintro e w6 ⟨x, q6, hx, rfl, rfl⟩; have hx1 := tornBits_size x hx; have hx2 : ¬ 9223372036854775807 < p.size + x.size := by omega))
      | (go_at_call 101; ((refine (pick_any _ (k0 + 1 + 1 + 1) 2 _ (by first | exact (HR5.out.alloc _).next _ | exact ((HR5.out.next 0).alloc _).kept (fun _ _ => rfl)) (by omega) (by omega)).mono ?_); rintro e w7 ⟨j, q7, hj, rfl, rfl⟩; have hj1 : j < 2 := (by omega); have hj2 : IntKind.i64.wrap ((k : Int) + (j : Int)) = (k : Int) + (j : Int) := IntWalk.i64_in _ (by omega); have hj3 : (0 : Int) ≤ (k : Int) + (j : Int) := (by omega); have hj4 : (k : Int) + (j : Int) ≤ (u.size : Int) := (by omega); have hj5 : ((k : Int) + (j : Int)).toNat = k + j := (by omega); obtain ⟨p2, hp2⟩ : ∃ p2, u.extract (k + j) u.size = p2 := ⟨_, rfl⟩; have hps2 : p2.size ≤ 200 := (by rw [← hp2]; exact Nat.le_trans (extract_leL u _ _) hu); have hx3 : ¬ 9223372036854775807 < p.size + x.size + p2.size := (by omega))))
  have hsz3 : (p ++ x ++ p2).size ≤ 500 := by rw [ByteArray.size_append, ByteArray.size_append]; omega
  have HS3 := Lib.hid hsz3
  clear hsz3 hx2 hx3 hj2 hj5 hp hp2
  go_wp2
  go_ret
  refine ⟨p ++ x ++ p2, HS3.out, rfl, ?_⟩
  exact grownR_like (grown_pick (grown_alloc (grown_pick HG5.out (.int .i64 (((k0 + 1 + 1 : Nat) : Int) + 1)) 0) (.cells (scs tornBits).toArray 9)) (.int .i64 (((k0 + 1 + 1 + 1 : Nat) : Int) + 1)) 0) rfl rfl rfl rfl
set_option maxHeartbeats 1000000 in
theorem drawLogRead_any (A : Option Addr) (n c : Nat) (w : World) (h : Code w A n c) :
    Calls Tryz.prog 10 #[.slice A n c] w fun e w' => ∃ t : ByteArray, t.size ≤ 500 ∧ e = .returned (.string t) ∧ Below w.heap.size w w' := by
  have C0 := Lib.hid h
  clear h
  go_enter Tryz.func10, Tryz.ntmps10
  go_wp2_with fail
  refine (l19Open_any A n c _ C0.out).mono ?_
  rintro e w1 ⟨rfl, hb, hr⟩
  have B1 := Lib.hid hb
  have R1 := Lib.hid hr
  clear hb hr
  go_wp2_with fail
  refine (l9Drawn_any w.heap.size 0 _ R1.out (by omega)).mono ?_
  rintro e w2 ⟨r, k2, rfl, hsm, hg2, hr2, hk2⟩
  have B2 := Lib.hid (below_of_reader B1.out hg2)
  have R2 := Lib.hid hr2
  have hza : r.a.size ≤ maxLen := by unfold maxLen; have := hsm.1; omega
  have hzt : r.text.size ≤ maxLen := by unfold maxLen; have := hsm.2.2; omega
  clear hg2 hr2 hsm B1 R1
  obtain ⟨t, HT⟩ : ∃ t, Hid (logText r = t) := ⟨_, Lib.hid rfl⟩
  have htz : t.size ≤ 200 := by rw [← HT.out]; exact logText_size r
  go_wp2_with fail
  refine (specLog_is r t _ hza hzt HT.out).mono ?_
  rintro e w3 ⟨rfl, hb3⟩
  have B3 := Lib.hid (B2.out.trans (hb3.mono B2.out.size))
  have R3 := Lib.hid (R2.out.belowR hb3)
  clear hb3 B2 R2
  go_wp2_with fail
  refine (l8Torn_any w.heap.size k2 t _ R3.out (by omega) htz).mono ?_
  rintro e w4 ⟨t', ht', rfl, hg4⟩
  have B4 := Lib.hid (below_of_reader B3.out hg4)
  clear hg4 B3 R3
  go_wp2
  go_ret
  exact ⟨t', ht', rfl, B4.out⟩
end Go.Proofs.YtgjlhokakcdpbaaGreatDoor

/-
  The law on a torn ring's word, walked.
-/
import Derived.Test.YtfcfgdpelbljnaaGreatDoorIUberR
import Derived.Test.YtfcfgdpelbljnaaGreatDoorUberTorn
import Derived.Test.YtfcfgdpelbljnaaGreatDoorTornDisk
import Derived.Test.YtfcfgdpelbljnaaGreatDoorDrawUber
import Derived.Test.YtfcfgdpelbljnaaGreatDoorImDiskOpen
import Derived.Test.YtfcfgdpelbljnaaGreatDoorIms
import Derived.Test.YtfcfgdpelbljnaaGreatDoorImDiskFlush
import Derived.Test.YtfcfgdpelbljnaaGreatDoorImDiskFall
set_option maxRecDepth 100000
namespace Go.Proofs.YtfcfgdpelbljnaaGreatDoor
open Go.ChangeShapes Go.WideShapes Go.ChangeAt Go.RowKit Go.Proofs.Palim

theorem eqlPtr (p : PtrM) (w : World) : (binOp .eql 24 (pv p) (pv p)).run Tryz.prog w = .ok (.bool true) w := by
  obtain ⟨a, s, b⟩ := p
  have hS : Tryz.prog.underlying 24 = some (.struct (Tryz.prog.fieldsOf 24)) := by kernel_rfl
  have hp : Tryz.prog.stoodInHeld 24 = false := by kernel_rfl
  have u3 := Tryz.underlying3
  have a3 := Tryz.isAgg3
  have z3 := Tryz.sizeOf3
  rw [run_eql_struct, show (10000 : Nat) = 9999 + 1 from rfl, run_equalIn_agg w 9999 24 _ _ hS hp]
  simp only [Program.fieldsOf, Tryz.underlying24]
  simp [go_sem]
theorem sl_int1U (w : World) (z : Int) (e : Nat) : Sl (w.alloc (.cells #[.int .i64 z] e)) 1 (.slice (some ⟨w.heap.size, 0, none⟩) 1 1) 1 (ics [z]) := by
  refine ⟨rfl, _, _, rfl, Nat.le_refl _, by unfold maxLen; omega, Or.inr ⟨w.heap.size, 0, rfl, fun j u hu => ?_⟩⟩
  have := (box_new w #[.int .i64 z] e).cell j hu
  rwa [Nat.zero_add]
theorem uberText_size (n : Int) (p : PtrM) : (uberText n p).size ≤ 200 := by
  unfold uberText
  by_cases h : UberOk n p
  · rw [if_pos h]
    have l1 := Lib.itoa_length_le n (by have := h.1; omega) (by have := h.2.1; omega)
    have l2 := ptrText_bd p h.2.2
    have hz : (uberB n p).size ≤ 120 := by
      unfold uberB
      rw [ByteArray.size_append, ByteArray.size_append, ByteArray.size_append, ByteArray.size_append]
      have e1 : (⟨(Lib.itoa n).toArray⟩ : ByteArray).size = (Lib.itoa n).length := by show (Lib.itoa n).toArray.size = _; simp
      have e2 : (⟨#[32]⟩ : ByteArray).size = 1 := rfl
      omega
    unfold sealB
    rw [if_neg (by omega)]
    have hb := sumOf_bd (uberB n p)
    have l := Lib.itoa_length_le (sumOf (uberB n p)) (by omega) (by omega)
    show (Lib.itoa (sumOf (uberB n p)) ++ 58 :: (uberB n p).data.toList).toArray.size ≤ 200
    have e : (uberB n p).data.toList.length = (uberB n p).size := Array.length_toList
    rw [List.size_toArray, List.length_append, List.length_cons, e]
    omega
  · rw [if_neg h]; exact Nat.zero_le _
theorem uber_no {n : Int} {p : PtrM} (h : ¬ UberOk n p) : uberText n p = ⟨#[]⟩ := by unfold uberText; rw [if_neg h]
theorem uber_some {n : Int} {p : PtrM} (h : UberOk n p) : ¬ (uberText n p).size = 0 := fun e => open_ne (uber_open h) (ByteArray.ext (Array.eq_empty_of_size_eq_zero e))
theorem mt_yes {s : ByteArray} (h : s.size = 0) : (s.toList == []) = true := by
  have : s = ⟨#[]⟩ := ByteArray.ext (Array.eq_empty_of_size_eq_zero h)
  rw [this, ByteArray.toList_eq]; rfl
theorem mt_no {s : ByteArray} (h : ¬ s.size = 0) : (s.toList == []) = false := by
  rw [ByteArray.toList_eq]
  cases hl : s.data.toList with
  | nil => exact absurd (show s.size = 0 from by show s.data.size = 0; rw [← Array.length_toList, hl]; rfl) h
  | cons a r => rfl
set_option maxHeartbeats 16000000 in
theorem lawCoreTorn (A C : Option Addr) (n c m e0 : Nat) (w : World) (hA : Code w A n c) (hC : Code w C m e0) (hv : LibVars w) :
    Calls Tryz.prog 3 #[.slice A n c, .slice C m e0] w fun e w' => e = .returned (.bool true) ∧ Below w.heap.size w w' := by
  have hnot : ∀ (x : Bool) (w : World), (Op.unary .not (.bool x)).run Tryz.prog w = .ok (.bool (!x)) w := fun _ _ => rfl
  have HA := Lib.hid hA
  have HC := Lib.hid hC
  have HV := Lib.hid hv
  have ha := hA.2.1
  have hb := hC.2.1
  clear hA hC hv
  unfold maxLen at ha hb
  by_cases hn : 1048576 < n
  · go_enter Tryz.func3, Tryz.ntmps3
    go_wp2
    go_ret
    exact ⟨rfl, Below.refl _ _⟩
  by_cases hm : 1048576 < m
  · go_enter Tryz.func3, Tryz.ntmps3
    go_wp2
    go_ret
    exact ⟨rfl, Below.refl _ _⟩
  go_enter Tryz.func3, Tryz.ntmps3
  go_wp2_with fail
  refine (drawCoreUber_any A n c _ HA.out).mono ?_
  rintro e w1 ⟨x, p, rfl, hb1⟩
  have B := Lib.hid hb1
  clear hb1 HA
  have hn := Below.new (w := w1) (.cells #[.int .i64 p.at_, .int .i64 p.sum, .int .i64 p.birth] 24)
  replace B := Lib.hid (B.out.trans (hn.mono B.out.size))
  clear hn
  have XP := Lib.hid (box_new w1 #[.int .i64 p.at_, .int .i64 p.sum, .int .i64 p.birth] 24)
  have CB := Lib.hid (HC.out.below B.out)
  go_wp2_with fail
  refine (drawCoreUber_any C m e0 _ CB.out).mono ?_
  rintro e w2 ⟨y, q, rfl, hb⟩
  replace XP := Lib.hid (XP.out.below hb XP.out.lt)
  replace B := Lib.hid (B.out.trans (hb.mono B.out.size))
  clear hb CB
  have hn := Below.new (w := w2) (.cells #[.int .i64 q.at_, .int .i64 q.sum, .int .i64 q.birth] 24)
  replace XP := Lib.hid (XP.out.below hn XP.out.lt)
  replace B := Lib.hid (B.out.trans (hn.mono B.out.size))
  clear hn
  have XQ := Lib.hid (box_new w2 #[.int .i64 q.at_, .int .i64 q.sum, .int .i64 q.birth] 24)
  obtain ⟨s, HS⟩ : ∃ s, Hid (uberText x p = s) := ⟨_, Lib.hid rfl⟩
  obtain ⟨t, HT⟩ : ∃ t, Hid (uberText y q = t) := ⟨_, Lib.hid rfl⟩
  have hsz : s.size ≤ 200 := by rw [← HS.out]; exact uberText_size _ _
  have htz : t.size ≤ 200 := by rw [← HT.out]; exact uberText_size _ _
  obtain ⟨x0, x1, x2⟩ := XP.out.three
  go_wp2_with fail
  refine (implUber_is x p s _ (HV.out.below B.out).pow HS.out).mono ?_
  rintro e w3 ⟨rfl, hb⟩
  replace XP := Lib.hid (XP.out.below hb XP.out.lt)
  replace XQ := Lib.hid (XQ.out.below hb XQ.out.lt)
  replace B := Lib.hid (B.out.trans (hb.mono B.out.size))
  clear hb x0 x1 x2
  obtain ⟨y0, y1, y2⟩ := XQ.out.three
  go_wp2_with fail
  refine (implUber_is y q t _ (HV.out.below B.out).pow HT.out).mono ?_
  rintro e w4 ⟨rfl, hb⟩
  replace XP := Lib.hid (XP.out.below hb XP.out.lt)
  replace XQ := Lib.hid (XQ.out.below hb XQ.out.lt)
  replace B := Lib.hid (B.out.trans (hb.mono B.out.size))
  clear hb y0 y1 y2
  obtain ⟨x0, x1, x2⟩ := XP.out.three
  go_wp2_with fail
  refine (specUber_is x p s _ HS.out).mono ?_
  rintro e w5 ⟨rfl, hb⟩
  replace XP := Lib.hid (XP.out.below hb XP.out.lt)
  replace XQ := Lib.hid (XQ.out.below hb XQ.out.lt)
  replace B := Lib.hid (B.out.trans (hb.mono B.out.size))
  clear hb x0 x1 x2
  have hss : (s.toList == s.toList) = true := by simp
  by_cases hok : UberOk x p
  case neg =>
    have hse : (s.toList == []) = true := by rw [← HS.out, uber_no hok]; exact mt_yes rfl
    clear hok
    obtain ⟨x0, x1, x2⟩ := XP.out.three
    go_wp2_with fail
    refine (specUber_is x p s _ HS.out).mono ?_
    rintro e w6 ⟨rfl, hb⟩
    replace XP := Lib.hid (XP.out.below hb XP.out.lt)
    replace XQ := Lib.hid (XQ.out.below hb XQ.out.lt)
    replace B := Lib.hid (B.out.trans (hb.mono B.out.size))
    go_wp2
    go_ret
    exact ⟨rfl, B.out⟩
  case pos =>
  have hse : (s.toList == []) = false := mt_no (by rw [← HS.out]; exact uber_some hok)
  by_cases hxy : x = y
  case pos =>
    have hxq : (x == y) = true := by simp [hxy]
    clear hxy
    obtain ⟨x0, x1, x2⟩ := XP.out.three
    go_wp2_with fail
    refine (specUber_is x p s _ HS.out).mono ?_
    rintro e w6 ⟨rfl, hb⟩
    replace XP := Lib.hid (XP.out.below hb XP.out.lt)
    replace XQ := Lib.hid (XQ.out.below hb XQ.out.lt)
    replace B := Lib.hid (B.out.trans (hb.mono B.out.size))
    go_wp2
    go_ret
    exact ⟨rfl, B.out⟩
  case neg =>
  have hxq : (x == y) = false := by simpa using hxy
  have HTORN := Lib.hid (show ∀ k r, Spells (tornM t s) k r → (k = x ∧ r = p) ∨ (k = y ∧ r = q) from fun k r hz => by
    rw [← HS.out] at hz
    refine torn_uber hok ?_ hxy hz
    by_cases hk : UberOk y q
    · exact Or.inr ⟨hk, HT.out.symm⟩
    · exact Or.inl (by rw [← HT.out, uber_no hk]))
  have htn : (tornM t s).size ≤ 200 := tornM_size htz hsz
  clear hok
  go_wp2_with fail
  refine (ImplDiskOpen_any 2 _ (by omega) (by omega)).mono ?_
  rintro e w10 ⟨v0, v1, vl, rfl, ho, hb⟩
  replace XP := Lib.hid (XP.out.below hb XP.out.lt)
  replace XQ := Lib.hid (XQ.out.below hb XQ.out.lt)
  replace B := Lib.hid (B.out.trans (hb.mono B.out.size))
  clear hb
  rw [open2] at ho
  obtain ⟨A0, k0, A1, k1, A2, k2, rfl, rfl, rfl⟩ := ho.forms
  have hnP : w1.heap.size ≠ w10.heap.size := by have := XP.out.lt; omega
  have hnQ : w2.heap.size ≠ w10.heap.size := by have := XQ.out.lt; omega
  have hwB : w.heap.size ≤ w10.heap.size := B.out.size
  have HD := Lib.hid (ho.reads.below (Below.new (w := w10) (.cells #[.slice A0 2 k0, .slice A1 2 k1, .slice A2 0 k2] 32)))
  clear ho
  have hn := Below.new (w := w10) (.cells #[.slice A0 2 k0, .slice A1 2 k1, .slice A2 0 k2] 32)
  replace XP := Lib.hid (XP.out.below hn XP.out.lt)
  replace XQ := Lib.hid (XQ.out.below hn XQ.out.lt)
  replace B := Lib.hid (B.out.trans (hn.mono B.out.size))
  clear hn
  have XD := Lib.hid (box_new w10 #[.slice A0 2 k0, .slice A1 2 k1, .slice A2 0 k2] 32)
  have hwD : w10.heap.size < (w10.alloc (.cells #[.slice A0 2 k0, .slice A1 2 k1, .slice A2 0 k2] 32)).heap.size := by simp
  obtain ⟨d0, d1, d2⟩ := XD.out.three
  go_wp2_with fail
  refine (ImplDiskWrite_any ⟨[eB, eB], [eB, eB], []⟩ 0 1 t _ _ _ _ (by unfold maxLen; omega) HD.out (short2 (by show 0 ≤ _; omega) (by show 0 ≤ _; omega) (by simp) (by simp))).mono ?_
  rintro e w11 ⟨u0, u1, ul, rfl, ho, hb⟩
  rw [write2 (by show 0 ≤ _; omega) (by show 0 ≤ _; omega) (by omega)] at ho
  have hw11 := Nat.lt_of_lt_of_le hwD hb.size
  replace XP := Lib.hid (XP.out.below hb XP.out.lt)
  replace XQ := Lib.hid (XQ.out.below hb XQ.out.lt)
  replace XD := Lib.hid (XD.out.below hb XD.out.lt)
  replace B := Lib.hid (B.out.trans (hb.mono B.out.size))
  clear hb d0 d1 d2 HD
  obtain ⟨E0, q0, E1, q1, E2, q2, rfl, rfl, rfl⟩ := ho.forms
  obtain ⟨d0, d1, d2⟩ := XD.out.three
  have df0 := XD.out.open_ 0
  have df1 := XD.out.open_ 1
  have df2 := XD.out.open_ 2
  have hD3 := (ho.set3 (a := ⟨w10.heap.size, 0, none⟩) (b := ⟨w10.heap.size, 1, none⟩) (c := ⟨w10.heap.size, 2, none⟩) (x := .slice E0 2 q0) (y := .slice E1 2 q1) (z := .slice E2 1 q2) hwD hwD hwD).reads
  have XD2 := Lib.hid (show Box (((w11.setCell ⟨w10.heap.size, 0, none⟩ (.slice E0 2 q0)).setCell ⟨w10.heap.size, 1, none⟩ (.slice E1 2 q1)).setCell ⟨w10.heap.size, 2, none⟩ (.slice E2 1 q2)) w10.heap.size [.slice E0 2 q0, .slice E1 2 q1, .slice E2 1 q2] from (((XD.out.set 0 (.slice E0 2 q0)).set 1 (.slice E1 2 q1)).set 2 (.slice E2 1 q2)))
  have XP2 := Lib.hid (((XP.out.other (p := ⟨w10.heap.size, 0, none⟩) hnP (.slice E0 2 q0)).other (p := ⟨w10.heap.size, 1, none⟩) hnP (.slice E1 2 q1)).other (p := ⟨w10.heap.size, 2, none⟩) hnP (.slice E2 1 q2))
  have XQ2 := Lib.hid (((XQ.out.other (p := ⟨w10.heap.size, 0, none⟩) hnQ (.slice E0 2 q0)).other (p := ⟨w10.heap.size, 1, none⟩) hnQ (.slice E1 2 q1)).other (p := ⟨w10.heap.size, 2, none⟩) hnQ (.slice E2 1 q2))
  have B2 := Lib.hid (((B.out.setCell (p := ⟨w10.heap.size, 0, none⟩) hwB (.slice E0 2 q0)).setCell (p := ⟨w10.heap.size, 1, none⟩) hwB (.slice E1 2 q1)).setCell (p := ⟨w10.heap.size, 2, none⟩) hwB (.slice E2 1 q2))
  have hw12 : w10.heap.size < (((w11.setCell ⟨w10.heap.size, 0, none⟩ (.slice E0 2 q0)).setCell ⟨w10.heap.size, 1, none⟩ (.slice E1 2 q1)).setCell ⟨w10.heap.size, 2, none⟩ (.slice E2 1 q2)).heap.size := by simpa [World.setCell] using hw11
  obtain ⟨g0, g1, g2⟩ := XD2.out.three
  clear XD XP XQ B ho hwD
  go_wp2_with fail
  refine (ImplDiskFlush_any ⟨[eB, eB], [eB, eB], [⟨0, 1, t⟩]⟩ _ _ _ _ hD3 (short2 (by show 0 ≤ _; omega) (by show 0 ≤ _; omega) (by simp) (by intro x hx; obtain rfl := List.mem_singleton.1 hx; simp only; omega))).mono ?_
  rintro e w13 ⟨u0, u1, ul, rfl, ho, hb⟩
  rw [flush2 (by show 0 ≤ _; omega) (by show 0 ≤ _; omega) (by omega)] at ho
  have XP := Lib.hid (XP2.out.below hb XP2.out.lt)
  have XQ := Lib.hid (XQ2.out.below hb XQ2.out.lt)
  have XD := Lib.hid (XD2.out.below hb XD2.out.lt)
  have B := Lib.hid (B2.out.trans (hb.mono B2.out.size))
  have hw13 := Nat.lt_of_lt_of_le hw12 hb.size
  clear hb d0 d1 d2 df0 df1 df2 g0 g1 g2 hD3 XP2 XQ2 XD2 B2 hw11 hw12
  obtain ⟨G0, i0, G1, i1, G2, i2, rfl, rfl, rfl⟩ := ho.forms
  go_wp2_with fail
  refine (ImplDiskWrite_any ⟨[eB, t], [eB, eB], []⟩ 0 1 s _ _ _ _ (by unfold maxLen; omega) ho.reads (short2 (by show 0 ≤ _; omega) (by omega) (by simp) (by simp))).mono ?_
  rintro e w14 ⟨u0, u1, ul, rfl, ho', hb⟩
  clear ho
  rw [write2 (by show 0 ≤ _; omega) (by omega) (by omega)] at ho'
  replace XP := Lib.hid (XP.out.below hb XP.out.lt)
  replace XQ := Lib.hid (XQ.out.below hb XQ.out.lt)
  replace XD := Lib.hid (XD.out.below hb XD.out.lt)
  replace B := Lib.hid (B.out.trans (hb.mono B.out.size))
  have hw14 := Nat.lt_of_lt_of_le hw13 hb.size
  clear hb
  obtain ⟨F0, j0, F1, j1, F2, j2, rfl, rfl, rfl⟩ := ho'.forms
  obtain ⟨d0, d1, d2⟩ := XD.out.three
  have df0 := XD.out.open_ 0
  have df1 := XD.out.open_ 1
  have df2 := XD.out.open_ 2
  have hn15 := Below.new (w := (((w14.setCell ⟨w10.heap.size, 0, none⟩ (.slice F0 2 j0)).setCell ⟨w10.heap.size, 1, none⟩ (.slice F1 2 j1)).setCell ⟨w10.heap.size, 2, none⟩ (.slice F2 1 j2))) (.cells #[.int .i64 2] 3)
  have D14 := Lib.hid ((ho'.set3 (a := ⟨w10.heap.size, 0, none⟩) (b := ⟨w10.heap.size, 1, none⟩) (c := ⟨w10.heap.size, 2, none⟩) (x := .slice F0 2 j0) (y := .slice F1 2 j1) (z := .slice F2 1 j2) hw13 hw13 hw13).reads.below hn15)
  have XD14 := Lib.hid (show Box (((w14.setCell ⟨w10.heap.size, 0, none⟩ (.slice F0 2 j0)).setCell ⟨w10.heap.size, 1, none⟩ (.slice F1 2 j1)).setCell ⟨w10.heap.size, 2, none⟩ (.slice F2 1 j2)) w10.heap.size [.slice F0 2 j0, .slice F1 2 j1, .slice F2 1 j2] from (((XD.out.set 0 (.slice F0 2 j0)).set 1 (.slice F1 2 j1)).set 2 (.slice F2 1 j2)))
  have XP15 := Lib.hid ((((XP.out.other (p := ⟨w10.heap.size, 0, none⟩) hnP (.slice F0 2 j0)).other (p := ⟨w10.heap.size, 1, none⟩) hnP (.slice F1 2 j1)).other (p := ⟨w10.heap.size, 2, none⟩) hnP (.slice F2 1 j2)).alloc (.cells #[.int .i64 2] 3))
  have XQ15 := Lib.hid ((((XQ.out.other (p := ⟨w10.heap.size, 0, none⟩) hnQ (.slice F0 2 j0)).other (p := ⟨w10.heap.size, 1, none⟩) hnQ (.slice F1 2 j1)).other (p := ⟨w10.heap.size, 2, none⟩) hnQ (.slice F2 1 j2)).alloc (.cells #[.int .i64 2] 3))
  have B15 := Lib.hid ((((B.out.setCell (p := ⟨w10.heap.size, 0, none⟩) hwB (.slice F0 2 j0)).setCell (p := ⟨w10.heap.size, 1, none⟩) hwB (.slice F1 2 j1)).setCell (p := ⟨w10.heap.size, 2, none⟩) hwB (.slice F2 1 j2)).trans (hn15.mono (by simpa [World.setCell] using B.out.size)))
  have HF := Lib.hid (sl_int1U (((w14.setCell ⟨w10.heap.size, 0, none⟩ (.slice F0 2 j0)).setCell ⟨w10.heap.size, 1, none⟩ (.slice F1 2 j1)).setCell ⟨w10.heap.size, 2, none⟩ (.slice F2 1 j2)) 2 3)
  have hWs : (((w14.setCell ⟨w10.heap.size, 0, none⟩ (.slice F0 2 j0)).setCell ⟨w10.heap.size, 1, none⟩ (.slice F1 2 j1)).setCell ⟨w10.heap.size, 2, none⟩ (.slice F2 1 j2)).heap.size = w14.heap.size := by simp [World.setCell]
  rw [hWs] at HF
  obtain ⟨dd0, dd1, dd2⟩ := XD14.out.three
  clear ho' hn15 XP XQ B hw13
  go_wp2_with fail
  refine (ImplDiskFall_any ⟨[eB, t], [eB, eB], [⟨0, 1, s⟩]⟩ [2] _ _ _ _ _ D14.out (short2 (by show 0 ≤ _; omega) (by omega) (by simp) (by intro x hx; obtain rfl := List.mem_singleton.1 hx; simp only; omega)) HF.out (by intro b hb; injection hb with hb; subst hb; simp [World.setCell]) (by simp)).mono ?_
  rintro e w16 ⟨u0, u1, ul, rfl, ho, hb⟩
  rw [fall2 (by show 0 ≤ _; omega) (by omega) (by omega)] at ho
  have XP16 := Lib.hid (XP15.out.below hb XP15.out.lt)
  have XQ16 := Lib.hid (XQ15.out.below hb XQ15.out.lt)
  have B16 := Lib.hid (B15.out.trans (hb.mono B15.out.size))
  clear hb d0 d1 d2 df0 df1 df2 dd0 dd1 dd2 D14 XD XD14 HF XP15 XQ15 B15 hWs
  obtain ⟨bt, ot, ct, rfl, _, hctm, hcell⟩ := ho.reads.r0.form (by simp)
  have tc := hcell 1 (.string (tornM t s)) rfl
  have hfl : ∀ (a b c : Value) (w : World), (Instr.field 32 (.agg #[a, b, c]) 0).run Tryz.prog w = .ok (.agg #[a, b]) w := fun _ _ _ _ => by kernel_rfl
  have hix : ∀ (a b : Value) (w : World), (Instr.index 29 (.agg #[a, b]) (.int .i64 0)).run Tryz.prog w = .ok a w := fun _ _ _ => by kernel_rfl
  unfold maxLen at hctm
  clear ho hcell
  go_wp2_with fail
  refine (implUberRead_any (tornM t s) _ (by omega) (HV.out.below B16.out)).mono ?_
  rintro e w17 ⟨hb, h⟩
  have XP17 := Lib.hid (XP16.out.below hb XP16.out.lt)
  have XQ17 := Lib.hid (XQ16.out.below hb XQ16.out.lt)
  have B17 := Lib.hid (B16.out.trans (hb.mono B16.out.size))
  clear hb XP16 XQ16 B16 tc
  rcases h with ⟨kk, rr, hz, rfl⟩ | ⟨_, rfl⟩
  · have hxx : (x == x) = true := by simp
    have hyy : (y == y) = true := by simp
    rcases HTORN.out kk rr hz with ⟨rfl, rfl⟩ | ⟨rfl, rfl⟩
    · have heq := eqlPtr rr
      have XP18 := Lib.hid (XP17.out.alloc (.cells #[.int .i64 rr.at_, .int .i64 rr.sum, .int .i64 rr.birth] 24))
      have XR18 := Lib.hid (box_new w17 #[.int .i64 rr.at_, .int .i64 rr.sum, .int .i64 rr.birth] 24)
      have B18 := Lib.hid (B17.out.alloc B17.out.size (.cells #[.int .i64 rr.at_, .int .i64 rr.sum, .int .i64 rr.birth] 24))
      obtain ⟨r0, r1, r2⟩ := XR18.out.three
      obtain ⟨s0, s1, s2⟩ := XP18.out.three
      go_wp2
      go_ret
      exact ⟨rfl, B18.out⟩
    · have heq := eqlPtr rr
      have hyx : (kk == x) = false := by simpa using fun e => hxy e.symm
      have XQ18 := Lib.hid (XQ17.out.alloc (.cells #[.int .i64 rr.at_, .int .i64 rr.sum, .int .i64 rr.birth] 24))
      have XR18 := Lib.hid (box_new w17 #[.int .i64 rr.at_, .int .i64 rr.sum, .int .i64 rr.birth] 24)
      have B18 := Lib.hid (B17.out.alloc B17.out.size (.cells #[.int .i64 rr.at_, .int .i64 rr.sum, .int .i64 rr.birth] 24))
      obtain ⟨r0, r1, r2⟩ := XR18.out.three
      obtain ⟨s0, s1, s2⟩ := XQ18.out.three
      clear hxy
      go_wp2
      go_ret
      exact ⟨rfl, B18.out⟩
  · have B18 := Lib.hid (B17.out.alloc B17.out.size (.cells #[.int .i64 0, .int .i64 0, .int .i64 0] 24))
    go_wp2
    go_ret
    exact ⟨rfl, B18.out⟩
end Go.Proofs.YtfcfgdpelbljnaaGreatDoor

/-
  spec's DiskSame.
-/
import Derived.Test.YtobjgdnmlibofaaDiskSame
import Derived.Test.YtobjgdnmlibofaaDiskRead2
set_option maxRecDepth 100000
namespace Go.Proofs.Ytobjgdnmlibofaa
open Go.ChangeShapes Go.WideShapes Go.ChangeAt Go.RowKit Go.Proofs.Palim

theorem late_eq {a b : LateM} : a = b ↔ a.side = b.side ∧ a.at_ = b.at_ ∧ a.text = b.text := by
  constructor
  · rintro rfl; exact ⟨rfl, rfl, rfl⟩
  · rintro ⟨h1, h2, h3⟩; cases a; cases b; simp_all
instance : DecidableEq LateM := fun _ _ => decidable_of_iff' _ late_eq
def SameM (a b : DiskM) : Prop := a.s0 = b.s0 ∧ a.s1 = b.s1 ∧ a.late = b.late
instance (a b : DiskM) : Decidable (SameM a b) := by unfold SameM; infer_instance

theorem sl_drewN {w : World} {sz n : Nat} {v : Value} {xs : List Value} (h : Sl w sz v n xs) (q : Nat) : Sl (w.drewN q) sz v n xs := h.kept fun _ _ => rfl
theorem l2Texts_is (va vb : Value) (ss tt : List ByteArray) (w : World) (ha : Sl w 1 va ss.length (scs ss)) (hb : Sl w 1 vb tt.length (scs tt)) (hs : ss.length ≤ 1048576) (ht : tt.length ≤ 1048576) (r : Bool) (hr : decide (ss = tt) = r) :
    Calls Try.prog 25 #[va, vb] w (Drawn (.bool r) w) := hr ▸ l2Texts_any va vb ss tt w ha hb hs ht

set_option maxHeartbeats 1000000 in
theorem DiskSame_any (a0 a1 al b0 b1 bl : Value) (d f : DiskM) (w : World) (h : DiskR w a0 a1 al d) (k : DiskR w b0 b1 bl f) (hs : DiskShort d) (ks : DiskShort f) :
    Calls Try.prog 11 #[.agg #[a0, a1, al], .agg #[b0, b1, bl]] w fun e w' => e = .returned (.bool (decide (SameM d f))) ∧ Below w.heap.size w w' := by
  have hnot : ∀ (x : Bool) (w : World), (Op.unary .not (.bool x)).run Try.prog w = .ok (.bool (!x)) w := fun _ _ => rfl
  obtain ⟨_, Al, cl, rfl, _⟩ := h.rl
  obtain ⟨_, Bl, dl, rfl, _⟩ := k.rl
  have HS := Lib.hid hs
  have KS := Lib.hid ks
  have HD := Lib.hid h
  have HF := Lib.hid k
  clear h k hs ks
  have n0 := HS.out.n0
  have n1 := HS.out.n1
  have nl := HS.out.nl
  have m0 := KS.out.n0
  have m1 := KS.out.n1
  have ml := KS.out.nl
  obtain ⟨n, HN⟩ : ∃ n, Hid (d.late.length = n) := ⟨_, Lib.hid rfl⟩
  obtain ⟨m, HM⟩ : ∃ m, Hid (f.late.length = m) := ⟨_, Lib.hid rfl⟩
  rw [HN.out] at HD nl ⊢
  rw [HM.out] at HF ml ⊢
  obtain ⟨hA, hC, hsz, hB⟩ := box2 w #[a0, a1, .slice Al n cl] #[b0, b1, .slice Bl m dl] 39 39
  have RA := Lib.hid (HD.out.below hB)
  have RB := Lib.hid (HF.out.below hB)
  have HB := Lib.hid hB
  clear hA hC hsz hB
  have hbe : ∀ q, Below w.heap.size w (((w.alloc (.cells #[a0, a1, .slice Al n cl] 39)).alloc (.cells #[b0, b1, .slice Bl m dl] 39)).drewN q) := fun q => ⟨HB.out.os, HB.out.tape, HB.out.output, HB.out.size, HB.out.block⟩
  have HBE := Lib.hid hbe
  clear hbe
  by_cases e0 : d.s0 = f.s0
  · by_cases e1 : d.s1 = f.s1
    · by_cases e2 : n = m
      · subst e2
        have E0 := Lib.hid (decide_eq_true e0)
        have E1 := Lib.hid (decide_eq_true e1)
        have ES := Lib.hid (And.intro e0 e1)
        clear e0 e1
        go_enter Try.func11, Try.ntmps11
        go_wp2_with fail
        refine (l2Texts_is a0 b0 d.s0 f.s0 _ RA.out.r0 RB.out.r0 n0 m0 true E0.out).mono ?_
        rintro e w1 ⟨rfl, q1, rfl⟩
        go_wp2_with fail
        refine (l2Texts_is a1 b1 d.s1 f.s1 _ (sl_drewN RA.out.r1 q1) (sl_drewN RB.out.r1 q1) n1 m1 true E1.out).mono ?_
        rintro e w1 ⟨rfl, q2, rfl⟩
        go_wp2
        go_loopw [5] (fun i wr => ∃ (k q : Nat), k ≤ n ∧ i = .int .i64 (k : Int) ∧ wr = ((w.alloc (.cells #[a0, a1, .slice Al n cl] 39)).alloc (.cells #[b0, b1, .slice Bl n dl] 39)).drewN q ∧ Hid (∀ (j : Nat) (h0 : j < d.late.length) (h1 : j < f.late.length), j < k → d.late[j] = f.late[j])) (fun i _ => n - (intOf i).toNat)
        case atStart => exact ⟨0, _, Nat.zero_le _, rfl, rfl, Lib.hid (fun j _ _ h => absurd h (Nat.not_lt_zero _))⟩
        case round =>
          obtain ⟨k, q, hk, rfl, rfl, HK⟩ := hrel
          by_cases hlt : k < n
          · have hl0 : k < d.late.length := by rw [HN.out]; exact hlt
            have hl1 : k < f.late.length := by rw [HM.out]; exact hlt
            obtain ⟨bx, ox, cx, ex, hcx, hmx, hcellx⟩ := HD.out.rl.form (by have := HN.out; omega)
            obtain ⟨by_, oy, cy, ey, hcy, hmy, hcelly⟩ := HF.out.rl.form (by have := HM.out; omega)
            injection ex with ex ex' ex''
            injection ey with ey ey' ey''
            subst ex ex'' ey ey''
            rw [HN.out] at hcx
            rw [HM.out] at hcy
            unfold maxLen at hmx hmy
            have hbx : bx < w.heap.size := HD.out.ll bx rfl
            have hby : by_ < w.heap.size := HF.out.ll by_ rfl
            have hrx := late_read hcellx k hl0
            have hry := late_read hcelly k hl1
            have HK1 := Lib.hid (show d.late[k] = f.late[k] → ∀ (j : Nat) (h0 : j < d.late.length) (h1 : j < f.late.length), j < k + 1 → d.late[j] = f.late[j] from fun hh j h0 h1 hj => by
              rcases Nat.lt_succ_iff_lt_or_eq.1 hj with h | rfl
              · exact HK.out j h0 h1 h
              · exact hh)
            have HNE := Lib.hid (show d.late[k] ≠ f.late[k] → ¬ SameM d f from fun hh e => hh (by have e2 := e.2.2; simp only [e2]))
            have hk1 : (k : Int) < (n : Int) := by omega
            generalize d.late[k] = x at hrx HK1 HNE
            generalize f.late[k] = y at hry HK1 HNE
            obtain ⟨p1, p2, p3⟩ := hrx
            obtain ⟨r1, r2, r3⟩ := hry
            clear HK hl0 hl1 hcellx hcelly ex' ey'
            by_cases hxy : x = y
            · have HK2 := Lib.hid (HK1.out hxy)
              subst hxy
              clear HK1 HNE
              go_wp2_with fail
              go_quiet (fail)
              go_wp2
              go_roundw
              case rel => exact ⟨k + 1, _, by omega, by go_num, rfl, HK2⟩
              case measure => simp [intOf]; omega
            · have EF := Lib.hid (decide_eq_false (HNE.out hxy)).symm
              obtain ⟨x1, x2, x3⟩ := x
              obtain ⟨y1, y2, y3⟩ := y
              have hc : ¬ x1 = y1 ∨ (x1 = y1 ∧ ¬ x2 = y2) ∨ (x1 = y1 ∧ x2 = y2 ∧ (x3.toList == y3.toList) = false) := by
                by_cases h1 : x1 = y1
                · by_cases h2 : x2 = y2
                  · exact Or.inr (Or.inr ⟨h1, h2, bytes_ne fun h3 => hxy (by rw [h1, h2, h3])⟩)
                  · exact Or.inr (Or.inl ⟨h1, h2⟩)
                · exact Or.inl h1
              simp only at p1 p2 p3 r1 r2 r3
              clear HK1 HNE hxy
              rcases hc with h1 | ⟨rfl, h2⟩ | ⟨rfl, rfl, h3⟩
              all_goals
                go_wp2_with fail
                go_quiet (fail)
                go_wp2
                go_ret
                exact ⟨ret_bool EF.out, by rw [World.drewN_drewN]; exact HBE.out _⟩
          · have HE := Lib.hid (show SameM d f from ⟨ES.out.1, ES.out.2, list_eq_of (HN.out.trans HM.out.symm) fun j h0 h1 => HK.out j h0 h1 (by have := HN.out; omega)⟩)
            clear HK
            go_wp2
            go_ret
            exact ⟨ret_bool (decide_eq_true HE.out).symm, HBE.out _⟩
      · have E0 := Lib.hid (decide_eq_true e0)
        have E1 := Lib.hid (decide_eq_true e1)
        have EF := Lib.hid (decide_eq_false (show ¬ SameM d f from fun h => e2 (by rw [← HN.out, ← HM.out, h.2.2]))).symm
        clear e0 e1
        go_enter Try.func11, Try.ntmps11
        go_wp2_with fail
        refine (l2Texts_is a0 b0 d.s0 f.s0 _ RA.out.r0 RB.out.r0 n0 m0 true E0.out).mono ?_
        rintro e w1 ⟨rfl, q1, rfl⟩
        go_wp2_with fail
        refine (l2Texts_is a1 b1 d.s1 f.s1 _ (sl_drewN RA.out.r1 q1) (sl_drewN RB.out.r1 q1) n1 m1 true E1.out).mono ?_
        rintro e w1 ⟨rfl, q2, rfl⟩
        go_wp2
        go_ret
        exact ⟨ret_bool EF.out, HBE.out _⟩
    · have E0 := Lib.hid (decide_eq_true e0)
      have E1 := Lib.hid (decide_eq_false e1)
      have EF := Lib.hid (decide_eq_false (show ¬ SameM d f from fun h => e1 h.2.1)).symm
      clear e0 e1
      go_enter Try.func11, Try.ntmps11
      go_wp2_with fail
      refine (l2Texts_is a0 b0 d.s0 f.s0 _ RA.out.r0 RB.out.r0 n0 m0 true E0.out).mono ?_
      rintro e w1 ⟨rfl, q1, rfl⟩
      go_wp2_with fail
      refine (l2Texts_is a1 b1 d.s1 f.s1 _ (sl_drewN RA.out.r1 q1) (sl_drewN RB.out.r1 q1) n1 m1 false E1.out).mono ?_
      rintro e w1 ⟨rfl, q2, rfl⟩
      go_wp2
      go_ret
      exact ⟨ret_bool EF.out, HBE.out _⟩
  · have E0 := Lib.hid (decide_eq_false e0)
    have EF := Lib.hid (decide_eq_false (show ¬ SameM d f from fun h => e0 h.1)).symm
    clear e0
    go_enter Try.func11, Try.ntmps11
    go_wp2_with fail
    refine (l2Texts_is a0 b0 d.s0 f.s0 _ RA.out.r0 RB.out.r0 n0 m0 false E0.out).mono ?_
    rintro e w1 ⟨rfl, q1, rfl⟩
    go_wp2
    go_ret
    exact ⟨ret_bool EF.out, HBE.out _⟩
end Go.Proofs.Ytobjgdnmlibofaa

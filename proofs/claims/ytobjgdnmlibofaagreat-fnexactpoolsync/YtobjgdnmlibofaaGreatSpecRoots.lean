/-
  The document's l4Roots.
-/
import Derived.Test.YtobjgdnmlibofaaGreatSpecAt
set_option maxRecDepth 100000
namespace Go.Proofs.YtobjgdnmlibofaaGreat
open Go.ChangeShapes Go.WideShapes Go.ChangeAt Go.RowKit Go.Proofs.Palim

theorem empty_of_size {s : ByteArray} (h : s.size = 0) : s = ⟨#[]⟩ := by
  obtain ⟨⟨l⟩⟩ := s
  have : l.length = 0 := h
  rw [List.length_eq_zero_iff.1 this]
theorem eqEmpty {s : ByteArray} (h : s.size = 0) : (s.toList == []) = true := by rw [empty_of_size h, ByteArray.toList_eq]; rfl
theorem neEmpty {s : ByteArray} (h : ¬ s.size = 0) : (s.toList == []) = false := by
  have h1 : (s == (⟨#[]⟩ : ByteArray)) = false := by
    rw [bytes_beq]
    exact decide_eq_false fun e => h (by rw [e]; rfl)
  rw [beq_toListBytes, ByteArray.toList_eq ⟨#[]⟩] at h1
  exact h1
theorem find_empty {ls : List SetM} (hn : ∀ y ∈ ls, NameOk y.name) {s : ByteArray} (h : s.size = 0) : findM ls s = none := by
  unfold findM
  rw [List.find?_eq_none]
  intro y hy
  have h1 := (hn y hy).1
  simp only [decide_eq_true_eq]
  intro e
  rw [e] at h1
  omega
theorem roots_empty {ls : List SetM} {x : SetM} {m : Nat} (hn : ∀ y ∈ ls, NameOk y.name) (h : x.frm.size = 0) : rootsM ls (m + 1) x = decide (x.kind = 1) := by
  rw [rootsM, find_empty hn h]
  by_cases hk : x.kind = 1
  · rw [if_pos ⟨hk, h⟩, decide_eq_true hk]
  · rw [if_neg (fun c => hk c.1), decide_eq_false hk]
theorem roots_none {ls : List SetM} {x : SetM} {m : Nat} (ha : Asc ls) (h : ¬ x.frm.size = 0) (ht : thereM ls x.frm = false) : rootsM ls (m + 1) x = false := by
  rw [rootsM, if_neg (fun c => h c.2), find_at ha, ht]
  simp
theorem roots_some {ls : List SetM} {x y : SetM} {m : Nat} (ha : Asc ls) (h : ¬ x.frm.size = 0) (ht : thereM ls x.frm = true) (hy : ls[atM ls x.frm]? = some y) : rootsM ls (m + 1) x = if y.kind = x.kind then false else rootsM ls m y := by
  rw [rootsM, if_neg (fun c => h c.2), find_at ha, ht, if_pos rfl, hy]
theorem there_lt {ls : List SetM} {s : ByteArray} (h : thereM ls s = true) : ∃ h : atM ls s < ls.length, ls[atM ls s].name = s := by
  unfold thereM at h
  split at h
  · rename_i x hx
    obtain ⟨hl, rfl⟩ := List.getElem?_eq_some_iff.1 hx
    exact ⟨hl, by simpa using h⟩
  · cases h

/-- The eleven cells of a set in a box, written. -/
theorem Box.set11 {w : World} {b : Nat} {x : SetM} (h : Box w b (kc x)) (y : SetM) :
    Box ((((((((((((w.setCell ⟨b, 0, none⟩ (.string y.name)).setCell ⟨b, 1, none⟩ (.int .i64 y.kind)).setCell ⟨b, 2, none⟩ (.string y.frm)).setCell ⟨b, 3, none⟩ (.string y.b0)).setCell ⟨b, 4, none⟩ (.string y.b1)).setCell ⟨b, 5, none⟩ (.string y.b2)).setCell ⟨b, 6, none⟩ (.string y.b3)).setCell ⟨b, 7, none⟩ (.string y.b4)).setCell ⟨b, 8, none⟩ (.string y.b5)).setCell ⟨b, 9, none⟩ (.string y.b6)).setCell ⟨b, 10, none⟩ (.string y.b7))) b (kc y) := (((((((((((h.set 0 (.string y.name)).set 1 (.int .i64 y.kind)).set 2 (.string y.frm)).set 3 (.string y.b0)).set 4 (.string y.b1)).set 5 (.string y.b2)).set 6 (.string y.b3)).set 7 (.string y.b4)).set 8 (.string y.b5)).set 9 (.string y.b6)).set 10 (.string y.b7))

theorem Box.other11 {w : World} {a b : Nat} {vs : List Value} (h : Box w a vs) (hb : a ≠ b) (y : SetM) : Box ((((((((((((w.setCell ⟨b, 0, none⟩ (.string y.name)).setCell ⟨b, 1, none⟩ (.int .i64 y.kind)).setCell ⟨b, 2, none⟩ (.string y.frm)).setCell ⟨b, 3, none⟩ (.string y.b0)).setCell ⟨b, 4, none⟩ (.string y.b1)).setCell ⟨b, 5, none⟩ (.string y.b2)).setCell ⟨b, 6, none⟩ (.string y.b3)).setCell ⟨b, 7, none⟩ (.string y.b4)).setCell ⟨b, 8, none⟩ (.string y.b5)).setCell ⟨b, 9, none⟩ (.string y.b6)).setCell ⟨b, 10, none⟩ (.string y.b7))) a vs := (((((((((((h.other (p := ⟨b, 0, none⟩) hb (.string y.name)).other (p := ⟨b, 1, none⟩) hb (.int .i64 y.kind)).other (p := ⟨b, 2, none⟩) hb (.string y.frm)).other (p := ⟨b, 3, none⟩) hb (.string y.b0)).other (p := ⟨b, 4, none⟩) hb (.string y.b1)).other (p := ⟨b, 5, none⟩) hb (.string y.b2)).other (p := ⟨b, 6, none⟩) hb (.string y.b3)).other (p := ⟨b, 7, none⟩) hb (.string y.b4)).other (p := ⟨b, 8, none⟩) hb (.string y.b5)).other (p := ⟨b, 9, none⟩) hb (.string y.b6)).other (p := ⟨b, 10, none⟩) hb (.string y.b7))
theorem below_set11 {B : Nat} {w0 w : World} {b : Nat} (h : Below B w0 w) (hb : B ≤ b) (y : SetM) : Below B w0 ((((((((((((w.setCell ⟨b, 0, none⟩ (.string y.name)).setCell ⟨b, 1, none⟩ (.int .i64 y.kind)).setCell ⟨b, 2, none⟩ (.string y.frm)).setCell ⟨b, 3, none⟩ (.string y.b0)).setCell ⟨b, 4, none⟩ (.string y.b1)).setCell ⟨b, 5, none⟩ (.string y.b2)).setCell ⟨b, 6, none⟩ (.string y.b3)).setCell ⟨b, 7, none⟩ (.string y.b4)).setCell ⟨b, 8, none⟩ (.string y.b5)).setCell ⟨b, 9, none⟩ (.string y.b6)).setCell ⟨b, 10, none⟩ (.string y.b7))) := (((((((((((h.setCell (p := ⟨b, 0, none⟩) hb (.string y.name)).setCell (p := ⟨b, 1, none⟩) hb (.int .i64 y.kind)).setCell (p := ⟨b, 2, none⟩) hb (.string y.frm)).setCell (p := ⟨b, 3, none⟩) hb (.string y.b0)).setCell (p := ⟨b, 4, none⟩) hb (.string y.b1)).setCell (p := ⟨b, 5, none⟩) hb (.string y.b2)).setCell (p := ⟨b, 6, none⟩) hb (.string y.b3)).setCell (p := ⟨b, 7, none⟩) hb (.string y.b4)).setCell (p := ⟨b, 8, none⟩) hb (.string y.b5)).setCell (p := ⟨b, 9, none⟩) hb (.string y.b6)).setCell (p := ⟨b, 10, none⟩) hb (.string y.b7))
theorem size_set11 (w : World) (b : Nat) (y : SetM) : ((((((((((((w.setCell ⟨b, 0, none⟩ (.string y.name)).setCell ⟨b, 1, none⟩ (.int .i64 y.kind)).setCell ⟨b, 2, none⟩ (.string y.frm)).setCell ⟨b, 3, none⟩ (.string y.b0)).setCell ⟨b, 4, none⟩ (.string y.b1)).setCell ⟨b, 5, none⟩ (.string y.b2)).setCell ⟨b, 6, none⟩ (.string y.b3)).setCell ⟨b, 7, none⟩ (.string y.b4)).setCell ⟨b, 8, none⟩ (.string y.b5)).setCell ⟨b, 9, none⟩ (.string y.b6)).setCell ⟨b, 10, none⟩ (.string y.b7))).heap.size = w.heap.size := by simp [World.setCell]

theorem setAt_of_box {w : World} {b : Nat} {x : SetM} (h : Box w b (kc x)) : SetAt w b 0 x := fun j u hu => by
  rw [Nat.zero_add]; exact h.cell j hu

set_option maxHeartbeats 2000000 in
theorem l4Roots_any (v : Value) (ls : List SetM) (x : SetM) (w : World) (h : BookR w v ls) (hs : ls.length ≤ 6) (hn : ∀ y ∈ ls, NameOk y.name) (ha : Asc ls) :
    Calls Tryz.prog 102 #[.agg #[v], .agg #[.string x.name, .int .i64 x.kind, .string x.frm, .string x.b0, .string x.b1, .string x.b2, .string x.b3, .string x.b4, .string x.b5, .string x.b6, .string x.b7]] w fun e w' => e = .returned (.bool (rootsM ls (ls.length + 1) x)) ∧ Below w.heap.size w w' := by
  have hnot : ∀ (x : Bool) (w : World), (Op.unary .not (.bool x)).run Tryz.prog w = .ok (.bool (!x)) w := fun _ _ => rfl
  obtain ⟨ok, HOK⟩ : ∃ ok, Hid (rootsM ls (ls.length + 1) x = ok) := ⟨_, Lib.hid rfl⟩
  rw [HOK.out]
  obtain ⟨hX, hY, hsz, hb0⟩ := box2 w #[v] #[.string x.name, .int .i64 x.kind, .string x.frm, .string x.b0, .string x.b1, .string x.b2, .string x.b3, .string x.b4, .string x.b5, .string x.b6, .string x.b7] 94 140
  have HR := Lib.hid h
  have HN := Lib.hid hn
  have HA := Lib.hid ha
  have HX := Lib.hid hX
  have HY := Lib.hid (show Box _ (w.heap.size + 1) (kc x) from hY)
  have HW := Lib.hid hb0
  clear h hn ha hX hY hb0
  obtain ⟨A, c, rfl⟩ := HR.out.form
  obtain ⟨n, HL⟩ : ∃ n, Hid (ls.length = n) := ⟨_, Lib.hid rfl⟩
  rw [HL.out] at hs hsz HX HW HY HOK
  rw [HL.out]
  have HR2 : Hid (BookR w (.slice A n c) ls) := Lib.hid (by have := HR.out; rwa [HL.out] at this)
  clear HR
  go_enter Tryz.func102, Tryz.ntmps102
  go_wp2
  generalize ((w.alloc (.cells #[.slice A n c] 94)).alloc (.cells #[.string x.name, .int .i64 x.kind, .string x.frm, .string x.b0, .string x.b1, .string x.b2, .string x.b3, .string x.b4, .string x.b5, .string x.b6, .string x.b7] 140)) = W at HX HY HW hsz
  go_loopw [5] (fun i wr => ∃ (k : Nat) (z : SetM), k ≤ n + 1 ∧ i = .int .i64 k ∧ w.heap.size + 2 ≤ wr.heap.size ∧ Hid (Box wr w.heap.size [.slice A n c]) ∧ Hid (Box wr (w.heap.size + 1) (kc z)) ∧ Hid (Below w.heap.size w wr) ∧ Hid (rootsM ls (n + 1 - k) z = ok)) (fun i _ => n + 1 - (intOf i).toNat)
  case atStart => exact ⟨0, x, Nat.zero_le _, rfl, by omega, HX, HY, HW, Lib.hid HOK.out⟩
  case round =>
    obtain ⟨k, z, hk, rfl, hsw, HX1, HY1, HW1, HQ⟩ := hrel
    clear HX HY HW HOK
    have x0 := HX1.out.cell 0 rfl
    obtain ⟨g0, g1, g2, g3, g4, g5, g6, g7, g8, g9, g10⟩ := (setAt_of_box HY1.out).all
    simp only [Nat.zero_add] at g1 g2 g3 g4 g5 g6 g7 g8 g9 g10
    by_cases hlt : k ≤ n
    · obtain ⟨m, HM⟩ : ∃ m, Hid (n + 1 - k = m + 1) := ⟨n - k, Lib.hid (by omega)⟩
      rw [HM.out] at HQ
      by_cases he : z.frm.size = 0
      · have he2 := eqEmpty he
        have HF := Lib.hid ((roots_empty HN.out he).symm.trans HQ.out)
        clear HQ he
        by_cases hk1 : z.kind = 1
        · have HF2 := Lib.hid (HF.out.symm.trans (decide_eq_true hk1))
          go_wp2
          go_ret
          exact ⟨ret_boolB HF2.out.symm, HW1.out⟩
        · have HF2 := Lib.hid (HF.out.symm.trans (decide_eq_false hk1))
          have hkq : (z.kind == 1) = false := by simp [hk1]
          go_wp2
          go_ret
          exact ⟨ret_boolB HF2.out.symm, HW1.out⟩
      · have he2 := neEmpty he
        have HE := Lib.hid he
        clear he
        go_wp2_with fail
        have HR1 := Lib.hid (HR2.out.below HW1.out (Nat.le_refl _))
        refine (l4At_any _ ls z.frm _ HR1.out (by rw [HL.out]; omega)).mono ?_
        rintro e w2 ⟨rfl, hb⟩
        have HX2 := Lib.hid (HX1.out.below hb (by omega))
        have HY2 := Lib.hid (HY1.out.below hb (by omega))
        have HW2 := Lib.hid (HW1.out.trans (hb.mono HW1.out.size))
        have hsw2 : w.heap.size + 2 ≤ w2.heap.size := Nat.le_trans hsw hb.size
        clear hb HX1 HY1 HW1 HR1 x0 g0 g1 g2 g3 g4 g5 g6 g7 g8 g9 g10 he2 hsw
        obtain ⟨at_, HAT⟩ : ∃ at_, Hid (atM ls z.frm = at_) := ⟨_, Lib.hid rfl⟩
        obtain ⟨th, HTH⟩ : ∃ th, Hid (thereM ls z.frm = th) := ⟨_, Lib.hid rfl⟩
        rw [HAT.out, HTH.out]
        have x0 := HX2.out.cell 0 rfl
        obtain ⟨g0, g1, g2, g3, g4, g5, g6, g7, g8, g9, g10⟩ := (setAt_of_box HY2.out).all
        simp only [Nat.zero_add] at g1 g2 g3 g4 g5 g6 g7 g8 g9 g10
        cases th with
        | false =>
          have HF := Lib.hid ((roots_none HA.out HE.out HTH.out).symm.trans HQ.out)
          go_wp2_with fail
          go_quiet (fail)
          go_wp2
          go_ret
          exact ⟨ret_boolB HF.out, below_drewN HW2.out _⟩
        | true =>
          obtain ⟨hal, -⟩ := there_lt HTH.out
          obtain ⟨y, hyy⟩ : ∃ y, ls[atM ls z.frm]? = some y := ⟨_, List.getElem?_eq_getElem hal⟩
          have HS := Lib.hid ((roots_some (m := m) HA.out HE.out HTH.out hyy).symm.trans HQ.out)
          have hpos : 0 < n := by have := HL.out; omega
          have hat : at_ < n := by have := HL.out; have := HAT.out; omega
          have hcells := (HR2.out.below HW2.out (Nat.le_refl _)).r
          rw [HL.out] at hcells
          obtain ⟨b, off, c', hv, hnc, hcm, hcell⟩ := hcells.form hpos
          injection hv with e1 e2 e3
          subst e1 e3
          have hrd := set_read hcell at_ (by rw [HL.out]; exact hat)
          have hy2 : ls[at_]'(by rw [HL.out]; exact hat) = y := by rw [HAT.out] at hyy; exact (List.getElem?_eq_some_iff.1 hyy).2
          rw [hy2] at hrd
          obtain ⟨q0, q1, q2, q3, q4, q5, q6, q7, q8, q9, q10⟩ := hrd.all
          have hat2 : (at_ : Int) < (n : Int) := by omega
          unfold maxLen at hcm
          have hbl : b < w.heap.size := HR2.out.l b rfl
          clear hrd hcell hcells hyy hal hy2
          by_cases hky : y.kind = z.kind
          · have HF := Lib.hid (HS.out.symm.trans (if_pos hky))
            have hkq : (y.kind == z.kind) = true := by simp [hky]
            clear HS hky
            go_wp2_with fail
            go_quiet (fail)
            go_wp2
            go_ret
            exact ⟨ret_boolB HF.out.symm, below_drewN HW2.out _⟩
          · have HF := Lib.hid ((if_neg hky).symm.trans HS.out)
            have hkq : (y.kind == z.kind) = false := by simp [hky]
            clear HS hky
            have f0 := HY2.out.open_ 0
            have f1 := HY2.out.open_ 1
            have f2 := HY2.out.open_ 2
            have f3 := HY2.out.open_ 3
            have f4 := HY2.out.open_ 4
            have f5 := HY2.out.open_ 5
            have f6 := HY2.out.open_ 6
            have f7 := HY2.out.open_ 7
            have f8 := HY2.out.open_ 8
            have f9 := HY2.out.open_ 9
            have f10 := HY2.out.open_ 10
            go_wp2_with fail
            go_quiet (fail)
            go_wp2
            go_roundw
            case rel => exact ⟨k + 1, y, by omega, by go_num, by simpa [World.setCell] using hsw2, Lib.hid (Box.other11 (HX2.out.drewN _) (by omega) y), Lib.hid (Box.set11 (HY2.out.drewN _) y), Lib.hid (below_set11 (below_drewN HW2.out _) (by omega) y), Lib.hid (by have := HM.out; rw [show n + 1 - (k + 1) = m by omega]; exact HF.out)⟩
            case measure => simp [intOf]; omega
    · have HF := Lib.hid (show false = ok from by have := HQ.out; rw [show n + 1 - k = 0 by omega] at this; exact this)
      go_wp2
      go_ret
      exact ⟨ret_boolB HF.out, HW1.out⟩
end Go.Proofs.YtobjgdnmlibofaaGreat

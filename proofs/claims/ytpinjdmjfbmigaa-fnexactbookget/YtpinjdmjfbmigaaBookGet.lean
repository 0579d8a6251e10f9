/-
  Both BookGet.
-/
import Derived.Test.YtpinjdmjfbmigaaImOk
set_option maxRecDepth 100000
namespace Go.Proofs.Ytpinjdmjfbmigaa
open Go.ChangeShapes Go.WideShapes Go.ChangeAt Go.RowKit Go.Proofs.Palim Go.Maps

/-- The block of a name at i, and its code. -/
def getM (ls : List SetM) (s : ByteArray) (i : Int) : ByteArray × Int :=
  if BookOkM ls ∧ 0 ≤ i ∧ i < 8 then
    match findM ls s with
    | none => (⟨#[]⟩, 1)
    | some x => (x.bs.getD i.toNat ⟨#[]⟩, 0)
  else (⟨#[]⟩, 5)
theorem get_bad {ls : List SetM} {s : ByteArray} {i : Int} (h : ¬ (BookOkM ls ∧ 0 ≤ i ∧ i < 8)) : getM ls s i = (⟨#[]⟩, 5) := if_neg h
theorem get_none {ls : List SetM} {s : ByteArray} {i : Int} (h : BookOkM ls ∧ 0 ≤ i ∧ i < 8) (hf : findM ls s = none) : getM ls s i = (⟨#[]⟩, 1) := by unfold getM; rw [if_pos h, hf]
theorem get_some {ls : List SetM} {s : ByteArray} {j : Nat} {x : SetM} (h : BookOkM ls) (hj : j < 8) (hf : findM ls s = some x) : getM ls s (j : Int) = (x.bs[j]'hj, 0) := by
  unfold getM
  rw [if_pos ⟨h, by omega, by omega⟩, hf]
  simp only [Int.toNat_natCast]
  rw [show x.bs.getD j ⟨#[]⟩ = x.bs[j]'hj from by simp [List.getD, List.getElem?_eq_getElem (show j < x.bs.length from hj)]; rfl]
theorem ret_get {a b : ByteArray × Int} (h : a = b) : Ending.returned (.tuple #[.string a.1, .int .i64 a.2]) = Ending.returned (.tuple #[.string b.1, .int .i64 b.2]) := by rw [h]

set_option maxHeartbeats 2000000 in
theorem BookGet_any (v : Value) (ls : List SetM) (s : ByteArray) (i : Int) (w : World) (h : BookR w v ls) (hs : BookShort ls) :
    Calls Try.prog 21 #[.agg #[v], .string s, .int .i64 i] w fun e w' => e = .returned (.tuple #[.string (getM ls s i).1, .int .i64 (getM ls s i).2]) ∧ Below w.heap.size w w' := by
  have hnot : ∀ (x : Bool) (w : World), (Op.unary .not (.bool x)).run Try.prog w = .ok (.bool (!x)) w := fun _ _ => rfl
  obtain ⟨g, HGM⟩ : ∃ g, Hid (getM ls s i = g) := ⟨_, Lib.hid rfl⟩
  rw [HGM.out]
  have HS := Lib.hid hs
  have XB := Lib.hid (bbox_new h 25)
  have HW := Lib.hid (Below.new1 (w := w) (.cells #[v] 25))
  obtain ⟨A, c, rfl⟩ := h.form
  obtain ⟨n, HL⟩ : ∃ n, Hid (ls.length = n) := ⟨_, Lib.hid rfl⟩
  have hn := HS.out.n
  rw [HL.out] at XB HW hn ⊢
  clear h hs
  go_enter Try.func21, Try.ntmps21
  go_wp2_with fail
  refine (l4At_any _ ls s _ XB.out.reads HS.out.n).mono ?_
  rintro e w1 ⟨rfl, hb⟩
  have XB1 := Lib.hid (XB.out.below hb)
  have HW1 := Lib.hid (HW.out.trans (hb.mono HW.out.size))
  clear hb XB HW
  obtain ⟨at_, HAT⟩ : ∃ at_, Hid (atM ls s = at_) := ⟨_, Lib.hid rfl⟩
  obtain ⟨th, HTH⟩ : ∃ th, Hid (thereM ls s = th) := ⟨_, Lib.hid rfl⟩
  rw [HAT.out, HTH.out]
  have x0 := XB1.out.cell
  go_wp2_with fail
  refine (BookOk_any _ ls _ XB1.out.reads HS.out).mono ?_
  rintro e w2 ⟨rfl, hb⟩
  have XB2 := Lib.hid (XB1.out.below hb)
  have HW2 := Lib.hid (HW1.out.trans (hb.mono HW1.out.size))
  clear hb XB1 HW1 x0
  have x0 := XB2.out.cell
  by_cases hok : BookOkM ls
  case neg =>
    have HF := Lib.hid (HGM.out.symm.trans (get_bad fun c => hok c.1))
    rw [decide_eq_false hok]
    clear hok
    go_wp2
    go_ret2
    exact ⟨ret_get HF.out.symm, HW2.out⟩
  case pos =>
  rw [decide_eq_true hok]
  have HOK := Lib.hid hok
  clear hok
  by_cases hi : 0 ≤ i ∧ i < 8
  case neg =>
    have HF := Lib.hid (HGM.out.symm.trans (get_bad fun c => hi c.2))
    by_cases h1 : i < 0
    · go_wp2
      go_ret2
      exact ⟨ret_get HF.out.symm, HW2.out⟩
    · have h2 : i ≥ 8 := by omega
      go_wp2
      go_ret2
      exact ⟨ret_get HF.out.symm, HW2.out⟩
  case pos =>
  obtain ⟨j, rfl⟩ : ∃ j : Nat, i = (j : Int) := ⟨i.toNat, by omega⟩
  have hj : j < 8 := by omega
  have hj1 : ¬ (j : Int) < 0 := by omega
  have hj2 : ¬ (j : Int) ≥ 8 := by omega
  clear hi
  cases th with
  | false =>
    have HF := Lib.hid (HGM.out.symm.trans (get_none ⟨HOK.out, by omega, by omega⟩ (by rw [find_at HOK.out.2.2.1, HTH.out]; simp)))
    go_wp2
    go_ret2
    exact ⟨ret_get HF.out.symm, HW2.out⟩
  | true =>
    obtain ⟨hal, -⟩ := there_lt HTH.out
    obtain ⟨y, hyy⟩ : ∃ y, ls[atM ls s]? = some y := ⟨_, List.getElem?_eq_getElem hal⟩
    have HF := Lib.hid (HGM.out.symm.trans (get_some (x := y) HOK.out hj (by rw [find_at HOK.out.2.2.1, HTH.out, if_pos rfl, hyy])))
    have hat : at_ < n := by have := HL.out; have := HAT.out; omega
    have hcells := XB2.out.reads.r
    rw [HL.out] at hcells
    obtain ⟨b, off, c', hv, hnc, hcm, hcell⟩ := hcells.form (by omega)
    injection hv with e1 e2 e3
    subst e1 e3
    have hrd := set_read hcell at_ (by rw [HL.out]; exact hat)
    have hy2 : ls[at_]'(by rw [HL.out]; exact hat) = y := by rw [HAT.out] at hyy; exact (List.getElem?_eq_some_iff.1 hyy).2
    rw [hy2] at hrd
    have q0 := hrd.blk j hj
    have hat2 : (at_ : Int) < (n : Int) := by omega
    have hj3 : (j : Int) < 8 := by omega
    unfold maxLen at hcm
    clear hrd hcell hcells hyy hal hy2 e2
    generalize y.bs[j]'hj = t at q0 HF
    go_wp2
    go_ret2
    exact ⟨ret_get HF.out.symm, HW2.out⟩

set_option maxHeartbeats 2000000 in
theorem ImplBookGet_any (v : Value) (ls : List SetM) (s : ByteArray) (i : Int) (w : World) (h : BookR w v ls) (hs : BookShort ls) (hz : s.size ≤ maxLen) :
    Calls Try.prog 22 #[.agg #[v], .string s, .int .i64 i] w fun e w' => e = .returned (.tuple #[.string (getM ls s i).1, .int .i64 (getM ls s i).2]) ∧ Below w.heap.size w w' := by
  have hnot : ∀ (x : Bool) (w : World), (Op.unary .not (.bool x)).run Try.prog w = .ok (.bool (!x)) w := fun _ _ => rfl
  obtain ⟨g, HGM⟩ : ∃ g, Hid (getM ls s i = g) := ⟨_, Lib.hid rfl⟩
  rw [HGM.out]
  have HS := Lib.hid hs
  have HZ := Lib.hid hz
  have XB := Lib.hid (bbox_new h 25)
  have HW := Lib.hid (Below.new1 (w := w) (.cells #[v] 25))
  obtain ⟨A, c, rfl⟩ := h.form
  clear h hs hz
  go_enter Try.func22, Try.ntmps22
  go_wp2_with fail
  refine (ImplBookOk_any _ ls _ XB.out.reads HS.out).mono ?_
  rintro e w2 ⟨rfl, hb⟩
  have XB2 := Lib.hid (XB.out.below hb)
  have HW2 := Lib.hid (HW.out.trans (hb.mono HW.out.size))
  clear hb XB HW
  have x0 := XB2.out.cell
  by_cases hok : BookOkM ls
  case neg =>
    have HF := Lib.hid (HGM.out.symm.trans (get_bad fun c => hok c.1))
    rw [decide_eq_false hok]
    clear hok
    go_wp2
    go_ret2
    exact ⟨ret_get HF.out.symm, HW2.out⟩
  case pos =>
  rw [decide_eq_true hok]
  have HOK := Lib.hid hok
  clear hok
  by_cases hi : 0 ≤ i ∧ i < 8
  case neg =>
    have HF := Lib.hid (HGM.out.symm.trans (get_bad fun c => hi c.2))
    by_cases h1 : i < 0
    · go_wp2
      go_ret2
      exact ⟨ret_get HF.out.symm, HW2.out⟩
    · have h2 : i ≥ 8 := by omega
      go_wp2
      go_ret2
      exact ⟨ret_get HF.out.symm, HW2.out⟩
  case pos =>
  obtain ⟨j, rfl⟩ : ∃ j : Nat, i = (j : Int) := ⟨i.toNat, by omega⟩
  have hj : j < 8 := by omega
  have hj1 : ¬ (j : Int) < 0 := by omega
  have hj2 : ¬ (j : Int) ≥ 8 := by omega
  clear hi
  go_wp2_with fail
  refine (bookOpen_any _ ls _ XB2.out.reads HOK.out.1 HOK.out.2.2.1 (fun x hx => by have := (HS.out.z x hx).1; unfold maxLen; omega)).mono ?_
  rintro e w3 ⟨m, Lb, rfl, hsb, hlb, hb⟩
  have HW3 := Lib.hid (HW2.out.trans (hb.mono HW2.out.size))
  have hlook := hsb.map.look HZ.out
  have HSB := Lib.hid hsb
  clear hsb hb XB2 HW2 x0
  rcases look_find Lb s with ⟨h1, h2⟩ | ⟨p, hp, h1, h2, -⟩
  · rw [h1] at hlook
    rw [hlb] at h2
    simp only [lookV, Option.map_none, Option.isSome_none] at hlook
    have HF := Lib.hid (HGM.out.symm.trans (get_none ⟨HOK.out, by omega, by omega⟩ h2))
    clear h1 h2 hlb
    go_wp2
    go_ret2
    exact ⟨ret_get HF.out.symm, HW3.out⟩
  · rw [h1] at hlook
    rw [hlb] at h2
    obtain ⟨pb, y⟩ := p
    simp only [lookV, Option.map_some, Option.isSome_some] at hlook
    have HF := Lib.hid (HGM.out.symm.trans (get_some HOK.out hj h2))
    have q0 := (setAt_of_box (HSB.out.box (pb, y) hp).1).blk j hj
    rw [Nat.zero_add] at q0
    have hj3 : (j : Int) < 8 := by omega
    simp only at q0 HF
    clear h1 h2 hlb hp
    generalize y.bs[j]'hj = t at q0 HF
    go_wp2
    go_ret2
    exact ⟨ret_get HF.out.symm, HW3.out⟩
end Go.Proofs.Ytpinjdmjfbmigaa

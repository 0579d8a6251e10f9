/-
  The ring's word read: what a text spells; the pieces of the reading that may panic.
-/
import Derived.Test.YtfcfgdpelbljnaaGreatDoorCut32
import Derived.Test.YtfcfgdpelbljnaaGreatDoorTexts
import Derived.Test.YtfcfgdpelbljnaaGreatDoorPtrRds
import Derived.Test.YtfcfgdpelbljnaaGreatDoorSumFacts
import Derived.Test.YtfcfgdpelbljnaaGreatDoorImplOpen
set_option maxRecDepth 100000
namespace Go.Proofs.YtfcfgdpelbljnaaGreatDoor
open Go.ChangeShapes Go.WideShapes Go.ChangeAt Go.RowKit Go.Proofs.Palim

theorem dd_space (m : Nat) : (32 : UInt8) ∉ Lib.decDigits m := fun h => by
  have := dd_all m 32 h
  simp at this
theorem ptr_space (p : PtrM) : (32 : UInt8) ∉ (ptrText p).data.toList := by
  by_cases hg : GoodM p
  · rw [good_text hg]
    obtain ⟨a, b, c, _, _, _, _, e⟩ := good_dd hg
    show (32 : UInt8) ∉ ptrL p
    rw [e]
    intro h
    rcases List.mem_append.1 h with h | h
    · exact dd_space a h
    · rcases List.mem_cons.1 h with h | h
      · simp at h
      · rcases List.mem_append.1 h with h | h
        · exact dd_space b h
        · rcases List.mem_cons.1 h with h | h
          · simp at h
          · exact dd_space c h
  · by_cases hn : NullM p
    · rw [null_text hn]; simp
    · unfold ptrText
      rw [if_pos (fun c : PtrOkM p => c.elim hn hg)]
      simp
theorem uber_list (n : Nat) (p : PtrM) : (uberB (n : Int) p).data.toList = Lib.decDigits n ++ 32 :: ((ptrText p).data.toList ++ 32 :: Lib.decDigits n) := by
  unfold uberB
  rw [Lib.itoa_nonneg]
  simp
theorem uber_pieces (n : Nat) (p : PtrM) : pieces32 (uberB (n : Int) p).data.toList = [Lib.decDigits n, (ptrText p).data.toList, Lib.decDigits n] := by
  rw [uber_list, pieces_cut32 _ _ (dd_space n), pieces_cut32 _ _ (ptr_space p), pieces_one32 _ (dd_space n)]
theorem uber_open {n : Int} {p : PtrM} (h : UberOk n p) : openB (uberText n p) = some (uberB n p) := by
  unfold uberText
  rw [if_pos h]
  refine open_seal _ ?_
  have l1 := Lib.itoa_length_le n (by have := h.1; omega) (by have := h.2.1; omega)
  have l2 := ptrText_bd p h.2.2
  unfold uberB
  rw [ByteArray.size_append, ByteArray.size_append, ByteArray.size_append, ByteArray.size_append]
  have e1 : (⟨(Lib.itoa n).toArray⟩ : ByteArray).size = (Lib.itoa n).length := by show (Lib.itoa n).toArray.size = _; simp
  have e2 : (⟨#[32]⟩ : ByteArray).size = 1 := rfl
  omega
/-- The word spells these. -/
def Spells (t : ByteArray) (n : Int) (p : PtrM) : Prop := UberOk n p ∧ uberText n p = t
theorem spells_at {t s : ByteArray} {n : Int} {p : PtrM} {ps : List ByteArray} (h : Spells t n p) (ho : openB t = some s) (hp : ps.map (fun b => b.data.toList) = pieces32 s.data.toList) :
    ∃ m : Nat, n = (m : Int) ∧ m < 100000000 ∧ ∃ (h3 : ps.length = 3), (ps[0]'(by omega)).data.toList = Lib.decDigits m ∧ ps[1]'(by omega) = ptrText p := by
  obtain ⟨h1, rfl⟩ := h
  rw [uber_open h1] at ho
  obtain rfl := Option.some.inj ho
  obtain ⟨m, rfl⟩ : ∃ m : Nat, n = m := ⟨n.toNat, by have := h1.1; omega⟩
  rw [uber_pieces] at hp
  have hl : ps.length = 3 := by have := congrArg List.length hp; simpa using this
  refine ⟨m, rfl, by have := h1.2.1; omega, hl, ?_, ?_⟩
  · match ps, hl with
    | [a, b, c], _ => simp at hp; exact hp.1
  · match ps, hl with
    | [a, b, c], _ =>
      simp at hp
      have := hp.2.1
      simp only [List.getElem_cons_succ, List.getElem_cons_zero]
      exact ByteArray.ext this
theorem spells_one {t : ByteArray} {n m : Int} {p q : PtrM} (h : Spells t n p) (k : Spells t m q) : n = m ∧ p = q := by
  have h1 := uber_open h.1
  have k1 := uber_open k.1
  rw [h.2] at h1
  rw [k.2] at k1
  have e := Option.some.inj (h1.symm.trans k1)
  obtain ⟨a, rfl⟩ : ∃ a : Nat, n = a := ⟨n.toNat, by have := h.1.1; omega⟩
  obtain ⟨b, rfl⟩ : ∃ b : Nat, m = b := ⟨m.toNat, by have := k.1.1; omega⟩
  have e2 := congrArg (fun x : ByteArray => pieces32 x.data.toList) e
  simp only [uber_pieces] at e2
  injection e2 with e3 e4
  injection e4 with e5 e6
  have hab : a = b := by have := congrArg (valF 0) e3; rwa [dd_val, dd_val] at this
  refine ⟨by rw [hab], text_inj (Or.inr h.1.2.2) (Or.inr k.1.2.2) ?_⟩
  apply ByteArray.ext
  apply Array.ext'
  exact e5
theorem open_ne {t s : ByteArray} (h : openB t = some s) : t ≠ ⟨#[]⟩ := by
  rintro rfl
  have : openB ⟨#[]⟩ = none := by unfold openB; exact if_pos rfl
  rw [this] at h; cases h
theorem spells_of {t s : ByteArray} {n : Int} {p : PtrM} (ho : openB t = some s) (h : uberText n p = t) : Spells t n p := by
  refine ⟨Classical.byContradiction fun hn => open_ne ho ?_, h⟩
  rw [← h]; unfold uberText; rw [if_neg hn]
theorem spells_no {t s : ByteArray} {ps : List ByteArray} (ho : openB t = some s) (hp : ps.map (fun b => b.data.toList) = pieces32 s.data.toList) (hl : ps.length ≠ 3) : ∀ n p, ¬ Spells t n p := fun n p h => by
  obtain ⟨_, _, _, h3, _⟩ := spells_at h ho hp
  exact hl h3
theorem spells_none {t : ByteArray} (ho : openB t = none) : ∀ n p, ¬ Spells t n p := fun n p h => by
  have := uber_open h.1
  rw [h.2, ho] at this; cases this

def NumOfPost (s : ByteArray) (w : World) (e : Ending) (w' : World) : Prop :=
  Below w.heap.size w w' ∧ ((∃ n, Lib.atoiAll s.data.toList = .ok n ∧ e = .returned (.int .i64 n)) ∨ ((∀ n, Lib.atoiAll s.data.toList ≠ .ok n) ∧ e = .panicked malformed))
theorem numberOf_any (s : ByteArray) (w : World) (hs : s.size ≤ 1048576) (hv : LibVars w) : Calls Tryz.prog 56 #[.string s] w (NumOfPost s w) := by
  go_enter Tryz.func56, Tryz.ntmps56
  go_wp2_with fail
  refine (atoi_any s _ hs hv).mono ?_
  rintro e w1 ⟨hb, h⟩
  rcases h with ⟨n, hn, rfl⟩ | ⟨hn, n, te, pe, rfl⟩
  · have HN := Lib.hid hn
    clear hn
    go_wp2
    go_ret
    exact ⟨hb, Or.inl ⟨n, HN.out, rfl⟩⟩
  · have HN := Lib.hid hn
    clear hn
    go_wp2
    exact ⟨rfl, hb, Or.inr ⟨HN.out, rfl⟩⟩
def PtrOfPost (s : ByteArray) (w : World) (e : Ending) (w' : World) : Prop :=
  Below w.heap.size w w' ∧ ((∃ p, readM s = some p ∧ e = .returned (pv p)) ∨ (readM s = none ∧ e = .panicked malformed))
theorem ptrOf_any (s : ByteArray) (w : World) (hs : s.size ≤ 1048576) (hv : LibVars w) : Calls Tryz.prog 57 #[.string s] w (PtrOfPost s w) := by
  have hnot : ∀ (x : Bool) (w : World), (Op.unary .not (.bool x)).run Tryz.prog w = .ok (.bool (!x)) w := fun _ _ => rfl
  have hn0 := Below.new (w := w) (.cells #[.int .i64 0, .int .i64 0, .int .i64 0] 24)
  have X0 := Lib.hid (box_new w #[.int .i64 0, .int .i64 0, .int .i64 0] 24)
  have B0 := Lib.hid hn0
  have HV0 := Lib.hid (hv.below hn0)
  clear hn0
  go_enter Tryz.func57, Tryz.ntmps57
  go_wp2_with fail
  refine (implPtrRead_any s _ hs HV0.out).mono ?_
  rintro e w1 ⟨hb, h⟩
  have X1 := Lib.hid (X0.out.below hb X0.out.lt)
  have B1 := Lib.hid (B0.out.trans (hb.mono B0.out.size))
  clear hb X0 B0
  rcases h with ⟨p, hp, rfl⟩ | ⟨hp, rfl⟩
  · have HP := Lib.hid hp
    clear hp
    have hl := X1.out.lt
    have c0 := X1.out.cell 0 rfl
    have c1 := X1.out.cell 1 rfl
    have c2 := X1.out.cell 2 rfl
    have f0 := X1.out.open_ 0
    have f1 := X1.out.open_ 1
    have f2 := X1.out.open_ 2
    have X3 := Lib.hid ((((X1.out.set 0 (.int .i64 p.at_)).set 1 (.int .i64 p.sum)).set 2 (.int .i64 p.birth)).alloc (.cells #[.int .i64 p.at_, .int .i64 p.sum, .int .i64 p.birth] 24))
    have B3 := Lib.hid ((((B1.out.setCell (p := ⟨w.heap.size, 0, none⟩) (Nat.le_refl _) (.int .i64 p.at_)).setCell (p := ⟨w.heap.size, 1, none⟩) (Nat.le_refl _) (.int .i64 p.sum)).setCell (p := ⟨w.heap.size, 2, none⟩) (Nat.le_refl _) (.int .i64 p.birth)).alloc (by simp; omega) (.cells #[.int .i64 p.at_, .int .i64 p.sum, .int .i64 p.birth] 24))
    go_wp2
    obtain ⟨y0, y1, y2⟩ := Box.three (x := .int .i64 p.at_) (y := .int .i64 p.sum) (z := .int .i64 p.birth) X3.out
    refine bodyPost_ret (v := pv p) ?_ rfl ⟨B3.out, Or.inl ⟨p, HP.out, rfl⟩⟩
    simp [results, Tryz.results57, go_sem, y0, y1, y2, pv]
  · have HP := Lib.hid hp
    clear hp
    go_wp2
    exact ⟨rfl, (B1.out.alloc B1.out.size _), Or.inr ⟨HP.out, rfl⟩⟩
end Go.Proofs.YtfcfgdpelbljnaaGreatDoor

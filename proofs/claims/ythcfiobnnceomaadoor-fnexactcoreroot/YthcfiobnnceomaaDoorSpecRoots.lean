/-
  The document's l4Roots.
-/
import Derived.Test.YthcfiobnnceomaaDoorSpecAt
set_option maxRecDepth 100000
namespace Go.Proofs.YthcfiobnnceomaaDoor
open Go.ChangeShapes Go.WideShapes Go.ChangeAt Go.RowKit Go.Proofs.Palim

theorem empty_of_size {s : ByteArray} (h : s.size = 0) : s = ⟨#[]⟩ := by
  obtain ⟨⟨l⟩⟩ := s
  have : l.length = 0 := h
  rw [List.length_eq_zero_iff.1 this]
theorem eqEmpty {s : ByteArray} (h : s.size = 0) : (s.toList == []) = true := by rw [empty_of_size h, ByteArray.toList_eq]; rfl
theorem neEmpty {s : ByteArray} (h : ¬ s.size = 0) : (s.toList == []) = false := by
  have h1 : (s == (⟨#[]⟩ : ByteArray)) = false := by
    rw [bytes_beq]
    exact decide_eq_false fun e => h (by rw [e]; rfl)
  rw [beq_toListBytes, ByteArray.toList_eq ⟨#[]⟩] at h1
  exact h1
theorem find_empty {ls : List SetM} (hn : ∀ y ∈ ls, NameOk y.name) {s : ByteArray} (h : s.size = 0) : findM ls s = none := by
  unfold findM
  rw [List.find?_eq_none]
  intro y hy
  have h1 := (hn y hy).1
  simp only [decide_eq_true_eq]
  intro e
  rw [e] at h1
  omega
theorem roots_empty {ls : List SetM} {x : SetM} {m : Nat} (hn : ∀ y ∈ ls, NameOk y.name) (h : x.frm.size = 0) : rootsM ls (m + 1) x = decide (x.kind = 1) := by
  rw [rootsM, find_empty hn h]
  by_cases hk : x.kind = 1
  · rw [if_pos ⟨hk, h⟩, decide_eq_true hk]
  · rw [if_neg (fun c => hk c.1), decide_eq_false hk]
theorem roots_none {ls : List SetM} {x : SetM} {m : Nat} (ha : Asc ls) (h : ¬ x.frm.size = 0) (ht : thereM ls x.frm = false) : rootsM ls (m + 1) x = false := by
  rw [rootsM, if_neg (fun c => h c.2), find_at ha, ht]
  simp
theorem roots_some {ls : List SetM} {x y : SetM} {m : Nat} (ha : Asc ls) (h : ¬ x.frm.size = 0) (ht : thereM ls x.frm = true) (hy : ls[atM ls x.frm]? = some y) : rootsM ls (m + 1) x = if y.kind = x.kind then false else rootsM ls m y := by
  rw [rootsM, if_neg (fun c => h c.2), find_at ha, ht, if_pos rfl, hy]
theorem there_lt {ls : List SetM} {s : ByteArray} (h : thereM ls s = true) : ∃ h : atM ls s < ls.length, ls[atM ls s].name = s := by
  unfold thereM at h
  split at h
  · rename_i x hx
    obtain ⟨hl, rfl⟩ := List.getElem?_eq_some_iff.1 hx
    exact ⟨hl, by simpa using h⟩
  · cases h

/-- The eleven cells of a set in a box, written. -/
theorem Box.set11 {w : World} {b : Nat} {x : SetM} (h : Box w b (kc x)) (y : SetM) :
    Box ((((((((((((w.setCell ⟨b, 0, none⟩ (.string y.name)).setCell ⟨b, 1, none⟩ (.int .i64 y.kind)).setCell ⟨b, 2, none⟩ (.string y.frm)).setCell ⟨b, 3, none⟩ (.string y.b0)).setCell ⟨b, 4, none⟩ (.string y.b1)).setCell ⟨b, 5, none⟩ (.string y.b2)).setCell ⟨b, 6, none⟩ (.string y.b3)).setCell ⟨b, 7, none⟩ (.string y.b4)).setCell ⟨b, 8, none⟩ (.string y.b5)).setCell ⟨b, 9, none⟩ (.string y.b6)).setCell ⟨b, 10, none⟩ (.string y.b7))) b (kc y) := (((((((((((h.set 0 (.string y.name)).set 1 (.int .i64 y.kind)).set 2 (.string y.frm)).set 3 (.string y.b0)).set 4 (.string y.b1)).set 5 (.string y.b2)).set 6 (.string y.b3)).set 7 (.string y.b4)).set 8 (.string y.b5)).set 9 (.string y.b6)).set 10 (.string y.b7))

theorem Box.other11 {w : World} {a b : Nat} {vs : List Value} (h : Box w a vs) (hb : a ≠ b) (y : SetM) : Box ((((((((((((w.setCell ⟨b, 0, none⟩ (.string y.name)).setCell ⟨b, 1, none⟩ (.int .i64 y.kind)).setCell ⟨b, 2, none⟩ (.string y.frm)).setCell ⟨b, 3, none⟩ (.string y.b0)).setCell ⟨b, 4, none⟩ (.string y.b1)).setCell ⟨b, 5, none⟩ (.string y.b2)).setCell ⟨b, 6, none⟩ (.string y.b3)).setCell ⟨b, 7, none⟩ (.string y.b4)).setCell ⟨b, 8, none⟩ (.string y.b5)).setCell ⟨b, 9, none⟩ (.string y.b6)).setCell ⟨b, 10, none⟩ (.string y.b7))) a vs := (((((((((((h.other (p := ⟨b, 0, none⟩) hb (.string y.name)).other (p := ⟨b, 1, none⟩) hb (.int .i64 y.kind)).other (p := ⟨b, 2, none⟩) hb (.string y.frm)).other (p := ⟨b, 3, none⟩) hb (.string y.b0)).other (p := ⟨b, 4, none⟩) hb (.string y.b1)).other (p := ⟨b, 5, none⟩) hb (.string y.b2)).other (p := ⟨b, 6, none⟩) hb (.string y.b3)).other (p := ⟨b, 7, none⟩) hb (.string y.b4)).other (p := ⟨b, 8, none⟩) hb (.string y.b5)).other (p := ⟨b, 9, none⟩) hb (.string y.b6)).other (p := ⟨b, 10, none⟩) hb (.string y.b7))
theorem below_set11 {B : Nat} {w0 w : World} {b : Nat} (h : Below B w0 w) (hb : B ≤ b) (y : SetM) : Below B w0 ((((((((((((w.setCell ⟨b, 0, none⟩ (.string y.name)).setCell ⟨b, 1, none⟩ (.int .i64 y.kind)).setCell ⟨b, 2, none⟩ (.string y.frm)).setCell ⟨b, 3, none⟩ (.string y.b0)).setCell ⟨b, 4, none⟩ (.string y.b1)).setCell ⟨b, 5, none⟩ (.string y.b2)).setCell ⟨b, 6, none⟩ (.string y.b3)).setCell ⟨b, 7, none⟩ (.string y.b4)).setCell ⟨b, 8, none⟩ (.string y.b5)).setCell ⟨b, 9, none⟩ (.string y.b6)).setCell ⟨b, 10, none⟩ (.string y.b7))) := (((((((((((h.setCell (p := ⟨b, 0, none⟩) hb (.string y.name)).setCell (p := ⟨b, 1, none⟩) hb (.int .i64 y.kind)).setCell (p := ⟨b, 2, none⟩) hb (.string y.frm)).setCell (p := ⟨b, 3, none⟩) hb (.string y.b0)).setCell (p := ⟨b, 4, none⟩) hb (.string y.b1)).setCell (p := ⟨b, 5, none⟩) hb (.string y.b2)).setCell (p := ⟨b, 6, none⟩) hb (.string y.b3)).setCell (p := ⟨b, 7, none⟩) hb (.string y.b4)).setCell (p := ⟨b, 8, none⟩) hb (.string y.b5)).setCell (p := ⟨b, 9, none⟩) hb (.string y.b6)).setCell (p := ⟨b, 10, none⟩) hb (.string y.b7))
theorem size_set11 (w : World) (b : Nat) (y : SetM) : ((((((((((((w.setCell ⟨b, 0, none⟩ (.string y.name)).setCell ⟨b, 1, none⟩ (.int .i64 y.kind)).setCell ⟨b, 2, none⟩ (.string y.frm)).setCell ⟨b, 3, none⟩ (.string y.b0)).setCell ⟨b, 4, none⟩ (.string y.b1)).setCell ⟨b, 5, none⟩ (.string y.b2)).setCell ⟨b, 6, none⟩ (.string y.b3)).setCell ⟨b, 7, none⟩ (.string y.b4)).setCell ⟨b, 8, none⟩ (.string y.b5)).setCell ⟨b, 9, none⟩ (.string y.b6)).setCell ⟨b, 10, none⟩ (.string y.b7))).heap.size = w.heap.size := by simp [World.setCell]

theorem setAt_of_box {w : World} {b : Nat} {x : SetM} (h : Box w b (kc x)) : SetAt w b 0 x := fun j u hu => by
  rw [Nat.zero_add]; exact h.cell j hu

end Go.Proofs.YthcfiobnnceomaaDoor

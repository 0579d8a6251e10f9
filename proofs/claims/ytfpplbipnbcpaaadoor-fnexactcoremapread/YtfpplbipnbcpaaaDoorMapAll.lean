/-
  Texts joined into one: the draws of disks, and what they want.
-/
import Derived.Test.YtfpplbipnbcpaaaDoorCut32
import Derived.Test.YtfpplbipnbcpaaaDoorCoreM
import Derived.Test.YtfpplbipnbcpaaaDoorPtrRdI
import Derived.Test.YtfpplbipnbcpaaaDoorUberM
import Derived.Laws.Tables
import Derived.Test.YtfpplbipnbcpaaaDoorPtrA
import Derived.Deep.RegionHeld3

/-
  A set's pointers read: what a text spells.
-/
set_option maxRecDepth 100000
namespace Go.Proofs.Palim
open Go
theorem pieces32_ne (l : List UInt8) : pieces32 l ≠ [] := by
  cases l with
  | nil => simp [pieces32]
  | cons x l =>
    rw [pieces32]
    split
    · simp
    · split <;> simp
theorem join_pieces32 : ∀ (l : List UInt8), Lib.join (pieces32 l) [32] = l
  | [] => by simp [pieces32, Lib.join_one]
  | x :: l => by
    have ih := join_pieces32 l
    rw [pieces32]
    split
    · rename_i hx
      subst hx
      rw [Lib.join_cons, List.nil_append]
      cases hp : pieces32 l with
      | nil => exact absurd hp (pieces32_ne l)
      | cons p ps =>
        rw [hp, Lib.join_cons] at ih
        show Lib.joinTail [32] (p :: ps) = 32 :: l
        rw [← ih]
        simp [Lib.joinTail]
    · cases hp : pieces32 l with
      | nil => exact absurd hp (pieces32_ne l)
      | cons p ps =>
        rw [hp, Lib.join_cons] at ih
        simp only
        rw [Lib.join_cons, ← ih]
        simp
section
variable {P : Program} {w : World}
theorem results_box_tmp {fn : Func} {p q : Tmp} {ty : TypeId} {k : Nat} (h : fn.results = #[.cell p ty, .tmp q]) (tmps : Array Value) (g : Nat) (cs : List Value) (hA : Agg P ty k) (hk : cs.length = k) (v : Value) (hq : tmps.getD q undef = v)
    (hp : tmps.getD p undef = .pointer (some ⟨g, 0, none⟩)) (hB : Box w g cs) : (results fn tmps).run P w = .ok (.tuple #[.agg cs.toArray, v]) w := by
  have hp' : tmps[p]?.getD undef = .pointer (some ⟨g, 0, none⟩) := by simpa using hp
  have hq' : tmps[q]?.getD undef = v := by simpa using hq
  have := run_loadVar_cs (P := P) (w := w) (b := g) (off := 0) hA cs hk hB.cells
  simp [results, h, hp', hq', asAddr, this]
end
end Go.Proofs.Palim
namespace Go.Proofs.YtfpplbipnbcpaaaDoor
open Go.ChangeShapes Go.WideShapes Go.ChangeAt Go.RowKit Go.Proofs.Palim

theorem readM_spec {t : ByteArray} {p : PtrM} (h : readM t = some p) : PtrOkM p ∧ ptrText p = t := by
  unfold readM at h
  split at h
  · rename_i hx
    have := Classical.choose_spec hx
    rw [Option.some.inj h] at this
    exact this
  · cases h
/-- The text's eight words are these pointers. -/
structure MReads (t : ByteArray) (ps : List PtrM) : Prop where
  small : t.size ≤ 400
  eight : ps.length = 8
  words : ps.map (fun p => (ptrText p).data.toList) = pieces32 t.data.toList
  ok : ∀ p ∈ ps, PtrOkM p
theorem mreads_one {t : ByteArray} {ps qs : List PtrM} (h : MReads t ps) (k : MReads t qs) : ps = qs := by
  have e := h.words.trans k.words.symm
  have hl : ps.length = qs.length := h.eight.trans k.eight.symm
  refine List.ext_getElem hl fun i h1 h2 => ?_
  have e2 := congrArg (·[i]?) e
  simp [h1, h2] at e2
  exact text_inj (h.ok _ (List.getElem_mem h1)) (k.ok _ (List.getElem_mem h2)) (ByteArray.ext e2)
/-- The words as they are read. -/
theorem mreads_of {t : ByteArray} {ws : List ByteArray} {ps : List PtrM} (hs : t.size ≤ 400) (hw : ws.map (fun b => b.data.toList) = pieces32 t.data.toList) (h8 : ws.length = 8) (hp : ps.length = 8) (hr : ∀ (j : Nat) (h : j < ws.length) (h' : j < ps.length), readM ws[j] = some ps[j]) : MReads t ps := by
  refine ⟨hs, hp, ?_, ?_⟩
  · rw [← hw]
    refine List.ext_getElem (by simp [h8, hp]) fun i h1 h2 => ?_
    simp at h1 h2
    simp only [List.getElem_map]
    rw [(readM_spec (hr i h2 h1)).2]
  · intro p hpm
    obtain ⟨j, hj, rfl⟩ := List.mem_iff_getElem.1 hpm
    exact (readM_spec (hr j (by omega) hj)).1
theorem mreads_at {t : ByteArray} {ws : List ByteArray} {ps : List PtrM} (h : MReads t ps) (hw : ws.map (fun b => b.data.toList) = pieces32 t.data.toList) : ws.length = 8 ∧ ∀ (j : Nat) (h1 : j < ws.length) (h2 : j < ps.length), readM ws[j] = some ps[j] := by
  have e := hw.trans h.words.symm
  have hl : ws.length = ps.length := by have := congrArg List.length e; simpa using this
  refine ⟨hl.trans h.eight, fun j h1 h2 => ?_⟩
  have e2 := congrArg (·[j]?) e
  simp [h1, h2] at e2
  exact readM_some (h.ok _ (List.getElem_mem h2)) (ByteArray.ext e2.symm)
theorem mreads_text {t : ByteArray} {ps : List PtrM} (h : MReads t ps) : mapText ps = t := by
  unfold mapText
  rw [if_pos (show MapOk ps from fun j hj => h.ok _ (List.getElem_mem hj))]
  unfold joinB
  rw [List.map_map, show (ps.map ((fun x => x.data.toList) ∘ ptrText)) = ps.map (fun p => (ptrText p).data.toList) from rfl, h.words]
  show (⟨(Lib.join (pieces32 t.data.toList) [32]).toArray⟩ : ByteArray) = t
  rw [join_pieces32]
def MReadPost (t : ByteArray) (w : World) (e : Ending) (w' : World) : Prop :=
  Below w.heap.size w w' ∧ ((∃ ps, MReads t ps ∧ e = .returned (.tuple #[.agg (pcs ps).toArray, .bool true])) ∨ ((∀ ps, ¬ MReads t ps) ∧ e = .returned (.tuple #[.agg z24.toList.toArray, .bool false])))
def MOfPost (t : ByteArray) (w : World) (e : Ending) (w' : World) : Prop :=
  Below w.heap.size w w' ∧ ((∃ ps, MReads t ps ∧ e = .returned (.agg (pcs ps).toArray)) ∨ ((∀ ps, ¬ MReads t ps) ∧ e = .panicked malformed))
theorem z24_one : ∀ v ∈ z24.toList, v.oneCell' = true := by
  intro v hv
  simp [z24] at hv
  subst hv
  rfl
end Go.Proofs.YtfpplbipnbcpaaaDoor

/-
  spec's CoreMapRead.
-/
set_option maxRecDepth 100000
namespace Go.Proofs.YtfpplbipnbcpaaaDoor
open Go.ChangeShapes Go.WideShapes Go.ChangeAt Go.RowKit Go.Proofs.Palim

/-- What the first words read as. -/
structure RdK (ws : List ByteArray) (k : Nat) (qs : List PtrM) : Prop where
  len : qs.length = k
  rd : ∀ (j : Nat) (h : j < ws.length) (h' : j < qs.length), readM ws[j] = some qs[j]
theorem RdK.more {ws : List ByteArray} {k : Nat} {qs : List PtrM} {p : PtrM} (h : RdK ws k qs) (hk : k < ws.length) (hp : readM ws[k] = some p) : RdK ws (k + 1) (qs ++ [p]) := by
  refine ⟨by simp [h.len], fun j h1 h2 => ?_⟩
  by_cases e : j < qs.length
  · rw [List.getElem_append_left e]; exact h.rd j h1 e
  · have e2 : j = k := by have := h.len; simp at h2; omega
    subst e2
    rw [List.getElem_append_right (by have := h.len; omega)]
    simp only [h.len, Nat.sub_self, List.getElem_cons_zero]
    exact hp
theorem ints_ne {w : World} {b off N : Nat} {cs : List Value} {x : ByteArray} (hB : Box w N cs) (hi : ∀ u ∈ cs, ∃ i, u = .int .i64 i) (h : w.cell? ⟨b, off, none⟩ = some (.string x)) : b ≠ N := by
  rintro rfl
  obtain ⟨c, e, hb, rfl⟩ := hB
  simp only [World.cell?, hb] at h
  have h' : c[off]? = some (.string x) := by simpa using h
  obtain ⟨i, hi'⟩ := hi _ (Array.mem_toList_iff.2 (Array.mem_of_getElem? h'))
  cases hi'
theorem z24_int : ∀ u ∈ ([.int .i64 0, .int .i64 0, .int .i64 0, .int .i64 0, .int .i64 0, .int .i64 0, .int .i64 0, .int .i64 0, .int .i64 0, .int .i64 0, .int .i64 0, .int .i64 0, .int .i64 0, .int .i64 0, .int .i64 0, .int .i64 0, .int .i64 0, .int .i64 0, .int .i64 0, .int .i64 0, .int .i64 0, .int .i64 0, .int .i64 0, .int .i64 0] : List Value), ∃ i, u = .int .i64 i := by
  intro u hu
  simp at hu
  exact ⟨0, hu⟩
theorem rdk_nil (ws : List ByteArray) : RdK ws 0 [] := ⟨rfl, fun j _ h => absurd h (Nat.not_lt_zero _)⟩

set_option maxHeartbeats 4000000 in
theorem specMapRead_any (t : ByteArray) (w : World) (ht : t.size ≤ 1048576) :
    Calls Tryd.prog 11 #[.string t] w (MReadPost t w) := by
  have hnot : ∀ (x : Bool) (w : World), (Op.unary .not (.bool x)).run Tryd.prog w = .ok (.bool (!x)) w := fun _ _ => rfl
  obtain ⟨b1, b2, hsz, hB⟩ := box2 w #[.int .i64 0, .int .i64 0, .int .i64 0, .int .i64 0, .int .i64 0, .int .i64 0, .int .i64 0, .int .i64 0, .int .i64 0, .int .i64 0, .int .i64 0, .int .i64 0, .int .i64 0, .int .i64 0, .int .i64 0, .int .i64 0, .int .i64 0, .int .i64 0, .int .i64 0, .int .i64 0, .int .i64 0, .int .i64 0, .int .i64 0, .int .i64 0] #[.int .i64 0, .int .i64 0, .int .i64 0, .int .i64 0, .int .i64 0, .int .i64 0, .int .i64 0, .int .i64 0, .int .i64 0, .int .i64 0, .int .i64 0, .int .i64 0, .int .i64 0, .int .i64 0, .int .i64 0, .int .i64 0, .int .i64 0, .int .i64 0, .int .i64 0, .int .i64 0, .int .i64 0, .int .i64 0, .int .i64 0, .int .i64 0] 30 30
  have X0 := Lib.hid b2
  have P2 := Lib.hid (show Box (putC ((w.alloc (.cells #[.int .i64 0, .int .i64 0, .int .i64 0, .int .i64 0, .int .i64 0, .int .i64 0, .int .i64 0, .int .i64 0, .int .i64 0, .int .i64 0, .int .i64 0, .int .i64 0, .int .i64 0, .int .i64 0, .int .i64 0, .int .i64 0, .int .i64 0, .int .i64 0, .int .i64 0, .int .i64 0, .int .i64 0, .int .i64 0, .int .i64 0, .int .i64 0] 30)).alloc (.cells #[.int .i64 0, .int .i64 0, .int .i64 0, .int .i64 0, .int .i64 0, .int .i64 0, .int .i64 0, .int .i64 0, .int .i64 0, .int .i64 0, .int .i64 0, .int .i64 0, .int .i64 0, .int .i64 0, .int .i64 0, .int .i64 0, .int .i64 0, .int .i64 0, .int .i64 0, .int .i64 0, .int .i64 0, .int .i64 0, .int .i64 0, .int .i64 0] 30)) (w.heap.size + 1) 0 [.int .i64 0, .int .i64 0, .int .i64 0, .int .i64 0, .int .i64 0, .int .i64 0, .int .i64 0, .int .i64 0, .int .i64 0, .int .i64 0, .int .i64 0, .int .i64 0, .int .i64 0, .int .i64 0, .int .i64 0, .int .i64 0, .int .i64 0, .int .i64 0, .int .i64 0, .int .i64 0, .int .i64 0, .int .i64 0, .int .i64 0, .int .i64 0]) w.heap.size [.int .i64 0, .int .i64 0, .int .i64 0, .int .i64 0, .int .i64 0, .int .i64 0, .int .i64 0, .int .i64 0, .int .i64 0, .int .i64 0, .int .i64 0, .int .i64 0, .int .i64 0, .int .i64 0, .int .i64 0, .int .i64 0, .int .i64 0, .int .i64 0, .int .i64 0, .int .i64 0, .int .i64 0, .int .i64 0, .int .i64 0, .int .i64 0] from b1.kept (putC_heap _ _ _ _ _ (by omega)))
  have P4 := Lib.hid (Box.putAll b2 [.int .i64 0, .int .i64 0, .int .i64 0, .int .i64 0, .int .i64 0, .int .i64 0, .int .i64 0, .int .i64 0, .int .i64 0, .int .i64 0, .int .i64 0, .int .i64 0, .int .i64 0, .int .i64 0, .int .i64 0, .int .i64 0, .int .i64 0, .int .i64 0, .int .i64 0, .int .i64 0, .int .i64 0, .int .i64 0, .int .i64 0, .int .i64 0] rfl)
  have B0 := Lib.hid (putC_below hB (w.heap.size + 1) 0 (by omega) [.int .i64 0, .int .i64 0, .int .i64 0, .int .i64 0, .int .i64 0, .int .i64 0, .int .i64 0, .int .i64 0, .int .i64 0, .int .i64 0, .int .i64 0, .int .i64 0, .int .i64 0, .int .i64 0, .int .i64 0, .int .i64 0, .int .i64 0, .int .i64 0, .int .i64 0, .int .i64 0, .int .i64 0, .int .i64 0, .int .i64 0, .int .i64 0])
  clear b1 b2 hB hsz
  go_enter Tryd.func11, Tryd.ntmps11
  go_wp2_with (first | (refine wpList_build0 rfl rfl #[.int .i64 0, .int .i64 0, .int .i64 0, .int .i64 0, .int .i64 0, .int .i64 0, .int .i64 0, .int .i64 0, .int .i64 0, .int .i64 0, .int .i64 0, .int .i64 0, .int .i64 0, .int .i64 0, .int .i64 0, .int .i64 0, .int .i64 0, .int .i64 0, .int .i64 0, .int .i64 0, .int .i64 0, .int .i64 0, .int .i64 0, .int .i64 0] (by kernel_rfl) ?_) | (refine wpList_store_box rfl _ _ rfl rfl aggMap rfl [.int .i64 0, .int .i64 0, .int .i64 0, .int .i64 0, .int .i64 0, .int .i64 0, .int .i64 0, .int .i64 0, .int .i64 0, .int .i64 0, .int .i64 0, .int .i64 0, .int .i64 0, .int .i64 0, .int .i64 0, .int .i64 0, .int .i64 0, .int .i64 0, .int .i64 0, .int .i64 0, .int .i64 0, .int .i64 0, .int .i64 0, .int .i64 0] rfl rfl z24_one [.int .i64 0, .int .i64 0, .int .i64 0, .int .i64 0, .int .i64 0, .int .i64 0, .int .i64 0, .int .i64 0, .int .i64 0, .int .i64 0, .int .i64 0, .int .i64 0, .int .i64 0, .int .i64 0, .int .i64 0, .int .i64 0, .int .i64 0, .int .i64 0, .int .i64 0, .int .i64 0, .int .i64 0, .int .i64 0, .int .i64 0, .int .i64 0] X0.out rfl ?_; clear X0; generalize putC ((w.alloc (.cells #[.int .i64 0, .int .i64 0, .int .i64 0, .int .i64 0, .int .i64 0, .int .i64 0, .int .i64 0, .int .i64 0, .int .i64 0, .int .i64 0, .int .i64 0, .int .i64 0, .int .i64 0, .int .i64 0, .int .i64 0, .int .i64 0, .int .i64 0, .int .i64 0, .int .i64 0, .int .i64 0, .int .i64 0, .int .i64 0, .int .i64 0, .int .i64 0] 30)).alloc (.cells #[.int .i64 0, .int .i64 0, .int .i64 0, .int .i64 0, .int .i64 0, .int .i64 0, .int .i64 0, .int .i64 0, .int .i64 0, .int .i64 0, .int .i64 0, .int .i64 0, .int .i64 0, .int .i64 0, .int .i64 0, .int .i64 0, .int .i64 0, .int .i64 0, .int .i64 0, .int .i64 0, .int .i64 0, .int .i64 0, .int .i64 0, .int .i64 0] 30)) (w.heap.size + 1) 0 [.int .i64 0, .int .i64 0, .int .i64 0, .int .i64 0, .int .i64 0, .int .i64 0, .int .i64 0, .int .i64 0, .int .i64 0, .int .i64 0, .int .i64 0, .int .i64 0, .int .i64 0, .int .i64 0, .int .i64 0, .int .i64 0, .int .i64 0, .int .i64 0, .int .i64 0, .int .i64 0, .int .i64 0, .int .i64 0, .int .i64 0, .int .i64 0] = W at P2 P4 B0 ⊢))
  refine (l19Cut32_any t _ ht).mono ?_
  rintro e w1 ⟨v, ws, rfl, hws, hsl, hlow, hb, _, hpz⟩
  have Q2 := Lib.hid (P2.out.below hb P2.out.lt)
  have Q4 := Lib.hid (P4.out.below hb P4.out.lt)
  have B1 := Lib.hid (B0.out.trans (hb.mono B0.out.size))
  have HWS := Lib.hid hws
  clear hb P2 P4 B0 hws
  have hct := hsl
  obtain ⟨_, A, c, rfl, hlc, hcm, _⟩ := hct
  unfold maxLen at hcm
  by_cases hbig : t.size > 400
  case pos =>
    have HN := Lib.hid (show ∀ ps, ¬ MReads t ps from fun ps h => by have := h.small; omega)
    have hbi : (t.size : Int) > 400 := by omega
    have HPF := Lib.hid (Box.putAll Q2.out [.int .i64 0, .int .i64 0, .int .i64 0, .int .i64 0, .int .i64 0, .int .i64 0, .int .i64 0, .int .i64 0, .int .i64 0, .int .i64 0, .int .i64 0, .int .i64 0, .int .i64 0, .int .i64 0, .int .i64 0, .int .i64 0, .int .i64 0, .int .i64 0, .int .i64 0, .int .i64 0, .int .i64 0, .int .i64 0, .int .i64 0, .int .i64 0] rfl)
    have HBF := Lib.hid (putC_below B1.out w.heap.size 0 (Nat.le_refl _) [.int .i64 0, .int .i64 0, .int .i64 0, .int .i64 0, .int .i64 0, .int .i64 0, .int .i64 0, .int .i64 0, .int .i64 0, .int .i64 0, .int .i64 0, .int .i64 0, .int .i64 0, .int .i64 0, .int .i64 0, .int .i64 0, .int .i64 0, .int .i64 0, .int .i64 0, .int .i64 0, .int .i64 0, .int .i64 0, .int .i64 0, .int .i64 0])
    go_wp2_with (first | (refine wpList_build0 rfl rfl #[.int .i64 0, .int .i64 0, .int .i64 0, .int .i64 0, .int .i64 0, .int .i64 0, .int .i64 0, .int .i64 0, .int .i64 0, .int .i64 0, .int .i64 0, .int .i64 0, .int .i64 0, .int .i64 0, .int .i64 0, .int .i64 0, .int .i64 0, .int .i64 0, .int .i64 0, .int .i64 0, .int .i64 0, .int .i64 0, .int .i64 0, .int .i64 0] (by kernel_rfl) ?_) | (refine wpList_load_box rfl _ rfl aggMap rfl [.int .i64 0, .int .i64 0, .int .i64 0, .int .i64 0, .int .i64 0, .int .i64 0, .int .i64 0, .int .i64 0, .int .i64 0, .int .i64 0, .int .i64 0, .int .i64 0, .int .i64 0, .int .i64 0, .int .i64 0, .int .i64 0, .int .i64 0, .int .i64 0, .int .i64 0, .int .i64 0, .int .i64 0, .int .i64 0, .int .i64 0, .int .i64 0] rfl Q4.out ?_) | (refine wpList_store_box rfl _ _ rfl rfl aggMap rfl [.int .i64 0, .int .i64 0, .int .i64 0, .int .i64 0, .int .i64 0, .int .i64 0, .int .i64 0, .int .i64 0, .int .i64 0, .int .i64 0, .int .i64 0, .int .i64 0, .int .i64 0, .int .i64 0, .int .i64 0, .int .i64 0, .int .i64 0, .int .i64 0, .int .i64 0, .int .i64 0, .int .i64 0, .int .i64 0, .int .i64 0, .int .i64 0] rfl rfl z24_one [.int .i64 0, .int .i64 0, .int .i64 0, .int .i64 0, .int .i64 0, .int .i64 0, .int .i64 0, .int .i64 0, .int .i64 0, .int .i64 0, .int .i64 0, .int .i64 0, .int .i64 0, .int .i64 0, .int .i64 0, .int .i64 0, .int .i64 0, .int .i64 0, .int .i64 0, .int .i64 0, .int .i64 0, .int .i64 0, .int .i64 0, .int .i64 0] Q2.out rfl ?_; generalize putC w1 w.heap.size 0 [.int .i64 0, .int .i64 0, .int .i64 0, .int .i64 0, .int .i64 0, .int .i64 0, .int .i64 0, .int .i64 0, .int .i64 0, .int .i64 0, .int .i64 0, .int .i64 0, .int .i64 0, .int .i64 0, .int .i64 0, .int .i64 0, .int .i64 0, .int .i64 0, .int .i64 0, .int .i64 0, .int .i64 0, .int .i64 0, .int .i64 0, .int .i64 0] = WF at HPF HBF ⊢))
    refine bodyPost_ret (results_box_tmp rfl _ w.heap.size [.int .i64 0, .int .i64 0, .int .i64 0, .int .i64 0, .int .i64 0, .int .i64 0, .int .i64 0, .int .i64 0, .int .i64 0, .int .i64 0, .int .i64 0, .int .i64 0, .int .i64 0, .int .i64 0, .int .i64 0, .int .i64 0, .int .i64 0, .int .i64 0, .int .i64 0, .int .i64 0, .int .i64 0, .int .i64 0, .int .i64 0, .int .i64 0] aggMap rfl (.bool false) rfl rfl HPF.out) rfl ⟨HBF.out, Or.inr ⟨HN.out, rfl⟩⟩
  case neg =>
  have hbi : ¬ ((t.size : Int) > 400) := by omega
  by_cases h8 : ws.length = 8
  case neg =>
    have HN := Lib.hid (show ∀ ps, ¬ MReads t ps from fun ps h => h8 (mreads_at h HWS.out).1)
    have h8i : ((ws.length : Int) != 8) = true := by simp; omega
    clear h8
    have HPF := Lib.hid (Box.putAll Q2.out [.int .i64 0, .int .i64 0, .int .i64 0, .int .i64 0, .int .i64 0, .int .i64 0, .int .i64 0, .int .i64 0, .int .i64 0, .int .i64 0, .int .i64 0, .int .i64 0, .int .i64 0, .int .i64 0, .int .i64 0, .int .i64 0, .int .i64 0, .int .i64 0, .int .i64 0, .int .i64 0, .int .i64 0, .int .i64 0, .int .i64 0, .int .i64 0] rfl)
    have HBF := Lib.hid (putC_below B1.out w.heap.size 0 (Nat.le_refl _) [.int .i64 0, .int .i64 0, .int .i64 0, .int .i64 0, .int .i64 0, .int .i64 0, .int .i64 0, .int .i64 0, .int .i64 0, .int .i64 0, .int .i64 0, .int .i64 0, .int .i64 0, .int .i64 0, .int .i64 0, .int .i64 0, .int .i64 0, .int .i64 0, .int .i64 0, .int .i64 0, .int .i64 0, .int .i64 0, .int .i64 0, .int .i64 0])
    go_wp2_with (first | (refine wpList_build0 rfl rfl #[.int .i64 0, .int .i64 0, .int .i64 0, .int .i64 0, .int .i64 0, .int .i64 0, .int .i64 0, .int .i64 0, .int .i64 0, .int .i64 0, .int .i64 0, .int .i64 0, .int .i64 0, .int .i64 0, .int .i64 0, .int .i64 0, .int .i64 0, .int .i64 0, .int .i64 0, .int .i64 0, .int .i64 0, .int .i64 0, .int .i64 0, .int .i64 0] (by kernel_rfl) ?_) | (refine wpList_load_box rfl _ rfl aggMap rfl [.int .i64 0, .int .i64 0, .int .i64 0, .int .i64 0, .int .i64 0, .int .i64 0, .int .i64 0, .int .i64 0, .int .i64 0, .int .i64 0, .int .i64 0, .int .i64 0, .int .i64 0, .int .i64 0, .int .i64 0, .int .i64 0, .int .i64 0, .int .i64 0, .int .i64 0, .int .i64 0, .int .i64 0, .int .i64 0, .int .i64 0, .int .i64 0] rfl Q4.out ?_) | (refine wpList_store_box rfl _ _ rfl rfl aggMap rfl [.int .i64 0, .int .i64 0, .int .i64 0, .int .i64 0, .int .i64 0, .int .i64 0, .int .i64 0, .int .i64 0, .int .i64 0, .int .i64 0, .int .i64 0, .int .i64 0, .int .i64 0, .int .i64 0, .int .i64 0, .int .i64 0, .int .i64 0, .int .i64 0, .int .i64 0, .int .i64 0, .int .i64 0, .int .i64 0, .int .i64 0, .int .i64 0] rfl rfl z24_one [.int .i64 0, .int .i64 0, .int .i64 0, .int .i64 0, .int .i64 0, .int .i64 0, .int .i64 0, .int .i64 0, .int .i64 0, .int .i64 0, .int .i64 0, .int .i64 0, .int .i64 0, .int .i64 0, .int .i64 0, .int .i64 0, .int .i64 0, .int .i64 0, .int .i64 0, .int .i64 0, .int .i64 0, .int .i64 0, .int .i64 0, .int .i64 0] Q2.out rfl ?_; generalize putC w1 w.heap.size 0 [.int .i64 0, .int .i64 0, .int .i64 0, .int .i64 0, .int .i64 0, .int .i64 0, .int .i64 0, .int .i64 0, .int .i64 0, .int .i64 0, .int .i64 0, .int .i64 0, .int .i64 0, .int .i64 0, .int .i64 0, .int .i64 0, .int .i64 0, .int .i64 0, .int .i64 0, .int .i64 0, .int .i64 0, .int .i64 0, .int .i64 0, .int .i64 0] = WF at HPF HBF ⊢))
    refine bodyPost_ret (results_box_tmp rfl _ w.heap.size [.int .i64 0, .int .i64 0, .int .i64 0, .int .i64 0, .int .i64 0, .int .i64 0, .int .i64 0, .int .i64 0, .int .i64 0, .int .i64 0, .int .i64 0, .int .i64 0, .int .i64 0, .int .i64 0, .int .i64 0, .int .i64 0, .int .i64 0, .int .i64 0, .int .i64 0, .int .i64 0, .int .i64 0, .int .i64 0, .int .i64 0, .int .i64 0] aggMap rfl (.bool false) rfl rfl HPF.out) rfl ⟨HBF.out, Or.inr ⟨HN.out, rfl⟩⟩
  case pos =>
  have HS := Lib.hid hsl
  have HLW := Lib.hid hlow
  have HPZ := Lib.hid hpz
  have H8 := Lib.hid h8
  rw [h8] at HS HLW ⊢
  obtain ⟨b, off, c', hv', _, _, hcell⟩ := HS.out.form (by omega)
  injection hv' with e1 e2 e3
  subst e1 e3
  clear e2
  have hbl : b < w1.heap.size := HLW.out b rfl
  have hne : b ≠ w.heap.size + 1 := ints_ne Q4.out z24_int (by simpa using hcell 0 _ (scs_at ws 0 (by omega)))
  have HCELL := Lib.hid hcell
  clear hsl hlow hpz h8 hcell HS HLW
  go_wp2_with fail
  go_loopw [6] (fun i wr => ∃ (k : Nat) (cs : List Value) (qs : List PtrM), k ≤ 8 ∧ i = .int .i64 k ∧ Hid (Box wr w.heap.size [.int .i64 0, .int .i64 0, .int .i64 0, .int .i64 0, .int .i64 0, .int .i64 0, .int .i64 0, .int .i64 0, .int .i64 0, .int .i64 0, .int .i64 0, .int .i64 0, .int .i64 0, .int .i64 0, .int .i64 0, .int .i64 0, .int .i64 0, .int .i64 0, .int .i64 0, .int .i64 0, .int .i64 0, .int .i64 0, .int .i64 0, .int .i64 0]) ∧ Hid (Box wr (w.heap.size + 1) cs) ∧ Hid (cs.length = 24) ∧ Hid (cs.take (k * 3) = pcs qs) ∧ Hid (RdK ws k qs) ∧ Hid (∀ j u, (scs ws)[j]? = some u → wr.cell? ⟨b, off + j, none⟩ = some u) ∧ b < wr.heap.size ∧ Hid (Below w.heap.size w wr)) (fun i _ => 8 - (intOf i).toNat)
  case atStart => exact ⟨0, [.int .i64 0, .int .i64 0, .int .i64 0, .int .i64 0, .int .i64 0, .int .i64 0, .int .i64 0, .int .i64 0, .int .i64 0, .int .i64 0, .int .i64 0, .int .i64 0, .int .i64 0, .int .i64 0, .int .i64 0, .int .i64 0, .int .i64 0, .int .i64 0, .int .i64 0, .int .i64 0, .int .i64 0, .int .i64 0, .int .i64 0, .int .i64 0], [], Nat.zero_le _, rfl, Q2, Q4, Lib.hid rfl, Lib.hid rfl, Lib.hid (rdk_nil ws), HCELL, hbl, B1⟩
  case round =>
    obtain ⟨k, cs, qs, hk, rfl, R2, R4, HC, HT, HR, HCL, hbr, HB⟩ := hrel
    clear Q2 Q4 B1 HCELL hbl
    by_cases hlt : k < 8
    case pos =>
      have hk1 : (k : Int) < 8 := by omega
      have hl0 : k < ws.length := by rw [H8.out]; exact hlt
      have g0 := HCL.out k _ (scs_at ws k hl0)
      have hz := HPZ.out _ (List.getElem_mem hl0)
      have HMORE := Lib.hid (fun p (hp : readM ws[k] = some p) => HR.out.more hl0 hp)
      have HBAD := Lib.hid (show readM ws[k] = none → ∀ ps, ¬ MReads t ps from fun hn ps h => by
        have := (mreads_at h HWS.out).2 k hl0 (by rw [h.eight]; exact hlt)
        rw [hn] at this; cases this)
      generalize ws[k] = word at g0 hz HMORE HBAD
      go_wp2_with fail
      refine (specPtrRead_any word _ (by omega)).mono ?_
      rintro e w3 ⟨hb, h⟩
      have S2 := Lib.hid (R2.out.below hb R2.out.lt)
      have S4 := Lib.hid (R4.out.below hb R4.out.lt)
      have HB3 := Lib.hid (HB.out.trans (hb.mono HB.out.size))
      have HCL3 := Lib.hid (show ∀ j u, (scs ws)[j]? = some u → w3.cell? ⟨b, off + j, none⟩ = some u from fun j u hu => (hb.cell hbr).trans (HCL.out j u hu))
      have hbr3 : b < w3.heap.size := Nat.lt_of_lt_of_le hbr hb.size
      clear hb R2 R4 HB HCL hbr g0
      rcases h with ⟨p, hp, rfl⟩ | ⟨hp, rfl⟩
      case inr =>
        have HN := Lib.hid (HBAD.out hp)
        clear hp HBAD HMORE
        have S2a := Lib.hid (S2.out.alloc (.cells #[.int .i64 0, .int .i64 0, .int .i64 0] 29))
        have HB3a := Lib.hid (HB3.out.alloc HB3.out.size (.cells #[.int .i64 0, .int .i64 0, .int .i64 0] 29))
        unfold noPtr
        have HPF := Lib.hid (Box.putAll S2a.out [.int .i64 0, .int .i64 0, .int .i64 0, .int .i64 0, .int .i64 0, .int .i64 0, .int .i64 0, .int .i64 0, .int .i64 0, .int .i64 0, .int .i64 0, .int .i64 0, .int .i64 0, .int .i64 0, .int .i64 0, .int .i64 0, .int .i64 0, .int .i64 0, .int .i64 0, .int .i64 0, .int .i64 0, .int .i64 0, .int .i64 0, .int .i64 0] rfl)
        have HBF := Lib.hid (putC_below HB3a.out w.heap.size 0 (Nat.le_refl _) [.int .i64 0, .int .i64 0, .int .i64 0, .int .i64 0, .int .i64 0, .int .i64 0, .int .i64 0, .int .i64 0, .int .i64 0, .int .i64 0, .int .i64 0, .int .i64 0, .int .i64 0, .int .i64 0, .int .i64 0, .int .i64 0, .int .i64 0, .int .i64 0, .int .i64 0, .int .i64 0, .int .i64 0, .int .i64 0, .int .i64 0, .int .i64 0])
        go_wp2_with (first | (refine wpList_build0 rfl rfl #[.int .i64 0, .int .i64 0, .int .i64 0, .int .i64 0, .int .i64 0, .int .i64 0, .int .i64 0, .int .i64 0, .int .i64 0, .int .i64 0, .int .i64 0, .int .i64 0, .int .i64 0, .int .i64 0, .int .i64 0, .int .i64 0, .int .i64 0, .int .i64 0, .int .i64 0, .int .i64 0, .int .i64 0, .int .i64 0, .int .i64 0, .int .i64 0] (by kernel_rfl) ?_) | (refine wpList_store_box rfl _ _ rfl rfl aggMap rfl [.int .i64 0, .int .i64 0, .int .i64 0, .int .i64 0, .int .i64 0, .int .i64 0, .int .i64 0, .int .i64 0, .int .i64 0, .int .i64 0, .int .i64 0, .int .i64 0, .int .i64 0, .int .i64 0, .int .i64 0, .int .i64 0, .int .i64 0, .int .i64 0, .int .i64 0, .int .i64 0, .int .i64 0, .int .i64 0, .int .i64 0, .int .i64 0] rfl rfl z24_one [.int .i64 0, .int .i64 0, .int .i64 0, .int .i64 0, .int .i64 0, .int .i64 0, .int .i64 0, .int .i64 0, .int .i64 0, .int .i64 0, .int .i64 0, .int .i64 0, .int .i64 0, .int .i64 0, .int .i64 0, .int .i64 0, .int .i64 0, .int .i64 0, .int .i64 0, .int .i64 0, .int .i64 0, .int .i64 0, .int .i64 0, .int .i64 0] S2a.out rfl ?_; generalize putC (w3.alloc (.cells #[.int .i64 0, .int .i64 0, .int .i64 0] 29)) w.heap.size 0 [.int .i64 0, .int .i64 0, .int .i64 0, .int .i64 0, .int .i64 0, .int .i64 0, .int .i64 0, .int .i64 0, .int .i64 0, .int .i64 0, .int .i64 0, .int .i64 0, .int .i64 0, .int .i64 0, .int .i64 0, .int .i64 0, .int .i64 0, .int .i64 0, .int .i64 0, .int .i64 0, .int .i64 0, .int .i64 0, .int .i64 0, .int .i64 0] = WF at HPF HBF ⊢))
        refine bodyPost_ret (results_box_tmp rfl _ w.heap.size [.int .i64 0, .int .i64 0, .int .i64 0, .int .i64 0, .int .i64 0, .int .i64 0, .int .i64 0, .int .i64 0, .int .i64 0, .int .i64 0, .int .i64 0, .int .i64 0, .int .i64 0, .int .i64 0, .int .i64 0, .int .i64 0, .int .i64 0, .int .i64 0, .int .i64 0, .int .i64 0, .int .i64 0, .int .i64 0, .int .i64 0, .int .i64 0] aggMap rfl (.bool false) rfl rfl HPF.out) rfl ⟨HBF.out, Or.inr ⟨HN.out, rfl⟩⟩
      case inl =>
        have HR2 := Lib.hid (HMORE.out p hp)
        clear hp HBAD HMORE HR
        have hx4 := S4.out.lt
        have hcl := HC.out
        have c0 := S4.out.cell (k * 3) (List.getElem?_eq_getElem (by omega))
        have c1 := S4.out.cell (k * 3 + 1) (List.getElem?_eq_getElem (by omega))
        have c2 := S4.out.cell (k * 3 + 2) (List.getElem?_eq_getElem (by omega))
        have f0 := S4.out.open_ (k * 3)
        have f1 := S4.out.open_ (k * 3 + 1)
        have f2 := S4.out.open_ (k * 3 + 2)
        generalize cs[k * 3] = u0 at c0
        generalize cs[k * 3 + 1] = u1 at c1
        generalize cs[k * 3 + 2] = u2 at c2
        have V2 := Lib.hid ((((S2.out.other (p := ⟨w.heap.size + 1, k * 3, none⟩) (by simp) (.int .i64 p.at_)).other (p := ⟨w.heap.size + 1, k * 3 + 1, none⟩) (by simp) (.int .i64 p.sum)).other (p := ⟨w.heap.size + 1, k * 3 + 2, none⟩) (by simp) (.int .i64 p.birth)).alloc (.cells #[.int .i64 p.at_, .int .i64 p.sum, .int .i64 p.birth] 29))
        have V4 := Lib.hid ((((S4.out.set (k * 3) (.int .i64 p.at_)).set (k * 3 + 1) (.int .i64 p.sum)).set (k * 3 + 2) (.int .i64 p.birth)).alloc (.cells #[.int .i64 p.at_, .int .i64 p.sum, .int .i64 p.birth] 29))
        have HC2 := Lib.hid (show (((cs.set (k * 3) (.int .i64 p.at_)).set (k * 3 + 1) (.int .i64 p.sum)).set (k * 3 + 2) (.int .i64 p.birth)).length = 24 by simpa using hcl)
        have HT2 := Lib.hid (show (((cs.set (k * 3) (.int .i64 p.at_)).set (k * 3 + 1) (.int .i64 p.sum)).set (k * 3 + 2) (.int .i64 p.birth)).take ((k + 1) * 3) = pcs (qs ++ [p]) from by
          rw [take_set3 cs k _ _ _ (by omega), HT.out, pcs_snoc]
          rfl)
        have hsz3 : ∀ (x : World) (a b c : Addr) (u v z : Value), (((x.setCell a u).setCell b v).setCell c z).heap.size = x.heap.size := fun x a b c u v z => by simp
        have HB4 := Lib.hid ((((HB3.out.setCell (p := ⟨w.heap.size + 1, k * 3, none⟩) (by simp) (.int .i64 p.at_)).setCell (p := ⟨w.heap.size + 1, k * 3 + 1, none⟩) (by simp) (.int .i64 p.sum)).setCell (p := ⟨w.heap.size + 1, k * 3 + 2, none⟩) (by simp) (.int .i64 p.birth)).alloc (by rw [hsz3]; exact HB3.out.size) (.cells #[.int .i64 p.at_, .int .i64 p.sum, .int .i64 p.birth] 29))
        have HCL4 := Lib.hid (show ∀ j u, (scs ws)[j]? = some u → ((((w3.setCell ⟨w.heap.size + 1, k * 3, none⟩ (.int .i64 p.at_)).setCell ⟨w.heap.size + 1, k * 3 + 1, none⟩ (.int .i64 p.sum)).setCell ⟨w.heap.size + 1, k * 3 + 2, none⟩ (.int .i64 p.birth)).alloc (.cells #[.int .i64 p.at_, .int .i64 p.sum, .int .i64 p.birth] 29)).cell? ⟨b, off + j, none⟩ = some u from fun j u hu => by
          refine (World.cell?_of_block ?_).trans (HCL3.out j u hu)
          rw [Below.heap_alloc _ _ _ (by rw [hsz3]; exact hbr3), Below.heap_setCell _ _ _ _ hne, Below.heap_setCell _ _ _ _ hne, Below.heap_setCell _ _ _ _ hne])
        have hbr4 : b < ((((w3.setCell ⟨w.heap.size + 1, k * 3, none⟩ (.int .i64 p.at_)).setCell ⟨w.heap.size + 1, k * 3 + 1, none⟩ (.int .i64 p.sum)).setCell ⟨w.heap.size + 1, k * 3 + 2, none⟩ (.int .i64 p.birth)).alloc (.cells #[.int .i64 p.at_, .int .i64 p.sum, .int .i64 p.birth] 29)).heap.size := by
          refine Nat.lt_of_lt_of_le hbr3 ?_
          have h1 := (Below.new (w := ((w3.setCell ⟨w.heap.size + 1, k * 3, none⟩ (.int .i64 p.at_)).setCell ⟨w.heap.size + 1, k * 3 + 1, none⟩ (.int .i64 p.sum)).setCell ⟨w.heap.size + 1, k * 3 + 2, none⟩ (.int .i64 p.birth)) (.cells #[.int .i64 p.at_, .int .i64 p.sum, .int .i64 p.birth] 29)).size
          rw [hsz3] at h1
          exact h1
        clear S2 S4 HB3 HCL3 HC HT hcl hsz3
        go_wp2
        go_roundw
        case rel => exact ⟨k + 1, _, qs ++ [p], by omega, by go_num, V2, V4, HC2, HT2, HR2, HCL4, hbr4, HB4⟩
        case measure => simp [intOf]; omega
    case neg =>
      have hk8 : k = 8 := by omega
      subst hk8
      have HE := Lib.hid (show Box wr (w.heap.size + 1) (pcs qs) from by
        have h1 := HT.out
        have h2 := HC.out
        rw [List.take_of_length_le (by omega)] at h1
        rw [← h1]; exact R4.out)
      have hql : qs.length = 8 := HR.out.len
      have HQL := Lib.hid (show (pcs qs).length = 24 by rw [pcs_length, hql])
      have HM := Lib.hid (mreads_of (t := t) (by omega) HWS.out H8.out hql HR.out.rd)
      have HMT := Lib.hid (mreads_text HM.out)
      have H8Q := Lib.hid hql
      clear HT HC HR HCL R4 hql
      go_wp2_with (refine wpList_load_box rfl _ rfl aggMap rfl (pcs qs) HQL.out HE.out ?_)
      refine (specMap_is qs t _ H8Q.out HMT.out).mono ?_
      rintro e w5 ⟨rfl, hb⟩
      have U2 := Lib.hid (R2.out.below hb R2.out.lt)
      have U4 := Lib.hid (HE.out.below hb HE.out.lt)
      have HB5 := Lib.hid (HB.out.trans (hb.mono HB.out.size))
      clear hb R2 HE HB
      have HPF := Lib.hid (Box.putAll U2.out (pcs qs) (by rw [HQL.out]; rfl))
      have HBF := Lib.hid (putC_below HB5.out w.heap.size 0 (Nat.le_refl _) (pcs qs))
      have hq : (t.toList == t.toList) = true := by simp
      go_wp2_with (first | (refine wpList_load_box rfl _ rfl aggMap rfl (pcs qs) HQL.out U4.out ?_) | (refine wpList_store_box rfl _ _ rfl rfl aggMap rfl (pcs qs) rfl HQL.out (pcs_one qs) [.int .i64 0, .int .i64 0, .int .i64 0, .int .i64 0, .int .i64 0, .int .i64 0, .int .i64 0, .int .i64 0, .int .i64 0, .int .i64 0, .int .i64 0, .int .i64 0, .int .i64 0, .int .i64 0, .int .i64 0, .int .i64 0, .int .i64 0, .int .i64 0, .int .i64 0, .int .i64 0, .int .i64 0, .int .i64 0, .int .i64 0, .int .i64 0] U2.out rfl ?_; generalize putC w5 w.heap.size 0 (pcs qs) = WF at HPF HBF ⊢))
      refine bodyPost_ret (results_box_tmp rfl _ w.heap.size (pcs qs) aggMap HQL.out (.bool true) rfl rfl HPF.out) rfl ⟨HBF.out, Or.inl ⟨qs, HM.out, rfl⟩⟩
end Go.Proofs.YtfpplbipnbcpaaaDoor

/-
  impl's coreMapOf and CoreMapRead; the law on it, walked.
-/
set_option maxRecDepth 100000
namespace Go.Proofs.Palim
open Go
section
variable {P : Program} {w : World}
theorem results_box_cell {fn : Func} {p q : Tmp} {ty tb : TypeId} {k : Nat} (h : fn.results = #[.cell p ty, .cell q tb]) (tmps : Array Value) (g g2 : Nat) (cs : List Value) (hA : Agg P ty k) (hk : cs.length = k) (v : Value) (hb : (loadVar tb ⟨g2, 0, none⟩).run P w = .ok v w)
    (hp : tmps.getD p undef = .pointer (some ⟨g, 0, none⟩)) (hq : tmps.getD q undef = .pointer (some ⟨g2, 0, none⟩)) (hB : Box w g cs) : (results fn tmps).run P w = .ok (.tuple #[.agg cs.toArray, v]) w := by
  have hp' : tmps[p]?.getD undef = .pointer (some ⟨g, 0, none⟩) := by simpa using hp
  have hq' : tmps[q]?.getD undef = .pointer (some ⟨g2, 0, none⟩) := by simpa using hq
  have := run_loadVar_cs (P := P) (w := w) (b := g) (off := 0) hA cs hk hB.cells
  simp [results, h, hp', hq', asAddr, this, hb]
end
end Go.Proofs.Palim
namespace Go.Proofs.YtfpplbipnbcpaaaDoor
open Go.ChangeShapes Go.WideShapes Go.ChangeAt Go.RowKit Go.Proofs.Palim

set_option maxHeartbeats 4000000 in
theorem mapOf_any (t : ByteArray) (w : World) (ht : t.size ≤ 1048576) (hv : LibVars w) :
    Calls Tryd.prog 28 #[.string t] w (MOfPost t w) := by
  have hnot : ∀ (x : Bool) (w : World), (Op.unary .not (.bool x)).run Tryd.prog w = .ok (.bool (!x)) w := fun _ _ => rfl
  have X0 := Lib.hid (box_new w #[.int .i64 0, .int .i64 0, .int .i64 0, .int .i64 0, .int .i64 0, .int .i64 0, .int .i64 0, .int .i64 0, .int .i64 0, .int .i64 0, .int .i64 0, .int .i64 0, .int .i64 0, .int .i64 0, .int .i64 0, .int .i64 0, .int .i64 0, .int .i64 0, .int .i64 0, .int .i64 0, .int .i64 0, .int .i64 0, .int .i64 0, .int .i64 0] 30)
  have B0 := Lib.hid (Below.new (w := w) (.cells #[.int .i64 0, .int .i64 0, .int .i64 0, .int .i64 0, .int .i64 0, .int .i64 0, .int .i64 0, .int .i64 0, .int .i64 0, .int .i64 0, .int .i64 0, .int .i64 0, .int .i64 0, .int .i64 0, .int .i64 0, .int .i64 0, .int .i64 0, .int .i64 0, .int .i64 0, .int .i64 0, .int .i64 0, .int .i64 0, .int .i64 0, .int .i64 0] 30))
  have HV0 := Lib.hid (hv.below B0.out)
  clear hv
  by_cases hbig : t.size > 400
  case pos =>
    have HN := Lib.hid (show ∀ ps, ¬ MReads t ps from fun ps h => by have := h.small; omega)
    have hbi : (t.size : Int) > 400 := by omega
    go_enter Tryd.func28, Tryd.ntmps28
    go_wp2
    exact ⟨rfl, B0.out, Or.inr ⟨HN.out, rfl⟩⟩
  case neg =>
  have hbi : ¬ ((t.size : Int) > 400) := by omega
  obtain ⟨mx, hmx⟩ := HV0.out.mx
  go_enter Tryd.func28, Tryd.ntmps28
  go_wp2_with fail
  refine (split32_any t _ mx ht hmx).mono ?_
  rintro e w1 ⟨v, ws, rfl, hws, hsl, hlow, hb, _, hpz⟩
  have X1 := Lib.hid (X0.out.below hb X0.out.lt)
  have B1 := Lib.hid (B0.out.trans (hb.mono B0.out.size))
  have HV1 := Lib.hid (HV0.out.below hb)
  have HWS := Lib.hid hws
  clear hb X0 B0 HV0 hmx hws
  have hct := hsl
  obtain ⟨_, A, c, rfl, hlc, hcm, _⟩ := hct
  unfold maxLen at hcm
  by_cases h8 : ws.length = 8
  case neg =>
    have HN := Lib.hid (show ∀ ps, ¬ MReads t ps from fun ps h => h8 (mreads_at h HWS.out).1)
    have h8i : ((ws.length : Int) != 8) = true := by simp; omega
    clear h8
    go_wp2
    exact ⟨rfl, B1.out, Or.inr ⟨HN.out, rfl⟩⟩
  case pos =>
  have HPZ := Lib.hid hpz
  have H8 := Lib.hid h8
  rw [h8] at hsl hlow ⊢
  obtain ⟨b, off, c', hv', _, _, hcell⟩ := hsl.form (by omega)
  injection hv' with e1 e2 e3
  subst e1 e3
  clear e2
  have hbl : b < w1.heap.size := hlow b rfl
  have hx1 : w.heap.size < w1.heap.size := X1.out.lt
  have hnw := Below.new (w := w1) (.cells #[.int .i64 0, .int .i64 0, .int .i64 0, .int .i64 0, .int .i64 0, .int .i64 0, .int .i64 0, .int .i64 0, .int .i64 0, .int .i64 0, .int .i64 0, .int .i64 0, .int .i64 0, .int .i64 0, .int .i64 0, .int .i64 0, .int .i64 0, .int .i64 0, .int .i64 0, .int .i64 0, .int .i64 0, .int .i64 0, .int .i64 0, .int .i64 0] 30)
  have HCELL := Lib.hid (show ∀ j u, (scs ws)[j]? = some u → (w1.alloc (.cells #[.int .i64 0, .int .i64 0, .int .i64 0, .int .i64 0, .int .i64 0, .int .i64 0, .int .i64 0, .int .i64 0, .int .i64 0, .int .i64 0, .int .i64 0, .int .i64 0, .int .i64 0, .int .i64 0, .int .i64 0, .int .i64 0, .int .i64 0, .int .i64 0, .int .i64 0, .int .i64 0, .int .i64 0, .int .i64 0, .int .i64 0, .int .i64 0] 30)).cell? ⟨b, off + j, none⟩ = some u from fun j u hu => (hnw.cell hbl).trans (hcell j u hu))
  have X2 := Lib.hid (X1.out.below hnw X1.out.lt)
  have Y2 := Lib.hid (box_new w1 #[.int .i64 0, .int .i64 0, .int .i64 0, .int .i64 0, .int .i64 0, .int .i64 0, .int .i64 0, .int .i64 0, .int .i64 0, .int .i64 0, .int .i64 0, .int .i64 0, .int .i64 0, .int .i64 0, .int .i64 0, .int .i64 0, .int .i64 0, .int .i64 0, .int .i64 0, .int .i64 0, .int .i64 0, .int .i64 0, .int .i64 0, .int .i64 0] 30)
  have HV2 := Lib.hid (HV1.out.below hnw)
  have BP := Lib.hid hnw
  have B2 := Lib.hid (B1.out.trans (hnw.mono B1.out.size))
  clear hsl hlow hpz h8 hcell hnw X1 B1
  go_wp2_with fail
  generalize w1.alloc (.cells #[.int .i64 0, .int .i64 0, .int .i64 0, .int .i64 0, .int .i64 0, .int .i64 0, .int .i64 0, .int .i64 0, .int .i64 0, .int .i64 0, .int .i64 0, .int .i64 0, .int .i64 0, .int .i64 0, .int .i64 0, .int .i64 0, .int .i64 0, .int .i64 0, .int .i64 0, .int .i64 0, .int .i64 0, .int .i64 0, .int .i64 0, .int .i64 0] 30) = W2 at HCELL X2 Y2 HV2 BP B2 ⊢
  go_loopw [5, 6, 19] (fun _ _ i wr => ∃ (k : Nat) (cs : List Value) (qs : List PtrM), k ≤ 8 ∧ i = .int .i64 k ∧ Hid (Box wr w.heap.size [.int .i64 0, .int .i64 0, .int .i64 0, .int .i64 0, .int .i64 0, .int .i64 0, .int .i64 0, .int .i64 0, .int .i64 0, .int .i64 0, .int .i64 0, .int .i64 0, .int .i64 0, .int .i64 0, .int .i64 0, .int .i64 0, .int .i64 0, .int .i64 0, .int .i64 0, .int .i64 0, .int .i64 0, .int .i64 0, .int .i64 0, .int .i64 0]) ∧ Hid (Box wr w1.heap.size cs) ∧ Hid (cs.length = 24) ∧ Hid (cs.take (k * 3) = pcs qs) ∧ Hid (RdK ws k qs) ∧ Hid (∀ j u, (scs ws)[j]? = some u → wr.cell? ⟨b, off + j, none⟩ = some u) ∧ Hid (Below w1.heap.size w1 wr) ∧ Hid (Below w.heap.size w wr)) (fun _ _ i _ => 8 - (intOf i).toNat)
  case atStart => exact ⟨0, [.int .i64 0, .int .i64 0, .int .i64 0, .int .i64 0, .int .i64 0, .int .i64 0, .int .i64 0, .int .i64 0, .int .i64 0, .int .i64 0, .int .i64 0, .int .i64 0, .int .i64 0, .int .i64 0, .int .i64 0, .int .i64 0, .int .i64 0, .int .i64 0, .int .i64 0, .int .i64 0, .int .i64 0, .int .i64 0, .int .i64 0, .int .i64 0], [], Nat.zero_le _, rfl, X2, Y2, Lib.hid rfl, Lib.hid rfl, Lib.hid (rdk_nil ws), HCELL, BP, B2⟩
  case round =>
    obtain ⟨k, cs, qs, hk, rfl, R2, R4, HC, HT, HR, HCL, HB1, HB⟩ := hrel
    clear X2 Y2 HV2 HCELL BP B2
    by_cases hlt : k < 8
    case pos =>
      have hk1 : (k : Int) < 8 := by omega
      have hl0 : k < ws.length := by rw [H8.out]; exact hlt
      have g0 := HCL.out k _ (scs_at ws k hl0)
      have hz := HPZ.out _ (List.getElem_mem hl0)
      have HMORE := Lib.hid (fun p (hp : readM ws[k] = some p) => HR.out.more hl0 hp)
      have HBAD := Lib.hid (show readM ws[k] = none → ∀ ps, ¬ MReads t ps from fun hn ps h => by
        have := (mreads_at h HWS.out).2 k hl0 (by rw [h.eight]; exact hlt)
        rw [hn] at this; cases this)
      generalize ws[k] = word at g0 hz HMORE HBAD
      have HVr := Lib.hid (HV1.out.below HB1.out)
      go_wp2_with fail
      refine (ptrOf_any word _ (by omega) HVr.out).mono ?_
      rintro e w3 ⟨hb, h⟩
      have S2 := Lib.hid (R2.out.below hb R2.out.lt)
      have S4 := Lib.hid (R4.out.below hb R4.out.lt)
      have HB3 := Lib.hid (HB.out.trans (hb.mono HB.out.size))
      have HB13 := Lib.hid (HB1.out.trans (hb.mono HB1.out.size))
      have HCL3 := Lib.hid (show ∀ j u, (scs ws)[j]? = some u → w3.cell? ⟨b, off + j, none⟩ = some u from fun j u hu => (hb.cell (Nat.lt_of_lt_of_le hbl HB1.out.size)).trans (HCL.out j u hu))
      clear hb R2 R4 HB HB1 HCL g0 HVr
      rcases h with ⟨p, hp, rfl⟩ | ⟨hp, rfl⟩
      case inr =>
        have HN := Lib.hid (HBAD.out hp)
        clear hp HBAD HMORE
        go_wp2
        exact ⟨rfl, HB3.out, Or.inr ⟨HN.out, rfl⟩⟩
      case inl =>
        have HR2 := Lib.hid (HMORE.out p hp)
        clear hp HBAD HMORE HR
        have hcl := HC.out
        have c0 := S4.out.cell (k * 3) (List.getElem?_eq_getElem (by omega))
        have c1 := S4.out.cell (k * 3 + 1) (List.getElem?_eq_getElem (by omega))
        have c2 := S4.out.cell (k * 3 + 2) (List.getElem?_eq_getElem (by omega))
        have f0 := S4.out.open_ (k * 3)
        have f1 := S4.out.open_ (k * 3 + 1)
        have f2 := S4.out.open_ (k * 3 + 2)
        generalize cs[k * 3] = u0 at c0
        generalize cs[k * 3 + 1] = u1 at c1
        generalize cs[k * 3 + 2] = u2 at c2
        have hnx : w.heap.size ≠ w1.heap.size := by omega
        have hnb : b ≠ w1.heap.size := by omega
        have V2 := Lib.hid (((S2.out.other (p := ⟨w1.heap.size, k * 3, none⟩) hnx (.int .i64 p.at_)).other (p := ⟨w1.heap.size, k * 3 + 1, none⟩) hnx (.int .i64 p.sum)).other (p := ⟨w1.heap.size, k * 3 + 2, none⟩) hnx (.int .i64 p.birth))
        have V4 := Lib.hid (((S4.out.set (k * 3) (.int .i64 p.at_)).set (k * 3 + 1) (.int .i64 p.sum)).set (k * 3 + 2) (.int .i64 p.birth))
        have HC2 := Lib.hid (show (((cs.set (k * 3) (.int .i64 p.at_)).set (k * 3 + 1) (.int .i64 p.sum)).set (k * 3 + 2) (.int .i64 p.birth)).length = 24 by simpa using hcl)
        have HT2 := Lib.hid (show (((cs.set (k * 3) (.int .i64 p.at_)).set (k * 3 + 1) (.int .i64 p.sum)).set (k * 3 + 2) (.int .i64 p.birth)).take ((k + 1) * 3) = pcs (qs ++ [p]) from by
          rw [take_set3 cs k _ _ _ (by omega), HT.out, pcs_snoc]
          rfl)
        have HB4 := Lib.hid (((HB3.out.setCell (p := ⟨w1.heap.size, k * 3, none⟩) (Nat.le_of_lt hx1) (.int .i64 p.at_)).setCell (p := ⟨w1.heap.size, k * 3 + 1, none⟩) (Nat.le_of_lt hx1) (.int .i64 p.sum)).setCell (p := ⟨w1.heap.size, k * 3 + 2, none⟩) (Nat.le_of_lt hx1) (.int .i64 p.birth))
        have HB14 := Lib.hid (((HB13.out.setCell (p := ⟨w1.heap.size, k * 3, none⟩) (Nat.le_refl _) (.int .i64 p.at_)).setCell (p := ⟨w1.heap.size, k * 3 + 1, none⟩) (Nat.le_refl _) (.int .i64 p.sum)).setCell (p := ⟨w1.heap.size, k * 3 + 2, none⟩) (Nat.le_refl _) (.int .i64 p.birth))
        have HCL4 := Lib.hid (show ∀ j u, (scs ws)[j]? = some u → (((w3.setCell ⟨w1.heap.size, k * 3, none⟩ (.int .i64 p.at_)).setCell ⟨w1.heap.size, k * 3 + 1, none⟩ (.int .i64 p.sum)).setCell ⟨w1.heap.size, k * 3 + 2, none⟩ (.int .i64 p.birth)).cell? ⟨b, off + j, none⟩ = some u from fun j u hu => by
          refine (World.cell?_of_block ?_).trans (HCL3.out j u hu)
          rw [Below.heap_setCell _ _ _ _ hnb, Below.heap_setCell _ _ _ _ hnb, Below.heap_setCell _ _ _ _ hnb])
        clear S2 S4 HB3 HB13 HCL3 HC HT hcl hnx hnb
        go_wp2
        go_roundw
        case rel => exact ⟨k + 1, _, qs ++ [p], by omega, by go_num, V2, V4, HC2, HT2, HR2, HCL4, HB14, HB4⟩
        case measure => simp [intOf]; omega
    case neg =>
      have hk8 : k = 8 := by omega
      subst hk8
      have HE := Lib.hid (show Box wr w1.heap.size (pcs qs) from by
        have h1 := HT.out
        have h2 := HC.out
        rw [List.take_of_length_le (by omega)] at h1
        rw [← h1]; exact R4.out)
      have hql : qs.length = 8 := HR.out.len
      have HQL := Lib.hid (show (pcs qs).length = 24 by rw [pcs_length, hql])
      have HM := Lib.hid (mreads_of (t := t) (by omega) HWS.out H8.out hql HR.out.rd)
      clear HT HC HR HCL R4 hql
      have HPF := Lib.hid (Box.putAll R2.out (pcs qs) (by rw [HQL.out]; rfl))
      have HBF := Lib.hid (putC_below HB.out w.heap.size 0 (Nat.le_refl _) (pcs qs))
      go_wp2_with (first | (refine wpList_load_box rfl _ rfl aggMap rfl (pcs qs) HQL.out HE.out ?_) | (refine wpList_store_box rfl _ _ rfl rfl aggMap rfl (pcs qs) rfl HQL.out (pcs_one qs) [.int .i64 0, .int .i64 0, .int .i64 0, .int .i64 0, .int .i64 0, .int .i64 0, .int .i64 0, .int .i64 0, .int .i64 0, .int .i64 0, .int .i64 0, .int .i64 0, .int .i64 0, .int .i64 0, .int .i64 0, .int .i64 0, .int .i64 0, .int .i64 0, .int .i64 0, .int .i64 0, .int .i64 0, .int .i64 0, .int .i64 0, .int .i64 0] R2.out rfl ?_; generalize putC wr w.heap.size 0 (pcs qs) = WF at HPF HBF ⊢))
      refine bodyPost_ret (results_box rfl _ w.heap.size (pcs qs) aggMap HQL.out rfl HPF.out) rfl ⟨HBF.out, Or.inl ⟨qs, HM.out, rfl⟩⟩

theorem mapCatch_panicking (X Y : Nat) (cs : List Value) (b : Value) (u : TypeId) (pv : Value) (older : List PanicEntry) (w : World) (hX : Box w X cs) (hl : cs.length = 24) (hY : Box w Y [b]) (hXY : X ≠ Y) :
    CallsD Tryd.prog 27 #[.pointer (some ⟨X, 0, none⟩), .pointer (some ⟨Y, 0, none⟩)] (.panicking ({ v := .iface u pv, recovered := false } :: older)) w fun e u' w' =>
      e = .returned (.tuple #[]) ∧ u' = .panicking ({ v := .iface u pv, recovered := true } :: older) ∧ w' = (putC w X 0 [.int .i64 0, .int .i64 0, .int .i64 0, .int .i64 0, .int .i64 0, .int .i64 0, .int .i64 0, .int .i64 0, .int .i64 0, .int .i64 0, .int .i64 0, .int .i64 0, .int .i64 0, .int .i64 0, .int .i64 0, .int .i64 0, .int .i64 0, .int .i64 0, .int .i64 0, .int .i64 0, .int .i64 0, .int .i64 0, .int .i64 0, .int .i64 0]).setCell ⟨Y, 0, none⟩ (.bool false) := by
  have Y1 : Box (putC w X 0 [.int .i64 0, .int .i64 0, .int .i64 0, .int .i64 0, .int .i64 0, .int .i64 0, .int .i64 0, .int .i64 0, .int .i64 0, .int .i64 0, .int .i64 0, .int .i64 0, .int .i64 0, .int .i64 0, .int .i64 0, .int .i64 0, .int .i64 0, .int .i64 0, .int .i64 0, .int .i64 0, .int .i64 0, .int .i64 0, .int .i64 0, .int .i64 0]) Y [b] := hY.kept (putC_heap _ _ _ _ _ (Ne.symm hXY))
  have y0 := Y1.cell 0 rfl
  have yf := Y1.open_ 0
  have HX := Lib.hid hX
  obtain ⟨WP, HWP⟩ : ∃ WP, Hid (putC w X 0 [.int .i64 0, .int .i64 0, .int .i64 0, .int .i64 0, .int .i64 0, .int .i64 0, .int .i64 0, .int .i64 0, .int .i64 0, .int .i64 0, .int .i64 0, .int .i64 0, .int .i64 0, .int .i64 0, .int .i64 0, .int .i64 0, .int .i64 0, .int .i64 0, .int .i64 0, .int .i64 0, .int .i64 0, .int .i64 0, .int .i64 0, .int .i64 0] = WP) := ⟨_, Lib.hid rfl⟩
  rw [HWP.out] at y0 yf ⊢
  clear hX hY Y1
  refine callsD_of_wpS Tryd.func27 rfl fun c₀ cs hu => ?_
  apply wpS_seq
  apply wpS_region
  simp [wpOpsS, go_sem, recoverD, hu, Tryd.ntmps27, Exit.thenS]
  refine wpS_cond (t := true) (by simp [Act.eval, Array.replicate]) ?_
  simp only [if_true]
  refine wpS_of_wp ?_
  go_wp2_with (first | (refine wpList_build0 rfl rfl #[.int .i64 0, .int .i64 0, .int .i64 0, .int .i64 0, .int .i64 0, .int .i64 0, .int .i64 0, .int .i64 0, .int .i64 0, .int .i64 0, .int .i64 0, .int .i64 0, .int .i64 0, .int .i64 0, .int .i64 0, .int .i64 0, .int .i64 0, .int .i64 0, .int .i64 0, .int .i64 0, .int .i64 0, .int .i64 0, .int .i64 0, .int .i64 0] (by kernel_rfl) ?_) | (refine wpList_store_box rfl _ _ rfl rfl aggMap rfl [.int .i64 0, .int .i64 0, .int .i64 0, .int .i64 0, .int .i64 0, .int .i64 0, .int .i64 0, .int .i64 0, .int .i64 0, .int .i64 0, .int .i64 0, .int .i64 0, .int .i64 0, .int .i64 0, .int .i64 0, .int .i64 0, .int .i64 0, .int .i64 0, .int .i64 0, .int .i64 0, .int .i64 0, .int .i64 0, .int .i64 0, .int .i64 0] rfl rfl z24_one _ HX.out hl ?_; rw [HWP.out]))
  simp [bodyPostS, results, Tryd.results27]

theorem mapCatch_idle (p q : Addr) (w : World) :
    CallsD Tryd.prog 27 #[.pointer (some p), .pointer (some q)] .returning w fun e u' w' => e = .returned (.tuple #[]) ∧ u' = .returning ∧ w' = w := by
  refine callsD_of_wpS Tryd.func27 rfl fun c₀ cs hu => ?_
  apply wpS_seq
  apply wpS_region
  simp [wpOpsS, go_sem, recoverD, hu, Tryd.ntmps27, Exit.thenS]
  refine wpS_cond (t := false) (by simp [Act.eval, Array.replicate]) ?_
  simp only [Bool.false_eq_true, if_false]
  refine wpS_of_wp (wp_skip ?_)
  cases c₀
  simp_all [bodyPostS, results, Tryd.results27]

set_option maxHeartbeats 2000000 in
theorem implMapRead_any (t : ByteArray) (w : World) (ht : t.size ≤ 1048576) (hv : LibVars w) :
    Calls Tryd.prog 12 #[.string t] w (MReadPost t w) := by
  have hmf : ∀ (fn : Fn) (first cap : Array Value) (w : World), (Instr.makeFunc fn first cap).run Tryd.prog w = .ok (.func fn first cap) w := fun _ _ _ _ => rfl
  obtain ⟨b1, b2, hsz, hB⟩ := box2 w #[.int .i64 0, .int .i64 0, .int .i64 0, .int .i64 0, .int .i64 0, .int .i64 0, .int .i64 0, .int .i64 0, .int .i64 0, .int .i64 0, .int .i64 0, .int .i64 0, .int .i64 0, .int .i64 0, .int .i64 0, .int .i64 0, .int .i64 0, .int .i64 0, .int .i64 0, .int .i64 0, .int .i64 0, .int .i64 0, .int .i64 0, .int .i64 0] #[.bool false] 30 4
  have X1 := Lib.hid b1
  have X2 := Lib.hid b2
  have B0 := Lib.hid hB
  have HV0 := Lib.hid (hv.below hB)
  clear b1 b2 hB hv hsz
  go_enter_defers Tryd.func12, Tryd.ntmps12
  go_wp2_with fail
  refine (mapOf_any t _ ht HV0.out).mono ?_
  rintro e w1 ⟨hb, h⟩
  have Y1 := Lib.hid (X1.out.below hb X1.out.lt)
  have Y2 := Lib.hid (X2.out.below hb X2.out.lt)
  have B1 := Lib.hid (B0.out.trans (hb.mono B0.out.size))
  clear hb X1 X2 B0 HV0
  rcases h with ⟨ps, hsp, rfl⟩ | ⟨hno, rfl⟩
  · have HS := Lib.hid hsp
    have HQL := Lib.hid (show (pcs ps).length = 24 by rw [pcs_length, hsp.eight])
    clear hsp
    have HPF := Lib.hid (Box.putAll Y1.out (pcs ps) (by rw [HQL.out]; rfl))
    have HPG := Lib.hid (show Box (putC w1 w.heap.size 0 (pcs ps)) (w.heap.size + 1) [.bool false] from Y2.out.kept (putC_heap _ _ _ _ _ (by omega)))
    have HBF := Lib.hid (putC_below B1.out w.heap.size 0 (Nat.le_refl _) (pcs ps))
    go_wp2_with (refine wpList_store_box rfl _ _ rfl rfl aggMap rfl (pcs ps) rfl HQL.out (pcs_one ps) [.int .i64 0, .int .i64 0, .int .i64 0, .int .i64 0, .int .i64 0, .int .i64 0, .int .i64 0, .int .i64 0, .int .i64 0, .int .i64 0, .int .i64 0, .int .i64 0, .int .i64 0, .int .i64 0, .int .i64 0, .int .i64 0, .int .i64 0, .int .i64 0, .int .i64 0, .int .i64 0, .int .i64 0, .int .i64 0, .int .i64 0, .int .i64 0] Y1.out rfl ?_; generalize putC w1 w.heap.size 0 (pcs ps) = WF at HPF HPG HBF ⊢; have r0 := HPG.out.cell 0 rfl; have rf := HPG.out.open_ 0)
    refine leaves_cons (f := 27) (args := #[.pointer (some ⟨w.heap.size, 0, none⟩), .pointer (some ⟨w.heap.size + 1, 0, none⟩)]) (by simp) (by simp [go_sem]) ?_
    refine (mapCatch_idle _ _ _).mono ?_
    rintro e u' w'' ⟨rfl, rfl, rfl⟩
    have U1 := HPF.out.other (p := ⟨w.heap.size + 1, 0, none⟩) (by simp) (.bool true)
    have U2 := HPG.out.set 0 (.bool true)
    have z2 := U2.cell 0 rfl
    have hB2 := HBF.out.setCell (p := ⟨w.heap.size + 1, 0, none⟩) (Nat.le_succ _) (.bool true)
    exact ⟨.tuple #[.agg (pcs ps).toArray, .bool true], results_box_cell rfl _ w.heap.size (w.heap.size + 1) (pcs ps) aggMap HQL.out (.bool true) (by simp [loadVar, Tryd.isAgg4, z2]) rfl rfl U1, hB2, Or.inl ⟨ps, HS.out, rfl⟩⟩
  · have HN := Lib.hid hno
    clear hno
    go_wp2
    refine leaves_cons (f := 27) (args := #[.pointer (some ⟨w.heap.size, 0, none⟩), .pointer (some ⟨w.heap.size + 1, 0, none⟩)]) (by simp) (by simp [go_sem]) ?_
    refine (mapCatch_panicking _ _ _ _ _ _ _ _ Y1.out rfl Y2.out (by omega)).mono ?_
    rintro e u' w'' ⟨rfl, rfl, rfl⟩
    have Z1 := (Box.putAll Y1.out [.int .i64 0, .int .i64 0, .int .i64 0, .int .i64 0, .int .i64 0, .int .i64 0, .int .i64 0, .int .i64 0, .int .i64 0, .int .i64 0, .int .i64 0, .int .i64 0, .int .i64 0, .int .i64 0, .int .i64 0, .int .i64 0, .int .i64 0, .int .i64 0, .int .i64 0, .int .i64 0, .int .i64 0, .int .i64 0, .int .i64 0, .int .i64 0] rfl).other (p := ⟨w.heap.size + 1, 0, none⟩) (by simp) (.bool false)
    have Z2 := (show Box (putC w1 w.heap.size 0 [.int .i64 0, .int .i64 0, .int .i64 0, .int .i64 0, .int .i64 0, .int .i64 0, .int .i64 0, .int .i64 0, .int .i64 0, .int .i64 0, .int .i64 0, .int .i64 0, .int .i64 0, .int .i64 0, .int .i64 0, .int .i64 0, .int .i64 0, .int .i64 0, .int .i64 0, .int .i64 0, .int .i64 0, .int .i64 0, .int .i64 0, .int .i64 0]) (w.heap.size + 1) [.bool false] from Y2.out.kept (putC_heap _ _ _ _ _ (by omega))).set 0 (.bool false)
    have z2 := Z2.cell 0 rfl
    have hB2 := (putC_below B1.out w.heap.size 0 (Nat.le_refl _) [.int .i64 0, .int .i64 0, .int .i64 0, .int .i64 0, .int .i64 0, .int .i64 0, .int .i64 0, .int .i64 0, .int .i64 0, .int .i64 0, .int .i64 0, .int .i64 0, .int .i64 0, .int .i64 0, .int .i64 0, .int .i64 0, .int .i64 0, .int .i64 0, .int .i64 0, .int .i64 0, .int .i64 0, .int .i64 0, .int .i64 0, .int .i64 0]).setCell (p := ⟨w.heap.size + 1, 0, none⟩) (Nat.le_succ _) (.bool false)
    exact ⟨.tuple #[.agg #[.int .i64 0, .int .i64 0, .int .i64 0, .int .i64 0, .int .i64 0, .int .i64 0, .int .i64 0, .int .i64 0, .int .i64 0, .int .i64 0, .int .i64 0, .int .i64 0, .int .i64 0, .int .i64 0, .int .i64 0, .int .i64 0, .int .i64 0, .int .i64 0, .int .i64 0, .int .i64 0, .int .i64 0, .int .i64 0, .int .i64 0, .int .i64 0], .bool false], results_box_cell rfl _ w.heap.size (w.heap.size + 1) [.int .i64 0, .int .i64 0, .int .i64 0, .int .i64 0, .int .i64 0, .int .i64 0, .int .i64 0, .int .i64 0, .int .i64 0, .int .i64 0, .int .i64 0, .int .i64 0, .int .i64 0, .int .i64 0, .int .i64 0, .int .i64 0, .int .i64 0, .int .i64 0, .int .i64 0, .int .i64 0, .int .i64 0, .int .i64 0, .int .i64 0, .int .i64 0] aggMap rfl (.bool false) (by simp [loadVar, Tryd.isAgg4, z2]) rfl rfl Z1, hB2, Or.inr ⟨HN.out, rfl⟩⟩
end Go.Proofs.YtfpplbipnbcpaaaDoor

/-
  eqPtrA8 of eight pointers and themselves.
-/
set_option maxRecDepth 100000
namespace Go.Proofs.YtfpplbipnbcpaaaDoor
open Go.ChangeShapes Go.WideShapes Go.ChangeAt Go.RowKit Go.Proofs.Palim

set_option maxHeartbeats 1000000 in
theorem eqPtrA8_same (ps : List PtrM) (w : World) (h8 : ps.length = 8) :
    Calls Tryd.prog 13 #[.agg (pcs ps).toArray, .agg (pcs ps).toArray] w fun e w' => e = .returned (.bool true) ∧ Below w.heap.size w w' := by
  have hnot : ∀ (x : Bool) (w : World), (Op.unary .not (.bool x)).run Tryd.prog w = .ok (.bool (!x)) w := fun _ _ => rfl
  have H8 := Lib.hid h8
  obtain ⟨b1, b2, hsz, hB⟩ := box2 w (pcs ps).toArray (pcs ps).toArray 30 30
  have X1 := Lib.hid b1
  have X2 := Lib.hid b2
  have B0 := Lib.hid hB
  clear b1 b2 hB h8 hsz
  go_enter Tryd.func13, Tryd.ntmps13
  go_wp2_with fail
  go_loopw [5] (fun i wr => ∃ (k : Nat), k ≤ 8 ∧ i = .int .i64 k ∧ Hid (Box wr w.heap.size (pcs ps)) ∧ Hid (Box wr (w.heap.size + 1) (pcs ps)) ∧ Hid (Below w.heap.size w wr)) (fun i _ => 8 - (intOf i).toNat)
  case atStart => exact ⟨0, Nat.zero_le _, rfl, X1, X2, B0⟩
  case round =>
    obtain ⟨k, hk, rfl, Y1, Y2, HB⟩ := hrel
    clear X1 X2 B0
    by_cases hlt : k < 8
    case pos =>
      have hk1 : (k : Int) < 8 := by omega
      have hl0 : k < ps.length := by rw [H8.out]; exact hlt
      obtain ⟨h1, h2, h3⟩ := ptr_box Y1.out k hl0
      obtain ⟨g1, g2, g3⟩ := ptr_box Y2.out k hl0
      have hx1 := Y1.out.lt
      have hx2 := Y2.out.lt
      generalize ps[k] = x at h1 h2 h3 g1 g2 g3
      go_wp2_with fail
      go_region_held3 (fun w' => w'.cell? ⟨w.heap.size, k * 3, none⟩ = some (.int .i64 x.at_) ∧ w'.cell? ⟨w.heap.size, k * 3 + 1, none⟩ = some (.int .i64 x.sum) ∧ w'.cell? ⟨w.heap.size, k * 3 + 2, none⟩ = some (.int .i64 x.birth) ∧ w'.cell? ⟨w.heap.size + 1, k * 3, none⟩ = some (.int .i64 x.at_) ∧ w'.cell? ⟨w.heap.size + 1, k * 3 + 1, none⟩ = some (.int .i64 x.sum) ∧ w'.cell? ⟨w.heap.size + 1, k * 3 + 2, none⟩ = some (.int .i64 x.birth))
        (first
          | exact ⟨h1, h2, h3, g1, g2, g3⟩
          | (go_split_ands
             refine ⟨?_, ?_, ?_, ?_, ?_, ?_⟩
             all_goals (rw [hb2.cell (by simp <;> omega)]; assumption)))
        ((go_at_call 16; ((with_reducible refine (eqPtr_same x _).mono ?_); rintro e w2 ⟨rfl, hb2⟩)))
      all_goals
        have hb3 := (Below.refl wr.heap.size wr).drew.trans hb2
        have Z1 := Lib.hid (Y1.out.below hb3 hx1)
        have Z2 := Lib.hid (Y2.out.below hb3 hx2)
        have HB2 := Lib.hid (HB.out.trans (hb3.mono HB.out.size))
        clear hb2 hb3 HB Y1 Y2 h1 h2 h3 g1 g2 g3
        go_wp2
        go_roundw
        case rel => exact ⟨k + 1, by omega, by go_num, Z1, Z2, HB2⟩
        case measure => simp [intOf]; omega
    case neg =>
      go_wp2
      go_ret
      exact ⟨rfl, HB.out⟩
end Go.Proofs.YtfpplbipnbcpaaaDoor

/-
  The law on CoreMapRead, walked.
-/
set_option maxRecDepth 100000
namespace Go.Proofs.YtfpplbipnbcpaaaDoor
open Go.ChangeShapes Go.WideShapes Go.ChangeAt Go.RowKit Go.Proofs.Palim

/-- Either answer is eight pointers and a flag. -/
theorem mread_form {t : ByteArray} {w w' : World} {e : Ending} (h : MReadPost t w e w') : ∃ (qs : List PtrM) (b : Bool), e = .returned (.tuple #[.agg (pcs qs).toArray, .bool b]) ∧ qs.length = 8 ∧ Hid ((b = true ∧ MReads t qs) ∨ (b = false ∧ qs = List.replicate 8 noPtr ∧ ∀ ps, ¬ MReads t ps)) ∧ Below w.heap.size w w' := by
  obtain ⟨hb, ⟨ps, hp, rfl⟩ | ⟨hn, rfl⟩⟩ := h
  · exact ⟨ps, true, rfl, hp.eight, Lib.hid (Or.inl ⟨rfl, hp⟩), hb⟩
  · exact ⟨List.replicate 8 noPtr, false, rfl, rfl, Lib.hid (Or.inr ⟨rfl, rfl, hn⟩), hb⟩

set_option maxHeartbeats 1000000 in
theorem lawCoreMapRead (t : ByteArray) (w : World) (hm : t.size ≤ maxLen) (hv : LibVars w) :
    Calls Tryd.prog 4 #[.string t] w fun e w' => e = .returned (.bool true) ∧ Below w.heap.size w w' := by
  have hnot : ∀ (x : Bool) (w : World), (Op.unary .not (.bool x)).run Tryd.prog w = .ok (.bool (!x)) w := fun _ _ => rfl
  unfold maxLen at hm
  by_cases hbig : t.size > 1048576
  · have hbi : (t.size : Int) > 1048576 := by omega
    go_enter Tryd.func4, Tryd.ntmps4
    go_wp2
    go_ret
    exact ⟨rfl, Below.refl _ _⟩
  have hbi : ¬ ((t.size : Int) > 1048576) := by omega
  go_enter Tryd.func4, Tryd.ntmps4
  go_wp2_with fail
  refine (specMapRead_any t _ (by omega)).mono ?_
  intro e w1 h
  obtain ⟨qs, b, rfl, h8, HW, hb⟩ := mread_form h
  have HQL := Lib.hid (show (pcs qs).length = 24 by rw [pcs_length, h8])
  have H8 := Lib.hid h8
  have hX := box_new w1 #[.int .i64 0, .int .i64 0, .int .i64 0, .int .i64 0, .int .i64 0, .int .i64 0, .int .i64 0, .int .i64 0, .int .i64 0, .int .i64 0, .int .i64 0, .int .i64 0, .int .i64 0, .int .i64 0, .int .i64 0, .int .i64 0, .int .i64 0, .int .i64 0, .int .i64 0, .int .i64 0, .int .i64 0, .int .i64 0, .int .i64 0, .int .i64 0] 30
  have X1 := Lib.hid hX
  have P1 := Lib.hid (Box.putAll hX (pcs qs) (by rw [HQL.out]; rfl))
  have B1 := Lib.hid (putC_below (hb.alloc hb.size (.cells #[.int .i64 0, .int .i64 0, .int .i64 0, .int .i64 0, .int .i64 0, .int .i64 0, .int .i64 0, .int .i64 0, .int .i64 0, .int .i64 0, .int .i64 0, .int .i64 0, .int .i64 0, .int .i64 0, .int .i64 0, .int .i64 0, .int .i64 0, .int .i64 0, .int .i64 0, .int .i64 0, .int .i64 0, .int .i64 0, .int .i64 0, .int .i64 0] 30)) w1.heap.size 0 hb.size (pcs qs))
  have HV1 := Lib.hid (hv.below B1.out)
  clear hb h hv h8 hX
  go_wp2_with (refine wpList_store_box rfl _ _ rfl rfl aggMap rfl (pcs qs) rfl HQL.out (pcs_one qs) [.int .i64 0, .int .i64 0, .int .i64 0, .int .i64 0, .int .i64 0, .int .i64 0, .int .i64 0, .int .i64 0, .int .i64 0, .int .i64 0, .int .i64 0, .int .i64 0, .int .i64 0, .int .i64 0, .int .i64 0, .int .i64 0, .int .i64 0, .int .i64 0, .int .i64 0, .int .i64 0, .int .i64 0, .int .i64 0, .int .i64 0, .int .i64 0] X1.out rfl ?_; clear X1; generalize putC (w1.alloc (.cells #[.int .i64 0, .int .i64 0, .int .i64 0, .int .i64 0, .int .i64 0, .int .i64 0, .int .i64 0, .int .i64 0, .int .i64 0, .int .i64 0, .int .i64 0, .int .i64 0, .int .i64 0, .int .i64 0, .int .i64 0, .int .i64 0, .int .i64 0, .int .i64 0, .int .i64 0, .int .i64 0, .int .i64 0, .int .i64 0, .int .i64 0, .int .i64 0] 30)) w1.heap.size 0 (pcs qs) = W1 at P1 B1 HV1 ⊢)
  refine (implMapRead_any t _ (by omega) HV1.out).mono ?_
  intro e w2 h
  obtain ⟨rs, c, rfl, _, HG, hb⟩ := mread_form h
  obtain ⟨e1, e2⟩ : rs = qs ∧ c = b := by
    rcases HW.out with ⟨h1, h2⟩ | ⟨h1, h2, h3⟩ <;> rcases HG.out with ⟨k1, k2⟩ | ⟨k1, k2, k3⟩
    · exact ⟨mreads_one k2 h2, k1.trans h1.symm⟩
    · exact absurd h2 (k3 _)
    · exact absurd k2 (h3 _)
    · exact ⟨k2.trans h2.symm, k1.trans h1.symm⟩
  subst e1 e2
  have P2 := Lib.hid (P1.out.below hb P1.out.lt)
  have B2 := Lib.hid (B1.out.trans (hb.mono B1.out.size))
  have hlt : w1.heap.size < w2.heap.size := P2.out.lt
  have hX := box_new w2 #[.int .i64 0, .int .i64 0, .int .i64 0, .int .i64 0, .int .i64 0, .int .i64 0, .int .i64 0, .int .i64 0, .int .i64 0, .int .i64 0, .int .i64 0, .int .i64 0, .int .i64 0, .int .i64 0, .int .i64 0, .int .i64 0, .int .i64 0, .int .i64 0, .int .i64 0, .int .i64 0, .int .i64 0, .int .i64 0, .int .i64 0, .int .i64 0] 30
  have X2 := Lib.hid hX
  have P3 := Lib.hid (show Box (putC (w2.alloc (.cells #[.int .i64 0, .int .i64 0, .int .i64 0, .int .i64 0, .int .i64 0, .int .i64 0, .int .i64 0, .int .i64 0, .int .i64 0, .int .i64 0, .int .i64 0, .int .i64 0, .int .i64 0, .int .i64 0, .int .i64 0, .int .i64 0, .int .i64 0, .int .i64 0, .int .i64 0, .int .i64 0, .int .i64 0, .int .i64 0, .int .i64 0, .int .i64 0] 30)) w2.heap.size 0 (pcs rs)) w1.heap.size (pcs rs) from (P2.out.alloc _).kept (putC_heap _ _ _ _ _ (by omega)))
  have Q3 := Lib.hid (Box.putAll hX (pcs rs) (by rw [HQL.out]; rfl))
  have B3 := Lib.hid (putC_below (B2.out.alloc B2.out.size (.cells #[.int .i64 0, .int .i64 0, .int .i64 0, .int .i64 0, .int .i64 0, .int .i64 0, .int .i64 0, .int .i64 0, .int .i64 0, .int .i64 0, .int .i64 0, .int .i64 0, .int .i64 0, .int .i64 0, .int .i64 0, .int .i64 0, .int .i64 0, .int .i64 0, .int .i64 0, .int .i64 0, .int .i64 0, .int .i64 0, .int .i64 0, .int .i64 0] 30)) w2.heap.size 0 B2.out.size (pcs rs))
  clear hb h P1 P2 B1 B2 HV1 HW HG hX
  have hbb : (c != c) = false := by simp
  go_wp2_with (first | (refine wpList_store_box rfl _ _ rfl rfl aggMap rfl (pcs rs) rfl HQL.out (pcs_one rs) [.int .i64 0, .int .i64 0, .int .i64 0, .int .i64 0, .int .i64 0, .int .i64 0, .int .i64 0, .int .i64 0, .int .i64 0, .int .i64 0, .int .i64 0, .int .i64 0, .int .i64 0, .int .i64 0, .int .i64 0, .int .i64 0, .int .i64 0, .int .i64 0, .int .i64 0, .int .i64 0, .int .i64 0, .int .i64 0, .int .i64 0, .int .i64 0] X2.out rfl ?_; clear X2; generalize putC (w2.alloc (.cells #[.int .i64 0, .int .i64 0, .int .i64 0, .int .i64 0, .int .i64 0, .int .i64 0, .int .i64 0, .int .i64 0, .int .i64 0, .int .i64 0, .int .i64 0, .int .i64 0, .int .i64 0, .int .i64 0, .int .i64 0, .int .i64 0, .int .i64 0, .int .i64 0, .int .i64 0, .int .i64 0, .int .i64 0, .int .i64 0, .int .i64 0, .int .i64 0] 30)) w2.heap.size 0 (pcs rs) = W3 at P3 Q3 B3 ⊢) | (refine wpList_load_box rfl _ rfl aggMap rfl (pcs rs) HQL.out Q3.out ?_) | (refine wpList_load_box rfl _ rfl aggMap rfl (pcs rs) HQL.out P3.out ?_))
  refine (eqPtrA8_same rs _ H8.out).mono ?_
  rintro e w4 ⟨rfl, hb⟩
  have B4 := Lib.hid (B3.out.trans (hb.mono B3.out.size))
  clear hb B3 P3 Q3
  go_wp2
  go_ret
  exact ⟨rfl, B4.out⟩
end Go.Proofs.YtfpplbipnbcpaaaDoor

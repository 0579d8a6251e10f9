/-
  Texts joined into one.
-/
import Derived.Test.YtojjenclcidnkaaGreatDoorDiskA
import Derived.StillTailTactics

/-
  spec's DiskFlush.
-/
set_option maxRecDepth 100000
namespace Go.Proofs.YtojjenclcidnkaaGreatDoor
open Go.ChangeShapes Go.WideShapes Go.ChangeAt Go.RowKit Go.Proofs.Palim

/-- One late write laid down. -/
def layM (p : List ByteArray × List ByteArray) (side : Int) (k : Nat) (t : ByteArray) : List ByteArray × List ByteArray := if side = 0 then (p.1.set k t, p.2) else (p.1, p.2.set k t)
def layAll (p : List ByteArray × List ByteArray) (ls : List LateM) : List ByteArray × List ByteArray := ls.foldl (fun p l => layM p l.side l.at_.toNat l.text) p
theorem layM_len (p : List ByteArray × List ByteArray) (side : Int) (k : Nat) (t : ByteArray) : (layM p side k t).1.length = p.1.length ∧ (layM p side k t).2.length = p.2.length := by unfold layM; split <;> simp
theorem layAll_snoc (p : List ByteArray × List ByteArray) (ls : List LateM) (l : LateM) : layAll p (ls ++ [l]) = layM (layAll p ls) l.side l.at_.toNat l.text := by simp [layAll]
theorem layAll_len (ls : List LateM) : ∀ p : List ByteArray × List ByteArray, (layAll p ls).1.length = p.1.length ∧ (layAll p ls).2.length = p.2.length := by
  induction ls with
  | nil => intro p; exact ⟨rfl, rfl⟩
  | cons l ls ih =>
    intro p
    have h := ih (layM p l.side l.at_.toNat l.text)
    have h2 := layM_len p l.side l.at_.toNat l.text
    exact ⟨h.1.trans h2.1, h.2.trans h2.2⟩
def flushM (d : DiskM) : DiskM := if DiskOkM d then ⟨(layAll (d.s0, d.s1) d.late).1, (layAll (d.s0, d.s1) d.late).2, []⟩ else noDisk
theorem scs_set (ss : List ByteArray) (k : Nat) (t : ByteArray) : (scs ss).set k (.string t) = scs (ss.set k t) := by simp [scs, List.map_set]

end Go.Proofs.YtojjenclcidnkaaGreatDoor

/-
  impl's put and text: a sector of a draft replaced and read; and what holds of a draft while a call works on it.
-/
set_option maxRecDepth 100000
namespace Go.Proofs.YtojjenclcidnkaaGreatDoor
open Go.ChangeShapes Go.WideShapes Go.ChangeAt Go.RowKit Go.Proofs.Palim

theorem takes_are (A0 A1 : Option Addr) (vl : Value) (n0 c0 n1 c1 : Nat) (hn : n1 = n0) (side at_ : Int) (s : ByteArray) (w : World) (hz : s.size ≤ maxLen) (r : Bool) (hr : decide (There n0 side at_ s.size) = r) :
    Calls Tryz.prog 131 #[.agg #[.slice A0 n0 c0, .slice A1 n1 c1, vl], .int .i64 side, .int .i64 at_, .string s] w fun e w' => e = .returned (.bool r) ∧ Below w.heap.size w w' := by
  subst hn
  exact takes_is A0 A1 vl n1 c0 c1 side at_ s w hz r hr
theorem has_are (A0 A1 : Option Addr) (n0 c0 n1 c1 : Nat) (hn : n1 = n0) (side at_ : Int) (w : World) (r : Bool) (hr : decide (There n0 side at_ 0) = r) :
    Calls Tryz.prog 150 #[.agg #[.slice A0 n0 c0, .slice A1 n1 c1], .int .i64 side, .int .i64 at_] w fun e w' => e = .returned (.bool r) ∧ Below w.heap.size w w' := by
  subst hn
  refine has_is A0 A1 n1 c0 n1 c1 side at_ w r ((dec_eq ?_).trans hr)
  simp only [decide_eq_true_eq]
  exact ⟨fun h => (has_there n1 side at_ 0).1 ⟨h, by omega⟩, fun h => ((has_there n1 side at_ 0).2 h).1⟩

/-- A sector replaced. -/
def putM (d : DiskM) (side at_ : Int) (t : ByteArray) : DiskM := ⟨(layM (d.s0, d.s1) side at_.toNat t).1, (layM (d.s0, d.s1) side at_.toNat t).2, d.late⟩
theorem putM_len (d : DiskM) (side at_ : Int) (t : ByteArray) : (putM d side at_ t).s0.length = d.s0.length ∧ (putM d side at_ t).s1.length = d.s1.length ∧ (putM d side at_ t).late = d.late := ⟨(layM_len _ _ _ _).1, (layM_len _ _ _ _).2, rfl⟩

theorem own_put {w : World} {base e g n cap : Nat} {ss : List ByteArray} (h : w.ownsRow base e 1 (.slice (some ⟨g, 0, none⟩) n cap) ss.length (scs ss)) (k : Nat) (t : ByteArray) :
    (w.setCell ⟨g, k, none⟩ (.string t)).ownsRow base e 1 (.slice (some ⟨g, 0, none⟩) n cap) (ss.set k t).length (scs (ss.set k t)) := by
  rw [List.length_set]
  have hn : n = ss.length := by
    obtain ⟨_, A, c, hv, _⟩ := sl_of_own h
    injection hv
  subst hn
  have h2 := own_set h k (.string t)
  rwa [scs_set] at h2

set_option maxHeartbeats 400000 in
theorem text_any (v0 v1 vl : Value) (d : DiskM) (side at_ : Int) (w : World) (h : DiskR w v0 v1 vl d) (hn0 : d.s0.length ≤ 1048576) (hn1 : d.s1.length ≤ 1048576) (hh : Has d.s0.length d.s1.length side at_) :
    Calls Tryz.prog 156 #[.agg #[v0, v1], .int .i64 side, .int .i64 at_] w fun e w' => e = .returned (.string ((sideOf d side).getD at_.toNat ⟨#[]⟩)) ∧ Below w.heap.size w w' := by
  rcases hh with ⟨rfl, h0, h1⟩ | ⟨rfl, h0, h1⟩
  · obtain ⟨k, rfl⟩ : ∃ k : Nat, at_ = k := ⟨at_.toNat, by omega⟩
    have hk : k < d.s0.length := by omega
    obtain ⟨b0, o0, c0, rfl, hc0, hm0, hcell0⟩ := h.r0.form (by omega)
    obtain ⟨_, A1, c1, rfl, _⟩ := h.r1
    have g0 := hcell0 k _ (scs_at d.s0 k hk)
    have hbl : b0 < w.heap.size := h.l0 b0 rfl
    have E := Lib.hid (show d.s0[k] = (sideOf d 0).getD ((k : Nat) : Int).toNat ⟨#[]⟩ from by simp [sideOf, hk])
    have hn := Lib.hid (Below.new (w := w) (.cells #[.slice (some ⟨b0, o0, none⟩) d.s0.length c0, .slice A1 d.s1.length c1] 211))
    generalize d.s0[k] = t at g0 E
    unfold maxLen at hm0
    clear h hcell0 h0 h1
    go_enter Tryz.func156, Tryz.ntmps156
    go_wp2
    go_ret
    exact ⟨ret_str E.out, hn.out⟩
  · obtain ⟨k, rfl⟩ : ∃ k : Nat, at_ = k := ⟨at_.toNat, by omega⟩
    have hk : k < d.s1.length := by omega
    obtain ⟨b0, o0, c0, rfl, hc0, hm0, hcell0⟩ := h.r1.form (by omega)
    obtain ⟨_, A1, c1, rfl, _⟩ := h.r0
    have g0 := hcell0 k _ (scs_at d.s1 k hk)
    have hbl : b0 < w.heap.size := h.l1 b0 rfl
    have E := Lib.hid (show d.s1[k] = (sideOf d 1).getD ((k : Nat) : Int).toNat ⟨#[]⟩ from by simp [sideOf, hk])
    have hn := Lib.hid (Below.new (w := w) (.cells #[.slice A1 d.s0.length c1, .slice (some ⟨b0, o0, none⟩) d.s1.length c0] 211))
    generalize d.s1[k] = t at g0 E
    unfold maxLen at hm0
    clear h hcell0 h0 h1
    go_enter Tryz.func156, Tryz.ntmps156
    go_wp2
    go_ret
    exact ⟨ret_str E.out, hn.out⟩

/-- What holds of a draft (in the box x) while a call that began in w works on it. -/
structure Dr (w w' : World) (x : Nat) (u0 u1 ul : Value) (d : DiskM) : Prop where
  xr : Box w' (w.heap.size + 1) [.slice none 0 0, .slice none 0 0, .slice none 0 0]
  xo : Box w' x [u0, u1, ul]
  own : DiskOwn w' (w.heap.size + 2) u0 u1 ul d
  nx : ¬ DTurns u0 u1 ul x
  below : Below w.heap.size w w'
  hx : w.heap.size + 2 ≤ x
theorem Dr.on {w w' w2 : World} {x : Nat} {u0 u1 ul : Value} {d : DiskM} (h : Dr w w' x u0 u1 ul d) (hb : Below w'.heap.size w' w2) : Dr w w2 x u0 u1 ul d :=
  ⟨h.xr.below hb h.xr.lt, h.xo.below hb h.xo.lt, h.own.below hb, h.nx, h.below.trans (hb.mono h.below.size), h.hx⟩
theorem Dr.turned {w w' w2 : World} {x : Nat} {u0 u1 ul : Value} {d d' : DiskM} (h : Dr w w' x u0 u1 ul d) (ht : Turned (DTurns u0 u1 ul) w' w2) (ho : DiskOwn w2 (w.heap.size + 2) u0 u1 ul d') : Dr w w2 x u0 u1 ul d' :=
  ⟨h.xr.turned ht (h.own.past (by omega)), h.xo.turned ht h.nx, ho, h.nx, h.below.trans ((below_past ht h.own (by have := h.xr.lt; omega)).mono (by omega)), h.hx⟩
/-- The late writes replaced by none. -/
theorem Dr.noLate {w w' : World} {x : Nat} {u0 u1 ul : Value} {d : DiskM} (h : Dr w w' x u0 u1 ul d) : Dr w (w'.setCell ⟨x, 2, none⟩ (.slice none 0 0)) x u0 u1 (.slice none 0 0) ⟨d.s0, d.s1, []⟩ :=
  ⟨h.xr.other (by have := h.hx; simp; omega) _, h.xo.set 2 _, ⟨own_kept h.own.o0 fun b e => Below.heap_setCell _ _ _ _ fun e' => h.nx (Or.inl (e.trans (congrArg some e'))), own_kept h.own.o1 fun b e => Below.heap_setCell _ _ _ _ fun e' => h.nx (Or.inr (Or.inl (e.trans (congrArg some e')))), ⟨rfl, .inl ⟨rfl, rfl⟩⟩, h.own.p01, fun _ _ e => by simp [Value.ownBlock] at e, fun _ _ e => by simp [Value.ownBlock] at e⟩,
    fun e => by
      rcases e with e | e | e
      · exact h.nx (Or.inl e)
      · exact h.nx (Or.inr (Or.inl e))
      · simp [Value.ownBlock] at e,
    h.below.setCell (by have := h.hx; simp; omega) _, h.hx⟩
/-- The draft handed back in the result's box. -/
theorem Dr.back {w w' : World} {x : Nat} {u0 u1 ul : Value} {d : DiskM} (h : Dr w w' x u0 u1 ul d) :
    DiskOwn (((w'.setCell ⟨w.heap.size + 1, 0, none⟩ u0).setCell ⟨w.heap.size + 1, 1, none⟩ u1).setCell ⟨w.heap.size + 1, 2, none⟩ ul) w.heap.size u0 u1 ul d ∧ Below w.heap.size w (((w'.setCell ⟨w.heap.size + 1, 0, none⟩ u0).setCell ⟨w.heap.size + 1, 1, none⟩ u1).setCell ⟨w.heap.size + 1, 2, none⟩ ul) :=
  ⟨(h.own.set3 (by simp) (by simp) (by simp)).base (by omega), ((h.below.setCell (by simp) _).setCell (by simp) _).setCell (by simp) _⟩
theorem Dr.cells {w w' : World} {x : Nat} {u0 u1 ul : Value} {d : DiskM} (h : Dr w w' x u0 u1 ul d) :
    (w'.setCell ⟨w.heap.size + 1, 0, none⟩ u0).cell? ⟨w.heap.size + 1, 0, none⟩ = some u0 ∧ ((w'.setCell ⟨w.heap.size + 1, 0, none⟩ u0).setCell ⟨w.heap.size + 1, 1, none⟩ u1).cell? ⟨w.heap.size + 1, 1, none⟩ = some u1 ∧
      (((w'.setCell ⟨w.heap.size + 1, 0, none⟩ u0).setCell ⟨w.heap.size + 1, 1, none⟩ u1).setCell ⟨w.heap.size + 1, 2, none⟩ ul).cell? ⟨w.heap.size + 1, 2, none⟩ = some ul :=
  ⟨(h.xr.set 0 u0).cell 0 rfl, ((h.xr.set 0 u0).set 1 u1).cell 1 rfl, (((h.xr.set 0 u0).set 1 u1).set 2 ul).cell 2 rfl⟩
theorem dr_start {w w1 w2 : World} {u0 u1 ul : Value} {d : DiskM} (t : Nat) (xr : Box w1 (w.heap.size + 1) [.slice none 0 0, .slice none 0 0, .slice none 0 0]) (hb1 : Below w.heap.size w w1) (hs : w.heap.size + 2 ≤ w1.heap.size) (ho : DiskOwn w2 w1.heap.size u0 u1 ul d) (hb : Below w1.heap.size w1 w2) :
    Dr w (w2.alloc (.cells #[u0, u1, ul] t)) w2.heap.size u0 u1 ul d :=
  ⟨(xr.below hb (by omega)).alloc _, box_new _ _ _, (ho.below (Below.new _)).base hs, ho.reads.low.past (Nat.le_refl _), (hb1.trans (hb.mono (by omega))).trans ((Below.new _).mono (by have := hb.size; omega)), by have := hb.size; omega⟩
theorem Dr.agg {w w' : World} {x : Nat} {u0 u1 ul : Value} {d : DiskM} (h : Dr w w' x u0 u1 ul d) : NewDisk w d (.returned (.agg #[u0, u1, ul])) (((w'.setCell ⟨w.heap.size + 1, 0, none⟩ u0).setCell ⟨w.heap.size + 1, 1, none⟩ u1).setCell ⟨w.heap.size + 1, 2, none⟩ ul) :=
  ⟨_, _, _, rfl, h.back.1, h.back.2⟩
end Go.Proofs.YtojjenclcidnkaaGreatDoor

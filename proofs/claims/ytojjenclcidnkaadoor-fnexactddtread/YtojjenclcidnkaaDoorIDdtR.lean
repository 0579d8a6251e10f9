/-
  The table read: impl's DdtRead.
-/
import Derived.Test.YtojjenclcidnkaaDoorSDdtR
import Derived.Test.YtojjenclcidnkaaDoorSeqOwn
import Derived.Test.YtojjenclcidnkaaDoorPtrRdI
import Derived.Test.YtojjenclcidnkaaDoorDdtTI
import Derived.Test.YtojjenclcidnkaaDoorImKeep
import Derived.Maps.AppendAt
import Derived.RangeFuncBox
set_option maxRecDepth 100000
namespace Go.Proofs.YtojjenclcidnkaaDoor
open Go.ChangeShapes Go.WideShapes Go.ChangeAt Go.RowKit Go.Proofs.Palim

open Go.Shelf
attribute [local go_sem] Oper.semAt_some

/-- The entry that three numbers tell. -/
def entP : Option PtrM → EntM
  | some p => ⟨p.at_, p.sum, p.birth⟩
  | none => ⟨0, 0, 0⟩
/-- The words of a text t, and the entries that they tell. -/
abbrev WordOf (t : ByteArray) := { x : ByteArray // x.size ≤ t.size }
def esOf {t : ByteArray} (pre : List (WordOf t)) : List EntM := pre.map fun x => entP (parseL x.1.data.toList)
theorem esOf_len {t : ByteArray} (pre : List (WordOf t)) : (esOf pre).length = pre.length := List.length_map _
theorem esOf_snoc {t : ByteArray} (pre : List (WordOf t)) (x : WordOf t) (p : PtrM) (h : parseL x.1.data.toList = some p) : esOf (pre ++ [x]) = esOf pre ++ [⟨p.at_, p.sum, p.birth⟩] := by
  unfold esOf
  rw [List.map_append, List.map_singleton, h]
  rfl
theorem esOf_of {t : ByteArray} {ls : List EntM} (h : ∀ x ∈ ls, EntOkM x) (ys : List (WordOf t)) (e : outs (ys.map (·.1)) = ls.map entL) : esOf ys = ls := by
  have h1 : esOf ys = (outs (ys.map (·.1))).map (fun l => entP (parseL l)) := by simp [esOf, outs, Function.comp_def]
  rw [h1, e, List.map_map]
  calc ls.map _ = ls.map id := List.map_congr_left (fun x hx => by simp [ent_parse (h x hx), entP])
    _ = ls := List.map_id _
theorem rd_empty {o : Option (List EntM)} (h : RdE ⟨#[]⟩ o) : o = some [] := rdE_some h (by decide) ⟨dok_nil, dtext_nil⟩
theorem rd_done {t : ByteArray} {o : Option (List EntM)} (ho : RdE t o) (h1 : t.size ≤ 1000) (hne : t ≠ ⟨#[]⟩) {ys : List (WordOf t)} (hy : outs (ys.map (·.1)) = piecesC 32 t.data.toList) :
    (ddtText (esOf ys) = t → o = some (esOf ys)) ∧ (ddtText (esOf ys) ≠ t → o = none) := by
  constructor
  · intro h
    refine rdE_some ho h1 ⟨?_, h⟩
    by_cases hk : DdtOkM (esOf ys)
    · exact hk
    · refine absurd ?_ hne
      rw [← h]
      unfold ddtText
      rw [if_neg hk]
  · intro h
    refine rdE_none ho (.inr fun ls hl => h ?_)
    rw [esOf_of (dok_ents hl.1) ys (by rw [hy, piecesC_32, dspells_pieces hl (dspells_some hl hne)])]
    exact hl.2
theorem rd_stop {t : ByteArray} {o : Option (List EntM)} (ho : RdE t o) (hne : t ≠ ⟨#[]⟩) {pre : List (WordOf t)} (hp : outs (pre.map (·.1)) <+: piecesC 32 t.data.toList) (hx : ∃ x ∈ pre, parseL x.1.data.toList = none) : o = none := by
  refine rdE_none ho (.inr fun ls hl => ?_)
  obtain ⟨x, hx, hn⟩ := hx
  obtain ⟨r, hr⟩ := hp
  rw [piecesC_32, dspells_pieces hl (dspells_some hl hne)] at hr
  have hm : x.1.data.toList ∈ ls.map entL := by
    rw [← hr]
    exact List.mem_append_left _ (List.mem_map.2 ⟨x.1, List.mem_map.2 ⟨x, hx, rfl⟩, rfl⟩)
  obtain ⟨y, hy, e⟩ := List.mem_map.1 hm
  rw [← e, ent_parse (dok_ents hl.1 y hy)] at hn
  cases hn
theorem piecesC_len (c : UInt8) (l : List UInt8) : (piecesC c l).length ≤ l.length + 1 := by
  induction l with
  | nil => exact Nat.le_refl _
  | cons b l ih =>
    rw [piecesC]
    split
    · simp; omega
    · split
      · simp
      · rename_i h; rw [h] at ih; simp at ih ⊢; omega
theorem box_abides {β : Type} {C R : Nat} {vs : List Value} (h : R ≠ C) : AbidesC C (fun (_ : β) W => Box W R vs) := fun s X X' row hs hg hr =>
  hs.kept (hg.block R hs.lt (fun e => h (hr R e.symm)))
theorem pure_abides {β : Type} {C : Nat} (p : β → Prop) : AbidesC C (fun (s : β) _ => p s) := fun _ _ _ _ hs _ _ => hs
theorem keepsO_below {W W' : World} (h : Below W.heap.size W W') : KeepsOthers W W' := ⟨h.size, fun k o hk _ => (h.block k (Array.getElem?_eq_some_iff.1 hk).1).trans hk⟩
theorem box_ownD {β : Type} (b : Nat) (vs : List Value) : Own (fun (_ : β) W => Box W b vs) := fun _ X Y row hs hg hr =>
  hs.kept (hg.block _ hs.lt (fun e => by
    obtain ⟨o, ho, hc⟩ := hr b e.symm
    obtain ⟨c, t, hb, _⟩ := hs
    rw [hb] at ho
    cases ho
    cases hc))
/-- The two results of DdtRead, in their boxes, as they lie until they are written. -/
structure RBox (w W : World) : Prop where
  r0 : Box W w.heap.size [.slice none 0 0]
  r1 : Box W (w.heap.size + 1) [.bool false]
  below : Below w.heap.size w W
theorem RBox.on {w W W' : World} (h : RBox w W) (hb : Below W.heap.size W W') : RBox w W' := ⟨h.r0.below hb h.r0.lt, h.r1.below hb h.r1.lt, h.below.trans (hb.mono h.below.size)⟩
theorem RBox.own {β : Type} {B : Nat} {w : World} (hB : w.heap.size ≤ B) : OwnFrom B (fun (_ : β) W => RBox w W) := fun s X Y row h hg hr =>
  ⟨box_ownD _ _ s X Y row h.r0 hg (fun r e => (hr r e).2), box_ownD _ _ s X Y row h.r1 hg (fun r e => (hr r e).2), ownFrom_below (β := β) (Nat.le_refl _) hB s X Y row h.below hg hr⟩
theorem RBox.abides {β : Type} {w : World} {C : Nat} (hC : w.heap.size + 2 ≤ C) : AbidesC C (fun (_ : β) W => RBox w W) := fun s X Y row h hg hr =>
  ⟨box_abides (β := β) (by omega) s X Y row h.r0 hg hr, box_abides (β := β) (by omega) s X Y row h.r1 hg hr, below_abides (β := β) (Nat.le_refl _) (by omega) s X Y row h.below hg hr⟩
theorem RBox.put {w W : World} (h : RBox w W) (v : Value) (b : Bool) : Box ((W.setCell ⟨w.heap.size, 0, none⟩ v).setCell ⟨w.heap.size + 1, 0, none⟩ (.bool b)) w.heap.size [v] ∧ Box ((W.setCell ⟨w.heap.size, 0, none⟩ v).setCell ⟨w.heap.size + 1, 0, none⟩ (.bool b)) (w.heap.size + 1) [.bool b] ∧ Below w.heap.size w ((W.setCell ⟨w.heap.size, 0, none⟩ v).setCell ⟨w.heap.size + 1, 0, none⟩ (.bool b)) :=
  ⟨(h.r0.set 0 _).other (by show _ ≠ _; simp only; omega) _, (h.r1.other (by show _ ≠ _; simp only; omega) _).set 0 _, (h.below.setCell (by show _ ≤ _; simp only; omega) _).setCell (by show _ ≤ _; simp only; omega) _⟩

theorem RBox.keep {w W W' : World} (h : RBox w W) (k : KeepB (w.heap.size + 6) (fun b => b = w.heap.size + 2) W W') (hb : Below w.heap.size W W') : RBox w W' :=
  ⟨h.r0.kept (k.block _ (by omega) (by omega)), h.r1.kept (k.block _ (by omega) (by omega)), h.below.trans hb⟩
theorem RBox.puts {w W : World} (h : RBox w W) : RBox w ((W.setCell ⟨w.heap.size, 0, none⟩ (.slice none 0 0)).setCell ⟨w.heap.size + 1, 0, none⟩ (.bool false)) :=
  ⟨(h.put _ _).1, (h.put _ _).2.1, (h.put _ _).2.2⟩
theorem ent_new (X : World) (r : EntM) (e : Nat) : ∀ j u, (ec r)[j]? = some u → (X.alloc (.cells #[.int .i64 r.sum, .int .i64 r.at_, .int .i64 r.count] e)).cell? ((⟨X.heap.size, 0, none⟩ : Addr).add j) = some u := by
  intro j u hu
  have := (box_new X #[.int .i64 r.sum, .int .i64 r.at_, .int .i64 r.count] e).cell j hu
  unfold Addr.add
  split
  · rename_i h0
    obtain rfl : j = 0 := by simpa using h0
    exact this
  · rw [Nat.zero_add]
    exact this
set_option maxHeartbeats 4000000 in
theorem implDdtRead_any (t : ByteArray) (o : Option (List EntM)) (w : World) (ht : t.size ≤ 1048576) (ho : RdE t o) (hV : LibVars w) :
    Calls Tryd.prog 5 #[.string t] w (RdPost o w) := by
  have hnot : ∀ (x : Bool) (w : World), (Op.unary .not (.bool x)).run Tryd.prog w = .ok (.bool (!x)) w := fun _ _ => rfl
  obtain ⟨i0, hi, hz0, hz1, hz2⟩ := info_parts infoEnt
  have HO := Lib.hid ho
  have HV := Lib.hid hV
  clear ho hV
  have hb0 := Below.new (w := w) (.cells #[.slice none 0 0] 22)
  have hb1 := Below.new (w := w.alloc (.cells #[.slice none 0 0] 22)) (.cells #[.bool false] 4)
  have RB := Lib.hid (show RBox w ((w.alloc (.cells #[.slice none 0 0] 22)).alloc (.cells #[.bool false] 4)) from
    ⟨(box_new w #[.slice none 0 0] 22).below hb1 (by simp), by have := box_new (w.alloc (.cells #[.slice none 0 0] 22)) #[.bool false] 4; rwa [World.size_alloc] at this, hb0.trans (hb1.mono hb0.size)⟩)
  have HN1 := Lib.hid (show ((w.alloc (.cells #[.slice none 0 0] 22)).alloc (.cells #[.bool false] 4)).heap.size = w.heap.size + 2 from by simp)
  clear hb0 hb1
  refine (callsIn_wide (n := 9)).1 ?_
  refine callsIn_of_wp_marks Tryd.func5 rfl trivial ?_ rfl
  simp only [Tryd.ntmps5, List.size_toArray, List.length_cons, List.length_nil, Nat.reduceAdd, Nat.reduceSub, Array.replicate_succ, Array.replicate_zero, List.push_toArray, List.append_toArray, List.nil_append, List.cons_append]
  by_cases h0 : t = ⟨#[]⟩
  · subst h0
    have HE := Lib.hid (rd_empty HO.out)
    have hcmp : ((⟨#[]⟩ : ByteArray).toList == []) = true := by rw [ByteArray.toList_eq]; rfl
    have c0 := RB.out.r0.cell 0 rfl
    have c1 := RB.out.r1.cell 0 rfl
    have f0 := RB.out.r0.open_ 0
    have f1 := RB.out.r1.open_ 0
    have P := Lib.hid (RB.out.put (.slice none 0 0) true)
    gi_wp2
    have d0 := P.out.1.cell 0 rfl
    have d1 := P.out.2.1.cell 0 rfl
    refine ⟨.tuple #[.slice none 0 0, .bool true], (by simp [results, Tryd.results5, go_sem, d0, d1]), rd_yes HE.out ⟨rfl, .inl ⟨rfl, rfl⟩⟩ (((Below.refl _ w).alloc (Nat.le_refl _) _).alloc (by simp) _)⟩
  have hcmp : (t.toList == []) = false := by
    rw [ByteArray.toList_eq]
    refine beq_eq_false_iff_ne.2 fun e => h0 ?_
    apply ByteArray.ext
    exact Array.ext' e
  have H0 := Lib.hid h0
  by_cases h1000 : t.size ≤ 1000
  case neg =>
    have HNO := Lib.hid (rdE_none HO.out (.inl h1000))
    have hq : (t.size : Int) > 1000 := by omega
    have c0 := RB.out.r0.cell 0 rfl
    have c1 := RB.out.r1.cell 0 rfl
    have f0 := RB.out.r0.open_ 0
    have f1 := RB.out.r1.open_ 0
    have P := Lib.hid (RB.out.put (.slice none 0 0) false)
    gi_wp2
    have d0 := P.out.1.cell 0 rfl
    have d1 := P.out.2.1.cell 0 rfl
    refine ⟨.tuple #[.slice none 0 0, .bool false], (by simp [results, Tryd.results5, go_sem, d0, d1]), rd_no HNO.out (((Below.refl _ w).alloc (Nat.le_refl _) _).alloc (by simp) _)⟩
  have hq : ¬ (t.size : Int) > 1000 := by omega
  have H1000 := Lib.hid h1000
  clear h0 h1000
  have hb2 := Below.new (w := (w.alloc (.cells #[.slice none 0 0] 22)).alloc (.cells #[.bool false] 4)) (.cells #[.slice none 0 0] 22)
  have RB2 := Lib.hid (RB.out.on hb2)
  have XL := Lib.hid (show Go.Boxed _ (w.heap.size + 2) 22 (.slice none 0 0) from by have := Go.Boxed.new ((w.alloc (.cells #[.slice none 0 0] 22)).alloc (.cells #[.bool false] 4)) 22 (.slice none 0 0); rwa [HN1.out] at this)
  have HN2 := Lib.hid (show (((w.alloc (.cells #[.slice none 0 0] 22)).alloc (.cells #[.bool false] 4)).alloc (.cells #[.slice none 0 0] 22)).heap.size = w.heap.size + 3 from by rw [World.size_alloc, HN1.out])
  clear hb2 RB HN1
  gi_wp2_with fail
  generalize ((w.alloc (.cells #[.slice none 0 0] 22)).alloc (.cells #[.bool false] 4)).alloc (.cells #[.slice none 0 0] 22) = w1 at RB2 XL HN2 ⊢
  refine ⟨trivial, (split_in _ (by omega) t ⟨#[32]⟩ _).mono ?_⟩
  rintro e w2 ⟨rfl, rfl⟩
  have hn2 := Below.new (w := w1) (.cells #[.string t] 9)
  have hn3 := Below.new (w := w1.alloc (.cells #[.string t] 9)) (.cells #[.string ⟨#[32]⟩] 9)
  have hn4 := Below.new (w := (w1.alloc (.cells #[.string t] 9)).alloc (.cells #[.string ⟨#[32]⟩] 9)) (.cells #[.int .i64 0] 3)
  have hn5 := (hn2.trans (hn3.mono hn2.size)).trans (hn4.mono (hn2.trans (hn3.mono hn2.size)).size)
  have RB3 := Lib.hid (RB2.out.on hn5)
  have XL3 := Lib.hid ((hn5.block _ XL.out.lt).trans XL.out : Go.Boxed _ (w.heap.size + 2) 22 (.slice none 0 0))
  have YS := Lib.hid (show Box _ (w.heap.size + 3) [.string t] from by have := ((box_new w1 #[.string t] 9).below hn3 (by simp)).below hn4 (by simp only [World.size_alloc]; omega); rwa [HN2.out] at this)
  have YP := Lib.hid (show Box _ (w.heap.size + 4) [.string ⟨#[32]⟩] from by have := (box_new (w1.alloc (.cells #[.string t] 9)) #[.string ⟨#[32]⟩] 9).below hn4 (by simp); rwa [World.size_alloc, HN2.out] at this)
  have YV := Lib.hid (show Box _ (w.heap.size + 5) [.int .i64 0] from by have := box_new ((w1.alloc (.cells #[.string t] 9)).alloc (.cells #[.string ⟨#[32]⟩] 9)) #[.int .i64 0] 3; rwa [World.size_alloc, World.size_alloc, HN2.out] at this)
  have HN3 := Lib.hid (show (((w1.alloc (.cells #[.string t] 9)).alloc (.cells #[.string ⟨#[32]⟩] 9)).alloc (.cells #[.int .i64 0] 3)).heap.size = w.heap.size + 6 from by rw [World.size_alloc, World.size_alloc, World.size_alloc, HN2.out])
  rw [HN2.out]
  simp only [Nat.add_assoc, Nat.reduceAdd]
  clear hn2 hn3 hn4 hn5 RB2 XL HN2
  generalize ((w1.alloc (.cells #[.string t] 9)).alloc (.cells #[.string ⟨#[32]⟩] 9)).alloc (.cells #[.int .i64 0] 3) = W0 at RB3 XL3 YS YP YV HN3 ⊢
  gi_wp2_with fail
  have hle0 := RB3.out.below.size
  have HLN := Lib.hid (show (piecesC 32 t.data.toList).length ≤ 1001 from by
    have h1 := piecesC_len 32 t.data.toList
    have h2 : t.data.toList.length = t.size := rfl
    have := H1000.out
    omega)
  refine wpIn_rangeFunc_cell (C := w.heap.size + 3) rfl (by omega) (gf := 25) (lb := #[.pointer (some ⟨w.heap.size + 4, 0, none⟩), .pointer (some ⟨w.heap.size + 3, 0, none⟩), .pointer (some ⟨w.heap.size + 5, 0, none⟩)]) rfl trivial (enters_of Tryd.func25 (by kernel_rfl) rfl)
    (split_stopsB _ (by omega) (w.heap.size + 3) (w.heap.size + 4) (w.heap.size + 5) (w.heap.size + 6) (fun b => b = w.heap.size + 2) 32 t ht W0 YS.out YP.out YV.out ⟨by omega, by omega⟩ ⟨by omega, by omega, by omega⟩ ⟨by omega, by omega, by omega⟩)
    (by rw [HN3.out]; omega) KeepB.trans (keepB_b (by rw [HN3.out]; omega)) (fun _ => rfl)
    (fun pre W => (∃ v, Go.Boxed W (w.heap.size + 2) 22 v ∧ W.ownsRow (w.heap.size + 6) 33 3 v pre.length (ecs (esOf pre)) ∧ True) ∧ RBox w W ∧ w.heap.size + 6 ≤ W.heap.size)
    (fun c pre W => RBox w W ∧ c = .ret ∧ ∃ x ∈ pre, parseL x.1.data.toList = none)
    (OwnFrom.and (Own.from (holdsRow_own (w.heap.size + 6) (w.heap.size + 2) 22 33 3 (fun pre : List (WordOf t) => pre.length) (fun pre => ecs (esOf pre)) (fun _ _ => True)) _) (OwnFrom.and (RBox.own hle0) (fun _ X Y row hs hg _ => Nat.le_trans hs hg.size)))
    (AbidesC.and (holds_abides (fun pre : List (WordOf t) => pre.length) (fun pre => ecs (esOf pre)) (fun _ _ => True) (by omega) (by omega)) (AbidesC.and (RBox.abides (by omega)) size_abides))
    (fun c => OwnFrom.and (RBox.own hle0) (ownFrom_pure _ _))
    (fun c => AbidesC.and (RBox.abides (by omega)) (pure_abides _))
    ⟨⟨_, XL3.out, ⟨rfl, .inl ⟨rfl, rfl⟩⟩, trivial⟩, RB3.out, by rw [HN3.out]; omega⟩
    (fun x => { tmps := #[.string t, undef, .pointer (some ⟨w.heap.size, 0, none⟩), .pointer (some ⟨w.heap.size + 1, 0, none⟩), .pointer (some ⟨w.heap.size + 2, 0, none⟩), .string x.1, undef, undef, .string t, .bool false, .string t, .int .i64 t.size, .bool false, .string t, .func (.func 25) #[] #[.pointer (some ⟨w.heap.size + 4, 0, none⟩), .pointer (some ⟨w.heap.size + 3, 0, none⟩), .pointer (some ⟨w.heap.size + 5, 0, none⟩)], .string x.1, undef, undef, undef, undef, undef, undef, undef, undef, undef, undef, undef, undef, undef, undef, undef, undef, undef, undef, undef, undef, undef, undef], defers := [] })
    ?assign ?body ?done ?stop
  case assign =>
    intro l x W K hK
    gi_wp2
    exact hK
  case body =>
    rintro l pre x W ⟨⟨v, hv, hrow, -⟩, hRB, hsz⟩ hlt
    have RB := Lib.hid hRB
    have XV := Lib.hid hv
    have HR := Lib.hid hrow
    have hx := x.2
    clear hv hrow hRB
    gi_wp2_with fail
    refine ⟨trivial, (CallsIn.inRound l (callsIn_wide.2 (blkNumbers_any x.1 _ (by omega) (HV.out.below RB.out.below)))).mono ?_⟩
    rintro e w3 ⟨hb, ⟨p, hp, rfl⟩ | ⟨hn, rfl⟩⟩
    · have HP := Lib.hid (esOf_snoc pre x p hp)
      have hn3 := Below.new (w := w3) (.cells #[.int .i64 p.at_, .int .i64 p.sum, .int .i64 p.birth] 39)
      have XB := Lib.hid (box_new w3 #[.int .i64 p.at_, .int .i64 p.sum, .int .i64 p.birth] 39)
      have HB3 := Lib.hid (hb.trans (hn3.mono hb.size))
      have RB3 := Lib.hid (RB.out.on HB3.out)
      have hv3 : Go.Boxed (w3.alloc (.cells #[.int .i64 p.at_, .int .i64 p.sum, .int .i64 p.birth] 39)) (w.heap.size + 2) 22 v := (HB3.out.block _ XV.out.lt).trans XV.out
      have HR3 := Lib.hid (own_kept HR.out (w' := (w3.alloc (.cells #[.int .i64 p.at_, .int .i64 p.sum, .int .i64 p.birth] 39))) (fun b e => HB3.out.block b (HR.out.lt b e).2))
      have hsz3 : w.heap.size + 6 ≤ ((w3.alloc (.cells #[.int .i64 p.at_, .int .i64 p.sum, .int .i64 p.birth] 39))).heap.size := Nat.le_trans hsz HB3.out.size
      have hw3 : w.heap.size + 6 ≤ w3.heap.size := Nat.le_trans hsz hb.size
      have hn8 : pre.length < 1001 := by have := HLN.out; omega
      have hc := hv3.cell
      have z0 := XB.out.cell 0 rfl
      have z1 := XB.out.cell 1 rfl
      have z2 := XB.out.cell 2 rfl
      have HSL := Lib.hid (show ∀ j u, (ec ⟨p.at_, p.sum, p.birth⟩)[j]? = some u → ((w3.alloc (.cells #[.int .i64 p.at_, .int .i64 p.sum, .int .i64 p.birth] 39)).alloc (.cells #[.int .i64 p.at_, .int .i64 p.sum, .int .i64 p.birth] 33)).cell? ((⟨w3.heap.size + 1, 0, none⟩ : Addr).add j) = some u from by have := ent_new (w3.alloc (.cells #[.int .i64 p.at_, .int .i64 p.sum, .int .i64 p.birth] 39)) ⟨p.at_, p.sum, p.birth⟩ 33; rwa [World.size_alloc] at this)
      clear XB RB XV HR hb hn3 hp
      gi_wp2_with (first
        | (gi_at_builtin; refine wpListIn_append_own _ rfl _ _ 22 rfl (w.heap.size + 6) 33 i0 _ 3 24 Tryd.underlying22 hi hz0 hz1 hz2 rfl (by decide) _ _ _ rfl (HR3.out.alloc _) ⟨w3.heap.size + 1, 0, none⟩ 1 1 (ec ⟨p.at_, p.sum, p.birth⟩) rfl rfl HSL.out (ec_oneR _) (by unfold maxLen; omega) (by omega) (by simp; omega) ?_; intro v' w4 hown' hgrow _; obtain ⟨g', cap', rfl⟩ := ownsRow_succ hown'; obtain ⟨hv1, hv2, hr2, hk2, hb2⟩ := Go.Boxed.appended hv3 (by decide) (own_base HR3.out (show w.heap.size ≤ w.heap.size + 6 by omega)) (by simp; omega) (by omega) (own_base hown' (by omega)) hgrow; have hc1 := Go.Boxed.cell hv1; have hfz1 := Go.Boxed.frozen hv1)
        | gi_in)
      have K2 := Lib.hid (show KeepB (w.heap.size + 6) (fun b => b = w.heap.size + 2) (w3.alloc (.cells #[.int .i64 p.at_, .int .i64 p.sum, .int .i64 p.birth] 39)) _ from ⟨hb2.size, fun b hb hne => (Below.heap_setCell w4 _ _ b hne).trans ((hgrow.block b (by simp; omega) (fun e => by have := (HR3.out.lt b e.symm).1; omega)).trans (Below.heap_alloc _ _ b (by simp; omega)))⟩)
      refine ⟨((keepsO_below HB3.out).trans hk2).from _, (KeepB.of_below HB3.out hsz).trans K2.out, ⟨_, hv2, ?_, trivial⟩, RB3.out.keep K2.out hb2, Nat.le_trans hsz3 hb2.size⟩
      rw [HP.out, ecs_snoc, List.length_append]
      exact own_kept hown' (fun b e => Below.heap_setCell w4 _ _ b (by have := (hown'.lt b e).1; show b ≠ w.heap.size + 2; omega))
    · have hn3 := Below.new (w := w3) (.cells #[.int .i64 0, .int .i64 0, .int .i64 0] 39)
      have HB3 := Lib.hid (hb.trans (hn3.mono hb.size))
      have HNN := Lib.hid hn
      have RB3 := Lib.hid (RB.out.on HB3.out)
      have c0 := RB3.out.r0.cell 0 rfl
      have c1 := RB3.out.r1.cell 0 rfl
      have f0 := RB3.out.r0.open_ 0
      have f1 := RB3.out.r1.open_ 0
      clear RB XV HR hb hn3 hn
      gi_wp2
      exact ⟨(((keepsO_below HB3.out).trans (KeepsOthers.setCell _ _ _)).trans (KeepsOthers.setCell _ _ _)).from _, RB3.out.puts, rfl, x, by simp, HNN.out⟩
  case done =>
    rintro D ys W hD hys ⟨⟨v, hv, hrow, -⟩, hRB, hsz⟩ hKD
    have hD6 : w.heap.size + 6 ≤ D := by have := HN3.out; omega
    obtain ⟨tx, HTX⟩ : ∃ tx, Hid (ddtText (esOf ys) = tx) := ⟨_, Lib.hid rfl⟩
    have hdn := rd_done HO.out H1000.out H0.out hys
    rw [HTX.out] at hdn
    have HDN := Lib.hid hdn
    rw [← esOf_len ys] at hrow
    obtain ⟨_, AL, cl, rfl, -⟩ := sl_of_own hrow
    have HR := Lib.hid hrow
    have HKD := Lib.hid hKD
    have RB := Lib.hid hRB
    have XV := Lib.hid hv
    have hc := hv.cell
    clear hdn hrow hKD hRB hv hys
    gi_wp2_with fail
    refine ⟨trivial, (callsIn_wide.2 (ImplDdtText_is _ (esOf ys) tx _ (sl_of_own HR.out) (low_of_own HR.out) (HV.out.below RB.out.below).pow HTX.out)).mono ?_⟩
    rintro e w5 ⟨rfl, hb⟩
    have hDl := (Array.getElem?_eq_some_iff.1 HKD.out).1
    have hKD5 : w5.heap[D]? = some (.deferred (some [])) := (hb.block D hDl).trans HKD.out
    have RB5 := Lib.hid (RB.out.on hb)
    have HR5 := Lib.hid (own_kept HR.out (w' := w5) (fun b e => hb.block b (HR.out.lt b e).2))
    have hc5 : w5.cell? ⟨w.heap.size + 2, 0, none⟩ = _ := Go.Boxed.cell (show Go.Boxed w5 (w.heap.size + 2) 22 (.slice AL (esOf ys).length cl) from (hb.block _ XV.out.lt).trans XV.out)
    have c0 := RB5.out.r0.cell 0 rfl
    have c1 := RB5.out.r1.cell 0 rfl
    have f0 := RB5.out.r0.open_ 0
    have f1 := RB5.out.r1.open_ 0
    clear hb RB HR XV hc HKD
    have hrow6 : ∀ (u : Value) (b : Bool), ((w5.setCell ⟨w.heap.size, 0, none⟩ u).setCell ⟨w.heap.size + 1, 0, none⟩ (.bool b)).ownsRow (w.heap.size + 6) 33 3 (.slice AL (esOf ys).length cl) (esOf ys).length (ecs (esOf ys)) := fun u b => own_kept HR5.out (fun k e => by
      have := (HR5.out.lt k e).1
      rw [Below.heap_setCell _ _ _ _ (by simp; omega), Below.heap_setCell _ _ _ _ (by simp; omega)])
    have hkd6 : ∀ (u : Value) (b : Bool), ((w5.setCell ⟨w.heap.size, 0, none⟩ u).setCell ⟨w.heap.size + 1, 0, none⟩ (.bool b)).heap[D]? = some (.deferred (some [])) := fun u b => by
      rw [Below.heap_setCell _ _ _ _ (by simp; omega), Below.heap_setCell _ _ _ _ (by simp; omega)]; exact hKD5
    by_cases heq : tx = t
    · subst heq
      have HSO := Lib.hid (HDN.out.1 rfl)
      have P := Lib.hid (RB5.out.put (.slice AL (esOf ys).length cl) true)
      have HRW := Lib.hid (hrow6 (.slice AL (esOf ys).length cl) true)
      have HK6 := Lib.hid (hkd6 (.slice AL (esOf ys).length cl) true)
      have R0 := Lib.hid ((box_ownD (β := Unit) _ _).from _ |>.putObj (s := ()) (.deferred none) P.out.1 hD HK6.out rfl)
      have R1 := Lib.hid ((box_ownD (β := Unit) _ _).from _ |>.putObj (s := ()) (.deferred none) P.out.2.1 hD HK6.out rfl)
      clear hrow6 hkd6 HDN
      gi_wp2
      have d0 := R0.out.cell 0 rfl
      have d1 := R1.out.cell 0 rfl
      refine leaves_two HK6.out (v := .tuple #[.slice AL (esOf ys).length cl, .bool true]) (by simp [results, Tryd.results5, go_sem, d0, d1]) (rd_yes HSO.out (own_base (ownsRow_putObj HRW.out _ HK6.out rfl) (by omega)) (P.out.2.2.trans (belowK_b (w := w) (Nat.le_refl _) _ D _ _ (by omega) HK6.out rfl rfl)))
    · have HNO := Lib.hid (HDN.out.2 heq)
      have hcmp2 := ne_text heq
      have P := Lib.hid (RB5.out.put (.slice none 0 0) false)
      have HK6 := Lib.hid (hkd6 (.slice none 0 0) false)
      have R0 := Lib.hid ((box_ownD (β := Unit) _ _).from _ |>.putObj (s := ()) (.deferred none) P.out.1 hD HK6.out rfl)
      have R1 := Lib.hid ((box_ownD (β := Unit) _ _).from _ |>.putObj (s := ()) (.deferred none) P.out.2.1 hD HK6.out rfl)
      clear hrow6 hkd6 HDN
      gi_wp2
      have d0 := R0.out.cell 0 rfl
      have d1 := R1.out.cell 0 rfl
      refine leaves_two HK6.out (v := .tuple #[.slice none 0 0, .bool false]) (by simp [results, Tryd.results5, go_sem, d0, d1]) (rd_no HNO.out (P.out.2.2.trans (belowK_b (w := w) (Nat.le_refl _) _ D _ _ (by omega) HK6.out rfl rfl)))
  case stop =>
    rintro D c pre W hD hSp ⟨hRB, rfl, hx⟩ hKD
    have HNO := Lib.hid (rd_stop HO.out H0.out hSp hx)
    have RB := Lib.hid hRB
    have HKD := Lib.hid hKD
    clear hSp hx hRB hKD
    have R0 := Lib.hid ((box_ownD (β := Unit) _ _).from _ |>.putObj (s := ()) (.deferred none) RB.out.r0 hD HKD.out rfl)
    have R1 := Lib.hid ((box_ownD (β := Unit) _ _).from _ |>.putObj (s := ()) (.deferred none) RB.out.r1 hD HKD.out rfl)
    gi_wp2
    have d0 := R0.out.cell 0 rfl
    have d1 := R1.out.cell 0 rfl
    refine leaves_two HKD.out (v := .tuple #[.slice none 0 0, .bool false]) (by simp [results, Tryd.results5, go_sem, d0, d1]) (rd_no HNO.out (RB.out.below.trans (belowK_b (w := w) (Nat.le_refl _) _ D _ _ (by omega) HKD.out rfl rfl)))
end Go.Proofs.YtojjenclcidnkaaDoor

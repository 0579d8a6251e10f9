/-
  strings.SplitSeq at a separator of one byte: the iterator keeps its rest in a cell of its own and hands out the pieces in order.
-/
import Derived.Test.YtojjenclcidnkaaDoorSeqCell
import Derived.Test.YtojjenclcidnkaaDoorShelf
import Derived.Test.YtojjenclcidnkaaDoorBox
import Derived.Test.YtojjenclcidnkaaDoorImKeep
import Derived.Lib.Hide
import Derived.OwnWalkIn
import Derived.TacticsInMore
import Derived.RegionIn
import Derived.LoopNIn
import Derived.LoopIn
import Derived.WalkKit
set_option maxRecDepth 100000
namespace Go.Proofs.YtojjenclcidnkaaDoor
open Go.ChangeShapes Go.WideShapes Go.ChangeAt Go.RowKit Go.Proofs.Palim Go.Shelf

attribute [local go_sem] Oper.semAt_some

/-- The pieces of a text between the bytes c. -/
def piecesC (c : UInt8) : List UInt8 → List (List UInt8)
  | [] => [[]]
  | b :: l => if b = c then [] :: piecesC c l else match piecesC c l with
    | [] => [[b]]
    | p :: ps => (b :: p) :: ps
theorem piecesC_one (c : UInt8) (a : List UInt8) (h : c ∉ a) : piecesC c a = [a] := by
  induction a with
  | nil => rfl
  | cons b a ih =>
    rw [piecesC, if_neg (fun e => h (by rw [e]; exact List.mem_cons_self)), ih (fun hm => h (List.mem_cons_of_mem _ hm))]
theorem piecesC_cut (c : UInt8) (a r : List UInt8) (h : c ∉ a) : piecesC c (a ++ c :: r) = a :: piecesC c r := by
  induction a with
  | nil => exact if_pos rfl
  | cons b a ih =>
    rw [List.cons_append, piecesC, if_neg (fun e => h (by rw [e]; exact List.mem_cons_self)), ih (fun hm => h (List.mem_cons_of_mem _ hm))]
theorem partC (c : UInt8) (l : List UInt8) (h : c ∈ l) : ∃ a r, l = a ++ c :: r ∧ c ∉ a := by
  induction l with
  | nil => cases h
  | cons b l ih =>
    by_cases hb : b = c
    · exact ⟨[], l, by rw [hb]; rfl, by simp⟩
    · obtain ⟨a, r, e, ha⟩ := ih ((List.mem_cons.1 h).resolve_left (fun e => hb e.symm))
      exact ⟨b :: a, r, by rw [e]; rfl, fun hm => (List.mem_cons.1 hm).elim (fun e' => hb e'.symm) ha⟩
theorem piecesC_ne (c : UInt8) (l : List UInt8) : piecesC c l ≠ [] := by
  cases l with
  | nil => simp [piecesC]
  | cons b l =>
    rw [piecesC]
    split
    · simp
    · split <;> simp
theorem index_atC (c : UInt8) (a r : List UInt8) (h : c ∉ a) : Lib.indexByte (a ++ c :: r) c = (a.length : Int) := by
  induction a with
  | nil => simp [Lib.indexByte]
  | cons x a ih =>
    have hx : x ≠ c := fun e => h (by simp [e])
    have hi := ih (fun hm => h (by simp [hm]))
    simp only [List.cons_append, Lib.indexByte]
    rw [hi]
    have h1 : (x == c) = false := by simpa using hx
    have h2 : ((a.length : Int) == -1) = false := beq_eq_false_iff_ne.2 (by omega)
    rw [h1, h2]
    simp
theorem no_indexC (c : UInt8) (a : List UInt8) (h : c ∉ a) : Lib.indexByte a c = -1 := by
  induction a with
  | nil => rfl
  | cons x a ih =>
    have hx : x ≠ c := fun e => h (by simp [e])
    have hi := ih (fun hm => h (by simp [hm]))
    simp only [Lib.indexByte]
    rw [hi]
    have h1 : (x == c) = false := by simpa using hx
    rw [h1]
    simp
/-- The first piece of a text that holds a c, and the rest. -/
theorem cutB (c : UInt8) (r : ByteArray) (h : c ∈ r.data.toList) : ∃ k : Nat, k < r.size ∧ Lib.indexByte r.data.toList c = (k : Int) ∧ piecesC c r.data.toList = (r.extract 0 k).data.toList :: piecesC c (r.extract (k + 1) r.size).data.toList := by
  obtain ⟨a, b, e, ha⟩ := partC c _ h
  have hs : r.size = a.length + 1 + b.length := by
    have := congrArg List.length e
    simp at this
    have h2 : r.data.size = r.size := rfl
    omega
  refine ⟨a.length, by omega, by rw [e]; exact index_atC c a b ha, ?_⟩
  rw [ByteArray.data_extract, ByteArray.data_extract, Array.toList_extract, Array.toList_extract, e, piecesC_cut c a b ha]
  congr 1
  · simp
  · congr 1
    rw [hs]
    simp [List.drop_append]
    rw [List.drop_eq_nil_of_le (show a.length ≤ a.length + 1 by omega)]
    simp
/-- How long the text in a cell is. -/
def cellLen (w : World) (C : Nat) : Nat := match w.cell? ⟨C, 0, none⟩ with
  | some (.string s) => s.size
  | _ => 0
theorem cellLen_is {w : World} {C : Nat} {s : ByteArray} (h : w.cell? ⟨C, 0, none⟩ = some (.string s)) : cellLen w C = s.size := by unfold cellLen; rw [h]
/-- What has been handed out, as lists. -/
def outs (ys : List ByteArray) : List (List UInt8) := ys.map (·.data.toList)
set_option maxHeartbeats 4000000 in
theorem split1_in (n : Nat) (hn : 1 ≤ n) (l Cs Cp Cv N : Nat) (S : Nat → Prop) (c : UInt8) (s : ByteArray) (hs : s.size ≤ 1048576) (J Jx : List ByteArray → World → Prop) (hJ : AbidesC Cs J)
    (hY : ∀ pre x W, x.size ≤ s.size → J pre W → pre.length < (piecesC c s.data.toList).length → YieldAt Fence.wide (n - 1) Tryd.prog l #[.string x] W fun e W' =>
      (e = .returned (.bool true) ∧ J (pre ++ [x]) W' ∧ KeepB N S W W') ∨ (e = .returned (.bool false) ∧ Jx (pre ++ [x]) W'))
    (W : World) (hCs : Box W Cs [.string s]) (hCp : Box W Cp [.string ⟨#[c]⟩]) (hCv : Box W Cv [.int .i64 0]) (hs1 : Cs < N ∧ ¬ S Cs) (hp1 : Cp < N ∧ ¬ S Cp ∧ Cp ≠ Cs) (hv1 : Cv < N ∧ ¬ S Cv ∧ Cv ≠ Cs) (h0 : J [] W) :
    CallsIn Fence.wide n Tryd.prog 25 #[.func (.yield l) #[] #[], .pointer (some ⟨Cp, 0, none⟩), .pointer (some ⟨Cs, 0, none⟩), .pointer (some ⟨Cv, 0, none⟩)] W fun e W' => (∃ v, e = .returned v) ∧
      ((∃ ys, outs ys = piecesC c s.data.toList ∧ J ys W') ∨ (∃ pre, outs pre <+: piecesC c s.data.toList ∧ Jx pre W')) := by
  have hnot : ∀ (x : Bool) (w : World), (Op.unary .not (.bool x)).run Tryd.prog w = .ok (.bool (!x)) w := fun _ _ => rfl
  have HY := Lib.hid hY
  have HJ0 := Lib.hid hJ
  obtain ⟨b0⟩ : Nonempty (W.cell? ⟨Cp, 0, none⟩ = some (.string ⟨#[c]⟩)) := ⟨hCp.cell 0 rfl⟩
  have BS := Lib.hid hCs
  have BP := Lib.hid hCp
  have BV := Lib.hid hCv
  have H0 := Lib.hid h0
  clear hY hJ hCs hCp hCv h0
  refine callsIn_of_wp Tryd.func25 rfl trivial ?_ rfl
  simp only [Tryd.ntmps25, List.size_toArray, List.length_cons, List.length_nil, Nat.reduceAdd, Nat.reduceSub, Array.replicate_succ, Array.replicate_zero, List.push_toArray, List.append_toArray, List.nil_append, List.cons_append]
  have hone : ((⟨#[c]⟩ : ByteArray).size : Int) = 1 := rfl
  gi_wp2
  clear b0
  gi_loopw [7, 8] (fun _ _ wr => ∃ (pre : List ByteArray) (r : ByteArray), Hid (outs pre ++ piecesC c r.data.toList = piecesC c s.data.toList) ∧ r.size ≤ s.size ∧ Hid (J pre wr) ∧ Hid (Box wr Cs [.string r]) ∧ Hid (Box wr Cp [.string ⟨#[c]⟩]) ∧ Hid (Box wr Cv [.int .i64 0])) (fun _ _ wr => cellLen wr Cs)
  case atStart => exact ⟨[], s, Lib.hid rfl, Nat.le_refl _, H0, BS, BP, BV⟩
  case round =>
    clear BS BP BV H0
    obtain ⟨pre, r, HE, hr, HJ, BS, BP, BV⟩ := hrel
    have c0 := BS.out.cell 0 rfl
    have c1 := BP.out.cell 0 rfl
    have c2 := BV.out.cell 0 rfl
    gi_wp2_with fail
    refine ⟨trivial, (callsIn_wide.2 (Tryd.strings_Index_one r c _)).mono ?_⟩
    rintro e w3 ⟨rfl, rfl⟩
    have hlen : pre.length < (piecesC c s.data.toList).length := by
      have h1 := congrArg List.length HE.out
      have h2 : 0 < (piecesC c r.data.toList).length := List.length_pos_iff.2 (piecesC_ne _ _)
      rw [List.length_append, outs, List.length_map] at h1
      omega
    by_cases hc : c ∈ r.data.toList
    · obtain ⟨k, hk, hi, hcut⟩ := cutB c r hc
      rw [hi]
      have HE2 := Lib.hid (show outs (pre ++ [r.extract 0 k]) ++ piecesC c (r.extract (k + 1) r.size).data.toList = piecesC c s.data.toList from by
        rw [← HE.out, hcut, outs, outs, List.map_append, List.append_assoc]; rfl)
      have hk0 : ¬ (k : Int) < 0 := by omega
      have ek : IntKind.i64.wrap ((k : Int) + 0) = (k : Int) := by rw [Int.add_zero]; exact IntWalk.i64_in _ (by omega)
      have ek1 : IntKind.i64.wrap ((k : Int) + 1) = (k : Int) + 1 := IntWalk.i64_in _ (by omega)
      have ek2 : ((k : Int) + 1).toNat = k + 1 := by omega
      obtain ⟨fn, tmps, assign, body, hy, hR⟩ := HY.out pre (r.extract 0 k) _ (by rw [ByteArray.size_extract]; omega) HJ.out hlen
      have HR := Lib.hid hR
      clear hR hcut hi
      gi_wp2
      refine HR.out.mono ?_
      rintro e W3 (⟨rfl, hJ3, hk3⟩ | ⟨rfl, hJx3⟩)
      · have BS3 := Lib.hid (BS.out.kept (hk3.block Cs hs1.1 hs1.2))
        have BP3 := Lib.hid (BP.out.kept (hk3.block Cp hp1.1 hp1.2.1))
        have BV3 := Lib.hid (BV.out.kept (hk3.block Cv hv1.1 hv1.2.1))
        have HJ4 := Lib.hid (HJ0.out.set hJ3 (.string (r.extract (k + 1) r.size)))
        have BS4 := Lib.hid (BS3.out.set 0 (.string (r.extract (k + 1) r.size)))
        have BP4 := Lib.hid (BP3.out.other (p := ⟨Cs, 0, none⟩) hp1.2.2 (.string (r.extract (k + 1) r.size)))
        have BV4 := Lib.hid (BV3.out.other (p := ⟨Cs, 0, none⟩) hv1.2.2 (.string (r.extract (k + 1) r.size)))
        have C0 := Lib.hid (cellLen_is c0)
        have d0 := BS3.out.cell 0 rfl
        have d1 := BP3.out.cell 0 rfl
        have f0 := BS3.out.open_ 0
        clear hJ3 hk3 HR hy c0 c1 c2 BS BP BV BS3 BP3 BV3 HJ
        gi_wp2
        go_roundw
        case rel => exact ⟨pre ++ [r.extract 0 k], r.extract (k + 1) r.size, HE2, by rw [ByteArray.size_extract]; omega, HJ4, BS4, BP4, BV4⟩
        case measure =>
          rw [C0.out, cellLen_is (BS4.out.cell 0 rfl), ByteArray.size_extract]
          omega
      · have HX := Lib.hid hJx3
        clear hJx3 HR hy c0 c1 c2
        gi_wp2
        refine bodyPost_ret (results_none rfl _ _ _) rfl ?_
        exact ⟨⟨_, rfl⟩, .inr ⟨_, ⟨_, HE2.out⟩, HX.out⟩⟩
    · rw [no_indexC c _ hc]
      have HE2 := Lib.hid (show outs (pre ++ [r]) = piecesC c s.data.toList from by
        rw [← HE.out, piecesC_one c _ hc, outs, List.map_append]; rfl)
      obtain ⟨fn, tmps, assign, body, hy, hR⟩ := HY.out pre r _ hr HJ.out hlen
      have HR := Lib.hid hR
      clear hR
      gi_wp2
      refine HR.out.mono ?_
      rintro e W3 (⟨rfl, hJ3, -⟩ | ⟨rfl, hJx3⟩)
      · have HX := Lib.hid hJ3
        clear hJ3 HR hy c0 c1 c2
        gi_wp2
        go_end0
        exact ⟨⟨_, rfl⟩, .inl ⟨_, HE2.out, HX.out⟩⟩
      · have HX := Lib.hid hJx3
        clear hJx3 HR hy c0 c1 c2
        gi_wp2
        go_end0
        exact ⟨⟨_, rfl⟩, .inr ⟨_, ⟨[], by rw [List.append_nil]; exact HE2.out⟩, HX.out⟩⟩
set_option maxHeartbeats 400000 in
theorem splitSeq_in (n : Nat) (s sep : ByteArray) (w : World) :
    CallsIn Fence.wide n Tryd.prog 19 #[.string s, .string sep, .int .i64 0] w fun e w' => e = .returned (.func (.func 25) #[] #[.pointer (some ⟨w.heap.size + 1, 0, none⟩), .pointer (some ⟨w.heap.size, 0, none⟩), .pointer (some ⟨w.heap.size + 2, 0, none⟩)]) ∧ w' = ((w.alloc (.cells #[.string s] 9)).alloc (.cells #[.string sep] 9)).alloc (.cells #[.int .i64 0] 3) := by
  refine callsIn_of_wp Tryd.func19 rfl trivial ?_ rfl
  simp only [Tryd.ntmps19, List.size_toArray, List.length_cons, List.length_nil, Nat.reduceAdd, Nat.reduceSub, Array.replicate_succ, Array.replicate_zero, List.push_toArray, List.append_toArray, List.nil_append, List.cons_append]
  gi_wp2
  go_ret
  exact ⟨rfl, rfl⟩
set_option maxHeartbeats 400000 in
theorem split_in (n : Nat) (hn : 1 ≤ n) (s sep : ByteArray) (w : World) :
    CallsIn Fence.wide n Tryd.prog 13 #[.string s, .string sep] w fun e w' => e = .returned (.func (.func 25) #[] #[.pointer (some ⟨w.heap.size + 1, 0, none⟩), .pointer (some ⟨w.heap.size, 0, none⟩), .pointer (some ⟨w.heap.size + 2, 0, none⟩)]) ∧ w' = ((w.alloc (.cells #[.string s] 9)).alloc (.cells #[.string sep] 9)).alloc (.cells #[.int .i64 0] 3) := by
  refine callsIn_of_wp Tryd.func13 rfl trivial ?_ rfl
  simp only [Tryd.ntmps13, List.size_toArray, List.length_cons, List.length_nil, Nat.reduceAdd, Nat.reduceSub, Array.replicate_succ, Array.replicate_zero, List.push_toArray, List.append_toArray, List.nil_append, List.cons_append]
  gi_wp2_with fail
  refine ⟨trivial, (splitSeq_in (n - 1) s sep _).mono ?_⟩
  rintro e w1 ⟨rfl, rfl⟩
  gi_wp2
  go_ret
  exact ⟨rfl, rfl⟩
/-- What SplitSeq hands out, to whatever loop body leaves its three boxes. -/
theorem split_stops (n : Nat) (hn : 1 ≤ n) (Cs Cp Cv N : Nat) (S : Nat → Prop) (c : UInt8) (s : ByteArray) (hs : s.size ≤ 1048576) (w : World)
    (hCs : Box w Cs [.string s]) (hCp : Box w Cp [.string ⟨#[c]⟩]) (hCv : Box w Cv [.int .i64 0]) (hs1 : Cs < N ∧ ¬ S Cs) (hp1 : Cp < N ∧ ¬ S Cp ∧ Cp ≠ Cs) (hv1 : Cv < N ∧ ¬ S Cv ∧ Cv ≠ Cs) :
    SeqStopsC Fence.wide n Tryd.prog 25 #[.pointer (some ⟨Cp, 0, none⟩), .pointer (some ⟨Cs, 0, none⟩), .pointer (some ⟨Cv, 0, none⟩)] (fun x : ByteArray => #[.string x]) (KeepB N S) (fun ys => outs ys = piecesC c s.data.toList) (fun pre => outs pre <+: piecesC c s.data.toList) (piecesC c s.data.toList).length Cs w := fun l J Jx W hW hJ _ hY h0 =>
  split1_in n hn l Cs Cp Cv N S c s hs J Jx hJ (fun pre x W _ => hY pre x W) W (hCs.below hW hCs.lt) (hCp.below hW hCp.lt) (hCv.below hW hCv.lt) hs1 hp1 hv1 h0
/-- The same, where the body may know that what it is handed is no longer than the text. -/
theorem split_stopsB (n : Nat) (hn : 1 ≤ n) (Cs Cp Cv N : Nat) (S : Nat → Prop) (c : UInt8) (s : ByteArray) (hs : s.size ≤ 1048576) (w : World)
    (hCs : Box w Cs [.string s]) (hCp : Box w Cp [.string ⟨#[c]⟩]) (hCv : Box w Cv [.int .i64 0]) (hs1 : Cs < N ∧ ¬ S Cs) (hp1 : Cp < N ∧ ¬ S Cp ∧ Cp ≠ Cs) (hv1 : Cv < N ∧ ¬ S Cv ∧ Cv ≠ Cs) :
    SeqStopsC Fence.wide n Tryd.prog 25 #[.pointer (some ⟨Cp, 0, none⟩), .pointer (some ⟨Cs, 0, none⟩), .pointer (some ⟨Cv, 0, none⟩)] (fun x : { x : ByteArray // x.size ≤ s.size } => #[.string x.1]) (KeepB N S) (fun ys => outs (ys.map (·.1)) = piecesC c s.data.toList) (fun pre => outs (pre.map (·.1)) <+: piecesC c s.data.toList) (piecesC c s.data.toList).length Cs w := fun l J Jx W hW hJ _ hY h0 =>
  (split1_in n hn l Cs Cp Cv N S c s hs (fun ys W => ∃ zs : List { x : ByteArray // x.size ≤ s.size }, zs.map (·.1) = ys ∧ J zs W) (fun ys W => ∃ zs : List { x : ByteArray // x.size ≤ s.size }, zs.map (·.1) = ys ∧ Jx zs W)
    (fun ys X X' row ⟨zs, hz, h⟩ hg hr => ⟨zs, hz, hJ zs X X' row h hg hr⟩)
    (fun pre x W hx ⟨zs, hz, h⟩ hl => by
      obtain ⟨fn, tmps, assign, body, hy, hR⟩ := hY zs ⟨x, hx⟩ W h (by rw [← hz, List.length_map] at hl; exact hl)
      refine ⟨fn, tmps, assign, body, hy, hR.mono ?_⟩
      rintro e W' (⟨h1, h2, h3⟩ | ⟨h1, h2⟩)
      · exact .inl ⟨h1, ⟨zs ++ [⟨x, hx⟩], by rw [List.map_append, hz]; rfl, h2⟩, h3⟩
      · exact .inr ⟨h1, ⟨zs ++ [⟨x, hx⟩], by rw [List.map_append, hz]; rfl, h2⟩⟩)
    W (hCs.below hW hCs.lt) (hCp.below hW hCp.lt) (hCv.below hW hCv.lt) hs1 hp1 hv1 ⟨[], rfl, h0⟩).mono (by
      rintro e W' ⟨hv, ⟨ys, h1, zs, hz, h2⟩ | ⟨pre, h1, zs, hz, h2⟩⟩
      · exact ⟨hv, .inl ⟨zs, by show outs (zs.map (·.1)) = _; rw [hz]; exact h1, h2⟩⟩
      · exact ⟨hv, .inr ⟨zs, by show outs (zs.map (·.1)) <+: _; rw [hz]; exact h1, h2⟩⟩)
end Go.Proofs.YtojjenclcidnkaaDoor

/-
  Texts joined into one: the draws of disks, and what they want.
-/
import Derived.Test.YthcfiobnnceomaaRows
import Derived.Test.YthcfiobnnceomaaBase
import Derived.WalkKit
import Derived.ProofKit
import Derived.Lib.Hide
import Derived.Lib.ItoaNum
import Derived.Lib.ItoaMem
import Derived.Lib.ItoaLen
import Derived.WalkSpells
import Derived.Shelf.Strconv.Itoa0
import Derived.Shelf.Sort.Plain
import Derived.Shelf.Slices.In.SortNone
import Derived.Test.YthcfiobnnceomaaProg
import Derived.Lib.AppendIntMem
import Derived.WalkSmall
import Derived.Test.YthcfiobnnceomaaDiskLaw
import Derived.Test.YthcfiobnnceomaaApp
import Derived.Lib.Join
import Derived.Test.YthcfiobnnceomaaDdtOk
import Derived.Deep.RegionHeld3
import Derived.Test.YthcfiobnnceomaaCoreD
import Derived.Test.YthcfiobnnceomaaKBox
import Derived.Test.YthcfiobnnceomaaSCok
import Derived.Test.YthcfiobnnceomaaICok

/-
  The document's decimal numeral of a number that is not negative.
-/
set_option maxRecDepth 100000
namespace Go.Proofs.Ythcfiobnnceomaa
open Go.ChangeShapes Go.WideShapes Go.ChangeAt Go.RowKit Go.Proofs.Palim

set_option maxHeartbeats 400000 in
theorem l19Dec_nat (n : Nat) (w : World) (hn : n < 9223372036854775807) :
    Calls Try.prog 74 #[.int .i64 (n : Int)] w fun e w' => e = .returned (.string ⟨(Lib.decDigits n).toArray⟩) ∧ Below w.heap.size w w' := by
  go_enter Try.func74, Try.ntmps74
  go_wp2
  go_loopw [0, 3] (fun i v wr => ∃ (m : Nat) (o : List UInt8), m ≤ n ∧ i = .int .i64 (m : Int) ∧ v = .string ⟨o.toArray⟩ ∧ Below w.heap.size w wr ∧ Hid (Lib.decDigits n = Lib.decDigits m ++ o)) (fun i _ _ => (intOf i).toNat)
  case atStart => exact ⟨n, [], Nat.le_refl _, rfl, rfl, Below.refl _ _, Lib.hid (by simp)⟩
  case round =>
    obtain ⟨m, o, hm, rfl, rfl, hb, HD⟩ := hrel
    have ho : o.length ≤ 21 := by
      have h1 := congrArg List.length HD.out
      have h2 := Lib.itoa_length_le (n : Int) (by omega) (by omega)
      rw [Lib.itoa_nonneg] at h2
      rw [List.length_append] at h1
      omega
    by_cases hlt : 9 < m
    · obtain ⟨c, HC⟩ : ∃ c, Hid (c = UInt8.ofNat (48 + m % 10)) := ⟨_, Lib.hid rfl⟩
      have hcv := run_convert_one (P := Try.prog) wr 129 9 5 Try.underlying129 Try.underlying5 Try.underlying9 (48 + (m : Int) % 10) c (by rw [HC.out]; exact digit_of m)
      have HN := Lib.hid (show Lib.decDigits m = Lib.decDigits (m / 10) ++ [c] from by rw [HC.out, Lib.decDigits, dif_neg (by omega)])
      go_wp2
      go_roundw
      case rel => exact ⟨m / 10, c :: o, by omega, by go_num, by rw [show (⟨#[c]⟩ : ByteArray) = ⟨[c].toArray⟩ from rfl, str_app]; rfl, hb.alloc hb.size _, Lib.hid (by rw [HD.out, HN.out]; simp)⟩
      case measure => simp [intOf]; omega
    · obtain ⟨c, HC⟩ : ∃ c, Hid (c = UInt8.ofNat (48 + m)) := ⟨_, Lib.hid rfl⟩
      have hcv := run_convert_one (P := Try.prog) wr 129 9 5 Try.underlying129 Try.underlying5 Try.underlying9 (48 + (m : Int)) c (by rw [HC.out]; exact digit_small m (by omega))
      have HN := Lib.hid (show Lib.decDigits m = [c] from by rw [HC.out]; exact Lib.decDigits_one (by omega))
      go_wp2
      go_ret
      refine ⟨?_, hb.alloc hb.size _⟩
      show Ending.returned (.string ((⟨[c].toArray⟩ : ByteArray) ++ ⟨o.toArray⟩)) = _
      rw [str_app, HD.out, HN.out]

theorem l19Dec_int (z : Int) (w : World) (h0 : 0 ≤ z) (h1 : z < 9223372036854775807) :
    Calls Try.prog 74 #[.int .i64 z] w fun e w' => e = .returned (.string ⟨(Lib.itoa z).toArray⟩) ∧ Below w.heap.size w w' := by
  obtain ⟨n, rfl⟩ : ∃ n : Nat, z = (n : Int) := ⟨z.toNat, by omega⟩
  rw [Lib.itoa_nonneg]
  exact l19Dec_nat n w (by omega)
end Go.Proofs.Ythcfiobnnceomaa

/-
  The library's contracts that this seat uses, laid at its own translation.
-/
namespace Go.Proofs
open Go.Shelf
def Try.lays129_ren : Go.Shelf.Ren := ⟨fun | 129 => 98 | n => n, fun | 53 => 54 | 3 => 3 | 4 => 4 | 46 => 110 | 5 => 5 | 9 => 9 | n => n, fun | n => n⟩
theorem Try.lays129 : Go.Proofs.Lays.n129 Try.prog Try.lays129_ren := {
  mixed := by kernel_rfl
  f129 := Try.func98.trans (congrArg some (by kernel_rfl))
  t3 := Try.underlying3
  a3 := Try.isAgg3
  z3 := Try.sizeOf3
  v3 := Try.zeroValue3
  t4 := Try.underlying4
  a4 := Try.isAgg4
  z4 := Try.sizeOf4
  v4 := Try.zeroValue4
  t5 := Try.underlying5
  a5 := Try.isAgg5
  z5 := Try.sizeOf5
  v5 := Try.zeroValue5
  t9 := Try.underlying9
  a9 := Try.isAgg9
  z9 := Try.sizeOf9
  v9 := Try.zeroValue9
  t46 := Try.underlying110
  a46 := Try.isAgg110
  z46 := Try.sizeOf110
  v46 := Try.zeroValue110
  t53 := Try.underlying54
  a53 := Try.isAgg54
  z53 := Try.sizeOf54
  v53 := Try.zeroValue54 }

theorem Try.bits_Len64 (x : Int) (w : World) (h0 : 0 ≤ x) (h1 : x ≤ 18446744073709551615) :
    Calls Try.prog 98 #[.int .u64 x] w fun e w' => e = .returned (.int .i64 (Lib.bitLen x.toNat)) ∧ w' = w := Any.bits_Len64 Try.lays129 x w h0 h1
def Try.lays189_ren : Go.Shelf.Ren := ⟨fun | 189 => 83 | 125 => 87 | 257 => 86 | 128 => 97 | 129 => 98 | 294 => 88 | 295 => 89 | 296 => 90 | 297 => 91 | 298 => 92 | 299 => 93 | 216 => 94 | 300 => 95 | 301 => 96 | 328 => 99 | 329 => 100 | 330 => 101 | 331 => 102 | 332 => 103 | 215 => 104 | 343 => 105 | n => n, fun | 28 => 25 | 3 => 3 | 46 => 110 | 0 => 0 | 51 => 145 | 53 => 54 | 4 => 4 | 183 => 139 | 182 => 138 | 131 => 46 | 5 => 5 | 9 => 9 | 218 => 146 | 222 => 150 | 228 => 152 | 229 => 153 | n => n, fun | n => n⟩
theorem Try.lays189 : Go.Proofs.Lays.n189 Try.prog Try.lays189_ren := {
  mixed := by kernel_rfl
  f125 := Try.func87.trans (congrArg some (by kernel_rfl))
  f128 := Try.func97.trans (congrArg some (by kernel_rfl))
  f129 := Try.func98.trans (congrArg some (by kernel_rfl))
  f189 := Try.func83.trans (congrArg some (by kernel_rfl))
  f215 := Try.func104.trans (congrArg some (by kernel_rfl))
  f216 := Try.func94.trans (congrArg some (by kernel_rfl))
  f257 := Try.func86.trans (congrArg some (by kernel_rfl))
  f294 := Try.func88.trans (congrArg some (by kernel_rfl))
  f295 := Try.func89.trans (congrArg some (by kernel_rfl))
  f296 := Try.func90.trans (congrArg some (by kernel_rfl))
  f297 := Try.func91.trans (congrArg some (by kernel_rfl))
  f298 := Try.func92.trans (congrArg some (by kernel_rfl))
  f299 := Try.func93.trans (congrArg some (by kernel_rfl))
  f300 := Try.func95.trans (congrArg some (by kernel_rfl))
  f301 := Try.func96.trans (congrArg some (by kernel_rfl))
  f328 := Try.func99.trans (congrArg some (by kernel_rfl))
  f329 := Try.func100.trans (congrArg some (by kernel_rfl))
  f330 := Try.func101.trans (congrArg some (by kernel_rfl))
  f331 := Try.func102.trans (congrArg some (by kernel_rfl))
  f332 := Try.func103.trans (congrArg some (by kernel_rfl))
  f343 := Try.func105.trans (congrArg some (by kernel_rfl))
  t0 := Try.underlying0
  a0 := Try.isAgg0
  z0 := Try.sizeOf0
  v0 := Try.zeroValue0
  t3 := Try.underlying3
  a3 := Try.isAgg3
  z3 := Try.sizeOf3
  v3 := Try.zeroValue3
  t4 := Try.underlying4
  a4 := Try.isAgg4
  z4 := Try.sizeOf4
  v4 := Try.zeroValue4
  t5 := Try.underlying5
  a5 := Try.isAgg5
  z5 := Try.sizeOf5
  v5 := Try.zeroValue5
  t9 := Try.underlying9
  a9 := Try.isAgg9
  z9 := Try.sizeOf9
  v9 := Try.zeroValue9
  t28 := Try.underlying25
  a28 := Try.isAgg25
  z28 := Try.sizeOf25
  v28 := Try.zeroValue25
  t46 := Try.underlying110
  a46 := Try.isAgg110
  z46 := Try.sizeOf110
  v46 := Try.zeroValue110
  t51 := Try.underlying145
  a51 := Try.isAgg145
  z51 := Try.sizeOf145
  v51 := Try.zeroValue145
  t53 := Try.underlying54
  a53 := Try.isAgg54
  z53 := Try.sizeOf54
  v53 := Try.zeroValue54
  t131 := Try.underlying46
  a131 := Try.isAgg46
  z131 := Try.sizeOf46
  v131 := Try.zeroValue46
  t182 := Try.underlying138
  a182 := Try.isAgg138
  z182 := Try.sizeOf138
  v182 := Try.zeroValue138
  t183 := Try.underlying139
  a183 := Try.isAgg139
  z183 := Try.sizeOf139
  v183 := Try.zeroValue139
  t218 := Try.underlying146
  a218 := Try.isAgg146
  z218 := Try.sizeOf146
  v218 := Try.zeroValue146
  t222 := Try.underlying150
  a222 := Try.isAgg150
  z222 := Try.sizeOf150
  v222 := Try.zeroValue150
  t228 := Try.underlying152
  a228 := Try.isAgg152
  z228 := Try.sizeOf152
  v228 := Try.zeroValue152
  t229 := Try.underlying153
  a229 := Try.isAgg153
  z229 := Try.sizeOf153
  v229 := Try.zeroValue153 }
open Go.Sort Go.RowKit in
theorem Try.slices_Sort_int (blk off cap : Nat) (zs : List Int) (w : World) (hH : Holds (Value.int .i64) w blk off zs.toArray) (hblk : blk < w.heap.size) (hsz : zs.length < 4611686018427387904) :
    Calls Try.prog 83 #[.slice (some ⟨blk, off, none⟩) zs.length cap] w fun e w' =>
      e = .returned (.tuple #[]) ∧ ∃ n os, w' = grow (putRow (Value.int .i64) (Sort.ahead w n) blk off (zs.mergeSort fun x y => decide (x ≤ y)).toArray) os := Any.slices_Sort_int Try.lays189 blk off cap zs w hH hblk hsz
open Go.RowKit Go.Sort in

theorem Try.slices_Sort_int_none (p : Option Addr) (cap : Nat) (w : World) :
    Calls Try.prog 83 #[.slice p 0 cap] w fun e w' => e = .returned (.tuple #[]) ∧ w' = w := Any.slices_Sort_int_none Try.lays189 p cap w
end Go.Proofs

/-
  Sealing a text: its checksum in decimals, a colon, the text; of the program and of the document.
-/
set_option maxRecDepth 100000
namespace Go.Proofs.Ythcfiobnnceomaa
open Go.ChangeShapes Go.WideShapes Go.ChangeAt Go.RowKit Go.Proofs.Palim

/-- What a text is sealed as. -/
def sealB (s : ByteArray) : ByteArray := if 400 < s.size then ⟨#[]⟩ else ⟨(Lib.itoa (sumOf s) ++ 58 :: s.data.toList).toArray⟩
def SealPost (s : ByteArray) (w : World) (e : Ending) (w' : World) : Prop := e = .returned (.string (sealB s)) ∧ Below w.heap.size w w'
/-- The table of powers of ten that the library's numerals read. -/
def HasPow (w : World) : Prop := Lib.TabIs Try.prog w "internal/strconv.uint64pow10" .u64 Lib.pow10Tab
theorem seal_text (s : ByteArray) (h : ¬ 400 < s.size) : (⟨(Lib.itoa (sumOf s)).toArray⟩ : ByteArray) ++ (⟨#[58]⟩ : ByteArray) ++ s = sealB s := by
  unfold sealB
  rw [if_neg h]
  conv => lhs; rw [← str_of s]
  rw [show (⟨#[58]⟩ : ByteArray) = ⟨[58].toArray⟩ from rfl, str_app, str_app]
  simp

end Go.Proofs.Ythcfiobnnceomaa

/-
  Pointers written: PtrText, spec's and impl's.
-/
set_option maxRecDepth 100000
namespace Go.Proofs.Ythcfiobnnceomaa
open Go.ChangeShapes Go.WideShapes Go.ChangeAt Go.RowKit Go.Proofs.Palim

/-- The bytes of a pointer's text. -/
def ptrL (p : PtrM) : List UInt8 := Lib.itoa p.at_ ++ 46 :: (Lib.itoa p.sum ++ 46 :: Lib.itoa p.birth)
def ptrText (p : PtrM) : ByteArray := if ¬ PtrOkM p then ⟨#[]⟩ else if NullM p then ⟨#[45]⟩ else ⟨(ptrL p).toArray⟩
theorem ret_s {a b : ByteArray} (h : a = b) : Ending.returned (.string a) = Ending.returned (.string b) := by rw [h]
theorem ptr_app (a b c : List UInt8) : ((((⟨a.toArray⟩ : ByteArray) ++ (⟨#[46]⟩ : ByteArray)) ++ (⟨b.toArray⟩ : ByteArray)) ++ (⟨#[46]⟩ : ByteArray)) ++ (⟨c.toArray⟩ : ByteArray) = ⟨(a ++ 46 :: (b ++ 46 :: c)).toArray⟩ := by
  rw [show (⟨#[46]⟩ : ByteArray) = ⟨[46].toArray⟩ from rfl, str_app, str_app, str_app, str_app]
  simp

theorem add_str (a b : ByteArray) (h : a.size + b.size ≤ 9223372036854775807) (w : World) : (Op.stringOp .add a b).run Try.prog w = .ok (.string (a ++ b)) w := by
  rw [run_string_add_if, if_neg (by omega)]
theorem decIs (z : Int) (w : World) (h0 : 0 ≤ z) (h1 : z < 9223372036854775807) (t : ByteArray) (ht : (⟨(Lib.itoa z).toArray⟩ : ByteArray) = t) :
    Calls Try.prog 74 #[.int .i64 z] w fun e w' => e = .returned (.string t) ∧ Below w.heap.size w w' := ht ▸ l19Dec_int z w h0 h1
theorem below_three' {a b c d : World} (h1 : Below a.heap.size a.drew b) (h2 : Below b.heap.size b c) (h3 : Below c.heap.size c d) : Below a.heap.size a d :=
  (((Below.refl _ a).drew.trans h1).trans (h2.mono h1.size)).trans (h3.mono (Nat.le_trans h1.size h2.size))

/-- Three numbers with points between them. -/
def trip (a b c : Int) : List UInt8 := Lib.itoa a ++ 46 :: (Lib.itoa b ++ 46 :: Lib.itoa c)
end Go.Proofs.Ythcfiobnnceomaa

/-
  strings.Join of a list of strings, as plain data.
-/
set_option maxRecDepth 100000
namespace Go.Proofs.Ythcfiobnnceomaa
open Go.ChangeShapes Go.WideShapes Go.ChangeAt Go.RowKit Go.Proofs.Palim

theorem join_snoc (xs : List (List UInt8)) (x sep : List UInt8) : Lib.join (xs ++ [x]) sep = if xs = [] then x else Lib.join xs sep ++ (sep ++ x) := by
  cases xs with
  | nil => rw [if_pos rfl]; exact Lib.join_one x sep
  | cons a r =>
    rw [if_neg (by simp), List.cons_append, Lib.join_cons, Lib.join_cons]
    simp [Lib.joinTail]
/-- Strings put together, with a string between each two. -/
def joinB (xs : List ByteArray) (sep : ByteArray) : ByteArray := ⟨(Lib.join (xs.map (·.data.toList)) sep.data.toList).toArray⟩
theorem lens_bd : ∀ (xs : List (List UInt8)) (B : Nat), (∀ x ∈ xs, x.length ≤ B) → Lib.lens xs ≤ xs.length * B
  | [], B, _ => by simp [Lib.lens]
  | x :: r, B, h => by
    have h1 := lens_bd r B (fun y hy => h y (List.mem_cons_of_mem _ hy))
    have h2 := h x (List.mem_cons_self ..)
    simp only [Lib.lens, List.map_cons, List.sum_cons, List.length_cons] at h1 ⊢
    rw [Nat.succ_mul]; omega
theorem join_bd (xs : List (List UInt8)) (sep : List UInt8) (B : Nat) (h : ∀ x ∈ xs, x.length ≤ B) : (Lib.join xs sep).length ≤ xs.length * (B + sep.length) := by
  cases xs with
  | nil => simp [Lib.join_nil]
  | cons a r =>
    rw [Lib.join_cons, List.length_append, Lib.joinTail_length]
    have h1 := lens_bd r B (fun y hy => h y (List.mem_cons_of_mem _ hy))
    have h2 := h a (List.mem_cons_self ..)
    simp only [List.length_cons]
    rw [Nat.succ_mul, Nat.mul_add, Nat.mul_comm sep.length]
    omega
theorem joinB_size (xs : List ByteArray) (sep : ByteArray) : (joinB xs sep).size = (Lib.join (xs.map (·.data.toList)) sep.data.toList).length := by
  show (Lib.join (xs.map (·.data.toList)) sep.data.toList).toArray.size = _
  rw [List.size_toArray]
theorem joinB_bd (xs : List ByteArray) (sep : ByteArray) (B : Nat) (h : ∀ x ∈ xs, x.size ≤ B) : (joinB xs sep).size ≤ xs.length * (B + sep.size) := by
  have := join_bd (xs.map (·.data.toList)) sep.data.toList B (by
    intro x hx
    obtain ⟨y, hy, rfl⟩ := List.mem_map.1 hx
    rw [Array.length_toList]
    exact h y hy)
  rw [joinB_size]
  rw [List.length_map, Array.length_toList] at this
  exact this
theorem joinB_snoc (xs : List ByteArray) (x sep : ByteArray) : joinB (xs ++ [x]) sep = if xs = [] then x else joinB xs sep ++ sep ++ x := by
  unfold joinB
  rw [List.map_append, List.map_cons, List.map_nil, join_snoc]
  by_cases h : xs = []
  · subst h; simp
  · rw [if_neg h, if_neg (by simpa using h)]
    apply ByteArray.ext
    apply Array.ext'
    simp
theorem joinB_one (x sep : ByteArray) : joinB [x] sep = x := by have := joinB_snoc [] x sep; simpa using this
end Go.Proofs.Ythcfiobnnceomaa

/-
  The table's entries written: DdtText, spec's and impl's.
-/
set_option maxRecDepth 100000
namespace Go.Proofs.Ythcfiobnnceomaa
open Go.ChangeShapes Go.WideShapes Go.ChangeAt Go.RowKit Go.Proofs.Palim

/-- An entry's text. -/
def entB (x : EntM) : ByteArray := ⟨(trip x.sum x.at_ x.count).toArray⟩
noncomputable def ddtText (ls : List EntM) : ByteArray := if DdtOkM ls then joinB (ls.map entB) ⟨#[32]⟩ else ⟨#[]⟩
theorem entB_eq (x : EntM) : (⟨(Lib.itoa x.sum).toArray⟩ : ByteArray) ++ (⟨#[46]⟩ : ByteArray) ++ (⟨(Lib.itoa x.at_).toArray⟩ : ByteArray) ++ (⟨#[46]⟩ : ByteArray) ++ (⟨(Lib.itoa x.count).toArray⟩ : ByteArray) = entB x := by
  rw [ptr_app]; rfl
theorem entB_bd (x : EntM) (h : EntOkM x) : (entB x).size ≤ 65 := by
  obtain ⟨h1, h2, h3, h4, h5, h6⟩ := h
  have l1 := Lib.itoa_length_le x.sum (by omega) (by omega)
  have l2 := Lib.itoa_length_le x.at_ (by omega) (by omega)
  have l3 := Lib.itoa_length_le x.count (by omega) (by omega)
  show (trip x.sum x.at_ x.count).toArray.size ≤ 65
  simp [trip]
  omega

set_option maxHeartbeats 4000000 in
theorem SpecDdtText_any (v : Value) (ls : List EntM) (w : World) (h : Sl w 3 v ls.length (ecs ls)) (hv : Low w.heap.size v) :
    Calls Try.prog 64 #[v] w fun e w' => e = .returned (.string (ddtText ls)) ∧ Below w.heap.size w w' := by
  obtain ⟨R, HR⟩ : ∃ R, Hid (ddtText ls = R) := ⟨_, Lib.hid rfl⟩
  rw [HR.out]
  have HV := Lib.hid hv
  have HD := Lib.hid h
  obtain ⟨n, HL⟩ : ∃ n, Hid (ls.length = n) := ⟨_, Lib.hid rfl⟩
  obtain ⟨_, A, c, rfl, hnc, hcm, _⟩ := h
  unfold maxLen at hcm
  clear hv
  rw [HL.out] at HD HV hnc ⊢
  by_cases hok : DdtOkM ls
  case neg =>
    have HF := Lib.hid (decide_eq_false hok)
    have HZ := Lib.hid (show (⟨#[]⟩ : ByteArray) = R from by rw [← HR.out]; unfold ddtText; rw [if_neg hok])
    clear hok
    go_enter Try.func64, Try.ntmps64
    go_wp2
    go_loopw [3, 4] (fun o i wr => o = .string ⟨#[]⟩ ∧ i = .int .i64 0 ∧ wr = w) (fun _ _ _ => 0)
    case atStart => exact ⟨rfl, rfl, rfl⟩
    case round =>
      obtain ⟨rfl, rfl, rfl⟩ := hrel
      go_wp2_with fail
      refine (SpecDdtOk_is _ ls false _ (by rw [HL.out]; exact HD.out) HV.out HF.out).mono ?_
      rintro e w1 ⟨rfl, hb⟩
      go_wp2
      go_ret
      exact ⟨ret_s HZ.out, hb⟩
  case pos =>
    have HT := Lib.hid (decide_eq_true hok)
    have HZ := Lib.hid (show joinB (ls.map entB) ⟨#[32]⟩ = R from by rw [← HR.out]; unfold ddtText; rw [if_pos hok])
    have HG := Lib.hid (show ∀ (j : Nat) (h : j < ls.length), EntOkM ls[j] from fun j h => (hok.2 j h h).1)
    have hn48 : n ≤ 48 := by rw [← HL.out]; exact hok.1
    clear hok HR
    go_enter Try.func64, Try.ntmps64
    go_wp2
    go_loopw [3, 4] (fun s i wr => ∃ (k : Nat) (o : ByteArray), k ≤ n ∧ s = .string o ∧ i = .int .i64 k ∧ Hid (Below w.heap.size w wr) ∧ Hid (o = joinB ((ls.take k).map entB) ⟨#[32]⟩) ∧ Hid (o.size ≤ k * 66)) (fun _ i _ => n - (intOf i).toNat)
    case atStart => exact ⟨0, ⟨#[]⟩, Nat.zero_le _, rfl, rfl, Lib.hid (Below.refl _ _), Lib.hid rfl, Lib.hid (Nat.zero_le _)⟩
    case round =>
      obtain ⟨k, o, hk, rfl, rfl, HB, HO, HZ0⟩ := hrel
      go_wp2_with fail
      refine (SpecDdtOk_is _ ls true _ (by rw [HL.out]; exact HD.out.below HB.out HV.out) (fun b e => Nat.lt_of_lt_of_le (HV.out b e) HB.out.size) HT.out).mono ?_
      rintro e w1 ⟨rfl, hb⟩
      have HB1 := Lib.hid (HB.out.trans (hb.mono HB.out.size))
      clear hb HB
      by_cases hlt : k < n
      case pos =>
        have hl0 : k < ls.length := by rw [HL.out]; exact hlt
        obtain ⟨b, off, c', hv', _, _, hcell⟩ := (HD.out.below HB1.out HV.out).form (by omega)
        injection hv' with e1 e2 e3
        subst e1 e3
        clear e2
        have hbl : b < w1.heap.size := Nat.lt_of_lt_of_le (HV.out b rfl) HB1.out.size
        obtain ⟨h1, h2, h3⟩ := ent_read hcell k hl0
        have hk1 : (k : Int) < (n : Int) := by omega
        have HTK := Lib.hid (show ls.take (k + 1) = ls.take k ++ [ls[k]] from List.take_succ_eq_append_getElem hl0)
        have HEN := Lib.hid (entB_eq ls[k])
        obtain ⟨g1, g2, g3, g4, g5, g6⟩ := HG.out k hl0
        clear hcell
        generalize ls[k] = y at h1 h2 h3 HTK HEN g1 g2 g3 g4 g5 g6
        obtain ⟨a0, a1, a2⟩ := y
        simp only at h1 h2 h3 HEN g1 g2 g3 g4 g5 g6
        have l1 := Lib.itoa_length_le a0 (by omega) (by omega)
        have l2 := Lib.itoa_length_le a1 (by omega) (by omega)
        have l3 := Lib.itoa_length_le a2 (by omega) (by omega)
        obtain ⟨t1, H1⟩ : ∃ t, Hid ((⟨(Lib.itoa a0).toArray⟩ : ByteArray) = t) := ⟨_, Lib.hid rfl⟩
        obtain ⟨t2, H2⟩ : ∃ t, Hid ((⟨(Lib.itoa a1).toArray⟩ : ByteArray) = t) := ⟨_, Lib.hid rfl⟩
        obtain ⟨t3, H3⟩ : ∃ t, Hid ((⟨(Lib.itoa a2).toArray⟩ : ByteArray) = t) := ⟨_, Lib.hid rfl⟩
        rw [H1.out, H2.out, H3.out] at HEN
        have z1 : t1.size ≤ 21 := by rw [← H1.out]; show (Lib.itoa a0).toArray.size ≤ 21; simpa using l1
        have z2 : t2.size ≤ 21 := by rw [← H2.out]; show (Lib.itoa a1).toArray.size ≤ 21; simpa using l2
        have z3 : t3.size ≤ 21 := by rw [← H3.out]; show (Lib.itoa a2).toArray.size ≤ 21; simpa using l3
        clear l1 l2 l3 hl0
        by_cases hk0 : k = 0
        case pos =>
          have HE := Lib.hid (show o ++ t1 ++ (⟨#[46]⟩ : ByteArray) ++ t2 ++ (⟨#[46]⟩ : ByteArray) ++ t3 = joinB ((ls.take (k + 1)).map entB) ⟨#[32]⟩ from by
            have e0 : ls.take k = [] := by rw [hk0]; rfl
            have eo : o = ⟨#[]⟩ := by rw [HO.out, e0]; rfl
            rw [HTK.out, List.map_append, e0, List.map_nil, List.nil_append, List.map_cons, List.map_nil, joinB_one, ← HEN.out, eo]
            apply ByteArray.ext
            apply Array.ext'
            simp)
          have HZ := Lib.hid (show (o ++ t1 ++ (⟨#[46]⟩ : ByteArray) ++ t2 ++ (⟨#[46]⟩ : ByteArray) ++ t3).size ≤ (k + 1) * 66 from by
            simp only [ByteArray.size_append]
            have : (⟨#[46]⟩ : ByteArray).size = 1 := rfl
            have hzz := HZ0.out
            omega)
          have k1 : ∀ w, (Op.stringOp .add (o) t1).run Try.prog w = .ok (.string (o ++ t1)) w := add_str _ _ (by have := HZ0.out; (try simp only [ByteArray.size_append]); omega)
          have k2 : ∀ w, (Op.stringOp .add (o ++ t1) (⟨#[46]⟩ : ByteArray)).run Try.prog w = .ok (.string (o ++ t1 ++ (⟨#[46]⟩ : ByteArray))) w := add_str _ _ (by have := HZ0.out; (try simp only [ByteArray.size_append]); have : (⟨#[46]⟩ : ByteArray).size = 1 := rfl; omega)
          have k3 : ∀ w, (Op.stringOp .add (o ++ t1 ++ (⟨#[46]⟩ : ByteArray)) t2).run Try.prog w = .ok (.string (o ++ t1 ++ (⟨#[46]⟩ : ByteArray) ++ t2)) w := add_str _ _ (by have := HZ0.out; (try simp only [ByteArray.size_append]); have : (⟨#[46]⟩ : ByteArray).size = 1 := rfl; omega)
          have k4 : ∀ w, (Op.stringOp .add (o ++ t1 ++ (⟨#[46]⟩ : ByteArray) ++ t2) (⟨#[46]⟩ : ByteArray)).run Try.prog w = .ok (.string (o ++ t1 ++ (⟨#[46]⟩ : ByteArray) ++ t2 ++ (⟨#[46]⟩ : ByteArray))) w := add_str _ _ (by have := HZ0.out; (try simp only [ByteArray.size_append]); have : (⟨#[46]⟩ : ByteArray).size = 1 := rfl; omega)
          have k5 : ∀ w, (Op.stringOp .add (o ++ t1 ++ (⟨#[46]⟩ : ByteArray) ++ t2 ++ (⟨#[46]⟩ : ByteArray)) t3).run Try.prog w = .ok (.string (o ++ t1 ++ (⟨#[46]⟩ : ByteArray) ++ t2 ++ (⟨#[46]⟩ : ByteArray) ++ t3)) w := add_str _ _ (by have := HZ0.out; (try simp only [ByteArray.size_append]); have : (⟨#[46]⟩ : ByteArray).size = 1 := rfl; omega)
          have hd : decide ((k : Int) > 0) = false := decide_eq_false (by omega)
          have hd2 : ¬ ((k : Int) > 0) := by omega
          clear hk0 HTK HEN HO
          go_wp2_with fail
          go_region_held3 (fun w' => w'.cell? ⟨b, off + k * 3, none⟩ = some (.int .i64 a0) ∧ w'.cell? ⟨b, off + k * 3 + 1, none⟩ = some (.int .i64 a1) ∧ w'.cell? ⟨b, off + k * 3 + 2, none⟩ = some (.int .i64 a2) ∧ w1.heap.size ≤ w'.heap.size)
            (first
              | exact ⟨h1, h2, h3, by simp⟩
              | (go_split_ands
                 refine ⟨?_, ?_, ?_, Nat.le_trans (by assumption) hb4.size⟩
                 all_goals (rw [hb4.cell (by simp <;> omega)]; assumption))
              | (go_split_ands
                 refine ⟨?_, ?_, ?_, Nat.le_trans (by assumption) hb3.size⟩
                 all_goals (rw [hb3.cell (by simp <;> omega)]; assumption))
              | (go_split_ands
                 refine ⟨?_, ?_, ?_, Nat.le_trans (by assumption) hb2.size⟩
                 all_goals (rw [hb2.cell (by simp <;> omega)]; assumption)))
            (first
              | (go_at_call 74; ((with_reducible refine (decIs a0 _ (by omega) (by omega) t1 H1.out).mono ?_); rintro e w2 ⟨rfl, hb2⟩))
              | (go_at_call 74; ((with_reducible refine (decIs a1 _ (by omega) (by omega) t2 H2.out).mono ?_); rintro e w3 ⟨rfl, hb3⟩))
              | (go_at_call 74; ((with_reducible refine (decIs a2 _ (by omega) (by omega) t3 H3.out).mono ?_); rintro e w4 ⟨rfl, hb4⟩)))
          have hb14 := below_three' (a := w1) hb2 hb3 hb4
          have HB4 := Lib.hid (HB1.out.trans (hb14.mono HB1.out.size))
          clear hb2 hb3 hb4 hb14 h1 h2 h3 HB1
          go_wp2
          go_roundw
          case rel => exact ⟨k + 1, _, by omega, rfl, by go_num, HB4, HE, HZ⟩
          case measure => simp [intOf]; omega
        case neg =>
          have HE := Lib.hid (show o ++ (⟨#[32]⟩ : ByteArray) ++ t1 ++ (⟨#[46]⟩ : ByteArray) ++ t2 ++ (⟨#[46]⟩ : ByteArray) ++ t3 = joinB ((ls.take (k + 1)).map entB) ⟨#[32]⟩ from by
            have e0 : (ls.take k).map entB ≠ [] := by
              intro h
              have := congrArg List.length h
              rw [List.length_map, List.length_take, HL.out] at this
              simp only [List.length_nil] at this
              omega
            rw [HTK.out, List.map_append, List.map_cons, List.map_nil, joinB_snoc, if_neg e0, ← HO.out, ← HEN.out]
            simp only [ByteArray.append_assoc])
          have HZ := Lib.hid (show (o ++ (⟨#[32]⟩ : ByteArray) ++ t1 ++ (⟨#[46]⟩ : ByteArray) ++ t2 ++ (⟨#[46]⟩ : ByteArray) ++ t3).size ≤ (k + 1) * 66 from by
            simp only [ByteArray.size_append]
            have : (⟨#[46]⟩ : ByteArray).size = 1 := rfl
            have hzz := HZ0.out
            have : (⟨#[32]⟩ : ByteArray).size = 1 := rfl; omega)
          have k1 : ∀ w, (Op.stringOp .add (o ++ (⟨#[32]⟩ : ByteArray)) t1).run Try.prog w = .ok (.string (o ++ (⟨#[32]⟩ : ByteArray) ++ t1)) w := add_str _ _ (by have := HZ0.out; (try simp only [ByteArray.size_append]); have : (⟨#[32]⟩ : ByteArray).size = 1 := rfl; omega)
          have k2 : ∀ w, (Op.stringOp .add (o ++ (⟨#[32]⟩ : ByteArray) ++ t1) (⟨#[46]⟩ : ByteArray)).run Try.prog w = .ok (.string (o ++ (⟨#[32]⟩ : ByteArray) ++ t1 ++ (⟨#[46]⟩ : ByteArray))) w := add_str _ _ (by have := HZ0.out; (try simp only [ByteArray.size_append]); have : (⟨#[46]⟩ : ByteArray).size = 1 := rfl; have : (⟨#[32]⟩ : ByteArray).size = 1 := rfl; omega)
          have k3 : ∀ w, (Op.stringOp .add (o ++ (⟨#[32]⟩ : ByteArray) ++ t1 ++ (⟨#[46]⟩ : ByteArray)) t2).run Try.prog w = .ok (.string (o ++ (⟨#[32]⟩ : ByteArray) ++ t1 ++ (⟨#[46]⟩ : ByteArray) ++ t2)) w := add_str _ _ (by have := HZ0.out; (try simp only [ByteArray.size_append]); have : (⟨#[46]⟩ : ByteArray).size = 1 := rfl; have : (⟨#[32]⟩ : ByteArray).size = 1 := rfl; omega)
          have k4 : ∀ w, (Op.stringOp .add (o ++ (⟨#[32]⟩ : ByteArray) ++ t1 ++ (⟨#[46]⟩ : ByteArray) ++ t2) (⟨#[46]⟩ : ByteArray)).run Try.prog w = .ok (.string (o ++ (⟨#[32]⟩ : ByteArray) ++ t1 ++ (⟨#[46]⟩ : ByteArray) ++ t2 ++ (⟨#[46]⟩ : ByteArray))) w := add_str _ _ (by have := HZ0.out; (try simp only [ByteArray.size_append]); have : (⟨#[46]⟩ : ByteArray).size = 1 := rfl; have : (⟨#[32]⟩ : ByteArray).size = 1 := rfl; omega)
          have k5 : ∀ w, (Op.stringOp .add (o ++ (⟨#[32]⟩ : ByteArray) ++ t1 ++ (⟨#[46]⟩ : ByteArray) ++ t2 ++ (⟨#[46]⟩ : ByteArray)) t3).run Try.prog w = .ok (.string (o ++ (⟨#[32]⟩ : ByteArray) ++ t1 ++ (⟨#[46]⟩ : ByteArray) ++ t2 ++ (⟨#[46]⟩ : ByteArray) ++ t3)) w := add_str _ _ (by have := HZ0.out; (try simp only [ByteArray.size_append]); have : (⟨#[46]⟩ : ByteArray).size = 1 := rfl; have : (⟨#[32]⟩ : ByteArray).size = 1 := rfl; omega)
          have hd : decide ((k : Int) > 0) = true := decide_eq_true (by omega)
          have hd2 : (k : Int) > 0 := by omega
          have k0 : ∀ w, (Op.stringOp .add o (⟨#[32]⟩ : ByteArray)).run Try.prog w = .ok (.string (o ++ (⟨#[32]⟩ : ByteArray))) w := add_str _ _ (by have := HZ0.out; have : (⟨#[32]⟩ : ByteArray).size = 1 := rfl; omega)
          clear hk0 HTK HEN HO
          go_wp2_with fail
          go_region_held3 (fun w' => w'.cell? ⟨b, off + k * 3, none⟩ = some (.int .i64 a0) ∧ w'.cell? ⟨b, off + k * 3 + 1, none⟩ = some (.int .i64 a1) ∧ w'.cell? ⟨b, off + k * 3 + 2, none⟩ = some (.int .i64 a2) ∧ w1.heap.size ≤ w'.heap.size)
            (first
              | exact ⟨h1, h2, h3, by simp⟩
              | (go_split_ands
                 refine ⟨?_, ?_, ?_, Nat.le_trans (by assumption) hb4.size⟩
                 all_goals (rw [hb4.cell (by simp <;> omega)]; assumption))
              | (go_split_ands
                 refine ⟨?_, ?_, ?_, Nat.le_trans (by assumption) hb3.size⟩
                 all_goals (rw [hb3.cell (by simp <;> omega)]; assumption))
              | (go_split_ands
                 refine ⟨?_, ?_, ?_, Nat.le_trans (by assumption) hb2.size⟩
                 all_goals (rw [hb2.cell (by simp <;> omega)]; assumption)))
            (first
              | (go_at_call 74; ((with_reducible refine (decIs a0 _ (by omega) (by omega) t1 H1.out).mono ?_); rintro e w2 ⟨rfl, hb2⟩))
              | (go_at_call 74; ((with_reducible refine (decIs a1 _ (by omega) (by omega) t2 H2.out).mono ?_); rintro e w3 ⟨rfl, hb3⟩))
              | (go_at_call 74; ((with_reducible refine (decIs a2 _ (by omega) (by omega) t3 H3.out).mono ?_); rintro e w4 ⟨rfl, hb4⟩)))
          have hb14 := below_three' (a := w1) hb2 hb3 hb4
          have HB4 := Lib.hid (HB1.out.trans (hb14.mono HB1.out.size))
          clear hb2 hb3 hb4 hb14 h1 h2 h3 HB1
          go_wp2
          go_roundw
          case rel => exact ⟨k + 1, _, by omega, rfl, by go_num, HB4, HE, HZ⟩
          case measure => simp [intOf]; omega
      case neg =>
        have HK := Lib.hid (show o = R from by rw [HO.out, List.take_of_length_le (by rw [HL.out]; omega)]; exact HZ.out)
        go_wp2
        go_ret
        exact ⟨ret_s HK.out, HB1.out⟩
theorem SpecDdtText_is (v : Value) (ls : List EntM) (t : ByteArray) (w : World) (h : Sl w 3 v ls.length (ecs ls)) (hv : Low w.heap.size v) (ht : ddtText ls = t) :
    Calls Try.prog 64 #[v] w fun e w' => e = .returned (.string t) ∧ Below w.heap.size w w' := ht ▸ SpecDdtText_any v ls w h hv
end Go.Proofs.Ythcfiobnnceomaa

/-
  How many blocks a commit takes: the mathematics.
-/
set_option maxRecDepth 100000
namespace Go.Proofs.Ythcfiobnnceomaa
open Go.ChangeShapes Go.WideShapes Go.ChangeAt Go.RowKit Go.Proofs.Palim

/-- How many of the sets have changed. -/
def dirtyN (ls : List CSetM) : Nat := ls.countP (·.dirty)
theorem dirtyN_succ {ls : List CSetM} {k : Nat} (h : k < ls.length) : dirtyN (ls.take (k + 1)) = dirtyN (ls.take k) + (if ls[k].dirty then 1 else 0) := by
  unfold dirtyN
  rw [List.take_succ_eq_append_getElem h, List.countP_append, List.countP_cons]
  simp
theorem dirtyN_le (ls : List CSetM) : dirtyN ls ≤ ls.length := List.countP_le_length
/-- How many parts the table has. -/
def partN (n : Nat) : Nat := (n + 5) / 6
/-- The texts of the first k parts. -/
noncomputable def partsT (ls : List EntM) (k : Nat) : List ByteArray := (List.range k).map fun j => ddtText ((ls.drop (j * 6)).take 6)
theorem partsT_length (ls : List EntM) (k : Nat) : (partsT ls k).length = k := by simp [partsT]
theorem partsT_succ (ls : List EntM) (k : Nat) : partsT ls (k + 1) = partsT ls k ++ [ddtText ((ls.drop (k * 6)).take 6)] := by simp [partsT, List.range_succ]
noncomputable def needsM (c : CoreM) : Nat := 1 + dirtyN c.sets + (if c.dirty then partN c.ddt.length else 0)
noncomputable def needsC (c : CoreM) : Nat := if CoreOkM c then needsM c else 0
theorem part_sub {ls : List EntM} {m : Nat} (h : ls.length < m + 6) : (ls.drop m).take 6 = (ls.drop m).take (ls.length - m) := by
  rw [List.take_of_length_le (by rw [List.length_drop]; omega), List.take_of_length_le (by rw [List.length_drop]; omega)]
theorem ecs_dropN (ls : List EntM) : ∀ k, (ecs ls).drop (k * 3) = ecs (ls.drop k) := by
  induction ls with
  | nil => intro k; simp [ecs]
  | cons x ls ih =>
    intro k
    cases k with
    | zero => simp
    | succ k =>
      have e : ecs (x :: ls) = ec x ++ ecs ls := by simp [ecs]
      rw [e, show (k + 1) * 3 = (ec x).length + k * 3 by simp [ec]; omega, List.drop_length_add_append, ih k]
      rfl
theorem ecs_takeN (ls : List EntM) : ∀ k, (ecs ls).take (k * 3) = ecs (ls.take k) := by
  induction ls with
  | nil => intro k; simp [ecs]
  | cons x ls ih =>
    intro k
    cases k with
    | zero => simp [ecs]
    | succ k =>
      have e : ecs (x :: ls) = ec x ++ ecs ls := by simp [ecs]
      rw [e, show (k + 1) * 3 = (ec x).length + k * 3 by simp [ec]; omega, List.take_length_add_append, ih k]
      simp [ecs]
/-- A piece of a list of entries. -/
theorem sl_piece {w : World} {ls : List EntM} {b off m q c : Nat} (hc : ∀ j u, (ecs ls)[j]? = some u → w.cell? ⟨b, off + j, none⟩ = some u) (hq : m + q ≤ ls.length) (h1 : q ≤ c) (h2 : c ≤ maxLen) :
    Sl w 3 (.slice (some ⟨b, off + m * 3, none⟩) q c) ((ls.drop m).take q).length (ecs ((ls.drop m).take q)) := by
  have hl : ((ls.drop m).take q).length = q := by rw [List.length_take, List.length_drop]; omega
  rw [hl]
  refine ⟨by rw [ecs_length, hl], _, _, rfl, h1, h2, Or.inr ⟨b, off + m * 3, rfl, fun j u hu => ?_⟩⟩
  rw [← ecs_takeN, ← ecs_dropN] at hu
  have hj : j < q * 3 := by
    have := (List.getElem?_eq_some_iff.1 hu).1
    rw [List.length_take] at this
    omega
  rw [List.getElem?_take_of_lt hj, List.getElem?_drop] at hu
  have := hc _ _ hu
  rw [← this]
  congr 2
  omega
end Go.Proofs.Ythcfiobnnceomaa

/-
  The document's parts of the table.
-/
set_option maxRecDepth 100000
namespace Go.Proofs.Ythcfiobnnceomaa
open Go.ChangeShapes Go.WideShapes Go.ChangeAt Go.RowKit Go.Proofs.Palim

set_option maxHeartbeats 4000000 in
theorem l8Parts_any (v : Value) (ls : List EntM) (w : World) (h : Sl w 3 v ls.length (ecs ls)) (hv : Low w.heap.size v) (hl48 : ls.length ≤ 1000) :
    Calls Try.prog 52 #[v] w fun e w' => ∃ v', e = .returned v' ∧ w'.ownsRow w.heap.size 9 1 v' (partN ls.length) (scs (partsT ls (partN ls.length))) ∧ Below w.heap.size w w' := by
  obtain ⟨i0, hi, hz0, hz1, hz2⟩ := info_parts infoStr
  have HV := Lib.hid hv
  have HD := Lib.hid h
  obtain ⟨n, HL⟩ : ∃ n, Hid (ls.length = n) := ⟨_, Lib.hid rfl⟩
  obtain ⟨_, A, c, rfl, hnc, hcm, _⟩ := h
  unfold maxLen at hcm
  clear hv
  rw [HL.out] at HD HV hnc hl48 ⊢
  have hn1 := Below.new1 (w := w) (.cells #[] 9)
  have B := Lib.hid hn1
  have HO := Lib.hid (show (w.alloc (.cells #[] 9)).ownsRow w.heap.size 9 1 (.slice (some ⟨w.heap.size, 0, none⟩) 0 0) 0 [] from World.ownsRow_made w #[] 0 (Nat.le_refl _) (by unfold maxLen; omega) rfl)
  clear hn1
  go_enter Try.func52, Try.ntmps52
  go_wp2
  obtain ⟨W0, HWE⟩ : ∃ W0, w.alloc (.cells #[] 9) = W0 := ⟨_, rfl⟩
  rw [HWE] at B HO ⊢
  clear HWE
  go_loopw [3, 4, 5] (fun o i _ wr => ∃ (j m : Nat) (D : Option Addr) (cap : Nat), m ≤ n + 5 ∧ i = .int .i64 (m : Int) ∧ o = .slice D j cap ∧ Hid (m = j * 6) ∧ Hid (wr.ownsRow w.heap.size 9 1 (.slice D j cap) j (scs (partsT ls j))) ∧ Hid (Below w.heap.size w wr)) (fun _ i _ _ => n + 6 - (RowKit.intOf i).toNat)
  case atStart => exact ⟨0, 0, _, _, by omega, rfl, rfl, Lib.hid rfl, HO, B⟩
  case round =>
    clear B HO
    obtain ⟨j, m, D, cap, hmn, rfl, rfl, HJ, HO, B⟩ := hrel
    by_cases hlt : m < n
    case pos =>
      obtain ⟨b, off, c', hv', _, _, hcell⟩ := (HD.out.below B.out HV.out).form (by omega)
      injection hv' with e1 e2 e3
      subst e1 e3
      clear e2
      have HC := Lib.hid hcell
      clear hcell
      obtain ⟨t, HTX⟩ : ∃ t, Hid (ddtText ((ls.drop m).take 6) = t) := ⟨_, Lib.hid rfl⟩
      have HTS := Lib.hid (show partsT ls (j + 1) = partsT ls j ++ [t] from by rw [partsT_succ, ← HJ.out, HTX.out])
      have hLW : Low wr.heap.size (.slice (some ⟨b, off, none⟩) n c) := fun x e => Nat.lt_of_lt_of_le (HV.out x e) B.out.size
      have hbl : b < wr.heap.size := hLW b rfl
      have HW0 := Lib.hid B.out.size
      have hjs : j ≤ 1000 := by have := HJ.out; omega
      clear hLW
      by_cases h6 : m + 6 > n
      case pos =>
        have h6i : (m : Int) + 6 > (n : Int) := by omega
        have HT := Lib.hid (show ddtText ((ls.drop m).take (n - m)) = t from by rw [← HTX.out, part_sub (ls := ls) (m := m) (by rw [HL.out]; omega), HL.out])
        have HSL := Lib.hid (sl_piece (w := wr) (m := m) (q := n - m) (c := c - m) HC.out (by rw [HL.out]; omega) (by omega) (by unfold maxLen; omega))
        have hql : ((ls.drop m).take (n - m)).length = n - m := by rw [List.length_take, List.length_drop, HL.out]; omega
        go_wp2_with fail
        refine (SpecDdtText_is _ ((ls.drop m).take (n - m)) t _ HSL.out (fun x e => by have hbx : b = x := (by simpa [Value.ownBlock] using e); omega) HT.out).mono ?_
        rintro e w2 ⟨rfl, hb⟩
        have HO1 := Lib.hid (own_kept HO.out (w' := w2) (fun b e => hb.block b (HO.out.lt b e).2))
        have HO2 := Lib.hid (own_kept HO1.out (w' := w2.alloc (.cells #[.string t] 9)) (fun b e => Below.heap_alloc _ _ b (HO1.out.lt b e).2))
        have HS1 := Lib.hid (sl_one w2 t 9)
        have B2 := Lib.hid (B.out.trans (hb.mono B.out.size))
        have hw2 : w.heap.size ≤ w2.heap.size := B2.out.size
        clear hb B HO HO1 HSL
        go_wp2_with (first | (at_builtin; refine wpList_append_freshB _ rfl _ _ 97 rfl w.heap.size 9 i0 _ 1 16 Try.underlying97 hi hz0 hz1 hz2 rfl (by omega) (.slice D j cap) j _ rfl HO2.out (.slice (some ⟨w2.heap.size, 0, none⟩) 1 1) 1 [.string t] rfl HS1.out (by simp [Value.oneCell']) (by unfold maxLen; omega) (by omega) (by simp; omega) ?_))
        intro A3 cap3 w4 hown4 hg4 _
        have HB4 := Lib.hid (show Below w.heap.size w w4 from (B2.out.alloc hw2 (.cells #[.string t] 9)).grown hg4 (by simp; omega) (fun b e => (HO2.out.lt b e).1))
        have HO5 := Lib.hid (show w4.ownsRow w.heap.size 9 1 (.slice A3 (j + 1) cap3) (j + 1) (scs (partsT ls (j + 1))) from by rw [HTS.out, scs_snoc]; exact hown4)
        clear hown4 hg4 HO2 HS1 B2
        go_wp2
        go_roundw
        case rel => exact ⟨j + 1, m + 6, A3, cap3, by omega, by go_num, rfl, Lib.hid (by have := HJ.out; omega), HO5, HB4⟩
        case measure => simp [RowKit.intOf]; omega
      case neg =>
        have h6i : ¬ (m : Int) + 6 > (n : Int) := by omega
        have HSL := Lib.hid (sl_piece (w := wr) (m := m) (q := 6) (c := c - m) HC.out (by rw [HL.out]; omega) (by omega) (by unfold maxLen; omega))
        go_wp2_with fail
        refine (SpecDdtText_is _ ((ls.drop m).take 6) t _ HSL.out (fun x e => by have hbx : b = x := (by simpa [Value.ownBlock] using e); omega) HTX.out).mono ?_
        rintro e w2 ⟨rfl, hb⟩
        have HO1 := Lib.hid (own_kept HO.out (w' := w2) (fun b e => hb.block b (HO.out.lt b e).2))
        have HO2 := Lib.hid (own_kept HO1.out (w' := w2.alloc (.cells #[.string t] 9)) (fun b e => Below.heap_alloc _ _ b (HO1.out.lt b e).2))
        have HS1 := Lib.hid (sl_one w2 t 9)
        have B2 := Lib.hid (B.out.trans (hb.mono B.out.size))
        have hw2 : w.heap.size ≤ w2.heap.size := B2.out.size
        clear hb B HO HO1 HSL
        go_wp2_with (first | (at_builtin; refine wpList_append_freshB _ rfl _ _ 97 rfl w.heap.size 9 i0 _ 1 16 Try.underlying97 hi hz0 hz1 hz2 rfl (by omega) (.slice D j cap) j _ rfl HO2.out (.slice (some ⟨w2.heap.size, 0, none⟩) 1 1) 1 [.string t] rfl HS1.out (by simp [Value.oneCell']) (by unfold maxLen; omega) (by omega) (by simp; omega) ?_))
        intro A3 cap3 w4 hown4 hg4 _
        have HB4 := Lib.hid (show Below w.heap.size w w4 from (B2.out.alloc hw2 (.cells #[.string t] 9)).grown hg4 (by simp; omega) (fun b e => (HO2.out.lt b e).1))
        have HO5 := Lib.hid (show w4.ownsRow w.heap.size 9 1 (.slice A3 (j + 1) cap3) (j + 1) (scs (partsT ls (j + 1))) from by rw [HTS.out, scs_snoc]; exact hown4)
        clear hown4 hg4 HO2 HS1 B2
        go_wp2
        go_roundw
        case rel => exact ⟨j + 1, m + 6, A3, cap3, by omega, by go_num, rfl, Lib.hid (by have := HJ.out; omega), HO5, HB4⟩
        case measure => simp [RowKit.intOf]; omega
    case neg =>
      have HK := Lib.hid (show j = partN n from by have := HJ.out; unfold partN; omega)
      have HO2 := Lib.hid (show wr.ownsRow w.heap.size 9 1 (.slice D j cap) (partN n) (scs (partsT ls (partN n))) from by rw [← HK.out]; exact HO.out)
      clear HO HK
      go_wp2
      go_ret
      exact ⟨_, rfl, HO2.out, B.out⟩
end Go.Proofs.Ythcfiobnnceomaa

/-
  The document's CommitNeeds.
-/
set_option maxRecDepth 100000
namespace Go.Proofs.Ythcfiobnnceomaa
open Go.ChangeShapes Go.WideShapes Go.ChangeAt Go.RowKit Go.Proofs.Palim

theorem cc_dirty (x : CSetM) : (cc x)[30]? = some (.bool x.dirty) := by
  have h8 := x.h8
  unfold cc
  rw [List.getElem?_append_right (by rw [List.length_append, pcs_length, h8]; simp [ch]), List.length_append, pcs_length, h8]
  rfl
set_option maxHeartbeats 2000000 in
theorem l8Needs_any (vs vd vp vi : Value) (c : CoreM) (w : World) (h : CoreR w vs vd vp vi c) (hs : CoreShort c) (hd : c.ddt.length ≤ 48) :
    Calls Try.prog 30 #[cv c vs vd vp vi] w fun e w' => e = .returned (.int .i64 (needsM c : Nat)) ∧ Below w.heap.size w w' := by
  have HS := Lib.hid hs
  obtain ⟨A0, k0, A1, k1, A2, k2, A3, k3, rfl, rfl, rfl, rfl⟩ := h.forms
  have B := Lib.hid (Below.new1 (w := w) (.cells #[.int .i64 c.txg, .slice A0 c.sets.length k0, .slice A1 c.ddt.length k1, .slice A2 c.parts.length k2, .bool c.dirty, .slice A3 c.safe.length k3, .int .i64 c.logn] 35))
  have XC := Lib.hid (kbox_new h 35)
  clear h hs
  go_enter Try.func30, Try.ntmps30
  go_upto_region 1 with fail
  obtain ⟨W0, HWE⟩ : ∃ W0, w.alloc (.cells #[.int .i64 c.txg, .slice A0 c.sets.length k0, .slice A1 c.ddt.length k1, .slice A2 c.parts.length k2, .bool c.dirty, .slice A3 c.safe.length k3, .int .i64 c.logn] 35) = W0 := ⟨_, rfl⟩
  rw [HWE] at XC B ⊢
  clear HWE
  go_wp2
  have hsl := HS.out.s
  go_loopw [3, 4] (fun s i wr => ∃ (k z : Nat), k ≤ c.sets.length ∧ z ≤ k + 1 ∧ s = .int .i64 (z : Int) ∧ i = .int .i64 (k : Int) ∧ Hid (z = 1 + dirtyN (c.sets.take k)) ∧ Hid (Below w.heap.size w wr) ∧ Hid (KBox wr w.heap.size (.slice A0 c.sets.length k0) (.slice A1 c.ddt.length k1) (.slice A2 c.parts.length k2) (.slice A3 c.safe.length k3) c)) (fun _ i _ => c.sets.length - (RowKit.intOf i).toNat)
  case atStart => exact ⟨0, 1, Nat.zero_le _, by omega, rfl, rfl, Lib.hid rfl, B, XC⟩
  case round =>
    clear B XC
    obtain ⟨k, z, hk, hzk, rfl, rfl, HZ, B, XC⟩ := hrel
    have n1 := XC.out.box.cell 1 rfl
    by_cases hlt : k < c.sets.length
    case pos =>
      obtain ⟨b, off, c', hvv, _, _, hcell⟩ := XC.out.reads.s.form (by omega)
      injection hvv with e1 e2 e3
      subst e1 e3
      clear e2
      have hk1 : (k : Int) < (c.sets.length : Int) := by omega
      have n30 := cset_read hcell k hlt 30 _ (cc_dirty _)
      have HDS := Lib.hid (dirtyN_succ hlt)
      generalize c.sets[k].dirty = dd at n30 HDS
      clear hcell
      cases dd with
      | true =>
        have HZ1 := Lib.hid (show z + 1 = 1 + dirtyN (c.sets.take (k + 1)) from by rw [HDS.out, HZ.out]; simp; omega)
        clear HDS HZ
        go_wp2
        go_roundw
        case rel => exact ⟨k + 1, z + 1, by omega, by omega, by go_num, by go_num, HZ1, B, XC⟩
        case measure => simp [RowKit.intOf]; omega
      | false =>
        have HZ1 := Lib.hid (show z = 1 + dirtyN (c.sets.take (k + 1)) from by rw [HDS.out, HZ.out]; simp)
        clear HDS HZ
        go_wp2
        go_roundw
        case rel => exact ⟨k + 1, z, by omega, by omega, rfl, by go_num, HZ1, B, XC⟩
        case measure => simp [RowKit.intOf]; omega
    case neg =>
      have HZ1 := Lib.hid (show z = 1 + dirtyN c.sets from by have := HZ.out; rw [List.take_of_length_le (by omega)] at this; exact this)
      have hkn : ¬ (k : Int) < (c.sets.length : Int) := by omega
      clear HZ
      have n4 := XC.out.box.cell 4 rfl
      obtain ⟨dd, HDD⟩ : ∃ dd, Hid (c.dirty = dd) := ⟨_, Lib.hid rfl⟩
      rw [HDD.out] at n4
      cases dd with
      | false =>
        have HF := Lib.hid (show z = needsM c from by unfold needsM; rw [HDD.out, HZ1.out]; simp)
        go_wp2
        go_ret
        exact ⟨ret_int (by have := HF.out; omega), B.out⟩
      | true =>
        have HF := Lib.hid (show z + partN c.ddt.length = needsM c from by unfold needsM; rw [HDD.out, HZ1.out]; simp)
        have hpn : partN c.ddt.length ≤ 10 := by unfold partN; omega
        have n2 := XC.out.box.cell 2 rfl
        go_wp2_with fail
        refine (l8Parts_any _ c.ddt _ XC.out.reads.d XC.out.reads.ld (by omega)).mono ?_
        rintro e w2 ⟨u, rfl, hown, hb⟩
        obtain ⟨_, AA, cA, rfl, _, _, _⟩ := sl_of_own hown
        have XC' := Lib.hid (XC.out.below hb)
        have B' := Lib.hid (B.out.trans (hb.mono B.out.size))
        clear hb XC B
        have XC := XC'
        have B := B'
        clear XC' B'
        clear hown n1 n2 n4
        go_wp2
        go_ret
        exact ⟨ret_int (by have := HF.out; omega), B.out⟩

set_option maxHeartbeats 1000000 in
theorem specNeeds_is (vs vd vp vi : Value) (c : CoreM) (r : Nat) (w : World) (h : CoreR w vs vd vp vi c) (hs : CoreShort c) (hr : needsC c = r) :
    Calls Try.prog 10 #[cv c vs vd vp vi] w fun e w' => e = .returned (.int .i64 (r : Int)) ∧ Below w.heap.size w w' := by
  have hnot : ∀ (x : Bool) (w : World), (Op.unary .not (.bool x)).run Try.prog w = .ok (.bool (!x)) w := fun _ _ => rfl
  have HR := Lib.hid hr
  clear hr
  have HS := Lib.hid hs
  obtain ⟨A0, k0, A1, k1, A2, k2, A3, k3, rfl, rfl, rfl, rfl⟩ := h.forms
  have B := Lib.hid (Below.new1 (w := w) (.cells #[.int .i64 c.txg, .slice A0 c.sets.length k0, .slice A1 c.ddt.length k1, .slice A2 c.parts.length k2, .bool c.dirty, .slice A3 c.safe.length k3, .int .i64 c.logn] 35))
  have XC := Lib.hid (kbox_new h 35)
  clear h hs
  go_enter Try.func10, Try.ntmps10
  go_upto_region 1 with fail
  obtain ⟨W0, HWE⟩ : ∃ W0, w.alloc (.cells #[.int .i64 c.txg, .slice A0 c.sets.length k0, .slice A1 c.ddt.length k1, .slice A2 c.parts.length k2, .bool c.dirty, .slice A3 c.safe.length k3, .int .i64 c.logn] 35) = W0 := ⟨_, rfl⟩
  rw [HWE] at XC B ⊢
  clear HWE
  by_cases hok : CoreOkM c
  case neg =>
    have HF := Lib.hid (show 0 = r from by rw [← HR.out]; unfold needsC; rw [if_neg hok])
    have hor := decide_eq_false hok
    clear hok
    go_wp2_with (refine wpList_load_box rfl _ rfl aggCore rfl (kcore c (.slice A0 c.sets.length k0) (.slice A1 c.ddt.length k1) (.slice A2 c.parts.length k2) (.slice A3 c.safe.length k3)) rfl XC.out.box ?_)
    refine (specCoreOk_is _ _ _ _ c _ _ XC.out.reads HS.out hor).mono ?_
    rintro e w2 ⟨rfl, hb⟩
    have XC' := Lib.hid (XC.out.below hb)
    have B' := Lib.hid (B.out.trans (hb.mono B.out.size))
    clear hb XC B
    have XC := XC'
    have B := B'
    clear XC' B'
    go_wp2
    go_ret
    exact ⟨ret_int (by have := HF.out; omega), B.out⟩
  case pos =>
    have HF := Lib.hid (show needsM c = r from by rw [← HR.out]; unfold needsC; rw [if_pos hok])
    have hd48 := hok.2.1.1
    have hor := decide_eq_true hok
    clear hok
    go_wp2_with (refine wpList_load_box rfl _ rfl aggCore rfl (kcore c (.slice A0 c.sets.length k0) (.slice A1 c.ddt.length k1) (.slice A2 c.parts.length k2) (.slice A3 c.safe.length k3)) rfl XC.out.box ?_)
    refine (specCoreOk_is _ _ _ _ c _ _ XC.out.reads HS.out hor).mono ?_
    rintro e w2 ⟨rfl, hb⟩
    have XC' := Lib.hid (XC.out.below hb)
    have B' := Lib.hid (B.out.trans (hb.mono B.out.size))
    clear hb XC B
    have XC := XC'
    have B := B'
    clear XC' B'
    go_wp2_with (refine wpList_load_box rfl _ rfl aggCore rfl (kcore c (.slice A0 c.sets.length k0) (.slice A1 c.ddt.length k1) (.slice A2 c.parts.length k2) (.slice A3 c.safe.length k3)) rfl XC.out.box ?_)
    refine (l8Needs_any _ _ _ _ c _ XC.out.reads HS.out hd48).mono ?_
    rintro e w3 ⟨rfl, hb⟩
    have XC' := Lib.hid (XC.out.below hb)
    have B' := Lib.hid (B.out.trans (hb.mono B.out.size))
    clear hb XC B
    have XC := XC'
    have B := B'
    clear XC' B'
    go_wp2
    go_ret
    exact ⟨ret_int (by have := HF.out; omega), B.out⟩
end Go.Proofs.Ythcfiobnnceomaa

/-
  impl's CommitNeeds.
-/
set_option maxRecDepth 100000
namespace Go.Proofs.Ythcfiobnnceomaa
open Go.ChangeShapes Go.WideShapes Go.ChangeAt Go.RowKit Go.Proofs.Palim

theorem cc_dirtyI (x : CSetM) : (cc x)[30]? = some (.bool x.dirty) := by
  have h8 := x.h8
  unfold cc
  rw [List.getElem?_append_right (by rw [List.length_append, pcs_length, h8]; simp [ch]), List.length_append, pcs_length, h8]
  rfl
set_option maxHeartbeats 2000000 in
theorem implNeeds_is (vs vd vp vi : Value) (c : CoreM) (r : Nat) (w : World) (h : CoreR w vs vd vp vi c) (hs : CoreShort c) (hr : needsC c = r) :
    Calls Try.prog 11 #[cv c vs vd vp vi] w fun e w' => e = .returned (.int .i64 (r : Int)) ∧ Below w.heap.size w w' := by
  have hnot : ∀ (x : Bool) (w : World), (Op.unary .not (.bool x)).run Try.prog w = .ok (.bool (!x)) w := fun _ _ => rfl
  have HR := Lib.hid hr
  clear hr
  have HS := Lib.hid hs
  obtain ⟨A0, k0, A1, k1, A2, k2, A3, k3, rfl, rfl, rfl, rfl⟩ := h.forms
  have B := Lib.hid (Below.new1 (w := w) (.cells #[.int .i64 c.txg, .slice A0 c.sets.length k0, .slice A1 c.ddt.length k1, .slice A2 c.parts.length k2, .bool c.dirty, .slice A3 c.safe.length k3, .int .i64 c.logn] 35))
  have XC := Lib.hid (kbox_new h 35)
  clear h hs
  go_enter Try.func11, Try.ntmps11
  go_upto_region 1 with fail
  obtain ⟨W0, HWE⟩ : ∃ W0, w.alloc (.cells #[.int .i64 c.txg, .slice A0 c.sets.length k0, .slice A1 c.ddt.length k1, .slice A2 c.parts.length k2, .bool c.dirty, .slice A3 c.safe.length k3, .int .i64 c.logn] 35) = W0 := ⟨_, rfl⟩
  rw [HWE] at XC B ⊢
  clear HWE
  by_cases hok : CoreOkM c
  case neg =>
    have HF := Lib.hid (show 0 = r from by rw [← HR.out]; unfold needsC; rw [if_neg hok])
    have hor := decide_eq_false hok
    clear hok
    go_wp2_with (refine wpList_load_box rfl _ rfl aggCore rfl (kcore c (.slice A0 c.sets.length k0) (.slice A1 c.ddt.length k1) (.slice A2 c.parts.length k2) (.slice A3 c.safe.length k3)) rfl XC.out.box ?_)
    refine (implCoreOk_is _ _ _ _ c _ _ XC.out.reads HS.out hor).mono ?_
    rintro e w2 ⟨rfl, hb⟩
    have XC' := Lib.hid (XC.out.below hb)
    have B' := Lib.hid (B.out.trans (hb.mono B.out.size))
    clear hb XC B
    have XC := XC'
    have B := B'
    clear XC' B'
    go_wp2
    go_ret
    exact ⟨ret_int (by have := HF.out; omega), B.out⟩
  case pos =>
    have HF := Lib.hid (show needsM c = r from by rw [← HR.out]; unfold needsC; rw [if_pos hok])
    have hd48 := hok.2.1.1
    have hor := decide_eq_true hok
    clear hok
    go_wp2_with (refine wpList_load_box rfl _ rfl aggCore rfl (kcore c (.slice A0 c.sets.length k0) (.slice A1 c.ddt.length k1) (.slice A2 c.parts.length k2) (.slice A3 c.safe.length k3)) rfl XC.out.box ?_)
    refine (implCoreOk_is _ _ _ _ c _ _ XC.out.reads HS.out hor).mono ?_
    rintro e w2 ⟨rfl, hb⟩
    have XC' := Lib.hid (XC.out.below hb)
    have B' := Lib.hid (B.out.trans (hb.mono B.out.size))
    clear hb XC B
    have XC := XC'
    have B := B'
    clear XC' B'
    have n1 := XC.out.box.cell 1 rfl
    have hsl := HS.out.s
    go_wp2
    clear n1
    go_loopw [3, 5, 12] (fun s _ i wr => ∃ (k z : Nat), k ≤ c.sets.length ∧ z ≤ k + 1 ∧ s = .int .i64 (z : Int) ∧ i = .int .i64 (k : Int) ∧ Hid (z = 1 + dirtyN (c.sets.take k)) ∧ Hid (Below w.heap.size w wr) ∧ Hid (KBox wr w.heap.size (.slice A0 c.sets.length k0) (.slice A1 c.ddt.length k1) (.slice A2 c.parts.length k2) (.slice A3 c.safe.length k3) c)) (fun _ _ i _ => c.sets.length - (RowKit.intOf i).toNat)
    case atStart => exact ⟨0, 1, Nat.zero_le _, by omega, rfl, rfl, Lib.hid rfl, B, XC⟩
    case round =>
      clear B XC
      obtain ⟨k, z, hk, hzk, rfl, rfl, HZ, B, XC⟩ := hrel
      by_cases hlt : k < c.sets.length
      case pos =>
        obtain ⟨b, off, c', hvv, _, _, hcell⟩ := XC.out.reads.s.form (by omega)
        injection hvv with e1 e2 e3
        subst e1 e3
        clear e2
        have hk1 : (k : Int) < (c.sets.length : Int) := by omega
        have HRD := Lib.hid (cset_read hcell k hlt)
        have HDS := Lib.hid (dirtyN_succ hlt)
        have hdx := cc_dirtyI c.sets[k]
        generalize c.sets[k] = x at HRD HDS hdx
        clear hcell
        have hn1 := Below.new1 (w := wr) (.cells #[.string ⟨#[]⟩, .int .i64 0, .string ⟨#[]⟩, .int .i64 0, .int .i64 0, .int .i64 0, .int .i64 0, .int .i64 0, .int .i64 0, .int .i64 0, .int .i64 0, .int .i64 0, .int .i64 0, .int .i64 0, .int .i64 0, .int .i64 0, .int .i64 0, .int .i64 0, .int .i64 0, .int .i64 0, .int .i64 0, .int .i64 0, .int .i64 0, .int .i64 0, .int .i64 0, .int .i64 0, .int .i64 0, .int .i64 0, .int .i64 0, .int .i64 0, .bool false] 69)
        have HBX := Lib.hid ((show Box _ wr.heap.size [.string ⟨#[]⟩, .int .i64 0, .string ⟨#[]⟩, .int .i64 0, .int .i64 0, .int .i64 0, .int .i64 0, .int .i64 0, .int .i64 0, .int .i64 0, .int .i64 0, .int .i64 0, .int .i64 0, .int .i64 0, .int .i64 0, .int .i64 0, .int .i64 0, .int .i64 0, .int .i64 0, .int .i64 0, .int .i64 0, .int .i64 0, .int .i64 0, .int .i64 0, .int .i64 0, .int .i64 0, .int .i64 0, .int .i64 0, .int .i64 0, .int .i64 0, .bool false] from box_new wr #[.string ⟨#[]⟩, .int .i64 0, .string ⟨#[]⟩, .int .i64 0, .int .i64 0, .int .i64 0, .int .i64 0, .int .i64 0, .int .i64 0, .int .i64 0, .int .i64 0, .int .i64 0, .int .i64 0, .int .i64 0, .int .i64 0, .int .i64 0, .int .i64 0, .int .i64 0, .int .i64 0, .int .i64 0, .int .i64 0, .int .i64 0, .int .i64 0, .int .i64 0, .int .i64 0, .int .i64 0, .int .i64 0, .int .i64 0, .int .i64 0, .int .i64 0, .bool false] 69).putAll (cc x) (by rw [cc_length]; rfl))
        have hpb : Below wr.heap.size wr (putC (wr.alloc (.cells #[.string ⟨#[]⟩, .int .i64 0, .string ⟨#[]⟩, .int .i64 0, .int .i64 0, .int .i64 0, .int .i64 0, .int .i64 0, .int .i64 0, .int .i64 0, .int .i64 0, .int .i64 0, .int .i64 0, .int .i64 0, .int .i64 0, .int .i64 0, .int .i64 0, .int .i64 0, .int .i64 0, .int .i64 0, .int .i64 0, .int .i64 0, .int .i64 0, .int .i64 0, .int .i64 0, .int .i64 0, .int .i64 0, .int .i64 0, .int .i64 0, .int .i64 0, .bool false] 69)) wr.heap.size 0 (cc x)) := putC_below hn1 _ _ (Nat.le_refl _) _
        have HNX := Lib.hid (show Box _ wr.heap.size [.string ⟨#[]⟩, .int .i64 0, .string ⟨#[]⟩, .int .i64 0, .int .i64 0, .int .i64 0, .int .i64 0, .int .i64 0, .int .i64 0, .int .i64 0, .int .i64 0, .int .i64 0, .int .i64 0, .int .i64 0, .int .i64 0, .int .i64 0, .int .i64 0, .int .i64 0, .int .i64 0, .int .i64 0, .int .i64 0, .int .i64 0, .int .i64 0, .int .i64 0, .int .i64 0, .int .i64 0, .int .i64 0, .int .i64 0, .int .i64 0, .int .i64 0, .bool false] from box_new wr #[.string ⟨#[]⟩, .int .i64 0, .string ⟨#[]⟩, .int .i64 0, .int .i64 0, .int .i64 0, .int .i64 0, .int .i64 0, .int .i64 0, .int .i64 0, .int .i64 0, .int .i64 0, .int .i64 0, .int .i64 0, .int .i64 0, .int .i64 0, .int .i64 0, .int .i64 0, .int .i64 0, .int .i64 0, .int .i64 0, .int .i64 0, .int .i64 0, .int .i64 0, .int .i64 0, .int .i64 0, .int .i64 0, .int .i64 0, .int .i64 0, .int .i64 0, .bool false] 69)
        have XC' := Lib.hid (XC.out.below hpb)
        have B' := Lib.hid (B.out.trans (hpb.mono B.out.size))
        clear hn1 hpb XC B
        have n30 := HBX.out.cell 30 hdx
        obtain ⟨dd, HDX⟩ : ∃ dd, Hid (x.dirty = dd) := ⟨_, Lib.hid rfl⟩
        rw [HDX.out] at n30 HDS
        clear hdx
        cases dd with
        | true =>
          have HZ1 := Lib.hid (show z + 1 = 1 + dirtyN (c.sets.take (k + 1)) from by rw [HDS.out, HZ.out]; simp; omega)
          clear HDS HZ
          go_wp2_with (first | (refine wpList_load_cs rfl _ rfl aggSetD rfl (cc x) (cc_length x) HRD.out ?_) | (refine wpList_store_box rfl _ _ rfl rfl aggSetD rfl (cc x) rfl (cc_length x) (cc_one x) [.string ⟨#[]⟩, .int .i64 0, .string ⟨#[]⟩, .int .i64 0, .int .i64 0, .int .i64 0, .int .i64 0, .int .i64 0, .int .i64 0, .int .i64 0, .int .i64 0, .int .i64 0, .int .i64 0, .int .i64 0, .int .i64 0, .int .i64 0, .int .i64 0, .int .i64 0, .int .i64 0, .int .i64 0, .int .i64 0, .int .i64 0, .int .i64 0, .int .i64 0, .int .i64 0, .int .i64 0, .int .i64 0, .int .i64 0, .int .i64 0, .int .i64 0, .bool false] HNX.out rfl ?_; clear HNX; generalize putC (wr.alloc (.cells #[.string ⟨#[]⟩, .int .i64 0, .string ⟨#[]⟩, .int .i64 0, .int .i64 0, .int .i64 0, .int .i64 0, .int .i64 0, .int .i64 0, .int .i64 0, .int .i64 0, .int .i64 0, .int .i64 0, .int .i64 0, .int .i64 0, .int .i64 0, .int .i64 0, .int .i64 0, .int .i64 0, .int .i64 0, .int .i64 0, .int .i64 0, .int .i64 0, .int .i64 0, .int .i64 0, .int .i64 0, .int .i64 0, .int .i64 0, .int .i64 0, .int .i64 0, .bool false] 69)) wr.heap.size 0 (cc x) = W1 at HBX n30 B' XC' ⊢))
          clear HBX HRD
          go_wp2
          go_roundw
          case rel => exact ⟨k + 1, z + 1, by omega, by omega, by go_num, by go_num, HZ1, B', XC'⟩
          case measure => simp [RowKit.intOf]; omega
        | false =>
          have HZ1 := Lib.hid (show z = 1 + dirtyN (c.sets.take (k + 1)) from by rw [HDS.out, HZ.out]; simp)
          clear HDS HZ
          go_wp2_with (first | (refine wpList_load_cs rfl _ rfl aggSetD rfl (cc x) (cc_length x) HRD.out ?_) | (refine wpList_store_box rfl _ _ rfl rfl aggSetD rfl (cc x) rfl (cc_length x) (cc_one x) [.string ⟨#[]⟩, .int .i64 0, .string ⟨#[]⟩, .int .i64 0, .int .i64 0, .int .i64 0, .int .i64 0, .int .i64 0, .int .i64 0, .int .i64 0, .int .i64 0, .int .i64 0, .int .i64 0, .int .i64 0, .int .i64 0, .int .i64 0, .int .i64 0, .int .i64 0, .int .i64 0, .int .i64 0, .int .i64 0, .int .i64 0, .int .i64 0, .int .i64 0, .int .i64 0, .int .i64 0, .int .i64 0, .int .i64 0, .int .i64 0, .int .i64 0, .bool false] HNX.out rfl ?_; clear HNX; generalize putC (wr.alloc (.cells #[.string ⟨#[]⟩, .int .i64 0, .string ⟨#[]⟩, .int .i64 0, .int .i64 0, .int .i64 0, .int .i64 0, .int .i64 0, .int .i64 0, .int .i64 0, .int .i64 0, .int .i64 0, .int .i64 0, .int .i64 0, .int .i64 0, .int .i64 0, .int .i64 0, .int .i64 0, .int .i64 0, .int .i64 0, .int .i64 0, .int .i64 0, .int .i64 0, .int .i64 0, .int .i64 0, .int .i64 0, .int .i64 0, .int .i64 0, .int .i64 0, .int .i64 0, .bool false] 69)) wr.heap.size 0 (cc x) = W1 at HBX n30 B' XC' ⊢))
          clear HBX HRD
          go_wp2
          go_roundw
          case rel => exact ⟨k + 1, z, by omega, by omega, rfl, by go_num, HZ1, B', XC'⟩
          case measure => simp [RowKit.intOf]; omega
      case neg =>
        have HZ1 := Lib.hid (show z = 1 + dirtyN c.sets from by have := HZ.out; rw [List.take_of_length_le (by omega)] at this; exact this)
        have hkn : ¬ (k : Int) < (c.sets.length : Int) := by omega
        clear HZ
        have n4 := XC.out.box.cell 4 rfl
        obtain ⟨dd, HDD⟩ : ∃ dd, Hid (c.dirty = dd) := ⟨_, Lib.hid rfl⟩
        rw [HDD.out] at n4
        cases dd with
        | false =>
          have HF1 := Lib.hid (show z = r from by rw [← HF.out]; unfold needsM; rw [HDD.out, HZ1.out]; simp)
          go_wp2
          go_ret
          exact ⟨ret_int (by have := HF1.out; omega), B.out⟩
        | true =>
          have HF1 := Lib.hid (show z + partN c.ddt.length = r from by rw [← HF.out]; unfold needsM; rw [HDD.out, HZ1.out]; simp)
          have n2 := XC.out.box.cell 2 rfl
          obtain ⟨nd, HND⟩ : ∃ nd, Hid (c.ddt.length = nd) := ⟨_, Lib.hid rfl⟩
          rw [HND.out] at n2 HF1 hd48
          have hq : (((nd : Int) + 6 - 1).tdiv 6) = ((partN nd : Nat) : Int) := by
            rw [show (nd : Int) + 6 - 1 = ((nd + 5 : Nat) : Int) by omega]
            rfl
          have hpn : partN nd ≤ 10 := by unfold partN; omega
          go_wp2
          go_ret
          exact ⟨ret_int (by have := HF1.out; omega), B.out⟩
end Go.Proofs.Ythcfiobnnceomaa

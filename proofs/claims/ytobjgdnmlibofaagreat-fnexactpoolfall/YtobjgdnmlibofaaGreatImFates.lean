/-
  impl's diskFates: the iterator hands out each late write with what becomes of it, in their order, to whatever loop body keeps their memory.
-/
import Derived.Test.YtobjgdnmlibofaaGreatImBack
import Derived.Test.YtobjgdnmlibofaaGreatTorn
import Derived.Test.YtobjgdnmlibofaaGreatData
set_option maxRecDepth 100000
namespace Go.Proofs.YtobjgdnmlibofaaGreat
open Go.ChangeShapes Go.WideShapes Go.ChangeAt Go.RowKit Go.Proofs.Palim Go.Shelf

attribute [local go_sem] Oper.semAt_some

def encFate (x : LateM × Int) : Array Value := #[.agg #[.int .i64 x.1.side, .int .i64 x.1.at_, .string x.1.text], .int .i64 x.2]

set_option maxHeartbeats 2000000 in
theorem fates1_in (n : Nat) (hn : 1 ≤ n) (l Bs Bf N : Nat) (S : Nat → Prop) (v vf : Value) (ls : List LateM) (fs : List Int) {Pr : LateM × Int → Prop} (zs : List { x : LateM × Int // Pr x }) (hz : zs.map (·.1) = pairs ls fs) (J Jx : List { x : LateM × Int // Pr x } → World → Prop)
    (hJa : ∀ s W o, J s W → J s (W.alloc o))
    (hY : ∀ pre x W, J pre W → pre.length < ls.length → YieldAt Fence.wide (n - 1) Tryz.prog l (encFate x.1) W fun e W' =>
      (e = .returned (.bool true) ∧ J (pre ++ [x]) W' ∧ KeepB N S W W') ∨ (e = .returned (.bool false) ∧ Jx (pre ++ [x]) W'))
    (W : World) (hBs : W.cell? ⟨Bs, 0, none⟩ = some v) (hsl : Sl W 3 v ls.length (lcs ls)) (hlen : ls.length ≤ 1048576) (hN : Bs < N) (hS : ¬ S Bs) (hvN : ∀ b, v.ownBlock = some b → b < N ∧ ¬ S b)
    (hBf : W.cell? ⟨Bf, 0, none⟩ = some vf) (hfl : Sl W 1 vf fs.length (ics fs)) (hflen : fs.length ≤ 1048576) (hfN : Bf < N) (hfS : ¬ S Bf) (hvf : ∀ b, vf.ownBlock = some b → b < N ∧ ¬ S b) (hNW : N ≤ W.heap.size) (h0 : J [] W) :
    CallsIn Fence.wide n Tryz.prog 127 #[.func (.yield l) #[] #[], .pointer (some ⟨Bs, 0, none⟩), .pointer (some ⟨Bf, 0, none⟩)] W fun e W' => (∃ v, e = .returned v) ∧
      ((∃ ys, ys = zs ∧ J ys W') ∨ (∃ pre, pre <+: zs ∧ Jx pre W')) := by
  have hzl : zs.length = ls.length := by have h := congrArg List.length hz; rwa [List.length_map, pairs_len] at h
  have HZ := Lib.hid hz
  have HZL := Lib.hid hzl
  clear hz hzl
  have hsl0 := hsl
  obtain ⟨_, A, c, rfl, _⟩ := hsl0
  have hfl0 := hfl
  obtain ⟨_, Af, cf, rfl, _⟩ := hfl0
  obtain ⟨nl, HL⟩ : ∃ n, Hid (ls.length = n) := ⟨_, Lib.hid rfl⟩
  obtain ⟨nf, HF⟩ : ∃ n, Hid (fs.length = n) := ⟨_, Lib.hid rfl⟩
  have HSL := Lib.hid hsl
  have HFL := Lib.hid hfl
  have HY := Lib.hid hY
  have HB := Lib.hid hBs
  have HBF := Lib.hid hBf
  have HJA := Lib.hid hJa
  rw [HL.out] at hBs hvN hlen HSL HB
  rw [HF.out] at hBf hvf hflen HFL HBF
  have HV := Lib.hid hvN
  have HVF := Lib.hid hvf
  clear hsl hY hvN hfl hvf hJa
  refine callsIn_of_wp Tryz.func127 rfl trivial ?_ rfl
  simp only [Tryz.ntmps127, List.size_toArray, List.length_cons, List.length_nil, Nat.reduceAdd, Nat.reduceSub, Array.replicate_succ, Array.replicate_zero, List.push_toArray, List.append_toArray, List.nil_append, List.cons_append]
  gi_wp2
  gi_loopw [9] (fun i wr => ∃ k : Nat, k ≤ nl ∧ i = .int .i64 (k : Int) ∧ Hid (J (zs.take k) wr) ∧ Hid (KeepB N S W wr)) (fun i _ => nl - (intOf i).toNat)
  case atStart => exact ⟨0, Nat.zero_le _, rfl, Lib.hid h0, Lib.hid (KeepB.refl _ _ _)⟩
  case round =>
    obtain ⟨k, hk, rfl, HJ, HK⟩ := hrel
    have hc : wr.cell? ⟨Bs, 0, none⟩ = some (.slice A nl c) := (World.cell?_of_block (a := ⟨Bs, 0, none⟩) (HK.out.block Bs hN hS)).trans HB.out
    have hcf : wr.cell? ⟨Bf, 0, none⟩ = some (.slice Af nf cf) := (World.cell?_of_block (a := ⟨Bf, 0, none⟩) (HK.out.block Bf hfN hfS)).trans HBF.out
    have hwN : N ≤ wr.heap.size := Nat.le_trans hNW HK.out.size
    have hBsl : Bs < wr.heap.size := by omega
    have hBfl : Bf < wr.heap.size := by omega
    by_cases hlt : k < nl
    · have hml : k < ls.length := by rw [HL.out]; omega
      obtain ⟨b, off, c', ef, hnc, hcm, hcell⟩ := HSL.out.form (by omega)
      injection ef with e1 e2 e3
      subst e1 e3
      unfold maxLen at hcm
      have hb := HV.out b rfl
      have hrd := late_read (fun j u hu => (World.cell?_of_block (a := ⟨b, off + j, none⟩) (HK.out.block b hb.1 hb.2)).trans (hcell j u hu)) k hml
      have hpk : k < zs.length := by rw [HZL.out]; exact hml
      have HP := Lib.hid (show zs.take (k + 1) = zs.take k ++ [zs[k]] from List.take_succ_eq_append_getElem hpk)
      have HPL := Lib.hid (show (zs.take k).length < ls.length from by rw [List.length_take]; omega)
      have hzk : zs[k].1 = (ls[k], fs.getD k 0) := by
        have h1 : (zs.map (·.1))[k]? = some zs[k].1 := by simp [hpk]
        have h2 : (pairs ls fs)[k]? = some (ls[k], fs.getD k 0) := by rw [List.getElem?_eq_getElem (by rw [pairs_len]; exact hml), pairs_at ls fs k _ hml]
        rw [HZ.out, h2] at h1
        exact (Option.some.inj h1).symm
      generalize ls[k] = x at hrd hzk
      obtain ⟨p1, p2, p3⟩ := hrd
      have HJ1 := Lib.hid (HJA.out _ _ (.cells #[.int .i64 x.side, .int .i64 x.at_, .string x.text] 81) HJ.out)
      have HK1 := Lib.hid (HK.out.trans (KeepB.of_below (S := S) (Below.new (w := wr) (.cells #[.int .i64 x.side, .int .i64 x.at_, .string x.text] 81)) hwN))
      obtain ⟨fn, tmps, assign, body, hy, hR⟩ := HY.out _ zs[k] _ HJ1.out HPL.out
      rw [← HP.out] at hR
      rw [hzk] at hy
      clear hzk
      have HR := Lib.hid hR
      have hk1 : (k : Int) < (nl : Int) := by omega
      simp only [encFate] at hy
      clear hR hcell e2 HP hml hpk HPL
      by_cases hkf : k < nf
      · have hlf : k < fs.length := by rw [HF.out]; exact hkf
        obtain ⟨bf, of, cf', ef', hcf1, hmf, hcellf⟩ := HFL.out.form (by omega)
        injection ef' with ef1 ef2 ef3
        subst ef1 ef3
        unfold maxLen at hmf
        have hbf := HVF.out bf rfl
        have hfd := (World.cell?_of_block (a := ⟨bf, of + k, none⟩) (HK.out.block bf hbf.1 hbf.2)).trans (hcellf k _ (ics_at fs k hlf))
        have hbfl : bf < wr.heap.size := by omega
        rw [show fs.getD k 0 = fs[k] from by simp [List.getD, List.getElem?_eq_getElem hlf]] at hy
        generalize fs[k] = f at hfd hy
        have hkf1 : (k : Int) < (nf : Int) := by omega
        clear hcellf ef2
        gi_wp2
        refine HR.out.mono ?_
        rintro e W3 (⟨rfl, hJ3, hk3⟩ | ⟨rfl, hJx3⟩)
        · have HJ3 := Lib.hid hJ3
          have HK3 := Lib.hid (HK1.out.trans hk3)
          clear hJ3 hk3 HR hy HJ HK p1 p2 p3 hc hcf hfd HJ1 HK1
          gi_wp2
          go_roundw
          case rel => exact ⟨k + 1, by omega, by go_num, HJ3, HK3⟩
          case measure => simp [intOf]; omega
        · have HJ3 := Lib.hid hJx3
          clear hJx3 HR hy HJ HK p1 p2 p3 hc hcf hfd HJ1 HK1
          gi_wp2
          refine bodyPost_ret (results_none rfl _ _ _) rfl ?_
          exact ⟨⟨_, rfl⟩, .inr ⟨_, List.take_prefix _ _, HJ3.out⟩⟩
      · have hlf : fs.length ≤ k := by rw [HF.out]; omega
        rw [show fs.getD k 0 = 0 from by simp [List.getD, List.getElem?_eq_none hlf]] at hy
        have hkf1 : ¬ (k : Int) < (nf : Int) := by omega
        gi_wp2
        refine HR.out.mono ?_
        rintro e W3 (⟨rfl, hJ3, hk3⟩ | ⟨rfl, hJx3⟩)
        · have HJ3 := Lib.hid hJ3
          have HK3 := Lib.hid (HK1.out.trans hk3)
          clear hJ3 hk3 HR hy HJ HK p1 p2 p3 hc hcf HJ1 HK1
          gi_wp2
          go_roundw
          case rel => exact ⟨k + 1, by omega, by go_num, HJ3, HK3⟩
          case measure => simp [intOf]; omega
        · have HJ3 := Lib.hid hJx3
          clear hJx3 HR hy HJ HK p1 p2 p3 hc hcf HJ1 HK1
          gi_wp2
          refine bodyPost_ret (results_none rfl _ _ _) rfl ?_
          exact ⟨⟨_, rfl⟩, .inr ⟨_, List.take_prefix _ _, HJ3.out⟩⟩
    · have HE := Lib.hid (show zs.take k = zs from List.take_of_length_le (by rw [HZL.out, HL.out]; omega))
      gi_wp2
      go_end0
      exact ⟨⟨_, rfl⟩, .inl ⟨_, rfl, by have h := HJ.out; rw [HE.out] at h; exact h⟩⟩

set_option maxHeartbeats 400000 in
theorem fates_in (n : Nat) (A Af : Option Addr) (m c mf cf : Nat) (w : World) :
    CallsIn Fence.wide n Tryz.prog 89 #[.slice A m c, .slice Af mf cf] w fun e w' => e = .returned (.func (.func 127) #[] #[.pointer (some ⟨w.heap.size, 0, none⟩), .pointer (some ⟨w.heap.size + 1, 0, none⟩)]) ∧ w' = (w.alloc (.cells #[.slice A m c] 37)).alloc (.cells #[.slice Af mf cf] 30) := by
  refine callsIn_of_wp Tryz.func89 rfl trivial ?_ rfl
  simp only [Tryz.ntmps89, List.size_toArray, List.length_cons, List.length_nil, Nat.reduceAdd, Nat.reduceSub, Array.replicate_succ, Array.replicate_zero, List.push_toArray, List.append_toArray, List.nil_append, List.cons_append]
  gi_wp2
  go_ret
  exact ⟨rfl, rfl⟩

theorem fates_stops (n : Nat) (hn : 1 ≤ n) (Bs Bf N : Nat) (S : Nat → Prop) (v vf : Value) (ls : List LateM) (fs : List Int) {Pr : LateM × Int → Prop} (zs : List { x : LateM × Int // Pr x }) (hz : zs.map (·.1) = pairs ls fs) (w : World) (hc : w.cell? ⟨Bs, 0, none⟩ = some v) (hBs : Bs < w.heap.size) (hsl : Sl w 3 v ls.length (lcs ls)) (hlow : Low w.heap.size v) (hlen : ls.length ≤ 1048576)
    (hN : Bs < N) (hS : ¬ S Bs) (hvN : ∀ b, v.ownBlock = some b → b < N ∧ ¬ S b)
    (hcf : w.cell? ⟨Bf, 0, none⟩ = some vf) (hBf : Bf < w.heap.size) (hfl : Sl w 1 vf fs.length (ics fs)) (hflow : Low w.heap.size vf) (hflen : fs.length ≤ 1048576) (hfN : Bf < N) (hfS : ¬ S Bf) (hvf : ∀ b, vf.ownBlock = some b → b < N ∧ ¬ S b) (hNw : N ≤ w.heap.size) :
    SeqStopsK Fence.wide n Tryz.prog 127 #[.pointer (some ⟨Bs, 0, none⟩), .pointer (some ⟨Bf, 0, none⟩)] (fun x : { x : LateM × Int // Pr x } => encFate x.1) (KeepB N S) (fun ys => ys = zs) (fun pre => pre <+: zs) ls.length w := fun l J Jx W hW hJ _ hY h0 =>
  fates1_in n hn l Bs Bf N S v vf ls fs zs hz J Jx (fun s X o hs => hJ s X _ none hs (World.grownBy_alloc X o none) (fun r e => by cases e)) hY W ((hW.cell (p := ⟨Bs, 0, none⟩) hBs).trans hc) (hsl.below hW hlow) hlen hN hS hvN ((hW.cell (p := ⟨Bf, 0, none⟩) hBf).trans hcf) (hfl.below hW hflow) hflen hfN hfS hvf (Nat.le_trans hNw hW.size) h0
end Go.Proofs.YtobjgdnmlibofaaGreat

/-
  The table read: spec's DdtRead.
-/
import Derived.Test.YtojjenclcidnkaaDoorDdtRM
import Derived.Test.YtojjenclcidnkaaDoorApp
set_option maxRecDepth 100000
namespace Go.Proofs.YtojjenclcidnkaaDoor
open Go.ChangeShapes Go.WideShapes Go.ChangeAt Go.RowKit Go.Proofs.Palim

/-- The answer of DdtRead. -/
def AnsE (w : World) (o : Option (List EntM)) (v : Value) (b : Bool) (w' : World) : Prop := match o with
  | some ls => b = true ∧ w'.ownsRow w.heap.size 33 3 v ls.length (ecs ls)
  | none => b = false ∧ v = .slice none 0 0
def RdPost (o : Option (List EntM)) (w : World) (e : Ending) (w' : World) : Prop :=
  (∃ v b, e = .returned (.tuple #[v, .bool b]) ∧ AnsE w o v b w') ∧ Below w.heap.size w w'
theorem rd_no {w w' : World} {o : Option (List EntM)} (ho : o = none) (hb : Below w.heap.size w w') : RdPost o w (.returned (.tuple #[.slice none 0 0, .bool false])) w' := by
  subst ho; exact ⟨⟨_, _, rfl, rfl, rfl⟩, hb⟩
theorem rd_yes {w w' : World} {o : Option (List EntM)} {ls : List EntM} {v : Value} (ho : o = some ls) (hv : w'.ownsRow w.heap.size 33 3 v ls.length (ecs ls)) (hb : Below w.heap.size w w') : RdPost o w (.returned (.tuple #[v, .bool true])) w' := by
  subst ho; exact ⟨⟨_, _, rfl, rfl, hv⟩, hb⟩
theorem sl_entR (w : World) (x : EntM) (t : Nat) : Sl (w.alloc (.cells #[.int .i64 x.sum, .int .i64 x.at_, .int .i64 x.count] t)) 3 (.slice (some ⟨w.heap.size, 0, none⟩) 1 1) 1 (ec x) :=
  ⟨rfl, some ⟨w.heap.size, 0, none⟩, 1, rfl, Nat.le_refl _, by unfold maxLen; omega, Or.inr ⟨w.heap.size, 0, rfl, fun j u hu => by
    have h := box_new w #[.int .i64 x.sum, .int .i64 x.at_, .int .i64 x.count] t
    rw [Nat.zero_add]
    exact h.cell j hu⟩⟩
theorem ec_oneR (x : EntM) : ∀ u ∈ ec x, u.oneCell' = true := by
  intro u hu
  simp [ec] at hu
  rcases hu with rfl | rfl | rfl <;> rfl

set_option maxHeartbeats 4000000 in
theorem specDdtRead_any (t : ByteArray) (o : Option (List EntM)) (w : World) (ht : t.size ≤ 1048576) (ho : RdE t o) :
    Calls Tryd.prog 4 #[.string t] w (RdPost o w) := by
  have hnot : ∀ (x : Bool) (w : World), (Op.unary .not (.bool x)).run Tryd.prog w = .ok (.bool (!x)) w := fun _ _ => rfl
  obtain ⟨i0, hi, hz0, hz1, hz2⟩ := info_parts infoEnt
  have HO := Lib.hid ho
  clear ho
  have B := Lib.hid (Below.new (w := w) (.cells #[] 33))
  have HB0 := Lib.hid (World.alloc_heap_new w (.cells #[] 33))
  have OW := Lib.hid (World.ownsRow_made w #[] 0 (Nat.le_refl _) (by unfold maxLen; omega) rfl : (w.alloc (.cells #[] 33)).ownsRow w.heap.size 33 3 (.slice (some ⟨w.heap.size, 0, none⟩) 0 0) 0 [])
  go_enter Tryd.func4, Tryd.ntmps4
  by_cases h1000 : t.size ≤ 1000
  case neg =>
    have HNO := Lib.hid (rdE_none HO.out (.inl h1000))
    have hq : (t.size : Int) > 1000 := by omega
    go_wp2
    refine bodyPost_ret (v := .tuple #[.slice none 0 0, .bool false]) (by simp [results, Tryd.results4, go_sem]) rfl (rd_no HNO.out B.out)
  have hq : ¬ (t.size : Int) > 1000 := by omega
  have H1000 := Lib.hid h1000
  go_wp2_with fail
  have hs0 : w.heap.size < (w.alloc (.cells #[] 33)).heap.size := by simp
  generalize w.alloc (.cells #[] 33) = W0 at B OW HB0 hs0 ⊢
  refine (l19Cut32_any t _ ht).mono ?_
  rintro e w1 ⟨v, ps, rfl, hps, hsl, hlow, hb, hlen, hz⟩
  have HPS := Lib.hid hps
  have HZ := Lib.hid hz
  have SL := Lib.hid hsl
  have LW := Lib.hid hlow
  have OW1 := Lib.hid (own_kept OW.out (w' := w1) (fun b e => hb.block b (OW.out.lt b e).2))
  have B1 := Lib.hid (B.out.trans (hb.mono B.out.size))
  have hsz1 : w.heap.size ≤ w1.heap.size := B1.out.size
  obtain ⟨n, HN⟩ : ∃ n, Hid (ps.length = n) := ⟨_, Lib.hid rfl⟩
  have hn1 : n ≤ 1001 := by have := HN.out; omega
  have HB1 := Lib.hid ((hb.block _ hs0).trans HB0.out)
  have HPB := Lib.hid (show ∀ b, v.ownBlock = some b → b ≠ w.heap.size ∧ b < w1.heap.size from fun b e => ⟨fun e2 => by
    subst e2
    by_cases hn0 : 0 < ps.length
    · obtain ⟨bb, off, c, rfl, -, -, hc⟩ := low_cell SL.out hn0
      have eb : bb = w.heap.size := by simpa [Value.ownBlock] using e
      subst eb
      have h1 := hc 0 hn0
      simp only [World.cell?, HB1.out] at h1
      simp at h1
    · have h1 := congrArg List.length HPS.out
      rw [List.length_map] at h1
      have h2 := List.length_pos_iff.2 (piecesC_ne 32 t.data.toList)
      rw [piecesC_32] at h2
      omega, LW.out b e⟩)
  obtain ⟨_, PA, pc, rfl, -, -, -⟩ := hsl
  rw [HN.out] at SL LW HPB ⊢
  clear hps hz hlow hb OW B hlen HB0 HB1 hs0 LW
  obtain ⟨ne, HNE⟩ : ∃ ne : Bool, Hid (decide (t ≠ ⟨#[]⟩) = ne) := ⟨_, Lib.hid rfl⟩
  have hcmp : (t.toList == []) = !ne := by
    rw [ByteArray.toList_eq, ← HNE.out]
    by_cases h : t = ⟨#[]⟩
    · subst h; simp
    · rw [decide_eq_true h]
      refine beq_eq_false_iff_ne.2 fun e => h ?_
      apply ByteArray.ext
      exact Array.ext' e
  go_wp2
  go_loopw [4, 6, 7, 8, 9, 10, 11, 12, 13] (fun l i _ _ _ _ _ _ _ wr => ∃ (k : Nat) (A : Option Addr) (c : Nat) (es : List EntM), k ≤ n ∧ (ne = false → k = 0) ∧ es.length = k ∧ l = .slice A k c ∧ i = .int .i64 k ∧ Hid (Below w.heap.size w wr) ∧ Hid (wr.ownsRow w.heap.size 33 3 (.slice A k c) k (ecs es)) ∧ Hid (∀ b, (Value.slice PA n pc).ownBlock = some b → wr.heap[b]? = w1.heap[b]?) ∧ w1.heap.size ≤ wr.heap.size ∧ Hid (∀ b, (Value.slice A k c).ownBlock = some b → b = w.heap.size ∨ w1.heap.size ≤ b) ∧ Hid (∀ ls, DSpells t ls → es = ls.take k)) (fun _ i _ _ _ _ _ _ _ _ => n - (RowKit.intOf i).toNat)
  case atStart => exact ⟨0, _, _, [], Nat.zero_le _, fun _ => rfl, rfl, rfl, rfl, B1, OW1, Lib.hid (fun _ _ => rfl), Nat.le_refl _, Lib.hid (fun b e => Or.inl (by simpa [Value.ownBlock] using e.symm)), Lib.hid (fun ls _ => by simp)⟩
  case round =>
    clear OW1 B1
    obtain ⟨k, A, c, es, hk, hk0, hel, rfl, rfl, B, OL, HPK, hsr, HBK, HE⟩ := hrel
    have SLr := Lib.hid (SL.out.kept (w' := wr) (fun b e => HPK.out b e))
    by_cases hgo : ne = true ∧ k < n
    case pos =>
      obtain ⟨rfl, hlt⟩ := hgo
      have hlk : k < ps.length := by rw [HN.out]; exact hlt
      obtain ⟨bb, off, c', hvv, hc1, hc2, hcell⟩ := low_cell SLr.out (by omega)
      injection hvv with e1 e2 e3
      subst e1 e3
      clear e2
      have g0 := hcell k hlk
      have hzk := HZ.out _ (List.getElem_mem hlk)
      have HG := Lib.hid (show ∀ ls, DSpells t ls → ∃ (h : k < ls.length), (ps[k]).data.toList = entL ls[k] ∧ EntOkM ls[k] from fun ls hl => by
        have hp := dspells_pieces hl (dspells_some hl (by have := HNE.out; simpa using this))
        rw [← HPS.out] at hp
        have hlen := congrArg List.length hp
        simp at hlen
        have hkl : k < ls.length := by omega
        refine ⟨hkl, ?_, dok_ents hl.1 _ (List.getElem_mem hkl)⟩
        have h1 := congrArg (fun l : List (List UInt8) => l[k]?) hp
        simp only [List.getElem?_map, List.getElem?_eq_getElem hlk, List.getElem?_eq_getElem hkl, Option.map_some] at h1
        exact Option.some.inj h1)
      obtain ⟨pk, HPQ⟩ : ∃ pk, Hid (ps[k] = pk) := ⟨_, Lib.hid rfl⟩
      rw [HPQ.out] at g0 hzk HG
      have hk1 : (k : Int) < (n : Int) := by omega
      clear hcell hc1 hc2
      go_wp2_with fail
      refine (l19Cut_any pk _ (by omega)).mono ?_
      rintro e w2 ⟨v7, qs, rfl, hqs, hsl7, hlow7, hb, hlen7, hz7⟩
      have HQS := Lib.hid hqs
      have HZ7 := Lib.hid hz7
      have B2 := Lib.hid (B.out.trans (hb.mono B.out.size))
      have OL2 := Lib.hid (own_kept OL.out (w' := w2) (fun b e => hb.block b (OL.out.lt b e).2))
      have HPK2 := Lib.hid (show ∀ b, (Value.slice (some ⟨bb, off, none⟩) n pc).ownBlock = some b → w2.heap[b]? = w1.heap[b]? from fun b e => (hb.block b (by have := (HPB.out b e).2; omega)).trans (HPK.out b e))
      have hsr2 : w1.heap.size ≤ w2.heap.size := Nat.le_trans hsr hb.size
      have hw2 : w.heap.size ≤ w2.heap.size := B2.out.size
      clear hb B OL HPK SLr g0 hqs hz7
      by_cases hl3 : qs.length = 3
      case neg =>
        have HNO := Lib.hid (rdE_none HO.out (.inr fun ls hl => hl3 (by
          obtain ⟨hkl, h1, h2⟩ := HG.out ls hl
          obtain ⟨a, b, c, _, _, _, _, hp⟩ := ent_pieces h2
          have h3 := HQS.out
          rw [h1, hp] at h3
          have := congrArg List.length h3
          simpa using this)))
        obtain ⟨_, A7, c7, rfl, _⟩ := hsl7
        have hl3i : ¬ (qs.length : Int) = 3 := by omega
        clear hlow7
        go_wp2
        refine bodyPost_ret (v := .tuple #[.slice none 0 0, .bool false]) (by simp [results, Tryd.results4, go_sem]) rfl (rd_no HNO.out B2.out)
      case pos =>
        obtain ⟨p0, p1, p2, rfl⟩ : ∃ p0 p1 p2, qs = [p0, p1, p2] := by
          match qs, hl3 with
          | [a, b, c], _ => exact ⟨a, b, c, rfl⟩
        obtain ⟨b7, o7, c7, rfl, hc1, hc2, hcell⟩ := low_cell hsl7 (by simp)
        have c0 := hcell 0 (by simp)
        have c1 := hcell 1 (by simp)
        have c2 := hcell 2 (by simp)
        have z0 : p0.size ≤ 1000000 := by have := HZ7.out p0 (by simp); have := H1000.out; omega
        have z1 : p1.size ≤ 1000000 := by have := HZ7.out p1 (by simp); have := H1000.out; omega
        have z2 : p2.size ≤ 1000000 := by have := HZ7.out p2 (by simp); have := H1000.out; omega
        simp only [List.getElem_cons_zero, List.getElem_cons_succ, Nat.add_zero] at c0 c1 c2
        simp only [List.length_cons, List.length_nil, Nat.zero_add, Nat.reduceAdd] at hc1 c0 c1 c2
        clear hcell hsl7 hl3 hlow7
        have HX := Lib.hid (show ∀ ls, DSpells t ls → ∃ (h : k < ls.length) (a b c : Nat), ls[k] = ⟨(a : Int), (b : Int), (c : Int)⟩ ∧ a < 100000000 ∧ b < 100000000 ∧ c < 100000000 ∧ p0.data.toList = Lib.decDigits a ∧ p1.data.toList = Lib.decDigits b ∧ p2.data.toList = Lib.decDigits c from fun ls hl => by
          obtain ⟨hkl, h1, h2⟩ := HG.out ls hl
          obtain ⟨a, b, c, he, ha, hb, hc, hp⟩ := ent_pieces h2
          have h3 := HQS.out
          rw [h1, hp] at h3
          simp at h3
          exact ⟨hkl, a, b, c, he, ha, hb, hc, h3.1, h3.2.1, h3.2.2⟩)
        clear HG HQS HZ7
        go_wp2_with fail
        refine (l19Num_any p0 _ z0).mono ?_
        rintro e w3 ⟨n0, b0, rfl, rfl, h0⟩
        go_wp2_with fail
        refine (l19Num_any p1 _ z1).mono ?_
        rintro e w3 ⟨n1', b1, rfl, rfl, h1⟩
        go_wp2_with fail
        refine (l19Num_any p2 _ z2).mono ?_
        rintro e w3 ⟨n2, b2, rfl, rfl, h2⟩
        have HE2 := Lib.hid (show ∀ ls, DSpells t ls → es ++ [(⟨n0, n1', n2⟩ : EntM)] = ls.take (k + 1) from fun ls hl => by
          obtain ⟨hkl, a, b, c, he, ha, hb, hc, e0, e1, e2⟩ := HX.out ls hl
          rw [List.take_succ_eq_append_getElem hkl, ← HE.out ls hl, he, (h0 a ha e0).1, (h1 b hb e1).1, (h2 c hc e2).1])
        have hn1a := Below.new1 (w := w2) (.cells #[.int .i64 n0, .int .i64 n1', .int .i64 n2] 33)
        have OL3 := Lib.hid (own_kept OL2.out (w' := w2.alloc (.cells #[.int .i64 n0, .int .i64 n1', .int .i64 n2] 33)) (fun b e => hn1a.block b (OL2.out.lt b e).2))
        have HS1 := Lib.hid (sl_entR w2 ⟨n0, n1', n2⟩ 33)
        have B3 := Lib.hid (B2.out.trans (hn1a.mono B2.out.size))
        have HPK3 := Lib.hid (show ∀ b, (Value.slice (some ⟨bb, off, none⟩) n pc).ownBlock = some b → (w2.alloc (.cells #[.int .i64 n0, .int .i64 n1', .int .i64 n2] 33)).heap[b]? = w1.heap[b]? from fun b e => (hn1a.block b (by have := (HPB.out b e).2; omega)).trans (HPK2.out b e))
        clear h0 h1 h2 HX HE c0 c1 c2 hn1a OL2 B2 HPK2
        go_wp2_with (first | (at_builtin; refine wpList_append_freshB _ rfl _ _ 22 rfl w.heap.size 33 i0 _ 3 24 Tryd.underlying22 hi hz0 hz1 hz2 rfl (by omega) (.slice A k c) k _ rfl OL3.out (.slice (some ⟨w2.heap.size, 0, none⟩) 1 1) 1 (ec ⟨n0, n1', n2⟩) rfl HS1.out (ec_oneR _) (by unfold maxLen; omega) (by omega) (by simp; omega) ?_))
        intro A1 cap1 w5 hown5 hg5 hloc
        have OL5 := Lib.hid (show w5.ownsRow w.heap.size 33 3 (.slice A1 (k + 1) cap1) (k + 1) (ecs (es ++ [⟨n0, n1', n2⟩])) from by rw [ecs_snoc]; exact hown5)
        have hgs := hg5.size
        have B5 := Lib.hid (B3.out.grown hg5 (by simp; omega) (fun b e => by rcases HBK.out b e with h | h <;> omega))
        have HPK5 := Lib.hid (show ∀ b, (Value.slice (some ⟨bb, off, none⟩) n pc).ownBlock = some b → w5.heap[b]? = w1.heap[b]? from fun b e => (hg5.block b (by have := (HPB.out b e).2; simp; omega) (fun e2 => by have h1 := (HPB.out b e).1; have h2 := (HPB.out b e).2; rcases HBK.out b e2.symm with h | h <;> omega)).trans (HPK3.out b e))
        have hsr5 : w1.heap.size ≤ w5.heap.size := by simp at hgs; omega
        have HBK5 := Lib.hid (show ∀ b, (Value.slice A1 (k + 1) cap1).ownBlock = some b → b = w.heap.size ∨ w1.heap.size ≤ b from fun b e => by
          rcases hloc with h | h
          · rw [h] at e; exact HBK.out b e
          · rw [h] at e; have := Option.some.inj e; first | omega | (simp at this; omega))
        clear hown5 hg5 hloc OL3 B3 HPK3 HS1 HBK hgs
        go_wp2
        go_roundw
        case rel => exact ⟨k + 1, A1, cap1, es ++ [⟨n0, n1', n2⟩], by omega, fun h => (by cases h), by simp [hel], rfl, by go_num, B5, OL5, HPK5, hsr5, HBK5, HE2⟩
        case measure => simp [RowKit.intOf]; omega
    case neg =>
      have HEA := Lib.hid (show ∀ ls, DSpells t ls → es = ls from fun ls hl => by
        rw [HE.out ls hl]
        refine List.take_of_length_le ?_
        by_cases h0 : t = ⟨#[]⟩
        · subst h0; rw [dspells_nil hl]; simp
        · have hne : ne = true := by rw [← HNE.out]; exact decide_eq_true h0
          have hp := dspells_pieces hl (dspells_some hl h0)
          rw [← HPS.out] at hp
          have hlen := congrArg List.length hp
          simp at hlen
          have : ¬ k < n := fun h => hgo ⟨hne, h⟩
          have := HN.out
          omega)
      have hlo := Lib.hid (low_of_own OL.out)
      have SLo := Lib.hid (show Sl wr 3 (.slice A k c) es.length (ecs es) from by rw [hel]; exact sl_of_own OL.out)
      have OLo := Lib.hid (show wr.ownsRow w.heap.size 33 3 (.slice A k c) es.length (ecs es) from by rw [hel]; exact OL.out)
      have hstop : ne = false ∨ (ne = true ∧ ¬ (k : Int) < (n : Int)) := by
        cases ne
        · exact .inl rfl
        · exact .inr ⟨rfl, fun h => hgo ⟨rfl, by omega⟩⟩
      clear hgo HE OL HPK SLr HBK hk0
      have hstop2 : (decide ((k : Int) < (n : Int)) && ne) = false := by
        rcases hstop with rfl | ⟨rfl, h⟩
        · simp
        · simp [h]
      rcases hstop with rfl | ⟨rfl, hkn⟩
      all_goals
        clear hstop2
        by_cases hok : DdtOkM es
        case neg =>
          have hor := decide_eq_false hok
          have HNO := Lib.hid (rdE_none HO.out (.inr fun ls hl => hok (by rw [HEA.out ls hl]; exact hl.1)))
          go_wp2_with fail
          refine (SpecDdtOk_is _ es _ _ SLo.out hlo.out hor).mono ?_
          rintro e w2 ⟨rfl, hb⟩
          have B2 := Lib.hid (B.out.trans (hb.mono B.out.size))
          clear hb hor hok
          go_wp2
          refine bodyPost_ret (v := .tuple #[.slice none 0 0, .bool false]) (by simp [results, Tryd.results4, go_sem]) rfl (rd_no HNO.out B2.out)
        case pos =>
          have hor := decide_eq_true hok
          obtain ⟨tp, HTP⟩ : ∃ tp, Hid (ddtText es = tp) := ⟨_, Lib.hid rfl⟩
          go_wp2_with fail
          refine (SpecDdtOk_is _ es _ _ SLo.out hlo.out hor).mono ?_
          rintro e w2 ⟨rfl, hb⟩
          have B2 := Lib.hid (B.out.trans (hb.mono B.out.size))
          have SL2 := Lib.hid (SLo.out.below hb hlo.out)
          have hlo2 := Lib.hid (fun b e => Nat.lt_of_lt_of_le (hlo.out b e) hb.size)
          have OL2 := Lib.hid (own_kept OLo.out (w' := w2) (fun b e => hb.block b (OLo.out.lt b e).2))
          clear hb hor B SLo OLo hlo
          go_wp2_with fail
          refine (SpecDdtText_is _ es tp _ SL2.out hlo2.out HTP.out).mono ?_
          rintro e w3 ⟨rfl, hb⟩
          have B3 := Lib.hid (B2.out.trans (hb.mono B2.out.size))
          have OL3 := Lib.hid (own_kept OL2.out (w' := w3) (fun b e => hb.block b (OL2.out.lt b e).2))
          clear hb B2 SL2 OL2 hlo2
          by_cases heq : tp = t
          · subst heq
            have HSO := Lib.hid (rdE_some HO.out H1000.out (show DSpells tp es from ⟨hok, HTP.out⟩))
            clear hok
            go_wp2
            refine bodyPost_ret (v := .tuple #[.slice A k c, .bool true]) (by simp [results, Tryd.results4, go_sem]) rfl (rd_yes HSO.out OL3.out B3.out)
          · have HNO := Lib.hid (rdE_none HO.out (.inr fun ls hl => heq (by rw [← HTP.out, HEA.out ls hl]; exact hl.2)))
            have hcmp2 := ne_text heq
            clear hok
            go_wp2
            refine bodyPost_ret (v := .tuple #[.slice none 0 0, .bool false]) (by simp [results, Tryd.results4, go_sem]) rfl (rd_no HNO.out B3.out)
end Go.Proofs.YtojjenclcidnkaaDoor

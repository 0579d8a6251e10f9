/-
  PoolSame, on both sides; the law, walked.
-/
import Derived.Test.YtobjgdnmlibofaaStore
import Derived.Test.YtobjgdnmlibofaaDiskSame2
import Derived.Test.YtobjgdnmlibofaaImDiskSame
import Derived.Test.YtobjgdnmlibofaaCoreSmS
import Derived.Test.YtobjgdnmlibofaaCoreSmI
set_option maxRecDepth 100000
namespace Go.Proofs.Ytobjgdnmlibofaa
open Go.ChangeShapes Go.WideShapes Go.ChangeAt Go.RowKit Go.Proofs.Palim

/-- Two stores are one. -/
noncomputable def sameP (p q : PoolM) : Bool := decide (p.up = q.up) && decide (SameM p.disk q.disk) && decide (p.core = q.core)
theorem specDSame_is (a0 a1 al b0 b1 bl : Value) (d f : DiskM) (r : Bool) (w : World) (h : DiskR w a0 a1 al d) (k : DiskR w b0 b1 bl f) (hs : DiskShort d) (ks : DiskShort f) (hr : decide (SameM d f) = r) :
    Calls Try.prog 11 #[.agg #[a0, a1, al], .agg #[b0, b1, bl]] w fun e w' => e = .returned (.bool r) ∧ Below w.heap.size w w' := hr ▸ DiskSame_any a0 a1 al b0 b1 bl d f w h k hs ks
theorem implDSame_is (a0 a1 al b0 b1 bl : Value) (d f : DiskM) (r : Bool) (w : World) (h : DiskR w a0 a1 al d) (k : DiskR w b0 b1 bl f) (hs : DiskShort d) (ks : DiskShort f) (hr : decide (SameM d f) = r) :
    Calls Try.prog 15 #[.agg #[a0, a1, al], .agg #[b0, b1, bl]] w fun e w' => e = .returned (.bool r) ∧ Below w.heap.size w w' := hr ▸ ImplDiskSame_any d f a0 a1 al b0 b1 bl w h k hs ks
theorem specCSame_is (vs vd vp vi us ud up ui : Value) (c d : CoreM) (r : Bool) (w : World) (h : CoreR w vs vd vp vi c) (k : CoreR w us ud up ui d) (hs : CoreShort c) (ks : CoreShort d) (hr : decide (c = d) = r) :
    Calls Try.prog 12 #[cv c vs vd vp vi, cv d us ud up ui] w fun e w' => e = .returned (.bool r) ∧ Below w.heap.size w w' := hr ▸ specSame_is vs vd vp vi us ud up ui c d w h k hs ks
theorem implCSame_is (vs vd vp vi us ud up ui : Value) (c d : CoreM) (r : Bool) (w : World) (h : CoreR w vs vd vp vi c) (k : CoreR w us ud up ui d) (hs : CoreShort c) (ks : CoreShort d) (hr : decide (c = d) = r) :
    Calls Try.prog 16 #[cv c vs vd vp vi, cv d us ud up ui] w fun e w' => e = .returned (.bool r) ∧ Below w.heap.size w w' := hr ▸ implSame_is vs vd vp vi us ud up ui c d w h k hs ks

set_option maxHeartbeats 4000000 in
theorem specPoolSame_is (v u : PV) (p q : PoolM) (r : Bool) (w : World) (h : PoolR w v p) (k : PoolR w u q) (hs : PoolShort p) (ks : PoolShort q) (hr : sameP p q = r) :
    Calls Try.prog 5 #[v.val p, u.val q] w fun e w' => e = .returned (.bool r) ∧ Below w.heap.size w w' := by
  have HS := Lib.hid hs
  have KS := Lib.hid ks
  obtain ⟨b1, b2, hsz, hB⟩ := box2 w #[v.v0, v.v1, v.vl, .int .i64 p.core.txg, v.vs, v.vd, v.vp, .bool p.core.dirty, v.vi, .int .i64 p.core.logn, .bool p.up] #[u.v0, u.v1, u.vl, .int .i64 q.core.txg, u.vs, u.vd, u.vp, .bool q.core.dirty, u.vi, .int .i64 q.core.logn, .bool q.up] 46 46
  have XA := Lib.hid (show PBox _ _ v p from ⟨b1, h.below hB⟩)
  have XB := Lib.hid (show PBox _ _ u q from ⟨b2, k.below hB⟩)
  have B0 := Lib.hid hB
  have HR := Lib.hid hr
  clear b1 b2 hB hsz h k hs ks hr
  go_enter Try.func5, Try.ntmps5
  go_upto_region 1 with fail
  obtain ⟨W, HWE⟩ : ∃ W, (w.alloc (.cells #[v.v0, v.v1, v.vl, .int .i64 p.core.txg, v.vs, v.vd, v.vp, .bool p.core.dirty, v.vi, .int .i64 p.core.logn, .bool p.up] 46)).alloc (.cells #[u.v0, u.v1, u.vl, .int .i64 q.core.txg, u.vs, u.vd, u.vp, .bool q.core.dirty, u.vi, .int .i64 q.core.logn, .bool q.up] 46) = W := ⟨_, rfl⟩
  rw [HWE] at XA XB B0 ⊢
  clear HWE
  have n10 := XA.out.box.cell 10 rfl
  have m10 := XB.out.box.cell 10 rfl
  obtain ⟨x, HX⟩ : ∃ x, Hid (p.up = x) := ⟨_, Lib.hid rfl⟩
  obtain ⟨y, HY⟩ : ∃ y, Hid (q.up = y) := ⟨_, Lib.hid rfl⟩
  rw [HX.out] at n10
  rw [HY.out] at m10
  cases x
  case false =>
    cases y
    case false =>
      have HE := Lib.hid (show (decide (SameM p.disk q.disk) && decide (p.core = q.core)) = r from by have h := HR.out; unfold sameP at h; rw [HX.out, HY.out] at h; simpa using h)
      clear HR
      go_wp2_with (first | (refine wpList_wanted (by rfl) fun _ hK => wp_load_cs _ rfl aggDiskI rfl v.dl rfl (PV.diskAt XA.out.box) (hK _ _ ?_)) | (refine wpList_wanted (by rfl) fun _ hK => wp_load_cs _ rfl aggDiskI rfl u.dl rfl (PV.diskAt XB.out.box) (hK _ _ ?_)))
      by_cases hd : SameM p.disk q.disk
      case neg =>
        have ho := decide_eq_false hd
        have HF := HE.out
        rw [ho, Bool.false_and] at HF
        subst HF
        clear HE
        refine (specDSame_is _ _ _ _ _ _ p.disk q.disk _ _ XA.out.reads.d XB.out.reads.d HS.out.d KS.out.d ho).mono ?_
        rintro e w1 ⟨rfl, hb⟩
        have YA := Lib.hid (XA.out.below hb)
        have YB := Lib.hid (XB.out.below hb)
        have B1 := Lib.hid (B0.out.trans (hb.mono B0.out.size))
        clear hb XA XB B0
        have XA := YA
        have XB := YB
        have B0 := B1
        clear YA YB B1
        clear hd ho
        go_wp2
        go_ret
        exact ⟨rfl, B0.out⟩
      case pos =>
      have ho := decide_eq_true hd
      have HF := HE.out
      rw [ho, Bool.true_and] at HF
      have HR := Lib.hid HF
      clear HE HF
      refine (specDSame_is _ _ _ _ _ _ p.disk q.disk _ _ XA.out.reads.d XB.out.reads.d HS.out.d KS.out.d ho).mono ?_
      rintro e w1 ⟨rfl, hb⟩
      have YA := Lib.hid (XA.out.below hb)
      have YB := Lib.hid (XB.out.below hb)
      have B1 := Lib.hid (B0.out.trans (hb.mono B0.out.size))
      clear hb XA XB B0
      have XA := YA
      have XB := YB
      have B0 := B1
      clear YA YB B1
      clear hd ho
      go_wp2_with (first | (refine wpList_wanted (by rfl) fun _ hK => wp_load_cs _ rfl aggCore rfl (v.kl p.core) rfl (PV.coreAt XA.out.box) (hK _ _ ?_)) | (refine wpList_wanted (by rfl) fun _ hK => wp_load_cs _ rfl aggCore rfl (u.kl q.core) rfl (PV.coreAt XB.out.box) (hK _ _ ?_)))
      refine (specCSame_is _ _ _ _ _ _ _ _ p.core q.core r _ XA.out.reads.c XB.out.reads.c HS.out.c KS.out.c HR.out).mono ?_
      rintro e w2 ⟨rfl, hb⟩
      have YA := Lib.hid (XA.out.below hb)
      have YB := Lib.hid (XB.out.below hb)
      have B1 := Lib.hid (B0.out.trans (hb.mono B0.out.size))
      clear hb XA XB B0
      have XA := YA
      have XB := YB
      have B0 := B1
      clear YA YB B1
      go_wp2
      go_ret
      exact ⟨rfl, B0.out⟩
    case true =>
      have HF := Lib.hid (show false = r from by have h := HR.out; unfold sameP at h; rw [HX.out, HY.out] at h; simpa using h)
      have HF2 := HF.out
      subst HF2
      clear HR HF
      go_wp2
      go_ret
      exact ⟨rfl, B0.out⟩
  case true =>
    cases y
    case false =>
      have HF := Lib.hid (show false = r from by have h := HR.out; unfold sameP at h; rw [HX.out, HY.out] at h; simpa using h)
      have HF2 := HF.out
      subst HF2
      clear HR HF
      go_wp2
      go_ret
      exact ⟨rfl, B0.out⟩
    case true =>
      have HE := Lib.hid (show (decide (SameM p.disk q.disk) && decide (p.core = q.core)) = r from by have h := HR.out; unfold sameP at h; rw [HX.out, HY.out] at h; simpa using h)
      clear HR
      go_wp2_with (first | (refine wpList_wanted (by rfl) fun _ hK => wp_load_cs _ rfl aggDiskI rfl v.dl rfl (PV.diskAt XA.out.box) (hK _ _ ?_)) | (refine wpList_wanted (by rfl) fun _ hK => wp_load_cs _ rfl aggDiskI rfl u.dl rfl (PV.diskAt XB.out.box) (hK _ _ ?_)))
      by_cases hd : SameM p.disk q.disk
      case neg =>
        have ho := decide_eq_false hd
        have HF := HE.out
        rw [ho, Bool.false_and] at HF
        subst HF
        clear HE
        refine (specDSame_is _ _ _ _ _ _ p.disk q.disk _ _ XA.out.reads.d XB.out.reads.d HS.out.d KS.out.d ho).mono ?_
        rintro e w1 ⟨rfl, hb⟩
        have YA := Lib.hid (XA.out.below hb)
        have YB := Lib.hid (XB.out.below hb)
        have B1 := Lib.hid (B0.out.trans (hb.mono B0.out.size))
        clear hb XA XB B0
        have XA := YA
        have XB := YB
        have B0 := B1
        clear YA YB B1
        clear hd ho
        go_wp2
        go_ret
        exact ⟨rfl, B0.out⟩
      case pos =>
      have ho := decide_eq_true hd
      have HF := HE.out
      rw [ho, Bool.true_and] at HF
      have HR := Lib.hid HF
      clear HE HF
      refine (specDSame_is _ _ _ _ _ _ p.disk q.disk _ _ XA.out.reads.d XB.out.reads.d HS.out.d KS.out.d ho).mono ?_
      rintro e w1 ⟨rfl, hb⟩
      have YA := Lib.hid (XA.out.below hb)
      have YB := Lib.hid (XB.out.below hb)
      have B1 := Lib.hid (B0.out.trans (hb.mono B0.out.size))
      clear hb XA XB B0
      have XA := YA
      have XB := YB
      have B0 := B1
      clear YA YB B1
      clear hd ho
      go_wp2_with (first | (refine wpList_wanted (by rfl) fun _ hK => wp_load_cs _ rfl aggCore rfl (v.kl p.core) rfl (PV.coreAt XA.out.box) (hK _ _ ?_)) | (refine wpList_wanted (by rfl) fun _ hK => wp_load_cs _ rfl aggCore rfl (u.kl q.core) rfl (PV.coreAt XB.out.box) (hK _ _ ?_)))
      refine (specCSame_is _ _ _ _ _ _ _ _ p.core q.core r _ XA.out.reads.c XB.out.reads.c HS.out.c KS.out.c HR.out).mono ?_
      rintro e w2 ⟨rfl, hb⟩
      have YA := Lib.hid (XA.out.below hb)
      have YB := Lib.hid (XB.out.below hb)
      have B1 := Lib.hid (B0.out.trans (hb.mono B0.out.size))
      clear hb XA XB B0
      have XA := YA
      have XB := YB
      have B0 := B1
      clear YA YB B1
      go_wp2
      go_ret
      exact ⟨rfl, B0.out⟩

set_option maxHeartbeats 4000000 in
theorem implPoolSame_is (v u : PV) (p q : PoolM) (r : Bool) (w : World) (h : PoolR w v p) (k : PoolR w u q) (hs : PoolShort p) (ks : PoolShort q) (hr : sameP p q = r) :
    Calls Try.prog 7 #[v.val p, u.val q] w fun e w' => e = .returned (.bool r) ∧ Below w.heap.size w w' := by
  have HS := Lib.hid hs
  have KS := Lib.hid ks
  obtain ⟨b1, b2, hsz, hB⟩ := box2 w #[v.v0, v.v1, v.vl, .int .i64 p.core.txg, v.vs, v.vd, v.vp, .bool p.core.dirty, v.vi, .int .i64 p.core.logn, .bool p.up] #[u.v0, u.v1, u.vl, .int .i64 q.core.txg, u.vs, u.vd, u.vp, .bool q.core.dirty, u.vi, .int .i64 q.core.logn, .bool q.up] 46 46
  have XA := Lib.hid (show PBox _ _ v p from ⟨b1, h.below hB⟩)
  have XB := Lib.hid (show PBox _ _ u q from ⟨b2, k.below hB⟩)
  have B0 := Lib.hid hB
  have HR := Lib.hid hr
  clear b1 b2 hB hsz h k hs ks hr
  go_enter Try.func7, Try.ntmps7
  go_upto_region 1 with fail
  obtain ⟨W, HWE⟩ : ∃ W, (w.alloc (.cells #[v.v0, v.v1, v.vl, .int .i64 p.core.txg, v.vs, v.vd, v.vp, .bool p.core.dirty, v.vi, .int .i64 p.core.logn, .bool p.up] 46)).alloc (.cells #[u.v0, u.v1, u.vl, .int .i64 q.core.txg, u.vs, u.vd, u.vp, .bool q.core.dirty, u.vi, .int .i64 q.core.logn, .bool q.up] 46) = W := ⟨_, rfl⟩
  rw [HWE] at XA XB B0 ⊢
  clear HWE
  have HE := Lib.hid (show (decide (SameM p.disk q.disk) && (decide (p.core = q.core) && decide (p.up = q.up))) = r from by have h := HR.out; unfold sameP at h; rw [← h]; cases decide (p.up = q.up) <;> cases decide (SameM p.disk q.disk) <;> cases decide (p.core = q.core) <;> rfl)
  clear HR
  go_wp2_with (first | (refine wpList_wanted (by rfl) fun _ hK => wp_load_cs _ rfl aggDiskI rfl v.dl rfl (PV.diskAt XA.out.box) (hK _ _ ?_)) | (refine wpList_wanted (by rfl) fun _ hK => wp_load_cs _ rfl aggDiskI rfl u.dl rfl (PV.diskAt XB.out.box) (hK _ _ ?_)))
  by_cases hd : SameM p.disk q.disk
  case neg =>
    have ho := decide_eq_false hd
    have HF := HE.out
    rw [ho, Bool.false_and] at HF
    subst HF
    clear HE
    refine (implDSame_is _ _ _ _ _ _ p.disk q.disk _ _ XA.out.reads.d XB.out.reads.d HS.out.d KS.out.d ho).mono ?_
    rintro e w1 ⟨rfl, hb⟩
    have YA := Lib.hid (XA.out.below hb)
    have YB := Lib.hid (XB.out.below hb)
    have B1 := Lib.hid (B0.out.trans (hb.mono B0.out.size))
    clear hb XA XB B0
    have XA := YA
    have XB := YB
    have B0 := B1
    clear YA YB B1
    clear hd ho
    go_wp2
    go_ret
    exact ⟨rfl, B0.out⟩
  case pos =>
  have ho := decide_eq_true hd
  have HF := HE.out
  rw [ho, Bool.true_and] at HF
  have HR := Lib.hid HF
  clear HE HF
  refine (implDSame_is _ _ _ _ _ _ p.disk q.disk _ _ XA.out.reads.d XB.out.reads.d HS.out.d KS.out.d ho).mono ?_
  rintro e w1 ⟨rfl, hb⟩
  have YA := Lib.hid (XA.out.below hb)
  have YB := Lib.hid (XB.out.below hb)
  have B1 := Lib.hid (B0.out.trans (hb.mono B0.out.size))
  clear hb XA XB B0
  have XA := YA
  have XB := YB
  have B0 := B1
  clear YA YB B1
  clear hd ho
  go_wp2_with (first | (refine wpList_wanted (by rfl) fun _ hK => wp_load_cs _ rfl aggCore rfl (v.kl p.core) rfl (PV.coreAt XA.out.box) (hK _ _ ?_)) | (refine wpList_wanted (by rfl) fun _ hK => wp_load_cs _ rfl aggCore rfl (u.kl q.core) rfl (PV.coreAt XB.out.box) (hK _ _ ?_)))
  by_cases hc : p.core = q.core
  case neg =>
    have ho := decide_eq_false hc
    have HF := HR.out
    rw [ho, Bool.false_and] at HF
    subst HF
    refine (implCSame_is _ _ _ _ _ _ _ _ p.core q.core _ _ XA.out.reads.c XB.out.reads.c HS.out.c KS.out.c ho).mono ?_
    rintro e w2 ⟨rfl, hb⟩
    have YA := Lib.hid (XA.out.below hb)
    have YB := Lib.hid (XB.out.below hb)
    have B1 := Lib.hid (B0.out.trans (hb.mono B0.out.size))
    clear hb XA XB B0
    have XA := YA
    have XB := YB
    have B0 := B1
    clear YA YB B1
    clear hc ho
    go_wp2
    go_ret
    exact ⟨rfl, B0.out⟩
  case pos =>
  have ho := decide_eq_true hc
  have HF := HR.out
  rw [ho, Bool.true_and] at HF
  have HQ := Lib.hid HF
  clear HR HF
  refine (implCSame_is _ _ _ _ _ _ _ _ p.core q.core _ _ XA.out.reads.c XB.out.reads.c HS.out.c KS.out.c ho).mono ?_
  rintro e w2 ⟨rfl, hb⟩
  have YA := Lib.hid (XA.out.below hb)
  have YB := Lib.hid (XB.out.below hb)
  have B1 := Lib.hid (B0.out.trans (hb.mono B0.out.size))
  clear hb XA XB B0
  have XA := YA
  have XB := YB
  have B0 := B1
  clear YA YB B1
  clear hc ho
  have n10 := XA.out.box.cell 10 rfl
  have m10 := XB.out.box.cell 10 rfl
  obtain ⟨x, HX⟩ : ∃ x, Hid (p.up = x) := ⟨_, Lib.hid rfl⟩
  obtain ⟨y, HY⟩ : ∃ y, Hid (q.up = y) := ⟨_, Lib.hid rfl⟩
  rw [HX.out] at n10
  rw [HY.out] at m10
  have HF := HQ.out
  rw [HX.out, HY.out] at HF
  clear HX HY HQ
  subst HF
  cases x <;> cases y
  all_goals
    go_wp2
    go_ret
    exact ⟨rfl, B0.out⟩

set_option maxHeartbeats 8000000 in
theorem lawPoolSame (v u : PV) (p q : PoolM) (w : World) (h : PoolR w v p) (k : PoolR w u q) (hz : PoolFits p) (kz : PoolFits q) :
    Calls Try.prog 3 #[v.val p, u.val q] w fun e w' => e = .returned (.bool true) ∧ Below w.heap.size w w' := by
  have hnot : ∀ (x : Bool) (w : World), (Op.unary .not (.bool x)).run Try.prog w = .ok (.bool (!x)) w := fun _ _ => rfl
  have HZ := Lib.hid hz
  have KZ := Lib.hid kz
  obtain ⟨ok, HOK⟩ : ∃ ok, Hid (sameP p q = ok) := ⟨_, Lib.hid rfl⟩
  obtain ⟨b1, b2, hsz, hB⟩ := box2 w #[v.v0, v.v1, v.vl, .int .i64 p.core.txg, v.vs, v.vd, v.vp, .bool p.core.dirty, v.vi, .int .i64 p.core.logn, .bool p.up] #[u.v0, u.v1, u.vl, .int .i64 q.core.txg, u.vs, u.vd, u.vp, .bool q.core.dirty, u.vi, .int .i64 q.core.logn, .bool q.up] 34 34
  have XA := Lib.hid (show PBox _ _ v p from ⟨b1, h.below hB⟩)
  have XC := Lib.hid (show PBox _ _ u q from ⟨b2, k.below hB⟩)
  have B0 := Lib.hid hB
  clear b1 b2 hB hsz h k hz kz
  go_enter Try.func3, Try.ntmps3
  go_upto_region 1 with fail
  obtain ⟨W, HWE⟩ : ∃ W, (w.alloc (.cells #[v.v0, v.v1, v.vl, .int .i64 p.core.txg, v.vs, v.vd, v.vp, .bool p.core.dirty, v.vi, .int .i64 p.core.logn, .bool p.up] 34)).alloc (.cells #[u.v0, u.v1, u.vl, .int .i64 q.core.txg, u.vs, u.vd, u.vp, .bool q.core.dirty, u.vi, .int .i64 q.core.logn, .bool q.up] 34) = W := ⟨_, rfl⟩
  rw [HWE] at XA XC B0 ⊢
  clear HWE
  go_wp2_with (refine wpList_load_box rfl _ rfl aggPoolL rfl (v.cells p) rfl XA.out.box ?_)
  refine (szPool_any v p 1048576 _ XA.out.reads HZ.out.z0 HZ.out.z1 HZ.out.zl (fun x hx => ⟨(HZ.out.c.s x hx).n, (HZ.out.c.s x hx).f⟩) (by omega) (by omega)).mono ?_
  rintro e w1 ⟨⟨rr, rfl, hr⟩, hb⟩
  have YXA := Lib.hid (XA.out.below hb)
  have YXC := Lib.hid (XC.out.below hb)
  have YB := Lib.hid (B0.out.trans (hb.mono B0.out.size))
  clear B0 hb XA XC
  have XA := YXA
  clear YXA
  have XC := YXC
  clear YXC
  have B0 := YB
  clear YB
  rcases hr with rfl | ⟨hr0, hr1, hr2⟩
  · go_wp2
    go_ret
    exact ⟨rfl, B0.out⟩
  have HS := Lib.hid hr2
  have g1 : ¬ rr < 0 := by omega
  clear hr2 HZ
  go_wp2_with (refine wpList_load_box rfl _ rfl aggPoolL rfl (u.cells q) rfl XC.out.box ?_)
  refine (szPool_any u q rr _ XC.out.reads KZ.out.z0 KZ.out.z1 KZ.out.zl (fun x hx => ⟨(KZ.out.c.s x hx).n, (KZ.out.c.s x hx).f⟩) (by omega) (by omega)).mono ?_
  rintro e w1b ⟨⟨ss, rfl, hr⟩, hb⟩
  have YXA := Lib.hid (XA.out.below hb)
  have YXC := Lib.hid (XC.out.below hb)
  have YB := Lib.hid (B0.out.trans (hb.mono B0.out.size))
  clear B0 hb XA XC
  have XA := YXA
  clear YXA
  have XC := YXC
  clear YXC
  have B0 := YB
  clear YB
  clear hr0 hr1
  rcases hr with rfl | ⟨hr0, hr1, hr2⟩
  · go_wp2
    go_ret
    exact ⟨rfl, B0.out⟩
  have KS := Lib.hid hr2
  have g2 : ¬ ss < 0 := by omega
  clear hr1 hr2 hr0 KZ
  go_wp2_with fail
  refine wp_region_held_drew (S := fun w' => Box w' w.heap.size (v.cells p) ∧ Box w' (w.heap.size + 1) (u.cells q)) (by kernel_rfl) ⟨XA.out.box, XC.out.box⟩ (fun hHeld => ?_)
  refine wpAnyH_take (i := 0) (v := .agg (v.cells p).toArray) rfl (by kernel_rfl) (by kernel_rfl) (by kernel_rfl) (fun _ _ _ h => h) (Or.inl ⟨by first | kernel_rfl | rfl, fun w' hSw => exec_load_cs _ rfl aggPoolL rfl (v.cells p) rfl hSw.1.cells⟩) (by assumption) ?_
  try simp only [Act.put]
  refine wpAnyH_take (i := 2) (v := .agg (u.cells q).toArray) rfl (by kernel_rfl) (by kernel_rfl) (by kernel_rfl) (fun _ _ _ h => h) (Or.inl ⟨by first | kernel_rfl | rfl, fun w' hSw => exec_load_cs _ rfl aggPoolL rfl (u.cells q) rfl hSw.2.cells⟩) (by assumption) ?_
  try simp only [Act.put]
  refine wpAnyH_ready (rs := [1]) (by kernel_rfl) (by simp) ?_
  refine AllReadyH.cons rfl (fun K hK => ?_) AllReadyH.nil
  go_simp
  go_at_call 6
  refine (toPool_any v p _ XA.out.drew.reads HS.out).mono ?_
  rintro e w3 ⟨vT, rfl, hT, hb3⟩
  go_wp2_with fail
  refine hK.out _ _ ⟨(XA.out.drew.below hb3).box, (XC.out.drew.below hb3).box⟩ (fun hHeld2 => ?_)
  clear hK K
  try simp only [Act.put]
  refine wpAnyH_ready (rs := [3]) (by kernel_rfl) (by simp) ?_
  refine AllReadyH.cons rfl (fun K hK => ?_) AllReadyH.nil
  go_simp
  go_at_call 6
  refine (toPool_any u q _ (XC.out.drew.below hb3).reads KS.out).mono ?_
  rintro e w4 ⟨vU, rfl, hU, hb4⟩
  go_wp2_with fail
  refine hK.out _ _ ⟨((XA.out.drew.below hb3).below hb4).box, ((XC.out.drew.below hb3).below hb4).box⟩ (fun hHeld3 => ?_)
  clear hK K
  try simp only [Act.put]
  refine wpAnyH_ready (rs := [4]) (by kernel_rfl) (by simp) ?_
  refine AllReadyH.cons rfl (fun K hK => ?_) AllReadyH.nil
  go_simp
  go_at_call 5
  refine (specPoolSame_is vT vU p q ok _ (hT.below hb4).reads hU.reads HS.out KS.out HOK.out).mono ?_
  rintro e w5 ⟨rfl, hb5⟩
  go_wp2_with fail
  refine hK.out _ _ ⟨(((XA.out.drew.below hb3).below hb4).below hb5).box, (((XC.out.drew.below hb3).below hb4).below hb5).box⟩ (fun hHeld4 => ?_)
  clear hK K
  try simp only [Act.put]
  refine wpAnyH_take (i := 5) (v := ?_) rfl (by kernel_rfl) (by kernel_rfl) (by kernel_rfl) (fun _ _ _ h => h) (Or.inl ⟨by first | kernel_rfl | rfl, ?_⟩) (by assumption) ?_
  rotate_left
  · (intro w' hSw; clear hSw; go_simp; try with_reducible rfl)
  try simp only [Act.put]
  refine wpAnyH_done (by kernel_rfl) ?_ _
  go_simp
  clear hHeld hHeld2 hHeld3 hHeld4
  have hb := (((below_drewB w1b).trans hb3).trans (hb4.mono hb3.size)).trans (hb5.mono (Nat.le_trans hb3.size hb4.size))
  clear hb3 hb4 hb5 hT hU
  have YXA := Lib.hid (XA.out.below hb)
  have YXC := Lib.hid (XC.out.below hb)
  have YB := Lib.hid (B0.out.trans (hb.mono B0.out.size))
  clear B0 hb XA XC
  have XA := YXA
  clear YXA
  have XC := YXC
  clear YXC
  have B0 := YB
  clear YB
  go_wp2_with (refine wpList_load_box rfl _ rfl aggPoolL rfl (v.cells p) rfl XA.out.box ?_)
  refine (toPool_any v p _ XA.out.reads HS.out).mono ?_
  rintro e w6 ⟨vX, rfl, hown, hb⟩
  have OXX := Lib.hid hown
  clear hown
  have YXA := Lib.hid (XA.out.below hb)
  have YXC := Lib.hid (XC.out.below hb)
  have YB := Lib.hid (B0.out.trans (hb.mono B0.out.size))
  clear B0 hb XA XC
  have XA := YXA
  clear YXA
  have XC := YXC
  clear YXC
  have B0 := YB
  clear YB
  go_wp2_with (refine wpList_put_mid rfl _ _ rfl rfl aggPool rfl (vX.cells p) rfl rfl OXX.out.reads.one (box_new _ _ _) [] [.slice none 0 0, .slice none 0 0, .slice none 0 0, .int .i64 0, .slice none 0 0, .slice none 0 0, .slice none 0 0, .bool false, .slice none 0 0, .int .i64 0, .bool false] [] (vX.cells p) rfl rfl rfl rfl ?_)
  intro w6n P1 Z1
  have hb := putAt_new P1
  have XX := Lib.hid (show PBox w6n _ vX p from ⟨Z1, OXX.out.reads.below hb⟩)
  clear P1 Z1 OXX
  have YXA := Lib.hid (XA.out.below hb)
  have YXC := Lib.hid (XC.out.below hb)
  have YB := Lib.hid (B0.out.trans (hb.mono B0.out.size))
  clear B0 hb XA XC
  have XA := YXA
  clear YXA
  have XC := YXC
  clear YXC
  have B0 := YB
  clear YB
  go_wp2_with (refine wpList_load_box rfl _ rfl aggPoolL rfl (u.cells q) rfl XC.out.box ?_)
  refine (toPool_any u q _ XC.out.reads KS.out).mono ?_
  rintro e w8 ⟨vY, rfl, hown, hb⟩
  have OXY := Lib.hid hown
  clear hown
  have YXA := Lib.hid (XA.out.below hb)
  have YXC := Lib.hid (XC.out.below hb)
  have YXX := Lib.hid (XX.out.below hb)
  have YB := Lib.hid (B0.out.trans (hb.mono B0.out.size))
  clear B0 hb XA XC XX
  have XA := YXA
  clear YXA
  have XC := YXC
  clear YXC
  have XX := YXX
  clear YXX
  have B0 := YB
  clear YB
  go_wp2_with (refine wpList_put_mid rfl _ _ rfl rfl aggPool rfl (vY.cells q) rfl rfl OXY.out.reads.one (box_new _ _ _) [] [.slice none 0 0, .slice none 0 0, .slice none 0 0, .int .i64 0, .slice none 0 0, .slice none 0 0, .slice none 0 0, .bool false, .slice none 0 0, .int .i64 0, .bool false] [] (vY.cells q) rfl rfl rfl rfl ?_)
  intro w8n P1 Z1
  have hb := putAt_new P1
  have XY := Lib.hid (show PBox w8n _ vY q from ⟨Z1, OXY.out.reads.below hb⟩)
  clear P1 Z1 OXY
  have YXA := Lib.hid (XA.out.below hb)
  have YXC := Lib.hid (XC.out.below hb)
  have YXX := Lib.hid (XX.out.below hb)
  have YB := Lib.hid (B0.out.trans (hb.mono B0.out.size))
  clear B0 hb XA XC XX
  have XA := YXA
  clear YXA
  have XC := YXC
  clear YXC
  have XX := YXX
  clear YXX
  have B0 := YB
  clear YB
  go_wp2_with (first | (refine wpList_load_box rfl _ rfl aggPool rfl (vX.cells p) rfl XX.out.box ?_) | (refine wpList_load_box rfl _ rfl aggPool rfl (vY.cells q) rfl XY.out.box ?_))
  refine (implPoolSame_is vX vY p q ok _ XX.out.reads XY.out.reads HS.out KS.out HOK.out).mono ?_
  rintro e w10 ⟨rfl, hb⟩
  have YXA := Lib.hid (XA.out.below hb)
  have YXC := Lib.hid (XC.out.below hb)
  have YXX := Lib.hid (XX.out.below hb)
  have YXY := Lib.hid (XY.out.below hb)
  have YB := Lib.hid (B0.out.trans (hb.mono B0.out.size))
  clear B0 hb XA XC XX XY
  have XA := YXA
  clear YXA
  have XC := YXC
  clear YXC
  have XX := YXX
  clear YXX
  have XY := YXY
  clear YXY
  have B0 := YB
  clear YB
  clear HOK
  go_wp2_with fail
  refine wp_region_held_drew (S := fun w' => Box w' w6.heap.size (vX.cells p) ∧ Box w' w.heap.size (v.cells p)) (by kernel_rfl) ⟨XX.out.box, XA.out.box⟩ (fun hHeld => ?_)
  refine wpAnyH_take (i := 0) (v := .agg (vX.cells p).toArray) rfl (by kernel_rfl) (by kernel_rfl) (by kernel_rfl) (fun _ _ _ h => h) (Or.inl ⟨by first | kernel_rfl | rfl, fun w' hSw => exec_load_cs _ rfl aggPool rfl (vX.cells p) rfl hSw.1.cells⟩) (by assumption) ?_
  try simp only [Act.put]
  refine wpAnyH_take (i := 1) (v := .agg (v.cells p).toArray) rfl (by kernel_rfl) (by kernel_rfl) (by kernel_rfl) (fun _ _ _ h => h) (Or.inl ⟨by first | kernel_rfl | rfl, fun w' hSw => exec_load_cs _ rfl aggPoolL rfl (v.cells p) rfl hSw.2.cells⟩) (by assumption) ?_
  try simp only [Act.put]
  refine wpAnyH_ready (rs := [2]) (by kernel_rfl) (by simp) ?_
  refine AllReadyH.cons rfl (fun K hK => ?_) AllReadyH.nil
  go_simp
  go_at_call 6
  refine (toPool_any v p _ XA.out.drew.reads HS.out).mono ?_
  rintro e w11a ⟨vT, rfl, hT, hb3⟩
  go_wp2_with fail
  refine hK.out _ _ ⟨(XX.out.drew.below hb3).box, (XA.out.drew.below hb3).box⟩ (fun hHeld2 => ?_)
  clear hK K
  try simp only [Act.put]
  refine wpAnyH_ready (rs := [3]) (by kernel_rfl) (by simp) ?_
  refine AllReadyH.cons rfl (fun K hK => ?_) AllReadyH.nil
  go_simp
  go_at_call 8
  refine (eqPool_same vX vT p _ (XX.out.drew.below hb3).reads hT.reads HS.out).mono ?_
  rintro e w11b ⟨rfl, hb4⟩
  go_wp2_with fail
  refine hK.out _ _ ⟨((XX.out.drew.below hb3).below hb4).box, ((XA.out.drew.below hb3).below hb4).box⟩ (fun hHeld3 => ?_)
  clear hK K
  try simp only [Act.put]
  refine wpAnyH_take (i := 4) (v := ?_) rfl (by kernel_rfl) (by kernel_rfl) (by kernel_rfl) (fun _ _ _ h => h) (Or.inl ⟨by first | kernel_rfl | rfl, ?_⟩) (by assumption) ?_
  rotate_left
  · (intro w' hSw; clear hSw; go_simp; try with_reducible rfl)
  try simp only [Act.put]
  refine wpAnyH_done (by kernel_rfl) ?_ _
  go_simp
  clear hHeld hHeld2 hHeld3
  have hb := ((below_drewB w10).trans hb3).trans (hb4.mono hb3.size)
  clear hb3 hb4 hT
  have YXA := Lib.hid (XA.out.below hb)
  have YXC := Lib.hid (XC.out.below hb)
  have YXX := Lib.hid (XX.out.below hb)
  have YXY := Lib.hid (XY.out.below hb)
  have YB := Lib.hid (B0.out.trans (hb.mono B0.out.size))
  clear B0 hb XA XC XX XY
  have XA := YXA
  clear YXA
  have XC := YXC
  clear YXC
  have XX := YXX
  clear YXX
  have XY := YXY
  clear YXY
  have B0 := YB
  clear YB
  go_wp2_with fail
  refine wp_region_held_drew (S := fun w' => Box w' w8.heap.size (vY.cells q) ∧ Box w' (w.heap.size + 1) (u.cells q)) (by kernel_rfl) ⟨XY.out.box, XC.out.box⟩ (fun hHeld => ?_)
  refine wpAnyH_take (i := 0) (v := .agg (vY.cells q).toArray) rfl (by kernel_rfl) (by kernel_rfl) (by kernel_rfl) (fun _ _ _ h => h) (Or.inl ⟨by first | kernel_rfl | rfl, fun w' hSw => exec_load_cs _ rfl aggPool rfl (vY.cells q) rfl hSw.1.cells⟩) (by assumption) ?_
  try simp only [Act.put]
  refine wpAnyH_take (i := 1) (v := .agg (u.cells q).toArray) rfl (by kernel_rfl) (by kernel_rfl) (by kernel_rfl) (fun _ _ _ h => h) (Or.inl ⟨by first | kernel_rfl | rfl, fun w' hSw => exec_load_cs _ rfl aggPoolL rfl (u.cells q) rfl hSw.2.cells⟩) (by assumption) ?_
  try simp only [Act.put]
  refine wpAnyH_ready (rs := [2]) (by kernel_rfl) (by simp) ?_
  refine AllReadyH.cons rfl (fun K hK => ?_) AllReadyH.nil
  go_simp
  go_at_call 6
  refine (toPool_any u q _ XC.out.drew.reads KS.out).mono ?_
  rintro e w12a ⟨vT, rfl, hT, hb3⟩
  go_wp2_with fail
  refine hK.out _ _ ⟨(XY.out.drew.below hb3).box, (XC.out.drew.below hb3).box⟩ (fun hHeld2 => ?_)
  clear hK K
  try simp only [Act.put]
  refine wpAnyH_ready (rs := [3]) (by kernel_rfl) (by simp) ?_
  refine AllReadyH.cons rfl (fun K hK => ?_) AllReadyH.nil
  go_simp
  go_at_call 8
  refine (eqPool_same vY vT q _ (XY.out.drew.below hb3).reads hT.reads KS.out).mono ?_
  rintro e w12b ⟨rfl, hb4⟩
  go_wp2_with fail
  refine hK.out _ _ ⟨((XY.out.drew.below hb3).below hb4).box, ((XC.out.drew.below hb3).below hb4).box⟩ (fun hHeld3 => ?_)
  clear hK K
  try simp only [Act.put]
  refine wpAnyH_take (i := 4) (v := ?_) rfl (by kernel_rfl) (by kernel_rfl) (by kernel_rfl) (fun _ _ _ h => h) (Or.inl ⟨by first | kernel_rfl | rfl, ?_⟩) (by assumption) ?_
  rotate_left
  · (intro w' hSw; clear hSw; go_simp; try with_reducible rfl)
  try simp only [Act.put]
  refine wpAnyH_done (by kernel_rfl) ?_ _
  go_simp
  clear hHeld hHeld2 hHeld3
  have hb := ((below_drewB w11b).trans hb3).trans (hb4.mono hb3.size)
  clear hb3 hb4 hT
  have YXA := Lib.hid (XA.out.below hb)
  have YXC := Lib.hid (XC.out.below hb)
  have YXX := Lib.hid (XX.out.below hb)
  have YXY := Lib.hid (XY.out.below hb)
  have YB := Lib.hid (B0.out.trans (hb.mono B0.out.size))
  clear B0 hb XA XC XX XY
  have XA := YXA
  clear YXA
  have XC := YXC
  clear YXC
  have XX := YXX
  clear YXX
  have XY := YXY
  clear YXY
  have B0 := YB
  clear YB
  go_wp2
  go_ret
  exact ⟨rfl, B0.out⟩
end Go.Proofs.Ytobjgdnmlibofaa

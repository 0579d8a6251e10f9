/-
  Loops over an iterator that keeps its rest in a cell of its own (strings.SplitSeq): what is asked of the iterator, and the loop's walk.
-/
import Derived.RangeFuncWrites
import Derived.RangeFuncBox
set_option maxRecDepth 100000
namespace Go.Proofs.YtojjenclcidnkaaDoor
open Go.RowKit

/-- It abides what grows, and the turn of the one block C. -/
def AbidesC {β : Type} (C : Nat) (J : β → World → Prop) : Prop :=
  ∀ s X X' row, J s X → X.grownBy X' row → (∀ r, row = some r → r = C) → J s X'
theorem AbidesC.below {β : Type} {C : Nat} {J : β → World → Prop} (h : AbidesC C J) {s : β} {X X' : World} (hs : J s X) (hb : Below X.heap.size X X') : J s X' :=
  h s X X' none hs ⟨hb.os, hb.tape, hb.output, hb.size, fun i hi _ => hb.block i hi⟩ (fun r e => by cases e)
theorem AbidesC.set {β : Type} {C : Nat} {J : β → World → Prop} (h : AbidesC C J) {s : β} {X : World} (hs : J s X) (v : Value) : J s (X.setCell ⟨C, 0, none⟩ v) :=
  h s X _ (some C) hs (grownBy_setCell' X C v) (fun r e => by cases e; rfl)
theorem AbidesC.and {β : Type} {C : Nat} {J K : β → World → Prop} (h : AbidesC C J) (k : AbidesC C K) : AbidesC C (fun s W => J s W ∧ K s W) :=
  fun s X X' row hs hg hr => ⟨h s X X' row hs.1 hg hr, k s X X' row hs.2 hg hr⟩
/-- A block beside C lies as it lay. -/
theorem abides_block {β : Type} {C k : Nat} (hk : k ≠ C) (o : Obj) : AbidesC C (fun (_ : β) W => W.heap[k]? = some o) :=
  fun s X X' row hs hg hr => (hg.block k (Array.getElem?_eq_some_iff.1 hs).1 (fun e => hk (hr k e.symm))).trans hs

/-- What is asked of such an iterator: it hands out in order, to whatever body keeps what it keeps. -/
def SeqStopsC {α : Type} (F : Fence) (n : Nat) (P : Program) (g : Nat) (lb : Array Value) (encs : α → Array Value) (Kp : World → World → Prop) (S Sp : List α → Prop) (N C : Nat) (w : World) : Prop :=
  ∀ (l : Nat) (J Jx : List α → World → Prop) (W : World), Below w.heap.size w W → AbidesC C J → AbidesC C Jx →
    (∀ pre x X, J pre X → pre.length < N → YieldAt F (n - 1) P l (encs x) X fun e X' => (e = .returned (.bool true) ∧ J (pre ++ [x]) X' ∧ Kp X X') ∨ (e = .returned (.bool false) ∧ Jx (pre ++ [x]) X')) →
    J [] W →
    CallsIn F n P g (#[.func (.yield l) #[] #[]] ++ lb) W fun e W' => (∃ v, e = .returned v) ∧ ((∃ xs, S xs ∧ J xs W') ∨ ∃ pre, Sp pre ∧ Jx pre W')

variable {F : Fence} {n : Nat} {P : Program}

/-- The jump that an exit of a body leaves behind. -/
def jumpOf : Exit → Option (Option Code)
  | .normal => some none
  | .ret => some (some .ret)
  | .exit id => some (some (.exit id))
  | .goto t => some (some (.goto t))
  | .panic _ => none
  | .outgrown => none
theorem roundPost_jump {l : Nat} {R : Ending → World → Prop} {e : Exit} {j : Option Code} (a : Act) {W : World} (he : jumpOf e = some j) {r : Loop} (hl : W.heap[l]? = some (.loop r)) (h : R (.returned (.bool j.isNone)) (W.putObj l (.loop { r with state := if j.isNone then .ready else .done, pending := j }))) : roundPost P l R e a W := by
  cases e <;> simp only [jumpOf, Option.some.injEq, reduceCtorEq] at he <;> subst he <;> exact ⟨_, _, run_endRound _ hl, h⟩

/-- One round, where the record is ready. -/
theorem round_ready {l D : Nat} (hDl : D < l) {r : Loop} (hst : r.state = .ready) (hfn : F.fn r.fn) {args : Array Value} (hsz : args.size = r.params.size) {W : World} (hl : W.heap[l]? = some (.loop r)) (hk : W.heap[D]? = some (.deferred (some []))) {R : Ending → World → Prop} (a₁ : Act)
    (ha : ∀ K : Act → World → Prop, K a₁ W → r.assign.wpIn (F.inRound l) n P (Exit.then K (fun _ _ _ => False)) { tmps := (r.params.zip args).foldl (fun t (p, v) => t.setIfInBounds p v) r.tmps, defers := [] } W)
    (hb : r.body.wpIn (F.inRound l) n P (fun e _ W3 => ∃ j, jumpOf e = some j ∧ KeepsFrom D (W.putObj l (.loop { r with state := .busy })) W3 ∧
      ∀ W4, W4 = W3.putObj l (.loop { r with state := if j.isNone then .ready else .done, pending := j }) → W3.heap[l]? = some (.loop { r with state := .busy }) →
        W4.heap[l]? = some (.loop { r with state := if j.isNone then .ready else .done, pending := j }) → W4.heap[D]? = some (.deferred (some [])) → R (.returned (.bool j.isNone)) W4) a₁ (W.putObj l (.loop { r with state := .busy }))) :
    YieldAt F n P l args W R := by
  have hlt : l < W.heap.size := (Array.getElem?_eq_some_iff.1 hl).1
  have hl2 : (W.putObj l (.loop { r with state := .busy })).heap[l]? = some (.loop { r with state := .busy }) := World.putObj_heap_same hlt
  have hk2 : (W.putObj l (.loop { r with state := .busy })).heap[D]? = some (.deferred (some [])) := (World.putObj_heap_other (by omega)).trans hk
  refine ⟨r.fn, _, r.assign, r.body, run_yield hl hsz, roundIn_of_wpIn hfn (ha _ ⟨_, run_beginRound hl hst, wpIn_mono hb ?_⟩)⟩
  rintro e a3 W3 ⟨j, he, hkeep, hR⟩
  have hl3 := hkeep.same l _ (by omega) hl2 rfl
  have hk3 := hkeep.same D _ (Nat.le_refl _) hk2 rfl
  exact roundPost_jump a3 he hl3 (hR _ rfl hl3 (World.putObj_heap_same (Array.getElem?_eq_some_iff.1 hl3).1) ((World.putObj_heap_other (by omega)).trans hk3))

/-- The loop, walked: the body is walked once, from the caller's own invariant. -/
theorem wpIn_rangeFunc_cell {α : Type} {g : Operand} {ps : Array Tmp} {assign body : Code} {Q : Exit → Act → World → Prop} {a : Act} {w : World}
    (hro : F.round = none) (h1 : 1 ≤ n) {gf : Nat} {lb : Array Value} (hg : a.eval g = .func (.func gf) #[] lb) (hFg : F.fn gf) (eg : ∀ args w, (callFunc gf args).run P w = .ok (.enter gf args) w)
    {encs : α → Array Value} {Kp : World → World → Prop} {S Sp : List α → Prop} {N C : Nat} (hseq : SeqStopsC F (n - 1) P gf lb encs Kp S Sp N C w) (hC : C < w.heap.size)
    (hKt : ∀ {A B C : World}, Kp A B → Kp B C → Kp A C) (hKb : ∀ (W : World) (l : Nat) (o o' : Obj), w.heap.size ≤ l → W.heap[l]? = some o → o.isCells = false → o.isWalk = false → Kp W (W.putObj l o')) (hps : ∀ x, (encs x).size = ps.size)
    (I : List α → World → Prop) (Ix : Code → List α → World → Prop) (hI : OwnFrom w.heap.size I) (hIc : AbidesC C I) (hIx : ∀ c, OwnFrom w.heap.size (Ix c)) (hIxc : ∀ c, AbidesC C (Ix c)) (h0 : I [] w) (a₁ : α → Act)
    (hassign : ∀ (l : Nat) (x : α) (W : World) (K : Act → World → Prop), K (a₁ x) W → assign.wpIn (F.inRound l) (n - 1 - 1) P (Exit.then K (fun _ _ _ => False)) { tmps := (ps.zip (encs x)).foldl (fun t (p, v) => t.setIfInBounds p v) a.tmps, defers := [] } W)
    (hbody : ∀ (l : Nat) (pre : List α) (x : α) (W : World), I pre W → pre.length < N → body.wpIn (F.inRound l) (n - 1 - 1) P (ownPostG w.heap.size Kp I Ix (pre ++ [x]) W) (a₁ x) W)
    (hdone : ∀ (D : Nat) (xs : List α) (W : World), w.heap.size ≤ D → S xs → I xs W → W.heap[D]? = some (.deferred (some [])) → Q .normal { a with defers := { target := .collected D, args := #[] } :: a.defers } W)
    (hstop : ∀ (D : Nat) (c : Code) (pre : List α) (W : World), w.heap.size ≤ D → Sp pre → Ix c pre W → W.heap[D]? = some (.deferred (some [])) → c.wpIn F n P Q { a with defers := { target := .collected D, args := #[] } :: a.defers } W) :
    (Code.rangeFunc g ps assign body).wpIn F n P Q a w := by
  refine wpIn_rangeFunc fun fn hfn => ?_
  rw [hro]
  obtain ⟨D, hD⟩ : ∃ D, w.heap.size = D := ⟨_, rfl⟩
  obtain ⟨r, hr⟩ : ∃ r : Loop, r = { state := .ready, pending := none, fn, tmps := a.tmps, params := ps, assign, body, defers := D } := ⟨_, rfl⟩
  obtain ⟨W1, hW1⟩ : ∃ W1, (w.alloc (.deferred (some []))).alloc (.loop r) = W1 := ⟨_, rfl⟩
  have hent := run_enterLoop_outer (P := P) (w := w) fn a.tmps ps assign body
  rw [hD, ← hr, hW1] at hent
  have hL1 : W1.heap[D + 1]? = some (.loop r) := by
    have := World.alloc_heap_new (w.alloc (.deferred (some []))) (.loop r)
    rwa [World.size_alloc, hD, hW1] at this
  have hK1 : W1.heap[D]? = some (.deferred (some [])) := by
    rw [← hW1, ← hD]
    exact (Below.heap_alloc _ _ _ (by simp)).trans (World.alloc_heap_new w _)
  have hI1 : I [] W1 := by rw [← hW1]; exact hI.alloc _ (hI.alloc _ h0)
  have hb1 : Below w.heap.size w W1 := by
    rw [← hW1]
    exact ((Below.refl _ w).alloc (Nat.le_refl _) _).alloc (by simp) _
  have hst : r.state = .ready := by rw [hr]
  have hpd : r.pending = none := by rw [hr]
  refine ⟨D + 1, _, W1, { target := .fn (.func gf) lb, args := #[.func (.yield (D + 1)) #[] #[]] }, W1, gf, #[.func (.yield (D + 1)) #[] #[]] ++ lb, W1, hent, ?_, ?_, ?_, fun _ => h1, ?_⟩
  · simp only [resolve, hg]
    simp [go_sem]
  · intro f' hf'
    simp [Target.leads] at hf'
    subst hf'
    exact hFg
  · simp [invoke, go_sem, eg]
  refine (hseq (D + 1) (fun pre W => I pre W ∧ W.heap[D + 1]? = some (.loop r) ∧ W.heap[D]? = some (.deferred (some [])))
    (fun pre W => ∃ c, Ix c pre W ∧ W.heap[D + 1]? = some (.loop { r with state := .done, pending := some c }) ∧ W.heap[D]? = some (.deferred (some []))) W1 hb1
    (hIc.and ((abides_block (by omega) _).and (abides_block (by omega) _))) ?_ ?_ ⟨hI1, hL1, hK1⟩).mono ?_
  · rintro s X X' row ⟨c, hs⟩ hg' hr'
    exact ⟨c, ((hIxc c).and ((abides_block (by omega) _).and (abides_block (by omega) _))) s X X' row hs hg' hr'⟩
  · rintro pre x X ⟨hi, hl, hk⟩ hlen
    have hput := hI.putObj (.loop { r with state := .busy }) hi (by omega) hl rfl
    have hkp := hKb X (D + 1) _ (.loop { r with state := .busy }) (by omega) hl rfl rfl
    have hbd := hbody (D + 1) pre x _ hput hlen
    have has := hassign (D + 1) x X
    rw [show ps = r.params by rw [hr], show a.tmps = r.tmps by rw [hr], show assign = r.assign by rw [hr]] at has
    rw [show body = r.body by rw [hr]] at hbd
    refine round_ready (D := D) (Nat.lt_succ_self _) hst (by rw [hr]; exact hfn) (by rw [hr]; exact hps x) hl hk (a₁ x) (fun K hK => has K hK) (wpIn_mono hbd ?_)
    intro e a3 W3 hp
    have out : ∀ c, KeepsFrom w.heap.size (X.putObj (D + 1) (.loop { r with state := .busy })) W3 → Ix c (pre ++ [x]) W3 → jumpOf e = some (some c) →
        ∃ j, jumpOf e = some j ∧ KeepsFrom D (X.putObj (D + 1) (.loop { r with state := .busy })) W3 ∧
          ∀ W4, W4 = W3.putObj (D + 1) (.loop { r with state := if j.isNone then .ready else .done, pending := j }) → W3.heap[D + 1]? = some (.loop { r with state := .busy }) →
            W4.heap[D + 1]? = some (.loop { r with state := if j.isNone then .ready else .done, pending := j }) → W4.heap[D]? = some (.deferred (some [])) →
            (((.returned (.bool j.isNone) : Ending) = .returned (.bool true) ∧ (I (pre ++ [x]) W4 ∧ W4.heap[D + 1]? = some (.loop r) ∧ W4.heap[D]? = some (.deferred (some []))) ∧ Kp X W4) ∨
              ((.returned (.bool j.isNone) : Ending) = .returned (.bool false) ∧ ∃ c, Ix c (pre ++ [x]) W4 ∧ W4.heap[D + 1]? = some (.loop { r with state := .done, pending := some c }) ∧ W4.heap[D]? = some (.deferred (some [])))) := by
      intro c h1' h2 h3
      refine ⟨some c, h3, hD ▸ h1', fun W4 e4 hl3 hl4 hk4 => .inr ⟨rfl, c, ?_, hl4, hk4⟩⟩
      rw [e4]
      exact (hIx c).putObj _ h2 (by omega) hl3 rfl
    cases e with
    | normal =>
      obtain ⟨h1', h2, h3⟩ := hp
      refine ⟨none, rfl, hD ▸ h1', fun W4 e4 hl3 hl4 hk4 => .inl ⟨rfl, ⟨?_, ?_, hk4⟩, ?_⟩⟩
      · rw [e4]
        exact hI.putObj _ h3 (by omega) hl3 rfl
      · rw [hl4]
        simp [hr]
      · rw [e4]
        exact hKt (hKt hkp h2) (hKb _ _ _ _ (by omega) hl3 rfl rfl)
    | ret => exact out _ hp.1 hp.2 rfl
    | exit id => exact out _ hp.1 hp.2 rfl
    | goto t => exact out _ hp.1 hp.2 rfl
    | panic ch => exact hp.elim
    | outgrown => exact hp.elim
  · rintro e W2 ⟨⟨v, rfl⟩, (⟨xs, hS, hi, hl, hk⟩ | ⟨pre, hSp, c, hi, hl, hk⟩)⟩
    · have he := run_endLoop (P := P) hl (by rw [hst]; simp)
      rw [hpd] at he
      exact ⟨none, _, he, hdone D xs _ (by omega) hS (hI.putObj _ hi (by omega) hl rfl) ((World.putObj_heap_other (by omega)).trans hk)⟩
    · refine ⟨some c, _, run_endLoop (P := P) hl (by simp), hstop D c pre _ (by omega) hSp ((hIx c).putObj _ hi (by omega) hl rfl) ((World.putObj_heap_other (by omega)).trans hk)⟩
end Go.Proofs.YtojjenclcidnkaaDoor

/-
  A law's last step where the named variables are two errors: they are held, not read through.
-/
import Derived.Test.YtojjenclcidnkaaGreatDoorFrame
import Derived.Test.YtojjenclcidnkaaGreatDoorIs
import Derived.Stop.LaidTwo
set_option maxRecDepth 100000
namespace Go.Proofs.YtojjenclcidnkaaGreatDoor
open Go Go.RowKit Go.ChangeShapes Go.WideShapes Go.WideElems Go.ChangeAt Go.Proofs.Palim

section
variable {H : Type} {enc : TypeId × Value → H} {P : Program} {W W' : World}
theorem law_post_held {f : Func} {s : ChangeSpec} {apart fresh handsOn : Bool} {args : Array Value} {ds gs : List (DataW H)} {before : List MemPlace} {tb : TypeId}
    (hl : laidOutB P = true) (hp : ∀ t ∈ f.params.toList, P.readableRec t = true ∧ t < P.types.size)
    (hvs : ∀ (sp : Nat → Bool) (q : List MemPlace), DataW.TrodVars enc P W (fun _ => true) s.vars gs q → DataW.TrodVars enc P W' sp s.vars gs q)
    (hrt : f.resultTypes = #[tb]) (hu : P.underlying tb = some .bool)
    (hW : DataW.Whole enc P f.params.toList s.vars apart W args.toList ds gs before)
    (hspec : s.fn H (ds ++ gs) = { results := [.lit (.bool true)], args := ds, vars := gs }) (hb : Below W.heap.size W W') :
    s.post enc P f apart fresh handsOn false W args (.bool true) W' := by
  have hlt : ∀ x ∈ before, x.block < W.heap.size := fun x hx => hW.lt x hx
  have hW' := hW
  obtain ⟨p, q, hA, hV, rfl, _, _⟩ := hW
  refine ⟨ds, gs, p ++ q, [], p, q, hW', ?_, ?_, ?_, hb.frame _, fun h => by cases h⟩
  · rw [hspec, hrt]
    exact trodAll_cons_mk (shut_bool hu _) trodAll_mk0
  · rw [hspec]
    exact args_stay hl hp hA (fun x hx => hb.same (hlt x (by simp [hx]))) (fun x hx => by simpa using hlt x (by simp [hx]))
  · rw [hspec]
    exact hvs _ _ hV
end

theorem gNull : Tryz.prog.globalNamed "loop.example/palim/impl.errBlkNull" = some 0 := by kernel_rfl
theorem gDam : Tryz.prog.globalNamed "loop.example/palim/impl.errBlkDamaged" = some 1 := by kernel_rfl
theorem gNullType : (Tryz.prog.globals[0]?).map (·.type) = some 112 := by kernel_rfl
theorem gDamType : (Tryz.prog.globals[1]?).map (·.type) = some 112 := by kernel_rfl
theorem cellsErrS : Tryz.prog.cellsOf 281 = 1 := by kernel_rfl
theorem cellsStr : Tryz.prog.cellsOf 9 = 1 := by kernel_rfl
theorem starErr : "*" ++ "errors.errorString" = "*errors.errorString" := by decide
theorem rowErr (u : TypeId) (h : Tryz.prog.typeName? 3 u = some "*errors.errorString") : u = 279 :=
  typeName_ptr_named (nm := "errors.errorString") (by rw [starErr]; kernel_rfl) (by kernel_rfl) (by decide) u (by rw [starErr]; exact h)

/-- What the two variables hold. -/
structure Held (W : World) (a0 a1 : Addr) : Prop where
  v0 : W.var? Tryz.prog "loop.example/palim/impl.errBlkNull" = some #[ev a0]
  v1 : W.var? Tryz.prog "loop.example/palim/impl.errBlkDamaged" = some #[ev a1]
  errs : Errs W a0 a1
theorem held_of_laid {r : List (String × DataW Unit)} {text0 text1 : List UInt8} {W : World} (h : laidMet Tryz.prog (("loop.example/palim/impl.errBlkNull", .iface "*errors.errorString" (.ptr (.agg [.lit (.string text0)]))) :: ("loop.example/palim/impl.errBlkDamaged", .iface "*errors.errorString" (.ptr (.agg [.lit (.string text1)]))) :: r) W) : ∃ a0 a1, Held W a0 a1 := by
  obtain ⟨a0, a1, s0, s1, c0, c1, t0, t1, hv0, hv1, hc0, hs0, hz0, hc1, hs1, hz1, hne, hb0, hb1⟩ := laid_sentinels2 h gNull gNullType gDam gDamType Tryz.underlying112 rowErr Tryz.underlying279 Tryz.underlying281 rfl rfl Tryz.underlying9 cellsErrS cellsStr
  refine ⟨a0, a1, hv0, hv1, ?_, ?_, hne, ⟨c0, t0, hb0⟩, ⟨c1, t1, hb1⟩⟩
  · simpa using World.var?_cell gNull hv0 0
  · simpa using World.var?_cell gDam hv1 0
theorem Held.reads {H : Type} {enc : TypeId × Value → H} {W : World} {a0 a1 : Addr} (h : Held W a0 a1) (sp : Nat → Bool) :
    DataW.TrodVars enc Tryz.prog W sp ["loop.example/palim/impl.errBlkNull", "loop.example/palim/impl.errBlkDamaged"] [tok enc (ev a0), tok enc (ev a1)] [.cell 0 0, .cell 1 0] :=
  vars_read2 enc gNull gNullType Tryz.underlying112 h.v0 trivial gDam gDamType Tryz.underlying112 h.v1 trivial sp
theorem Held.below {W W' : World} {a0 a1 : Addr} (h : Held W a0 a1) (hb : Below W.heap.size W W') : Held W' a0 a1 :=
  ⟨var?_below hb gNull (World.block_lt_of_cell? _ _ h.errs.g0) h.v0, var?_below hb gDam (World.block_lt_of_cell? _ _ h.errs.g1) h.v1, h.errs.below hb⟩
theorem Held.stay {H : Type} {enc : TypeId × Value → H} {W W' : World} {a0 a1 : Addr} (h : Held W a0 a1) (hb : Below W.heap.size W W') (sp : Nat → Bool) (gs : List (DataW H)) (q : List MemPlace)
    (hV : DataW.TrodVars enc Tryz.prog W (fun _ => true) ["loop.example/palim/impl.errBlkNull", "loop.example/palim/impl.errBlkDamaged"] gs q) :
    DataW.TrodVars enc Tryz.prog W' sp ["loop.example/palim/impl.errBlkNull", "loop.example/palim/impl.errBlkDamaged"] gs q := by
  obtain ⟨rfl, rfl⟩ := hV.unique (h.reads _)
  exact (h.below hb).reads sp
end Go.Proofs.YtojjenclcidnkaaGreatDoor

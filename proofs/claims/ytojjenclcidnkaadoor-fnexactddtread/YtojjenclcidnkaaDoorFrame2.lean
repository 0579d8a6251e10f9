/-
  A law's last step where the named variables are two errors: they are held, not read through.
-/
import Derived.Test.YtojjenclcidnkaaDoorFrame
import Derived.Test.YtojjenclcidnkaaDoorIs
import Derived.Stop.LaidTwo
set_option maxRecDepth 100000
namespace Go.Proofs.YtojjenclcidnkaaDoor
open Go Go.RowKit Go.ChangeShapes Go.WideShapes Go.WideElems Go.ChangeAt Go.Proofs.Palim

section
variable {H : Type} {enc : TypeId × Value → H} {P : Program} {W W' : World}
theorem law_post_held {f : Func} {s : ChangeSpec} {apart fresh handsOn : Bool} {args : Array Value} {ds gs : List (DataW H)} {before : List MemPlace} {tb : TypeId}
    (hl : laidOutB P = true) (hp : ∀ t ∈ f.params.toList, P.readableRec t = true ∧ t < P.types.size)
    (hvs : ∀ (sp : Nat → Bool) (q : List MemPlace), DataW.TrodVars enc P W (fun _ => true) s.vars gs q → DataW.TrodVars enc P W' sp s.vars gs q)
    (hrt : f.resultTypes = #[tb]) (hu : P.underlying tb = some .bool)
    (hW : DataW.Whole enc P f.params.toList s.vars apart W args.toList ds gs before)
    (hspec : s.fn H (ds ++ gs) = { results := [.lit (.bool true)], args := ds, vars := gs }) (hb : Below W.heap.size W W') :
    s.post enc P f apart fresh handsOn false W args (.bool true) W' := by
  have hlt : ∀ x ∈ before, x.block < W.heap.size := fun x hx => hW.lt x hx
  have hW' := hW
  obtain ⟨p, q, hA, hV, rfl, _, _⟩ := hW
  refine ⟨ds, gs, p ++ q, [], p, q, hW', ?_, ?_, ?_, hb.frame _, fun h => by cases h⟩
  · rw [hspec, hrt]
    exact trodAll_cons_mk (shut_bool hu _) trodAll_mk0
  · rw [hspec]
    exact args_stay hl hp hA (fun x hx => hb.same (hlt x (by simp [hx]))) (fun x hx => by simpa using hlt x (by simp [hx]))
  · rw [hspec]
    exact hvs _ _ hV
end

theorem cellsErrS : Tryd.prog.cellsOf 96 = 1 := by kernel_rfl
theorem cellsStr : Tryd.prog.cellsOf 9 = 1 := by kernel_rfl
theorem starErr : "*" ++ "errors.errorString" = "*errors.errorString" := by decide
theorem rowErr (u : TypeId) (h : Tryd.prog.typeName? 3 u = some "*errors.errorString") : u = 94 :=
  typeName_ptr_named (nm := "errors.errorString") (by rw [starErr]; kernel_rfl) (by kernel_rfl) (by decide) u (by rw [starErr]; exact h)

end Go.Proofs.YtojjenclcidnkaaDoor

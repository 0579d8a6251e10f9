/-
  impl's table of blocks: a map from places to entries, read as the list of its entries by ascending places.
-/
import Derived.Test.YtobjgdnmlibofaaGreatTabM
set_option maxRecDepth 100000
namespace Go.Proofs.YtobjgdnmlibofaaGreat
open Go.ChangeShapes Go.WideShapes Go.ChangeAt Go.RowKit Go.Proofs.Palim Go.Maps

def zE : EntM := ⟨0, 0, 0⟩
/-- The map m has just these entries. -/
def MapE (w : World) (m : Nat) (T : List EntM) : Prop :=
  ∃ D, w.ownsMap Tryz.prog 3 entR m T.length D ∧ Maps.size D = T.length ∧ ∀ a : Int, (Lit.int .i64 a).wf = true → Maps.has D (.int .i64 a) = (findE T a).isSome ∧ D.atKey (.int .i64 a) (entD zE) = entD ((findE T a).getD zE)

section
variable {w : World} {m : Nat} {T : List EntM}
theorem keyE : Keyed Tryz.prog 3 := int_keyed Tryz.underlying3
theorem keyOfE {a : Int} (h : (Lit.int .i64 a).wf = true) : keyOf Tryz.prog 3 (.int .i64 a) = some (.int .i64 a) := keyOf_int_mk Tryz.underlying3 h
theorem ownsE_tight {R : Value → Option (DataW Unit × List MemPlace)} {n : Nat} {D : DataW Unit} (h : w.ownsMap Tryz.prog 3 R m n D) : w.ownsMap Tryz.prog 3 R m (Maps.size D) D := by
  obtain ⟨es, clock, hb, F, hs, rfl⟩ := h
  exact ⟨es, clock, hb, F, by simp [Maps.size, length_sorted], rfl⟩
theorem mapE_made (w : World) : MapE (w.alloc (.map #[] 0)) w.heap.size [] :=
  ⟨.map [], World.ownsMap_made w Tryz.prog 3 entR, rfl, fun a _ => ⟨rfl, rfl⟩⟩
theorem MapE.lt (h : MapE w m T) : m < w.heap.size := by obtain ⟨D, ho, _⟩ := h; exact ho.lt
theorem MapE.kept {w' : World} (h : MapE w m T) (hk : w'.heap[m]? = w.heap[m]?) : MapE w' m T := by
  obtain ⟨D, ⟨es, clock, hb, rest⟩, h2⟩ := h
  exact ⟨D, ⟨es, clock, hk.trans hb, rest⟩, h2⟩
theorem MapE.below {w' : World} {B : Nat} (h : MapE w m T) (hb : Below B w w') (hB : m < B) : MapE w' m T := h.kept (hb.block m hB)
theorem zeroEnt (w : World) : (zeroValue 126).run Tryz.prog w = .ok (entV zE) w := by kernel_rfl
def lookEV (o : Option EntM) : Value := .tuple #[entV (o.getD zE), .bool o.isSome]
theorem MapE.look (h : MapE w m T) {a : Int} (hs : (Lit.int .i64 a).wf = true) : (Instr.lookup 164 (.map (some m)) (.int .i64 a) true).run Tryz.prog w = .ok (lookEV (findE T a)) w := by
  obtain ⟨D, ho, _, hl⟩ := h
  obtain ⟨v, ps, hrun, hv⟩ := ho.look_ok keyE Tryz.underlying164 (zeroEnt w) (zd := entD zE) (zp := []) (entR_mk zE) (keyOfE hs)
  obtain ⟨h1, h2⟩ := hl a hs
  rw [hrun, h1]
  rw [h2] at hv
  unfold lookEV
  rw [entR_inv hv]
theorem MapE.look1 (h : MapE w m T) {a : Int} (hs : (Lit.int .i64 a).wf = true) : (Instr.lookup 164 (.map (some m)) (.int .i64 a) false).run Tryz.prog w = .ok (entV ((findE T a).getD zE)) w := by
  obtain ⟨D, ho, _, hl⟩ := h
  obtain ⟨v, ps, hrun, hv⟩ := ho.lookup keyE Tryz.underlying164 (zeroEnt w) (zd := entD zE) (zp := []) (entR_mk zE) (keyOfE hs)
  obtain ⟨h1, h2⟩ := hl a hs
  rw [hrun]
  rw [h2] at hv
  rw [entR_inv hv]
theorem MapE.len (h : MapE w m T) (ty : TypeId) : (Builtin.len_ #[164] ty #[.map (some m)]).run Tryz.prog w = .ok (.int .i64 (T.length : Int)) w := by
  obtain ⟨D, ho, hsz, _⟩ := h
  rw [ho.len Tryz.underlying164 ty, hsz]
theorem MapE.put (h : MapE w m T) (ha : AscE T) {x : EntM} (hs : (Lit.int .i64 x.at_).wf = true) (hlen : T.length < 1000000) :
    ∃ w', (Instr.mapUpdate 164 (.map (some m)) (.int .i64 x.at_) (entV x)).run Tryz.prog w = .ok () w' ∧ MapE w' m (putTb T x) ∧ w.mapTurned w' m := by
  obtain ⟨D, ho, hsz, hl⟩ := h
  obtain ⟨w', hrun, ho', hturn⟩ := ho.store keyE Tryz.underlying164 (by unfold maxLen; omega) (key := .int .i64 x.at_) (val := entV x) (d := entD x) (ps := []) (keyOfE hs) (entR_mk x)
  have hT := ho.tidy keyE
  have hs2 : Maps.size (D.put (.int .i64 x.at_) (entD x)) = (putTb T x).length := by rw [Maps.size_put hT, (hl _ hs).1, length_putM ha]; split <;> simp [hsz]
  refine ⟨w', hrun, ⟨_, hs2 ▸ ownsE_tight ho', hs2, fun b hb => ?_⟩, hturn⟩
  rw [findE_putM ha]
  by_cases e : b = x.at_
  · subst e
    rw [if_pos rfl, Maps.has_put_same hT.isMap (by simp [WideAt.IsKeyLit]), Maps.atKey_put_same hT.isMap (by simp [WideAt.IsKeyLit])]
    exact ⟨rfl, rfl⟩
  · have hne : (Lit.int .i64 b) ≠ .int .i64 x.at_ := fun c => e (by injection c)
    rw [if_neg e, Maps.has_put_other hne, Maps.atKey_put_other hne]
    exact hl b hb
theorem MapE.drop (h : MapE w m T) (ha : AscE T) {a : Int} (hs : (Lit.int .i64 a).wf = true) (ht : (findE T a).isSome = true) (ty : TypeId) :
    ∃ w', (Builtin.delete_ #[164, 3] ty #[.map (some m), .int .i64 a]).run Tryz.prog w = .ok (.tuple #[]) w' ∧ MapE w' m (delM T a) ∧ w.mapTurned w' m := by
  obtain ⟨D, ho, hsz, hl⟩ := h
  obtain ⟨w', hrun, ho', hturn⟩ := ho.drop keyE Tryz.underlying164 (key := .int .i64 a) (keyOfE hs) ty
  have hT := ho.tidy keyE
  have hs2 : Maps.size (D.del (.int .i64 a)) = (delM T a).length := by
    have h1 := Maps.size_del hT (k := .int .i64 a)
    rw [(hl _ hs).1, if_pos ht, hsz] at h1
    have h2 := delM_length ha ht
    omega
  refine ⟨w', hrun, ⟨_, hs2 ▸ ownsE_tight ho', hs2, fun b hb => ?_⟩, hturn⟩
  rw [findE_delM]
  by_cases e : b = a
  · subst e
    rw [if_pos rfl, Maps.has_del_same, Maps.atKey_del_same]
    exact ⟨rfl, rfl⟩
  · have hne : (Lit.int .i64 b) ≠ .int .i64 a := fun c => e (by injection c)
    rw [if_neg e, Maps.has_del_other hne, Maps.atKey_del_other hne]
    exact hl b hb
/-- The map's keys, sorted, are the places. -/
theorem keys_sorted {D : DataW Unit} {n : Nat} (ho : w.ownsMap Tryz.prog 3 entR m n D) (ha : AscE T) (hw : ∀ x ∈ T, (Lit.int .i64 x.at_).wf = true)
    (hl : ∀ a : Int, (Lit.int .i64 a).wf = true → Maps.has D (.int .i64 a) = (findE T a).isSome) {ss : List Int} (hp : ss.Perm (intKeys D)) : ss.mergeSort (fun x y => decide (x ≤ y)) = T.map (·.at_) := by
  have hnd : (T.map (·.at_)).Nodup := by
    unfold List.Nodup
    rw [List.pairwise_map]
    exact ha.imp fun h => by omega
  have hm : (T.map (·.at_)).Perm (intKeys D) := by
    obtain ⟨es, hD, hpw, _⟩ := ho.entries keyE
    obtain ⟨es', hD', hko⟩ := ho.keysOf
    obtain rfl : es = es' := by rw [hD] at hD'; simpa using hD'
    subst hD
    refine perm_intKeys hpw (fun p hp => by obtain ⟨v, hv⟩ := hko p hp; obtain ⟨x, _, hx, _⟩ := Maps.keyOf_i64 Tryz.underlying3 hv; exact ⟨x, hx⟩) hnd (fun x => ?_)
    constructor
    · intro hx
      obtain ⟨e, he, rfl⟩ := List.mem_map.1 hx
      rw [hl _ (hw e he), findE_mem ha he]
      rfl
    · intro hx
      have hwf : (Lit.int .i64 x).wf = true := by
        rw [Maps.has_eq, List.any_eq_true] at hx
        obtain ⟨p, hp', hs⟩ := hx
        refine intKeys_wf ho Tryz.underlying3 x (List.mem_map.2 ⟨p, hp', ?_⟩)
        obtain ⟨v, hv⟩ := hko p hp'
        obtain ⟨y, _, hy, _⟩ := Maps.keyOf_i64 Tryz.underlying3 hv
        rw [hy] at hs ⊢
        simpa [Lit.sameKey, Go.intOf] using hs
      rw [hl x hwf] at hx
      obtain ⟨e, he⟩ := Option.isSome_iff_exists.1 hx
      obtain ⟨h1, h2⟩ := findE_some he
      exact List.mem_map.2 ⟨e, h1, h2⟩
  rw [mergeSort_of_perm_i (hp.trans hm.symm)]
  refine List.mergeSort_of_pairwise ?_
  rw [List.pairwise_map]
  exact ha.imp fun h => by simp [leI]; omega
end
end Go.Proofs.YtobjgdnmlibofaaGreat

/-
  From 'the walk returns true and nothing old has turned' to the row's post, for a law of whatever parameters: each argument and each named variable reads as it did. Nothing here reaches the dump.
-/
import Derived.ProofKit
import Derived.OpenShut
import Derived.ChangeOld
import Derived.Below
import Derived.WalkSmall
import Derived.Carry
namespace Go.Proofs.YtkjjglnbbahbkaaDoor.Post
open Go Go.ChangeShapes Go.WideShapes Go.ChangeAt Go.RowKit

section
variable {H : Type} {enc : TypeId × Value → H} {P : Program} {W W' : World}

theorem all_stays (hl : laidOutB P = true) (hb : Below W.heap.size W W') : ∀ (ts : List TypeId) (vs : List Value) (ds : List (DataW H)) (ps : List MemPlace), (ts.all fun t => P.readableRec t && decide (t < P.types.size)) = true →
    DataW.TrodAll enc P W 0 (fun _ => true) true ts vs ds ps → (∀ x ∈ ps, x.block < W.heap.size) → DataW.TrodAll enc P W' 0 (fun b => decide (b < W.heap.size)) true ts vs ds ps := by
  intro ts
  induction ts with
  | nil =>
    intro vs ds ps _ h _
    obtain ⟨rfl, rfl, rfl⟩ := trodAll_nil h
    exact trodAll_mk0
  | cons t ts ih =>
    intro vs ds ps hr h hlt
    obtain ⟨v, vs', d, ds', p, q, rfl, rfl, rfl, h1, h2⟩ := trodAll_cons h
    simp only [List.all_cons, Bool.and_eq_true, decide_eq_true_eq] at hr
    exact trodAll_cons_mk (Below.trod hl hr.1.1 hr.1.2 h1 hb (fun x hx => hlt x (List.mem_append_left _ hx))) (ih vs' ds' q (by simpa using hr.2) h2 (fun x hx => hlt x (List.mem_append_right _ hx)))

theorem vars_stay (hl : laidOutB P = true) (hb : Below W.heap.size W W') : ∀ (ns : List String) (gs : List (DataW H)) (ps : List MemPlace),
    (ns.all fun n => match P.globalNamed n with
      | none => true
      | some g => decide (g < W.heap.size) && (match (P.globals[g]?).map (·.type) with
        | none => true
        | some t => P.readableRec t && decide (t < P.types.size))) = true →
    DataW.TrodVars enc P W (fun _ => true) ns gs ps → (∀ x ∈ ps, x.block < W.heap.size) → DataW.TrodVars enc P W' (fun b => decide (b < W.heap.size)) ns gs ps := by
  intro ns
  induction ns with
  | nil =>
    intro gs ps _ h _
    obtain ⟨rfl, rfl⟩ := trodVars_none h
    exact rfl
  | cons n ns ih =>
    intro gs ps hr h hlt
    cases gs with
    | nil => simp [DataW.TrodVars] at h
    | cons d ds =>
      obtain ⟨g, t, cs, fuel, p, q, h1, h2, h3, h4, hs, rfl⟩ := h
      simp only [List.all_cons, Bool.and_eq_true] at hr
      obtain ⟨hr1, hr2⟩ := hr
      rw [h1] at hr1
      simp only [Bool.and_eq_true, decide_eq_true_eq] at hr1
      obtain ⟨hg, hr1⟩ := hr1
      rw [h2] at hr1
      simp only [Bool.and_eq_true, decide_eq_true_eq] at hr1
      obtain ⟨fuel', h4'⟩ := Below.trod (v := .agg cs) hl hr1.1 hr1.2 (⟨fuel, h4⟩ : DataW.Trod enc P W 0 (fun _ => true) true t (.agg cs) d p) hb (fun x hx => hlt x (List.mem_append_left _ (List.mem_append_right _ hx)))
      exact ⟨g, t, cs, fuel', p, q, h1, h2, var?_below hb h1 hg h3, h4', ih ds q hr2 hs (fun x hx => hlt x (List.mem_append_right _ hx)), rfl⟩

/-- THE POST OF A LAW THAT RETURNS TRUE AND TURNS NOTHING OLD. -/
theorem law {s : ChangeSpec} {fn : Func} {args : Array Value} {ds gs : List (DataW H)} {before : List MemPlace} (hl : laidOutB P = true) (hb : Below W.heap.size W W')
    (hW : DataW.Whole enc P fn.params.toList s.vars false W args.toList ds gs before)
    (hps : (fn.params.toList.all fun t => P.readableRec t && decide (t < P.types.size)) = true)
    (hvs : (s.vars.all fun n => match P.globalNamed n with
      | none => true
      | some g => decide (g < W.heap.size) && (match (P.globals[g]?).map (·.type) with
        | none => true
        | some t => P.readableRec t && decide (t < P.types.size))) = true)
    {tb : TypeId} (hres : fn.resultTypes.toList = [tb]) (htb : P.underlying tb = some .bool)
    (hs : s.fn H (ds ++ gs) = { results := [.lit (.bool true)], args := ds, vars := gs }) :
    s.post enc P fn false true false false W args (.bool true) W' := by
  have hW' := hW
  obtain ⟨p, q, hA, hV, rfl, hfz, hnd⟩ := hW
  have hlt := hW'.lt
  have hsz : fn.resultTypes.size = 1 := by rw [← Array.length_toList, hres]; rfl
  refine ⟨ds, gs, p ++ q, [], p, q, hW', ?_, ?_, ?_, hb.frame _, fun h => by cases h⟩
  · rw [hs, hres, hsz]
    exact trodAll_mk1 (shut_bool htb true)
  · rw [hs]
    exact all_stays hl hb _ _ _ _ hps hA (fun x hx => hlt x (List.mem_append_left _ hx))
  · rw [hs]
    exact vars_stay hl hb _ _ _ hvs hV (fun x hx => hlt x (List.mem_append_right _ hx))
end
end Go.Proofs.YtkjjglnbbahbkaaDoor.Post

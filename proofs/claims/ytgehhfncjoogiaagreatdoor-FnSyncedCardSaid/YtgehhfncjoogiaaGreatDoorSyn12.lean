/-
  Post, FnSyncedLaw, ErrsWorldS
-/
import Derived.ProofKit
import Derived.OpenShut
import Derived.ChangeOld
import Derived.Below
import Derived.WalkSmall
import Derived.Carry
import Derived.Test.YtgehhfncjoogiaaGreatDoorSyn11
import Derived.Test.YtgehhfncjoogiaaGreatDoorSyn1
import Derived.ChangeMaps5
namespace Go.Proofs.YtgehhfncjoogiaaGreatDoor.Post
open Go Go.ChangeShapes Go.WideShapes Go.ChangeAt Go.RowKit

section
variable {H : Type} {enc : TypeId × Value → H} {P : Program} {W W' : World}

theorem all_stays (hl : laidOutB P = true) (hb : Below W.heap.size W W') : ∀ (ts : List TypeId) (vs : List Value) (ds : List (DataW H)) (ps : List MemPlace), (ts.all fun t => P.readableRec t && decide (t < P.types.size)) = true →
    DataW.TrodAll enc P W 0 (fun _ => true) true ts vs ds ps → (∀ x ∈ ps, x.block < W.heap.size) → DataW.TrodAll enc P W' 0 (fun b => decide (b < W.heap.size)) true ts vs ds ps := by
  intro ts
  induction ts with
  | nil =>
    intro vs ds ps _ h _; obtain ⟨rfl, rfl, rfl⟩ := trodAll_nil h; exact trodAll_mk0
  | cons t ts ih =>
    intro vs ds ps hr h hlt; obtain ⟨v, vs', d, ds', p, q, rfl, rfl, rfl, h1, h2⟩ := trodAll_cons h; simp only [List.all_cons, Bool.and_eq_true, decide_eq_true_eq] at hr; exact trodAll_cons_mk (Below.trod hl hr.1.1 hr.1.2 h1 hb (fun x hx => hlt x (List.mem_append_left _ hx))) (ih vs' ds' q (by simpa using hr.2) h2 (fun x hx => hlt x (List.mem_append_right _ hx)))

theorem vars_stay (hl : laidOutB P = true) (hb : Below W.heap.size W W') : ∀ (ns : List String) (gs : List (DataW H)) (ps : List MemPlace),
    (ns.all fun n => match P.globalNamed n with
      | none => true
      | some g => decide (g < W.heap.size) && (match (P.globals[g]?).map (·.type) with
        | none => true
        | some t => P.readableRec t && decide (t < P.types.size))) = true →
    DataW.TrodVars enc P W (fun _ => true) ns gs ps → (∀ x ∈ ps, x.block < W.heap.size) → DataW.TrodVars enc P W' (fun b => decide (b < W.heap.size)) ns gs ps := by
  intro ns
  induction ns with
  | nil =>
    intro gs ps _ h _; obtain ⟨rfl, rfl⟩ := trodVars_none h; exact rfl
  | cons n ns ih =>
    intro gs ps hr h hlt
    cases gs with
    | nil => simp [DataW.TrodVars] at h
    | cons d ds =>
      obtain ⟨g, t, cs, fuel, p, q, h1, h2, h3, h4, hs, rfl⟩ := h; simp only [List.all_cons, Bool.and_eq_true] at hr; obtain ⟨hr1, hr2⟩ := hr; rw [h1] at hr1; simp only [Bool.and_eq_true, decide_eq_true_eq] at hr1; obtain ⟨hg, hr1⟩ := hr1; rw [h2] at hr1; simp only [Bool.and_eq_true, decide_eq_true_eq] at hr1; obtain ⟨fuel', h4'⟩ := Below.trod (v := .agg cs) hl hr1.1 hr1.2 (⟨fuel, h4⟩ : DataW.Trod enc P W 0 (fun _ => true) true t (.agg cs) d p) hb (fun x hx => hlt x (List.mem_append_left _ (List.mem_append_right _ hx))); exact ⟨g, t, cs, fuel', p, q, h1, h2, var?_below hb h1 hg h3, h4', ih ds q hr2 hs (fun x hx => hlt x (List.mem_append_right _ hx)), rfl⟩

theorem law {s : ChangeSpec} {fn : Func} {args : Array Value} {ds gs : List (DataW H)} {before : List MemPlace} (hl : laidOutB P = true) (hb : Below W.heap.size W W')
    (hW : DataW.Whole enc P fn.params.toList s.vars false W args.toList ds gs before)
    (hps : (fn.params.toList.all fun t => P.readableRec t && decide (t < P.types.size)) = true)
    (hvs : (s.vars.all fun n => match P.globalNamed n with
      | none => true
      | some g => decide (g < W.heap.size) && (match (P.globals[g]?).map (·.type) with
        | none => true
        | some t => P.readableRec t && decide (t < P.types.size))) = true)
    {tb : TypeId} (hres : fn.resultTypes.toList = [tb]) (htb : P.underlying tb = some .bool)
    (hs : s.fn H (ds ++ gs) = { results := [.lit (.bool true)], args := ds, vars := gs }) :
    s.post enc P fn false true false false W args (.bool true) W' := by
  have hW' := hW; obtain ⟨p, q, hA, hV, rfl, hfz, hnd⟩ := hW; have hlt := hW'.lt
  have hsz : fn.resultTypes.size = 1 := by rw [← Array.length_toList, hres]; rfl
  refine ⟨ds, gs, p ++ q, [], p, q, hW', ?_, ?_, ?_, hb.frame _, fun h => by cases h⟩
  · rw [hs, hres, hsz]; exact trodAll_mk1 (shut_bool htb true)
  · rw [hs]; exact all_stays hl hb _ _ _ _ hps hA (fun x hx => hlt x (List.mem_append_left _ hx))
  · rw [hs]; exact vars_stay hl hb _ _ _ hvs hV (fun x hx => hlt x (List.mem_append_right _ hx))
end
end Go.Proofs.YtgehhfncjoogiaaGreatDoor.Post
namespace Go.Proofs.YtgehhfncjoogiaaGreatDoor.fnSynced
open Go.ChangeShapes Go.WideShapes Go.ChangeAt Go.RowKit

theorem cellsU8 : Tryz.prog.cellsOf 5 = 1 := by kernel_rfl
set_option maxRecDepth 100000 in
theorem contract (H : Type) (enc : TypeId × Value → H) (W : World) (base : Nat) (args : Array Value) (ds gs : List (DataW H)) (before : List MemPlace)
    (hval : ∀ (j : Nat) t v, Tryz.f3.params[j]? = some t → args[j]? = some v → Value.okWide Tryz.prog W .any base t v)
    (hW : DataW.Whole enc Tryz.prog Tryz.f3.params.toList Rows.fnSyncedSpec.vars false W args.toList ds gs before) (ad : Nat → Addr) (hE : ErrsAt W W.heap.size ad) :
    Calls Tryz.prog 3 args W fun e W' => ∃ v, e = .returned v ∧ Rows.fnSyncedSpec.post enc Tryz.prog Tryz.f3 false true false false W args v W' := by
  have hW' := hW; obtain ⟨p, q, hA0, hV, rfl, hfz, hnd⟩ := hW; have hA : DataW.TrodAll enc Tryz.prog W 0 (fun _ => true) true Tryz.f3.params.toList args.toList ds p := hA0; rw [Tryz.params3] at hA hval; obtain ⟨v0, vs0, d0, ds0, p0, q0, hargs, rfl, rfl, h0, r0⟩ := trodAll_cons hA; obtain ⟨v1, vs1, d1, ds1, p1, q1, rfl, rfl, rfl, h1, r1⟩ := trodAll_cons r0; obtain ⟨rfl, rfl, rfl⟩ := trodAll_nil r1
  obtain rfl : args = #[v0, v1] := by cases args; simp_all
  obtain ⟨a1, len1, cap1, rfl⟩ := okWide_slice Tryz.underlying22 (hval 0 22 v0 rfl rfl); obtain ⟨a2, len2, cap2, rfl⟩ := okWide_slice Tryz.underlying22 (hval 1 22 v1 rfl rfl); obtain ⟨zs, hs, hmx⟩ := slb_open Tryz.underlying22 Tryz.underlying5 cellsU8 h0; obtain ⟨ys, hs2, hmx2⟩ := slb_open Tryz.underlying22 Tryz.underlying5 cellsU8 h1; have hgl : gs.length = 13 := ErrsLaid.vars_len _ _ _ hV
  refine (walk a1 len1 cap1 zs a2 len2 cap2 ys ad W hE hs hs2).mono fun e W' ⟨he, hgr⟩ => ?_
  subst he
  match gs, hgl with
  | [g1, g2, g3, g4, g5, g6, g7, g8, g9, g10, g11, g12, g13], _ =>
    exact ⟨_, rfl, Post.law ErrsLaid.laidOut (below_of_grown hgr) hW' (by kernel_rfl) (ErrsLaid.vars_ok hE _ rfl) (tb := 4) (by kernel_rfl) Tryz.underlying4 rfl⟩
end Go.Proofs.YtgehhfncjoogiaaGreatDoor.fnSynced
namespace Go.Proofs.YtgehhfncjoogiaaGreatDoor
open Go.ChangeShapes Go.WideShapes Go.ChangeAt Go.RowKit
namespace ErrsLaid
def errObjs : Array Obj := #[.cells #[.string { data := #[116, 104, 101, 32, 112, 111, 119, 101, 114, 32, 105, 115, 32, 111, 102, 102] }] 204, .cells #[.string { data := #[110, 111, 32, 115, 117, 99, 104, 32, 107, 105, 110, 100, 32, 111, 102, 32, 111, 112, 101, 114, 97, 116, 105, 111, 110] }] 204, .cells #[.string { data := #[110, 111, 116, 32, 97, 32, 103, 111, 111, 100, 32, 110, 97, 109, 101] }] 204, .cells #[.string { data := #[110, 111, 32, 115, 117, 99, 104, 32, 102, 105, 108, 101] }] 204, .cells #[.string { data := #[116, 104, 101, 32, 110, 97, 109, 101, 32, 105, 115, 32, 116, 97, 107, 101, 110] }] 204, .cells #[.string { data := #[111, 117, 116, 32, 111, 102, 32, 114, 97, 110, 103, 101] }] 204, .cells #[.string { data := #[110, 111, 32, 114, 111, 111, 109, 32, 105, 115, 32, 108, 101, 102, 116] }] 204, .cells #[.string { data := #[110, 111, 32, 110, 111, 100, 101, 32, 104, 97, 115, 32, 108, 101, 102, 116, 32, 116, 104, 101, 115, 101, 32, 102, 105, 108, 101, 115] }] 204, .cells #[.string { data := #[116, 104, 101, 32, 110, 111, 100, 101, 32, 104, 97, 115, 32, 102, 97, 105, 108, 101, 100] }] 204, .cells #[.string { data := #[116, 104, 101, 32, 110, 111, 100, 101, 32, 105, 115, 32, 100, 111, 119, 110] }] 204, .cells #[.string { data := #[110, 111, 116, 32, 102, 111, 114, 32, 97, 32, 110, 111, 100, 101, 32, 111, 102, 32, 116, 104, 97, 116, 32, 114, 111, 108, 101] }] 204, .cells #[.string { data := #[116, 104, 101, 32, 112, 108, 97, 99, 101, 32, 105, 115, 32, 98, 101, 121, 111, 110, 100, 32, 116, 104, 101, 32, 108, 97, 115, 116, 32, 105, 116, 101, 109] }] 204, .cells #[.string { data := #[116, 104, 101, 32, 105, 116, 101, 109, 32, 105, 115, 110, 39, 116, 32, 107, 101, 112, 116, 32, 97, 110, 121, 32, 109, 111, 114, 101] }] 204]
def laidOn (w0 : World) (low : Nat) : World :=
  { w0 with heap := ((((((((((((((w0.heap.modify 0 fun
      | .cells _ t frozen => .cells #[.iface 184 (.pointer (some ⟨low + 0, 0, none⟩))] t frozen
      | o => o).modify 1 fun
      | .cells _ t frozen => .cells #[.iface 184 (.pointer (some ⟨low + 1, 0, none⟩))] t frozen
      | o => o).modify 2 fun
      | .cells _ t frozen => .cells #[.iface 184 (.pointer (some ⟨low + 2, 0, none⟩))] t frozen
      | o => o).modify 3 fun
      | .cells _ t frozen => .cells #[.iface 184 (.pointer (some ⟨low + 3, 0, none⟩))] t frozen
      | o => o).modify 4 fun
      | .cells _ t frozen => .cells #[.iface 184 (.pointer (some ⟨low + 4, 0, none⟩))] t frozen
      | o => o).modify 5 fun
      | .cells _ t frozen => .cells #[.iface 184 (.pointer (some ⟨low + 5, 0, none⟩))] t frozen
      | o => o).modify 6 fun
      | .cells _ t frozen => .cells #[.iface 184 (.pointer (some ⟨low + 6, 0, none⟩))] t frozen
      | o => o).modify 7 fun
      | .cells _ t frozen => .cells #[.iface 184 (.pointer (some ⟨low + 7, 0, none⟩))] t frozen
      | o => o).modify 8 fun
      | .cells _ t frozen => .cells #[.iface 184 (.pointer (some ⟨low + 8, 0, none⟩))] t frozen
      | o => o).modify 9 fun
      | .cells _ t frozen => .cells #[.iface 184 (.pointer (some ⟨low + 9, 0, none⟩))] t frozen
      | o => o).modify 10 fun
      | .cells _ t frozen => .cells #[.iface 184 (.pointer (some ⟨low + 10, 0, none⟩))] t frozen
      | o => o).modify 11 fun
      | .cells _ t frozen => .cells #[.iface 184 (.pointer (some ⟨low + 11, 0, none⟩))] t frozen
      | o => o).modify 12 fun
      | .cells _ t frozen => .cells #[.iface 184 (.pointer (some ⟨low + 12, 0, none⟩))] t frozen
      | o => o).modify 13 fun
      | .cells _ t frozen => .cells #[.iface 132 (.agg #[.pointer (some ⟨14, 78, none⟩)])] t frozen
      | o => o) }
theorem sents_met (os : Os) (args : Array Value) : laidMet Tryz.prog (errList.map fun x => (x.1, .iface "*errors.errorString" (.ptr (.agg [.lit (.string x.2)])))) ((laidOn (World.holding Tryz.prog os ⟨errObjs, #[], []⟩) (World.holding Tryz.prog default ⟨#[], #[], []⟩).heap.size).forCall (fun _ _ => 0) ⟨#[], args, []⟩).memory :=
  laidMet_of_run (ps := [.cell 2 0, .cell ((World.holding Tryz.prog default ⟨#[], #[], []⟩).heap.size + 2) 0, .cell 3 0, .cell ((World.holding Tryz.prog default ⟨#[], #[], []⟩).heap.size + 3) 0, .cell 4 0, .cell ((World.holding Tryz.prog default ⟨#[], #[], []⟩).heap.size + 4) 0, .cell 5 0, .cell ((World.holding Tryz.prog default ⟨#[], #[], []⟩).heap.size + 5) 0, .cell 6 0, .cell ((World.holding Tryz.prog default ⟨#[], #[], []⟩).heap.size + 6) 0, .cell 0 0, .cell ((World.holding Tryz.prog default ⟨#[], #[], []⟩).heap.size + 0) 0, .cell 7 0, .cell ((World.holding Tryz.prog default ⟨#[], #[], []⟩).heap.size + 7) 0, .cell 8 0, .cell ((World.holding Tryz.prog default ⟨#[], #[], []⟩).heap.size + 8) 0, .cell 1 0, .cell ((World.holding Tryz.prog default ⟨#[], #[], []⟩).heap.size + 1) 0, .cell 9 0, .cell ((World.holding Tryz.prog default ⟨#[], #[], []⟩).heap.size + 9) 0, .cell 10 0, .cell ((World.holding Tryz.prog default ⟨#[], #[], []⟩).heap.size + 10) 0, .cell 11 0, .cell ((World.holding Tryz.prog default ⟨#[], #[], []⟩).heap.size + 11) 0, .cell 12 0, .cell ((World.holding Tryz.prog default ⟨#[], #[], []⟩).heap.size + 12) 0]) 8 (by kernel_rfl) (by kernel_rfl) (by kernel_rfl)
theorem all_met (os : Os) (args : Array Value) (l : List (String × DataW Unit)) (hl : l = ("errors.errorType", Rows.laid_errors_errorType) :: errList.map fun x => (x.1, .iface "*errors.errorString" (.ptr (.agg [.lit (.string x.2)])))) : laidMetH Tryz.prog l ((laidOn (World.holding Tryz.prog os ⟨errObjs, #[], []⟩) (World.holding Tryz.prog default ⟨#[], #[], []⟩).heap.size).forCall (fun _ _ => 0) ⟨#[], args, []⟩).memory := by
  subst hl; exact laidMetH_of_parts (sents_met os args) (by kernel_rfl)
end ErrsLaid
end Go.Proofs.YtgehhfncjoogiaaGreatDoor

/-
  FnSyncedCard
-/
import Derived.Test.YtgehhfncjoogiaaGreatDoorSyn12
import Derived.Test.YtgehhfncjoogiaaGreatDoorCards
import Derived.Test.YtgehhfncjoogiaaGreatDoorTie
import Derived.Deep.DeepHandedRow
namespace Go.Proofs.YtgehhfncjoogiaaGreatDoor.fnSynced
open Go.ChangeShapes Go.WideShapes Go.ChangeAt Go.RowKit

theorem list : Rows.fnSyncedRow.laid = ("errors.errorType", Rows.laid_errors_errorType) :: errList.map fun x => (x.1, .iface "*errors.errorString" (.ptr (.agg [.lit (.string x.2)]))) := rfl
theorem reads (os : Os) {H : Type} (enc : TypeId × Value → H) : ∃ ds gs places, DataW.whole enc Tryz.prog ((ErrsLaid.laidOn (World.holding Tryz.prog os ⟨ErrsLaid.errObjs, #[], []⟩) (World.holding Tryz.prog default ⟨#[], #[], []⟩).heap.size).forCall (fun _ _ => 0) ⟨#[], #[.slice none 0 0, .slice none 0 0], []⟩).memory Tryz.f3.params.toList Rows.fnSyncedSpec.vars false (#[.slice none 0 0, .slice none 0 0] : Array Value).toList 8 = some (ds, gs, places) := by
  have h : (DataW.whole enc Tryz.prog ((ErrsLaid.laidOn (World.holding Tryz.prog os ⟨ErrsLaid.errObjs, #[], []⟩) (World.holding Tryz.prog default ⟨#[], #[], []⟩).heap.size).forCall (fun _ _ => 0) ⟨#[], #[.slice none 0 0, .slice none 0 0], []⟩).memory Tryz.f3.params.toList Rows.fnSyncedSpec.vars false (#[.slice none 0 0, .slice none 0 0] : Array Value).toList 8).isSome = true := by kernel_rfl
  obtain ⟨⟨ds, gs, places⟩, hx⟩ := Option.isSome_iff_exists.1 h; exact ⟨ds, gs, places, hx⟩

set_option maxRecDepth 100000 in
theorem lifted (os : Os) (started : os.Started) (H : Type) (enc : TypeId × Value → H) (F : Stop.Interp) :
    ReturnsInHanded {} Tryz.checked os 3 .any ((OpenSpec.ofChange Rows.fnSyncedSpec).preRow enc Tryz.prog Tryz.f3 Rows.fnSyncedRow.domain false Rows.fnSyncedRow.laid) (((OpenSpec.ofChange Rows.fnSyncedSpec).at F).post enc Tryz.prog Tryz.f3 false true false false) := by
  obtain ⟨ds, gs, places, hx⟩ := reads os enc; refine returnsInHanded_of_row (C := Tryz.checked) (s := OpenSpec.ofChange Rows.fnSyncedSpec) ErrsLaid.own started (by kernel_rfl) Tryz.func3
    (witness_row_at (enc := enc) (C := Tryz.checked) false (ErrsLaid.laidOn (World.holding Tryz.prog os ⟨ErrsLaid.errObjs, #[], []⟩) (World.holding Tryz.prog default ⟨#[], #[], []⟩).heap.size) #[.slice none 0 0, .slice none 0 0] rfl (by kernel_rfl) (by kernel_rfl) (by kernel_rfl)
      (OpenSpec.preRow_of_cond 8 hx (by kernel_rfl) (fun k hk => by cases hk) (by kernel_rfl) (ErrsLaid.all_met os _ _ list))) ?_
  intro W base args ds gs before hval hW _ _ _ hL _ _; obtain ⟨ad, hE⟩ := ErrsLaid.errs list hL; exact contract H enc W base args ds gs before hval hW ad hE

theorem said : Rows.FnSyncedSaid :=
  OpenClaim.holds_of_cond 3 Tryz.f3 rfl rfl rfl rfl rfl rfl rfl ⟨rfl, rfl, rfl, rfl, rfl⟩ rfl rfl rfl rfl rfl (by kernel_rfl) Tryz.func3 (by kernel_rfl)
    (of_decide_eq_true (by kernel_rfl)) (by unfold Func.isWrapper; first | (rw [if_pos (by decide +kernel)]; kernel_rfl) | (rw [if_neg (by decide +kernel)]; exact ⟨rfl, rfl⟩))
    (fun os started H enc _ F => by rw [OpenClaim.pre_eq_preRow]; exact lifted os started H enc F)

theorem plain (f : FuncId) (fn : Func) (hf : Tryz.pinned.checked.prog.funcNamed Rows.fnSyncedRow.func = some f) (hfn : Tryz.pinned.checked.prog.funcs[f]? = some fn) :
    true = Tryz.pinned.checked.prog.looks [] ∧ ∀ (j : Nat) t, fn.params[j]? = some t → Tryz.pinned.checked.prog.wantsStandIn t = false := by
  obtain rfl : f = 3 := Option.some.inj ((show Tryz.prog.funcNamed Rows.fnSyncedRow.func = some 3 by kernel_rfl).symm.trans hf) |>.symm
  obtain rfl : fn = Tryz.f3 := (Option.some.inj (Tryz.func3.symm.trans hfn)).symm; refine ⟨by kernel_rfl, fun j t ht => ?_⟩
  have hm : t ∈ Tryz.f3.params.toList := by simpa using Array.mem_of_getElem? ht
  have hall : (Tryz.f3.params.toList.all fun u => !Tryz.prog.wantsStandIn u) = true := by kernel_rfl
  exact (show Tryz.prog.wantsStandIn t = false by simpa using List.all_eq_true.1 hall t hm)
end Go.Proofs.YtgehhfncjoogiaaGreatDoor.fnSynced
namespace Go.Proofs.YtgehhfncjoogiaaGreatDoor
theorem FnSynced_holds : Rows.FnSyncedCardSaid :=
  Claim7.holds_tied_plain_at .later [] _ _ _ _ fnSynced.said (fun _ h => by cases h) (by kernel_rfl) (fun _ h => by cases h) fnSynced_row_tie rfl ⟨rfl, rfl⟩ (by kernel_rfl) rfl fnSynced.plain (by kernel_rfl)
#print axioms FnSynced_holds
end Go.Proofs.YtgehhfncjoogiaaGreatDoor

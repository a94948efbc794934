/-
  FnSessionsCard
-/
import Derived.Test.YtdajcpcajdhplaaDoorSvc25
import Derived.Test.YtdajcpcajdhplaaDoorSvc18
import Derived.Test.YtdajcpcajdhplaaDoorCards
import Derived.Test.YtdajcpcajdhplaaDoorTie
import Derived.Deep.DeepHandedRow
/-
  FnSessions: from the contract to the row and its card (the errors are listed).
-/
namespace Go.Proofs.YtdajcpcajdhplaaDoor.fnSessions
open Go.ChangeShapes Go.WideShapes Go.ChangeAt Go.RowKit

theorem list : Rows.fnSessionsRow.laid = ("errors.errorType", Rows.laid_errors_errorType) :: errList.map fun x => (x.1, .iface "*errors.errorString" (.ptr (.agg [.lit (.string x.2)]))) := rfl
theorem reads (os : Os) {H : Type} (enc : TypeId × Value → H) : ∃ ds gs places, DataW.whole enc Tryd.prog ((ErrsLaid.laidOn (World.holding Tryd.prog os ⟨ErrsLaid.errObjs, #[], []⟩) (World.holding Tryd.prog default ⟨#[], #[], []⟩).heap.size).forCall (fun _ _ => 0) ⟨#[], #[.slice none 0 0], []⟩).memory Tryd.f3.params.toList Rows.fnSessionsSpec.vars false (#[.slice none 0 0] : Array Value).toList 8 = some (ds, gs, places) := by
  have h : (DataW.whole enc Tryd.prog ((ErrsLaid.laidOn (World.holding Tryd.prog os ⟨ErrsLaid.errObjs, #[], []⟩) (World.holding Tryd.prog default ⟨#[], #[], []⟩).heap.size).forCall (fun _ _ => 0) ⟨#[], #[.slice none 0 0], []⟩).memory Tryd.f3.params.toList Rows.fnSessionsSpec.vars false (#[.slice none 0 0] : Array Value).toList 8).isSome = true := by kernel_rfl
  obtain ⟨⟨ds, gs, places⟩, hx⟩ := Option.isSome_iff_exists.1 h; exact ⟨ds, gs, places, hx⟩

set_option maxRecDepth 100000 in
theorem lifted (os : Os) (started : os.Started) (H : Type) (enc : TypeId × Value → H) (F : Stop.Interp) :
    ReturnsInHanded {} Tryd.checked os 3 .any ((OpenSpec.ofChange Rows.fnSessionsSpec).preRow enc Tryd.prog Tryd.f3 Rows.fnSessionsRow.domain false Rows.fnSessionsRow.laid) (((OpenSpec.ofChange Rows.fnSessionsSpec).at F).post enc Tryd.prog Tryd.f3 false true false false) := by
  obtain ⟨ds, gs, places, hx⟩ := reads os enc; refine returnsInHanded_of_row (C := Tryd.checked) (s := OpenSpec.ofChange Rows.fnSessionsSpec) ErrsLaid.own started (by kernel_rfl) Tryd.func3
    (witness_row_at (enc := enc) (C := Tryd.checked) false (ErrsLaid.laidOn (World.holding Tryd.prog os ⟨ErrsLaid.errObjs, #[], []⟩) (World.holding Tryd.prog default ⟨#[], #[], []⟩).heap.size) #[.slice none 0 0] rfl (by kernel_rfl) (by kernel_rfl) (by kernel_rfl)
      (OpenSpec.preRow_of_cond 8 hx (by kernel_rfl) (fun k hk => by cases hk) (by kernel_rfl) (ErrsLaid.all_met os _ _ list))) ?_
  intro W base args ds gs before hval hW _ _ _ hL _ _; obtain ⟨ad, hE⟩ := ErrsLaid.errs list hL; exact contract H enc W base args ds gs before hval hW ad hE

theorem said : Rows.FnSessionsSaid :=
  OpenClaim.holds_of_cond 3 Tryd.f3 rfl rfl rfl rfl rfl rfl rfl ⟨rfl, rfl, rfl, rfl, rfl⟩ rfl rfl rfl rfl rfl (by kernel_rfl) Tryd.func3 (by kernel_rfl)
    (of_decide_eq_true (by kernel_rfl)) (by unfold Func.isWrapper; first | (rw [if_pos (by decide +kernel)]; kernel_rfl) | (rw [if_neg (by decide +kernel)]; exact ⟨rfl, rfl⟩))
    (fun os started H enc _ F => by rw [OpenClaim.pre_eq_preRow]; exact lifted os started H enc F)

theorem plain (f : FuncId) (fn : Func) (hf : Tryd.pinned.checked.prog.funcNamed Rows.fnSessionsRow.func = some f) (hfn : Tryd.pinned.checked.prog.funcs[f]? = some fn) :
    true = Tryd.pinned.checked.prog.looks [] ∧ ∀ (j : Nat) t, fn.params[j]? = some t → Tryd.pinned.checked.prog.wantsStandIn t = false := by
  obtain rfl : f = 3 := Option.some.inj ((show Tryd.prog.funcNamed Rows.fnSessionsRow.func = some 3 by kernel_rfl).symm.trans hf) |>.symm
  obtain rfl : fn = Tryd.f3 := (Option.some.inj (Tryd.func3.symm.trans hfn)).symm; refine ⟨by kernel_rfl, fun j t ht => ?_⟩
  have hm : t ∈ Tryd.f3.params.toList := by simpa using Array.mem_of_getElem? ht
  have hall : (Tryd.f3.params.toList.all fun u => !Tryd.prog.wantsStandIn u) = true := by kernel_rfl
  exact (show Tryd.prog.wantsStandIn t = false by simpa using List.all_eq_true.1 hall t hm)
end Go.Proofs.YtdajcpcajdhplaaDoor.fnSessions
namespace Go.Proofs.YtdajcpcajdhplaaDoor
theorem FnSessions_holds : Rows.FnSessionsCardSaid :=
  Claim7.holds_tied_plain_at .later [] _ _ _ _ fnSessions.said (fun _ h => by cases h) (by kernel_rfl) (fun _ h => by cases h) fnSessions_row_tie rfl ⟨rfl, rfl⟩ (by kernel_rfl) rfl fnSessions.plain (by kernel_rfl)
#print axioms FnSessions_holds
end Go.Proofs.YtdajcpcajdhplaaDoor

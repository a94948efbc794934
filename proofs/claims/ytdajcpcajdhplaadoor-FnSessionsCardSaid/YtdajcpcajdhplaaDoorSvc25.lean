/-
  FnSessionsLaw
-/
import Derived.Test.YtdajcpcajdhplaaDoorSvc24
import Derived.Test.YtdajcpcajdhplaaDoorSvc18
import Derived.ChangeMaps5
/-
  FnSessions: from the walk to the row's contract.
-/
namespace Go.Proofs.YtdajcpcajdhplaaDoor.fnSessions
open Go.ChangeShapes Go.WideShapes Go.ChangeAt Go.RowKit

theorem cellsU8 : Tryd.prog.cellsOf 5 = 1 := by kernel_rfl
set_option maxRecDepth 100000 in
theorem contract (H : Type) (enc : TypeId × Value → H) (W : World) (base : Nat) (args : Array Value) (ds gs : List (DataW H)) (before : List MemPlace)
    (hval : ∀ (j : Nat) t v, Tryd.f3.params[j]? = some t → args[j]? = some v → Value.okWide Tryd.prog W .any base t v)
    (hW : DataW.Whole enc Tryd.prog Tryd.f3.params.toList Rows.fnSessionsSpec.vars false W args.toList ds gs before) (ad : Nat → Addr) (hE : ErrsAt W ad) :
    Calls Tryd.prog 3 args W fun e W' => ∃ v, e = .returned v ∧ Rows.fnSessionsSpec.post enc Tryd.prog Tryd.f3 false true false false W args v W' := by
  have hW' := hW; obtain ⟨p, q, hA0, hV, rfl, hfz, hnd⟩ := hW; have hA : DataW.TrodAll enc Tryd.prog W 0 (fun _ => true) true Tryd.f3.params.toList args.toList ds p := hA0; rw [Tryd.params3] at hA hval; obtain ⟨v0, vs0, d0, ds0, p0, q0, hargs, rfl, rfl, h0, r0⟩ := trodAll_cons hA; obtain ⟨rfl, rfl, rfl⟩ := trodAll_nil r0
  obtain rfl : args = #[v0] := by cases args; simp_all
  obtain ⟨a1, len1, cap1, rfl⟩ := okWide_slice Tryd.underlying22 (hval 0 22 v0 rfl rfl); obtain ⟨zs, hs, hmx⟩ := slb_open Tryd.underlying22 Tryd.underlying5 cellsU8 h0; have hgl : gs.length = 12 := ErrsLaid.vars_len _ _ _ hV
  refine (walk a1 len1 cap1 zs ad W hE hs hmx).mono fun e W' ⟨he, hgr⟩ => ?_
  subst he
  match gs, hgl with
  | [g1, g2, g3, g4, g5, g6, g7, g8, g9, g10, g11, g12], _ =>
    exact ⟨_, rfl, Post.law ErrsLaid.laidOut (below_of_grown hgr) hW' (by kernel_rfl) (ErrsLaid.vars_ok hE _ rfl) (tb := 4) (by kernel_rfl) Tryd.underlying4 rfl⟩
end Go.Proofs.YtdajcpcajdhplaaDoor.fnSessions

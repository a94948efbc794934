/-
  FnFrames: the law.
-/
import Derived.Test.YteacgefklafofaaDoorCrcLaw
import Derived.Test.YteacgefklafofaaDoorPost
import Derived.Test.YteacgefklafofaaDoorOpenB
import Derived.Test.YteacgefklafofaaDoorTabLaid
import Derived.Test.YteacgefklafofaaDoorFramesWalk
namespace Go.Proofs.YteacgefklafofaaDoor.fnFrames
open Go.ChangeShapes Go.WideShapes Go.ChangeAt Go.RowKit

theorem cellsU8 : Tryd.prog.cellsOf 5 = 1 := by kernel_rfl
theorem contract (H : Type) (enc : TypeId × Value → H) (W : World) (base : Nat) (args : Array Value) (ds gs : List (DataW H)) (before : List MemPlace)
    (hval : ∀ (j : Nat) t v, Tryd.f7.params[j]? = some t → args[j]? = some v → Value.okWide Tryd.prog W .any base t v)
    (hW : DataW.Whole enc Tryd.prog Tryd.f7.params.toList Rows.fnFramesSpec.vars false W args.toList ds gs before) (hT : Tab W) :
    Calls Tryd.prog 7 args W fun e W' => ∃ v, e = .returned v ∧ Rows.fnFramesSpec.post enc Tryd.prog Tryd.f7 false true false false W args v W' := by
  have hW' := hW
  obtain ⟨p, q, hA0, hV, rfl, hfz, hnd⟩ := hW
  have hA : DataW.TrodAll enc Tryd.prog W 0 (fun _ => true) true Tryd.f7.params.toList args.toList ds p := hA0
  rw [Tryd.params7] at hA hval
  obtain ⟨v0, vs0, d0, ds0, p0, q0, hargs, rfl, rfl, h0, r0⟩ := trodAll_cons hA
  obtain ⟨rfl, rfl, rfl⟩ := trodAll_nil r0
  obtain rfl : args = #[v0] := by cases args; simp_all
  obtain ⟨a0, len0, cap0, rfl⟩ := okWide_slice Tryd.underlying22 (hval 0 22 v0 rfl rfl)
  obtain ⟨zs, hs, hmx⟩ := slb_open Tryd.underlying22 Tryd.underlying5 cellsU8 h0
  have hV1 : DataW.TrodVars enc Tryd.prog W (fun _ => true) [TabLaid.nm] gs q := hV
  obtain ⟨g, t, cs, fuel, d, p', rfl, hg, ht, hvar, hd, rfl⟩ := trodVars_one hV1
  refine (frames_true a0 len0 cap0 zs W hs hT hmx).mono fun e W' ⟨he, hgr⟩ => ?_
  subst he
  exact ⟨_, rfl, Post.law TabLaid.laidOut (below_of_grown hgr) hW' (by kernel_rfl) (TabLaid.vars_ok hT) (tb := 4) (by kernel_rfl) Tryd.underlying4 rfl⟩
end Go.Proofs.YteacgefklafofaaDoor.fnFrames

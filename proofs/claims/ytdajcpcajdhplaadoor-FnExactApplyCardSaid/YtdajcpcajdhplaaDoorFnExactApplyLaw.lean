/-
  FnExactApply: from the walk to the row's contract.
-/
import Derived.Test.YtdajcpcajdhplaaDoorFnExactApplyWalk
import Derived.Test.YtdajcpcajdhplaaDoorErrsLaid
import Derived.ChangeMaps5
import Derived.Lib.SmallJoins
namespace Go.Proofs.YtdajcpcajdhplaaDoor.fnExactApply
open Go.ChangeShapes Go.WideShapes Go.ChangeAt Go.RowKit

theorem cellsU8 : Tryd.prog.cellsOf 5 = 1 := by kernel_rfl
theorem cellsSv : Tryd.prog.cellsOf 50 = 3 := by kernel_rfl
set_option maxRecDepth 100000 in
theorem contract (H : Type) (enc : TypeId × Value → H) (W : World) (base : Nat) (args : Array Value) (ds gs : List (DataW H)) (before : List MemPlace)
    (hval : ∀ (j : Nat) t v, Tryd.f4.params[j]? = some t → args[j]? = some v → Value.okWide Tryd.prog W .any base t v)
    (hW : DataW.Whole enc Tryd.prog Tryd.f4.params.toList Rows.fnExactApplySpec.vars false W args.toList ds gs before) (ad : Nat → Addr) (hE : ErrsAt W ad) :
    Calls Tryd.prog 4 args W fun e W' => ∃ v, e = .returned v ∧ Rows.fnExactApplySpec.post enc Tryd.prog Tryd.f4 false true false false W args v W' := by
  have hW' := hW
  obtain ⟨p, q, hA0, hV, rfl, hfz, hnd⟩ := hW
  have hA : DataW.TrodAll enc Tryd.prog W 0 (fun _ => true) true Tryd.f4.params.toList args.toList ds p := hA0
  rw [Tryd.params4] at hA hval
  obtain ⟨v0, vs0, d0, ds0, p0, q0, hargs, rfl, rfl, h0, r0⟩ := trodAll_cons hA
  obtain ⟨v1, vs1, d1, ds1, p1, q1, hargs1, rfl, rfl, h1, r1⟩ := trodAll_cons r0
  obtain ⟨rfl, rfl, rfl⟩ := trodAll_nil r1
  obtain rfl : args = #[v0, v1] := by cases args; simp_all
  obtain ⟨c0, c1, c2, y0, y1, y2, m, rfl, hd0, hp0, hy0, hy1, hy2⟩ := Joins.open_agg3 Tryd.underlying50 (by kernel_rfl) cellsSv (hval 0 50 v0 rfl rfl) h0
  obtain ⟨a, e0, -, wa⟩ := DataW.trod_int Tryd.underlying3 hy0
  simp at e0
  subst e0
  obtain ⟨ko, kn, kc, rfl⟩ : ∃ oa len cap, c1 = .slice oa len cap := by
    rcases DataW.trod_slice Tryd.underlying47 hy1 with ⟨h, _⟩ | ⟨x, l, c, _, _, _, _, h, _⟩
    · simp at h; exact ⟨none, 0, 0, h⟩
    · simp at h; exact ⟨some x, l, c, h⟩
  obtain ⟨so, sn, sc, rfl⟩ : ∃ oa len cap, c2 = .slice oa len cap := by
    rcases DataW.trod_slice Tryd.underlying48 hy2 with ⟨h, _⟩ | ⟨x, l, c, _, _, _, _, h, _⟩
    · simp at h; exact ⟨none, 0, 0, h⟩
    · simp at h; exact ⟨some x, l, c, h⟩
  obtain ⟨A, hAr, hAl, hAm, -⟩ := openItemS hy1
  obtain ⟨B, hBr, hBl, hBm, -⟩ := openSessionS hy2
  subst hAl
  subst hBl
  obtain ⟨a1, len1, cap1, rfl⟩ := okWide_slice Tryd.underlying22 (hval 1 22 v1 rfl rfl)
  obtain ⟨zs, hs, hmx⟩ := slb_open Tryd.underlying22 Tryd.underlying5 cellsU8 h1
  have hgl : gs.length = 12 := ErrsLaid.vars_len _ _ _ hV
  refine (walk a ko kc A so sc B a1 len1 cap1 zs ad W hE hAr hBr hAm hBm hs hmx).mono fun e W' ⟨he, hgr⟩ => ?_
  subst he
  match gs, hgl with
  | [g1, g2, g3, g4, g5, g6, g7, g8, g9, g10, g11, g12], _ =>
    exact ⟨_, rfl, Post.law ErrsLaid.laidOut (below_of_grown hgr) hW' (by kernel_rfl) (ErrsLaid.vars_ok hE _ rfl) (tb := 4) (by kernel_rfl) Tryd.underlying4 rfl⟩
end Go.Proofs.YtdajcpcajdhplaaDoor.fnExactApply

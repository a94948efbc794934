/-
  FnExactCrc32c: the law's walk, and what it gives for every argument.
-/
import Derived.Test.YteacgefklafofaaDoorCrcLaw
import Derived.Test.YteacgefklafofaaDoorPost
import Derived.Test.YteacgefklafofaaDoorOpenB
import Derived.Test.YteacgefklafofaaDoorTabLaid
namespace Go.Proofs.YteacgefklafofaaDoor.fnExactCrc32c
open Go.ChangeShapes Go.WideShapes Go.ChangeAt Go.RowKit

set_option maxHeartbeats 800000 in
theorem walk (oa : Option Addr) (len cap : Nat) (zs : List Nat) (w : World) (hsl : SlB w oa len zs) (ht : Tab w) (hmx : len ≤ maxLen) :
    Calls Tryd.prog 3 #[.slice oa len cap] w fun e w' => e = .returned (.bool true) ∧ w.grownBy w' none := by
  unfold maxLen at hmx
  by_cases hbig : 1048576 < len
  · clear hsl ht
    go_enter Tryd.func3, Tryd.ntmps3
    go_wp2
    go_ret
    exact ⟨rfl, grownBy_refl _ _⟩
  · have HS : Hid (SlB w oa len zs) := hsl
    have HT : Hid (Tab w) := ht
    have hl : zs.length = len := hsl.1
    clear hsl ht
    go_enter Tryd.func3, Tryd.ntmps3
    go_wp2_with fail
    refine (toByteS_any oa len cap zs _ HS.out (by omega)).mono ?_
    rintro e w1 ⟨rfl, hO1, hG1⟩
    have H1 : Hid (Own w1 5 w.heap.size zs ∧ w.grownBy w1 none) := ⟨hO1, hG1⟩
    clear hO1 hG1
    go_wp2_with fail
    refine (specCrc_any _ len len zs _ (H1.out.1.sl len hl) (by omega)).mono ?_
    rintro e w2 ⟨rfl, rfl⟩
    go_wp2_with fail
    refine (toByteS_any oa len cap zs _ (HS.out.grown0 H1.out.2) (by omega)).mono ?_
    rintro e w3 ⟨rfl, hO3, hG3⟩
    have H3 : Hid (Own w3 5 w2.heap.size zs ∧ w.grownBy w3 none) := ⟨hO3, grownBy_trans H1.out.2 hG3⟩
    clear hO3 hG3
    go_wp2_with fail
    refine (implCrc_any _ len len zs _ (H3.out.1.sl len hl) (Tab_grown HT.out H3.out.2) (by omega)).mono ?_
    rintro e w4 ⟨rfl, rfl⟩
    go_wp2_with fail
    refine (toByteS_any oa len cap zs _ (HS.out.grown0 H3.out.2) (by omega)).mono ?_
    rintro e w5 ⟨rfl, hO5, hG5⟩
    have H5 : Hid (Own w5 5 w4.heap.size zs ∧ Own w5 5 w2.heap.size zs ∧ w.grownBy w5 none) := ⟨hO5, H3.out.1.grown hG5 (by simp), grownBy_trans H3.out.2 hG5⟩
    clear hO5 hG5
    go_wp2_with fail
    refine (eqByteS_same _ _ len len len zs _ (H5.out.2.1.sl len hl) (H5.out.1.sl len hl) (by omega)).mono ?_
    rintro e w6 ⟨rfl, hG6⟩
    have H6 : Hid (w.grownBy w6 none) := grownBy_trans H5.out.2.2 hG6
    clear hG6
    go_wp2
    go_ret
    exact ⟨rfl, H6.out⟩

theorem cellsU8 : Tryd.prog.cellsOf 5 = 1 := by kernel_rfl
theorem contract (H : Type) (enc : TypeId × Value → H) (W : World) (base : Nat) (args : Array Value) (ds gs : List (DataW H)) (before : List MemPlace)
    (hval : ∀ (j : Nat) t v, Tryd.f3.params[j]? = some t → args[j]? = some v → Value.okWide Tryd.prog W .any base t v)
    (hW : DataW.Whole enc Tryd.prog Tryd.f3.params.toList Rows.fnExactCrc32cSpec.vars false W args.toList ds gs before) (hT : Tab W) :
    Calls Tryd.prog 3 args W fun e W' => ∃ v, e = .returned v ∧ Rows.fnExactCrc32cSpec.post enc Tryd.prog Tryd.f3 false true false false W args v W' := by
  have hW' := hW
  obtain ⟨p, q, hA0, hV, rfl, hfz, hnd⟩ := hW
  have hA : DataW.TrodAll enc Tryd.prog W 0 (fun _ => true) true Tryd.f3.params.toList args.toList ds p := hA0
  rw [Tryd.params3] at hA hval
  obtain ⟨v0, vs0, d0, ds0, p0, q0, hargs, rfl, rfl, h0, r0⟩ := trodAll_cons hA
  obtain ⟨rfl, rfl, rfl⟩ := trodAll_nil r0
  obtain rfl : args = #[v0] := by cases args; simp_all
  obtain ⟨a0, len0, cap0, rfl⟩ := okWide_slice Tryd.underlying22 (hval 0 22 v0 rfl rfl)
  obtain ⟨zs, hs, hmx⟩ := slb_open Tryd.underlying22 Tryd.underlying5 cellsU8 h0
  have hV1 : DataW.TrodVars enc Tryd.prog W (fun _ => true) [TabLaid.nm] gs q := hV
  obtain ⟨g, t, cs, fuel, d, p', rfl, hg, ht, hvar, hd, rfl⟩ := trodVars_one hV1
  refine (walk a0 len0 cap0 zs W hs hT hmx).mono fun e W' ⟨he, hgr⟩ => ?_
  subst he
  exact ⟨_, rfl, Post.law TabLaid.laidOut (below_of_grown hgr) hW' (by kernel_rfl) (TabLaid.vars_ok hT) (tb := 4) (by kernel_rfl) Tryd.underlying4 rfl⟩
end Go.Proofs.YteacgefklafofaaDoor.fnExactCrc32c

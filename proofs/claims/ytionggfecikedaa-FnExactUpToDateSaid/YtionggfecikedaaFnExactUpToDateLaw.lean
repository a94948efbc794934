/-
  FnExactUpToDate: both functions, the law's walk, and the row.
-/
import Derived.Test.YtionggfecikedaaRows
import Derived.Test.YtionggfecikedaaBase
import Derived.Test.YtionggfecikedaaPost
import Derived.ChangeMaps5
namespace Go.Proofs.Ytionggfecikedaa
open Go.RowKit

/-- may a log that ends at (t, i) lead one that ends at (lt, li)? -/
def leads (lt li t i : Int) : Bool := decide (lt < t) || (decide (t = lt) && decide (li ≤ i))
set_option maxHeartbeats 400000 in
theorem specUp_any (lt li t i : Int) (w : World) :
    Calls Try.prog 11 #[.int .i64 lt, .int .i64 li, .int .i64 t, .int .i64 i] w fun e w' => e = .returned (.bool (leads lt li t i)) ∧ w' = w := by
  by_cases h : t = lt
  · subst h
    by_cases h2 : li ≤ i
    · go_enter Try.func11, Try.ntmps11
      go_wp2
      go_ret
      exact ⟨by simp [leads, h2], rfl⟩
    · go_enter Try.func11, Try.ntmps11
      go_wp2
      go_ret
      exact ⟨by simp [leads, h2], rfl⟩
  · by_cases h2 : lt < t
    · go_enter Try.func11, Try.ntmps11
      go_wp2
      go_ret
      exact ⟨by simp [leads, h2], rfl⟩
    · go_enter Try.func11, Try.ntmps11
      go_wp2
      go_ret
      exact ⟨by simp [leads, h2, h], rfl⟩
set_option maxHeartbeats 400000 in
theorem implUp_any (lt li t i : Int) (w : World) :
    Calls Try.prog 12 #[.int .i64 lt, .int .i64 li, .int .i64 t, .int .i64 i] w fun e w' => e = .returned (.bool (leads lt li t i)) ∧ w' = w := by
  by_cases h2 : lt < t
  · go_enter Try.func12, Try.ntmps12
    go_wp2
    go_ret
    exact ⟨by simp [leads, h2], rfl⟩
  · by_cases h : t = lt
    · subst h
      by_cases h3 : li ≤ i
      · go_enter Try.func12, Try.ntmps12
        go_wp2
        go_ret
        exact ⟨by simp [leads, h3], rfl⟩
      · go_enter Try.func12, Try.ntmps12
        go_wp2
        go_ret
        exact ⟨by simp [leads, h3], rfl⟩
    · go_enter Try.func12, Try.ntmps12
      go_wp2
      go_ret
      exact ⟨by simp [leads, h2, h], rfl⟩
end Go.Proofs.Ytionggfecikedaa
namespace Go.Proofs.Ytionggfecikedaa.fnExactUpToDate
open Go.ChangeShapes Go.WideShapes Go.ChangeAt Go.RowKit
set_option maxHeartbeats 400000 in
theorem walk (lt li t i : Int) (w : World) :
    Calls Try.prog 3 #[.int .i64 lt, .int .i64 li, .int .i64 t, .int .i64 i] w fun e w' => e = .returned (.bool true) ∧ w' = w := by
  have H1 : Hid (Calls _ _ _ _ _) := specUp_any lt li t i w
  have H2 : Hid (Calls _ _ _ _ _) := implUp_any lt li t i w
  generalize leads lt li t i = x at H1 H2
  go_enter Try.func3, Try.ntmps3
  go_wp2_with fail
  refine H1.out.mono ?_
  clear H1
  rintro e w1 ⟨rfl, rfl⟩
  go_wp2_with fail
  refine H2.out.mono ?_
  clear H2
  rintro e w2 ⟨rfl, rfl⟩
  cases x <;> (go_wp2; go_ret; exact ⟨rfl, rfl⟩)

theorem own : ownKnob Try.prog.godebug = none := by kernel_rfl
theorem laidOut : laidOutB Try.prog = true := by kernel_rfl
set_option maxRecDepth 100000 in
theorem lifted (os : Os) (started : os.Started) (H : Type) (enc : TypeId × Value → H) :
    ReturnsInHanded {} Try.checked os 3 .any (Rows.fnExactUpToDateSpec.pre6 enc Try.prog Try.f3 Rows.fnExactUpToDateRow.domain false) (Rows.fnExactUpToDateSpec.post enc Try.prog Try.f3 false true false false) := by
  refine returnsInHanded_of_change (C := Try.checked) own started (by kernel_rfl) Try.func3
    (ChangeSpec.witness6 (enc := enc) (C := Try.checked) false ⟨#[], #[.int .i64 0, .int .i64 0, .int .i64 0, .int .i64 0], []⟩ 8 (by kernel_rfl) (by kernel_rfl) (by kernel_rfl) (by kernel_rfl)) ?_
  intro W base args ds gs before hval0 hW hcnd _
  have hval : ∀ (j : Nat) t v, Try.f3.params[j]? = some t → args[j]? = some v → Value.okWide Try.prog W .any base t v := hval0
  have hW' := hW
  obtain ⟨p, q, hA0, hV, rfl, hfz, hnd⟩ := hW
  have hA : DataW.TrodAll enc Try.prog W 0 (fun _ => true) true Try.f3.params.toList args.toList ds p := hA0
  rw [Try.params3] at hA hval
  obtain ⟨v0, vs0, d0, ds0, p0, q0, hargs, rfl, rfl, h0, r0⟩ := trodAll_cons hA
  obtain ⟨v1, vs1, d1, ds1, p1, q1, rfl, rfl, rfl, h1, r1⟩ := trodAll_cons r0
  obtain ⟨v2, vs2, d2, ds2, p2, q2, rfl, rfl, rfl, h2, r2⟩ := trodAll_cons r1
  obtain ⟨v3, vs3, d3, ds3, p3, q3, rfl, rfl, rfl, h3, r3⟩ := trodAll_cons r2
  obtain ⟨rfl, rfl, rfl⟩ := trodAll_nil r3
  obtain rfl : args = #[v0, v1, v2, v3] := by cases args; simp_all
  obtain ⟨rfl, rfl⟩ := trodVars_none hV
  obtain ⟨n0, rfl⟩ := okWide_int Try.underlying3 (hval 0 3 v0 rfl rfl)
  obtain ⟨n1, rfl⟩ := okWide_int Try.underlying3 (hval 1 3 v1 rfl rfl)
  obtain ⟨n2, rfl⟩ := okWide_int Try.underlying3 (hval 2 3 v2 rfl rfl)
  obtain ⟨n3, rfl⟩ := okWide_int Try.underlying3 (hval 3 3 v3 rfl rfl)
  refine (walk n0 n1 n2 n3 W).mono fun e W' ⟨he, hw⟩ => ?_
  subst he
  subst hw
  exact ⟨_, rfl, Post.law laidOut (Below.refl _ _) hW' (by kernel_rfl) (by kernel_rfl) (tb := 4) (by kernel_rfl) Try.underlying4 rfl⟩
end Go.Proofs.Ytionggfecikedaa.fnExactUpToDate
namespace Go.Proofs.Ytionggfecikedaa
theorem FnExactUpToDate_holds : Rows.FnExactUpToDateSaid :=
  OpenClaim.holds_of_wide 3 Try.f3 rfl rfl rfl rfl rfl rfl rfl ⟨rfl, rfl, rfl, rfl, rfl⟩ rfl rfl rfl rfl rfl (by kernel_rfl) Try.func3 (by kernel_rfl)
    (of_decide_eq_true (by kernel_rfl)) (by unfold Func.isWrapper; first | (rw [if_pos (by decide +kernel)]; kernel_rfl) | (rw [if_neg (by decide +kernel)]; exact ⟨rfl, rfl⟩))
    (fun os started H enc _ => fnExactUpToDate.lifted os started H enc)
#print axioms FnExactUpToDate_holds
end Go.Proofs.Ytionggfecikedaa

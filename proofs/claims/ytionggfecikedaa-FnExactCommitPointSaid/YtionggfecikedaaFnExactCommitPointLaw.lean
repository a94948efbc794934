/-
  FnExactCommitPoint: the law's walk, and the row.
-/
import Derived.Test.YtionggfecikedaaMost
import Derived.Test.YtionggfecikedaaPost
import Derived.ChangeMaps5
namespace Go.Proofs.Ytionggfecikedaa.fnExactCommitPoint
open Go.ChangeShapes Go.WideShapes Go.ChangeAt Go.RowKit
set_option maxHeartbeats 1000000 in
theorem walk (base term commit : Int) (oa ob : Option Addr) (la lb ca cb : Nat) (ms ts : List Int) (w : World) (ha : SlI w oa la ms) (hb : SlI w ob lb ts) (hma : la ≤ maxLen) (hmb : lb ≤ maxLen) :
    Calls Try.prog 4 #[.slice oa la ca, .slice ob lb cb, .int .i64 base, .int .i64 term, .int .i64 commit] w fun e w' => e = .returned (.bool true) ∧ w.grownBy w' none := by
  unfold maxLen at hma hmb
  by_cases h1 : 1048576 < la
  · clear ha hb
    go_enter Try.func4, Try.ntmps4
    go_wp2
    go_ret
    exact ⟨rfl, grownBy_refl _ _⟩
  · by_cases h2 : 1048576 < lb
    · clear ha hb
      go_enter Try.func4, Try.ntmps4
      go_wp2
      go_ret
      exact ⟨rfl, grownBy_refl _ _⟩
    · have HA : Hid (SlI w oa la ms) := ha
      have HB : Hid (SlI w ob lb ts) := hb
      have hla : ms.length = la := ha.1
      have hlb : ts.length = lb := hb.1
      clear ha hb
      obtain ⟨r, hr⟩ : ∃ r, commitR ms ts base term commit = r := ⟨_, rfl⟩
      have HR : Hid (commitR ms ts base term commit = r) := hr
      clear hr
      go_enter Try.func4, Try.ntmps4
      go_wp2_with fail
      refine (toIntS_any oa la ca ms _ HA.out (by omega)).mono ?_
      rintro e w1 ⟨rfl, hO1, hG1⟩
      have H1 : Hid (OwnI w1 3 w.heap.size ms ∧ w.grownBy w1 none) := ⟨hO1, hG1⟩
      clear hO1 hG1
      go_wp2_with fail
      refine (toIntS_any ob lb cb ts _ (HB.out.grown0 H1.out.2) (by omega)).mono ?_
      rintro e w2 ⟨rfl, hO2, hG2⟩
      have H2 : Hid (OwnI w2 3 w.heap.size ms ∧ OwnI w2 3 w1.heap.size ts ∧ w.grownBy w2 none) := ⟨H1.out.1.grown hG2 (by simp), hO2, grownBy_trans H1.out.2 hG2⟩
      clear hO2 hG2 H1
      go_wp2_with fail
      refine (specCommit_any base term commit _ _ la lb la lb ms ts _ (H2.out.1.sl la hla) (H2.out.2.1.sl lb hlb) (by omega) (by omega)).mono ?_
      rw [HR.out]
      rintro e w3 ⟨rfl, rfl⟩
      go_wp2_with fail
      refine (toIntS_any oa la ca ms _ (HA.out.grown0 H2.out.2.2) (by omega)).mono ?_
      rintro e w4 ⟨rfl, hO4, hG4⟩
      have H4 : Hid (OwnI w4 3 w3.heap.size ms ∧ w.grownBy w4 none) := ⟨hO4, grownBy_trans H2.out.2.2 hG4⟩
      clear hO4 hG4 H2
      go_wp2_with fail
      refine (toIntS_any ob lb cb ts _ (HB.out.grown0 H4.out.2) (by omega)).mono ?_
      rintro e w5 ⟨rfl, hO5, hG5⟩
      have H5 : Hid (OwnI w5 3 w3.heap.size ms ∧ OwnI w5 3 w4.heap.size ts ∧ w.grownBy w5 none) := ⟨H4.out.1.grown hG5 (by simp), hO5, grownBy_trans H4.out.2 hG5⟩
      clear hO5 hG5 H4
      go_wp2_with fail
      refine (implCommit_any base term commit _ _ la lb la lb ms ts _ (H5.out.1.sl la hla) (H5.out.2.1.sl lb hlb) (by omega) (by omega)).mono ?_
      rw [HR.out]
      rintro e w6 ⟨rfl, hG6⟩
      have H6 : Hid (OwnI w6 3 w3.heap.size ms ∧ OwnI w6 3 w4.heap.size ts ∧ w.grownBy w6 none) := ⟨H5.out.1.grown hG6 (by simp), H5.out.2.1.grown hG6 (by simp), grownBy_trans H5.out.2.2 hG6⟩
      clear hG6 H5
      go_wp2_with fail
      refine (toIntS_any oa la ca ms _ (HA.out.grown0 H6.out.2.2) (by omega)).mono ?_
      rintro e w7 ⟨rfl, hO7, hG7⟩
      have H7 : Hid (OwnI w7 3 w6.heap.size ms ∧ OwnI w7 3 w3.heap.size ms ∧ OwnI w7 3 w4.heap.size ts ∧ w.grownBy w7 none) := ⟨hO7, H6.out.1.grown hG7 (by simp), H6.out.2.1.grown hG7 (by simp), grownBy_trans H6.out.2.2 hG7⟩
      clear hO7 hG7 H6
      go_wp2_with fail
      refine (eqIntS_same _ _ la la la ms _ (H7.out.2.1.sl la hla) (H7.out.1.sl la hla) (by omega)).mono ?_
      rintro e w8 ⟨rfl, hG8⟩
      have H8 : Hid (OwnI w8 3 w4.heap.size ts ∧ w.grownBy w8 none) := ⟨H7.out.2.2.1.grown hG8 (by simp), grownBy_trans H7.out.2.2.2 hG8⟩
      clear hG8 H7
      go_wp2_with fail
      refine (toIntS_any ob lb cb ts _ (HB.out.grown0 H8.out.2) (by omega)).mono ?_
      rintro e w9 ⟨rfl, hO9, hG9⟩
      have H9 : Hid (OwnI w9 3 w8.heap.size ts ∧ OwnI w9 3 w4.heap.size ts ∧ w.grownBy w9 none) := ⟨hO9, H8.out.1.grown hG9 (by simp), grownBy_trans H8.out.2 hG9⟩
      clear hO9 hG9 H8
      go_wp2_with fail
      refine (eqIntS_same _ _ lb lb lb ts _ (H9.out.2.1.sl lb hlb) (H9.out.1.sl lb hlb) (by omega)).mono ?_
      rintro e w10 ⟨rfl, hG10⟩
      have H10 : Hid (w.grownBy w10 none) := grownBy_trans H9.out.2.2 hG10
      clear hG10 H9
      go_wp2
      go_ret
      exact ⟨rfl, H10.out⟩

theorem cellsInt : Try.prog.cellsOf 3 = 1 := by kernel_rfl
theorem own : ownKnob Try.prog.godebug = none := by kernel_rfl
theorem laidOut : laidOutB Try.prog = true := by kernel_rfl
set_option maxRecDepth 100000 in
theorem lifted (os : Os) (started : os.Started) (H : Type) (enc : TypeId × Value → H) :
    ReturnsInHanded {} Try.checked os 4 .any (Rows.fnExactCommitPointSpec.pre6 enc Try.prog Try.f4 Rows.fnExactCommitPointRow.domain false) (Rows.fnExactCommitPointSpec.post enc Try.prog Try.f4 false true false false) := by
  refine returnsInHanded_of_change (C := Try.checked) own started (by kernel_rfl) Try.func4
    (ChangeSpec.witness6 (enc := enc) (C := Try.checked) false ⟨#[], #[.slice none 0 0, .slice none 0 0, .int .i64 0, .int .i64 0, .int .i64 0], []⟩ 8 (by kernel_rfl) (by kernel_rfl) (by kernel_rfl) (by kernel_rfl)) ?_
  intro W base args ds gs before hval0 hW hcnd _
  have hval : ∀ (j : Nat) t v, Try.f4.params[j]? = some t → args[j]? = some v → Value.okWide Try.prog W .any base t v := hval0
  have hW' := hW
  obtain ⟨p, q, hA0, hV, rfl, hfz, hnd⟩ := hW
  have hA : DataW.TrodAll enc Try.prog W 0 (fun _ => true) true Try.f4.params.toList args.toList ds p := hA0
  rw [Try.params4] at hA hval
  obtain ⟨v0, vs0, d0, ds0, p0, q0, hargs, rfl, rfl, h0, r0⟩ := trodAll_cons hA
  obtain ⟨v1, vs1, d1, ds1, p1, q1, rfl, rfl, rfl, h1, r1⟩ := trodAll_cons r0
  obtain ⟨v2, vs2, d2, ds2, p2, q2, rfl, rfl, rfl, h2, r2⟩ := trodAll_cons r1
  obtain ⟨v3, vs3, d3, ds3, p3, q3, rfl, rfl, rfl, h3, r3⟩ := trodAll_cons r2
  obtain ⟨v4, vs4, d4, ds4, p4, q4, rfl, rfl, rfl, h4, r4⟩ := trodAll_cons r3
  obtain ⟨rfl, rfl, rfl⟩ := trodAll_nil r4
  obtain rfl : args = #[v0, v1, v2, v3, v4] := by cases args; simp_all
  obtain ⟨rfl, rfl⟩ := trodVars_none hV
  obtain ⟨a0, l0, c0, rfl⟩ := okWide_slice Try.underlying23 (hval 0 23 v0 rfl rfl)
  obtain ⟨a1, l1, c1, rfl⟩ := okWide_slice Try.underlying23 (hval 1 23 v1 rfl rfl)
  obtain ⟨n2, rfl⟩ := okWide_int Try.underlying3 (hval 2 3 v2 rfl rfl)
  obtain ⟨n3, rfl⟩ := okWide_int Try.underlying3 (hval 3 3 v3 rfl rfl)
  obtain ⟨n4, rfl⟩ := okWide_int Try.underlying3 (hval 4 3 v4 rfl rfl)
  obtain ⟨ms, hs0, hm0⟩ := sli_open Try.underlying23 Try.underlying3 cellsInt h0
  obtain ⟨ts, hs1, hm1⟩ := sli_open Try.underlying23 Try.underlying3 cellsInt h1
  refine (walk n2 n3 n4 a0 a1 l0 l1 c0 c1 ms ts W hs0 hs1 hm0 hm1).mono fun e W' ⟨he, hgr⟩ => ?_
  subst he
  exact ⟨_, rfl, Post.law laidOut (below_of_grown hgr) hW' (by kernel_rfl) (by kernel_rfl) (tb := 4) (by kernel_rfl) Try.underlying4 rfl⟩
end Go.Proofs.Ytionggfecikedaa.fnExactCommitPoint
namespace Go.Proofs.Ytionggfecikedaa
theorem FnExactCommitPoint_holds : Rows.FnExactCommitPointSaid :=
  OpenClaim.holds_of_wide 4 Try.f4 rfl rfl rfl rfl rfl rfl rfl ⟨rfl, rfl, rfl, rfl, rfl⟩ rfl rfl rfl rfl rfl (by kernel_rfl) Try.func4 (by kernel_rfl)
    (of_decide_eq_true (by kernel_rfl)) (by unfold Func.isWrapper; first | (rw [if_pos (by decide +kernel)]; kernel_rfl) | (rw [if_neg (by decide +kernel)]; exact ⟨rfl, rfl⟩))
    (fun os started H enc _ => fnExactCommitPoint.lifted os started H enc)
#print axioms FnExactCommitPoint_holds
end Go.Proofs.Ytionggfecikedaa

/-
  FnExactSegmentName: the law's walk, the row and its card (three tables of the library are listed).
-/
import Derived.Test.YteacgefklafofaaDoorSegName
import Derived.Test.YteacgefklafofaaDoorPost
import Derived.Test.YteacgefklafofaaDoorRows
import Derived.Lib.LaidTab
import Derived.Stop.LaidErr
namespace Go.Proofs.YteacgefklafofaaDoor.fnExactSegmentName
open Go.ChangeShapes Go.WideShapes Go.ChangeAt Go.RowKit

def nm : String := "internal/strconv.uint64pow10"
theorem own : ownKnob Tryd.prog.godebug = none := by kernel_rfl
theorem laidOut : laidOutB Tryd.prog = true := by kernel_rfl
theorem gTab : Tryd.prog.globalNamed nm = some 1 := by kernel_rfl
theorem gTabType : (Tryd.prog.globals[1]?).map (·.type) = some 99 := by kernel_rfl
theorem cellsTab : Tryd.prog.cellsOf 99 = 20 := by kernel_rfl
theorem cellsU64 : Tryd.prog.cellsOf 63 = 1 := by kernel_rfl
theorem tab {W : World} (h : laidMetH Tryd.prog Rows.fnExactSegmentNameRow.laid W) : Lib.TabIs Tryd.prog W nm .u64 Lib.pow10Tab :=
  Lib.tabIs_of_head (rest := []) gTab gTabType Tryd.underlying99 Tryd.underlying63 cellsU64 cellsTab (show laidMet Tryd.prog Rows.fnExactSegmentNameRow.laid W from h).tail.tail

/-- a listed table stays where nothing old turns -/
theorem tab_stays {n : String} {g : Nat} {k : IntKind} {zs : List Int} {w w' : World} (hg : Tryd.prog.globalNamed n = some g) (h : Lib.TabIs Tryd.prog w n k zs) (hb : Below w.heap.size w w') : Lib.TabIs Tryd.prog w' n k zs := by
  unfold Lib.TabIs World.var? at h ⊢
  simp only [hg, Option.bind_some] at h ⊢
  have hlt : g < w.heap.size := by
    apply Classical.byContradiction
    intro hn
    rw [Array.getElem?_eq_none (by omega)] at h
    cases h
  rw [hb.block g hlt]
  exact h

set_option maxHeartbeats 1000000 in
theorem implName_ok (n : Nat) (w : World) (h1 : 1 ≤ n) (h2 : n ≤ 99999999) (htab : Lib.TabIs Tryd.prog w nm .u64 Lib.pow10Tab) :
    Calls Tryd.prog 26 #[.int .i64 (n : Int)] w fun e w' => e = .returned (.tuple #[.string (walB ++ strB (dec n 8)), .int .i64 0]) ∧ Below w.heap.size w w' := by
  have HC : Hid (Calls _ _ _ _ _) := numberedName_any walB n w (by decide) h1 h2 htab
  clear htab
  go_enter Tryd.func26, Tryd.ntmps26
  go_wp2_with fail
  refine HC.out.mono ?_
  clear HC
  rintro e w1 ⟨rfl, hb⟩
  have HB : Hid (Below w.heap.size w w1) := hb
  clear hb
  go_wp2
  go_ret2
  exact ⟨rfl, HB.out⟩

set_option maxHeartbeats 1000000 in
theorem walk (n : Int) (w : World) (htab : Lib.TabIs Tryd.prog w nm .u64 Lib.pow10Tab) :
    Calls Tryd.prog 6 #[.int .i64 n] w fun e w' => e = .returned (.bool true) ∧ Below w.heap.size w w' := by
  by_cases hb : n < 1 ∨ 99999999 < n
  · have H1 : Hid (Calls _ _ _ _ _) := specName_no n w hb
    have H2 : Hid (Calls _ _ _ _ _) := implName_no n w hb
    clear hb htab
    go_enter Tryd.func6, Tryd.ntmps6
    go_wp2_with fail
    refine H1.out.mono ?_
    clear H1
    rintro e w1 ⟨rfl, rfl⟩
    go_wp2_with fail
    refine H2.out.mono ?_
    clear H2
    rintro e w2 ⟨rfl, rfl⟩
    go_wp2
    go_ret
    exact ⟨rfl, Below.refl _ _⟩
  · obtain ⟨m, rfl⟩ := Int.eq_ofNat_of_zero_le (show 0 ≤ n by omega)
    have H1 : Hid (Calls _ _ _ _ _) := specName_ok m w (by omega) (by omega)
    have H2 : Hid (∀ w1, Below w.heap.size w w1 → Calls _ _ _ w1 _) := fun w1 hb1 => implName_ok m w1 (by omega) (by omega) (tab_stays gTab htab hb1)
    obtain ⟨s, hs⟩ : ∃ s, walB ++ strB (dec m 8) = s := ⟨_, rfl⟩
    rw [hs] at H1 H2
    clear hb htab hs
    go_enter Tryd.func6, Tryd.ntmps6
    go_wp2_with fail
    refine H1.out.mono ?_
    clear H1
    rintro e w1 ⟨rfl, hg1⟩
    have B1 : Hid (Below w.heap.size w w1) := below_of_grown hg1
    clear hg1
    go_wp2_with fail
    refine (H2.out w1 B1.out).mono ?_
    clear H2
    rintro e w2 ⟨rfl, hb2⟩
    have B2 : Hid (Below w.heap.size w w2) := B1.out.trans (hb2.mono B1.out.size)
    clear hb2
    go_wp2
    go_ret
    exact ⟨rfl, B2.out⟩

theorem contract (H : Type) (enc : TypeId × Value → H) (W : World) (base : Nat) (args : Array Value) (ds gs : List (DataW H)) (before : List MemPlace)
    (hval : ∀ (j : Nat) t v, Tryd.f6.params[j]? = some t → args[j]? = some v → Value.okWide Tryd.prog W .any base t v)
    (hW : DataW.Whole enc Tryd.prog Tryd.f6.params.toList Rows.fnExactSegmentNameSpec.vars false W args.toList ds gs before) (hT : Lib.TabIs Tryd.prog W nm .u64 Lib.pow10Tab) :
    Calls Tryd.prog 6 args W fun e W' => ∃ v, e = .returned v ∧ Rows.fnExactSegmentNameSpec.post enc Tryd.prog Tryd.f6 false true false false W args v W' := by
  have hW' := hW
  obtain ⟨p, q, hA0, hV, rfl, hfz, hnd⟩ := hW
  have hA : DataW.TrodAll enc Tryd.prog W 0 (fun _ => true) true Tryd.f6.params.toList args.toList ds p := hA0
  rw [Tryd.params6] at hA hval
  obtain ⟨v0, vs0, d0, ds0, p0, q0, hargs, rfl, rfl, h0, r0⟩ := trodAll_cons hA
  obtain ⟨rfl, rfl, rfl⟩ := trodAll_nil r0
  obtain rfl : args = #[v0] := by cases args; simp_all
  obtain ⟨rfl, rfl⟩ := trodVars_none hV
  obtain ⟨a0, rfl, rfl, rfl, w0⟩ := open_int Tryd.underlying3 (hval 0 3 v0 rfl rfl) h0
  refine (walk a0 W hT).mono fun e W' ⟨he, hb⟩ => ?_
  subst he
  exact ⟨_, rfl, Post.law laidOut hb hW' (by kernel_rfl) (by kernel_rfl) (tb := 4) (by kernel_rfl) Tryd.underlying4 rfl⟩
end Go.Proofs.YteacgefklafofaaDoor.fnExactSegmentName

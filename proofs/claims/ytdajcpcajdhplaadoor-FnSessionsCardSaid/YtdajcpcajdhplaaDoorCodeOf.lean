/-
  codeOf at nil and at the package's own errors: its contracts.
-/
import Derived.Test.YtdajcpcajdhplaaDoorErrs
namespace Go.Proofs.YtdajcpcajdhplaaDoor
open Go.RowKit

/-- the package's errors and the library's type lie where the program's text lays them -/
structure ErrsAt (w : World) (ad : Nat → Addr) : Prop where
  cell : ∀ k, k < 12 → w.cell? ⟨k, 0, none⟩ = some (.iface 150 (.pointer (some (ad k))))
  blk : ∀ k, k < 12 → ∃ ca ta, w.heap[(ad k).block]? = some (.cells ca ta (0, 0))
  far : ∀ j k, j < 12 → k < 12 → j ≠ k → ad j ≠ ad k
  typ : w.cell? ⟨12, 0, none⟩ = some (.iface 134 (.agg #[.pointer (some ⟨13, 69, none⟩)]))
theorem ErrsAt.grown {w w' : World} {ad : Nat → Addr} (h : ErrsAt w ad) (hg : w.grownBy w' none) : ErrsAt w' ad := by
  obtain ⟨hc, -⟩ := bcell hg
  refine ⟨fun k hk => (hc _ _ (cell_block_lt (h.cell k hk))).trans (h.cell k hk), fun k hk => ?_, h.far, (hc _ _ (cell_block_lt h.typ)).trans h.typ⟩
  obtain ⟨ca, ta, hb⟩ := h.blk k hk
  exact ⟨ca, ta, (hg.block _ (Array.getElem?_eq_some_iff.1 hb).1 (by simp)).trans hb⟩
theorem ErrsAt.other {w : World} {ad : Nat → Addr} (h : ErrsAt w ad) (j k : Nat) (hj : j < 12) (hk : k < 12) (hne : j ≠ k) :
    Calls Tryd.prog 64 #[.iface 150 (.pointer (some (ad j))), .iface 150 (.pointer (some (ad k)))] w fun e w' => e = .returned (.bool false) ∧ w' = w := by
  obtain ⟨ca, ta, ha⟩ := h.blk j hj
  obtain ⟨cb, tb, hb⟩ := h.blk k hk
  exact is_other (ad j) (ad k) ca cb ta tb w (h.far j k hj hk hne) ha hb
set_option maxRecDepth 100000 in
set_option maxHeartbeats 1000000 in
theorem codeOf_nil (w : World) :
    Calls Tryd.prog 36 #[.nilIface] w fun e w' => e = .returned (.int .i64 0) ∧ w.grownBy w' none := by
  go_enter Tryd.func36, Tryd.ntmps36
  go_wp2_with fail
  refine (as_nil _ _).mono ?_
  rintro e w1 ⟨rfl, hw1⟩
  subst hw1
  go_wp2
  go_ret
  refine ⟨rfl, ?_⟩
  repeat (first | exact grownBy_refl _ _ | apply grownBy_alloc)
set_option maxRecDepth 100000 in
set_option maxHeartbeats 2000000 in
theorem codeOf_err0 (ad : Nat → Addr) (w : World) (h : ErrsAt w ad) :
    Calls Tryd.prog 36 #[.iface 150 (.pointer (some (ad 0)))] w fun e w' => e = .returned (.int .i64 5) ∧ w.grownBy w' none := by
  have HE : Hid (ErrsAt w ad) := h
  clear h
  go_enter Tryd.func36, Tryd.ntmps36
  go_wp2_with fail
  refine (as_miss (ad 0) _ _ (HE.out.grown (World.grownBy_alloc _ _ _)).typ).mono ?_
  rintro e w1 ⟨rfl, hG1⟩
  have HE1 : Hid (ErrsAt w1 ad ∧ w.grownBy w1 none) := ⟨(HE.out.grown (World.grownBy_alloc _ _ _)).grown hG1, grownBy_trans (World.grownBy_alloc _ _ _) hG1⟩
  have c0 := HE1.out.1.cell 0 (by decide)
  have c2 := HE1.out.1.cell 2 (by decide)
  have c3 := HE1.out.1.cell 3 (by decide)
  have c4 := HE1.out.1.cell 4 (by decide)
  clear hG1
  go_wp2_with fail
  refine (HE1.out.1.other 0 2 (by decide) (by decide) (by decide)).mono ?_
  rintro e w' ⟨rfl, hw'⟩
  subst hw'
  go_wp2_with fail
  refine (HE1.out.1.other 0 3 (by decide) (by decide) (by decide)).mono ?_
  rintro e w' ⟨rfl, hw'⟩
  subst hw'
  go_wp2_with fail
  refine (HE1.out.1.other 0 4 (by decide) (by decide) (by decide)).mono ?_
  rintro e w' ⟨rfl, hw'⟩
  subst hw'
  go_wp2_with fail
  refine (is_same (ad 0) _).mono ?_
  rintro e w' ⟨rfl, hw'⟩
  subst hw'
  go_wp2
  go_ret
  exact ⟨rfl, HE1.out.2⟩
set_option maxRecDepth 100000 in
set_option maxHeartbeats 2000000 in
theorem codeOf_err1 (ad : Nat → Addr) (w : World) (h : ErrsAt w ad) :
    Calls Tryd.prog 36 #[.iface 150 (.pointer (some (ad 1)))] w fun e w' => e = .returned (.int .i64 6) ∧ w.grownBy w' none := by
  have HE : Hid (ErrsAt w ad) := h
  clear h
  go_enter Tryd.func36, Tryd.ntmps36
  go_wp2_with fail
  refine (as_miss (ad 1) _ _ (HE.out.grown (World.grownBy_alloc _ _ _)).typ).mono ?_
  rintro e w1 ⟨rfl, hG1⟩
  have HE1 : Hid (ErrsAt w1 ad ∧ w.grownBy w1 none) := ⟨(HE.out.grown (World.grownBy_alloc _ _ _)).grown hG1, grownBy_trans (World.grownBy_alloc _ _ _) hG1⟩
  have c0 := HE1.out.1.cell 0 (by decide)
  have c1 := HE1.out.1.cell 1 (by decide)
  have c2 := HE1.out.1.cell 2 (by decide)
  have c3 := HE1.out.1.cell 3 (by decide)
  have c4 := HE1.out.1.cell 4 (by decide)
  clear hG1
  go_wp2_with fail
  refine (HE1.out.1.other 1 2 (by decide) (by decide) (by decide)).mono ?_
  rintro e w' ⟨rfl, hw'⟩
  subst hw'
  go_wp2_with fail
  refine (HE1.out.1.other 1 3 (by decide) (by decide) (by decide)).mono ?_
  rintro e w' ⟨rfl, hw'⟩
  subst hw'
  go_wp2_with fail
  refine (HE1.out.1.other 1 4 (by decide) (by decide) (by decide)).mono ?_
  rintro e w' ⟨rfl, hw'⟩
  subst hw'
  go_wp2_with fail
  refine (HE1.out.1.other 1 0 (by decide) (by decide) (by decide)).mono ?_
  rintro e w' ⟨rfl, hw'⟩
  subst hw'
  go_wp2_with fail
  refine (is_same (ad 1) _).mono ?_
  rintro e w' ⟨rfl, hw'⟩
  subst hw'
  go_wp2
  go_ret
  exact ⟨rfl, HE1.out.2⟩
set_option maxRecDepth 100000 in
set_option maxHeartbeats 2000000 in
theorem codeOf_err4 (ad : Nat → Addr) (w : World) (h : ErrsAt w ad) :
    Calls Tryd.prog 36 #[.iface 150 (.pointer (some (ad 4)))] w fun e w' => e = .returned (.int .i64 4) ∧ w.grownBy w' none := by
  have HE : Hid (ErrsAt w ad) := h
  clear h
  go_enter Tryd.func36, Tryd.ntmps36
  go_wp2_with fail
  refine (as_miss (ad 4) _ _ (HE.out.grown (World.grownBy_alloc _ _ _)).typ).mono ?_
  rintro e w1 ⟨rfl, hG1⟩
  have HE1 : Hid (ErrsAt w1 ad ∧ w.grownBy w1 none) := ⟨(HE.out.grown (World.grownBy_alloc _ _ _)).grown hG1, grownBy_trans (World.grownBy_alloc _ _ _) hG1⟩
  have c2 := HE1.out.1.cell 2 (by decide)
  have c3 := HE1.out.1.cell 3 (by decide)
  have c4 := HE1.out.1.cell 4 (by decide)
  clear hG1
  go_wp2_with fail
  refine (HE1.out.1.other 4 2 (by decide) (by decide) (by decide)).mono ?_
  rintro e w' ⟨rfl, hw'⟩
  subst hw'
  go_wp2_with fail
  refine (HE1.out.1.other 4 3 (by decide) (by decide) (by decide)).mono ?_
  rintro e w' ⟨rfl, hw'⟩
  subst hw'
  go_wp2_with fail
  refine (is_same (ad 4) _).mono ?_
  rintro e w' ⟨rfl, hw'⟩
  subst hw'
  go_wp2
  go_ret
  exact ⟨rfl, HE1.out.2⟩
end Go.Proofs.YtdajcpcajdhplaaDoor

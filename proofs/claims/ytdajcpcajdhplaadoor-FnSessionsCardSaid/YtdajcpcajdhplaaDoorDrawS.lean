/-
  The source of draws, walked: L1Size.
-/
import Derived.Test.YtdajcpcajdhplaaDoorDraw
namespace Go.Proofs.YtdajcpcajdhplaaDoor
open Go.RowKit

set_option maxHeartbeats 400000 in
theorem l1Size_any (oa : Option Addr) (len cap m : Nat) (w : World) (hl : len ≤ 1073741824) (hm : m ≤ 1073741824) :
    Calls Tryd.prog 7 #[.slice oa len cap, .int .i64 (m : Int)] w fun e w' => ∃ r : Nat, e = .returned (.int .i64 (r : Int)) ∧ r ≤ m ∧ w' = w := by
  by_cases h : m < 2 + len / 2
  · have h' : (m : Int) < 2 + (len : Int) / 2 := by omega
    go_enter Tryd.func7, Tryd.ntmps7
    go_wp2
    go_ret
    exact ⟨m, rfl, Nat.le_refl _, rfl⟩
  · have h' : ¬ ((m : Int) < 2 + (len : Int) / 2) := by omega
    go_enter Tryd.func7, Tryd.ntmps7
    go_wp2
    go_ret
    exact ⟨2 + len / 2, by simp, by omega, rfl⟩
end Go.Proofs.YtdajcpcajdhplaaDoor

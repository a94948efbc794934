/-
  Is it an item? The model's l5Item and the program's (Item).valid, walked.
-/
import Derived.Test.YtdajcpcajdhplaaDoorSmall
namespace Go.Proofs.YtdajcpcajdhplaaDoor
open Go.RowKit

abbrev itemOk (cl sq : Int) (len : Nat) : Prop := 1 ≤ cl ∧ cl ≤ 50 ∧ 1 ≤ sq ∧ sq ≤ 1000000000 ∧ len ≤ 64
/-- in which way it isn't one -/
theorem itemNo {cl sq : Int} {len : Nat} (h : ¬ itemOk cl sq len) : cl < 1 ∨ (1 ≤ cl ∧ 50 < cl) ∨ (1 ≤ cl ∧ cl ≤ 50 ∧ sq < 1) ∨ (1 ≤ cl ∧ cl ≤ 50 ∧ 1 ≤ sq ∧ 1000000000 < sq) ∨ (1 ≤ cl ∧ cl ≤ 50 ∧ 1 ≤ sq ∧ sq ≤ 1000000000 ∧ 64 < len) := by
  unfold itemOk at h; omega

set_option maxHeartbeats 400000 in
theorem l5Item_yes (cl sq : Int) (oa : Option Addr) (len cap : Nat) (w : World) (h : itemOk cl sq len) :
    Calls Tryd.prog 69 #[.int .i64 cl, .int .i64 sq, .slice oa len cap] w fun e w' => e = .returned (.bool true) ∧ w' = w := by
  obtain ⟨h1, h2, h3, h4, h5⟩ := h
  go_enter Tryd.func69, Tryd.ntmps69
  go_wp2
  go_ret
  exact ⟨ret_bool (a := decide ((len : Int) ≤ 64)) (by simp; omega), rfl⟩
set_option maxHeartbeats 1000000 in
theorem l5Item_no (cl sq : Int) (oa : Option Addr) (len cap : Nat) (w : World) (h : ¬ itemOk cl sq len) (hx : len ≤ maxLen) :
    Calls Tryd.prog 69 #[.int .i64 cl, .int .i64 sq, .slice oa len cap] w fun e w' => e = .returned (.bool false) ∧ w' = w := by
  unfold maxLen at hx
  have h := itemNo h
  rcases h with h1 | ⟨h1, h2⟩ | ⟨h1, h2, h3⟩ | ⟨h1, h2, h3, h4⟩ | ⟨h1, h2, h3, h4, h5⟩ <;>
    (go_enter Tryd.func69, Tryd.ntmps69; go_wp2; go_ret; exact ⟨by first | rfl | exact ret_bool (a := decide ((len : Int) ≤ 64)) (by simp; omega), rfl⟩)
theorem l5Item_any (cl sq : Int) (oa : Option Addr) (len cap : Nat) (w : World) (hx : len ≤ maxLen) :
    Calls Tryd.prog 69 #[.int .i64 cl, .int .i64 sq, .slice oa len cap] w fun e w' => e = .returned (.bool (decide (itemOk cl sq len))) ∧ w' = w := by
  by_cases h : itemOk cl sq len
  · rw [decide_eq_true h]; exact l5Item_yes cl sq oa len cap w h
  · rw [decide_eq_false h]; exact l5Item_no cl sq oa len cap w h hx

set_option maxHeartbeats 400000 in
theorem valid_yes (cl sq : Int) (oa : Option Addr) (len cap : Nat) (w : World) (h : itemOk cl sq len) :
    Calls Tryd.prog 28 #[.agg #[.int .i64 cl, .int .i64 sq, .slice oa len cap]] w fun e w' => e = .returned (.bool true) ∧ w.grownBy w' none := by
  obtain ⟨h1, h2, h3, h4, h5⟩ := h
  go_enter Tryd.func28, Tryd.ntmps28
  go_wp2
  go_ret
  exact ⟨ret_bool (a := decide ((len : Int) ≤ 64)) (by simp; omega), World.grownBy_alloc _ _ _⟩
set_option maxHeartbeats 1000000 in
theorem valid_no (cl sq : Int) (oa : Option Addr) (len cap : Nat) (w : World) (h : ¬ itemOk cl sq len) (hx : len ≤ maxLen) :
    Calls Tryd.prog 28 #[.agg #[.int .i64 cl, .int .i64 sq, .slice oa len cap]] w fun e w' => e = .returned (.bool false) ∧ w.grownBy w' none := by
  unfold maxLen at hx
  have h := itemNo h
  rcases h with h1 | ⟨h1, h2⟩ | ⟨h1, h2, h3⟩ | ⟨h1, h2, h3, h4⟩ | ⟨h1, h2, h3, h4, h5⟩ <;>
    (go_enter Tryd.func28, Tryd.ntmps28; go_wp2; go_ret; exact ⟨by first | rfl | exact ret_bool (a := decide ((len : Int) ≤ 64)) (by simp; omega), World.grownBy_alloc _ _ _⟩)
theorem valid_any (cl sq : Int) (oa : Option Addr) (len cap : Nat) (w : World) (hx : len ≤ maxLen) :
    Calls Tryd.prog 28 #[.agg #[.int .i64 cl, .int .i64 sq, .slice oa len cap]] w fun e w' => e = .returned (.bool (decide (itemOk cl sq len))) ∧ w.grownBy w' none := by
  by_cases h : itemOk cl sq len
  · rw [decide_eq_true h]; exact valid_yes cl sq oa len cap w h
  · rw [decide_eq_false h]; exact valid_no cl sq oa len cap w h hx
end Go.Proofs.YtdajcpcajdhplaaDoor

/-
  The program's padding, walked.
-/
import Derived.Test.YteacgefklafofaaDoorNot32
import Derived.Test.YteacgefklafofaaDoorLe4P
namespace Go.Proofs.YteacgefklafofaaDoor
open Go.RowKit

def pad (n : Nat) : Nat := (4 - n % 4) % 4

set_option maxHeartbeats 400000 in
theorem padding_any (n : Nat) (w : World) (hn : n ≤ 1073741824) :
    Calls Tryd.prog 37 #[.int .i64 (n : Int)] w fun e w' => e = .returned (.int .i64 ((pad n : Nat) : Int)) ∧ w' = w := by
  have HP : Hid (((pad n : Nat) : Int) = (4 - (n : Int) % 4) % 4) := by show _ = _; unfold pad; omega
  go_enter Tryd.func37, Tryd.ntmps37
  go_wp2
  go_ret
  exact ⟨ret_int (by rw [HP.out]), rfl⟩

end Go.Proofs.YteacgefklafofaaDoor

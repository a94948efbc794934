/-
  The sum's last step: every bit turned.
-/
import Derived.Test.YteacgefklafofaaDoorCrcWalks
namespace Go.Proofs.YteacgefklafofaaDoor
open Go.RowKit

theorem not32 (s : Nat) (hs : s < 4294967296) : bits .xor .u32 (s : Int) 4294967295 = ((4294967295 - s : Nat) : Int) := by
  rw [show (4294967295 : Int) = ((4294967295 : Nat) : Int) from rfl, u32_xor_nat s _ hs (by decide)]
  have h : s ^^^ 4294967295 = 4294967295 - s := by
    apply Nat.eq_of_testBit_eq
    intro i
    rw [Nat.testBit_xor, show 4294967295 - s = 2 ^ 32 - (s + 1) by omega, Nat.testBit_two_pow_sub_succ (by omega), show 4294967295 = 2 ^ 32 - 1 by omega, Nat.testBit_two_pow_sub_one]
    by_cases hi : i < 32
    · simp [hi]
    · have : s.testBit i = false := Nat.testBit_lt_two_pow (Nat.lt_of_lt_of_le (show s < 2 ^ 32 by omega) (Nat.pow_le_pow_right (by decide) (by omega)))
      simp [hi, this]
  rw [h]

theorem not32' (s : Nat) (hs : s < 4294967296) : bits .xor .u32 4294967295 (s : Int) = ((4294967295 - s : Nat) : Int) := by
  rw [← not32 s hs, show (4294967295 : Int) = ((4294967295 : Nat) : Int) from rfl, u32_xor_nat s _ hs (by decide), u32_xor_nat _ s (by decide) hs, Nat.xor_comm]

end Go.Proofs.YteacgefklafofaaDoor

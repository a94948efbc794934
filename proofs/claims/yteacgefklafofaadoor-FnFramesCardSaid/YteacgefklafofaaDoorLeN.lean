/-
  A number's bytes, as many as are asked for.
-/
import Derived.Test.YteacgefklafofaaDoorLe4P
namespace Go.Proofs.YteacgefklafofaaDoor
open Go.RowKit

/-- n bytes of a number, the lowest first -/
def leN : Nat → Nat → List Nat
  | _, 0 => []
  | v, n + 1 => leN v n ++ [v / 256 ^ n % 256]
theorem leN_len (v n : Nat) : (leN v n).length = n := by
  induction n with
  | zero => rfl
  | succ n ih => simp [leN, ih]
theorem leN_four (v : Nat) : leN v 4 = le4 v := by simp [leN, le4]
theorem leN_lt (v n : Nat) : ∀ z ∈ leN v n, z < 256 := by
  induction n with
  | zero => simp [leN]
  | succ n ih =>
    intro z hz
    rcases List.mem_append.1 hz with h | h
    · exact ih z h
    · simp at h; omega
end Go.Proofs.YteacgefklafofaaDoor

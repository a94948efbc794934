/-
  Four bytes of a number.
-/
import Derived.Test.YteacgefklafofaaDoorSmall
import Derived.Laws.OwnMore
namespace Go.Proofs.YteacgefklafofaaDoor
open Go.RowKit

/-- four bytes of a number, the lowest first -/
def le4 (n : Nat) : List Nat := [n % 256, n / 256 % 256, n / 65536 % 256, n / 16777216 % 256]
theorem le4_len (n : Nat) : (le4 n).length = 4 := rfl
theorem le4_lt (n : Nat) : ∀ z ∈ le4 n, z < 256 := by
  intro z hz; simp [le4] at hz; omega
/-- the bytes behind k rounds of putNumber -/
def putN (zs : List Nat) (off n : Nat) : Nat → List Nat
  | 0 => zs
  | k + 1 => (putN zs off n k).set (off + k) ((le4 n).getD k 0)
theorem putN_len (zs : List Nat) (off n k : Nat) : (putN zs off n k).length = zs.length := by
  induction k with
  | zero => rfl
  | succ k ih => simp [putN, ih]
theorem putN_four (a b c : List Nat) (n : Nat) (hb : b.length = 4) : putN (a ++ b ++ c) a.length n 4 = a ++ le4 n ++ c := by
  obtain ⟨x, y, z, t, rfl⟩ : ∃ x y z t, b = [x, y, z, t] := by
    match b, hb with
    | [x, y, z, t], _ => exact ⟨x, y, z, t, rfl⟩
  simp [putN, le4]
theorem putN_lt (zs : List Nat) (off n k : Nat) (h : ∀ z ∈ zs, z < 256) : ∀ z ∈ putN zs off n k, z < 256 := by
  induction k with
  | zero => exact h
  | succ k ih =>
    intro z hz
    rcases List.mem_or_eq_of_mem_set hz with h1 | h1
    · exact ih z h1
    · subst h1
      by_cases hk : k < (le4 n).length
      · exact le4_lt n _ (by simp [List.getD, hk])
      · simp [List.getD, hk]
end Go.Proofs.YteacgefklafofaaDoor

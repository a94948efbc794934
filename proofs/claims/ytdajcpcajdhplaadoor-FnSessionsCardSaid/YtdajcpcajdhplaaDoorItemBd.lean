/-
  An item's bytes, read back.
-/
import Derived.Test.YtdajcpcajdhplaaDoorItemEncI
import Derived.Test.YtdajcpcajdhplaaDoorItemDec3
namespace Go.Proofs.YtdajcpcajdhplaaDoor

theorem leVal_le4 (n : Nat) (h : n < 4294967296) : leVal (le4 n) = n := by
  simp only [le4, leVal]
  omega
theorem itemB_dec (c q : Nat) (d : List Nat) (h : itemOk (c : Int) (q : Int) d.length) : decGood (itemB c q d) ∧ decCl (itemB c q d) = c ∧ decSq (itemB c q d) = q ∧ (itemB c q d).drop 8 = d := by
  have hc : c < 4294967296 := by have := h.2.1; omega
  have hq : q < 4294967296 := by have := h.2.2.2.1; omega
  have e1 : decCl (itemB c q d) = c := by
    show leVal ((le4 c ++ le4 q ++ d).take 4) = c
    rw [List.append_assoc, List.take_left' (le4_len c)]
    exact leVal_le4 c hc
  have e2 : decSq (itemB c q d) = q := by
    show leVal (((le4 c ++ le4 q ++ d).drop 4).take 4) = q
    rw [List.append_assoc, List.drop_left' (le4_len c), List.take_left' (le4_len q)]
    exact leVal_le4 q hq
  have e3 : (itemB c q d).drop 8 = d := by
    show (le4 c ++ le4 q ++ d).drop 8 = d
    rw [List.drop_left' (by simp [le4_len])]
  refine ⟨⟨by rw [itemB_len]; omega, ?_⟩, e1, e2, e3⟩
  rw [e1, e2, itemB_len, show 8 + d.length - 8 = d.length by omega]
  exact h
end Go.Proofs.YtdajcpcajdhplaaDoor

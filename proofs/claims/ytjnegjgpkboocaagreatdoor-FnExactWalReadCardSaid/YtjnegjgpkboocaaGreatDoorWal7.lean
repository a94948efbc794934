/-
  ScanMath
-/
import Derived.Test.YtjnegjgpkboocaaGreatDoorWal6
/-
  What a scan tells: the plain mathematics.
-/
namespace Go.Proofs.YtjnegjgpkboocaaGreatDoor
open Go.RowKit

/-- the records, the valid bytes, the reason -/
def scanL : Nat → List Nat → List (Nat × List Nat) × Nat × Nat
  | 0, _ => ([], 0, 0)
  | k + 1, zs => if fault zs ≠ 0 ∨ zs.length = 0 then ([], 0, fault zs) else ((zs.getD 4 0, (zs.drop 12).take (recN zs)) :: (scanL k (zs.drop (recSize zs))).1, recSize zs + (scanL k (zs.drop (recSize zs))).2.1, (scanL k (zs.drop (recSize zs))).2.2)
def scan (zs : List Nat) : List (Nat × List Nat) × Nat × Nat := scanL (zs.length + 1) zs
theorem scanL_stable (k : Nat) : ∀ m zs, zs.length < k → zs.length < m → scanL k zs = scanL m zs := by
  induction k with
  | zero => intro m zs h; omega
  | succ k ih =>
    intro m zs hk hm; obtain ⟨m, rfl⟩ : ∃ m', m = m' + 1 := ⟨m - 1, by omega⟩
    by_cases h : fault zs ≠ 0 ∨ zs.length = 0
    · rw [scanL, scanL, if_pos h, if_pos h]
    · have h0 : zs.length ≠ 0 := fun h' => h (.inr h')
      have hd : (zs.drop (recSize zs)).length < k := by simp [recSize]; omega
      have hd' : (zs.drop (recSize zs)).length < m := by simp [recSize]; omega
      rw [scanL, scanL, if_neg h, if_neg h, ih m _ hd hd']
theorem scan_end (zs : List Nat) (h : fault zs ≠ 0 ∨ zs.length = 0) : scan zs = ([], 0, fault zs) := by
  unfold scan
  rw [scanL, if_pos h]
theorem scan_next (zs : List Nat) (h : ¬ (fault zs ≠ 0 ∨ zs.length = 0)) :
    scan zs = ((zs.getD 4 0, (zs.drop 12).take (recN zs)) :: (scan (zs.drop (recSize zs))).1, recSize zs + (scan (zs.drop (recSize zs))).2.1, (scan (zs.drop (recSize zs))).2.2) := by
  have h0 : zs.length ≠ 0 := fun h' => h (.inr h')
  have e : scanL zs.length (zs.drop (recSize zs)) = scan (zs.drop (recSize zs)) := by
    unfold scan
    exact scanL_stable _ _ _ (by simp [recSize]; omega) (by omega)
  conv => lhs; unfold scan
  rw [scanL, if_neg h, e]
/-- where the bytes begin with a record, it lies within them -/
theorem fault_ok (zs : List Nat) (h : ¬ (fault zs ≠ 0 ∨ zs.length = 0)) : 12 ≤ zs.length ∧ ¬ headBad zs ∧ recSize zs ≤ zs.length ∧ ¬ sumBad zs ∧ ¬ padBad zs := by
  have h0 : ¬ zs.length = 0 := fun h' => h (.inr h')
  have hf : fault zs = 0 := Classical.byContradiction fun h' => h (.inl h')
  unfold fault at hf
  rw [if_neg h0] at hf
  by_cases h1 : zs.length < 12
  · rw [if_pos h1] at hf; cases hf
  · rw [if_neg h1] at hf
    by_cases h2 : headBad zs
    · rw [if_pos h2] at hf; cases hf
    · rw [if_neg h2] at hf
      by_cases h3 : zs.length < recSize zs
      · rw [if_pos h3] at hf; cases hf
      · rw [if_neg h3] at hf
        by_cases h4 : sumBad zs
        · rw [if_pos h4] at hf; cases hf
        · rw [if_neg h4] at hf
          by_cases h5 : padBad zs
          · rw [if_pos h5] at hf; cases hf
          · exact ⟨by omega, h2, by omega, h4, h5⟩
/-- where a scan has come to -/
def At (zs : List Nat) (pre : List (Nat × List Nat)) (at_ : Nat) : Prop :=
  at_ ≤ zs.length ∧ scan zs = (pre ++ (scan (zs.drop at_)).1, at_ + (scan (zs.drop at_)).2.1, (scan (zs.drop at_)).2.2)
theorem At.zero (zs : List Nat) : At zs [] 0 := ⟨Nat.zero_le _, by simp⟩
theorem At.next {zs : List Nat} {pre : List (Nat × List Nat)} {at_ : Nat} (h : At zs pre at_) (hn : ¬ (fault (zs.drop at_) ≠ 0 ∨ (zs.drop at_).length = 0)) :
    At zs (pre ++ [((zs.drop at_).getD 4 0, ((zs.drop at_).drop 12).take (recN (zs.drop at_)))]) (at_ + recSize (zs.drop at_)) := by
  have hs := (fault_ok _ hn).2.2.1; simp only [List.length_drop] at hs; refine ⟨by have := h.1; omega, ?_⟩; rw [h.2, scan_next _ hn, List.drop_drop]
  simp [Nat.add_assoc]
theorem At.done {zs : List Nat} {pre : List (Nat × List Nat)} {at_ : Nat} (h : At zs pre at_) (hn : fault (zs.drop at_) ≠ 0 ∨ (zs.drop at_).length = 0) : scan zs = (pre, at_, fault (zs.drop at_)) := by
  rw [h.2, scan_end _ hn]
  simp
theorem At.more {zs : List Nat} {pre : List (Nat × List Nat)} {at_ : Nat} (h : At zs pre at_) (hn : ¬ (fault (zs.drop at_) ≠ 0 ∨ (zs.drop at_).length = 0)) : pre.length < (scan zs).1.length := by
  have h1 := (h.next hn).2; rw [h1]; simp only [List.length_append, List.length_cons, List.length_nil]
  omega
theorem scanL_len (k : Nat) : ∀ zs, 12 * (scanL k zs).1.length ≤ zs.length := by
  induction k with
  | zero => intro zs; simp [scanL]
  | succ k ih =>
    intro zs
    by_cases h : fault zs ≠ 0 ∨ zs.length = 0
    · rw [scanL, if_pos h]; simp
    · rw [scanL, if_neg h]; have h1 := ih (zs.drop (recSize zs)); have h2 := (fault_ok _ h).2.2.1
      have h3 : 12 ≤ recSize zs := by unfold recSize; omega
      simp only [List.length_drop] at h1; simp only [List.length_cons]
      omega
theorem scan_len (zs : List Nat) : 12 * (scan zs).1.length ≤ zs.length := scanL_len _ zs
end Go.Proofs.YtjnegjgpkboocaaGreatDoor

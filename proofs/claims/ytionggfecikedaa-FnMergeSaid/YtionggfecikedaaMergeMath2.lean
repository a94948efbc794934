/-
  What FnMerge says, of the functions of the mathematics. Nothing here reaches the dump.
-/
import Derived.Test.YtionggfecikedaaMergeMath
namespace Go.Proofs.Ytionggfecikedaa

/-- the own log has what comes at p + 1 + i, or it lies in the snapshot -/
def agrees (b p : Int) (T : List Int) (i : Nat) (t : Int) : Prop := p + 1 + i ≤ b ∨ (b < p + 1 + i ∧ p + 1 + i ≤ b + T.length ∧ T.getD (p + 1 + i - b - 1).toNat 0 = t)
def MergeSpec (b p : Int) (T : List Int) (N' : List Int) (k : Nat) : Prop :=
  ∃ m : Nat, m ≤ N'.length ∧ (mergeGo b p T k N').2 = ((k + m : Nat) : Int) ∧ (∀ j, j < m → agrees b p T (k + j) (N'.getD j 0)) ∧
    ((m = N'.length ∧ (mergeGo b p T k N').1 = 0) ∨ (m < N'.length ∧ (mergeGo b p T k N').1 = 0 ∧ b < p + 1 + ((k + m : Nat) : Int) ∧ b + T.length < p + 1 + ((k + m : Nat) : Int)) ∨
      (m < N'.length ∧ (mergeGo b p T k N').1 = p + 1 + ((k + m : Nat) : Int) ∧ b < p + 1 + ((k + m : Nat) : Int) ∧ p + 1 + ((k + m : Nat) : Int) ≤ b + T.length ∧ ¬ T.getD (p + 1 + ((k + m : Nat) : Int) - b - 1).toNat 0 = N'.getD m 0))
theorem mergeGo_spec (b p : Int) (T : List Int) : ∀ (N' : List Int) (k : Nat), MergeSpec b p T N' k := by
  intro N'
  induction N' with
  | nil => intro k; exact ⟨0, Nat.le_refl _, rfl, fun j hj => absurd hj (by omega), .inl ⟨rfl, rfl⟩⟩
  | cons t r ih =>
    intro k
    have step : agrees b p T k t → mergeGo b p T k (t :: r) = mergeGo b p T (k + 1) r → MergeSpec b p T (t :: r) k := fun hag he => by
      obtain ⟨m, h1, h2, h3, h4⟩ := ih (k + 1)
      refine ⟨m + 1, by simp; omega, ?_, ?_, ?_⟩
      · rw [he, h2]; omega
      · intro j hj
        cases j with
        | zero => simpa using hag
        | succ j =>
          have := h3 j (by omega)
          rw [show k + 1 + j = k + (j + 1) by omega] at this
          simpa using this
      · rw [he]
        have e : k + 1 + m = k + (m + 1) := by omega
        rw [e] at h4
        rcases h4 with ⟨a1, a2⟩ | ⟨a1, a2, a3, a4⟩ | ⟨a1, a2, a3, a4, a5⟩
        · exact .inl ⟨by simp; omega, a2⟩
        · exact .inr (.inl ⟨by simp; omega, a2, a3, a4⟩)
        · exact .inr (.inr ⟨by simp; omega, a2, a3, a4, by simpa using a5⟩)
    by_cases c1 : p + 1 + (k : Int) ≤ b
    · exact step (.inl c1) (mergeGo_old c1)
    · by_cases c2 : b + (T.length : Int) < p + 1 + (k : Int)
      · refine ⟨0, Nat.zero_le _, by rw [mergeGo_far c1 c2]; simp, fun j hj => absurd hj (by omega), .inr (.inl ⟨by simp, by rw [mergeGo_far c1 c2], by simp; omega, by simpa using c2⟩)⟩
      · by_cases c3 : T.getD (p + 1 + (k : Int) - b - 1).toNat 0 = t
        · exact step (.inr ⟨by omega, by omega, c3⟩) (mergeGo_same c1 c2 c3)
        · refine ⟨0, Nat.zero_le _, by rw [mergeGo_cut c1 c2 c3]; simp, fun j hj => absurd hj (by omega), .inr (.inr ⟨by simp, by rw [mergeGo_cut c1 c2 c3]; simp, by simp; omega, by simp; omega, by simpa using c3⟩)⟩
theorem mergeGo_all (b p : Int) (T : List Int) : ∀ (N' : List Int) (k : Nat), (∀ j, j < N'.length → agrees b p T (k + j) (N'.getD j 0)) → mergeGo b p T k N' = (0, ((k + N'.length : Nat) : Int)) := by
  intro N'
  induction N' with
  | nil => intro k _; simp [mergeGo]
  | cons t r ih =>
    intro k h
    have h0 := h 0 (by simp)
    have hr := ih (k + 1) (fun j hj => by
      have := h (j + 1) (by simp; omega)
      rw [show k + (j + 1) = k + 1 + j by omega] at this
      simpa using this)
    have e : ((k + 1 + r.length : Nat) : Int) = ((k + (t :: r).length : Nat) : Int) := by simp; omega
    rcases h0 with h0 | ⟨h1, h2, h3⟩
    · rw [mergeGo_old (by simpa using h0), hr, e]
    · rw [mergeGo_same (by simp at h1; omega) (by simp at h2; omega) (by simpa using h3), hr, e]
/-- the log behind the merge -/
def merged (b : Int) (T N : List Int) (cut skip : Int) : List Int := (if 0 < cut then T.take (cut - b - 1).toNat else T) ++ N.drop skip.toNat
theorem merged_holds (b p : Int) (T N : List Int) (hp : p + 2 ≤ b + T.length) (hb : 0 ≤ b) (_hp0 : 0 ≤ p) :
    let r := mergeGo b p T 0 N
    (0 ≤ r.2 ∧ r.2 ≤ N.length) ∧ (r.1 ≠ 0 → b < r.1 ∧ r.1 ≤ b + T.length) ∧ (0 ≤ r.1) ∧ (∀ j, j < N.length → agrees b p (merged b T N r.1 r.2) j (N.getD j 0)) ∧
      ((∀ j, j < N.length → agrees b p T j (N.getD j 0)) → (merged b T N r.1 r.2).length = T.length) := by
  obtain ⟨m, h1, h2, h3, h4⟩ := mergeGo_spec b p T N 0
  simp only [Nat.zero_add] at h2 h3 h4
  intro r
  have e2 : r.2 = (m : Int) := h2
  refine ⟨⟨by omega, by omega⟩, ?_, ?_, ?_, ?_⟩
  · intro hne
    rcases h4 with ⟨a1, a2⟩ | ⟨a1, a2, a3, a4⟩ | ⟨a1, a2, a3, a4, a5⟩
    · exact absurd a2 hne
    · exact absurd a2 hne
    · have : r.1 = p + 1 + (m : Int) := a2
      omega
  · rcases h4 with ⟨a1, a2⟩ | ⟨a1, a2, a3, a4⟩ | ⟨a1, a2, a3, a4, a5⟩
    · have : r.1 = 0 := a2; omega
    · have : r.1 = 0 := a2; omega
    · have : r.1 = p + 1 + (m : Int) := a2
      omega
  · rcases h4 with ⟨a1, a2⟩ | ⟨a1, a2, a3, a4⟩ | ⟨a1, a2, a3, a4, a5⟩
    · have e1 : r.1 = 0 := a2
      have e : merged b T N r.1 r.2 = T := by
        rw [merged, e1, e2, if_neg (by omega)]
        simp [List.drop_of_length_le (show N.length ≤ m by omega)]
      rw [e]
      intro j hj
      exact h3 j (by omega)
    · have e1 : r.1 = 0 := a2
      have e : merged b T N r.1 r.2 = T ++ N.drop m := by
        rw [merged, e1, e2, if_neg (by omega)]
        simp
      rw [e]
      have hm1 : (p + 1 + m : Int) = b + T.length + 1 := by
        cases m with
        | zero => omega
        | succ m' =>
          rcases h3 m' (by omega) with h9 | ⟨_, h9, _⟩ <;> omega
      intro j hj
      by_cases hjm : j < m
      · rcases h3 j hjm with h9 | ⟨g1, g2, g3⟩
        · exact .inl h9
        · refine .inr ⟨g1, by simp; omega, ?_⟩
          rw [← g3]
          have hi : (p + 1 + (j : Int) - b - 1).toNat < T.length := by omega
          simp only [List.getD, List.getElem?_append_left hi]
      · refine .inr ⟨by omega, by simp; omega, ?_⟩
        have hi : (p + 1 + (j : Int) - b - 1).toNat = T.length + (j - m) := by omega
        rw [hi]
        have hjj : m + (j - m) = j := by omega
        simp only [List.getD, List.getElem?_append_right (Nat.le_add_right _ _), Nat.add_sub_cancel_left, List.getElem?_drop, hjj]
    · have e1 : r.1 = p + 1 + (m : Int) := a2
      have e : merged b T N r.1 r.2 = T.take (p + 1 + (m : Int) - b - 1).toNat ++ N.drop m := by
        rw [merged, e1, e2, if_pos (by omega)]
        simp
      rw [e]
      obtain ⟨L, hL⟩ : ∃ L, (p + 1 + (m : Int) - b - 1).toNat = L := ⟨_, rfl⟩
      rw [hL]
      have hLT : L ≤ T.length := by omega
      have htl : (T.take L).length = L := by simp; omega
      intro j hj
      by_cases hjm : j < m
      · rcases h3 j hjm with h9 | ⟨g1, g2, g3⟩
        · exact .inl h9
        · refine .inr ⟨g1, by simp; omega, ?_⟩
          rw [← g3]
          have hi : (p + 1 + (j : Int) - b - 1).toNat < L := by omega
          have hi2 : (p + 1 + (j : Int) - b - 1).toNat < T.length := by omega
          simp only [List.getD]
          rw [List.getElem?_append_left (by rw [htl]; exact hi), List.getElem?_take, if_pos hi]
      · refine .inr ⟨by omega, by simp; omega, ?_⟩
        have hi : (p + 1 + (j : Int) - b - 1).toNat = (T.take L).length + (j - m) := by rw [htl]; omega
        rw [hi]
        have hjj : m + (j - m) = j := by omega
        simp only [List.getD, List.getElem?_append_right (Nat.le_add_right _ _), Nat.add_sub_cancel_left, List.getElem?_drop, hjj]
  · intro hs
    rcases h4 with ⟨a1, a2⟩ | ⟨a1, a2, a3, a4⟩ | ⟨a1, a2, a3, a4, a5⟩
    · have e1 : r.1 = 0 := a2
      rw [merged, e1, e2, if_neg (by omega)]
      simp [List.drop_of_length_le (show N.length ≤ m by omega)]
    · rcases hs m a1 with h9 | ⟨_, h9, _⟩ <;> omega
    · rcases hs m a1 with h9 | ⟨_, _, h9⟩
      · omega
      · exact absurd h9 a5
end Go.Proofs.Ytionggfecikedaa

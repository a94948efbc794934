/-
  Where a log is cut, and how far a leader may commit: the functions of the mathematics. Nothing here reaches the dump.
-/
import Derived.Test.YtionggfecikedaaBaseI
namespace Go.Proofs.Ytionggfecikedaa

/-- MergePoint from the k-th of the news on -/
def mergeGo (base prev : Int) (ts : List Int) : Nat → List Int → Int × Int
  | k, [] => (0, (k : Int))
  | k, t :: r =>
    if prev + 1 + k ≤ base then mergeGo base prev ts (k + 1) r
    else if base + ts.length < prev + 1 + k then (0, (k : Int))
    else if ts.getD (prev + 1 + k - base - 1).toNat 0 = t then mergeGo base prev ts (k + 1) r
    else (prev + 1 + k, (k : Int))

section
variable {base prev : Int} {ts : List Int} {k : Nat} {t : Int} {r : List Int}
theorem mergeGo_nil : mergeGo base prev ts k [] = (0, (k : Int)) := rfl
theorem mergeGo_old (h : prev + 1 + k ≤ base) : mergeGo base prev ts k (t :: r) = mergeGo base prev ts (k + 1) r := by rw [mergeGo, if_pos h]
theorem mergeGo_far (h1 : ¬ prev + 1 + k ≤ base) (h2 : base + ts.length < prev + 1 + k) : mergeGo base prev ts k (t :: r) = (0, (k : Int)) := by rw [mergeGo, if_neg h1, if_pos h2]
theorem mergeGo_same (h1 : ¬ prev + 1 + k ≤ base) (h2 : ¬ base + ts.length < prev + 1 + k) (h3 : ts.getD (prev + 1 + k - base - 1).toNat 0 = t) : mergeGo base prev ts k (t :: r) = mergeGo base prev ts (k + 1) r := by
  rw [mergeGo, if_neg h1, if_neg h2, if_pos h3]
theorem mergeGo_cut (h1 : ¬ prev + 1 + k ≤ base) (h2 : ¬ base + ts.length < prev + 1 + k) (h3 : ¬ ts.getD (prev + 1 + k - base - 1).toNat 0 = t) : mergeGo base prev ts k (t :: r) = (prev + 1 + k, (k : Int)) := by
  rw [mergeGo, if_neg h1, if_neg h2, if_neg h3]
end
theorem dropI_cons (ns : List Int) (k : Nat) (h : k < ns.length) : ns.drop k = ns.getD k 0 :: ns.drop (k + 1) := by
  rw [List.drop_eq_getElem_cons h]; simp [List.getD, h]

/-- how many are at least i -/
def cntGe (ms : List Int) (i : Int) : Nat := (ms.filter fun m => decide (i ≤ m)).length
theorem cntGe_perm {a b : List Int} (h : a.Perm b) (i : Int) : cntGe a i = cntGe b i := (h.filter _).length_eq
theorem cntGe_snoc (ms : List Int) (m i : Int) : cntGe (ms ++ [m]) i = cntGe ms i + (if i ≤ m then 1 else 0) := by
  unfold cntGe
  rw [List.filter_append, List.length_append]
  by_cases h : i ≤ m <;> simp [h]
theorem cntGe_le (ms : List Int) (i : Int) : cntGe ms i ≤ ms.length := List.length_filter_le _ _
theorem cntGe_append (a b : List Int) (i : Int) : cntGe (a ++ b) i = cntGe a i + cntGe b i := by simp [cntGe]
theorem cntGe_all (a : List Int) (i : Int) (h : ∀ m ∈ a, i ≤ m) : cntGe a i = a.length := by
  unfold cntGe
  rw [List.filter_eq_self.2 (fun m hm => by simpa using h m hm)]
theorem cntGe_none (a : List Int) (i : Int) (h : ∀ m ∈ a, m < i) : cntGe a i = 0 := by
  unfold cntGe
  rw [List.filter_eq_nil_iff.2 (fun m hm => by have := h m hm; simp; omega)]
  rfl
/-- the place that more than half have, in a sorted copy -/
theorem most_iff {ms ss : List Int} (hp : ss.Perm ms) (hs : ss.Pairwise (· ≤ ·)) (hn : 0 < ss.length) (i : Int) :
    ms.length < 2 * cntGe ms i ↔ i ≤ ss.getD ((ss.length - 1) / 2) 0 := by
  rw [← cntGe_perm hp i, ← hp.length_eq]
  have hm : (ss.length - 1) / 2 < ss.length := by omega
  obtain ⟨m, hme⟩ : ∃ m, (ss.length - 1) / 2 = m := ⟨_, rfl⟩
  rw [hme] at hm ⊢
  have hg : ss.getD m 0 = ss[m] := by simp [List.getD, hm]
  rw [hg]
  have hsp := List.pairwise_iff_getElem.1 hs
  constructor
  · intro h
    refine Classical.byContradiction fun hlt => ?_
    have hlt : ss[m] < i := by omega
    have e : cntGe ss i = cntGe (ss.take (m + 1)) i + cntGe (ss.drop (m + 1)) i := by rw [← cntGe_append, List.take_append_drop]
    have h0 : cntGe (ss.take (m + 1)) i = 0 := by
      refine cntGe_none _ _ fun x hx => ?_
      obtain ⟨j, hj, rfl⟩ := List.mem_iff_getElem.1 hx
      have hj' : j < m + 1 ∧ j < ss.length := by have h9 := hj; simp at h9; omega
      rw [List.getElem_take]
      rcases Nat.lt_or_ge j m with h1 | h1
      · have := hsp j m hj'.2 hm h1; omega
      · obtain rfl : j = m := by omega
        exact hlt
    have h1 := cntGe_le (ss.drop (m + 1)) i
    simp only [List.length_drop] at h1
    omega
  · intro h
    have e : cntGe ss i = cntGe (ss.take m) i + cntGe (ss.drop m) i := by rw [← cntGe_append, List.take_append_drop]
    have h0 : cntGe (ss.drop m) i = (ss.drop m).length := by
      refine cntGe_all _ _ fun x hx => ?_
      obtain ⟨j, hj, rfl⟩ := List.mem_iff_getElem.1 hx
      have hj' : j < ss.length - m := by have h9 := hj; simp at h9; omega
      rw [List.getElem_drop]
      rcases Nat.eq_zero_or_pos j with h1 | h1
      · subst h1; simpa using h
      · have := hsp m (m + j) hm (by omega) (by omega); omega
    simp only [List.length_drop] at h0
    omega

/-- from lo + d down to lo + 1: the first one that is right, else commit -/
def goDown (ok : Int → Bool) (commit lo : Int) : Nat → Int
  | 0 => commit
  | d + 1 => if ok (lo + (d : Int) + 1) = true then lo + (d : Int) + 1 else goDown ok commit lo d
theorem goDown_zero {ok : Int → Bool} {commit lo : Int} : goDown ok commit lo 0 = commit := rfl
theorem goDown_hit {ok : Int → Bool} {commit lo : Int} {d : Nat} (h : ok (lo + (d : Int) + 1) = true) : goDown ok commit lo (d + 1) = lo + (d : Int) + 1 := by rw [goDown, if_pos h]
theorem goDown_miss {ok : Int → Bool} {commit lo : Int} {d : Nat} (h : ok (lo + (d : Int) + 1) = false) : goDown ok commit lo (d + 1) = goDown ok commit lo d := by rw [goDown, if_neg (by simp [h])]
theorem goDown_congr {ok ok' : Int → Bool} {commit lo : Int} : ∀ {d : Nat}, (∀ e : Nat, e < d → ok (lo + (e : Int) + 1) = ok' (lo + (e : Int) + 1)) → goDown ok commit lo d = goDown ok' commit lo d
  | 0, _ => rfl
  | d + 1, h => by
    have h1 := h d (by omega)
    have h2 := goDown_congr (ok := ok) (ok' := ok') (commit := commit) (lo := lo) (d := d) (fun e he => h e (by omega))
    unfold goDown
    rw [h1, h2]
theorem goDown_skip {ok : Int → Bool} {commit lo : Int} {d : Nat} : ∀ {k : Nat}, (∀ e : Nat, d ≤ e → e < d + k → ok (lo + (e : Int) + 1) = false) → goDown ok commit lo (d + k) = goDown ok commit lo d
  | 0, _ => rfl
  | k + 1, h => by
    rw [← Nat.add_assoc, goDown_miss (h (d + k) (by omega) (by omega))]
    exact goDown_skip (fun e h1 h2 => h e h1 (by omega))
/-- the model's and the program's way down meet -/
theorem goDown_min {t : Int → Bool} {commit lo med top : Int} {q : Int → Bool} (hq : ∀ i, q i = true ↔ i ≤ med) :
    goDown (fun i => t i && q i) commit lo (top - lo).toNat = goDown t commit lo (min med top - lo).toNat := by
  by_cases h : med ≤ top
  · rw [Int.min_eq_left h]
    obtain ⟨k, hk⟩ : ∃ k, (top - lo).toNat = (med - lo).toNat + k := ⟨(top - lo).toNat - (med - lo).toNat, by omega⟩
    rw [hk, goDown_skip (fun e h1 h2 => ?_)]
    · refine goDown_congr fun e he => ?_
      have : q (lo + (e : Int) + 1) = true := (hq _).2 (by omega)
      simp [this]
    · have : q (lo + (e : Int) + 1) = false := by
        cases hb : q (lo + (e : Int) + 1) with
        | false => rfl
        | true => have := (hq _).1 hb; omega
      simp [this]
  · rw [Int.min_eq_right (by omega)]
    refine goDown_congr fun e he => ?_
    have : q (lo + (e : Int) + 1) = true := (hq _).2 (by omega)
    simp [this]
end Go.Proofs.Ytionggfecikedaa

/-
  CommitPoint, the model's and the program's, walked (the place that most have: Most).
-/
import Derived.Test.YtionggfecikedaaRows
import Derived.Test.YtionggfecikedaaIntS
import Derived.Test.YtionggfecikedaaMergeMath
namespace Go.Proofs.Ytionggfecikedaa
open Go.RowKit

/-- the entry's term is the one asked for -/
def termAt (ts : List Int) (base term i : Int) : Bool := decide (ts.getD (i - base - 1).toNat 0 = term)
def mostHave (ms : List Int) (i : Int) : Bool := decide (ms.length < 2 * cntGe ms i)
abbrev commitOk (base : Int) (la lb : Nat) : Prop := la ≤ 7 ∧ lb ≤ 1000000 ∧ 0 ≤ base ∧ base ≤ 1000000
/-- what CommitPoint answers -/
def commitR (ms ts : List Int) (base term commit : Int) : Int :=
  if commitOk base ms.length ts.length then goDown (fun i => termAt ts base term i && mostHave ms i) commit (max base commit) (base + ts.length - max base commit).toNat else commit
theorem commitNo {base : Int} {la lb : Nat} (h : ¬ commitOk base la lb) : 7 < la ∨ (la ≤ 7 ∧ 1000000 < lb) ∨ (la ≤ 7 ∧ lb ≤ 1000000 ∧ base < 0) ∨ (la ≤ 7 ∧ lb ≤ 1000000 ∧ 0 ≤ base ∧ 1000000 < base) := by
  unfold commitOk at h; omega

set_option maxHeartbeats 1000000 in
theorem specCommit_any (base term commit : Int) (oa ob : Option Addr) (la lb ca cb : Nat) (ms ts : List Int) (w : World) (ha : SlI w oa la ms) (hb : SlI w ob lb ts) (hla : la ≤ 1073741824) (hlb : lb ≤ 1073741824) :
    Calls Try.prog 13 #[.slice oa la ca, .slice ob lb cb, .int .i64 base, .int .i64 term, .int .i64 commit] w fun e w' => e = .returned (.int .i64 (commitR ms ts base term commit)) ∧ w' = w := by
  have hlm := ha.1
  have hlt := hb.1
  by_cases h : commitOk base la lb
  · have e0 : commitR ms ts base term commit = goDown (fun i => termAt ts base term i && mostHave ms i) commit (max base commit) (base + ts.length - max base commit).toNat := if_pos (by rw [hlm, hlt]; exact h)
    rw [e0]
    obtain ⟨h1, h2, h3, h4⟩ := h
    obtain ⟨ok, hok⟩ : ∃ ok : Int → Bool, (fun i => termAt ts base term i && mostHave ms i) = ok := ⟨_, rfl⟩
    have HOK : Hid (∀ i, ok i = (termAt ts base term i && mostHave ms i)) := fun i => by rw [← hok]
    rw [hok]
    obtain ⟨lo, hlo⟩ : ∃ lo, max base commit = lo := ⟨_, rfl⟩
    have HLO : Hid (max base commit = lo) := hlo
    rw [hlo]
    obtain ⟨r, hr⟩ : ∃ r, goDown ok commit lo (base + ts.length - lo).toNat = r := ⟨_, rfl⟩
    have HR : Hid (goDown ok commit lo (base + ts.length - lo).toNat = r) := hr
    rw [hr]
    have HA : Hid (SlI w oa la ms ∧ SlI w ob lb ts) := ⟨ha, hb⟩
    clear ha hb e0 hok hlo hr
    go_enter Try.func13, Try.ntmps13
    go_wp2
    go_loop [11] (fun i => ∃ j : Int, base ≤ j ∧ j ≤ base + lb ∧ i = .int .i64 j ∧ goDown ok commit lo (j - lo).toNat = r) (fun i => (intOf i - base).toNat)
    case atStart => exact ⟨base + lb, by omega, by omega, by go_num, by rw [← hlt]; exact HR.out⟩
    case round =>
      obtain ⟨j, hj0, hj1, rfl, hg⟩ := hrel
      have HG : Hid (goDown ok commit lo (j - lo).toNat = r) := hg
      clear hg
      by_cases c1 : base < j
      · by_cases c2 : commit < j
        · go_wp2
          go_loop [12, 48] (fun n k => ∃ q : Nat, q ≤ la ∧ k = .int .i64 (q : Int) ∧ n = .int .i64 ((cntGe (ms.take q) j : Nat) : Int)) (fun _ k => la - (intOf k).toNat)
          case atStart => exact ⟨0, Nat.zero_le _, rfl, by simp [cntGe]⟩
          case round =>
            obtain ⟨q, hq, rfl, rfl⟩ := hrel
            have hcn : cntGe (ms.take q) j ≤ q := Nat.le_trans (cntGe_le _ _) (by simp; omega)
            by_cases hql : q < la
            · obtain ⟨b, off, rfl, hcc⟩ := HA.out.1.2.2 (by omega)
              have hck := hcc q hql
              have hs : ms.take (q + 1) = ms.take q ++ [ms.getD q 0] := by
                have h9 : q < ms.length := by omega
                rw [List.take_succ_eq_append_getElem h9]; simp [List.getD, h9]
              obtain ⟨m, hm⟩ : ∃ m, ms.getD q 0 = m := ⟨_, rfl⟩
              rw [hm] at hck hs
              have HN : Hid (cntGe (ms.take (q + 1)) j = cntGe (ms.take q) j + (if j ≤ m then 1 else 0)) := by show _ = _; rw [hs, cntGe_snoc]
              obtain ⟨x, hx⟩ : ∃ x, cntGe (ms.take q) j = x := ⟨_, rfl⟩
              rw [hx] at HN hcn ⊢
              clear hcc hs hm hx
              by_cases c3 : j ≤ m
              · go_wp2
                go_round
                case rel => exact ⟨q + 1, by omega, by go_num, by rw [HN.out, if_pos c3]; go_num⟩
                case measure => simp [intOf]; omega
              · go_wp2
                go_round
                case rel => exact ⟨q + 1, by omega, by go_num, by rw [HN.out, if_neg c3]; go_num⟩
                case measure => simp [intOf]; omega
            · obtain rfl : q = la := by omega
              have e8 : ms.take q = ms := List.take_of_length_le (by omega)
              rw [e8] at hcn ⊢
              obtain ⟨p, hp⟩ : ∃ p : Nat, j - base - 1 = (p : Int) := ⟨(j - base - 1).toNat, by omega⟩
              obtain ⟨b, off, rfl, hdd⟩ := HA.out.2.2.2 (by omega)
              have hcj := hdd p (by omega)
              obtain ⟨u, hu⟩ : ∃ u, ts.getD p 0 = u := ⟨_, rfl⟩
              rw [hu] at hcj
              have HO : Hid (ok j = (decide (u = term) && decide (q < 2 * cntGe ms j))) := by
                show _ = _
                rw [HOK.out, termAt, mostHave, hp, hlm, Int.toNat_natCast, hu]
              have hlow : lo < j := by have := HLO.out; omega
              have HD : Hid ((j - lo).toNat = (j - 1 - lo).toNat + 1 ∧ lo + ((j - 1 - lo).toNat : Int) + 1 = j) := ⟨by omega, by omega⟩
              obtain ⟨x, hx⟩ : ∃ x, cntGe ms j = x := ⟨_, rfl⟩
              rw [hx] at HO hcn ⊢
              clear hdd hu hx
              by_cases c4 : u = term
              · subst c4
                by_cases c5 : q < 2 * x
                · have HF : Hid (r = j) := by
                    have h9 := HG.out
                    rw [HD.out.1, goDown_hit (by rw [HD.out.2, HO.out]; simp [c5]), HD.out.2] at h9
                    exact h9.symm
                  have c6 : (q : Int) < 2 * (x : Int) := by omega
                  go_wp2
                  go_ret
                  exact ⟨ret_int HF.out.symm, rfl⟩
                · have HF : Hid (goDown ok commit lo (j - 1 - lo).toNat = r) := by
                    have h9 := HG.out
                    rw [HD.out.1, goDown_miss (by rw [HD.out.2, HO.out]; simp; omega)] at h9
                    exact h9
                  have c6 : ¬ (q : Int) < 2 * (x : Int) := by omega
                  go_wp2
                  go_round
                  case rel => exact ⟨j - 1, by omega, by omega, by go_num, HF.out⟩
                  case measure => simp [intOf]; omega
              · have HF : Hid (goDown ok commit lo (j - 1 - lo).toNat = r) := by
                  have h9 := HG.out
                  rw [HD.out.1, goDown_miss (by rw [HD.out.2, HO.out]; simp [c4])] at h9
                  exact h9
                go_wp2
                go_round
                case rel => exact ⟨j - 1, by omega, by omega, by go_num, HF.out⟩
                case measure => simp [intOf]; omega
        · have HF : Hid (r = commit) := by
            have h9 := HG.out
            have h8 : (j - lo).toNat = 0 := by have := HLO.out; omega
            rw [h8, goDown_zero] at h9
            exact h9.symm
          go_wp2
          go_ret
          exact ⟨ret_int HF.out.symm, rfl⟩
      · have HF : Hid (r = commit) := by
          have h9 := HG.out
          have h8 : (j - lo).toNat = 0 := by have := HLO.out; omega
          rw [h8, goDown_zero] at h9
          exact h9.symm
        go_wp2
        go_ret
        exact ⟨ret_int HF.out.symm, rfl⟩
  · have e0 : commitR ms ts base term commit = commit := if_neg (by rw [hlm, hlt]; exact h)
    rw [e0]
    have hh := commitNo h
    clear ha hb h e0
    rcases hh with h1 | ⟨h1, h2⟩ | ⟨h1, h2, h3⟩ | ⟨h1, h2, h3, h4⟩ <;>
      (go_enter Try.func13, Try.ntmps13; go_wp2; go_ret; exact ⟨rfl, rfl⟩)
end Go.Proofs.Ytionggfecikedaa

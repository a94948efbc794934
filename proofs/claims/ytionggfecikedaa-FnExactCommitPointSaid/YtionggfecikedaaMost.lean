/-
  slices.Sorted of slices.Values, and the place that most have: walked.
-/
import Derived.Test.YtionggfecikedaaCollect
import Derived.Test.YtionggfecikedaaCommit
namespace Go.Proofs.Ytionggfecikedaa
open Go.RowKit Go.Sort

theorem grownBy_sorted (w : World) (g n : Nat) (d : Array Int) (os : Array Obj) : w.grownBy (grow (putRow (Value.int .i64) (Sort.ahead w n) g 0 d) os) (some g) := by
  refine ⟨rfl, rfl, rfl, by simp [Sort.ahead], fun k hk hne => ?_⟩
  rw [heap_grow_old _ _ (by simpa [Sort.ahead] using hk)]
  have hkg : g ≠ k := fun h => hne (by rw [h])
  show ((Sort.ahead w n).heap.modify g _)[k]? = _
  rw [Array.getElem?_modify]
  simp [hkg, Sort.ahead]
/-- a sorted copy -/
def srt (zs : List Int) : List Int := zs.mergeSort fun x y => decide (x ≤ y)
theorem srt_perm (zs : List Int) : (srt zs).Perm zs := List.mergeSort_perm _ _
theorem srt_len (zs : List Int) : (srt zs).length = zs.length := (srt_perm zs).length_eq
theorem srt_sorted (zs : List Int) : (srt zs).Pairwise (· ≤ ·) := by
  have h := List.pairwise_mergeSort (le := fun x y : Int => decide (x ≤ y)) (fun a b c h1 h2 => by simp at *; omega) (fun a b => by simp; omega) zs
  exact h.imp (fun h => by simpa using h)

set_option maxHeartbeats 600000 in
theorem sorted_any (B : Nat) (oa : Option Addr) (len cap : Nat) (zs : List Int) (w : World) (hsl : SlI w oa len zs) (hB : w.heap[B]? = some (.cells #[.slice oa len cap] 23 (0, 0))) (hm : len ≤ 1048576) (h1 : 1 ≤ len) :
    Calls Try.prog 73 #[.func (.func 84) #[] #[.pointer (some ⟨B, 0, none⟩)]] w fun e w' => ∃ g cp, e = .returned (.slice (some ⟨g, 0, none⟩) len cp) ∧ SlI w' (some ⟨g, 0, none⟩) len (srt zs) ∧ w.grownBy w' none := by
  have HC : Hid (Calls _ _ _ _ _) := collect_any B oa len cap zs w hsl hB hm
  have hl : zs.length = len := hsl.1
  have HZ : Hid (∀ z ∈ zs, i64Ok z) := hsl.2.1
  clear hsl hB
  go_enter Try.func73, Try.ntmps73
  go_wp2_with fail
  refine HC.out.mono ?_
  rintro e w1 ⟨v, rfl, hR, hG⟩
  clear HC
  obtain ⟨g, cp, hv⟩ : ∃ g cp, v = .slice (some ⟨g, 0, none⟩) len cp := by
    rcases hR.2 with ⟨_, h0⟩ | ⟨g', cap', cur, h9, _⟩
    · omega
    · exact ⟨g', cap', h9⟩
  subst hv
  have hO := ownI_made hR HZ.out
  have hgl := hR.lt g rfl
  have hH : Holds (Value.int .i64) w1 g 0 zs.toArray := by
    intro j hj
    have hj' : j < zs.length := by simpa using hj
    refine ⟨?_, hO.free _⟩
    rw [Nat.zero_add, hO.cell j hj']
    simp [List.getD, hj']
  have HS : Hid (∀ w' n os, w' = grow (putRow (Value.int .i64) (Sort.ahead w1 n) g 0 (zs.mergeSort fun x y => decide (x ≤ y)).toArray) os → SlI w' (some ⟨g, 0, none⟩) len (srt zs) ∧ w.grownBy w' none) := by
    intro w' n os hw
    subst hw
    refine ⟨⟨by rw [srt_len]; exact hl, fun z hz => HZ.out z ((srt_perm zs).mem_iff.1 hz), fun _ => ⟨g, 0, rfl, fun i hi => ?_⟩⟩, grownBy_new hG (grownBy_sorted w1 g n _ os) hgl.1⟩
    have hil : i < (srt zs).length := by rw [srt_len]; omega
    rw [cell?_grow _ _ _ (by simpa [Sort.ahead] using hgl.2)]
    have := cell?_putRow (Value.int .i64) (Sort.ahead w1 n) g 0 zs.toArray (srt zs).toArray hH (by simpa using srt_len zs) i (by simpa using hil)
    show (putRow (Value.int .i64) (Sort.ahead w1 n) g 0 (srt zs).toArray).cell? ⟨g, 0 + i, none⟩ = _
    rw [this]
    simp [List.getD, hil]
  have HT : Hid (Calls _ _ _ _ _) := Try.slices_Sort_int g 0 cp zs w1 hH hgl.2 (by omega)
  rw [hl] at HT
  clear hR hG hO hgl hH
  go_wp2_with fail
  refine HT.out.mono ?_
  rintro e w2 ⟨rfl, n, os, hw2⟩
  have R : Hid (_ ∧ _) := HS.out w2 n os hw2
  clear HT HS hw2
  go_wp2
  go_ret
  exact ⟨g, cp, rfl, R.out.1, R.out.2⟩

set_option maxHeartbeats 600000 in
theorem placeOfMost_any (oa : Option Addr) (len cap : Nat) (zs : List Int) (w : World) (hsl : SlI w oa len zs) (hm : len ≤ 1048576) (h1 : 1 ≤ len) :
    Calls Try.prog 42 #[.slice oa len cap] w fun e w' => e = .returned (.int .i64 ((srt zs).getD ((len - 1) / 2) 0)) ∧ w.grownBy w' none := by
  have HS : Hid (SlI w oa len zs) := hsl
  clear hsl
  obtain ⟨x, hx⟩ : ∃ x, (srt zs).getD ((len - 1) / 2) 0 = x := ⟨_, rfl⟩
  have HX : Hid ((srt zs).getD ((len - 1) / 2) 0 = x) := hx
  rw [hx]
  clear hx
  have HV : Hid (∀ X : World, Calls Try.prog 74 #[.slice oa len cap] X fun e w' => e = .returned (.func (.func 84) #[] #[.pointer (some ⟨X.heap.size, 0, none⟩)]) ∧ w' = X.alloc (.cells #[.slice oa len cap] 23)) := by
    intro X
    go_enter Try.func74, Try.ntmps74
    go_wp2
    go_ret
    exact ⟨rfl, rfl⟩
  go_enter Try.func42, Try.ntmps42
  go_wp2_with fail
  refine (HV.out w).mono ?_
  clear HV
  rintro e w1 ⟨rfl, hw1⟩
  have hG1 : w.grownBy w1 none := by rw [hw1]; exact World.grownBy_alloc _ _ _
  have hb1 : w1.heap[w.heap.size]? = some (.cells #[.slice oa len cap] 23 (0, 0)) := by rw [hw1]; exact heap_alloc_new w _
  have HC : Hid (Calls _ _ _ _ _) := sorted_any w.heap.size oa len cap zs w1 (HS.out.grown0 hG1) hb1 hm h1
  have HG1 : Hid (w.grownBy w1 none) := hG1
  clear hw1 hG1 hb1
  go_wp2_with fail
  refine HC.out.mono ?_
  clear HC
  rintro e w2 ⟨g, cp, rfl, hS2, hG2⟩
  have HG2 : Hid (w.grownBy w2 none) := grownBy_trans HG1.out hG2
  obtain ⟨b, off, he, hcc⟩ := hS2.2.2 (by omega)
  obtain ⟨rfl, rfl⟩ : g = b ∧ 0 = off := by simpa using he
  have hck := hcc ((len - 1) / 2) (by omega)
  rw [HX.out] at hck
  have e1 : ((len : Int) - 1) / 2 = (((len - 1) / 2 : Nat) : Int) := by omega
  have e2 : ((len : Int) - 1).tdiv 2 = (((len - 1) / 2 : Nat) : Int) := by rw [Int.tdiv_eq_ediv_of_nonneg (by omega)]; exact e1
  obtain ⟨m, hmm⟩ : ∃ m, (len - 1) / 2 = m := ⟨_, rfl⟩
  have hml : m < len := by omega
  rw [hmm] at e1 e2 hck
  rw [Nat.zero_add] at hck
  clear hcc hS2 hG2 he hmm
  go_wp2
  go_ret
  exact ⟨rfl, HG2.out⟩
theorem commitR_none {ms ts : List Int} {base term commit : Int} (h : ms.length = 0) : commitR ms ts base term commit = commit := by
  unfold commitR
  split
  · obtain rfl : ms = [] := List.eq_nil_of_length_eq_zero h
    generalize (base + ts.length - max base commit).toNat = d
    induction d with
    | zero => rfl
    | succ d ih => rw [goDown_miss (by simp [mostHave, cntGe])]; exact ih
  · rfl
theorem commitR_some {ms ts : List Int} {base term commit : Int} (hk : commitOk base ms.length ts.length) (h : 1 ≤ ms.length) :
    commitR ms ts base term commit = goDown (termAt ts base term) commit (max base commit) (min ((srt ms).getD ((ms.length - 1) / 2) 0) (base + ts.length) - max base commit).toNat := by
  rw [commitR, if_pos hk]
  refine goDown_min (t := termAt ts base term) (q := mostHave ms) (med := (srt ms).getD ((ms.length - 1) / 2) 0) fun i => ?_
  have := most_iff (srt_perm ms) (srt_sorted ms) (by rw [srt_len]; omega) i
  rw [srt_len] at this
  unfold mostHave
  rw [decide_eq_true_iff]
  exact this

set_option maxHeartbeats 1000000 in
theorem implCommit_any (base term commit : Int) (oa ob : Option Addr) (la lb ca cb : Nat) (ms ts : List Int) (w : World) (ha : SlI w oa la ms) (hb : SlI w ob lb ts) (hla : la ≤ 1073741824) (hlb : lb ≤ 1073741824) :
    Calls Try.prog 15 #[.slice oa la ca, .slice ob lb cb, .int .i64 base, .int .i64 term, .int .i64 commit] w fun e w' => e = .returned (.int .i64 (commitR ms ts base term commit)) ∧ w.grownBy w' none := by
  have hlm := ha.1
  have hlt := hb.1
  by_cases h0 : la = 0
  · rw [commitR_none (by omega)]
    clear ha hb
    go_enter Try.func15, Try.ntmps15
    go_wp2
    go_ret
    exact ⟨rfl, grownBy_refl _ _⟩
  by_cases h : commitOk base la lb
  · rw [commitR_some (by rw [hlm, hlt]; exact h) (by omega)]
    have HM : Hid (Calls _ _ _ _ _) := placeOfMost_any oa la ca ms w ha (by have := h.1; omega) (by omega)
    obtain ⟨h1, h2, h3, h4⟩ := h
    rw [hlm]
    obtain ⟨med, hmed⟩ : ∃ med, (srt ms).getD ((la - 1) / 2) 0 = med := ⟨_, rfl⟩
    rw [hmed] at HM ⊢
    have hmok : i64Ok med := by
      rw [← hmed]
      have hi : (la - 1) / 2 < (srt ms).length := by rw [srt_len]; omega
      exact ha.2.1 _ ((srt_perm ms).mem_iff.1 (getI_mem hi))
    obtain ⟨ok, hok⟩ : ∃ ok : Int → Bool, termAt ts base term = ok := ⟨_, rfl⟩
    have HOK : Hid (termAt ts base term = ok) := hok
    rw [hok]
    obtain ⟨lo, hlo⟩ : ∃ lo, max base commit = lo := ⟨_, rfl⟩
    have HLO : Hid (max base commit = lo) := hlo
    rw [hlo]
    obtain ⟨r, hr⟩ : ∃ r, goDown ok commit lo (min med (base + ts.length) - lo).toNat = r := ⟨_, rfl⟩
    have HR : Hid (goDown ok commit lo (min med (base + ts.length) - lo).toNat = r) := hr
    rw [hr]
    have HB : Hid (SlI w ob lb ts) := hb
    have HK : Hid (i64Ok med) := hmok
    clear ha hb hmed hmok hok hr
    have z0 : ((la : Int) == 0) = false := by rw [beq_eq_false_iff_ne]; omega
    go_enter Try.func15, Try.ntmps15
    go_wp2_with fail
    refine HM.out.mono ?_
    clear HM
    rintro e w1 ⟨rfl, hG1⟩
    have HB1 : Hid (SlI w1 ob lb ts ∧ w.grownBy w1 none) := ⟨HB.out.grown0 hG1, hG1⟩
    clear hG1 HB
    have hlb2 : base ≤ lo := by rw [← hlo]; omega
    go_wp2
    go_loop [11] (fun i => ∃ j : Int, j ≤ base + lb ∧ i = .int .i64 j ∧ goDown ok commit lo (j - lo).toNat = r) (fun i => (intOf i - lo).toNat)
    case atStart => exact ⟨min med (base + lb), Int.min_le_right _ _, rfl, by rw [← hlt]; exact HR.out⟩
    case round =>
      obtain ⟨j, hj1, rfl, hg⟩ := hrel
      have HG : Hid (goDown ok commit lo (j - lo).toNat = r) := hg
      clear hg
      by_cases c1 : lo < j
      · obtain ⟨p, hp⟩ : ∃ p : Nat, j - base - 1 = (p : Int) := ⟨(j - base - 1).toNat, by omega⟩
        obtain ⟨b, off, rfl, hdd⟩ := HB1.out.1.2.2 (by omega)
        have hcj := hdd p (by omega)
        obtain ⟨u, hu⟩ : ∃ u, ts.getD p 0 = u := ⟨_, rfl⟩
        rw [hu] at hcj
        have HO : Hid (ok j = decide (u = term)) := by
          show _ = _
          rw [← HOK.out, termAt, hp, Int.toNat_natCast, hu]
        have HD : Hid ((j - lo).toNat = (j - 1 - lo).toNat + 1 ∧ lo + ((j - 1 - lo).toNat : Int) + 1 = j) := ⟨by omega, by omega⟩
        clear hdd hu
        by_cases c4 : u = term
        · subst c4
          have HF : Hid (r = j) := by
            have h9 := HG.out
            rw [HD.out.1, goDown_hit (by rw [HD.out.2, HO.out]; simp), HD.out.2] at h9
            exact h9.symm
          go_wp2
          go_ret
          exact ⟨ret_int HF.out.symm, HB1.out.2⟩
        · have HF : Hid (goDown ok commit lo (j - 1 - lo).toNat = r) := by
            have h9 := HG.out
            rw [HD.out.1, goDown_miss (by rw [HD.out.2, HO.out]; simp [c4])] at h9
            exact h9
          go_wp2
          go_round
          case rel => exact ⟨j - 1, by omega, by go_num, HF.out⟩
          case measure => simp [intOf]; omega
      · have HF : Hid (r = commit) := by
          have h9 := HG.out
          have h8 : (j - lo).toNat = 0 := by omega
          rw [h8, goDown_zero] at h9
          exact h9.symm
        go_wp2
        go_ret
        exact ⟨ret_int HF.out.symm, HB1.out.2⟩
  · have e0 : commitR ms ts base term commit = commit := if_neg (by rw [hlm, hlt]; exact h)
    rw [e0]
    have hh := commitNo h
    clear ha hb h e0
    have z0 : ((la : Int) == 0) = false := by rw [beq_eq_false_iff_ne]; omega
    rcases hh with h1 | ⟨h1, h2⟩ | ⟨h1, h2, h3⟩ | ⟨h1, h2, h3, h4⟩ <;>
      (go_enter Try.func15, Try.ntmps15; go_wp2; go_ret; exact ⟨rfl, grownBy_refl _ _⟩)
end Go.Proofs.Ytionggfecikedaa

/-
  MergePoint, the program's and the model's, walked.
-/
import Derived.Test.YtionggfecikedaaRows
import Derived.Test.YtionggfecikedaaIntS
import Derived.Test.YtionggfecikedaaMergeMath
namespace Go.Proofs.Ytionggfecikedaa
open Go.RowKit

/-- what MergePoint answers -/
def mergeR (base prev : Int) (ts ns : List Int) : Int × Int := if 0 ≤ base ∧ base ≤ 1000000 ∧ 0 ≤ prev ∧ prev ≤ 1000000 then mergeGo base prev ts 0 ns else (0, 0)
theorem mergeR_bad {base prev : Int} {ts ns : List Int} (h : ¬ (0 ≤ base ∧ base ≤ 1000000 ∧ 0 ≤ prev ∧ prev ≤ 1000000)) : mergeR base prev ts ns = (0, 0) := if_neg h
theorem mergeR_ok {base prev : Int} {ts ns : List Int} (h : 0 ≤ base ∧ base ≤ 1000000 ∧ 0 ≤ prev ∧ prev ≤ 1000000) : mergeR base prev ts ns = mergeGo base prev ts 0 ns := if_pos h
theorem ret_two {a b c d : Int} (h : (a, b) = (c, d)) : Ending.returned (.tuple #[.int .i64 a, .int .i64 b]) = .returned (.tuple #[.int .i64 c, .int .i64 d]) := by
  simp only [Prod.mk.injEq] at h
  rw [h.1, h.2]

set_option maxHeartbeats 1000000 in
theorem specMerge_any (base prev : Int) (oa ob : Option Addr) (la lb ca cb : Nat) (ts ns : List Int) (w : World) (ha : SlI w oa la ts) (hb : SlI w ob lb ns) (hla : la ≤ 1073741824) (hlb : lb ≤ 1073741824) :
    Calls Try.prog 17 #[.int .i64 base, .slice oa la ca, .int .i64 prev, .slice ob lb cb] w fun e w' => e = .returned (.tuple #[.int .i64 (mergeR base prev ts ns).1, .int .i64 (mergeR base prev ts ns).2]) ∧ w' = w := by
  by_cases h : 0 ≤ base ∧ base ≤ 1000000 ∧ 0 ≤ prev ∧ prev ≤ 1000000
  · rw [mergeR_ok h]
    obtain ⟨hb0, hb1, hp0, hp1⟩ := h
    have hln := hb.1
    have hlt := ha.1
    obtain ⟨⟨r1, r2⟩, hr⟩ : ∃ r, mergeGo base prev ts 0 ns = r := ⟨_, rfl⟩
    have HR : Hid (mergeGo base prev ts 0 (ns.drop 0) = (r1, r2)) := hr
    rw [hr]
    have HA : Hid (SlI w oa la ts) := ha
    have HB : Hid (SlI w ob lb ns) := hb
    clear ha hb hr
    go_enter Try.func17, Try.ntmps17
    go_wp2
    go_loop [29] (fun i => ∃ k : Nat, k ≤ lb ∧ i = .int .i64 (k : Int) ∧ mergeGo base prev ts k (ns.drop k) = (r1, r2)) (fun i => lb - (intOf i).toNat)
    case atStart => exact ⟨0, Nat.zero_le _, rfl, HR.out⟩
    case round =>
      obtain ⟨k, hk, rfl, hm⟩ := hrel
      by_cases hlt' : k < lb
      · rw [dropI_cons ns k (by omega)] at hm
        obtain ⟨b, off, rfl, hcc⟩ := HB.out.2.2 (by omega)
        have hck := hcc k hlt'
        obtain ⟨t, ht⟩ : ∃ t, ns.getD k 0 = t := ⟨_, rfl⟩
        rw [ht] at hck hm
        clear hcc ht
        by_cases c1 : prev + 1 + (k : Int) ≤ base
        · rw [mergeGo_old c1] at hm
          have HM : Hid (_ = _) := hm
          clear hm
          go_wp2
          go_round
          case rel => exact ⟨k + 1, by omega, by go_num, HM.out⟩
          case measure => simp [intOf]; omega
        · by_cases c2 : base + (la : Int) < prev + 1 + (k : Int)
          · rw [mergeGo_far c1 (by rw [hlt]; exact c2)] at hm
            have HM : Hid (_ = _) := hm
            clear hm
            go_wp2
            go_ret2
            exact ⟨ret_two HM.out, rfl⟩
          · obtain ⟨j, hj⟩ : ∃ j : Nat, prev + 1 + (k : Int) - base - 1 = (j : Int) := ⟨(prev + 1 + (k : Int) - base - 1).toNat, by omega⟩
            obtain ⟨b', off', rfl, hdd⟩ := HA.out.2.2 (by omega)
            have hcj := hdd j (by omega)
            obtain ⟨u, hu⟩ : ∃ u, ts.getD j 0 = u := ⟨_, rfl⟩
            rw [hu] at hcj
            have hjn : ts.getD (prev + 1 + (k : Int) - base - 1).toNat 0 = u := by rw [hj]; simpa using hu
            clear hdd hu
            by_cases c3 : u = t
            · rw [mergeGo_same c1 (by rw [hlt]; exact c2) (hjn.trans c3)] at hm
              have HM : Hid (_ = _) := hm
              subst c3
              clear hm hjn
              go_wp2
              go_round
              case rel => exact ⟨k + 1, by omega, by go_num, HM.out⟩
              case measure => simp [intOf]; omega
            · rw [mergeGo_cut c1 (by rw [hlt]; exact c2) (by rw [hjn]; exact c3)] at hm
              have HM : Hid (_ = _) := hm
              clear hm hjn
              go_wp2
              go_ret2
              exact ⟨ret_two HM.out, rfl⟩
      · obtain rfl : k = lb := by omega
        rw [List.drop_of_length_le (by omega)] at hm
        have HM : Hid (_ = _) := hm
        clear hm
        go_wp2
        go_ret2
        exact ⟨ret_two HM.out, rfl⟩
  · rw [mergeR_bad h]
    clear ha hb
    have HH : Hid (¬ _) := h
    by_cases h1 : base < 0
    · clear h
      go_enter Try.func17, Try.ntmps17
      go_wp2
      go_ret2
      exact ⟨rfl, rfl⟩
    · by_cases h2 : 1000000 < base
      · clear h
        go_enter Try.func17, Try.ntmps17
        go_wp2
        go_ret2
        exact ⟨rfl, rfl⟩
      · by_cases h3 : prev < 0
        · clear h
          go_enter Try.func17, Try.ntmps17
          go_wp2
          go_ret2
          exact ⟨rfl, rfl⟩
        · have h4 : 1000000 < prev := by omega
          clear h
          go_enter Try.func17, Try.ntmps17
          go_wp2
          go_ret2
          exact ⟨rfl, rfl⟩
set_option maxHeartbeats 1000000 in
theorem implMerge_any (base prev : Int) (oa ob : Option Addr) (la lb ca cb : Nat) (ts ns : List Int) (w : World) (ha : SlI w oa la ts) (hb : SlI w ob lb ns) (hla : la ≤ 1073741824) (hlb : lb ≤ 1073741824) :
    Calls Try.prog 18 #[.int .i64 base, .slice oa la ca, .int .i64 prev, .slice ob lb cb] w fun e w' => e = .returned (.tuple #[.int .i64 (mergeR base prev ts ns).1, .int .i64 (mergeR base prev ts ns).2]) ∧ w' = w := by
  by_cases h : 0 ≤ base ∧ base ≤ 1000000 ∧ 0 ≤ prev ∧ prev ≤ 1000000
  · rw [mergeR_ok h]
    obtain ⟨hb0, hb1, hp0, hp1⟩ := h
    have hln := hb.1
    have hlt := ha.1
    obtain ⟨⟨r1, r2⟩, hr⟩ : ∃ r, mergeGo base prev ts 0 ns = r := ⟨_, rfl⟩
    have HR : Hid (mergeGo base prev ts 0 (ns.drop 0) = (r1, r2)) := hr
    rw [hr]
    have HA : Hid (SlI w oa la ts) := ha
    have HB : Hid (SlI w ob lb ns) := hb
    clear ha hb hr
    go_enter Try.func18, Try.ntmps18
    go_wp2
    go_loop [29] (fun i => ∃ k : Nat, k ≤ lb ∧ i = .int .i64 (k : Int) ∧ mergeGo base prev ts k (ns.drop k) = (r1, r2)) (fun i => lb - (intOf i).toNat)
    case atStart => exact ⟨0, Nat.zero_le _, rfl, HR.out⟩
    case round =>
      obtain ⟨k, hk, rfl, hm⟩ := hrel
      by_cases hlt' : k < lb
      · rw [dropI_cons ns k (by omega)] at hm
        obtain ⟨b, off, rfl, hcc⟩ := HB.out.2.2 (by omega)
        have hck := hcc k hlt'
        obtain ⟨t, ht⟩ : ∃ t, ns.getD k 0 = t := ⟨_, rfl⟩
        rw [ht] at hck hm
        clear hcc ht
        by_cases c1 : prev + 1 + (k : Int) ≤ base
        · rw [mergeGo_old c1] at hm
          have HM : Hid (_ = _) := hm
          clear hm
          go_wp2
          go_round
          case rel => exact ⟨k + 1, by omega, by go_num, HM.out⟩
          case measure => simp [intOf]; omega
        · by_cases c2 : base + (la : Int) < prev + 1 + (k : Int)
          · rw [mergeGo_far c1 (by rw [hlt]; exact c2)] at hm
            have HM : Hid (_ = _) := hm
            clear hm
            go_wp2
            go_ret2
            exact ⟨ret_two HM.out, rfl⟩
          · obtain ⟨j, hj⟩ : ∃ j : Nat, prev + 1 + (k : Int) - base - 1 = (j : Int) := ⟨(prev + 1 + (k : Int) - base - 1).toNat, by omega⟩
            obtain ⟨b', off', rfl, hdd⟩ := HA.out.2.2 (by omega)
            have hcj := hdd j (by omega)
            obtain ⟨u, hu⟩ : ∃ u, ts.getD j 0 = u := ⟨_, rfl⟩
            rw [hu] at hcj
            have hjn : ts.getD (prev + 1 + (k : Int) - base - 1).toNat 0 = u := by rw [hj]; simpa using hu
            clear hdd hu
            by_cases c3 : u = t
            · rw [mergeGo_same c1 (by rw [hlt]; exact c2) (hjn.trans c3)] at hm
              have HM : Hid (_ = _) := hm
              subst c3
              clear hm hjn
              go_wp2
              go_round
              case rel => exact ⟨k + 1, by omega, by go_num, HM.out⟩
              case measure => simp [intOf]; omega
            · rw [mergeGo_cut c1 (by rw [hlt]; exact c2) (by rw [hjn]; exact c3)] at hm
              have HM : Hid (_ = _) := hm
              clear hm hjn
              go_wp2
              go_ret2
              exact ⟨ret_two HM.out, rfl⟩
      · obtain rfl : k = lb := by omega
        rw [List.drop_of_length_le (by omega)] at hm
        have HM : Hid (_ = _) := hm
        clear hm
        go_wp2
        go_ret2
        exact ⟨ret_two HM.out, rfl⟩
  · rw [mergeR_bad h]
    clear ha hb
    have HH : Hid (¬ _) := h
    by_cases h1 : base < 0
    · clear h
      go_enter Try.func18, Try.ntmps18
      go_wp2
      go_ret2
      exact ⟨rfl, rfl⟩
    · by_cases h2 : 1000000 < base
      · clear h
        go_enter Try.func18, Try.ntmps18
        go_wp2
        go_ret2
        exact ⟨rfl, rfl⟩
      · by_cases h3 : prev < 0
        · clear h
          go_enter Try.func18, Try.ntmps18
          go_wp2
          go_ret2
          exact ⟨rfl, rfl⟩
        · have h4 : 1000000 < prev := by omega
          clear h
          go_enter Try.func18, Try.ntmps18
          go_wp2
          go_ret2
          exact ⟨rfl, rfl⟩
end Go.Proofs.Ytionggfecikedaa

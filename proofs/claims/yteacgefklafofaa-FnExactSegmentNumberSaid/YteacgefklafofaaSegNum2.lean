/-
  strings.CutPrefix, the program's nameNumber, both SegmentNumbers, walked.
-/
import Derived.Test.YteacgefklafofaaSegNum
namespace Go.Proofs.Yteacgefklafofaa
open Go.RowKit

set_option maxHeartbeats 1000000 in
theorem cut_hit (s p : ByteArray) (w : World) (h1 : p.size ≤ s.size) (h2 : ((s.extract 0 p.size).toList == p.toList) = true) :
    Calls Try.prog 8 #[.string s, .string p] w fun e w' => e = .returned (.tuple #[.string (s.extract p.size s.size), .bool true]) ∧ w' = w := by
  go_enter Try.func8, Try.ntmps8
  go_wp2
  go_ret2
  exact ⟨rfl, rfl⟩
set_option maxHeartbeats 1000000 in
theorem cut_miss (s p : ByteArray) (w : World) (h : ¬ p.size ≤ s.size ∨ ((s.extract 0 p.size).toList == p.toList) = false) :
    Calls Try.prog 8 #[.string s, .string p] w fun e w' => e = .returned (.tuple #[.string s, .bool false]) ∧ w' = w := by
  by_cases h1 : p.size ≤ s.size
  · have h2 : ((s.extract 0 p.size).toList == p.toList) = false := h.resolve_left (fun hn => hn h1)
    clear h
    go_enter Try.func8, Try.ntmps8
    go_wp2
    go_ret2
    exact ⟨rfl, rfl⟩
  · clear h
    go_enter Try.func8, Try.ntmps8
    go_wp2
    go_ret2
    exact ⟨rfl, rfl⟩

/-- what nameNumber tells -/
def nameR0 (s p : ByteArray) : Int := if nameOk s p then (nameNum s p : Int) else 0
theorem nameR0_ok {s p : ByteArray} (h : nameOk s p) : nameR0 s p = (nameNum s p : Int) := if_pos h
theorem nameR0_no {s p : ByteArray} (h : ¬ nameOk s p) : nameR0 s p = 0 := if_neg h
def nameB (s p : ByteArray) : Bool := decide (nameOk s p)
theorem nameB_ok {s p : ByteArray} (h : nameOk s p) : nameB s p = true := decide_eq_true h
theorem nameB_no {s p : ByteArray} (h : ¬ nameOk s p) : nameB s p = false := decide_eq_false h
theorem bs_extract (s : ByteArray) (i : Nat) : bs (s.extract i s.size) = (bs s).drop i := by
  have e : (s.extract i s.size).data.toList = s.data.toList.drop i := by
    rw [ByteArray.data_extract, Array.toList_extract, List.extract_eq_drop_take']
    congr 1
    exact List.take_of_length_le (by simp)
  unfold bs
  rw [e, List.map_drop]

set_option maxHeartbeats 1000000 in
theorem nameNumber_any (s p : ByteArray) (w : World) (_hs : s.size ≤ 1048576) (_hp : p.size ≤ 16) :
    Calls Try.prog 7 #[.string p, .string s] w fun e w' => e = .returned (.tuple #[.int .i64 (nameR0 s p), .bool (nameB s p)]) ∧ w' = w := by
  by_cases hm : ¬ p.size ≤ s.size ∨ ((s.extract 0 p.size).toList == p.toList) = false
  · have hn : ¬ nameOk s p := by
      rintro ⟨h1, h2, -⟩
      rcases hm with hm | hm
      · omega
      · rw [hm] at h2; cases h2
    rw [nameR0_no hn, nameB_no hn]
    have HM : Hid (_ ∨ _) := hm
    clear hm hn
    go_enter Try.func7, Try.ntmps7
    go_wp2_with fail
    refine (cut_miss s p w HM.out).mono ?_
    rintro e w1 ⟨rfl, rfl⟩
    go_wp2
    go_ret2
    exact ⟨rfl, rfl⟩
  · have h1 : p.size ≤ s.size := Classical.byContradiction fun h => hm (.inl h)
    have h2 : ((s.extract 0 p.size).toList == p.toList) = true := by
      cases h : ((s.extract 0 p.size).toList == p.toList) with
      | true => rfl
      | false => exact absurd (.inr h) hm
    have hz : (s.extract p.size s.size).size = s.size - p.size := by simp
    have hbx := bs_extract s p.size
    obtain ⟨d, hd⟩ : ∃ d, s.extract p.size s.size = d := ⟨_, rfl⟩
    have HC : Hid (Calls _ _ _ _ _) := cut_hit s p w h1 h2
    rw [hd] at hz hbx HC
    by_cases h3 : s.size = p.size + 8
    · have hz8 : d.size = 8 := by omega
      have hL : (bs d).length = 8 := by rw [bs_len]; exact hz8
      have HOK : Hid ((bs d).all dig = true → nameOk s p ∧ nameNum s p = numOf (bs d)) := fun h => ⟨⟨h3, h2, by rw [← hbx]; exact h⟩, by rw [nameNum, ← hbx]⟩
      have HNO : Hid (∀ c ∈ bs d, dig c = false → ¬ nameOk s p) := by
        intro c hc hf hn
        have h8 := hn.2.2
        rw [← hbx] at h8
        rw [List.all_eq_true.1 h8 c hc] at hf
        cases hf
      clear h2 hm hd hz hbx h3 h1
      go_enter Try.func7, Try.ntmps7
      go_wp2_with fail
      refine HC.out.mono ?_
      clear HC
      rintro e w1 ⟨rfl, rfl⟩
      go_wp2
      go_loop [8, 25] (fun v i => ∃ k : Nat, k ≤ 8 ∧ i = .int .i64 (k : Int) ∧ v = .int .i64 ((numOf ((bs d).take k) : Nat) : Int) ∧ ((bs d).take k).all dig = true) (fun _ i => 8 - (intOf i).toNat)
      case atStart => exact ⟨0, Nat.zero_le _, rfl, rfl, rfl⟩
      case round =>
        obtain ⟨k, hk, rfl, rfl, hd⟩ := hrel
        have hb := numOf_lt _ hd
        have hb2 : numOf ((bs d).take k) < 100000000 := Nat.lt_of_lt_of_le hb (by
          have : ((bs d).take k).length ≤ 8 := by simp; omega
          exact Nat.le_trans (Nat.pow_le_pow_right (by decide) this) (by decide))
        by_cases hlt : k < 8
        · have hi : k < d.size := by omega
          have hc := bs_get d k hi
          have hs1 := take_snoc (bs d) k (by omega)
          have HS : Hid ((bs d).take (k + 1) = _) := hs1
          have HD : Hid (_ = true) := hd
          obtain ⟨c, hce⟩ : ∃ c, (bs d).getD k 0 = c := ⟨_, rfl⟩
          rw [hce] at hc HS
          obtain ⟨x, hx⟩ : ∃ x, numOf ((bs d).take k) = x := ⟨_, rfl⟩
          have HX : Hid (numOf ((bs d).take k) = x) := hx
          rw [hx] at hb2 ⊢
          have HN : Hid (dig c = false → ¬ nameOk s p) := HNO.out c (by
            have : c ∈ (bs d).take (k + 1) := by rw [HS.out]; simp
            exact List.mem_of_mem_take this)
          clear hd hs1 hx hb
          by_cases c1 : c < 48
          · go_wp2
            go_ret2
            exact ⟨by rw [nameR0_no (HN.out (by simp [dig]; omega)), nameB_no (HN.out (by simp [dig]; omega))]; rfl, rfl⟩
          · by_cases c2 : 57 < c
            · go_wp2
              go_ret2
              exact ⟨by rw [nameR0_no (HN.out (by simp [dig]; omega)), nameB_no (HN.out (by simp [dig]; omega))]; rfl, rfl⟩
            · go_wp2
              go_round
              case rel =>
                refine ⟨k + 1, by omega, by go_num, ?_, ?_⟩
                · rw [HS.out, numOf_snoc, HX.out]; go_num
                · rw [HS.out, List.all_append, HD.out]; simp [dig]; omega
              case measure => simp [intOf]; omega
        · obtain rfl : k = 8 := by omega
          have e8 : (bs d).take 8 = bs d := List.take_of_length_le (by omega)
          rw [e8] at hd
          have HN : Hid (nameOk s p ∧ nameNum s p = numOf (bs d)) := HOK.out hd
          rw [e8]
          obtain ⟨x, hx⟩ : ∃ x, numOf (bs d) = x := ⟨_, rfl⟩
          rw [hx] at HN ⊢
          clear hd hb hb2 e8 hx
          go_wp2
          go_ret2
          exact ⟨by rw [nameR0_ok HN.out.1, nameB_ok HN.out.1, HN.out.2]; rfl, rfl⟩
    · have hn : ¬ nameOk s p := fun h => h3 h.1
      rw [nameR0_no hn, nameB_no hn]
      have hz8 : d.size ≠ 8 := by omega
      clear h2 hm hd hbx hn
      go_enter Try.func7, Try.ntmps7
      go_wp2_with fail
      refine HC.out.mono ?_
      clear HC
      rintro e w1 ⟨rfl, rfl⟩
      go_wp2
      go_ret2
      exact ⟨rfl, rfl⟩
end Go.Proofs.Yteacgefklafofaa

/-
  The number in a file's name: the model's l3Number and SegmentNumber, the program's nameNumber and SegmentNumber, walked.
-/
import Derived.Test.YteacgefklafofaaRows
import Derived.Test.YteacgefklafofaaBase
import Derived.Laws.DeepStrings4
import Derived.Lib.Strings
namespace Go.Proofs.Yteacgefklafofaa
open Go.RowKit

/-- the bytes of a string, as numbers -/
def bs (s : ByteArray) : List Nat := s.data.toList.map UInt8.toNat
theorem bs_len (s : ByteArray) : (bs s).length = s.size := by simp [bs]
theorem bs_get (s : ByteArray) (k : Nat) (h : k < s.size) : (s[k]'h).toNat = (bs s).getD k 0 := by
  have h2 : k < s.data.toList.length := by simpa using h
  have e : s[k]'h = s.data.toList[k]'h2 := by
    cases s; simp [ByteArray.getElem_eq_getElem_data]
  rw [e, bs, List.getD_eq_getElem?_getD, List.getElem?_map, List.getElem?_eq_getElem h2]
  rfl
theorem bs_lt (s : ByteArray) : ∀ z ∈ bs s, z < 256 := by
  intro z hz
  obtain ⟨u, _, rfl⟩ := List.mem_map.1 hz
  exact u.toNat_lt
def dig (c : Nat) : Bool := decide (48 ≤ c) && decide (c ≤ 57)
/-- decimal digits as a number -/
def numOf (l : List Nat) : Nat := l.foldl (fun v c => v * 10 + (c - 48)) 0
theorem numOf_snoc (l : List Nat) (c : Nat) : numOf (l ++ [c]) = numOf l * 10 + (c - 48) := by simp [numOf]
theorem numOf_from (l : List Nat) : ∀ v, l.all dig = true → l.foldl (fun v c => v * 10 + (c - 48)) v < (v + 1) * 10 ^ l.length := by
  induction l with
  | nil => intro v _; simp
  | cons c l ih =>
    intro v h
    simp only [List.all_cons, Bool.and_eq_true, dig, decide_eq_true_eq] at h
    have h1 := ih (v * 10 + (c - 48)) h.2
    have h2 : (v * 10 + (c - 48) + 1) * 10 ^ l.length ≤ ((v + 1) * 10) * 10 ^ l.length := Nat.mul_le_mul_right _ (by omega)
    simp only [List.foldl_cons, List.length_cons, Nat.pow_succ]
    rw [Nat.mul_comm (10 ^ l.length) 10, ← Nat.mul_assoc]
    omega
theorem numOf_lt (l : List Nat) (h : l.all dig = true) : numOf l < 10 ^ l.length := by
  have := numOf_from l 0 h
  simpa [numOf] using this
/-- the number behind a head, if the name is so made -/
abbrev nameOk (s p : ByteArray) : Prop := s.size = p.size + 8 ∧ ((s.extract 0 p.size).toList == p.toList) = true ∧ ((bs s).drop p.size).all dig = true
def nameNum (s p : ByteArray) : Nat := numOf ((bs s).drop p.size)

def nameR (s p : ByteArray) : Int := if nameOk s p then (nameNum s p : Int) else -1
theorem nameR_ok {s p : ByteArray} (h : nameOk s p) : nameR s p = (nameNum s p : Int) := if_pos h
theorem nameR_no {s p : ByteArray} (h : ¬ nameOk s p) : nameR s p = -1 := if_neg h

theorem take_snoc (l : List Nat) (k : Nat) (h : k < l.length) : l.take (k + 1) = l.take k ++ [l.getD k 0] := by
  rw [List.take_succ_eq_append_getElem h, List.getD_eq_getElem?_getD, List.getElem?_eq_getElem h]; rfl

set_option maxHeartbeats 1000000 in
theorem l3Number_any (s p : ByteArray) (w : World) (_hs : s.size ≤ 1048576) (hp : p.size ≤ 16) :
    Calls Try.prog 6 #[.string s, .string p] w fun e w' => e = .returned (.int .i64 (nameR s p)) ∧ w' = w := by
  by_cases h1 : s.size = p.size + 8
  · cases h2 : ((s.extract 0 p.size).toList == p.toList)
    · have hn : ¬ nameOk s p := fun h => by have := h.2.1; rw [h2] at this; cases this
      rw [nameR_no hn]
      have ht : p.size ≤ s.size := by omega
      go_enter Try.func6, Try.ntmps6
      go_wp2
      go_ret
      exact ⟨rfl, rfl⟩
    · have ht : p.size ≤ s.size := by omega
      have hL : ((bs s).drop p.size).length = 8 := by simp [bs_len]; omega
      go_enter Try.func6, Try.ntmps6
      go_wp2
      go_loop [5, 6] (fun v i => ∃ k : Nat, k ≤ 8 ∧ i = .int .i64 ((p.size + k : Nat) : Int) ∧ v = .int .i64 ((numOf (((bs s).drop p.size).take k) : Nat) : Int) ∧ (((bs s).drop p.size).take k).all dig = true) (fun _ i => s.size - (intOf i).toNat)
      case atStart => exact ⟨0, Nat.zero_le _, rfl, rfl, rfl⟩
      case round =>
        obtain ⟨k, hk, rfl, rfl, hd⟩ := hrel
        have hb := numOf_lt _ hd
        have hb2 : numOf (((bs s).drop p.size).take k) < 100000000 := Nat.lt_of_lt_of_le hb (by
          have : (((bs s).drop p.size).take k).length ≤ 8 := by simp; omega
          exact Nat.le_trans (Nat.pow_le_pow_right (by decide) this) (by decide))
        by_cases hlt : k < 8
        · have hi : p.size + k < s.size := by omega
          have hc := bs_get s (p.size + k) hi
          have hs1 := take_snoc ((bs s).drop p.size) k (by omega)
          have hg : ((bs s).drop p.size).getD k 0 = (bs s).getD (p.size + k) 0 := by simp [List.getD_eq_getElem?_getD]
          rw [hg] at hs1
          have HS : Hid (((bs s).drop p.size).take (k + 1) = _) := hs1
          have HD : Hid (_ = true) := hd
          obtain ⟨c, hce⟩ : ∃ c, (bs s).getD (p.size + k) 0 = c := ⟨_, rfl⟩
          rw [hce] at hc HS
          obtain ⟨x, hx⟩ : ∃ x, numOf (((bs s).drop p.size).take k) = x := ⟨_, rfl⟩
          have HX : Hid (numOf (((bs s).drop p.size).take k) = x) := hx
          rw [hx] at hb2 ⊢
          have HN : Hid (dig c = false → ¬ nameOk s p) := by
            intro hf hn
            have h8 := hn.2.2
            have hm : c ∈ (bs s).drop p.size := by
              have : c ∈ ((bs s).drop p.size).take (k + 1) := by rw [HS.out]; simp
              exact List.mem_of_mem_take this
            rw [List.all_eq_true.1 h8 c hm] at hf
            cases hf
          clear hd hs1 hg hx hb
          by_cases c1 : c < 48
          · go_wp2
            go_ret
            exact ⟨by rw [nameR_no (HN.out (by simp [dig]; omega))]; rfl, rfl⟩
          · by_cases c2 : 57 < c
            · go_wp2
              go_ret
              exact ⟨by rw [nameR_no (HN.out (by simp [dig]; omega))]; rfl, rfl⟩
            · go_wp2
              go_round
              case rel =>
                refine ⟨k + 1, by omega, by go_num, ?_, ?_⟩
                · rw [HS.out, numOf_snoc, HX.out]; go_num
                · rw [HS.out, List.all_append, HD.out]; simp [dig]; omega
              case measure => simp [intOf]; omega
        · obtain rfl : k = 8 := by omega
          have e8 : ((bs s).drop p.size).take 8 = (bs s).drop p.size := List.take_of_length_le (by omega)
          rw [e8] at hd
          have hn : nameOk s p := ⟨h1, h2, hd⟩
          have HN : Hid (nameOk s p) := hn
          rw [e8]
          have HX : Hid (nameNum s p = numOf ((bs s).drop p.size)) := rfl
          obtain ⟨x, hx⟩ : ∃ x, numOf ((bs s).drop p.size) = x := ⟨_, rfl⟩
          rw [hx] at HX ⊢
          clear hd hb hb2 e8 hx hn
          go_wp2
          go_ret
          exact ⟨by rw [nameR_ok HN.out, HX.out]; rfl, rfl⟩
  · have hn : ¬ nameOk s p := fun h => h1 h.1
    rw [nameR_no hn]
    go_enter Try.func6, Try.ntmps6
    go_wp2
    go_ret
    exact ⟨rfl, rfl⟩
end Go.Proofs.Yteacgefklafofaa

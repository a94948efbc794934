/-
  The laws' helpers over bytes, walked: markByteS (writes its own row), heldByteS, szByteS; over records: szRecord, markRecord, eqRecord, toRecord.
-/
import Derived.Test.YtkjjglnbbahbkaaDoorBytes
namespace Go.Proofs.YtkjjglnbbahbkaaDoor
open Go.RowKit

/-- the bytes behind k rounds of markByteS -/
def marked (zs : List Nat) (m : Nat) : Nat → List Nat
  | 0 => zs
  | k + 1 => (marked zs m k).set k ((m + k) % 256)
theorem marked_len (zs : List Nat) (m k : Nat) : (marked zs m k).length = zs.length := by
  induction k with
  | zero => rfl
  | succ k ih => simp [marked, ih]
theorem marked_get (zs : List Nat) (m k i : Nat) (hi : i < zs.length) (hk : i < k) : (marked zs m k).getD i 0 = (m + i) % 256 := by
  induction k with
  | zero => omega
  | succ k ih =>
    by_cases e : i = k
    · subst e
      simp [marked, List.getD, marked_len, hi]
    · have := ih (by omega)
      simp only [marked, List.getD, List.getElem?_set] at this ⊢
      rw [if_neg (by omega)]
      exact this

set_option maxHeartbeats 400000 in
theorem markByteS_own (g len cap m : Nat) (zs : List Nat) (w : World) (hO : Own w 5 g zs) (hl : zs.length = len) (hm : len ≤ 1073741824) (hm2 : m ≤ 1073741824) :
    Calls Tryd.prog 11 #[.slice (some ⟨g, 0, none⟩) len cap, .int .i64 (m : Int)] w fun e w' => e = .returned (.int .i64 ((m : Int) + len)) ∧ Own w' 5 g (marked zs m len) ∧ w.grownBy w' (some g) := by
  have HO : Hid (Own w 5 g zs) := hO
  clear hO
  go_enter Tryd.func11, Tryd.ntmps11
  go_wp2
  go_loopw [1, 5] (fun v i wr => ∃ k : Nat, k ≤ len ∧ i = .int .i64 k ∧ v = .int .i64 ((m : Int) + k) ∧ Own wr 5 g (marked zs m k) ∧ w.grownBy wr (some g)) (fun _ i _ => len - (intOf i).toNat)
  case atStart => exact ⟨0, Nat.zero_le _, rfl, by go_num, HO.out, grownBy_refl _ _⟩
  case round =>
    obtain ⟨k, hk, rfl, rfl, hO, hG⟩ := hrel
    by_cases hlt : k < len
    · have hcw := hO.cell k (by rw [marked_len]; omega)
      have hfz := hO.free k
      have R : Hid (Own (wr.setCell ⟨g, k, none⟩ (.int .u8 (((m + k) % 256 : Nat) : Int))) 5 g (marked zs m (k + 1)) ∧ w.grownBy (wr.setCell ⟨g, k, none⟩ (.int .u8 (((m + k) % 256 : Nat) : Int))) (some g)) :=
        ⟨hO.set k _ (by omega), grownBy_setCell hG⟩
      obtain ⟨c0, hce0⟩ : ∃ c0, c0 = (marked zs m k).getD k 0 := ⟨_, rfl⟩
      rw [← hce0] at hcw
      have e1 : (((m + k) % 256 : Nat) : Int) = ((m : Int) + k) % 256 := by omega
      rw [e1] at R
      clear hO hG hce0 e1
      go_wp2
      go_roundw
      case rel => exact ⟨k + 1, by omega, by go_num, by go_num, R.out.1, R.out.2⟩
      case measure => simp [intOf]; omega
    · obtain rfl : k = len := by omega
      have R : Hid (_ ∧ _) := ⟨hO, hG⟩
      clear hO hG
      go_wp2
      go_ret
      exact ⟨rfl, R.out.1, R.out.2⟩

set_option maxHeartbeats 400000 in
theorem heldByteS_own (g len cap m : Nat) (zs : List Nat) (w : World) (hO : Own w 5 g zs) (hl : zs.length = len) (hz : ∀ i, i < len → zs.getD i 0 = (m + i) % 256) (hm : len ≤ 1073741824) (hm2 : m ≤ 1073741824) :
    Calls Tryd.prog 12 #[.slice (some ⟨g, 0, none⟩) len cap, .int .i64 (m : Int)] w fun e w' => e = .returned (.int .i64 ((m : Int) + len)) ∧ w' = w := by
  have HO : Hid (Own w 5 g zs) := hO
  have HZ : Hid (∀ i, i < len → zs.getD i 0 = (m + i) % 256) := hz
  clear hO hz
  go_enter Tryd.func12, Tryd.ntmps12
  go_wp2
  go_loop [1, 5] (fun v i => ∃ k : Nat, k ≤ len ∧ i = .int .i64 k ∧ v = .int .i64 ((m : Int) + k)) (fun _ i => len - (intOf i).toNat)
  case atStart => exact ⟨0, Nat.zero_le _, rfl, by go_num⟩
  case round =>
    obtain ⟨k, hk, rfl, rfl⟩ := hrel
    by_cases hlt : k < len
    · have hcw := HO.out.cell k (by omega)
      rw [HZ.out k hlt] at hcw
      have e1 : (((m + k) % 256 : Nat) : Int) = ((m : Int) + k) % 256 := by omega
      rw [e1] at hcw
      clear e1
      go_wp2
      go_round
      case rel => exact ⟨k + 1, by omega, by go_num, by go_num⟩
      case measure => simp [intOf]; omega
    · obtain rfl : k = len := by omega
      go_wp2
      go_ret
      exact ⟨rfl, rfl⟩

set_option maxHeartbeats 400000 in
theorem szByteS_ok (oa : Option Addr) (len cap L : Nat) (w : World) (h : len ≤ L) (hL : L ≤ 1073741824) :
    Calls Tryd.prog 49 #[.slice oa len cap, .int .i64 (L : Int)] w fun e w' => e = .returned (.int .i64 ((L : Int) - len)) ∧ w' = w := by
  go_enter Tryd.func49, Tryd.ntmps49
  go_wp2
  go_ret
  exact ⟨rfl, rfl⟩
set_option maxHeartbeats 400000 in
theorem szByteS_big (oa : Option Addr) (len cap L : Nat) (w : World) (h : L < len) (hL : L ≤ 1073741824) (hx : len ≤ maxLen) :
    Calls Tryd.prog 49 #[.slice oa len cap, .int .i64 (L : Int)] w fun e w' => e = .returned (.int .i64 (-1)) ∧ w' = w := by
  unfold maxLen at hx
  go_enter Tryd.func49, Tryd.ntmps49
  go_wp2
  go_ret
  exact ⟨rfl, rfl⟩
end Go.Proofs.YtkjjglnbbahbkaaDoor

/-
  The model's sum (bit by bit) and the program's (by a table), walked to one number; the law's own walk.
-/
import Derived.Test.YteacgefklafofaaDoorBytes
import Derived.Test.YteacgefklafofaaDoorNot32
namespace Go.Proofs.YteacgefklafofaaDoor
open Go.RowKit

def stepN : Nat → Nat → Nat
  | 0, x => x
  | n + 1, x => Crc.step (stepN n x)
theorem stepN_lt (n x : Nat) (h : x < 4294967296) : stepN n x < 4294967296 := by
  induction n with
  | zero => exact h
  | succ n ih => exact Crc.step_lt _ ih
theorem stepN_eight (x : Nat) : stepN 8 x = Crc.step4 (Crc.step4 x) := rfl
theorem bit_one (x : Nat) (h : x < 4294967296) (h1 : x % 2 = 1) : bits .xor .u32 ((x : Int) / 2) 2197175160 = ((Crc.step x : Nat) : Int) := by
  rw [show ((x : Int) / 2) = ((x / 2 : Nat) : Int) by omega, show (2197175160 : Int) = ((2197175160 : Nat) : Int) from rfl, u32_xor_nat (x / 2) _ (by omega) (by decide)]
  unfold Crc.step
  rw [if_pos h1]
  rfl
theorem bit_zero (x : Nat) (h1 : x % 2 = 0) : ((x : Int) / 2) = ((Crc.step x : Nat) : Int) := by
  unfold Crc.step
  rw [if_neg (by omega), Nat.xor_zero]
  omega

set_option maxHeartbeats 400000 in
theorem l2Table_any (x0 : Nat) (hx0 : x0 < 4294967296) (w : World) :
    Calls Tryd.prog 33 #[.int .u32 x0] w fun e w' => e = .returned (.int .u32 ((Crc.step4 (Crc.step4 x0) : Nat) : Int)) ∧ w' = w := by
  go_enter Tryd.func33, Tryd.ntmps33
  go_wp2
  go_loop [0, 3] (fun v i => ∃ k : Nat, k ≤ 8 ∧ i = .int .i64 k ∧ v = .int .u32 ((stepN k x0 : Nat) : Int)) (fun _ i => 8 - (intOf i).toNat)
  case atStart => exact ⟨0, Nat.zero_le _, rfl, rfl⟩
  case round =>
    obtain ⟨k, hk, rfl, rfl⟩ := hrel
    by_cases hlt : k < 8
    · have HN : Hid (stepN (k + 1) x0 = Crc.step (stepN k x0)) := rfl
      have hx := stepN_lt k x0 hx0
      obtain ⟨x, hxe⟩ : ∃ x, x = stepN k x0 := ⟨_, rfl⟩
      rw [← hxe] at HN hx ⊢
      clear hxe
      rcases (show x % 2 = 1 ∨ x % 2 = 0 by omega) with h1 | h1
      · have e1 := bit_one x hx h1
        have e2 : ((x : Int) % 2 == 1) = true := by rw [beq_iff_eq]; omega
        have e3 : (x : Int) % 2 = 1 := by omega
        clear h1
        go_wp2
        go_round
        case rel => exact ⟨k + 1, by omega, by go_num, by rw [HN.out]⟩
        case measure => simp [intOf]; omega
      · have e3 : (x : Int) % 2 = 0 := by omega
        have H1 : Hid (((x : Int) / 2) = ((Crc.step x : Nat) : Int)) := bit_zero x h1
        clear h1
        go_wp2
        go_round
        case rel => exact ⟨k + 1, by omega, by go_num, by rw [HN.out, ← H1.out]⟩
        case measure => simp [intOf]; omega
    · obtain rfl : k = 8 := by omega
      go_wp2
      go_ret
      exact ⟨rfl, rfl⟩

set_option maxHeartbeats 400000 in
theorem specCrc_any (oa : Option Addr) (len cap : Nat) (zs : List Nat) (w : World) (hsl : SlB w oa len zs) (hm : len ≤ 1073741824) :
    Calls Tryd.prog 8 #[.slice oa len cap] w fun e w' => e = .returned (.int .u32 ((Crc.crc zs : Nat) : Int)) ∧ w' = w := by
  obtain ⟨hl, hb, hc⟩ := hsl
  have HB : Hid (∀ z ∈ zs, z < 256) := hb
  clear hb
  go_enter Tryd.func8, Tryd.ntmps8
  go_wp2
  go_loop [3, 8] (fun v i => ∃ k : Nat, k ≤ len ∧ i = .int .i64 k ∧ v = .int .u32 ((Crc.crcL 4294967295 (zs.take k) : Nat) : Int)) (fun _ i => len - (intOf i).toNat)
  case atStart => exact ⟨0, Nat.zero_le _, rfl, rfl⟩
  case round =>
    obtain ⟨k, hk, rfl, rfl⟩ := hrel
    have hx : Crc.crcL 4294967295 (zs.take k) < 4294967296 := Crc.crcL_lt _ (Crc.lt_take _ _ HB.out) _ (by decide)
    by_cases hlt : k < len
    · obtain ⟨b, off, rfl, hcc⟩ := hc (by omega)
      have hck := hcc k hlt
      obtain ⟨c, hce⟩ : ∃ c, c = zs.getD k 0 := ⟨_, rfl⟩
      have hc256 : c < 256 := by rw [hce]; exact HB.out _ (Crc.getD_mem _ _ (by omega))
      rw [← hce] at hck
      obtain ⟨x, hxe⟩ : ∃ x, x = Crc.crcL 4294967295 (zs.take k) := ⟨_, rfl⟩
      have HN : Hid (Crc.crcL 4294967295 (zs.take (k + 1)) = Crc.step4 (Crc.step4 (x ^^^ c))) := by
        show _ = _
        rw [Crc.take_snoc zs k (by omega), Crc.crcL_snoc, ← hxe, ← hce]; rfl
      rw [← hxe] at hx ⊢
      clear hce hcc hc hxe
      have e1 : ((c : Int) % 4294967296) = c := by omega
      have e2 : bits .xor .u32 (x : Int) (c : Int) = ((x ^^^ c : Nat) : Int) := u32_xor_nat x c hx (by omega)
      have hy : x ^^^ c < 4294967296 := Nat.xor_lt_two_pow (n := 32) hx (by omega)
      obtain ⟨y, hye⟩ : ∃ y, y = x ^^^ c := ⟨_, rfl⟩
      rw [← hye] at e2 hy HN
      clear hye
      go_wp2_with (go_at_call 33; refine (l2Table_any y hy _).mono ?_; rintro e w' ⟨rfl, rfl⟩)
      go_round
      case rel => exact ⟨k + 1, by omega, by go_num, by rw [HN.out]⟩
      case measure => simp [intOf]; omega
    · have HE : Hid (zs.take k = zs) := List.take_of_length_le (by omega)
      obtain ⟨x, hxe⟩ : ∃ x, x = Crc.crcL 4294967295 (zs.take k) := ⟨_, rfl⟩
      rw [← hxe] at hx ⊢
      rw [HE.out] at hxe
      have HX : Hid (x = Crc.crcL 4294967295 zs) := hxe
      clear hxe
      have e1 := not32 x hx
      go_wp2
      go_ret
      exact ⟨ret_int (by unfold Crc.crc; rw [← HX.out]), rfl⟩

end Go.Proofs.YteacgefklafofaaDoor

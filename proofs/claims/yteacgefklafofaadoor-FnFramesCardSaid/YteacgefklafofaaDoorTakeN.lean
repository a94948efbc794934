/-
  A number out of bytes: the program's takeNumber, walked.
-/
import Derived.Test.YteacgefklafofaaDoorLe4P
import Derived.Test.YteacgefklafofaaDoorCrcMath
namespace Go.Proofs.YteacgefklafofaaDoor
open Go.RowKit

/-- the number of bytes, the lowest first -/
def leVal : List Nat → Nat
  | [] => 0
  | z :: zs => z + 256 * leVal zs
theorem leVal_snoc (l : List Nat) (c : Nat) : leVal (l ++ [c]) = leVal l + 256 ^ l.length * c := by
  induction l with
  | nil => simp [leVal]
  | cons z l ih =>
    simp only [List.cons_append, leVal, ih, List.length_cons, Nat.pow_succ]
    rw [Nat.mul_add, ← Nat.mul_assoc, Nat.mul_comm 256 (256 ^ l.length)]
    omega
theorem leVal_lt (l : List Nat) (h : ∀ z ∈ l, z < 256) : leVal l < 256 ^ l.length := by
  induction l with
  | nil => simp [leVal]
  | cons z l ih =>
    have := ih (fun z hz => h z (by simp [hz]))
    have := h z (by simp)
    simp only [leVal, List.length_cons, Nat.pow_succ]
    omega
theorem le4_val (n : Nat) (h : n < 4294967296) : leVal (le4 n) = n := by simp [leVal, le4]; omega
theorem le4_of_val (l : List Nat) (h : ∀ z ∈ l, z < 256) (h4 : l.length = 4) : le4 (leVal l) = l := by
  match l, h4 with
  | [a, b, c, d], _ =>
    have ha := h a (by simp)
    have hb := h b (by simp)
    have hc := h c (by simp)
    have hd := h d (by simp)
    simp only [leVal, le4]
    congr 1
    · omega
    congr 1
    · omega
    congr 1
    · omega
    congr 1
    · omega
theorem or_add (x z i : Nat) (h : x < 2 ^ i) : x ||| (z * 2 ^ i) = x + z * 2 ^ i := by
  have := Nat.shiftLeft_add_eq_or_of_lt h z
  rw [Nat.shiftLeft_eq] at this
  rw [Nat.or_comm, ← this, Nat.add_comm]

set_option maxHeartbeats 1000000 in
theorem takeNumber_any (oa : Option Addr) (len cap : Nat) (zs : List Nat) (w : World) (hsl : SlB w oa len zs) (h4 : 4 ≤ len) (hm : len ≤ 1073741824) :
    Calls Tryd.prog 46 #[.slice oa len cap] w fun e w' => e = .returned (.int .u32 ((leVal (zs.take 4) : Nat) : Int)) ∧ w' = w := by
  obtain ⟨hl, hb, hc⟩ := hsl
  obtain ⟨b, off, rfl, hcc⟩ := hc (by omega)
  have HB : Hid (∀ z ∈ zs, z < 256) := hb
  have HC : Hid (∀ i, i < len → _) := hcc
  clear hb hcc hc
  go_enter Tryd.func46, Tryd.ntmps46
  go_wp2
  go_loop [3, 5] (fun v i => ∃ k : Nat, k ≤ 4 ∧ i = .int .i64 k ∧ v = .int .u32 ((leVal (zs.take k) : Nat) : Int)) (fun _ i => 4 - (intOf i).toNat)
  case atStart => exact ⟨0, Nat.zero_le _, rfl, rfl⟩
  case round =>
    obtain ⟨k, hk, rfl, rfl⟩ := hrel
    by_cases hlt : k < 4
    · have hck := HC.out k (by omega)
      obtain ⟨c, hce⟩ : ∃ c, c = zs.getD k 0 := ⟨_, rfl⟩
      have hc256 : c < 256 := by rw [hce]; exact HB.out _ (Crc.getD_mem _ _ (by omega))
      rw [← hce] at hck
      obtain ⟨x, hxe⟩ : ∃ x, x = leVal (zs.take k) := ⟨_, rfl⟩
      have hx : x < 256 ^ k := by
        have := leVal_lt (zs.take k) (fun z hz => HB.out z (List.mem_of_mem_take hz))
        rw [← hxe] at this
        simpa [show min k zs.length = k by omega] using this
      have HN : Hid (leVal (zs.take (k + 1)) = x + 256 ^ k * c) := by
        show _ = _
        rw [Crc.take_snoc zs k (by omega), leVal_snoc, ← hxe, ← hce]
        simp [show min k zs.length = k by omega]
      rw [← hxe]
      clear hce hxe
      rcases (show k = 0 ∨ k = 1 ∨ k = 2 ∨ k = 3 by omega) with rfl | rfl | rfl | rfl
      · have e1 : bits .or .u32 (x : Int) (c : Int) = ((x + 256 ^ 0 * c : Nat) : Int) := by
          have := or_add x c 0 (by simpa using hx)
          rw [u32_or_nat x c (by omega) (by omega)]
          simp at this ⊢
          rw [this]
          simp
        simp only [Nat.add_zero] at hck
        have e0 : ((c : Int) % 4294967296) = c := by omega
        go_wp2
        go_round
        case rel => exact ⟨1, by omega, by go_num, by rw [HN.out]; first | exact congrArg _ e1 | rfl | (simp; done)⟩
        case measure => simp [intOf]
      · have e1 : bits .or .u32 (x : Int) ((c : Int) * 256) = ((x + 256 ^ 1 * c : Nat) : Int) := by
          have := or_add x c 8 (by simpa using hx)
          rw [show (c : Int) * 256 = ((c * 256 : Nat) : Int) by omega, u32_or_nat x (c * 256) (by omega) (by omega)]
          rw [show c * 256 = c * 2 ^ 8 by rfl, this]; simp; omega
        have e0 : ((c : Int) % 4294967296) = c := by omega
        have e2 : ((c : Int) * 256) % 4294967296 = (c : Int) * 256 := by omega
        go_wp2
        go_round
        case rel => exact ⟨2, by omega, by go_num, by rw [HN.out]; first | exact congrArg _ e1 | rfl | (simp; done)⟩
        case measure => simp [intOf]
      · have e1 : bits .or .u32 (x : Int) ((c : Int) * 65536) = ((x + 256 ^ 2 * c : Nat) : Int) := by
          have := or_add x c 16 (by simpa using hx)
          rw [show (c : Int) * 65536 = ((c * 65536 : Nat) : Int) by omega, u32_or_nat x (c * 65536) (by omega) (by omega)]
          rw [show c * 65536 = c * 2 ^ 16 by rfl, this]; simp; omega
        have e0 : ((c : Int) % 4294967296) = c := by omega
        have e2 : ((c : Int) * 65536) % 4294967296 = (c : Int) * 65536 := by omega
        go_wp2
        go_round
        case rel => exact ⟨3, by omega, by go_num, by rw [HN.out]; first | exact congrArg _ e1 | rfl | (simp; done)⟩
        case measure => simp [intOf]
      · have e1 : bits .or .u32 (x : Int) ((c : Int) * 16777216) = ((x + 256 ^ 3 * c : Nat) : Int) := by
          have := or_add x c 24 (by simpa using hx)
          rw [show (c : Int) * 16777216 = ((c * 16777216 : Nat) : Int) by omega, u32_or_nat x (c * 16777216) (by omega) (by omega)]
          rw [show c * 16777216 = c * 2 ^ 24 by rfl, this]; simp; omega
        have e0 : ((c : Int) % 4294967296) = c := by omega
        have e2 : ((c : Int) * 16777216) % 4294967296 = (c : Int) * 16777216 := by omega
        go_wp2
        go_round
        case rel => exact ⟨4, by omega, by go_num, by rw [HN.out]; first | exact congrArg _ e1 | rfl | (simp; done)⟩
        case measure => simp [intOf]
    · obtain rfl : k = 4 := by omega
      go_wp2
      go_ret
      exact ⟨rfl, rfl⟩

end Go.Proofs.YteacgefklafofaaDoor

/-
  impl's sum, walked: sumOver, over any bytes; the table's cells are a hypothesis.
-/
import Derived.Test.YteacgefklafofaaDoorChecked
import Derived.Test.YteacgefklafofaaDoorCrcMath
import Derived.Test.YteacgefklafofaaDoorBase
import Derived.Laws.BitsAllLaws
namespace Go.Proofs.YteacgefklafofaaDoor
open Go.RowKit

/-- The sum's table lies in its variable. -/
def Tab (w : World) : Prop := ∀ r, r < 16 → w.cell? ⟨0, r, none⟩ = some (.int .u32 ((Crc.step4 r : Nat) : Int))
theorem and15 (y : Nat) (hy : y < 4294967296) : bits .and .u32 (y : Int) 15 = ((y % 16 : Nat) : Int) := by
  have := u32_and_nat y 15 hy (by decide)
  rw [show ((15 : Nat) : Int) = 15 from rfl] at this
  rw [this, Nat.and_two_pow_sub_one_eq_mod y 4]
theorem nib (y : Nat) (hy : y < 4294967296) : bits .xor .u32 ((y : Int) / 16) ((Crc.step4 (y % 16) : Nat) : Int) = ((Crc.step4 y : Nat) : Int) := by
  rw [show ((y : Int) / 16) = ((y / 16 : Nat) : Int) by omega, u32_xor_nat (y / 16) _ (by omega) (Crc.step4_lt _ (by omega)), ← Crc.step4_split]

set_option maxHeartbeats 400000 in
theorem sumOver_any (s : Nat) (hs : s < 4294967296) (oa : Option Addr) (len cap : Nat) (zs : List Nat) (w : World) (hsl : SlB w oa len zs) (ht : Tab w) (hm : len ≤ 1073741824) :
    Calls Tryd.prog 34 #[.int .u32 s, .slice oa len cap] w fun e w' => e = .returned (.int .u32 ((Crc.crcL s zs : Nat) : Int)) ∧ w' = w := by
  obtain ⟨hl, hb, hc⟩ := hsl
  have HT : Hid (Tab w) := ht
  have HB : Hid (∀ z ∈ zs, z < 256) := hb
  clear ht hb
  go_enter Tryd.func34, Tryd.ntmps34
  go_wp2
  go_loop [0, 9] (fun v i => ∃ k : Nat, k ≤ len ∧ i = .int .i64 k ∧ v = .int .u32 ((Crc.crcL s (zs.take k) : Nat) : Int)) (fun _ i => len - (intOf i).toNat)
  case atStart => exact ⟨0, Nat.zero_le _, rfl, rfl⟩
  case round =>
    obtain ⟨k, hk, rfl, rfl⟩ := hrel
    by_cases hlt : k < len
    · obtain ⟨b, off, rfl, hcc⟩ := hc (by omega)
      have hck := hcc k hlt
      obtain ⟨c, hce⟩ : ∃ c, c = zs.getD k 0 := ⟨_, rfl⟩
      have hc256 : c < 256 := by rw [hce]; exact HB.out _ (Crc.getD_mem _ _ (by omega))
      rw [← hce] at hck
      obtain ⟨x, hxe⟩ : ∃ x, x = Crc.crcL s (zs.take k) := ⟨_, rfl⟩
      have hx : x < 4294967296 := by rw [hxe]; exact Crc.crcL_lt _ (Crc.lt_take _ _ HB.out) _ hs
      have HN : Hid (Crc.crcL s (zs.take (k + 1)) = Crc.step4 (Crc.step4 (x ^^^ c))) := by
        show _ = _
        rw [Crc.take_snoc zs k (by omega), Crc.crcL_snoc, ← hxe, ← hce]; rfl
      rw [← hxe]
      clear hce hcc hc hxe
      have e1 : ((c : Int) % 4294967296) = c := by omega
      have e2 : bits .xor .u32 (x : Int) (c : Int) = ((x ^^^ c : Nat) : Int) := u32_xor_nat x c hx (by omega)
      have hy : x ^^^ c < 4294967296 := Nat.xor_lt_two_pow (n := 32) hx (by omega)
      obtain ⟨y, hye⟩ : ∃ y, y = x ^^^ c := ⟨_, rfl⟩
      rw [← hye] at e2 hy HN
      clear hye
      have e3 := and15 y hy
      have e4 := nib y hy
      have c1 := HT.out (y % 16) (by omega)
      have hz := Crc.step4_lt y hy
      obtain ⟨z, hze⟩ : ∃ z, z = Crc.step4 y := ⟨_, rfl⟩
      rw [← hze] at e4 hz HN
      clear hze
      have e5 := and15 z hz
      have e6 := nib z hz
      have c2 := HT.out (z % 16) (by omega)
      go_wp2
      go_round
      case rel => exact ⟨k + 1, by omega, by go_num, by rw [HN.out]⟩
      case measure => simp [intOf]; omega
    · go_wp2
      go_ret
      exact ⟨ret_int (by rw [List.take_of_length_le (by omega)]), rfl⟩
end Go.Proofs.YteacgefklafofaaDoor

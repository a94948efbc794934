/-
  Four bytes of a number; the program's putNumber, walked.
-/
import Derived.Test.YteacgefklafofaaDoorLe4P
import Derived.Laws.OwnMore
namespace Go.Proofs.YteacgefklafofaaDoor
open Go.RowKit

set_option maxHeartbeats 1000000 in
theorem putNumber_own (g off len cap n : Nat) (zs : List Nat) (w : World) (hO : Own w 5 g zs) (h4 : 4 ≤ len) (hm : len ≤ 1073741824) (hl : off + 4 ≤ zs.length) (hn : n < 4294967296) :
    Calls Tryd.prog 38 #[.slice (some ⟨g, off, none⟩) len cap, .int .u32 (n : Int)] w fun e w' => e = .returned (.tuple #[]) ∧ Own w' 5 g (putN zs off n 4) ∧ w.grownBy w' (some g) := by
  have HO : Hid (Own w 5 g zs) := hO
  clear hO
  go_enter Tryd.func38, Tryd.ntmps38
  go_wp2
  go_loopw [5] (fun i wr => ∃ k : Nat, k ≤ 4 ∧ i = .int .i64 k ∧ Own wr 5 g (putN zs off n k) ∧ w.grownBy wr (some g)) (fun i _ => 4 - (intOf i).toNat)
  case atStart => exact ⟨0, Nat.zero_le _, rfl, HO.out, grownBy_refl _ _⟩
  case round =>
    obtain ⟨k, hk, rfl, hO, hG⟩ := hrel
    by_cases hlt : k < 4
    · have hcw := hO.cell (off + k) (by rw [putN_len]; omega)
      have hfz := hO.free (off + k)
      have hv : (le4 n).getD k 0 < 256 := by
        have hk4 : k < (le4 n).length := by rw [le4_len]; omega
        refine le4_lt n _ ?_
        simp [List.getD, hk4]
      have R : Hid (Own (wr.setCell ⟨g, off + k, none⟩ (.int .u8 (((le4 n).getD k 0 : Nat) : Int))) 5 g (putN zs off n (k + 1)) ∧ w.grownBy (wr.setCell ⟨g, off + k, none⟩ (.int .u8 (((le4 n).getD k 0 : Nat) : Int))) (some g)) :=
        ⟨hO.set (off + k) _ hv, grownBy_setCell hG⟩
      obtain ⟨c0, hce0⟩ : ∃ c0, c0 = (putN zs off n k).getD (off + k) 0 := ⟨_, rfl⟩
      rw [← hce0] at hcw
      clear hO hG hce0 hv
      rcases (show k = 0 ∨ k = 1 ∨ k = 2 ∨ k = 3 by omega) with rfl | rfl | rfl | rfl
      · have e1 : (((le4 n).getD 0 0 : Nat) : Int) = (n : Int) % 256 := by simp [le4]
        rw [e1] at R
        simp only [Nat.add_zero] at R hcw hfz
        go_wp2
        go_roundw
        case rel => exact ⟨1, by omega, by go_num, R.out.1, R.out.2⟩
        case measure => simp [intOf]
      · have e1 : (((le4 n).getD 1 0 : Nat) : Int) = (n : Int) / 256 % 256 := by simp [le4]
        rw [e1] at R
        go_wp2
        go_roundw
        case rel => exact ⟨2, by omega, by go_num, R.out.1, R.out.2⟩
        case measure => simp [intOf]
      · have e1 : (((le4 n).getD 2 0 : Nat) : Int) = (n : Int) / 65536 % 256 := by simp [le4]
        rw [e1] at R
        go_wp2
        go_roundw
        case rel => exact ⟨3, by omega, by go_num, R.out.1, R.out.2⟩
        case measure => simp [intOf]
      · have e1 : (((le4 n).getD 3 0 : Nat) : Int) = (n : Int) / 16777216 := by simp [le4]; omega
        rw [e1] at R
        go_wp2
        go_roundw
        case rel => exact ⟨4, by omega, by go_num, R.out.1, R.out.2⟩
        case measure => simp [intOf]
    · obtain rfl : k = 4 := by omega
      have R : Hid (_ ∧ _) := ⟨hO, hG⟩
      clear hO hG
      go_wp2
      go_end0
      exact ⟨rfl, R.out.1, R.out.2⟩
set_option maxHeartbeats 1000000 in
theorem putNumber_row (base m cp g off len cap n : Nat) (zs : List Nat) (w : World) (hR : w.ownsRow base 5 1 (.slice (some ⟨g, 0, none⟩) m cp) m (zs.map bv)) (hz : ∀ z ∈ zs, z < 256) (h4 : 4 ≤ len) (hm : len ≤ 1073741824) (hl : off + 4 ≤ zs.length) (hn : n < 4294967296) :
    Calls Tryd.prog 38 #[.slice (some ⟨g, off, none⟩) len cap, .int .u32 (n : Int)] w fun e w' => e = .returned (.tuple #[]) ∧ w'.ownsRow base 5 1 (.slice (some ⟨g, 0, none⟩) m cp) m ((putN zs off n 4).map bv) ∧ w.grownBy w' (some g) := by
  have HO : Hid (w.ownsRow base 5 1 (.slice (some ⟨g, 0, none⟩) m cp) m ((zs).map bv)) := hR
  have HZ : Hid (∀ z ∈ zs, z < 256) := hz
  clear hR hz
  go_enter Tryd.func38, Tryd.ntmps38
  go_wp2
  go_loopw [5] (fun i wr => ∃ k : Nat, k ≤ 4 ∧ i = .int .i64 k ∧ wr.ownsRow base 5 1 (.slice (some ⟨g, 0, none⟩) m cp) m ((putN zs off n k).map bv) ∧ w.grownBy wr (some g)) (fun i _ => 4 - (intOf i).toNat)
  case atStart => exact ⟨0, Nat.zero_le _, rfl, HO.out, grownBy_refl _ _⟩
  case round =>
    obtain ⟨k, hk, rfl, hR, hG⟩ := hrel
    have hO := own_made hR (putN_lt zs off n k HZ.out)
    by_cases hlt : k < 4
    · have hcw := hO.cell (off + k) (by rw [putN_len]; omega)
      have hfz := hO.free (off + k)
      have hv : (le4 n).getD k 0 < 256 := by
        have hk4 : k < (le4 n).length := by rw [le4_len]; omega
        refine le4_lt n _ ?_
        simp [List.getD, hk4]
      have R : Hid ((wr.setCell ⟨g, off + k, none⟩ (.int .u8 (((le4 n).getD k 0 : Nat) : Int))).ownsRow base 5 1 (.slice (some ⟨g, 0, none⟩) m cp) m ((putN zs off n (k + 1)).map bv) ∧ w.grownBy (wr.setCell ⟨g, off + k, none⟩ (.int .u8 (((le4 n).getD k 0 : Nat) : Int))) (some g)) :=
        ⟨by have := hR.stored (off + k) (bv ((le4 n).getD k 0)); rw [← List.map_set] at this; exact this.1, grownBy_setCell hG⟩
      obtain ⟨c0, hce0⟩ : ∃ c0, c0 = (putN zs off n k).getD (off + k) 0 := ⟨_, rfl⟩
      rw [← hce0] at hcw
      clear hO hG hR hce0 hv
      rcases (show k = 0 ∨ k = 1 ∨ k = 2 ∨ k = 3 by omega) with rfl | rfl | rfl | rfl
      · have e1 : (((le4 n).getD 0 0 : Nat) : Int) = (n : Int) % 256 := by simp [le4]
        rw [e1] at R
        simp only [Nat.add_zero] at R hcw hfz
        go_wp2
        go_roundw
        case rel => exact ⟨1, by omega, by go_num, R.out.1, R.out.2⟩
        case measure => simp [intOf]
      · have e1 : (((le4 n).getD 1 0 : Nat) : Int) = (n : Int) / 256 % 256 := by simp [le4]
        rw [e1] at R
        go_wp2
        go_roundw
        case rel => exact ⟨2, by omega, by go_num, R.out.1, R.out.2⟩
        case measure => simp [intOf]
      · have e1 : (((le4 n).getD 2 0 : Nat) : Int) = (n : Int) / 65536 % 256 := by simp [le4]
        rw [e1] at R
        go_wp2
        go_roundw
        case rel => exact ⟨3, by omega, by go_num, R.out.1, R.out.2⟩
        case measure => simp [intOf]
      · have e1 : (((le4 n).getD 3 0 : Nat) : Int) = (n : Int) / 16777216 := by simp [le4]; omega
        rw [e1] at R
        go_wp2
        go_roundw
        case rel => exact ⟨4, by omega, by go_num, R.out.1, R.out.2⟩
        case measure => simp [intOf]
    · obtain rfl : k = 4 := by omega
      have R : Hid (_ ∧ _) := ⟨hR, hG⟩
      clear hO hG hR
      go_wp2
      go_end0
      exact ⟨rfl, R.out.1, R.out.2⟩
end Go.Proofs.YteacgefklafofaaDoor

/-
  The program's numberedName and SegmentName, walked, by the library's contracts for Itoa and Repeat.
-/
import Derived.Test.YteacgefklafofaaDoorDec8
import Derived.Test.YteacgefklafofaaDoorShelf
import Derived.Lib.AppendIntMem
namespace Go.Proofs.YteacgefklafofaaDoor
open Go.RowKit

theorem dec_snoc (n k : Nat) : dec n (k + 1) = dec (n / 10) k ++ [48 + n % 10] := by
  induction k with
  | zero => simp [dec]
  | succ k ih =>
    rw [dec, ih, dec, Nat.div_div_eq_div_mul, Nat.pow_succ, Nat.mul_comm (10 ^ k) 10]
    rfl
theorem dec_zero (k : Nat) : (dec 0 k).map UInt8.ofNat = Lib.repeatL [48] k := by
  induction k with
  | zero => rfl
  | succ k ih => rw [dec, List.map_cons, ih]; simp [Lib.repeatL]
theorem digits_pad (k : Nat) : ∀ n, n < 10 ^ (k + 1) → 1 ≤ (Lib.decDigits n).length ∧ (Lib.decDigits n).length ≤ k + 1 ∧ Lib.repeatL [48] (k + 1 - (Lib.decDigits n).length) ++ Lib.decDigits n = (dec n (k + 1)).map UInt8.ofNat := by
  induction k with
  | zero =>
    intro n hn
    have h : n < 10 := by simpa using hn
    rw [Lib.decDigits_one h]
    refine ⟨Nat.le_refl _, Nat.le_refl _, ?_⟩
    simp [Lib.repeatL, dec, Nat.mod_eq_of_lt h]
  | succ k ih =>
    intro n hn
    by_cases h : n < 10
    · rw [Lib.decDigits_one h, dec_snoc, Nat.div_eq_of_lt h, List.map_append, dec_zero]
      refine ⟨Nat.le_refl _, by simp, ?_⟩
      simp [Nat.mod_eq_of_lt h]
    · have hq : n / 10 < 10 ^ (k + 1) := by
        rw [Nat.pow_succ] at hn
        omega
      obtain ⟨h1, h2, h3⟩ := ih (n / 10) hq
      have e : Lib.decDigits n = Lib.decDigits (n / 10) ++ [UInt8.ofNat (48 + n % 10)] := by rw [Lib.decDigits, dif_neg h]
      rw [e, dec_snoc, List.map_append, ← h3]
      refine ⟨by simp, by simp; omega, ?_⟩
      rw [List.length_append, List.length_singleton, show k + 1 + 1 - ((Lib.decDigits (n / 10)).length + 1) = k + 1 - (Lib.decDigits (n / 10)).length by omega, List.append_assoc]
      rfl
theorem name_eq (p : ByteArray) (n : Nat) (h : n < 100000000) :
    p ++ (⟨(Lib.repeatL [48] (8 - (Lib.decDigits n).length)).toArray⟩ : ByteArray) ++ (⟨(Lib.decDigits n).toArray⟩ : ByteArray) = p ++ strB (dec n 8) := by
  obtain ⟨h1, h2, h3⟩ := digits_pad 7 n (by simpa using h)
  apply ByteArray.ext
  simp only [ByteArray.data_append, strB]
  rw [← h3]
  simp

set_option maxHeartbeats 1000000 in
theorem numberedName_any (p : ByteArray) (n : Nat) (w : World) (hp : p.size ≤ 16) (h1 : 1 ≤ n) (h2 : n ≤ 99999999) (htab : Lib.TabIs Tryd.prog w "internal/strconv.uint64pow10" .u64 Lib.pow10Tab) :
    Calls Tryd.prog 43 #[.string p, .int .i64 (n : Int)] w fun e w' => e = .returned (.string (p ++ strB (dec n 8))) ∧ Below w.heap.size w w' := by
  obtain ⟨d1, d2, -⟩ := digits_pad 7 n (by simpa using (show n < 100000000 by omega))
  have HE : Hid (_ = _) := name_eq p n (by omega)
  have HI : Hid (Calls _ _ _ _ _) := Tryd.strconv_Itoa (n : Int) (by omega) (by omega) w htab
  rw [Lib.itoa_nonneg] at HI
  have hz : (⟨(Lib.decDigits n).toArray⟩ : ByteArray).size = (Lib.decDigits n).length := by simp [ByteArray.size]
  obtain ⟨m, hm⟩ : ∃ m, (Lib.decDigits n).length = m := ⟨_, rfl⟩
  obtain ⟨d, hd⟩ : ∃ d : ByteArray, (⟨(Lib.decDigits n).toArray⟩ : ByteArray) = d := ⟨_, rfl⟩
  rw [hd, hm] at hz HE
  rw [hd] at HI
  rw [hm] at d1 d2
  have HR : Hid (∀ w1, Calls Tryd.prog 49 #[.string ⟨#[48]⟩, .int .i64 ((8 : Int) - (m : Int))] w1 _) := fun w1 => by
    have := Tryd.strings_Repeat ⟨#[48]⟩ (8 - m) w1 (by omega) (by show 1 * _ ≤ _; omega)
    rw [show ((8 - m : Nat) : Int) = 8 - (m : Int) by omega] at this
    exact this
  obtain ⟨z, hze⟩ : ∃ z : ByteArray, (⟨(Lib.repeatL [48] (8 - m)).toArray⟩ : ByteArray) = z := ⟨_, rfl⟩
  have hzz : z.size = 8 - m := by rw [← hze]; simp [ByteArray.size, Lib.repeatL_length]
  rw [hze] at HE
  have HR2 : Hid (∀ w1, Calls Tryd.prog 49 #[.string ⟨#[48]⟩, .int .i64 ((8 : Int) - (m : Int))] w1 (fun e w' => e = .returned (.string z) ∧ Below w1.heap.size w1 w')) := fun w1 => by rw [← hze]; exact HR.out w1
  clear HR hze hd hm htab
  go_enter Tryd.func43, Tryd.ntmps43
  go_wp2_with fail
  refine HI.out.mono ?_
  clear HI
  rintro e w1 ⟨rfl, k, os, hw1⟩
  have HB : Hid (Below w.heap.size w w1) := by show Below _ _ _; rw [hw1]; exact Lib.below_grow _ w (Nat.le_refl _) k os
  clear hw1
  go_wp2_with fail
  refine (HR2.out w1).mono ?_
  clear HR2
  rintro e w2 ⟨rfl, hb2⟩
  have HB2 : Hid (Below w.heap.size w w2) := HB.out.trans (hb2.mono HB.out.size)
  clear hb2
  go_wp2
  go_ret
  exact ⟨by rw [← HE.out]; rfl, HB2.out⟩
end Go.Proofs.YteacgefklafofaaDoor

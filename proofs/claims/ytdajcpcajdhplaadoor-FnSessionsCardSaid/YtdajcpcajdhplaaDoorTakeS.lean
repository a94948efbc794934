/-
  A number out of bytes: the model's l2Get, walked.
-/
import Derived.Test.YtdajcpcajdhplaaDoorTakeN
namespace Go.Proofs.YtdajcpcajdhplaaDoor
open Go.RowKit

/-- what l2Get makes of at most eight bytes -/
def satVal (zs : List Nat) : Nat := if 18014398509481984 ≤ leVal (zs.drop 1) then 4611686018427387904 else leVal zs
theorem leVal_drop (zs : List Nat) (k : Nat) (h : k < zs.length) : leVal (zs.drop k) = zs.getD k 0 + 256 * leVal (zs.drop (k + 1)) := by
  rw [List.drop_eq_getElem_cons h, leVal, List.getD_eq_getElem?_getD, List.getElem?_eq_getElem h]
  rfl
theorem leVal_drop_lt (zs : List Nat) (hb : ∀ z ∈ zs, z < 256) (h8 : zs.length ≤ 8) (k : Nat) (hk : 2 ≤ k) : leVal (zs.drop k) < 18014398509481984 := by
  have h1 := leVal_lt (zs.drop k) (fun z hz => hb z (List.mem_of_mem_drop hz))
  have h2 : (zs.drop k).length ≤ 6 := by simp; omega
  exact Nat.lt_of_lt_of_le h1 (Nat.le_trans (Nat.pow_le_pow_right (by decide) h2) (by decide))
theorem satVal_four (zs : List Nat) (hb : ∀ z ∈ zs, z < 256) (h4 : zs.length ≤ 4) : satVal zs = leVal zs := by
  have h1 := leVal_lt (zs.drop 1) (fun z hz => hb z (List.mem_of_mem_drop hz))
  have h2 : (zs.drop 1).length ≤ 3 := by simp; omega
  have h3 : leVal (zs.drop 1) < 16777216 := Nat.lt_of_lt_of_le h1 (Nat.le_trans (Nat.pow_le_pow_right (by decide) h2) (by decide))
  unfold satVal
  rw [if_neg (by omega)]

set_option maxRecDepth 100000 in
set_option maxHeartbeats 1000000 in
theorem l2Get_any (oa : Option Addr) (len cap : Nat) (zs : List Nat) (w : World) (hsl : SlB w oa len zs) (h8 : len ≤ 8) :
    Calls Tryd.prog 70 #[.slice oa len cap] w fun e w' => e = .returned (.int .i64 ((satVal zs : Nat) : Int)) ∧ w' = w := by
  obtain ⟨hl, hb, hc⟩ := hsl
  have HB : Hid (∀ z ∈ zs, z < 256) := hb
  have HC : Hid (len ≠ 0 → _) := hc
  clear hb hc
  go_enter Tryd.func70, Tryd.ntmps70
  go_wp2
  go_loop [3, 4] (fun v i => ∃ k : Nat, k ≤ len ∧ i = .int .i64 ((k : Int) - 1) ∧ v = .int .i64 ((leVal (zs.drop k) : Nat) : Int) ∧ (k = 0 → leVal (zs.drop 1) < 18014398509481984)) (fun _ i => (intOf i + 1).toNat)
  case atStart =>
    refine ⟨len, Nat.le_refl _, rfl, by rw [List.drop_of_length_le (by omega)]; rfl, fun h => ?_⟩
    rw [List.drop_of_length_le (by omega)]
    decide
  case round =>
    obtain ⟨k, hk, rfl, rfl, hs⟩ := hrel
    by_cases h0 : k = 0
    · subst h0
      have HS : Hid (satVal zs = leVal (zs.drop 0)) := by
        show _ = _
        unfold satVal
        rw [if_neg (by have := hs rfl; omega)]
        rfl
      obtain ⟨x, hx⟩ : ∃ x, leVal (zs.drop 0) = x := ⟨_, rfl⟩
      rw [hx] at HS ⊢
      clear hs hx
      go_wp2
      go_ret
      exact ⟨by rw [HS.out]; rfl, rfl⟩
    · obtain ⟨b, off, rfl, hcc⟩ := HC.out (by omega)
      obtain ⟨j, rfl⟩ : ∃ j, k = j + 1 := ⟨k - 1, by omega⟩
      have hck := hcc j (by omega)
      obtain ⟨c, hce⟩ : ∃ c, c = zs.getD j 0 := ⟨_, rfl⟩
      have hc256 : c < 256 := by rw [hce]; exact HB.out _ (Crc.getD_mem _ _ (by omega))
      rw [← hce] at hck
      have hn := leVal_drop zs j (by omega)
      rw [← hce] at hn
      obtain ⟨x, hx⟩ : ∃ x, leVal (zs.drop (j + 1)) = x := ⟨_, rfl⟩
      have HL : Hid (2 ≤ j + 1 → x < 18014398509481984) := fun h => by rw [← hx]; exact leVal_drop_lt zs HB.out (by omega) (j + 1) h
      have HX : Hid (leVal (zs.drop (j + 1)) = x) := hx
      have HN : Hid (leVal (zs.drop j) = c + 256 * x) := by show _ = _; rw [hn, hx]
      rw [hx]
      clear hn hx hce hcc HC hs
      have ej : ((j + 1 : Nat) : Int) - 1 = (j : Int) := by omega
      rw [ej]
      by_cases hbig : 18014398509481984 ≤ x
      · have hj : j = 0 := by
          apply Classical.byContradiction
          intro hj
          have := HL.out (by omega)
          omega
        have HS : Hid (satVal zs = 4611686018427387904) := by
          show _ = _
          unfold satVal
          subst hj
          rw [if_pos (by rw [HX.out]; omega)]
        have hbi : (18014398509481984 : Int) ≤ (x : Int) := by omega
        clear hbig
        go_wp2
        go_ret
        exact ⟨by rw [HS.out]; rfl, rfl⟩
      · obtain ⟨X, hX⟩ : ∃ X : Int, (x : Int) = X := ⟨_, rfl⟩
        have hX0 : 0 ≤ X := by omega
        have hX1 : X < 18014398509481984 := by omega
        have HB2 : Hid (x < 18014398509481984) := by show _ < _; omega
        have HXI : Hid ((x : Int) = X) := hX
        rw [hX]
        clear hbig hX
        go_wp2
        go_round
        case rel => exact ⟨j, by omega, by go_num, by rw [HN.out, Int.natCast_add, Int.natCast_mul, HXI.out]; go_num, fun h => by subst h; rw [HX.out]; exact HB2.out⟩
        case measure => simp [intOf]

end Go.Proofs.YtdajcpcajdhplaaDoor

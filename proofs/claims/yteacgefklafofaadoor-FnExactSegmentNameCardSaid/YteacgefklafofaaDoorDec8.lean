/-
  The model's l4Dec8 and SegmentName, walked.
-/
import Derived.Test.YteacgefklafofaaDoorSpecEnc2
import Derived.Test.YteacgefklafofaaDoorStrB
namespace Go.Proofs.YteacgefklafofaaDoor
open Go.RowKit

/-- the last k decimal digits, the greatest first -/
def dec : Nat → Nat → List Nat
  | _, 0 => []
  | n, k + 1 => (48 + n / 10 ^ k % 10) :: dec n k
theorem dec_len (n k : Nat) : (dec n k).length = k := by
  induction k with
  | zero => rfl
  | succ k ih => simp [dec, ih]
theorem dec_lt (n k : Nat) : ∀ z ∈ dec n k, z < 256 := by
  induction k with
  | zero => simp [dec]
  | succ k ih =>
    intro z hz
    rcases List.mem_cons.1 hz with h | h
    · omega
    · exact ih z h
theorem ownsRow_lit1 (w : World) (base e : Nat) (v : Value) (hb : base ≤ w.heap.size) : (w.alloc (.cells #[v] e)).ownsRow base e 1 (.slice (some ⟨w.heap.size, 0, none⟩) 1 1) 1 [v] :=
  ⟨by simp, .inr ⟨w.heap.size, 1, #[v], rfl, hb, heap_alloc_new w _, Nat.le_refl _, by unfold maxLen; omega, by simp, by simp⟩⟩

set_option maxHeartbeats 1000000 in
theorem l4Dec8_any (n : Nat) (w : World) (hn : n ≤ 4611686018427387904) :
    Calls Tryd.prog 42 #[.int .i64 (n : Int)] w fun e w' => ∃ g cap, e = .returned (.slice (some ⟨g, 0, none⟩) 8 cap) ∧ w'.ownsRow w.heap.size 5 1 (.slice (some ⟨g, 0, none⟩) 8 cap) 8 ((dec n 8).map bv) ∧ w.grownBy w' none := by
  obtain ⟨i0, TB⟩ := byteT
  go_enter Tryd.func42, Tryd.ntmps42
  go_wp2
  go_loopw [0, 3, 4] (fun q o i wr => ∃ k g cap : Nat, k ≤ 8 ∧ i = .int .i64 (k : Int) ∧ (∃ x : Nat, q = .int .i64 (x : Int) ∧ x = n / 10 ^ k) ∧ o = .slice (some ⟨g, 0, none⟩) k cap ∧ wr.ownsRow w.heap.size 5 1 (.slice (some ⟨g, 0, none⟩) k cap) k ((dec n k).map bv) ∧ w.grownBy wr none) (fun _ _ i _ => 8 - (intOf i).toNat)
  case atStart => exact ⟨0, w.heap.size, 0, Nat.zero_le _, rfl, ⟨n, rfl, by simp⟩, rfl, World.ownsRow_made w #[] 0 (Nat.le_refl _) (Nat.zero_le _) rfl, World.grownBy_alloc _ _ _⟩
  case round =>
    obtain ⟨k, g, cap, hk, rfl, ⟨x, rfl, hxe⟩, rfl, hown, hG⟩ := hrel
    have hxV : x ≤ n := by rw [hxe]; exact Nat.div_le_self _ _
    have HX : Hid (x = n / 10 ^ k) := hxe
    have HG : Hid (w.grownBy wr none) := hG
    have HO : Hid (wr.ownsRow _ _ _ _ _ _) := hown
    have hsz := hG.size
    clear hxe hG hown
    by_cases hlt : k < 8
    · have e1 : ((48 + (x : Int) % 10) % 256) = ((48 + x % 10 : Nat) : Int) := by omega
      go_wp2_with (at_builtin; refine wpList_append_b (by rfl) (.tmp 14) (.tmp 15) TB (by rfl) (base := w.heap.size) (g := wr.heap.size) (n := 1) (cap := 1) (xs := [48 + x % 10]) (by rfl) (by exact ownsRow_lit1 wr _ _ _ hsz) (oa := some ⟨g, 0, none⟩) (m := k) (c := cap) (zs := dec n k) (by rfl) (by exact ownsRow_sl (HO.out.alloc _) (dec_lt n k)) (by omega) (by simp; omega) ?_; intro g' cap' w1 hown' hgr hat hsz1)
      have C1 : Hid (w.grownBy w1 none) := grown_next hgr.out (grownBy_alloc HG.out _) ⟨rfl, rfl, rfl, rfl⟩ (by omega)
      have R1 : Hid (w1.ownsRow w.heap.size 5 1 (.slice (some ⟨g', 0, none⟩) (k + 1) cap') (k + 1) ((dec n (k + 1)).map bv)) := by
        have := hown'.out
        rw [show 1 + k = k + 1 by omega] at this
        have e2 : dec n (k + 1) = [48 + x % 10] ++ dec n k := by rw [dec, ← HX.out]; rfl
        rw [e2]; exact this
      have HX2 : Hid (x / 10 = n / 10 ^ (k + 1)) := by show _ = _; rw [HX.out, Nat.div_div_eq_div_mul, Nat.pow_succ]
      clear hown' hgr hat
      go_wp2
      go_roundw
      case rel => exact ⟨k + 1, g', cap', by omega, by go_num, ⟨x / 10, by go_num, HX2.out⟩, by rw [show 1 + k = k + 1 by omega], R1.out, C1.out⟩
      case measure => simp [intOf]; omega
    · obtain rfl : k = 8 := by omega
      go_wp2
      go_ret
      exact ⟨g, cap, rfl, HO.out, HG.out⟩

def walB : ByteArray := ⟨#[119, 97, 108]⟩
set_option maxHeartbeats 1000000 in
theorem specName_ok (n : Nat) (w : World) (h1 : 1 ≤ n) (h2 : n ≤ 99999999) :
    Calls Tryd.prog 25 #[.int .i64 (n : Int)] w fun e w' => e = .returned (.tuple #[.string (walB ++ strB (dec n 8)), .int .i64 0]) ∧ w.grownBy w' none := by
  have HC : Hid (Calls _ _ _ _ _) := l4Dec8_any n w (by omega)
  go_enter Tryd.func25, Tryd.ntmps25
  go_wp2_with fail
  refine HC.out.mono ?_
  clear HC
  rintro e w1 ⟨g, cap, rfl, hown, hG⟩
  have hcv : (convert 22 9 (.slice (some ⟨g, 0, none⟩) 8 cap)).run Tryd.prog w1 = .ok (.string (strB (dec n 8))) w1 := run_str_b w1 Tryd.underlying22 Tryd.underlying5 Tryd.underlying9 (ownsRow_sl hown (dec_lt n 8)) cap
  have HG : Hid (w.grownBy w1 none) := hG
  clear hown hG
  have hs8 : (strB (dec n 8)).size = 8 := by rw [strB_size, dec_len]
  obtain ⟨s, hs⟩ : ∃ s, strB (dec n 8) = s := ⟨_, rfl⟩
  rw [hs] at hcv hs8
  have HS : Hid (strB (dec n 8) = s) := hs
  clear hs
  go_wp2
  go_ret2
  exact ⟨by rw [HS.out]; rfl, HG.out⟩
set_option maxHeartbeats 1000000 in
theorem specName_no (n : Int) (w : World) (h : n < 1 ∨ 99999999 < n) :
    Calls Tryd.prog 25 #[.int .i64 n] w fun e w' => e = .returned (.tuple #[.string ⟨#[]⟩, .int .i64 5]) ∧ w' = w := by
  by_cases h1 : n < 1
  · clear h
    go_enter Tryd.func25, Tryd.ntmps25
    go_wp2
    go_ret2
    exact ⟨rfl, rfl⟩
  · have h2 : 99999999 < n := h.resolve_left h1
    clear h
    go_enter Tryd.func25, Tryd.ntmps25
    go_wp2
    go_ret2
    exact ⟨rfl, rfl⟩
set_option maxHeartbeats 1000000 in
theorem implName_no (n : Int) (w : World) (h : n < 1 ∨ 99999999 < n) :
    Calls Tryd.prog 26 #[.int .i64 n] w fun e w' => e = .returned (.tuple #[.string ⟨#[]⟩, .int .i64 5]) ∧ w' = w := by
  by_cases h1 : n < 1
  · clear h
    go_enter Tryd.func26, Tryd.ntmps26
    go_wp2
    go_ret2
    exact ⟨rfl, rfl⟩
  · have h2 : 99999999 < n := h.resolve_left h1
    clear h
    go_enter Tryd.func26, Tryd.ntmps26
    go_wp2
    go_ret2
    exact ⟨rfl, rfl⟩
end Go.Proofs.YteacgefklafofaaDoor

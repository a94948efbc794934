/-
  Both SegmentNumbers, walked.
-/
import Derived.Test.YteacgefklafofaaSegNum2
namespace Go.Proofs.Yteacgefklafofaa
open Go.RowKit

def walB : ByteArray := ⟨#[119, 97, 108]⟩
set_option maxHeartbeats 400000 in
theorem specSeg_any (s : ByteArray) (w : World) (hs : s.size ≤ 1048576) :
    Calls Try.prog 4 #[.string s] w fun e w' => e = .returned (.int .i64 (nameR0 s walB)) ∧ w' = w := by
  by_cases hn : nameOk s walB
  · have HC : Hid (Calls _ _ _ _ _) := l3Number_any s walB w hs (by decide)
    rw [nameR_ok hn] at HC
    rw [nameR0_ok hn]
    obtain ⟨x, hx⟩ : ∃ x, nameNum s walB = x := ⟨_, rfl⟩
    rw [hx] at HC ⊢
    clear hn hx
    go_enter Try.func4, Try.ntmps4
    go_wp2_with fail
    refine HC.out.mono ?_
    clear HC
    rintro e w1 ⟨rfl, rfl⟩
    go_wp2
    go_ret
    exact ⟨rfl, rfl⟩
  · have HC : Hid (Calls _ _ _ _ _) := l3Number_any s walB w hs (by decide)
    rw [nameR_no hn] at HC
    rw [nameR0_no hn]
    clear hn
    go_enter Try.func4, Try.ntmps4
    go_wp2_with fail
    refine HC.out.mono ?_
    clear HC
    rintro e w1 ⟨rfl, rfl⟩
    go_wp2
    go_ret
    exact ⟨rfl, rfl⟩
set_option maxHeartbeats 400000 in
theorem implSeg_any (s : ByteArray) (w : World) (hs : s.size ≤ 1048576) :
    Calls Try.prog 5 #[.string s] w fun e w' => e = .returned (.int .i64 (nameR0 s walB)) ∧ w' = w := by
  have HC : Hid (Calls _ _ _ _ _) := nameNumber_any s walB w hs (by decide)
  go_enter Try.func5, Try.ntmps5
  go_wp2_with fail
  refine HC.out.mono ?_
  clear HC
  rintro e w1 ⟨rfl, rfl⟩
  go_wp2
  go_ret
  exact ⟨rfl, rfl⟩
end Go.Proofs.Yteacgefklafofaa

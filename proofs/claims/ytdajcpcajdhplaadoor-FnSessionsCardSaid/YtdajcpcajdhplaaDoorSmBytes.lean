/-
  The laws' smBytes, walked: same bytes say true.
-/
import Derived.Test.YtdajcpcajdhplaaDoorSmall
import Derived.Test.YtdajcpcajdhplaaDoorStrB
namespace Go.Proofs.YtdajcpcajdhplaaDoor
open Go.RowKit

set_option maxHeartbeats 400000 in
theorem smBytes_any (oa ob : Option Addr) (la lb ca cb : Nat) (xs ys : List Nat) (w : World) (ha : SlB w oa la xs) (hb : SlB w ob lb ys) :
    Calls Tryd.prog 32 #[.slice oa la ca, .slice ob lb cb] w fun e w' => e = .returned (.bool (decide (xs = ys))) ∧ w' = w := by
  have hcv1 : (convert 22 9 (.slice oa la ca)).run Tryd.prog w = .ok (.string (strB xs)) w := run_str_b w Tryd.underlying22 Tryd.underlying5 Tryd.underlying9 ha ca
  have hcv2 : (convert 22 9 (.slice ob lb cb)).run Tryd.prog w = .ok (.string (strB ys)) w := run_str_b w Tryd.underlying22 Tryd.underlying5 Tryd.underlying9 hb cb
  have HE : Hid (((strB xs).toList == (strB ys).toList) = decide (xs = ys)) := strB_eq xs ys ha.2.1 hb.2.1
  clear ha hb
  go_enter Tryd.func32, Tryd.ntmps32
  go_wp2
  go_ret
  exact ⟨ret_bool HE.out, rfl⟩
end Go.Proofs.YtdajcpcajdhplaaDoor

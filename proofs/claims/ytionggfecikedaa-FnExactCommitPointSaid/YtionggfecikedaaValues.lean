/-
  slices.Values over ints: the iterator's own walk, for whatever loop body that never leaves.
-/
import Derived.Test.YtionggfecikedaaIntS
import Derived.Test.YtionggfecikedaaRangeC
import Derived.RangeFuncBound
import Derived.RangeFuncCalls
import Derived.RangeFuncSeq
import Derived.Stop.RegionWithIn
import Derived.Deep.RegionWith
import Derived.OwnWalkIn
import Derived.TacticsInMore
import Derived.LoopNIn
import Derived.LoopIn
namespace Go.Proofs.Ytionggfecikedaa
open Go.RowKit

set_option maxRecDepth 100000 in
set_option maxHeartbeats 1000000 in
theorem valuesIt_any (l B : Nat) (oa : Option Addr) (len cap : Nat) (zs : List Int) (J : List Int → World → Prop) (hm : len ≤ 1073741824)
    (hS : ∀ pre W, J pre W → SlI W oa len zs)
    (hY : ∀ pre x (W : World), pre.length < len → J pre W → YieldAt Fence.wide 0 Try.prog l #[.int .i64 x] W fun e W' => e = .returned (.bool true) ∧ J (pre ++ [x]) W')
    (hJd : ∀ pre W, J pre W → J pre W.drew)
    (w : World) (hB : w.cell? ⟨B, 0, none⟩ = some (.slice oa len cap)) (h0 : J [] w) :
    Calls Try.prog 84 #[.func (.yield l) #[] #[], .pointer (some ⟨B, 0, none⟩)] w fun e w' => (∃ v, e = .returned v) ∧ J zs w' := by
  have hl : zs.length = len := (hS [] w h0).1
  have HS : Hid (∀ pre W, J pre W → SlI W oa len zs) := hS
  have HY : Hid (∀ pre x (W : World), pre.length < len → J pre W → _) := hY
  have HJ : Hid (∀ pre W, J pre W → J pre W.drew) := hJd
  have H0 : Hid (J [] w) := h0
  clear hS hY h0 hJd
  go_enter Try.func84, Try.ntmps84
  go_wp2
  go_loopw [7] (fun i wr => ∃ k : Nat, k ≤ len ∧ i = .int .i64 (k : Int) ∧ J (zs.take k) wr) (fun i _ => len - (intOf i).toNat)
  case atStart => exact ⟨0, Nat.zero_le _, rfl, H0.out⟩
  case round =>
    obtain ⟨k, hk, rfl, hJ⟩ := hrel
    by_cases hlt : k < len
    · have hsl := HS.out _ _ hJ
      obtain ⟨b, off, rfl, hcc⟩ := hsl.2.2 (by omega)
      have hck := hcc k hlt
      have hs : zs.take (k + 1) = zs.take k ++ [zs.getD k 0] := by
        have h9 : k < zs.length := by omega
        rw [List.take_succ_eq_append_getElem h9]; simp [List.getD, h9]
      obtain ⟨x, hx⟩ : ∃ x, zs.getD k 0 = x := ⟨_, rfl⟩
      rw [hx] at hck hs
      have hlen : (zs.take k).length < len := by simp; omega
      have HYY : Hid (YieldAt Fence.wide 0 Try.prog l #[.int .i64 x] wr fun e W' => e = .returned (.bool true) ∧ J (zs.take (k + 1)) W') := by
        have := HY.out (zs.take k) x wr hlen hJ
        rw [hs]; exact this
      clear hcc hsl hx hs hlen hJ
      obtain ⟨fn, tm, asg, bd, hy, hR⟩ := HYY.out
      refine (wpIn_wide (n := 0)).1 ?_
      gi_wp2_with fail
      refine ⟨rfl, ?_⟩
      refine hR.mono ?_
      rintro e W5 ⟨rfl, hJ5⟩
      have HJ5 : Hid (J (zs.take (k + 1)) W5) := hJ5
      clear hJ5 hy hR HYY
      gi_wp2
      go_roundw
      case rel => exact ⟨k + 1, by omega, by go_num, HJ5.out⟩
      case measure => simp [intOf]; omega
    · obtain rfl : k = len := by omega
      have HJ2 : Hid (J zs wr) := by show J zs wr; rw [← hl, List.take_length] at hJ; exact hJ
      clear hJ
      go_wp2
      go_end0
      exact ⟨⟨_, rfl⟩, HJ2.out⟩
end Go.Proofs.Ytionggfecikedaa

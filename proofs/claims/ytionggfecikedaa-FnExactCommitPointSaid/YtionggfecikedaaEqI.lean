/-
  eqIntS, walked.
-/
import Derived.Test.YtionggfecikedaaChecked
import Derived.Test.YtionggfecikedaaBaseI
namespace Go.Proofs.Ytionggfecikedaa
open Go.RowKit

set_option maxHeartbeats 800000 in
theorem eqIntS_same (oa ob : Option Addr) (len ca cb : Nat) (zs : List Int) (w : World) (ha : SlI w oa len zs) (hb : SlI w ob len zs) (hm : len ≤ 1073741824) :
    Calls Try.prog 16 #[.slice oa len ca, .slice ob len cb] w fun e w' => e = .returned (.bool true) ∧ w.grownBy w' none := by
  obtain ⟨hl, hz, hc⟩ := ha
  obtain ⟨_, _, hd⟩ := hb
  clear hz
  go_enter Try.func16, Try.ntmps16
  go_wp2
  go_loopw [5] (fun i wr => ∃ k : Nat, k ≤ len ∧ i = .int .i64 k ∧ w.grownBy wr none) (fun i _ => len - (intOf i).toNat)
  case atStart => exact ⟨0, Nat.zero_le _, rfl, grownBy_refl _ _⟩
  case round =>
    obtain ⟨k, hk, rfl, hG⟩ := hrel
    by_cases hlt : k < len
    · obtain ⟨b, off, rfl, hcc⟩ := hc (by omega)
      obtain ⟨b', off', rfl, hdd⟩ := hd (by omega)
      have h1 : wr.cell? ⟨b, off + k, none⟩ = some (.int .i64 (zs.getD k 0)) := by
        have h0 := hcc k hlt
        exact (World.cell?_of_block (w := w) (a := ⟨b, off + k, none⟩) (hG.block b (cell_block_lt h0) (by simp))).trans h0
      have h2 : wr.cell? ⟨b', off' + k, none⟩ = some (.int .i64 (zs.getD k 0)) := by
        have h0 := hdd k hlt
        exact (World.cell?_of_block (w := w) (a := ⟨b', off' + k, none⟩) (hG.block b' (cell_block_lt h0) (by simp))).trans h0
      obtain ⟨c, hce⟩ : ∃ c, c = zs.getD k 0 := ⟨_, rfl⟩
      rw [← hce] at h1 h2
      have HG : Hid (w.grownBy wr none) := hG
      clear hcc hdd hc hd hce hG
      go_wp2
      go_region
      all_goals (try go_wp2)
      all_goals go_roundw
      all_goals first | (simp [intOf]; omega) | exact ⟨k + 1, by omega, by go_num, by repeat (first | exact HG.out | apply grownBy_drew)⟩
    · have HG : Hid (w.grownBy wr none) := hG
      clear hG
      go_wp2
      go_ret
      exact ⟨rfl, HG.out⟩
end Go.Proofs.Ytionggfecikedaa

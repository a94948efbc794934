/-
  The model's l2Put, walked.
-/
import Derived.Test.YteacgefklafofaaDoorLeN
import Derived.Laws.AppendOwnNone
import Derived.Deep.AppendLies
namespace Go.Proofs.YteacgefklafofaaDoor
open Go.RowKit

set_option maxHeartbeats 600000 in
theorem l2Put_any (V n : Nat) (w : World) (hV : V ≤ 4611686018427387904) (hn : n ≤ 16) :
    Calls Tryd.prog 36 #[.int .i64 (V : Int), .int .i64 (n : Int)] w fun e w' => ∃ v, e = .returned v ∧ w'.ownsRow w.heap.size 5 1 v n ((leN V n).map bv) ∧ w.grownBy w' none := by
  obtain ⟨i0, hi, hz0, hz1, hz2⟩ := info_parts Tryd.infoByte
  go_enter Tryd.func36, Tryd.ntmps36
  go_wp2
  go_loopw [0, 5, 6] (fun q o i wr => ∃ k : Nat, k ≤ n ∧ i = .int .i64 k ∧ (∃ x : Nat, q = .int .i64 x ∧ x = V / 256 ^ k) ∧ wr.ownsRow w.heap.size 5 1 o k ((leN V k).map bv) ∧ w.grownBy wr none) (fun _ _ i _ => n - (intOf i).toNat)
  case atStart => exact ⟨0, Nat.zero_le _, rfl, ⟨V, rfl, by simp⟩, World.ownsRow_made w #[] 0 (Nat.le_refl _) (Nat.zero_le _) rfl, World.grownBy_alloc _ _ _⟩
  case round =>
    obtain ⟨k, hk, rfl, ⟨x, rfl, hxe⟩, hown, hG⟩ := hrel
    have hxV : x ≤ V := by rw [hxe]; exact Nat.div_le_self _ _
    have HX : Hid (x = V / 256 ^ k) := hxe
    have HG : Hid (w.grownBy wr none) := hG
    have hsz := hG.size
    have hrow := hown.lt
    have HR : Hid (∀ g, Value.ownBlock _ = some g → w.heap.size ≤ g ∧ g < wr.heap.size) := hrow
    clear hxe hG hrow
    by_cases hlt : k < n
    · have e1 : ((x : Int) % 256 % 256) = (x : Int) % 256 := by omega
      go_wp2_with (at_builtin; refine wpList_append_own _ rfl _ _ 22 rfl w.heap.size 5 i0 (.int .u8 0) 1 1 Tryd.underlying22 hi hz0 hz1 hz2 rfl (by decide) _ _ _ rfl (hown.alloc _) ⟨wr.heap.size, 0, none⟩ 1 1 [.int .u8 ((x : Int) % 256)] rfl rfl ?c1 ?c2 ?c3 ?c4 ?c5 ?_)
      case c1 =>
        intro j u hj
        match j, hj with
        | 0, hj => simp at hj; subst hj; simp [Addr.add]
      case c2 => intro u hu; simp at hu; subst hu; rfl
      case c3 => unfold maxLen; omega
      case c4 => omega
      case c5 => simp; omega
      intro v' w1 hown' hgrow _
      have R : Hid (w1.ownsRow w.heap.size 5 1 v' (k + 1) ((leN V (k + 1)).map bv) ∧ w.grownBy w1 none) := by
        refine ⟨?_, grownBy_row (grownBy_alloc HG.out _) hgrow (fun g hg => (HR.out g hg).1)⟩
        have e2 : ((leN V (k + 1)).map bv) = (leN V k).map bv ++ [.int .u8 ((x : Int) % 256)] := by
          rw [leN, ← HX.out]; simp [bv]
        rw [e2]; exact hown'
      have HX2 : Hid (x / 256 = V / 256 ^ (k + 1)) := by show _ = _; rw [HX.out, Nat.div_div_eq_div_mul, Nat.pow_succ]
      clear hown' hgrow hown
      go_wp2
      go_roundw
      case rel => exact ⟨k + 1, by omega, by go_num, ⟨x / 256, by go_num, HX2.out⟩, R.out.1, R.out.2⟩
      case measure => simp [intOf]; omega
    · obtain rfl : k = n := by omega
      have R : Hid (_ ∧ _) := ⟨hown, HG.out⟩
      clear hown
      go_wp2
      go_ret
      exact ⟨_, rfl, R.out.1, R.out.2⟩
/-- four bytes, with the value written out, and what a caller wants kept -/
theorem l2Put4 (V : Nat) (w : World) (hV : V ≤ 4611686018427387904) :
    Calls Tryd.prog 36 #[.int .i64 (V : Int), .int .i64 4] w fun e w' => ∃ g cap, e = .returned (.slice (some ⟨g, 0, none⟩) 4 cap) ∧ w'.ownsRow w.heap.size 5 1 (.slice (some ⟨g, 0, none⟩) 4 cap) 4 ((le4 V).map bv) ∧ w.grownBy w' none := by
  refine (l2Put_any V 4 w hV (by decide)).mono ?_
  rintro e w' ⟨v, rfl, hown, hG⟩
  rw [leN_four] at hown
  rcases hown.2 with ⟨_, h0⟩ | ⟨g, cap, cur, rfl, _⟩
  · cases h0
  · exact ⟨g, cap, rfl, hown, hG⟩
end Go.Proofs.YteacgefklafofaaDoor

/-
  An item that comes again: placeAgain, walked; bytes.Equal.
-/
import Derived.Test.YtdajcpcajdhplaaDoorSearch
import Derived.Test.YtdajcpcajdhplaaDoorCodeOf
import Derived.Test.YtdajcpcajdhplaaDoorStrB
import Derived.BigQuiet
namespace Go.Proofs.YtdajcpcajdhplaaDoor
open Go.RowKit

set_option maxHeartbeats 400000 in
theorem bytesEqual_any (oa ob : Option Addr) (la lb ca cb : Nat) (xs ys : List Nat) (w : World) (ha : SlB w oa la xs) (hb : SlB w ob lb ys) :
    Calls Tryd.prog 76 #[.slice oa la ca, .slice ob lb cb] w fun e w' => e = .returned (.bool (decide (xs = ys))) ∧ w' = w := by
  have hcv1 : (convert 22 9 (.slice oa la ca)).run Tryd.prog w = .ok (.string (strB xs)) w := run_str_b w Tryd.underlying22 Tryd.underlying5 Tryd.underlying9 ha ca
  have hcv2 : (convert 22 9 (.slice ob lb cb)).run Tryd.prog w = .ok (.string (strB ys)) w := run_str_b w Tryd.underlying22 Tryd.underlying5 Tryd.underlying9 hb cb
  have HE : Hid (((strB xs).toList == (strB ys).toList) = decide (xs = ys)) := strB_eq xs ys ha.2.1 hb.2.1
  clear ha hb
  go_enter Tryd.func76, Tryd.ntmps76
  go_wp2
  go_ret
  exact ⟨ret_bool HE.out, rfl⟩
/-- the very item -/
def sameItem (q : Int) (ys : List Nat) (q' : Int) (xs : List Nat) : Prop := q' = q ∧ xs = ys
set_option maxRecDepth 4000 in
set_option maxHeartbeats 1000000 in
theorem placeAgain_any (c q i : Int) (oa : Option Addr) (la ca : Nat) (ys : List Nat) (c' q' : Int) (ob : Option Addr) (lb cb : Nat) (xs : List Nat) (ad : Nat → Addr) (w : World) (hE : ErrsAt w ad) (ha : SlB w oa la ys) (hb : SlB w ob lb xs) :
    Calls Tryd.prog 61 #[.agg #[.int .i64 c, .int .i64 q, .int .i64 i, .slice oa la ca], .agg #[.int .i64 c', .int .i64 q', .slice ob lb cb]] w fun e w' => ((sameItem q ys q' xs ∧ e = .returned (.tuple #[.int .i64 i, .nilIface])) ∨ (¬ sameItem q ys q' xs ∧ e = .returned (.tuple #[.int .i64 0, .iface 150 (.pointer (some (ad 4)))]))) ∧ w.grownBy w' none := by
  have G : ∀ A B, w.grownBy ((w.alloc A).alloc B) none := fun A B => grownBy_alloc (World.grownBy_alloc _ _ _) _
  have HB : Hid (∀ X : World, w.grownBy X none → Calls Tryd.prog 76 #[.slice ob lb cb, .slice oa la ca] X fun e w' => e = .returned (.bool (decide (xs = ys))) ∧ w' = X) := fun X hX => bytesEqual_any ob oa lb la cb ca xs ys X (hb.grown0 hX) (ha.grown0 hX)
  have HE : Hid (ErrsAt w ad) := hE
  clear hE ha hb G
  have c4 : ((w.alloc (.cells #[.int .i64 c, .int .i64 q, .int .i64 i, .slice oa la ca] 74)).alloc (.cells #[.int .i64 c', .int .i64 q', .slice ob lb cb] 32)).cell? ⟨4, 0, none⟩ = some (.iface 150 (.pointer (some (ad 4)))) := (HE.out.grown (grownBy_alloc (World.grownBy_alloc _ _ _) _)).cell 4 (by decide)
  by_cases hq : q' = q
  · subst hq
    have e1 : (q' != q') = false := by simp
    by_cases hx : xs = ys
    · rw [decide_eq_true hx] at HB
      have HS : Hid (sameItem q' ys q' xs) := ⟨rfl, hx⟩
      clear hx
      go_enter Tryd.func61, Tryd.ntmps61
      go_wp2_with fail
      refine (HB.out _ (by repeat (first | exact grownBy_refl _ _ | apply grownBy_alloc))).mono ?_
      rintro e w1 ⟨rfl, hw1⟩
      subst hw1
      go_wp2
      go_ret2
      refine ⟨.inl ⟨HS.out, rfl⟩, ?_⟩
      repeat (first | exact grownBy_refl _ _ | apply grownBy_alloc)
    · rw [decide_eq_false hx] at HB
      have HS : Hid (¬ sameItem q' ys q' xs) := fun h => hx h.2
      clear hx
      go_enter Tryd.func61, Tryd.ntmps61
      go_wp2_with fail
      refine (HB.out _ (by repeat (first | exact grownBy_refl _ _ | apply grownBy_alloc))).mono ?_
      rintro e w1 ⟨rfl, hw1⟩
      subst hw1
      go_wp2
      go_quiet (fail)
      go_wp2
      go_ret2
      refine ⟨.inr ⟨HS.out, rfl⟩, ?_⟩
      refine grownBy_same (w := (w.alloc (.cells #[.int .i64 c, .int .i64 q', .int .i64 i, .slice oa la ca] 74)).alloc (.cells #[.int .i64 c', .int .i64 q', .slice ob lb cb] 32)) ?_ ⟨rfl, rfl, rfl, rfl⟩
      repeat (first | exact grownBy_refl _ _ | apply grownBy_alloc)
  · have e1 : (q' != q) = true := by simpa using hq
    have HS : Hid (¬ sameItem q ys q' xs) := fun h => hq h.1
    clear hq
    go_enter Tryd.func61, Tryd.ntmps61
    go_wp2
    go_quiet (fail)
    go_wp2
    go_ret2
    refine ⟨.inr ⟨HS.out, rfl⟩, ?_⟩
    refine grownBy_same (w := (w.alloc (.cells #[.int .i64 c, .int .i64 q, .int .i64 i, .slice oa la ca] 74)).alloc (.cells #[.int .i64 c', .int .i64 q', .slice ob lb cb] 32)) ?_ ⟨rfl, rfl, rfl, rfl⟩
    repeat (first | exact grownBy_refl _ _ | apply grownBy_alloc)
end Go.Proofs.YtdajcpcajdhplaaDoor

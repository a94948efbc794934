/-
  The laws' marks on one item, walked: markItem, heldItem.
-/
import Derived.Test.YtionggfecikedaaMarkS
namespace Go.Proofs.Ytionggfecikedaa
open Go.RowKit

set_option maxHeartbeats 400000 in
theorem markItem_own (cl sq : Int) (g len cap m : Nat) (zs : List Nat) (w : World) (hO : Own w 5 g zs) (hl : zs.length = len) (hm : len ≤ 1073741824) (hm2 : m ≤ 1073741824) :
    Calls Try.prog 25 #[.agg #[.int .i64 cl, .int .i64 sq, .slice (some ⟨g, 0, none⟩) len cap], .int .i64 (m : Int)] w fun e w' => e = .returned (.int .i64 ((m : Int) + len)) ∧ Own w' 5 g (marked zs m len) ∧ w.grownBy w' (some g) := by
  have HO : Hid (Own w 5 g zs) := hO
  clear hO
  go_enter Try.func25, Try.ntmps25
  go_wp2_with fail
  refine (markByteS_own g len cap m zs _ (HO.out.grown (World.grownBy_alloc _ _ none) (by simp)) hl hm hm2).mono ?_
  rintro e w1 ⟨rfl, hO1, hG1⟩
  have R : Hid (_ ∧ _) := ⟨hO1, grownBy_trans (World.grownBy_alloc _ _ _) hG1⟩
  clear hO1 hG1
  go_wp2
  go_ret
  exact ⟨rfl, R.out.1, R.out.2⟩
set_option maxHeartbeats 400000 in
theorem markItem_s (cl sq : Int) (og : Option Addr) (n cap m : Nat) (zs : List Nat) (w : World) (h : OwnS w 5 og n zs) (hn : og = none → cap = 0) (hm : n ≤ 1073741824) (hm2 : m ≤ 1073741824) :
    Calls Try.prog 25 #[.agg #[.int .i64 cl, .int .i64 sq, .slice og n cap], .int .i64 (m : Int)] w fun e w' => e = .returned (.int .i64 ((m : Int) + n)) ∧ OwnS w' 5 og n (marked zs m n) ∧ w.grownBy w' (blk og) := by
  have HO : Hid (OwnS w 5 og n zs) := h
  have HN : Hid (og = none → cap = 0) := hn
  clear h hn
  go_enter Try.func25, Try.ntmps25
  go_wp2_with fail
  refine (markByteS_s og n cap m zs _ (HO.out.grown0 (World.grownBy_alloc _ _ none)) HN.out hm hm2).mono ?_
  rintro e w1 ⟨rfl, hO1, hG1⟩
  have R : Hid (_ ∧ _) := ⟨hO1, grownBy_trans (World.grownBy_alloc _ _ _) hG1⟩
  clear hO1 hG1
  go_wp2
  go_ret
  exact ⟨rfl, R.out.1, R.out.2⟩
set_option maxHeartbeats 400000 in
theorem heldItem_s (cl sq : Int) (og : Option Addr) (n cap m : Nat) (zs : List Nat) (w : World) (h : OwnS w 5 og n zs) (hn : og = none → cap = 0) (hz : ∀ i, i < n → zs.getD i 0 = (m + i) % 256) (hm : n ≤ 1073741824) (hm2 : m ≤ 1073741824) :
    Calls Try.prog 31 #[.agg #[.int .i64 cl, .int .i64 sq, .slice og n cap], .int .i64 (m : Int)] w fun e w' => e = .returned (.int .i64 ((m : Int) + n)) ∧ w.grownBy w' none := by
  have HO : Hid (OwnS w 5 og n zs) := h
  have HN : Hid ((og = none → cap = 0) ∧ (∀ i, i < n → zs.getD i 0 = (m + i) % 256)) := ⟨hn, hz⟩
  clear h hn hz
  go_enter Try.func31, Try.ntmps31
  go_wp2_with fail
  refine (heldByteS_s og n cap m zs _ (HO.out.grown0 (World.grownBy_alloc _ _ none)) HN.out.1 HN.out.2 hm hm2).mono ?_
  rintro e w1 ⟨rfl, hw⟩
  have R : Hid (w.grownBy w1 none) := by rw [hw]; exact World.grownBy_alloc _ _ _
  clear hw
  go_wp2
  go_ret
  exact ⟨rfl, R.out⟩
end Go.Proofs.Ytionggfecikedaa

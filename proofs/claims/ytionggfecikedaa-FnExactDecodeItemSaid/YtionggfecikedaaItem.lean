/-
  The laws' helpers over one item, walked: szItem, eqItem, toItem.
-/
import Derived.Test.YtionggfecikedaaMarkS
namespace Go.Proofs.Ytionggfecikedaa
open Go.RowKit

set_option maxHeartbeats 400000 in
theorem szItem_ok (cl sq : Int) (oa : Option Addr) (len cap L : Nat) (w : World) (h : len ≤ L) (hL : L ≤ 1073741824) :
    Calls Try.prog 19 #[.agg #[.int .i64 cl, .int .i64 sq, .slice oa len cap], .int .i64 (L : Int)] w fun e w' => e = .returned (.int .i64 ((L : Int) - len)) ∧ w.grownBy w' none := by
  go_enter Try.func19, Try.ntmps19
  go_wp2_with (go_at_call 43; refine (szByteS_ok oa len cap L _ h hL).mono ?_; rintro e w' ⟨rfl, rfl⟩)
  go_ret
  exact ⟨rfl, World.grownBy_alloc _ _ _⟩
set_option maxHeartbeats 400000 in
theorem szItem_big (cl sq : Int) (oa : Option Addr) (len cap L : Nat) (w : World) (h : L < len) (hL : L ≤ 1073741824) (hx : len ≤ maxLen) :
    Calls Try.prog 19 #[.agg #[.int .i64 cl, .int .i64 sq, .slice oa len cap], .int .i64 (L : Int)] w fun e w' => e = .returned (.int .i64 (-1)) ∧ w.grownBy w' none := by
  go_enter Try.func19, Try.ntmps19
  go_wp2_with (go_at_call 43; refine (szByteS_big oa len cap L _ h hL hx).mono ?_; rintro e w' ⟨rfl, rfl⟩)
  go_ret
  exact ⟨rfl, World.grownBy_alloc _ _ _⟩
set_option maxHeartbeats 400000 in
theorem eqItem_same (cl sq : Int) (oa ob : Option Addr) (len ca cb : Nat) (zs : List Nat) (w : World) (ha : SlB w oa len zs) (hb : SlB w ob len zs) (hm : len ≤ 1073741824) :
    Calls Try.prog 24 #[.agg #[.int .i64 cl, .int .i64 sq, .slice oa len ca], .agg #[.int .i64 cl, .int .i64 sq, .slice ob len cb]] w fun e w' => e = .returned (.bool true) ∧ w.grownBy w' none := by
  have HA : Hid (SlB w oa len zs ∧ SlB w ob len zs) := ⟨ha, hb⟩
  clear ha hb
  go_enter Try.func24, Try.ntmps24
  go_wp2_with fail
  refine (eqByteS_same oa ob len ca cb zs _ (HA.out.1.grown0 (grownBy_alloc (World.grownBy_alloc _ _ _) _)) (HA.out.2.grown0 (grownBy_alloc (World.grownBy_alloc _ _ _) _)) hm).mono ?_
  rintro e w1 ⟨rfl, hG1⟩
  have R : Hid _ := grownBy_trans (grownBy_alloc (World.grownBy_alloc w _ none) _) hG1
  clear hG1
  go_wp2
  go_ret
  exact ⟨rfl, R.out⟩
set_option maxHeartbeats 400000 in
theorem toItem_any (cl sq : Int) (oa : Option Addr) (len cap : Nat) (zs : List Nat) (w : World) (hsl : SlB w oa len zs) (hm : len ≤ 1073741824) :
    Calls Try.prog 21 #[.agg #[.int .i64 cl, .int .i64 sq, .slice oa len cap]] w fun e w' => ∃ g, e = .returned (.agg #[.int .i64 cl, .int .i64 sq, .slice (some ⟨g, 0, none⟩) len len]) ∧ w.heap.size ≤ g ∧ Own w' 5 g zs ∧ w.grownBy w' none := by
  have HS : Hid (SlB w oa len zs) := hsl
  clear hsl
  go_enter Try.func21, Try.ntmps21
  go_wp2_with fail
  refine (toByteS_any oa len cap zs _ (HS.out.grown0 (grownBy_alloc (grownBy_alloc (World.grownBy_alloc _ _ _) _) _)) hm).mono ?_
  rintro e w1 ⟨rfl, hO1, hG1⟩
  obtain ⟨hc, hf⟩ := bcell hG1
  have hz : w.heap.size + 1 + 1 + 1 ≤ w1.heap.size := by have := hG1.size; simpa using this
  have R : Hid (Own w1 5 (w.heap.size + 1 + 1 + 1) zs ∧ w.grownBy w1 none) := ⟨by simpa using hO1, grownBy_trans (grownBy_alloc (grownBy_alloc (World.grownBy_alloc w _ none) _) _) hG1⟩
  clear hO1 hG1
  go_wp2
  refine bodyPost_ret (v := .agg #[.int .i64 cl, .int .i64 sq, .slice (some ⟨w.heap.size + 1 + 1 + 1, 0, none⟩) len len]) (by simp [results, Try.results21, go_sem, hc]) rfl ⟨w.heap.size + 1 + 1 + 1, rfl, by omega, ?_, ?_⟩
  · exact (((R.out.1.setOther (by simp)).setOther (by simp; omega)).setOther (by simp; omega)).setOther (by simp; omega)
  · exact grownBy_setNew (grownBy_setNew (grownBy_setNew (grownBy_setNew R.out.2 (by simp; omega)) (by simp)) (by simp)) (by simp)
end Go.Proofs.Ytionggfecikedaa

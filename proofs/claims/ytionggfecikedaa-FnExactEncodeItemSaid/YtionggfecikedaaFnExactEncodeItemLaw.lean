/-
  FnExactEncodeItem: the law's walk, and the row.
-/
import Derived.Test.YtionggfecikedaaRows
import Derived.Test.YtionggfecikedaaItemEnc
import Derived.Test.YtionggfecikedaaItem
import Derived.Test.YtionggfecikedaaItemMk
import Derived.Test.YtionggfecikedaaPost
import Derived.Test.YtionggfecikedaaOpenB
import Derived.ChangeMaps5
import Derived.Lib.SmallJoins
namespace Go.Proofs.Ytionggfecikedaa.fnExactEncodeItem
open Go.ChangeShapes Go.WideShapes Go.ChangeAt Go.RowKit

set_option maxRecDepth 100000 in
set_option maxHeartbeats 2000000 in
theorem walk (cl sq : Int) (oa : Option Addr) (len cap : Nat) (zs : List Nat) (w : World) (hsl : SlB w oa len zs) (hmx : len ≤ maxLen) :
    Calls Try.prog 6 #[.agg #[.int .i64 cl, .int .i64 sq, .slice oa len cap]] w fun e w' => e = .returned (.bool true) ∧ w.grownBy w' none := by
  have hmx' := hmx
  unfold maxLen at hmx'
  by_cases hbig : 1048576 < len
  · clear hsl
    go_enter Try.func6, Try.ntmps6
    go_wp2_with fail
    refine (szItem_big cl sq oa len cap 1048576 _ hbig (by omega) hmx).mono ?_
    rintro e w1 ⟨rfl, hG1⟩
    have R : Hid (w.grownBy w1 none) := grownBy_trans (World.grownBy_alloc w _ none) hG1
    clear hG1
    go_wp2
    go_ret
    exact ⟨rfl, R.out⟩
  have HS : Hid (SlB w oa len zs ∧ True) := ⟨hsl, trivial⟩
  have hl : zs.length = len := hsl.1
  clear hsl
  obtain ⟨C, hCe⟩ : ∃ C, C = itemC cl sq zs := ⟨_, rfl⟩
  have HC : Hid (C = itemC cl sq zs) := hCe
  clear hCe
  obtain ⟨E, hEe⟩ : ∃ E, E = itemR cl sq zs := ⟨_, rfl⟩
  have HE : Hid (E = itemR cl sq zs) := hEe
  clear hEe
  go_enter Try.func6, Try.ntmps6
  go_wp2_with fail
  refine (szItem_ok cl sq oa len cap 1048576 _ (by omega) (by omega)).mono ?_
  rintro e w1 ⟨rfl, hG1⟩
  have hs1 : w.heap.size < w1.heap.size := by have := hG1.size; simp at this; omega
  have a1 : w1.cell? ⟨w.heap.size, 0, none⟩ = some (.int .i64 cl) := ((bcell hG1).1 _ _ (by simp)).trans (by simp)
  have m1 : w1.cell? ⟨w.heap.size, 1, none⟩ = some (.int .i64 sq) := ((bcell hG1).1 _ _ (by simp)).trans (by simp)
  have b1 : w1.cell? ⟨w.heap.size, 2, none⟩ = some (.slice oa len cap) := ((bcell hG1).1 _ _ (by simp)).trans (by simp)
  have I1 : Hid (w.grownBy w1 none) := grownBy_trans (World.grownBy_alloc w _ none) hG1
  clear hG1
  go_wp2_with fail
  refine (toItem_any cl sq oa len cap zs _ (HS.out.1.grown0 I1.out) (by omega)).mono ?_
  rintro e w2 ⟨g2, rfl, hg2, hO2, hG2⟩
  have a2 : w2.cell? ⟨w.heap.size, 0, none⟩ = some (.int .i64 cl) := ((bcell hG2).1 _ _ hs1).trans a1
  have m2 : w2.cell? ⟨w.heap.size, 1, none⟩ = some (.int .i64 sq) := ((bcell hG2).1 _ _ hs1).trans m1
  have b2 : w2.cell? ⟨w.heap.size, 2, none⟩ = some (.slice oa len cap) := ((bcell hG2).1 _ _ hs1).trans b1
  have hs2 : w.heap.size < w2.heap.size := by have := hG2.size; omega
  have I2 : Hid (w.grownBy w2 none ∧ Own w2 5 g2 zs) := ⟨grownBy_trans I1.out hG2, hO2⟩
  clear a1 m1 b1 hs1 I1 hG2 hO2 hg2
  go_wp2_with fail
  refine (specEncodeItem_any cl sq (some ⟨g2, 0, none⟩) len len zs _ (I2.out.2.sl len hl) hmx).mono ?_
  rintro e w3 ⟨og, n, cp, rfl, hn, hnc, hfr, hOS, hG3⟩
  rw [← HC.out]
  rw [← HE.out] at hOS
  have a3 : w3.cell? ⟨w.heap.size, 0, none⟩ = some (.int .i64 cl) := ((bcell hG3).1 _ _ hs2).trans a2
  have m3 : w3.cell? ⟨w.heap.size, 1, none⟩ = some (.int .i64 sq) := ((bcell hG3).1 _ _ hs2).trans m2
  have b3 : w3.cell? ⟨w.heap.size, 2, none⟩ = some (.slice oa len cap) := ((bcell hG3).1 _ _ hs2).trans b2
  have hs3 : w.heap.size < w3.heap.size := by have := hG3.size; omega
  have I3 : Hid (w.grownBy w3 none ∧ OwnS w3 5 og n E ∧ (og = none → cp = 0)) := ⟨grownBy_trans I2.out.1 hG3, hOS, hnc⟩
  clear a2 m2 b2 hs2 I2 hG3 hOS hfr hnc
  go_wp2_with fail
  refine (toItem_any cl sq oa len cap zs _ (HS.out.1.grown0 I3.out.1) (by omega)).mono ?_
  rintro e w4 ⟨g4, rfl, hg4, hO4, hG4⟩
  have a4 : w4.cell? ⟨w.heap.size, 0, none⟩ = some (.int .i64 cl) := ((bcell hG4).1 _ _ hs3).trans a3
  have m4 : w4.cell? ⟨w.heap.size, 1, none⟩ = some (.int .i64 sq) := ((bcell hG4).1 _ _ hs3).trans m3
  have b4 : w4.cell? ⟨w.heap.size, 2, none⟩ = some (.slice oa len cap) := ((bcell hG4).1 _ _ hs3).trans b3
  have hs4 : w.heap.size < w4.heap.size := by have := hG4.size; omega
  have hl4 := hO4.lt
  have hsg : w.heap.size < g4 := by omega
  have I4 : Hid (w.grownBy w4 none ∧ OwnS w4 5 og n E ∧ (og = none → cp = 0) ∧ Own w4 5 g4 zs ∧ (∀ g, blk og = some g → g < g4)) :=
    ⟨grownBy_trans I3.out.1 hG4, I3.out.2.1.grown0 hG4, I3.out.2.2, hO4, fun g hg => by have := I3.out.2.1.lt g hg; omega⟩
  clear a3 m3 b3 hs3 I3 hG4 hO4
  go_wp2_with fail
  have I5 : Hid (w.grownBy (w4.alloc (.cells #[.int .i64 cl, .int .i64 sq, .slice (some ⟨g4, 0, none⟩) len len] 37)) none) := grownBy_alloc I4.out.1 _
  refine (implEncodeItem_any cl sq (some ⟨g4, 0, none⟩) len len zs _ ((I4.out.2.2.2.1.grown (World.grownBy_alloc _ _ none) (by simp)).sl len hl) hmx).mono ?_
  rintro e w6 ⟨og2, n2, cp2, rfl, hn2, hnc2, hfr2, hOS2, hG6⟩
  rw [← HC.out]
  rw [← HE.out] at hOS2
  obtain rfl : n2 = n := hOS2.1.symm.trans I4.out.2.1.1
  have hs4B : w4.heap.size < w6.heap.size := by have := hG6.size; simp at this; omega
  have a6 : w6.cell? ⟨w.heap.size, 0, none⟩ = some (.int .i64 cl) := ((bcell hG6).1 _ _ (by simp; omega)).trans (by rw [World.cell?_alloc_past _ _ _ (by simpa using hs4)]; exact a4)
  have m6 : w6.cell? ⟨w.heap.size, 1, none⟩ = some (.int .i64 sq) := ((bcell hG6).1 _ _ (by simp; omega)).trans (by rw [World.cell?_alloc_past _ _ _ (by simpa using hs4)]; exact m4)
  have b6 : w6.cell? ⟨w.heap.size, 2, none⟩ = some (.slice oa len cap) := ((bcell hG6).1 _ _ (by simp; omega)).trans (by rw [World.cell?_alloc_past _ _ _ (by simpa using hs4)]; exact b4)
  have p6 : w6.cell? ⟨w4.heap.size, 0, none⟩ = some (.int .i64 cl) := ((bcell hG6).1 _ _ (by simp)).trans (by simp)
  have r6 : w6.cell? ⟨w4.heap.size, 1, none⟩ = some (.int .i64 sq) := ((bcell hG6).1 _ _ (by simp)).trans (by simp)
  have q6 : w6.cell? ⟨w4.heap.size, 2, none⟩ = some (.slice (some ⟨g4, 0, none⟩) len len) := ((bcell hG6).1 _ _ (by simp)).trans (by simp)
  have I6 : Hid (w.grownBy w6 none ∧ OwnS w6 5 og n2 E ∧ OwnS w6 5 og2 n2 E ∧ Own w6 5 g4 zs) :=
    ⟨grownBy_trans I5.out hG6, (I4.out.2.1.grown0 (World.grownBy_alloc _ _ none)).grown0 hG6, hOS2, (I4.out.2.2.2.1.grown (World.grownBy_alloc _ _ none) (by simp)).grown hG6 (by simp)⟩
  have J : Hid ((og = none → cp = 0) ∧ (og2 = none → cp2 = 0) ∧ (∀ g, blk og = some g → g < g4) ∧ (∀ g, blk og2 = some g → w4.heap.size < g)) :=
    ⟨I4.out.2.2.1, hnc2, I4.out.2.2.2.2, fun g hg => by have := hfr2 g hg; simp at this; omega⟩
  clear a4 m4 b4 I5 I4 hG6 hOS2 hfr2 hnc2
  go_wp2_with fail
  refine (eqByteS_same og2 og n2 cp2 cp E _ I6.out.2.2.1.sl I6.out.2.1.sl (by omega)).mono ?_
  rintro e w7 ⟨rfl, hG7⟩
  have hs7 : w4.heap.size < w7.heap.size := by have := hG7.size; omega
  have a7 : w7.cell? ⟨w.heap.size, 0, none⟩ = some (.int .i64 cl) := ((bcell hG7).1 _ _ (by omega)).trans a6
  have m7 : w7.cell? ⟨w.heap.size, 1, none⟩ = some (.int .i64 sq) := ((bcell hG7).1 _ _ (by omega)).trans m6
  have b7 : w7.cell? ⟨w.heap.size, 2, none⟩ = some (.slice oa len cap) := ((bcell hG7).1 _ _ (by omega)).trans b6
  have p7 : w7.cell? ⟨w4.heap.size, 0, none⟩ = some (.int .i64 cl) := ((bcell hG7).1 _ _ (by omega)).trans p6
  have r7 : w7.cell? ⟨w4.heap.size, 1, none⟩ = some (.int .i64 sq) := ((bcell hG7).1 _ _ (by omega)).trans r6
  have q7 : w7.cell? ⟨w4.heap.size, 2, none⟩ = some (.slice (some ⟨g4, 0, none⟩) len len) := ((bcell hG7).1 _ _ (by omega)).trans q6
  have I7 : Hid (w.grownBy w7 none ∧ OwnS w7 5 og n2 E ∧ OwnS w7 5 og2 n2 E ∧ Own w7 5 g4 zs) :=
    ⟨grownBy_trans I6.out.1 hG7, I6.out.2.1.grown0 hG7, I6.out.2.2.1.grown0 hG7, I6.out.2.2.2.grown hG7 (by simp)⟩
  clear a6 m6 b6 p6 r6 q6 I6 hG7 hs4B
  have e1 : (C != C) = false := by simp
  go_wp2_with fail
  have HT : Hid (∀ X : World, Same w7 X → Calls Try.prog 21 #[.agg #[.int .i64 cl, .int .i64 sq, .slice oa len cap]] X fun e w' => ∃ g, e = .returned (.agg #[.int .i64 cl, .int .i64 sq, .slice (some ⟨g, 0, none⟩) len len]) ∧ Hid (Own w' 5 g zs ∧ w7.grownBy w' none) ∧ (w'.cell? ⟨w.heap.size, 0, none⟩ = some (.int .i64 cl) ∧ w'.cell? ⟨w.heap.size, 1, none⟩ = some (.int .i64 sq) ∧ w'.cell? ⟨w.heap.size, 2, none⟩ = some (.slice oa len cap) ∧ w'.cell? ⟨w4.heap.size, 0, none⟩ = some (.int .i64 cl) ∧ w'.cell? ⟨w4.heap.size, 1, none⟩ = some (.int .i64 sq) ∧ w'.cell? ⟨w4.heap.size, 2, none⟩ = some (.slice (some ⟨g4, 0, none⟩) len len))) := by
    intro X hX
    refine (toItem_any cl sq oa len cap zs X ((HS.out.1.grown0 I7.out.1).heap hX.1) (by omega)).mono ?_
    rintro e w' ⟨g, rfl, hg, hO, hG⟩
    have hGG : w7.grownBy w' none := grownBy_trans (grownBy_same (grownBy_refl w7 none) hX) hG
    exact ⟨g, rfl, ⟨hO, hGG⟩, ((bcell hGG).1 _ _ (by omega)).trans a7, ((bcell hGG).1 _ _ (by omega)).trans m7, ((bcell hGG).1 _ _ (by omega)).trans b7, ((bcell hGG).1 _ _ (by omega)).trans p7, ((bcell hGG).1 _ _ (by omega)).trans r7, ((bcell hGG).1 _ _ (by omega)).trans q7⟩
  go_region_held3 (fun w' => w'.cell? ⟨w.heap.size, 0, none⟩ = some (.int .i64 cl) ∧ w'.cell? ⟨w.heap.size, 1, none⟩ = some (.int .i64 sq) ∧ w'.cell? ⟨w.heap.size, 2, none⟩ = some (.slice oa len cap) ∧ w'.cell? ⟨w4.heap.size, 0, none⟩ = some (.int .i64 cl) ∧ w'.cell? ⟨w4.heap.size, 1, none⟩ = some (.int .i64 sq) ∧ w'.cell? ⟨w4.heap.size, 2, none⟩ = some (.slice (some ⟨g4, 0, none⟩) len len)) (first | go_keep | (exact ⟨((bcell hG9).1 _ _ (by first | omega | (simp; omega))).trans a8, ((bcell hG9).1 _ _ (by first | omega | (simp; omega))).trans m8, ((bcell hG9).1 _ _ (by first | omega | (simp; omega))).trans b8, ((bcell hG9).1 _ _ (by first | omega | (simp; omega))).trans p8, ((bcell hG9).1 _ _ (by first | omega | (simp; omega))).trans r8, ((bcell hG9).1 _ _ (by first | omega | (simp; omega))).trans q8⟩) | fail)
    (first
      | (go_at_call 21; refine (HT.out _ (by exact ⟨rfl, rfl, rfl, rfl⟩)).mono ?_; rintro e w8 ⟨g8, rfl, hOG8, a8, m8, b8, p8, r8, q8⟩; have z8 := hOG8.out.2.size)
      | (go_at_call 24; refine (eqItem_same cl sq (some ⟨g4, 0, none⟩) (some ⟨g8, 0, none⟩) len len len zs _ (by exact ((I7.out.2.2.2.grown hOG8.out.2 (by simp)).sl len hl).heap rfl) (by exact (hOG8.out.1.sl len hl).heap rfl) (by omega)).mono ?_; rintro e w9 ⟨rfl, hG9⟩)
      | fail)
  rename_i hh
  obtain ⟨a9, m9, b9, p9, r9, q9⟩ := hh
  have hs9 : w4.heap.size < w9.heap.size := by have := hG9.size; omega
  have hGG9 := grownBy_trans hOG8.out.2 hG9
  have I9 : Hid (w.grownBy w9 none ∧ OwnS w9 5 og n2 E ∧ OwnS w9 5 og2 n2 E ∧ Own w9 5 g4 zs) :=
    ⟨grownBy_trans I7.out.1 hGG9, I7.out.2.1.grown0 hGG9, I7.out.2.2.1.grown0 hGG9, I7.out.2.2.2.grown hGG9 (by simp)⟩
  clear a7 m7 b7 p7 r7 q7 a8 m8 b8 p8 r8 q8 z8 hs7 hG9 hGG9 hOG8 HT I7
  go_wp2_with fail
  refine (markItem_own cl sq g4 len len 1 zs _ I9.out.2.2.2 hl (by omega) (by omega)).mono ?_
  rintro e w10 ⟨rfl, hO10, hG10⟩
  have hs10 : w4.heap.size < w10.heap.size := by have := hG10.size; omega
  have a10 : w10.cell? ⟨w.heap.size, 0, none⟩ = some (.int .i64 cl) := keep_far hG10 (by omega) (by omega) a9
  have m10 : w10.cell? ⟨w.heap.size, 1, none⟩ = some (.int .i64 sq) := keep_far hG10 (by omega) (by omega) m9
  have b10 : w10.cell? ⟨w.heap.size, 2, none⟩ = some (.slice oa len cap) := keep_far hG10 (by omega) (by omega) b9
  have I10 : Hid (w.grownBy w10 none ∧ OwnS w10 5 og n2 E ∧ OwnS w10 5 og2 n2 E) :=
    ⟨grownBy_new I9.out.1 hG10 (by omega), I9.out.2.1.grown hG10 (fun g hg => by have := J.out.2.2.1 g hg; simp; omega), I9.out.2.2.1.grown hG10 (fun g hg => by have := J.out.2.2.2 g hg; simp; omega)⟩
  clear a9 m9 b9 p9 r9 q9 hs9 I9 hO10 hG10
  go_wp2_with fail
  refine (eqByteS_same og2 og n2 cp2 cp E _ I10.out.2.2.sl I10.out.2.1.sl (by omega)).mono ?_
  rintro e w11 ⟨rfl, hG11⟩
  have hs11 : w4.heap.size < w11.heap.size := by have := hG11.size; omega
  have a11 : w11.cell? ⟨w.heap.size, 0, none⟩ = some (.int .i64 cl) := ((bcell hG11).1 _ _ (by omega)).trans a10
  have m11 : w11.cell? ⟨w.heap.size, 1, none⟩ = some (.int .i64 sq) := ((bcell hG11).1 _ _ (by omega)).trans m10
  have b11 : w11.cell? ⟨w.heap.size, 2, none⟩ = some (.slice oa len cap) := ((bcell hG11).1 _ _ (by omega)).trans b10
  have I11 : Hid (w.grownBy w11 none ∧ OwnS w11 5 og n2 E ∧ OwnS w11 5 og2 n2 E) :=
    ⟨grownBy_trans I10.out.1 hG11, I10.out.2.1.grown0 hG11, I10.out.2.2.grown0 hG11⟩
  clear a10 m10 b10 hs10 I10 hG11
  go_wp2_with fail
  refine (markByteS_s og2 n2 cp2 1 E _ I11.out.2.2 J.out.2.1 (by omega) (by omega)).mono ?_
  rintro e w12 ⟨rfl, hO12, hG12⟩
  have hs12 : w.heap.size < w12.heap.size := by have := hG12.size; omega
  have hns : some w.heap.size ≠ blk og2 := fun h => by have := J.out.2.2.2 _ h.symm; omega
  have a12 : w12.cell? ⟨w.heap.size, 0, none⟩ = some (.int .i64 cl) := (hG12.cell_far ⟨w.heap.size, 0, none⟩ (by show w.heap.size < _; omega) hns).trans a11
  have m12 : w12.cell? ⟨w.heap.size, 1, none⟩ = some (.int .i64 sq) := (hG12.cell_far ⟨w.heap.size, 1, none⟩ (by show w.heap.size < _; omega) hns).trans m11
  have b12 : w12.cell? ⟨w.heap.size, 2, none⟩ = some (.slice oa len cap) := (hG12.cell_far ⟨w.heap.size, 2, none⟩ (by show w.heap.size < _; omega) hns).trans b11
  have I12 : Hid (w.grownBy w12 none ∧ OwnS w12 5 og n2 E ∧ OwnS w12 5 og2 n2 (marked E 1 n2)) :=
    ⟨grownBy_row I11.out.1 hG12 (fun g hg => by have := J.out.2.2.2 g hg; omega), I11.out.2.1.grown hG12 (fun g hg h => by have h1 := J.out.2.2.1 g hg; have h2 := J.out.2.2.2 g h.symm; omega), hO12⟩
  have HMK : Hid (∀ i, i < n2 → (marked E 1 n2).getD i 0 = (1 + i) % 256) := fun i hi => marked_get E 1 n2 i (by have := I11.out.2.1.1; omega) hi
  clear a11 m11 b11 hs11 I11 hO12 hG12 hns
  go_wp2_with fail
  refine (heldByteS_s og2 n2 cp2 1 (marked E 1 n2) _ I12.out.2.2 J.out.2.1 HMK.out (by omega) (by omega)).mono ?_
  rintro e w13 ⟨rfl, hw13⟩
  subst hw13
  go_wp2_with fail
  refine (toItem_any cl sq oa len cap zs _ (HS.out.1.grown0 I12.out.1) (by omega)).mono ?_
  rintro e w14 ⟨g14, rfl, hg14, hO14, hG14⟩
  have I14 : Hid (w.grownBy w14 none ∧ OwnS w14 5 og n2 E ∧ Own w14 5 g14 zs) := ⟨grownBy_trans I12.out.1 hG14, I12.out.2.1.grown0 hG14, hO14⟩
  clear hO14 hG14 I12 HMK
  go_wp2_with fail
  refine (implEncodeItem_any cl sq (some ⟨g14, 0, none⟩) len len zs _ (I14.out.2.2.sl len hl) hmx).mono ?_
  rintro e w15 ⟨og3, n3, cp3, rfl, hn3, hnc3, hfr3, hOS3, hG15⟩
  rw [← HC.out]
  rw [← HE.out] at hOS3
  obtain rfl : n3 = n2 := hOS3.1.symm.trans I14.out.2.1.1
  have I15 : Hid (w.grownBy w15 none ∧ OwnS w15 5 og n3 E ∧ OwnS w15 5 og3 n3 E) := ⟨grownBy_trans I14.out.1 hG15, I14.out.2.1.grown0 hG15, hOS3⟩
  clear hOS3 hG15 hfr3 hnc3 I14
  go_wp2_with fail
  refine (eqByteS_same og3 og n3 cp3 cp E _ I15.out.2.2.sl I15.out.2.1.sl (by omega)).mono ?_
  rintro e w16 ⟨rfl, hG16⟩
  have R : Hid (w.grownBy w16 none) := grownBy_trans I15.out.1 hG16
  clear hG16
  go_wp2
  go_ret
  exact ⟨rfl, R.out⟩

theorem cellsU8 : Try.prog.cellsOf 5 = 1 := by kernel_rfl
theorem cellsItem : Try.prog.cellsOf 33 = 3 := by kernel_rfl
theorem own : ownKnob Try.prog.godebug = none := by kernel_rfl
theorem laidOut : laidOutB Try.prog = true := by kernel_rfl
set_option maxRecDepth 100000 in
theorem lifted (os : Os) (started : os.Started) (H : Type) (enc : TypeId × Value → H) :
    ReturnsInHanded {} Try.checked os 6 .any (Rows.fnExactEncodeItemSpec.pre6 enc Try.prog Try.f6 Rows.fnExactEncodeItemRow.domain false) (Rows.fnExactEncodeItemSpec.post enc Try.prog Try.f6 false true false false) := by
  refine returnsInHanded_of_change (C := Try.checked) own started (by kernel_rfl) Try.func6
    (ChangeSpec.witness6 (enc := enc) (C := Try.checked) false ⟨#[], #[.agg #[.int .i64 0, .int .i64 0, .slice none 0 0]], []⟩ 8 (by kernel_rfl) (by kernel_rfl) (by kernel_rfl) (by kernel_rfl)) ?_
  intro W base args ds gs before hval0 hW hcnd _
  have hval : ∀ (j : Nat) t v, Try.f6.params[j]? = some t → args[j]? = some v → Value.okWide Try.prog W .any base t v := hval0
  have hW' := hW
  obtain ⟨p, q, hA0, hV, rfl, hfz, hnd⟩ := hW
  have hA : DataW.TrodAll enc Try.prog W 0 (fun _ => true) true Try.f6.params.toList args.toList ds p := hA0
  rw [Try.params6] at hA hval
  obtain ⟨v0, vs0, d0, ds0, p0, q0, hargs, rfl, rfl, h0, r0⟩ := trodAll_cons hA
  obtain ⟨rfl, rfl, rfl⟩ := trodAll_nil r0
  obtain rfl : args = #[v0] := by cases args; simp_all
  obtain ⟨rfl, rfl⟩ := trodVars_none hV
  obtain ⟨c0, c1, c2, y0, y1, y2, m, rfl, hd0, hp0, hy0, hy1, hy2⟩ := Joins.open_agg3 Try.underlying33 (by kernel_rfl) cellsItem (hval 0 33 v0 rfl rfl) h0
  obtain ⟨a, e0, -, wa⟩ := DataW.trod_int Try.underlying3 hy0
  simp at e0
  subst e0
  obtain ⟨b, e1, -, wb⟩ := DataW.trod_int Try.underlying3 hy1
  simp at e1
  subst e1
  obtain ⟨oa, len, cap, rfl⟩ : ∃ oa len cap, c2 = .slice oa len cap := by
    rcases DataW.trod_slice Try.underlying31 hy2 with ⟨h, _⟩ | ⟨x, l, c, _, _, _, _, h, _⟩
    · simp at h; exact ⟨none, 0, 0, h⟩
    · simp at h; exact ⟨some x, l, c, h⟩
  obtain ⟨zs, hs, hmx⟩ := slb_open (a := oa) (len := len) (cap := cap) Try.underlying31 Try.underlying5 cellsU8 ⟨_, by simpa [Value.cells] using hy2⟩
  refine (walk a b oa len cap zs W hs hmx).mono fun e W' ⟨he, hgr⟩ => ?_
  subst he
  exact ⟨_, rfl, Post.law laidOut (below_of_grown hgr) hW' (by kernel_rfl) (by kernel_rfl) (tb := 4) (by kernel_rfl) Try.underlying4 rfl⟩
end Go.Proofs.Ytionggfecikedaa.fnExactEncodeItem
namespace Go.Proofs.Ytionggfecikedaa
theorem FnExactEncodeItem_holds : Rows.FnExactEncodeItemSaid :=
  OpenClaim.holds_of_wide 6 Try.f6 rfl rfl rfl rfl rfl rfl rfl ⟨rfl, rfl, rfl, rfl, rfl⟩ rfl rfl rfl rfl rfl (by kernel_rfl) Try.func6 (by kernel_rfl)
    (of_decide_eq_true (by kernel_rfl)) (by unfold Func.isWrapper; first | (rw [if_pos (by decide +kernel)]; kernel_rfl) | (rw [if_neg (by decide +kernel)]; exact ⟨rfl, rfl⟩))
    (fun os started H enc _ => fnExactEncodeItem.lifted os started H enc)
#print axioms FnExactEncodeItem_holds
end Go.Proofs.Ytionggfecikedaa

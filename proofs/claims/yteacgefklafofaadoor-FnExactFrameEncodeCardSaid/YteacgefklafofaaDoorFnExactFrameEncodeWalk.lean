/-
  FnExactFrameEncode: the law's walk, and what it gives for every argument.
-/
import Derived.Test.YteacgefklafofaaDoorOwnS
import Derived.Test.YteacgefklafofaaDoorPost
import Derived.Test.YteacgefklafofaaDoorOpenB
import Derived.Test.YteacgefklafofaaDoorTabLaid
import Derived.Lib.SmallJoins
namespace Go.Proofs.YteacgefklafofaaDoor.fnExactFrameEncode
open Go.ChangeShapes Go.WideShapes Go.ChangeAt Go.RowKit

set_option maxRecDepth 100000 in
set_option maxHeartbeats 2000000 in
theorem walk (ty : Int) (oa : Option Addr) (len cap : Nat) (zs : List Nat) (w : World) (hsl : SlB w oa len zs) (ht : Tab w) (hmx : len ≤ maxLen) :
    Calls Tryd.prog 4 #[.agg #[.int .i64 ty, .slice oa len cap]] w fun e w' => e = .returned (.bool true) ∧ w.grownBy w' none := by
  have hmx' := hmx
  unfold maxLen at hmx'
  by_cases hbig : 1048576 < len
  · clear hsl ht
    go_enter Tryd.func4, Tryd.ntmps4
    go_wp2_with fail
    refine (szRecord_big ty oa len cap 1048576 _ hbig (by omega) hmx).mono ?_
    rintro e w1 ⟨rfl, hG1⟩
    have R : Hid (w.grownBy w1 none) := grownBy_trans (World.grownBy_alloc w _ none) hG1
    clear hG1
    go_wp2
    go_ret
    exact ⟨rfl, R.out⟩
  have HS : Hid (SlB w oa len zs ∧ Tab w) := ⟨hsl, ht⟩
  have hl : zs.length = len := hsl.1
  clear hsl ht
  obtain ⟨C, hCe⟩ : ∃ C, C = encC ty zs := ⟨_, rfl⟩
  have HC : Hid (C = encC ty zs) := hCe
  clear hCe
  obtain ⟨E, hEe⟩ : ∃ E, E = encR ty zs := ⟨_, rfl⟩
  have HE : Hid (E = encR ty zs) := hEe
  clear hEe
  go_enter Tryd.func4, Tryd.ntmps4
  go_wp2_with fail
  refine (szRecord_ok ty oa len cap 1048576 _ (by omega) (by omega)).mono ?_
  rintro e w1 ⟨rfl, hG1⟩
  have hs1 : w.heap.size < w1.heap.size := by have := hG1.size; simp at this; omega
  have a1 : w1.cell? ⟨w.heap.size, 0, none⟩ = some (.int .i64 ty) := ((bcell hG1).1 _ _ (by simp)).trans (by simp)
  have b1 : w1.cell? ⟨w.heap.size, 1, none⟩ = some (.slice oa len cap) := ((bcell hG1).1 _ _ (by simp)).trans (by simp)
  have I1 : Hid (w.grownBy w1 none) := grownBy_trans (World.grownBy_alloc w _ none) hG1
  clear hG1
  go_wp2_with fail
  refine (toRecord_any ty oa len cap zs _ (HS.out.1.grown0 I1.out) (by omega)).mono ?_
  rintro e w2 ⟨g2, rfl, hg2, hO2, hG2⟩
  have a2 : w2.cell? ⟨w.heap.size, 0, none⟩ = some (.int .i64 ty) := ((bcell hG2).1 _ _ hs1).trans a1
  have b2 : w2.cell? ⟨w.heap.size, 1, none⟩ = some (.slice oa len cap) := ((bcell hG2).1 _ _ hs1).trans b1
  have hs2 : w.heap.size < w2.heap.size := by have := hG2.size; omega
  have I2 : Hid (w.grownBy w2 none ∧ Own w2 5 g2 zs) := ⟨grownBy_trans I1.out hG2, hO2⟩
  clear a1 b1 hs1 I1 hG2 hO2 hg2
  go_wp2_with fail
  refine (specEncode_any ty (some ⟨g2, 0, none⟩) len len zs _ (I2.out.2.sl len hl) hmx).mono ?_
  rintro e w3 ⟨og, n, cp, rfl, hn, hnc, hfr, hOS, hG3⟩
  rw [← HC.out]
  rw [← HE.out] at hOS
  have a3 : w3.cell? ⟨w.heap.size, 0, none⟩ = some (.int .i64 ty) := ((bcell hG3).1 _ _ hs2).trans a2
  have b3 : w3.cell? ⟨w.heap.size, 1, none⟩ = some (.slice oa len cap) := ((bcell hG3).1 _ _ hs2).trans b2
  have hs3 : w.heap.size < w3.heap.size := by have := hG3.size; omega
  have I3 : Hid (w.grownBy w3 none ∧ OwnS w3 5 og n E ∧ (og = none → cp = 0)) := ⟨grownBy_trans I2.out.1 hG3, hOS, hnc⟩
  clear a2 b2 hs2 I2 hG3 hOS hfr hnc
  go_wp2_with fail
  refine (toRecord_any ty oa len cap zs _ (HS.out.1.grown0 I3.out.1) (by omega)).mono ?_
  rintro e w4 ⟨g4, rfl, hg4, hO4, hG4⟩
  have a4 : w4.cell? ⟨w.heap.size, 0, none⟩ = some (.int .i64 ty) := ((bcell hG4).1 _ _ hs3).trans a3
  have b4 : w4.cell? ⟨w.heap.size, 1, none⟩ = some (.slice oa len cap) := ((bcell hG4).1 _ _ hs3).trans b3
  have hs4 : w.heap.size < w4.heap.size := by have := hG4.size; omega
  have hl4 := hO4.lt
  have hsg : w.heap.size < g4 := by omega
  have I4 : Hid (w.grownBy w4 none ∧ OwnS w4 5 og n E ∧ (og = none → cp = 0) ∧ Own w4 5 g4 zs ∧ (∀ g, blk og = some g → g < g4)) :=
    ⟨grownBy_trans I3.out.1 hG4, I3.out.2.1.grown0 hG4, I3.out.2.2, hO4, fun g hg => by have := I3.out.2.1.lt g hg; omega⟩
  clear a3 b3 hs3 I3 hG4 hO4
  go_wp2_with fail
  have I5 : Hid (w.grownBy (w4.alloc (.cells #[.int .i64 ty, .slice (some ⟨g4, 0, none⟩) len len] 33)) none) := grownBy_alloc I4.out.1 _
  refine (implEncode_any ty (some ⟨g4, 0, none⟩) len len zs _ ((I4.out.2.2.2.1.grown (World.grownBy_alloc _ _ none) (by simp)).sl len hl) (Tab_grown HS.out.2 I5.out) hmx).mono ?_
  rintro e w6 ⟨og2, n2, cp2, rfl, hn2, hnc2, hfr2, hOS2, hG6⟩
  rw [← HC.out]
  rw [← HE.out] at hOS2
  obtain rfl : n2 = n := hOS2.1.symm.trans I4.out.2.1.1
  have hs4B : w4.heap.size < w6.heap.size := by have := hG6.size; simp at this; omega
  have a6 : w6.cell? ⟨w.heap.size, 0, none⟩ = some (.int .i64 ty) := ((bcell hG6).1 _ _ (by simp; omega)).trans (by rw [World.cell?_alloc_past _ _ _ (by simpa using hs4)]; exact a4)
  have b6 : w6.cell? ⟨w.heap.size, 1, none⟩ = some (.slice oa len cap) := ((bcell hG6).1 _ _ (by simp; omega)).trans (by rw [World.cell?_alloc_past _ _ _ (by simpa using hs4)]; exact b4)
  have p6 : w6.cell? ⟨w4.heap.size, 0, none⟩ = some (.int .i64 ty) := ((bcell hG6).1 _ _ (by simp)).trans (by simp)
  have q6 : w6.cell? ⟨w4.heap.size, 1, none⟩ = some (.slice (some ⟨g4, 0, none⟩) len len) := ((bcell hG6).1 _ _ (by simp)).trans (by simp)
  have I6 : Hid (w.grownBy w6 none ∧ OwnS w6 5 og n2 E ∧ OwnS w6 5 og2 n2 E ∧ Own w6 5 g4 zs) :=
    ⟨grownBy_trans I5.out hG6, (I4.out.2.1.grown0 (World.grownBy_alloc _ _ none)).grown0 hG6, hOS2, (I4.out.2.2.2.1.grown (World.grownBy_alloc _ _ none) (by simp)).grown hG6 (by simp)⟩
  have J : Hid ((og = none → cp = 0) ∧ (og2 = none → cp2 = 0) ∧ (∀ g, blk og = some g → g < g4) ∧ (∀ g, blk og2 = some g → w4.heap.size < g)) :=
    ⟨I4.out.2.2.1, hnc2, I4.out.2.2.2.2, fun g hg => by have := hfr2 g hg; simp at this; omega⟩
  clear a4 b4 I5 I4 hG6 hOS2 hfr2 hnc2
  go_wp2_with fail
  refine (eqByteS_same og2 og n2 cp2 cp E _ I6.out.2.2.1.sl I6.out.2.1.sl (by omega)).mono ?_
  rintro e w7 ⟨rfl, hG7⟩
  have hs7 : w4.heap.size < w7.heap.size := by have := hG7.size; omega
  have a7 : w7.cell? ⟨w.heap.size, 0, none⟩ = some (.int .i64 ty) := ((bcell hG7).1 _ _ (by omega)).trans a6
  have b7 : w7.cell? ⟨w.heap.size, 1, none⟩ = some (.slice oa len cap) := ((bcell hG7).1 _ _ (by omega)).trans b6
  have p7 : w7.cell? ⟨w4.heap.size, 0, none⟩ = some (.int .i64 ty) := ((bcell hG7).1 _ _ (by omega)).trans p6
  have q7 : w7.cell? ⟨w4.heap.size, 1, none⟩ = some (.slice (some ⟨g4, 0, none⟩) len len) := ((bcell hG7).1 _ _ (by omega)).trans q6
  have I7 : Hid (w.grownBy w7 none ∧ OwnS w7 5 og n2 E ∧ OwnS w7 5 og2 n2 E ∧ Own w7 5 g4 zs) :=
    ⟨grownBy_trans I6.out.1 hG7, I6.out.2.1.grown0 hG7, I6.out.2.2.1.grown0 hG7, I6.out.2.2.2.grown hG7 (by simp)⟩
  clear a6 b6 p6 q6 I6 hG7 hs4B
  have e1 : (C != C) = false := by simp
  go_wp2_with fail
  have HT : Hid (∀ X : World, Same w7 X → Calls Tryd.prog 14 #[.agg #[.int .i64 ty, .slice oa len cap]] X fun e w' => ∃ g, e = .returned (.agg #[.int .i64 ty, .slice (some ⟨g, 0, none⟩) len len]) ∧ Hid (Own w' 5 g zs ∧ w7.grownBy w' none) ∧ (w'.cell? ⟨w.heap.size, 0, none⟩ = some (.int .i64 ty) ∧ w'.cell? ⟨w.heap.size, 1, none⟩ = some (.slice oa len cap) ∧ w'.cell? ⟨w4.heap.size, 0, none⟩ = some (.int .i64 ty) ∧ w'.cell? ⟨w4.heap.size, 1, none⟩ = some (.slice (some ⟨g4, 0, none⟩) len len))) := by
    intro X hX
    refine (toRecord_any ty oa len cap zs X ((HS.out.1.grown0 I7.out.1).heap hX.1) (by omega)).mono ?_
    rintro e w' ⟨g, rfl, hg, hO, hG⟩
    have hGG : w7.grownBy w' none := grownBy_trans (grownBy_same (grownBy_refl w7 none) hX) hG
    exact ⟨g, rfl, ⟨hO, hGG⟩, ((bcell hGG).1 _ _ (by omega)).trans a7, ((bcell hGG).1 _ _ (by omega)).trans b7, ((bcell hGG).1 _ _ (by omega)).trans p7, ((bcell hGG).1 _ _ (by omega)).trans q7⟩
  go_region_held3 (fun w' => w'.cell? ⟨w.heap.size, 0, none⟩ = some (.int .i64 ty) ∧ w'.cell? ⟨w.heap.size, 1, none⟩ = some (.slice oa len cap) ∧ w'.cell? ⟨w4.heap.size, 0, none⟩ = some (.int .i64 ty) ∧ w'.cell? ⟨w4.heap.size, 1, none⟩ = some (.slice (some ⟨g4, 0, none⟩) len len)) (first | go_keep | (exact ⟨((bcell hG9).1 _ _ (by first | omega | (simp; omega))).trans a8, ((bcell hG9).1 _ _ (by first | omega | (simp; omega))).trans b8, ((bcell hG9).1 _ _ (by first | omega | (simp; omega))).trans p8, ((bcell hG9).1 _ _ (by first | omega | (simp; omega))).trans q8⟩) | fail)
    (first
      | (go_at_call 14; refine (HT.out _ (by exact ⟨rfl, rfl, rfl, rfl⟩)).mono ?_; rintro e w8 ⟨g8, rfl, hOG8, a8, b8, p8, q8⟩; have z8 := hOG8.out.2.size)
      | (go_at_call 16; refine (eqRecord_same ty (some ⟨g4, 0, none⟩) (some ⟨g8, 0, none⟩) len len len zs _ (by exact ((I7.out.2.2.2.grown hOG8.out.2 (by simp)).sl len hl).heap rfl) (by exact (hOG8.out.1.sl len hl).heap rfl) (by omega)).mono ?_; rintro e w9 ⟨rfl, hG9⟩)
      | fail)
  rename_i hh
  obtain ⟨a9, b9, p9, q9⟩ := hh
  have hs9 : w4.heap.size < w9.heap.size := by have := hG9.size; omega
  have hGG9 := grownBy_trans hOG8.out.2 hG9
  have I9 : Hid (w.grownBy w9 none ∧ OwnS w9 5 og n2 E ∧ OwnS w9 5 og2 n2 E ∧ Own w9 5 g4 zs) :=
    ⟨grownBy_trans I7.out.1 hGG9, I7.out.2.1.grown0 hGG9, I7.out.2.2.1.grown0 hGG9, I7.out.2.2.2.grown hGG9 (by simp)⟩
  clear a7 b7 p7 q7 a8 b8 p8 q8 z8 hs7 hG9 hGG9 hOG8 HT I7
  go_wp2_with fail
  refine (markRecord_own ty g4 len len 1 zs _ I9.out.2.2.2 hl (by omega) (by omega)).mono ?_
  rintro e w10 ⟨rfl, hO10, hG10⟩
  have hs10 : w4.heap.size < w10.heap.size := by have := hG10.size; omega
  have a10 : w10.cell? ⟨w.heap.size, 0, none⟩ = some (.int .i64 ty) := keep_far hG10 (by omega) (by omega) a9
  have b10 : w10.cell? ⟨w.heap.size, 1, none⟩ = some (.slice oa len cap) := keep_far hG10 (by omega) (by omega) b9
  have I10 : Hid (w.grownBy w10 none ∧ OwnS w10 5 og n2 E ∧ OwnS w10 5 og2 n2 E) :=
    ⟨grownBy_new I9.out.1 hG10 (by omega), I9.out.2.1.grown hG10 (fun g hg => by have := J.out.2.2.1 g hg; simp; omega), I9.out.2.2.1.grown hG10 (fun g hg => by have := J.out.2.2.2 g hg; simp; omega)⟩
  clear a9 b9 p9 q9 hs9 I9 hO10 hG10
  go_wp2_with fail
  refine (eqByteS_same og2 og n2 cp2 cp E _ I10.out.2.2.sl I10.out.2.1.sl (by omega)).mono ?_
  rintro e w11 ⟨rfl, hG11⟩
  have hs11 : w4.heap.size < w11.heap.size := by have := hG11.size; omega
  have a11 : w11.cell? ⟨w.heap.size, 0, none⟩ = some (.int .i64 ty) := ((bcell hG11).1 _ _ (by omega)).trans a10
  have b11 : w11.cell? ⟨w.heap.size, 1, none⟩ = some (.slice oa len cap) := ((bcell hG11).1 _ _ (by omega)).trans b10
  have I11 : Hid (w.grownBy w11 none ∧ OwnS w11 5 og n2 E ∧ OwnS w11 5 og2 n2 E) :=
    ⟨grownBy_trans I10.out.1 hG11, I10.out.2.1.grown0 hG11, I10.out.2.2.grown0 hG11⟩
  clear a10 b10 hs10 I10 hG11
  go_wp2_with fail
  refine (markByteS_s og2 n2 cp2 1 E _ I11.out.2.2 J.out.2.1 (by omega) (by omega)).mono ?_
  rintro e w12 ⟨rfl, hO12, hG12⟩
  have hs12 : w.heap.size < w12.heap.size := by have := hG12.size; omega
  have hns : some w.heap.size ≠ blk og2 := fun h => by have := J.out.2.2.2 _ h.symm; omega
  have a12 : w12.cell? ⟨w.heap.size, 0, none⟩ = some (.int .i64 ty) := (hG12.cell_far ⟨w.heap.size, 0, none⟩ (by show w.heap.size < _; omega) hns).trans a11
  have b12 : w12.cell? ⟨w.heap.size, 1, none⟩ = some (.slice oa len cap) := (hG12.cell_far ⟨w.heap.size, 1, none⟩ (by show w.heap.size < _; omega) hns).trans b11
  have I12 : Hid (w.grownBy w12 none ∧ OwnS w12 5 og n2 E ∧ OwnS w12 5 og2 n2 (marked E 1 n2)) :=
    ⟨grownBy_row I11.out.1 hG12 (fun g hg => by have := J.out.2.2.2 g hg; omega), I11.out.2.1.grown hG12 (fun g hg h => by have h1 := J.out.2.2.1 g hg; have h2 := J.out.2.2.2 g h.symm; omega), hO12⟩
  have HMK : Hid (∀ i, i < n2 → (marked E 1 n2).getD i 0 = (1 + i) % 256) := fun i hi => marked_get E 1 n2 i (by have := I11.out.2.1.1; omega) hi
  clear a11 b11 hs11 I11 hO12 hG12 hns
  go_wp2_with fail
  refine (heldByteS_s og2 n2 cp2 1 (marked E 1 n2) _ I12.out.2.2 J.out.2.1 HMK.out (by omega) (by omega)).mono ?_
  rintro e w13 ⟨rfl, hw13⟩
  subst hw13
  go_wp2_with fail
  refine (toRecord_any ty oa len cap zs _ (HS.out.1.grown0 I12.out.1) (by omega)).mono ?_
  rintro e w14 ⟨g14, rfl, hg14, hO14, hG14⟩
  have I14 : Hid (w.grownBy w14 none ∧ OwnS w14 5 og n2 E ∧ Own w14 5 g14 zs) := ⟨grownBy_trans I12.out.1 hG14, I12.out.2.1.grown0 hG14, hO14⟩
  clear hO14 hG14 I12 HMK
  go_wp2_with fail
  refine (implEncode_any ty (some ⟨g14, 0, none⟩) len len zs _ (I14.out.2.2.sl len hl) (Tab_grown HS.out.2 I14.out.1) hmx).mono ?_
  rintro e w15 ⟨og3, n3, cp3, rfl, hn3, hnc3, hfr3, hOS3, hG15⟩
  rw [← HC.out]
  rw [← HE.out] at hOS3
  obtain rfl : n3 = n2 := hOS3.1.symm.trans I14.out.2.1.1
  have I15 : Hid (w.grownBy w15 none ∧ OwnS w15 5 og n3 E ∧ OwnS w15 5 og3 n3 E) := ⟨grownBy_trans I14.out.1 hG15, I14.out.2.1.grown0 hG15, hOS3⟩
  clear hOS3 hG15 hfr3 hnc3 I14
  go_wp2_with fail
  refine (eqByteS_same og3 og n3 cp3 cp E _ I15.out.2.2.sl I15.out.2.1.sl (by omega)).mono ?_
  rintro e w16 ⟨rfl, hG16⟩
  have R : Hid (w.grownBy w16 none) := grownBy_trans I15.out.1 hG16
  clear hG16
  go_wp2
  go_ret
  exact ⟨rfl, R.out⟩

theorem cellsU8 : Tryd.prog.cellsOf 5 = 1 := by kernel_rfl
theorem cellsRec : Tryd.prog.cellsOf 29 = 2 := by kernel_rfl
theorem contract (H : Type) (enc : TypeId × Value → H) (W : World) (base : Nat) (args : Array Value) (ds gs : List (DataW H)) (before : List MemPlace)
    (hval : ∀ (j : Nat) t v, Tryd.f4.params[j]? = some t → args[j]? = some v → Value.okWide Tryd.prog W .any base t v)
    (hW : DataW.Whole enc Tryd.prog Tryd.f4.params.toList Rows.fnExactFrameEncodeSpec.vars false W args.toList ds gs before) (hT : Tab W) :
    Calls Tryd.prog 4 args W fun e W' => ∃ v, e = .returned v ∧ Rows.fnExactFrameEncodeSpec.post enc Tryd.prog Tryd.f4 false true false false W args v W' := by
  have hW' := hW
  obtain ⟨p, q, hA0, hV, rfl, hfz, hnd⟩ := hW
  have hA : DataW.TrodAll enc Tryd.prog W 0 (fun _ => true) true Tryd.f4.params.toList args.toList ds p := hA0
  rw [Tryd.params4] at hA hval
  obtain ⟨v0, vs0, d0, ds0, p0, q0, hargs, rfl, rfl, h0, r0⟩ := trodAll_cons hA
  obtain ⟨rfl, rfl, rfl⟩ := trodAll_nil r0
  obtain rfl : args = #[v0] := by cases args; simp_all
  obtain ⟨c0, c1, y0, y1, m, rfl, hd0, hp0, hy0, hy1⟩ := Joins.open_agg2 Tryd.underlying29 (by kernel_rfl) cellsRec (hval 0 29 v0 rfl rfl) h0
  obtain ⟨a, e0, -, wa⟩ := DataW.trod_int Tryd.underlying3 hy0
  simp at e0
  subst e0
  obtain ⟨oa, len, cap, rfl⟩ : ∃ oa len cap, c1 = .slice oa len cap := by
    rcases DataW.trod_slice Tryd.underlying22 hy1 with ⟨h, _⟩ | ⟨x, l, c, _, _, _, _, h, _⟩
    · simp at h; exact ⟨none, 0, 0, h⟩
    · simp at h; exact ⟨some x, l, c, h⟩
  obtain ⟨zs, hs, hmx⟩ := slb_open (a := oa) (len := len) (cap := cap) Tryd.underlying22 Tryd.underlying5 cellsU8 ⟨_, by simpa [Value.cells] using hy1⟩
  have hV1 : DataW.TrodVars enc Tryd.prog W (fun _ => true) [TabLaid.nm] gs q := hV
  obtain ⟨g, t, cs, fuel, d, p', rfl, hg, ht, hvar, hd, rfl⟩ := trodVars_one hV1
  refine (walk a oa len cap zs W hs hT hmx).mono fun e W' ⟨he, hgr⟩ => ?_
  subst he
  exact ⟨_, rfl, Post.law TabLaid.laidOut (below_of_grown hgr) hW' (by kernel_rfl) (TabLaid.vars_ok hT) (tb := 4) (by kernel_rfl) Tryd.underlying4 rfl⟩
end Go.Proofs.YteacgefklafofaaDoor.fnExactFrameEncode

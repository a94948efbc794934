/-
  FnExactDecodeItem: the law's walk, and the row.
-/
import Derived.Test.YtionggfecikedaaRows
import Derived.Test.YtionggfecikedaaItemDec3
import Derived.Test.YtionggfecikedaaItem
import Derived.Test.YtionggfecikedaaItemMk
import Derived.Test.YtionggfecikedaaPost
import Derived.Test.YtionggfecikedaaOpenB
import Derived.ChangeMaps5
namespace Go.Proofs.Ytionggfecikedaa.fnExactDecodeItem
open Go.ChangeShapes Go.WideShapes Go.ChangeAt Go.RowKit

/-- an item's three cells lie in block k -/
def It (w : World) (k : Nat) (a b : Int) (og : Option Addr) (n cp : Nat) : Prop := w.heap[k]? = some (.cells #[.int .i64 a, .int .i64 b, .slice og n cp] 37 (0, 0))
theorem It.cells {w : World} {k : Nat} {a b : Int} {og : Option Addr} {n cp : Nat} (h : It w k a b og n cp) : w.cell? ⟨k, 0, none⟩ = some (.int .i64 a) ∧ w.cell? ⟨k, 1, none⟩ = some (.int .i64 b) ∧ w.cell? ⟨k, 2, none⟩ = some (.slice og n cp) := by
  unfold It at h
  simp [World.cell?, h]
theorem It.lt {w : World} {k : Nat} {a b : Int} {og : Option Addr} {n cp : Nat} (h : It w k a b og n cp) : k < w.heap.size := (Array.getElem?_eq_some_iff.1 h).1
theorem It.grown {w w' : World} {row : Option Nat} {k : Nat} {a b : Int} {og : Option Addr} {n cp : Nat} (h : It w k a b og n cp) (hg : w.grownBy w' row) (hne : some k ≠ row) : It w' k a b og n cp := (hg.block k h.lt hne).trans h
theorem It.grown0 {w w' : World} {k : Nat} {a b : Int} {og : Option Addr} {n cp : Nat} (h : It w k a b og n cp) (hg : w.grownBy w' none) : It w' k a b og n cp := h.grown hg (by simp)
theorem It.new (w : World) (a b : Int) (og : Option Addr) (n cp : Nat) : It (w.alloc (.cells #[.int .i64 a, .int .i64 b, .slice og n cp] 37)) w.heap.size a b og n cp := heap_alloc_new w _

set_option maxRecDepth 100000 in
set_option maxHeartbeats 2000000 in
theorem walk (oa : Option Addr) (len cap : Nat) (zs : List Nat) (w : World) (hsl : SlB w oa len zs) (hmx : len ≤ maxLen) :
    Calls Try.prog 7 #[.slice oa len cap] w fun e w' => e = .returned (.bool true) ∧ w.grownBy w' none := by
  unfold maxLen at hmx
  by_cases hbig : 1048576 < len
  · clear hsl
    go_enter Try.func7, Try.ntmps7
    go_wp2
    go_ret
    exact ⟨rfl, grownBy_refl _ _⟩
  have HS : Hid (SlB w oa len zs) := hsl
  have hl : zs.length = len := hsl.1
  clear hsl
  obtain ⟨C, hCe⟩ : ∃ C, C = dC zs := ⟨_, rfl⟩
  obtain ⟨Q, hQe⟩ : ∃ Q, Q = dQ zs := ⟨_, rfl⟩
  obtain ⟨D, hDe⟩ : ∃ D, D = dD zs := ⟨_, rfl⟩
  obtain ⟨K, hKe⟩ : ∃ K, K = dK zs := ⟨_, rfl⟩
  have HE : Hid (C = dC zs ∧ Q = dQ zs ∧ D = dD zs ∧ K = dK zs) := ⟨hCe, hQe, hDe, hKe⟩
  clear hCe hQe hDe hKe
  have e1 : (K != K) = false := by simp
  have HI : Hid (∀ (g : Nat) (X : World), Own X 5 g zs → Calls Try.prog 30 #[.slice (some ⟨g, 0, none⟩) len len] X fun e w' => ∃ og n cp, e = .returned (.tuple #[.agg #[.int .i64 C, .int .i64 Q, .slice og n cp], .int .i64 K]) ∧ n ≤ 1073741824 ∧ (og = none → cp = 0) ∧ (∀ g, blk og = some g → X.heap.size ≤ g) ∧ OwnS w' 5 og n D ∧ X.grownBy w' none) := by
    intro g X hO
    rw [HE.out.1, HE.out.2.1, HE.out.2.2.1, HE.out.2.2.2]
    exact implDecodeItem_any _ len zs X (hO.sl len hl) (by omega)
  have HP : Hid (∀ (g : Nat) (X : World), Own X 5 g zs → Calls Try.prog 28 #[.slice (some ⟨g, 0, none⟩) len len] X fun e w' => ∃ og n cp, e = .returned (.tuple #[.agg #[.int .i64 C, .int .i64 Q, .slice og n cp], .int .i64 K]) ∧ n ≤ 1073741824 ∧ (og = none → cp = 0) ∧ (∀ g, blk og = some g → X.heap.size ≤ g) ∧ OwnS w' 5 og n D ∧ X.grownBy w' none) := by
    intro g X hO
    rw [HE.out.1, HE.out.2.1, HE.out.2.2.1, HE.out.2.2.2]
    exact specDecodeItem_any _ len zs X (hO.sl len hl) (by omega)
  clear HE
  go_enter Try.func7, Try.ntmps7
  go_wp2_with fail
  refine (toByteS_any oa len cap zs _ HS.out (by omega)).mono ?_
  rintro e w1 ⟨rfl, hO1, hG1⟩
  have I1 : Hid (Own w1 5 w.heap.size zs ∧ w.grownBy w1 none) := ⟨hO1, hG1⟩
  clear hO1 hG1
  go_wp2_with fail
  refine (HP.out _ _ I1.out.1).mono ?_
  rintro e w2 ⟨og, n, cp, rfl, hn, hnc, hfr, hOS, hG2⟩
  have I2 : Hid (w.grownBy w2 none ∧ OwnS w2 5 og n D ∧ (og = none → cp = 0)) := ⟨grownBy_trans I1.out.2 hG2, hOS, hnc⟩
  clear hfr hOS hG2 hnc I1 HP
  obtain ⟨W2, hW2⟩ : ∃ W2, W2 = w2.alloc (.cells #[.int .i64 C, .int .i64 Q, .slice og n cp] 37) := ⟨_, rfl⟩
  have I3 : Hid (w.grownBy W2 none ∧ OwnS W2 5 og n D ∧ It W2 w2.heap.size C Q og n cp ∧ W2.heap.size = w2.heap.size + 1 ∧ (∀ g, blk og = some g → g < w2.heap.size) ∧ (og = none → cp = 0)) := by
    have G := World.grownBy_alloc w2 (.cells #[.int .i64 C, .int .i64 Q, .slice og n cp] 37) none
    rw [← hW2] at G
    exact ⟨grownBy_trans I2.out.1 G, I2.out.2.1.grown0 G, by rw [hW2]; exact It.new w2 C Q og n cp, by rw [hW2]; simp, I2.out.2.1.lt, I2.out.2.2⟩
  clear I2
  go_wp2_with fail
  rw [← hW2]
  clear hW2
  refine (toByteS_any oa len cap zs _ (HS.out.grown0 I3.out.1) (by omega)).mono ?_
  rintro e w3 ⟨rfl, hO3, hG3⟩
  obtain ⟨b3, hb3⟩ : ∃ b3, b3 = w2.heap.size := ⟨_, rfl⟩
  obtain ⟨gx, hgx⟩ : ∃ gx, gx = W2.heap.size := ⟨_, rfl⟩
  rw [← hb3] at I3 ⊢
  rw [← hgx] at hO3 ⊢
  have I4 : Hid (w.grownBy w3 none ∧ OwnS w3 5 og n D ∧ It w3 b3 C Q og n cp ∧ Own w3 5 gx zs) := ⟨grownBy_trans I3.out.1 hG3, I3.out.2.1.grown0 hG3, I3.out.2.2.1.grown0 hG3, hO3⟩
  have J : Hid (gx = b3 + 1 ∧ w.heap.size ≤ gx ∧ (∀ g, blk og = some g → g < b3) ∧ (og = none → cp = 0)) := ⟨by rw [hgx]; exact I3.out.2.2.2.1, by rw [hgx]; exact I3.out.1.size, I3.out.2.2.2.2.1, I3.out.2.2.2.2.2⟩
  clear I3 hO3 hG3 hb3 hgx
  go_wp2_with fail
  refine (HI.out gx _ I4.out.2.2.2).mono ?_
  rintro e w4 ⟨og2, n2, cp2, rfl, hn2, hnc2, hfr2, hOS2, hG4⟩
  obtain rfl : n2 = n := hOS2.1.symm.trans I4.out.2.1.1
  have I5 : Hid (w.grownBy w4 none ∧ OwnS w4 5 og n2 D ∧ It w4 b3 C Q og n2 cp ∧ Own w4 5 gx zs ∧ OwnS w4 5 og2 n2 D) := ⟨grownBy_trans I4.out.1 hG4, I4.out.2.1.grown0 hG4, I4.out.2.2.1.grown0 hG4, I4.out.2.2.2.grown hG4 (by simp), hOS2⟩
  have J2 : Hid ((∀ g, blk og2 = some g → gx < g ∧ g < w4.heap.size) ∧ (og2 = none → cp2 = 0) ∧ gx < w4.heap.size) := ⟨fun g hg => ⟨by have h1 := hfr2 g hg; have h2 := I4.out.2.2.2.lt; omega, hOS2.lt g hg⟩, hnc2, I5.out.2.2.2.1.lt⟩
  clear I4 hfr2 hnc2 hOS2 hG4
  have G6 := World.grownBy_alloc w4 (.cells #[.int .i64 C, .int .i64 Q, .slice og2 n2 cp2] 37) none
  have N6 := It.new w4 C Q og2 n2 cp2
  have hz6 : (w4.alloc (.cells #[.int .i64 C, .int .i64 Q, .slice og2 n2 cp2] 37)).heap.size = w4.heap.size + 1 := by simp
  obtain ⟨b6, hb6⟩ : ∃ b6, b6 = w4.heap.size := ⟨_, rfl⟩
  have c3 := (I5.out.2.2.1.grown0 G6).cells
  have hl3 := I5.out.2.2.1.lt
  have I6 : Hid (∀ X : World, (w4.alloc (.cells #[.int .i64 C, .int .i64 Q, .slice og2 n2 cp2] 37)).grownBy X none → w.grownBy X none ∧ OwnS X 5 og n2 D ∧ It X b3 C Q og n2 cp ∧ Own X 5 gx zs ∧ OwnS X 5 og2 n2 D ∧ It X b6 C Q og2 n2 cp2 ∧ b6 < X.heap.size) := fun X hX =>
    ⟨grownBy_trans (grownBy_trans I5.out.1 G6) hX, (I5.out.2.1.grown0 G6).grown0 hX, (I5.out.2.2.1.grown0 G6).grown0 hX, (I5.out.2.2.2.1.grown G6 (by simp)).grown hX (by simp), (I5.out.2.2.2.2.grown0 G6).grown0 hX, by rw [hb6]; exact N6.grown0 hX, by have := hX.size; rw [hb6]; omega⟩
  have J3 : Hid ((∀ g, blk og2 = some g → gx < g ∧ g < b6) ∧ (og2 = none → cp2 = 0) ∧ gx < b6) := by rw [hb6]; exact J2.out
  have HA : Hid (OwnS (w4.alloc (.cells #[.int .i64 C, .int .i64 Q, .slice og2 n2 cp2] 37)) 5 og n2 D ∧ OwnS (w4.alloc (.cells #[.int .i64 C, .int .i64 Q, .slice og2 n2 cp2] 37)) 5 og2 n2 D) := ⟨I5.out.2.1.grown0 G6, I5.out.2.2.2.2.grown0 G6⟩
  obtain ⟨c30, c31, c32⟩ := c3
  clear I5 G6 N6 J2
  go_wp2_with fail
  refine (eqItem_same C Q og2 og n2 cp2 cp D _ HA.out.2.sl HA.out.1.sl hn2).mono ?_
  rintro e w7 ⟨rfl, hG7⟩
  rw [← hb6]
  have I7 : Hid (_ ∧ _) := I6.out w7 hG7
  clear I6 HA hG7 c30 c31 c32 hz6 hl3 hb6
  go_wp2_with fail
  refine (toByteS_any oa len cap zs _ (HS.out.grown0 I7.out.1) (by omega)).mono ?_
  rintro e w8 ⟨rfl, hO8, hG8⟩
  have I8 : Hid (Own w8 5 w7.heap.size zs ∧ Own w8 5 gx zs) := ⟨hO8, I7.out.2.2.2.1.grown hG8 (by simp)⟩
  have HG8 : Hid (w7.grownBy w8 none) := hG8
  clear hO8 hG8
  go_wp2_with fail
  refine (eqByteS_same _ _ len len len zs _ (I8.out.2.sl len hl) (I8.out.1.sl len hl) (by omega)).mono ?_
  rintro e w9 ⟨rfl, hG9⟩
  have G9 := grownBy_trans HG8.out hG9
  have I9 : Hid (w.grownBy w9 none ∧ OwnS w9 5 og n2 D ∧ It w9 b3 C Q og n2 cp ∧ Own w9 5 gx zs ∧ OwnS w9 5 og2 n2 D ∧ It w9 b6 C Q og2 n2 cp2 ∧ b6 < w9.heap.size) :=
    ⟨grownBy_trans I7.out.1 G9, I7.out.2.1.grown0 G9, I7.out.2.2.1.grown0 G9, I7.out.2.2.2.1.grown G9 (by simp), I7.out.2.2.2.2.1.grown0 G9, I7.out.2.2.2.2.2.1.grown0 G9, by have := I7.out.2.2.2.2.2.2; have := G9.size; omega⟩
  clear I7 I8 HG8 hG9 G9
  go_wp2_with fail
  refine (markByteS_own gx len len 1 zs _ I9.out.2.2.2.1 hl (by omega) (by omega)).mono ?_
  rintro e w10 ⟨rfl, -, hG10⟩
  have I10 : Hid (w.grownBy w10 none ∧ OwnS w10 5 og n2 D ∧ It w10 b3 C Q og n2 cp ∧ OwnS w10 5 og2 n2 D ∧ It w10 b6 C Q og2 n2 cp2 ∧ b6 < w10.heap.size) :=
    ⟨grownBy_new I9.out.1 hG10 J.out.2.1, I9.out.2.1.grown hG10 (fun g hg => by have hq := J.out.1; have := J.out.2.2.1 g hg; simp; omega), I9.out.2.2.1.grown hG10 (by have hq := J.out.1; simp; omega), I9.out.2.2.2.2.1.grown hG10 (fun g hg => by have hq := J.out.1; have := (J3.out.1 g hg).1; simp; omega), I9.out.2.2.2.2.2.1.grown hG10 (by have hq := J.out.1; have := J3.out.2.2; simp; omega), by have hq := J.out.1; have := I9.out.2.2.2.2.2.2; have := hG10.size; omega⟩
  obtain ⟨c30, c31, c32⟩ := I10.out.2.2.1.cells
  obtain ⟨c60, c61, c62⟩ := I10.out.2.2.2.2.1.cells
  clear I9 hG10
  go_wp2_with fail
  refine (eqItem_same C Q og2 og n2 cp2 cp D _ I10.out.2.2.2.1.sl I10.out.2.1.sl hn2).mono ?_
  rintro e w11 ⟨rfl, hG11⟩
  have I11 : Hid (w.grownBy w11 none ∧ OwnS w11 5 og n2 D ∧ It w11 b3 C Q og n2 cp ∧ OwnS w11 5 og2 n2 D ∧ It w11 b6 C Q og2 n2 cp2 ∧ b6 < w11.heap.size) :=
    ⟨grownBy_trans I10.out.1 hG11, I10.out.2.1.grown0 hG11, I10.out.2.2.1.grown0 hG11, I10.out.2.2.2.1.grown0 hG11, I10.out.2.2.2.2.1.grown0 hG11, by have := I10.out.2.2.2.2.2; have := hG11.size; omega⟩
  clear I10 c30 c31 c32 c60 c61 c62 hG11
  obtain ⟨c60, c61, c62⟩ := I11.out.2.2.2.2.1.cells
  go_wp2_with fail
  refine (markItem_s C Q og2 n2 cp2 1 D _ I11.out.2.2.2.1 J3.out.2.1 hn2 (by omega)).mono ?_
  rintro e w12 ⟨rfl, hO12, hG12⟩
  have I12 : Hid (w.grownBy w12 none ∧ OwnS w12 5 og n2 D ∧ It w12 b3 C Q og n2 cp ∧ OwnS w12 5 og2 n2 (marked D 1 n2) ∧ It w12 b6 C Q og2 n2 cp2 ∧ b6 < w12.heap.size) :=
    ⟨grownBy_row I11.out.1 hG12 (fun g hg => by have hq := J.out.1; have := (J3.out.1 g hg).1; have := J.out.2.1; omega), I11.out.2.1.grown hG12 (fun g hg h => by have hq := J.out.1; have h1 := J.out.2.2.1 g hg; have h2 := (J3.out.1 g h.symm).1; omega), I11.out.2.2.1.grown hG12 (fun h => by have hq := J.out.1; have h2 := (J3.out.1 b3 h.symm).1; omega), hO12, I11.out.2.2.2.2.1.grown hG12 (fun h => by have hq := J.out.1; have h2 := (J3.out.1 b6 h.symm).2; omega), by have hq := J.out.1; have := I11.out.2.2.2.2.2; have := hG12.size; omega⟩
  have HMK : Hid (∀ i, i < n2 → (marked D 1 n2).getD i 0 = (1 + i) % 256) := fun i hi => marked_get D 1 n2 i (by have := I11.out.2.1.1; omega) hi
  clear I11 c60 c61 c62 hO12 hG12
  obtain ⟨c60, c61, c62⟩ := I12.out.2.2.2.2.1.cells
  go_wp2_with fail
  refine (heldItem_s C Q og2 n2 cp2 1 (marked D 1 n2) _ I12.out.2.2.2.1 J3.out.2.1 HMK.out hn2 (by omega)).mono ?_
  rintro e w13 ⟨rfl, hG13⟩
  have I13 : Hid (w.grownBy w13 none ∧ OwnS w13 5 og n2 D ∧ It w13 b3 C Q og n2 cp) := ⟨grownBy_trans I12.out.1 hG13, I12.out.2.1.grown0 hG13, I12.out.2.2.1.grown0 hG13⟩
  clear I12 c60 c61 c62 hG13 HMK
  go_wp2_with fail
  refine (toByteS_any oa len cap zs _ (HS.out.grown0 I13.out.1) (by omega)).mono ?_
  rintro e w14 ⟨rfl, hO14, hG14⟩
  have I14 : Hid (w.grownBy w14 none ∧ OwnS w14 5 og n2 D ∧ It w14 b3 C Q og n2 cp ∧ Own w14 5 w13.heap.size zs) := ⟨grownBy_trans I13.out.1 hG14, I13.out.2.1.grown0 hG14, I13.out.2.2.grown0 hG14, hO14⟩
  clear I13 hO14 hG14
  go_wp2_with fail
  refine (HI.out _ _ I14.out.2.2.2).mono ?_
  rintro e w15 ⟨og3, n3, cp3, rfl, hn3, hnc3, hfr3, hOS3, hG15⟩
  obtain rfl : n3 = n2 := hOS3.1.symm.trans I14.out.2.1.1
  have I15 : Hid (w.grownBy w15 none ∧ OwnS w15 5 og n3 D ∧ It w15 b3 C Q og n3 cp ∧ OwnS w15 5 og3 n3 D) := ⟨grownBy_trans I14.out.1 hG15, I14.out.2.1.grown0 hG15, I14.out.2.2.1.grown0 hG15, hOS3⟩
  have hl3 := I15.out.2.2.1.lt
  obtain ⟨c30, c31, c32⟩ := I15.out.2.2.1.cells
  clear I14 hfr3 hOS3 hG15 hnc3
  go_wp2_with fail
  refine (eqItem_same C Q og3 og n3 cp3 cp D _ (I15.out.2.2.2.sl.grown0 (World.grownBy_alloc _ _ _)) (I15.out.2.1.sl.grown0 (World.grownBy_alloc _ _ _)) hn3).mono ?_
  rintro e w16 ⟨rfl, hG16⟩
  have R : Hid (w.grownBy w16 none) := grownBy_trans (grownBy_alloc I15.out.1 _) hG16
  clear hG16
  go_wp2
  go_ret
  exact ⟨rfl, R.out⟩

theorem cellsU8 : Try.prog.cellsOf 5 = 1 := by kernel_rfl
theorem own : ownKnob Try.prog.godebug = none := by kernel_rfl
theorem laidOut : laidOutB Try.prog = true := by kernel_rfl
set_option maxRecDepth 100000 in
theorem lifted (os : Os) (started : os.Started) (H : Type) (enc : TypeId × Value → H) :
    ReturnsInHanded {} Try.checked os 7 .any (Rows.fnExactDecodeItemSpec.pre6 enc Try.prog Try.f7 Rows.fnExactDecodeItemRow.domain false) (Rows.fnExactDecodeItemSpec.post enc Try.prog Try.f7 false true false false) := by
  refine returnsInHanded_of_change (C := Try.checked) own started (by kernel_rfl) Try.func7
    (ChangeSpec.witness6 (enc := enc) (C := Try.checked) false ⟨#[], #[.slice none 0 0], []⟩ 8 (by kernel_rfl) (by kernel_rfl) (by kernel_rfl) (by kernel_rfl)) ?_
  intro W base args ds gs before hval0 hW hcnd _
  have hval : ∀ (j : Nat) t v, Try.f7.params[j]? = some t → args[j]? = some v → Value.okWide Try.prog W .any base t v := hval0
  have hW' := hW
  obtain ⟨p, q, hA0, hV, rfl, hfz, hnd⟩ := hW
  have hA : DataW.TrodAll enc Try.prog W 0 (fun _ => true) true Try.f7.params.toList args.toList ds p := hA0
  rw [Try.params7] at hA hval
  obtain ⟨v0, vs0, d0, ds0, p0, q0, hargs, rfl, rfl, h0, r0⟩ := trodAll_cons hA
  obtain ⟨rfl, rfl, rfl⟩ := trodAll_nil r0
  obtain rfl : args = #[v0] := by cases args; simp_all
  obtain ⟨rfl, rfl⟩ := trodVars_none hV
  obtain ⟨oa, len, cap, rfl⟩ := okWide_slice Try.underlying31 (hval 0 31 v0 rfl rfl)
  obtain ⟨zs, hs, hmx⟩ := slb_open Try.underlying31 Try.underlying5 cellsU8 h0
  refine (walk oa len cap zs W hs hmx).mono fun e W' ⟨he, hgr⟩ => ?_
  subst he
  exact ⟨_, rfl, Post.law laidOut (below_of_grown hgr) hW' (by kernel_rfl) (by kernel_rfl) (tb := 4) (by kernel_rfl) Try.underlying4 rfl⟩
end Go.Proofs.Ytionggfecikedaa.fnExactDecodeItem
namespace Go.Proofs.Ytionggfecikedaa
theorem FnExactDecodeItem_holds : Rows.FnExactDecodeItemSaid :=
  OpenClaim.holds_of_wide 7 Try.f7 rfl rfl rfl rfl rfl rfl rfl ⟨rfl, rfl, rfl, rfl, rfl⟩ rfl rfl rfl rfl rfl (by kernel_rfl) Try.func7 (by kernel_rfl)
    (of_decide_eq_true (by kernel_rfl)) (by unfold Func.isWrapper; first | (rw [if_pos (by decide +kernel)]; kernel_rfl) | (rw [if_neg (by decide +kernel)]; exact ⟨rfl, rfl⟩))
    (fun os started H enc _ => fnExactDecodeItem.lifted os started H enc)
#print axioms FnExactDecodeItem_holds
end Go.Proofs.Ytionggfecikedaa

/-
  FnExactApply: the law's walk.
-/
import Derived.Test.YtdajcpcajdhplaaDoorApTold
import Derived.Test.YtdajcpcajdhplaaDoorPost
import Derived.Test.YtdajcpcajdhplaaDoorOpenB
import Derived.Deep.RegionHeld3
namespace Go.Proofs.YtdajcpcajdhplaaDoor.fnExactApply
open Go.RowKit

theorem mkS {p : Prop} (h : p) : Hid p := h
/-- three cells lie in block k -/
def Bl (w : World) (k : Nat) (t : TypeId) (b : Int) (u v : Value) : Prop := w.heap[k]? = some (.cells #[.int .i64 b, u, v] t (0, 0))
theorem Bl.cells {w : World} {k : Nat} {t : TypeId} {b : Int} {u v : Value} (h : Bl w k t b u v) : w.cell? ⟨k, 0, none⟩ = some (.int .i64 b) ∧ w.cell? ⟨k, 1, none⟩ = some u ∧ w.cell? ⟨k, 2, none⟩ = some v := by
  unfold Bl at h
  simp [World.cell?, h]
theorem Bl.lt {w : World} {k : Nat} {t : TypeId} {b : Int} {u v : Value} (h : Bl w k t b u v) : k < w.heap.size := (Array.getElem?_eq_some_iff.1 h).1
theorem Bl.apart {w w' : World} {T : Nat → Prop} {k : Nat} {t : TypeId} {b : Int} {u v : Value} (h : Bl w k t b u v) (hb : Only T w w') (hd : ¬ T k) : Bl w' k t b u v := (hb.block k h.lt hd).trans h
theorem Bl.grown {w w' : World} {row : Option Nat} {k : Nat} {t : TypeId} {b : Int} {u v : Value} (h : Bl w k t b u v) (hg : w.grownBy w' row) (hd : some k ≠ row) : Bl w' k t b u v := (hg.block k h.lt hd).trans h
theorem Bl.grown0 {w w' : World} {k : Nat} {t : TypeId} {b : Int} {u v : Value} (h : Bl w k t b u v) (hg : w.grownBy w' none) : Bl w' k t b u v := h.grown hg (by simp)

/-- before the program's answer: the argument's box, the model's answer, the program's argument -/
structure S1 (w W : World) (an bn kc sc : Nat) (b : Int) (ko so : Option Addr) (r0 x : Sv) (b6 b9 gx : Nat) (zs : List Nat) : Prop where
  g : w.grownBy W none
  box : Bl W w.heap.size 50 b (.slice ko an kc) (.slice so bn sc)
  a0 : SvAt W r0
  l0 : Bl W b6 28 r0.b (.slice r0.ko r0.K.length r0.kc) (.slice r0.so r0.S.length r0.sc)
  ax : SvFull W x
  lx : Bl W b9 28 x.b (.slice x.ko x.K.length x.kc) (.slice x.so x.S.length x.sc)
  ox : Own W 5 gx zs
theorem S1.more {w W W' : World} {an bn kc sc : Nat} {b : Int} {ko so : Option Addr} {r0 x : Sv} {b6 b9 gx : Nat} {zs : List Nat} (h : S1 w W an bn kc sc b ko so r0 x b6 b9 gx zs) (hg : W.grownBy W' none) : S1 w W' an bn kc sc b ko so r0 x b6 b9 gx zs :=
  ⟨grownBy_trans h.g hg, h.box.grown0 hg, h.a0.grown0 hg, h.l0.grown0 hg, h.ax.grown0 hg, h.lx.grown0 hg, h.ox.grown hg (by simp)⟩
/-- where they lie -/
structure P1 (w : World) (r0 x : Sv) (b6 b9 gx : Nat) : Prop where
  p0 : ∀ k, SvB r0 k → w.heap.size < k ∧ k < b6
  px : ∀ k, SvB x k → b6 < k ∧ k < b9
  hw6 : w.heap.size < b6
  hb9 : b6 < b9
  hgx : b9 < gx

set_option maxRecDepth 100000 in
set_option maxHeartbeats 8000000 in
theorem walk (b : Int) (ko : Option Addr) (kc : Nat) (A : List Ar) (so : Option Addr) (sc : Nat) (B : List Ar) (oa : Option Addr) (len cap : Nat) (zs : List Nat) (ad : Nat → Addr) (w : World) (hE : ErrsAt w ad) (hA : ArSl w 2 ko A) (hB : ArSl w 3 so B) (hnA : A.length ≤ maxLen) (hnB : B.length ≤ maxLen) (hsl : SlB w oa len zs) (hmx : len ≤ maxLen) :
    Calls Tryd.prog 4 #[.agg #[.int .i64 b, .slice ko A.length kc, .slice so B.length sc], .slice oa len cap] w fun e w' => e = .returned (.bool true) ∧ w.grownBy w' none := by
  have HZ : Hid (∀ X : World, w.grownBy X none → Calls Tryd.prog 17 #[.agg #[.int .i64 b, .slice ko A.length kc, .slice so B.length sc], .int .i64 1048576] X fun e w' => ∃ v : Int, e = .returned (.int .i64 v) ∧ ((tot A + tot B ≤ 1048576 ∧ 0 ≤ v ∧ v ≤ 1048576) ∨ (1048576 < tot A + tot B ∧ v = -1)) ∧ X.grownBy w' none) := fun X hX =>
    szService_any b ko kc A so sc B X (hA.grown hX) (hB.grown hX) hnA hnB
  obtain ⟨T, hTe⟩ : ∃ T : Told, T = (b, A.map Ar.tell, B.map Ar.tell) := ⟨_, rfl⟩
  have HT : Hid (tot A + tot B ≤ 1048576 → ∀ X : World, w.grownBy X none → Calls Tryd.prog 19 #[.agg #[.int .i64 b, .slice ko A.length kc, .slice so B.length sc]] X fun e w' => ∃ s : Sv, e = .returned (.agg #[.int .i64 s.b, .slice s.ko s.K.length s.kc, .slice s.so s.S.length s.sc]) ∧ s.tell = T ∧ SvFull w' s ∧ SvFit s ∧ (∀ k, SvB s k → X.heap.size ≤ k) ∧ X.grownBy w' none) := fun ht X hX => by
    rw [hTe]
    exact toService_full b ko kc A so sc B X (hA.grown hX) (hB.grown hX) ht
  unfold maxLen at hmx
  by_cases hbig : 1048576 < len
  · clear hsl HZ HT hA hB hnA hnB hTe
    generalize A.length = an at *
    generalize B.length = bn at *
    go_enter Tryd.func4, Tryd.ntmps4
    go_wp2
    go_ret
    exact ⟨rfl, World.grownBy_alloc _ _ _⟩
  have hl : zs.length = len := hsl.1
  obtain ⟨T', pl, c, hT'⟩ := apTold_ex T zs
  have HB : Hid (∀ X : World, w.grownBy X none → Calls Tryd.prog 20 #[.slice oa len cap] X fun e w' => e = .returned (.slice (some ⟨X.heap.size, 0, none⟩) len len) ∧ Own w' 5 X.heap.size zs ∧ X.grownBy w' none) := fun X hX => toByteS_any oa len cap zs X (hsl.grown0 hX) (by omega)
  have HP : Hid (∀ (s : Sv) (g : Nat) (X : World), SvFull X s → s.tell = T → SvFit s → Own X 5 g zs → Calls Tryd.prog 18 #[.agg #[.int .i64 s.b, .slice s.ko s.K.length s.kc, .slice s.so s.S.length s.sc], .slice (some ⟨g, 0, none⟩) len len] X (ApAns X T' pl c)) := fun s g X h1 h2 h3 h4 => specApply_ans s _ len zs X T T' pl c (h4.sl len hl) (by omega) h1.at_ h3.small h2 hT'
  have HI : Hid (∀ (s : Sv) (g : Nat) (X : World), w.grownBy X none → SvFull X s → s.tell = T → SvFit s → Own X 5 g zs → Calls Tryd.prog 13 #[.agg #[.int .i64 s.b, .slice s.ko s.K.length s.kc, .slice s.so s.S.length s.sc], .slice (some ⟨g, 0, none⟩) len len] X (ApAns X T' pl c)) := fun s g X hX h1 h2 h3 h4 => implApply_ans s _ len zs ad X T T' pl c (hE.grown hX) (h4.sl len hl) (by omega) h1 h3.small h2 hT'
  have HEQ : Hid (∀ (s r : Sv) (X : World), SvAt X s → SvAt X r → s.tell = T' → r.tell = T' → Calls Tryd.prog 21 #[.agg #[.int .i64 s.b, .slice s.ko s.K.length s.kc, .slice s.so s.S.length s.sc], .agg #[.int .i64 r.b, .slice r.ko r.K.length r.kc, .slice r.so r.S.length r.sc]] X fun e w' => e = .returned (.bool true) ∧ X.grownBy w' none) :=
    fun s r X h1 h2 h3 h4 => eqService_same s r X h1 h2 (h3.trans h4.symm) (apFit h3 hT'.fit).small
  have HEX : Hid (∀ (s r : Sv) (X : World), SvAt X s → SvAt X r → s.tell = T → r.tell = T → SvFit s → Calls Tryd.prog 21 #[.agg #[.int .i64 s.b, .slice s.ko s.K.length s.kc, .slice s.so s.S.length s.sc], .agg #[.int .i64 r.b, .slice r.ko r.K.length r.kc, .slice r.so r.S.length r.sc]] X fun e w' => e = .returned (.bool true) ∧ X.grownBy w' none) :=
    fun s r X h1 h2 h3 h4 h5 => eqService_same s r X h1 h2 (h3.trans h4.symm) h5.small
  have HFT : Hid (fitT T') := hT'.fit
  have e1 : (pl != pl) = false := by simp
  have e2 : (c != c) = false := by simp
  have hlen : len ≤ 1048576 := by omega
  clear hA hB hnA hnB hTe hE hsl hT'
  generalize A.length = an at *
  generalize B.length = bn at *
  go_enter Tryd.func4, Tryd.ntmps4
  go_wp2_with fail
  refine (HZ.out _ (World.grownBy_alloc _ _ _)).mono ?_
  rintro e w1 ⟨v, rfl, hv, hG1⟩
  have B1 : Hid (Bl w1 w.heap.size 50 b (.slice ko an kc) (.slice so bn sc) ∧ w.grownBy w1 none) := ⟨(hG1.block _ (by simp) (by simp)).trans (heap_alloc_new w _), grownBy_trans (World.grownBy_alloc _ _ _) hG1⟩
  clear hG1 HZ
  rcases hv with ⟨hfit, hv0, hv1⟩ | ⟨hbig, rfl⟩
  · have HT : Hid (∀ X : World, w.grownBy X none → Calls Tryd.prog 19 #[.agg #[.int .i64 b, .slice ko an kc, .slice so bn sc]] X fun e w' => ∃ s : Sv, e = .returned (.agg #[.int .i64 s.b, .slice s.ko s.K.length s.kc, .slice s.so s.S.length s.sc]) ∧ s.tell = T ∧ SvFull w' s ∧ SvFit s ∧ (∀ k, SvB s k → X.heap.size ≤ k) ∧ X.grownBy w' none) := HT.out hfit
    clear hfit
    obtain ⟨a1, m1, b1⟩ := B1.out.1.cells
    go_wp2_with fail
    refine (HT.out _ B1.out.2).mono ?_
    rintro e w2 ⟨s, rfl, hts, hAs, hFs, hBs, hG2⟩
    have I2 : Hid (Bl w2 w.heap.size 50 b (.slice ko an kc) (.slice so bn sc) ∧ w.grownBy w2 none ∧ SvFull w2 s ∧ s.tell = T ∧ SvFit s) := ⟨B1.out.1.grown0 hG2, grownBy_trans B1.out.2 hG2, hAs, hts, hFs⟩
    clear a1 m1 b1 B1 hts hAs hFs hBs hG2
    go_wp2_with fail
    refine (HB.out _ I2.out.2.1).mono ?_
    rintro e w3 ⟨rfl, hO3, hG3⟩
    have I3 : Hid (Bl w3 w.heap.size 50 b (.slice ko an kc) (.slice so bn sc) ∧ w.grownBy w3 none ∧ SvFull w3 s ∧ s.tell = T ∧ SvFit s ∧ Own w3 5 w2.heap.size zs) := ⟨I2.out.1.grown0 hG3, grownBy_trans I2.out.2.1 hG3, I2.out.2.2.1.grown0 hG3, I2.out.2.2.2.1, I2.out.2.2.2.2, hO3⟩
    clear I2 hO3 hG3
    go_wp2_with fail
    refine (HP.out s _ _ I3.out.2.2.1 I3.out.2.2.2.1 I3.out.2.2.2.2.1 I3.out.2.2.2.2.2).mono ?_
    rintro e w4 ⟨r0, rfl, htr0, hAr0, hBr0, hG4⟩
    have G5 := World.grownBy_alloc w4 (.cells #[.int .i64 r0.b, .slice r0.ko r0.K.length r0.kc, .slice r0.so r0.S.length r0.sc] 28) none
    have I5 : Hid (Bl (w4.alloc (.cells #[.int .i64 r0.b, .slice r0.ko r0.K.length r0.kc, .slice r0.so r0.S.length r0.sc] 28)) w.heap.size 50 b (.slice ko an kc) (.slice so bn sc) ∧ w.grownBy (w4.alloc (.cells #[.int .i64 r0.b, .slice r0.ko r0.K.length r0.kc, .slice r0.so r0.S.length r0.sc] 28)) none ∧ SvAt (w4.alloc (.cells #[.int .i64 r0.b, .slice r0.ko r0.K.length r0.kc, .slice r0.so r0.S.length r0.sc] 28)) r0 ∧ Bl (w4.alloc (.cells #[.int .i64 r0.b, .slice r0.ko r0.K.length r0.kc, .slice r0.so r0.S.length r0.sc] 28)) w4.heap.size 28 r0.b (.slice r0.ko r0.K.length r0.kc) (.slice r0.so r0.S.length r0.sc)) := ⟨(I3.out.1.grown0 hG4).grown0 G5, grownBy_trans (grownBy_trans I3.out.2.1 hG4) G5, hAr0.grown0 G5, heap_alloc_new w4 _⟩
    have J5 : Hid (r0.tell = T' ∧ (∀ k, SvB r0 k → w.heap.size < k ∧ k < w4.heap.size) ∧ w.heap.size < w4.heap.size ∧ (w4.alloc (.cells #[.int .i64 r0.b, .slice r0.ko r0.K.length r0.kc, .slice r0.so r0.S.length r0.sc] 28)).heap.size = w4.heap.size + 1) := by
      have h1 := I3.out.1.lt
      have h2 := hG4.size
      exact ⟨htr0, fun k hk => ⟨by have := hBr0 k hk; omega, hAr0.lt k hk⟩, by omega, by simp⟩
    clear I3 htr0 hAr0 hBr0 hG4 G5 HP
    go_upto_region 8 with fail
    generalize w4.alloc (.cells #[.int .i64 r0.b, .slice r0.ko r0.K.length r0.kc, .slice r0.so r0.S.length r0.sc] 28) = W5 at *
    generalize w4.heap.size = b6 at *
    obtain ⟨a5, m5, b5⟩ := I5.out.1.cells
    go_wp2_with fail
    refine (HT.out _ I5.out.2.1).mono ?_
    rintro e w6 ⟨x, rfl, htx, hAx, hFx, hBx, hG6⟩
    have G7 := World.grownBy_alloc w6 (.cells #[.int .i64 x.b, .slice x.ko x.K.length x.kc, .slice x.so x.S.length x.sc] 28) none
    have I7 : Hid (Bl (w6.alloc (.cells #[.int .i64 x.b, .slice x.ko x.K.length x.kc, .slice x.so x.S.length x.sc] 28)) w.heap.size 50 b (.slice ko an kc) (.slice so bn sc) ∧ w.grownBy (w6.alloc (.cells #[.int .i64 x.b, .slice x.ko x.K.length x.kc, .slice x.so x.S.length x.sc] 28)) none ∧ SvAt (w6.alloc (.cells #[.int .i64 x.b, .slice x.ko x.K.length x.kc, .slice x.so x.S.length x.sc] 28)) r0 ∧ Bl (w6.alloc (.cells #[.int .i64 x.b, .slice x.ko x.K.length x.kc, .slice x.so x.S.length x.sc] 28)) b6 28 r0.b (.slice r0.ko r0.K.length r0.kc) (.slice r0.so r0.S.length r0.sc) ∧ SvFull (w6.alloc (.cells #[.int .i64 x.b, .slice x.ko x.K.length x.kc, .slice x.so x.S.length x.sc] 28)) x ∧ Bl (w6.alloc (.cells #[.int .i64 x.b, .slice x.ko x.K.length x.kc, .slice x.so x.S.length x.sc] 28)) w6.heap.size 28 x.b (.slice x.ko x.K.length x.kc) (.slice x.so x.S.length x.sc)) :=
      ⟨(I5.out.1.grown0 hG6).grown0 G7, grownBy_trans (grownBy_trans I5.out.2.1 hG6) G7, (I5.out.2.2.1.grown0 hG6).grown0 G7, (I5.out.2.2.2.grown0 hG6).grown0 G7, hAx.grown0 G7, heap_alloc_new w6 _⟩
    have J7 : Hid (r0.tell = T' ∧ x.tell = T ∧ SvFit x ∧ (∀ k, SvB r0 k → w.heap.size < k ∧ k < b6) ∧ (∀ k, SvB x k → b6 < k ∧ k < w6.heap.size) ∧ w.heap.size < b6 ∧ b6 < w6.heap.size ∧ (w6.alloc (.cells #[.int .i64 x.b, .slice x.ko x.K.length x.kc, .slice x.so x.S.length x.sc] 28)).heap.size = w6.heap.size + 1) := by
      have h2 := hG6.size
      have h3 := J5.out.2.2.2
      exact ⟨J5.out.1, htx, hFx, J5.out.2.1, fun k hk => ⟨by have := hBx k hk; omega, hAx.at_.lt k hk⟩, J5.out.2.2.1, by omega, by simp⟩
    clear I5 J5 htx hAx hFx hBx hG6 G7 a5 m5 b5
    go_upto_region 9 with fail
    generalize w6.alloc (.cells #[.int .i64 x.b, .slice x.ko x.K.length x.kc, .slice x.so x.S.length x.sc] 28) = W7 at *
    generalize w6.heap.size = b9 at *
    go_wp2_with fail
    refine (HB.out _ I7.out.2.1).mono ?_
    rintro e w8 ⟨rfl, hO8, hG8⟩
    obtain ⟨gx, hgx⟩ : ∃ gx, W7.heap.size = gx := ⟨_, rfl⟩
    rw [hgx] at hO8 ⊢
    have I8 : Hid (S1 w w8 an bn kc sc b ko so r0 x b6 b9 gx zs) := ⟨grownBy_trans I7.out.2.1 hG8, I7.out.1.grown0 hG8, I7.out.2.2.1.grown0 hG8, I7.out.2.2.2.1.grown0 hG8, I7.out.2.2.2.2.1.grown0 hG8, I7.out.2.2.2.2.2.grown0 hG8, hO8⟩
    have J8 : Hid (P1 w r0 x b6 b9 gx ∧ r0.tell = T' ∧ x.tell = T ∧ SvFit x) := ⟨⟨J7.out.2.2.2.1, J7.out.2.2.2.2.1, J7.out.2.2.2.2.2.1, J7.out.2.2.2.2.2.2.1, by have := J7.out.2.2.2.2.2.2.2; omega⟩, J7.out.1, J7.out.2.1, J7.out.2.2.1⟩
    clear I7 J7 hO8 hG8 hgx
    obtain ⟨c90, c91, c92⟩ := I8.out.lx.cells
    go_wp2_with fail
    refine (HI.out x gx _ I8.out.g I8.out.ax J8.out.2.2.1 J8.out.2.2.2 I8.out.ox).mono ?_
    rintro e w9 ⟨r1, rfl, htr1, hAr1, hBr1, hG9⟩
    have GA := World.grownBy_alloc w9 (.cells #[.int .i64 r1.b, .slice r1.ko r1.K.length r1.kc, .slice r1.so r1.S.length r1.sc] 28) none
    have I10 : Hid (S1 w (w9.alloc (.cells #[.int .i64 r1.b, .slice r1.ko r1.K.length r1.kc, .slice r1.so r1.S.length r1.sc] 28)) an bn kc sc b ko so r0 x b6 b9 gx zs ∧ SvAt (w9.alloc (.cells #[.int .i64 r1.b, .slice r1.ko r1.K.length r1.kc, .slice r1.so r1.S.length r1.sc] 28)) r1 ∧ Bl (w9.alloc (.cells #[.int .i64 r1.b, .slice r1.ko r1.K.length r1.kc, .slice r1.so r1.S.length r1.sc] 28)) w9.heap.size 28 r1.b (.slice r1.ko r1.K.length r1.kc) (.slice r1.so r1.S.length r1.sc)) := ⟨(I8.out.more hG9).more GA, hAr1.grown0 GA, heap_alloc_new w9 _⟩
    have J10 : Hid (r1.tell = T' ∧ (∀ k, SvB r1 k → gx < k ∧ k < w9.heap.size) ∧ gx < w9.heap.size) := by
      have h1 := I8.out.ox.lt
      have h2 := hG9.size
      exact ⟨htr1, fun k hk => ⟨by have := hBr1 k hk; omega, hAr1.lt k hk⟩, by omega⟩
    clear I8 c90 c91 c92 htr1 hAr1 hBr1 hG9 GA
    go_upto_region 11 with fail
    generalize w9.alloc (.cells #[.int .i64 r1.b, .slice r1.ko r1.K.length r1.kc, .slice r1.so r1.S.length r1.sc] 28) = WA at *
    generalize w9.heap.size = bb at *
    obtain ⟨d0, d1, d2⟩ := I10.out.2.2.cells
    obtain ⟨c60, c61, c62⟩ := I10.out.1.l0.cells
    go_wp2_with fail
    refine (HEQ.out r1 r0 _ I10.out.2.1 I10.out.1.a0 J10.out.1 J8.out.2.1).mono ?_
    rintro e w11 ⟨rfl, hG11⟩
    have I11 : Hid (S1 w w11 an bn kc sc b ko so r0 x b6 b9 gx zs ∧ SvAt w11 r1 ∧ Bl w11 bb 28 r1.b (.slice r1.ko r1.K.length r1.kc) (.slice r1.so r1.S.length r1.sc)) := ⟨I10.out.1.more hG11, I10.out.2.1.grown0 hG11, I10.out.2.2.grown0 hG11⟩
    clear I10 hG11 d0 d1 d2 c60 c61 c62
    obtain ⟨c90, c91, c92⟩ := I11.out.1.lx.cells
    obtain ⟨a7, m7, b7⟩ := I11.out.1.box.cells
    have HT7 : Hid (∀ X : World, Same w11 X → Calls Tryd.prog 19 #[.agg #[.int .i64 b, .slice ko an kc, .slice so bn sc]] X fun e w' => ∃ s : Sv, e = .returned (.agg #[.int .i64 s.b, .slice s.ko s.K.length s.kc, .slice s.so s.S.length s.sc]) ∧ Hid (s.tell = T ∧ SvAt w' s ∧ w11.grownBy w' none) ∧ (w'.cell? ⟨w.heap.size, 0, none⟩ = some (.int .i64 b) ∧ w'.cell? ⟨w.heap.size, 1, none⟩ = some (.slice ko an kc) ∧ w'.cell? ⟨w.heap.size, 2, none⟩ = some (.slice so bn sc) ∧ w'.cell? ⟨b9, 0, none⟩ = some (.int .i64 x.b) ∧ w'.cell? ⟨b9, 1, none⟩ = some (.slice x.ko x.K.length x.kc) ∧ w'.cell? ⟨b9, 2, none⟩ = some (.slice x.so x.S.length x.sc))) := by
      intro X hX
      refine (HT.out X (grownBy_same I11.out.1.g hX)).mono ?_
      rintro e w' ⟨s', rfl, h1, h2, h3, h4, hG⟩
      have hGG : w11.grownBy w' none := grownBy_trans (grownBy_same (grownBy_refl w11 none) hX) hG
      obtain ⟨k1, k2, k3⟩ := (I11.out.1.box.grown0 hGG).cells
      obtain ⟨k4, k5, k6⟩ := (I11.out.1.lx.grown0 hGG).cells
      exact ⟨s', rfl, ⟨h1, h2.at_, hGG⟩, k1, k2, k3, k4, k5, k6⟩
    go_wp2_with fail
    go_region_held3 (fun w' => w'.cell? ⟨w.heap.size, 0, none⟩ = some (.int .i64 b) ∧ w'.cell? ⟨w.heap.size, 1, none⟩ = some (.slice ko an kc) ∧ w'.cell? ⟨w.heap.size, 2, none⟩ = some (.slice so bn sc) ∧ w'.cell? ⟨b9, 0, none⟩ = some (.int .i64 x.b) ∧ w'.cell? ⟨b9, 1, none⟩ = some (.slice x.ko x.K.length x.kc) ∧ w'.cell? ⟨b9, 2, none⟩ = some (.slice x.so x.S.length x.sc)) (first | go_keep | (exact hC9) | fail)
      (first
        | (go_at_call 19; refine (HT7.out _ (by exact ⟨rfl, rfl, rfl, rfl⟩)).mono ?_; rintro e w12 ⟨s8, rfl, hOG8, a8, m8, b8, p8, r8, q8⟩)
        | (go_at_call 21; refine (HEX.out x s8 _ (by exact (I11.out.1.ax.at_.grown0 hOG8.out.2.2).grown0 (grownBy_same (grownBy_refl _ _) ⟨rfl, rfl, rfl, rfl⟩)) (by exact hOG8.out.2.1.grown0 (grownBy_same (grownBy_refl _ _) ⟨rfl, rfl, rfl, rfl⟩)) J8.out.2.2.1 hOG8.out.1 J8.out.2.2.2).mono ?_; rintro e w13 ⟨rfl, hG13⟩; have hGG9 := mkS (grownBy_trans hOG8.out.2.2 hG13); have hC9 := And.intro ((I11.out.1.box.grown0 hGG9.out).cells.1) (And.intro ((I11.out.1.box.grown0 hGG9.out).cells.2.1) (And.intro ((I11.out.1.box.grown0 hGG9.out).cells.2.2) ((I11.out.1.lx.grown0 hGG9.out).cells))))
        | fail)
    have I13 : Hid (S1 w w13 an bn kc sc b ko so r0 x b6 b9 gx zs ∧ SvAt w13 r1 ∧ Bl w13 bb 28 r1.b (.slice r1.ko r1.K.length r1.kc) (.slice r1.so r1.S.length r1.sc)) := ⟨I11.out.1.more hGG9.out, I11.out.2.1.grown0 hGG9.out, I11.out.2.2.grown0 hGG9.out⟩
    clear c90 c91 c92 a7 m7 b7 a8 m8 b8 p8 r8 q8 hOG8 hG13 hGG9 hC9 HT7 I11 HEX
    try clear hHeld
    go_wp2_with fail
    refine (HB.out _ I13.out.1.g).mono ?_
    rintro e w14 ⟨rfl, hO14, hG14⟩
    have I14 : Hid (S1 w w14 an bn kc sc b ko so r0 x b6 b9 gx zs ∧ SvAt w14 r1 ∧ Bl w14 bb 28 r1.b (.slice r1.ko r1.K.length r1.kc) (.slice r1.so r1.S.length r1.sc) ∧ Own w14 5 w13.heap.size zs) := ⟨I13.out.1.more hG14, I13.out.2.1.grown0 hG14, I13.out.2.2.grown0 hG14, hO14⟩
    clear I13 hO14 hG14
    go_wp2_with fail
    refine (eqByteS_same _ _ len len len zs _ (I14.out.1.ox.sl len hl) (I14.out.2.2.2.sl len hl) (by omega)).mono ?_
    rintro e w15 ⟨rfl, hG15⟩
    have I15 : Hid (S1 w w15 an bn kc sc b ko so r0 x b6 b9 gx zs ∧ SvAt w15 r1 ∧ Bl w15 bb 28 r1.b (.slice r1.ko r1.K.length r1.kc) (.slice r1.so r1.S.length r1.sc)) := ⟨I14.out.1.more hG15, I14.out.2.1.grown0 hG15, I14.out.2.2.1.grown0 hG15⟩
    clear I14 hG15
    obtain ⟨c90, c91, c92⟩ := I15.out.1.lx.cells
    have HMX : Hid (∀ X : World, SvAt X x → Calls Tryd.prog 23 #[.agg #[.int .i64 x.b, .slice x.ko x.K.length x.kc, .slice x.so x.S.length x.sc], .int .i64 1] X fun e w' => e = .returned (.int .i64 ((x.fin 1 : Nat) : Int)) ∧ SvAt w' (x.mkd 1) ∧ Only (SvB x) X w') := fun X hX => markService_any x 1 X hX J8.out.2.2.2.small J8.out.2.2.2.bound
    have hfx : x.fin 1 ≤ 1073741000 := J8.out.2.2.2.bound.2 _ (Nat.le_refl _)
    generalize x.fin 1 = F at *
    go_wp2_with fail
    refine (HMX.out _ I15.out.1.ax.at_).mono ?_
    rintro e w16 ⟨rfl, -, hO16⟩
    have I16 : Hid (w.grownBy w16 none ∧ Bl w16 w.heap.size 50 b (.slice ko an kc) (.slice so bn sc) ∧ SvAt w16 r0 ∧ Bl w16 b6 28 r0.b (.slice r0.ko r0.K.length r0.kc) (.slice r0.so r0.S.length r0.sc) ∧ Own w16 5 gx zs ∧ SvAt w16 r1 ∧ Bl w16 bb 28 r1.b (.slice r1.ko r1.K.length r1.kc) (.slice r1.so r1.S.length r1.sc)) := by
      have hp := J8.out.1
      have h9 := hp.hb9
      have hg := hp.hgx
      have hw := hp.hw6
      exact ⟨hO16.grown I15.out.1.g (fun k hk => by have := (hp.px k hk).1; omega), I15.out.1.box.apart hO16 (fun hk => by have := (hp.px _ hk).1; omega), I15.out.1.a0.apart hO16 (fun k hk hk' => by have h1 := (hp.p0 k hk).2; have h2 := (hp.px k hk').1; omega), I15.out.1.l0.apart hO16 (fun hk => by have := (hp.px _ hk).1; omega), I15.out.1.ox.of_block (hO16.block gx I15.out.1.ox.lt (fun hk => by have := (hp.px _ hk).2; omega)), I15.out.2.1.apart hO16 (fun k hk hk' => by have h1 := (J10.out.2.1 k hk).1; have h2 := (hp.px k hk').2; omega), I15.out.2.2.apart hO16 (fun hk => by have := (hp.px _ hk).2; have := J10.out.2.2; omega)⟩
    clear I15 hO16 c90 c91 c92 HMX
    go_wp2_with fail
    refine (markByteS_own gx len len F zs _ I16.out.2.2.2.2.1 hl (by omega) (by omega)).mono ?_
    rintro e w17 ⟨rfl, -, hG17⟩
    have I17 : Hid (w.grownBy w17 none ∧ Bl w17 w.heap.size 50 b (.slice ko an kc) (.slice so bn sc) ∧ SvAt w17 r0 ∧ Bl w17 b6 28 r0.b (.slice r0.ko r0.K.length r0.kc) (.slice r0.so r0.S.length r0.sc) ∧ SvAt w17 r1 ∧ Bl w17 bb 28 r1.b (.slice r1.ko r1.K.length r1.kc) (.slice r1.so r1.S.length r1.sc)) := by
      have hp := J8.out.1
      have h9 := hp.hb9
      have hg := hp.hgx
      have hw := hp.hw6
      have O := Only.of (S := fun k => k = gx) hG17 (fun k e => by simpa using e.symm)
      exact ⟨grownBy_new I16.out.1 hG17 (by omega), I16.out.2.1.apart O (by omega), I16.out.2.2.1.apart O (fun k hk e => by have h1 := (hp.p0 k hk).2; omega), I16.out.2.2.2.1.apart O (by omega), I16.out.2.2.2.2.2.1.apart O (fun k hk e => by have h1 := (J10.out.2.1 k hk).1; omega), I16.out.2.2.2.2.2.2.apart O (by have := J10.out.2.2; omega)⟩
    clear I16 hG17
    obtain ⟨d0, d1, d2⟩ := I17.out.2.2.2.2.2.cells
    obtain ⟨c60, c61, c62⟩ := I17.out.2.2.2.1.cells
    go_wp2_with fail
    refine (HEQ.out r1 r0 _ I17.out.2.2.2.2.1 I17.out.2.2.1 J10.out.1 J8.out.2.1).mono ?_
    rintro e w18 ⟨rfl, hG18⟩
    have I18 : Hid (w.grownBy w18 none ∧ Bl w18 w.heap.size 50 b (.slice ko an kc) (.slice so bn sc) ∧ SvAt w18 r0 ∧ Bl w18 b6 28 r0.b (.slice r0.ko r0.K.length r0.kc) (.slice r0.so r0.S.length r0.sc) ∧ SvAt w18 r1 ∧ Bl w18 bb 28 r1.b (.slice r1.ko r1.K.length r1.kc) (.slice r1.so r1.S.length r1.sc)) := ⟨grownBy_trans I17.out.1 hG18, I17.out.2.1.grown0 hG18, I17.out.2.2.1.grown0 hG18, I17.out.2.2.2.1.grown0 hG18, I17.out.2.2.2.2.1.grown0 hG18, I17.out.2.2.2.2.2.grown0 hG18⟩
    clear I17 hG18 d0 d1 d2 c60 c61 c62
    obtain ⟨d0, d1, d2⟩ := I18.out.2.2.2.2.2.cells
    have HMK : Hid (∀ X : World, SvAt X r1 → Calls Tryd.prog 23 #[.agg #[.int .i64 r1.b, .slice r1.ko r1.K.length r1.kc, .slice r1.so r1.S.length r1.sc], .int .i64 1] X fun e w' => e = .returned (.int .i64 ((r1.fin 1 : Nat) : Int)) ∧ SvAt w' (r1.mkd 1) ∧ Only (SvB r1) X w') := fun X hX => markService_any r1 1 X hX (apFit J10.out.1 HFT.out).small (apFit J10.out.1 HFT.out).bound
    have HHD : Hid (∀ X : World, SvAt X (r1.mkd 1) → Calls Tryd.prog 25 #[.agg #[.int .i64 r1.b, .slice r1.ko r1.K.length r1.kc, .slice r1.so r1.S.length r1.sc], .int .i64 1] X fun e w' => e = .returned (.int .i64 ((r1.fin 1 : Nat) : Int)) ∧ X.grownBy w' none) := fun X hX => heldService_any r1 1 X hX (apFit J10.out.1 HFT.out).small (apFit J10.out.1 HFT.out).bound
    have hf1 : r1.fin 1 ≤ 1073741000 := (apFit J10.out.1 HFT.out).bound.2 _ (Nat.le_refl _)
    generalize r1.fin 1 = F1 at *
    go_wp2_with fail
    refine (HMK.out _ I18.out.2.2.2.2.1).mono ?_
    rintro e w19 ⟨rfl, hA19, hO19⟩
    have I19 : Hid (w.grownBy w19 none ∧ Bl w19 w.heap.size 50 b (.slice ko an kc) (.slice so bn sc) ∧ SvAt w19 r0 ∧ Bl w19 b6 28 r0.b (.slice r0.ko r0.K.length r0.kc) (.slice r0.so r0.S.length r0.sc) ∧ SvAt w19 (r1.mkd 1) ∧ Bl w19 bb 28 r1.b (.slice r1.ko r1.K.length r1.kc) (.slice r1.so r1.S.length r1.sc)) := by
      have hp := J8.out.1
      have h9 := hp.hb9
      have hg := hp.hgx
      have hw := hp.hw6
      exact ⟨hO19.grown I18.out.1 (fun k hk => by have := (J10.out.2.1 k hk).1; omega), I18.out.2.1.apart hO19 (fun hk => by have := (J10.out.2.1 _ hk).1; omega), I18.out.2.2.1.apart hO19 (fun k hk hk' => by have h1 := (hp.p0 k hk).2; have h2 := (J10.out.2.1 k hk').1; omega), I18.out.2.2.2.1.apart hO19 (fun hk => by have := (J10.out.2.1 _ hk).1; omega), hA19, I18.out.2.2.2.2.2.apart hO19 (fun hk => by have := (J10.out.2.1 _ hk).2; omega)⟩
    clear I18 hA19 hO19 d0 d1 d2 HMK
    obtain ⟨d0, d1, d2⟩ := I19.out.2.2.2.2.2.cells
    go_wp2_with fail
    refine (HHD.out _ I19.out.2.2.2.2.1).mono ?_
    rintro e w20 ⟨rfl, hG20⟩
    have I20 : Hid (w.grownBy w20 none ∧ Bl w20 w.heap.size 50 b (.slice ko an kc) (.slice so bn sc) ∧ SvAt w20 r0 ∧ Bl w20 b6 28 r0.b (.slice r0.ko r0.K.length r0.kc) (.slice r0.so r0.S.length r0.sc)) := ⟨grownBy_trans I19.out.1 hG20, I19.out.2.1.grown0 hG20, I19.out.2.2.1.grown0 hG20, I19.out.2.2.2.1.grown0 hG20⟩
    clear I19 hG20 d0 d1 d2 HHD
    obtain ⟨a7, m7, b7⟩ := I20.out.2.1.cells
    go_wp2_with fail
    refine (HT.out _ I20.out.1).mono ?_
    rintro e w21 ⟨y, rfl, hty, hAy, hFy, hBy, hG21⟩
    have I21 : Hid (w.grownBy w21 none ∧ SvAt w21 r0 ∧ Bl w21 b6 28 r0.b (.slice r0.ko r0.K.length r0.kc) (.slice r0.so r0.S.length r0.sc) ∧ SvFull w21 y ∧ y.tell = T ∧ SvFit y) := ⟨grownBy_trans I20.out.1 hG21, I20.out.2.2.1.grown0 hG21, I20.out.2.2.2.grown0 hG21, hAy, hty, hFy⟩
    clear I20 hty hAy hFy hBy hG21 a7 m7 b7
    go_wp2_with fail
    refine (HB.out _ I21.out.1).mono ?_
    rintro e w22 ⟨rfl, hO22, hG22⟩
    have I22 : Hid (w.grownBy w22 none ∧ SvAt w22 r0 ∧ Bl w22 b6 28 r0.b (.slice r0.ko r0.K.length r0.kc) (.slice r0.so r0.S.length r0.sc) ∧ SvFull w22 y ∧ y.tell = T ∧ SvFit y ∧ Own w22 5 w21.heap.size zs) := ⟨grownBy_trans I21.out.1 hG22, I21.out.2.1.grown0 hG22, I21.out.2.2.1.grown0 hG22, I21.out.2.2.2.1.grown0 hG22, I21.out.2.2.2.2.1, I21.out.2.2.2.2.2, hO22⟩
    clear I21 hO22 hG22
    go_wp2_with fail
    refine (HI.out y _ _ I22.out.1 I22.out.2.2.2.1 I22.out.2.2.2.2.1 I22.out.2.2.2.2.2.1 I22.out.2.2.2.2.2.2).mono ?_
    rintro e w23 ⟨r2, rfl, htr2, hAr2, hBr2, hG23⟩
    have GC := World.grownBy_alloc w23 (.cells #[.int .i64 r2.b, .slice r2.ko r2.K.length r2.kc, .slice r2.so r2.S.length r2.sc] 28) none
    have I23 : Hid (w.grownBy (w23.alloc (.cells #[.int .i64 r2.b, .slice r2.ko r2.K.length r2.kc, .slice r2.so r2.S.length r2.sc] 28)) none ∧ SvAt (w23.alloc (.cells #[.int .i64 r2.b, .slice r2.ko r2.K.length r2.kc, .slice r2.so r2.S.length r2.sc] 28)) r0 ∧ Bl (w23.alloc (.cells #[.int .i64 r2.b, .slice r2.ko r2.K.length r2.kc, .slice r2.so r2.S.length r2.sc] 28)) b6 28 r0.b (.slice r0.ko r0.K.length r0.kc) (.slice r0.so r0.S.length r0.sc) ∧ SvAt (w23.alloc (.cells #[.int .i64 r2.b, .slice r2.ko r2.K.length r2.kc, .slice r2.so r2.S.length r2.sc] 28)) r2 ∧ Bl (w23.alloc (.cells #[.int .i64 r2.b, .slice r2.ko r2.K.length r2.kc, .slice r2.so r2.S.length r2.sc] 28)) w23.heap.size 28 r2.b (.slice r2.ko r2.K.length r2.kc) (.slice r2.so r2.S.length r2.sc) ∧ r2.tell = T') := ⟨grownBy_trans (grownBy_trans I22.out.1 hG23) GC, (I22.out.2.1.grown0 hG23).grown0 GC, (I22.out.2.2.1.grown0 hG23).grown0 GC, hAr2.grown0 GC, heap_alloc_new w23 _, htr2⟩
    clear I22 htr2 hAr2 hBr2 hG23 GC
    go_upto_region 31 with fail
    generalize w23.alloc (.cells #[.int .i64 r2.b, .slice r2.ko r2.K.length r2.kc, .slice r2.so r2.S.length r2.sc] 28) = WC at *
    generalize w23.heap.size = bc at *
    obtain ⟨d0, d1, d2⟩ := I23.out.2.2.2.2.1.cells
    obtain ⟨c60, c61, c62⟩ := I23.out.2.2.1.cells
    go_wp2_with fail
    refine (HEQ.out r2 r0 _ I23.out.2.2.2.1 I23.out.2.1 I23.out.2.2.2.2.2 J8.out.2.1).mono ?_
    rintro e w24 ⟨rfl, hG24⟩
    have R : Hid (w.grownBy w24 none) := grownBy_trans I23.out.1 hG24
    clear I23 hG24 d0 d1 d2 c60 c61 c62
    go_wp2
    go_ret
    exact ⟨rfl, R.out⟩
  · go_wp2
    go_ret
    exact ⟨rfl, B1.out.2⟩
end Go.Proofs.YtdajcpcajdhplaaDoor.fnExactApply

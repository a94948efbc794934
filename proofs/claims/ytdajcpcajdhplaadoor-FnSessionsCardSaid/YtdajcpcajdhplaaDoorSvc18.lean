/-
  FnExactApplyWalk, ErrsLaid, FnExactApplyLaw, ErrsWorld
-/
import Derived.Test.YtdajcpcajdhplaaDoorSvc17
import Derived.Test.YtdajcpcajdhplaaDoorSvc4
import Derived.Deep.RegionHeld3
import Derived.Test.YtdajcpcajdhplaaDoorSvc10
import Derived.Test.YtdajcpcajdhplaaDoorRows
import Derived.Stop.LaidErr
import Derived.LaidHandle
import Derived.LaidLaws
import Derived.ChangeMaps5
import Derived.Lib.SmallJoins
import Derived.ProofKit
/-
  FnExactApply: the law's walk.
-/
namespace Go.Proofs.YtdajcpcajdhplaaDoor.fnExactApply
open Go.RowKit

theorem mkS {p : Prop} (h : p) : Hid p := h
/-- three cells lie in block k -/
def Bl (w : World) (k : Nat) (t : TypeId) (b : Int) (u v : Value) : Prop := w.heap[k]? = some (.cells #[.int .i64 b, u, v] t (0, 0))
theorem Bl.cells {w : World} {k : Nat} {t : TypeId} {b : Int} {u v : Value} (h : Bl w k t b u v) : w.cell? ⟨k, 0, none⟩ = some (.int .i64 b) ∧ w.cell? ⟨k, 1, none⟩ = some u ∧ w.cell? ⟨k, 2, none⟩ = some v := by
  unfold Bl at h
  simp [World.cell?, h]
theorem Bl.lt {w : World} {k : Nat} {t : TypeId} {b : Int} {u v : Value} (h : Bl w k t b u v) : k < w.heap.size := (Array.getElem?_eq_some_iff.1 h).1
theorem Bl.apart {w w' : World} {T : Nat → Prop} {k : Nat} {t : TypeId} {b : Int} {u v : Value} (h : Bl w k t b u v) (hb : Only T w w') (hd : ¬ T k) : Bl w' k t b u v := (hb.block k h.lt hd).trans h
theorem Bl.grown {w w' : World} {row : Option Nat} {k : Nat} {t : TypeId} {b : Int} {u v : Value} (h : Bl w k t b u v) (hg : w.grownBy w' row) (hd : some k ≠ row) : Bl w' k t b u v := (hg.block k h.lt hd).trans h
theorem Bl.grown0 {w w' : World} {k : Nat} {t : TypeId} {b : Int} {u v : Value} (h : Bl w k t b u v) (hg : w.grownBy w' none) : Bl w' k t b u v := h.grown hg (by simp)

/-- before the program's answer: the argument's box, the model's answer, the program's argument -/
structure S1 (w W : World) (an bn kc sc : Nat) (b : Int) (ko so : Option Addr) (r0 x : Sv) (b6 b9 gx : Nat) (zs : List Nat) : Prop where
  g : w.grownBy W none
  box : Bl W w.heap.size 50 b (.slice ko an kc) (.slice so bn sc)
  a0 : SvAt W r0
  l0 : Bl W b6 28 r0.b (.slice r0.ko r0.K.length r0.kc) (.slice r0.so r0.S.length r0.sc)
  ax : SvFull W x
  lx : Bl W b9 28 x.b (.slice x.ko x.K.length x.kc) (.slice x.so x.S.length x.sc)
  ox : Own W 5 gx zs
theorem S1.more {w W W' : World} {an bn kc sc : Nat} {b : Int} {ko so : Option Addr} {r0 x : Sv} {b6 b9 gx : Nat} {zs : List Nat} (h : S1 w W an bn kc sc b ko so r0 x b6 b9 gx zs) (hg : W.grownBy W' none) : S1 w W' an bn kc sc b ko so r0 x b6 b9 gx zs :=
  ⟨grownBy_trans h.g hg, h.box.grown0 hg, h.a0.grown0 hg, h.l0.grown0 hg, h.ax.grown0 hg, h.lx.grown0 hg, h.ox.grown hg (by simp)⟩
/-- where they lie -/
structure P1 (w : World) (r0 x : Sv) (b6 b9 gx : Nat) : Prop where
  p0 : ∀ k, SvB r0 k → w.heap.size < k ∧ k < b6
  px : ∀ k, SvB x k → b6 < k ∧ k < b9
  hw6 : w.heap.size < b6
  hb9 : b6 < b9
  hgx : b9 < gx

set_option maxRecDepth 100000 in
set_option maxHeartbeats 8000000 in
theorem walk (b : Int) (ko : Option Addr) (kc : Nat) (A : List Ar) (so : Option Addr) (sc : Nat) (B : List Ar) (oa : Option Addr) (len cap : Nat) (zs : List Nat) (ad : Nat → Addr) (w : World) (hE : ErrsAt w ad) (hA : ArSl w 2 ko A) (hB : ArSl w 3 so B) (hnA : A.length ≤ maxLen) (hnB : B.length ≤ maxLen) (hsl : SlB w oa len zs) (hmx : len ≤ maxLen) :
    Calls Tryd.prog 4 #[.agg #[.int .i64 b, .slice ko A.length kc, .slice so B.length sc], .slice oa len cap] w fun e w' => e = .returned (.bool true) ∧ w.grownBy w' none := by
  have HZ : Hid (∀ X : World, w.grownBy X none → Calls Tryd.prog 17 #[.agg #[.int .i64 b, .slice ko A.length kc, .slice so B.length sc], .int .i64 1048576] X fun e w' => ∃ v : Int, e = .returned (.int .i64 v) ∧ ((tot A + tot B ≤ 1048576 ∧ 0 ≤ v ∧ v ≤ 1048576) ∨ (1048576 < tot A + tot B ∧ v = -1)) ∧ X.grownBy w' none) := fun X hX =>
    szService_any b ko kc A so sc B X (hA.grown hX) (hB.grown hX) hnA hnB
  obtain ⟨T, hTe⟩ : ∃ T : Told, T = (b, A.map Ar.tell, B.map Ar.tell) := ⟨_, rfl⟩
  have HT : Hid (tot A + tot B ≤ 1048576 → ∀ X : World, w.grownBy X none → Calls Tryd.prog 19 #[.agg #[.int .i64 b, .slice ko A.length kc, .slice so B.length sc]] X fun e w' => ∃ s : Sv, e = .returned (.agg #[.int .i64 s.b, .slice s.ko s.K.length s.kc, .slice s.so s.S.length s.sc]) ∧ s.tell = T ∧ SvFull w' s ∧ SvFit s ∧ (∀ k, SvB s k → X.heap.size ≤ k) ∧ X.grownBy w' none) := fun ht X hX => by
    rw [hTe]; exact toService_full b ko kc A so sc B X (hA.grown hX) (hB.grown hX) ht
  unfold maxLen at hmx
  by_cases hbig : 1048576 < len
  · clear hsl HZ HT hA hB hnA hnB hTe; generalize A.length = an at *; generalize B.length = bn at *
    go_enter Tryd.func4, Tryd.ntmps4
    go_wp2; go_ret; exact ⟨rfl, World.grownBy_alloc _ _ _⟩
  have hl : zs.length = len := hsl.1; obtain ⟨T', pl, c, hT'⟩ := apTold_ex T zs
  have HB : Hid (∀ X : World, w.grownBy X none → Calls Tryd.prog 20 #[.slice oa len cap] X fun e w' => e = .returned (.slice (some ⟨X.heap.size, 0, none⟩) len len) ∧ Own w' 5 X.heap.size zs ∧ X.grownBy w' none) := fun X hX => toByteS_any oa len cap zs X (hsl.grown0 hX) (by omega)
  have HP : Hid (∀ (s : Sv) (g : Nat) (X : World), SvFull X s → s.tell = T → SvFit s → Own X 5 g zs → Calls Tryd.prog 18 #[.agg #[.int .i64 s.b, .slice s.ko s.K.length s.kc, .slice s.so s.S.length s.sc], .slice (some ⟨g, 0, none⟩) len len] X (ApAns X T' pl c)) := fun s g X h1 h2 h3 h4 => specApply_ans s _ len zs X T T' pl c (h4.sl len hl) (by omega) h1.at_ h3.small h2 hT'
  have HI : Hid (∀ (s : Sv) (g : Nat) (X : World), w.grownBy X none → SvFull X s → s.tell = T → SvFit s → Own X 5 g zs → Calls Tryd.prog 13 #[.agg #[.int .i64 s.b, .slice s.ko s.K.length s.kc, .slice s.so s.S.length s.sc], .slice (some ⟨g, 0, none⟩) len len] X (ApAns X T' pl c)) := fun s g X hX h1 h2 h3 h4 => implApply_ans s _ len zs ad X T T' pl c (hE.grown hX) (h4.sl len hl) (by omega) h1 h3.small h2 hT'
  have HEQ : Hid (∀ (s r : Sv) (X : World), SvAt X s → SvAt X r → s.tell = T' → r.tell = T' → Calls Tryd.prog 21 #[.agg #[.int .i64 s.b, .slice s.ko s.K.length s.kc, .slice s.so s.S.length s.sc], .agg #[.int .i64 r.b, .slice r.ko r.K.length r.kc, .slice r.so r.S.length r.sc]] X fun e w' => e = .returned (.bool true) ∧ X.grownBy w' none) :=
    fun s r X h1 h2 h3 h4 => eqService_same s r X h1 h2 (h3.trans h4.symm) (apFit h3 hT'.fit).small
  have HEX : Hid (∀ (s r : Sv) (X : World), SvAt X s → SvAt X r → s.tell = T → r.tell = T → SvFit s → Calls Tryd.prog 21 #[.agg #[.int .i64 s.b, .slice s.ko s.K.length s.kc, .slice s.so s.S.length s.sc], .agg #[.int .i64 r.b, .slice r.ko r.K.length r.kc, .slice r.so r.S.length r.sc]] X fun e w' => e = .returned (.bool true) ∧ X.grownBy w' none) :=
    fun s r X h1 h2 h3 h4 h5 => eqService_same s r X h1 h2 (h3.trans h4.symm) h5.small
  have HFT : Hid (fitT T') := hT'.fit
  have e1 : (pl != pl) = false := by simp
  have e2 : (c != c) = false := by simp
  have hlen : len ≤ 1048576 := by omega
  clear hA hB hnA hnB hTe hE hsl hT'; generalize A.length = an at *; generalize B.length = bn at *
  go_enter Tryd.func4, Tryd.ntmps4
  go_wp2_with fail; refine (HZ.out _ (World.grownBy_alloc _ _ _)).mono ?_; rintro e w1 ⟨v, rfl, hv, hG1⟩; have B1 : Hid (Bl w1 w.heap.size 50 b (.slice ko an kc) (.slice so bn sc) ∧ w.grownBy w1 none) := ⟨(hG1.block _ (by simp) (by simp)).trans (heap_alloc_new w _), grownBy_trans (World.grownBy_alloc _ _ _) hG1⟩; clear hG1 HZ
  rcases hv with ⟨hfit, hv0, hv1⟩ | ⟨hbig, rfl⟩
  · have HT : Hid (∀ X : World, w.grownBy X none → Calls Tryd.prog 19 #[.agg #[.int .i64 b, .slice ko an kc, .slice so bn sc]] X fun e w' => ∃ s : Sv, e = .returned (.agg #[.int .i64 s.b, .slice s.ko s.K.length s.kc, .slice s.so s.S.length s.sc]) ∧ s.tell = T ∧ SvFull w' s ∧ SvFit s ∧ (∀ k, SvB s k → X.heap.size ≤ k) ∧ X.grownBy w' none) := HT.out hfit; clear hfit; obtain ⟨a1, m1, b1⟩ := B1.out.1.cells; go_wp2_with fail; refine (HT.out _ B1.out.2).mono ?_; rintro e w2 ⟨s, rfl, hts, hAs, hFs, hBs, hG2⟩; have I2 : Hid (Bl w2 w.heap.size 50 b (.slice ko an kc) (.slice so bn sc) ∧ w.grownBy w2 none ∧ SvFull w2 s ∧ s.tell = T ∧ SvFit s) := ⟨B1.out.1.grown0 hG2, grownBy_trans B1.out.2 hG2, hAs, hts, hFs⟩; clear a1 m1 b1 B1 hts hAs hFs hBs hG2; go_wp2_with fail; refine (HB.out _ I2.out.2.1).mono ?_; rintro e w3 ⟨rfl, hO3, hG3⟩; have I3 : Hid (Bl w3 w.heap.size 50 b (.slice ko an kc) (.slice so bn sc) ∧ w.grownBy w3 none ∧ SvFull w3 s ∧ s.tell = T ∧ SvFit s ∧ Own w3 5 w2.heap.size zs) := ⟨I2.out.1.grown0 hG3, grownBy_trans I2.out.2.1 hG3, I2.out.2.2.1.grown0 hG3, I2.out.2.2.2.1, I2.out.2.2.2.2, hO3⟩; clear I2 hO3 hG3; go_wp2_with fail; refine (HP.out s _ _ I3.out.2.2.1 I3.out.2.2.2.1 I3.out.2.2.2.2.1 I3.out.2.2.2.2.2).mono ?_; rintro e w4 ⟨r0, rfl, htr0, hAr0, hBr0, hG4⟩; have G5 := World.grownBy_alloc w4 (.cells #[.int .i64 r0.b, .slice r0.ko r0.K.length r0.kc, .slice r0.so r0.S.length r0.sc] 28) none; have I5 : Hid (Bl (w4.alloc (.cells #[.int .i64 r0.b, .slice r0.ko r0.K.length r0.kc, .slice r0.so r0.S.length r0.sc] 28)) w.heap.size 50 b (.slice ko an kc) (.slice so bn sc) ∧ w.grownBy (w4.alloc (.cells #[.int .i64 r0.b, .slice r0.ko r0.K.length r0.kc, .slice r0.so r0.S.length r0.sc] 28)) none ∧ SvAt (w4.alloc (.cells #[.int .i64 r0.b, .slice r0.ko r0.K.length r0.kc, .slice r0.so r0.S.length r0.sc] 28)) r0 ∧ Bl (w4.alloc (.cells #[.int .i64 r0.b, .slice r0.ko r0.K.length r0.kc, .slice r0.so r0.S.length r0.sc] 28)) w4.heap.size 28 r0.b (.slice r0.ko r0.K.length r0.kc) (.slice r0.so r0.S.length r0.sc)) := ⟨(I3.out.1.grown0 hG4).grown0 G5, grownBy_trans (grownBy_trans I3.out.2.1 hG4) G5, hAr0.grown0 G5, heap_alloc_new w4 _⟩
    have J5 : Hid (r0.tell = T' ∧ (∀ k, SvB r0 k → w.heap.size < k ∧ k < w4.heap.size) ∧ w.heap.size < w4.heap.size ∧ (w4.alloc (.cells #[.int .i64 r0.b, .slice r0.ko r0.K.length r0.kc, .slice r0.so r0.S.length r0.sc] 28)).heap.size = w4.heap.size + 1) := by
      have h1 := I3.out.1.lt; have h2 := hG4.size; exact ⟨htr0, fun k hk => ⟨by have := hBr0 k hk; omega, hAr0.lt k hk⟩, by omega, by simp⟩
    clear I3 htr0 hAr0 hBr0 hG4 G5 HP
    go_upto_region 8 with fail
    generalize w4.alloc (.cells #[.int .i64 r0.b, .slice r0.ko r0.K.length r0.kc, .slice r0.so r0.S.length r0.sc] 28) = W5 at *; generalize w4.heap.size = b6 at *; obtain ⟨a5, m5, b5⟩ := I5.out.1.cells; go_wp2_with fail; refine (HT.out _ I5.out.2.1).mono ?_; rintro e w6 ⟨x, rfl, htx, hAx, hFx, hBx, hG6⟩; have G7 := World.grownBy_alloc w6 (.cells #[.int .i64 x.b, .slice x.ko x.K.length x.kc, .slice x.so x.S.length x.sc] 28) none
    have I7 : Hid (Bl (w6.alloc (.cells #[.int .i64 x.b, .slice x.ko x.K.length x.kc, .slice x.so x.S.length x.sc] 28)) w.heap.size 50 b (.slice ko an kc) (.slice so bn sc) ∧ w.grownBy (w6.alloc (.cells #[.int .i64 x.b, .slice x.ko x.K.length x.kc, .slice x.so x.S.length x.sc] 28)) none ∧ SvAt (w6.alloc (.cells #[.int .i64 x.b, .slice x.ko x.K.length x.kc, .slice x.so x.S.length x.sc] 28)) r0 ∧ Bl (w6.alloc (.cells #[.int .i64 x.b, .slice x.ko x.K.length x.kc, .slice x.so x.S.length x.sc] 28)) b6 28 r0.b (.slice r0.ko r0.K.length r0.kc) (.slice r0.so r0.S.length r0.sc) ∧ SvFull (w6.alloc (.cells #[.int .i64 x.b, .slice x.ko x.K.length x.kc, .slice x.so x.S.length x.sc] 28)) x ∧ Bl (w6.alloc (.cells #[.int .i64 x.b, .slice x.ko x.K.length x.kc, .slice x.so x.S.length x.sc] 28)) w6.heap.size 28 x.b (.slice x.ko x.K.length x.kc) (.slice x.so x.S.length x.sc)) :=
      ⟨(I5.out.1.grown0 hG6).grown0 G7, grownBy_trans (grownBy_trans I5.out.2.1 hG6) G7, (I5.out.2.2.1.grown0 hG6).grown0 G7, (I5.out.2.2.2.grown0 hG6).grown0 G7, hAx.grown0 G7, heap_alloc_new w6 _⟩
    have J7 : Hid (r0.tell = T' ∧ x.tell = T ∧ SvFit x ∧ (∀ k, SvB r0 k → w.heap.size < k ∧ k < b6) ∧ (∀ k, SvB x k → b6 < k ∧ k < w6.heap.size) ∧ w.heap.size < b6 ∧ b6 < w6.heap.size ∧ (w6.alloc (.cells #[.int .i64 x.b, .slice x.ko x.K.length x.kc, .slice x.so x.S.length x.sc] 28)).heap.size = w6.heap.size + 1) := by
      have h2 := hG6.size; have h3 := J5.out.2.2.2; exact ⟨J5.out.1, htx, hFx, J5.out.2.1, fun k hk => ⟨by have := hBx k hk; omega, hAx.at_.lt k hk⟩, J5.out.2.2.1, by omega, by simp⟩
    clear I5 J5 htx hAx hFx hBx hG6 G7 a5 m5 b5
    go_upto_region 9 with fail
    generalize w6.alloc (.cells #[.int .i64 x.b, .slice x.ko x.K.length x.kc, .slice x.so x.S.length x.sc] 28) = W7 at *; generalize w6.heap.size = b9 at *; go_wp2_with fail; refine (HB.out _ I7.out.2.1).mono ?_; rintro e w8 ⟨rfl, hO8, hG8⟩; obtain ⟨gx, hgx⟩ : ∃ gx, W7.heap.size = gx := ⟨_, rfl⟩; rw [hgx] at hO8 ⊢; have I8 : Hid (S1 w w8 an bn kc sc b ko so r0 x b6 b9 gx zs) := ⟨grownBy_trans I7.out.2.1 hG8, I7.out.1.grown0 hG8, I7.out.2.2.1.grown0 hG8, I7.out.2.2.2.1.grown0 hG8, I7.out.2.2.2.2.1.grown0 hG8, I7.out.2.2.2.2.2.grown0 hG8, hO8⟩; have J8 : Hid (P1 w r0 x b6 b9 gx ∧ r0.tell = T' ∧ x.tell = T ∧ SvFit x) := ⟨⟨J7.out.2.2.2.1, J7.out.2.2.2.2.1, J7.out.2.2.2.2.2.1, J7.out.2.2.2.2.2.2.1, by have := J7.out.2.2.2.2.2.2.2; omega⟩, J7.out.1, J7.out.2.1, J7.out.2.2.1⟩; clear I7 J7 hO8 hG8 hgx; obtain ⟨c90, c91, c92⟩ := I8.out.lx.cells; go_wp2_with fail; refine (HI.out x gx _ I8.out.g I8.out.ax J8.out.2.2.1 J8.out.2.2.2 I8.out.ox).mono ?_; rintro e w9 ⟨r1, rfl, htr1, hAr1, hBr1, hG9⟩; have GA := World.grownBy_alloc w9 (.cells #[.int .i64 r1.b, .slice r1.ko r1.K.length r1.kc, .slice r1.so r1.S.length r1.sc] 28) none; have I10 : Hid (S1 w (w9.alloc (.cells #[.int .i64 r1.b, .slice r1.ko r1.K.length r1.kc, .slice r1.so r1.S.length r1.sc] 28)) an bn kc sc b ko so r0 x b6 b9 gx zs ∧ SvAt (w9.alloc (.cells #[.int .i64 r1.b, .slice r1.ko r1.K.length r1.kc, .slice r1.so r1.S.length r1.sc] 28)) r1 ∧ Bl (w9.alloc (.cells #[.int .i64 r1.b, .slice r1.ko r1.K.length r1.kc, .slice r1.so r1.S.length r1.sc] 28)) w9.heap.size 28 r1.b (.slice r1.ko r1.K.length r1.kc) (.slice r1.so r1.S.length r1.sc)) := ⟨(I8.out.more hG9).more GA, hAr1.grown0 GA, heap_alloc_new w9 _⟩
    have J10 : Hid (r1.tell = T' ∧ (∀ k, SvB r1 k → gx < k ∧ k < w9.heap.size) ∧ gx < w9.heap.size) := by
      have h1 := I8.out.ox.lt; have h2 := hG9.size; exact ⟨htr1, fun k hk => ⟨by have := hBr1 k hk; omega, hAr1.lt k hk⟩, by omega⟩
    clear I8 c90 c91 c92 htr1 hAr1 hBr1 hG9 GA
    go_upto_region 11 with fail
    generalize w9.alloc (.cells #[.int .i64 r1.b, .slice r1.ko r1.K.length r1.kc, .slice r1.so r1.S.length r1.sc] 28) = WA at *; generalize w9.heap.size = bb at *; obtain ⟨d0, d1, d2⟩ := I10.out.2.2.cells; obtain ⟨c60, c61, c62⟩ := I10.out.1.l0.cells; go_wp2_with fail; refine (HEQ.out r1 r0 _ I10.out.2.1 I10.out.1.a0 J10.out.1 J8.out.2.1).mono ?_; rintro e w11 ⟨rfl, hG11⟩; have I11 : Hid (S1 w w11 an bn kc sc b ko so r0 x b6 b9 gx zs ∧ SvAt w11 r1 ∧ Bl w11 bb 28 r1.b (.slice r1.ko r1.K.length r1.kc) (.slice r1.so r1.S.length r1.sc)) := ⟨I10.out.1.more hG11, I10.out.2.1.grown0 hG11, I10.out.2.2.grown0 hG11⟩; clear I10 hG11 d0 d1 d2 c60 c61 c62; obtain ⟨c90, c91, c92⟩ := I11.out.1.lx.cells; obtain ⟨a7, m7, b7⟩ := I11.out.1.box.cells
    have HT7 : Hid (∀ X : World, Same w11 X → Calls Tryd.prog 19 #[.agg #[.int .i64 b, .slice ko an kc, .slice so bn sc]] X fun e w' => ∃ s : Sv, e = .returned (.agg #[.int .i64 s.b, .slice s.ko s.K.length s.kc, .slice s.so s.S.length s.sc]) ∧ Hid (s.tell = T ∧ SvAt w' s ∧ w11.grownBy w' none) ∧ (w'.cell? ⟨w.heap.size, 0, none⟩ = some (.int .i64 b) ∧ w'.cell? ⟨w.heap.size, 1, none⟩ = some (.slice ko an kc) ∧ w'.cell? ⟨w.heap.size, 2, none⟩ = some (.slice so bn sc) ∧ w'.cell? ⟨b9, 0, none⟩ = some (.int .i64 x.b) ∧ w'.cell? ⟨b9, 1, none⟩ = some (.slice x.ko x.K.length x.kc) ∧ w'.cell? ⟨b9, 2, none⟩ = some (.slice x.so x.S.length x.sc))) := by
      intro X hX; refine (HT.out X (grownBy_same I11.out.1.g hX)).mono ?_; rintro e w' ⟨s', rfl, h1, h2, h3, h4, hG⟩; have hGG : w11.grownBy w' none := grownBy_trans (grownBy_same (grownBy_refl w11 none) hX) hG; obtain ⟨k1, k2, k3⟩ := (I11.out.1.box.grown0 hGG).cells; obtain ⟨k4, k5, k6⟩ := (I11.out.1.lx.grown0 hGG).cells; exact ⟨s', rfl, ⟨h1, h2.at_, hGG⟩, k1, k2, k3, k4, k5, k6⟩
    go_wp2_with fail
    go_region_held3 (fun w' => w'.cell? ⟨w.heap.size, 0, none⟩ = some (.int .i64 b) ∧ w'.cell? ⟨w.heap.size, 1, none⟩ = some (.slice ko an kc) ∧ w'.cell? ⟨w.heap.size, 2, none⟩ = some (.slice so bn sc) ∧ w'.cell? ⟨b9, 0, none⟩ = some (.int .i64 x.b) ∧ w'.cell? ⟨b9, 1, none⟩ = some (.slice x.ko x.K.length x.kc) ∧ w'.cell? ⟨b9, 2, none⟩ = some (.slice x.so x.S.length x.sc)) (first | go_keep | (exact hC9) | fail)
      (first
        | (go_at_call 19; refine (HT7.out _ (by exact ⟨rfl, rfl, rfl, rfl⟩)).mono ?_; rintro e w12 ⟨s8, rfl, hOG8, a8, m8, b8, p8, r8, q8⟩)
        | (go_at_call 21; refine (HEX.out x s8 _ (by exact (I11.out.1.ax.at_.grown0 hOG8.out.2.2).grown0 (grownBy_same (grownBy_refl _ _) ⟨rfl, rfl, rfl, rfl⟩)) (by exact hOG8.out.2.1.grown0 (grownBy_same (grownBy_refl _ _) ⟨rfl, rfl, rfl, rfl⟩)) J8.out.2.2.1 hOG8.out.1 J8.out.2.2.2).mono ?_; rintro e w13 ⟨rfl, hG13⟩; have hGG9 := mkS (grownBy_trans hOG8.out.2.2 hG13); have hC9 := And.intro ((I11.out.1.box.grown0 hGG9.out).cells.1) (And.intro ((I11.out.1.box.grown0 hGG9.out).cells.2.1) (And.intro ((I11.out.1.box.grown0 hGG9.out).cells.2.2) ((I11.out.1.lx.grown0 hGG9.out).cells))))
        | fail)
    have I13 : Hid (S1 w w13 an bn kc sc b ko so r0 x b6 b9 gx zs ∧ SvAt w13 r1 ∧ Bl w13 bb 28 r1.b (.slice r1.ko r1.K.length r1.kc) (.slice r1.so r1.S.length r1.sc)) := ⟨I11.out.1.more hGG9.out, I11.out.2.1.grown0 hGG9.out, I11.out.2.2.grown0 hGG9.out⟩; clear c90 c91 c92 a7 m7 b7 a8 m8 b8 p8 r8 q8 hOG8 hG13 hGG9 hC9 HT7 I11 HEX
    try clear hHeld
    go_wp2_with fail; refine (HB.out _ I13.out.1.g).mono ?_; rintro e w14 ⟨rfl, hO14, hG14⟩; have I14 : Hid (S1 w w14 an bn kc sc b ko so r0 x b6 b9 gx zs ∧ SvAt w14 r1 ∧ Bl w14 bb 28 r1.b (.slice r1.ko r1.K.length r1.kc) (.slice r1.so r1.S.length r1.sc) ∧ Own w14 5 w13.heap.size zs) := ⟨I13.out.1.more hG14, I13.out.2.1.grown0 hG14, I13.out.2.2.grown0 hG14, hO14⟩; clear I13 hO14 hG14; go_wp2_with fail; refine (eqByteS_same _ _ len len len zs _ (I14.out.1.ox.sl len hl) (I14.out.2.2.2.sl len hl) (by omega)).mono ?_; rintro e w15 ⟨rfl, hG15⟩; have I15 : Hid (S1 w w15 an bn kc sc b ko so r0 x b6 b9 gx zs ∧ SvAt w15 r1 ∧ Bl w15 bb 28 r1.b (.slice r1.ko r1.K.length r1.kc) (.slice r1.so r1.S.length r1.sc)) := ⟨I14.out.1.more hG15, I14.out.2.1.grown0 hG15, I14.out.2.2.1.grown0 hG15⟩; clear I14 hG15; obtain ⟨c90, c91, c92⟩ := I15.out.1.lx.cells
    have HMX : Hid (∀ X : World, SvAt X x → Calls Tryd.prog 23 #[.agg #[.int .i64 x.b, .slice x.ko x.K.length x.kc, .slice x.so x.S.length x.sc], .int .i64 1] X fun e w' => e = .returned (.int .i64 ((x.fin 1 : Nat) : Int)) ∧ SvAt w' (x.mkd 1) ∧ Only (SvB x) X w') := fun X hX => markService_any x 1 X hX J8.out.2.2.2.small J8.out.2.2.2.bound
    have hfx : x.fin 1 ≤ 1073741000 := J8.out.2.2.2.bound.2 _ (Nat.le_refl _); generalize x.fin 1 = F at *; go_wp2_with fail; refine (HMX.out _ I15.out.1.ax.at_).mono ?_; rintro e w16 ⟨rfl, -, hO16⟩
    have I16 : Hid (w.grownBy w16 none ∧ Bl w16 w.heap.size 50 b (.slice ko an kc) (.slice so bn sc) ∧ SvAt w16 r0 ∧ Bl w16 b6 28 r0.b (.slice r0.ko r0.K.length r0.kc) (.slice r0.so r0.S.length r0.sc) ∧ Own w16 5 gx zs ∧ SvAt w16 r1 ∧ Bl w16 bb 28 r1.b (.slice r1.ko r1.K.length r1.kc) (.slice r1.so r1.S.length r1.sc)) := by
      have hp := J8.out.1; have h9 := hp.hb9; have hg := hp.hgx; have hw := hp.hw6; exact ⟨hO16.grown I15.out.1.g (fun k hk => by have := (hp.px k hk).1; omega), I15.out.1.box.apart hO16 (fun hk => by have := (hp.px _ hk).1; omega), I15.out.1.a0.apart hO16 (fun k hk hk' => by have h1 := (hp.p0 k hk).2; have h2 := (hp.px k hk').1; omega), I15.out.1.l0.apart hO16 (fun hk => by have := (hp.px _ hk).1; omega), I15.out.1.ox.of_block (hO16.block gx I15.out.1.ox.lt (fun hk => by have := (hp.px _ hk).2; omega)), I15.out.2.1.apart hO16 (fun k hk hk' => by have h1 := (J10.out.2.1 k hk).1; have h2 := (hp.px k hk').2; omega), I15.out.2.2.apart hO16 (fun hk => by have := (hp.px _ hk).2; have := J10.out.2.2; omega)⟩
    clear I15 hO16 c90 c91 c92 HMX; go_wp2_with fail; refine (markByteS_own gx len len F zs _ I16.out.2.2.2.2.1 hl (by omega) (by omega)).mono ?_; rintro e w17 ⟨rfl, -, hG17⟩
    have I17 : Hid (w.grownBy w17 none ∧ Bl w17 w.heap.size 50 b (.slice ko an kc) (.slice so bn sc) ∧ SvAt w17 r0 ∧ Bl w17 b6 28 r0.b (.slice r0.ko r0.K.length r0.kc) (.slice r0.so r0.S.length r0.sc) ∧ SvAt w17 r1 ∧ Bl w17 bb 28 r1.b (.slice r1.ko r1.K.length r1.kc) (.slice r1.so r1.S.length r1.sc)) := by
      have hp := J8.out.1; have h9 := hp.hb9; have hg := hp.hgx; have hw := hp.hw6; have O := Only.of (S := fun k => k = gx) hG17 (fun k e => by simpa using e.symm); exact ⟨grownBy_new I16.out.1 hG17 (by omega), I16.out.2.1.apart O (by omega), I16.out.2.2.1.apart O (fun k hk e => by have h1 := (hp.p0 k hk).2; omega), I16.out.2.2.2.1.apart O (by omega), I16.out.2.2.2.2.2.1.apart O (fun k hk e => by have h1 := (J10.out.2.1 k hk).1; omega), I16.out.2.2.2.2.2.2.apart O (by have := J10.out.2.2; omega)⟩
    clear I16 hG17; obtain ⟨d0, d1, d2⟩ := I17.out.2.2.2.2.2.cells; obtain ⟨c60, c61, c62⟩ := I17.out.2.2.2.1.cells; go_wp2_with fail; refine (HEQ.out r1 r0 _ I17.out.2.2.2.2.1 I17.out.2.2.1 J10.out.1 J8.out.2.1).mono ?_; rintro e w18 ⟨rfl, hG18⟩; have I18 : Hid (w.grownBy w18 none ∧ Bl w18 w.heap.size 50 b (.slice ko an kc) (.slice so bn sc) ∧ SvAt w18 r0 ∧ Bl w18 b6 28 r0.b (.slice r0.ko r0.K.length r0.kc) (.slice r0.so r0.S.length r0.sc) ∧ SvAt w18 r1 ∧ Bl w18 bb 28 r1.b (.slice r1.ko r1.K.length r1.kc) (.slice r1.so r1.S.length r1.sc)) := ⟨grownBy_trans I17.out.1 hG18, I17.out.2.1.grown0 hG18, I17.out.2.2.1.grown0 hG18, I17.out.2.2.2.1.grown0 hG18, I17.out.2.2.2.2.1.grown0 hG18, I17.out.2.2.2.2.2.grown0 hG18⟩; clear I17 hG18 d0 d1 d2 c60 c61 c62; obtain ⟨d0, d1, d2⟩ := I18.out.2.2.2.2.2.cells
    have HMK : Hid (∀ X : World, SvAt X r1 → Calls Tryd.prog 23 #[.agg #[.int .i64 r1.b, .slice r1.ko r1.K.length r1.kc, .slice r1.so r1.S.length r1.sc], .int .i64 1] X fun e w' => e = .returned (.int .i64 ((r1.fin 1 : Nat) : Int)) ∧ SvAt w' (r1.mkd 1) ∧ Only (SvB r1) X w') := fun X hX => markService_any r1 1 X hX (apFit J10.out.1 HFT.out).small (apFit J10.out.1 HFT.out).bound
    have HHD : Hid (∀ X : World, SvAt X (r1.mkd 1) → Calls Tryd.prog 25 #[.agg #[.int .i64 r1.b, .slice r1.ko r1.K.length r1.kc, .slice r1.so r1.S.length r1.sc], .int .i64 1] X fun e w' => e = .returned (.int .i64 ((r1.fin 1 : Nat) : Int)) ∧ X.grownBy w' none) := fun X hX => heldService_any r1 1 X hX (apFit J10.out.1 HFT.out).small (apFit J10.out.1 HFT.out).bound
    have hf1 : r1.fin 1 ≤ 1073741000 := (apFit J10.out.1 HFT.out).bound.2 _ (Nat.le_refl _); generalize r1.fin 1 = F1 at *; go_wp2_with fail; refine (HMK.out _ I18.out.2.2.2.2.1).mono ?_; rintro e w19 ⟨rfl, hA19, hO19⟩
    have I19 : Hid (w.grownBy w19 none ∧ Bl w19 w.heap.size 50 b (.slice ko an kc) (.slice so bn sc) ∧ SvAt w19 r0 ∧ Bl w19 b6 28 r0.b (.slice r0.ko r0.K.length r0.kc) (.slice r0.so r0.S.length r0.sc) ∧ SvAt w19 (r1.mkd 1) ∧ Bl w19 bb 28 r1.b (.slice r1.ko r1.K.length r1.kc) (.slice r1.so r1.S.length r1.sc)) := by
      have hp := J8.out.1; have h9 := hp.hb9; have hg := hp.hgx; have hw := hp.hw6; exact ⟨hO19.grown I18.out.1 (fun k hk => by have := (J10.out.2.1 k hk).1; omega), I18.out.2.1.apart hO19 (fun hk => by have := (J10.out.2.1 _ hk).1; omega), I18.out.2.2.1.apart hO19 (fun k hk hk' => by have h1 := (hp.p0 k hk).2; have h2 := (J10.out.2.1 k hk').1; omega), I18.out.2.2.2.1.apart hO19 (fun hk => by have := (J10.out.2.1 _ hk).1; omega), hA19, I18.out.2.2.2.2.2.apart hO19 (fun hk => by have := (J10.out.2.1 _ hk).2; omega)⟩
    clear I18 hA19 hO19 d0 d1 d2 HMK; obtain ⟨d0, d1, d2⟩ := I19.out.2.2.2.2.2.cells; go_wp2_with fail; refine (HHD.out _ I19.out.2.2.2.2.1).mono ?_; rintro e w20 ⟨rfl, hG20⟩; have I20 : Hid (w.grownBy w20 none ∧ Bl w20 w.heap.size 50 b (.slice ko an kc) (.slice so bn sc) ∧ SvAt w20 r0 ∧ Bl w20 b6 28 r0.b (.slice r0.ko r0.K.length r0.kc) (.slice r0.so r0.S.length r0.sc)) := ⟨grownBy_trans I19.out.1 hG20, I19.out.2.1.grown0 hG20, I19.out.2.2.1.grown0 hG20, I19.out.2.2.2.1.grown0 hG20⟩; clear I19 hG20 d0 d1 d2 HHD; obtain ⟨a7, m7, b7⟩ := I20.out.2.1.cells; go_wp2_with fail; refine (HT.out _ I20.out.1).mono ?_; rintro e w21 ⟨y, rfl, hty, hAy, hFy, hBy, hG21⟩; have I21 : Hid (w.grownBy w21 none ∧ SvAt w21 r0 ∧ Bl w21 b6 28 r0.b (.slice r0.ko r0.K.length r0.kc) (.slice r0.so r0.S.length r0.sc) ∧ SvFull w21 y ∧ y.tell = T ∧ SvFit y) := ⟨grownBy_trans I20.out.1 hG21, I20.out.2.2.1.grown0 hG21, I20.out.2.2.2.grown0 hG21, hAy, hty, hFy⟩; clear I20 hty hAy hFy hBy hG21 a7 m7 b7; go_wp2_with fail; refine (HB.out _ I21.out.1).mono ?_; rintro e w22 ⟨rfl, hO22, hG22⟩; have I22 : Hid (w.grownBy w22 none ∧ SvAt w22 r0 ∧ Bl w22 b6 28 r0.b (.slice r0.ko r0.K.length r0.kc) (.slice r0.so r0.S.length r0.sc) ∧ SvFull w22 y ∧ y.tell = T ∧ SvFit y ∧ Own w22 5 w21.heap.size zs) := ⟨grownBy_trans I21.out.1 hG22, I21.out.2.1.grown0 hG22, I21.out.2.2.1.grown0 hG22, I21.out.2.2.2.1.grown0 hG22, I21.out.2.2.2.2.1, I21.out.2.2.2.2.2, hO22⟩; clear I21 hO22 hG22; go_wp2_with fail; refine (HI.out y _ _ I22.out.1 I22.out.2.2.2.1 I22.out.2.2.2.2.1 I22.out.2.2.2.2.2.1 I22.out.2.2.2.2.2.2).mono ?_; rintro e w23 ⟨r2, rfl, htr2, hAr2, hBr2, hG23⟩; have GC := World.grownBy_alloc w23 (.cells #[.int .i64 r2.b, .slice r2.ko r2.K.length r2.kc, .slice r2.so r2.S.length r2.sc] 28) none; have I23 : Hid (w.grownBy (w23.alloc (.cells #[.int .i64 r2.b, .slice r2.ko r2.K.length r2.kc, .slice r2.so r2.S.length r2.sc] 28)) none ∧ SvAt (w23.alloc (.cells #[.int .i64 r2.b, .slice r2.ko r2.K.length r2.kc, .slice r2.so r2.S.length r2.sc] 28)) r0 ∧ Bl (w23.alloc (.cells #[.int .i64 r2.b, .slice r2.ko r2.K.length r2.kc, .slice r2.so r2.S.length r2.sc] 28)) b6 28 r0.b (.slice r0.ko r0.K.length r0.kc) (.slice r0.so r0.S.length r0.sc) ∧ SvAt (w23.alloc (.cells #[.int .i64 r2.b, .slice r2.ko r2.K.length r2.kc, .slice r2.so r2.S.length r2.sc] 28)) r2 ∧ Bl (w23.alloc (.cells #[.int .i64 r2.b, .slice r2.ko r2.K.length r2.kc, .slice r2.so r2.S.length r2.sc] 28)) w23.heap.size 28 r2.b (.slice r2.ko r2.K.length r2.kc) (.slice r2.so r2.S.length r2.sc) ∧ r2.tell = T') := ⟨grownBy_trans (grownBy_trans I22.out.1 hG23) GC, (I22.out.2.1.grown0 hG23).grown0 GC, (I22.out.2.2.1.grown0 hG23).grown0 GC, hAr2.grown0 GC, heap_alloc_new w23 _, htr2⟩; clear I22 htr2 hAr2 hBr2 hG23 GC
    go_upto_region 31 with fail
    generalize w23.alloc (.cells #[.int .i64 r2.b, .slice r2.ko r2.K.length r2.kc, .slice r2.so r2.S.length r2.sc] 28) = WC at *; generalize w23.heap.size = bc at *; obtain ⟨d0, d1, d2⟩ := I23.out.2.2.2.2.1.cells; obtain ⟨c60, c61, c62⟩ := I23.out.2.2.1.cells; go_wp2_with fail; refine (HEQ.out r2 r0 _ I23.out.2.2.2.1 I23.out.2.1 I23.out.2.2.2.2.2 J8.out.2.1).mono ?_; rintro e w24 ⟨rfl, hG24⟩; have R : Hid (w.grownBy w24 none) := grownBy_trans I23.out.1 hG24; clear I23 hG24 d0 d1 d2 c60 c61 c62; go_wp2; go_ret; exact ⟨rfl, R.out⟩
  · go_wp2; go_ret; exact ⟨rfl, B1.out.2⟩
end Go.Proofs.YtdajcpcajdhplaaDoor.fnExactApply
/-
  The errors that the rows list: that they lie, apart from one another (ErrsAt).
-/
namespace Go.Proofs.YtdajcpcajdhplaaDoor
open Go.ChangeShapes Go.WideShapes Go.RowKit

/-- sentinels of one type, however many: where each points, and that they are apart -/
theorem sentinels {P : Program} {W : World} {ti tp te ts : TypeId} {ms : Array (String × TypeId)} {f : Field} {nm : String} (hi : P.underlying ti = some (.interface ms)) (hrow : ∀ u, P.typeName? 3 u = some nm → u = tp)
    (hp : P.underlying tp = some (.pointer te)) (he : P.underlying te = some (.struct #[f])) (hft : f.type = ts) (hfo : f.offset = 0) (hs : P.underlying ts = some .string) (hc : P.cellsOf te = 1) (hcs : P.cellsOf ts = 1) :
    ∀ (l : List (String × List UInt8)) (ps : List MemPlace), DataW.LaidVars P W (l.map fun x => (x.1, .iface nm (.ptr (.agg [.lit (.string x.2)])))) ps → (∀ x ∈ l, ∃ g, P.globalNamed x.1 = some g ∧ (P.globals[g]?).map (·.type) = some ti) →
      (∀ b off, MemPlace.cell b off ∈ ps → (∃ c t, W.heap[b]? = some (.cells c t (0, 0))) ∧ ∀ u v, W.cell? ⟨b, off, none⟩ = some (.iface u v) → Value.okWide P W .any 0 u v) →
      ∃ ads : List Addr, ads.length = l.length ∧ (ads.map fun a => MemPlace.cell a.block a.off).Sublist ps ∧ ∀ (i : Nat) (x : String × List UInt8) (a : Addr), l[i]? = some x → ads[i]? = some a → W.var? P x.1 = some #[.iface tp (.pointer (some a))] ∧ ∃ c t, W.heap[a.block]? = some (.cells c t (0, 0)) := by
  intro l
  induction l with
  | nil => intro ps _ _ _; exact ⟨[], rfl, by simp, fun i x a h => by simp at h⟩
  | cons y l ih =>
    intro ps h hg hrows; obtain ⟨g, t, cs, fuel, p, q, hg', ht', hv, hd, hr, rfl⟩ := h; obtain ⟨g0, hg0, ht0⟩ := hg y (by simp); obtain rfl := Option.some.inj (hg0.symm.trans hg'); obtain rfl := Option.some.inj (ht0.symm.trans ht'); obtain ⟨lc⟩ := cs
    have ok : ∀ u v, lc = [.iface u v] → Value.okWide P W .any 0 u v := fun u v e => by
      subst e; exact (hrows g0 0 (by simp [MemPlace.row])).2 u v (by simpa using World.var?_cell hg' hv 0)
    obtain ⟨a, s, rfl, hca, hsa, hza, rfl⟩ := errorString_of_trod hi hrow hp he hft hfo hs hc hcs hd ok; obtain ⟨ads, h1, h2, h3⟩ := ih q hr (fun x hx => hg x (by simp [hx])) (fun b off hb => hrows b off (by simp [hb])); refine ⟨a :: ads, by simp [h1], ?_, fun i x b hx hb => ?_⟩
    · have e : MemPlace.row a 1 = [MemPlace.cell a.block a.off] := by simp [MemPlace.row]
      rw [e, List.map_cons, List.append_assoc]; refine List.Sublist.trans ?_ (List.sublist_append_right _ _); exact List.Sublist.cons_cons _ h2
    · cases i with
      | zero =>
        simp at hx hb
        subst hx hb; exact ⟨hv, (hrows a.block a.off (by simp [MemPlace.row])).1⟩
      | succ i => exact h3 i x b (by simpa using hx) (by simpa using hb)
def errList : List (String × List UInt8) :=
  [("loop.example/s01723/impl.errName", [110, 111, 116, 32, 97, 32, 103, 111, 111, 100, 32, 110, 97, 109, 101]),
    ("loop.example/s01723/impl.errNone", [110, 111, 32, 115, 117, 99, 104, 32, 102, 105, 108, 101]),
    ("loop.example/s01723/impl.errExist", [116, 104, 101, 32, 110, 97, 109, 101, 32, 105, 115, 32, 116, 97, 107, 101, 110]),
    ("loop.example/s01723/impl.errRange", [111, 117, 116, 32, 111, 102, 32, 114, 97, 110, 103, 101]),
    ("loop.example/s01723/impl.errFull", [110, 111, 32, 114, 111, 111, 109, 32, 105, 115, 32, 108, 101, 102, 116]),
    ("loop.example/s01723/impl.errPower", [116, 104, 101, 32, 112, 111, 119, 101, 114, 32, 105, 115, 32, 111, 102, 102]),
    ("loop.example/s01723/impl.errCorrupt", [110, 111, 32, 110, 111, 100, 101, 32, 104, 97, 115, 32, 108, 101, 102, 116, 32, 116, 104, 101, 115, 101, 32, 102, 105, 108, 101, 115]),
    ("loop.example/s01723/impl.errFailed", [116, 104, 101, 32, 110, 111, 100, 101, 32, 104, 97, 115, 32, 102, 97, 105, 108, 101, 100]),
    ("loop.example/s01723/impl.errDown", [116, 104, 101, 32, 110, 111, 100, 101, 32, 105, 115, 32, 100, 111, 119, 110]),
    ("loop.example/s01723/impl.errLeader", [110, 111, 116, 32, 102, 111, 114, 32, 97, 32, 110, 111, 100, 101, 32, 111, 102, 32, 116, 104, 97, 116, 32, 114, 111, 108, 101]),
    ("loop.example/s01723/impl.errBeyond", [116, 104, 101, 32, 112, 108, 97, 99, 101, 32, 105, 115, 32, 98, 101, 121, 111, 110, 100, 32, 116, 104, 101, 32, 108, 97, 115, 116, 32, 105, 116, 101, 109]),
    ("loop.example/s01723/impl.errCompacted", [116, 104, 101, 32, 105, 116, 101, 109, 32, 105, 115, 110, 39, 116, 32, 107, 101, 112, 116, 32, 97, 110, 121, 32, 109, 111, 114, 101])]
namespace ErrsLaid
theorem own : ownKnob Tryd.prog.godebug = none := by kernel_rfl
theorem laidOut : laidOutB Tryd.prog = true := by kernel_rfl
theorem star : "*" ++ "errors.errorString" = "*errors.errorString" := by decide
theorem rowES (u : TypeId) (h : Tryd.prog.typeName? 3 u = some "*errors.errorString") : u = 150 :=
  typeName_ptr_named (nm := "errors.errorString") (by rw [star]; kernel_rfl) (by kernel_rfl) (by decide) u (by rw [star]; exact h)
theorem cellsES : Tryd.prog.cellsOf 170 = 1 := by kernel_rfl
theorem cellsStr : Tryd.prog.cellsOf 9 = 1 := by kernel_rfl
theorem gerrName : Tryd.prog.globalNamed "loop.example/s01723/impl.errName" = some 2 := by kernel_rfl
theorem terrName : (Tryd.prog.globals[2]?).map (·.type) = some 69 := by kernel_rfl
theorem gerrNone : Tryd.prog.globalNamed "loop.example/s01723/impl.errNone" = some 3 := by kernel_rfl
theorem terrNone : (Tryd.prog.globals[3]?).map (·.type) = some 69 := by kernel_rfl
theorem gerrExist : Tryd.prog.globalNamed "loop.example/s01723/impl.errExist" = some 4 := by kernel_rfl
theorem terrExist : (Tryd.prog.globals[4]?).map (·.type) = some 69 := by kernel_rfl
theorem gerrRange : Tryd.prog.globalNamed "loop.example/s01723/impl.errRange" = some 0 := by kernel_rfl
theorem terrRange : (Tryd.prog.globals[0]?).map (·.type) = some 69 := by kernel_rfl
theorem gerrFull : Tryd.prog.globalNamed "loop.example/s01723/impl.errFull" = some 1 := by kernel_rfl
theorem terrFull : (Tryd.prog.globals[1]?).map (·.type) = some 69 := by kernel_rfl
theorem gerrPower : Tryd.prog.globalNamed "loop.example/s01723/impl.errPower" = some 5 := by kernel_rfl
theorem terrPower : (Tryd.prog.globals[5]?).map (·.type) = some 69 := by kernel_rfl
theorem gerrCorrupt : Tryd.prog.globalNamed "loop.example/s01723/impl.errCorrupt" = some 6 := by kernel_rfl
theorem terrCorrupt : (Tryd.prog.globals[6]?).map (·.type) = some 69 := by kernel_rfl
theorem gerrFailed : Tryd.prog.globalNamed "loop.example/s01723/impl.errFailed" = some 7 := by kernel_rfl
theorem terrFailed : (Tryd.prog.globals[7]?).map (·.type) = some 69 := by kernel_rfl
theorem gerrDown : Tryd.prog.globalNamed "loop.example/s01723/impl.errDown" = some 8 := by kernel_rfl
theorem terrDown : (Tryd.prog.globals[8]?).map (·.type) = some 69 := by kernel_rfl
theorem gerrLeader : Tryd.prog.globalNamed "loop.example/s01723/impl.errLeader" = some 9 := by kernel_rfl
theorem terrLeader : (Tryd.prog.globals[9]?).map (·.type) = some 69 := by kernel_rfl
theorem gerrBeyond : Tryd.prog.globalNamed "loop.example/s01723/impl.errBeyond" = some 10 := by kernel_rfl
theorem terrBeyond : (Tryd.prog.globals[10]?).map (·.type) = some 69 := by kernel_rfl
theorem gerrCompacted : Tryd.prog.globalNamed "loop.example/s01723/impl.errCompacted" = some 11 := by kernel_rfl
theorem terrCompacted : (Tryd.prog.globals[11]?).map (·.type) = some 69 := by kernel_rfl
theorem et : Tryd.prog.globalNamed "errors.errorType" = some 12 := by kernel_rfl
theorem rt : (Tryd.prog.cutTypes.find? (·.1 == "internal/reflectlite.rtype")).map (·.2) = some 134 := by kernel_rfl
theorem size : Tryd.prog.types.size = 182 := by kernel_rfl
theorem oneRow : ((List.range 182).filter fun t => Tryd.prog.rowNamed t [101, 114, 114, 111, 114]) = [69] := by kernel_rfl
theorem handle : typeHandle Tryd.prog 69 = .pointer (some ⟨13, 69, none⟩) := by kernel_rfl
theorem named : ∀ x ∈ errList, ∃ g, Tryd.prog.globalNamed x.1 = some g ∧ (Tryd.prog.globals[g]?).map (·.type) = some 69 := by
  intro x hx; simp only [errList, List.mem_cons, List.not_mem_nil, or_false] at hx
  rcases hx with rfl | rfl | rfl | rfl | rfl | rfl | rfl | rfl | rfl | rfl | rfl | rfl
  · exact ⟨_, gerrName, terrName⟩
  · exact ⟨_, gerrNone, terrNone⟩
  · exact ⟨_, gerrExist, terrExist⟩
  · exact ⟨_, gerrRange, terrRange⟩
  · exact ⟨_, gerrFull, terrFull⟩
  · exact ⟨_, gerrPower, terrPower⟩
  · exact ⟨_, gerrCorrupt, terrCorrupt⟩
  · exact ⟨_, gerrFailed, terrFailed⟩
  · exact ⟨_, gerrDown, terrDown⟩
  · exact ⟨_, gerrLeader, terrLeader⟩
  · exact ⟨_, gerrBeyond, terrBeyond⟩
  · exact ⟨_, gerrCompacted, terrCompacted⟩

theorem errs {W : World} {l : List (String × DataW Unit)} (hl : l = ("errors.errorType", Rows.laid_errors_errorType) :: errList.map fun x => (x.1, .iface "*errors.errorString" (.ptr (.agg [.lit (.string x.2)])))) (h : laidMetH Tryd.prog l W) : ∃ ad, ErrsAt W ad := by
  subst hl; have h' : laidMet Tryd.prog (errList.map fun x => (x.1, .iface "*errors.errorString" (.ptr (.agg [.lit (.string x.2)])))) W ∧ handlesMet Tryd.prog [("errors.errorType", Rows.laid_errors_errorType)] W := h; obtain ⟨⟨ps, hlv, hnd, hrows⟩, hh⟩ := h'; obtain ⟨ads, ha1, ha2, ha3⟩ := sentinels Tryd.underlying69 rowES Tryd.underlying150 Tryd.underlying170 rfl rfl Tryd.underlying9 cellsES cellsStr errList ps hlv named hrows; have hl12 : ads.length = 12 := ha1; have hnd2 : (ads.map fun a => MemPlace.cell a.block a.off).Nodup := ha2.nodup hnd
  have hget : ∀ i, i < 12 → ∃ a, ads[i]? = some a := fun i hi => ⟨_, List.getElem?_eq_getElem (by omega)⟩
  let pm : Nat → Nat := fun k => ([3, 4, 0, 1, 2, 5, 6, 7, 8, 9, 10, 11] : List Nat).getD k 0
  have hpm : ∀ k, k < 12 → pm k < 12 := by decide
  have hpi : ∀ j, j < 12 → ∀ k, k < 12 → pm j = pm k → j = k := by decide
  refine ⟨fun k => (ads[pm k]?).getD ⟨0, 0, none⟩, ⟨fun k hk => ?_, fun k hk => ?_, fun j k hj hk hjk e => ?_, ?_⟩⟩
  · obtain ⟨a, ha⟩ := hget (pm k) (hpm k hk); rw [ha]; simp only [Option.getD_some]
    match k, hk with
    | 0, _ => simpa using World.var?_cell gerrRange (ha3 3 _ a rfl ha).1 0
    | 1, _ => simpa using World.var?_cell gerrFull (ha3 4 _ a rfl ha).1 0
    | 2, _ => simpa using World.var?_cell gerrName (ha3 0 _ a rfl ha).1 0
    | 3, _ => simpa using World.var?_cell gerrNone (ha3 1 _ a rfl ha).1 0
    | 4, _ => simpa using World.var?_cell gerrExist (ha3 2 _ a rfl ha).1 0
    | 5, _ => simpa using World.var?_cell gerrPower (ha3 5 _ a rfl ha).1 0
    | 6, _ => simpa using World.var?_cell gerrCorrupt (ha3 6 _ a rfl ha).1 0
    | 7, _ => simpa using World.var?_cell gerrFailed (ha3 7 _ a rfl ha).1 0
    | 8, _ => simpa using World.var?_cell gerrDown (ha3 8 _ a rfl ha).1 0
    | 9, _ => simpa using World.var?_cell gerrLeader (ha3 9 _ a rfl ha).1 0
    | 10, _ => simpa using World.var?_cell gerrBeyond (ha3 10 _ a rfl ha).1 0
    | 11, _ => simpa using World.var?_cell gerrCompacted (ha3 11 _ a rfl ha).1 0
  · obtain ⟨a, ha⟩ := hget (pm k) (hpm k hk); rw [ha]; simp only [Option.getD_some]
    match k, hk with
    | 0, _ => exact (ha3 3 _ a rfl ha).2
    | 1, _ => exact (ha3 4 _ a rfl ha).2
    | 2, _ => exact (ha3 0 _ a rfl ha).2
    | 3, _ => exact (ha3 1 _ a rfl ha).2
    | 4, _ => exact (ha3 2 _ a rfl ha).2
    | 5, _ => exact (ha3 5 _ a rfl ha).2
    | 6, _ => exact (ha3 6 _ a rfl ha).2
    | 7, _ => exact (ha3 7 _ a rfl ha).2
    | 8, _ => exact (ha3 8 _ a rfl ha).2
    | 9, _ => exact (ha3 9 _ a rfl ha).2
    | 10, _ => exact (ha3 10 _ a rfl ha).2
    | 11, _ => exact (ha3 11 _ a rfl ha).2
  · obtain ⟨a, ha⟩ := hget (pm j) (hpm j hj); obtain ⟨b, hb⟩ := hget (pm k) (hpm k hk); simp only [ha, hb, Option.getD_some] at e; subst e
    have hne : pm j ≠ pm k := fun h => hjk (hpi j hj k hk h)
    have e1 : (ads.map fun a => MemPlace.cell a.block a.off)[pm j]? = some (MemPlace.cell a.block a.off) := by rw [List.getElem?_map, ha]; rfl
    have e2 : (ads.map fun a => MemPlace.cell a.block a.off)[pm k]? = some (MemPlace.cell a.block a.off) := by rw [List.getElem?_map, hb]; rfl
    exact hne ((List.getElem?_inj (by rw [List.length_map, hl12]; exact hpm j hj) hnd2).1 (e1.trans e2.symm))
  · obtain ⟨name, u, ty, e1, e2, e3, e4, e5⟩ := hh _ (List.mem_singleton.2 rfl); have en : name = [101, 114, 114, 111, 114] := (Option.some.inj e1).symm; subst en; obtain rfl := Option.some.inj (rt.symm.trans e2)
    have hm : ty ∈ (List.range 182).filter fun t => Tryd.prog.rowNamed t [101, 114, 114, 111, 114] := List.mem_filter.2 ⟨List.mem_range.2 (by rw [← size]; exact e3), e4⟩
    rw [oneRow] at hm; obtain rfl := List.mem_singleton.1 hm; rw [handle] at e5
    simpa using World.var?_cell et e5 0
/-- the errors' variables can be read where they lie -/
theorem vars_ok {W : World} {ad : Nat → Addr} (hE : ErrsAt W ad) (ns : List String) (hns : ns = ["loop.example/s01723/impl.errRange", "loop.example/s01723/impl.errFull", "loop.example/s01723/impl.errExist", "loop.example/s01723/impl.errName", "loop.example/s01723/impl.errNone", "loop.example/s01723/impl.errPower", "loop.example/s01723/impl.errCorrupt", "loop.example/s01723/impl.errFailed", "loop.example/s01723/impl.errDown", "loop.example/s01723/impl.errLeader", "loop.example/s01723/impl.errBeyond", "loop.example/s01723/impl.errCompacted"]) : (ns.all fun n => match Tryd.prog.globalNamed n with
      | none => true
      | some g => decide (g < W.heap.size) && (match (Tryd.prog.globals[g]?).map (·.type) with
        | none => true
        | some t => Tryd.prog.readableRec t && decide (t < Tryd.prog.types.size))) = true := by
  subst hns
  have hr : Tryd.prog.readableRec 69 = true := by kernel_rfl
  have hlt : ∀ k, k < 12 → k < W.heap.size := fun k hk => cell_block_lt (hE.cell k hk)
  simp only [List.all_cons, List.all_nil, Bool.and_true, gerrName, terrName, gerrNone, terrNone, gerrExist, terrExist, gerrRange, terrRange, gerrFull, terrFull, gerrPower, terrPower, gerrCorrupt, terrCorrupt, gerrFailed, terrFailed, gerrDown, terrDown, gerrLeader, terrLeader, gerrBeyond, terrBeyond, gerrCompacted, terrCompacted, hr, size, Bool.true_and, Bool.and_eq_true, decide_eq_true_eq]; exact ⟨⟨hlt 0 (by decide), by decide⟩, ⟨hlt 1 (by decide), by decide⟩, ⟨hlt 4 (by decide), by decide⟩, ⟨hlt 2 (by decide), by decide⟩, ⟨hlt 3 (by decide), by decide⟩, ⟨hlt 5 (by decide), by decide⟩, ⟨hlt 6 (by decide), by decide⟩, ⟨hlt 7 (by decide), by decide⟩, ⟨hlt 8 (by decide), by decide⟩, ⟨hlt 9 (by decide), by decide⟩, ⟨hlt 10 (by decide), by decide⟩, ⟨hlt 11 (by decide), by decide⟩⟩
theorem vars_len {H : Type} {enc : TypeId × Value → H} {P : Program} {W : World} {sp : Nat → Bool} : ∀ (ns : List String) (gs : List (DataW H)) (q : List MemPlace), DataW.TrodVars enc P W sp ns gs q → gs.length = ns.length := by
  intro ns
  induction ns with
  | nil => intro gs q h; obtain ⟨rfl, rfl⟩ := trodVars_none h; rfl
  | cons n ns ih =>
    intro gs q h
    cases gs with
    | nil => simp [DataW.TrodVars] at h
    | cons d ds =>
      obtain ⟨g, t, cs, fuel, p, q', h1, h2, h3, h4, hs, rfl⟩ := h
      simp [ih ds q' hs]
end ErrsLaid
end Go.Proofs.YtdajcpcajdhplaaDoor
/-
  FnExactApply: from the walk to the row's contract.
-/
namespace Go.Proofs.YtdajcpcajdhplaaDoor.fnExactApply
open Go.ChangeShapes Go.WideShapes Go.ChangeAt Go.RowKit

theorem cellsU8 : Tryd.prog.cellsOf 5 = 1 := by kernel_rfl
theorem cellsSv : Tryd.prog.cellsOf 50 = 3 := by kernel_rfl
set_option maxRecDepth 100000 in
theorem contract (H : Type) (enc : TypeId × Value → H) (W : World) (base : Nat) (args : Array Value) (ds gs : List (DataW H)) (before : List MemPlace)
    (hval : ∀ (j : Nat) t v, Tryd.f4.params[j]? = some t → args[j]? = some v → Value.okWide Tryd.prog W .any base t v)
    (hW : DataW.Whole enc Tryd.prog Tryd.f4.params.toList Rows.fnExactApplySpec.vars false W args.toList ds gs before) (ad : Nat → Addr) (hE : ErrsAt W ad) :
    Calls Tryd.prog 4 args W fun e W' => ∃ v, e = .returned v ∧ Rows.fnExactApplySpec.post enc Tryd.prog Tryd.f4 false true false false W args v W' := by
  have hW' := hW; obtain ⟨p, q, hA0, hV, rfl, hfz, hnd⟩ := hW; have hA : DataW.TrodAll enc Tryd.prog W 0 (fun _ => true) true Tryd.f4.params.toList args.toList ds p := hA0; rw [Tryd.params4] at hA hval; obtain ⟨v0, vs0, d0, ds0, p0, q0, hargs, rfl, rfl, h0, r0⟩ := trodAll_cons hA; obtain ⟨v1, vs1, d1, ds1, p1, q1, hargs1, rfl, rfl, h1, r1⟩ := trodAll_cons r0; obtain ⟨rfl, rfl, rfl⟩ := trodAll_nil r1
  obtain rfl : args = #[v0, v1] := by cases args; simp_all
  obtain ⟨c0, c1, c2, y0, y1, y2, m, rfl, hd0, hp0, hy0, hy1, hy2⟩ := Joins.open_agg3 Tryd.underlying50 (by kernel_rfl) cellsSv (hval 0 50 v0 rfl rfl) h0; obtain ⟨a, e0, -, wa⟩ := DataW.trod_int Tryd.underlying3 hy0
  simp at e0
  subst e0
  obtain ⟨ko, kn, kc, rfl⟩ : ∃ oa len cap, c1 = .slice oa len cap := by
    rcases DataW.trod_slice Tryd.underlying47 hy1 with ⟨h, _⟩ | ⟨x, l, c, _, _, _, _, h, _⟩
    · simp at h; exact ⟨none, 0, 0, h⟩
    · simp at h; exact ⟨some x, l, c, h⟩
  obtain ⟨so, sn, sc, rfl⟩ : ∃ oa len cap, c2 = .slice oa len cap := by
    rcases DataW.trod_slice Tryd.underlying48 hy2 with ⟨h, _⟩ | ⟨x, l, c, _, _, _, _, h, _⟩
    · simp at h; exact ⟨none, 0, 0, h⟩
    · simp at h; exact ⟨some x, l, c, h⟩
  obtain ⟨A, hAr, hAl, hAm, -⟩ := openItemS hy1; obtain ⟨B, hBr, hBl, hBm, -⟩ := openSessionS hy2; subst hAl; subst hBl; obtain ⟨a1, len1, cap1, rfl⟩ := okWide_slice Tryd.underlying22 (hval 1 22 v1 rfl rfl); obtain ⟨zs, hs, hmx⟩ := slb_open Tryd.underlying22 Tryd.underlying5 cellsU8 h1; have hgl : gs.length = 12 := ErrsLaid.vars_len _ _ _ hV
  refine (walk a ko kc A so sc B a1 len1 cap1 zs ad W hE hAr hBr hAm hBm hs hmx).mono fun e W' ⟨he, hgr⟩ => ?_
  subst he
  match gs, hgl with
  | [g1, g2, g3, g4, g5, g6, g7, g8, g9, g10, g11, g12], _ =>
    exact ⟨_, rfl, Post.law ErrsLaid.laidOut (below_of_grown hgr) hW' (by kernel_rfl) (ErrsLaid.vars_ok hE _ rfl) (tb := 4) (by kernel_rfl) Tryd.underlying4 rfl⟩
end Go.Proofs.YtdajcpcajdhplaaDoor.fnExactApply
/-
  A world in which the errors lie as the rows list them.
-/
namespace Go.Proofs.YtdajcpcajdhplaaDoor
open Go.ChangeShapes Go.WideShapes Go.ChangeAt Go.RowKit
namespace ErrsLaid
def errObjs : Array Obj := #[.cells #[.string { data := #[111, 117, 116, 32, 111, 102, 32, 114, 97, 110, 103, 101] }] 170, .cells #[.string { data := #[110, 111, 32, 114, 111, 111, 109, 32, 105, 115, 32, 108, 101, 102, 116] }] 170, .cells #[.string { data := #[110, 111, 116, 32, 97, 32, 103, 111, 111, 100, 32, 110, 97, 109, 101] }] 170, .cells #[.string { data := #[110, 111, 32, 115, 117, 99, 104, 32, 102, 105, 108, 101] }] 170, .cells #[.string { data := #[116, 104, 101, 32, 110, 97, 109, 101, 32, 105, 115, 32, 116, 97, 107, 101, 110] }] 170, .cells #[.string { data := #[116, 104, 101, 32, 112, 111, 119, 101, 114, 32, 105, 115, 32, 111, 102, 102] }] 170, .cells #[.string { data := #[110, 111, 32, 110, 111, 100, 101, 32, 104, 97, 115, 32, 108, 101, 102, 116, 32, 116, 104, 101, 115, 101, 32, 102, 105, 108, 101, 115] }] 170, .cells #[.string { data := #[116, 104, 101, 32, 110, 111, 100, 101, 32, 104, 97, 115, 32, 102, 97, 105, 108, 101, 100] }] 170, .cells #[.string { data := #[116, 104, 101, 32, 110, 111, 100, 101, 32, 105, 115, 32, 100, 111, 119, 110] }] 170, .cells #[.string { data := #[110, 111, 116, 32, 102, 111, 114, 32, 97, 32, 110, 111, 100, 101, 32, 111, 102, 32, 116, 104, 97, 116, 32, 114, 111, 108, 101] }] 170, .cells #[.string { data := #[116, 104, 101, 32, 112, 108, 97, 99, 101, 32, 105, 115, 32, 98, 101, 121, 111, 110, 100, 32, 116, 104, 101, 32, 108, 97, 115, 116, 32, 105, 116, 101, 109] }] 170, .cells #[.string { data := #[116, 104, 101, 32, 105, 116, 101, 109, 32, 105, 115, 110, 39, 116, 32, 107, 101, 112, 116, 32, 97, 110, 121, 32, 109, 111, 114, 101] }] 170]
def laidOn (w0 : World) (low : Nat) : World :=
  { w0 with heap := (((((((((((((w0.heap.modify 0 fun
      | .cells _ t frozen => .cells #[.iface 150 (.pointer (some ⟨low + 0, 0, none⟩))] t frozen
      | o => o).modify 1 fun
      | .cells _ t frozen => .cells #[.iface 150 (.pointer (some ⟨low + 1, 0, none⟩))] t frozen
      | o => o).modify 2 fun
      | .cells _ t frozen => .cells #[.iface 150 (.pointer (some ⟨low + 2, 0, none⟩))] t frozen
      | o => o).modify 3 fun
      | .cells _ t frozen => .cells #[.iface 150 (.pointer (some ⟨low + 3, 0, none⟩))] t frozen
      | o => o).modify 4 fun
      | .cells _ t frozen => .cells #[.iface 150 (.pointer (some ⟨low + 4, 0, none⟩))] t frozen
      | o => o).modify 5 fun
      | .cells _ t frozen => .cells #[.iface 150 (.pointer (some ⟨low + 5, 0, none⟩))] t frozen
      | o => o).modify 6 fun
      | .cells _ t frozen => .cells #[.iface 150 (.pointer (some ⟨low + 6, 0, none⟩))] t frozen
      | o => o).modify 7 fun
      | .cells _ t frozen => .cells #[.iface 150 (.pointer (some ⟨low + 7, 0, none⟩))] t frozen
      | o => o).modify 8 fun
      | .cells _ t frozen => .cells #[.iface 150 (.pointer (some ⟨low + 8, 0, none⟩))] t frozen
      | o => o).modify 9 fun
      | .cells _ t frozen => .cells #[.iface 150 (.pointer (some ⟨low + 9, 0, none⟩))] t frozen
      | o => o).modify 10 fun
      | .cells _ t frozen => .cells #[.iface 150 (.pointer (some ⟨low + 10, 0, none⟩))] t frozen
      | o => o).modify 11 fun
      | .cells _ t frozen => .cells #[.iface 150 (.pointer (some ⟨low + 11, 0, none⟩))] t frozen
      | o => o).modify 12 fun
      | .cells _ t frozen => .cells #[.iface 134 (.agg #[.pointer (some ⟨13, 69, none⟩)])] t frozen
      | o => o) }
theorem sents_met (os : Os) (args : Array Value) : laidMet Tryd.prog (errList.map fun x => (x.1, .iface "*errors.errorString" (.ptr (.agg [.lit (.string x.2)])))) ((laidOn (World.holding Tryd.prog os ⟨errObjs, #[], []⟩) (World.holding Tryd.prog default ⟨#[], #[], []⟩).heap.size).forCall (fun _ _ => 0) ⟨#[], args, []⟩).memory :=
  laidMet_of_run (ps := [.cell 2 0, .cell ((World.holding Tryd.prog default ⟨#[], #[], []⟩).heap.size + 2) 0, .cell 3 0, .cell ((World.holding Tryd.prog default ⟨#[], #[], []⟩).heap.size + 3) 0, .cell 4 0, .cell ((World.holding Tryd.prog default ⟨#[], #[], []⟩).heap.size + 4) 0, .cell 0 0, .cell ((World.holding Tryd.prog default ⟨#[], #[], []⟩).heap.size + 0) 0, .cell 1 0, .cell ((World.holding Tryd.prog default ⟨#[], #[], []⟩).heap.size + 1) 0, .cell 5 0, .cell ((World.holding Tryd.prog default ⟨#[], #[], []⟩).heap.size + 5) 0, .cell 6 0, .cell ((World.holding Tryd.prog default ⟨#[], #[], []⟩).heap.size + 6) 0, .cell 7 0, .cell ((World.holding Tryd.prog default ⟨#[], #[], []⟩).heap.size + 7) 0, .cell 8 0, .cell ((World.holding Tryd.prog default ⟨#[], #[], []⟩).heap.size + 8) 0, .cell 9 0, .cell ((World.holding Tryd.prog default ⟨#[], #[], []⟩).heap.size + 9) 0, .cell 10 0, .cell ((World.holding Tryd.prog default ⟨#[], #[], []⟩).heap.size + 10) 0, .cell 11 0, .cell ((World.holding Tryd.prog default ⟨#[], #[], []⟩).heap.size + 11) 0]) 8 (by kernel_rfl) (by kernel_rfl) (by kernel_rfl)
theorem all_met (os : Os) (args : Array Value) (l : List (String × DataW Unit)) (hl : l = ("errors.errorType", Rows.laid_errors_errorType) :: errList.map fun x => (x.1, .iface "*errors.errorString" (.ptr (.agg [.lit (.string x.2)])))) : laidMetH Tryd.prog l ((laidOn (World.holding Tryd.prog os ⟨errObjs, #[], []⟩) (World.holding Tryd.prog default ⟨#[], #[], []⟩).heap.size).forCall (fun _ _ => 0) ⟨#[], args, []⟩).memory := by
  subst hl; exact laidMetH_of_parts (sents_met os args) (by kernel_rfl)
end ErrsLaid
end Go.Proofs.YtdajcpcajdhplaaDoor

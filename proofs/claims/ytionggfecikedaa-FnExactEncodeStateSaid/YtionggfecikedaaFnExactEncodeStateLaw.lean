/-
  FnExactEncodeState: the law's walk, and the row.
-/
import Derived.Test.YtionggfecikedaaRows
import Derived.Test.YtionggfecikedaaEncAny
import Derived.Test.YtionggfecikedaaPost
import Derived.Test.YtionggfecikedaaOpenB
import Derived.ChangeMaps5
import Derived.Lib.SmallJoins
namespace Go.Proofs.Ytionggfecikedaa.fnExactEncodeState
open Go.ChangeShapes Go.WideShapes Go.ChangeAt Go.RowKit

/-- three cells lie in block k -/
def Bl (w : World) (k : Nat) (t : TypeId) (b : Int) (u v : Value) : Prop := w.heap[k]? = some (.cells #[.int .i64 b, u, v] t (0, 0))
theorem Bl.cells {w : World} {k : Nat} {t : TypeId} {b : Int} {u v : Value} (h : Bl w k t b u v) : w.cell? ⟨k, 0, none⟩ = some (.int .i64 b) ∧ w.cell? ⟨k, 1, none⟩ = some u ∧ w.cell? ⟨k, 2, none⟩ = some v := by
  unfold Bl at h
  simp [World.cell?, h]
theorem Bl.lt {w : World} {k : Nat} {t : TypeId} {b : Int} {u v : Value} (h : Bl w k t b u v) : k < w.heap.size := (Array.getElem?_eq_some_iff.1 h).1
theorem Bl.apart {w w' : World} {T : Nat → Prop} {k : Nat} {t : TypeId} {b : Int} {u v : Value} (h : Bl w k t b u v) (hb : Only T w w') (hd : ¬ T k) : Bl w' k t b u v := (hb.block k h.lt hd).trans h
theorem Bl.grown {w w' : World} {row : Option Nat} {k : Nat} {t : TypeId} {b : Int} {u v : Value} (h : Bl w k t b u v) (hg : w.grownBy w' row) (hd : some k ≠ row) : Bl w' k t b u v := (hg.block k h.lt hd).trans h
theorem Bl.grown0 {w w' : World} {k : Nat} {t : TypeId} {b : Int} {u v : Value} (h : Bl w k t b u v) (hg : w.grownBy w' none) : Bl w' k t b u v := h.grown hg (by simp)

set_option maxRecDepth 100000 in
set_option maxHeartbeats 4000000 in
theorem walk (b : Int) (ko : Option Addr) (kc : Nat) (A : List Ar) (so : Option Addr) (sc : Nat) (B : List Ar) (w : World) (hA : ArSl w 2 ko A) (hB : ArSl w 3 so B) (hnA : A.length ≤ maxLen) (hnB : B.length ≤ maxLen) :
    Calls Try.prog 8 #[.agg #[.int .i64 b, .slice ko A.length kc, .slice so B.length sc]] w fun e w' => e = .returned (.bool true) ∧ w.grownBy w' none := by
  have HZ : Hid (∀ X : World, w.grownBy X none → Calls Try.prog 32 #[.agg #[.int .i64 b, .slice ko A.length kc, .slice so B.length sc], .int .i64 1048576] X fun e w' => ∃ v : Int, e = .returned (.int .i64 v) ∧ ((tot A + tot B ≤ 1048576 ∧ 0 ≤ v ∧ v ≤ 1048576) ∨ (1048576 < tot A + tot B ∧ v = -1)) ∧ X.grownBy w' none) := fun X hX =>
    szService_any b ko kc A so sc B X (hA.grown hX) (hB.grown hX) hnA hnB
  obtain ⟨T, hTe⟩ : ∃ T : Told, T = (b, A.map Ar.tell, B.map Ar.tell) := ⟨_, rfl⟩
  have HT : Hid (tot A + tot B ≤ 1048576 → ∀ X : World, w.grownBy X none → Calls Try.prog 34 #[.agg #[.int .i64 b, .slice ko A.length kc, .slice so B.length sc]] X fun e w' => ∃ s : Sv, e = .returned (.agg #[.int .i64 s.b, .slice s.ko s.K.length s.kc, .slice s.so s.S.length s.sc]) ∧ s.tell = T ∧ SvAt w' s ∧ SvFit s ∧ (∀ k, SvB s k → X.heap.size ≤ k) ∧ X.grownBy w' none) := fun ht X hX => by
    rw [hTe]
    exact toService_any b ko kc A so sc B X (hA.grown hX) (hB.grown hX) ht
  obtain ⟨C, hC⟩ : ∃ C, @encC T (Classical.propDecidable _) = C := ⟨_, rfl⟩
  obtain ⟨E, hE⟩ : ∃ E, @encR T (Classical.propDecidable _) = E := ⟨_, rfl⟩
  have HP : Hid (∀ (s : Sv) (X : World), SvAt X s → s.tell = T → SvFit s → Calls Try.prog 33 #[.agg #[.int .i64 s.b, .slice s.ko s.K.length s.kc, .slice s.so s.S.length s.sc]] X fun e w' => ∃ og n cp, e = .returned (.tuple #[.slice og n cp, .int .i64 C]) ∧ n ≤ 1073741824 ∧ (og = none → cp = 0) ∧ (∀ g, blk og = some g → X.heap.size ≤ g) ∧ OwnS w' 5 og n E ∧ X.grownBy w' none) := fun s X h1 h2 h3 => by
    have h4 := specEnc_any s X h1 h3.small
    unfold EncAns at h4
    rw [h2, hC, hE] at h4
    exact h4
  have HI : Hid (∀ (s : Sv) (X : World), SvAt X s → s.tell = T → SvFit s → Calls Try.prog 35 #[.agg #[.int .i64 s.b, .slice s.ko s.K.length s.kc, .slice s.so s.S.length s.sc]] X fun e w' => ∃ og n cp, e = .returned (.tuple #[.slice og n cp, .int .i64 C]) ∧ n ≤ 1073741824 ∧ (og = none → cp = 0) ∧ (∀ g, blk og = some g → X.heap.size ≤ g) ∧ OwnS w' 5 og n E ∧ X.grownBy w' none) := fun s X h1 h2 h3 => by
    have h4 := implEnc_any s X h1 h3.small
    unfold EncAns at h4
    rw [h2, hC, hE] at h4
    exact h4
  have HEQ : Hid (∀ (s r : Sv) (X : World), SvAt X s → SvAt X r → s.tell = T → r.tell = T → SvFit s → Calls Try.prog 36 #[.agg #[.int .i64 s.b, .slice s.ko s.K.length s.kc, .slice s.so s.S.length s.sc], .agg #[.int .i64 r.b, .slice r.ko r.K.length r.kc, .slice r.so r.S.length r.sc]] X fun e w' => e = .returned (.bool true) ∧ X.grownBy w' none) :=
    fun s r X h1 h2 h3 h4 h5 => eqService_same s r X h1 h2 (h3.trans h4.symm) h5.small
  have e1 : (C != C) = false := by simp
  clear hA hB hnA hnB hTe hC hE
  generalize A.length = an at *
  generalize B.length = bn at *
  go_enter Try.func8, Try.ntmps8
  go_wp2_with fail
  refine (HZ.out _ (World.grownBy_alloc _ _ _)).mono ?_
  rintro e w1 ⟨v, rfl, hv, hG1⟩
  have B1 : Hid (Bl w1 w.heap.size 51 b (.slice ko an kc) (.slice so bn sc) ∧ w.grownBy w1 none) := ⟨(hG1.block _ (by simp) (by simp)).trans (heap_alloc_new w _), grownBy_trans (World.grownBy_alloc _ _ _) hG1⟩
  clear hG1 HZ
  rcases hv with ⟨hfit, hv0, hv1⟩ | ⟨hbig, rfl⟩
  · have HT := Hid.mkS (HT.out hfit)
    clear hfit
    obtain ⟨a1, m1, b1⟩ := B1.out.1.cells
    go_wp2_with fail
    refine (HT.out _ B1.out.2).mono ?_
    rintro e w2 ⟨s, rfl, hts, hAs, hFs, hBs, hG2⟩
    have I2 : Hid (Bl w2 w.heap.size 51 b (.slice ko an kc) (.slice so bn sc) ∧ w.grownBy w2 none ∧ SvAt w2 s ∧ s.tell = T ∧ SvFit s) := ⟨B1.out.1.grown0 hG2, grownBy_trans B1.out.2 hG2, hAs, hts, hFs⟩
    clear a1 m1 b1 B1 hts hAs hFs hBs hG2
    go_wp2_with fail
    refine (HP.out s _ I2.out.2.2.1 I2.out.2.2.2.1 I2.out.2.2.2.2).mono ?_
    rintro e w3 ⟨og, n, cp, rfl, hn, hnc, hfr, hOS, hG3⟩
    have I3 : Hid (Bl w3 w.heap.size 51 b (.slice ko an kc) (.slice so bn sc) ∧ w.grownBy w3 none ∧ OwnS w3 5 og n E ∧ (og = none → cp = 0)) := ⟨I2.out.1.grown0 hG3, grownBy_trans I2.out.2.1 hG3, hOS, hnc⟩
    clear I2 hnc hfr hOS hG3 HP
    obtain ⟨a3, m3, b3⟩ := I3.out.1.cells
    go_wp2_with fail
    refine (HT.out _ I3.out.2.1).mono ?_
    rintro e w4 ⟨x, rfl, htx, hAx, hFx, hBx, hG4⟩
    have I4 : Hid (Bl w4 w.heap.size 51 b (.slice ko an kc) (.slice so bn sc) ∧ w.grownBy w4 none ∧ OwnS w4 5 og n E ∧ SvAt w4 x) := ⟨I3.out.1.grown0 hG4, grownBy_trans I3.out.2.1 hG4, I3.out.2.2.1.grown0 hG4, hAx⟩
    have J4 : Hid (x.tell = T ∧ SvFit x ∧ (∀ k, SvB x k → w3.heap.size ≤ k ∧ k < w4.heap.size) ∧ (∀ g, blk og = some g → g < w3.heap.size) ∧ w.heap.size < w3.heap.size ∧ w3.heap.size ≤ w4.heap.size ∧ (og = none → cp = 0)) := ⟨htx, hFx, fun k hk => ⟨hBx k hk, hAx.lt k hk⟩, I3.out.2.2.1.lt, I3.out.1.lt, hG4.size, I3.out.2.2.2⟩
    clear a3 m3 b3 I3 htx hAx hFx hBx hG4
    have G5 := World.grownBy_alloc w4 (.cells #[.int .i64 x.b, .slice x.ko x.K.length x.kc, .slice x.so x.S.length x.sc] 57) none
    have I5 : Hid (Bl (w4.alloc (.cells #[.int .i64 x.b, .slice x.ko x.K.length x.kc, .slice x.so x.S.length x.sc] 57)) w.heap.size 51 b (.slice ko an kc) (.slice so bn sc) ∧ w.grownBy (w4.alloc (.cells #[.int .i64 x.b, .slice x.ko x.K.length x.kc, .slice x.so x.S.length x.sc] 57)) none ∧ OwnS (w4.alloc (.cells #[.int .i64 x.b, .slice x.ko x.K.length x.kc, .slice x.so x.S.length x.sc] 57)) 5 og n E ∧ SvAt (w4.alloc (.cells #[.int .i64 x.b, .slice x.ko x.K.length x.kc, .slice x.so x.S.length x.sc] 57)) x ∧ Bl (w4.alloc (.cells #[.int .i64 x.b, .slice x.ko x.K.length x.kc, .slice x.so x.S.length x.sc] 57)) w4.heap.size 57 x.b (.slice x.ko x.K.length x.kc) (.slice x.so x.S.length x.sc)) :=
      ⟨I4.out.1.grown0 G5, grownBy_trans I4.out.2.1 G5, I4.out.2.2.1.grown0 G5, I4.out.2.2.2.grown0 G5, heap_alloc_new w4 _⟩
    clear I4 G5
    go_wp2_with fail
    refine (HI.out x _ I5.out.2.2.2.1 J4.out.1 J4.out.2.1).mono ?_
    rintro e w6 ⟨og2, n2, cp2, rfl, hn2, hnc2, hfr2, hOS2, hG6⟩
    obtain rfl : n2 = n := hOS2.1.symm.trans I5.out.2.2.1.1
    obtain ⟨xb, hxb⟩ : ∃ xb, w4.heap.size = xb := ⟨_, rfl⟩
    have I6 : Hid (Bl w6 w.heap.size 51 b (.slice ko an kc) (.slice so bn sc) ∧ w.grownBy w6 none ∧ OwnS w6 5 og n2 E ∧ SvAt w6 x ∧ Bl w6 xb 57 x.b (.slice x.ko x.K.length x.kc) (.slice x.so x.S.length x.sc) ∧ OwnS w6 5 og2 n2 E) :=
      ⟨I5.out.1.grown0 hG6, grownBy_trans I5.out.2.1 hG6, I5.out.2.2.1.grown0 hG6, I5.out.2.2.2.1.grown0 hG6, by rw [← hxb]; exact I5.out.2.2.2.2.grown0 hG6, hOS2⟩
    have J6 : Hid (x.tell = T ∧ SvFit x ∧ (∀ k, SvB x k → w3.heap.size ≤ k ∧ k < xb) ∧ (∀ g, blk og = some g → g < w3.heap.size) ∧ w.heap.size < w3.heap.size ∧ w3.heap.size ≤ xb ∧ (og = none → cp = 0) ∧ (og2 = none → cp2 = 0) ∧ (∀ g, blk og2 = some g → xb < g)) := by
      rw [← hxb]
      exact ⟨J4.out.1, J4.out.2.1, J4.out.2.2.1, J4.out.2.2.2.1, J4.out.2.2.2.2.1, J4.out.2.2.2.2.2.1, J4.out.2.2.2.2.2.2, hnc2, fun g hg => by have := hfr2 g hg; simp at this; omega⟩
    rw [hxb]
    clear I5 J4 hnc2 hfr2 hOS2 hG6 hxb
    go_wp2_with fail
    refine (eqByteS_same og2 og n2 cp2 cp E _ I6.out.2.2.2.2.2.sl I6.out.2.2.1.sl (by omega)).mono ?_
    rintro e w7 ⟨rfl, hG7⟩
    have I7 : Hid (Bl w7 w.heap.size 51 b (.slice ko an kc) (.slice so bn sc) ∧ w.grownBy w7 none ∧ OwnS w7 5 og n2 E ∧ SvAt w7 x ∧ Bl w7 xb 57 x.b (.slice x.ko x.K.length x.kc) (.slice x.so x.S.length x.sc) ∧ OwnS w7 5 og2 n2 E) :=
      ⟨I6.out.1.grown0 hG7, grownBy_trans I6.out.2.1 hG7, I6.out.2.2.1.grown0 hG7, I6.out.2.2.2.1.grown0 hG7, I6.out.2.2.2.2.1.grown0 hG7, I6.out.2.2.2.2.2.grown0 hG7⟩
    clear I6 hG7
    obtain ⟨a7, m7, b7⟩ := I7.out.1.cells
    obtain ⟨p7, r7, q7⟩ := I7.out.2.2.2.2.1.cells
    have HT7 : Hid (∀ X : World, Same w7 X → Calls Try.prog 34 #[.agg #[.int .i64 b, .slice ko an kc, .slice so bn sc]] X fun e w' => ∃ s : Sv, e = .returned (.agg #[.int .i64 s.b, .slice s.ko s.K.length s.kc, .slice s.so s.S.length s.sc]) ∧ Hid (s.tell = T ∧ SvAt w' s ∧ w7.grownBy w' none) ∧ (w'.cell? ⟨w.heap.size, 0, none⟩ = some (.int .i64 b) ∧ w'.cell? ⟨w.heap.size, 1, none⟩ = some (.slice ko an kc) ∧ w'.cell? ⟨w.heap.size, 2, none⟩ = some (.slice so bn sc) ∧ w'.cell? ⟨xb, 0, none⟩ = some (.int .i64 x.b) ∧ w'.cell? ⟨xb, 1, none⟩ = some (.slice x.ko x.K.length x.kc) ∧ w'.cell? ⟨xb, 2, none⟩ = some (.slice x.so x.S.length x.sc))) := by
      intro X hX
      refine (HT.out X (grownBy_same I7.out.2.1 hX)).mono ?_
      rintro e w' ⟨s', rfl, h1, h2, h3, h4, hG⟩
      have hGG : w7.grownBy w' none := grownBy_trans (grownBy_same (grownBy_refl w7 none) hX) hG
      obtain ⟨c1, c2, c3⟩ := (I7.out.1.grown0 hGG).cells
      obtain ⟨c4, c5, c6⟩ := (I7.out.2.2.2.2.1.grown0 hGG).cells
      exact ⟨s', rfl, ⟨h1, h2, hGG⟩, c1, c2, c3, c4, c5, c6⟩
    go_wp2_with fail
    go_region_held3 (fun w' => w'.cell? ⟨w.heap.size, 0, none⟩ = some (.int .i64 b) ∧ w'.cell? ⟨w.heap.size, 1, none⟩ = some (.slice ko an kc) ∧ w'.cell? ⟨w.heap.size, 2, none⟩ = some (.slice so bn sc) ∧ w'.cell? ⟨xb, 0, none⟩ = some (.int .i64 x.b) ∧ w'.cell? ⟨xb, 1, none⟩ = some (.slice x.ko x.K.length x.kc) ∧ w'.cell? ⟨xb, 2, none⟩ = some (.slice x.so x.S.length x.sc)) (first | go_keep | (exact hC9) | fail)
      (first
        | (go_at_call 34; refine (HT7.out _ (by exact ⟨rfl, rfl, rfl, rfl⟩)).mono ?_; rintro e w8 ⟨s8, rfl, hOG8, a8, m8, b8, p8, r8, q8⟩)
        | (go_at_call 36; refine (HEQ.out x s8 _ (by exact (I7.out.2.2.2.1.grown0 hOG8.out.2.2).grown0 (grownBy_same (grownBy_refl _ _) ⟨rfl, rfl, rfl, rfl⟩)) (by exact hOG8.out.2.1.grown0 (grownBy_same (grownBy_refl _ _) ⟨rfl, rfl, rfl, rfl⟩)) J6.out.1 hOG8.out.1 J6.out.2.1).mono ?_; rintro e w9 ⟨rfl, hG9⟩; have hGG9 := Hid.mkS (grownBy_trans hOG8.out.2.2 hG9); have hC9 := And.intro ((I7.out.1.grown0 hGG9.out).cells.1) (And.intro ((I7.out.1.grown0 hGG9.out).cells.2.1) (And.intro ((I7.out.1.grown0 hGG9.out).cells.2.2) ((I7.out.2.2.2.2.1.grown0 hGG9.out).cells))))
        | fail)
    have I9 : Hid (Bl w9 w.heap.size 51 b (.slice ko an kc) (.slice so bn sc) ∧ w.grownBy w9 none ∧ OwnS w9 5 og n2 E ∧ SvAt w9 x ∧ Bl w9 xb 57 x.b (.slice x.ko x.K.length x.kc) (.slice x.so x.S.length x.sc) ∧ OwnS w9 5 og2 n2 E) :=
      ⟨I7.out.1.grown0 hGG9.out, grownBy_trans I7.out.2.1 hGG9.out, I7.out.2.2.1.grown0 hGG9.out, I7.out.2.2.2.1.grown0 hGG9.out, I7.out.2.2.2.2.1.grown0 hGG9.out, I7.out.2.2.2.2.2.grown0 hGG9.out⟩
    clear a7 m7 b7 p7 r7 q7 a8 m8 b8 p8 r8 q8 hOG8 hG9 hGG9 hC9 HT7 I7
    try clear hHeld
    obtain ⟨p9, r9, q9⟩ := I9.out.2.2.2.2.1.cells
    have HMK : Hid (∀ X : World, SvAt X x → Calls Try.prog 37 #[.agg #[.int .i64 x.b, .slice x.ko x.K.length x.kc, .slice x.so x.S.length x.sc], .int .i64 1] X fun e w' => e = .returned (.int .i64 ((x.fin 1 : Nat) : Int)) ∧ SvAt w' (x.mkd 1) ∧ Only (SvB x) X w') := fun X hX => markService_any x 1 X hX J6.out.2.1.small J6.out.2.1.bound
    have hf : x.fin 1 ≤ 1073741000 := J6.out.2.1.bound.2 _ (Nat.le_refl _)
    generalize x.fin 1 = F at *
    go_wp2_with fail
    refine (HMK.out _ I9.out.2.2.2.1).mono ?_
    rintro e w10 ⟨rfl, -, hO10⟩
    have I10 : Hid (Bl w10 w.heap.size 51 b (.slice ko an kc) (.slice so bn sc) ∧ w.grownBy w10 none ∧ OwnS w10 5 og n2 E ∧ OwnS w10 5 og2 n2 E) := by
      have hx := J6.out
      have hown : ∀ (o : Option Addr), OwnS w9 5 o n2 E → (∀ g, blk o = some g → ¬ SvB x g) → OwnS w10 5 o n2 E := by
        intro o h hno
        obtain ⟨h1, h2⟩ := h
        refine ⟨h1, ?_⟩
        rcases h2 with h2 | ⟨g, rfl, hOg⟩
        · exact .inl h2
        · exact .inr ⟨g, rfl, hOg.of_block (hO10.block g hOg.lt (hno g rfl))⟩
      exact ⟨I9.out.1.apart hO10 (fun hk => by have := (hx.2.2.1 _ hk).1; have := hx.2.2.2.2.1; omega), hO10.grown I9.out.2.1 (fun k hk => by have := (hx.2.2.1 _ hk).1; have := hx.2.2.2.2.1; omega), hown og I9.out.2.2.1 (fun g hg hk => by have := hx.2.2.2.1 g hg; have := (hx.2.2.1 _ hk).1; omega), hown og2 I9.out.2.2.2.2.2 (fun g hg hk => by have := hx.2.2.2.2.2.2.2.2 g hg; have := (hx.2.2.1 _ hk).2; omega)⟩
    clear p9 r9 q9 I9 hO10 HMK
    go_wp2_with fail
    refine (eqByteS_same og2 og n2 cp2 cp E _ I10.out.2.2.2.sl I10.out.2.2.1.sl (by omega)).mono ?_
    rintro e w11 ⟨rfl, hG11⟩
    have I11 : Hid (Bl w11 w.heap.size 51 b (.slice ko an kc) (.slice so bn sc) ∧ w.grownBy w11 none ∧ OwnS w11 5 og n2 E ∧ OwnS w11 5 og2 n2 E) := ⟨I10.out.1.grown0 hG11, grownBy_trans I10.out.2.1 hG11, I10.out.2.2.1.grown0 hG11, I10.out.2.2.2.grown0 hG11⟩
    clear I10 hG11
    go_wp2_with fail
    refine (markByteS_s og2 n2 cp2 1 E _ I11.out.2.2.2 J6.out.2.2.2.2.2.2.2.1 (by omega) (by omega)).mono ?_
    rintro e w12 ⟨rfl, hO12, hG12⟩
    have I12 : Hid (Bl w12 w.heap.size 51 b (.slice ko an kc) (.slice so bn sc) ∧ w.grownBy w12 none ∧ OwnS w12 5 og n2 E ∧ OwnS w12 5 og2 n2 (marked E 1 n2)) := by
      have hx := J6.out
      exact ⟨I11.out.1.grown hG12 (fun h => by have := hx.2.2.2.2.2.2.2.2 _ h.symm; have := hx.2.2.2.2.1; have := hx.2.2.2.2.2.1; omega), grownBy_row I11.out.2.1 hG12 (fun g hg => by have := hx.2.2.2.2.2.2.2.2 _ hg; have := hx.2.2.2.2.1; have := hx.2.2.2.2.2.1; omega), I11.out.2.2.1.grown hG12 (fun g hg h => by have := hx.2.2.2.1 g hg; have := hx.2.2.2.2.2.2.2.2 _ h.symm; have := hx.2.2.2.2.2.1; omega), hO12⟩
    have HMD : Hid (∀ i, i < n2 → (marked E 1 n2).getD i 0 = (1 + i) % 256) := fun i hi => marked_get E 1 n2 i (by have := I11.out.2.2.1.1; omega) hi
    clear I11 hO12 hG12
    obtain ⟨a12, m12, b12⟩ := I12.out.1.cells
    go_wp2_with fail
    refine (heldByteS_s og2 n2 cp2 1 (marked E 1 n2) _ I12.out.2.2.2 J6.out.2.2.2.2.2.2.2.1 HMD.out (by omega) (by omega)).mono ?_
    rintro e w13 ⟨rfl, hw13⟩
    subst hw13
    go_wp2_with fail
    refine (HT.out _ I12.out.2.1).mono ?_
    rintro e w14 ⟨y, rfl, hty, hAy, hFy, hBy, hG14⟩
    have I14 : Hid (w.grownBy w14 none ∧ OwnS w14 5 og n2 E ∧ SvAt w14 y ∧ y.tell = T ∧ SvFit y) := ⟨grownBy_trans I12.out.2.1 hG14, I12.out.2.2.1.grown0 hG14, hAy, hty, hFy⟩
    clear hty hAy hFy hBy hG14 I12 HMD a12 m12 b12
    go_wp2_with fail
    refine (HI.out y _ I14.out.2.2.1 I14.out.2.2.2.1 I14.out.2.2.2.2).mono ?_
    rintro e w15 ⟨og3, n3, cp3, rfl, hn3, hnc3, hfr3, hOS3, hG15⟩
    obtain rfl : n3 = n2 := hOS3.1.symm.trans I14.out.2.1.1
    have I15 : Hid (w.grownBy w15 none ∧ OwnS w15 5 og n3 E ∧ OwnS w15 5 og3 n3 E) := ⟨grownBy_trans I14.out.1 hG15, I14.out.2.1.grown0 hG15, hOS3⟩
    clear hOS3 hG15 hfr3 hnc3 I14
    go_wp2_with fail
    refine (eqByteS_same og3 og n3 cp3 cp E _ I15.out.2.2.sl I15.out.2.1.sl (by omega)).mono ?_
    rintro e w16 ⟨rfl, hG16⟩
    have R : Hid (w.grownBy w16 none) := grownBy_trans I15.out.1 hG16
    clear hG16
    go_wp2
    go_ret
    exact ⟨rfl, R.out⟩
  · go_wp2
    go_ret
    exact ⟨rfl, B1.out.2⟩

theorem cellsU8 : Try.prog.cellsOf 5 = 1 := by kernel_rfl
theorem cellsSv : Try.prog.cellsOf 51 = 3 := by kernel_rfl
theorem own : ownKnob Try.prog.godebug = none := by kernel_rfl
theorem laidOut : laidOutB Try.prog = true := by kernel_rfl
set_option maxRecDepth 100000 in
theorem lifted (os : Os) (started : os.Started) (H : Type) (enc : TypeId × Value → H) :
    ReturnsInHanded {} Try.checked os 8 .any (Rows.fnExactEncodeStateSpec.pre6 enc Try.prog Try.f8 Rows.fnExactEncodeStateRow.domain false) (Rows.fnExactEncodeStateSpec.post enc Try.prog Try.f8 false true false false) := by
  refine returnsInHanded_of_change (C := Try.checked) own started (by kernel_rfl) Try.func8
    (ChangeSpec.witness6 (enc := enc) (C := Try.checked) false ⟨#[], #[.agg #[.int .i64 0, .slice none 0 0, .slice none 0 0]], []⟩ 8 (by kernel_rfl) (by kernel_rfl) (by kernel_rfl) (by kernel_rfl)) ?_
  intro W base args ds gs before hval0 hW hcnd _
  have hval : ∀ (j : Nat) t v, Try.f8.params[j]? = some t → args[j]? = some v → Value.okWide Try.prog W .any base t v := hval0
  have hW' := hW
  obtain ⟨p, q, hA0, hV, rfl, hfz, hnd⟩ := hW
  have hA : DataW.TrodAll enc Try.prog W 0 (fun _ => true) true Try.f8.params.toList args.toList ds p := hA0
  rw [Try.params8] at hA hval
  obtain ⟨v0, vs0, d0, ds0, p0, q0, hargs, rfl, rfl, h0, r0⟩ := trodAll_cons hA
  obtain ⟨rfl, rfl, rfl⟩ := trodAll_nil r0
  obtain rfl : args = #[v0] := by cases args; simp_all
  obtain ⟨rfl, rfl⟩ := trodVars_none hV
  obtain ⟨c0, c1, c2, y0, y1, y2, m, rfl, hd0, hp0, hy0, hy1, hy2⟩ := Joins.open_agg3 Try.underlying51 (by kernel_rfl) cellsSv (hval 0 51 v0 rfl rfl) h0
  obtain ⟨a, e0, -, wa⟩ := DataW.trod_int Try.underlying3 hy0
  simp at e0
  subst e0
  obtain ⟨ko, kn, kc, rfl⟩ : ∃ oa len cap, c1 = .slice oa len cap := by
    rcases DataW.trod_slice Try.underlying48 hy1 with ⟨h, _⟩ | ⟨x, l, c, _, _, _, _, h, _⟩
    · simp at h; exact ⟨none, 0, 0, h⟩
    · simp at h; exact ⟨some x, l, c, h⟩
  obtain ⟨so, sn, sc, rfl⟩ : ∃ oa len cap, c2 = .slice oa len cap := by
    rcases DataW.trod_slice Try.underlying49 hy2 with ⟨h, _⟩ | ⟨x, l, c, _, _, _, _, h, _⟩
    · simp at h; exact ⟨none, 0, 0, h⟩
    · simp at h; exact ⟨some x, l, c, h⟩
  obtain ⟨A, hAr, hAl, hAm, -⟩ := openItemS hy1
  obtain ⟨B, hBr, hBl, hBm, -⟩ := openSessionS hy2
  subst hAl
  subst hBl
  refine (walk a ko kc A so sc B W hAr hBr hAm hBm).mono fun e W' ⟨he, hgr⟩ => ?_
  subst he
  exact ⟨_, rfl, Post.law laidOut (below_of_grown hgr) hW' (by kernel_rfl) (by kernel_rfl) (tb := 4) (by kernel_rfl) Try.underlying4 rfl⟩
end Go.Proofs.Ytionggfecikedaa.fnExactEncodeState
namespace Go.Proofs.Ytionggfecikedaa
theorem FnExactEncodeState_holds : Rows.FnExactEncodeStateSaid :=
  OpenClaim.holds_of_wide 8 Try.f8 rfl rfl rfl rfl rfl rfl rfl ⟨rfl, rfl, rfl, rfl, rfl⟩ rfl rfl rfl rfl rfl (by kernel_rfl) Try.func8 (by kernel_rfl)
    (of_decide_eq_true (by kernel_rfl)) (by unfold Func.isWrapper; first | (rw [if_pos (by decide +kernel)]; kernel_rfl) | (rw [if_neg (by decide +kernel)]; exact ⟨rfl, rfl⟩))
    (fun os started H enc _ => fnExactEncodeState.lifted os started H enc)
#print axioms FnExactEncodeState_holds
end Go.Proofs.Ytionggfecikedaa

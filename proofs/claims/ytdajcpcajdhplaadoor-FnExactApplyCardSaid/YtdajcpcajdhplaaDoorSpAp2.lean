/-
  The model's Apply, walked: no data, and data that is no item.
-/
import Derived.Test.YtdajcpcajdhplaaDoorSpAp1
namespace Go.Proofs.YtdajcpcajdhplaaDoor
open Go.RowKit

set_option maxRecDepth 4000 in
set_option maxHeartbeats 4000000 in
theorem specApply_empty (s : Sv) (oa : Option Addr) (cap : Nat) (w : World) (hC : ApCalls s w) :
    Calls Tryd.prog 18 #[.agg #[.int .i64 s.b, .slice s.ko s.K.length s.kc, .slice s.so s.S.length s.sc], .slice oa 0 cap] w (ApPost s [] w) := by
  have HC : Hid (ApCalls s w) := hC
  clear hC
  unfold ApCalls at HC
  obtain ⟨b, ko, kc, K0, so, sc, S0⟩ := s
  simp only at HC ⊢
  obtain ⟨sv, hsv⟩ : ∃ sv : Sv, sv = ⟨b, ko, kc, K0, so, sc, S0⟩ := ⟨_, rfl⟩
  have HSV : Hid (sv = ⟨b, ko, kc, K0, so, sc, S0⟩) := hsv
  rw [← hsv]
  have hbs : sv.b = b := by rw [hsv]
  have HBS : Hid (sv.b = b) := hbs
  clear hsv hbs
  generalize K0.length = kn0 at *
  generalize S0.length = sn0 at *
  go_enter Tryd.func18, Tryd.ntmps18
  go_wp2_with fail
  refine (HC.out.1 _ (grownBy_alloc (World.grownBy_alloc _ _ _) _)).mono ?_
  rintro e w1 ⟨rfl, hG1⟩
  have hb0 := (hG1.block w.heap.size (by simp; omega) (by simp)).trans ((Below.heap_alloc _ _ _ (by simp)).trans (heap_alloc_new w _))
  have hb1 := (hG1.block (w.heap.size + 1) (by simp) (by simp)).trans (heap_two w _ _)
  have a0 : w1.cell? ⟨w.heap.size, 0, none⟩ = some (.int .i64 b) := by simp [World.cell?, hb0]
  have a1 : w1.cell? ⟨w.heap.size, 1, none⟩ = some (.slice ko kn0 kc) := by simp [World.cell?, hb0]
  have a2 : w1.cell? ⟨w.heap.size, 2, none⟩ = some (.slice so sn0 sc) := by simp [World.cell?, hb0]
  have HG1 : Hid (w.grownBy w1 none ∧ w1.heap[w.heap.size]? = some (.cells #[.int .i64 b, .slice ko kn0 kc, .slice so sn0 sc] 28 (0, 0)) ∧ w1.heap[w.heap.size + 1]? = some (.cells #[.int .i64 0, .slice none 0 0, .slice none 0 0] 28 (0, 0))) := ⟨grownBy_trans (grownBy_alloc (World.grownBy_alloc _ _ _) _) hG1, hb0, hb1⟩
  clear hb0 hb1 hG1
  go_wp2_with fail
  refine (HC.out.2 _ HG1.out.1).mono ?_
  rintro e w2 ⟨vk, vs, K, S, rfl, HR⟩
  obtain ⟨oa1, ca1, hf1, -, -, -, -⟩ := HR.out.2.2.1.elO
  obtain ⟨oa2, ca2, hf2, -, -, -, -⟩ := HR.out.2.2.2.1.elO
  subst hf1
  subst hf2
  have hb2 := (HR.out.2.2.2.2.2.block w.heap.size (Array.getElem?_eq_some_iff.1 HG1.out.2.1).1 (by simp)).trans HG1.out.2.1
  have b0 : w2.cell? ⟨w.heap.size, 0, none⟩ = some (.int .i64 b) := by simp [World.cell?, hb2]
  have b1 : w2.cell? ⟨w.heap.size, 1, none⟩ = some (.slice ko kn0 kc) := by simp [World.cell?, hb2]
  have b2 : w2.cell? ⟨w.heap.size, 2, none⟩ = some (.slice so sn0 sc) := by simp [World.cell?, hb2]
  have f0 : w2.frozen? ⟨w.heap.size, 0, none⟩ = false := by simp [World.frozen?, hb2]
  have f1 : w2.frozen? ⟨w.heap.size, 1, none⟩ = false := by simp [World.frozen?, hb2]
  have f2 : w2.frozen? ⟨w.heap.size, 2, none⟩ = false := by simp [World.frozen?, hb2]
  obtain ⟨W3, hW3⟩ : ∃ W3, W3 = ((w2.setCell ⟨w.heap.size, 0, none⟩ (.int .i64 b)).setCell ⟨w.heap.size, 1, none⟩ (.slice oa1 K.length ca1)).setCell ⟨w.heap.size, 2, none⟩ (.slice oa2 S.length ca2) := ⟨_, rfl⟩
  have HA : Hid (AC sv w W3 (.slice oa1 K.length ca1) (.slice oa2 S.length ca2) K S) := by
    have hts := HSV.out
    have e1 := HR.out.1
    have e2 := HR.out.2.1
    have := ac_start (s := sv) HG1.out.2.1 HG1.out.2.2 HG1.out.1 HR.out.2.2.2.2.2 (by rw [hts]; exact e1) (by rw [hts]; exact e2) HR.out.2.2.1 HR.out.2.2.2.1 HR.out.2.2.2.2.1
    rw [hW3]
    rw [HBS.out] at this
    exact this
  have HW3 : Hid (W3 = ((w2.setCell ⟨w.heap.size, 0, none⟩ (.int .i64 b)).setCell ⟨w.heap.size, 1, none⟩ (.slice oa1 K.length ca1)).setCell ⟨w.heap.size, 2, none⟩ (.slice oa2 S.length ca2)) := hW3
  clear HR HG1 HC hb2 hW3 a0 a1 a2
  go_upto_region 4 with fail
  rw [← HW3.out]
  clear b0 b1 b2 f0 f1 f2 HW3
  clear w1 w2
  obtain ⟨q0, q1, q2, q3, q4⟩ := HA.out.cd.cells
  rw [HBS.out] at q0
  obtain ⟨⟨r0, r1, r2⟩, y0, y1, y2⟩ := HA.out.resC
  go_wp2
  refine bodyPost_ret (v := .tuple #[.agg #[.int .i64 b, .slice oa1 K.length ca1, .slice oa2 S.length ca2], .int .i64 0, .int .i64 0]) (by simp [results, Tryd.results18, go_sem, r0, r1, r2]) rfl ?_
  have h := HA.out.post (pl := 0) (c := 0) (a0 := .int .i64 b) (a1 := .slice oa1 K.length ca1) (a2 := .slice oa2 S.length ca2) (zs := []) (.empty rfl)
  rw [HBS.out] at h
  exact h
theorem specDec_bad (oa : Option Addr) (len : Nat) (zs : List Nat) (w : World) (hsl : SlB w oa len zs) (hm : len ≤ 1073741824) (hd : ¬ decGood zs) :
    Calls Tryd.prog 45 #[.slice oa len len] w fun e w' => e = .returned (.tuple #[.agg #[.int .i64 0, .int .i64 0, .slice none 0 0], .int .i64 5]) ∧ w.grownBy w' none := by
  have hl := hsl.1
  by_cases h8 : 8 ≤ len
  · have hp : Calls Tryd.prog 45 #[.slice oa len len] w (DecPost w len zs) := by
      by_cases h9 : len = 8
      · subst h9; exact specDecodeItem_eight oa zs w hsl
      · exact specDecodeItem_long oa len len zs w hsl h8 (Nat.le_refl _) hm h9
    refine hp.mono ?_
    rintro e w' (⟨hk, h⟩ | ⟨hk, h⟩)
    · exact absurd ⟨by omega, by rw [hl]; exact hk⟩ hd
    · exact h
  · exact specDecodeItem_short oa len len w (by omega)
theorem specDec_good (oa : Option Addr) (len : Nat) (zs : List Nat) (w : World) (hsl : SlB w oa len zs) (hm : len ≤ 1073741824) (hd : decGood zs) :
    Calls Tryd.prog 45 #[.slice oa len len] w fun e w' => ∃ g cp, e = .returned (.tuple #[.agg #[.int .i64 (decCl zs : Int), .int .i64 (decSq zs : Int), .slice (some ⟨g, 0, none⟩) (len - 8) cp], .int .i64 0]) ∧ w.heap.size ≤ g ∧ Own w' 5 g (zs.drop 8) ∧ w.grownBy w' none := by
  have hl := hsl.1
  have h8 : 8 ≤ len := by have := hd.1; omega
  have hp : Calls Tryd.prog 45 #[.slice oa len len] w (DecPost w len zs) := by
    by_cases h9 : len = 8
    · subst h9; exact specDecodeItem_eight oa zs w hsl
    · exact specDecodeItem_long oa len len zs w hsl h8 (Nat.le_refl _) hm h9
  refine hp.mono ?_
  rintro e w' (⟨hk, h⟩ | ⟨hk, h⟩)
  · exact h
  · exact absurd (by have := hd.2; rwa [hl] at this) hk
set_option maxRecDepth 4000 in
set_option maxHeartbeats 4000000 in
theorem specApply_bad (s : Sv) (oa : Option Addr) (len : Nat) (zs : List Nat) (w : World) (hsl : SlB w oa len zs) (hm : len ≤ 1073741824) (h0 : len ≠ 0) (hd : ¬ decGood zs) (hC : ApCalls s w) :
    Calls Tryd.prog 18 #[.agg #[.int .i64 s.b, .slice s.ko s.K.length s.kc, .slice s.so s.S.length s.sc], .slice oa len len] w (ApPost s zs w) := by
  have HZ : Hid (zs ≠ [] ∧ ¬ decGood zs) := ⟨fun e => h0 (by rw [← hsl.1, e]; rfl), hd⟩
  have HD : Hid (∀ X : World, w.grownBy X none → Calls Tryd.prog 45 #[.slice oa len len] X fun e w' => e = .returned (.tuple #[.agg #[.int .i64 0, .int .i64 0, .slice none 0 0], .int .i64 5]) ∧ X.grownBy w' none) := fun X hX => specDec_bad oa len zs X (hsl.grown0 hX) hm hd
  clear hsl hd
  have hz0 : ((len : Int) == 0) = false := by simp [h0]
  have HC : Hid (ApCalls s w) := hC
  clear hC
  unfold ApCalls at HC
  obtain ⟨b, ko, kc, K0, so, sc, S0⟩ := s
  simp only at HC ⊢
  obtain ⟨sv, hsv⟩ : ∃ sv : Sv, sv = ⟨b, ko, kc, K0, so, sc, S0⟩ := ⟨_, rfl⟩
  have HSV : Hid (sv = ⟨b, ko, kc, K0, so, sc, S0⟩) := hsv
  rw [← hsv]
  have hbs : sv.b = b := by rw [hsv]
  have HBS : Hid (sv.b = b) := hbs
  clear hsv hbs
  generalize K0.length = kn0 at *
  generalize S0.length = sn0 at *
  go_enter Tryd.func18, Tryd.ntmps18
  go_wp2_with fail
  refine (HC.out.1 _ (grownBy_alloc (World.grownBy_alloc _ _ _) _)).mono ?_
  rintro e w1 ⟨rfl, hG1⟩
  have hb0 := (hG1.block w.heap.size (by simp; omega) (by simp)).trans ((Below.heap_alloc _ _ _ (by simp)).trans (heap_alloc_new w _))
  have hb1 := (hG1.block (w.heap.size + 1) (by simp) (by simp)).trans (heap_two w _ _)
  have a0 : w1.cell? ⟨w.heap.size, 0, none⟩ = some (.int .i64 b) := by simp [World.cell?, hb0]
  have a1 : w1.cell? ⟨w.heap.size, 1, none⟩ = some (.slice ko kn0 kc) := by simp [World.cell?, hb0]
  have a2 : w1.cell? ⟨w.heap.size, 2, none⟩ = some (.slice so sn0 sc) := by simp [World.cell?, hb0]
  have HG1 : Hid (w.grownBy w1 none ∧ w1.heap[w.heap.size]? = some (.cells #[.int .i64 b, .slice ko kn0 kc, .slice so sn0 sc] 28 (0, 0)) ∧ w1.heap[w.heap.size + 1]? = some (.cells #[.int .i64 0, .slice none 0 0, .slice none 0 0] 28 (0, 0))) := ⟨grownBy_trans (grownBy_alloc (World.grownBy_alloc _ _ _) _) hG1, hb0, hb1⟩
  clear hb0 hb1 hG1
  go_wp2_with fail
  refine (HC.out.2 _ HG1.out.1).mono ?_
  rintro e w2 ⟨vk, vs, K, S, rfl, HR⟩
  obtain ⟨oa1, ca1, hf1, -, -, -, -⟩ := HR.out.2.2.1.elO
  obtain ⟨oa2, ca2, hf2, -, -, -, -⟩ := HR.out.2.2.2.1.elO
  subst hf1
  subst hf2
  have hb2 := (HR.out.2.2.2.2.2.block w.heap.size (Array.getElem?_eq_some_iff.1 HG1.out.2.1).1 (by simp)).trans HG1.out.2.1
  have b0 : w2.cell? ⟨w.heap.size, 0, none⟩ = some (.int .i64 b) := by simp [World.cell?, hb2]
  have b1 : w2.cell? ⟨w.heap.size, 1, none⟩ = some (.slice ko kn0 kc) := by simp [World.cell?, hb2]
  have b2 : w2.cell? ⟨w.heap.size, 2, none⟩ = some (.slice so sn0 sc) := by simp [World.cell?, hb2]
  have f0 : w2.frozen? ⟨w.heap.size, 0, none⟩ = false := by simp [World.frozen?, hb2]
  have f1 : w2.frozen? ⟨w.heap.size, 1, none⟩ = false := by simp [World.frozen?, hb2]
  have f2 : w2.frozen? ⟨w.heap.size, 2, none⟩ = false := by simp [World.frozen?, hb2]
  obtain ⟨W3, hW3⟩ : ∃ W3, W3 = ((w2.setCell ⟨w.heap.size, 0, none⟩ (.int .i64 b)).setCell ⟨w.heap.size, 1, none⟩ (.slice oa1 K.length ca1)).setCell ⟨w.heap.size, 2, none⟩ (.slice oa2 S.length ca2) := ⟨_, rfl⟩
  have HA : Hid (AC sv w W3 (.slice oa1 K.length ca1) (.slice oa2 S.length ca2) K S) := by
    have hts := HSV.out
    have e1 := HR.out.1
    have e2 := HR.out.2.1
    have := ac_start (s := sv) HG1.out.2.1 HG1.out.2.2 HG1.out.1 HR.out.2.2.2.2.2 (by rw [hts]; exact e1) (by rw [hts]; exact e2) HR.out.2.2.1 HR.out.2.2.2.1 HR.out.2.2.2.2.1
    rw [hW3]
    rw [HBS.out] at this
    exact this
  have HW3 : Hid (W3 = ((w2.setCell ⟨w.heap.size, 0, none⟩ (.int .i64 b)).setCell ⟨w.heap.size, 1, none⟩ (.slice oa1 K.length ca1)).setCell ⟨w.heap.size, 2, none⟩ (.slice oa2 S.length ca2)) := hW3
  clear HR HG1 HC hb2 hW3 a0 a1 a2
  go_upto_region 4 with fail
  rw [← HW3.out]
  clear b0 b1 b2 f0 f1 f2 HW3
  clear w1 w2
  go_wp2_with fail
  refine (HD.out _ HA.out.cd.grown).mono ?_
  rintro e w4 ⟨rfl, hG4⟩
  have HA4 : Hid (AC sv w (w4.alloc (.cells #[.int .i64 0, .int .i64 0, .slice none 0 0] 32)) (.slice oa1 K.length ca1) (.slice oa2 S.length ca2) K S) := HA.out.more (grownBy_trans hG4 (World.grownBy_alloc _ _ _))
  clear hG4 HA HD
  go_upto_region 7 with fail
  generalize w4.alloc (.cells #[.int .i64 0, .int .i64 0, .slice none 0 0] 32) = W5 at *
  obtain ⟨q0, q1, q2, q3, q4⟩ := HA4.out.cd.cells
  rw [HBS.out] at q0
  obtain ⟨⟨r0, r1, r2⟩, y0, y1, y2⟩ := HA4.out.resC
  go_wp2
  refine bodyPost_ret (v := .tuple #[.agg #[.int .i64 b, .slice oa1 K.length ca1, .slice oa2 S.length ca2], .int .i64 0, .int .i64 5]) (by simp [results, Tryd.results18, go_sem, r0, r1, r2]) rfl ?_
  have h := HA4.out.post (pl := 0) (c := 5) (a0 := .int .i64 b) (a1 := .slice oa1 K.length ca1) (a2 := .slice oa2 S.length ca2) (.bad HZ.out.1 HZ.out.2)
  rw [HBS.out] at h
  exact h
end Go.Proofs.YtdajcpcajdhplaaDoor

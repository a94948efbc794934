/-
  The laws' smItem and smService, walked.
-/
import Derived.Test.YtdajcpcajdhplaaDoorSmBytes
import Derived.Test.YtdajcpcajdhplaaDoorSvLaw
import Derived.Deep.RegionHeld3
import Derived.Deep.DeepCutAuto
namespace Go.Proofs.YtdajcpcajdhplaaDoor
open Go.RowKit

set_option maxHeartbeats 800000 in
theorem smItem_any (c q : Int) (oa : Option Addr) (la ca : Nat) (xs : List Nat) (c' q' : Int) (ob : Option Addr) (lb cb : Nat) (ys : List Nat) (w : World) (ha : SlB w oa la xs) (hb : SlB w ob lb ys) :
    Calls Tryd.prog 12 #[.agg #[.int .i64 c, .int .i64 q, .slice oa la ca], .agg #[.int .i64 c', .int .i64 q', .slice ob lb cb]] w fun e w' => ∃ r : Bool, e = .returned (.bool r) ∧ (r = true ↔ c = c' ∧ q = q' ∧ xs = ys) ∧ w.grownBy w' none := by
  have HB : Hid (∀ X : World, w.grownBy X none → Calls Tryd.prog 32 #[.slice oa la ca, .slice ob lb cb] X fun e w' => e = .returned (.bool (decide (xs = ys))) ∧ w' = X) := fun X hX => smBytes_any oa ob la lb ca cb xs ys X (ha.grown0 hX) (hb.grown0 hX)
  have HP : Hid (w.grownBy ((w.alloc (.cells #[.int .i64 c, .int .i64 q, .slice oa la ca] 32)).alloc (.cells #[.int .i64 c', .int .i64 q', .slice ob lb cb] 32)) none) := grownBy_alloc (World.grownBy_alloc _ _ _) _
  clear ha hb
  by_cases hc : c = c'
  · by_cases hq : q = q'
    · subst hc hq
      obtain ⟨b, hbd⟩ : ∃ b, decide (xs = ys) = b := ⟨_, rfl⟩
      have HBD : Hid (decide (xs = ys) = b) := hbd
      rw [hbd] at HB
      clear hbd
      go_enter Tryd.func12, Tryd.ntmps12
      go_wp2_with fail
      refine (HB.out _ HP.out).mono ?_
      rintro e w1 ⟨rfl, hw1⟩
      subst hw1
      go_wp2
      go_ret
      refine ⟨b, rfl, ?_, HP.out⟩
      rw [← HBD.out]
      simp
    · have t0 : (c == c') = true := by simp [hc]
      have t1 : (q == q') = false := by simp [hq]
      have HQ : Hid (q ≠ q') := hq
      clear hc hq
      go_enter Tryd.func12, Tryd.ntmps12
      go_wp2
      go_ret
      exact ⟨false, rfl, by simp [HQ.out], HP.out⟩
  · have t0 : (c == c') = false := by simp [hc]
    have HQ : Hid (c ≠ c') := hc
    clear hc
    go_enter Tryd.func12, Tryd.ntmps12
    go_wp2
    go_ret
    exact ⟨false, rfl, by simp [HQ.out], HP.out⟩
set_option maxRecDepth 4000 in
set_option maxHeartbeats 4000000 in
theorem smService_same (s r : Sv) (w : World) (h : SvAt w s) (h' : SvAt w r) (ht : s.tell = r.tell) (hs : SvSmall s) :
    Calls Tryd.prog 14 #[.agg #[.int .i64 s.b, .slice s.ko s.K.length s.kc, .slice s.so s.S.length s.sc], .agg #[.int .i64 r.b, .slice r.ko r.K.length r.kc, .slice r.so r.S.length r.sc]] w fun e w' => e = .returned (.bool true) ∧ w.grownBy w' none := by
  have HA : Hid (SvAt w s ∧ SvAt w r) := ⟨h, h'⟩
  have hk1 : s.K.length ≤ 1048576 := hs.1
  have hs1 : s.S.length ≤ 1048576 := hs.2.1
  obtain ⟨b, ko, kc, K, so, sc, S⟩ := s
  obtain ⟨b', ko', kc', K', so', sc', S'⟩ := r
  simp only [Sv.tell, Prod.mk.injEq] at ht
  obtain ⟨hb, hK, hS⟩ := ht
  subst hb
  simp only at HA hk1 hs1 ⊢
  have lk : K'.length = K.length := by have := congrArg List.length hK; simpa using this.symm
  have ls : S'.length = S.length := by have := congrArg List.length hS; simpa using this.symm
  have HT : Hid (K.map El.tell = K'.map El.tell ∧ S.map El.tell = S'.map El.tell) := ⟨hK, hS⟩
  rw [lk, ls]
  obtain ⟨kn, hkn⟩ : ∃ n, K.length = n := ⟨_, rfl⟩
  obtain ⟨sn, hsn⟩ : ∃ n, S.length = n := ⟨_, rfl⟩
  have HN : Hid (K.length = kn ∧ S.length = sn) := ⟨hkn, hsn⟩
  rw [hkn] at hk1 ⊢
  rw [hsn] at hs1 ⊢
  clear hkn hsn lk ls hK hS h h' hs
  obtain ⟨W0, hW0⟩ : ∃ W0, W0 = (w.alloc (.cells #[.int .i64 b, .slice ko kn kc, .slice so sn sc] 28)).alloc (.cells #[.int .i64 b, .slice ko' kn kc', .slice so' sn sc'] 28) := ⟨_, rfl⟩
  have HW : Hid (W0 = (w.alloc (.cells #[.int .i64 b, .slice ko kn kc, .slice so sn sc] 28)).alloc (.cells #[.int .i64 b, .slice ko' kn kc', .slice so' sn sc'] 28) ∧ w.grownBy W0 none ∧ ∀ Y : World, W0.grownBy Y none → (Y.cell? ⟨w.heap.size, 1, none⟩ = some (.slice ko kn kc) ∧ Y.cell? ⟨w.heap.size, 2, none⟩ = some (.slice so sn sc)) ∧ (Y.cell? ⟨w.heap.size + 1, 1, none⟩ = some (.slice ko' kn kc') ∧ Y.cell? ⟨w.heap.size + 1, 2, none⟩ = some (.slice so' sn sc'))) := by
    refine ⟨hW0, by rw [hW0]; exact grownBy_alloc (World.grownBy_alloc _ _ _) _, fun Y hY => ?_⟩
    have z0 : W0.heap.size = w.heap.size + 2 := by rw [hW0]; simp
    have e0 : Y.heap[w.heap.size]? = some (.cells #[.int .i64 b, .slice ko kn kc, .slice so sn sc] 28 (0, 0)) := (hY.block _ (by omega) (by simp)).trans (by rw [hW0]; exact (Below.heap_alloc _ _ _ (by simp)).trans (heap_alloc_new w _))
    have e1 : Y.heap[w.heap.size + 1]? = some (.cells #[.int .i64 b, .slice ko' kn kc', .slice so' sn sc'] 28 (0, 0)) := (hY.block _ (by omega) (by simp)).trans (by rw [hW0]; exact heap_two w _ _)
    simp [World.cell?, e0, e1]
  go_enter Tryd.func14, Tryd.ntmps14
  go_wp2
  rw [← hW0]
  clear hW0
  go_loopw [35] (fun i wr => ∃ k : Nat, k ≤ kn ∧ i = .int .i64 (k : Int) ∧ W0.grownBy wr none) (fun i _ => kn - (intOf i).toNat)
  case atStart => exact ⟨0, Nat.zero_le _, rfl, grownBy_refl _ _⟩
  case round =>
    obtain ⟨k, hk, rfl, hGr⟩ := hrel
    obtain ⟨⟨a1, a2⟩, b1, b2⟩ := HW.out.2.2 wr hGr
    have HG : Hid (W0.grownBy wr none) := hGr
    clear hGr
    by_cases hlt : k < kn
    · obtain ⟨x, hx⟩ : ∃ x, K[k]? = some x := ⟨_, List.getElem?_eq_getElem (by rw [HN.out.1]; exact hlt)⟩
      obtain ⟨y, hy, hxy⟩ : ∃ y, K'[k]? = some y ∧ y.tell = x.tell := by
        have h1 := congrArg (fun l => l[k]?) HT.out.1
        simp only [List.getElem?_map, hx, Option.map_some] at h1
        cases h2 : K'[k]? with
        | none => rw [h2] at h1; cases h1
        | some y => rw [h2] at h1; exact ⟨y, rfl, (Option.some.inj h1).symm⟩
      obtain ⟨g, hg, hE⟩ : ∃ g, ko = some ⟨g, 0, none⟩ ∧ ElAt w 32 2 g K := by
        rcases HA.out.1.kk with ⟨_, _, h0⟩ | h
        · simp only at h0; rw [h0] at hx; simp at hx
        · exact h
      obtain ⟨g', hg', hE'⟩ : ∃ g, ko' = some ⟨g, 0, none⟩ ∧ ElAt w 32 2 g K' := by
        rcases HA.out.2.kk with ⟨_, _, h0⟩ | h
        · simp only at h0; rw [h0] at hy; simp at hy
        · exact h
      subst hg hg'
      have G := grownBy_trans HW.out.2.1 HG.out
      have hAr : ElAt wr 32 2 g K := hE.kept (fun j hj _ => G.block j hj (by simp))
      have hAr' : ElAt wr 32 2 g' K' := hE'.kept (fun j hj _ => G.block j hj (by simp))
      obtain ⟨n0, n1, hhd, c0, c1, cd⟩ := hAr.get2 hx
      obtain ⟨m0, m1, hhd', e0, e1, ed⟩ := hAr'.get2 hy
      have hdd : y.hd = x.hd ∧ y.d = x.d := by simpa [El.tell] using hxy
      rw [hdd.1, hhd] at hhd'
      simp only [List.cons.injEq, and_true] at hhd'
      obtain ⟨rfl, rfl⟩ := hhd'
      have HC : Hid (∀ Y : World, Same wr Y → Calls Tryd.prog 12 #[.agg #[.int .i64 n0, .int .i64 n1, .slice (oad x.o) x.d.length x.cp], .agg #[.int .i64 n0, .int .i64 n1, .slice (oad y.o) y.d.length y.cp]] Y fun e w' => e = .returned (.bool true) ∧ wr.grownBy w' none) := fun Y hY => by
        have GY : wr.grownBy Y none := grownBy_same (grownBy_refl _ _) hY
        refine (smItem_any n0 n1 (oad x.o) x.d.length x.cp x.d n0 n1 (oad y.o) y.d.length y.cp y.d Y ((hAr.own k x hx).2.1.sl.grown0 GY) ((hAr'.own k y hy).2.1.sl.grown0 GY)).mono ?_
        rintro e w' ⟨r, rfl, hr, hG⟩
        obtain rfl : r = true := hr.2 ⟨rfl, rfl, hdd.2.symm⟩
        exact ⟨rfl, grownBy_trans GY hG⟩
      have hkI : (k : Int) < (kn : Int) := by omega
      have hk0 : (0 : Int) ≤ (k : Int) := by omega
      clear hx hy hxy hE hE' hAr hAr' hdd hhd G
      go_wp2_with fail
      go_region_held3 (fun W => (W.cell? ⟨w.heap.size, 1, none⟩ = some (.slice (some ⟨g, 0, none⟩) kn kc) ∧ W.cell? ⟨w.heap.size + 1, 1, none⟩ = some (.slice (some ⟨g', 0, none⟩) kn kc')) ∧ (W.cell? ⟨g, k * 3, none⟩ = some (.int .i64 n0) ∧ W.cell? ⟨g, k * 3 + 1, none⟩ = some (.int .i64 n1) ∧ W.cell? ⟨g, k * 3 + 2, none⟩ = some (.slice (oad x.o) x.d.length x.cp)) ∧ W.cell? ⟨g', k * 3, none⟩ = some (.int .i64 n0) ∧ W.cell? ⟨g', k * 3 + 1, none⟩ = some (.int .i64 n1) ∧ W.cell? ⟨g', k * 3 + 2, none⟩ = some (.slice (oad y.o) y.d.length y.cp)) (first | exact ⟨⟨a1, b1⟩, ⟨c0, c1, cd⟩, e0, e1, ed⟩ | exact hS3 | (go_keep; done) | fail)
        (first
          | (go_at_call 12; refine (HC.out _ (by exact ⟨rfl, rfl, rfl, rfl⟩)).mono ?_; rintro e w3 ⟨rfl, hG3⟩; have hS3 := And.intro (And.intro (((bcell hG3).1 _ _ (cell_block_lt a1)).trans a1) (((bcell hG3).1 _ _ (cell_block_lt b1)).trans b1)) (And.intro (And.intro (((bcell hG3).1 _ _ (cell_block_lt c0)).trans c0) (And.intro (((bcell hG3).1 _ _ (cell_block_lt c1)).trans c1) (((bcell hG3).1 _ _ (cell_block_lt cd)).trans cd))) (And.intro (((bcell hG3).1 _ _ (cell_block_lt e0)).trans e0) (And.intro (((bcell hG3).1 _ _ (cell_block_lt e1)).trans e1) (((bcell hG3).1 _ _ (cell_block_lt ed)).trans ed)))))
          | fail)
      have HR : Hid (W0.grownBy w3 none) := grownBy_trans HG.out hG3
      clear hG3 hS3
      go_wp2
      go_roundw
      case rel => exact ⟨k + 1, by omega, by go_num, ⟨HR.out.os, HR.out.tape, HR.out.output, HR.out.size, HR.out.block⟩⟩
      case measure => simp [intOf]; omega
    · obtain rfl : k = kn := by omega
      go_wp2
      go_loopw [54] (fun i wr => ∃ k : Nat, k ≤ sn ∧ i = .int .i64 (k : Int) ∧ W0.grownBy wr none) (fun i _ => sn - (intOf i).toNat)
      case atStart => exact ⟨0, Nat.zero_le _, rfl, HG.out⟩
      case round =>
        clear HG a1 a2 b1 b2
        obtain ⟨j, hj, rfl, hGr⟩ := hrel
        obtain ⟨⟨a1, a2⟩, b1, b2⟩ := HW.out.2.2 wr hGr
        have HG : Hid (W0.grownBy wr none) := hGr
        clear hGr
        by_cases hlt : j < sn
        · obtain ⟨x, hx⟩ : ∃ x, S[j]? = some x := ⟨_, List.getElem?_eq_getElem (by rw [HN.out.2]; exact hlt)⟩
          obtain ⟨y, hy, hxy⟩ : ∃ y, S'[j]? = some y ∧ y.tell = x.tell := by
            have h1 := congrArg (fun l => l[j]?) HT.out.2
            simp only [List.getElem?_map, hx, Option.map_some] at h1
            cases h2 : S'[j]? with
            | none => rw [h2] at h1; cases h1
            | some y => rw [h2] at h1; exact ⟨y, rfl, (Option.some.inj h1).symm⟩
          obtain ⟨g, hg, hE⟩ : ∃ g, so = some ⟨g, 0, none⟩ ∧ ElAt w 74 3 g S := by
            rcases HA.out.1.ss with ⟨_, _, h0⟩ | h
            · simp only at h0; rw [h0] at hx; simp at hx
            · exact h
          obtain ⟨g', hg', hE'⟩ : ∃ g, so' = some ⟨g, 0, none⟩ ∧ ElAt w 74 3 g S' := by
            rcases HA.out.2.ss with ⟨_, _, h0⟩ | h
            · simp only at h0; rw [h0] at hy; simp at hy
            · exact h
          subst hg hg'
          have G := grownBy_trans HW.out.2.1 HG.out
          have hAr : ElAt wr 74 3 g S := hE.kept (fun j hj _ => G.block j hj (by simp))
          have hAr' : ElAt wr 74 3 g' S' := hE'.kept (fun j hj _ => G.block j hj (by simp))
          obtain ⟨n0, n1, n2, hhd, c0, c1, c2, cd⟩ := hAr.get3 hx
          obtain ⟨m0, m1, m2, hhd', e0, e1, e2, ed⟩ := hAr'.get3 hy
          have hdd : y.hd = x.hd ∧ y.d = x.d := by simpa [El.tell] using hxy
          rw [hdd.1, hhd] at hhd'
          simp only [List.cons.injEq, and_true] at hhd'
          obtain ⟨rfl, rfl, rfl⟩ := hhd'
          have HC : Hid (∀ Y : World, wr.grownBy Y none → Calls Tryd.prog 32 #[.slice (oad x.o) x.d.length x.cp, .slice (oad y.o) y.d.length y.cp] Y fun e w' => e = .returned (.bool true) ∧ w' = Y) := fun Y hY => by
            refine (smBytes_any (oad x.o) (oad y.o) x.d.length y.d.length x.cp y.cp x.d y.d Y ((hAr.own j x hx).2.1.sl.grown0 hY) ((hAr'.own j y hy).2.1.sl.grown0 hY)).mono ?_
            rintro e w' ⟨rfl, hw⟩
            exact ⟨by simp [hdd.2], hw⟩
          have hkI : (j : Int) < (sn : Int) := by omega
          have hl2 := cell_block_lt e0
          have hl3 := cell_block_lt b2
          clear hx hy hxy hE hE' hAr hAr' hdd hhd G
          go_upto_region 13 with fail
          have G1 := World.grownBy_alloc wr (.cells #[.int .i64 n0, .int .i64 n1, .int .i64 n2, .slice (oad x.o) x.d.length x.cp] 74) none
          have e0' := ((bcell G1).1 _ _ (cell_block_lt e0)).trans e0
          have e1' := ((bcell G1).1 _ _ (cell_block_lt e1)).trans e1
          have e2' := ((bcell G1).1 _ _ (cell_block_lt e2)).trans e2
          have ed' := ((bcell G1).1 _ _ (cell_block_lt ed)).trans ed
          have b2' := ((bcell G1).1 _ _ (cell_block_lt b2)).trans b2
          have HJ : Hid ((wr.alloc (.cells #[.int .i64 n0, .int .i64 n1, .int .i64 n2, .slice (oad x.o) x.d.length x.cp] 74)).heap[wr.heap.size]? = some (.cells #[.int .i64 n0, .int .i64 n1, .int .i64 n2, .slice (oad x.o) x.d.length x.cp] 74 (0, 0)) ∧ wr.grownBy (wr.alloc (.cells #[.int .i64 n0, .int .i64 n1, .int .i64 n2, .slice (oad x.o) x.d.length x.cp] 74)) none) := ⟨heap_alloc_new _ _, G1⟩
          clear e0 e1 e2 ed c0 c1 c2 cd a1 a2 b1 b2 G1 hl2 hl3
          generalize wr.alloc (.cells #[.int .i64 n0, .int .i64 n1, .int .i64 n2, .slice (oad x.o) x.d.length x.cp] 74) = X at *
          generalize wr.heap.size = jx at *
          go_upto_region 14 with fail
          have G2 := World.grownBy_alloc X (.cells #[.int .i64 n0, .int .i64 n1, .int .i64 n2, .slice (oad y.o) y.d.length y.cp] 74) none
          have h0 := (G2.block jx (Array.getElem?_eq_some_iff.1 HJ.out.1).1 (by simp)).trans HJ.out.1
          have h1 : (X.alloc (.cells #[.int .i64 n0, .int .i64 n1, .int .i64 n2, .slice (oad y.o) y.d.length y.cp] 74)).heap[X.heap.size]? = _ := heap_alloc_new X _
          have HK : Hid (wr.grownBy (X.alloc (.cells #[.int .i64 n0, .int .i64 n1, .int .i64 n2, .slice (oad y.o) y.d.length y.cp] 74)) none) := grownBy_trans HJ.out.2 G2
          clear e0' e1' e2' ed' b2' G2
          generalize X.alloc (.cells #[.int .i64 n0, .int .i64 n1, .int .i64 n2, .slice (oad y.o) y.d.length y.cp] 74) = Z at *
          generalize X.heap.size = jy at *
          have u0 : Z.cell? ⟨jx, 0, none⟩ = some (.int .i64 n0) := by simp [World.cell?, h0]
          have u1 : Z.cell? ⟨jx, 1, none⟩ = some (.int .i64 n1) := by simp [World.cell?, h0]
          have u2 : Z.cell? ⟨jx, 2, none⟩ = some (.int .i64 n2) := by simp [World.cell?, h0]
          have u3 : Z.cell? ⟨jx, 3, none⟩ = some (.slice (oad x.o) x.d.length x.cp) := by simp [World.cell?, h0]
          have v0 : Z.cell? ⟨jy, 0, none⟩ = some (.int .i64 n0) := by simp [World.cell?, h1]
          have v1 : Z.cell? ⟨jy, 1, none⟩ = some (.int .i64 n1) := by simp [World.cell?, h1]
          have v2 : Z.cell? ⟨jy, 2, none⟩ = some (.int .i64 n2) := by simp [World.cell?, h1]
          have v3 : Z.cell? ⟨jy, 3, none⟩ = some (.slice (oad y.o) y.d.length y.cp) := by simp [World.cell?, h1]
          clear h0 h1 HJ
          go_wp2_with fail
          refine (HC.out Z HK.out).mono ?_
          rintro e w4 ⟨rfl, hw4⟩
          subst hw4
          go_wp2
          go_roundw
          case rel => exact ⟨j + 1, by omega, by go_num, grownBy_trans HG.out HK.out⟩
          case measure => simp [intOf]; omega
        · obtain rfl : j = sn := by omega
          go_wp2
          go_ret
          exact ⟨rfl, grownBy_trans HW.out.2.1 HG.out⟩
end Go.Proofs.YtdajcpcajdhplaaDoor

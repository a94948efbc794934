/-
  The model's Apply, walked: the item is good.
-/
import Derived.Test.YtdajcpcajdhplaaDoorSpApM
import Derived.BigQuiet
namespace Go.Proofs.YtdajcpcajdhplaaDoor
open Go.RowKit

set_option maxRecDepth 4000 in
set_option maxHeartbeats 8000000 in
theorem specApply_good (s : Sv) (oa : Option Addr) (len : Nat) (zs : List Nat) (w : World) (hsl : SlB w oa len zs) (hm : len ≤ 1073741824) (hd : decGood zs) (hC : ApCalls s w) (hv : ValidV s.b s.K s.S) :
    Calls Tryd.prog 18 #[.agg #[.int .i64 s.b, .slice s.ko s.K.length s.kc, .slice s.so s.S.length s.sc], .slice oa len len] w (ApPost s zs w) := by
  have h0 : len ≠ 0 := by have := hsl.1; have := hd.1; omega
  have HD : Hid (∀ X : World, w.grownBy X none → Calls Tryd.prog 45 #[.slice oa len len] X fun e w' => ∃ g cp, e = .returned (.tuple #[.agg #[.int .i64 (decCl zs : Int), .int .i64 (decSq zs : Int), .slice (some ⟨g, 0, none⟩) (len - 8) cp], .int .i64 0]) ∧ X.heap.size ≤ g ∧ Own w' 5 g (zs.drop 8) ∧ X.grownBy w' none) := fun X hX => specDec_good oa len zs X (hsl.grown0 hX) hm hd
  have HZ : Hid (decGood zs ∧ zs.length = len) := ⟨hd, hsl.1⟩
  have HV : Hid (ValidV s.b s.K s.S) := hv
  clear hsl hd hv
  have hz0 : ((len : Int) == 0) = false := by simp [h0]
  have HC : Hid (ApCalls s w) := hC
  clear hC
  unfold ApCalls at HC
  obtain ⟨b, ko, kc, K0, so, sc, S0⟩ := s
  simp only at HC ⊢
  obtain ⟨sv, hsv⟩ : ∃ sv : Sv, sv = ⟨b, ko, kc, K0, so, sc, S0⟩ := ⟨_, rfl⟩
  have HSV : Hid (sv = ⟨b, ko, kc, K0, so, sc, S0⟩) := hsv
  rw [← hsv]
  have hbs : sv.b = b := by rw [hsv]
  have HBS : Hid (sv.b = b) := hbs
  clear hsv hbs
  generalize K0.length = kn0 at *
  generalize S0.length = sn0 at *
  go_enter Tryd.func18, Tryd.ntmps18
  go_wp2_with fail
  refine (HC.out.1 _ (grownBy_alloc (World.grownBy_alloc _ _ _) _)).mono ?_
  rintro e w1 ⟨rfl, hG1⟩
  have hb0 := (hG1.block w.heap.size (by simp; omega) (by simp)).trans ((Below.heap_alloc _ _ _ (by simp)).trans (heap_alloc_new w _))
  have hb1 := (hG1.block (w.heap.size + 1) (by simp) (by simp)).trans (heap_two w _ _)
  have a0 : w1.cell? ⟨w.heap.size, 0, none⟩ = some (.int .i64 b) := by simp [World.cell?, hb0]
  have a1 : w1.cell? ⟨w.heap.size, 1, none⟩ = some (.slice ko kn0 kc) := by simp [World.cell?, hb0]
  have a2 : w1.cell? ⟨w.heap.size, 2, none⟩ = some (.slice so sn0 sc) := by simp [World.cell?, hb0]
  have HG1 : Hid (w.grownBy w1 none ∧ w1.heap[w.heap.size]? = some (.cells #[.int .i64 b, .slice ko kn0 kc, .slice so sn0 sc] 28 (0, 0)) ∧ w1.heap[w.heap.size + 1]? = some (.cells #[.int .i64 0, .slice none 0 0, .slice none 0 0] 28 (0, 0))) := ⟨grownBy_trans (grownBy_alloc (World.grownBy_alloc _ _ _) _) hG1, hb0, hb1⟩
  clear hb0 hb1 hG1
  go_wp2_with fail
  refine (HC.out.2 _ HG1.out.1).mono ?_
  rintro e w2 ⟨vk, vs, K, S, rfl, HR⟩
  obtain ⟨oa1, ca1, hf1, -, -, -, -⟩ := HR.out.2.2.1.elO
  obtain ⟨oa2, ca2, hf2, -, -, -, -⟩ := HR.out.2.2.2.1.elO
  subst hf1
  subst hf2
  have hb2 := (HR.out.2.2.2.2.2.block w.heap.size (Array.getElem?_eq_some_iff.1 HG1.out.2.1).1 (by simp)).trans HG1.out.2.1
  have b0 : w2.cell? ⟨w.heap.size, 0, none⟩ = some (.int .i64 b) := by simp [World.cell?, hb2]
  have b1 : w2.cell? ⟨w.heap.size, 1, none⟩ = some (.slice ko kn0 kc) := by simp [World.cell?, hb2]
  have b2 : w2.cell? ⟨w.heap.size, 2, none⟩ = some (.slice so sn0 sc) := by simp [World.cell?, hb2]
  have f0 : w2.frozen? ⟨w.heap.size, 0, none⟩ = false := by simp [World.frozen?, hb2]
  have f1 : w2.frozen? ⟨w.heap.size, 1, none⟩ = false := by simp [World.frozen?, hb2]
  have f2 : w2.frozen? ⟨w.heap.size, 2, none⟩ = false := by simp [World.frozen?, hb2]
  obtain ⟨W3, hW3⟩ : ∃ W3, W3 = ((w2.setCell ⟨w.heap.size, 0, none⟩ (.int .i64 b)).setCell ⟨w.heap.size, 1, none⟩ (.slice oa1 K.length ca1)).setCell ⟨w.heap.size, 2, none⟩ (.slice oa2 S.length ca2) := ⟨_, rfl⟩
  have HA : Hid (AC sv w W3 (.slice oa1 K.length ca1) (.slice oa2 S.length ca2) K S) := by
    have hts := HSV.out
    have e1 := HR.out.1
    have e2 := HR.out.2.1
    have := ac_start (s := sv) HG1.out.2.1 HG1.out.2.2 HG1.out.1 HR.out.2.2.2.2.2 (by rw [hts]; exact e1) (by rw [hts]; exact e2) HR.out.2.2.1 HR.out.2.2.2.1 HR.out.2.2.2.2.1
    rw [hW3]
    rw [HBS.out] at this
    exact this
  have HW3 : Hid (W3 = ((w2.setCell ⟨w.heap.size, 0, none⟩ (.int .i64 b)).setCell ⟨w.heap.size, 1, none⟩ (.slice oa1 K.length ca1)).setCell ⟨w.heap.size, 2, none⟩ (.slice oa2 S.length ca2)) := hW3
  clear HR HG1 HC hb2 hW3 a0 a1 a2
  go_upto_region 4 with fail
  rw [← HW3.out]
  clear b0 b1 b2 f0 f1 f2 HW3
  clear w1 w2
  go_wp2_with fail
  refine (HD.out _ HA.out.cd.grown).mono ?_
  rintro e w4 ⟨gx, cx, rfl, hgx, hOx, hG4⟩
  have GA := grownBy_trans hG4 (World.grownBy_alloc w4 (.cells #[.int .i64 (decCl zs : Int), .int .i64 (decSq zs : Int), .slice (some ⟨gx, 0, none⟩) (len - 8) cx] 32) none)
  have HI : Hid (AI sv w (w4.alloc (.cells #[.int .i64 (decCl zs : Int), .int .i64 (decSq zs : Int), .slice (some ⟨gx, 0, none⟩) (len - 8) cx] 32)) (.slice oa1 K.length ca1) (.slice oa2 S.length ca2) K S w4.heap.size gx (len - 8) cx (decCl zs : Int) (decSq zs : Int) (zs.drop 8)) := by
    have hw3 : w.heap.size + 2 ≤ W3.heap.size := by have := (Array.getElem?_eq_some_iff.1 HA.out.res).1; omega
    refine ⟨HA.out.more GA, heap_alloc_new _ _, hOx.grown (World.grownBy_alloc _ _ none) (by simp), by rw [List.length_drop, HZ.out.2], ⟨by omega, by have := hG4.size; omega⟩, ⟨fun h => ?_, fun h => ?_⟩, fun e => ?_⟩
    · have := (HA.out.cd.rk.lt _ h).2; omega
    · have := (HA.out.cd.rs.lt _ h).2; omega
    · have := (HA.out.cd.rk.row.lt _ e).2; have := hG4.size; omega
  have HLt : Hid (w4.heap.size < (w4.alloc (.cells #[.int .i64 (decCl zs : Int), .int .i64 (decSq zs : Int), .slice (some ⟨gx, 0, none⟩) (len - 8) cx] 32)).heap.size) := by show _ < _; simp
  clear hgx hOx hG4 GA HA HD
  go_upto_region 7 with fail
  generalize w4.alloc (.cells #[.int .i64 (decCl zs : Int), .int .i64 (decSq zs : Int), .slice (some ⟨gx, 0, none⟩) (len - 8) cx] 32) = W5 at *
  generalize w4.heap.size = ix at *
  have HBV : Hid (0 ≤ b ∧ b ≤ 1000000 ∧ K.length ≤ 1000000 ∧ S.length ≤ 50 ∧ risesE 0 S ∧ (∀ x ∈ S, x.c ≤ 50)) := by
    have h1 := ac_bounds HI.out.ac (by rw [HSV.out]; exact HV.out)
    rw [HBS.out] at h1
    exact h1
  obtain ⟨cl, hcl⟩ : ∃ c : Nat, decCl zs = c := ⟨_, rfl⟩
  obtain ⟨sq, hsq⟩ : ∃ c : Nat, decSq zs = c := ⟨_, rfl⟩
  obtain ⟨n, hn⟩ : ∃ c : Nat, len - 8 = c := ⟨_, rfl⟩
  obtain ⟨dd, hdd⟩ : ∃ c, zs.drop 8 = c := ⟨_, rfl⟩
  have HCQ : Hid (decCl zs = cl ∧ decSq zs = sq ∧ len - 8 = n ∧ zs.drop 8 = dd) := ⟨hcl, hsq, hn, hdd⟩
  rw [hcl, hsq, hn, hdd] at HI
  rw [hcl, hsq, hn]
  have hsn : S.length ≤ 50 := HBV.out.2.2.2.1
  clear hcl hsq hn hdd HLt
  have q2 := HI.out.ac.cd.cells.2.2.1
  go_wp2
  go_loopw [39] (fun i wr => ∃ k : Nat, k ≤ S.length ∧ i = .int .i64 (k : Int) ∧ W5.grownBy wr none ∧ ∀ (j : Nat) (x : El), j < k → S[j]? = some x → x.c = (cl : Int) → x.q < (sq : Int)) (fun i _ => S.length - (intOf i).toNat)
  case atStart => exact ⟨0, Nat.zero_le _, rfl, grownBy_refl _ _, fun j x hj => absurd hj (by omega)⟩
  case round =>
    obtain ⟨k, hk, rfl, hGr, hno⟩ := hrel
    have HR : Hid (W5.grownBy wr none ∧ ∀ (j : Nat) (x : El), j < k → S[j]? = some x → x.c = (cl : Int) → x.q < (sq : Int)) := ⟨hGr, hno⟩
    clear hno q2
    by_cases hlt : k < S.length
    · obtain ⟨x, hx⟩ : ∃ x, S[k]? = some x := ⟨_, List.getElem?_eq_getElem hlt⟩
      obtain ⟨gs, hgs, hE⟩ := HI.out.ac.cd.rs.at hx
      subst hgs
      have hAr : ElAt wr 74 3 gs S := hE.kept (fun j hj _ => hGr.block j hj (by simp))
      obtain ⟨n0, n1, n2, hhd, c0, c1, c2, cd⟩ := hAr.get3 hx
      have hkI : (k : Int) < (S.length : Int) := by omega
      have HX : Hid (S[k]? = some x ∧ x.hd = [n0, n1, n2] ∧ SlB wr (oad x.o) x.d.length x.d) := ⟨hx, hhd, (hAr.own k x hx).2.1.sl⟩
      clear hx hhd hAr hE hGr
      go_upto_region 12 with fail
      have GX := World.grownBy_alloc wr (.cells #[.int .i64 n0, .int .i64 n1, .int .i64 n2, .slice (oad x.o) x.d.length x.cp] 74) none
      have HIX : Hid (AI sv w (wr.alloc (.cells #[.int .i64 n0, .int .i64 n1, .int .i64 n2, .slice (oad x.o) x.d.length x.cp] 74)) (.slice oa1 K.length ca1) (.slice (some ⟨gs, 0, none⟩) S.length ca2) K S ix gx n cx (cl : Int) (sq : Int) dd ∧ W5.grownBy (wr.alloc (.cells #[.int .i64 n0, .int .i64 n1, .int .i64 n2, .slice (oad x.o) x.d.length x.cp] 74)) none ∧ SlB (wr.alloc (.cells #[.int .i64 n0, .int .i64 n1, .int .i64 n2, .slice (oad x.o) x.d.length x.cp] 74)) (oad x.o) x.d.length x.d) := ⟨(HI.out.more HR.out.1).more GX, grownBy_trans HR.out.1 GX, HX.out.2.2.grown0 GX⟩
      have hjx : (wr.alloc (.cells #[.int .i64 n0, .int .i64 n1, .int .i64 n2, .slice (oad x.o) x.d.length x.cp] 74)).heap[wr.heap.size]? = some (.cells #[.int .i64 n0, .int .i64 n1, .int .i64 n2, .slice (oad x.o) x.d.length x.cp] 74 (0, 0)) := heap_alloc_new _ _
      have hjw : w.heap.size + 1 < wr.heap.size := (Array.getElem?_eq_some_iff.1 (HI.out.more HR.out.1).ac.res).1
      have HRN : Hid (∀ (j : Nat) (x : El), j < k → S[j]? = some x → x.c = (cl : Int) → x.q < (sq : Int)) := HR.out.2
      have HXX : Hid (S[k]? = some x ∧ x.c = n0 ∧ x.q = n1 ∧ x.i = n2) := ⟨HX.out.1, by simp [El.c, HX.out.2.1], by simp [El.q, HX.out.2.1], by simp [El.i, HX.out.2.1]⟩
      clear GX c0 c1 c2 cd HX HR
      generalize wr.alloc (.cells #[.int .i64 n0, .int .i64 n1, .int .i64 n2, .slice (oad x.o) x.d.length x.cp] 74) = X at *
      generalize wr.heap.size = jx at *
      have u0 : X.cell? ⟨jx, 0, none⟩ = some (.int .i64 n0) := by simp [World.cell?, hjx]
      have u1 : X.cell? ⟨jx, 1, none⟩ = some (.int .i64 n1) := by simp [World.cell?, hjx]
      have u2 : X.cell? ⟨jx, 2, none⟩ = some (.int .i64 n2) := by simp [World.cell?, hjx]
      have u3 : X.cell? ⟨jx, 3, none⟩ = some (.slice (oad x.o) x.d.length x.cp) := by simp [World.cell?, hjx]
      obtain ⟨z0, z1, z2⟩ := HIX.out.1.itC
      have hcv1 : (convert 22 9 (.slice (oad x.o) x.d.length x.cp)).run Tryd.prog X = .ok (.string (strB x.d)) X := run_str_b X Tryd.underlying22 Tryd.underlying5 Tryd.underlying9 HIX.out.2.2 x.cp
      have hcv2 : (convert 22 9 (.slice (some ⟨gx, 0, none⟩) n cx)).run Tryd.prog X = .ok (.string (strB dd)) X := run_str_b X Tryd.underlying22 Tryd.underlying5 Tryd.underlying9 (HIX.out.1.xo.sl n HIX.out.1.xl) cx
      have heq : ((strB x.d).toList == (strB dd).toList) = decide (x.d = dd) := strB_eq x.d dd HIX.out.2.2.2.1 (HIX.out.1.xo.sl n HIX.out.1.xl).2.1
      obtain ⟨q0, q1, q2, q3, q4⟩ := HIX.out.1.ac.cd.cells
      rw [HBS.out] at q0
      obtain ⟨⟨r0, r1, r2⟩, y0, y1, y2⟩ := HIX.out.1.ac.resC
      have HSame : Hid (∀ (pl c : Int) (a0 a1 a2 : Value) (Y : World), Same (((X.setCell ⟨w.heap.size + 1, 0, none⟩ a0).setCell ⟨w.heap.size + 1, 1, none⟩ a1).setCell ⟨w.heap.size + 1, 2, none⟩ a2) Y → ApSays b K S zs pl c (K.map El.tell) (S.map El.tell) → ApPost sv zs w (.returned (.tuple #[.agg #[.int .i64 b, .slice oa1 K.length ca1, .slice (some ⟨gs, 0, none⟩) S.length ca2], .int .i64 pl, .int .i64 c])) Y) := fun pl c a0 a1 a2 Y hY ha => by
        have h := HIX.out.1.ac.post (pl := pl) (c := c) (a0 := a0) (a1 := a1) (a2 := a2) (zs := zs) (by rw [HBS.out]; exact ha)
        rw [HBS.out] at h
        exact h.same hY
      have hn1 : w.heap.size ≠ w.heap.size + 1 := by omega
      have hn2 : jx ≠ w.heap.size + 1 := by omega
      clear hjx HI
      by_cases hc : n0 = (cl : Int)
      · rcases Int.lt_trichotomy n1 (sq : Int) with hq | hq | hq
        · have t0 : (n0 == (cl : Int)) = true := by simp [hc]
          have t1 : (n1 == (sq : Int)) = false := by simp; omega
          go_wp2
          go_roundw
          case rel => exact ⟨k + 1, by omega, by go_num, HIX.out.2.1, fun j y hj hy hyc => by
            by_cases hjk : j = k
            · subst hjk; rw [HXX.out.1] at hy; obtain rfl := Option.some.inj hy; rw [HXX.out.2.2.1]; exact hq
            · exact HRN.out j y (by omega) hy hyc⟩
          case measure => simp [intOf]; omega
        · have t0 : (n0 == (cl : Int)) = true := by simp [hc]
          have t1 : (n1 == (sq : Int)) = true := by simp [hq]
          have HSP : Hid (Spot S (decCl zs : Int) k) := by
            have h1 := spot_at HBV.out.2.2.2.2.1 HXX.out.1
            rw [HXX.out.2.1, hc] at h1
            rw [HCQ.out.1]
            exact h1
          by_cases hds : x.d = dd
          · have t2 : ((strB x.d).toList == (strB dd).toList) = true := by rw [heq]; simp [hds]
            have HDS : Hid (x.d = dd) := hds
            clear heq hds
            go_wp2_with fail
            go_region_held3 (fun W => W.cell? ⟨w.heap.size, 0, none⟩ = some (.int .i64 b) ∧ W.cell? ⟨w.heap.size, 1, none⟩ = some (.slice oa1 K.length ca1) ∧ W.cell? ⟨w.heap.size, 2, none⟩ = some (.slice (some ⟨gs, 0, none⟩) S.length ca2) ∧ W.cell? ⟨jx, 2, none⟩ = some (.int .i64 n2)) (first | exact ⟨q0, q1, q2, u2⟩ | exact ⟨set3_cell q0 hn1, set3_cell q1 hn1, set3_cell q2 hn1, set3_cell u2 hn2⟩ | exact ⟨set3_cell' q0 hn1, set3_cell' q1 hn1, set3_cell' q2 hn1, set3_cell' u2 hn2⟩ | (go_keep; done) | fail) (fail)
            all_goals
              go_wp2
              refine bodyPost_ret (v := .tuple #[.agg #[.int .i64 b, .slice oa1 K.length ca1, .slice (some ⟨gs, 0, none⟩) S.length ca2], .int .i64 n2, .int .i64 0]) (by simp [results, Tryd.results18, go_sem, r0, r1, r2]) rfl ?_
              refine HSame.out n2 0 (.int .i64 b) (.slice oa1 K.length ca1) (.slice (some ⟨gs, 0, none⟩) S.length ca2) _ (by exact ⟨rfl, rfl, rfl, rfl⟩) ?_
              rw [← HXX.out.2.2.2]
              exact .again HZ.out.1 k x HSP.out HXX.out.1 (by rw [HXX.out.2.1, HCQ.out.1]; exact hc) (by rw [HXX.out.2.2.1, HCQ.out.2.1]; omega) ⟨by rw [HXX.out.2.2.1, HCQ.out.2.1]; exact hq.symm, by rw [HCQ.out.2.2.2]; exact HDS.out.symm⟩
          · have t2 : ((strB x.d).toList == (strB dd).toList) = false := by rw [heq]; simp [hds]
            clear heq
            go_wp2
            refine bodyPost_ret (v := .tuple #[.agg #[.int .i64 b, .slice oa1 K.length ca1, .slice (some ⟨gs, 0, none⟩) S.length ca2], .int .i64 0, .int .i64 4]) (by simp [results, Tryd.results18, go_sem, r0, r1, r2]) rfl ?_
            refine HSame.out 0 4 (.int .i64 b) (.slice oa1 K.length ca1) (.slice (some ⟨gs, 0, none⟩) S.length ca2) _ (by exact ⟨rfl, rfl, rfl, rfl⟩) ?_
            exact .exist HZ.out.1 k x HSP.out HXX.out.1 (by rw [HXX.out.2.1, HCQ.out.1]; exact hc) (by rw [HXX.out.2.2.1, HCQ.out.2.1]; omega) (fun h => hds (by have := h.2; rw [HCQ.out.2.2.2] at this; exact this.symm))
        · have t0 : (n0 == (cl : Int)) = true := by simp [hc]
          have t1 : (n1 == (sq : Int)) = false := by simp; omega
          have HSP : Hid (Spot S (decCl zs : Int) k) := by
            have h1 := spot_at HBV.out.2.2.2.2.1 HXX.out.1
            rw [HXX.out.2.1, hc] at h1
            rw [HCQ.out.1]
            exact h1
          clear heq
          go_wp2
          refine bodyPost_ret (v := .tuple #[.agg #[.int .i64 b, .slice oa1 K.length ca1, .slice (some ⟨gs, 0, none⟩) S.length ca2], .int .i64 0, .int .i64 4]) (by simp [results, Tryd.results18, go_sem, r0, r1, r2]) rfl ?_
          refine HSame.out 0 4 (.int .i64 b) (.slice oa1 K.length ca1) (.slice (some ⟨gs, 0, none⟩) S.length ca2) _ (by exact ⟨rfl, rfl, rfl, rfl⟩) ?_
          exact .exist HZ.out.1 k x HSP.out HXX.out.1 (by rw [HXX.out.2.1, HCQ.out.1]; exact hc) (by rw [HXX.out.2.2.1, HCQ.out.2.1]; omega) (fun h => by have := h.1; rw [HXX.out.2.2.1, HCQ.out.2.1] at this; omega)
      · have t0 : (n0 == (cl : Int)) = false := by simp [hc]
        go_wp2
        go_roundw
        case rel => exact ⟨k + 1, by omega, by go_num, HIX.out.2.1, fun j y hj hy hyc => by
          by_cases hjk : j = k
          · subst hjk; rw [HXX.out.1] at hy; obtain rfl := Option.some.inj hy; rw [HXX.out.2.1] at hyc; exact absurd hyc hc
          · exact HRN.out j y (by omega) hy hyc⟩
        case measure => simp [intOf]; omega
    · obtain rfl : k = S.length := by omega
      have HIr : Hid (AI sv w wr (.slice oa1 K.length ca1) (.slice oa2 S.length ca2) K S ix gx n cx (cl : Int) (sq : Int) dd) := HI.out.more hGr
      obtain ⟨q0, q1, q2, q3, q4⟩ := HIr.out.ac.cd.cells
      rw [HBS.out] at q0
      obtain ⟨z0, z1, z2⟩ := HIr.out.itC
      have hb1 := HBV.out.1
      have hb2 := HBV.out.2.1
      have hb3 := HBV.out.2.2.1
      have HNO : Hid (∀ (j : Nat) (x : El), S[j]? = some x → x.c = (cl : Int) → x.q < (sq : Int)) := fun j x hx hc => HR.out.2 j x (List.getElem?_eq_some_iff.1 hx).1 hx hc
      have hwrap : IntKind.i64.wrap (b + (K.length : Int)) = b + (K.length : Int) := IntWalk.i64_in _ (by omega)
      clear HI HR hGr
      by_cases hf : b + (K.length : Int) = 1000000
      · have t0 : ((b + (K.length : Int)) == 1000000) = true := by simp [hf]
        have HF : Hid (b + (K.length : Int) = 1000000) := hf
        obtain ⟨⟨r0, r1, r2⟩, y0, y1, y2⟩ := HIr.out.ac.resC
        clear hf
        go_wp2
        refine bodyPost_ret (v := .tuple #[.agg #[.int .i64 b, .slice oa1 K.length ca1, .slice oa2 S.length ca2], .int .i64 0, .int .i64 6]) (by simp [results, Tryd.results18, go_sem, r0, r1, r2]) rfl ?_
        obtain ⟨ks, hks⟩ := spot_ex S (decCl zs : Int) 0 HBV.out.2.2.2.2.1
        have h := HIr.out.ac.post (pl := 0) (c := 6) (a0 := .int .i64 b) (a1 := .slice oa1 K.length ca1) (a2 := .slice oa2 S.length ca2) (zs := zs) (.full HZ.out.1 ks hks (fun x hx hc => by rw [HCQ.out.2.1]; exact HNO.out ks x hx (by rw [← HCQ.out.1]; exact hc)) (by rw [HBS.out]; exact HF.out))
        rw [HBS.out] at h
        exact h
      · have t0 : ((b + (K.length : Int)) == 1000000) = false := by simp [hf]
        have HF : Hid (b + (K.length : Int) ≠ 1000000) := hf
        have HWL : Hid (w.heap.size + 2 ≤ wr.heap.size) := by
          have h1 := (Array.getElem?_eq_some_iff.1 HIr.out.ac.res).1
          show _ ≤ _
          omega
        clear hf
        obtain ⟨ir, hri, hr0, hr1, hr2⟩ := info_parts Tryd.infoItem
        go_wp2_with (at_builtin; refine wpList_append_own _ rfl _ _ 25 rfl (w.heap.size + 2) 32 ir (.agg #[.int .i64 0, .int .i64 0, .slice none 0 0]) 3 40 Tryd.underlying25 hri hr0 hr1 hr2 rfl (by decide) _ K.length (K.flatMap El.cells) rfl (by exact World.ownsRow.alloc HIr.out.ac.cd.rk.row _) ⟨wr.heap.size, 0, none⟩ 1 1 [.int .i64 (cl : Int), .int .i64 (sq : Int), .slice (some ⟨gx, 0, none⟩) n cx] rfl rfl ?c1 ?c2 ?c3 ?c4 ?c5 ?_)
        case c1 =>
          intro j u hj
          match j, hj with
          | 0, hj => simp at hj; subst hj; simp [Addr.add]
          | 1, hj => simp at hj; subst hj; simp [Addr.add]
          | 2, hj => simp at hj; subst hj; simp [Addr.add]
        case c2 => intro u hu; simp at hu; rcases hu with rfl | rfl | rfl <;> rfl
        case c3 => unfold maxLen; omega
        case c4 => omega
        case c5 => have := HWL.out; simp; omega
        intro v' wa hown' hgrow _
        obtain ⟨gk, ck, rfl⟩ : ∃ g' c', v' = .slice (some ⟨g', 0, none⟩) (K.length + 1) c' := by
          rcases hown'.2 with ⟨_, h'⟩ | ⟨g', cap', cur, h', _⟩
          · omega
          · exact ⟨g', cap', h'⟩
        have HAK : Hid (AK sv w (wa.setCell ⟨w.heap.size, 1, none⟩ (.slice (some ⟨gk, 0, none⟩) (K.length + 1) ck)) (.slice (some ⟨gk, 0, none⟩) (K.length + 1) ck) (.slice oa2 S.length ca2) K S ix gx n cx (cl : Int) (sq : Int) dd) := HIr.out.keep (World.grownBy_alloc _ _ none) hown' hgrow
        have hsv := (HIr.out.more (World.grownBy_alloc wr (.cells #[.int .i64 (cl : Int), .int .i64 (sq : Int), .slice (some ⟨gx, 0, none⟩) n cx] 32) none)).ac.cd.cellsK hgrow
        have p1 : wa.cell? ⟨w.heap.size, 1, none⟩ = some (.slice oa1 K.length ca1) := by simp [World.cell?, hsv]
        have p2 : wa.frozen? ⟨w.heap.size, 1, none⟩ = false := by simp [World.frozen?, hsv]
        clear hown' hgrow hsv HIr q0 q1 q2 q3 q4 z0 z1 z2 hri hr0 hr1 hr2 HWL t0
        clear ir
        go_upto_region 21 with fail
        generalize wa.setCell ⟨w.heap.size, 1, none⟩ (.slice (some ⟨gk, 0, none⟩) (K.length + 1) ck) = W6 at *
        clear p1 p2
        clear wa
        have HIC : Hid (∀ Y : World, W6.grownBy Y none → Y.cell? ⟨ix, 0, none⟩ = some (.int .i64 (cl : Int)) ∧ Y.cell? ⟨ix, 1, none⟩ = some (.int .i64 (sq : Int)) ∧ Y.cell? ⟨ix, 2, none⟩ = some (.slice (some ⟨gx, 0, none⟩) n cx)) := fun Y hY => (HAK.out.more hY).itC
        have HSX : Hid (∀ Y : World, W6.grownBy Y none → SlB Y (some ⟨gx, 0, none⟩) n dd) := fun Y hY => (HAK.out.more hY).xo.sl n HAK.out.xl
        have HZD : Hid (∀ z ∈ dd, z < 256) := (HAK.out.xo.sl n HAK.out.xl).2.1
        have hnm : n ≤ 1073741824 := by have := HCQ.out.2.2.1; omega
        obtain ⟨ib, TB⟩ := byteT
        obtain ⟨ct, hct⟩ : ∃ ct : Int, b + (K.length : Int) = ct := ⟨_, rfl⟩
        have HCT : Hid (b + (K.length : Int) = ct) := hct
        rw [hct] at hwrap ⊢
        clear hct hwrap
        obtain ⟨z0, z1, z2⟩ := HIC.out W6 (grownBy_refl _ _)
        go_cut [12] (fun p wx => MineLaid W6 wx p (cl : Int) (sq : Int) ct n dd)
        case first =>
          as_aux_lemma =>
          go_region_held3 (fun W => W.cell? ⟨ix, 0, none⟩ = some (.int .i64 (cl : Int)) ∧ W.cell? ⟨ix, 1, none⟩ = some (.int .i64 (sq : Int)) ∧ W.cell? ⟨ix, 2, none⟩ = some (.slice (some ⟨gx, 0, none⟩) n cx)) (first | exact HIC.out _ (by repeat (first | exact grownBy_refl _ _ | exact HW3.out | apply grownBy_drew | apply grownBy_alloc | (refine grownBy_setNew ?_ (by simp)) | (refine grownBy_setNew ?_ (by simp; omega)))) | (go_keep; done) | fail)
            (first
              | (refine step_append_b (by rfl) (.tmp 101) (.tmp 103) TB (by rfl) (base := W6.heap.size) (g := W6.heap.size) (n := 0) (cap := 0) (xs := []) (by rfl) (by exact row0 _ _ W6.heap.size _ (Nat.le_refl _) (heap_alloc_new W6 _)) (oa := some ⟨gx, 0, none⟩) (m := n) (c := cx) (zs := dd) (by rfl) (by exact HSX.out _ (by repeat (first | exact grownBy_refl _ _ | apply grownBy_drew | apply grownBy_alloc))) (by omega) (by simp) ?_; intro g3 c3 w3 hown hgr hat hsz; have HW3 : Hid (W6.grownBy w3 none) := (by exact grown_next hgr.out (World.grownBy_alloc W6 _ none) ⟨rfl, rfl, rfl, rfl⟩ (Nat.le_refl _)))
              | (refine step_append_b (by rfl) (.tmp 101) (.tmp 103) TB (by rfl) (base := W6.heap.size) (g := W6.heap.size) (n := 0) (cap := 0) (xs := []) (by rfl) (by exact row0 _ _ W6.heap.size _ (Nat.le_refl _) (push0 W6 _ _)) (oa := some ⟨gx, 0, none⟩) (m := n) (c := cx) (zs := dd) (by rfl) (by exact HSX.out _ (by repeat (first | exact grownBy_refl _ _ | apply grownBy_drew | apply grownBy_alloc))) (by omega) (by simp; omega) ?_; intro g3 c3 w3 hown hgr hat hsz; obtain ⟨hkb, k0, k1, k2, k3, k4, k5, k6, k7⟩ := far4 hgr.out (k := W6.heap.size + 1) (by omega) (push1 W6 _ _); have HW3 : Hid (W6.grownBy w3 none) := (by exact grown_next hgr.out (grownBy_alloc (World.grownBy_alloc W6 _ none) _) ⟨rfl, rfl, rfl, rfl⟩ (Nat.le_refl _)))
              | (refine step_append_b (by rfl) (.tmp 101) (.tmp 103) TB (by rfl) (base := W6.heap.size) (g := W6.heap.size + 1) (n := 0) (cap := 0) (xs := []) (by rfl) (by exact row0 _ _ (W6.heap.size + 1) _ (by omega) (push1 W6 _ _)) (oa := some ⟨gx, 0, none⟩) (m := n) (c := cx) (zs := dd) (by rfl) (by exact HSX.out _ (by repeat (first | exact grownBy_refl _ _ | apply grownBy_drew | apply grownBy_alloc))) (by omega) (by simp; omega) ?_; intro g3 c3 w3 hown hgr hat hsz; obtain ⟨hkb, k0, k1, k2, k3, k4, k5, k6, k7⟩ := far4 hgr.out (k := W6.heap.size) (by omega) (push0 W6 _ _); have HW3 : Hid (W6.grownBy w3 none) := (by exact grown_next hgr.out (grownBy_alloc (World.grownBy_alloc W6 _ none) _) ⟨rfl, rfl, rfl, rfl⟩ (by omega)))
              | fail)
          all_goals
            have hO3 : Own w3 5 g3 dd := by have h1 := hown.out; rw [Nat.zero_add, List.nil_append] at h1; exact own_made h1 HZD.out
            have hg3 := (hown.out.lt g3 rfl).1
            go_wp2_with fail
            go_meet
            case rel =>
              first
                | exact mineLaid_alloc W6 w3 g3 c3 n _ _ _ dd (by omega) hO3 HW3.out
                | exact mineLaid_set W6 w3 _ g3 c3 n _ _ _ dd (by omega) (by omega) (by rcases hat.out with h | h <;> (try simp at h) <;> omega) hkb hO3 HW3.out
        case rest =>
          obtain ⟨im, gd, cd, rfl, hmb, him, hgd, hOd, hG7⟩ := hcut
          have HAK7 : Hid (AK sv w wc (.slice (some ⟨gk, 0, none⟩) (K.length + 1) ck) (.slice oa2 S.length ca2) K S ix gx n cx (cl : Int) (sq : Int) dd ∧ wc.heap[im]? = some (.cells #[.int .i64 (cl : Int), .int .i64 (sq : Int), .int .i64 ct, .slice (some ⟨gd, 0, none⟩) n cd] 74 (0, 0)) ∧ Own wc 5 gd dd ∧ W6.heap.size ≤ gd ∧ W6.grownBy wc none) := ⟨HAK.out.more hG7, hmb, hOd, hgd, hG7⟩
          obtain ⟨z, hz⟩ : ∃ z : El, z = ⟨[(cl : Int), (sq : Int), ct], dd, some gd, cd⟩ := ⟨_, rfl⟩
          have HZE : Hid (z = ⟨[(cl : Int), (sq : Int), ct], dd, some gd, cd⟩ ∧ z.cells = [.int .i64 (cl : Int), .int .i64 (sq : Int), .int .i64 ct, .slice (some ⟨gd, 0, none⟩) n cd]) := ⟨hz, by rw [hz]; simp [El.cells, oad, HAK.out.xl]⟩
          have HCL : Hid (0 < (cl : Int)) := by
            have h1 := HZ.out.1.2
            rw [HCQ.out.1] at h1
            unfold itemOk at h1
            show _ < _
            omega
          obtain ⟨ir, hri, hr0, hr1, hr2⟩ := info_parts Tryd.infoSession
          clear hz hmb hgd hOd hG7 him z0 z1 z2 HSX HZD HIC
          go_wp2
          go_loopw [13, 14] (fun va ci wx => ∃ c : Nat, c ≤ 50 ∧ ci = .int .i64 ((c : Int) + 1) ∧ wc.grownBy wx none ∧ wx.ownsRow wc.heap.size 74 4 va (upTo S (cl : Int) z (c : Int)).length ((upTo S (cl : Int) z (c : Int)).flatMap El.cells)) (fun _ ci _ => 51 - (intOf ci).toNat)
          case atStart =>
            refine ⟨0, by omega, rfl, World.grownBy_alloc _ _ _, ?_⟩
            have h0 := upTo_zero S (cl : Int) z HBV.out.2.2.2.2.1 HCL.out
            show World.ownsRow _ _ _ _ _ (upTo S (cl : Int) z 0).length ((upTo S (cl : Int) z 0).flatMap El.cells)
            rw [h0]
            exact ⟨rfl, .inr ⟨wc.heap.size, 0, #[], rfl, Nat.le_refl _, heap_alloc_new _ _, Nat.le_refl _, Nat.zero_le _, rfl, rfl⟩⟩
          case round =>
            obtain ⟨c, hc, rfl, hGr, hrow⟩ := hrel
            have HR : Hid (wc.grownBy wr none ∧ wr.ownsRow wc.heap.size 74 4 u13 (upTo S (cl : Int) z (c : Int)).length ((upTo S (cl : Int) z (c : Int)).flatMap El.cells)) := ⟨hGr, hrow⟩
            have HAr : Hid (AK sv w wr (.slice (some ⟨gk, 0, none⟩) (K.length + 1) ck) (.slice oa2 S.length ca2) K S ix gx n cx (cl : Int) (sq : Int) dd) := HAK7.out.1.more hGr
            have hmr := (hGr.block im (Array.getElem?_eq_some_iff.1 HAK7.out.2.1).1 (by simp)).trans HAK7.out.2.1
            have HLB : Hid ((upTo S (cl : Int) z (c : Int)).length ≤ 101) := by
              have h1 := upTo_len S (cl : Int) z (c : Int)
              have h2 := HBV.out.2.2.2.1
              show _ ≤ _
              omega
            obtain ⟨z0, z1, z2⟩ := HAr.out.itC
            clear hrow
            by_cases hlt : c < 50
            · have hlI : (c : Int) + 1 ≤ 50 := by omega
              by_cases hcc : (c : Int) + 1 = (cl : Int)
              · have t0 : (((c : Int) + 1) == (cl : Int)) = true := by simp [hcc]
                have HCC : Hid ((c : Int) + 1 = (cl : Int)) := hcc
                have m0 : wr.cell? ⟨im, 0, none⟩ = some (.int .i64 (cl : Int)) := by simp [World.cell?, hmr]
                have m1 : wr.cell? ⟨im, 1, none⟩ = some (.int .i64 (sq : Int)) := by simp [World.cell?, hmr]
                have m2 : wr.cell? ⟨im, 2, none⟩ = some (.int .i64 ct) := by simp [World.cell?, hmr]
                have m3 : wr.cell? ⟨im, 3, none⟩ = some (.slice (some ⟨gd, 0, none⟩) n cd) := by simp [World.cell?, hmr]
                clear hcc hmr
                go_wp2_with (at_builtin; refine wpList_append_own _ rfl _ _ 26 rfl wc.heap.size 74 ir (.agg #[.int .i64 0, .int .i64 0, .int .i64 0, .slice none 0 0]) 4 48 Tryd.underlying26 hri hr0 hr1 hr2 rfl (by decide) _ (upTo S (cl : Int) z (c : Int)).length ((upTo S (cl : Int) z (c : Int)).flatMap El.cells) rfl (by exact World.ownsRow.alloc HR.out.2 _) ⟨wr.heap.size, 0, none⟩ 1 1 [.int .i64 (cl : Int), .int .i64 (sq : Int), .int .i64 ct, .slice (some ⟨gd, 0, none⟩) n cd] rfl rfl ?c1 ?c2 ?c3 ?c4 ?c5 ?_)
                case c1 =>
                  intro j u hj
                  match j, hj with
                  | 0, hj => simp at hj; subst hj; simp [Addr.add]
                  | 1, hj => simp at hj; subst hj; simp [Addr.add]
                  | 2, hj => simp at hj; subst hj; simp [Addr.add]
                  | 3, hj => simp at hj; subst hj; simp [Addr.add]
                case c2 => intro u hu; simp at hu; rcases hu with rfl | rfl | rfl | rfl <;> rfl
                case c3 => have := HLB.out; unfold maxLen; omega
                case c4 => have := HLB.out; omega
                case c5 => have := hGr.size; simp; omega
                intro v' wa hown' hgrow _
                have HN : Hid (wc.grownBy wa none ∧ wa.ownsRow wc.heap.size 74 4 v' (upTo S (cl : Int) z ((c + 1 : Nat) : Int)).length ((upTo S (cl : Int) z ((c + 1 : Nat) : Int)).flatMap El.cells)) := by
                  refine ⟨grownBy_row (grownBy_alloc hGr _) hgrow (fun k e => (HR.out.2.lt k e).1), ?_⟩
                  have h1 := upTo_key S (cl : Int) z (c : Int) HCC.out
                  have h2 : ((c + 1 : Nat) : Int) = (c : Int) + 1 := by omega
                  rw [h2, h1, List.flatMap_append, List.flatMap_singleton, HZE.out.2, List.length_append]
                  exact hown'
                clear hown' hgrow HR HAr HLB z0 z1 z2 m0 m1 m2 m3 hGr
                go_wp2
                go_roundw
                case rel => exact ⟨c + 1, by omega, by go_num, HN.out.1, HN.out.2⟩
                case measure => simp [intOf]; omega
              · have t0 : (((c : Int) + 1) == (cl : Int)) = false := by simp [hcc]
                have q2 := HAr.out.cd.cells.2.2.1
                clear hmr
                go_wp2
                go_loopw [13, 122] (fun va ji wx => ∃ j : Nat, j ≤ S.length ∧ ji = .int .i64 (j : Int) ∧ wc.grownBy wx none ∧ wx.ownsRow wc.heap.size 74 4 va (upTo S (cl : Int) z (c : Int) ++ (S.take j).filter (fun x => decide (x.c = (c : Int) + 1))).length ((upTo S (cl : Int) z (c : Int) ++ (S.take j).filter (fun x => decide (x.c = (c : Int) + 1))).flatMap El.cells)) (fun _ ji _ => S.length - (intOf ji).toNat)
                case atStart => exact ⟨0, Nat.zero_le _, rfl, HR.out.1, by simpa using HR.out.2⟩
                case round =>
                  clear HR
                  obtain ⟨j, hj, rfl, hG2, hrow2⟩ := hrel
                  have HR2 : Hid (wc.grownBy wr none ∧ wr.ownsRow wc.heap.size 74 4 u13 (upTo S (cl : Int) z (c : Int) ++ (S.take j).filter (fun x => decide (x.c = (c : Int) + 1))).length ((upTo S (cl : Int) z (c : Int) ++ (S.take j).filter (fun x => decide (x.c = (c : Int) + 1))).flatMap El.cells)) := ⟨hG2, hrow2⟩
                  clear hrow2 HAr q2 z0 z1 z2
                  by_cases hlt2 : j < S.length
                  · obtain ⟨x, hx⟩ : ∃ x, S[j]? = some x := ⟨_, List.getElem?_eq_getElem hlt2⟩
                    obtain ⟨gs, hgs, hE⟩ := HAK7.out.1.cd.rs.at hx
                    subst hgs
                    have hAr : ElAt wr 74 3 gs S := hE.kept (fun j hj _ => hG2.block j hj (by simp))
                    obtain ⟨n0, n1, n2, hhd, c0, c1, c2, cdx⟩ := hAr.get3 hx
                    have hjI : (j : Int) < (S.length : Int) := by omega
                    have HX : Hid (S[j]? = some x ∧ x.c = n0 ∧ x.cells = [.int .i64 n0, .int .i64 n1, .int .i64 n2, .slice (oad x.o) x.d.length x.cp]) := ⟨hx, by simp [El.c, hhd], by simp [El.cells, hhd]⟩
                    clear hx hhd hAr hE
                    go_upto_region 31 with fail
                    have HR3 : Hid (wc.grownBy (wr.alloc (.cells #[.int .i64 n0, .int .i64 n1, .int .i64 n2, .slice (oad x.o) x.d.length x.cp] 74)) none ∧ (wr.alloc (.cells #[.int .i64 n0, .int .i64 n1, .int .i64 n2, .slice (oad x.o) x.d.length x.cp] 74)).ownsRow wc.heap.size 74 4 u13 (upTo S (cl : Int) z (c : Int) ++ (S.take j).filter (fun x => decide (x.c = (c : Int) + 1))).length ((upTo S (cl : Int) z (c : Int) ++ (S.take j).filter (fun x => decide (x.c = (c : Int) + 1))).flatMap El.cells)) := ⟨grownBy_alloc HR2.out.1 _, World.ownsRow.alloc HR2.out.2 _⟩
                    have hjx : (wr.alloc (.cells #[.int .i64 n0, .int .i64 n1, .int .i64 n2, .slice (oad x.o) x.d.length x.cp] 74)).heap[wr.heap.size]? = some (.cells #[.int .i64 n0, .int .i64 n1, .int .i64 n2, .slice (oad x.o) x.d.length x.cp] 74 (0, 0)) := heap_alloc_new _ _
                    have hjm : x.d.length ≤ x.d.length := Nat.le_refl _
                    clear c0 c1 c2 cdx HR2 hG2
                    generalize wr.alloc (.cells #[.int .i64 n0, .int .i64 n1, .int .i64 n2, .slice (oad x.o) x.d.length x.cp] 74) = X at *
                    generalize wr.heap.size = jx at *
                    have u0 : X.cell? ⟨jx, 0, none⟩ = some (.int .i64 n0) := by simp [World.cell?, hjx]
                    have u1 : X.cell? ⟨jx, 1, none⟩ = some (.int .i64 n1) := by simp [World.cell?, hjx]
                    have u2 : X.cell? ⟨jx, 2, none⟩ = some (.int .i64 n2) := by simp [World.cell?, hjx]
                    have u3 : X.cell? ⟨jx, 3, none⟩ = some (.slice (oad x.o) x.d.length x.cp) := by simp [World.cell?, hjx]
                    clear hjx hjm
                    by_cases hxc : n0 = (c : Int) + 1
                    · have t1 : (n0 == (c : Int) + 1) = true := by simp [hxc]
                      have HLB2 : Hid ((upTo S (cl : Int) z (c : Int) ++ (S.take j).filter (fun x => decide (x.c = (c : Int) + 1))).length ≤ 200) := by
                        have h1 := HLB.out
                        have h2 := List.length_filter_le (fun x : El => decide (x.c = (c : Int) + 1)) (S.take j)
                        have h3 := HBV.out.2.2.2.1
                        have h4 := List.length_take_le j S
                        show _ ≤ _
                        rw [List.length_append]
                        omega
                      have HXC : Hid (n0 = (c : Int) + 1) := hxc
                      have hG3 := HR3.out.1
                      obtain ⟨A, hA⟩ : ∃ A, upTo S (cl : Int) z (c : Int) ++ (S.take j).filter (fun x => decide (x.c = (c : Int) + 1)) = A := ⟨_, rfl⟩
                      have HAE : Hid (upTo S (cl : Int) z (c : Int) ++ (S.take j).filter (fun x => decide (x.c = (c : Int) + 1)) = A) := hA
                      rw [hA] at HR3 HLB2
                      clear hxc hA
                      go_wp2_with (at_builtin; refine wpList_append_own _ rfl _ _ 26 rfl wc.heap.size 74 ir (.agg #[.int .i64 0, .int .i64 0, .int .i64 0, .slice none 0 0]) 4 48 Tryd.underlying26 hri hr0 hr1 hr2 rfl (by decide) _ A.length (A.flatMap El.cells) rfl (by exact World.ownsRow.alloc HR3.out.2 _) ⟨X.heap.size, 0, none⟩ 1 1 [.int .i64 n0, .int .i64 n1, .int .i64 n2, .slice (oad x.o) x.d.length x.cp] rfl rfl ?c1 ?c2 ?c3 ?c4 ?c5 ?_)
                      case c1 =>
                        intro j u hj
                        match j, hj with
                        | 0, hj => simp at hj; subst hj; simp [Addr.add]
                        | 1, hj => simp at hj; subst hj; simp [Addr.add]
                        | 2, hj => simp at hj; subst hj; simp [Addr.add]
                        | 3, hj => simp at hj; subst hj; simp [Addr.add]
                      case c2 => intro u hu; simp at hu; rcases hu with rfl | rfl | rfl | rfl <;> rfl
                      case c3 => have := HLB2.out; unfold maxLen; omega
                      case c4 => have := HLB2.out; omega
                      case c5 => have := hG3.size; simp; omega
                      intro v' wa hown' hgrow _
                      have HN : Hid (wc.grownBy wa none ∧ wa.ownsRow wc.heap.size 74 4 v' (upTo S (cl : Int) z (c : Int) ++ (S.take (j + 1)).filter (fun x => decide (x.c = (c : Int) + 1))).length ((upTo S (cl : Int) z (c : Int) ++ (S.take (j + 1)).filter (fun x => decide (x.c = (c : Int) + 1))).flatMap El.cells)) := by
                        refine ⟨grownBy_row (grownBy_alloc hG3 _) hgrow (fun k e => (HR3.out.2.lt k e).1), ?_⟩
                        rw [filt_take (fun x => decide (x.c = (c : Int) + 1)) HX.out.1, if_pos (by simp only [decide_eq_true_eq]; rw [HX.out.2.1]; exact HXC.out), ← List.append_assoc, HAE.out, List.flatMap_append, List.flatMap_singleton, HX.out.2.2, List.length_append]
                        exact hown'
                      clear hown' hgrow HR3 u0 u1 u2 u3 hG3
                      go_wp2
                      go_roundw
                      case rel => exact ⟨j + 1, by omega, by go_num, HN.out.1, HN.out.2⟩
                      case measure => simp [intOf]; omega
                    · have t1 : (n0 == (c : Int) + 1) = false := by simp [hxc]
                      have HN : Hid (wc.grownBy X none ∧ X.ownsRow wc.heap.size 74 4 u13 (upTo S (cl : Int) z (c : Int) ++ (S.take (j + 1)).filter (fun x => decide (x.c = (c : Int) + 1))).length ((upTo S (cl : Int) z (c : Int) ++ (S.take (j + 1)).filter (fun x => decide (x.c = (c : Int) + 1))).flatMap El.cells)) := by
                        refine ⟨HR3.out.1, ?_⟩
                        rw [filt_take (fun x => decide (x.c = (c : Int) + 1)) HX.out.1, if_neg (by simp only [decide_eq_true_eq]; rw [HX.out.2.1]; exact hxc), List.append_nil]
                        exact HR3.out.2
                      clear HR3 u1 u2 u3
                      go_wp2
                      go_roundw
                      case rel => exact ⟨j + 1, by omega, by go_num, HN.out.1, HN.out.2⟩
                      case measure => simp [intOf]; omega
                  · obtain rfl : j = S.length := by omega
                    have HN : Hid (wc.grownBy wr none ∧ wr.ownsRow wc.heap.size 74 4 u13 (upTo S (cl : Int) z ((c + 1 : Nat) : Int)).length ((upTo S (cl : Int) z ((c + 1 : Nat) : Int)).flatMap El.cells)) := by
                      refine ⟨HR2.out.1, ?_⟩
                      have h1 := upTo_other S (cl : Int) z (c : Int) HBV.out.2.2.2.2.1 hcc
                      have h2 : ((c + 1 : Nat) : Int) = (c : Int) + 1 := by omega
                      have h3 := HR2.out.2
                      rw [List.take_length] at h3
                      rw [h2, h1]
                      exact h3
                    clear HR2 hG2
                    go_wp2
                    go_roundw
                    case rel => exact ⟨c + 1, by omega, by go_num, HN.out.1, HN.out.2⟩
                    case measure => simp [intOf]; omega
            · obtain rfl : c = 50 := by omega
              obtain ⟨oav, cav, hva, -⟩ : ∃ oa' cap', u13 = .slice oa' (upTo S (cl : Int) z ((50 : Nat) : Int)).length cap' ∧ True := by
                rcases HR.out.2.2 with ⟨h1, h2⟩ | ⟨g', cap', cur, h1, _⟩
                · exact ⟨none, 0, by rw [h1, h2], trivial⟩
                · exact ⟨_, _, h1, trivial⟩
              obtain ⟨q0, q1, q2, q3, q4⟩ := HAr.out.cd.cells
              rw [HBS.out] at q0
              obtain ⟨⟨r0, r1, r2⟩, y0, y1, y2⟩ := HAr.out.resC
              obtain ⟨na, hna⟩ : ∃ na, (upTo S (cl : Int) z ((50 : Nat) : Int)).length = na := ⟨_, rfl⟩
              rw [hna] at hva
              have HNA : Hid ((upTo S (cl : Int) z ((50 : Nat) : Int)).length = na) := hna
              subst hva
              have hne1 : w.heap.size ≠ w.heap.size + 1 := by omega
              clear hna hmr hGr z0 z1 z2
              go_wp2
              refine bodyPost_ret (v := .tuple #[.agg #[.int .i64 b, .slice (some ⟨gk, 0, none⟩) (K.length + 1) ck, .slice oav na cav], .int .i64 ct, .int .i64 0]) (by simp [results, Tryd.results18, go_sem, r0, r1, r2]) rfl ?_
              obtain ⟨e1, e2, e3, e4⟩ := HCQ.out
              have e5 := HCT.out
              have e6 := HBS.out
              have e7 := HZE.out.1
              have e8 := HNA.out
              clear HCQ HCT HBS HZE HNA q0 q1 q2 q3 q4 r0 r1 r2 y0 y1 y2
              subst e1 e2 e3 e4 e5 e6 e7 e8
              exact AK.post (cd := cd) (gd := gd) HAK.out HZ.out.1 (grownBy_trans HAK7.out.2.2.2.2 HR.out.1) HAK7.out.2.2.2.2.size HR.out.2 (HAK7.out.2.2.1.grown HR.out.1 (by simp)) HAK7.out.2.2.2.1 HNO.out HF.out HBV.out.2.2.2.2.1 HBV.out.2.2.2.2.2
end Go.Proofs.YtdajcpcajdhplaaDoor

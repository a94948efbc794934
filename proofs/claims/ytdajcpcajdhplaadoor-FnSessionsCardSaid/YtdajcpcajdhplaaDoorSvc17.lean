/-
  SpAp3, ToFull, SvArg, ApTold, Post
-/
import Derived.Test.YtdajcpcajdhplaaDoorSvc16
import Derived.BigQuiet
import Derived.Test.YtdajcpcajdhplaaDoorSvc5
import Derived.Test.YtdajcpcajdhplaaDoorSvc8
import Derived.Test.YtdajcpcajdhplaaDoorSvc11
import Derived.ProofKit
import Derived.OpenShut
import Derived.ChangeOld
import Derived.Below
import Derived.WalkSmall
import Derived.Carry
/-
  The model's Apply, walked: the item is good.
-/
namespace Go.Proofs.YtdajcpcajdhplaaDoor
open Go.RowKit

set_option maxRecDepth 4000 in
set_option maxHeartbeats 8000000 in
theorem specApply_good (s : Sv) (oa : Option Addr) (len : Nat) (zs : List Nat) (w : World) (hsl : SlB w oa len zs) (hm : len ≤ 1073741824) (hd : decGood zs) (hC : ApCalls s w) (hv : ValidV s.b s.K s.S) :
    Calls Tryd.prog 18 #[.agg #[.int .i64 s.b, .slice s.ko s.K.length s.kc, .slice s.so s.S.length s.sc], .slice oa len len] w (ApPost s zs w) := by
  have h0 : len ≠ 0 := by have := hsl.1; have := hd.1; omega
  have HD : Hid (∀ X : World, w.grownBy X none → Calls Tryd.prog 45 #[.slice oa len len] X fun e w' => ∃ g cp, e = .returned (.tuple #[.agg #[.int .i64 (decCl zs : Int), .int .i64 (decSq zs : Int), .slice (some ⟨g, 0, none⟩) (len - 8) cp], .int .i64 0]) ∧ X.heap.size ≤ g ∧ Own w' 5 g (zs.drop 8) ∧ X.grownBy w' none) := fun X hX => specDec_good oa len zs X (hsl.grown0 hX) hm hd
  have HZ : Hid (decGood zs ∧ zs.length = len) := ⟨hd, hsl.1⟩; have HV : Hid (ValidV s.b s.K s.S) := hv; clear hsl hd hv
  have hz0 : ((len : Int) == 0) = false := by simp [h0]
  have HC : Hid (ApCalls s w) := hC; clear hC
  unfold ApCalls at HC
  obtain ⟨b, ko, kc, K0, so, sc, S0⟩ := s; simp only at HC ⊢; obtain ⟨sv, hsv⟩ : ∃ sv : Sv, sv = ⟨b, ko, kc, K0, so, sc, S0⟩ := ⟨_, rfl⟩; have HSV : Hid (sv = ⟨b, ko, kc, K0, so, sc, S0⟩) := hsv; rw [← hsv]
  have hbs : sv.b = b := by rw [hsv]
  have HBS : Hid (sv.b = b) := hbs; clear hsv hbs; generalize K0.length = kn0 at *; generalize S0.length = sn0 at *
  go_enter Tryd.func18, Tryd.ntmps18
  go_wp2_with fail; refine (HC.out.1 _ (grownBy_alloc (World.grownBy_alloc _ _ _) _)).mono ?_; rintro e w1 ⟨rfl, hG1⟩; have hb0 := (hG1.block w.heap.size (by simp; omega) (by simp)).trans ((Below.heap_alloc _ _ _ (by simp)).trans (heap_alloc_new w _)); have hb1 := (hG1.block (w.heap.size + 1) (by simp) (by simp)).trans (heap_two w _ _)
  have a0 : w1.cell? ⟨w.heap.size, 0, none⟩ = some (.int .i64 b) := by simp [World.cell?, hb0]
  have a1 : w1.cell? ⟨w.heap.size, 1, none⟩ = some (.slice ko kn0 kc) := by simp [World.cell?, hb0]
  have a2 : w1.cell? ⟨w.heap.size, 2, none⟩ = some (.slice so sn0 sc) := by simp [World.cell?, hb0]
  have HG1 : Hid (w.grownBy w1 none ∧ w1.heap[w.heap.size]? = some (.cells #[.int .i64 b, .slice ko kn0 kc, .slice so sn0 sc] 28 (0, 0)) ∧ w1.heap[w.heap.size + 1]? = some (.cells #[.int .i64 0, .slice none 0 0, .slice none 0 0] 28 (0, 0))) := ⟨grownBy_trans (grownBy_alloc (World.grownBy_alloc _ _ _) _) hG1, hb0, hb1⟩; clear hb0 hb1 hG1; go_wp2_with fail; refine (HC.out.2 _ HG1.out.1).mono ?_; rintro e w2 ⟨vk, vs, K, S, rfl, HR⟩; obtain ⟨oa1, ca1, hf1, -, -, -, -⟩ := HR.out.2.2.1.elO; obtain ⟨oa2, ca2, hf2, -, -, -, -⟩ := HR.out.2.2.2.1.elO; subst hf1; subst hf2; have hb2 := (HR.out.2.2.2.2.2.block w.heap.size (Array.getElem?_eq_some_iff.1 HG1.out.2.1).1 (by simp)).trans HG1.out.2.1
  have b0 : w2.cell? ⟨w.heap.size, 0, none⟩ = some (.int .i64 b) := by simp [World.cell?, hb2]
  have b1 : w2.cell? ⟨w.heap.size, 1, none⟩ = some (.slice ko kn0 kc) := by simp [World.cell?, hb2]
  have b2 : w2.cell? ⟨w.heap.size, 2, none⟩ = some (.slice so sn0 sc) := by simp [World.cell?, hb2]
  have f0 : w2.frozen? ⟨w.heap.size, 0, none⟩ = false := by simp [World.frozen?, hb2]
  have f1 : w2.frozen? ⟨w.heap.size, 1, none⟩ = false := by simp [World.frozen?, hb2]
  have f2 : w2.frozen? ⟨w.heap.size, 2, none⟩ = false := by simp [World.frozen?, hb2]
  obtain ⟨W3, hW3⟩ : ∃ W3, W3 = ((w2.setCell ⟨w.heap.size, 0, none⟩ (.int .i64 b)).setCell ⟨w.heap.size, 1, none⟩ (.slice oa1 K.length ca1)).setCell ⟨w.heap.size, 2, none⟩ (.slice oa2 S.length ca2) := ⟨_, rfl⟩
  have HA : Hid (AC sv w W3 (.slice oa1 K.length ca1) (.slice oa2 S.length ca2) K S) := by
    have hts := HSV.out; have e1 := HR.out.1; have e2 := HR.out.2.1; have := ac_start (s := sv) HG1.out.2.1 HG1.out.2.2 HG1.out.1 HR.out.2.2.2.2.2 (by rw [hts]; exact e1) (by rw [hts]; exact e2) HR.out.2.2.1 HR.out.2.2.2.1 HR.out.2.2.2.2.1; rw [hW3]; rw [HBS.out] at this; exact this
  have HW3 : Hid (W3 = ((w2.setCell ⟨w.heap.size, 0, none⟩ (.int .i64 b)).setCell ⟨w.heap.size, 1, none⟩ (.slice oa1 K.length ca1)).setCell ⟨w.heap.size, 2, none⟩ (.slice oa2 S.length ca2)) := hW3; clear HR HG1 HC hb2 hW3 a0 a1 a2
  go_upto_region 4 with fail
  rw [← HW3.out]; clear b0 b1 b2 f0 f1 f2 HW3; clear w1 w2; go_wp2_with fail; refine (HD.out _ HA.out.cd.grown).mono ?_; rintro e w4 ⟨gx, cx, rfl, hgx, hOx, hG4⟩; have GA := grownBy_trans hG4 (World.grownBy_alloc w4 (.cells #[.int .i64 (decCl zs : Int), .int .i64 (decSq zs : Int), .slice (some ⟨gx, 0, none⟩) (len - 8) cx] 32) none)
  have HI : Hid (AI sv w (w4.alloc (.cells #[.int .i64 (decCl zs : Int), .int .i64 (decSq zs : Int), .slice (some ⟨gx, 0, none⟩) (len - 8) cx] 32)) (.slice oa1 K.length ca1) (.slice oa2 S.length ca2) K S w4.heap.size gx (len - 8) cx (decCl zs : Int) (decSq zs : Int) (zs.drop 8)) := by
    have hw3 : w.heap.size + 2 ≤ W3.heap.size := by have := (Array.getElem?_eq_some_iff.1 HA.out.res).1; omega
    refine ⟨HA.out.more GA, heap_alloc_new _ _, hOx.grown (World.grownBy_alloc _ _ none) (by simp), by rw [List.length_drop, HZ.out.2], ⟨by omega, by have := hG4.size; omega⟩, ⟨fun h => ?_, fun h => ?_⟩, fun e => ?_⟩
    · have := (HA.out.cd.rk.lt _ h).2; omega
    · have := (HA.out.cd.rs.lt _ h).2; omega
    · have := (HA.out.cd.rk.row.lt _ e).2; have := hG4.size; omega
  have HLt : Hid (w4.heap.size < (w4.alloc (.cells #[.int .i64 (decCl zs : Int), .int .i64 (decSq zs : Int), .slice (some ⟨gx, 0, none⟩) (len - 8) cx] 32)).heap.size) := by show _ < _; simp
  clear hgx hOx hG4 GA HA HD
  go_upto_region 7 with fail
  generalize w4.alloc (.cells #[.int .i64 (decCl zs : Int), .int .i64 (decSq zs : Int), .slice (some ⟨gx, 0, none⟩) (len - 8) cx] 32) = W5 at *; generalize w4.heap.size = ix at *
  have HBV : Hid (0 ≤ b ∧ b ≤ 1000000 ∧ K.length ≤ 1000000 ∧ S.length ≤ 50 ∧ risesE 0 S ∧ (∀ x ∈ S, x.c ≤ 50)) := by
    have h1 := ac_bounds HI.out.ac (by rw [HSV.out]; exact HV.out); rw [HBS.out] at h1; exact h1
  obtain ⟨cl, hcl⟩ : ∃ c : Nat, decCl zs = c := ⟨_, rfl⟩; obtain ⟨sq, hsq⟩ : ∃ c : Nat, decSq zs = c := ⟨_, rfl⟩; obtain ⟨n, hn⟩ : ∃ c : Nat, len - 8 = c := ⟨_, rfl⟩; obtain ⟨dd, hdd⟩ : ∃ c, zs.drop 8 = c := ⟨_, rfl⟩; have HCQ : Hid (decCl zs = cl ∧ decSq zs = sq ∧ len - 8 = n ∧ zs.drop 8 = dd) := ⟨hcl, hsq, hn, hdd⟩; rw [hcl, hsq, hn, hdd] at HI; rw [hcl, hsq, hn]; have hsn : S.length ≤ 50 := HBV.out.2.2.2.1; clear hcl hsq hn hdd HLt; have q2 := HI.out.ac.cd.cells.2.2.1; go_wp2
  go_loopw [39] (fun i wr => ∃ k : Nat, k ≤ S.length ∧ i = .int .i64 (k : Int) ∧ W5.grownBy wr none ∧ ∀ (j : Nat) (x : El), j < k → S[j]? = some x → x.c = (cl : Int) → x.q < (sq : Int)) (fun i _ => S.length - (intOf i).toNat)
  case atStart => exact ⟨0, Nat.zero_le _, rfl, grownBy_refl _ _, fun j x hj => absurd hj (by omega)⟩
  case round =>
    obtain ⟨k, hk, rfl, hGr, hno⟩ := hrel; have HR : Hid (W5.grownBy wr none ∧ ∀ (j : Nat) (x : El), j < k → S[j]? = some x → x.c = (cl : Int) → x.q < (sq : Int)) := ⟨hGr, hno⟩; clear hno q2
    by_cases hlt : k < S.length
    · obtain ⟨x, hx⟩ : ∃ x, S[k]? = some x := ⟨_, List.getElem?_eq_getElem hlt⟩; obtain ⟨gs, hgs, hE⟩ := HI.out.ac.cd.rs.at hx; subst hgs; have hAr : ElAt wr 74 3 gs S := hE.kept (fun j hj _ => hGr.block j hj (by simp)); obtain ⟨n0, n1, n2, hhd, c0, c1, c2, cd⟩ := hAr.get3 hx
      have hkI : (k : Int) < (S.length : Int) := by omega
      have HX : Hid (S[k]? = some x ∧ x.hd = [n0, n1, n2] ∧ SlB wr (oad x.o) x.d.length x.d) := ⟨hx, hhd, (hAr.own k x hx).2.1.sl⟩; clear hx hhd hAr hE hGr
      go_upto_region 12 with fail
      have GX := World.grownBy_alloc wr (.cells #[.int .i64 n0, .int .i64 n1, .int .i64 n2, .slice (oad x.o) x.d.length x.cp] 74) none; have HIX : Hid (AI sv w (wr.alloc (.cells #[.int .i64 n0, .int .i64 n1, .int .i64 n2, .slice (oad x.o) x.d.length x.cp] 74)) (.slice oa1 K.length ca1) (.slice (some ⟨gs, 0, none⟩) S.length ca2) K S ix gx n cx (cl : Int) (sq : Int) dd ∧ W5.grownBy (wr.alloc (.cells #[.int .i64 n0, .int .i64 n1, .int .i64 n2, .slice (oad x.o) x.d.length x.cp] 74)) none ∧ SlB (wr.alloc (.cells #[.int .i64 n0, .int .i64 n1, .int .i64 n2, .slice (oad x.o) x.d.length x.cp] 74)) (oad x.o) x.d.length x.d) := ⟨(HI.out.more HR.out.1).more GX, grownBy_trans HR.out.1 GX, HX.out.2.2.grown0 GX⟩; have hjx : (wr.alloc (.cells #[.int .i64 n0, .int .i64 n1, .int .i64 n2, .slice (oad x.o) x.d.length x.cp] 74)).heap[wr.heap.size]? = some (.cells #[.int .i64 n0, .int .i64 n1, .int .i64 n2, .slice (oad x.o) x.d.length x.cp] 74 (0, 0)) := heap_alloc_new _ _; have hjw : w.heap.size + 1 < wr.heap.size := (Array.getElem?_eq_some_iff.1 (HI.out.more HR.out.1).ac.res).1; have HRN : Hid (∀ (j : Nat) (x : El), j < k → S[j]? = some x → x.c = (cl : Int) → x.q < (sq : Int)) := HR.out.2; have HXX : Hid (S[k]? = some x ∧ x.c = n0 ∧ x.q = n1 ∧ x.i = n2) := ⟨HX.out.1, by simp [El.c, HX.out.2.1], by simp [El.q, HX.out.2.1], by simp [El.i, HX.out.2.1]⟩; clear GX c0 c1 c2 cd HX HR; generalize wr.alloc (.cells #[.int .i64 n0, .int .i64 n1, .int .i64 n2, .slice (oad x.o) x.d.length x.cp] 74) = X at *; generalize wr.heap.size = jx at *
      have u0 : X.cell? ⟨jx, 0, none⟩ = some (.int .i64 n0) := by simp [World.cell?, hjx]
      have u1 : X.cell? ⟨jx, 1, none⟩ = some (.int .i64 n1) := by simp [World.cell?, hjx]
      have u2 : X.cell? ⟨jx, 2, none⟩ = some (.int .i64 n2) := by simp [World.cell?, hjx]
      have u3 : X.cell? ⟨jx, 3, none⟩ = some (.slice (oad x.o) x.d.length x.cp) := by simp [World.cell?, hjx]
      obtain ⟨z0, z1, z2⟩ := HIX.out.1.itC; have hcv1 : (convert 22 9 (.slice (oad x.o) x.d.length x.cp)).run Tryd.prog X = .ok (.string (strB x.d)) X := run_str_b X Tryd.underlying22 Tryd.underlying5 Tryd.underlying9 HIX.out.2.2 x.cp; have hcv2 : (convert 22 9 (.slice (some ⟨gx, 0, none⟩) n cx)).run Tryd.prog X = .ok (.string (strB dd)) X := run_str_b X Tryd.underlying22 Tryd.underlying5 Tryd.underlying9 (HIX.out.1.xo.sl n HIX.out.1.xl) cx; have heq : ((strB x.d).toList == (strB dd).toList) = decide (x.d = dd) := strB_eq x.d dd HIX.out.2.2.2.1 (HIX.out.1.xo.sl n HIX.out.1.xl).2.1; obtain ⟨q0, q1, q2, q3, q4⟩ := HIX.out.1.ac.cd.cells; rw [HBS.out] at q0; obtain ⟨⟨r0, r1, r2⟩, y0, y1, y2⟩ := HIX.out.1.ac.resC
      have HSame : Hid (∀ (pl c : Int) (a0 a1 a2 : Value) (Y : World), Same (((X.setCell ⟨w.heap.size + 1, 0, none⟩ a0).setCell ⟨w.heap.size + 1, 1, none⟩ a1).setCell ⟨w.heap.size + 1, 2, none⟩ a2) Y → ApSays b K S zs pl c (K.map El.tell) (S.map El.tell) → ApPost sv zs w (.returned (.tuple #[.agg #[.int .i64 b, .slice oa1 K.length ca1, .slice (some ⟨gs, 0, none⟩) S.length ca2], .int .i64 pl, .int .i64 c])) Y) := fun pl c a0 a1 a2 Y hY ha => by
        have h := HIX.out.1.ac.post (pl := pl) (c := c) (a0 := a0) (a1 := a1) (a2 := a2) (zs := zs) (by rw [HBS.out]; exact ha); rw [HBS.out] at h; exact h.same hY
      have hn1 : w.heap.size ≠ w.heap.size + 1 := by omega
      have hn2 : jx ≠ w.heap.size + 1 := by omega
      clear hjx HI
      by_cases hc : n0 = (cl : Int)
      · rcases Int.lt_trichotomy n1 (sq : Int) with hq | hq | hq
        · have t0 : (n0 == (cl : Int)) = true := by simp [hc]
          have t1 : (n1 == (sq : Int)) = false := by simp; omega
          go_wp2; go_roundw
          case rel => exact ⟨k + 1, by omega, by go_num, HIX.out.2.1, fun j y hj hy hyc => by
            by_cases hjk : j = k
            · subst hjk; rw [HXX.out.1] at hy; obtain rfl := Option.some.inj hy; rw [HXX.out.2.2.1]; exact hq
            · exact HRN.out j y (by omega) hy hyc⟩
          case measure => simp [intOf]; omega
        · have t0 : (n0 == (cl : Int)) = true := by simp [hc]
          have t1 : (n1 == (sq : Int)) = true := by simp [hq]
          have HSP : Hid (Spot S (decCl zs : Int) k) := by
            have h1 := spot_at HBV.out.2.2.2.2.1 HXX.out.1; rw [HXX.out.2.1, hc] at h1; rw [HCQ.out.1]; exact h1
          by_cases hds : x.d = dd
          · have t2 : ((strB x.d).toList == (strB dd).toList) = true := by rw [heq]; simp [hds]
            have HDS : Hid (x.d = dd) := hds; clear heq hds; go_wp2_with fail
            go_region_held3 (fun W => W.cell? ⟨w.heap.size, 0, none⟩ = some (.int .i64 b) ∧ W.cell? ⟨w.heap.size, 1, none⟩ = some (.slice oa1 K.length ca1) ∧ W.cell? ⟨w.heap.size, 2, none⟩ = some (.slice (some ⟨gs, 0, none⟩) S.length ca2) ∧ W.cell? ⟨jx, 2, none⟩ = some (.int .i64 n2)) (first | exact ⟨q0, q1, q2, u2⟩ | exact ⟨set3_cell q0 hn1, set3_cell q1 hn1, set3_cell q2 hn1, set3_cell u2 hn2⟩ | exact ⟨set3_cell' q0 hn1, set3_cell' q1 hn1, set3_cell' q2 hn1, set3_cell' u2 hn2⟩ | (go_keep; done) | fail) (fail)
            all_goals
              go_wp2; refine bodyPost_ret (v := .tuple #[.agg #[.int .i64 b, .slice oa1 K.length ca1, .slice (some ⟨gs, 0, none⟩) S.length ca2], .int .i64 n2, .int .i64 0]) (by simp [results, Tryd.results18, go_sem, r0, r1, r2]) rfl ?_; refine HSame.out n2 0 (.int .i64 b) (.slice oa1 K.length ca1) (.slice (some ⟨gs, 0, none⟩) S.length ca2) _ (by exact ⟨rfl, rfl, rfl, rfl⟩) ?_; rw [← HXX.out.2.2.2]; exact .again HZ.out.1 k x HSP.out HXX.out.1 (by rw [HXX.out.2.1, HCQ.out.1]; exact hc) (by rw [HXX.out.2.2.1, HCQ.out.2.1]; omega) ⟨by rw [HXX.out.2.2.1, HCQ.out.2.1]; exact hq.symm, by rw [HCQ.out.2.2.2]; exact HDS.out.symm⟩
          · have t2 : ((strB x.d).toList == (strB dd).toList) = false := by rw [heq]; simp [hds]
            clear heq; go_wp2; refine bodyPost_ret (v := .tuple #[.agg #[.int .i64 b, .slice oa1 K.length ca1, .slice (some ⟨gs, 0, none⟩) S.length ca2], .int .i64 0, .int .i64 4]) (by simp [results, Tryd.results18, go_sem, r0, r1, r2]) rfl ?_; refine HSame.out 0 4 (.int .i64 b) (.slice oa1 K.length ca1) (.slice (some ⟨gs, 0, none⟩) S.length ca2) _ (by exact ⟨rfl, rfl, rfl, rfl⟩) ?_; exact .exist HZ.out.1 k x HSP.out HXX.out.1 (by rw [HXX.out.2.1, HCQ.out.1]; exact hc) (by rw [HXX.out.2.2.1, HCQ.out.2.1]; omega) (fun h => hds (by have := h.2; rw [HCQ.out.2.2.2] at this; exact this.symm))
        · have t0 : (n0 == (cl : Int)) = true := by simp [hc]
          have t1 : (n1 == (sq : Int)) = false := by simp; omega
          have HSP : Hid (Spot S (decCl zs : Int) k) := by
            have h1 := spot_at HBV.out.2.2.2.2.1 HXX.out.1; rw [HXX.out.2.1, hc] at h1; rw [HCQ.out.1]; exact h1
          clear heq; go_wp2; refine bodyPost_ret (v := .tuple #[.agg #[.int .i64 b, .slice oa1 K.length ca1, .slice (some ⟨gs, 0, none⟩) S.length ca2], .int .i64 0, .int .i64 4]) (by simp [results, Tryd.results18, go_sem, r0, r1, r2]) rfl ?_; refine HSame.out 0 4 (.int .i64 b) (.slice oa1 K.length ca1) (.slice (some ⟨gs, 0, none⟩) S.length ca2) _ (by exact ⟨rfl, rfl, rfl, rfl⟩) ?_; exact .exist HZ.out.1 k x HSP.out HXX.out.1 (by rw [HXX.out.2.1, HCQ.out.1]; exact hc) (by rw [HXX.out.2.2.1, HCQ.out.2.1]; omega) (fun h => by have := h.1; rw [HXX.out.2.2.1, HCQ.out.2.1] at this; omega)
      · have t0 : (n0 == (cl : Int)) = false := by simp [hc]
        go_wp2; go_roundw
        case rel => exact ⟨k + 1, by omega, by go_num, HIX.out.2.1, fun j y hj hy hyc => by
          by_cases hjk : j = k
          · subst hjk; rw [HXX.out.1] at hy; obtain rfl := Option.some.inj hy; rw [HXX.out.2.1] at hyc; exact absurd hyc hc
          · exact HRN.out j y (by omega) hy hyc⟩
        case measure => simp [intOf]; omega
    · obtain rfl : k = S.length := by omega
      have HIr : Hid (AI sv w wr (.slice oa1 K.length ca1) (.slice oa2 S.length ca2) K S ix gx n cx (cl : Int) (sq : Int) dd) := HI.out.more hGr; obtain ⟨q0, q1, q2, q3, q4⟩ := HIr.out.ac.cd.cells; rw [HBS.out] at q0; obtain ⟨z0, z1, z2⟩ := HIr.out.itC; have hb1 := HBV.out.1; have hb2 := HBV.out.2.1; have hb3 := HBV.out.2.2.1
      have HNO : Hid (∀ (j : Nat) (x : El), S[j]? = some x → x.c = (cl : Int) → x.q < (sq : Int)) := fun j x hx hc => HR.out.2 j x (List.getElem?_eq_some_iff.1 hx).1 hx hc
      have hwrap : IntKind.i64.wrap (b + (K.length : Int)) = b + (K.length : Int) := IntWalk.i64_in _ (by omega); clear HI HR hGr
      by_cases hf : b + (K.length : Int) = 1000000
      · have t0 : ((b + (K.length : Int)) == 1000000) = true := by simp [hf]
        have HF : Hid (b + (K.length : Int) = 1000000) := hf; obtain ⟨⟨r0, r1, r2⟩, y0, y1, y2⟩ := HIr.out.ac.resC; clear hf; go_wp2; refine bodyPost_ret (v := .tuple #[.agg #[.int .i64 b, .slice oa1 K.length ca1, .slice oa2 S.length ca2], .int .i64 0, .int .i64 6]) (by simp [results, Tryd.results18, go_sem, r0, r1, r2]) rfl ?_; obtain ⟨ks, hks⟩ := spot_ex S (decCl zs : Int) 0 HBV.out.2.2.2.2.1; have h := HIr.out.ac.post (pl := 0) (c := 6) (a0 := .int .i64 b) (a1 := .slice oa1 K.length ca1) (a2 := .slice oa2 S.length ca2) (zs := zs) (.full HZ.out.1 ks hks (fun x hx hc => by rw [HCQ.out.2.1]; exact HNO.out ks x hx (by rw [← HCQ.out.1]; exact hc)) (by rw [HBS.out]; exact HF.out)); rw [HBS.out] at h; exact h
      · have t0 : ((b + (K.length : Int)) == 1000000) = false := by simp [hf]
        have HF : Hid (b + (K.length : Int) ≠ 1000000) := hf
        have HWL : Hid (w.heap.size + 2 ≤ wr.heap.size) := by
          have h1 := (Array.getElem?_eq_some_iff.1 HIr.out.ac.res).1
          show _ ≤ _
          omega
        clear hf; obtain ⟨ir, hri, hr0, hr1, hr2⟩ := info_parts Tryd.infoItem
        go_wp2_with (at_builtin; refine wpList_append_own _ rfl _ _ 25 rfl (w.heap.size + 2) 32 ir (.agg #[.int .i64 0, .int .i64 0, .slice none 0 0]) 3 40 Tryd.underlying25 hri hr0 hr1 hr2 rfl (by decide) _ K.length (K.flatMap El.cells) rfl (by exact World.ownsRow.alloc HIr.out.ac.cd.rk.row _) ⟨wr.heap.size, 0, none⟩ 1 1 [.int .i64 (cl : Int), .int .i64 (sq : Int), .slice (some ⟨gx, 0, none⟩) n cx] rfl rfl ?c1 ?c2 ?c3 ?c4 ?c5 ?_)
        case c1 =>
          intro j u hj
          match j, hj with
          | 0, hj => simp at hj; subst hj; simp [Addr.add]
          | 1, hj => simp at hj; subst hj; simp [Addr.add]
          | 2, hj => simp at hj; subst hj; simp [Addr.add]
        case c2 => intro u hu; simp at hu; rcases hu with rfl | rfl | rfl <;> rfl
        case c3 => unfold maxLen; omega
        case c4 => omega
        case c5 => have := HWL.out; simp; omega
        intro v' wa hown' hgrow _
        obtain ⟨gk, ck, rfl⟩ : ∃ g' c', v' = .slice (some ⟨g', 0, none⟩) (K.length + 1) c' := by
          rcases hown'.2 with ⟨_, h'⟩ | ⟨g', cap', cur, h', _⟩
          · omega
          · exact ⟨g', cap', h'⟩
        have HAK : Hid (AK sv w (wa.setCell ⟨w.heap.size, 1, none⟩ (.slice (some ⟨gk, 0, none⟩) (K.length + 1) ck)) (.slice (some ⟨gk, 0, none⟩) (K.length + 1) ck) (.slice oa2 S.length ca2) K S ix gx n cx (cl : Int) (sq : Int) dd) := HIr.out.keep (World.grownBy_alloc _ _ none) hown' hgrow; have hsv := (HIr.out.more (World.grownBy_alloc wr (.cells #[.int .i64 (cl : Int), .int .i64 (sq : Int), .slice (some ⟨gx, 0, none⟩) n cx] 32) none)).ac.cd.cellsK hgrow
        have p1 : wa.cell? ⟨w.heap.size, 1, none⟩ = some (.slice oa1 K.length ca1) := by simp [World.cell?, hsv]
        have p2 : wa.frozen? ⟨w.heap.size, 1, none⟩ = false := by simp [World.frozen?, hsv]
        clear hown' hgrow hsv HIr q0 q1 q2 q3 q4 z0 z1 z2 hri hr0 hr1 hr2 HWL t0; clear ir
        go_upto_region 21 with fail
        generalize wa.setCell ⟨w.heap.size, 1, none⟩ (.slice (some ⟨gk, 0, none⟩) (K.length + 1) ck) = W6 at *; clear p1 p2; clear wa
        have HIC : Hid (∀ Y : World, W6.grownBy Y none → Y.cell? ⟨ix, 0, none⟩ = some (.int .i64 (cl : Int)) ∧ Y.cell? ⟨ix, 1, none⟩ = some (.int .i64 (sq : Int)) ∧ Y.cell? ⟨ix, 2, none⟩ = some (.slice (some ⟨gx, 0, none⟩) n cx)) := fun Y hY => (HAK.out.more hY).itC
        have HSX : Hid (∀ Y : World, W6.grownBy Y none → SlB Y (some ⟨gx, 0, none⟩) n dd) := fun Y hY => (HAK.out.more hY).xo.sl n HAK.out.xl
        have HZD : Hid (∀ z ∈ dd, z < 256) := (HAK.out.xo.sl n HAK.out.xl).2.1
        have hnm : n ≤ 1073741824 := by have := HCQ.out.2.2.1; omega
        obtain ⟨ib, TB⟩ := byteT; obtain ⟨ct, hct⟩ : ∃ ct : Int, b + (K.length : Int) = ct := ⟨_, rfl⟩; have HCT : Hid (b + (K.length : Int) = ct) := hct; rw [hct] at hwrap ⊢; clear hct hwrap; obtain ⟨z0, z1, z2⟩ := HIC.out W6 (grownBy_refl _ _)
        go_cut [12] (fun p wx => MineLaid W6 wx p (cl : Int) (sq : Int) ct n dd)
        case first =>
          as_aux_lemma =>
          go_region_held3 (fun W => W.cell? ⟨ix, 0, none⟩ = some (.int .i64 (cl : Int)) ∧ W.cell? ⟨ix, 1, none⟩ = some (.int .i64 (sq : Int)) ∧ W.cell? ⟨ix, 2, none⟩ = some (.slice (some ⟨gx, 0, none⟩) n cx)) (first | exact HIC.out _ (by repeat (first | exact grownBy_refl _ _ | exact HW3.out | apply grownBy_drew | apply grownBy_alloc | (refine grownBy_setNew ?_ (by simp)) | (refine grownBy_setNew ?_ (by simp; omega)))) | (go_keep; done) | fail)
            (first
              | (refine step_append_b (by rfl) (.tmp 101) (.tmp 103) TB (by rfl) (base := W6.heap.size) (g := W6.heap.size) (n := 0) (cap := 0) (xs := []) (by rfl) (by exact row0 _ _ W6.heap.size _ (Nat.le_refl _) (heap_alloc_new W6 _)) (oa := some ⟨gx, 0, none⟩) (m := n) (c := cx) (zs := dd) (by rfl) (by exact HSX.out _ (by repeat (first | exact grownBy_refl _ _ | apply grownBy_drew | apply grownBy_alloc))) (by omega) (by simp) ?_; intro g3 c3 w3 hown hgr hat hsz; have HW3 : Hid (W6.grownBy w3 none) := (by exact grown_next hgr.out (World.grownBy_alloc W6 _ none) ⟨rfl, rfl, rfl, rfl⟩ (Nat.le_refl _)))
              | (refine step_append_b (by rfl) (.tmp 101) (.tmp 103) TB (by rfl) (base := W6.heap.size) (g := W6.heap.size) (n := 0) (cap := 0) (xs := []) (by rfl) (by exact row0 _ _ W6.heap.size _ (Nat.le_refl _) (push0 W6 _ _)) (oa := some ⟨gx, 0, none⟩) (m := n) (c := cx) (zs := dd) (by rfl) (by exact HSX.out _ (by repeat (first | exact grownBy_refl _ _ | apply grownBy_drew | apply grownBy_alloc))) (by omega) (by simp; omega) ?_; intro g3 c3 w3 hown hgr hat hsz; obtain ⟨hkb, k0, k1, k2, k3, k4, k5, k6, k7⟩ := far4 hgr.out (k := W6.heap.size + 1) (by omega) (push1 W6 _ _); have HW3 : Hid (W6.grownBy w3 none) := (by exact grown_next hgr.out (grownBy_alloc (World.grownBy_alloc W6 _ none) _) ⟨rfl, rfl, rfl, rfl⟩ (Nat.le_refl _)))
              | (refine step_append_b (by rfl) (.tmp 101) (.tmp 103) TB (by rfl) (base := W6.heap.size) (g := W6.heap.size + 1) (n := 0) (cap := 0) (xs := []) (by rfl) (by exact row0 _ _ (W6.heap.size + 1) _ (by omega) (push1 W6 _ _)) (oa := some ⟨gx, 0, none⟩) (m := n) (c := cx) (zs := dd) (by rfl) (by exact HSX.out _ (by repeat (first | exact grownBy_refl _ _ | apply grownBy_drew | apply grownBy_alloc))) (by omega) (by simp; omega) ?_; intro g3 c3 w3 hown hgr hat hsz; obtain ⟨hkb, k0, k1, k2, k3, k4, k5, k6, k7⟩ := far4 hgr.out (k := W6.heap.size) (by omega) (push0 W6 _ _); have HW3 : Hid (W6.grownBy w3 none) := (by exact grown_next hgr.out (grownBy_alloc (World.grownBy_alloc W6 _ none) _) ⟨rfl, rfl, rfl, rfl⟩ (by omega)))
              | fail)
          all_goals
            have hO3 : Own w3 5 g3 dd := by have h1 := hown.out; rw [Nat.zero_add, List.nil_append] at h1; exact own_made h1 HZD.out
            have hg3 := (hown.out.lt g3 rfl).1; go_wp2_with fail; go_meet
            case rel =>
              first
                | exact mineLaid_alloc W6 w3 g3 c3 n _ _ _ dd (by omega) hO3 HW3.out
                | exact mineLaid_set W6 w3 _ g3 c3 n _ _ _ dd (by omega) (by omega) (by rcases hat.out with h | h <;> (try simp at h) <;> omega) hkb hO3 HW3.out
        case rest =>
          obtain ⟨im, gd, cd, rfl, hmb, him, hgd, hOd, hG7⟩ := hcut; have HAK7 : Hid (AK sv w wc (.slice (some ⟨gk, 0, none⟩) (K.length + 1) ck) (.slice oa2 S.length ca2) K S ix gx n cx (cl : Int) (sq : Int) dd ∧ wc.heap[im]? = some (.cells #[.int .i64 (cl : Int), .int .i64 (sq : Int), .int .i64 ct, .slice (some ⟨gd, 0, none⟩) n cd] 74 (0, 0)) ∧ Own wc 5 gd dd ∧ W6.heap.size ≤ gd ∧ W6.grownBy wc none) := ⟨HAK.out.more hG7, hmb, hOd, hgd, hG7⟩; obtain ⟨z, hz⟩ : ∃ z : El, z = ⟨[(cl : Int), (sq : Int), ct], dd, some gd, cd⟩ := ⟨_, rfl⟩; have HZE : Hid (z = ⟨[(cl : Int), (sq : Int), ct], dd, some gd, cd⟩ ∧ z.cells = [.int .i64 (cl : Int), .int .i64 (sq : Int), .int .i64 ct, .slice (some ⟨gd, 0, none⟩) n cd]) := ⟨hz, by rw [hz]; simp [El.cells, oad, HAK.out.xl]⟩
          have HCL : Hid (0 < (cl : Int)) := by
            have h1 := HZ.out.1.2; rw [HCQ.out.1] at h1
            unfold itemOk at h1
            show _ < _
            omega
          obtain ⟨ir, hri, hr0, hr1, hr2⟩ := info_parts Tryd.infoSession; clear hz hmb hgd hOd hG7 him z0 z1 z2 HSX HZD HIC; go_wp2
          go_loopw [13, 14] (fun va ci wx => ∃ c : Nat, c ≤ 50 ∧ ci = .int .i64 ((c : Int) + 1) ∧ wc.grownBy wx none ∧ wx.ownsRow wc.heap.size 74 4 va (upTo S (cl : Int) z (c : Int)).length ((upTo S (cl : Int) z (c : Int)).flatMap El.cells)) (fun _ ci _ => 51 - (intOf ci).toNat)
          case atStart =>
            refine ⟨0, by omega, rfl, World.grownBy_alloc _ _ _, ?_⟩; have h0 := upTo_zero S (cl : Int) z HBV.out.2.2.2.2.1 HCL.out
            show World.ownsRow _ _ _ _ _ (upTo S (cl : Int) z 0).length ((upTo S (cl : Int) z 0).flatMap El.cells)
            rw [h0]; exact ⟨rfl, .inr ⟨wc.heap.size, 0, #[], rfl, Nat.le_refl _, heap_alloc_new _ _, Nat.le_refl _, Nat.zero_le _, rfl, rfl⟩⟩
          case round =>
            obtain ⟨c, hc, rfl, hGr, hrow⟩ := hrel; have HR : Hid (wc.grownBy wr none ∧ wr.ownsRow wc.heap.size 74 4 u13 (upTo S (cl : Int) z (c : Int)).length ((upTo S (cl : Int) z (c : Int)).flatMap El.cells)) := ⟨hGr, hrow⟩; have HAr : Hid (AK sv w wr (.slice (some ⟨gk, 0, none⟩) (K.length + 1) ck) (.slice oa2 S.length ca2) K S ix gx n cx (cl : Int) (sq : Int) dd) := HAK7.out.1.more hGr; have hmr := (hGr.block im (Array.getElem?_eq_some_iff.1 HAK7.out.2.1).1 (by simp)).trans HAK7.out.2.1
            have HLB : Hid ((upTo S (cl : Int) z (c : Int)).length ≤ 101) := by
              have h1 := upTo_len S (cl : Int) z (c : Int); have h2 := HBV.out.2.2.2.1
              show _ ≤ _
              omega
            obtain ⟨z0, z1, z2⟩ := HAr.out.itC; clear hrow
            by_cases hlt : c < 50
            · have hlI : (c : Int) + 1 ≤ 50 := by omega
              by_cases hcc : (c : Int) + 1 = (cl : Int)
              · have t0 : (((c : Int) + 1) == (cl : Int)) = true := by simp [hcc]
                have HCC : Hid ((c : Int) + 1 = (cl : Int)) := hcc
                have m0 : wr.cell? ⟨im, 0, none⟩ = some (.int .i64 (cl : Int)) := by simp [World.cell?, hmr]
                have m1 : wr.cell? ⟨im, 1, none⟩ = some (.int .i64 (sq : Int)) := by simp [World.cell?, hmr]
                have m2 : wr.cell? ⟨im, 2, none⟩ = some (.int .i64 ct) := by simp [World.cell?, hmr]
                have m3 : wr.cell? ⟨im, 3, none⟩ = some (.slice (some ⟨gd, 0, none⟩) n cd) := by simp [World.cell?, hmr]
                clear hcc hmr
                go_wp2_with (at_builtin; refine wpList_append_own _ rfl _ _ 26 rfl wc.heap.size 74 ir (.agg #[.int .i64 0, .int .i64 0, .int .i64 0, .slice none 0 0]) 4 48 Tryd.underlying26 hri hr0 hr1 hr2 rfl (by decide) _ (upTo S (cl : Int) z (c : Int)).length ((upTo S (cl : Int) z (c : Int)).flatMap El.cells) rfl (by exact World.ownsRow.alloc HR.out.2 _) ⟨wr.heap.size, 0, none⟩ 1 1 [.int .i64 (cl : Int), .int .i64 (sq : Int), .int .i64 ct, .slice (some ⟨gd, 0, none⟩) n cd] rfl rfl ?c1 ?c2 ?c3 ?c4 ?c5 ?_)
                case c1 =>
                  intro j u hj
                  match j, hj with
                  | 0, hj => simp at hj; subst hj; simp [Addr.add]
                  | 1, hj => simp at hj; subst hj; simp [Addr.add]
                  | 2, hj => simp at hj; subst hj; simp [Addr.add]
                  | 3, hj => simp at hj; subst hj; simp [Addr.add]
                case c2 => intro u hu; simp at hu; rcases hu with rfl | rfl | rfl | rfl <;> rfl
                case c3 => have := HLB.out; unfold maxLen; omega
                case c4 => have := HLB.out; omega
                case c5 => have := hGr.size; simp; omega
                intro v' wa hown' hgrow _
                have HN : Hid (wc.grownBy wa none ∧ wa.ownsRow wc.heap.size 74 4 v' (upTo S (cl : Int) z ((c + 1 : Nat) : Int)).length ((upTo S (cl : Int) z ((c + 1 : Nat) : Int)).flatMap El.cells)) := by
                  refine ⟨grownBy_row (grownBy_alloc hGr _) hgrow (fun k e => (HR.out.2.lt k e).1), ?_⟩; have h1 := upTo_key S (cl : Int) z (c : Int) HCC.out
                  have h2 : ((c + 1 : Nat) : Int) = (c : Int) + 1 := by omega
                  rw [h2, h1, List.flatMap_append, List.flatMap_singleton, HZE.out.2, List.length_append]; exact hown'
                clear hown' hgrow HR HAr HLB z0 z1 z2 m0 m1 m2 m3 hGr; go_wp2; go_roundw
                case rel => exact ⟨c + 1, by omega, by go_num, HN.out.1, HN.out.2⟩
                case measure => simp [intOf]; omega
              · have t0 : (((c : Int) + 1) == (cl : Int)) = false := by simp [hcc]
                have q2 := HAr.out.cd.cells.2.2.1; clear hmr; go_wp2
                go_loopw [13, 122] (fun va ji wx => ∃ j : Nat, j ≤ S.length ∧ ji = .int .i64 (j : Int) ∧ wc.grownBy wx none ∧ wx.ownsRow wc.heap.size 74 4 va (upTo S (cl : Int) z (c : Int) ++ (S.take j).filter (fun x => decide (x.c = (c : Int) + 1))).length ((upTo S (cl : Int) z (c : Int) ++ (S.take j).filter (fun x => decide (x.c = (c : Int) + 1))).flatMap El.cells)) (fun _ ji _ => S.length - (intOf ji).toNat)
                case atStart => exact ⟨0, Nat.zero_le _, rfl, HR.out.1, by simpa using HR.out.2⟩
                case round =>
                  clear HR; obtain ⟨j, hj, rfl, hG2, hrow2⟩ := hrel; have HR2 : Hid (wc.grownBy wr none ∧ wr.ownsRow wc.heap.size 74 4 u13 (upTo S (cl : Int) z (c : Int) ++ (S.take j).filter (fun x => decide (x.c = (c : Int) + 1))).length ((upTo S (cl : Int) z (c : Int) ++ (S.take j).filter (fun x => decide (x.c = (c : Int) + 1))).flatMap El.cells)) := ⟨hG2, hrow2⟩; clear hrow2 HAr q2 z0 z1 z2
                  by_cases hlt2 : j < S.length
                  · obtain ⟨x, hx⟩ : ∃ x, S[j]? = some x := ⟨_, List.getElem?_eq_getElem hlt2⟩; obtain ⟨gs, hgs, hE⟩ := HAK7.out.1.cd.rs.at hx; subst hgs; have hAr : ElAt wr 74 3 gs S := hE.kept (fun j hj _ => hG2.block j hj (by simp)); obtain ⟨n0, n1, n2, hhd, c0, c1, c2, cdx⟩ := hAr.get3 hx
                    have hjI : (j : Int) < (S.length : Int) := by omega
                    have HX : Hid (S[j]? = some x ∧ x.c = n0 ∧ x.cells = [.int .i64 n0, .int .i64 n1, .int .i64 n2, .slice (oad x.o) x.d.length x.cp]) := ⟨hx, by simp [El.c, hhd], by simp [El.cells, hhd]⟩; clear hx hhd hAr hE
                    go_upto_region 31 with fail
                    have HR3 : Hid (wc.grownBy (wr.alloc (.cells #[.int .i64 n0, .int .i64 n1, .int .i64 n2, .slice (oad x.o) x.d.length x.cp] 74)) none ∧ (wr.alloc (.cells #[.int .i64 n0, .int .i64 n1, .int .i64 n2, .slice (oad x.o) x.d.length x.cp] 74)).ownsRow wc.heap.size 74 4 u13 (upTo S (cl : Int) z (c : Int) ++ (S.take j).filter (fun x => decide (x.c = (c : Int) + 1))).length ((upTo S (cl : Int) z (c : Int) ++ (S.take j).filter (fun x => decide (x.c = (c : Int) + 1))).flatMap El.cells)) := ⟨grownBy_alloc HR2.out.1 _, World.ownsRow.alloc HR2.out.2 _⟩; have hjx : (wr.alloc (.cells #[.int .i64 n0, .int .i64 n1, .int .i64 n2, .slice (oad x.o) x.d.length x.cp] 74)).heap[wr.heap.size]? = some (.cells #[.int .i64 n0, .int .i64 n1, .int .i64 n2, .slice (oad x.o) x.d.length x.cp] 74 (0, 0)) := heap_alloc_new _ _; have hjm : x.d.length ≤ x.d.length := Nat.le_refl _; clear c0 c1 c2 cdx HR2 hG2; generalize wr.alloc (.cells #[.int .i64 n0, .int .i64 n1, .int .i64 n2, .slice (oad x.o) x.d.length x.cp] 74) = X at *; generalize wr.heap.size = jx at *
                    have u0 : X.cell? ⟨jx, 0, none⟩ = some (.int .i64 n0) := by simp [World.cell?, hjx]
                    have u1 : X.cell? ⟨jx, 1, none⟩ = some (.int .i64 n1) := by simp [World.cell?, hjx]
                    have u2 : X.cell? ⟨jx, 2, none⟩ = some (.int .i64 n2) := by simp [World.cell?, hjx]
                    have u3 : X.cell? ⟨jx, 3, none⟩ = some (.slice (oad x.o) x.d.length x.cp) := by simp [World.cell?, hjx]
                    clear hjx hjm
                    by_cases hxc : n0 = (c : Int) + 1
                    · have t1 : (n0 == (c : Int) + 1) = true := by simp [hxc]
                      have HLB2 : Hid ((upTo S (cl : Int) z (c : Int) ++ (S.take j).filter (fun x => decide (x.c = (c : Int) + 1))).length ≤ 200) := by
                        have h1 := HLB.out; have h2 := List.length_filter_le (fun x : El => decide (x.c = (c : Int) + 1)) (S.take j); have h3 := HBV.out.2.2.2.1; have h4 := List.length_take_le j S
                        show _ ≤ _
                        rw [List.length_append]
                        omega
                      have HXC : Hid (n0 = (c : Int) + 1) := hxc; have hG3 := HR3.out.1; obtain ⟨A, hA⟩ : ∃ A, upTo S (cl : Int) z (c : Int) ++ (S.take j).filter (fun x => decide (x.c = (c : Int) + 1)) = A := ⟨_, rfl⟩; have HAE : Hid (upTo S (cl : Int) z (c : Int) ++ (S.take j).filter (fun x => decide (x.c = (c : Int) + 1)) = A) := hA; rw [hA] at HR3 HLB2; clear hxc hA
                      go_wp2_with (at_builtin; refine wpList_append_own _ rfl _ _ 26 rfl wc.heap.size 74 ir (.agg #[.int .i64 0, .int .i64 0, .int .i64 0, .slice none 0 0]) 4 48 Tryd.underlying26 hri hr0 hr1 hr2 rfl (by decide) _ A.length (A.flatMap El.cells) rfl (by exact World.ownsRow.alloc HR3.out.2 _) ⟨X.heap.size, 0, none⟩ 1 1 [.int .i64 n0, .int .i64 n1, .int .i64 n2, .slice (oad x.o) x.d.length x.cp] rfl rfl ?c1 ?c2 ?c3 ?c4 ?c5 ?_)
                      case c1 =>
                        intro j u hj
                        match j, hj with
                        | 0, hj => simp at hj; subst hj; simp [Addr.add]
                        | 1, hj => simp at hj; subst hj; simp [Addr.add]
                        | 2, hj => simp at hj; subst hj; simp [Addr.add]
                        | 3, hj => simp at hj; subst hj; simp [Addr.add]
                      case c2 => intro u hu; simp at hu; rcases hu with rfl | rfl | rfl | rfl <;> rfl
                      case c3 => have := HLB2.out; unfold maxLen; omega
                      case c4 => have := HLB2.out; omega
                      case c5 => have := hG3.size; simp; omega
                      intro v' wa hown' hgrow _
                      have HN : Hid (wc.grownBy wa none ∧ wa.ownsRow wc.heap.size 74 4 v' (upTo S (cl : Int) z (c : Int) ++ (S.take (j + 1)).filter (fun x => decide (x.c = (c : Int) + 1))).length ((upTo S (cl : Int) z (c : Int) ++ (S.take (j + 1)).filter (fun x => decide (x.c = (c : Int) + 1))).flatMap El.cells)) := by
                        refine ⟨grownBy_row (grownBy_alloc hG3 _) hgrow (fun k e => (HR3.out.2.lt k e).1), ?_⟩; rw [filt_take (fun x => decide (x.c = (c : Int) + 1)) HX.out.1, if_pos (by simp only [decide_eq_true_eq]; rw [HX.out.2.1]; exact HXC.out), ← List.append_assoc, HAE.out, List.flatMap_append, List.flatMap_singleton, HX.out.2.2, List.length_append]; exact hown'
                      clear hown' hgrow HR3 u0 u1 u2 u3 hG3; go_wp2; go_roundw
                      case rel => exact ⟨j + 1, by omega, by go_num, HN.out.1, HN.out.2⟩
                      case measure => simp [intOf]; omega
                    · have t1 : (n0 == (c : Int) + 1) = false := by simp [hxc]
                      have HN : Hid (wc.grownBy X none ∧ X.ownsRow wc.heap.size 74 4 u13 (upTo S (cl : Int) z (c : Int) ++ (S.take (j + 1)).filter (fun x => decide (x.c = (c : Int) + 1))).length ((upTo S (cl : Int) z (c : Int) ++ (S.take (j + 1)).filter (fun x => decide (x.c = (c : Int) + 1))).flatMap El.cells)) := by
                        refine ⟨HR3.out.1, ?_⟩; rw [filt_take (fun x => decide (x.c = (c : Int) + 1)) HX.out.1, if_neg (by simp only [decide_eq_true_eq]; rw [HX.out.2.1]; exact hxc), List.append_nil]; exact HR3.out.2
                      clear HR3 u1 u2 u3; go_wp2; go_roundw
                      case rel => exact ⟨j + 1, by omega, by go_num, HN.out.1, HN.out.2⟩
                      case measure => simp [intOf]; omega
                  · obtain rfl : j = S.length := by omega
                    have HN : Hid (wc.grownBy wr none ∧ wr.ownsRow wc.heap.size 74 4 u13 (upTo S (cl : Int) z ((c + 1 : Nat) : Int)).length ((upTo S (cl : Int) z ((c + 1 : Nat) : Int)).flatMap El.cells)) := by
                      refine ⟨HR2.out.1, ?_⟩; have h1 := upTo_other S (cl : Int) z (c : Int) HBV.out.2.2.2.2.1 hcc
                      have h2 : ((c + 1 : Nat) : Int) = (c : Int) + 1 := by omega
                      have h3 := HR2.out.2; rw [List.take_length] at h3; rw [h2, h1]; exact h3
                    clear HR2 hG2; go_wp2; go_roundw
                    case rel => exact ⟨c + 1, by omega, by go_num, HN.out.1, HN.out.2⟩
                    case measure => simp [intOf]; omega
            · obtain rfl : c = 50 := by omega
              obtain ⟨oav, cav, hva, -⟩ : ∃ oa' cap', u13 = .slice oa' (upTo S (cl : Int) z ((50 : Nat) : Int)).length cap' ∧ True := by
                rcases HR.out.2.2 with ⟨h1, h2⟩ | ⟨g', cap', cur, h1, _⟩
                · exact ⟨none, 0, by rw [h1, h2], trivial⟩
                · exact ⟨_, _, h1, trivial⟩
              obtain ⟨q0, q1, q2, q3, q4⟩ := HAr.out.cd.cells; rw [HBS.out] at q0; obtain ⟨⟨r0, r1, r2⟩, y0, y1, y2⟩ := HAr.out.resC; obtain ⟨na, hna⟩ : ∃ na, (upTo S (cl : Int) z ((50 : Nat) : Int)).length = na := ⟨_, rfl⟩; rw [hna] at hva; have HNA : Hid ((upTo S (cl : Int) z ((50 : Nat) : Int)).length = na) := hna; subst hva
              have hne1 : w.heap.size ≠ w.heap.size + 1 := by omega
              clear hna hmr hGr z0 z1 z2; go_wp2; refine bodyPost_ret (v := .tuple #[.agg #[.int .i64 b, .slice (some ⟨gk, 0, none⟩) (K.length + 1) ck, .slice oav na cav], .int .i64 ct, .int .i64 0]) (by simp [results, Tryd.results18, go_sem, r0, r1, r2]) rfl ?_; obtain ⟨e1, e2, e3, e4⟩ := HCQ.out; have e5 := HCT.out; have e6 := HBS.out; have e7 := HZE.out.1; have e8 := HNA.out; clear HCQ HCT HBS HZE HNA q0 q1 q2 q3 q4 r0 r1 r2 y0 y1 y2; subst e1 e2 e3 e4 e5 e6 e7 e8; exact AK.post (cd := cd) (gd := gd) HAK.out HZ.out.1 (grownBy_trans HAK7.out.2.2.2.2 HR.out.1) HAK7.out.2.2.2.2.size HR.out.2 (HAK7.out.2.2.1.grown HR.out.1 (by simp)) HAK7.out.2.2.2.1 HNO.out HF.out HBV.out.2.2.2.2.1 HBV.out.2.2.2.2.2
set_option maxRecDepth 4000 in
set_option maxHeartbeats 2000000 in
theorem toItemS_full (oa : Option Addr) (cap : Nat) (A : List Ar) (w : World) (h : ArSl w 2 oa A) (hn : A.length ≤ 1048576) (hd : ∀ x ∈ A, x.len ≤ 1048576) :
    Calls Tryd.prog 46 #[.slice oa A.length cap] w fun e w' => ∃ M, e = .returned (.slice (some ⟨w.heap.size, 0, none⟩) A.length A.length) ∧ ElAt w' 32 2 w.heap.size M ∧ M.map El.tell = A.map Ar.tell ∧ elSome M ∧ (∀ y ∈ M, ∀ b, y.o = some b → w.heap.size < b) ∧ w.grownBy w' none := by
  have HA : Hid (ArSl w 2 oa A ∧ ∀ x ∈ A, x.len ≤ 1048576) := ⟨h, hd⟩; clear h hd; obtain ⟨n, hnn⟩ : ∃ n, A.length = n := ⟨_, rfl⟩; have HN : Hid (A.length = n) := hnn; rw [hnn] at hn ⊢; clear hnn; obtain ⟨i0, hi, hz0, hz1, hz2⟩ := info_parts Tryd.infoItem
  go_enter Tryd.func46, Tryd.ntmps46
  go_wp2_with (at_make; refine wpList_make_full _ rfl (.tmp 6) (.tmp 6) 25 rfl w.heap.size 32 i0 (.agg #[.int .i64 0, .int .i64 0, .slice none 0 0]) 3 Tryd.underlying25 hi hz0 hz1 .i64 .i64 n n n rfl rfl rfl rfl ?cb ?cm (Nat.le_refl _) ?_)
  case cb => rw [hz2]; omega
  case cm => unfold maxLen; omega
  intro w1 hown hgrow
  have HO : Hid (ElAt w1 32 2 w.heap.size (List.replicate n (zEl 2))) := by
    rcases hown.2 with ⟨h0, _⟩ | ⟨g, cap', cur, h0, hb, hg, hc, hm, hs, htake⟩
    · simp at h0
    · simp only [Value.slice.injEq, Option.some.injEq, Addr.mk.injEq, and_true] at h0; obtain ⟨rfl, -, rfl⟩ := h0
      have hcur : ∀ i, i < n * 3 → cur[i]? = (#[.int .i64 0, .int .i64 0, .slice none 0 0] : Array Value)[i % 3]? := by
        intro i hi
        have h1 : cur.toList = (madeCells #[.int .i64 0, .int .i64 0, .slice none 0 0] (n * 3)).toList := by
          have h2 : cur.toList.take (n * 3) = cur.toList := List.take_of_length_le (by simp [hs]); rw [← h2]; exact htake
        have h3 := made_get #[.int .i64 0, .int .i64 0, .slice none 0 0] (n * 3) i hi (by decide); rw [← Array.getElem?_toList, h1, Array.getElem?_toList]; exact h3
      refine ⟨⟨cur, hg, fun i x hx => ?_⟩, fun i x hx => ?_, fun i j x y k hi hj hx hy => ?_⟩
      · obtain ⟨hin, hx'⟩ := List.getElem?_eq_some_iff.1 hx; simp only [List.length_replicate] at hin; rw [List.getElem_replicate] at hx'; subst hx'; refine ⟨fun j m hj => ?_, ?_⟩
        · have hjc := (List.getElem?_eq_some_iff.1 hj).1; simp only [zEl, List.length_replicate] at hjc; rw [hcur _ (by omega), show (i * (2 + 1) + j) % 3 = j by omega]; simp only [zEl] at hj; rw [List.getElem?_replicate, if_pos hjc] at hj
          cases hj
          rcases (show j = 0 ∨ j = 1 by omega) with rfl | rfl <;> rfl
        · rw [hcur _ (by omega), show (i * (2 + 1) + 2) % 3 = 2 by omega]
          rfl
      · obtain ⟨hin, hx'⟩ := List.getElem?_eq_some_iff.1 hx; rw [List.getElem_replicate] at hx'; subst hx'; exact ⟨by simp [zEl], OwnS.none _ _, fun _ => rfl⟩
      · obtain ⟨hin, hx'⟩ := List.getElem?_eq_some_iff.1 hi; rw [List.getElem_replicate] at hx'; subst hx'
        cases hx
  have HG : Hid (w.grownBy w1 none) := hgrow; clear hown hgrow; go_wp2
  go_loopw [4] (fun i wr => ∃ k : Nat, k ≤ n ∧ i = .int .i64 (k : Int) ∧ (∃ M : List El, M.length = n ∧ ElAt wr 32 2 w.heap.size M ∧ (∀ i x, i < k → A[i]? = some x → ∃ y, M[i]? = some y ∧ y.tell = x.tell ∧ y.o ≠ none) ∧ (∀ i, k ≤ i → i < n → M[i]? = some (zEl 2)) ∧ ∀ y ∈ M, ∀ b, y.o = some b → w.heap.size < b) ∧ w.grownBy wr none) (fun i _ => n - (intOf i).toNat)
  case atStart => exact ⟨0, Nat.zero_le _, rfl, ⟨List.replicate n (zEl 2), by simp, HO.out, fun i x hi => absurd hi (by omega), fun i _ hi => by simp [hi], fun y hy b hb => by have := List.eq_of_mem_replicate hy; subst this; cases hb⟩, HG.out⟩
  case round =>
    clear HO HG; obtain ⟨k, hk, rfl, ⟨M, hMl, hM, hM1, hM2, hM3⟩, hG⟩ := hrel; have HM : Hid (M.length = n ∧ ElAt wr 32 2 w.heap.size M ∧ (∀ i x, i < k → A[i]? = some x → ∃ y, M[i]? = some y ∧ y.tell = x.tell ∧ y.o ≠ none) ∧ (∀ i, k ≤ i → i < n → M[i]? = some (zEl 2)) ∧ (∀ y ∈ M, ∀ b, y.o = some b → w.heap.size < b) ∧ w.grownBy wr none) := ⟨hMl, hM, hM1, hM2, hM3, hG⟩; clear hMl hM hM1 hM2 hM3 hG
    by_cases hlt : k < n
    · obtain ⟨x, hx⟩ : ∃ x, A[k]? = some x := ⟨_, List.getElem?_eq_getElem (by rw [HN.out]; exact hlt)⟩; have hAr := HA.out.1.grown HM.out.2.2.2.2.2; obtain ⟨b, off, n0, n1, rfl, hhd, c0, c1, cd⟩ := hAr.get2 hx; obtain ⟨-, -, -, -, -, -, hsl, -⟩ := hAr k x hx; have hxl := HA.out.2 x (List.mem_of_getElem? hx); have HK : Hid (Calls Tryd.prog 71 #[.agg #[.int .i64 n0, .int .i64 n1, .slice x.oa x.len x.cap]] wr fun e w' => ∃ g, e = .returned (.agg #[.int .i64 n0, .int .i64 n1, .slice (some ⟨g, 0, none⟩) x.len x.len]) ∧ wr.heap.size ≤ g ∧ Own w' 5 g x.d ∧ wr.grownBy w' none) := toItem_any n0 n1 x.oa x.len x.cap x.d wr hsl (by omega); have HX : Hid (A[k]? = some x ∧ x.hd = [n0, n1] ∧ x.d.length = x.len) := ⟨hx, hhd, hsl.1⟩; clear hx hhd hsl hAr
      have hkI : (k : Int) < (n : Int) := by omega
      go_wp2_with fail; refine HK.out.mono ?_; rintro e w2 ⟨g2, rfl, hg2, hO2, hG2⟩; have hA2 : ElAt w2 32 2 w.heap.size M := HM.out.2.1.kept (fun j hj _ => hG2.block j hj (by simp)); have hzk := HM.out.2.2.2.1 k (Nat.le_refl _) hlt; have z0 : w2.cell? ⟨w.heap.size, k * 3, none⟩ = some (.int .i64 0) := hA2.cell hzk (j := 0) rfl; have f0 : w2.frozen? ⟨w.heap.size, k * 3, none⟩ = false := hA2.froz _; have z1 : w2.cell? ⟨w.heap.size, k * 3 + 1, none⟩ = some (.int .i64 0) := hA2.cell hzk (j := 1) rfl; have f1 : w2.frozen? ⟨w.heap.size, k * 3 + 1, none⟩ = false := hA2.froz _; have zs : w2.cell? ⟨w.heap.size, k * 3 + 2, none⟩ = some (.slice none 0 0) := hA2.slice hzk; have fs : w2.frozen? ⟨w.heap.size, k * 3 + 2, none⟩ = false := hA2.froz _
      have HR : Hid (∃ M' : List El, M'.length = n ∧ ElAt (((w2.setCell ⟨w.heap.size, k * 3, none⟩ (.int .i64 n0)).setCell ⟨w.heap.size, k * 3 + 1, none⟩ (.int .i64 n1)).setCell ⟨w.heap.size, k * 3 + 2, none⟩ (.slice (some ⟨g2, 0, none⟩) x.len x.len)) 32 2 w.heap.size M' ∧ (∀ i x, i < k + 1 → A[i]? = some x → ∃ y, M'[i]? = some y ∧ y.tell = x.tell ∧ y.o ≠ none) ∧ (∀ i, k + 1 ≤ i → i < n → M'[i]? = some (zEl 2)) ∧ ∀ y ∈ M', ∀ b, y.o = some b → w.heap.size < b) := by
        have hfr : ∀ y ∈ M, y.o ≠ some g2 := fun y hy e => by
          obtain ⟨i, hi⟩ := List.getElem?_of_mem hy; have h1 := (ownS_blk (HM.out.2.1.own i y hi).2.1 e).lt
          omega
        have hkM : k < M.length := by rw [HM.out.1]; exact hlt
        have hgs : w.heap.size < g2 := by have := HM.out.2.1.lt; omega
        have h1 := hA2.setHd (by decide) hzk 0 (by decide) n0; have h2 := h1.setHd (by decide) (List.getElem?_set_self (by first | exact hkM | (simp only [List.length_set]; exact hkM))) 1 (by decide) n1; have hO3 : Own ((w2.setCell ⟨w.heap.size, k * 3, none⟩ (.int .i64 n0)).setCell ⟨w.heap.size, k * 3 + 1, none⟩ (.int .i64 n1)) 5 g2 x.d := ((hO2.setOther (by show g2 ≠ w.heap.size; omega)).setOther (by show g2 ≠ w.heap.size; omega))
        have h3 := h2.setO (by decide) (List.getElem?_set_self (by first | exact hkM | (simp only [List.length_set]; exact hkM))) g2 x.len x.d hO3 (by
          intro y hy e; simp only [List.set_set] at hy
          rcases List.mem_or_eq_of_mem_set hy with h | h
          · exact hfr y h e
          · rw [h] at e; cases e)
        simp only [List.set_set, zEl, List.replicate, List.set_cons_zero, List.set_cons_succ] at h3; rw [HX.out.2.2] at h3; refine ⟨_, ?_, h3, fun i y hi hy => ?_, fun i hi hi2 => ?_, fun y hy b' hb' => ?_⟩
        · rw [List.length_set]; exact HM.out.1
        · by_cases hik : i = k
          · subst hik; refine ⟨_, List.getElem?_set_self hkM, ?_, by simp⟩
            have : y = x := by have h9 := HX.out.1; rw [h9] at hy; exact (Option.some.inj hy).symm
            subst this; simp only [El.tell, Ar.tell, HX.out.2.1]
          · rw [List.getElem?_set_ne (Ne.symm hik)]; exact HM.out.2.2.1 i y (by omega) hy
        · rw [List.getElem?_set_ne (by omega)]; exact HM.out.2.2.2.1 i (by omega) hi2
        · rcases List.mem_or_eq_of_mem_set hy with h | h
          · exact HM.out.2.2.2.2.1 y h b' hb'
          · rw [h] at hb'; simp only [Option.some.injEq] at hb'
            omega
      have HG3 : Hid (w.grownBy (((w2.setCell ⟨w.heap.size, k * 3, none⟩ (.int .i64 n0)).setCell ⟨w.heap.size, k * 3 + 1, none⟩ (.int .i64 n1)).setCell ⟨w.heap.size, k * 3 + 2, none⟩ (.slice (some ⟨g2, 0, none⟩) x.len x.len)) none) := by
        have G := grownBy_trans HM.out.2.2.2.2.2 hG2; exact (grownBy_setNew (grownBy_setNew (grownBy_setNew G (Nat.le_refl _)) (Nat.le_refl _)) (Nat.le_refl _))
      clear hO2 hG2 hA2 hzk HK; go_wp2; go_roundw
      case rel => exact ⟨k + 1, by omega, by go_num, HR.out, HG3.out⟩
      case measure => simp [intOf]; omega
    · obtain rfl : k = n := by omega
      go_wp2; go_ret
      have hall : ∀ i, i < k → ∃ x y, A[i]? = some x ∧ M[i]? = some y ∧ y.tell = x.tell ∧ y.o ≠ none := by
        intro i hi; obtain ⟨x, hx⟩ : ∃ x, A[i]? = some x := ⟨_, List.getElem?_eq_getElem (by rw [HN.out]; exact hi)⟩; obtain ⟨y, hy, e⟩ := HM.out.2.2.1 i x hi hx; exact ⟨x, y, hx, hy, e⟩
      refine ⟨M, rfl, HM.out.2.1, ?_, fun y hy => ?_, HM.out.2.2.2.2.1, HM.out.2.2.2.2.2⟩
      · refine List.ext_getElem? fun i => ?_
        rw [List.getElem?_map, List.getElem?_map]
        by_cases hi : i < k
        · obtain ⟨x, y, hx, hy, e, _⟩ := hall i hi; rw [hx, hy]
          simp [e]
        · rw [List.getElem?_eq_none (by rw [HM.out.1]; omega), List.getElem?_eq_none (by rw [HN.out]; omega)]
          rfl
      · obtain ⟨i, hi⟩ := List.getElem?_of_mem hy
        have hil : i < k := by have := (List.getElem?_eq_some_iff.1 hi).1; have h2 := HM.out.1; omega
        obtain ⟨x, y', hx, hy', e, hne⟩ := hall i hil; rw [hy'] at hi; obtain rfl := Option.some.inj hi; exact hne
set_option maxRecDepth 4000 in
set_option maxHeartbeats 2000000 in
theorem toSessionS_full (oa : Option Addr) (cap : Nat) (A : List Ar) (w : World) (h : ArSl w 3 oa A) (hn : A.length ≤ 1048576) (hd : ∀ x ∈ A, x.len ≤ 1048576) :
    Calls Tryd.prog 47 #[.slice oa A.length cap] w fun e w' => ∃ M, e = .returned (.slice (some ⟨w.heap.size, 0, none⟩) A.length A.length) ∧ ElAt w' 74 3 w.heap.size M ∧ M.map El.tell = A.map Ar.tell ∧ elSome M ∧ (∀ y ∈ M, ∀ b, y.o = some b → w.heap.size < b) ∧ w.grownBy w' none := by
  have HA : Hid (ArSl w 3 oa A ∧ ∀ x ∈ A, x.len ≤ 1048576) := ⟨h, hd⟩; clear h hd; obtain ⟨n, hnn⟩ : ∃ n, A.length = n := ⟨_, rfl⟩; have HN : Hid (A.length = n) := hnn; rw [hnn] at hn ⊢; clear hnn; obtain ⟨i0, hi, hz0, hz1, hz2⟩ := info_parts Tryd.infoSession
  go_enter Tryd.func47, Tryd.ntmps47
  go_wp2_with (at_make; refine wpList_make_full _ rfl (.tmp 6) (.tmp 6) 26 rfl w.heap.size 74 i0 (.agg #[.int .i64 0, .int .i64 0, .int .i64 0, .slice none 0 0]) 4 Tryd.underlying26 hi hz0 hz1 .i64 .i64 n n n rfl rfl rfl rfl ?cb ?cm (Nat.le_refl _) ?_)
  case cb => rw [hz2]; omega
  case cm => unfold maxLen; omega
  intro w1 hown hgrow
  have HO : Hid (ElAt w1 74 3 w.heap.size (List.replicate n (zEl 3))) := by
    rcases hown.2 with ⟨h0, _⟩ | ⟨g, cap', cur, h0, hb, hg, hc, hm, hs, htake⟩
    · simp at h0
    · simp only [Value.slice.injEq, Option.some.injEq, Addr.mk.injEq, and_true] at h0; obtain ⟨rfl, -, rfl⟩ := h0
      have hcur : ∀ i, i < n * 4 → cur[i]? = (#[.int .i64 0, .int .i64 0, .int .i64 0, .slice none 0 0] : Array Value)[i % 4]? := by
        intro i hi
        have h1 : cur.toList = (madeCells #[.int .i64 0, .int .i64 0, .int .i64 0, .slice none 0 0] (n * 4)).toList := by
          have h2 : cur.toList.take (n * 4) = cur.toList := List.take_of_length_le (by simp [hs]); rw [← h2]; exact htake
        have h3 := made_get #[.int .i64 0, .int .i64 0, .int .i64 0, .slice none 0 0] (n * 4) i hi (by decide); rw [← Array.getElem?_toList, h1, Array.getElem?_toList]; exact h3
      refine ⟨⟨cur, hg, fun i x hx => ?_⟩, fun i x hx => ?_, fun i j x y k hi hj hx hy => ?_⟩
      · obtain ⟨hin, hx'⟩ := List.getElem?_eq_some_iff.1 hx; simp only [List.length_replicate] at hin; rw [List.getElem_replicate] at hx'; subst hx'; refine ⟨fun j m hj => ?_, ?_⟩
        · have hjc := (List.getElem?_eq_some_iff.1 hj).1; simp only [zEl, List.length_replicate] at hjc; rw [hcur _ (by omega), show (i * (3 + 1) + j) % 4 = j by omega]; simp only [zEl] at hj; rw [List.getElem?_replicate, if_pos hjc] at hj
          cases hj
          rcases (show j = 0 ∨ j = 1 ∨ j = 2 by omega) with rfl | rfl | rfl <;> rfl
        · rw [hcur _ (by omega), show (i * (3 + 1) + 3) % 4 = 3 by omega]
          rfl
      · obtain ⟨hin, hx'⟩ := List.getElem?_eq_some_iff.1 hx; rw [List.getElem_replicate] at hx'; subst hx'; exact ⟨by simp [zEl], OwnS.none _ _, fun _ => rfl⟩
      · obtain ⟨hin, hx'⟩ := List.getElem?_eq_some_iff.1 hi; rw [List.getElem_replicate] at hx'; subst hx'
        cases hx
  have HG : Hid (w.grownBy w1 none) := hgrow; clear hown hgrow; go_wp2
  go_loopw [4] (fun i wr => ∃ k : Nat, k ≤ n ∧ i = .int .i64 (k : Int) ∧ (∃ M : List El, M.length = n ∧ ElAt wr 74 3 w.heap.size M ∧ (∀ i x, i < k → A[i]? = some x → ∃ y, M[i]? = some y ∧ y.tell = x.tell ∧ y.o ≠ none) ∧ (∀ i, k ≤ i → i < n → M[i]? = some (zEl 3)) ∧ ∀ y ∈ M, ∀ b, y.o = some b → w.heap.size < b) ∧ w.grownBy wr none) (fun i _ => n - (intOf i).toNat)
  case atStart => exact ⟨0, Nat.zero_le _, rfl, ⟨List.replicate n (zEl 3), by simp, HO.out, fun i x hi => absurd hi (by omega), fun i _ hi => by simp [hi], fun y hy b hb => by have := List.eq_of_mem_replicate hy; subst this; cases hb⟩, HG.out⟩
  case round =>
    clear HO HG; obtain ⟨k, hk, rfl, ⟨M, hMl, hM, hM1, hM2, hM3⟩, hG⟩ := hrel; have HM : Hid (M.length = n ∧ ElAt wr 74 3 w.heap.size M ∧ (∀ i x, i < k → A[i]? = some x → ∃ y, M[i]? = some y ∧ y.tell = x.tell ∧ y.o ≠ none) ∧ (∀ i, k ≤ i → i < n → M[i]? = some (zEl 3)) ∧ (∀ y ∈ M, ∀ b, y.o = some b → w.heap.size < b) ∧ w.grownBy wr none) := ⟨hMl, hM, hM1, hM2, hM3, hG⟩; clear hMl hM hM1 hM2 hM3 hG
    by_cases hlt : k < n
    · obtain ⟨x, hx⟩ : ∃ x, A[k]? = some x := ⟨_, List.getElem?_eq_getElem (by rw [HN.out]; exact hlt)⟩; have hAr := HA.out.1.grown HM.out.2.2.2.2.2; obtain ⟨b, off, n0, n1, n2, rfl, hhd, c0, c1, c2, cd⟩ := hAr.get3 hx; obtain ⟨-, -, -, -, -, -, hsl, -⟩ := hAr k x hx; have hxl := HA.out.2 x (List.mem_of_getElem? hx); have HK : Hid (Calls Tryd.prog 72 #[.agg #[.int .i64 n0, .int .i64 n1, .int .i64 n2, .slice x.oa x.len x.cap]] wr fun e w' => ∃ g, e = .returned (.agg #[.int .i64 n0, .int .i64 n1, .int .i64 n2, .slice (some ⟨g, 0, none⟩) x.len x.len]) ∧ wr.heap.size ≤ g ∧ Own w' 5 g x.d ∧ wr.grownBy w' none) := toSession_any n0 n1 n2 x.oa x.len x.cap x.d wr hsl (by omega); have HX : Hid (A[k]? = some x ∧ x.hd = [n0, n1, n2] ∧ x.d.length = x.len) := ⟨hx, hhd, hsl.1⟩; clear hx hhd hsl hAr
      have hkI : (k : Int) < (n : Int) := by omega
      go_wp2_with fail; refine HK.out.mono ?_; rintro e w2 ⟨g2, rfl, hg2, hO2, hG2⟩; have hA2 : ElAt w2 74 3 w.heap.size M := HM.out.2.1.kept (fun j hj _ => hG2.block j hj (by simp)); have hzk := HM.out.2.2.2.1 k (Nat.le_refl _) hlt; have z0 : w2.cell? ⟨w.heap.size, k * 4, none⟩ = some (.int .i64 0) := hA2.cell hzk (j := 0) rfl; have f0 : w2.frozen? ⟨w.heap.size, k * 4, none⟩ = false := hA2.froz _; have z1 : w2.cell? ⟨w.heap.size, k * 4 + 1, none⟩ = some (.int .i64 0) := hA2.cell hzk (j := 1) rfl; have f1 : w2.frozen? ⟨w.heap.size, k * 4 + 1, none⟩ = false := hA2.froz _; have z2 : w2.cell? ⟨w.heap.size, k * 4 + 2, none⟩ = some (.int .i64 0) := hA2.cell hzk (j := 2) rfl; have f2 : w2.frozen? ⟨w.heap.size, k * 4 + 2, none⟩ = false := hA2.froz _; have zs : w2.cell? ⟨w.heap.size, k * 4 + 3, none⟩ = some (.slice none 0 0) := hA2.slice hzk; have fs : w2.frozen? ⟨w.heap.size, k * 4 + 3, none⟩ = false := hA2.froz _
      have HR : Hid (∃ M' : List El, M'.length = n ∧ ElAt ((((w2.setCell ⟨w.heap.size, k * 4, none⟩ (.int .i64 n0)).setCell ⟨w.heap.size, k * 4 + 1, none⟩ (.int .i64 n1)).setCell ⟨w.heap.size, k * 4 + 2, none⟩ (.int .i64 n2)).setCell ⟨w.heap.size, k * 4 + 3, none⟩ (.slice (some ⟨g2, 0, none⟩) x.len x.len)) 74 3 w.heap.size M' ∧ (∀ i x, i < k + 1 → A[i]? = some x → ∃ y, M'[i]? = some y ∧ y.tell = x.tell ∧ y.o ≠ none) ∧ (∀ i, k + 1 ≤ i → i < n → M'[i]? = some (zEl 3)) ∧ ∀ y ∈ M', ∀ b, y.o = some b → w.heap.size < b) := by
        have hfr : ∀ y ∈ M, y.o ≠ some g2 := fun y hy e => by
          obtain ⟨i, hi⟩ := List.getElem?_of_mem hy; have h1 := (ownS_blk (HM.out.2.1.own i y hi).2.1 e).lt
          omega
        have hkM : k < M.length := by rw [HM.out.1]; exact hlt
        have hgs : w.heap.size < g2 := by have := HM.out.2.1.lt; omega
        have h1 := hA2.setHd (by decide) hzk 0 (by decide) n0; have h2 := h1.setHd (by decide) (List.getElem?_set_self (by first | exact hkM | (simp only [List.length_set]; exact hkM))) 1 (by decide) n1; have h3 := h2.setHd (by decide) (List.getElem?_set_self (by first | exact hkM | (simp only [List.length_set]; exact hkM))) 2 (by decide) n2; have hO3 : Own (((w2.setCell ⟨w.heap.size, k * 4, none⟩ (.int .i64 n0)).setCell ⟨w.heap.size, k * 4 + 1, none⟩ (.int .i64 n1)).setCell ⟨w.heap.size, k * 4 + 2, none⟩ (.int .i64 n2)) 5 g2 x.d := (((hO2.setOther (by show g2 ≠ w.heap.size; omega)).setOther (by show g2 ≠ w.heap.size; omega)).setOther (by show g2 ≠ w.heap.size; omega))
        have h4 := h3.setO (by decide) (List.getElem?_set_self (by first | exact hkM | (simp only [List.length_set]; exact hkM))) g2 x.len x.d hO3 (by
          intro y hy e; simp only [List.set_set] at hy
          rcases List.mem_or_eq_of_mem_set hy with h | h
          · exact hfr y h e
          · rw [h] at e; cases e)
        simp only [List.set_set, zEl, List.replicate, List.set_cons_zero, List.set_cons_succ] at h4; rw [HX.out.2.2] at h4; refine ⟨_, ?_, h4, fun i y hi hy => ?_, fun i hi hi2 => ?_, fun y hy b' hb' => ?_⟩
        · rw [List.length_set]; exact HM.out.1
        · by_cases hik : i = k
          · subst hik; refine ⟨_, List.getElem?_set_self hkM, ?_, by simp⟩
            have : y = x := by have h9 := HX.out.1; rw [h9] at hy; exact (Option.some.inj hy).symm
            subst this; simp only [El.tell, Ar.tell, HX.out.2.1]
          · rw [List.getElem?_set_ne (Ne.symm hik)]; exact HM.out.2.2.1 i y (by omega) hy
        · rw [List.getElem?_set_ne (by omega)]; exact HM.out.2.2.2.1 i (by omega) hi2
        · rcases List.mem_or_eq_of_mem_set hy with h | h
          · exact HM.out.2.2.2.2.1 y h b' hb'
          · rw [h] at hb'; simp only [Option.some.injEq] at hb'
            omega
      have HG3 : Hid (w.grownBy ((((w2.setCell ⟨w.heap.size, k * 4, none⟩ (.int .i64 n0)).setCell ⟨w.heap.size, k * 4 + 1, none⟩ (.int .i64 n1)).setCell ⟨w.heap.size, k * 4 + 2, none⟩ (.int .i64 n2)).setCell ⟨w.heap.size, k * 4 + 3, none⟩ (.slice (some ⟨g2, 0, none⟩) x.len x.len)) none) := by
        have G := grownBy_trans HM.out.2.2.2.2.2 hG2; exact (grownBy_setNew (grownBy_setNew (grownBy_setNew (grownBy_setNew G (Nat.le_refl _)) (Nat.le_refl _)) (Nat.le_refl _)) (Nat.le_refl _))
      clear hO2 hG2 hA2 hzk HK; go_wp2; go_roundw
      case rel => exact ⟨k + 1, by omega, by go_num, HR.out, HG3.out⟩
      case measure => simp [intOf]; omega
    · obtain rfl : k = n := by omega
      go_wp2; go_ret
      have hall : ∀ i, i < k → ∃ x y, A[i]? = some x ∧ M[i]? = some y ∧ y.tell = x.tell ∧ y.o ≠ none := by
        intro i hi; obtain ⟨x, hx⟩ : ∃ x, A[i]? = some x := ⟨_, List.getElem?_eq_getElem (by rw [HN.out]; exact hi)⟩; obtain ⟨y, hy, e⟩ := HM.out.2.2.1 i x hi hx; exact ⟨x, y, hx, hy, e⟩
      refine ⟨M, rfl, HM.out.2.1, ?_, fun y hy => ?_, HM.out.2.2.2.2.1, HM.out.2.2.2.2.2⟩
      · refine List.ext_getElem? fun i => ?_
        rw [List.getElem?_map, List.getElem?_map]
        by_cases hi : i < k
        · obtain ⟨x, y, hx, hy, e, _⟩ := hall i hi; rw [hx, hy]
          simp [e]
        · rw [List.getElem?_eq_none (by rw [HM.out.1]; omega), List.getElem?_eq_none (by rw [HN.out]; omega)]
          rfl
      · obtain ⟨i, hi⟩ := List.getElem?_of_mem hy
        have hil : i < k := by have := (List.getElem?_eq_some_iff.1 hi).1; have h2 := HM.out.1; omega
        obtain ⟨x, y', hx, hy', e, hne⟩ := hall i hil; rw [hy'] at hi; obtain rfl := Option.some.inj hi; exact hne
abbrev Told := Int × List (List Int × List Nat) × List (List Int × List Nat)
set_option maxHeartbeats 800000 in
theorem szService_any (b : Int) (ko : Option Addr) (kc : Nat) (A : List Ar) (so : Option Addr) (sc : Nat) (B : List Ar) (w : World) (hA : ArSl w 2 ko A) (hB : ArSl w 3 so B) (hnA : A.length ≤ maxLen) (hnB : B.length ≤ maxLen) :
    Calls Tryd.prog 17 #[.agg #[.int .i64 b, .slice ko A.length kc, .slice so B.length sc], .int .i64 1048576] w fun e w' => ∃ v : Int, e = .returned (.int .i64 v) ∧ ((tot A + tot B ≤ 1048576 ∧ 0 ≤ v ∧ v ≤ 1048576) ∨ (1048576 < tot A + tot B ∧ v = -1)) ∧ w.grownBy w' none := by
  have HA : Hid (∀ X : World, w.grownBy X none → Calls Tryd.prog 41 #[.slice ko A.length kc, .int .i64 1048576] X fun e w' => ∃ v : Int, e = .returned (.int .i64 v) ∧ ((tot A ≤ 1048576 ∧ v = ((1048576 : Nat) : Int) - (tot A : Int)) ∨ (1048576 < tot A ∧ v = -1)) ∧ X.grownBy w' none) := fun X hX => szItemS_any ko kc A 1048576 X (hA.grown hX) hnA (by omega)
  have HB : Hid (∀ (L : Nat) (X : World), L ≤ 1048576 → w.grownBy X none → Calls Tryd.prog 42 #[.slice so B.length sc, .int .i64 (L : Int)] X fun e w' => ∃ v : Int, e = .returned (.int .i64 v) ∧ ((tot B ≤ L ∧ v = (L : Int) - (tot B : Int)) ∨ (L < tot B ∧ v = -1)) ∧ X.grownBy w' none) := fun L X hL hX => szSessionS_any so sc B L X (hB.grown hX) hnB hL
  clear hA hB hnA hnB; generalize A.length = an at *; generalize B.length = bn at *
  go_enter Tryd.func17, Tryd.ntmps17
  go_wp2_with fail; refine (HA.out _ (World.grownBy_alloc _ _ _)).mono ?_; rintro e w1 ⟨v, rfl, hv, hG1⟩
  have hz : w.heap.size < w1.heap.size := by have := hG1.size; simp at this; omega
  have a2 : w1.cell? ⟨w.heap.size, 2, none⟩ = some (.slice so bn sc) := ((bcell hG1).1 _ _ (by simp)).trans (by simp); have HG1 : Hid (w.grownBy w1 none) := grownBy_trans (World.grownBy_alloc _ _ _) hG1; clear hG1
  rcases hv with ⟨h1, rfl⟩ | ⟨h1, rfl⟩
  · obtain ⟨L, hL⟩ : ∃ L : Nat, ((1048576 : Nat) : Int) - (tot A : Int) = (L : Int) := ⟨1048576 - tot A, by omega⟩
    have HL : Hid (tot A + L = 1048576) := by show _ = _; omega
    have hL2 : L ≤ 1048576 := by omega
    rw [hL]; clear hL h1; go_wp2_with fail; refine (HB.out L _ hL2 HG1.out).mono ?_; rintro e w2 ⟨v, rfl, hv, hG2⟩; have R : Hid (w.grownBy w2 none) := grownBy_trans HG1.out hG2; clear hG2
    rcases hv with ⟨h1, rfl⟩ | ⟨h1, rfl⟩
    · obtain ⟨M, hM⟩ : ∃ M : Nat, (L : Int) - (tot B : Int) = (M : Int) := ⟨L - tot B, by omega⟩
      have HM : Hid (tot B + M = L) := by show _ = _; omega
      rw [hM]; clear hM h1; go_wp2; go_ret; exact ⟨(M : Int), rfl, .inl ⟨by have := HM.out; have := HL.out; omega, by omega, by have := HM.out; have := HL.out; omega⟩, R.out⟩
    · have H1 : Hid (L < tot B) := h1; clear h1; go_wp2; go_ret; exact ⟨-1, rfl, .inr ⟨by have := HL.out; have := H1.out; omega, rfl⟩, R.out⟩
  · have H1 : Hid (1048576 < tot A) := h1; clear h1; go_wp2; go_ret; exact ⟨-1, rfl, .inr ⟨by have := H1.out; omega, rfl⟩, HG1.out⟩
/-- fits the laws' room -/
def SvFit (s : Sv) : Prop := s.K.length + (s.K.map (fun x => x.d.length)).sum ≤ 1048576 ∧ s.S.length + (s.S.map (fun x => x.d.length)).sum ≤ 1048576
theorem mem_sum (l : List Nat) (x : Nat) (h : x ∈ l) : x ≤ l.sum := by
  induction l with
  | nil => simp at h
  | cons y l ih =>
    simp only [List.sum_cons]
    rcases List.mem_cons.1 h with rfl | h
    · omega
    · have := ih h; omega
theorem SvFit.small {s : Sv} (h : SvFit s) : SvSmall s := by
  obtain ⟨h1, h2⟩ := h; refine ⟨by omega, by omega, fun x hx => ?_, fun x hx => ?_⟩
  · have := mem_sum _ _ (List.mem_map.2 ⟨x, hx, rfl⟩ : x.d.length ∈ s.K.map (fun x => x.d.length)); omega
  · have := mem_sum _ _ (List.mem_map.2 ⟨x, hx, rfl⟩ : x.d.length ∈ s.S.map (fun x => x.d.length)); omega
theorem eAt_sum (c : Nat) (L : List El) (m k : Nat) : eAt c L m k ≤ m + c * k + ((L.take k).map (fun x => x.d.length)).sum := by
  induction k with
  | zero => simp [eAt]
  | succ k ih =>
    simp only [eAt]
    cases hx : L[k]? with
    | none =>
      have hk : L.length ≤ k := by rw [List.getElem?_eq_none_iff] at hx; exact hx
      rw [List.take_of_length_le (by omega : L.length ≤ k + 1)]; rw [List.take_of_length_le hk] at ih
      simp
      rw [Nat.mul_add]
      omega
    | some x =>
      rw [take_snoc hx]
      simp
      rw [Nat.mul_add]
      simp at ih
      omega
theorem sum_take (l : List El) (k : Nat) : ((l.take k).map (fun x => x.d.length)).sum ≤ (l.map (fun x => x.d.length)).sum := by
  induction l generalizing k with
  | nil => simp
  | cons x l ih =>
    cases k with
    | zero => simp
    | succ k =>
      have := ih k; simp only [List.take_succ_cons, List.map_cons, List.sum_cons]
      omega
theorem SvFit.bound {s : Sv} (h : SvFit s) : SvBound s 1 := by
  obtain ⟨h1, h2⟩ := h
  have hm : s.mid 1 ≤ 1 + 2 * 1048576 + 1048576 := by
    have h3 := eAt_sum 2 s.K 1 s.K.length; have h4 := sum_take s.K s.K.length
    unfold Sv.mid
    omega
  refine ⟨fun k hk => ?_, fun k hk => ?_⟩
  · have h3 := eAt_sum 2 s.K 1 k; have h4 := sum_take s.K k
    omega
  · have h3 := eAt_sum 3 s.S (s.mid 1) k; have h4 := sum_take s.S k
    omega
theorem fit_of {A : List Ar} {M : List El} (h : M.map El.tell = A.map Ar.tell) (hd : ∀ x ∈ A, x.d.length = x.len) (ht : tot A ≤ 1048576) : M.length + (M.map (fun x => x.d.length)).sum ≤ 1048576 := by
  have e1 : M.length = A.length := by have := congrArg List.length h; simpa using this
  have e2 : M.map (fun x => x.d.length) = A.map Ar.len := by
    have h2 := congrArg (List.map (fun y : List Int × List Nat => y.2.length)) h; simp only [List.map_map] at h2
    have h3 : A.map ((fun y : List Int × List Nat => y.2.length) ∘ Ar.tell) = A.map Ar.len := List.map_congr_left fun x hx => hd x hx
    rw [h3] at h2; exact h2
  rw [e1, e2]
  unfold tot totTo at ht
  rw [List.take_length] at ht; exact ht
set_option maxHeartbeats 800000 in
theorem toService_full (b : Int) (ko : Option Addr) (kc : Nat) (A : List Ar) (so : Option Addr) (sc : Nat) (B : List Ar) (w : World) (hA : ArSl w 2 ko A) (hB : ArSl w 3 so B) (ht : tot A + tot B ≤ 1048576) :
    Calls Tryd.prog 19 #[.agg #[.int .i64 b, .slice ko A.length kc, .slice so B.length sc]] w fun e w' => ∃ s : Sv, e = .returned (.agg #[.int .i64 s.b, .slice s.ko s.K.length s.kc, .slice s.so s.S.length s.sc]) ∧ s.tell = (b, A.map Ar.tell, B.map Ar.tell) ∧ SvFull w' s ∧ SvFit s ∧ (∀ k, SvB s k → w.heap.size ≤ k) ∧ w.grownBy w' none := by
  have hlA := tot_len A; have hlB := tot_len B
  have HA : Hid (∀ X : World, w.grownBy X none → Calls Tryd.prog 46 #[.slice ko A.length kc] X fun e w' => ∃ M, e = .returned (.slice (some ⟨X.heap.size, 0, none⟩) A.length A.length) ∧ ElAt w' 32 2 X.heap.size M ∧ M.map El.tell = A.map Ar.tell ∧ elSome M ∧ (∀ y ∈ M, ∀ b, y.o = some b → X.heap.size < b) ∧ X.grownBy w' none) := fun X hX => toItemS_full ko kc A X (hA.grown hX) (by omega) (fun x hx => by have := tot_each A x hx; omega)
  have HB : Hid (∀ X : World, w.grownBy X none → Calls Tryd.prog 47 #[.slice so B.length sc] X fun e w' => ∃ M, e = .returned (.slice (some ⟨X.heap.size, 0, none⟩) B.length B.length) ∧ ElAt w' 74 3 X.heap.size M ∧ M.map El.tell = B.map Ar.tell ∧ elSome M ∧ (∀ y ∈ M, ∀ b, y.o = some b → X.heap.size < b) ∧ X.grownBy w' none) := fun X hX => toSessionS_full so sc B X (hB.grown hX) (by omega) (fun x hx => by have := tot_each B x hx; omega)
  have HF : Hid ((∀ x ∈ A, x.d.length = x.len) ∧ (∀ x ∈ B, x.d.length = x.len) ∧ tot A ≤ 1048576 ∧ tot B ≤ 1048576) := ⟨fun x hx => by
      obtain ⟨i, hi⟩ := List.getElem?_of_mem hx; obtain ⟨_, _, _, _, _, _, h5, _⟩ := hA i x hi
      exact h5.1, fun x hx => by
      obtain ⟨i, hi⟩ := List.getElem?_of_mem hx; obtain ⟨_, _, _, _, _, _, h5, _⟩ := hB i x hi
      exact h5.1, by omega, by omega⟩
  clear hA hB ht hlA hlB; obtain ⟨an, han⟩ : ∃ an, A.length = an := ⟨_, rfl⟩; obtain ⟨bn, hbn⟩ : ∃ bn, B.length = bn := ⟨_, rfl⟩; have HAN : Hid (A.length = an ∧ B.length = bn) := ⟨han, hbn⟩; rw [han] at HA ⊢; rw [hbn] at HB ⊢; clear han hbn
  go_enter Tryd.func19, Tryd.ntmps19
  go_wp2_with fail; refine (HA.out _ (by repeat (first | exact grownBy_refl _ _ | apply grownBy_alloc))).mono ?_; rintro e w1 ⟨M, rfl, hM, hMt, hMe, hMf, hG1⟩; have HE1 : Hid (elSome M) := hMe; clear hMe; obtain ⟨W0, hW0⟩ : ∃ W0, W0 = ((w.alloc (.cells #[.int .i64 b, .slice ko an kc, .slice so bn sc] 50)).alloc (.cells #[.int .i64 0, .slice none 0 0, .slice none 0 0] 28)).alloc (.cells #[.int .i64 b, .slice none 0 0, .slice none 0 0] 28) := ⟨_, rfl⟩
  have k0 : W0.heap[w.heap.size]? = some (.cells #[.int .i64 b, .slice ko an kc, .slice so bn sc] 50 (0, 0)) := by rw [hW0]; exact push0' w _ _ _
  have k1 : W0.heap[w.heap.size + 1]? = some (.cells #[.int .i64 0, .slice none 0 0, .slice none 0 0] 28 (0, 0)) := by rw [hW0]; exact push2 w _ _ _
  have k2 : W0.heap[w.heap.size + 2]? = some (.cells #[.int .i64 b, .slice none 0 0, .slice none 0 0] 28 (0, 0)) := by rw [hW0]; exact push3 w _ _ _
  have kz : W0.heap.size = w.heap.size + 3 := by rw [hW0]; simp
  have kg : w.grownBy W0 none := by rw [hW0]; exact grownBy_alloc (grownBy_alloc (World.grownBy_alloc _ _ _) _) _
  rw [← hW0] at hM hMf hG1 ⊢; clear hW0; obtain ⟨g1, hg1⟩ : ∃ g1, g1 = W0.heap.size := ⟨_, rfl⟩; rw [← hg1] at hM hMf ⊢; have j0 : w1.heap[w.heap.size]? = some (.cells #[.int .i64 b, .slice ko an kc, .slice so bn sc] 50 (0, 0)) := (hG1.block _ (by omega) (by simp)).trans k0; have j1 : w1.heap[w.heap.size + 1]? = some (.cells #[.int .i64 0, .slice none 0 0, .slice none 0 0] 28 (0, 0)) := (hG1.block _ (by omega) (by simp)).trans k1; have j2 : w1.heap[w.heap.size + 2]? = some (.cells #[.int .i64 b, .slice none 0 0, .slice none 0 0] 28 (0, 0)) := (hG1.block _ (by omega) (by simp)).trans k2
  have p0 : w1.cell? ⟨w.heap.size, 2, none⟩ = some (.slice so bn sc) := by simp [World.cell?, j0]
  have q1 : w1.cell? ⟨w.heap.size + 2, 1, none⟩ = some (.slice none 0 0) := by simp [World.cell?, j2]
  have f1 : w1.frozen? ⟨w.heap.size + 2, 1, none⟩ = false := by simp [World.frozen?, j2]
  have hz1 : w.heap.size + 3 ≤ w1.heap.size := by have := hG1.size; omega
  have H1 : Hid (ElAt w1 32 2 g1 M ∧ M.map El.tell = A.map Ar.tell ∧ (∀ y ∈ M, ∀ b, y.o = some b → g1 < b) ∧ w.grownBy w1 none ∧ g1 = w.heap.size + 3) := ⟨hM, hMt, hMf, grownBy_trans kg hG1, by rw [hg1, kz]⟩; have HJ : Hid (w1.heap[w.heap.size + 1]? = some (.cells #[.int .i64 0, .slice none 0 0, .slice none 0 0] 28 (0, 0)) ∧ w1.heap[w.heap.size + 2]? = some (.cells #[.int .i64 b, .slice none 0 0, .slice none 0 0] 28 (0, 0))) := ⟨j1, j2⟩; clear hM hMt hMf hG1 k0 k1 k2 kz kg hg1 j0 j1 j2 HA; go_wp2_with fail; refine (HB.out _ (grownBy_setNew H1.out.2.2.2.1 (by simp; omega))).mono ?_; rintro e w2 ⟨M2, rfl, hM2, hMt2, hMe2, hMf2, hG2⟩; have HE2 : Hid (elSome M2) := hMe2; clear hMe2; obtain ⟨g2, hg2⟩ : ∃ g2, g2 = (w1.setCell ⟨w.heap.size + 2, 1, none⟩ (.slice (some ⟨g1, 0, none⟩) an an)).heap.size := ⟨_, rfl⟩; rw [← hg2] at hM2 hMf2 ⊢
  have hz2 : g2 = w1.heap.size := by rw [hg2]; simp [World.setCell]
  have hzs := hG2.size; rw [← hg2, hz2] at hzs
  have m1 : w2.heap[w.heap.size + 1]? = some (.cells #[.int .i64 0, .slice none 0 0, .slice none 0 0] 28 (0, 0)) := by
    refine (hG2.block _ (by rw [← hg2, hz2]; omega) (by simp)).trans ?_; rw [heap_setCell_other _ _ _ _ (by simp)]; exact HJ.out.1
  have m2 : w2.heap[w.heap.size + 2]? = some (.cells #[.int .i64 b, .slice (some ⟨g1, 0, none⟩) an an, .slice none 0 0] 28 (0, 0)) := by
    refine (hG2.block _ (by rw [← hg2, hz2]; omega) (by simp)).trans ?_; rw [heap_setCell_same w1 (w.heap.size + 2) 1 _ _ _ HJ.out.2]
    rfl
  have a0 : w2.cell? ⟨w.heap.size + 2, 0, none⟩ = some (.int .i64 b) := by simp [World.cell?, m2]
  have a1 : w2.cell? ⟨w.heap.size + 2, 1, none⟩ = some (.slice (some ⟨g1, 0, none⟩) an an) := by simp [World.cell?, m2]
  have a2 : w2.cell? ⟨w.heap.size + 2, 2, none⟩ = some (.slice none 0 0) := by simp [World.cell?, m2]
  have x2 : w2.frozen? ⟨w.heap.size + 2, 2, none⟩ = false := by simp [World.frozen?, m2]
  have r0 : w2.cell? ⟨w.heap.size + 1, 0, none⟩ = some (.int .i64 0) := by simp [World.cell?, m1]
  have r1 : w2.cell? ⟨w.heap.size + 1, 1, none⟩ = some (.slice none 0 0) := by simp [World.cell?, m1]
  have r2 : w2.cell? ⟨w.heap.size + 1, 2, none⟩ = some (.slice none 0 0) := by simp [World.cell?, m1]
  have y0 : w2.frozen? ⟨w.heap.size + 1, 0, none⟩ = false := by simp [World.frozen?, m1]
  have y1 : w2.frozen? ⟨w.heap.size + 1, 1, none⟩ = false := by simp [World.frozen?, m1]
  have y2 : w2.frozen? ⟨w.heap.size + 1, 2, none⟩ = false := by simp [World.frozen?, m1]
  have H2 : Hid (ElAt w2 32 2 g1 M ∧ ElAt w2 74 3 g2 M2 ∧ M2.map El.tell = B.map Ar.tell ∧ (∀ y ∈ M2, ∀ b, y.o = some b → g2 < b) ∧ w.grownBy w2 none ∧ g1 < g2 ∧ (∀ y ∈ M, ∀ b, y.o = some b → g1 < b ∧ b < g2)) := by
    have hg1e := H1.out.2.2.2.2; have hlt := H1.out.1.lt
    have hA1 : ElAt (w1.setCell ⟨w.heap.size + 2, 1, none⟩ (.slice (some ⟨g1, 0, none⟩) an an)) 32 2 g1 M := H1.out.1.kept (fun k hk hkk => heap_setCell_other _ _ _ _ (by
      show k ≠ w.heap.size + 2
      rcases hkk with rfl | ⟨x, hx, ho⟩
      · omega
      · have := H1.out.2.2.1 x hx k ho; omega))
    refine ⟨hA1.kept (fun k hk _ => hG2.block k hk (by simp)), hM2, hMt2, hMf2, grownBy_trans (grownBy_setNew H1.out.2.2.2.1 (by simp; omega)) hG2, by omega, fun y hy b' hb' => ⟨H1.out.2.2.1 y hy b' hb', ?_⟩⟩; obtain ⟨i, hi⟩ := List.getElem?_of_mem hy; have := (ownS_blk (H1.out.1.own i y hi).2.1 hb').lt
    omega
  have HZ : Hid (g1 = w.heap.size + 3) := H1.out.2.2.2.2; have HT1 : Hid (M.map El.tell = A.map Ar.tell) := H1.out.2.1; clear hM2 hMt2 hMf2 hG2 hg2 hz2 hzs m1 m2 p0 q1 f1 hz1 H1 HJ HB; go_wp2
  have lM : M.length = an := by have := congrArg List.length HT1.out; have h2 := HAN.out.1; simp at this; omega
  have lM2 : M2.length = bn := by have := congrArg List.length H2.out.2.2.1; have h2 := HAN.out.2; simp at this; omega
  refine bodyPost_ret (v := .agg #[.int .i64 b, .slice (some ⟨g1, 0, none⟩) an an, .slice (some ⟨g2, 0, none⟩) bn bn]) (by simp [results, Tryd.results19, go_sem, r0, r1, r2]) rfl ⟨⟨b, some ⟨g1, 0, none⟩, an, M, some ⟨g2, 0, none⟩, bn, M2⟩, by simp [lM, lM2], by simp [Sv.tell, HT1.out, H2.out.2.2.1], ?_, ⟨fit_of HT1.out HF.out.1 HF.out.2.2.1, fit_of H2.out.2.2.1 HF.out.2.1 HF.out.2.2.2⟩, fun k hk => ?_, ?_⟩
  · have hz := HZ.out
    have ho : ∀ {t : TypeId} {m g : Nat} {L : List El} {X : World} (p : Addr) (v : Value), ElAt X t m g L → (∀ k, (k = g ∨ ∃ x ∈ L, x.o = some k) → k ≠ p.block) → ElAt (X.setCell p v) t m g L := fun p v h hk => h.kept (fun k _ hkk => heap_setCell_other _ _ _ _ (hk k hkk))
    have hK : ∀ k, (k = g1 ∨ ∃ x ∈ M, x.o = some k) → w.heap.size + 2 < k := by
      rintro k (rfl | ⟨x, hx, hxo⟩)
      · omega
      · have := (H2.out.2.2.2.2.2.2 x hx k hxo).1; omega
    have hS : ∀ k, (k = g2 ∨ ∃ x ∈ M2, x.o = some k) → w.heap.size + 2 < k := by
      have := H2.out.2.2.2.2.2.1; rintro k (rfl | ⟨x, hx, hxo⟩)
      · omega
      · have := H2.out.2.2.2.1 x hx k hxo; omega
    refine ⟨⟨.inr ⟨g1, rfl, ?_⟩, .inr ⟨g2, rfl, ?_⟩, fun x hx y hy j hxj hyj => ?_⟩, HE1.out, HE2.out, ⟨g1, rfl⟩, ⟨g2, rfl⟩⟩
    · exact ho _ _ (ho _ _ (ho _ _ (ho _ _ H2.out.1 (fun k hk => by have := hK k hk; show k ≠ w.heap.size + 2; omega)) (fun k hk => by have := hK k hk; show k ≠ w.heap.size + 1; omega)) (fun k hk => by have := hK k hk; show k ≠ w.heap.size + 1; omega)) (fun k hk => by have := hK k hk; show k ≠ w.heap.size + 1; omega)
    · exact ho _ _ (ho _ _ (ho _ _ (ho _ _ H2.out.2.1 (fun k hk => by have := hS k hk; show k ≠ w.heap.size + 2; omega)) (fun k hk => by have := hS k hk; show k ≠ w.heap.size + 1; omega)) (fun k hk => by have := hS k hk; show k ≠ w.heap.size + 1; omega)) (fun k hk => by have := hS k hk; show k ≠ w.heap.size + 1; omega)
    · have h1 := (H2.out.2.2.2.2.2.2 x hx j hxj).2; have h2 := H2.out.2.2.2.1 y hy j hyj
      omega
  · have hz := HZ.out; have h12 := H2.out.2.2.2.2.2.1
    rcases hk with (h | ⟨x, hx, ho⟩) | (h | ⟨x, hx, ho⟩)
    · have : g1 = k := by simpa using h
      omega
    · have := (H2.out.2.2.2.2.2.2 x hx k ho).1; omega
    · have : g2 = k := by simpa using h
      omega
    · have := H2.out.2.2.2.1 x hx k ho; omega
  · exact grownBy_setNew (grownBy_setNew (grownBy_setNew (grownBy_setNew H2.out.2.2.2.2.1 (by simp; omega)) (by simp)) (by simp)) (by simp)
def elOf (y : List Int × List Nat) : El := ⟨y.1, y.2, none, 0⟩
def validT (T : Told) : Prop := ValidV T.1 (T.2.1.map elOf) (T.2.2.map elOf)
theorem elOf_tells (L : List (List Int × List Nat)) : (L.map elOf).map El.tell = L := by
  rw [List.map_map]; exact (List.map_congr_left (fun x _ => rfl)).trans (List.map_id L)
theorem risesE_map (f : El → El) (hf : ∀ x, (f x).c = x.c) (l : List El) : ∀ b, risesE b (l.map f) ↔ risesE b l := by
  induction l with
  | nil => intro b; exact Iff.rfl
  | cons x l ih =>
    intro b; have e1 : risesE b ((x :: l).map f) ↔ b < (f x).c ∧ risesE (f x).c (l.map f) := Iff.rfl; have e2 : risesE b (x :: l) ↔ b < x.c ∧ risesE x.c l := Iff.rfl; rw [e1, e2, hf, ih]
theorem validV_tell (b : Int) (K S : List El) : ValidV b K S ↔ validT (b, K.map El.tell, S.map El.tell) := by
  have e : ∀ L : List El, (L.map El.tell).map elOf = L.map (fun x => elOf x.tell) := fun L => by simp [List.map_map, Function.comp_def]
  unfold validT ValidV
  simp only [e, List.length_map, List.forall_mem_map]; rw [risesE_map (fun x => elOf x.tell) (fun _ => rfl)]; exact Iff.rfl
/-- what Apply tells -/
def ApTold (T : Told) (zs : List Nat) (T' : Told) (pl c : Int) : Prop :=
  (validT T ∧ T'.1 = T.1 ∧ ApSays T.1 (T.2.1.map elOf) (T.2.2.map elOf) zs pl c T'.2.1 T'.2.2) ∨ (¬ validT T ∧ T' = (0, [], []) ∧ pl = 0 ∧ c = 5)
theorem ApTold.one {T T1 T2 : Told} {zs : List Nat} {p1 c1 p2 c2 : Int} (h : ApTold T zs T1 p1 c1) (h' : ApTold T zs T2 p2 c2) : T1 = T2 ∧ p1 = p2 ∧ c1 = c2 := by
  rcases h with ⟨hv, hb, hs⟩ | ⟨hv, rfl, rfl, rfl⟩
  · rcases h' with ⟨_, hb', hs'⟩ | ⟨hv', _⟩
    · obtain ⟨e1, e2, e3, e4⟩ := hs.one hs'; exact ⟨Prod.ext (hb.trans hb'.symm) (Prod.ext e3 e4), e1, e2⟩
    · exact absurd hv hv'
  · rcases h' with ⟨hv', _⟩ | ⟨_, rfl, rfl, rfl⟩
    · exact absurd hv' hv
    · exact ⟨rfl, rfl, rfl⟩
theorem apSays_ex (b : Int) (K S : List El) (zs : List Nat) (hr : risesE 0 S) : ∃ pl c KK SS, ApSays b K S zs pl c KK SS := by
  by_cases h0 : zs = []
  · exact ⟨_, _, _, _, .empty h0⟩
  · by_cases hd : decGood zs
    · obtain ⟨k, hk⟩ := spot_ex S (decCl zs : Int) 0 hr
      rcases known_of S (decCl zs : Int) k with hu | ⟨x, hx, hc⟩
      · by_cases hf : b + (K.length : Int) = 1000000
        · refine ⟨_, _, _, _, .full hd k hk (fun x hx hc => ?_) hf⟩
          unfold knownAt at hu
          rw [hx] at hu
          simp [hc] at hu
        · exact ⟨_, _, _, _, .new hd k hk hu hf⟩
      · by_cases hq : (decSq zs : Int) ≤ x.q
        · by_cases hs : sameItem x.q x.d (decSq zs : Int) (zs.drop 8)
          · exact ⟨_, _, _, _, .again hd k x hk hx hc hq hs⟩
          · exact ⟨_, _, _, _, .exist hd k x hk hx hc hq hs⟩
        · by_cases hf : b + (K.length : Int) = 1000000
          · exact ⟨_, _, _, _, .full hd k hk (fun x' hx' _ => by rw [hx] at hx'; obtain rfl := Option.some.inj hx'; omega) hf⟩
          · exact ⟨_, _, _, _, .old hd k x hk hx hc (by omega) hf⟩
    · exact ⟨_, _, _, _, .bad h0 hd⟩
theorem apTold_ex (T : Told) (zs : List Nat) : ∃ T' pl c, ApTold T zs T' pl c := by
  by_cases h : validT T
  · obtain ⟨pl, c, KK, SS, hs⟩ := apSays_ex T.1 (T.2.1.map elOf) (T.2.2.map elOf) zs h.2.2.2.2.2; exact ⟨(T.1, KK, SS), pl, c, .inl ⟨h, rfl, hs⟩⟩
  · exact ⟨_, _, _, .inr ⟨h, rfl, rfl, rfl⟩⟩
/-- few and short -/
def fitT (T : Told) : Prop := T.2.1.length ≤ 1000001 ∧ T.2.2.length ≤ 51 ∧ (∀ y ∈ T.2.1, y.2.length ≤ 64) ∧ ∀ y ∈ T.2.2, y.2.length ≤ 64
theorem ApTold.fit {T T' : Told} {zs : List Nat} {pl c : Int} (h : ApTold T zs T' pl c) : fitT T' := by
  rcases h with ⟨hv, hb, hs⟩ | ⟨_, rfl, _, _⟩
  · have hl : (T.2.2.map elOf).length ≤ 50 := by
      have := risesE_len (T.2.2.map elOf) 50 0 (by omega) hv.2.2.2.2.2 (fun x hx => by have h1 := (hv.2.2.2.2.1 x hx).1; unfold okE itemOk at h1; omega)
      omega
    have hk := hv.2.2.1
    have hK : ∀ y ∈ (T.2.1.map elOf).map El.tell, y.2.length ≤ 64 := fun y hy => by
      obtain ⟨x, hx, rfl⟩ := List.mem_map.1 hy; have h1 := hv.2.2.2.1 x hx
      unfold okE itemOk at h1
      exact h1.2.2.2.2
    have hS : ∀ y ∈ (T.2.2.map elOf).map El.tell, y.2.length ≤ 64 := fun y hy => by
      obtain ⟨x, hx, rfl⟩ := List.mem_map.1 hy; have h1 := (hv.2.2.2.2.1 x hx).1
      unfold okE itemOk at h1
      exact h1.2.2.2.2
    have h64 : decGood zs → (zs.drop 8).length ≤ 64 := fun hd => by
      have h1 := hd.2
      unfold itemOk at h1
      rw [List.length_drop]; exact h1.2.2.2.2
    obtain ⟨b', KK, SS⟩ := T'; simp only at hs
    have hlk : ((T.2.1.map elOf).map El.tell).length ≤ 1000000 := by simpa using hk
    have hls : ((T.2.2.map elOf).map El.tell).length ≤ 50 := by simpa using hl
    have same : ∀ {KK SS}, KK = (T.2.1.map elOf).map El.tell → SS = (T.2.2.map elOf).map El.tell → fitT (b', KK, SS) := fun e1 e2 => by subst e1 e2; exact ⟨by simp only; omega, by simp only; omega, hK, hS⟩
    have hkeep : decGood zs → ∀ (p : List Int), ((T.2.1.map elOf).map El.tell ++ [(p, zs.drop 8)]).length ≤ 1000001 ∧ ∀ y ∈ (T.2.1.map elOf).map El.tell ++ [(p, zs.drop 8)], y.2.length ≤ 64 := fun hd p => by
      refine ⟨by rw [List.length_append]; simp only [List.length_cons, List.length_nil]; omega, fun y hy => ?_⟩
      rcases List.mem_append.1 hy with h | h
      · exact hK y h
      · obtain rfl : y = _ := by simpa using h
        exact h64 hd
    cases hs using ApSays.elim with
    | empty h => exact same rfl rfl
    | bad h hd => exact same rfl rfl
    | again hd k x hk hx hc hq hs => exact same rfl rfl
    | exist hd k x hk hx hc hq hs => exact same rfl rfl
    | full hd k hk hq hf => exact same rfl rfl
    | old hd k x hk hx hc hq hf =>
      refine ⟨(hkeep hd _).1, by simp only [List.length_set]; omega, (hkeep hd _).2, fun y hy => ?_⟩
      rcases List.mem_or_eq_of_mem_set hy with h | h
      · exact hS y h
      · rw [h]; exact h64 hd
    | new hd k hk hu hf =>
      refine ⟨(hkeep hd _).1, ?_, (hkeep hd _).2, fun y hy => ?_⟩
      · simp only [List.length_append, List.length_cons, List.length_take, List.length_drop]
        omega
      · rcases List.mem_append.1 hy with h | h
        · exact hS y (List.mem_of_mem_take h)
        · rcases List.mem_cons.1 h with h | h
          · rw [h]; exact h64 hd
          · exact hS y (List.mem_of_mem_drop h)
  · exact ⟨by simp, by simp, by simp, by simp⟩
/-- a service of few and short -/
structure ApFit (r : Sv) : Prop where
  kl : r.K.length ≤ 1000001
  sl : r.S.length ≤ 51
  kd : ∀ x ∈ r.K, x.d.length ≤ 64
  sd : ∀ x ∈ r.S, x.d.length ≤ 64
theorem apFit {r : Sv} {T : Told} (h : r.tell = T) (hf : fitT T) : ApFit r := by
  subst h; obtain ⟨h1, h2, h3, h4⟩ := hf; exact ⟨by simpa [Sv.tell] using h1, by simpa [Sv.tell] using h2, fun x hx => h3 x.tell (List.mem_map.2 ⟨x, hx, rfl⟩), fun x hx => h4 x.tell (List.mem_map.2 ⟨x, hx, rfl⟩)⟩
theorem ApFit.small {r : Sv} (h : ApFit r) : SvSmall r := ⟨by have := h.kl; omega, by have := h.sl; omega, fun x hx => by have := h.kd x hx; omega, fun x hx => by have := h.sd x hx; omega⟩
theorem ApFit.bound {r : Sv} (h : ApFit r) : SvBound r 1 := by
  have hkl := h.kl; have hsl := h.sl
  have hm : r.mid 1 ≤ 1 + 1000001 * (2 + 64) := by
    have h1 := eAt_le 2 r.K 1 r.K.length 64 h.kd; have h2 : r.K.length * (2 + 64) ≤ 1000001 * (2 + 64) := Nat.mul_le_mul_right _ hkl
    unfold Sv.mid
    omega
  refine ⟨fun k hk => ?_, fun k hk => ?_⟩
  · have h1 := eAt_le 2 r.K 1 k 64 h.kd; have h2 : k * (2 + 64) ≤ 1000001 * (2 + 64) := Nat.mul_le_mul_right _ (by omega)
    omega
  · have h1 := eAt_le 3 r.S (r.mid 1) k 64 h.sd; have h2 : k * (3 + 64) ≤ 51 * (3 + 64) := Nat.mul_le_mul_right _ (by omega)
    omega
/-- the answer, in new memory -/
def ApAns (X : World) (T' : Told) (pl c : Int) (e : Ending) (w' : World) : Prop :=
  ∃ r : Sv, e = .returned (.tuple #[.agg #[.int .i64 r.b, .slice r.ko r.K.length r.kc, .slice r.so r.S.length r.sc], .int .i64 pl, .int .i64 c]) ∧ r.tell = T' ∧ SvAt w' r ∧ (∀ k, SvB r k → X.heap.size ≤ k) ∧ X.grownBy w' none
theorem ans_post {s : Sv} {zs : List Nat} {X w' : World} {e : Ending} {T T' : Told} {pl c : Int} (h : ApPost s zs X e w') (hs : s.tell = T) (hv : ValidV s.b s.K s.S) (hT : ApTold T zs T' pl c) : ApAns X T' pl c e w' := by
  obtain ⟨q, r, pl0, c0, rfl, hq, hb, hsay, h1, h2, h3⟩ := h
  have ht : ApTold T zs r.tell pl0 c0 := by
    refine .inl ⟨?_, ?_, ?_⟩
    · rw [← hs]; exact (validV_tell _ _ _).1 hv
    · rw [← hs]; exact hb
    · rw [← hs]; have e1 : q.K.map El.tell = s.K.map El.tell := congrArg (fun t => t.2.1) hq; have e2 : q.S.map El.tell = s.S.map El.tell := congrArg (fun t => t.2.2) hq; exact hsay.tell (by rw [e1]; exact (elOf_tells _).symm) (by rw [e2]; exact (elOf_tells _).symm)
  obtain ⟨rfl, rfl, rfl⟩ := ht.one hT; exact ⟨r, rfl, rfl, h1, h2, h3⟩
theorem ans_no {s : Sv} {zs : List Nat} {X w' : World} {e : Ending} {T T' : Told} {pl c : Int} (he : e = .returned (.tuple #[.agg #[.int .i64 0, .slice none 0 0, .slice none 0 0], .int .i64 0, .int .i64 5])) (hG : X.grownBy w' none) (hs : s.tell = T) (hv : ¬ ValidV s.b s.K s.S) (hT : ApTold T zs T' pl c) : ApAns X T' pl c e w' := by
  have ht : ApTold T zs (0, [], []) 0 5 := .inr ⟨fun h => hv ((validV_tell _ _ _).2 (by rw [← hs] at h; exact h)), rfl, rfl, rfl⟩; obtain ⟨rfl, rfl, rfl⟩ := ht.one hT; refine ⟨⟨0, none, 0, [], none, 0, []⟩, he, rfl, ⟨.inl ⟨rfl, rfl, rfl⟩, .inl ⟨rfl, rfl, rfl⟩, by simp⟩, fun j hj => ?_, hG⟩
  rcases hj with (h | ⟨x, hx, _⟩) | (h | ⟨x, hx, _⟩)
  · cases h
  · simp at hx
  · cases h
  · simp at hx
theorem implApply_ans (s : Sv) (oa : Option Addr) (len : Nat) (zs : List Nat) (ad : Nat → Addr) (X : World) (T T' : Told) (pl c : Int) (hE : ErrsAt X ad) (hsl : SlB X oa len zs) (hm : len ≤ 1073741824) (h : SvFull X s) (hs : SvSmall s) (ht : s.tell = T) (hT : ApTold T zs T' pl c) :
    Calls Tryd.prog 13 #[.agg #[.int .i64 s.b, .slice s.ko s.K.length s.kc, .slice s.so s.S.length s.sc], .slice oa len len] X (ApAns X T' pl c) := by
  by_cases hv : ValidV s.b s.K s.S
  · exact (implApply_ok s oa len len zs ad X hE hsl (Nat.le_refl _) hm h hs hv).mono fun e w' hp => ans_post hp ht hv hT
  · refine (implApply_no s _ X h hs hv).mono ?_; rintro e w' ⟨he, hG⟩; exact ans_no he hG ht hv hT
theorem specApply_ans (s : Sv) (oa : Option Addr) (len : Nat) (zs : List Nat) (X : World) (T T' : Told) (pl c : Int) (hsl : SlB X oa len zs) (hm : len ≤ 1073741824) (h : SvAt X s) (hs : SvSmall s) (ht : s.tell = T) (hT : ApTold T zs T' pl c) :
    Calls Tryd.prog 18 #[.agg #[.int .i64 s.b, .slice s.ko s.K.length s.kc, .slice s.so s.S.length s.sc], .slice oa len len] X (ApAns X T' pl c) := by
  by_cases hv : ValidV s.b s.K s.S
  · have hc := apCalls h hs hv
    have hp : Calls Tryd.prog 18 #[.agg #[.int .i64 s.b, .slice s.ko s.K.length s.kc, .slice s.so s.S.length s.sc], .slice oa len len] X (ApPost s zs X) := by
      by_cases h0 : len = 0
      · subst h0; have hz : zs = [] := List.eq_nil_of_length_eq_zero hsl.1; subst hz; exact specApply_empty s oa 0 X hc
      · by_cases hd : decGood zs
        · exact specApply_good s oa len zs X hsl hm hd hc hv
        · exact specApply_bad s oa len zs X hsl hm h0 hd hc
    exact hp.mono fun e w' hp => ans_post hp ht hv hT
  · refine (specApply_no s _ X h hs hv).mono ?_; rintro e w' ⟨he, hG⟩; exact ans_no he hG ht hv hT
end Go.Proofs.YtdajcpcajdhplaaDoor
/-
  From 'the walk returns true and nothing old has turned' to the row's post, for a law of whatever parameters: each argument and each named variable reads as it did. Nothing here reaches the dump.
-/
namespace Go.Proofs.YtdajcpcajdhplaaDoor.Post
open Go Go.ChangeShapes Go.WideShapes Go.ChangeAt Go.RowKit

section
variable {H : Type} {enc : TypeId × Value → H} {P : Program} {W W' : World}

theorem all_stays (hl : laidOutB P = true) (hb : Below W.heap.size W W') : ∀ (ts : List TypeId) (vs : List Value) (ds : List (DataW H)) (ps : List MemPlace), (ts.all fun t => P.readableRec t && decide (t < P.types.size)) = true →
    DataW.TrodAll enc P W 0 (fun _ => true) true ts vs ds ps → (∀ x ∈ ps, x.block < W.heap.size) → DataW.TrodAll enc P W' 0 (fun b => decide (b < W.heap.size)) true ts vs ds ps := by
  intro ts
  induction ts with
  | nil =>
    intro vs ds ps _ h _; obtain ⟨rfl, rfl, rfl⟩ := trodAll_nil h; exact trodAll_mk0
  | cons t ts ih =>
    intro vs ds ps hr h hlt; obtain ⟨v, vs', d, ds', p, q, rfl, rfl, rfl, h1, h2⟩ := trodAll_cons h; simp only [List.all_cons, Bool.and_eq_true, decide_eq_true_eq] at hr; exact trodAll_cons_mk (Below.trod hl hr.1.1 hr.1.2 h1 hb (fun x hx => hlt x (List.mem_append_left _ hx))) (ih vs' ds' q (by simpa using hr.2) h2 (fun x hx => hlt x (List.mem_append_right _ hx)))

theorem vars_stay (hl : laidOutB P = true) (hb : Below W.heap.size W W') : ∀ (ns : List String) (gs : List (DataW H)) (ps : List MemPlace),
    (ns.all fun n => match P.globalNamed n with
      | none => true
      | some g => decide (g < W.heap.size) && (match (P.globals[g]?).map (·.type) with
        | none => true
        | some t => P.readableRec t && decide (t < P.types.size))) = true →
    DataW.TrodVars enc P W (fun _ => true) ns gs ps → (∀ x ∈ ps, x.block < W.heap.size) → DataW.TrodVars enc P W' (fun b => decide (b < W.heap.size)) ns gs ps := by
  intro ns
  induction ns with
  | nil =>
    intro gs ps _ h _; obtain ⟨rfl, rfl⟩ := trodVars_none h; exact rfl
  | cons n ns ih =>
    intro gs ps hr h hlt
    cases gs with
    | nil => simp [DataW.TrodVars] at h
    | cons d ds =>
      obtain ⟨g, t, cs, fuel, p, q, h1, h2, h3, h4, hs, rfl⟩ := h; simp only [List.all_cons, Bool.and_eq_true] at hr; obtain ⟨hr1, hr2⟩ := hr; rw [h1] at hr1; simp only [Bool.and_eq_true, decide_eq_true_eq] at hr1; obtain ⟨hg, hr1⟩ := hr1; rw [h2] at hr1; simp only [Bool.and_eq_true, decide_eq_true_eq] at hr1; obtain ⟨fuel', h4'⟩ := Below.trod (v := .agg cs) hl hr1.1 hr1.2 (⟨fuel, h4⟩ : DataW.Trod enc P W 0 (fun _ => true) true t (.agg cs) d p) hb (fun x hx => hlt x (List.mem_append_left _ (List.mem_append_right _ hx))); exact ⟨g, t, cs, fuel', p, q, h1, h2, var?_below hb h1 hg h3, h4', ih ds q hr2 hs (fun x hx => hlt x (List.mem_append_right _ hx)), rfl⟩

/-- THE POST OF A LAW THAT RETURNS TRUE AND TURNS NOTHING OLD. -/
theorem law {s : ChangeSpec} {fn : Func} {args : Array Value} {ds gs : List (DataW H)} {before : List MemPlace} (hl : laidOutB P = true) (hb : Below W.heap.size W W')
    (hW : DataW.Whole enc P fn.params.toList s.vars false W args.toList ds gs before)
    (hps : (fn.params.toList.all fun t => P.readableRec t && decide (t < P.types.size)) = true)
    (hvs : (s.vars.all fun n => match P.globalNamed n with
      | none => true
      | some g => decide (g < W.heap.size) && (match (P.globals[g]?).map (·.type) with
        | none => true
        | some t => P.readableRec t && decide (t < P.types.size))) = true)
    {tb : TypeId} (hres : fn.resultTypes.toList = [tb]) (htb : P.underlying tb = some .bool)
    (hs : s.fn H (ds ++ gs) = { results := [.lit (.bool true)], args := ds, vars := gs }) :
    s.post enc P fn false true false false W args (.bool true) W' := by
  have hW' := hW; obtain ⟨p, q, hA, hV, rfl, hfz, hnd⟩ := hW; have hlt := hW'.lt
  have hsz : fn.resultTypes.size = 1 := by rw [← Array.length_toList, hres]; rfl
  refine ⟨ds, gs, p ++ q, [], p, q, hW', ?_, ?_, ?_, hb.frame _, fun h => by cases h⟩
  · rw [hs, hres, hsz]; exact trodAll_mk1 (shut_bool htb true)
  · rw [hs]; exact all_stays hl hb _ _ _ _ hps hA (fun x hx => hlt x (List.mem_append_left _ hx))
  · rw [hs]; exact vars_stay hl hb _ _ _ hvs hV (fun x hx => hlt x (List.mem_append_right _ hx))
end
end Go.Proofs.YtdajcpcajdhplaaDoor.Post

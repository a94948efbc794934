/-
  ElLaw, ElLawI, SvLaw, OpenB, ArOpen
-/
import Derived.Test.YtdajcpcajdhplaaDoorSvc3
import Derived.Deep.RegionWith
import Derived.Test.YtdajcpcajdhplaaDoorSvc1
import Derived.ProofKit
import Derived.OpenShut
/-
  The laws' helpers over items, sessions and services, walked: eq.., mark.., held...
-/
namespace Go.Proofs.YtdajcpcajdhplaaDoor
open Go.RowKit

theorem ElAt.get3 {w : World} {t : TypeId} {g : Nat} {L : List El} (h : ElAt w t 3 g L) {k : Nat} {x : El} (hx : L[k]? = some x) : ∃ n0 n1 n2 : Int, x.hd = [n0, n1, n2] ∧ w.cell? ⟨g, k * 4, none⟩ = some (.int .i64 n0) ∧ w.cell? ⟨g, k * 4 + 1, none⟩ = some (.int .i64 n1) ∧ w.cell? ⟨g, k * 4 + 2, none⟩ = some (.int .i64 n2) ∧ w.cell? ⟨g, k * 4 + 3, none⟩ = some (.slice (oad x.o) x.d.length x.cp) := by
  obtain ⟨hd, d, o, cp⟩ := x; have hl := (h.own k _ hx).1; simp only at hl
  match hd, hl with
  | [n0, n1, n2], _ => exact ⟨n0, n1, n2, rfl, h.cell hx (j := 0) rfl, h.cell hx (j := 1) rfl, h.cell hx (j := 2) rfl, h.slice hx⟩
set_option maxHeartbeats 400000 in
theorem eqSession_same (n0 n1 n2 : Int) (oa ob : Option Addr) (len ca cb : Nat) (zs : List Nat) (w : World) (ha : SlB w oa len zs) (hb : SlB w ob len zs) (hm : len ≤ 1073741824) :
    Calls Tryd.prog 74 #[.agg #[.int .i64 n0, .int .i64 n1, .int .i64 n2, .slice oa len ca], .agg #[.int .i64 n0, .int .i64 n1, .int .i64 n2, .slice ob len cb]] w fun e w' => e = .returned (.bool true) ∧ w.grownBy w' none := by
  have HA : Hid (SlB w oa len zs ∧ SlB w ob len zs) := ⟨ha, hb⟩; clear ha hb
  go_enter Tryd.func74, Tryd.ntmps74
  go_wp2_with fail; refine (eqByteS_same oa ob len ca cb zs _ (HA.out.1.grown0 (grownBy_alloc (World.grownBy_alloc _ _ _) _)) (HA.out.2.grown0 (grownBy_alloc (World.grownBy_alloc _ _ _) _)) hm).mono ?_; rintro e w1 ⟨rfl, hG1⟩; have R : Hid _ := grownBy_trans (grownBy_alloc (World.grownBy_alloc w _ none) _) hG1; clear hG1; go_wp2; go_ret; exact ⟨rfl, R.out⟩
set_option maxRecDepth 100000 in
set_option maxHeartbeats 2000000 in
theorem eqSessionS_same (oa ob : Option Addr) (ca cb : Nat) (L L' : List El) (w : World) (h : ElO w 74 3 oa ca L) (h' : ElO w 74 3 ob cb L') (htell : L.map El.tell = L'.map El.tell) (hlen : L.length ≤ 1048576) (hd : ∀ x ∈ L, x.d.length ≤ 1048576) :
    Calls Tryd.prog 49 #[.slice oa L.length ca, .slice ob L'.length cb] w fun e w' => e = .returned (.bool true) ∧ w.grownBy w' none := by
  have hll : L'.length = L.length := by have := congrArg List.length htell; simpa using this.symm
  rw [hll]; have HR : Hid (ElO w 74 3 oa ca L ∧ ElO w 74 3 ob cb L') := ⟨h, h'⟩; have HT : Hid (L.map El.tell = L'.map El.tell) := htell; have HD : Hid (∀ x ∈ L, x.d.length ≤ 1048576) := hd; clear h h' htell hd; obtain ⟨n, hn⟩ : ∃ n, L.length = n := ⟨_, rfl⟩; have HN : Hid (L.length = n ∧ L'.length = n) := ⟨hn, by omega⟩; rw [hn] at hlen ⊢; clear hll hn
  go_enter Tryd.func49, Tryd.ntmps49
  go_wp2
  go_loopw [5] (fun i wr => ∃ k : Nat, k ≤ n ∧ i = .int .i64 (k : Int) ∧ w.grownBy wr none) (fun i _ => n - (intOf i).toNat)
  case atStart => exact ⟨0, Nat.zero_le _, rfl, grownBy_refl _ _⟩
  case round =>
    obtain ⟨k, hk, rfl, hG⟩ := hrel; have HG : Hid (w.grownBy wr none) := hG; clear hG
    by_cases hlt : k < n
    · obtain ⟨x, hx⟩ : ∃ x, L[k]? = some x := ⟨_, List.getElem?_eq_getElem (by rw [HN.out.1]; exact hlt)⟩; obtain ⟨y, hy⟩ : ∃ y, L'[k]? = some y := ⟨_, List.getElem?_eq_getElem (by rw [HN.out.2]; exact hlt)⟩
      have het : x.tell = y.tell := by
        have h1 : (L.map El.tell)[k]? = some x.tell := by simp [hx]
        have h2 : (L'.map El.tell)[k]? = some y.tell := by simp [hy]
        rw [HT.out, h2] at h1; exact (Option.some.inj h1).symm
      rcases HR.out.1.grown0 HG.out with ⟨_, _, h0⟩ | ⟨g, rfl, hA⟩
      · rw [h0] at hx; simp at hx
      rcases HR.out.2.grown0 HG.out with ⟨_, _, h0⟩ | ⟨g', rfl, hA'⟩
      · rw [h0] at hy; simp at hy
      obtain ⟨n0, n1, n2, hhd, c0, c1, c2, cd⟩ := hA.get3 hx; obtain ⟨p0, p1, p2, hhd', d0, d1, d2, cd'⟩ := hA'.get3 hy; have hO := (hA.own k x hx).2.1; have hO' := (hA'.own k y hy).2.1; have hdl := HD.out _ (List.mem_of_getElem? hx); obtain ⟨hd, d, o, cp⟩ := x; obtain ⟨hd', d', o', cp'⟩ := y; simp only [El.tell, Prod.mk.injEq] at het; obtain ⟨rfl, rfl⟩ := het; simp only at hhd hhd' cd cd' hO hO' hdl; rw [hhd] at hhd'; simp only [List.cons.injEq, and_true] at hhd'; obtain ⟨rfl, rfl, rfl⟩ := hhd'
      have HE : Hid (∀ w' : World, w'.heap = wr.heap → Calls _ _ _ w' _) := fun w' hh => eqSession_same n0 n1 n2 (oad o) (oad o') d.length cp cp' d w' (hO.sl.heap hh) (hO'.sl.heap hh) (by omega)
      clear hO hO' hx hy hA hA' hhd
      have hkI : (k : Int) < (n : Int) := by omega
      generalize oad o = og at *; generalize oad o' = og' at *; go_wp2
      go_region_with (first | (go_at_call 74; refine (HE.out wr.drew rfl).mono ?_; rintro e w1 ⟨rfl, hG1⟩) | fail)
      all_goals
        have HG2 : Hid (w.grownBy w1 none) := grownBy_trans HG.out (grownBy_trans (grownBy_drew (grownBy_refl wr none)) hG1); clear hG1; go_wp2; go_roundw
        case rel => exact ⟨k + 1, by omega, by go_num, HG2.out⟩
        case measure => simp [intOf]; omega
    · obtain rfl : k = n := by omega
      go_wp2; go_ret; exact ⟨rfl, HG.out⟩
set_option maxRecDepth 100000 in
set_option maxHeartbeats 2000000 in
theorem markSessionS_at (g cap m : Nat) (L : List El) (w : World) (h : ElAt w 74 3 g L) (hbound : ∀ k, k ≤ L.length → eAt 3 L m k ≤ 1073741000) (hd : ∀ x ∈ L, x.d.length ≤ 1048576) (hlen : L.length ≤ 1048576) :
    Calls Tryd.prog 51 #[.slice (some ⟨g, 0, none⟩) L.length cap, .int .i64 (m : Int)] w fun e w' => e = .returned (.int .i64 ((eAt 3 L m L.length : Nat) : Int)) ∧ ElAt w' 74 3 g (stE 3 L m L.length) ∧ Only (ElB (some ⟨g, 0, none⟩) L) w w' := by
  have HA : Hid (ElAt w 74 3 g L) := h; have HB : Hid (True ∧ (∀ k, k ≤ L.length → eAt 3 L m k ≤ 1073741000) ∧ ∀ x ∈ L, x.d.length ≤ 1048576) := ⟨trivial, hbound, hd⟩; clear h hbound hd; obtain ⟨n, hn⟩ : ∃ n, L.length = n := ⟨_, rfl⟩; have HN : Hid (L.length = n) := hn; rw [hn] at hlen ⊢; clear hn
  go_enter Tryd.func51, Tryd.ntmps51
  go_wp2
  go_loopw [1, 5] (fun q i wr => ∃ k : Nat, k ≤ n ∧ i = .int .i64 (k : Int) ∧ q = .int .i64 ((eAt 3 L m k : Nat) : Int) ∧ ElAt wr 74 3 g (stE 3 L m k) ∧ Only (ElB (some ⟨g, 0, none⟩) L) w wr) (fun _ i _ => n - (intOf i).toNat)
  case atStart => exact ⟨0, Nat.zero_le _, rfl, rfl, HA.out, Only.refl _ _⟩
  case round =>
    obtain ⟨k, hk, rfl, rfl, hEA, hBw⟩ := hrel; have HR : Hid (ElAt wr 74 3 g (stE 3 L m k) ∧ Only (ElB (some ⟨g, 0, none⟩) L) w wr) := ⟨hEA, hBw⟩
    by_cases hlt : k < n
    · obtain ⟨x, hx⟩ : ∃ x, L[k]? = some x := ⟨_, List.getElem?_eq_getElem (by rw [HN.out]; exact hlt)⟩
      have hsx : (stE 3 L m k)[k]? = some x := by rw [stE_get, if_neg (by omega)]; exact hx
      have hkl : k < (stE 3 L m k).length := (List.getElem?_eq_some_iff.1 hsx).1; have hMb := HB.out.2.1 k (by rw [HN.out]; omega); have hdl := HB.out.2.2 x (List.mem_of_getElem? hx); obtain ⟨n0, n1, n2, hhd, c0, c1, c2, cd⟩ := hEA.get3 hsx; have f0 : wr.frozen? ⟨g, k * 4, none⟩ = false := hEA.froz _; have f1 : wr.frozen? ⟨g, k * 4 + 1, none⟩ = false := hEA.froz _; have f2 : wr.frozen? ⟨g, k * 4 + 2, none⟩ = false := hEA.froz _; obtain ⟨M, hM⟩ : ∃ M, eAt 3 L m k = M := ⟨_, rfl⟩; have HM : Hid (eAt 3 L m k = M ∧ eAt 3 L m (k + 1) = M + 3 + x.d.length) := ⟨hM, by simp [eAt, hM, hx]⟩
      have HX : Hid (ElAt (((wr.setCell ⟨g, k * 4, none⟩ (.int .i64 ((M : Int)))).setCell ⟨g, k * 4 + 1, none⟩ (.int .i64 ((M : Int) + 1))).setCell ⟨g, k * 4 + 2, none⟩ (.int .i64 ((M : Int) + 1 + 1))) 74 3 g ((stE 3 L m k).set k { x with hd := [(M : Int), (M : Int) + 1, (M : Int) + 1 + 1] })) := by
        have h1 := hEA.setHd (by decide) hsx 0 (by decide) (M : Int); have h2 := h1.setHd (by decide) (List.getElem?_set_self (by first | exact hkl | (simp only [List.length_set]; exact hkl))) 1 (by decide) ((M : Int) + 1); have h3 := h2.setHd (by decide) (List.getElem?_set_self (by first | exact hkl | (simp only [List.length_set]; exact hkl))) 2 (by decide) ((M : Int) + 1 + 1); simp only [List.set_set, hhd, List.set_cons_zero, List.set_cons_succ] at h3; exact h3
      have HO : Hid (OwnS (((wr.setCell ⟨g, k * 4, none⟩ (.int .i64 ((M : Int)))).setCell ⟨g, k * 4 + 1, none⟩ (.int .i64 ((M : Int) + 1))).setCell ⟨g, k * 4 + 2, none⟩ (.int .i64 ((M : Int) + 1 + 1))) 5 (oad x.o) x.d.length x.d ∧ (oad x.o = none → x.cp = 0)) := by
        have h1 := HX.out.own k _ (List.getElem?_set_self hkl); exact ⟨h1.2.1, fun e => h1.2.2 (by cases ho : x.o with | none => rfl | some b => rw [ho] at e; cases e)⟩
      have HK : Hid (Calls _ _ _ _ _) := markByteS_s (oad x.o) x.d.length x.cp (M + 3) x.d (((wr.setCell ⟨g, k * 4, none⟩ (.int .i64 ((M : Int)))).setCell ⟨g, k * 4 + 1, none⟩ (.int .i64 ((M : Int) + 1))).setCell ⟨g, k * 4 + 2, none⟩ (.int .i64 ((M : Int) + 1 + 1))) HO.out.1 HO.out.2 (by omega) (by omega)
      have cds : (((wr.setCell ⟨g, k * 4, none⟩ (.int .i64 ((M : Int)))).setCell ⟨g, k * 4 + 1, none⟩ (.int .i64 ((M : Int) + 1))).setCell ⟨g, k * 4 + 2, none⟩ (.int .i64 ((M : Int) + 1 + 1))).cell? ⟨g, k * 4 + 3, none⟩ = some (.slice (oad x.o) x.d.length x.cp) := by have h1 := HX.out.slice (List.getElem?_set_self hkl); exact h1
      have HBel : Hid (Only (ElB (some ⟨g, 0, none⟩) L) w (((wr.setCell ⟨g, k * 4, none⟩ (.int .i64 ((M : Int)))).setCell ⟨g, k * 4 + 1, none⟩ (.int .i64 ((M : Int) + 1))).setCell ⟨g, k * 4 + 2, none⟩ (.int .i64 ((M : Int) + 1 + 1)))) := by
        have hg : ElB (some ⟨g, 0, none⟩) L g := .inl rfl; exact (((HR.out.2.set g (k * 4) _ hg).set g (k * 4 + 1) _ hg).set g (k * 4 + 2) _ hg)
      have HS : Hid (stE 3 L m (k + 1) = (stE 3 L m k).set k (mkE 3 x M) ∧ (∀ b, x.o = some b → ElB (some ⟨g, 0, none⟩) L b) ∧ k < (stE 3 L m k).length) := ⟨by rw [stE_succ 3 L m k x hx, hM], fun b hb => .inr ⟨x, List.mem_of_getElem? hx, hb⟩, hkl⟩; rw [hM] at hMb ⊢; clear hEA hBw hx hsx hM hhd hkl; obtain ⟨xh, xd, xo, xc⟩ := x; simp only at *; rw [show ((M + 3 : Nat) : Int) = (M : Int) + 1 + 1 + 1 by omega] at HK; obtain ⟨og, hog⟩ : ∃ og, oad xo = og := ⟨_, rfl⟩; have HOG : Hid (oad xo = og) := hog; rw [hog] at HK cd cds; clear hog; go_wp2_with fail; refine HK.out.mono ?_; rintro e w1 ⟨rfl, hO1, hG1⟩
      have HF : Hid (ElAt w1 74 3 g (stE 3 L m (k + 1)) ∧ Only (ElB (some ⟨g, 0, none⟩) L) w w1) := by
        rw [← HOG.out] at hO1 hG1; rw [blk_oad] at hG1; refine ⟨?_, HBel.out.trans (Only.of hG1 HS.out.2.1)⟩; have h1 := HX.out.setD (by decide) (k := k) (List.getElem?_set_self HS.out.2.2) (d := marked xd (M + 3) xd.length) (marked_len _ _ _) hO1 hG1; rw [List.set_set] at h1; rw [HS.out.1]; exact h1
      clear hO1 hG1 HK HX HO HBel; go_wp2; go_roundw
      case rel => exact ⟨k + 1, by omega, by go_num, by rw [HM.out.2]; go_num, HF.out.1, HF.out.2⟩
      case measure => simp [intOf]; omega
    · obtain rfl : k = n := by omega
      obtain ⟨M, hM⟩ : ∃ M, eAt 3 L m k = M := ⟨_, rfl⟩; have HM : Hid (eAt 3 L m k = M) := hM; rw [hM]; clear hEA hBw hM; go_wp2; go_ret; exact ⟨by rw [HM.out]; rfl, HR.out.1, HR.out.2⟩
set_option maxRecDepth 100000 in
set_option maxHeartbeats 2000000 in
theorem heldSessionS_at (g cap m : Nat) (L : List El) (w : World) (h : ElAt w 74 3 g (stE 3 L m L.length)) (hbound : ∀ k, k ≤ L.length → eAt 3 L m k ≤ 1073741000) (hd : ∀ x ∈ L, x.d.length ≤ 1048576) (hlen : L.length ≤ 1048576) :
    Calls Tryd.prog 53 #[.slice (some ⟨g, 0, none⟩) L.length cap, .int .i64 (m : Int)] w fun e w' => e = .returned (.int .i64 ((eAt 3 L m L.length : Nat) : Int)) ∧ w' = w := by
  have HA : Hid (ElAt w 74 3 g (stE 3 L m L.length)) := h; have HB : Hid ((∀ k, k ≤ L.length → eAt 3 L m k ≤ 1073741000) ∧ ∀ x ∈ L, x.d.length ≤ 1048576) := ⟨hbound, hd⟩; clear h hbound hd; obtain ⟨n, hn⟩ : ∃ n, L.length = n := ⟨_, rfl⟩; have HN : Hid (L.length = n) := hn; rw [hn] at hlen HA ⊢; clear hn
  go_enter Tryd.func53, Tryd.ntmps53
  go_wp2
  go_loop [1, 5] (fun q i => ∃ k : Nat, k ≤ n ∧ i = .int .i64 (k : Int) ∧ q = .int .i64 ((eAt 3 L m k : Nat) : Int)) (fun _ i => n - (intOf i).toNat)
  case atStart => exact ⟨0, Nat.zero_le _, rfl, rfl⟩
  case round =>
    obtain ⟨k, hk, rfl, rfl⟩ := hrel
    by_cases hlt : k < n
    · obtain ⟨x, hx⟩ : ∃ x, L[k]? = some x := ⟨_, List.getElem?_eq_getElem (by rw [HN.out]; exact hlt)⟩
      have hsx : (stE 3 L m n)[k]? = some (mkE 3 x (eAt 3 L m k)) := by rw [stE_get, if_pos hlt, hx]; rfl
      have hMb := HB.out.1 k (by rw [HN.out]; omega); have hdl := HB.out.2 x (List.mem_of_getElem? hx); obtain ⟨M, hM⟩ : ∃ M, eAt 3 L m k = M := ⟨_, rfl⟩
      have HM : Hid (eAt 3 L m (k + 1) = M + 3 + x.d.length) := by show _ = _; simp [eAt, hM, hx]
      rw [hM] at hsx hMb ⊢
      have hcs : w.cell? ⟨g, k * 4, none⟩ = some (.int .i64 ((M : Int))) ∧ w.cell? ⟨g, k * 4 + 1, none⟩ = some (.int .i64 ((M : Int) + 1)) ∧ w.cell? ⟨g, k * 4 + 2, none⟩ = some (.int .i64 ((M : Int) + 1 + 1)) := by
        refine ⟨by have h1 := HA.out.cell hsx (j := 0) (n := ((M + 0 : Nat) : Int)) rfl; rw [show ((M + 0 : Nat) : Int) = (M : Int) by omega] at h1; exact h1, by have h1 := HA.out.cell hsx (j := 1) (n := ((M + 1 : Nat) : Int)) rfl; rw [show ((M + 1 : Nat) : Int) = (M : Int) + 1 by omega] at h1; exact h1, by have h1 := HA.out.cell hsx (j := 2) (n := ((M + 2 : Nat) : Int)) rfl; rw [show ((M + 2 : Nat) : Int) = (M : Int) + 1 + 1 by omega] at h1; exact h1⟩
      obtain ⟨c0, c1, c2⟩ := hcs; have cd := HA.out.slice hsx; have hO := HA.out.own k _ hsx; obtain ⟨xh, xd, xo, xc⟩ := x; simp only [mkE, marked_len] at *; have HK : Hid (Calls _ _ _ _ _) := heldByteS_s (oad xo) xd.length xc (M + 3) (marked xd (M + 3) xd.length) w hO.2.1 (fun e => hO.2.2 (by cases xo with | none => rfl | some b => cases e)) (fun i hi => marked_get _ _ _ _ hi hi) (by omega) (by omega); rw [show ((M + 3 : Nat) : Int) = (M : Int) + 1 + 1 + 1 by omega] at HK; have cd' : w.cell? ⟨g, k * 4 + 3, none⟩ = some (.slice (oad xo) xd.length xc) := cd; obtain ⟨og, hog⟩ : ∃ og, oad xo = og := ⟨_, rfl⟩; rw [hog] at HK cd'; clear hx hsx hM hO cd hog; go_wp2_with fail; refine HK.out.mono ?_; clear HK; rintro e w1 ⟨rfl, rfl⟩; go_wp2
      go_round
      case rel => exact ⟨k + 1, by omega, by go_num, by rw [HM.out]; go_num⟩
      case measure => simp [intOf]; omega
    · obtain rfl : k = n := by omega
      obtain ⟨M, hM⟩ : ∃ M, eAt 3 L m k = M := ⟨_, rfl⟩; have HM : Hid (eAt 3 L m k = M) := hM; rw [hM]; clear hM; go_wp2; go_ret; exact ⟨by rw [HM.out]; rfl, rfl⟩
set_option maxHeartbeats 400000 in
theorem markSessionS_nil (m : Nat) (w : World) :
    Calls Tryd.prog 51 #[.slice none 0 0, .int .i64 (m : Int)] w fun e w' => e = .returned (.int .i64 (m : Int)) ∧ w' = w := by
  go_enter Tryd.func51, Tryd.ntmps51
  go_wp2
  go_loop [1, 5] (fun v i => i = .int .i64 0 ∧ v = .int .i64 (m : Int)) (fun _ _ => 0)
  case atStart => exact ⟨rfl, rfl⟩
  case round =>
    obtain ⟨rfl, rfl⟩ := hrel; go_wp2; go_ret; exact ⟨rfl, rfl⟩
set_option maxHeartbeats 400000 in
theorem heldSessionS_nil (m : Nat) (w : World) :
    Calls Tryd.prog 53 #[.slice none 0 0, .int .i64 (m : Int)] w fun e w' => e = .returned (.int .i64 (m : Int)) ∧ w' = w := by
  go_enter Tryd.func53, Tryd.ntmps53
  go_wp2
  go_loop [1, 5] (fun v i => i = .int .i64 0 ∧ v = .int .i64 (m : Int)) (fun _ _ => 0)
  case atStart => exact ⟨rfl, rfl⟩
  case round =>
    obtain ⟨rfl, rfl⟩ := hrel; go_wp2; go_ret; exact ⟨rfl, rfl⟩
theorem markSessionS_o (oa : Option Addr) (cap m : Nat) (L : List El) (w : World) (h : ElO w 74 3 oa cap L) (hbound : ∀ k, k ≤ L.length → eAt 3 L m k ≤ 1073741000) (hd : ∀ x ∈ L, x.d.length ≤ 1048576) (hlen : L.length ≤ 1048576) :
    Calls Tryd.prog 51 #[.slice oa L.length cap, .int .i64 (m : Int)] w fun e w' => e = .returned (.int .i64 ((eAt 3 L m L.length : Nat) : Int)) ∧ ElO w' 74 3 oa cap (stE 3 L m L.length) ∧ Only (ElB oa L) w w' := by
  rcases h with ⟨rfl, rfl, rfl⟩ | ⟨g, rfl, hA⟩
  · refine (markSessionS_nil m w).mono ?_; rintro e w' ⟨rfl, rfl⟩; exact ⟨rfl, .inl ⟨rfl, rfl, rfl⟩, Only.refl _ _⟩
  · refine (markSessionS_at g cap m L w hA hbound hd hlen).mono ?_; rintro e w' ⟨rfl, h1, h2⟩; exact ⟨rfl, .inr ⟨g, rfl, h1⟩, h2⟩
theorem heldSessionS_o (oa : Option Addr) (cap m : Nat) (L : List El) (w : World) (h : ElO w 74 3 oa cap (stE 3 L m L.length)) (hbound : ∀ k, k ≤ L.length → eAt 3 L m k ≤ 1073741000) (hd : ∀ x ∈ L, x.d.length ≤ 1048576) (hlen : L.length ≤ 1048576) :
    Calls Tryd.prog 53 #[.slice oa L.length cap, .int .i64 (m : Int)] w fun e w' => e = .returned (.int .i64 ((eAt 3 L m L.length : Nat) : Int)) ∧ w' = w := by
  rcases h with ⟨rfl, rfl, h0⟩ | ⟨g, rfl, hA⟩
  · obtain rfl : L = [] := List.eq_nil_of_length_eq_zero (by rw [← stE_len 3 L m L.length, h0]; rfl); exact heldSessionS_nil m w
  · exact heldSessionS_at g cap m L w hA hbound hd hlen
theorem ElAt.get2 {w : World} {t : TypeId} {g : Nat} {L : List El} (h : ElAt w t 2 g L) {k : Nat} {x : El} (hx : L[k]? = some x) : ∃ n0 n1 : Int, x.hd = [n0, n1] ∧ w.cell? ⟨g, k * 3, none⟩ = some (.int .i64 n0) ∧ w.cell? ⟨g, k * 3 + 1, none⟩ = some (.int .i64 n1) ∧ w.cell? ⟨g, k * 3 + 2, none⟩ = some (.slice (oad x.o) x.d.length x.cp) := by
  obtain ⟨hd, d, o, cp⟩ := x; have hl := (h.own k _ hx).1; simp only at hl
  match hd, hl with
  | [n0, n1], _ => exact ⟨n0, n1, rfl, h.cell hx (j := 0) rfl, h.cell hx (j := 1) rfl, h.slice hx⟩
set_option maxRecDepth 100000 in
set_option maxHeartbeats 2000000 in
theorem eqItemS_same (oa ob : Option Addr) (ca cb : Nat) (L L' : List El) (w : World) (h : ElO w 32 2 oa ca L) (h' : ElO w 32 2 ob cb L') (htell : L.map El.tell = L'.map El.tell) (hlen : L.length ≤ 1048576) (hd : ∀ x ∈ L, x.d.length ≤ 1048576) :
    Calls Tryd.prog 48 #[.slice oa L.length ca, .slice ob L'.length cb] w fun e w' => e = .returned (.bool true) ∧ w.grownBy w' none := by
  have hll : L'.length = L.length := by have := congrArg List.length htell; simpa using this.symm
  rw [hll]; have HR : Hid (ElO w 32 2 oa ca L ∧ ElO w 32 2 ob cb L') := ⟨h, h'⟩; have HT : Hid (L.map El.tell = L'.map El.tell) := htell; have HD : Hid (∀ x ∈ L, x.d.length ≤ 1048576) := hd; clear h h' htell hd; obtain ⟨n, hn⟩ : ∃ n, L.length = n := ⟨_, rfl⟩; have HN : Hid (L.length = n ∧ L'.length = n) := ⟨hn, by omega⟩; rw [hn] at hlen ⊢; clear hll hn
  go_enter Tryd.func48, Tryd.ntmps48
  go_wp2
  go_loopw [5] (fun i wr => ∃ k : Nat, k ≤ n ∧ i = .int .i64 (k : Int) ∧ w.grownBy wr none) (fun i _ => n - (intOf i).toNat)
  case atStart => exact ⟨0, Nat.zero_le _, rfl, grownBy_refl _ _⟩
  case round =>
    obtain ⟨k, hk, rfl, hG⟩ := hrel; have HG : Hid (w.grownBy wr none) := hG; clear hG
    by_cases hlt : k < n
    · obtain ⟨x, hx⟩ : ∃ x, L[k]? = some x := ⟨_, List.getElem?_eq_getElem (by rw [HN.out.1]; exact hlt)⟩; obtain ⟨y, hy⟩ : ∃ y, L'[k]? = some y := ⟨_, List.getElem?_eq_getElem (by rw [HN.out.2]; exact hlt)⟩
      have het : x.tell = y.tell := by
        have h1 : (L.map El.tell)[k]? = some x.tell := by simp [hx]
        have h2 : (L'.map El.tell)[k]? = some y.tell := by simp [hy]
        rw [HT.out, h2] at h1; exact (Option.some.inj h1).symm
      rcases HR.out.1.grown0 HG.out with ⟨_, _, h0⟩ | ⟨g, rfl, hA⟩
      · rw [h0] at hx; simp at hx
      rcases HR.out.2.grown0 HG.out with ⟨_, _, h0⟩ | ⟨g', rfl, hA'⟩
      · rw [h0] at hy; simp at hy
      obtain ⟨n0, n1, hhd, c0, c1, cd⟩ := hA.get2 hx; obtain ⟨p0, p1, hhd', d0, d1, cd'⟩ := hA'.get2 hy; have hO := (hA.own k x hx).2.1; have hO' := (hA'.own k y hy).2.1; have hdl := HD.out _ (List.mem_of_getElem? hx); obtain ⟨hd, d, o, cp⟩ := x; obtain ⟨hd', d', o', cp'⟩ := y; simp only [El.tell, Prod.mk.injEq] at het; obtain ⟨rfl, rfl⟩ := het; simp only at hhd hhd' cd cd' hO hO' hdl; rw [hhd] at hhd'; simp only [List.cons.injEq, and_true] at hhd'; obtain ⟨rfl, rfl⟩ := hhd'
      have HE : Hid (∀ w' : World, w'.heap = wr.heap → Calls _ _ _ w' _) := fun w' hh => eqItem_same n0 n1 (oad o) (oad o') d.length cp cp' d w' (hO.sl.heap hh) (hO'.sl.heap hh) (by omega)
      clear hO hO' hx hy hA hA' hhd
      have hkI : (k : Int) < (n : Int) := by omega
      generalize oad o = og at *; generalize oad o' = og' at *; go_wp2
      go_region_with (first | (go_at_call 73; refine (HE.out wr.drew rfl).mono ?_; rintro e w1 ⟨rfl, hG1⟩) | fail)
      all_goals
        have HG2 : Hid (w.grownBy w1 none) := grownBy_trans HG.out (grownBy_trans (grownBy_drew (grownBy_refl wr none)) hG1); clear hG1; go_wp2; go_roundw
        case rel => exact ⟨k + 1, by omega, by go_num, HG2.out⟩
        case measure => simp [intOf]; omega
    · obtain rfl : k = n := by omega
      go_wp2; go_ret; exact ⟨rfl, HG.out⟩
set_option maxRecDepth 100000 in
set_option maxHeartbeats 2000000 in
theorem markItemS_at (g cap m : Nat) (L : List El) (w : World) (h : ElAt w 32 2 g L) (hbound : ∀ k, k ≤ L.length → eAt 2 L m k ≤ 1073741000) (hd : ∀ x ∈ L, x.d.length ≤ 1048576) (hlen : L.length ≤ 1048576) :
    Calls Tryd.prog 50 #[.slice (some ⟨g, 0, none⟩) L.length cap, .int .i64 (m : Int)] w fun e w' => e = .returned (.int .i64 ((eAt 2 L m L.length : Nat) : Int)) ∧ ElAt w' 32 2 g (stE 2 L m L.length) ∧ Only (ElB (some ⟨g, 0, none⟩) L) w w' := by
  have HA : Hid (ElAt w 32 2 g L) := h; have HB : Hid (True ∧ (∀ k, k ≤ L.length → eAt 2 L m k ≤ 1073741000) ∧ ∀ x ∈ L, x.d.length ≤ 1048576) := ⟨trivial, hbound, hd⟩; clear h hbound hd; obtain ⟨n, hn⟩ : ∃ n, L.length = n := ⟨_, rfl⟩; have HN : Hid (L.length = n) := hn; rw [hn] at hlen ⊢; clear hn
  go_enter Tryd.func50, Tryd.ntmps50
  go_wp2
  go_loopw [1, 5] (fun q i wr => ∃ k : Nat, k ≤ n ∧ i = .int .i64 (k : Int) ∧ q = .int .i64 ((eAt 2 L m k : Nat) : Int) ∧ ElAt wr 32 2 g (stE 2 L m k) ∧ Only (ElB (some ⟨g, 0, none⟩) L) w wr) (fun _ i _ => n - (intOf i).toNat)
  case atStart => exact ⟨0, Nat.zero_le _, rfl, rfl, HA.out, Only.refl _ _⟩
  case round =>
    obtain ⟨k, hk, rfl, rfl, hEA, hBw⟩ := hrel; have HR : Hid (ElAt wr 32 2 g (stE 2 L m k) ∧ Only (ElB (some ⟨g, 0, none⟩) L) w wr) := ⟨hEA, hBw⟩
    by_cases hlt : k < n
    · obtain ⟨x, hx⟩ : ∃ x, L[k]? = some x := ⟨_, List.getElem?_eq_getElem (by rw [HN.out]; exact hlt)⟩
      have hsx : (stE 2 L m k)[k]? = some x := by rw [stE_get, if_neg (by omega)]; exact hx
      have hkl : k < (stE 2 L m k).length := (List.getElem?_eq_some_iff.1 hsx).1; have hMb := HB.out.2.1 k (by rw [HN.out]; omega); have hdl := HB.out.2.2 x (List.mem_of_getElem? hx); obtain ⟨n0, n1, hhd, c0, c1, cd⟩ := hEA.get2 hsx; have f0 : wr.frozen? ⟨g, k * 3, none⟩ = false := hEA.froz _; have f1 : wr.frozen? ⟨g, k * 3 + 1, none⟩ = false := hEA.froz _; obtain ⟨M, hM⟩ : ∃ M, eAt 2 L m k = M := ⟨_, rfl⟩; have HM : Hid (eAt 2 L m k = M ∧ eAt 2 L m (k + 1) = M + 2 + x.d.length) := ⟨hM, by simp [eAt, hM, hx]⟩
      have HX : Hid (ElAt ((wr.setCell ⟨g, k * 3, none⟩ (.int .i64 ((M : Int)))).setCell ⟨g, k * 3 + 1, none⟩ (.int .i64 ((M : Int) + 1))) 32 2 g ((stE 2 L m k).set k { x with hd := [(M : Int), (M : Int) + 1] })) := by
        have h1 := hEA.setHd (by decide) hsx 0 (by decide) (M : Int); have h2 := h1.setHd (by decide) (List.getElem?_set_self (by first | exact hkl | (simp only [List.length_set]; exact hkl))) 1 (by decide) ((M : Int) + 1); simp only [List.set_set, hhd, List.set_cons_zero, List.set_cons_succ] at h2; exact h2
      have HO : Hid (OwnS ((wr.setCell ⟨g, k * 3, none⟩ (.int .i64 ((M : Int)))).setCell ⟨g, k * 3 + 1, none⟩ (.int .i64 ((M : Int) + 1))) 5 (oad x.o) x.d.length x.d ∧ (oad x.o = none → x.cp = 0)) := by
        have h1 := HX.out.own k _ (List.getElem?_set_self hkl); exact ⟨h1.2.1, fun e => h1.2.2 (by cases ho : x.o with | none => rfl | some b => rw [ho] at e; cases e)⟩
      have HK : Hid (Calls _ _ _ _ _) := markByteS_s (oad x.o) x.d.length x.cp (M + 2) x.d ((wr.setCell ⟨g, k * 3, none⟩ (.int .i64 ((M : Int)))).setCell ⟨g, k * 3 + 1, none⟩ (.int .i64 ((M : Int) + 1))) HO.out.1 HO.out.2 (by omega) (by omega)
      have cds : ((wr.setCell ⟨g, k * 3, none⟩ (.int .i64 ((M : Int)))).setCell ⟨g, k * 3 + 1, none⟩ (.int .i64 ((M : Int) + 1))).cell? ⟨g, k * 3 + 2, none⟩ = some (.slice (oad x.o) x.d.length x.cp) := by have h1 := HX.out.slice (List.getElem?_set_self hkl); exact h1
      have HBel : Hid (Only (ElB (some ⟨g, 0, none⟩) L) w ((wr.setCell ⟨g, k * 3, none⟩ (.int .i64 ((M : Int)))).setCell ⟨g, k * 3 + 1, none⟩ (.int .i64 ((M : Int) + 1)))) := by
        have hg : ElB (some ⟨g, 0, none⟩) L g := .inl rfl; exact ((HR.out.2.set g (k * 3) _ hg).set g (k * 3 + 1) _ hg)
      have HS : Hid (stE 2 L m (k + 1) = (stE 2 L m k).set k (mkE 2 x M) ∧ (∀ b, x.o = some b → ElB (some ⟨g, 0, none⟩) L b) ∧ k < (stE 2 L m k).length) := ⟨by rw [stE_succ 2 L m k x hx, hM], fun b hb => .inr ⟨x, List.mem_of_getElem? hx, hb⟩, hkl⟩; rw [hM] at hMb ⊢; clear hEA hBw hx hsx hM hhd hkl; obtain ⟨xh, xd, xo, xc⟩ := x; simp only at *; rw [show ((M + 2 : Nat) : Int) = (M : Int) + 1 + 1 by omega] at HK; obtain ⟨og, hog⟩ : ∃ og, oad xo = og := ⟨_, rfl⟩; have HOG : Hid (oad xo = og) := hog; rw [hog] at HK cd cds; clear hog; go_wp2_with fail; refine HK.out.mono ?_; rintro e w1 ⟨rfl, hO1, hG1⟩
      have HF : Hid (ElAt w1 32 2 g (stE 2 L m (k + 1)) ∧ Only (ElB (some ⟨g, 0, none⟩) L) w w1) := by
        rw [← HOG.out] at hO1 hG1; rw [blk_oad] at hG1; refine ⟨?_, HBel.out.trans (Only.of hG1 HS.out.2.1)⟩; have h1 := HX.out.setD (by decide) (k := k) (List.getElem?_set_self HS.out.2.2) (d := marked xd (M + 2) xd.length) (marked_len _ _ _) hO1 hG1; rw [List.set_set] at h1; rw [HS.out.1]; exact h1
      clear hO1 hG1 HK HX HO HBel; go_wp2; go_roundw
      case rel => exact ⟨k + 1, by omega, by go_num, by rw [HM.out.2]; go_num, HF.out.1, HF.out.2⟩
      case measure => simp [intOf]; omega
    · obtain rfl : k = n := by omega
      obtain ⟨M, hM⟩ : ∃ M, eAt 2 L m k = M := ⟨_, rfl⟩; have HM : Hid (eAt 2 L m k = M) := hM; rw [hM]; clear hEA hBw hM; go_wp2; go_ret; exact ⟨by rw [HM.out]; rfl, HR.out.1, HR.out.2⟩
set_option maxRecDepth 100000 in
set_option maxHeartbeats 2000000 in
theorem heldItemS_at (g cap m : Nat) (L : List El) (w : World) (h : ElAt w 32 2 g (stE 2 L m L.length)) (hbound : ∀ k, k ≤ L.length → eAt 2 L m k ≤ 1073741000) (hd : ∀ x ∈ L, x.d.length ≤ 1048576) (hlen : L.length ≤ 1048576) :
    Calls Tryd.prog 52 #[.slice (some ⟨g, 0, none⟩) L.length cap, .int .i64 (m : Int)] w fun e w' => e = .returned (.int .i64 ((eAt 2 L m L.length : Nat) : Int)) ∧ w' = w := by
  have HA : Hid (ElAt w 32 2 g (stE 2 L m L.length)) := h; have HB : Hid ((∀ k, k ≤ L.length → eAt 2 L m k ≤ 1073741000) ∧ ∀ x ∈ L, x.d.length ≤ 1048576) := ⟨hbound, hd⟩; clear h hbound hd; obtain ⟨n, hn⟩ : ∃ n, L.length = n := ⟨_, rfl⟩; have HN : Hid (L.length = n) := hn; rw [hn] at hlen HA ⊢; clear hn
  go_enter Tryd.func52, Tryd.ntmps52
  go_wp2
  go_loop [1, 5] (fun q i => ∃ k : Nat, k ≤ n ∧ i = .int .i64 (k : Int) ∧ q = .int .i64 ((eAt 2 L m k : Nat) : Int)) (fun _ i => n - (intOf i).toNat)
  case atStart => exact ⟨0, Nat.zero_le _, rfl, rfl⟩
  case round =>
    obtain ⟨k, hk, rfl, rfl⟩ := hrel
    by_cases hlt : k < n
    · obtain ⟨x, hx⟩ : ∃ x, L[k]? = some x := ⟨_, List.getElem?_eq_getElem (by rw [HN.out]; exact hlt)⟩
      have hsx : (stE 2 L m n)[k]? = some (mkE 2 x (eAt 2 L m k)) := by rw [stE_get, if_pos hlt, hx]; rfl
      have hMb := HB.out.1 k (by rw [HN.out]; omega); have hdl := HB.out.2 x (List.mem_of_getElem? hx); obtain ⟨M, hM⟩ : ∃ M, eAt 2 L m k = M := ⟨_, rfl⟩
      have HM : Hid (eAt 2 L m (k + 1) = M + 2 + x.d.length) := by show _ = _; simp [eAt, hM, hx]
      rw [hM] at hsx hMb ⊢
      have hcs : w.cell? ⟨g, k * 3, none⟩ = some (.int .i64 ((M : Int))) ∧ w.cell? ⟨g, k * 3 + 1, none⟩ = some (.int .i64 ((M : Int) + 1)) := by
        refine ⟨by have h1 := HA.out.cell hsx (j := 0) (n := ((M + 0 : Nat) : Int)) rfl; rw [show ((M + 0 : Nat) : Int) = (M : Int) by omega] at h1; exact h1, by have h1 := HA.out.cell hsx (j := 1) (n := ((M + 1 : Nat) : Int)) rfl; rw [show ((M + 1 : Nat) : Int) = (M : Int) + 1 by omega] at h1; exact h1⟩
      obtain ⟨c0, c1⟩ := hcs; have cd := HA.out.slice hsx; have hO := HA.out.own k _ hsx; obtain ⟨xh, xd, xo, xc⟩ := x; simp only [mkE, marked_len] at *; have HK : Hid (Calls _ _ _ _ _) := heldByteS_s (oad xo) xd.length xc (M + 2) (marked xd (M + 2) xd.length) w hO.2.1 (fun e => hO.2.2 (by cases xo with | none => rfl | some b => cases e)) (fun i hi => marked_get _ _ _ _ hi hi) (by omega) (by omega); rw [show ((M + 2 : Nat) : Int) = (M : Int) + 1 + 1 by omega] at HK; have cd' : w.cell? ⟨g, k * 3 + 2, none⟩ = some (.slice (oad xo) xd.length xc) := cd; obtain ⟨og, hog⟩ : ∃ og, oad xo = og := ⟨_, rfl⟩; rw [hog] at HK cd'; clear hx hsx hM hO cd hog; go_wp2_with fail; refine HK.out.mono ?_; clear HK; rintro e w1 ⟨rfl, rfl⟩; go_wp2
      go_round
      case rel => exact ⟨k + 1, by omega, by go_num, by rw [HM.out]; go_num⟩
      case measure => simp [intOf]; omega
    · obtain rfl : k = n := by omega
      obtain ⟨M, hM⟩ : ∃ M, eAt 2 L m k = M := ⟨_, rfl⟩; have HM : Hid (eAt 2 L m k = M) := hM; rw [hM]; clear hM; go_wp2; go_ret; exact ⟨by rw [HM.out]; rfl, rfl⟩
set_option maxHeartbeats 400000 in
theorem markItemS_nil (m : Nat) (w : World) :
    Calls Tryd.prog 50 #[.slice none 0 0, .int .i64 (m : Int)] w fun e w' => e = .returned (.int .i64 (m : Int)) ∧ w' = w := by
  go_enter Tryd.func50, Tryd.ntmps50
  go_wp2
  go_loop [1, 5] (fun v i => i = .int .i64 0 ∧ v = .int .i64 (m : Int)) (fun _ _ => 0)
  case atStart => exact ⟨rfl, rfl⟩
  case round =>
    obtain ⟨rfl, rfl⟩ := hrel; go_wp2; go_ret; exact ⟨rfl, rfl⟩
set_option maxHeartbeats 400000 in
theorem heldItemS_nil (m : Nat) (w : World) :
    Calls Tryd.prog 52 #[.slice none 0 0, .int .i64 (m : Int)] w fun e w' => e = .returned (.int .i64 (m : Int)) ∧ w' = w := by
  go_enter Tryd.func52, Tryd.ntmps52
  go_wp2
  go_loop [1, 5] (fun v i => i = .int .i64 0 ∧ v = .int .i64 (m : Int)) (fun _ _ => 0)
  case atStart => exact ⟨rfl, rfl⟩
  case round =>
    obtain ⟨rfl, rfl⟩ := hrel; go_wp2; go_ret; exact ⟨rfl, rfl⟩
theorem markItemS_o (oa : Option Addr) (cap m : Nat) (L : List El) (w : World) (h : ElO w 32 2 oa cap L) (hbound : ∀ k, k ≤ L.length → eAt 2 L m k ≤ 1073741000) (hd : ∀ x ∈ L, x.d.length ≤ 1048576) (hlen : L.length ≤ 1048576) :
    Calls Tryd.prog 50 #[.slice oa L.length cap, .int .i64 (m : Int)] w fun e w' => e = .returned (.int .i64 ((eAt 2 L m L.length : Nat) : Int)) ∧ ElO w' 32 2 oa cap (stE 2 L m L.length) ∧ Only (ElB oa L) w w' := by
  rcases h with ⟨rfl, rfl, rfl⟩ | ⟨g, rfl, hA⟩
  · refine (markItemS_nil m w).mono ?_; rintro e w' ⟨rfl, rfl⟩; exact ⟨rfl, .inl ⟨rfl, rfl, rfl⟩, Only.refl _ _⟩
  · refine (markItemS_at g cap m L w hA hbound hd hlen).mono ?_; rintro e w' ⟨rfl, h1, h2⟩; exact ⟨rfl, .inr ⟨g, rfl, h1⟩, h2⟩
theorem heldItemS_o (oa : Option Addr) (cap m : Nat) (L : List El) (w : World) (h : ElO w 32 2 oa cap (stE 2 L m L.length)) (hbound : ∀ k, k ≤ L.length → eAt 2 L m k ≤ 1073741000) (hd : ∀ x ∈ L, x.d.length ≤ 1048576) (hlen : L.length ≤ 1048576) :
    Calls Tryd.prog 52 #[.slice oa L.length cap, .int .i64 (m : Int)] w fun e w' => e = .returned (.int .i64 ((eAt 2 L m L.length : Nat) : Int)) ∧ w' = w := by
  rcases h with ⟨rfl, rfl, h0⟩ | ⟨g, rfl, hA⟩
  · obtain rfl : L = [] := List.eq_nil_of_length_eq_zero (by rw [← stE_len 2 L m L.length, h0]; rfl); exact heldItemS_nil m w
  · exact heldItemS_at g cap m L w hA hbound hd hlen
/-- a service as it lies: base, kept items, sessions -/
structure Sv where
  b : Int
  ko : Option Addr
  kc : Nat
  K : List El
  so : Option Addr
  sc : Nat
  S : List El
def Sv.val (s : Sv) : Value := .agg #[.int .i64 s.b, .slice s.ko s.K.length s.kc, .slice s.so s.S.length s.sc]
def Sv.tell (s : Sv) : Int × List (List Int × List Nat) × List (List Int × List Nat) := (s.b, s.K.map El.tell, s.S.map El.tell)
/-- its blocks -/
def SvB (s : Sv) (k : Nat) : Prop := ElB s.ko s.K k ∨ ElB s.so s.S k
/-- .. no block serves twice -/
structure SvAt (w : World) (s : Sv) : Prop where
  kk : ElO w 32 2 s.ko s.kc s.K
  ss : ElO w 74 3 s.so s.sc s.S
  far : ∀ x ∈ s.K, ∀ y ∈ s.S, ∀ j, x.o = some j → y.o ≠ some j
/-- small enough for the laws' numbers -/
def SvSmall (s : Sv) : Prop := s.K.length ≤ 1048576 ∧ s.S.length ≤ 1048576 ∧ (∀ x ∈ s.K, x.d.length ≤ 1048576) ∧ (∀ x ∈ s.S, x.d.length ≤ 1048576)
def Sv.mid (s : Sv) (m : Nat) : Nat := eAt 2 s.K m s.K.length
def Sv.fin (s : Sv) (m : Nat) : Nat := eAt 3 s.S (s.mid m) s.S.length
def SvBound (s : Sv) (m : Nat) : Prop := (∀ k, k ≤ s.K.length → eAt 2 s.K m k ≤ 1073741000) ∧ ∀ k, k ≤ s.S.length → eAt 3 s.S (s.mid m) k ≤ 1073741000
def Sv.mkd (s : Sv) (m : Nat) : Sv := { s with K := stE 2 s.K m s.K.length, S := stE 3 s.S (s.mid m) s.S.length }
theorem SvAt.apart {w w' : World} {T : Nat → Prop} {s : Sv} (h : SvAt w s) (hb : Only T w w') (hd : ∀ k, SvB s k → ¬ T k) : SvAt w' s := ⟨h.kk.apart hb (fun k hk => hd k (.inl hk)), h.ss.apart hb (fun k hk => hd k (.inr hk)), h.far⟩
theorem SvAt.grown0 {w w' : World} {s : Sv} (h : SvAt w s) (hg : w.grownBy w' none) : SvAt w' s := ⟨h.kk.grown0 hg, h.ss.grown0 hg, h.far⟩
theorem SvAt.lt {w : World} {s : Sv} (h : SvAt w s) : ∀ k, SvB s k → k < w.heap.size := fun k hk => hk.elim (h.kk.lt k) (h.ss.lt k)
set_option maxHeartbeats 800000 in
theorem eqService_same (s r : Sv) (w : World) (h : SvAt w s) (h' : SvAt w r) (ht : s.tell = r.tell) (hs : SvSmall s) :
    Calls Tryd.prog 21 #[s.val, r.val] w fun e w' => e = .returned (.bool true) ∧ w.grownBy w' none := by
  obtain ⟨b, ko, kc, K, so, sc, S⟩ := s; obtain ⟨b', ko', kc', K', so', sc', S'⟩ := r; simp only [Sv.tell, Prod.mk.injEq] at ht; obtain ⟨rfl, hK, hS⟩ := ht
  have H1 : Hid (∀ X : World, w.grownBy X none → Calls Tryd.prog 48 #[.slice ko K.length kc, .slice ko' K'.length kc'] X fun e w' => e = .returned (.bool true) ∧ X.grownBy w' none) := fun X hX =>
    eqItemS_same ko ko' kc kc' K K' X (h.kk.grown0 hX) (h'.kk.grown0 hX) hK hs.1 hs.2.2.1
  have H2 : Hid (∀ X : World, w.grownBy X none → Calls Tryd.prog 49 #[.slice so S.length sc, .slice so' S'.length sc'] X fun e w' => e = .returned (.bool true) ∧ X.grownBy w' none) := fun X hX =>
    eqSessionS_same so so' sc sc' S S' X (h.ss.grown0 hX) (h'.ss.grown0 hX) hS hs.2.1 hs.2.2.2
  clear h h' hK hS hs; simp only [Sv.val]; generalize K.length = kn at *; generalize K'.length = kn' at *; generalize S.length = sn at *; generalize S'.length = sn' at *
  go_enter Tryd.func21, Tryd.ntmps21
  go_wp2_with fail; refine (H1.out _ (grownBy_alloc (World.grownBy_alloc _ _ _) _)).mono ?_; rintro e w1 ⟨rfl, hG1⟩
  have hz : w.heap.size + 1 < w1.heap.size := by have := hG1.size; simp at this; omega
  have a2 : w1.cell? ⟨w.heap.size, 2, none⟩ = some (.slice so sn sc) := ((bcell hG1).1 _ _ (by simp; omega)).trans (by simp); have b2 : w1.cell? ⟨w.heap.size + 1, 2, none⟩ = some (.slice so' sn' sc') := ((bcell hG1).1 _ _ (by simp)).trans (by simp); have HG1 : Hid (w.grownBy w1 none) := grownBy_trans (grownBy_alloc (World.grownBy_alloc _ _ _) _) hG1; clear hG1 H1; go_wp2_with fail; refine (H2.out _ HG1.out).mono ?_; rintro e w2 ⟨rfl, hG2⟩; have R : Hid (w.grownBy w2 none) := grownBy_trans HG1.out hG2; clear hG2; go_wp2; go_ret; exact ⟨rfl, R.out⟩
theorem SvAt.two {w : World} {s : Sv} (h : SvAt w s) : ∀ k, ElB s.ko s.K k → ¬ ElB s.so s.S k := h.kk.two h.ss (by decide) (by decide) (by decide) h.far
set_option maxHeartbeats 800000 in
theorem markService_any (s : Sv) (m : Nat) (w : World) (h : SvAt w s) (hs : SvSmall s) (hb : SvBound s m) :
    Calls Tryd.prog 23 #[s.val, .int .i64 (m : Int)] w fun e w' => e = .returned (.int .i64 ((s.fin m : Nat) : Int)) ∧ SvAt w' (s.mkd m) ∧ Only (SvB s) w w' := by
  have H0 := World.grownBy_alloc w (.cells #[.int .i64 s.b, .slice s.ko s.K.length s.kc, .slice s.so s.S.length s.sc] 28) none; have h0 := h.grown0 H0; have hlt := h.lt
  have H1 : Hid (Calls Tryd.prog 50 #[.slice s.ko s.K.length s.kc, .int .i64 (m : Int)] (w.alloc (.cells #[.int .i64 s.b, .slice s.ko s.K.length s.kc, .slice s.so s.S.length s.sc] 28)) fun e w' => ∃ M : Nat, e = .returned (.int .i64 (M : Int)) ∧ w'.cell? ⟨w.heap.size, 2, none⟩ = some (.slice s.so s.S.length s.sc) ∧
      Hid (Calls Tryd.prog 51 #[.slice s.so s.S.length s.sc, .int .i64 (M : Int)] w' fun e w'' => e = .returned (.int .i64 ((s.fin m : Nat) : Int)) ∧ SvAt w'' (s.mkd m) ∧ Only (SvB s) w w'')) := by
    refine (markItemS_o s.ko s.kc m s.K _ h0.kk hb.1 hs.2.2.1 hs.1).mono ?_; rintro e w1 ⟨rfl, hE1, hO1⟩; have hS1 : ElO w1 74 3 s.so s.sc s.S := h0.ss.apart hO1 (fun k hk hk' => h0.two k hk' hk); refine ⟨s.mid m, rfl, ?_, ?_⟩
    · have e1 : w1.heap[w.heap.size]? = _ := hO1.block w.heap.size (by simp) (fun hk => by have := hlt _ (.inl hk); omega); rw [heap_alloc_new] at e1
      simp [World.cell?, e1]
    refine (markSessionS_o s.so s.sc (s.mid m) s.S w1 hS1 hb.2 hs.2.2.2 hs.2.1).mono ?_; rintro e w2 ⟨rfl, hE2, hO2⟩; refine ⟨rfl, ⟨hE1.apart hO2 (fun k hk hk' => h0.two k (stE_B _ _ _ _ _ _ hk) hk'), hE2, fun x hx y hy j hxj hyj => ?_⟩, ?_⟩
    · obtain ⟨x', hx', ex⟩ := stE_o 2 s.K m _ x hx; obtain ⟨y', hy', ey⟩ := stE_o 3 s.S (s.mid m) _ y hy; exact h.far x' hx' y' hy' j (by rw [← ex]; exact hxj) (by rw [← ey]; exact hyj)
    · exact ((Only.of H0 (fun k e => by cases e)).trans (hO1.mono fun k hk => .inl hk)).trans (hO2.mono fun k hk => .inr hk)
  clear h0 h hs hb H0 hlt; obtain ⟨b, ko, kc, K, so, sc, S⟩ := s; simp only [Sv.val] at *; generalize K.length = kn at *; generalize S.length = sn at *
  go_enter Tryd.func23, Tryd.ntmps23
  go_wp2_with fail; refine H1.out.mono ?_; rintro e w1 ⟨M, rfl, a2, H2⟩; clear H1; go_wp2_with fail; refine H2.out.mono ?_; rintro e w2 ⟨rfl, R⟩; have RR : Hid (_ ∧ _) := R; clear R H2; obtain ⟨F, hF⟩ : ∃ F, (Sv.mk b ko kc K so sc S).fin m = F := ⟨_, rfl⟩; have HF : Hid ((Sv.mk b ko kc K so sc S).fin m = F) := hF; rw [hF]; clear hF; go_wp2; go_ret; exact ⟨by rw [HF.out]; rfl, RR.out⟩
set_option maxHeartbeats 800000 in
theorem heldService_any (s : Sv) (m : Nat) (w : World) (h : SvAt w (s.mkd m)) (hs : SvSmall s) (hb : SvBound s m) :
    Calls Tryd.prog 25 #[s.val, .int .i64 (m : Int)] w fun e w' => e = .returned (.int .i64 ((s.fin m : Nat) : Int)) ∧ w.grownBy w' none := by
  have H0 := World.grownBy_alloc w (.cells #[.int .i64 s.b, .slice s.ko s.K.length s.kc, .slice s.so s.S.length s.sc] 28) none; have h0 := h.grown0 H0
  have H1 : Hid (Calls Tryd.prog 52 #[.slice s.ko s.K.length s.kc, .int .i64 (m : Int)] (w.alloc (.cells #[.int .i64 s.b, .slice s.ko s.K.length s.kc, .slice s.so s.S.length s.sc] 28)) fun e w' => e = .returned (.int .i64 ((s.mid m : Nat) : Int)) ∧ w' = w.alloc (.cells #[.int .i64 s.b, .slice s.ko s.K.length s.kc, .slice s.so s.S.length s.sc] 28)) :=
    heldItemS_o s.ko s.kc m s.K _ h0.kk hb.1 hs.2.2.1 hs.1
  have H2 : Hid (Calls Tryd.prog 53 #[.slice s.so s.S.length s.sc, .int .i64 ((s.mid m : Nat) : Int)] (w.alloc (.cells #[.int .i64 s.b, .slice s.ko s.K.length s.kc, .slice s.so s.S.length s.sc] 28)) fun e w' => e = .returned (.int .i64 ((s.fin m : Nat) : Int)) ∧ w' = w.alloc (.cells #[.int .i64 s.b, .slice s.ko s.K.length s.kc, .slice s.so s.S.length s.sc] 28)) :=
    heldSessionS_o s.so s.sc (s.mid m) s.S _ h0.ss hb.2 hs.2.2.2 hs.2.1
  have b1 : (0 : Int) ≤ ((s.mid m : Nat) : Int) := by omega
  have b2 : (0 : Int) ≤ ((s.fin m : Nat) : Int) := by omega
  have b3 : s.mid m ≤ 1073741000 := hb.1 _ (Nat.le_refl _); have b4 : s.fin m ≤ 1073741000 := hb.2 _ (Nat.le_refl _); clear h0 h hs hb H0; obtain ⟨b, ko, kc, K, so, sc, S⟩ := s; simp only [Sv.val] at *; generalize K.length = kn at *; generalize S.length = sn at *; generalize (Sv.fin _ m : Nat) = F at *; generalize (Sv.mid _ m : Nat) = M at *
  go_enter Tryd.func25, Tryd.ntmps25
  go_wp2_with fail; refine H1.out.mono ?_; rintro e w1 ⟨rfl, hw1⟩; subst hw1; clear H1; go_wp2_with fail; refine H2.out.mono ?_; rintro e w1 ⟨rfl, hw1⟩; subst hw1; clear H2; go_wp2; go_ret; exact ⟨rfl, World.grownBy_alloc _ _ _⟩
/-- a service that was read: no kept items -/
def svOf (B : Nat) (oa : Option Addr) (cap : Nat) (L : List Se) : Sv := ⟨(B : Int), none, 0, [], oa, cap, L.map Se.el⟩
theorem svOf_val (B : Nat) (oa : Option Addr) (cap : Nat) (L : List Se) : (svOf B oa cap L).val = .agg #[.int .i64 (B : Int), .slice none 0 0, .slice oa L.length cap] := by simp [svOf, Sv.val]
theorem svOf_at {w : World} {base : Nat} {v : Value} {L : List Se} (B : Nat) (h : SesRow w base v L) : ∃ oa cap, v = .slice oa L.length cap ∧ SvAt w (svOf B oa cap L) ∧ ∀ k, SvB (svOf B oa cap L) k → base ≤ k := by
  obtain ⟨oa, cap, hv, hE, hB⟩ := h.el; refine ⟨oa, cap, hv, ⟨.inl ⟨rfl, rfl, rfl⟩, hE, by simp [svOf]⟩, fun k hk => ?_⟩
  rcases hk with hk | hk
  · rcases hk with h | ⟨x, hx, _⟩
    · cases h
    · simp [svOf] at hx
  · exact hB k hk
end Go.Proofs.YtdajcpcajdhplaaDoor
/-
  A slice of bytes that came in, opened once: SlB. Nothing here reaches the dump.
-/
namespace Go.Proofs.YtdajcpcajdhplaaDoor
open Go.ChangeShapes Go.WideShapes Go.ChangeAt Go.RowKit

theorem u8_bounds {n : Int} (h : (Lit.int .u8 n).wf = true) : 0 ≤ n ∧ n < 256 := by
  have := bounds_u8 h
  omega

theorem slb_open {H : Type} {enc : TypeId × Value → H} {P : Program} {W : World} {t e : TypeId} {a : Option Addr} {len cap : Nat} {d : DataW H} {p : List MemPlace}
    (hu : P.underlying t = some (.slice e)) (he : P.underlying e = some (.int .u8)) (hc : P.cellsOf e = 1)
    (h : DataW.Trod enc P W 0 (fun _ => true) true t (.slice a len cap) d p) : ∃ zs, SlB W a len zs ∧ len ≤ maxLen := by
  obtain ⟨fuel, hf⟩ := h
  rcases open_ints hu he hc hf with ⟨hcs, _⟩ | ⟨x, l, c, zs, hcs, _, hl, hm, hz, _, hcell, hwz⟩
  · simp [Value.cells] at hcs
    obtain ⟨rfl, rfl, rfl⟩ := hcs; exact ⟨[], ⟨rfl, by simp, fun h => absurd rfl h⟩, Nat.zero_le _⟩
  · simp [Value.cells] at hcs
    obtain ⟨rfl, rfl, rfl⟩ := hcs
    have hz' : zs.length = cap := by simpa using hz
    refine ⟨(zs.take len).map Int.toNat, ⟨by simp; omega, ?_, fun hn => ?_⟩, by omega⟩
    · intro z hz1; obtain ⟨n, hn, rfl⟩ := List.mem_map.1 hz1; have := u8_bounds (hwz n (List.mem_of_mem_take hn))
      omega
    · obtain ⟨b, off, spot⟩ := x; have h0 := hcell 0 (by omega)
      have hspot : spot = none := by simpa [Addr.add] using World.cell?_spot h0
      subst hspot; refine ⟨b, off, rfl, fun i hi => ?_⟩; have hi' := hcell i (by omega); have hb := u8_bounds (hwz (zs.getD i 0) (by simp [List.getD, show i < zs.length by omega]))
      have e1 : ((((zs.take len).map Int.toNat).getD i 0 : Nat) : Int) = zs.getD i 0 := by
        have : ((zs.take len).map Int.toNat).getD i 0 = (zs.getD i 0).toNat := by
          simp [List.getD, hi, show i < zs.length by omega]
        rw [this]; omega
      rw [e1]
      have e2 : (⟨b, off, none⟩ : Addr).add i = ⟨b, off + i, none⟩ := by
        by_cases h0' : i = 0 <;> simp [Addr.add, h0']
      rw [← e2]; exact hi'
/-- an element as it came in: its numbers, its bytes -/
structure Ar where
  hd : List Int
  oa : Option Addr
  len : Nat
  cap : Nat
  d : List Nat
def Ar.tell (x : Ar) : List Int × List Nat := (x.hd, x.d)
def ArSl (w : World) (c : Nat) (oa : Option Addr) (A : List Ar) : Prop :=
  ∀ i x, A[i]? = some x → ∃ b off, oa = some ⟨b, off, none⟩ ∧ (∀ (j : Nat) (n : Int), x.hd[j]? = some n → w.cell? ⟨b, off + i * (c + 1) + j, none⟩ = some (.int .i64 n)) ∧ w.cell? ⟨b, off + i * (c + 1) + c, none⟩ = some (.slice x.oa x.len x.cap) ∧ x.hd.length = c ∧ SlB w x.oa x.len x.d ∧ x.len ≤ maxLen
theorem ArSl.grown {w w' : World} {c : Nat} {oa : Option Addr} {A : List Ar} (h : ArSl w c oa A) (hg : w.grownBy w' none) : ArSl w' c oa A := by
  intro i x hx; obtain ⟨b, off, h1, h2, h3, h4, h5, h6⟩ := h i x hx; obtain ⟨hc, -⟩ := bcell hg; exact ⟨b, off, h1, fun j n hn => (hc _ _ (cell_block_lt (h2 j n hn))).trans (h2 j n hn), (hc _ _ (cell_block_lt h3)).trans h3, h4, h5.grown0 hg, h6⟩
theorem add_none (b off i : Nat) : (⟨b, off, none⟩ : Addr).add i = ⟨b, off + i, none⟩ := by
  by_cases h0 : i = 0 <;> simp [Addr.add, h0]
theorem cellsInt : Tryd.prog.cellsOf 3 = 1 := by kernel_rfl
theorem cellsU8' : Tryd.prog.cellsOf 5 = 1 := by kernel_rfl
theorem cellsBy : Tryd.prog.cellsOf 22 = 1 := by kernel_rfl
theorem made_get (z : Array Value) (n i : Nat) (hi : i < n) (hz : 0 < z.size) : (madeCells z n)[i]? = z[i % z.size]? := by
  simp [madeCells, hi]
  rw [Array.getElem!_eq_getD, Array.getD_eq_getD_getElem?, Array.getElem?_eq_getElem (Nat.mod_lt _ hz)]
  simp
/-- a new element's bytes -/
theorem ElAt.setO {w : World} {t : TypeId} {m g : Nat} {L : List El} (h : ElAt w t m g L) (ht : t ≠ 5) {k : Nat} {x : El} (hx : L[k]? = some x) (o' cp' : Nat) (d' : List Nat) (hO' : Own w 5 o' d') (hf' : ∀ y ∈ L, y.o ≠ some o') :
    ElAt (w.setCell ⟨g, k * (m + 1) + m, none⟩ (.slice (some ⟨o', 0, none⟩) d'.length cp')) t m g (L.set k { x with d := d', o := some o', cp := cp' }) := by
  have hk : k < L.length := (List.getElem?_eq_some_iff.1 hx).1
  have hne := fun {i : Nat} {s : El} (hs : L[i]? = some s) {b : Nat} (hb : s.o = some b) => h.ne ht hs hb
  have hog : o' ≠ g := by
    obtain ⟨cur, hg, _⟩ := h.row; rintro rfl; exact ht (own_type hO' hg).symm
  obtain ⟨⟨cur, hg, hc⟩, hO, hf⟩ := h; refine ⟨⟨cur.setIfInBounds (k * (m + 1) + m) (.slice (some ⟨o', 0, none⟩) d'.length cp'), heap_setCell_same w g (k * (m + 1) + m) cur _ _ hg, fun i s hs => ?_⟩, fun i s hs => ?_, fun i j y z b hi hj hy hz => ?_⟩
  · rcases el_set_get hk hs with ⟨rfl, rfl⟩ | ⟨hik, hs'⟩
    · have h1 := hc i x hx; have hl := (hO i x hx).1; refine ⟨fun j' n hn => ?_, ?_⟩
      · have hj' := (List.getElem?_eq_some_iff.1 hn).1; simp only at hj' hn; rw [Array.getElem?_setIfInBounds, if_neg (by omega)]; exact h1.1 j' n hn
      · have hb := (Array.getElem?_eq_some_iff.1 h1.2).1; rw [Array.getElem?_setIfInBounds, if_pos rfl, if_pos hb]
        rfl
    · have h1 := hc i s hs'; have hl := (hO i s hs').1; refine ⟨fun j' n hn => ?_, ?_⟩
      · have hj' := (List.getElem?_eq_some_iff.1 hn).1; rw [Array.getElem?_setIfInBounds, if_neg (mul_apart (Ne.symm hik) (by omega) (by omega))]; exact h1.1 j' n hn
      · rw [Array.getElem?_setIfInBounds, if_neg (mul_apart (Ne.symm hik) (by omega) (by omega))]; exact h1.2
  · rcases el_set_get hk hs with ⟨rfl, rfl⟩ | ⟨hik, hs'⟩
    · exact ⟨(hO i x hx).1, (hO'.setOther hog).s rfl, fun e => by cases e⟩
    · refine ⟨(hO i s hs').1, (hO i s hs').2.1.grown (row := some g) (grownBy_setCell (grownBy_refl _ _)) (fun b hb e => ?_), (hO i s hs').2.2⟩; rw [blk_oad] at hb; exact hne hs' hb (by simpa using e)
  · rcases el_set_get hk hi with ⟨rfl, rfl⟩ | ⟨hik, hi'⟩
    · rcases el_set_get hk hj with ⟨rfl, rfl⟩ | ⟨hjk, hj'⟩
      · rfl
      · simp only [Option.some.injEq] at hy; subst hy; exact absurd hz (hf' z (List.mem_of_getElem? hj'))
    · rcases el_set_get hk hj with ⟨rfl, rfl⟩ | ⟨hjk, hj'⟩
      · simp only [Option.some.injEq] at hz; subst hz; exact absurd hy (hf' y (List.mem_of_getElem? hi'))
      · exact hf i j y z b hi' hj' hy hz
def zEl (c : Nat) : El := ⟨List.replicate c 0, [], none, 0⟩

theorem cellsItem' : Tryd.prog.cellsOf 110 = 3 := by kernel_rfl
set_option maxRecDepth 100000 in
theorem openItem {H : Type} {enc : TypeId × Value → H} {W : World} {sp : Nat → Bool} {fuel : Nat} {cs : List Value} {x : DataW H × List MemPlace} (h : DataW.trod enc Tryd.prog W 0 sp true fuel 110 cs = some x) (hsp : ∀ b, sp b = true) :
    ∃ n0 n1 : Int, ∃ (oa : Option Addr) (len cap : Nat) (zs : List Nat), cs = [.int .i64 n0, .int .i64 n1, .slice oa len cap] ∧ SlB W oa len zs ∧ len ≤ maxLen := by
  obtain rfl : sp = fun _ => true := funext hsp
  obtain ⟨xs, n, rfl, -, hl, hlen, hf⟩ := DataW.trod_struct Tryd.underlying110 h; rw [cellsItem'] at hl
  match cs, hl with
  | [c0, c1, cz], _ =>
    have h0 : DataW.trod enc Tryd.prog W 0 (fun _ => true) true n 3 [c0] = xs[0]? := by have h9 : DataW.trod enc Tryd.prog W 0 (fun _ => true) true n 3 (List.take (Tryd.prog.cellsOf 3) (List.drop 0 [c0, c1, cz])) = xs[0]? := hf 0 _ rfl; rw [cellsInt] at h9; exact h9
    have h1 : DataW.trod enc Tryd.prog W 0 (fun _ => true) true n 3 [c1] = xs[1]? := by have h9 : DataW.trod enc Tryd.prog W 0 (fun _ => true) true n 3 (List.take (Tryd.prog.cellsOf 3) (List.drop 1 [c0, c1, cz])) = xs[1]? := hf 1 _ rfl; rw [cellsInt] at h9; exact h9
    have h2 : DataW.trod enc Tryd.prog W 0 (fun _ => true) true n 22 [cz] = xs[2]? := by have h9 : DataW.trod enc Tryd.prog W 0 (fun _ => true) true n 22 (List.take (Tryd.prog.cellsOf 22) (List.drop 2 [c0, c1, cz])) = xs[2]? := hf 2 _ rfl; rw [cellsBy] at h9; exact h9
    obtain ⟨n0, e0⟩ : ∃ n, c0 = .int .i64 n := by
      obtain ⟨y, hy⟩ : ∃ y, xs[0]? = some y := ⟨_, List.getElem?_eq_getElem (by rw [hlen]; decide)⟩; rw [hy] at h0; obtain ⟨n, e, -, -⟩ := DataW.trod_int Tryd.underlying3 h0; exact ⟨n, by simpa using e⟩
    obtain ⟨n1, e1⟩ : ∃ n, c1 = .int .i64 n := by
      obtain ⟨y, hy⟩ : ∃ y, xs[1]? = some y := ⟨_, List.getElem?_eq_getElem (by rw [hlen]; decide)⟩; rw [hy] at h1; obtain ⟨n, e, -, -⟩ := DataW.trod_int Tryd.underlying3 h1; exact ⟨n, by simpa using e⟩
    obtain ⟨oa, len, cap, hz⟩ : ∃ oa len cap, cz = .slice oa len cap := by
      obtain ⟨y, hy⟩ : ∃ y, xs[2]? = some y := ⟨_, List.getElem?_eq_getElem (by rw [hlen]; decide)⟩; rw [hy] at h2
      rcases DataW.trod_slice Tryd.underlying22 h2 with ⟨h, _⟩ | ⟨x, l, c, _, _, _, _, h, _⟩
      · simp at h; exact ⟨none, 0, 0, h⟩
      · simp at h; exact ⟨some x, l, c, h⟩
    subst hz; obtain ⟨y, hy⟩ : ∃ y, xs[2]? = some y := ⟨_, List.getElem?_eq_getElem (by rw [hlen]; decide)⟩; rw [hy] at h2; obtain ⟨zs, hs, hmx⟩ := slb_open (a := oa) (len := len) (cap := cap) Tryd.underlying22 Tryd.underlying5 cellsU8' ⟨_, by simpa [Value.cells] using h2⟩; exact ⟨n0, n1, oa, len, cap, zs, by simp [e0, e1], hs, hmx⟩
set_option maxRecDepth 100000 in
theorem openItemS {H : Type} {enc : TypeId × Value → H} {W : World} {fuel : Nat} {oa : Option Addr} {len cap : Nat} {x : DataW H × List MemPlace} (h : DataW.trod enc Tryd.prog W 0 (fun _ => true) true fuel 47 [.slice oa len cap] = some x) :
    ∃ A, ArSl W 2 oa A ∧ A.length = len ∧ len ≤ maxLen ∧ (oa = none → cap = 0) := by
  rcases DataW.trod_slice Tryd.underlying47 h with ⟨h0, _⟩ | ⟨a, len', cap', elems, rest, n, _, hcs, -, _, hl, hm, hlen, hel, _, _⟩
  · simp at h0
    obtain ⟨rfl, rfl, rfl⟩ := h0; exact ⟨[], fun i x hx => by simp at hx, rfl, Nat.zero_le _, fun _ => rfl⟩
  · simp at hcs
    obtain ⟨rfl, rfl, rfl⟩ := hcs
    have hspot : 0 < len → a.spot = none := by
      intro h0; have h1 := hel 0 h0; rw [List.getElem?_eq_getElem (by omega), Option.bind_eq_some_iff] at h1; obtain ⟨cs, hcs, ht⟩ := h1; rw [cellsItem'] at hcs; obtain ⟨_, hcl, hcell⟩ := World.cells?_some hcs; have h2 := hcell 0 (by decide); rw [List.getElem?_eq_getElem (by omega)] at h2; have h3 := World.cell?_spot h2
      simpa [Addr.add] using h3
    have each : ∀ i : Nat, ∃ y : Ar, i < len → (∃ b off, some a = some (⟨b, off, none⟩ : Addr) ∧ (∀ (j : Nat) (n : Int), y.hd[j]? = some n → W.cell? ⟨b, off + i * (2 + 1) + j, none⟩ = some (.int .i64 n)) ∧ W.cell? ⟨b, off + i * (2 + 1) + 2, none⟩ = some (.slice y.oa y.len y.cap) ∧ y.hd.length = 2 ∧ SlB W y.oa y.len y.d ∧ y.len ≤ maxLen) := by
      intro i
      by_cases hi : i < len
      · have h1 := hel i hi; have hsp := hspot (by omega); rw [List.getElem?_eq_getElem (by omega), Option.bind_eq_some_iff] at h1; obtain ⟨cs, hcs, ht⟩ := h1; rw [cellsItem'] at hcs; obtain ⟨_, hcl, hcell⟩ := World.cells?_some hcs; obtain ⟨n0, n1, oa', len', cap', zs, rfl, hs, hmx⟩ := openItem ht (fun _ => rfl); refine ⟨⟨[n0, n1], oa', len', cap', zs⟩, fun _ => ?_⟩; obtain ⟨ab, ao, asp⟩ := a; simp only at hsp; subst hsp
        have g : ∀ j v, j < 3 → [Value.int .i64 n0, Value.int .i64 n1, Value.slice oa' len' cap'][j]? = some v → W.cell? ⟨ab, ao + i * 3 + j, none⟩ = some v := by
          intro j v hj hv; have h2 := hcell j hj; rw [hv, add_none, add_none] at h2; exact h2
        refine ⟨ab, ao, rfl, fun j n hn => ?_, g 2 _ (by decide) rfl, rfl, hs, hmx⟩; have hj := (List.getElem?_eq_some_iff.1 hn).1; simp only [List.length_cons, List.length_nil] at hj; refine g j _ (by omega) ?_
        rcases (show j = 0 ∨ j = 1 by omega) with rfl | rfl <;> (simp at hn; simp [hn])
      · exact ⟨⟨[], none, 0, 0, []⟩, fun h => absurd h hi⟩
    refine ⟨(List.range len).map (fun i => (each i).choose), fun i x hx => ?_, by simp, by omega, fun e => by cases e⟩; rw [List.getElem?_map] at hx; obtain ⟨j, hj, rfl⟩ := Option.map_eq_some_iff.1 hx; obtain ⟨hi, rfl⟩ := List.getElem?_eq_some_iff.1 hj; simp only [List.length_range] at hi; have := (each i).choose_spec hi
    simpa using this

theorem cellsSession' : Tryd.prog.cellsOf 112 = 4 := by kernel_rfl
set_option maxRecDepth 100000 in
theorem openSession {H : Type} {enc : TypeId × Value → H} {W : World} {sp : Nat → Bool} {fuel : Nat} {cs : List Value} {x : DataW H × List MemPlace} (h : DataW.trod enc Tryd.prog W 0 sp true fuel 112 cs = some x) (hsp : ∀ b, sp b = true) :
    ∃ n0 n1 n2 : Int, ∃ (oa : Option Addr) (len cap : Nat) (zs : List Nat), cs = [.int .i64 n0, .int .i64 n1, .int .i64 n2, .slice oa len cap] ∧ SlB W oa len zs ∧ len ≤ maxLen := by
  obtain rfl : sp = fun _ => true := funext hsp
  obtain ⟨xs, n, rfl, -, hl, hlen, hf⟩ := DataW.trod_struct Tryd.underlying112 h; rw [cellsSession'] at hl
  match cs, hl with
  | [c0, c1, c2, cz], _ =>
    have h0 : DataW.trod enc Tryd.prog W 0 (fun _ => true) true n 3 [c0] = xs[0]? := by have h9 : DataW.trod enc Tryd.prog W 0 (fun _ => true) true n 3 (List.take (Tryd.prog.cellsOf 3) (List.drop 0 [c0, c1, c2, cz])) = xs[0]? := hf 0 _ rfl; rw [cellsInt] at h9; exact h9
    have h1 : DataW.trod enc Tryd.prog W 0 (fun _ => true) true n 3 [c1] = xs[1]? := by have h9 : DataW.trod enc Tryd.prog W 0 (fun _ => true) true n 3 (List.take (Tryd.prog.cellsOf 3) (List.drop 1 [c0, c1, c2, cz])) = xs[1]? := hf 1 _ rfl; rw [cellsInt] at h9; exact h9
    have h2 : DataW.trod enc Tryd.prog W 0 (fun _ => true) true n 3 [c2] = xs[2]? := by have h9 : DataW.trod enc Tryd.prog W 0 (fun _ => true) true n 3 (List.take (Tryd.prog.cellsOf 3) (List.drop 2 [c0, c1, c2, cz])) = xs[2]? := hf 2 _ rfl; rw [cellsInt] at h9; exact h9
    have h3 : DataW.trod enc Tryd.prog W 0 (fun _ => true) true n 22 [cz] = xs[3]? := by have h9 : DataW.trod enc Tryd.prog W 0 (fun _ => true) true n 22 (List.take (Tryd.prog.cellsOf 22) (List.drop 3 [c0, c1, c2, cz])) = xs[3]? := hf 3 _ rfl; rw [cellsBy] at h9; exact h9
    obtain ⟨n0, e0⟩ : ∃ n, c0 = .int .i64 n := by
      obtain ⟨y, hy⟩ : ∃ y, xs[0]? = some y := ⟨_, List.getElem?_eq_getElem (by rw [hlen]; decide)⟩; rw [hy] at h0; obtain ⟨n, e, -, -⟩ := DataW.trod_int Tryd.underlying3 h0; exact ⟨n, by simpa using e⟩
    obtain ⟨n1, e1⟩ : ∃ n, c1 = .int .i64 n := by
      obtain ⟨y, hy⟩ : ∃ y, xs[1]? = some y := ⟨_, List.getElem?_eq_getElem (by rw [hlen]; decide)⟩; rw [hy] at h1; obtain ⟨n, e, -, -⟩ := DataW.trod_int Tryd.underlying3 h1; exact ⟨n, by simpa using e⟩
    obtain ⟨n2, e2⟩ : ∃ n, c2 = .int .i64 n := by
      obtain ⟨y, hy⟩ : ∃ y, xs[2]? = some y := ⟨_, List.getElem?_eq_getElem (by rw [hlen]; decide)⟩; rw [hy] at h2; obtain ⟨n, e, -, -⟩ := DataW.trod_int Tryd.underlying3 h2; exact ⟨n, by simpa using e⟩
    obtain ⟨oa, len, cap, hz⟩ : ∃ oa len cap, cz = .slice oa len cap := by
      obtain ⟨y, hy⟩ : ∃ y, xs[3]? = some y := ⟨_, List.getElem?_eq_getElem (by rw [hlen]; decide)⟩; rw [hy] at h3
      rcases DataW.trod_slice Tryd.underlying22 h3 with ⟨h, _⟩ | ⟨x, l, c, _, _, _, _, h, _⟩
      · simp at h; exact ⟨none, 0, 0, h⟩
      · simp at h; exact ⟨some x, l, c, h⟩
    subst hz; obtain ⟨y, hy⟩ : ∃ y, xs[3]? = some y := ⟨_, List.getElem?_eq_getElem (by rw [hlen]; decide)⟩; rw [hy] at h3; obtain ⟨zs, hs, hmx⟩ := slb_open (a := oa) (len := len) (cap := cap) Tryd.underlying22 Tryd.underlying5 cellsU8' ⟨_, by simpa [Value.cells] using h3⟩; exact ⟨n0, n1, n2, oa, len, cap, zs, by simp [e0, e1, e2], hs, hmx⟩
set_option maxRecDepth 100000 in
theorem openSessionS {H : Type} {enc : TypeId × Value → H} {W : World} {fuel : Nat} {oa : Option Addr} {len cap : Nat} {x : DataW H × List MemPlace} (h : DataW.trod enc Tryd.prog W 0 (fun _ => true) true fuel 48 [.slice oa len cap] = some x) :
    ∃ A, ArSl W 3 oa A ∧ A.length = len ∧ len ≤ maxLen ∧ (oa = none → cap = 0) := by
  rcases DataW.trod_slice Tryd.underlying48 h with ⟨h0, _⟩ | ⟨a, len', cap', elems, rest, n, _, hcs, -, _, hl, hm, hlen, hel, _, _⟩
  · simp at h0
    obtain ⟨rfl, rfl, rfl⟩ := h0; exact ⟨[], fun i x hx => by simp at hx, rfl, Nat.zero_le _, fun _ => rfl⟩
  · simp at hcs
    obtain ⟨rfl, rfl, rfl⟩ := hcs
    have hspot : 0 < len → a.spot = none := by
      intro h0; have h1 := hel 0 h0; rw [List.getElem?_eq_getElem (by omega), Option.bind_eq_some_iff] at h1; obtain ⟨cs, hcs, ht⟩ := h1; rw [cellsSession'] at hcs; obtain ⟨_, hcl, hcell⟩ := World.cells?_some hcs; have h2 := hcell 0 (by decide); rw [List.getElem?_eq_getElem (by omega)] at h2; have h3 := World.cell?_spot h2
      simpa [Addr.add] using h3
    have each : ∀ i : Nat, ∃ y : Ar, i < len → (∃ b off, some a = some (⟨b, off, none⟩ : Addr) ∧ (∀ (j : Nat) (n : Int), y.hd[j]? = some n → W.cell? ⟨b, off + i * (3 + 1) + j, none⟩ = some (.int .i64 n)) ∧ W.cell? ⟨b, off + i * (3 + 1) + 3, none⟩ = some (.slice y.oa y.len y.cap) ∧ y.hd.length = 3 ∧ SlB W y.oa y.len y.d ∧ y.len ≤ maxLen) := by
      intro i
      by_cases hi : i < len
      · have h1 := hel i hi; have hsp := hspot (by omega); rw [List.getElem?_eq_getElem (by omega), Option.bind_eq_some_iff] at h1; obtain ⟨cs, hcs, ht⟩ := h1; rw [cellsSession'] at hcs; obtain ⟨_, hcl, hcell⟩ := World.cells?_some hcs; obtain ⟨n0, n1, n2, oa', len', cap', zs, rfl, hs, hmx⟩ := openSession ht (fun _ => rfl); refine ⟨⟨[n0, n1, n2], oa', len', cap', zs⟩, fun _ => ?_⟩; obtain ⟨ab, ao, asp⟩ := a; simp only at hsp; subst hsp
        have g : ∀ j v, j < 4 → [Value.int .i64 n0, Value.int .i64 n1, Value.int .i64 n2, Value.slice oa' len' cap'][j]? = some v → W.cell? ⟨ab, ao + i * 4 + j, none⟩ = some v := by
          intro j v hj hv; have h2 := hcell j hj; rw [hv, add_none, add_none] at h2; exact h2
        refine ⟨ab, ao, rfl, fun j n hn => ?_, g 3 _ (by decide) rfl, rfl, hs, hmx⟩; have hj := (List.getElem?_eq_some_iff.1 hn).1; simp only [List.length_cons, List.length_nil] at hj; refine g j _ (by omega) ?_
        rcases (show j = 0 ∨ j = 1 ∨ j = 2 by omega) with rfl | rfl | rfl <;> (simp at hn; simp [hn])
      · exact ⟨⟨[], none, 0, 0, []⟩, fun h => absurd h hi⟩
    refine ⟨(List.range len).map (fun i => (each i).choose), fun i x hx => ?_, by simp, by omega, fun e => by cases e⟩; rw [List.getElem?_map] at hx; obtain ⟨j, hj, rfl⟩ := Option.map_eq_some_iff.1 hx; obtain ⟨hi, rfl⟩ := List.getElem?_eq_some_iff.1 hj; simp only [List.length_range] at hi; have := (each i).choose_spec hi
    simpa using this
end Go.Proofs.YtdajcpcajdhplaaDoor

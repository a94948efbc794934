/-
  The laws' helpers over items, sessions and services, walked: eq.., mark.., held...
-/
import Derived.Test.YtdajcpcajdhplaaDoorEl
import Derived.Test.YtdajcpcajdhplaaDoorItem
import Derived.Deep.RegionWith
namespace Go.Proofs.YtdajcpcajdhplaaDoor
open Go.RowKit

theorem ElAt.get3 {w : World} {t : TypeId} {g : Nat} {L : List El} (h : ElAt w t 3 g L) {k : Nat} {x : El} (hx : L[k]? = some x) : ∃ n0 n1 n2 : Int, x.hd = [n0, n1, n2] ∧ w.cell? ⟨g, k * 4, none⟩ = some (.int .i64 n0) ∧ w.cell? ⟨g, k * 4 + 1, none⟩ = some (.int .i64 n1) ∧ w.cell? ⟨g, k * 4 + 2, none⟩ = some (.int .i64 n2) ∧ w.cell? ⟨g, k * 4 + 3, none⟩ = some (.slice (oad x.o) x.d.length x.cp) := by
  obtain ⟨hd, d, o, cp⟩ := x
  have hl := (h.own k _ hx).1
  simp only at hl
  match hd, hl with
  | [n0, n1, n2], _ => exact ⟨n0, n1, n2, rfl, h.cell hx (j := 0) rfl, h.cell hx (j := 1) rfl, h.cell hx (j := 2) rfl, h.slice hx⟩
set_option maxHeartbeats 400000 in
theorem eqSession_same (n0 n1 n2 : Int) (oa ob : Option Addr) (len ca cb : Nat) (zs : List Nat) (w : World) (ha : SlB w oa len zs) (hb : SlB w ob len zs) (hm : len ≤ 1073741824) :
    Calls Tryd.prog 74 #[.agg #[.int .i64 n0, .int .i64 n1, .int .i64 n2, .slice oa len ca], .agg #[.int .i64 n0, .int .i64 n1, .int .i64 n2, .slice ob len cb]] w fun e w' => e = .returned (.bool true) ∧ w.grownBy w' none := by
  have HA : Hid (SlB w oa len zs ∧ SlB w ob len zs) := ⟨ha, hb⟩
  clear ha hb
  go_enter Tryd.func74, Tryd.ntmps74
  go_wp2_with fail
  refine (eqByteS_same oa ob len ca cb zs _ (HA.out.1.grown0 (grownBy_alloc (World.grownBy_alloc _ _ _) _)) (HA.out.2.grown0 (grownBy_alloc (World.grownBy_alloc _ _ _) _)) hm).mono ?_
  rintro e w1 ⟨rfl, hG1⟩
  have R : Hid _ := grownBy_trans (grownBy_alloc (World.grownBy_alloc w _ none) _) hG1
  clear hG1
  go_wp2
  go_ret
  exact ⟨rfl, R.out⟩
set_option maxRecDepth 100000 in
set_option maxHeartbeats 2000000 in
theorem eqSessionS_same (oa ob : Option Addr) (ca cb : Nat) (L L' : List El) (w : World) (h : ElO w 74 3 oa ca L) (h' : ElO w 74 3 ob cb L') (htell : L.map El.tell = L'.map El.tell) (hlen : L.length ≤ 1048576) (hd : ∀ x ∈ L, x.d.length ≤ 1048576) :
    Calls Tryd.prog 49 #[.slice oa L.length ca, .slice ob L'.length cb] w fun e w' => e = .returned (.bool true) ∧ w.grownBy w' none := by
  have hll : L'.length = L.length := by have := congrArg List.length htell; simpa using this.symm
  rw [hll]
  have HR : Hid (ElO w 74 3 oa ca L ∧ ElO w 74 3 ob cb L') := ⟨h, h'⟩
  have HT : Hid (L.map El.tell = L'.map El.tell) := htell
  have HD : Hid (∀ x ∈ L, x.d.length ≤ 1048576) := hd
  clear h h' htell hd
  obtain ⟨n, hn⟩ : ∃ n, L.length = n := ⟨_, rfl⟩
  have HN : Hid (L.length = n ∧ L'.length = n) := ⟨hn, by omega⟩
  rw [hn] at hlen ⊢
  clear hll hn
  go_enter Tryd.func49, Tryd.ntmps49
  go_wp2
  go_loopw [5] (fun i wr => ∃ k : Nat, k ≤ n ∧ i = .int .i64 (k : Int) ∧ w.grownBy wr none) (fun i _ => n - (intOf i).toNat)
  case atStart => exact ⟨0, Nat.zero_le _, rfl, grownBy_refl _ _⟩
  case round =>
    obtain ⟨k, hk, rfl, hG⟩ := hrel
    have HG : Hid (w.grownBy wr none) := hG
    clear hG
    by_cases hlt : k < n
    · obtain ⟨x, hx⟩ : ∃ x, L[k]? = some x := ⟨_, List.getElem?_eq_getElem (by rw [HN.out.1]; exact hlt)⟩
      obtain ⟨y, hy⟩ : ∃ y, L'[k]? = some y := ⟨_, List.getElem?_eq_getElem (by rw [HN.out.2]; exact hlt)⟩
      have het : x.tell = y.tell := by
        have h1 : (L.map El.tell)[k]? = some x.tell := by simp [hx]
        have h2 : (L'.map El.tell)[k]? = some y.tell := by simp [hy]
        rw [HT.out, h2] at h1
        exact (Option.some.inj h1).symm
      rcases HR.out.1.grown0 HG.out with ⟨_, _, h0⟩ | ⟨g, rfl, hA⟩
      · rw [h0] at hx; simp at hx
      rcases HR.out.2.grown0 HG.out with ⟨_, _, h0⟩ | ⟨g', rfl, hA'⟩
      · rw [h0] at hy; simp at hy
      obtain ⟨n0, n1, n2, hhd, c0, c1, c2, cd⟩ := hA.get3 hx
      obtain ⟨p0, p1, p2, hhd', d0, d1, d2, cd'⟩ := hA'.get3 hy
      have hO := (hA.own k x hx).2.1
      have hO' := (hA'.own k y hy).2.1
      have hdl := HD.out _ (List.mem_of_getElem? hx)
      obtain ⟨hd, d, o, cp⟩ := x
      obtain ⟨hd', d', o', cp'⟩ := y
      simp only [El.tell, Prod.mk.injEq] at het
      obtain ⟨rfl, rfl⟩ := het
      simp only at hhd hhd' cd cd' hO hO' hdl
      rw [hhd] at hhd'
      simp only [List.cons.injEq, and_true] at hhd'
      obtain ⟨rfl, rfl, rfl⟩ := hhd'
      have HE : Hid (∀ w' : World, w'.heap = wr.heap → Calls _ _ _ w' _) := fun w' hh => eqSession_same n0 n1 n2 (oad o) (oad o') d.length cp cp' d w' (hO.sl.heap hh) (hO'.sl.heap hh) (by omega)
      clear hO hO' hx hy hA hA' hhd
      have hkI : (k : Int) < (n : Int) := by omega
      generalize oad o = og at *
      generalize oad o' = og' at *
      go_wp2
      go_region_with (first | (go_at_call 74; refine (HE.out wr.drew rfl).mono ?_; rintro e w1 ⟨rfl, hG1⟩) | fail)
      all_goals
        have HG2 : Hid (w.grownBy w1 none) := grownBy_trans HG.out (grownBy_trans (grownBy_drew (grownBy_refl wr none)) hG1)
        clear hG1
        go_wp2
        go_roundw
        case rel => exact ⟨k + 1, by omega, by go_num, HG2.out⟩
        case measure => simp [intOf]; omega
    · obtain rfl : k = n := by omega
      go_wp2
      go_ret
      exact ⟨rfl, HG.out⟩
set_option maxRecDepth 100000 in
set_option maxHeartbeats 2000000 in
theorem markSessionS_at (g cap m : Nat) (L : List El) (w : World) (h : ElAt w 74 3 g L) (hbound : ∀ k, k ≤ L.length → eAt 3 L m k ≤ 1073741000) (hd : ∀ x ∈ L, x.d.length ≤ 1048576) (hlen : L.length ≤ 1048576) :
    Calls Tryd.prog 51 #[.slice (some ⟨g, 0, none⟩) L.length cap, .int .i64 (m : Int)] w fun e w' => e = .returned (.int .i64 ((eAt 3 L m L.length : Nat) : Int)) ∧ ElAt w' 74 3 g (stE 3 L m L.length) ∧ Only (ElB (some ⟨g, 0, none⟩) L) w w' := by
  have HA : Hid (ElAt w 74 3 g L) := h
  have HB : Hid (True ∧ (∀ k, k ≤ L.length → eAt 3 L m k ≤ 1073741000) ∧ ∀ x ∈ L, x.d.length ≤ 1048576) := ⟨trivial, hbound, hd⟩
  clear h hbound hd
  obtain ⟨n, hn⟩ : ∃ n, L.length = n := ⟨_, rfl⟩
  have HN : Hid (L.length = n) := hn
  rw [hn] at hlen ⊢
  clear hn
  go_enter Tryd.func51, Tryd.ntmps51
  go_wp2
  go_loopw [1, 5] (fun q i wr => ∃ k : Nat, k ≤ n ∧ i = .int .i64 (k : Int) ∧ q = .int .i64 ((eAt 3 L m k : Nat) : Int) ∧ ElAt wr 74 3 g (stE 3 L m k) ∧ Only (ElB (some ⟨g, 0, none⟩) L) w wr) (fun _ i _ => n - (intOf i).toNat)
  case atStart => exact ⟨0, Nat.zero_le _, rfl, rfl, HA.out, Only.refl _ _⟩
  case round =>
    obtain ⟨k, hk, rfl, rfl, hEA, hBw⟩ := hrel
    have HR : Hid (ElAt wr 74 3 g (stE 3 L m k) ∧ Only (ElB (some ⟨g, 0, none⟩) L) w wr) := ⟨hEA, hBw⟩
    by_cases hlt : k < n
    · obtain ⟨x, hx⟩ : ∃ x, L[k]? = some x := ⟨_, List.getElem?_eq_getElem (by rw [HN.out]; exact hlt)⟩
      have hsx : (stE 3 L m k)[k]? = some x := by rw [stE_get, if_neg (by omega)]; exact hx
      have hkl : k < (stE 3 L m k).length := (List.getElem?_eq_some_iff.1 hsx).1
      have hMb := HB.out.2.1 k (by rw [HN.out]; omega)
      have hdl := HB.out.2.2 x (List.mem_of_getElem? hx)
      obtain ⟨n0, n1, n2, hhd, c0, c1, c2, cd⟩ := hEA.get3 hsx
      have f0 : wr.frozen? ⟨g, k * 4, none⟩ = false := hEA.froz _
      have f1 : wr.frozen? ⟨g, k * 4 + 1, none⟩ = false := hEA.froz _
      have f2 : wr.frozen? ⟨g, k * 4 + 2, none⟩ = false := hEA.froz _
      obtain ⟨M, hM⟩ : ∃ M, eAt 3 L m k = M := ⟨_, rfl⟩
      have HM : Hid (eAt 3 L m k = M ∧ eAt 3 L m (k + 1) = M + 3 + x.d.length) := ⟨hM, by simp [eAt, hM, hx]⟩
      have HX : Hid (ElAt (((wr.setCell ⟨g, k * 4, none⟩ (.int .i64 ((M : Int)))).setCell ⟨g, k * 4 + 1, none⟩ (.int .i64 ((M : Int) + 1))).setCell ⟨g, k * 4 + 2, none⟩ (.int .i64 ((M : Int) + 1 + 1))) 74 3 g ((stE 3 L m k).set k { x with hd := [(M : Int), (M : Int) + 1, (M : Int) + 1 + 1] })) := by
        have h1 := hEA.setHd (by decide) hsx 0 (by decide) (M : Int)
        have h2 := h1.setHd (by decide) (List.getElem?_set_self (by first | exact hkl | (simp only [List.length_set]; exact hkl))) 1 (by decide) ((M : Int) + 1)
        have h3 := h2.setHd (by decide) (List.getElem?_set_self (by first | exact hkl | (simp only [List.length_set]; exact hkl))) 2 (by decide) ((M : Int) + 1 + 1)
        simp only [List.set_set, hhd, List.set_cons_zero, List.set_cons_succ] at h3
        exact h3
      have HO : Hid (OwnS (((wr.setCell ⟨g, k * 4, none⟩ (.int .i64 ((M : Int)))).setCell ⟨g, k * 4 + 1, none⟩ (.int .i64 ((M : Int) + 1))).setCell ⟨g, k * 4 + 2, none⟩ (.int .i64 ((M : Int) + 1 + 1))) 5 (oad x.o) x.d.length x.d ∧ (oad x.o = none → x.cp = 0)) := by
        have h1 := HX.out.own k _ (List.getElem?_set_self hkl)
        exact ⟨h1.2.1, fun e => h1.2.2 (by cases ho : x.o with | none => rfl | some b => rw [ho] at e; cases e)⟩
      have HK : Hid (Calls _ _ _ _ _) := markByteS_s (oad x.o) x.d.length x.cp (M + 3) x.d (((wr.setCell ⟨g, k * 4, none⟩ (.int .i64 ((M : Int)))).setCell ⟨g, k * 4 + 1, none⟩ (.int .i64 ((M : Int) + 1))).setCell ⟨g, k * 4 + 2, none⟩ (.int .i64 ((M : Int) + 1 + 1))) HO.out.1 HO.out.2 (by omega) (by omega)
      have cds : (((wr.setCell ⟨g, k * 4, none⟩ (.int .i64 ((M : Int)))).setCell ⟨g, k * 4 + 1, none⟩ (.int .i64 ((M : Int) + 1))).setCell ⟨g, k * 4 + 2, none⟩ (.int .i64 ((M : Int) + 1 + 1))).cell? ⟨g, k * 4 + 3, none⟩ = some (.slice (oad x.o) x.d.length x.cp) := by have h1 := HX.out.slice (List.getElem?_set_self hkl); exact h1
      have HBel : Hid (Only (ElB (some ⟨g, 0, none⟩) L) w (((wr.setCell ⟨g, k * 4, none⟩ (.int .i64 ((M : Int)))).setCell ⟨g, k * 4 + 1, none⟩ (.int .i64 ((M : Int) + 1))).setCell ⟨g, k * 4 + 2, none⟩ (.int .i64 ((M : Int) + 1 + 1)))) := by
        have hg : ElB (some ⟨g, 0, none⟩) L g := .inl rfl
        exact (((HR.out.2.set g (k * 4) _ hg).set g (k * 4 + 1) _ hg).set g (k * 4 + 2) _ hg)
      have HS : Hid (stE 3 L m (k + 1) = (stE 3 L m k).set k (mkE 3 x M) ∧ (∀ b, x.o = some b → ElB (some ⟨g, 0, none⟩) L b) ∧ k < (stE 3 L m k).length) := ⟨by rw [stE_succ 3 L m k x hx, hM], fun b hb => .inr ⟨x, List.mem_of_getElem? hx, hb⟩, hkl⟩
      rw [hM] at hMb ⊢
      clear hEA hBw hx hsx hM hhd hkl
      obtain ⟨xh, xd, xo, xc⟩ := x
      simp only at *
      rw [show ((M + 3 : Nat) : Int) = (M : Int) + 1 + 1 + 1 by omega] at HK
      obtain ⟨og, hog⟩ : ∃ og, oad xo = og := ⟨_, rfl⟩
      have HOG : Hid (oad xo = og) := hog
      rw [hog] at HK cd cds
      clear hog
      go_wp2_with fail
      refine HK.out.mono ?_
      rintro e w1 ⟨rfl, hO1, hG1⟩
      have HF : Hid (ElAt w1 74 3 g (stE 3 L m (k + 1)) ∧ Only (ElB (some ⟨g, 0, none⟩) L) w w1) := by
        rw [← HOG.out] at hO1 hG1
        rw [blk_oad] at hG1
        refine ⟨?_, HBel.out.trans (Only.of hG1 HS.out.2.1)⟩
        have h1 := HX.out.setD (by decide) (k := k) (List.getElem?_set_self HS.out.2.2) (d := marked xd (M + 3) xd.length) (marked_len _ _ _) hO1 hG1
        rw [List.set_set] at h1
        rw [HS.out.1]
        exact h1
      clear hO1 hG1 HK HX HO HBel
      go_wp2
      go_roundw
      case rel => exact ⟨k + 1, by omega, by go_num, by rw [HM.out.2]; go_num, HF.out.1, HF.out.2⟩
      case measure => simp [intOf]; omega
    · obtain rfl : k = n := by omega
      obtain ⟨M, hM⟩ : ∃ M, eAt 3 L m k = M := ⟨_, rfl⟩
      have HM : Hid (eAt 3 L m k = M) := hM
      rw [hM]
      clear hEA hBw hM
      go_wp2
      go_ret
      exact ⟨by rw [HM.out]; rfl, HR.out.1, HR.out.2⟩
set_option maxRecDepth 100000 in
set_option maxHeartbeats 2000000 in
theorem heldSessionS_at (g cap m : Nat) (L : List El) (w : World) (h : ElAt w 74 3 g (stE 3 L m L.length)) (hbound : ∀ k, k ≤ L.length → eAt 3 L m k ≤ 1073741000) (hd : ∀ x ∈ L, x.d.length ≤ 1048576) (hlen : L.length ≤ 1048576) :
    Calls Tryd.prog 53 #[.slice (some ⟨g, 0, none⟩) L.length cap, .int .i64 (m : Int)] w fun e w' => e = .returned (.int .i64 ((eAt 3 L m L.length : Nat) : Int)) ∧ w' = w := by
  have HA : Hid (ElAt w 74 3 g (stE 3 L m L.length)) := h
  have HB : Hid ((∀ k, k ≤ L.length → eAt 3 L m k ≤ 1073741000) ∧ ∀ x ∈ L, x.d.length ≤ 1048576) := ⟨hbound, hd⟩
  clear h hbound hd
  obtain ⟨n, hn⟩ : ∃ n, L.length = n := ⟨_, rfl⟩
  have HN : Hid (L.length = n) := hn
  rw [hn] at hlen HA ⊢
  clear hn
  go_enter Tryd.func53, Tryd.ntmps53
  go_wp2
  go_loop [1, 5] (fun q i => ∃ k : Nat, k ≤ n ∧ i = .int .i64 (k : Int) ∧ q = .int .i64 ((eAt 3 L m k : Nat) : Int)) (fun _ i => n - (intOf i).toNat)
  case atStart => exact ⟨0, Nat.zero_le _, rfl, rfl⟩
  case round =>
    obtain ⟨k, hk, rfl, rfl⟩ := hrel
    by_cases hlt : k < n
    · obtain ⟨x, hx⟩ : ∃ x, L[k]? = some x := ⟨_, List.getElem?_eq_getElem (by rw [HN.out]; exact hlt)⟩
      have hsx : (stE 3 L m n)[k]? = some (mkE 3 x (eAt 3 L m k)) := by rw [stE_get, if_pos hlt, hx]; rfl
      have hMb := HB.out.1 k (by rw [HN.out]; omega)
      have hdl := HB.out.2 x (List.mem_of_getElem? hx)
      obtain ⟨M, hM⟩ : ∃ M, eAt 3 L m k = M := ⟨_, rfl⟩
      have HM : Hid (eAt 3 L m (k + 1) = M + 3 + x.d.length) := by show _ = _; simp [eAt, hM, hx]
      rw [hM] at hsx hMb ⊢
      have hcs : w.cell? ⟨g, k * 4, none⟩ = some (.int .i64 ((M : Int))) ∧ w.cell? ⟨g, k * 4 + 1, none⟩ = some (.int .i64 ((M : Int) + 1)) ∧ w.cell? ⟨g, k * 4 + 2, none⟩ = some (.int .i64 ((M : Int) + 1 + 1)) := by
        refine ⟨by have h1 := HA.out.cell hsx (j := 0) (n := ((M + 0 : Nat) : Int)) rfl; rw [show ((M + 0 : Nat) : Int) = (M : Int) by omega] at h1; exact h1, by have h1 := HA.out.cell hsx (j := 1) (n := ((M + 1 : Nat) : Int)) rfl; rw [show ((M + 1 : Nat) : Int) = (M : Int) + 1 by omega] at h1; exact h1, by have h1 := HA.out.cell hsx (j := 2) (n := ((M + 2 : Nat) : Int)) rfl; rw [show ((M + 2 : Nat) : Int) = (M : Int) + 1 + 1 by omega] at h1; exact h1⟩
      obtain ⟨c0, c1, c2⟩ := hcs
      have cd := HA.out.slice hsx
      have hO := HA.out.own k _ hsx
      obtain ⟨xh, xd, xo, xc⟩ := x
      simp only [mkE, marked_len] at *
      have HK : Hid (Calls _ _ _ _ _) := heldByteS_s (oad xo) xd.length xc (M + 3) (marked xd (M + 3) xd.length) w hO.2.1 (fun e => hO.2.2 (by cases xo with | none => rfl | some b => cases e)) (fun i hi => marked_get _ _ _ _ hi hi) (by omega) (by omega)
      rw [show ((M + 3 : Nat) : Int) = (M : Int) + 1 + 1 + 1 by omega] at HK
      have cd' : w.cell? ⟨g, k * 4 + 3, none⟩ = some (.slice (oad xo) xd.length xc) := cd
      obtain ⟨og, hog⟩ : ∃ og, oad xo = og := ⟨_, rfl⟩
      rw [hog] at HK cd'
      clear hx hsx hM hO cd hog
      go_wp2_with fail
      refine HK.out.mono ?_
      clear HK
      rintro e w1 ⟨rfl, rfl⟩
      go_wp2
      go_round
      case rel => exact ⟨k + 1, by omega, by go_num, by rw [HM.out]; go_num⟩
      case measure => simp [intOf]; omega
    · obtain rfl : k = n := by omega
      obtain ⟨M, hM⟩ : ∃ M, eAt 3 L m k = M := ⟨_, rfl⟩
      have HM : Hid (eAt 3 L m k = M) := hM
      rw [hM]
      clear hM
      go_wp2
      go_ret
      exact ⟨by rw [HM.out]; rfl, rfl⟩
set_option maxHeartbeats 400000 in
theorem markSessionS_nil (m : Nat) (w : World) :
    Calls Tryd.prog 51 #[.slice none 0 0, .int .i64 (m : Int)] w fun e w' => e = .returned (.int .i64 (m : Int)) ∧ w' = w := by
  go_enter Tryd.func51, Tryd.ntmps51
  go_wp2
  go_loop [1, 5] (fun v i => i = .int .i64 0 ∧ v = .int .i64 (m : Int)) (fun _ _ => 0)
  case atStart => exact ⟨rfl, rfl⟩
  case round =>
    obtain ⟨rfl, rfl⟩ := hrel
    go_wp2
    go_ret
    exact ⟨rfl, rfl⟩
set_option maxHeartbeats 400000 in
theorem heldSessionS_nil (m : Nat) (w : World) :
    Calls Tryd.prog 53 #[.slice none 0 0, .int .i64 (m : Int)] w fun e w' => e = .returned (.int .i64 (m : Int)) ∧ w' = w := by
  go_enter Tryd.func53, Tryd.ntmps53
  go_wp2
  go_loop [1, 5] (fun v i => i = .int .i64 0 ∧ v = .int .i64 (m : Int)) (fun _ _ => 0)
  case atStart => exact ⟨rfl, rfl⟩
  case round =>
    obtain ⟨rfl, rfl⟩ := hrel
    go_wp2
    go_ret
    exact ⟨rfl, rfl⟩
theorem markSessionS_o (oa : Option Addr) (cap m : Nat) (L : List El) (w : World) (h : ElO w 74 3 oa cap L) (hbound : ∀ k, k ≤ L.length → eAt 3 L m k ≤ 1073741000) (hd : ∀ x ∈ L, x.d.length ≤ 1048576) (hlen : L.length ≤ 1048576) :
    Calls Tryd.prog 51 #[.slice oa L.length cap, .int .i64 (m : Int)] w fun e w' => e = .returned (.int .i64 ((eAt 3 L m L.length : Nat) : Int)) ∧ ElO w' 74 3 oa cap (stE 3 L m L.length) ∧ Only (ElB oa L) w w' := by
  rcases h with ⟨rfl, rfl, rfl⟩ | ⟨g, rfl, hA⟩
  · refine (markSessionS_nil m w).mono ?_
    rintro e w' ⟨rfl, rfl⟩
    exact ⟨rfl, .inl ⟨rfl, rfl, rfl⟩, Only.refl _ _⟩
  · refine (markSessionS_at g cap m L w hA hbound hd hlen).mono ?_
    rintro e w' ⟨rfl, h1, h2⟩
    exact ⟨rfl, .inr ⟨g, rfl, h1⟩, h2⟩
theorem heldSessionS_o (oa : Option Addr) (cap m : Nat) (L : List El) (w : World) (h : ElO w 74 3 oa cap (stE 3 L m L.length)) (hbound : ∀ k, k ≤ L.length → eAt 3 L m k ≤ 1073741000) (hd : ∀ x ∈ L, x.d.length ≤ 1048576) (hlen : L.length ≤ 1048576) :
    Calls Tryd.prog 53 #[.slice oa L.length cap, .int .i64 (m : Int)] w fun e w' => e = .returned (.int .i64 ((eAt 3 L m L.length : Nat) : Int)) ∧ w' = w := by
  rcases h with ⟨rfl, rfl, h0⟩ | ⟨g, rfl, hA⟩
  · obtain rfl : L = [] := List.eq_nil_of_length_eq_zero (by rw [← stE_len 3 L m L.length, h0]; rfl)
    exact heldSessionS_nil m w
  · exact heldSessionS_at g cap m L w hA hbound hd hlen
end Go.Proofs.YtdajcpcajdhplaaDoor

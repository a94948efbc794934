/-
  FnSyncedWalk, ErrsLaidS
-/
import Derived.Test.YtgehhfncjoogiaaGreatDoorSyn10
import Derived.Test.YtgehhfncjoogiaaGreatDoorSyn4
import Derived.Test.YtgehhfncjoogiaaGreatDoorRows
import Derived.Stop.LaidErr
import Derived.LaidHandle
import Derived.LaidLaws
namespace Go.Proofs.YtgehhfncjoogiaaGreatDoor.fnSynced
open Go.RowKit Go.Maps

theorem toList_data (l : List UInt8) : (⟨l.toArray⟩ : ByteArray).toList = l := by simp
theorem toList_inj {a b : ByteArray} (h : a.toList = b.toList) : a = b := by
  have e : ∀ x : ByteArray, x.toList = x.data.toList := fun x => by
    have h9 := toList_data x.data.toList; rw [Array.toArray_toList] at h9; exact h9
  rw [e, e] at h
  cases a; cases b
  simpa using h
theorem one_of {X : World} {B n c : Nat} {oa : Option Addr} {os : List Opv} (h : OpsR X B (.slice oa n c) os) (hn : os.length = n) {j : Nat} (hj : j < n) : ∃ o, os[j]? = some o ∧ o.G X := by
  obtain ⟨o, ho⟩ : ∃ o, os[j]? = some o := ⟨_, List.getElem?_eq_getElem (by omega)⟩; exact ⟨o, ho, h.g o (List.mem_of_getElem? ho)⟩
set_option maxRecDepth 20000 in
set_option maxHeartbeats 16000000 in
theorem walk (oa1 : Option Addr) (len1 cap1 : Nat) (zs : List Nat) (oa2 : Option Addr) (len2 cap2 : Nat) (ys : List Nat) (ad : Nat → Addr) (w : World) (hE : ErrsAt w w.heap.size ad) (h1 : SlB w oa1 len1 zs) (h2 : SlB w oa2 len2 ys) :
    Calls Tryz.prog 3 #[.slice oa1 len1 cap1, .slice oa2 len2 cap2] w fun e w' => e = .returned (.bool true) ∧ w.grownBy w' none := by
  have H1 : Hid (SlB w oa1 len1 zs) := h1; have H2 : Hid (SlB w oa2 len2 ys) := h2; have HE : Hid (ErrsAt w w.heap.size ad) := hE; clear h1 h2 hE
  by_cases hc1 : 1048576 < len1
  · have hI : (1048576 : Int) < (len1 : Int) := by omega
    go_enter Tryz.func3, Tryz.ntmps3
    go_wp2; go_ret; exact ⟨rfl, grownBy_refl _ _⟩
  by_cases hc2 : 1048576 < len2
  · have hI : (1048576 : Int) < (len2 : Int) := by omega
    have hI1 : ¬ (1048576 : Int) < (len1 : Int) := by omega
    go_enter Tryz.func3, Tryz.ntmps3
    go_wp2; go_ret; exact ⟨rfl, grownBy_refl _ _⟩
  have hI1 : ¬ (1048576 : Int) < (len1 : Int) := by omega
  have hI2 : ¬ (1048576 : Int) < (len2 : Int) := by omega
  go_enter Tryz.func3, Tryz.ntmps3
  go_wp2_with fail; refine (l1Draw_any oa1 len1 cap1 zs w H1.out (by omega)).mono ?_; rintro e w1 ⟨s, rfl, hs0, hs1, hg1⟩; have HA1 : Hid (w.heap.size ≤ s ∧ Src w1 s zs ∧ w.grownBy w1 none) := ⟨hs0, hs1, hg1⟩; clear hs0 hs1 hg1; go_wp2_with fail; refine (l1Draw_any oa2 len2 cap2 ys w1 (H2.out.grown0 HA1.out.2.2) (by omega)).mono ?_; rintro e w2 ⟨q, rfl, hq0, hq1, hg2⟩
  have HA2 : Hid (w.heap.size ≤ s ∧ w.heap.size ≤ q ∧ s < q ∧ Src w2 s zs ∧ Src w2 q ys ∧ w.grownBy w2 none) := by
    have h9 := HA1.out.2.1.lt; have h8 := HA1.out.2.2.size; exact ⟨HA1.out.1, by omega, by omega, HA1.out.2.1.grown0 hg2, hq1, grownBy_trans HA1.out.2.2 hg2⟩
  clear hq0 hq1 hg2 HA1; go_wp2_with fail; refine (drawImage_any s zs w2 HA2.out.2.2.2.1).mono ?_; rintro e w3 ⟨⟨iv, F, rfl, hfa, hif⟩, hs3, hg3⟩; obtain ⟨ia, ic, rfl, -⟩ := hfa.is; obtain ⟨ni, hni⟩ : ∃ y, F.length = y := ⟨_, rfl⟩; rw [hni] at hfa ⊢; have HIF : Hid (ImF F 4 ∧ F.length = ni) := ⟨hif, hni⟩
  have HA3 : Hid (w.heap.size ≤ s ∧ w.heap.size ≤ q ∧ s < q ∧ Src w3 s zs ∧ Src w3 q ys ∧ w.grownBy w3 none ∧ FlAt w3 w2.heap.size (.slice ia ni ic) F) := by
    obtain ⟨l1, l2, l3, l4, l5, l6⟩ := HA2.out; exact ⟨l1, l2, l3, hs3, l5.other l4 (by omega) hg3, grownBy_row l6 hg3 (fun r hr => by obtain rfl : s = r := (by simpa using hr); exact l1), hfa⟩
  clear hfa hif hs3 hg3 HA2 hni; have HA4 : Hid (FlAt (w3.alloc (.cells #[] 33)) w2.heap.size (.slice ia ni ic) F ∧ w3.grownBy (w3.alloc (.cells #[] 33)) none ∧ (w3.alloc (.cells #[] 33)).heap.size = w3.heap.size + 1 ∧ (w3.alloc (.cells #[] 33)).ownsRow w3.heap.size 33 5 (.slice (some ⟨w3.heap.size, 0, none⟩) 0 0) 0 []) := ⟨HA3.out.2.2.2.2.2.2.grown0 (World.grownBy_alloc _ _ none), World.grownBy_alloc _ _ none, by simp, ⟨rfl, .inr ⟨_, 0, _, rfl, Nat.le_refl _, heap_alloc_new w3 _, Nat.le_refl _, Nat.zero_le _, rfl, rfl⟩⟩⟩; go_wp2_with fail; generalize w3.alloc (.cells #[] 33) = W4 at HA4 ⊢; refine (new_any (.slice ia ni ic) _ F 262144 W4 HA4.out.1 HIF.out.1).mono ?_; rintro e w5 ⟨⟨d, M0, rfl, hmk⟩, hg5⟩; obtain ⟨n0, hn0⟩ : ∃ y, W4.heap.size = y := ⟨_, rfl⟩; obtain ⟨nB, hnB⟩ : ∃ y, w3.heap.size = y := ⟨_, rfl⟩; rw [hn0] at hmk
  have HL0 : Hid (LS w w5 n0 nB s q d zs ys (.slice ia ni ic) F [] 0 (.slice (some ⟨nB, 0, none⟩) 0 0) [] M0 ∧ nB < w5.heap.size) := by
    obtain ⟨l1, l2, l3, l4, l5, l6, l7⟩ := HA3.out; obtain ⟨m1, m2, m3, m4⟩ := HA4.out; have hg := grownBy_trans m2 hg5; have t1 := l4.lt; have t2 := l5.lt; have t3 := hg5.size; have m5 := own1_grown m4 hg5; rw [hnB] at m5; exact ⟨⟨hmk, ⟨m5, by simp⟩, l4.grown0 hg, l5.grown0 hg, ⟨_, m1.grown0 hg5⟩, by simp, grownBy_trans l6 hg, ⟨by omega, by omega, by omega, l1, l2, by omega⟩⟩, by omega⟩
  rw [hnB]; clear hmk hg5 HA4 HA3 hn0 hnB; go_wp2_with fail; refine (l1Size_any oa1 len1 cap1 40 w5 (by omega) (by omega)).mono ?_; rintro e w5' ⟨r, rfl, hr40, rfl⟩; go_wp2_with fail; refine (drawOps_any s zs (.slice ia ni ic) _ F 262144 r w5' HL0.out.1.ss HL0.out.1.img.choose_spec HIF.out.1 (by omega)).mono ?_; rintro e w6 ⟨⟨oa0, rc0, os0, rfl, hos0, hol0⟩, hs6, hg6⟩
  have HL1 : Hid (LS w w6 n0 nB s q d zs ys (.slice ia ni ic) F [] 0 (.slice (some ⟨nB, 0, none⟩) 0 0) [] M0 ∧ RR w6 (.slice (some ⟨nB, 0, none⟩) 0 0) (.slice oa0 r rc0) os0) := by
    refine ⟨HL0.out.1.drawS hs6 hg6, ⟨_, hos0⟩, fun k hk hc => ?_⟩; have h9 := own1_base hos0.row hc
    obtain rfl : nB = k := by simpa [Value.ownBlock] using hk
    have := HL0.out.2
    omega
  have HO0 : Hid (os0.length = r) := hol0; clear hos0 hol0 hs6 hg6 HL0; go_wp2
  go_loopw [8, 45] (fun v iv wr => ∃ (j k : Nat) (os : List Opv) (M : Mk), j ≤ r ∧ iv = .int .i64 (j : Int) ∧ os.length = k ∧ k ≤ j ∧ (∃ oa c, v = .slice oa k c) ∧ LS w wr n0 nB s q d zs ys (.slice ia ni ic) F [] k v os M ∧ RR wr v (.slice oa0 r rc0) os0 ∧ ∀ o ∈ os, OkA o) (fun _ iv _ => r - (intOf iv).toNat)
  case atStart => exact ⟨0, 0, [], M0, Nat.zero_le _, rfl, rfl, Nat.le_refl _, ⟨_, _, rfl⟩, HL1.out.1, HL1.out.2, by simp⟩
  case round =>
    obtain ⟨j, k, os, M1, hj, rfl, hok, hkj, ⟨oa, c, rfl⟩, hls, hrr, hoa⟩ := hrel; have HS : Hid (LS w wr n0 nB s q d zs ys (.slice ia ni ic) F [] k (.slice oa k c) os M1 ∧ RR wr (.slice oa k c) (.slice oa0 r rc0) os0 ∧ (∀ o ∈ os, OkA o) ∧ os.length = k) := ⟨hls, hrr, hoa, hok⟩; clear hls hrr hoa hok HL1
    by_cases hlt : j < r
    · have hltI : (j : Int) < (r : Int) := by omega
      have v1 : IntKind.i64.wrap ((j : Int) + 1) = (j : Int) + 1 := IntWalk.i64_in _ (by omega); obtain ⟨B9, hrow⟩ := HS.out.2.1.row; obtain ⟨⟨kd, a, nm, tn, da, dn, dc, D⟩, ho, hG⟩ := one_of hrow HO0.out hlt; obtain ⟨g0, hoa0, q0, q1, q2, q3, q4⟩ := hrow.cell HO0.out ho; simp only at q0 q1 q2 q3 q4; subst hoa0; have HB : Hid (LS w (wr.alloc (.cells #[.int .i64 kd, .int .i64 a, .string nm, .string tn, .slice da dn dc] 33)) n0 nB s q d zs ys (.slice ia ni ic) F [] k (.slice oa k c) os M1 ∧ RR (wr.alloc (.cells #[.int .i64 kd, .int .i64 a, .string nm, .string tn, .slice da dn dc] 33)) (.slice oa k c) (.slice (some ⟨g0, 0, none⟩) r rc0) os0 ∧ OpG (wr.alloc (.cells #[.int .i64 kd, .int .i64 a, .string nm, .string tn, .slice da dn dc] 33)) kd a nm tn da dn dc D ∧ (wr.alloc (.cells #[.int .i64 kd, .int .i64 a, .string nm, .string tn, .slice da dn dc] 33)).heap[wr.heap.size]? = some (.cells #[.int .i64 kd, .int .i64 a, .string nm, .string tn, .slice da dn dc] 33 (0, 0)) ∧ os.length = k) := ⟨HS.out.1.grown0 (World.grownBy_alloc _ _ none), HS.out.2.1.grown0 (World.grownBy_alloc _ _ none), OpG.grown0 hG (World.grownBy_alloc _ _ none), heap_alloc_new wr _, HS.out.2.2.2⟩; have HOA : Hid (∀ o ∈ os, OkA o) := HS.out.2.2.1; clear hrow ho hG HS
      go_upto_region 11 with fail
      generalize wr.alloc (.cells #[.int .i64 kd, .int .i64 a, .string nm, .string tn, .slice da dn dc] 33) = X2 at HB ⊢; generalize wr.heap.size = b at HB ⊢; clear q0 q1 q2 q3 q4; have p0 : X2.cell? ⟨b, 0, none⟩ = some (.int .i64 kd) := (zCr HB.out.2.2.2.1).trans rfl; have p2 : X2.cell? ⟨b, 2, none⟩ = some (.string nm) := (zCr HB.out.2.2.2.1).trans rfl
      go_cut [61] from 49 to 61 (fun v wx => (∃ bb : Bool, v = .bool bb ∧ (bb = false ∨ (kd ≠ 9 ∧ kd ≠ 10 ∧ nm ≠ safeB))) ∧ wx = X2)
      case first =>
        by_cases h9 : kd = 9
        · subst h9; go_wp2; go_meet
          case rel => exact ⟨⟨false, rfl, .inl rfl⟩, rfl⟩
        · have e9 : (kd != 9) = true := by simpa using h9
          by_cases h10 : kd = 10
          · subst h10; go_wp2; go_meet
            case rel => exact ⟨⟨false, rfl, .inl rfl⟩, rfl⟩
          · have e10 : (kd != 10) = true := by simpa using h10
            by_cases hsf : nm = safeB
            · have HSF : Hid (nm = safeB) := hsf; subst hsf; go_wp2; go_meet
              case rel => exact ⟨⟨_, rfl, .inl (by simp [safeB])⟩, rfl⟩
            · go_wp2; go_meet
              case rel => exact ⟨⟨_, rfl, .inr ⟨h9, h10, hsf⟩⟩, rfl⟩
      case rest =>
        obtain ⟨⟨bb, rfl, hbb⟩, hwc⟩ := hcut; rw [hwc]; clear hwc p0 p2
        cases bb
        · have HE1 : Hid (LS w X2 n0 nB s q d zs ys (.slice ia ni ic) F [] k (.slice oa k c) os M1 ∧ RR X2 (.slice oa k c) (.slice (some ⟨g0, 0, none⟩) r rc0) os0 ∧ (∀ o ∈ os, OkA o) ∧ os.length = k) := ⟨HB.out.1, HB.out.2.1, HOA.out, HB.out.2.2.2.2⟩; go_wp2; go_roundw
          case rel => exact ⟨j + 1, k, os, M1, by omega, by go_num, HE1.out.2.2.2, by omega, ⟨_, _, rfl⟩, HE1.out.1, HE1.out.2.1, HE1.out.2.2.1⟩
          case measure => simp [intOf]; omega
        · have HOK : Hid (OkA ⟨kd, a, nm, tn, da, dn, dc, D⟩) := by
            rcases hbb with h | h
            · cases h
            · have hl := Opv.G.len (o := ⟨kd, a, nm, tn, da, dn, dc, D⟩) HB.out.2.2.1; exact ⟨h.1, h.2.1, h.2.2, HB.out.2.2.1.ts, fun h2 => by have := HB.out.2.2.1.d2 h2; simp only at hl ⊢; omega⟩
          clear hbb; have c0 : X2.cell? ⟨b, 0, none⟩ = some (.int .i64 kd) := (zCr HB.out.2.2.2.1).trans rfl; have c1 : X2.cell? ⟨b, 1, none⟩ = some (.int .i64 a) := (zCr HB.out.2.2.2.1).trans rfl; have c2 : X2.cell? ⟨b, 2, none⟩ = some (.string nm) := (zCr HB.out.2.2.2.1).trans rfl; have c3 : X2.cell? ⟨b, 3, none⟩ = some (.string tn) := (zCr HB.out.2.2.2.1).trans rfl; have c4 : X2.cell? ⟨b, 4, none⟩ = some (.slice da dn dc) := (zCr HB.out.2.2.2.1).trans rfl; go_wp2_with fail; refine (do_anyM k d _ M1 kd a nm tn da dn dc D X2 (by omega) HB.out.1.dk HB.out.2.2.1).mono ?_; rintro e X3 ⟨⟨u0, u1, rfl⟩, hdo⟩; obtain ⟨M3, hd3⟩ := HB.out.1.did hdo; have hb3 : X3.heap[b]? = some (.cells #[.int .i64 kd, .int .i64 a, .string nm, .string tn, .slice da dn dc] 33 (0, 0)) := hdo.2.cells HB.out.2.2.2.1 (by decide) (by simp); have HC : Hid (LS w X3 n0 nB s q d zs ys (.slice ia ni ic) F [] (k + 1) (.slice oa k c) os M3 ∧ RR X3 (.slice oa k c) (.slice (some ⟨g0, 0, none⟩) r rc0) os0 ∧ OpG X3 kd a nm tn da dn dc D ∧ os.length = k) := ⟨hd3, HB.out.2.1.mv hdo.2 (by decide) (by decide), HB.out.2.2.1.mv hdo.2 (by decide), HB.out.2.2.2.2⟩; clear c0 c1 c2 c3 c4 HB hdo hd3; have c0 : X3.cell? ⟨b, 0, none⟩ = some (.int .i64 kd) := (zCr hb3).trans rfl; have c1 : X3.cell? ⟨b, 1, none⟩ = some (.int .i64 a) := (zCr hb3).trans rfl; have c2 : X3.cell? ⟨b, 2, none⟩ = some (.string nm) := (zCr hb3).trans rfl; have c3 : X3.cell? ⟨b, 3, none⟩ = some (.string tn) := (zCr hb3).trans rfl; have c4 : X3.cell? ⟨b, 4, none⟩ = some (.slice da dn dc) := (zCr hb3).trans rfl
          have HO : Hid (X3.ownsRow nB 33 5 (.slice oa k c) k (os.flatMap Opv.cells)) := by have h9 := HC.out.1.ops.row; rw [HC.out.2.2.2] at h9; exact h9
          have hBX : nB ≤ X3.heap.size := Nat.le_trans HC.out.1.lo.2.2.2.2.2 (Nat.le_trans HC.out.1.dk.low (Nat.le_of_lt (Array.getElem?_eq_some_iff.1 HC.out.1.dk.box).1)); clear hb3
          go_upto_region 14 with (at_builtin; refine wpList_appM rfl _ _ 27 rfl nB 33 Tryz.underlying27 Tryz.infoOp rfl (by decide) (.slice oa k c) k (os.flatMap Opv.cells) rfl HO.out 1 #[.int .i64 kd, .int .i64 a, .string nm, .string tn, .slice da dn dc] X3.heap.size rfl rfl rfl rfl (by omega) (by decide) hBX ?_)
          intro oa2 cc2 X4 h2 h3 h4; have HD : Hid (LS w X4 n0 nB s q d zs ys (.slice ia ni ic) F [] (k + 1) (.slice oa2 (k + 1) cc2) (os ++ [⟨kd, a, nm, tn, da, dn, dc, D⟩]) M3 ∧ RR X4 (.slice oa2 (k + 1) cc2) (.slice (some ⟨g0, 0, none⟩) r rc0) os0 ∧ os.length = k) := ⟨HC.out.1.push (ns := [⟨kd, a, nm, tn, da, dn, dc, D⟩]) h3 (by rw [HC.out.2.2.2]; exact h2) (by intro o ho; obtain rfl : o = ⟨kd, a, nm, tn, da, dn, dc, D⟩ := (by simpa using ho); exact HC.out.2.2.1), HC.out.2.1.push HC.out.1.ops h3 h4, HC.out.2.2.2⟩; clear h2 h3 h4 HC HO c0 c1 c2 c3 c4 hBX
          have HF : Hid ((∀ o ∈ os ++ [⟨kd, a, nm, tn, da, dn, dc, D⟩], OkA o) ∧ (os ++ [(⟨kd, a, nm, tn, da, dn, dc, D⟩ : Opv)]).length = k + 1) := by
            refine ⟨fun o ho => ?_, by simp [HD.out.2.2]⟩
            rcases List.mem_append.1 ho with h | h
            · exact HOA.out o h
            · obtain rfl : o = ⟨kd, a, nm, tn, da, dn, dc, D⟩ := (by simpa using h); exact HOK.out
          go_wp2; go_roundw
          case rel => exact ⟨j + 1, k + 1, _, M3, by omega, by go_num, HF.out.2, by omega, ⟨_, _, rfl⟩, HD.out.1, HD.out.2.1, HF.out.1⟩
          case measure => simp [intOf]; omega
    · obtain rfl : j = r := by omega
      have HP1 : Hid (LS w wr n0 nB s q d zs ys (.slice ia ni ic) F [] k (.slice oa k c) os M1 ∧ (∀ o ∈ os, OkA o) ∧ os.length = k) := ⟨HS.out.1, HS.out.2.2⟩; clear HS HO0
      have hk40 : k ≤ 40 := by omega
      go_wp2_with fail; refine (drawN_any s 100 zs wr HP1.out.1.ss (by decide) (by decide)).mono ?_; rintro e Y1 ⟨r1, rfl, -, hr1, hs9, hg9⟩; have hr1' := hr1 (by decide); have HP2 : Hid (LS w Y1 n0 nB s q d zs ys (.slice ia ni ic) F [] k (.slice oa k c) os M1 ∧ (∀ o ∈ os, OkA o) ∧ os.length = k) := ⟨HP1.out.1.drawS hs9 hg9, HP1.out.2⟩; obtain ⟨dl, hdl⟩ : ∃ y : Nat, y = 1 + r1 := ⟨_, rfl⟩
      have v2 : IntKind.i64.wrap (1 + (r1 : Int)) = (dl : Int) := by rw [IntWalk.i64_in _ (by omega)]; omega
      have hdl1 : 1 ≤ dl ∧ dl ≤ 100 := by omega
      clear hs9 hg9 hr1 HP1 hdl; go_wp2_with fail; refine (drawBytes_any s dl zs Y1 HP2.out.1.ss (by omega)).mono ?_; rintro e Y2 ⟨dg, dcp, dd, rfl, hdd, hown, hs9, hg9⟩; have hbv : BV Y2 (.slice (some ⟨dg, 0, none⟩) dl dcp) dd := bv_own hown hdd
      have hddl : dd.length = dl := by simpa using hown.1
      have HP3 : Hid (LS w Y2 n0 nB s q d zs ys (.slice ia ni ic) F [(.slice (some ⟨dg, 0, none⟩) dl dcp, dd)] k (.slice oa k c) os M1 ∧ (∀ o ∈ os, OkA o) ∧ os.length = k ∧ dd.length = dl) := ⟨(HP2.out.1.drawS hs9 hg9).see _ _ hbv, HP2.out.2.1, HP2.out.2.2, hddl⟩; clear hs9 hg9 hown hdd hbv hddl HP2 v2
      have HQ0 : Hid (LS w (Y2.alloc (.cells #[.int .i64 1, .int .i64 0, .string ⟨#[115, 97, 102, 101]⟩, .string ⟨#[]⟩, .slice none 0 0, .int .i64 2, .int .i64 0, .string ⟨#[115, 97, 102, 101]⟩, .string ⟨#[]⟩, .slice (some ⟨dg, 0, none⟩) dl dcp, .int .i64 6, .int .i64 0, .string ⟨#[115, 97, 102, 101]⟩, .string ⟨#[]⟩, .slice none 0 0, .int .i64 7, .int .i64 0, .string ⟨#[]⟩, .string ⟨#[]⟩, .slice none 0 0] 33)) n0 nB s q d zs ys (.slice ia ni ic) F [(.slice (some ⟨dg, 0, none⟩) dl dcp, dd)] k (.slice oa k c) os M1 ∧ RR (Y2.alloc (.cells #[.int .i64 1, .int .i64 0, .string ⟨#[115, 97, 102, 101]⟩, .string ⟨#[]⟩, .slice none 0 0, .int .i64 2, .int .i64 0, .string ⟨#[115, 97, 102, 101]⟩, .string ⟨#[]⟩, .slice (some ⟨dg, 0, none⟩) dl dcp, .int .i64 6, .int .i64 0, .string ⟨#[115, 97, 102, 101]⟩, .string ⟨#[]⟩, .slice none 0 0, .int .i64 7, .int .i64 0, .string ⟨#[]⟩, .string ⟨#[]⟩, .slice none 0 0] 33)) (.slice oa k c) (.slice (some ⟨Y2.heap.size, 0, none⟩) 4 4) [oCre, oWri (some ⟨dg, 0, none⟩) dl dcp dd, oSyn, oDir] ∧ (∀ o ∈ os, OkA o) ∧ os.length = k ∧ dd.length = dl) := by
        have hga := World.grownBy_alloc Y2 (.cells #[.int .i64 1, .int .i64 0, .string ⟨#[115, 97, 102, 101]⟩, .string ⟨#[]⟩, .slice none 0 0, .int .i64 2, .int .i64 0, .string ⟨#[115, 97, 102, 101]⟩, .string ⟨#[]⟩, .slice (some ⟨dg, 0, none⟩) dl dcp, .int .i64 6, .int .i64 0, .string ⟨#[115, 97, 102, 101]⟩, .string ⟨#[]⟩, .slice none 0 0, .int .i64 7, .int .i64 0, .string ⟨#[]⟩, .string ⟨#[]⟩, .slice none 0 0] 33) none; refine ⟨HP3.out.1.grown0 hga, ⟨⟨Y2.heap.size, ⟨rfl, .inr ⟨_, 4, _, rfl, Nat.le_refl _, heap_alloc_new Y2 _, Nat.le_refl _, by decide, rfl, rfl⟩⟩, fun o ho => ?_⟩, fun x hx hc => ?_⟩, HP3.out.2⟩
        · have hbv : BV (Y2.alloc (.cells #[.int .i64 1, .int .i64 0, .string ⟨#[115, 97, 102, 101]⟩, .string ⟨#[]⟩, .slice none 0 0, .int .i64 2, .int .i64 0, .string ⟨#[115, 97, 102, 101]⟩, .string ⟨#[]⟩, .slice (some ⟨dg, 0, none⟩) dl dcp, .int .i64 6, .int .i64 0, .string ⟨#[115, 97, 102, 101]⟩, .string ⟨#[]⟩, .slice none 0 0, .int .i64 7, .int .i64 0, .string ⟨#[]⟩, .string ⟨#[]⟩, .slice none 0 0] 33)) (.slice (some ⟨dg, 0, none⟩) dl dcp) dd := (HP3.out.1.grown0 hga).bv (.slice (some ⟨dg, 0, none⟩) dl dcp, dd) (by simp); simp only [List.mem_cons, List.not_mem_nil, or_false] at ho
          rcases ho with rfl | rfl | rfl | rfl
          · exact ⟨by decide, by decide, by unfold oCre safeB; decide, bv_nil _, fun _ => by decide, by decide, ⟨by decide, by decide⟩⟩
          · exact ⟨by show safeB.size ≤ 1000; decide, by show (⟨#[]⟩ : ByteArray).size ≤ 1000; decide, by show (⟨#[]⟩ : ByteArray) ≠ safeB; unfold safeB; decide, hbv, fun _ => hdl1.2, by show dl ≤ 100000; omega, ⟨by show (-9223372036854775808 : Int) ≤ 0; decide, by show (0 : Int) ≤ 9223372036854775807; decide⟩⟩
          · exact ⟨by decide, by decide, by unfold oSyn safeB; decide, bv_nil _, fun _ => by decide, by decide, ⟨by decide, by decide⟩⟩
          · exact ⟨by decide, by decide, by unfold oDir safeB; decide, bv_nil _, fun _ => by decide, by decide, ⟨by decide, by decide⟩⟩
        · obtain ⟨cur, h9⟩ := row_type HP3.out.1.ops.row hx; have h8 := (Array.getElem?_eq_some_iff.1 h9).1
          obtain rfl : Y2.heap.size = x := by simpa [Value.ownBlock] using hc
          omega
      clear HP3; go_wp2; generalize Y2.alloc (.cells #[.int .i64 1, .int .i64 0, .string ⟨#[115, 97, 102, 101]⟩, .string ⟨#[]⟩, .slice none 0 0, .int .i64 2, .int .i64 0, .string ⟨#[115, 97, 102, 101]⟩, .string ⟨#[]⟩, .slice (some ⟨dg, 0, none⟩) dl dcp, .int .i64 6, .int .i64 0, .string ⟨#[115, 97, 102, 101]⟩, .string ⟨#[]⟩, .slice none 0 0, .int .i64 7, .int .i64 0, .string ⟨#[]⟩, .string ⟨#[]⟩, .slice none 0 0] 33) = Y3 at HQ0 ⊢; generalize Y2.heap.size = lb at HQ0 ⊢; obtain ⟨na, hna⟩ : ∃ y, k = y := ⟨_, rfl⟩; obtain ⟨A, hAe⟩ : ∃ y, os = y := ⟨_, rfl⟩; rw [hna, hAe] at HQ0; rw [hna] at hk40 ⊢; have HAA : Hid ((∀ o ∈ A, OkA o) ∧ A.length = na ∧ dd.length = dl) := HQ0.out.2.2; clear hna hAe os
      go_loopw [8, 82] (fun v iv wr => ∃ (j : Nat) (os : List Opv) (M : Mk), j ≤ 4 ∧ iv = .int .i64 (j : Int) ∧ os = A ++ ([oCre, oWri (some ⟨dg, 0, none⟩) dl dcp dd, oSyn, oDir]).take j ∧ (∃ oa c, v = .slice oa (na + j) c) ∧ LS w wr n0 nB s q d zs ys (.slice ia ni ic) F [(.slice (some ⟨dg, 0, none⟩) dl dcp, dd)] (na + j) v os M ∧ RR wr v (.slice (some ⟨lb, 0, none⟩) 4 4) ([oCre, oWri (some ⟨dg, 0, none⟩) dl dcp dd, oSyn, oDir])) (fun _ iv _ => 4 - (intOf iv).toNat)
      case atStart => exact ⟨0, A, M1, Nat.zero_le _, rfl, by simp, ⟨_, _, rfl⟩, HQ0.out.1, HQ0.out.2.1⟩
      case round =>
        obtain ⟨j, os, M1, hj, rfl, hos, ⟨oa, c, rfl⟩, hls, hrr⟩ := hrel; obtain ⟨k, hk⟩ : ∃ y, na + j = y := ⟨_, rfl⟩; rw [hk] at hls hrr ⊢
        have hol : j ≤ 4 → os.length = k := fun h => by rw [hos, List.length_append, HAA.out.2.1, List.length_take]; simp; omega
        have HS : Hid (LS w wr n0 nB s q d zs ys (.slice ia ni ic) F [(.slice (some ⟨dg, 0, none⟩) dl dcp, dd)] k (.slice oa k c) os M1 ∧ RR wr (.slice oa k c) (.slice (some ⟨lb, 0, none⟩) 4 4) ([oCre, oWri (some ⟨dg, 0, none⟩) dl dcp dd, oSyn, oDir]) ∧ os.length = k ∧ os = A ++ ([oCre, oWri (some ⟨dg, 0, none⟩) dl dcp dd, oSyn, oDir]).take j) := ⟨hls, hrr, hol hj, hos⟩; have HKJ : Hid (na + j = k) := hk
        have hkb : k ≤ 44 := by omega
        clear hls hrr hol hos hk HQ0
        by_cases hlt : j < 4
        · have hltI : (j : Int) < 4 := by omega
          have v1 : IntKind.i64.wrap ((j : Int) + 1) = (j : Int) + 1 := IntWalk.i64_in _ (by omega); obtain ⟨B9, hrow⟩ := HS.out.2.1.row; obtain ⟨⟨kd, a, nm, tn, da, dn, dc, D⟩, ho, hG⟩ := one_of hrow rfl hlt; obtain ⟨g0, hoa0, q0, q1, q2, q3, q4⟩ := hrow.cell rfl ho; simp only at q0 q1 q2 q3 q4
          obtain rfl : lb = g0 := by simpa using hoa0
          have HB : Hid (LS w (wr.alloc (.cells #[.int .i64 kd, .int .i64 a, .string nm, .string tn, .slice da dn dc] 33)) n0 nB s q d zs ys (.slice ia ni ic) F [(.slice (some ⟨dg, 0, none⟩) dl dcp, dd)] k (.slice oa k c) os M1 ∧ RR (wr.alloc (.cells #[.int .i64 kd, .int .i64 a, .string nm, .string tn, .slice da dn dc] 33)) (.slice oa k c) (.slice (some ⟨lb, 0, none⟩) 4 4) ([oCre, oWri (some ⟨dg, 0, none⟩) dl dcp dd, oSyn, oDir]) ∧ OpG (wr.alloc (.cells #[.int .i64 kd, .int .i64 a, .string nm, .string tn, .slice da dn dc] 33)) kd a nm tn da dn dc D ∧ (wr.alloc (.cells #[.int .i64 kd, .int .i64 a, .string nm, .string tn, .slice da dn dc] 33)).heap[wr.heap.size]? = some (.cells #[.int .i64 kd, .int .i64 a, .string nm, .string tn, .slice da dn dc] 33 (0, 0)) ∧ os.length = k) := ⟨HS.out.1.grown0 (World.grownBy_alloc _ _ none), HS.out.2.1.grown0 (World.grownBy_alloc _ _ none), OpG.grown0 hG (World.grownBy_alloc _ _ none), heap_alloc_new wr _, HS.out.2.2.1⟩
          have HOS : Hid (os ++ [⟨kd, a, nm, tn, da, dn, dc, D⟩] = A ++ ([oCre, oWri (some ⟨dg, 0, none⟩) dl dcp dd, oSyn, oDir]).take (j + 1)) := by
            show _ = _
            rw [HS.out.2.2.2, List.take_add_one, ho, List.append_assoc]
            rfl
          clear hrow ho hG HS hoa0
          go_upto_region 19 with fail
          generalize wr.alloc (.cells #[.int .i64 kd, .int .i64 a, .string nm, .string tn, .slice da dn dc] 33) = X2 at HB ⊢; generalize wr.heap.size = b at HB ⊢; clear q0 q1 q2 q3 q4; have c0 : X2.cell? ⟨b, 0, none⟩ = some (.int .i64 kd) := (zCr HB.out.2.2.2.1).trans rfl; have c1 : X2.cell? ⟨b, 1, none⟩ = some (.int .i64 a) := (zCr HB.out.2.2.2.1).trans rfl; have c2 : X2.cell? ⟨b, 2, none⟩ = some (.string nm) := (zCr HB.out.2.2.2.1).trans rfl; have c3 : X2.cell? ⟨b, 3, none⟩ = some (.string tn) := (zCr HB.out.2.2.2.1).trans rfl; have c4 : X2.cell? ⟨b, 4, none⟩ = some (.slice da dn dc) := (zCr HB.out.2.2.2.1).trans rfl; go_wp2_with fail; refine (do_anyM k d _ M1 kd a nm tn da dn dc D X2 (by omega) HB.out.1.dk HB.out.2.2.1).mono ?_; rintro e X3 ⟨⟨u0, u1, rfl⟩, hdo⟩; obtain ⟨M3, hd3⟩ := HB.out.1.did hdo; have hb3 : X3.heap[b]? = some (.cells #[.int .i64 kd, .int .i64 a, .string nm, .string tn, .slice da dn dc] 33 (0, 0)) := hdo.2.cells HB.out.2.2.2.1 (by decide) (by simp); have HC : Hid (LS w X3 n0 nB s q d zs ys (.slice ia ni ic) F [(.slice (some ⟨dg, 0, none⟩) dl dcp, dd)] (k + 1) (.slice oa k c) os M3 ∧ RR X3 (.slice oa k c) (.slice (some ⟨lb, 0, none⟩) 4 4) ([oCre, oWri (some ⟨dg, 0, none⟩) dl dcp dd, oSyn, oDir]) ∧ OpG X3 kd a nm tn da dn dc D ∧ os.length = k) := ⟨hd3, HB.out.2.1.mv hdo.2 (by decide) (by decide), HB.out.2.2.1.mv hdo.2 (by decide), HB.out.2.2.2.2⟩; clear c0 c1 c2 c3 c4 HB hdo hd3; have c0 : X3.cell? ⟨b, 0, none⟩ = some (.int .i64 kd) := (zCr hb3).trans rfl; have c1 : X3.cell? ⟨b, 1, none⟩ = some (.int .i64 a) := (zCr hb3).trans rfl; have c2 : X3.cell? ⟨b, 2, none⟩ = some (.string nm) := (zCr hb3).trans rfl; have c3 : X3.cell? ⟨b, 3, none⟩ = some (.string tn) := (zCr hb3).trans rfl; have c4 : X3.cell? ⟨b, 4, none⟩ = some (.slice da dn dc) := (zCr hb3).trans rfl
          have HO : Hid (X3.ownsRow nB 33 5 (.slice oa k c) k (os.flatMap Opv.cells)) := by have h9 := HC.out.1.ops.row; rw [HC.out.2.2.2] at h9; exact h9
          have hBX : nB ≤ X3.heap.size := Nat.le_trans HC.out.1.lo.2.2.2.2.2 (Nat.le_trans HC.out.1.dk.low (Nat.le_of_lt (Array.getElem?_eq_some_iff.1 HC.out.1.dk.box).1)); clear hb3
          go_upto_region 21 with (at_builtin; refine wpList_appM rfl _ _ 27 rfl nB 33 Tryz.underlying27 Tryz.infoOp rfl (by decide) (.slice oa k c) k (os.flatMap Opv.cells) rfl HO.out 1 #[.int .i64 kd, .int .i64 a, .string nm, .string tn, .slice da dn dc] X3.heap.size rfl rfl rfl rfl (by omega) (by decide) hBX ?_)
          intro oa2 cc2 X4 h2 h3 h4; have HD : Hid (LS w X4 n0 nB s q d zs ys (.slice ia ni ic) F [(.slice (some ⟨dg, 0, none⟩) dl dcp, dd)] (k + 1) (.slice oa2 (k + 1) cc2) (os ++ [⟨kd, a, nm, tn, da, dn, dc, D⟩]) M3 ∧ RR X4 (.slice oa2 (k + 1) cc2) (.slice (some ⟨lb, 0, none⟩) 4 4) ([oCre, oWri (some ⟨dg, 0, none⟩) dl dcp dd, oSyn, oDir]) ∧ os.length = k) := ⟨HC.out.1.push (ns := [⟨kd, a, nm, tn, da, dn, dc, D⟩]) h3 (by rw [HC.out.2.2.2]; exact h2) (by intro o ho; obtain rfl : o = ⟨kd, a, nm, tn, da, dn, dc, D⟩ := (by simpa using ho); exact HC.out.2.2.1), HC.out.2.1.push HC.out.1.ops h3 h4, HC.out.2.2.2⟩; clear h2 h3 h4 HC HO c0 c1 c2 c3 c4 hBX
          have HD9 : Hid (LS w X4 n0 nB s q d zs ys (.slice ia ni ic) F [(.slice (some ⟨dg, 0, none⟩) dl dcp, dd)] (na + (j + 1)) (.slice oa2 (k + 1) cc2) (os ++ [⟨kd, a, nm, tn, da, dn, dc, D⟩]) M3) := by
            have h9 : ∀ y, y = k + 1 → LS w X4 n0 nB s q d zs ys (.slice ia ni ic) F [(.slice (some ⟨dg, 0, none⟩) dl dcp, dd)] y (.slice oa2 (k + 1) cc2) (os ++ [⟨kd, a, nm, tn, da, dn, dc, D⟩]) M3 := fun y hy => by subst hy; exact HD.out.1
            exact h9 _ (by have := HKJ.out; omega)
          have HV9 : Hid (Value.slice oa2 (k + 1) cc2 = .slice oa2 (na + (j + 1)) cc2) := by
            have h9 : k + 1 = na + (j + 1) := by have := HKJ.out; omega
            show _ = _
            rw [h9]
          go_wp2; go_roundw
          case rel => exact ⟨j + 1, _, M3, by omega, by go_num, HOS.out, ⟨oa2, cc2, HV9.out⟩, HD9.out, HD.out.2.1⟩
          case measure => simp [intOf]; omega
        · obtain rfl : j = 4 := by omega
          have HR1 : Hid (LS w wr n0 nB s q d zs ys (.slice ia ni ic) F [(.slice (some ⟨dg, 0, none⟩) dl dcp, dd)] k (.slice oa k c) os M1 ∧ os = A ++ [oCre, oWri (some ⟨dg, 0, none⟩) dl dcp dd, oSyn, oDir] ∧ os.length = k) := ⟨HS.out.1, HS.out.2.2.2, HS.out.2.2.1⟩; have HK4 : Hid (na + 4 = k) := HKJ.out; clear HKJ; clear HS; go_wp2_with fail; refine (drawN_any q 20 ys wr HR1.out.1.sq (by decide) (by decide)).mono ?_; rintro e Y4 ⟨r2, rfl, -, hr2, hs9, hg9⟩; have hr2' := hr2 (by decide); have HR2 : Hid (LS w Y4 n0 nB s q d zs ys (.slice ia ni ic) F [(.slice (some ⟨dg, 0, none⟩) dl dcp, dd)] k (.slice oa k c) os M1 ∧ os = A ++ [oCre, oWri (some ⟨dg, 0, none⟩) dl dcp dd, oSyn, oDir] ∧ os.length = k) := ⟨HR1.out.1.drawQ hs9 hg9, HR1.out.2⟩; clear hs9 hg9 hr2 HR1; go_wp2; obtain ⟨O2, hO2⟩ : ∃ y, os = y := ⟨_, rfl⟩; obtain ⟨k2, hk2⟩ : ∃ y, k = y := ⟨_, rfl⟩; rw [hO2, hk2] at HR2; rw [hk2]; rw [hk2] at HK4 hkb; have HO2 : Hid (O2 = A ++ [oCre, oWri (some ⟨dg, 0, none⟩) dl dcp dd, oSyn, oDir] ∧ O2.length = k2) := HR2.out.2; clear hO2 hk2 os
          go_loopw [8, 15] (fun v iv wr => ∃ (i : Nat) (bs : List Opv) (M : Mk), i + bs.length ≤ r2 ∧ iv = .int .i64 (i : Int) ∧ (∃ oa c, v = .slice oa (k2 + bs.length) c) ∧ LS w wr n0 nB s q d zs ys (.slice ia ni ic) F [(.slice (some ⟨dg, 0, none⟩) dl dcp, dd)] (k2 + bs.length) v (O2 ++ bs) M ∧ ∀ o ∈ bs, OkA o) (fun _ iv _ => (intOf iv).toNat)
          case atStart => exact ⟨r2, [], M1, by simp, rfl, ⟨_, _, rfl⟩, by simpa using HR2.out.1, by simp⟩
          case round =>
            obtain ⟨i, bs, M1, hi, rfl, ⟨oa, c, rfl⟩, hls, hbs⟩ := hrel; obtain ⟨nb, hnb⟩ : ∃ y, bs.length = y := ⟨_, rfl⟩; rw [hnb] at hls hi ⊢; obtain ⟨k, hk⟩ : ∃ y, k2 + nb = y := ⟨_, rfl⟩; rw [hk] at hls ⊢; obtain ⟨os, hos⟩ : ∃ y, O2 ++ bs = y := ⟨_, rfl⟩; rw [hos] at hls; have HS : Hid (LS w wr n0 nB s q d zs ys (.slice ia ni ic) F [(.slice (some ⟨dg, 0, none⟩) dl dcp, dd)] k (.slice oa k c) os M1 ∧ (∀ o ∈ bs, OkA o) ∧ O2 ++ bs = os ∧ bs.length = nb ∧ os.length = k) := ⟨hls, hbs, hos, hnb, by rw [← hos, List.length_append, HO2.out.2, hnb]; exact hk⟩; have HKK : Hid (k2 + nb = k) := hk
            have hkc : k ≤ 63 ∧ nb ≤ 19 := by omega
            clear hls hbs hos hnb hk HR2
            by_cases hlt : 0 < i
            · have hltI : (0 : Int) < (i : Int) := by omega
              obtain ⟨i1, rfl⟩ : ∃ y, i = y + 1 := ⟨i - 1, by omega⟩
              have v1 : IntKind.i64.wrap (((i1 + 1 : Nat) : Int) - 1) = (i1 : Int) := by rw [IntWalk.i64_in _ (by omega)]; omega
              have hNk := Nb_le (k := k) (by omega); have hQk : Qb k = 10 + 101 * k := rfl; go_wp2_with fail; refine (drawOp_any q d ys _ M1 _ _ _ _ wr HS.out.1.sq HS.out.1.dk ⟨by omega, by omega, by omega⟩).mono ?_; rintro e X1 ⟨⟨kd, a, nm, tn, da, dn, dc, D, rfl, hG⟩, hs9, hg9⟩; have HB : Hid (LS w (X1.alloc (.cells #[.int .i64 kd, .int .i64 a, .string nm, .string tn, .slice da dn dc] 33)) n0 nB s q d zs ys (.slice ia ni ic) F [(.slice (some ⟨dg, 0, none⟩) dl dcp, dd)] k (.slice oa k c) os M1 ∧ True ∧ OpG (X1.alloc (.cells #[.int .i64 kd, .int .i64 a, .string nm, .string tn, .slice da dn dc] 33)) kd a nm tn da dn dc D ∧ (X1.alloc (.cells #[.int .i64 kd, .int .i64 a, .string nm, .string tn, .slice da dn dc] 33)).heap[X1.heap.size]? = some (.cells #[.int .i64 kd, .int .i64 a, .string nm, .string tn, .slice da dn dc] 33 (0, 0)) ∧ os.length = k) := ⟨(HS.out.1.drawQ hs9 hg9).grown0 (World.grownBy_alloc _ _ none), trivial, hG.grown0 (World.grownBy_alloc _ _ none), heap_alloc_new X1 _, HS.out.2.2.2.2⟩; have HBS : Hid ((∀ o ∈ bs, OkA o) ∧ O2 ++ bs = os ∧ bs.length = nb) := ⟨HS.out.2.1, HS.out.2.2.1, HS.out.2.2.2.1⟩; clear hs9 hg9 hG HS hNk hQk
              go_upto_region 26 with fail
              generalize X1.alloc (.cells #[.int .i64 kd, .int .i64 a, .string nm, .string tn, .slice da dn dc] 33) = X2 at HB ⊢; generalize X1.heap.size = b at HB ⊢; have p0 : X2.cell? ⟨b, 0, none⟩ = some (.int .i64 kd) := (zCr HB.out.2.2.2.1).trans rfl; have p2 : X2.cell? ⟨b, 2, none⟩ = some (.string nm) := (zCr HB.out.2.2.2.1).trans rfl; have p3 : X2.cell? ⟨b, 3, none⟩ = some (.string tn) := (zCr HB.out.2.2.2.1).trans rfl
              go_cut [120] from 103 to 120 (fun v wx => (∃ bb : Bool, v = .bool bb ∧ (bb = false ∨ (kd ≠ 9 ∧ kd ≠ 10 ∧ nm ≠ safeB))) ∧ wx = X2)
              case first =>
                have htl : tn.toList ≠ [115, 97, 102, 101] := fun hc => HB.out.2.2.1.ts (by
                  have : tn.toList = safeB.toList := by rw [hc]; simp [safeB]
                  exact toList_inj this)
                by_cases hsf : nm.toList = [115, 97, 102, 101]
                · have hb1 : (nm.toList != [115, 97, 102, 101]) = false := by simp [hsf]
                  go_wp2; go_meet
                  case rel => exact ⟨⟨_, rfl, .inl rfl⟩, rfl⟩
                · have hns : nm ≠ safeB := fun hc => hsf (by rw [hc]; simp [safeB])
                  have hb1 : (nm.toList != [115, 97, 102, 101]) = true := by simpa using hsf
                  have hb2 : (tn.toList != [115, 97, 102, 101]) = true := by simpa using htl
                  by_cases h9 : kd = 9
                  · subst h9; go_wp2; go_meet
                    case rel => exact ⟨⟨_, rfl, .inl rfl⟩, rfl⟩
                  · have e9 : (kd != 9) = true := by simpa using h9
                    by_cases h10 : kd = 10
                    · subst h10; go_wp2; go_meet
                      case rel => exact ⟨⟨_, rfl, .inl rfl⟩, rfl⟩
                    · have e10 : (kd != 10) = true := by simpa using h10
                      go_wp2; go_meet
                      case rel => exact ⟨⟨_, rfl, .inr ⟨h9, h10, hns⟩⟩, rfl⟩
              case rest =>
                obtain ⟨⟨bb, rfl, hbb⟩, hwc⟩ := hcut; rw [hwc]; clear hwc p0 p2 p3
                cases bb
                · have HE1 : Hid (LS w X2 n0 nB s q d zs ys (.slice ia ni ic) F [(.slice (some ⟨dg, 0, none⟩) dl dcp, dd)] (k2 + bs.length) (.slice oa k c) (O2 ++ bs) M1 ∧ (∀ o ∈ bs, OkA o) ∧ i1 + bs.length ≤ r2 ∧ k2 + bs.length = k) := by
                    rw [HBS.out.2.1, HBS.out.2.2, HKK.out]; exact ⟨HB.out.1, HBS.out.1, by omega, rfl⟩
                  go_wp2; go_roundw
                  case rel => exact ⟨i1, bs, M1, HE1.out.2.2.1, rfl, ⟨oa, c, by rw [HE1.out.2.2.2]⟩, HE1.out.1, HE1.out.2.1⟩
                  case measure => simp [intOf]
                · have HOK : Hid (OkA ⟨kd, a, nm, tn, da, dn, dc, D⟩) := by
                    rcases hbb with h | h
                    · cases h
                    · have hl := Opv.G.len (o := ⟨kd, a, nm, tn, da, dn, dc, D⟩) HB.out.2.2.1; exact ⟨h.1, h.2.1, h.2.2, HB.out.2.2.1.ts, fun h2 => by have := HB.out.2.2.1.d2 h2; simp only at hl ⊢; omega⟩
                  clear hbb; have c0 : X2.cell? ⟨b, 0, none⟩ = some (.int .i64 kd) := (zCr HB.out.2.2.2.1).trans rfl; have c1 : X2.cell? ⟨b, 1, none⟩ = some (.int .i64 a) := (zCr HB.out.2.2.2.1).trans rfl; have c2 : X2.cell? ⟨b, 2, none⟩ = some (.string nm) := (zCr HB.out.2.2.2.1).trans rfl; have c3 : X2.cell? ⟨b, 3, none⟩ = some (.string tn) := (zCr HB.out.2.2.2.1).trans rfl; have c4 : X2.cell? ⟨b, 4, none⟩ = some (.slice da dn dc) := (zCr HB.out.2.2.2.1).trans rfl; go_wp2_with fail; refine (do_anyM k d _ M1 kd a nm tn da dn dc D X2 (by omega) HB.out.1.dk HB.out.2.2.1).mono ?_; rintro e X3 ⟨⟨u0, u1, rfl⟩, hdo⟩; obtain ⟨M3, hd3⟩ := HB.out.1.did hdo; have hb3 : X3.heap[b]? = some (.cells #[.int .i64 kd, .int .i64 a, .string nm, .string tn, .slice da dn dc] 33 (0, 0)) := hdo.2.cells HB.out.2.2.2.1 (by decide) (by simp); have HC : Hid (LS w X3 n0 nB s q d zs ys (.slice ia ni ic) F [(.slice (some ⟨dg, 0, none⟩) dl dcp, dd)] (k + 1) (.slice oa k c) os M3 ∧ True ∧ OpG X3 kd a nm tn da dn dc D ∧ os.length = k) := ⟨hd3, trivial, HB.out.2.2.1.mv hdo.2 (by decide), HB.out.2.2.2.2⟩; clear c0 c1 c2 c3 c4 HB hdo hd3; have c0 : X3.cell? ⟨b, 0, none⟩ = some (.int .i64 kd) := (zCr hb3).trans rfl; have c1 : X3.cell? ⟨b, 1, none⟩ = some (.int .i64 a) := (zCr hb3).trans rfl; have c2 : X3.cell? ⟨b, 2, none⟩ = some (.string nm) := (zCr hb3).trans rfl; have c3 : X3.cell? ⟨b, 3, none⟩ = some (.string tn) := (zCr hb3).trans rfl; have c4 : X3.cell? ⟨b, 4, none⟩ = some (.slice da dn dc) := (zCr hb3).trans rfl
                  have HO : Hid (X3.ownsRow nB 33 5 (.slice oa k c) k (os.flatMap Opv.cells)) := by have h9 := HC.out.1.ops.row; rw [HC.out.2.2.2] at h9; exact h9
                  have hBX : nB ≤ X3.heap.size := Nat.le_trans HC.out.1.lo.2.2.2.2.2 (Nat.le_trans HC.out.1.dk.low (Nat.le_of_lt (Array.getElem?_eq_some_iff.1 HC.out.1.dk.box).1)); clear hb3
                  go_upto_region 24 with (at_builtin; refine wpList_appM rfl _ _ 27 rfl nB 33 Tryz.underlying27 Tryz.infoOp rfl (by decide) (.slice oa k c) k (os.flatMap Opv.cells) rfl HO.out 1 #[.int .i64 kd, .int .i64 a, .string nm, .string tn, .slice da dn dc] X3.heap.size rfl rfl rfl rfl (by omega) (by decide) hBX ?_)
                  intro oa2 cc2 X4 h2 h3 h4; have HD : Hid (LS w X4 n0 nB s q d zs ys (.slice ia ni ic) F [(.slice (some ⟨dg, 0, none⟩) dl dcp, dd)] (k + 1) (.slice oa2 (k + 1) cc2) (os ++ [⟨kd, a, nm, tn, da, dn, dc, D⟩]) M3 ∧ True ∧ os.length = k) := ⟨HC.out.1.push (ns := [⟨kd, a, nm, tn, da, dn, dc, D⟩]) h3 (by rw [HC.out.2.2.2]; exact h2) (by intro o ho; obtain rfl : o = ⟨kd, a, nm, tn, da, dn, dc, D⟩ := (by simpa using ho); exact HC.out.2.2.1), trivial, HC.out.2.2.2⟩; clear h2 h3 h4 HC HO c0 c1 c2 c3 c4 hBX
                  have HF : Hid ((∀ o ∈ bs ++ [⟨kd, a, nm, tn, da, dn, dc, D⟩], OkA o) ∧ i1 + (bs ++ [(⟨kd, a, nm, tn, da, dn, dc, D⟩ : Opv)]).length ≤ r2 ∧ k2 + (bs ++ [(⟨kd, a, nm, tn, da, dn, dc, D⟩ : Opv)]).length = k + 1 ∧ LS w X4 n0 nB s q d zs ys (.slice ia ni ic) F [(.slice (some ⟨dg, 0, none⟩) dl dcp, dd)] (k2 + (bs ++ [(⟨kd, a, nm, tn, da, dn, dc, D⟩ : Opv)]).length) (.slice oa2 (k + 1) cc2) (O2 ++ (bs ++ [⟨kd, a, nm, tn, da, dn, dc, D⟩])) M3) := by
                    have hbl : (bs ++ [(⟨kd, a, nm, tn, da, dn, dc, D⟩ : Opv)]).length = nb + 1 := by simp [HBS.out.2.2]
                    rw [hbl, ← List.append_assoc, HBS.out.2.1, show k2 + (nb + 1) = k + 1 by have := HKK.out; omega]; refine ⟨fun o ho => ?_, by omega, rfl, HD.out.1⟩
                    rcases List.mem_append.1 ho with h | h
                    · exact HBS.out.1 o h
                    · obtain rfl : o = ⟨kd, a, nm, tn, da, dn, dc, D⟩ := (by simpa using h); exact HOK.out
                  go_wp2; go_roundw
                  case rel => exact ⟨i1, _, M3, HF.out.2.1, rfl, ⟨oa2, cc2, by rw [HF.out.2.2.1]⟩, HF.out.2.2.2, HF.out.1⟩
                  case measure => simp [intOf]
            · obtain rfl : i = 0 := by omega
              have hltI : ¬ (0 : Int) < ((0 : Nat) : Int) := by omega
              have HT1 : Hid (LS w wr n0 nB s q d zs ys (.slice ia ni ic) F [(.slice (some ⟨dg, 0, none⟩) dl dcp, dd)] k (.slice oa k c) os M1 ∧ (∀ o ∈ bs, OkA o) ∧ os = A ++ [oCre, oWri (some ⟨dg, 0, none⟩) dl dcp dd, oSyn, oDir] ++ bs ∧ bs.length = nb ∧ os.length = k) := ⟨HS.out.1, HS.out.2.1, by rw [← HS.out.2.2.1, HO2.out.1], HS.out.2.2.2⟩; clear HS; go_wp2_with fail; refine (Queue_any d _ _ _ _ _ M1 wr HT1.out.1.dk).mono ?_; rintro e Z1 ⟨rfl, hg9⟩; have hqn : M1.qs.length ≤ Qb k := HT1.out.1.dk.qn; have hQk : Qb k = 10 + 101 * k := rfl; obtain ⟨qn, hqe⟩ : ∃ y, M1.qs.length = y := ⟨_, rfl⟩; rw [hqe] at hqn ⊢; have HT2 : Hid (LS w Z1 n0 nB s q d zs ys (.slice ia ni ic) F [(.slice (some ⟨dg, 0, none⟩) dl dcp, dd)] k (.slice oa k c) os M1 ∧ (∀ o ∈ bs, OkA o) ∧ os = A ++ [oCre, oWri (some ⟨dg, 0, none⟩) dl dcp dd, oSyn, oDir] ++ bs ∧ bs.length = nb ∧ os.length = k) := ⟨HT1.out.1.grown0 hg9, HT1.out.2⟩; clear hg9 HT1 hqe; go_wp2_with fail; refine (choice_any q (qn : Int) ys Z1 HT2.out.1.sq (by omega) (by omega)).mono ?_; rintro e Z2 ⟨⟨cg, cm, ccp, cx, rfl, hcm, hcx, hown⟩, hs9, hg9⟩; have HT3 : Hid (LS w Z2 n0 nB s q d zs ys (.slice ia ni ic) F [(.slice (some ⟨dg, 0, none⟩) dl dcp, dd)] k (.slice oa k c) os M1 ∧ (∀ o ∈ bs, OkA o) ∧ os = A ++ [oCre, oWri (some ⟨dg, 0, none⟩) dl dcp dd, oSyn, oDir] ++ bs ∧ bs.length = nb ∧ os.length = k ∧ OpG Z2 11 0 ⟨#[]⟩ ⟨#[]⟩ (some ⟨cg, 0, none⟩) cm ccp cx) := ⟨HT2.out.1.drawQ hs9 hg9, HT2.out.2.1, HT2.out.2.2.1, HT2.out.2.2.2.1, HT2.out.2.2.2.2, ⟨by decide, by decide, by unfold safeB; decide, bv_own hown hcx, fun h => absurd h (by decide), by omega, by omega⟩⟩
              have HO : Hid (Z2.ownsRow nB 33 5 (.slice oa k c) k (os.flatMap Opv.cells)) := by have h9 := HT3.out.1.ops.row; rw [HT3.out.2.2.2.2.1] at h9; exact h9
              have hBX : nB ≤ Z2.heap.size := Nat.le_trans HT3.out.1.lo.2.2.2.2.2 (Nat.le_trans HT3.out.1.dk.low (Nat.le_of_lt (Array.getElem?_eq_some_iff.1 HT3.out.1.dk.box).1)); clear hs9 hg9 hown hcx HT2 hqn hQk hcm
              go_upto_region 30 with (at_builtin; refine wpList_appM rfl _ _ 27 rfl nB 33 Tryz.underlying27 Tryz.infoOp rfl (by decide) (.slice oa k c) k (os.flatMap Opv.cells) rfl HO.out 2 #[.int .i64 11, .int .i64 0, .string ⟨#[]⟩, .string ⟨#[]⟩, .slice (some ⟨cg, 0, none⟩) cm ccp, .int .i64 8, .int .i64 0, .string ⟨#[115, 97, 102, 101]⟩, .string ⟨#[]⟩, .slice none 0 0] Z2.heap.size rfl rfl rfl rfl (by omega) (by decide) hBX ?_)
              intro pa pc Z3 h2 h3 h4; obtain ⟨pn, hpn⟩ : ∃ y, k + 2 = y := ⟨_, rfl⟩
              have HU1 : Hid (LS w Z3 n0 nB s q d zs ys (.slice ia ni ic) F [(.slice (some ⟨dg, 0, none⟩) dl dcp, dd)] k (.slice pa pn pc) (allOps A bs (some ⟨dg, 0, none⟩) (some ⟨cg, 0, none⟩) dl dcp cm ccp dd cx) M1 ∧ (∀ o ∈ bs, OkA o) ∧ (allOps A bs (some ⟨dg, 0, none⟩) (some ⟨cg, 0, none⟩) dl dcp cm ccp dd cx).length = pn ∧ bs.length = nb) := by
                have h9 := HT3.out.1.push (ns := [oCra (some ⟨cg, 0, none⟩) cm ccp cx, oRea]) h3 (by rw [HT3.out.2.2.2.2.1]; exact h2) (by
                  intro o ho; simp only [List.mem_cons, List.not_mem_nil, or_false] at ho
                  rcases ho with rfl | rfl
                  · exact HT3.out.2.2.2.2.2
                  · exact ⟨by decide, by decide, by unfold oRea safeB; decide, bv_nil _, fun h => absurd h (by decide), by decide, ⟨by decide, by decide⟩⟩)
                rw [HT3.out.2.2.1, hpn] at h9; exact ⟨h9, HT3.out.2.1, by rw [allOps_len, HAA.out.2.1, HT3.out.2.2.2.1]; have := HKK.out; have := HK4.out; omega, HT3.out.2.2.2.1⟩
              rw [hpn]; clear h2 h3 h4 HT3 HO hBX; obtain ⟨AO, hAO⟩ : ∃ y, allOps A bs (some ⟨dg, 0, none⟩) (some ⟨cg, 0, none⟩) dl dcp cm ccp dd cx = y := ⟨_, rfl⟩; rw [hAO] at HU1; have HAO : Hid (allOps A bs (some ⟨dg, 0, none⟩) (some ⟨cg, 0, none⟩) dl dcp cm ccp dd cx = AO ∧ (∀ o ∈ bs, OkA o) ∧ AO.length = pn ∧ bs.length = nb) := ⟨hAO, HU1.out.2.1, HU1.out.2.2.1, HU1.out.2.2.2⟩
              have hpk : 2 ≤ pn ∧ pn ≤ 100 := by omega
              clear hAO hpn
              have HU2 : Hid (CS w (Z3.alloc (.cells #[] 33)) Z3.heap.size (.slice ia ni ic) F [(.slice (some ⟨dg, 0, none⟩) dl dcp, dd)] (.slice pa pn pc) AO (.slice (some ⟨Z3.heap.size, 0, none⟩) 0 0) []) := by
                have hga := World.grownBy_alloc Z3 (.cells #[] 33) none; have h9 := HU1.out.1.grown0 hga; refine ⟨h9.img, h9.bv, h9.gr, ⟨⟨rfl, .inr ⟨_, 0, _, rfl, Nat.le_refl _, heap_alloc_new Z3 _, Nat.le_refl _, Nat.zero_le _, rfl, rfl⟩⟩, by simp⟩, ⟨⟨_, h9.ops⟩, fun x hx hc => ?_⟩, HU1.out.1.gr.size, by simp, by simp, hga.size⟩; obtain ⟨cur, h8⟩ := row_type HU1.out.1.ops.row hc; have h7 := (Array.getElem?_eq_some_iff.1 h8).1
                obtain rfl : Z3.heap.size = x := by simpa [Value.ownBlock] using hx
                omega
              clear HU1; go_wp2; generalize Z3.alloc (.cells #[] 33) = Z4 at HU2 ⊢; generalize Z3.heap.size = nC at HU2 ⊢
              go_loopw [17, 140] (fun v iv wr => ∃ (j : Nat) (cps : List Opv), j ≤ pn ∧ iv = .int .i64 (j : Int) ∧ cps.length = j ∧ (∃ oa c, v = .slice oa j c) ∧ CS w wr nC (.slice ia ni ic) F [(.slice (some ⟨dg, 0, none⟩) dl dcp, dd)] (.slice pa pn pc) AO v cps) (fun _ iv _ => pn - (intOf iv).toNat)
              case atStart => exact ⟨0, [], Nat.zero_le _, rfl, rfl, ⟨_, _, rfl⟩, HU2.out⟩
              case round =>
                obtain ⟨j, cps, hj, rfl, hcl, ⟨ca, cc, rfl⟩, hcs⟩ := hrel; have HS : Hid (CS w wr nC (.slice ia ni ic) F [(.slice (some ⟨dg, 0, none⟩) dl dcp, dd)] (.slice pa pn pc) AO (.slice ca j cc) cps ∧ cps.length = j) := ⟨hcs, hcl⟩; clear hcs hcl HU2
                by_cases hlt : j < pn
                · have hltI : (j : Int) < (pn : Int) := by omega
                  have v1 : IntKind.i64.wrap ((j : Int) + 1) = (j : Int) + 1 := IntWalk.i64_in _ (by omega); obtain ⟨B9, hrow⟩ := HS.out.1.rr.row; obtain ⟨⟨kd, a, nm, tn, da, dn, dc, D⟩, ho, hG⟩ := one_of hrow HAO.out.2.2.1 hlt; obtain ⟨g0, hoa0, q0, q1, q2, q3, q4⟩ := hrow.cell HAO.out.2.2.1 ho; simp only at q0 q1 q2 q3 q4; subst hoa0
                  have hlo1 : ∀ x, (Value.slice (some ⟨g0, 0, none⟩) pn pc).ownBlock = some x → x < wr.heap.size := fun x hx => by
                    obtain ⟨cur, h8⟩ := row_type hrow.row hx; exact (Array.getElem?_eq_some_iff.1 h8).1
                  have hlo2 : ∀ x, (Value.slice ca j cc).ownBlock = some x → x < wr.heap.size := fun x hx => by
                    obtain ⟨cur, h8⟩ := row_type HS.out.1.cp.row hx; exact (Array.getElem?_eq_some_iff.1 h8).1
                  have HB : Hid (CS w (wr.alloc (.cells #[.int .i64 kd, .int .i64 a, .string nm, .string tn, .slice da dn dc] 33)) nC (.slice ia ni ic) F [(.slice (some ⟨dg, 0, none⟩) dl dcp, dd)] (.slice (some ⟨g0, 0, none⟩) pn pc) AO (.slice ca j cc) cps ∧ OpG (wr.alloc (.cells #[.int .i64 kd, .int .i64 a, .string nm, .string tn, .slice da dn dc] 33)) kd a nm tn da dn dc D ∧ (wr.alloc (.cells #[.int .i64 kd, .int .i64 a, .string nm, .string tn, .slice da dn dc] 33)).heap[wr.heap.size]? = some (.cells #[.int .i64 kd, .int .i64 a, .string nm, .string tn, .slice da dn dc] 33 (0, 0)) ∧ cps.length = j ∧ AO[j]? = some ⟨kd, a, nm, tn, da, dn, dc, D⟩ ∧ w.heap.size ≤ wr.heap.size ∧ (∀ x, (Value.slice (some ⟨g0, 0, none⟩) pn pc).ownBlock = some x → x < wr.heap.size) ∧ ∀ x, (Value.slice ca j cc).ownBlock = some x → x < wr.heap.size) := ⟨HS.out.1.grown0 (World.grownBy_alloc _ _ none), OpG.grown0 hG (World.grownBy_alloc _ _ none), heap_alloc_new wr _, HS.out.2, ho, HS.out.1.gr.size, hlo1, hlo2⟩; clear hrow ho hG HS hlo1 hlo2
                  go_upto_region 34 with fail
                  generalize wr.alloc (.cells #[.int .i64 kd, .int .i64 a, .string nm, .string tn, .slice da dn dc] 33) = X2 at HB ⊢; generalize wr.heap.size = b at HB ⊢; clear q0 q1 q2 q3 q4; have p4 : X2.cell? ⟨b, 4, none⟩ = some (.slice da dn dc) := (zCr HB.out.2.2.1).trans rfl; obtain ⟨da9, dc9, hde, hds, hdc9⟩ := HB.out.2.1.bv.sl; have hDl := Opv.G.len (o := ⟨kd, a, nm, tn, da, dn, dc, D⟩) HB.out.2.1; simp only [Value.slice.injEq] at hde hDl; obtain ⟨rfl, -, rfl⟩ := hde; rw [hDl] at hds; have hdz := HB.out.2.1.dz; have HCP : Hid (Calls _ _ _ _ _) := cp_any da dn dc D X2 hds (by omega); clear hds hdc9 hDl; go_wp2_with fail; refine HCP.out.mono ?_; rintro e X3 ⟨yg, yc, rfl, hown, hg3⟩; have hb3 := grown_blk hg3 HB.out.2.2.1; have hyl := (hown.lt yg rfl).2; have hG3 : OpG X3 kd a nm tn (some ⟨yg, 0, none⟩) dn yc D := ⟨HB.out.2.1.sn, HB.out.2.1.st, HB.out.2.1.ts, bv_own hown HB.out.2.1.bv.1, HB.out.2.1.d2, HB.out.2.1.dz, HB.out.2.1.ia⟩; have p5 : X3.cell? ⟨b, 4, none⟩ = some (.slice da dn dc) := (zCr hb3).trans rfl
                  have p6 : X3.frozen? ⟨b, 4, none⟩ = false := by simp [World.frozen?, hb3]
                  have HC : Hid (CS w (X3.setCell ⟨b, 4, none⟩ (.slice (some ⟨yg, 0, none⟩) dn yc)) nC (.slice ia ni ic) F [(.slice (some ⟨dg, 0, none⟩) dl dcp, dd)] (.slice (some ⟨g0, 0, none⟩) pn pc) AO (.slice ca j cc) cps ∧ OpG (X3.setCell ⟨b, 4, none⟩ (.slice (some ⟨yg, 0, none⟩) dn yc)) kd a nm tn (some ⟨yg, 0, none⟩) dn yc D ∧ (X3.setCell ⟨b, 4, none⟩ (.slice (some ⟨yg, 0, none⟩) dn yc)).heap[b]? = some (.cells #[.int .i64 kd, .int .i64 a, .string nm, .string tn, .slice (some ⟨yg, 0, none⟩) dn yc] 33 (0, 0)) ∧ yg < (X3.setCell ⟨b, 4, none⟩ (.slice (some ⟨yg, 0, none⟩) dn yc)).heap.size ∧ cps.length = j ∧ AO[j]? = some ⟨kd, a, nm, tn, da, dn, dc, D⟩) := by
                    obtain ⟨t1, t2, t3, t4, t5, t6, t7, t8⟩ := HB.out; have hM : Moves [] [33] X3 (X3.setCell ⟨b, 4, none⟩ (.slice (some ⟨yg, 0, none⟩) dn yc)) := set_type hb3; exact ⟨(t1.grown0 hg3).box hb3 t6 (fun x hx hc => by have := t7 x hx; omega) (fun x hx hc => by have := t8 x hx; omega), hG3.mv hM (by decide), (heap_setCell_same X3 b 4 _ _ _ hb3).trans rfl, Nat.lt_of_lt_of_le hyl hM.size, t4, t5⟩
                  clear HCP p4 hb3 hyl hG3 hg3 hown HB
                  go_upto_region 35 with fail
                  generalize X3.setCell ⟨b, 4, none⟩ (.slice (some ⟨yg, 0, none⟩) dn yc) = X4 at HC ⊢; clear p5 p6; have c0 : X4.cell? ⟨b, 0, none⟩ = some (.int .i64 kd) := (zCr HC.out.2.2.1).trans rfl; have c1 : X4.cell? ⟨b, 1, none⟩ = some (.int .i64 a) := (zCr HC.out.2.2.1).trans rfl; have c2 : X4.cell? ⟨b, 2, none⟩ = some (.string nm) := (zCr HC.out.2.2.1).trans rfl; have c3 : X4.cell? ⟨b, 3, none⟩ = some (.string tn) := (zCr HC.out.2.2.1).trans rfl; have c4 : X4.cell? ⟨b, 4, none⟩ = some (.slice (some ⟨yg, 0, none⟩) dn yc) := (zCr HC.out.2.2.1).trans rfl
                  have HO : Hid (X4.ownsRow nC 33 5 (.slice ca j cc) j (cps.flatMap Opv.cells)) := by have h9 := HC.out.1.cp.row; rw [HC.out.2.2.2.2.1] at h9; exact h9
                  have hBX : nC ≤ X4.heap.size := HC.out.1.sz
                  go_upto_region 36 with (at_builtin; refine wpList_appM rfl _ _ 27 rfl nC 33 Tryz.underlying27 Tryz.infoOp rfl (by decide) (.slice ca j cc) j (cps.flatMap Opv.cells) rfl HO.out 1 #[.int .i64 kd, .int .i64 a, .string nm, .string tn, .slice (some ⟨yg, 0, none⟩) dn yc] X4.heap.size rfl rfl rfl rfl (by omega) (by decide) hBX ?_)
                  intro ca2 cc2 X5 h2 h3 h4
                  have HD : Hid (CS w X5 nC (.slice ia ni ic) F [(.slice (some ⟨dg, 0, none⟩) dl dcp, dd)] (.slice (some ⟨g0, 0, none⟩) pn pc) AO (.slice ca2 (j + 1) cc2) (cps ++ [⟨kd, a, nm, tn, some ⟨yg, 0, none⟩, dn, yc, D⟩]) ∧ cps.length = j) := ⟨HC.out.1.push (o := ⟨kd, a, nm, tn, some ⟨yg, 0, none⟩, dn, yc, D⟩) h3 (by rw [HC.out.2.2.2.2.1]; exact h2) HC.out.2.1 (fun b9 off9 h => by
                    obtain ⟨rfl, -⟩ : yg = b9 ∧ 0 = off9 := by simpa using h
                    exact HC.out.2.2.2.1) h4 (by rw [HC.out.2.2.2.2.1, HC.out.2.2.2.2.2]; rfl), HC.out.2.2.2.2.1⟩
                  clear h2 h3 h4 HC HO c0 c1 c2 c3 c4 hBX; go_wp2; go_roundw
                  case rel => exact ⟨j + 1, _, by omega, by go_num, by simp [HD.out.2], ⟨_, _, rfl⟩, HD.out.1⟩
                  case measure => simp [intOf]; omega
                · obtain rfl : j = pn := by omega
                  have HV1 : Hid (CS w wr nC (.slice ia ni ic) F [(.slice (some ⟨dg, 0, none⟩) dl dcp, dd)] (.slice pa j pc) AO (.slice ca j cc) cps ∧ cps.length = j) := HS.out; clear HS; obtain ⟨B9, hfl⟩ := HV1.out.1.img; have HCI : Hid (Calls _ _ _ _ _) := cpImage_any (.slice ia ni ic) B9 F wr hfl HIF.out.1; clear hfl; go_wp2_with fail; refine HCI.out.mono ?_; rintro e Z5 ⟨⟨v5, rfl, hfl⟩, hg5⟩; obtain ⟨ja, jc, rfl, -⟩ := hfl.is; rw [HIF.out.2] at hfl ⊢; have hCS := HV1.out.1.grown0 hg5; have HRN : Hid (Calls _ _ _ _ _) := diskRun_law ja ni jc wr.heap.size F ca j cc nC cps A bs (some ⟨dg, 0, none⟩) (some ⟨cg, 0, none⟩) dl dcp cm ccp dd cx ad Z5 hfl HIF.out.1 hCS.cp HV1.out.2 (by rw [HAO.out.1, hCS.eq, HV1.out.2, List.take_of_length_le (by rw [HAO.out.2.2.1]; exact Nat.le_refl _)]) HAA.out.1 HAO.out.2.1 (by rw [HAA.out.2.1]; exact hk40) (by rw [HAO.out.2.2.2]; omega) (by rw [HAA.out.2.2]; exact hdl1) hCS.lo ((HE.out.grown hCS.gr).up hCS.gr.size); have HV2 : Hid (w.grownBy Z5 none ∧ BV Z5 (.slice (some ⟨dg, 0, none⟩) dl dcp) dd) := ⟨hCS.gr, hCS.bv (.slice (some ⟨dg, 0, none⟩) dl dcp, dd) (by simp)⟩; clear hfl hg5 hCS HCI HV1; go_wp2_with fail; refine HRN.out.mono ?_; rintro e Z6 ⟨av, lv, sv, rfl, ⟨xa, xc, acs, rfl, har, ha0, a1, c1, ha1, hbr⟩, ⟨F1, b1, b2, hf1, hf2⟩, hg6⟩; obtain ⟨la, lc, rfl, -⟩ := hf1.is; obtain ⟨sa, sc, rfl, -⟩ := hf2.is; obtain ⟨nF, hnF⟩ : ∃ y, F1.length = y := ⟨_, rfl⟩; rw [hnF] at hf1 hf2 ⊢; have hddl : dd.length = dl := HAA.out.2.2; rw [hddl] at ha1 hbr; have hjj : (j - 1) * 2 + 1 < acs.length := (List.getElem?_eq_some_iff.1 ha1).1; obtain ⟨xg, hxa, y0⟩ := own_cell har ha0; obtain ⟨xg', hxa', y1⟩ := own_cell har ha1; subst hxa; simp only [Option.some.injEq, Addr.mk.injEq, and_true] at hxa'; subst hxa'; obtain ⟨oa9, c9, hv9, hsl9⟩ := hbr.sl; simp only [Value.slice.injEq] at hv9; obtain ⟨rfl, -, rfl⟩ := hv9; rw [hddl] at hsl9; obtain ⟨oa8, c8, hv8, hsl8, -⟩ := (HV2.out.2.grown0 hg6).sl; simp only [Value.slice.injEq] at hv8; obtain ⟨rfl, -, rfl⟩ := hv8; rw [hddl] at hsl8; have hga := World.grownBy_alloc Z6 (.cells #[.int .i64 0, .slice (some ⟨xg, 0, none⟩) j xc, .slice la nF lc, .slice sa nF sc, .int .i64 0] 44) none; have HW1 : Hid (w.grownBy (Z6.alloc (.cells #[.int .i64 0, .slice (some ⟨xg, 0, none⟩) j xc, .slice la nF lc, .slice sa nF sc, .int .i64 0] 44)) none ∧ FlAt (Z6.alloc (.cells #[.int .i64 0, .slice (some ⟨xg, 0, none⟩) j xc, .slice la nF lc, .slice sa nF sc, .int .i64 0] 44)) b1 (.slice la nF lc) F1 ∧ FlAt (Z6.alloc (.cells #[.int .i64 0, .slice (some ⟨xg, 0, none⟩) j xc, .slice la nF lc, .slice sa nF sc, .int .i64 0] 44)) b2 (.slice sa nF sc) F1 ∧ SlB (Z6.alloc (.cells #[.int .i64 0, .slice (some ⟨xg, 0, none⟩) j xc, .slice la nF lc, .slice sa nF sc, .int .i64 0] 44)) a1 dl dd ∧ SlB (Z6.alloc (.cells #[.int .i64 0, .slice (some ⟨xg, 0, none⟩) j xc, .slice la nF lc, .slice sa nF sc, .int .i64 0] 44)) (some ⟨dg, 0, none⟩) dl dd ∧ (Z6.alloc (.cells #[.int .i64 0, .slice (some ⟨xg, 0, none⟩) j xc, .slice la nF lc, .slice sa nF sc, .int .i64 0] 44)).heap[Z6.heap.size]? = some (.cells #[.int .i64 0, .slice (some ⟨xg, 0, none⟩) j xc, .slice la nF lc, .slice sa nF sc, .int .i64 0] 44 (0, 0)) ∧ (Z6.alloc (.cells #[.int .i64 0, .slice (some ⟨xg, 0, none⟩) j xc, .slice la nF lc, .slice sa nF sc, .int .i64 0] 44)).cell? ⟨xg, (j - 1) * 2, none⟩ = some (.int .i64 0) ∧ (Z6.alloc (.cells #[.int .i64 0, .slice (some ⟨xg, 0, none⟩) j xc, .slice la nF lc, .slice sa nF sc, .int .i64 0] 44)).cell? ⟨xg, (j - 1) * 2 + 1, none⟩ = some (.slice a1 dl c1)) := ⟨grownBy_trans (grownBy_trans HV2.out.1 hg6) hga, hf1.grown0 hga, hf2.grown0 hga, hsl9.grown0 hga, hsl8.grown0 hga, heap_alloc_new Z6 _, ((bcell hga).1 _ _ (cell_block_lt y0)).trans y0, ((bcell hga).1 _ _ (cell_block_lt y1)).trans y1⟩; clear har ha0 ha1 hbr hf1 hf2 hg6 y0 y1 hsl9 hsl8 hga HRN HV2 hnF hddl hjj
                  go_upto_region 38 with fail
                  generalize Z6.alloc (.cells #[.int .i64 0, .slice (some ⟨xg, 0, none⟩) j xc, .slice la nF lc, .slice sa nF sc, .int .i64 0] 44) = Z7 at HW1 ⊢; generalize Z6.heap.size = ob at HW1 ⊢; have t0 : Z7.cell? ⟨ob, 0, none⟩ = some (.int .i64 0) := (zCr HW1.out.2.2.2.2.2.1).trans rfl; have t1 : Z7.cell? ⟨ob, 1, none⟩ = some (.slice (some ⟨xg, 0, none⟩) j xc) := (zCr HW1.out.2.2.2.2.2.1).trans rfl; have t2 : Z7.cell? ⟨ob, 2, none⟩ = some (.slice la nF lc) := (zCr HW1.out.2.2.2.2.2.1).trans rfl; have t3 : Z7.cell? ⟨ob, 3, none⟩ = some (.slice sa nF sc) := (zCr HW1.out.2.2.2.2.2.1).trans rfl; have t4 : Z7.cell? ⟨ob, 4, none⟩ = some (.int .i64 0) := (zCr HW1.out.2.2.2.2.2.1).trans rfl
                  have tj : ((j : Int) != (j : Int)) = false := by simp
                  go_wp2_with fail; refine (smImage_same (.slice la nF lc) (.slice sa nF sc) b1 b2 F1 Z7 HW1.out.2.1 HW1.out.2.2.1).mono ?_; rintro e Z8 ⟨rfl, hg8⟩; have hb8 := grown_blk hg8 HW1.out.2.2.2.2.2.1; have u1 : Z8.cell? ⟨ob, 1, none⟩ = some (.slice (some ⟨xg, 0, none⟩) j xc) := (zCr hb8).trans rfl; obtain ⟨jl, hjl⟩ : ∃ y, j = y + 1 := ⟨j - 1, by omega⟩
                  have v8 : IntKind.i64.wrap ((j : Int) - 1) = (jl : Int) := by rw [IntWalk.i64_in _ (by omega)]; omega
                  have hjI : (jl : Int) < (j : Int) := by omega
                  have u2 : Z8.cell? ⟨xg, jl * 2, none⟩ = some (.int .i64 0) := by
                    have h9 := ((bcell hg8).1 _ _ (cell_block_lt HW1.out.2.2.2.2.2.2.1)).trans HW1.out.2.2.2.2.2.2.1
                    rwa [show j - 1 = jl by omega] at h9
                  have u3 : Z8.cell? ⟨xg, jl * 2 + 1, none⟩ = some (.slice a1 dl c1) := by
                    have h9 := ((bcell hg8).1 _ _ (cell_block_lt HW1.out.2.2.2.2.2.2.2)).trans HW1.out.2.2.2.2.2.2.2
                    rwa [show j - 1 = jl by omega] at h9
                  have HX1 : Hid (w.grownBy (Z8.alloc (.cells #[.int .i64 0, .slice a1 dl c1] 35)) none ∧ SlB (Z8.alloc (.cells #[.int .i64 0, .slice a1 dl c1] 35)) a1 dl dd ∧ SlB (Z8.alloc (.cells #[.int .i64 0, .slice a1 dl c1] 35)) (some ⟨dg, 0, none⟩) dl dd ∧ (Z8.alloc (.cells #[.int .i64 0, .slice a1 dl c1] 35)).heap[Z8.heap.size]? = some (.cells #[.int .i64 0, .slice a1 dl c1] 35 (0, 0))) := by
                    have hga := grownBy_trans hg8 (World.grownBy_alloc Z8 (.cells #[.int .i64 0, .slice a1 dl c1] 35) none); exact ⟨grownBy_trans HW1.out.1 hga, HW1.out.2.2.2.1.grown0 hga, HW1.out.2.2.2.2.1.grown0 hga, heap_alloc_new Z8 _⟩
                  clear t0 t1 t2 t3 t4 tj hb8 hg8 HW1 hjl
                  go_upto_region 41 with fail
                  generalize Z8.alloc (.cells #[.int .i64 0, .slice a1 dl c1] 35) = Z9 at HX1 ⊢; generalize Z8.heap.size = ab at HX1 ⊢; have s0 : Z9.cell? ⟨ab, 0, none⟩ = some (.int .i64 0) := (zCr HX1.out.2.2.2).trans rfl; have s1 : Z9.cell? ⟨ab, 1, none⟩ = some (.slice a1 dl c1) := (zCr HX1.out.2.2.2).trans rfl; clear u1 u2 u3; go_wp2_with fail; refine (smBytes_any a1 (some ⟨dg, 0, none⟩) dl dl c1 dcp dd dd Z9 HX1.out.2.1 HX1.out.2.2.1).mono ?_; rintro e Z10 ⟨rfl, rfl⟩
                  have hdt : decide (dd = dd) = true := by simp
                  rw [hdt]; go_wp2; go_ret; exact ⟨rfl, HX1.out.1⟩
end Go.Proofs.YtgehhfncjoogiaaGreatDoor.fnSynced
namespace Go.Proofs.YtgehhfncjoogiaaGreatDoor
open Go.ChangeShapes Go.WideShapes Go.RowKit

theorem sentinels {P : Program} {W : World} {ti tp te ts : TypeId} {ms : Array (String × TypeId)} {f : Field} {nm : String} (hi : P.underlying ti = some (.interface ms)) (hrow : ∀ u, P.typeName? 3 u = some nm → u = tp)
    (hp : P.underlying tp = some (.pointer te)) (he : P.underlying te = some (.struct #[f])) (hft : f.type = ts) (hfo : f.offset = 0) (hs : P.underlying ts = some .string) (hc : P.cellsOf te = 1) (hcs : P.cellsOf ts = 1) :
    ∀ (l : List (String × List UInt8)) (ps : List MemPlace), DataW.LaidVars P W (l.map fun x => (x.1, .iface nm (.ptr (.agg [.lit (.string x.2)])))) ps → (∀ x ∈ l, ∃ g, P.globalNamed x.1 = some g ∧ (P.globals[g]?).map (·.type) = some ti) →
      (∀ b off, MemPlace.cell b off ∈ ps → (∃ c t, W.heap[b]? = some (.cells c t (0, 0))) ∧ ∀ u v, W.cell? ⟨b, off, none⟩ = some (.iface u v) → Value.okWide P W .any 0 u v) →
      ∃ ads : List Addr, ads.length = l.length ∧ (ads.map fun a => MemPlace.cell a.block a.off).Sublist ps ∧ ∀ (i : Nat) (x : String × List UInt8) (a : Addr), l[i]? = some x → ads[i]? = some a → W.var? P x.1 = some #[.iface tp (.pointer (some a))] ∧ ∃ c t, W.heap[a.block]? = some (.cells c t (0, 0)) := by
  intro l
  induction l with
  | nil => intro ps _ _ _; exact ⟨[], rfl, by simp, fun i x a h => by simp at h⟩
  | cons y l ih =>
    intro ps h hg hrows; obtain ⟨g, t, cs, fuel, p, q, hg', ht', hv, hd, hr, rfl⟩ := h; obtain ⟨g0, hg0, ht0⟩ := hg y (by simp); obtain rfl := Option.some.inj (hg0.symm.trans hg'); obtain rfl := Option.some.inj (ht0.symm.trans ht'); obtain ⟨lc⟩ := cs
    have ok : ∀ u v, lc = [.iface u v] → Value.okWide P W .any 0 u v := fun u v e => by
      subst e; exact (hrows g0 0 (by simp [MemPlace.row])).2 u v (by simpa using World.var?_cell hg' hv 0)
    obtain ⟨a, s, rfl, hca, hsa, hza, rfl⟩ := errorString_of_trod hi hrow hp he hft hfo hs hc hcs hd ok; obtain ⟨ads, h1, h2, h3⟩ := ih q hr (fun x hx => hg x (by simp [hx])) (fun b off hb => hrows b off (by simp [hb])); refine ⟨a :: ads, by simp [h1], ?_, fun i x b hx hb => ?_⟩
    · have e : MemPlace.row a 1 = [MemPlace.cell a.block a.off] := by simp [MemPlace.row]
      rw [e, List.map_cons, List.append_assoc]; refine List.Sublist.trans ?_ (List.sublist_append_right _ _); exact List.Sublist.cons_cons _ h2
    · cases i with
      | zero =>
        simp at hx hb
        subst hx hb; exact ⟨hv, (hrows a.block a.off (by simp [MemPlace.row])).1⟩
      | succ i => exact h3 i x b (by simpa using hx) (by simpa using hb)
def errList : List (String × List UInt8) :=
  [("loop.example/s01723/impl.errName", [110, 111, 116, 32, 97, 32, 103, 111, 111, 100, 32, 110, 97, 109, 101]),
    ("loop.example/s01723/impl.errNone", [110, 111, 32, 115, 117, 99, 104, 32, 102, 105, 108, 101]),
    ("loop.example/s01723/impl.errExist", [116, 104, 101, 32, 110, 97, 109, 101, 32, 105, 115, 32, 116, 97, 107, 101, 110]),
    ("loop.example/s01723/impl.errRange", [111, 117, 116, 32, 111, 102, 32, 114, 97, 110, 103, 101]),
    ("loop.example/s01723/impl.errFull", [110, 111, 32, 114, 111, 111, 109, 32, 105, 115, 32, 108, 101, 102, 116]),
    ("loop.example/s01723/impl.errPower", [116, 104, 101, 32, 112, 111, 119, 101, 114, 32, 105, 115, 32, 111, 102, 102]),
    ("loop.example/s01723/impl.errCorrupt", [110, 111, 32, 110, 111, 100, 101, 32, 104, 97, 115, 32, 108, 101, 102, 116, 32, 116, 104, 101, 115, 101, 32, 102, 105, 108, 101, 115]),
    ("loop.example/s01723/impl.errFailed", [116, 104, 101, 32, 110, 111, 100, 101, 32, 104, 97, 115, 32, 102, 97, 105, 108, 101, 100]),
    ("loop.example/s01723/impl.errKind", [110, 111, 32, 115, 117, 99, 104, 32, 107, 105, 110, 100, 32, 111, 102, 32, 111, 112, 101, 114, 97, 116, 105, 111, 110]),
    ("loop.example/s01723/impl.errDown", [116, 104, 101, 32, 110, 111, 100, 101, 32, 105, 115, 32, 100, 111, 119, 110]),
    ("loop.example/s01723/impl.errLeader", [110, 111, 116, 32, 102, 111, 114, 32, 97, 32, 110, 111, 100, 101, 32, 111, 102, 32, 116, 104, 97, 116, 32, 114, 111, 108, 101]),
    ("loop.example/s01723/impl.errBeyond", [116, 104, 101, 32, 112, 108, 97, 99, 101, 32, 105, 115, 32, 98, 101, 121, 111, 110, 100, 32, 116, 104, 101, 32, 108, 97, 115, 116, 32, 105, 116, 101, 109]),
    ("loop.example/s01723/impl.errCompacted", [116, 104, 101, 32, 105, 116, 101, 109, 32, 105, 115, 110, 39, 116, 32, 107, 101, 112, 116, 32, 97, 110, 121, 32, 109, 111, 114, 101])]
namespace ErrsLaid
theorem own : ownKnob Tryz.prog.godebug = none := by kernel_rfl
theorem laidOut : laidOutB Tryz.prog = true := by kernel_rfl
theorem star : "*" ++ "errors.errorString" = "*errors.errorString" := by decide
theorem rowES (u : TypeId) (h : Tryz.prog.typeName? 3 u = some "*errors.errorString") : u = 184 :=
  typeName_ptr_named (nm := "errors.errorString") (by rw [star]; kernel_rfl) (by kernel_rfl) (by decide) u (by rw [star]; exact h)
theorem cellsES : Tryz.prog.cellsOf 204 = 1 := by kernel_rfl
theorem cellsStr : Tryz.prog.cellsOf 9 = 1 := by kernel_rfl
theorem gerrName : Tryz.prog.globalNamed "loop.example/s01723/impl.errName" = some 2 := by kernel_rfl
theorem terrName : (Tryz.prog.globals[2]?).map (·.type) = some 78 := by kernel_rfl
theorem gerrNone : Tryz.prog.globalNamed "loop.example/s01723/impl.errNone" = some 3 := by kernel_rfl
theorem terrNone : (Tryz.prog.globals[3]?).map (·.type) = some 78 := by kernel_rfl
theorem gerrExist : Tryz.prog.globalNamed "loop.example/s01723/impl.errExist" = some 4 := by kernel_rfl
theorem terrExist : (Tryz.prog.globals[4]?).map (·.type) = some 78 := by kernel_rfl
theorem gerrRange : Tryz.prog.globalNamed "loop.example/s01723/impl.errRange" = some 5 := by kernel_rfl
theorem terrRange : (Tryz.prog.globals[5]?).map (·.type) = some 78 := by kernel_rfl
theorem gerrFull : Tryz.prog.globalNamed "loop.example/s01723/impl.errFull" = some 6 := by kernel_rfl
theorem terrFull : (Tryz.prog.globals[6]?).map (·.type) = some 78 := by kernel_rfl
theorem gerrPower : Tryz.prog.globalNamed "loop.example/s01723/impl.errPower" = some 0 := by kernel_rfl
theorem terrPower : (Tryz.prog.globals[0]?).map (·.type) = some 78 := by kernel_rfl
theorem gerrCorrupt : Tryz.prog.globalNamed "loop.example/s01723/impl.errCorrupt" = some 7 := by kernel_rfl
theorem terrCorrupt : (Tryz.prog.globals[7]?).map (·.type) = some 78 := by kernel_rfl
theorem gerrFailed : Tryz.prog.globalNamed "loop.example/s01723/impl.errFailed" = some 8 := by kernel_rfl
theorem terrFailed : (Tryz.prog.globals[8]?).map (·.type) = some 78 := by kernel_rfl
theorem gerrKind : Tryz.prog.globalNamed "loop.example/s01723/impl.errKind" = some 1 := by kernel_rfl
theorem terrKind : (Tryz.prog.globals[1]?).map (·.type) = some 78 := by kernel_rfl
theorem gerrDown : Tryz.prog.globalNamed "loop.example/s01723/impl.errDown" = some 9 := by kernel_rfl
theorem terrDown : (Tryz.prog.globals[9]?).map (·.type) = some 78 := by kernel_rfl
theorem gerrLeader : Tryz.prog.globalNamed "loop.example/s01723/impl.errLeader" = some 10 := by kernel_rfl
theorem terrLeader : (Tryz.prog.globals[10]?).map (·.type) = some 78 := by kernel_rfl
theorem gerrBeyond : Tryz.prog.globalNamed "loop.example/s01723/impl.errBeyond" = some 11 := by kernel_rfl
theorem terrBeyond : (Tryz.prog.globals[11]?).map (·.type) = some 78 := by kernel_rfl
theorem gerrCompacted : Tryz.prog.globalNamed "loop.example/s01723/impl.errCompacted" = some 12 := by kernel_rfl
theorem terrCompacted : (Tryz.prog.globals[12]?).map (·.type) = some 78 := by kernel_rfl
theorem et : Tryz.prog.globalNamed "errors.errorType" = some 13 := by kernel_rfl
theorem rt : (Tryz.prog.cutTypes.find? (·.1 == "internal/reflectlite.rtype")).map (·.2) = some 132 := by kernel_rfl
theorem size : Tryz.prog.types.size = 215 := by kernel_rfl
theorem oneRow : ((List.range 215).filter fun t => Tryz.prog.rowNamed t [101, 114, 114, 111, 114]) = [78] := by kernel_rfl
theorem handle : typeHandle Tryz.prog 78 = .pointer (some ⟨14, 78, none⟩) := by kernel_rfl
theorem named : ∀ x ∈ errList, ∃ g, Tryz.prog.globalNamed x.1 = some g ∧ (Tryz.prog.globals[g]?).map (·.type) = some 78 := by
  intro x hx; simp only [errList, List.mem_cons, List.not_mem_nil, or_false] at hx
  rcases hx with rfl | rfl | rfl | rfl | rfl | rfl | rfl | rfl | rfl | rfl | rfl | rfl | rfl
  · exact ⟨_, gerrName, terrName⟩
  · exact ⟨_, gerrNone, terrNone⟩
  · exact ⟨_, gerrExist, terrExist⟩
  · exact ⟨_, gerrRange, terrRange⟩
  · exact ⟨_, gerrFull, terrFull⟩
  · exact ⟨_, gerrPower, terrPower⟩
  · exact ⟨_, gerrCorrupt, terrCorrupt⟩
  · exact ⟨_, gerrFailed, terrFailed⟩
  · exact ⟨_, gerrKind, terrKind⟩
  · exact ⟨_, gerrDown, terrDown⟩
  · exact ⟨_, gerrLeader, terrLeader⟩
  · exact ⟨_, gerrBeyond, terrBeyond⟩
  · exact ⟨_, gerrCompacted, terrCompacted⟩

theorem errs {W : World} {l : List (String × DataW Unit)} (hl : l = ("errors.errorType", Rows.laid_errors_errorType) :: errList.map fun x => (x.1, .iface "*errors.errorString" (.ptr (.agg [.lit (.string x.2)])))) (h : laidMetH Tryz.prog l W) : ∃ ad, ErrsAt W W.heap.size ad := by
  subst hl; have h' : laidMet Tryz.prog (errList.map fun x => (x.1, .iface "*errors.errorString" (.ptr (.agg [.lit (.string x.2)])))) W ∧ handlesMet Tryz.prog [("errors.errorType", Rows.laid_errors_errorType)] W := h; obtain ⟨⟨ps, hlv, hnd, hrows⟩, hh⟩ := h'; obtain ⟨ads, ha1, ha2, ha3⟩ := sentinels Tryz.underlying78 rowES Tryz.underlying184 Tryz.underlying204 rfl rfl Tryz.underlying9 cellsES cellsStr errList ps hlv named hrows; have hl12 : ads.length = 13 := ha1; have hnd2 : (ads.map fun a => MemPlace.cell a.block a.off).Nodup := ha2.nodup hnd
  have hget : ∀ i, i < 13 → ∃ a, ads[i]? = some a := fun i hi => ⟨_, List.getElem?_eq_getElem (by omega)⟩
  let pm : Nat → Nat := fun k => ([5, 8, 0, 1, 2, 3, 4, 6, 7, 9, 10, 11, 12] : List Nat).getD k 0
  have hpm : ∀ k, k < 13 → pm k < 13 := by decide
  have hpi : ∀ j, j < 13 → ∀ k, k < 13 → pm j = pm k → j = k := by decide
  have hblk : ∀ k, k < 13 → ∃ ca ta, W.heap[((ads[pm k]?).getD ⟨0, 0, none⟩).block]? = some (.cells ca ta (0, 0)) := fun k hk => by
    obtain ⟨a, ha⟩ := hget (pm k) (hpm k hk); rw [ha]; simp only [Option.getD_some]
    match k, hk with
    | 0, _ => exact (ha3 5 _ a rfl ha).2
    | 1, _ => exact (ha3 8 _ a rfl ha).2
    | 2, _ => exact (ha3 0 _ a rfl ha).2
    | 3, _ => exact (ha3 1 _ a rfl ha).2
    | 4, _ => exact (ha3 2 _ a rfl ha).2
    | 5, _ => exact (ha3 3 _ a rfl ha).2
    | 6, _ => exact (ha3 4 _ a rfl ha).2
    | 7, _ => exact (ha3 6 _ a rfl ha).2
    | 8, _ => exact (ha3 7 _ a rfl ha).2
    | 9, _ => exact (ha3 9 _ a rfl ha).2
    | 10, _ => exact (ha3 10 _ a rfl ha).2
    | 11, _ => exact (ha3 11 _ a rfl ha).2
    | 12, _ => exact (ha3 12 _ a rfl ha).2
  have htyp : W.cell? ⟨13, 0, none⟩ = some (.iface 132 (.agg #[.pointer (some ⟨14, 78, none⟩)])) := by
    obtain ⟨name, u, ty, e1, e2, e3, e4, e5⟩ := hh _ (List.mem_singleton.2 rfl); have en : name = [101, 114, 114, 111, 114] := (Option.some.inj e1).symm; subst en; obtain rfl := Option.some.inj (rt.symm.trans e2)
    have hm : ty ∈ (List.range 215).filter fun t => Tryz.prog.rowNamed t [101, 114, 114, 111, 114] := List.mem_filter.2 ⟨List.mem_range.2 (by rw [← size]; exact e3), e4⟩
    rw [oneRow] at hm; obtain rfl := List.mem_singleton.1 hm; rw [handle] at e5
    simpa using World.var?_cell et e5 0
  refine ⟨fun k => (ads[pm k]?).getD ⟨0, 0, none⟩, ⟨fun k hk => ?_, hblk, fun j k hj hk hjk e => ?_, htyp, fun k hk => ?_, ?_⟩⟩
  · obtain ⟨a, ha⟩ := hget (pm k) (hpm k hk); rw [ha]; simp only [Option.getD_some]
    match k, hk with
    | 0, _ => simpa using World.var?_cell gerrPower (ha3 5 _ a rfl ha).1 0
    | 1, _ => simpa using World.var?_cell gerrKind (ha3 8 _ a rfl ha).1 0
    | 2, _ => simpa using World.var?_cell gerrName (ha3 0 _ a rfl ha).1 0
    | 3, _ => simpa using World.var?_cell gerrNone (ha3 1 _ a rfl ha).1 0
    | 4, _ => simpa using World.var?_cell gerrExist (ha3 2 _ a rfl ha).1 0
    | 5, _ => simpa using World.var?_cell gerrRange (ha3 3 _ a rfl ha).1 0
    | 6, _ => simpa using World.var?_cell gerrFull (ha3 4 _ a rfl ha).1 0
    | 7, _ => simpa using World.var?_cell gerrCorrupt (ha3 6 _ a rfl ha).1 0
    | 8, _ => simpa using World.var?_cell gerrFailed (ha3 7 _ a rfl ha).1 0
    | 9, _ => simpa using World.var?_cell gerrDown (ha3 9 _ a rfl ha).1 0
    | 10, _ => simpa using World.var?_cell gerrLeader (ha3 10 _ a rfl ha).1 0
    | 11, _ => simpa using World.var?_cell gerrBeyond (ha3 11 _ a rfl ha).1 0
    | 12, _ => simpa using World.var?_cell gerrCompacted (ha3 12 _ a rfl ha).1 0
  · obtain ⟨a, ha⟩ := hget (pm j) (hpm j hj); obtain ⟨b, hb⟩ := hget (pm k) (hpm k hk); simp only [ha, hb, Option.getD_some] at e; subst e
    have hne : pm j ≠ pm k := fun h => hjk (hpi j hj k hk h)
    have e1 : (ads.map fun a => MemPlace.cell a.block a.off)[pm j]? = some (MemPlace.cell a.block a.off) := by rw [List.getElem?_map, ha]; rfl
    have e2 : (ads.map fun a => MemPlace.cell a.block a.off)[pm k]? = some (MemPlace.cell a.block a.off) := by rw [List.getElem?_map, hb]; rfl
    exact hne ((List.getElem?_inj (by rw [List.length_map, hl12]; exact hpm j hj) hnd2).1 (e1.trans e2.symm))
  · obtain ⟨ca, ta, h9⟩ := hblk k hk; exact (Array.getElem?_eq_some_iff.1 h9).1
  · exact cell_block_lt htyp
theorem vars_ok {W : World} {ad : Nat → Addr} {B : Nat} (hE : ErrsAt W B ad) (ns : List String) (hns : ns = ["loop.example/s01723/impl.errPower", "loop.example/s01723/impl.errKind", "loop.example/s01723/impl.errNone", "loop.example/s01723/impl.errRange", "loop.example/s01723/impl.errName", "loop.example/s01723/impl.errExist", "loop.example/s01723/impl.errFull", "loop.example/s01723/impl.errCorrupt", "loop.example/s01723/impl.errFailed", "loop.example/s01723/impl.errDown", "loop.example/s01723/impl.errLeader", "loop.example/s01723/impl.errBeyond", "loop.example/s01723/impl.errCompacted"]) : (ns.all fun n => match Tryz.prog.globalNamed n with
      | none => true
      | some g => decide (g < W.heap.size) && (match (Tryz.prog.globals[g]?).map (·.type) with
        | none => true
        | some t => Tryz.prog.readableRec t && decide (t < Tryz.prog.types.size))) = true := by
  subst hns
  have hr : Tryz.prog.readableRec 78 = true := by kernel_rfl
  have hlt : ∀ k, k < 13 → k < W.heap.size := fun k hk => cell_block_lt (hE.cell k hk)
  simp only [List.all_cons, List.all_nil, Bool.and_true, gerrName, terrName, gerrNone, terrNone, gerrExist, terrExist, gerrRange, terrRange, gerrFull, terrFull, gerrPower, terrPower, gerrCorrupt, terrCorrupt, gerrFailed, terrFailed, gerrKind, terrKind, gerrDown, terrDown, gerrLeader, terrLeader, gerrBeyond, terrBeyond, gerrCompacted, terrCompacted, hr, size, Bool.true_and, Bool.and_eq_true, decide_eq_true_eq]; exact ⟨⟨hlt 0 (by decide), by decide⟩, ⟨hlt 1 (by decide), by decide⟩, ⟨hlt 3 (by decide), by decide⟩, ⟨hlt 5 (by decide), by decide⟩, ⟨hlt 2 (by decide), by decide⟩, ⟨hlt 4 (by decide), by decide⟩, ⟨hlt 6 (by decide), by decide⟩, ⟨hlt 7 (by decide), by decide⟩, ⟨hlt 8 (by decide), by decide⟩, ⟨hlt 9 (by decide), by decide⟩, ⟨hlt 10 (by decide), by decide⟩, ⟨hlt 11 (by decide), by decide⟩, ⟨hlt 12 (by decide), by decide⟩⟩
theorem vars_len {H : Type} {enc : TypeId × Value → H} {P : Program} {W : World} {sp : Nat → Bool} : ∀ (ns : List String) (gs : List (DataW H)) (q : List MemPlace), DataW.TrodVars enc P W sp ns gs q → gs.length = ns.length := by
  intro ns
  induction ns with
  | nil => intro gs q h; obtain ⟨rfl, rfl⟩ := trodVars_none h; rfl
  | cons n ns ih =>
    intro gs q h
    cases gs with
    | nil => simp [DataW.TrodVars] at h
    | cons d ds =>
      obtain ⟨g, t, cs, fuel, p, q', h1, h2, h3, h4, hs, rfl⟩ := h
      simp [ih ds q' hs]
end ErrsLaid
end Go.Proofs.YtgehhfncjoogiaaGreatDoor

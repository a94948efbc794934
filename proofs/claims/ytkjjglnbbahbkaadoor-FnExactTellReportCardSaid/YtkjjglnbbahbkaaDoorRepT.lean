/-
  A report as text, by the program: walked.
-/
import Derived.Test.YtkjjglnbbahbkaaDoorObT
import Derived.Test.YtkjjglnbbahbkaaDoorTreeL
import Derived.Deep.MidRow
namespace Go.Proofs.YtkjjglnbbahbkaaDoor
open Go.RowKit

theorem lit4 (X : World) (B : Nat) (hB : B ≤ X.heap.size) (fz : Nat × Nat) : Lit B (X.alloc (.cells #[.int .u8 99, .int .u8 111, .int .u8 100, .int .u8 101] 5 fz)) (.slice (some ⟨X.heap.size, 0, none⟩) 4 4) [99, 111, 100, 101] :=
  ⟨X.heap.size, fz, rfl, hB, heap_alloc_new X _, by decide⟩
theorem reportT_take (code : Int) (L : List (List Tr)) (k : Nat) (hc : I64 code) (hn : ∀ e ∈ tellR L, ∀ y ∈ e, Nu y) (ht : totR L ≤ 1048576) : (reportT code (tellR (L.take k))).length ≤ 2147483648 := by
  have h1 := numB_len (mark := 32) (i64s1 hc)
  have hsub : ∀ x ∈ tellR (L.take k), x ∈ tellR L := fun x hx => by rw [tellR, List.map_take] at hx; exact List.mem_of_mem_take hx
  have h2 := rows_len obsD 512 (tellR (L.take k)) (fun e he => by
    refine obsD_len e (hn e (hsub e he)) ?_
    obtain ⟨i, hi⟩ := List.mem_iff_getElem?.1 (hsub e he)
    have := tdRows_get hi
    unfold totR at ht
    omega)
  have h3 := totTo_le L k
  unfold totTo at h3
  rw [List.length_map, List.length_take] at h2
  simp only [reportT, List.length_append, List.length_cons, List.length_nil] at h1 ⊢
  omega
theorem obsD_tell (n0 n1 n2 n3 n5 n10 n11 n12 n13 n14 n15 n16 n17 : Int) (d4 : List Nat) (L6 L7 L8 L9 : List (List Tr)) (a4 a6 a7 a8 a9 : Option Addr) (p4 p6 p7 p8 p9 : Nat) :
    obsD (([.int n0, .int n1, .int n2, .int n3, .byt d4 a4 p4, .int n5, .row kItem.length a6 p6 L6, .row kSession.length a7 p7 L7, .row kAck.length a8 p8 L8, .row kMessage.length a9 p9 L9, .int n10, .int n11, .int n12, .int n13, .int n14, .int n15, .int n16, .int n17] : List Tr).map Tr.tell) = obsT n0 n1 n2 n3 d4 n5 (tellR L6) (tellR L8) L9.length n10 n11 n12 n13 n14 n15 n16 n17 := by
  have h : (tellR L9).length = L9.length := by simp [tellR]
  rw [← h]
  rfl
set_option maxRecDepth 8000 in
set_option maxHeartbeats 8000000 in
theorem tellReport_im (code : Int) (hc : I64 code) (L : List (List Tr)) (a : Option Addr) (p : Nat) (w : World) (hL : RowOk w kObs a L) (ht : totR L ≤ 1048576) (htab : Lib.TabBelow Tryd.prog w.heap.size w pow10 .u64 Lib.pow10Tab) :
    Calls Tryd.prog 7 #[.agg #[.int .i64 code, .slice a L.length p]] w fun e w' => ∃ v', e = .returned v' ∧ Out w.heap.size w' v' (reportT code (tellR L)) ∧ Ex w.heap.size w w' := by
  have HO : Hid (RowLow w.heap.size w kObs a L ∧ totR L ≤ 1048576) := ⟨hL.low, ht⟩
  have HT : Hid (Lib.TabBelow Tryd.prog w.heap.size w pow10 .u64 Lib.pow10Tab) := htab
  have HI : Hid (I64 code) := hc
  have hnl : L.length ≤ 1048576 := Nat.le_trans (totR_len L) ht
  clear hL ht htab hc
  obtain ⟨n, hn⟩ : ∃ n, L.length = n := ⟨_, rfl⟩
  have HN : Hid (L.length = n) := hn
  rw [hn] at hnl ⊢
  clear hn
  go_enter Tryd.func7, Tryd.ntmps7
  go_upto_region 1 with fail
  generalize hX : w.alloc (.cells #[.int .i64 code, .slice a n p] 30) = X
  have HX : Hid (Ex w.heap.size w X ∧ w.heap.size ≤ X.heap.size ∧ X.heap[w.heap.size]? = some (.cells #[.int .i64 code, .slice a n p] 30 (0, 0))) := by
    subst hX
    exact ⟨(Ex.refl _ w).alloc (Nat.le_refl _) _, by simp, heap_alloc_new w _⟩
  clear hX
  have kc := conv_lit
  have c0 : (X.alloc (.cells #[.int .u8 99, .int .u8 111, .int .u8 100, .int .u8 101] 5 (4, 5))).cell? ⟨w.heap.size, 0, none⟩ = some (.int .i64 code) := (cell_of_row _ _ _ _ _ _ (grown_blk (World.grownBy_alloc _ _ _) HX.out.2.2)).trans rfl
  go_wp2_with fail
  have H0 : Hid (Ex w.heap.size w ((X.alloc (.cells #[.int .u8 99, .int .u8 111, .int .u8 100, .int .u8 101] 5 (4, 5))).alloc (.cells #[.int .i64 code] 3)) ∧ w.heap.size ≤ ((X.alloc (.cells #[.int .u8 99, .int .u8 111, .int .u8 100, .int .u8 101] 5 (4, 5))).alloc (.cells #[.int .i64 code] 3)).heap.size) := by
    have h := HX.out.2.1
    exact ⟨(HX.out.1.alloc h _).alloc (by simp; omega) _, by simp; omega⟩
  refine (addNumbers_outL (B := w.heap.size) (OutL.alloc (.inr (lit4 X w.heap.size HX.out.2.1 (4, 5))) _) 32 (by decide) (X.heap.size + 1) [code] (by have h := heap_alloc_new (X.alloc (.cells #[.int .u8 99, .int .u8 111, .int .u8 100, .int .u8 101] 5 (4, 5))) (.cells #[.int .i64 code] 3 (0, 0)); simpa using h) (i64s1 HI.out) (by simp) (by simp) H0.out.2 (by simp) (HT.out.on H0.out.1.below)).mono ?_
  rintro e w1 ⟨v1, rfl, hO1, hE1⟩
  have H1 : Hid (Out w.heap.size w1 v1 ([99, 111, 100, 101] ++ numB 32 [code]) ∧ Ex w.heap.size w w1 ∧ w.heap.size ≤ w1.heap.size ∧ ([99, 111, 100, 101] ++ numB 32 [code]).length ≤ 26 ∧ w1.heap[w.heap.size]? = some (.cells #[.int .i64 code, .slice a n p] 30 (0, 0))) := by
    refine ⟨hO1, H0.out.1.trans hE1, (H0.out.1.trans hE1).size (Nat.le_refl _), ?_, hE1.blk (grown_blk (World.grownBy_alloc _ _ _) (grown_blk (World.grownBy_alloc _ _ _) HX.out.2.2)) (by decide)⟩
    have := numB_len (mark := 32) (i64s1 HI.out)
    rw [List.length_append]
    simp at this ⊢
    omega
  clear hO1 hE1 H0 c0 kc
  go_wp2_with (at_builtin; refine wpList_out_b (by rfl) (.tmp 11) (.tmp 12) (by rfl) (B := w.heap.size) (zs := [99, 111, 100, 101] ++ numB 32 [code]) (by rfl) (by exact H1.out.1.alloc _) (oa := some ⟨w1.heap.size, 0, none⟩) (m := 1) (c := 1) (ys := [10]) (by rfl) (by exact one_byte w1 10 (by decide) _) (by decide) (by have := H1.out.2.2.2.1; omega) (by have := H1.out.2.2.1; simp; omega) ?_; intro v2 w2 H2; have c1 : w2.cell? ⟨w.heap.size, 1, none⟩ = some (.slice a n p) := (cell_of_row w2 _ _ _ _ _ (H2.out.2.blk (grown_blk (World.grownBy_alloc _ _ _) H1.out.2.2.2.2) (by decide))).trans rfl)
  have H3 : Hid (Out w.heap.size w2 v2 ([99, 111, 100, 101] ++ numB 32 [code] ++ [10]) ∧ Ex w.heap.size w w2) := ⟨H2.out.1, (H1.out.2.1.alloc H1.out.2.2.1 _).trans H2.out.2⟩
  clear H2 H1 c1
  go_loopw [3, 17] (fun v i wr => ∃ k : Nat, k ≤ n ∧ i = .int .i64 (k : Int) ∧ Out w.heap.size wr v (reportT code (tellR (L.take k))) ∧ Ex w.heap.size w wr) (fun _ i _ => n - (intOf i).toNat)
  case atStart => exact ⟨0, Nat.zero_le _, rfl, by simpa [reportT] using H3.out.1, H3.out.2⟩
  case round =>
    obtain ⟨k, hk, rfl, hOr, hE⟩ := hrel
    have HR : Hid (Out w.heap.size wr u3 (reportT code (tellR (L.take k))) ∧ Ex w.heap.size w wr ∧ w.heap.size ≤ wr.heap.size) := ⟨hOr, hE, hE.size (Nat.le_refl _)⟩
    clear hOr hE H3
    by_cases hlt : k < n
    · obtain ⟨e, he⟩ : ∃ e, L[k]? = some e := ⟨_, List.getElem?_eq_getElem (by rw [HN.out]; exact hlt)⟩
      obtain ⟨hf, hrd, bb, off, hab, hcl⟩ := HO.out.1 wr HR.out.2.1.below k e he
      have htot := HO.out.2
      obtain ⟨n0, n1, n2, n3, d4, a4, p4, n5, L6, a6, p6, L7, a7, p7, L8, a8, p8, L9, a9, p9, n10, n11, n12, n13, n14, n15, n16, n17, rfl⟩ := fitObs hf
      subst hab
      have hR : wr.rangeAt bb (off + k * 18) [.int .i64 n0, .int .i64 n1, .int .i64 n2, .int .i64 n3, .slice a4 d4.length p4, .int .i64 n5, .slice a6 L6.length p6, .slice a7 L7.length p7, .slice a8 L8.length p8, .slice a9 L9.length p9, .int .i64 n10, .int .i64 n11, .int .i64 n12, .int .i64 n13, .int .i64 n14, .int .i64 n15, .int .i64 n16, .int .i64 n17] := range_el hcl
      have HE : Hid (∀ Y : World, wr.grownBy Y none → Calls Tryd.prog 19 #[u3, .agg #[.int .i64 n0, .int .i64 n1, .int .i64 n2, .int .i64 n3, .slice a4 d4.length p4, .int .i64 n5, .slice a6 L6.length p6, .slice a7 L7.length p7, .slice a8 L8.length p8, .slice a9 L9.length p9, .int .i64 n10, .int .i64 n11, .int .i64 n12, .int .i64 n13, .int .i64 n14, .int .i64 n15, .int .i64 n16, .int .i64 n17]] Y fun e w' => ∃ v', e = .returned v' ∧ Out w.heap.size w' v' (reportT code (tellR (L.take (k + 1)))) ∧ Ex w.heap.size w w') := fun Y hY => by
        have hEY : Ex w.heap.size w Y := HR.out.2.1.grown hY HR.out.2.2
        have hlow := HO.out.1.on hEY.below
        refine (addObs_out (HR.out.1.grown hY) n0 n1 n2 n3 n5 n10 n11 n12 n13 n14 n15 n16 n17 d4 L6 L8 a4 a6 a7 a8 a9 p4 p6 p7 p8 p9 L7.length L9.length ⟨(hrd (.int n0) (by simp)).isInt, (hrd (.int n1) (by simp)).isInt, (hrd (.int n2) (by simp)).isInt, (hrd (.int n3) (by simp)).isInt, (hrd (.int n5) (by simp)).isInt, (hrd (.int n10) (by simp)).isInt, (hrd (.int n11) (by simp)).isInt, (hrd (.int n12) (by simp)).isInt, (hrd (.int n13) (by simp)).isInt, (hrd (.int n14) (by simp)).isInt, (hrd (.int n15) (by simp)).isInt, (hrd (.int n16) (by simp)).isInt, (hrd (.int n17) (by simp)).isInt⟩ (hlow.byt (p := p4) he (by simp)) (by have h1 := tot_sub (y := .byt d4 a4 p4) (j := 4) he rfl; rw [tot_byt] at h1; omega) (hlow.row (ks' := kItem) (j := 6) he rfl rfl (by decide)) (by have h1 := tot_sub (y := .row kItem.length a6 p6 L6) (j := 6) he rfl; rw [tot_row] at h1; omega) (hlow.row (ks' := kAck) (j := 8) he rfl rfl (by decide)) (by have h1 := tot_sub (y := .row kAck.length a8 p8 L8) (j := 8) he rfl; rw [tot_row] at h1; omega) (by have h1 := tot_sub (y := .row kMessage.length a9 p9 L9) (j := 9) he rfl; rw [tot_row] at h1; have := totR_len L9; omega) (hEY.size (Nat.le_refl _)) (reportT_take code L k HI.out HO.out.1.ok.nu htot) (HT.out.on hEY.below)).mono ?_
        rintro e w' ⟨v', rfl, h1, h2⟩
        refine ⟨v', rfl, ?_, hEY.trans h2⟩
        rw [reportT, flat_snoc _ he, obsD_tell, ← List.append_assoc]
        exact h1
      clear hcl hf hrd he htot
      have hkI : (k : Int) < (n : Int) := by omega
      have hT : (wr.alloc (.cells #[.int .i64 0, .int .i64 0, .int .i64 0, .int .i64 0, .slice none 0 0, .int .i64 0, .slice none 0 0, .slice none 0 0, .slice none 0 0, .slice none 0 0, .int .i64 0, .int .i64 0, .int .i64 0, .int .i64 0, .int .i64 0, .int .i64 0, .int .i64 0, .int .i64 0] 50)).there wr.heap.size 0 18 := (there_of_block (heap_alloc_new wr _) (by simp)).1
      have hR2 : ((wr.alloc (.cells #[.int .i64 0, .int .i64 0, .int .i64 0, .int .i64 0, .slice none 0 0, .int .i64 0, .slice none 0 0, .slice none 0 0, .slice none 0 0, .slice none 0 0, .int .i64 0, .int .i64 0, .int .i64 0, .int .i64 0, .int .i64 0, .int .i64 0, .int .i64 0, .int .i64 0] 50)).setCells wr.heap.size 0 [.int .i64 n0, .int .i64 n1, .int .i64 n2, .int .i64 n3, .slice a4 d4.length p4, .int .i64 n5, .slice a6 L6.length p6, .slice a7 L7.length p7, .slice a8 L8.length p8, .slice a9 L9.length p9, .int .i64 n10, .int .i64 n11, .int .i64 n12, .int .i64 n13, .int .i64 n14, .int .i64 n15, .int .i64 n16, .int .i64 n17]).rangeAt wr.heap.size 0 [.int .i64 n0, .int .i64 n1, .int .i64 n2, .int .i64 n3, .slice a4 d4.length p4, .int .i64 n5, .slice a6 L6.length p6, .slice a7 L7.length p7, .slice a8 L8.length p8, .slice a9 L9.length p9, .int .i64 n10, .int .i64 n11, .int .i64 n12, .int .i64 n13, .int .i64 n14, .int .i64 n15, .int .i64 n16, .int .i64 n17] := World.rangeAt_setCells_same _ _ _ _ hT
      have HG : Hid (wr.grownBy ((wr.alloc (.cells #[.int .i64 0, .int .i64 0, .int .i64 0, .int .i64 0, .slice none 0 0, .int .i64 0, .slice none 0 0, .slice none 0 0, .slice none 0 0, .slice none 0 0, .int .i64 0, .int .i64 0, .int .i64 0, .int .i64 0, .int .i64 0, .int .i64 0, .int .i64 0, .int .i64 0] 50)).setCells wr.heap.size 0 [.int .i64 n0, .int .i64 n1, .int .i64 n2, .int .i64 n3, .slice a4 d4.length p4, .int .i64 n5, .slice a6 L6.length p6, .slice a7 L7.length p7, .slice a8 L8.length p8, .slice a9 L9.length p9, .int .i64 n10, .int .i64 n11, .int .i64 n12, .int .i64 n13, .int .i64 n14, .int .i64 n15, .int .i64 n16, .int .i64 n17]) none) := grownBy_setCellsN (Nat.le_refl _) _ _ _ (World.grownBy_alloc _ _ _)
      go_upto_region 5 with (first | (refine wpList_load_mid (by rfl) 50 (.tmp 19) (by rfl) bb (off + k * 18) (by rfl) [.int .i64 n0, .int .i64 n1, .int .i64 n2, .int .i64 n3, .slice a4 d4.length p4, .int .i64 n5, .slice a6 L6.length p6, .slice a7 L7.length p7, .slice a8 L8.length p8, .slice a9 L9.length p9, .int .i64 n10, .int .i64 n11, .int .i64 n12, .int .i64 n13, .int .i64 n14, .int .i64 n15, .int .i64 n16, .int .i64 n17] _ hR Tryd.underlying50 rfl (by kernel_rfl) ?_; simp only [Act.put, List.setIfInBounds_toArray, List.set_cons_zero, List.set_cons_succ]) | (refine wpList_store_mid (by rfl) _ (.tmp 5) (.tmp 20) (by rfl) _ _ _ (by rfl) (by rfl) ?sa ?sb ?sc ?sd; exact hT; show _ = some 18; kernel_rfl; exact all_oneCell_toArray (List.all_eq_true.1 rfl); simp only [Act.put]))
      generalize hW5 : (wr.alloc (.cells #[.int .i64 0, .int .i64 0, .int .i64 0, .int .i64 0, .slice none 0 0, .int .i64 0, .slice none 0 0, .slice none 0 0, .slice none 0 0, .slice none 0 0, .int .i64 0, .int .i64 0, .int .i64 0, .int .i64 0, .int .i64 0, .int .i64 0, .int .i64 0, .int .i64 0] 50)).setCells wr.heap.size 0 [.int .i64 n0, .int .i64 n1, .int .i64 n2, .int .i64 n3, .slice a4 d4.length p4, .int .i64 n5, .slice a6 L6.length p6, .slice a7 L7.length p7, .slice a8 L8.length p8, .slice a9 L9.length p9, .int .i64 n10, .int .i64 n11, .int .i64 n12, .int .i64 n13, .int .i64 n14, .int .i64 n15, .int .i64 n16, .int .i64 n17] = W5 at hR2 HG ⊢
      clear hW5 hT
      go_wp2_with (refine wpList_load_mid (by rfl) 50 (.tmp 5) (by rfl) wr.heap.size 0 (by rfl) [.int .i64 n0, .int .i64 n1, .int .i64 n2, .int .i64 n3, .slice a4 d4.length p4, .int .i64 n5, .slice a6 L6.length p6, .slice a7 L7.length p7, .slice a8 L8.length p8, .slice a9 L9.length p9, .int .i64 n10, .int .i64 n11, .int .i64 n12, .int .i64 n13, .int .i64 n14, .int .i64 n15, .int .i64 n16, .int .i64 n17] _ hR2 Tryd.underlying50 rfl (by kernel_rfl) ?_; simp only [Act.put, List.setIfInBounds_toArray, List.set_cons_zero, List.set_cons_succ])
      refine (HE.out _ HG.out).mono ?_
      rintro e w4 ⟨v4, rfl, hO4, hE4⟩
      have H4 : Hid (Out w.heap.size w4 v4 (reportT code (tellR (L.take (k + 1)))) ∧ Ex w.heap.size w w4) := ⟨hO4, hE4⟩
      clear hO4 hE4 hR hR2 HG HE
      go_wp2
      go_roundw
      case rel => exact ⟨k + 1, by omega, by go_num, H4.out.1, H4.out.2⟩
      case measure => simp [intOf]; omega
    · obtain rfl : k = n := by omega
      go_wp2
      go_ret
      refine ⟨_, rfl, ?_, HR.out.2.1⟩
      have h1 := HR.out.1
      rw [← HN.out, List.take_length] at h1
      exact h1
end Go.Proofs.YtkjjglnbbahbkaaDoor

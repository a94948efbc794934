/-
  A report as text, by the model: walked.
-/
import Derived.Test.YtkjjglnbbahbkaaDoorRepT
import Derived.Test.YtkjjglnbbahbkaaDoorSpT0
namespace Go.Proofs.YtkjjglnbbahbkaaDoor
open Go.RowKit

set_option maxRecDepth 8000 in
set_option maxHeartbeats 16000000 in
theorem tellReport_sp {B : Nat} (code : Int) (hc : I64 code) (L : List (List Tr)) (a : Option Addr) (p : Nat) (w : World) (hB : B ≤ w.heap.size) (hL : RowLow B w kObs a L) (ht : totR L ≤ 1048576) :
    Calls Tryd.prog 5 #[.agg #[.int .i64 code, .slice a L.length p]] w fun e w' => ∃ v', e = .returned v' ∧ Out B w' v' (reportT code (tellR L)) ∧ Ex B w w' := by
  have HO : Hid (RowLow B w kObs a L ∧ totR L ≤ 1048576 ∧ B ≤ w.heap.size) := ⟨hL, ht, hB⟩
  have HI : Hid (I64 code) := hc
  have hnl : L.length ≤ 1048576 := Nat.le_trans (totR_len L) ht
  clear hL ht hc hB
  obtain ⟨n, hn⟩ : ∃ n, L.length = n := ⟨_, rfl⟩
  have HN : Hid (L.length = n) := hn
  rw [hn] at hnl ⊢
  clear hn
  go_enter Tryd.func5, Tryd.ntmps5
  go_upto_region 1 with fail
  generalize hX : w.alloc (.cells #[.int .i64 code, .slice a n p] 30) = X
  have HX : Hid (Ex B w X ∧ B ≤ X.heap.size ∧ X.heap[w.heap.size]? = some (.cells #[.int .i64 code, .slice a n p] 30 (0, 0))) := by
    subst hX
    have h := HO.out.2.2
    exact ⟨(Ex.refl _ w).alloc h _, by simp; omega, heap_alloc_new w _⟩
  clear hX
  have kc := conv_lit
  have c0 : (X.alloc (.cells #[.int .u8 99, .int .u8 111, .int .u8 100, .int .u8 101, .int .u8 32] 5 (5, 6))).cell? ⟨w.heap.size, 0, none⟩ = some (.int .i64 code) := (cell_of_row _ _ _ _ _ _ (grown_blk (World.grownBy_alloc _ _ _) HX.out.2.2)).trans rfl
  go_wp2_with fail
  refine (l7Dec_any code HI.out _).mono ?_
  rintro e w1 ⟨g1, cp1, rfl, hS1, hG1⟩
  obtain ⟨D, hD⟩ : ∃ D, (decI code).length = D := ⟨_, rfl⟩
  have hDb : D ≤ 21 ∧ 0 < D := by rw [← hD]; exact ⟨decI_len HI.out, decI_pos code⟩
  have H1 : Hid (SlB w1 (some ⟨g1, 0, none⟩) D (decI code) ∧ OutL B w1 (.slice (some ⟨X.heap.size, 0, none⟩) 5 5) [99, 111, 100, 101, 32] ∧ Ex B w w1 ∧ B ≤ w1.heap.size ∧ w1.heap[w.heap.size]? = some (.cells #[.int .i64 code, .slice a n p] 30 (0, 0))) := by
    have h := HX.out.2.1
    have hx : Ex B w (X.alloc (.cells #[.int .u8 99, .int .u8 111, .int .u8 100, .int .u8 101, .int .u8 32] 5 (5, 6))) := HX.out.1.alloc h _
    exact ⟨by rw [← hD]; exact hS1, OutL.grown (.inr (lit5 X B h (5, 6))) hG1, hx.grown hG1 (hx.size HO.out.2.2), Nat.le_trans (hx.size HO.out.2.2) hG1.size, grown_blk hG1 (grown_blk (World.grownBy_alloc _ _ _) HX.out.2.2)⟩
  have HDc : Hid ((decI code).length = D) := hD
  rw [hD]
  clear hS1 hG1 c0 kc HX hD
  go_upto_region 2 with (at_builtin; refine wpList_outL_b (by rfl) (.tmp 12) (.tmp 15) (by rfl) (B := B) (zs := [99, 111, 100, 101, 32]) (by rfl) (by exact H1.out.2.1) (oa := some ⟨g1, 0, none⟩) (m := D) (c := cp1) (ys := decI code) (by rfl) (by exact H1.out.1) (by omega) (by simp; omega) (by exact H1.out.2.2.2.1) ?_; intro v2 w2 H2)
  have H3 : Hid (Out B w2 v2 ([99, 111, 100, 101, 32] ++ decI code) ∧ Ex B w w2 ∧ B ≤ w2.heap.size ∧ w2.heap[w.heap.size]? = some (.cells #[.int .i64 code, .slice a n p] 30 (0, 0)) ∧ ([99, 111, 100, 101, 32] ++ decI code).length ≤ 26) := ⟨H2.out.1, H1.out.2.2.1.trans H2.out.2, H2.out.2.size H1.out.2.2.2.1, H2.out.2.blk H1.out.2.2.2.2 (by decide), by rw [List.length_append, HDc.out]; simp; omega⟩
  clear H2 H1
  go_upto_region 3 with (at_builtin; refine wpList_out_b (by rfl) (.tmp 17) (.tmp 18) (by rfl) (B := B) (zs := [99, 111, 100, 101, 32] ++ decI code) (by rfl) (by exact H3.out.1.alloc _) (oa := some ⟨w2.heap.size, 0, none⟩) (m := 1) (c := 1) (ys := [10]) (by rfl) (by exact one_byte w2 10 (by decide) _) (by decide) (by have := H3.out.2.2.2.2; omega) (by have := H3.out.2.2.1; simp; omega) ?_; intro v3 w3 H4)
  have H5 : Hid (Out B w3 v3 (reportT code (tellR (L.take 0))) ∧ Ex B w w3) := ⟨by simpa [reportT, numB] using H4.out.1, (H3.out.2.1.alloc H3.out.2.2.1 _).trans H4.out.2⟩
  have c1 : w3.cell? ⟨w.heap.size, 1, none⟩ = some (.slice a n p) := (cell_of_row w3 _ _ _ _ _ (H4.out.2.blk (grown_blk (World.grownBy_alloc _ _ _) H3.out.2.2.2.1) (by decide))).trans rfl
  clear H4 H3
  go_wp2
  clear c1
  go_loopw [3, 23] (fun v i wr => ∃ k : Nat, k ≤ n ∧ i = .int .i64 (k : Int) ∧ Out B wr v (reportT code (tellR (L.take k))) ∧ Ex B w wr) (fun _ i _ => n - (intOf i).toNat)
  case atStart => exact ⟨0, Nat.zero_le _, rfl, H5.out.1, H5.out.2⟩
  case round =>
    obtain ⟨k, hk, rfl, hOr, hE⟩ := hrel
    have HR : Hid (Out B wr u3 (reportT code (tellR (L.take k))) ∧ Ex B w wr ∧ B ≤ wr.heap.size) := ⟨hOr, hE, hE.size HO.out.2.2⟩
    clear hOr hE H5
    by_cases hlt : k < n
    · obtain ⟨e, he⟩ : ∃ e, L[k]? = some e := ⟨_, List.getElem?_eq_getElem (by rw [HN.out]; exact hlt)⟩
      obtain ⟨hf, hrd, bb, off, hab, hcl⟩ := HO.out.1 wr HR.out.2.1.below k e he
      have htot := HO.out.2.1
      obtain ⟨n0, n1, n2, n3, d4, a4, p4, n5, L6, a6, p6, L7, a7, p7, L8, a8, p8, L9, a9, p9, n10, n11, n12, n13, n14, n15, n16, n17, rfl⟩ := fitObs hf
      subst hab
      have hR : wr.rangeAt bb (off + k * 18) [.int .i64 n0, .int .i64 n1, .int .i64 n2, .int .i64 n3, .slice a4 d4.length p4, .int .i64 n5, .slice a6 L6.length p6, .slice a7 L7.length p7, .slice a8 L8.length p8, .slice a9 L9.length p9, .int .i64 n10, .int .i64 n11, .int .i64 n12, .int .i64 n13, .int .i64 n14, .int .i64 n15, .int .i64 n16, .int .i64 n17] := range_el hcl
      have HJ : Hid (I64 n0 ∧ I64 n1 ∧ I64 n2 ∧ I64 n3 ∧ I64 n5 ∧ I64 n10 ∧ I64 n11 ∧ I64 n12 ∧ I64 n13 ∧ I64 n14 ∧ I64 n15 ∧ I64 n16 ∧ I64 n17) := ⟨(hrd (.int n0) (by simp)).isInt, (hrd (.int n1) (by simp)).isInt, (hrd (.int n2) (by simp)).isInt, (hrd (.int n3) (by simp)).isInt, (hrd (.int n5) (by simp)).isInt, (hrd (.int n10) (by simp)).isInt, (hrd (.int n11) (by simp)).isInt, (hrd (.int n12) (by simp)).isInt, (hrd (.int n13) (by simp)).isInt, (hrd (.int n14) (by simp)).isInt, (hrd (.int n15) (by simp)).isInt, (hrd (.int n16) (by simp)).isInt, (hrd (.int n17) (by simp)).isInt⟩
      have HD4 : Hid (SlLow B w a4 d4.length d4 ∧ d4.length ≤ 1048576) := ⟨HO.out.1.byt (p := p4) he (by simp), by have h1 := tot_sub (y := .byt d4 a4 p4) (j := 4) he rfl; rw [tot_byt] at h1; omega⟩
      have HL6 : Hid (RowLow B w kItem a6 L6 ∧ totR L6 ≤ 1048576) := ⟨HO.out.1.row (ks' := kItem) (j := 6) he rfl rfl (by decide), by have h1 := tot_sub (y := .row kItem.length a6 p6 L6) (j := 6) he rfl; rw [tot_row] at h1; omega⟩
      have HL8 : Hid (RowLow B w kAck a8 L8 ∧ totR L8 ≤ 1048576) := ⟨HO.out.1.row (ks' := kAck) (j := 8) he rfl rfl (by decide), by have h1 := tot_sub (y := .row kAck.length a8 p8 L8) (j := 8) he rfl; rw [tot_row] at h1; omega⟩
      have s9 : L9.length ≤ 1048576 := by have h1 := tot_sub (y := .row kMessage.length a9 p9 L9) (j := 9) he rfl; rw [tot_row] at h1; have := totR_len L9; omega
      have hlenR := reportT_take code L k HI.out HO.out.1.ok.nu htot
      have htext : reportT code (tellR (L.take (k + 1))) = reportT code (tellR (L.take k)) ++ obsT n0 n1 n2 n3 d4 n5 (tellR L6) (tellR L8) L9.length n10 n11 n12 n13 n14 n15 n16 n17 := by
        rw [reportT, flat_snoc _ he, obsD_tell, ← List.append_assoc]
        rfl
      clear hcl hf hrd he htot
      obtain ⟨m4, e4⟩ : ∃ n, d4.length = n := ⟨_, rfl⟩
      obtain ⟨m6, e6⟩ : ∃ n, L6.length = n := ⟨_, rfl⟩
      obtain ⟨m7, e7⟩ : ∃ n, L7.length = n := ⟨_, rfl⟩
      obtain ⟨m8, e8⟩ : ∃ n, L8.length = n := ⟨_, rfl⟩
      obtain ⟨m9, e9⟩ : ∃ n, L9.length = n := ⟨_, rfl⟩
      have HM : Hid (d4.length = m4) := e4
      have HM6 : Hid (L6.length = m6) := e6
      have HM8 : Hid (L8.length = m8) := e8
      have s6 : m6 ≤ 1048576 := by rw [← e6]; exact Nat.le_trans (totR_len L6) HL6.out.2
      have s8 : m8 ≤ 1048576 := by rw [← e8]; exact Nat.le_trans (totR_len L8) HL8.out.2
      have s4 : m4 ≤ 1048576 := by rw [← e4]; exact HD4.out.2
      rw [e4, e6, e7, e8, e9] at hR
      rw [e9] at htext s9
      clear e4 e6 e7 e8 e9
      obtain ⟨R, hRe⟩ : ∃ R, reportT code (tellR (L.take k)) = R := ⟨_, rfl⟩
      have HTX : Hid (reportT code (tellR (L.take (k + 1))) = R ++ obsT n0 n1 n2 n3 d4 n5 (tellR L6) (tellR L8) m9 n10 n11 n12 n13 n14 n15 n16 n17) := by rw [← hRe]; exact htext
      have H0 : Hid (Out B wr u3 R ∧ Ex B w wr ∧ B ≤ wr.heap.size ∧ R.length ≤ 2147483648) := by rw [← hRe]; exact ⟨HR.out.1, HR.out.2.1, HR.out.2.2, hlenR⟩
      clear htext hRe hlenR HR
      have hkI : (k : Int) < (n : Int) := by omega
      have hT : (wr.alloc (.cells #[.int .i64 0, .int .i64 0, .int .i64 0, .int .i64 0, .slice none 0 0, .int .i64 0, .slice none 0 0, .slice none 0 0, .slice none 0 0, .slice none 0 0, .int .i64 0, .int .i64 0, .int .i64 0, .int .i64 0, .int .i64 0, .int .i64 0, .int .i64 0, .int .i64 0] 50)).there wr.heap.size 0 18 := (there_of_block (heap_alloc_new wr _) (by simp)).1
      have HG : Hid (wr.grownBy ((wr.alloc (.cells #[.int .i64 0, .int .i64 0, .int .i64 0, .int .i64 0, .slice none 0 0, .int .i64 0, .slice none 0 0, .slice none 0 0, .slice none 0 0, .slice none 0 0, .int .i64 0, .int .i64 0, .int .i64 0, .int .i64 0, .int .i64 0, .int .i64 0, .int .i64 0, .int .i64 0] 50)).setCells wr.heap.size 0 [.int .i64 n0, .int .i64 n1, .int .i64 n2, .int .i64 n3, .slice a4 m4 p4, .int .i64 n5, .slice a6 m6 p6, .slice a7 m7 p7, .slice a8 m8 p8, .slice a9 m9 p9, .int .i64 n10, .int .i64 n11, .int .i64 n12, .int .i64 n13, .int .i64 n14, .int .i64 n15, .int .i64 n16, .int .i64 n17]) none ∧ ((wr.alloc (.cells #[.int .i64 0, .int .i64 0, .int .i64 0, .int .i64 0, .slice none 0 0, .int .i64 0, .slice none 0 0, .slice none 0 0, .slice none 0 0, .slice none 0 0, .int .i64 0, .int .i64 0, .int .i64 0, .int .i64 0, .int .i64 0, .int .i64 0, .int .i64 0, .int .i64 0] 50)).setCells wr.heap.size 0 [.int .i64 n0, .int .i64 n1, .int .i64 n2, .int .i64 n3, .slice a4 m4 p4, .int .i64 n5, .slice a6 m6 p6, .slice a7 m7 p7, .slice a8 m8 p8, .slice a9 m9 p9, .int .i64 n10, .int .i64 n11, .int .i64 n12, .int .i64 n13, .int .i64 n14, .int .i64 n15, .int .i64 n16, .int .i64 n17]).heap[wr.heap.size]? = some (.cells #[.int .i64 n0, .int .i64 n1, .int .i64 n2, .int .i64 n3, .slice a4 m4 p4, .int .i64 n5, .slice a6 m6 p6, .slice a7 m7 p7, .slice a8 m8 p8, .slice a9 m9 p9, .int .i64 n10, .int .i64 n11, .int .i64 n12, .int .i64 n13, .int .i64 n14, .int .i64 n15, .int .i64 n16, .int .i64 n17] 50 (0, 0))) := ⟨grownBy_setCellsN (Nat.le_refl _) _ _ _ (World.grownBy_alloc _ _ _), blk_setCells0 (by rfl) (heap_alloc_new wr _)⟩
      go_upto_region 6 with (first | (refine wpList_load_mid (by rfl) 50 (.tmp 25) (by rfl) bb (off + k * 18) (by rfl) [.int .i64 n0, .int .i64 n1, .int .i64 n2, .int .i64 n3, .slice a4 m4 p4, .int .i64 n5, .slice a6 m6 p6, .slice a7 m7 p7, .slice a8 m8 p8, .slice a9 m9 p9, .int .i64 n10, .int .i64 n11, .int .i64 n12, .int .i64 n13, .int .i64 n14, .int .i64 n15, .int .i64 n16, .int .i64 n17] _ hR Tryd.underlying50 rfl (by kernel_rfl) ?_; simp only [Act.put, List.setIfInBounds_toArray, List.set_cons_zero, List.set_cons_succ]) | (refine wpList_store_mid (by rfl) _ (.tmp 5) (.tmp 26) (by rfl) _ _ _ (by rfl) (by rfl) ?sa ?sb ?sc ?sd; exact hT; show _ = some 18; kernel_rfl; exact all_oneCell_toArray (List.all_eq_true.1 rfl); simp only [Act.put]))
      generalize hW5 : (wr.alloc (.cells #[.int .i64 0, .int .i64 0, .int .i64 0, .int .i64 0, .slice none 0 0, .int .i64 0, .slice none 0 0, .slice none 0 0, .slice none 0 0, .slice none 0 0, .int .i64 0, .int .i64 0, .int .i64 0, .int .i64 0, .int .i64 0, .int .i64 0, .int .i64 0, .int .i64 0] 50)).setCells wr.heap.size 0 [.int .i64 n0, .int .i64 n1, .int .i64 n2, .int .i64 n3, .slice a4 m4 p4, .int .i64 n5, .slice a6 m6 p6, .slice a7 m7 p7, .slice a8 m8 p8, .slice a9 m9 p9, .int .i64 n10, .int .i64 n11, .int .i64 n12, .int .i64 n13, .int .i64 n14, .int .i64 n15, .int .i64 n16, .int .i64 n17] = W5 at HG ⊢
      clear hW5 hT hR
      have H5 : Hid (Out B W5 u3 R ∧ Ex B w W5 ∧ B ≤ W5.heap.size ∧ W5.heap[wr.heap.size]? = some (.cells #[.int .i64 n0, .int .i64 n1, .int .i64 n2, .int .i64 n3, .slice a4 m4 p4, .int .i64 n5, .slice a6 m6 p6, .slice a7 m7 p7, .slice a8 m8 p8, .slice a9 m9 p9, .int .i64 n10, .int .i64 n11, .int .i64 n12, .int .i64 n13, .int .i64 n14, .int .i64 n15, .int .i64 n16, .int .i64 n17] 50 (0, 0))) := ⟨H0.out.1.grown HG.out.1, H0.out.2.1.grown HG.out.1 H0.out.2.2.1, Nat.le_trans H0.out.2.2.1 HG.out.1.size, HG.out.2⟩
      clear HG
      generalize wr.heap.size = G at H5 ⊢
      have c10 : W5.cell? ⟨G, 10, none⟩ = some (.int .i64 n10) := (cell_of_row W5 _ _ _ _ _ (H5.out.2.2.2)).trans rfl
      have c11 : W5.cell? ⟨G, 11, none⟩ = some (.int .i64 n11) := (cell_of_row W5 _ _ _ _ _ (H5.out.2.2.2)).trans rfl
      have c12 : W5.cell? ⟨G, 12, none⟩ = some (.int .i64 n12) := (cell_of_row W5 _ _ _ _ _ (H5.out.2.2.2)).trans rfl
      have c13 : W5.cell? ⟨G, 13, none⟩ = some (.int .i64 n13) := (cell_of_row W5 _ _ _ _ _ (H5.out.2.2.2)).trans rfl
      have c14 : W5.cell? ⟨G, 14, none⟩ = some (.int .i64 n14) := (cell_of_row W5 _ _ _ _ _ (H5.out.2.2.2)).trans rfl
      have c15 : W5.cell? ⟨G, 15, none⟩ = some (.int .i64 n15) := (cell_of_row W5 _ _ _ _ _ (H5.out.2.2.2)).trans rfl
      have c16 : W5.cell? ⟨G, 16, none⟩ = some (.int .i64 n16) := (cell_of_row W5 _ _ _ _ _ (H5.out.2.2.2)).trans rfl
      have c17 : W5.cell? ⟨G, 17, none⟩ = some (.int .i64 n17) := (cell_of_row W5 _ _ _ _ _ (H5.out.2.2.2)).trans rfl
      go_upto_region 7 with fail
      clear c10 c11 c12 c13 c14 c15 c16 c17
      generalize hW6 : W5.alloc (.cells #[.int .i64 n10, .int .i64 n11, .int .i64 n12, .int .i64 n13, .int .i64 n14, .int .i64 n15, .int .i64 n16, .int .i64 n17] 48) = W6
      have H6 : Hid (Out B W6 u3 R ∧ Ex B w W6 ∧ B ≤ W6.heap.size ∧ W6.heap[G]? = some (.cells #[.int .i64 n0, .int .i64 n1, .int .i64 n2, .int .i64 n3, .slice a4 m4 p4, .int .i64 n5, .slice a6 m6 p6, .slice a7 m7 p7, .slice a8 m8 p8, .slice a9 m9 p9, .int .i64 n10, .int .i64 n11, .int .i64 n12, .int .i64 n13, .int .i64 n14, .int .i64 n15, .int .i64 n16, .int .i64 n17] 50 (0, 0)) ∧ W6.heap[W5.heap.size]? = some (.cells #[.int .i64 n10, .int .i64 n11, .int .i64 n12, .int .i64 n13, .int .i64 n14, .int .i64 n15, .int .i64 n16, .int .i64 n17] 48 (0, 0))) := by
        subst hW6
        exact ⟨H5.out.1.alloc _, H5.out.2.1.alloc H5.out.2.2.1 _, by have := H5.out.2.2.1; simp; omega, grown_blk (World.grownBy_alloc _ _ _) H5.out.2.2.2, heap_alloc_new W5 _⟩
      clear hW6 H5
      generalize W5.heap.size = V at H6 ⊢
      have c0 : W6.cell? ⟨G, 0, none⟩ = some (.int .i64 n0) := (cell_of_row W6 _ _ _ _ _ (H6.out.2.2.2.1)).trans rfl
      have c1 : W6.cell? ⟨G, 1, none⟩ = some (.int .i64 n1) := (cell_of_row W6 _ _ _ _ _ (H6.out.2.2.2.1)).trans rfl
      have c9 : W6.cell? ⟨G, 9, none⟩ = some (.slice a9 m9 p9) := (cell_of_row W6 _ _ _ _ _ (H6.out.2.2.2.1)).trans rfl
      have e0 : W6.cell? ⟨V, 0, none⟩ = some (.int .i64 n10) := (cell_of_row W6 _ _ _ _ _ (H6.out.2.2.2.2)).trans rfl
      have e1 : W6.cell? ⟨V, 1, none⟩ = some (.int .i64 n11) := (cell_of_row W6 _ _ _ _ _ (H6.out.2.2.2.2)).trans rfl
      have e2 : W6.cell? ⟨V, 2, none⟩ = some (.int .i64 n12) := (cell_of_row W6 _ _ _ _ _ (H6.out.2.2.2.2)).trans rfl
      have e3 : W6.cell? ⟨V, 3, none⟩ = some (.int .i64 n13) := (cell_of_row W6 _ _ _ _ _ (H6.out.2.2.2.2)).trans rfl
      have e4 : W6.cell? ⟨V, 4, none⟩ = some (.int .i64 n14) := (cell_of_row W6 _ _ _ _ _ (H6.out.2.2.2.2)).trans rfl
      have e5 : W6.cell? ⟨V, 5, none⟩ = some (.int .i64 n15) := (cell_of_row W6 _ _ _ _ _ (H6.out.2.2.2.2)).trans rfl
      have e6 : W6.cell? ⟨V, 6, none⟩ = some (.int .i64 n16) := (cell_of_row W6 _ _ _ _ _ (H6.out.2.2.2.2)).trans rfl
      have e7 : W6.cell? ⟨V, 7, none⟩ = some (.int .i64 n17) := (cell_of_row W6 _ _ _ _ _ (H6.out.2.2.2.2)).trans rfl
      go_wp2_with fail
      refine (l7Join_out (B := B) (zs := R) (H6.out.1.alloc _) 32 (by decide) W6.heap.size [n0, n1, n10, n11, n12, n13, n14, n15, n16, n17, (m9 : Int)] (heap_alloc_new W6 _) (i64s11 HJ.out.1 HJ.out.2.1 HJ.out.2.2.2.2.2.1 HJ.out.2.2.2.2.2.2.1 HJ.out.2.2.2.2.2.2.2.1 HJ.out.2.2.2.2.2.2.2.2.1 HJ.out.2.2.2.2.2.2.2.2.2.1 HJ.out.2.2.2.2.2.2.2.2.2.2.1 HJ.out.2.2.2.2.2.2.2.2.2.2.2.1 HJ.out.2.2.2.2.2.2.2.2.2.2.2.2 (i64sN m9 s9)) (by simp) (by have := H6.out.2.2.1; simp; omega) (by have := H0.out.2.2.2; omega)).mono ?_
      rintro e w7 ⟨v7, rfl, hO7, hE7⟩
      obtain ⟨Z, hZ⟩ : ∃ Z, Z = R ++ joinB 32 [n0, n1, n10, n11, n12, n13, n14, n15, n16, n17, (m9 : Int)] := ⟨_, rfl⟩
      have H7 : Hid (Out B w7 v7 Z ∧ Ex B w w7 ∧ B ≤ w7.heap.size ∧ Z.length ≤ 2147483648 + 242 ∧ w7.heap[G]? = some (.cells #[.int .i64 n0, .int .i64 n1, .int .i64 n2, .int .i64 n3, .slice a4 m4 p4, .int .i64 n5, .slice a6 m6 p6, .slice a7 m7 p7, .slice a8 m8 p8, .slice a9 m9 p9, .int .i64 n10, .int .i64 n11, .int .i64 n12, .int .i64 n13, .int .i64 n14, .int .i64 n15, .int .i64 n16, .int .i64 n17] 50 (0, 0))) := by
        have hx : Ex B w (W6.alloc (.cells #[.int .i64 n0, .int .i64 n1, .int .i64 n10, .int .i64 n11, .int .i64 n12, .int .i64 n13, .int .i64 n14, .int .i64 n15, .int .i64 n16, .int .i64 n17, .int .i64 (m9 : Int)] 3)) := H6.out.2.1.alloc H6.out.2.2.1 _
        refine ⟨by rw [hZ]; exact hO7, hx.trans hE7, (hx.trans hE7).size HO.out.2.2, ?_, hE7.blk (grown_blk (World.grownBy_alloc _ _ _) H6.out.2.2.2.1) (by decide)⟩
        have h5 := joinB_len (mark := 32) (i64s11 HJ.out.1 HJ.out.2.1 HJ.out.2.2.2.2.2.1 HJ.out.2.2.2.2.2.2.1 HJ.out.2.2.2.2.2.2.2.1 HJ.out.2.2.2.2.2.2.2.2.1 HJ.out.2.2.2.2.2.2.2.2.2.1 HJ.out.2.2.2.2.2.2.2.2.2.2.1 HJ.out.2.2.2.2.2.2.2.2.2.2.2.1 HJ.out.2.2.2.2.2.2.2.2.2.2.2.2 (i64sN m9 s9))
        have h6 := H0.out.2.2.2
        rw [hZ, List.length_append]
        simp only [List.length_cons, List.length_nil] at h5
        omega
      have HZ : Hid (Z = R ++ decI n0 ++ numB 32 [n1, n10, n11, n12, n13, n14, n15, n16, n17, (m9 : Int)]) := by
        show _ = _
        rw [hZ, joinB_cons, List.append_assoc]
      clear hO7 hE7 hZ H6 c0 c1 c9 e0 e1 e2 e3 e4 e5 e6 e7
      have c8 : w7.cell? ⟨G, 8, none⟩ = some (.slice a8 m8 p8) := (cell_of_row w7 _ _ _ _ _ (H7.out.2.2.2.2)).trans rfl
      go_wp2
      clear c8
      go_loopw [3, 58] (fun v i wr => ∃ j : Nat, j ≤ m8 ∧ i = .int .i64 (j : Int) ∧ Out B wr v (Z ++ (tellR (L8.take j)).flatMap ackD) ∧ Ex B w7 wr) (fun _ i _ => m8 - (intOf i).toNat)
      case atStart => exact ⟨0, Nat.zero_le _, rfl, by simpa using H7.out.1, Ex.refl _ _⟩
      case round =>
        obtain ⟨j, hj, rfl, hOr, hE⟩ := hrel
        have HR : Hid (Out B wr u3 (Z ++ (tellR (L8.take j)).flatMap ackD) ∧ Ex B w7 wr ∧ B ≤ wr.heap.size) := ⟨hOr, hE, hE.size H7.out.2.2.1⟩
        clear hOr hE
        have hlen : Hid ((Z ++ (tellR (L8.take j)).flatMap ackD).length ≤ 2147483648 + 242 + 112 * 1048576) := by
          have h1 := acks_len (tellR (L8.take j)) (fun x hx => HL8.out.1.ok.nu x (by rw [tellR, List.map_take] at hx; exact List.mem_of_mem_take hx))
          have h2 := totTo_le L8 j
          have h3 := HL8.out.2
          have h4 := H7.out.2.2.2.1
          show _ ≤ _
          rw [List.length_append]
          unfold totTo at h2
          rw [List.length_map, List.length_take] at h1
          omega
        by_cases hjl : j < m8
        · obtain ⟨e, he⟩ : ∃ e, L8[j]? = some e := ⟨_, List.getElem?_eq_getElem (by rw [HM8.out]; exact hjl)⟩
          obtain ⟨hf, hrd, b8, o8, hab, hc⟩ := HL8.out.1 wr (H7.out.2.1.trans HR.out.2.1).below j e he
          obtain ⟨x0, x1, x2, x3, x4, rfl⟩ := fitAck hf
          subst hab
          have q0 : wr.cell? ⟨b8, o8 + j * 5, none⟩ = some (.int .i64 x0) := hc 0 _ rfl
          have q1 : wr.cell? ⟨b8, o8 + j * 5 + 1, none⟩ = some (.int .i64 x1) := hc 1 _ rfl
          have q2 : wr.cell? ⟨b8, o8 + j * 5 + 2, none⟩ = some (.int .i64 x2) := hc 2 _ rfl
          have q3 : wr.cell? ⟨b8, o8 + j * 5 + 3, none⟩ = some (.int .i64 x3) := hc 3 _ rfl
          have q4 : wr.cell? ⟨b8, o8 + j * 5 + 4, none⟩ = some (.int .i64 x4) := hc 4 _ rfl
          have HA : Hid (L8[j]? = some [.int x0, .int x1, .int x2, .int x3, .int x4] ∧ ∀ y ∈ [x0, x1, x2, x3, x4], I64 y) := ⟨he, i64s5 (hrd (.int x0) (by simp)).isInt (hrd (.int x1) (by simp)).isInt (hrd (.int x2) (by simp)).isInt (hrd (.int x3) (by simp)).isInt (hrd (.int x4) (by simp)).isInt⟩
          clear hc hf hrd he
          have hjI : (j : Int) < (m8 : Int) := by omega
          go_upto_region 11 with fail
          generalize hY : wr.alloc (.cells #[.int .i64 x0, .int .i64 x1, .int .i64 x2, .int .i64 x3, .int .i64 x4] 53) = Y
          have HX : Hid (Ex B w Y ∧ B ≤ Y.heap.size ∧ Out B Y u3 (Z ++ (tellR (L8.take j)).flatMap ackD) ∧ Y.heap[wr.heap.size]? = some (.cells #[.int .i64 x0, .int .i64 x1, .int .i64 x2, .int .i64 x3, .int .i64 x4] 53 (0, 0))) := by
            subst hY
            exact ⟨(H7.out.2.1.trans HR.out.2.1).alloc HR.out.2.2 _, by have := HR.out.2.2; simp; omega, HR.out.1.alloc _, heap_alloc_new wr _⟩
          have HY : Hid (Ex B w7 Y) := by
            subst hY
            exact HR.out.2.1.alloc HR.out.2.2 _
          clear hY q0 q1 q2 q3 q4
          refine wp_region_Z (fun W => W.heap[wr.heap.size]? = some (.cells #[.int .i64 x0, .int .i64 x1, .int .i64 x2, .int .i64 x3, .int .i64 x4] 53 (0, 0))) (fun _ => false) (by kernel_rfl) ?_
          have hS : Y.drew.heap[wr.heap.size]? = some (.cells #[.int .i64 x0, .int .i64 x1, .int .i64 x2, .int .i64 x3, .int .i64 x4] 53 (0, 0)) := HX.out.2.2.2
          refine wpAnyZ_take' (i := 0) (v := ?vz1) rfl (by kernel_rfl) (by kernel_rfl) (by kernel_rfl) (fun _ _ _ h => h) (Or.inl ⟨by rfl, ?yz1⟩) ?rz1
          case yz1 => (intro w _; go_simp; first | done | with_reducible rfl)
          simp only [Act.put, List.setIfInBounds_toArray, List.set_cons_zero, List.set_cons_succ]
          refine wpAnyZ_take' (i := 2) (v := ?vz2) rfl (by kernel_rfl) (by kernel_rfl) (by kernel_rfl) (fun _ _ _ h => h) (Or.inl ⟨by rfl, ?yz2⟩) ?rz2
          case yz2 => (intro w _; go_simp; first | done | with_reducible rfl)
          simp only [Act.put, List.setIfInBounds_toArray, List.set_cons_zero, List.set_cons_succ]
          refine wpAnyZ_loadS (i := 3) (v := ?vz3) rfl (by kernel_rfl) (by kernel_rfl) (by kernel_rfl) (fun _ _ _ h => h) (fun _ => rfl) (Or.inl ⟨by rfl, ?yz3⟩) hS ?rz3
          case yz3 => (intro W hW; have c0 : W.cell? ⟨wr.heap.size, 0, none⟩ = some (.int .i64 x0) := (cell_of_row W _ _ _ _ _ hW).trans rfl; go_simp; first | done | with_reducible rfl)
          simp only [Act.put, List.setIfInBounds_toArray, List.set_cons_zero, List.set_cons_succ]
          refine wpAnyZ_take' (i := 4) (v := ?vz4) rfl (by kernel_rfl) (by kernel_rfl) (by kernel_rfl) (fun _ _ _ h => h) (Or.inl ⟨by rfl, ?yz4⟩) ?rz4
          case yz4 => (intro w _; go_simp; first | done | with_reducible rfl)
          simp only [Act.put, List.setIfInBounds_toArray, List.set_cons_zero, List.set_cons_succ]
          refine wpAnyZ_loadS (i := 5) (v := ?vz5) rfl (by kernel_rfl) (by kernel_rfl) (by kernel_rfl) (fun _ _ _ h => h) (fun _ => rfl) (Or.inl ⟨by rfl, ?yz5⟩) hS ?rz5
          case yz5 => (intro W hW; have c0 : W.cell? ⟨wr.heap.size, 1, none⟩ = some (.int .i64 x1) := (cell_of_row W _ _ _ _ _ hW).trans rfl; go_simp; first | done | with_reducible rfl)
          simp only [Act.put, List.setIfInBounds_toArray, List.set_cons_zero, List.set_cons_succ]
          refine wpAnyZ_take' (i := 6) (v := ?vz6) rfl (by kernel_rfl) (by kernel_rfl) (by kernel_rfl) (fun _ _ _ h => h) (Or.inl ⟨by rfl, ?yz6⟩) ?rz6
          case yz6 => (intro w _; go_simp; first | done | with_reducible rfl)
          simp only [Act.put, List.setIfInBounds_toArray, List.set_cons_zero, List.set_cons_succ]
          refine wpAnyZ_loadS (i := 7) (v := ?vz7) rfl (by kernel_rfl) (by kernel_rfl) (by kernel_rfl) (fun _ _ _ h => h) (fun _ => rfl) (Or.inl ⟨by rfl, ?yz7⟩) hS ?rz7
          case yz7 => (intro W hW; have c0 : W.cell? ⟨wr.heap.size, 2, none⟩ = some (.int .i64 x2) := (cell_of_row W _ _ _ _ _ hW).trans rfl; go_simp; first | done | with_reducible rfl)
          simp only [Act.put, List.setIfInBounds_toArray, List.set_cons_zero, List.set_cons_succ]
          refine wpAnyZ_take' (i := 8) (v := ?vz8) rfl (by kernel_rfl) (by kernel_rfl) (by kernel_rfl) (fun _ _ _ h => h) (Or.inl ⟨by rfl, ?yz8⟩) ?rz8
          case yz8 => (intro w _; go_simp; first | done | with_reducible rfl)
          simp only [Act.put, List.setIfInBounds_toArray, List.set_cons_zero, List.set_cons_succ]
          refine wpAnyZ_loadS (i := 9) (v := ?vz9) rfl (by kernel_rfl) (by kernel_rfl) (by kernel_rfl) (fun _ _ _ h => h) (fun _ => rfl) (Or.inl ⟨by rfl, ?yz9⟩) hS ?rz9
          case yz9 => (intro W hW; have c0 : W.cell? ⟨wr.heap.size, 3, none⟩ = some (.int .i64 x3) := (cell_of_row W _ _ _ _ _ hW).trans rfl; go_simp; first | done | with_reducible rfl)
          simp only [Act.put, List.setIfInBounds_toArray, List.set_cons_zero, List.set_cons_succ]
          refine wpAnyZ_take' (i := 10) (v := ?vz10) rfl (by kernel_rfl) (by kernel_rfl) (by kernel_rfl) (fun _ _ _ h => h) (Or.inl ⟨by rfl, ?yz10⟩) ?rz10
          case yz10 => (intro w _; go_simp; first | done | with_reducible rfl)
          simp only [Act.put, List.setIfInBounds_toArray, List.set_cons_zero, List.set_cons_succ]
          refine wpAnyZ_loadS (i := 11) (v := ?vz11) rfl (by kernel_rfl) (by kernel_rfl) (by kernel_rfl) (fun _ _ _ h => h) (fun _ => rfl) (Or.inl ⟨by rfl, ?yz11⟩) hS ?rz11
          case yz11 => (intro W hW; have c0 : W.cell? ⟨wr.heap.size, 4, none⟩ = some (.int .i64 x4) := (cell_of_row W _ _ _ _ _ hW).trans rfl; go_simp; first | done | with_reducible rfl)
          simp only [Act.put, List.setIfInBounds_toArray, List.set_cons_zero, List.set_cons_succ]
          refine wpAnyZ_two' (i := 1) (k := 12) (by kernel_rfl) rfl rfl (fun K hK => ?_) (fun K hK => ?_)
          · (refine step_out_s (by rfl) (.tmp 62) _ (by rfl) (B := B) (zs := Z ++ (tellR (L8.take j)).flatMap ackD) (by rfl) (by exact HX.out.2.2.1.heap rfl) [32, 97, 58] (by rfl) (by rfl) (by decide) (by have := hlen.out; simp at this ⊢; omega) (by exact HX.out.2.1) ?_; intro v1 w1 H1)
            refine hK.out _ _ (fun _ h => H1.out.2.blk h (by decide)) ?_
            clear hK K
            simp only [Act.put, List.setIfInBounds_toArray, List.set_cons_zero, List.set_cons_succ]
            have H2 : Hid (Ex B Y w1 ∧ B ≤ w1.heap.size) := ⟨((Ex.refl B Y).same (x := Y.drew) ⟨rfl, rfl, rfl, rfl⟩).trans H1.out.2, H1.out.2.size (by exact HX.out.2.1)⟩
            refine wpAnyZ_one' (i := 12) (by kernel_rfl) rfl (fun K hK => ?_)
            go_simp
            refine hK.out _ _ (fun _ h => grown_blk (World.grownBy_alloc _ _ _) h) ?_
            clear hK K
            try simp only [Act.put, List.setIfInBounds_toArray, List.set_cons_zero, List.set_cons_succ]
            have H3 : Hid (Ex B Y (w1.alloc (.cells #[.int .i64 x0, .int .i64 x1, .int .i64 x2, .int .i64 x3, .int .i64 x4] 3))) := H2.out.1.alloc H2.out.2 _
            refine wpAnyZ_one' (i := 13) (by kernel_rfl) rfl (fun K hK => ?_)
            go_simp
            go_at_call 15
            refine (l7Join_out (B := B) (zs := Z ++ (tellR (L8.take j)).flatMap ackD ++ [32, 97, 58]) (H1.out.1.alloc _) 58 (by decide) w1.heap.size [x0, x1, x2, x3, x4] (heap_alloc_new w1 _) HA.out.2 (by simp) (by have := H2.out.2; simp; omega) (by have := hlen.out; rw [List.length_append]; simp at this ⊢; omega)).mono ?_
            rintro e w3 ⟨v3, rfl, hO3, hE3⟩
            have H4 : Hid (Out B w3 v3 (Z ++ (tellR (L8.take j)).flatMap ackD ++ [32, 97, 58] ++ joinB 58 [x0, x1, x2, x3, x4]) ∧ Ex B Y w3) := ⟨hO3, H3.out.trans hE3⟩
            go_wp2_with fail
            refine hK.out _ _ (fun _ h => hE3.blk h (by decide)) ?_
            clear hK K
            try simp only [Act.put, List.setIfInBounds_toArray, List.set_cons_zero, List.set_cons_succ]
            refine wpAnyZ_one' (i := 14) (by kernel_rfl) rfl (fun K hK => ?_)
            go_simp
            refine hK.out _ _ (fun _ h => h) ?_
            clear hK K
            try simp only [Act.put, List.setIfInBounds_toArray, List.set_cons_zero, List.set_cons_succ]
            refine wpAnyZ_done (by kernel_rfl) ?_ _
            have H9 : Hid (Out B w3 v3 (Z ++ (tellR (L8.take (j + 1))).flatMap ackD) ∧ Ex B w7 w3) := by
              refine ⟨?_, HY.out.trans H4.out.2⟩
              rw [flat_snoc _ HA.out.1, ← List.append_assoc]
              have h9 := H4.out.1
              rw [show ([32, 97, 58] : List Nat) = [32, 97] ++ [58] from rfl, join58] at h9
              exact (List.append_assoc _ _ _) ▸ h9
            go_wp2
            go_roundw
            case rel => exact ⟨j + 1, by omega, by go_num, H9.out.1, H9.out.2⟩
            case measure => simp [intOf]; omega
          · go_simp
            refine hK.out _ _ (fun _ h => grown_blk (World.grownBy_alloc _ _ _) h) ?_
            clear hK K
            try simp only [Act.put, List.setIfInBounds_toArray, List.set_cons_zero, List.set_cons_succ]
            have H2 : Hid (Ex B Y (Y.drew.alloc (.cells #[.int .i64 x0, .int .i64 x1, .int .i64 x2, .int .i64 x3, .int .i64 x4] 3)) ∧ B ≤ (Y.drew.alloc (.cells #[.int .i64 x0, .int .i64 x1, .int .i64 x2, .int .i64 x3, .int .i64 x4] 3)).heap.size) := ⟨((Ex.refl B Y).same (x := Y.drew) ⟨rfl, rfl, rfl, rfl⟩).alloc (by exact HX.out.2.1) _, by have := HX.out.2.1; simp; omega⟩
            refine wpAnyZ_one' (i := 1) (by kernel_rfl) rfl (fun K hK => ?_)
            (refine step_out_s (by rfl) (.tmp 62) _ (by rfl) (B := B) (zs := Z ++ (tellR (L8.take j)).flatMap ackD) (by rfl) (by exact (HX.out.2.2.1.heap (x := Y.drew) rfl).alloc _) [32, 97, 58] (by rfl) (by rfl) (by decide) (by have := hlen.out; simp at this ⊢; omega) (by exact H2.out.2) ?_; intro v1 w1 H1)
            refine hK.out _ _ (fun _ h => H1.out.2.blk h (by decide)) ?_
            clear hK K
            simp only [Act.put, List.setIfInBounds_toArray, List.set_cons_zero, List.set_cons_succ]
            have H3 : Hid (Ex B Y w1) := H2.out.1.trans H1.out.2
            refine wpAnyZ_one' (i := 13) (by kernel_rfl) rfl (fun K hK => ?_)
            go_simp
            go_at_call 15
            refine (l7Join_out (B := B) (zs := Z ++ (tellR (L8.take j)).flatMap ackD ++ [32, 97, 58]) H1.out.1 58 (by decide) Y.heap.size [x0, x1, x2, x3, x4] (H1.out.2.blk (heap_alloc_new Y.drew _) (by decide)) HA.out.2 (by simp) (H3.out.size HX.out.2.1) (by have := hlen.out; rw [List.length_append]; simp at this ⊢; omega)).mono ?_
            rintro e w3 ⟨v3, rfl, hO3, hE3⟩
            have H4 : Hid (Out B w3 v3 (Z ++ (tellR (L8.take j)).flatMap ackD ++ [32, 97, 58] ++ joinB 58 [x0, x1, x2, x3, x4]) ∧ Ex B Y w3) := ⟨hO3, H3.out.trans hE3⟩
            go_wp2_with fail
            refine hK.out _ _ (fun _ h => hE3.blk h (by decide)) ?_
            clear hK K
            try simp only [Act.put, List.setIfInBounds_toArray, List.set_cons_zero, List.set_cons_succ]
            refine wpAnyZ_one' (i := 14) (by kernel_rfl) rfl (fun K hK => ?_)
            go_simp
            refine hK.out _ _ (fun _ h => h) ?_
            clear hK K
            try simp only [Act.put, List.setIfInBounds_toArray, List.set_cons_zero, List.set_cons_succ]
            refine wpAnyZ_done (by kernel_rfl) ?_ _
            have H9 : Hid (Out B w3 v3 (Z ++ (tellR (L8.take (j + 1))).flatMap ackD) ∧ Ex B w7 w3) := by
              refine ⟨?_, HY.out.trans H4.out.2⟩
              rw [flat_snoc _ HA.out.1, ← List.append_assoc]
              have h9 := H4.out.1
              rw [show ([32, 97, 58] : List Nat) = [32, 97] ++ [58] from rfl, join58] at h9
              exact (List.append_assoc _ _ _) ▸ h9
            go_wp2
            go_roundw
            case rel => exact ⟨j + 1, by omega, by go_num, H9.out.1, H9.out.2⟩
            case measure => simp [intOf]; omega
        · obtain rfl : m8 = j := by omega
          obtain ⟨Z2, hZ2⟩ : ∃ Z2, Z2 = Z ++ (tellR L8).flatMap ackD := ⟨_, rfl⟩
          have H8 : Hid (Out B wr u3 Z2 ∧ Ex B w wr ∧ B ≤ wr.heap.size ∧ Z2.length ≤ 2147483648 + 242 + 112 * 1048576 ∧ wr.heap[G]? = some (.cells #[.int .i64 n0, .int .i64 n1, .int .i64 n2, .int .i64 n3, .slice a4 m4 p4, .int .i64 n5, .slice a6 m6 p6, .slice a7 m7 p7, .slice a8 m8 p8, .slice a9 m9 p9, .int .i64 n10, .int .i64 n11, .int .i64 n12, .int .i64 n13, .int .i64 n14, .int .i64 n15, .int .i64 n16, .int .i64 n17] 50 (0, 0))) := by
            have h1 := HR.out.1
            have h2 := hlen.out
            rw [← HM8.out, List.take_length] at h1 h2
            rw [← hZ2] at h1 h2
            exact ⟨h1, H7.out.2.1.trans HR.out.2.1, HR.out.2.2, h2, HR.out.2.1.blk H7.out.2.2.2.2 (by decide)⟩
          have HZ2 : Hid (Z2 = R ++ decI n0 ++ numB 32 [n1, n10, n11, n12, n13, n14, n15, n16, n17, (m9 : Int)] ++ (tellR L8).flatMap ackD) := by
            show _ = _
            rw [hZ2, HZ.out]
          clear hZ2 HR hlen H7 HZ H0
          go_upto_region 13 with fail
          obtain ⟨tb, HQ⟩ : ∃ tb : Bool, Hid ((¬ (n2 = 0 ∧ n3 = 0 ∧ m4 = 0) → tb = true) ∧ ((n2 = 0 ∧ n3 = 0 ∧ m4 = 0) → tb = false)) := ⟨!decide (n2 = 0 ∧ n3 = 0 ∧ m4 = 0), fun h => by simp [h], fun h => by simp [h]⟩
          generalize wr = Y1 at H8 ⊢
          go_cut [93] (fun t wx => t = .bool tb ∧ wx = Y1)
          case first =>
            have c2 : Y1.cell? ⟨G, 2, none⟩ = some (.int .i64 n2) := (cell_of_row Y1 _ _ _ _ _ (H8.out.2.2.2.2)).trans rfl
            have c3 : Y1.cell? ⟨G, 3, none⟩ = some (.int .i64 n3) := (cell_of_row Y1 _ _ _ _ _ (H8.out.2.2.2.2)).trans rfl
            have c4 : Y1.cell? ⟨G, 4, none⟩ = some (.slice a4 m4 p4) := (cell_of_row Y1 _ _ _ _ _ (H8.out.2.2.2.2)).trans rfl
            by_cases h1 : n2 = 0
            · subst h1
              by_cases h2 : n3 = 0
              · subst h2
                by_cases h3 : m4 = 0
                · subst h3
                  obtain rfl := HQ.out.2 ⟨rfl, rfl, rfl⟩
                  go_wp2_with fail
                  go_meet
                  case rel => exact ⟨rfl, rfl⟩
                · have h3b : decide ((0 : Int) < (m4 : Int)) = true := by simp; omega
                  have h3c : (0 : Int) < (m4 : Int) := by omega
                  obtain rfl := HQ.out.1 (fun h => h3 h.2.2)
                  go_wp2_with fail
                  go_meet
                  case rel => exact ⟨congrArg Value.bool (decide_eq_true (Nat.pos_of_ne_zero h3)), rfl⟩
              · have h2b : (n3 != 0) = true := by simpa using h2
                obtain rfl := HQ.out.1 (fun h => h2 h.2.1)
                go_wp2_with fail
                go_meet
                case rel => exact ⟨rfl, rfl⟩
            · have h1b : (n2 != 0) = true := by simpa using h1
              obtain rfl := HQ.out.1 (fun h => h1 h.1)
              go_wp2_with fail
              go_meet
              case rel => exact ⟨rfl, rfl⟩
          case rest =>
            obtain ⟨rfl, h9⟩ := hcut
            have h9 := h9.symm
            subst h9
            go_upto_if 93 with fail
            go_cut [3] (fun v wx => Out B wx v (Z2 ++ itemO n2 n3 d4) ∧ Ex B Y1 wx)
            case first =>
              by_cases hz : n2 = 0 ∧ n3 = 0 ∧ m4 = 0
              · obtain rfl := HQ.out.2 hz
                have HZ3 : Hid (itemO n2 n3 d4 = []) := by
                  show _ = _
                  rw [itemO, if_pos ⟨hz.1, hz.2.1, List.length_eq_zero_iff.1 (by rw [HM.out]; exact hz.2.2)⟩]
                clear hz
                go_wp2_with fail
                go_meet
                case rel => exact ⟨by rw [HZ3.out, List.append_nil]; exact H8.out.1, Ex.refl _ _⟩
              · obtain rfl := HQ.out.1 hz
                have HZ3 : Hid (itemO n2 n3 d4 = itemT [32, 105] n2 n3 d4) := by
                  show _ = _
                  rw [itemO, if_neg]
                  rintro ⟨h1, h2, h3⟩
                  exact hz ⟨h1, h2, by rw [← HM.out, h3]; rfl⟩
                clear hz
                have HX : Hid (Ex B w Y1 ∧ B ≤ Y1.heap.size ∧ Out B Y1 u3 Z2 ∧ Y1.heap[G]? = some (.cells #[.int .i64 n0, .int .i64 n1, .int .i64 n2, .int .i64 n3, .slice a4 m4 p4, .int .i64 n5, .slice a6 m6 p6, .slice a7 m7 p7, .slice a8 m8 p8, .slice a9 m9 p9, .int .i64 n10, .int .i64 n11, .int .i64 n12, .int .i64 n13, .int .i64 n14, .int .i64 n15, .int .i64 n16, .int .i64 n17] 50 (0, 0))) := ⟨H8.out.2.1, H8.out.2.2.1, H8.out.1, H8.out.2.2.2.2⟩
                go_upto_region 14 with fail
                go_cut [3] (fun v wx => Out B wx v (Z2 ++ [32, 105, 58] ++ joinB 58 [n2, n3]) ∧ Ex B Y1 wx)
                case first =>
                  as_aux_lemma =>
                    refine wp_region_Z (fun W => W.heap[G]? = some (.cells #[.int .i64 n0, .int .i64 n1, .int .i64 n2, .int .i64 n3, .slice a4 m4 p4, .int .i64 n5, .slice a6 m6 p6, .slice a7 m7 p7, .slice a8 m8 p8, .slice a9 m9 p9, .int .i64 n10, .int .i64 n11, .int .i64 n12, .int .i64 n13, .int .i64 n14, .int .i64 n15, .int .i64 n16, .int .i64 n17] 50 (0, 0))) (fun _ => false) (by kernel_rfl) ?_
                    have hS : Y1.drew.heap[G]? = some (.cells #[.int .i64 n0, .int .i64 n1, .int .i64 n2, .int .i64 n3, .slice a4 m4 p4, .int .i64 n5, .slice a6 m6 p6, .slice a7 m7 p7, .slice a8 m8 p8, .slice a9 m9 p9, .int .i64 n10, .int .i64 n11, .int .i64 n12, .int .i64 n13, .int .i64 n14, .int .i64 n15, .int .i64 n16, .int .i64 n17] 50 (0, 0)) := HX.out.2.2.2
                    refine wpAnyZ_take' (i := 0) (v := ?vz12) rfl (by kernel_rfl) (by kernel_rfl) (by kernel_rfl) (fun _ _ _ h => h) (Or.inl ⟨by rfl, ?yz12⟩) ?rz12
                    case yz12 => (intro w _; go_simp; first | done | with_reducible rfl)
                    simp only [Act.put, List.setIfInBounds_toArray, List.set_cons_zero, List.set_cons_succ]
                    refine wpAnyZ_take' (i := 2) (v := ?vz13) rfl (by kernel_rfl) (by kernel_rfl) (by kernel_rfl) (fun _ _ _ h => h) (Or.inl ⟨by rfl, ?yz13⟩) ?rz13
                    case yz13 => (intro w _; go_simp; first | done | with_reducible rfl)
                    simp only [Act.put, List.setIfInBounds_toArray, List.set_cons_zero, List.set_cons_succ]
                    refine wpAnyZ_take' (i := 3) (v := ?vz14) rfl (by kernel_rfl) (by kernel_rfl) (by kernel_rfl) (fun _ _ _ h => h) (Or.inl ⟨by rfl, ?yz14⟩) ?rz14
                    case yz14 => (intro w _; go_simp; first | done | with_reducible rfl)
                    simp only [Act.put, List.setIfInBounds_toArray, List.set_cons_zero, List.set_cons_succ]
                    refine wpAnyZ_loadS (i := 4) (v := ?vz15) rfl (by kernel_rfl) (by kernel_rfl) (by kernel_rfl) (fun _ _ _ h => h) (fun _ => rfl) (Or.inl ⟨by rfl, ?yz15⟩) hS ?rz15
                    case yz15 => (intro W hW; have c0 : W.cell? ⟨G, 2, none⟩ = some (.int .i64 n2) := (cell_of_row W _ _ _ _ _ hW).trans rfl; go_simp; first | done | with_reducible rfl)
                    simp only [Act.put, List.setIfInBounds_toArray, List.set_cons_zero, List.set_cons_succ]
                    refine wpAnyZ_take' (i := 5) (v := ?vz16) rfl (by kernel_rfl) (by kernel_rfl) (by kernel_rfl) (fun _ _ _ h => h) (Or.inl ⟨by rfl, ?yz16⟩) ?rz16
                    case yz16 => (intro w _; go_simp; first | done | with_reducible rfl)
                    simp only [Act.put, List.setIfInBounds_toArray, List.set_cons_zero, List.set_cons_succ]
                    refine wpAnyZ_take' (i := 6) (v := ?vz17) rfl (by kernel_rfl) (by kernel_rfl) (by kernel_rfl) (fun _ _ _ h => h) (Or.inl ⟨by rfl, ?yz17⟩) ?rz17
                    case yz17 => (intro w _; go_simp; first | done | with_reducible rfl)
                    simp only [Act.put, List.setIfInBounds_toArray, List.set_cons_zero, List.set_cons_succ]
                    refine wpAnyZ_loadS (i := 7) (v := ?vz18) rfl (by kernel_rfl) (by kernel_rfl) (by kernel_rfl) (fun _ _ _ h => h) (fun _ => rfl) (Or.inl ⟨by rfl, ?yz18⟩) hS ?rz18
                    case yz18 => (intro W hW; have c0 : W.cell? ⟨G, 3, none⟩ = some (.int .i64 n3) := (cell_of_row W _ _ _ _ _ hW).trans rfl; go_simp; first | done | with_reducible rfl)
                    simp only [Act.put, List.setIfInBounds_toArray, List.set_cons_zero, List.set_cons_succ]
                    refine wpAnyZ_two' (i := 1) (k := 8) (by kernel_rfl) rfl rfl (fun K hK => ?_) (fun K hK => ?_)
                    · (refine step_out_s (by rfl) (.tmp 94) _ (by rfl) (B := B) (zs := Z2) (by rfl) (by exact HX.out.2.2.1.heap rfl) [32, 105, 58] (by rfl) (by rfl) (by decide) (by have := H8.out.2.2.2.1; simp; omega) (by exact HX.out.2.1) ?_; intro v1 w1 H1)
                      refine hK.out _ _ (fun _ h => H1.out.2.blk h (by decide)) ?_
                      clear hK K
                      simp only [Act.put, List.setIfInBounds_toArray, List.set_cons_zero, List.set_cons_succ]
                      have H2 : Hid (Ex B Y1 w1 ∧ B ≤ w1.heap.size) := ⟨((Ex.refl B Y1).same (x := Y1.drew) ⟨rfl, rfl, rfl, rfl⟩).trans H1.out.2, H1.out.2.size (by exact HX.out.2.1)⟩
                      refine wpAnyZ_one' (i := 8) (by kernel_rfl) rfl (fun K hK => ?_)
                      go_simp
                      refine hK.out _ _ (fun _ h => grown_blk (World.grownBy_alloc _ _ _) h) ?_
                      clear hK K
                      try simp only [Act.put, List.setIfInBounds_toArray, List.set_cons_zero, List.set_cons_succ]
                      have H3 : Hid (Ex B Y1 (w1.alloc (.cells #[.int .i64 n2, .int .i64 n3] 3))) := H2.out.1.alloc H2.out.2 _
                      refine wpAnyZ_one' (i := 9) (by kernel_rfl) rfl (fun K hK => ?_)
                      go_simp
                      go_at_call 15
                      refine (l7Join_out (B := B) (zs := Z2 ++ [32, 105, 58]) (H1.out.1.alloc _) 58 (by decide) w1.heap.size [n2, n3] (heap_alloc_new w1 _) (i64s2 HJ.out.2.2.1 HJ.out.2.2.2.1) (by simp) (by have := H2.out.2; simp; omega) (by have := H8.out.2.2.2.1; rw [List.length_append]; simp; omega)).mono ?_
                      rintro e w3 ⟨v3, rfl, hO3, hE3⟩
                      have H4 : Hid (Out B w3 v3 (Z2 ++ [32, 105, 58] ++ joinB 58 [n2, n3]) ∧ Ex B Y1 w3) := ⟨hO3, H3.out.trans hE3⟩
                      go_wp2_with fail
                      refine hK.out _ _ (fun _ h => hE3.blk h (by decide)) ?_
                      clear hK K
                      try simp only [Act.put, List.setIfInBounds_toArray, List.set_cons_zero, List.set_cons_succ]
                      refine wpAnyZ_one' (i := 10) (by kernel_rfl) rfl (fun K hK => ?_)
                      go_simp
                      refine hK.out _ _ (fun _ h => h) ?_
                      clear hK K
                      try simp only [Act.put, List.setIfInBounds_toArray, List.set_cons_zero, List.set_cons_succ]
                      refine wpAnyZ_done (by kernel_rfl) ?_ _
                      go_wp2_with fail
                      go_meet
                      case rel => exact H4.out
                    · go_simp
                      refine hK.out _ _ (fun _ h => grown_blk (World.grownBy_alloc _ _ _) h) ?_
                      clear hK K
                      try simp only [Act.put, List.setIfInBounds_toArray, List.set_cons_zero, List.set_cons_succ]
                      have H2 : Hid (Ex B Y1 (Y1.drew.alloc (.cells #[.int .i64 n2, .int .i64 n3] 3)) ∧ B ≤ (Y1.drew.alloc (.cells #[.int .i64 n2, .int .i64 n3] 3)).heap.size) := ⟨((Ex.refl B Y1).same (x := Y1.drew) ⟨rfl, rfl, rfl, rfl⟩).alloc (by exact HX.out.2.1) _, by have := HX.out.2.1; simp; omega⟩
                      refine wpAnyZ_one' (i := 1) (by kernel_rfl) rfl (fun K hK => ?_)
                      (refine step_out_s (by rfl) (.tmp 94) _ (by rfl) (B := B) (zs := Z2) (by rfl) (by exact (HX.out.2.2.1.heap (x := Y1.drew) rfl).alloc _) [32, 105, 58] (by rfl) (by rfl) (by decide) (by have := H8.out.2.2.2.1; simp; omega) (by exact H2.out.2) ?_; intro v1 w1 H1)
                      refine hK.out _ _ (fun _ h => H1.out.2.blk h (by decide)) ?_
                      clear hK K
                      simp only [Act.put, List.setIfInBounds_toArray, List.set_cons_zero, List.set_cons_succ]
                      have H3 : Hid (Ex B Y1 w1) := H2.out.1.trans H1.out.2
                      refine wpAnyZ_one' (i := 9) (by kernel_rfl) rfl (fun K hK => ?_)
                      go_simp
                      go_at_call 15
                      refine (l7Join_out (B := B) (zs := Z2 ++ [32, 105, 58]) H1.out.1 58 (by decide) Y1.heap.size [n2, n3] (H1.out.2.blk (heap_alloc_new Y1.drew _) (by decide)) (i64s2 HJ.out.2.2.1 HJ.out.2.2.2.1) (by simp) (H3.out.size HX.out.2.1) (by have := H8.out.2.2.2.1; rw [List.length_append]; simp; omega)).mono ?_
                      rintro e w3 ⟨v3, rfl, hO3, hE3⟩
                      have H4 : Hid (Out B w3 v3 (Z2 ++ [32, 105, 58] ++ joinB 58 [n2, n3]) ∧ Ex B Y1 w3) := ⟨hO3, H3.out.trans hE3⟩
                      go_wp2_with fail
                      refine hK.out _ _ (fun _ h => hE3.blk h (by decide)) ?_
                      clear hK K
                      try simp only [Act.put, List.setIfInBounds_toArray, List.set_cons_zero, List.set_cons_succ]
                      refine wpAnyZ_one' (i := 10) (by kernel_rfl) rfl (fun K hK => ?_)
                      go_simp
                      refine hK.out _ _ (fun _ h => h) ?_
                      clear hK K
                      try simp only [Act.put, List.setIfInBounds_toArray, List.set_cons_zero, List.set_cons_succ]
                      refine wpAnyZ_done (by kernel_rfl) ?_ _
                      go_wp2_with fail
                      go_meet
                      case rel => exact H4.out
                case rest =>
                  obtain ⟨hO1, hE1⟩ := hcut
                  have HE2 : Hid (Out B wc u3 (Z2 ++ [32, 105, 58] ++ joinB 58 [n2, n3]) ∧ Ex B Y1 wc) := ⟨hO1, hE1⟩
                  clear hO1 hE1
                  generalize wc = Y2 at HE2 ⊢
                  have HX : Hid (Ex B w Y2 ∧ B ≤ Y2.heap.size ∧ Out B Y2 u3 (Z2 ++ [32, 105, 58] ++ joinB 58 [n2, n3]) ∧ Y2.heap[G]? = some (.cells #[.int .i64 n0, .int .i64 n1, .int .i64 n2, .int .i64 n3, .slice a4 m4 p4, .int .i64 n5, .slice a6 m6 p6, .slice a7 m7 p7, .slice a8 m8 p8, .slice a9 m9 p9, .int .i64 n10, .int .i64 n11, .int .i64 n12, .int .i64 n13, .int .i64 n14, .int .i64 n15, .int .i64 n16, .int .i64 n17] 50 (0, 0))) := ⟨H8.out.2.1.trans HE2.out.2, HE2.out.2.size H8.out.2.2.1, HE2.out.1, HE2.out.2.blk H8.out.2.2.2.2 (by decide)⟩
                  have hlen : (Z2 ++ [32, 105, 58] ++ joinB 58 [n2, n3]).length ≤ 3221225472 := by
                    have h1 := joinB_len (mark := 58) (i64s2 HJ.out.2.2.1 HJ.out.2.2.2.1)
                    have h2 := H8.out.2.2.2.1
                    rw [List.length_append, List.length_append]
                    simp at h1 ⊢
                    omega
                  go_wp2
                  refine wp_region_Z (fun W => W.heap[G]? = some (.cells #[.int .i64 n0, .int .i64 n1, .int .i64 n2, .int .i64 n3, .slice a4 m4 p4, .int .i64 n5, .slice a6 m6 p6, .slice a7 m7 p7, .slice a8 m8 p8, .slice a9 m9 p9, .int .i64 n10, .int .i64 n11, .int .i64 n12, .int .i64 n13, .int .i64 n14, .int .i64 n15, .int .i64 n16, .int .i64 n17] 50 (0, 0))) (fun _ => false) (by kernel_rfl) ?_
                  have hS : Y2.drew.heap[G]? = some (.cells #[.int .i64 n0, .int .i64 n1, .int .i64 n2, .int .i64 n3, .slice a4 m4 p4, .int .i64 n5, .slice a6 m6 p6, .slice a7 m7 p7, .slice a8 m8 p8, .slice a9 m9 p9, .int .i64 n10, .int .i64 n11, .int .i64 n12, .int .i64 n13, .int .i64 n14, .int .i64 n15, .int .i64 n16, .int .i64 n17] 50 (0, 0)) := HX.out.2.2.2
                  have HQX : Hid (Ex B w Y2.drew ∧ Ex B Y2 Y2.drew) := ⟨HX.out.1.same ⟨rfl, rfl, rfl, rfl⟩, (Ex.refl B _).same ⟨rfl, rfl, rfl, rfl⟩⟩
                  have HL : Hid (0 < (hexB d4).length ∧ (hexB d4).length ≤ 2097153) := ⟨hexB_len0 _, by have h1 := hexB_len d4; have h2 := HD4.out.2; omega⟩
                  refine wpAnyZ_take' (i := 0) (v := ?vz19) rfl (by kernel_rfl) (by kernel_rfl) (by kernel_rfl) (fun _ _ _ h => h) (Or.inl ⟨by rfl, ?yz19⟩) ?rz19
                  case yz19 => (intro w _; go_simp; first | done | with_reducible rfl)
                  simp only [Act.put, List.setIfInBounds_toArray, List.set_cons_zero, List.set_cons_succ]
                  refine wpAnyZ_take' (i := 3) (v := ?vz20) rfl (by kernel_rfl) (by kernel_rfl) (by kernel_rfl) (fun _ _ _ h => h) (Or.inl ⟨by rfl, ?yz20⟩) ?rz20
                  case yz20 => (intro w _; go_simp; first | done | with_reducible rfl)
                  simp only [Act.put, List.setIfInBounds_toArray, List.set_cons_zero, List.set_cons_succ]
                  refine wpAnyZ_take' (i := 4) (v := ?vz21) rfl (by kernel_rfl) (by kernel_rfl) (by kernel_rfl) (fun _ _ _ h => h) (Or.inl ⟨by rfl, ?yz21⟩) ?rz21
                  case yz21 => (intro w _; go_simp; first | done | with_reducible rfl)
                  simp only [Act.put, List.setIfInBounds_toArray, List.set_cons_zero, List.set_cons_succ]
                  refine wpAnyZ_loadS (i := 5) (v := ?vz22) rfl (by kernel_rfl) (by kernel_rfl) (by kernel_rfl) (fun _ _ _ h => h) (fun _ => rfl) (Or.inl ⟨by rfl, ?yz22⟩) hS ?rz22
                  case yz22 => (intro W hW; have c0 : W.cell? ⟨G, 4, none⟩ = some (.slice a4 m4 p4) := (cell_of_row W _ _ _ _ _ hW).trans rfl; go_simp; first | done | with_reducible rfl)
                  simp only [Act.put, List.setIfInBounds_toArray, List.set_cons_zero, List.set_cons_succ]
                  refine wpAnyZ_one' (i := 1) (by kernel_rfl) rfl (fun K hK => ?_)
                  go_simp
                  refine hK.out _ _ (fun _ h => grown_blk (World.grownBy_alloc _ _ _) h) ?_
                  clear hK K
                  try simp only [Act.put, List.setIfInBounds_toArray, List.set_cons_zero, List.set_cons_succ]
                  have HQ1 : Hid (Ex B w (Y2.drew.alloc (.cells #[.int .u8 58] 5)) ∧ Ex B Y2 (Y2.drew.alloc (.cells #[.int .u8 58] 5)) ∧ B ≤ ((Y2.drew.alloc (.cells #[.int .u8 58] 5))).heap.size) := ⟨HQX.out.1.alloc HX.out.2.1 _, HQX.out.2.alloc HX.out.2.1 _, by have := HX.out.2.1; simp; omega⟩
                  refine wpAnyZ_one' (i := 2) (by kernel_rfl) rfl (fun K hK => ?_)
                  (refine step_out_bG (by rfl) (.tmp 104) (.tmp 105) (by rfl) (B := B) (zs := Z2 ++ [32, 105, 58] ++ joinB 58 [n2, n3]) (by rfl) (by exact (HX.out.2.2.1.heap (x := Y2.drew) rfl).alloc _) (oa := some ⟨Y2.heap.size, 0, none⟩) (m := 1) (c := 1) (ys := [58]) (by rfl) (by exact one_byte Y2.drew 58 (by decide) _) (by decide) (by first | omega | (simp at hlen ⊢; omega)) (by exact HQ1.out.2.2) ?_; intro v1 w1 H1)
                  refine hK.out _ _ (fun _ h => H1.out.2.1.blk h (by decide)) ?_
                  clear hK K
                  simp only [Act.put, List.setIfInBounds_toArray, List.set_cons_zero, List.set_cons_succ]
                  have HQ2 : Hid (Ex B w w1 ∧ Ex B Y2 w1 ∧ B ≤ w1.heap.size) := ⟨HQ1.out.1.trans H1.out.2.1, HQ1.out.2.1.trans H1.out.2.1, H1.out.2.1.size HQ1.out.2.2⟩
                  refine wpAnyZ_one' (i := 6) (by kernel_rfl) rfl (fun K hK => ?_)
                  go_simp
                  go_at_call 16
                  refine calls_argsT (args := #[.slice a4 d4.length p4]) (by rw [HM.out]) ?_
                  refine (l7Hex_any w1 a4 d4 p4 (HD4.out.1 _ (HQ2.out.1).below) HD4.out.2).mono ?_
                  rintro e w2 ⟨g, cap, rfl, hS2, hG2, hg2⟩
                  go_wp2_with fail
                  refine hK.out _ _ (fun _ h => grown_blk hG2 h) ?_
                  clear hK K
                  try simp only [Act.put, List.setIfInBounds_toArray, List.set_cons_zero, List.set_cons_succ]
                  have HL2 : Hid (Out B w2 v1 (Z2 ++ [32, 105, 58] ++ joinB 58 [n2, n3] ++ [58]) ∧ SlB w2 (some ⟨g, 0, none⟩) (hexB d4).length (hexB d4) ∧ Ex B Y2 w2 ∧ B ≤ w2.heap.size) := ⟨H1.out.1.grown hG2, hS2, HQ2.out.2.1.grown hG2 HQ2.out.2.2, Nat.le_trans HQ2.out.2.2 hG2.size⟩
                  refine wpAnyZ_one' (i := 7) (by kernel_rfl) rfl (fun K hK => ?_)
                  (refine step_out_b (by rfl) (.tmp 106) (.tmp 110) (by rfl) (B := B) (zs := Z2 ++ [32, 105, 58] ++ joinB 58 [n2, n3] ++ [58]) (by rfl) (by exact HL2.out.1) (oa := some ⟨g, 0, none⟩) (m := (hexB d4).length) (c := cap) (ys := hexB d4) (by rfl) (by exact HL2.out.2.1) HL.out.1 (by have := HL.out.2; rw [List.length_append]; first | omega | (simp at hlen ⊢; omega)) (by exact HL2.out.2.2.2) ?_; intro v3 w3 H3)
                  refine hK.out _ _ (fun _ h => H3.out.2.blk h (by decide)) ?_
                  clear hK K
                  simp only [Act.put, List.setIfInBounds_toArray, List.set_cons_zero, List.set_cons_succ]
                  have H4 : Hid (Out B w3 v3 (Z2 ++ [32, 105, 58] ++ joinB 58 [n2, n3] ++ [58] ++ hexB d4) ∧ Ex B Y2 w3) := ⟨H3.out.1, HL2.out.2.2.1.trans H3.out.2⟩
                  refine wpAnyZ_one' (i := 8) (by kernel_rfl) rfl (fun K hK => ?_)
                  go_simp
                  refine hK.out _ _ (fun _ h => h) ?_
                  clear hK K
                  try simp only [Act.put, List.setIfInBounds_toArray, List.set_cons_zero, List.set_cons_succ]
                  refine wpAnyZ_done (by kernel_rfl) ?_ _
                  have H9 : Hid (Out B w3 v3 (Z2 ++ itemO n2 n3 d4) ∧ Ex B Y1 w3) := by
                    refine ⟨?_, HE2.out.2.trans H4.out.2⟩
                    rw [HZ3.out]
                    have h9 := H4.out.1
                    rw [show ([32, 105, 58] : List Nat) = [32, 105] ++ [58] from rfl, join58] at h9
                    simpa [itemT] using h9
                  go_wp2_with fail
                  go_meet
                  case rel => exact H9.out
            case rest =>
              obtain ⟨hO1, hE1⟩ := hcut
              obtain ⟨Z3, hZ3⟩ : ∃ Z3, Z3 = Z2 ++ itemO n2 n3 d4 := ⟨_, rfl⟩
              rw [← hZ3] at hO1
              have H9 : Hid (Out B wc u3 Z3 ∧ Ex B w wc ∧ B ≤ wc.heap.size ∧ Z3.length ≤ 3221225472 ∧ wc.heap[G]? = some (.cells #[.int .i64 n0, .int .i64 n1, .int .i64 n2, .int .i64 n3, .slice a4 m4 p4, .int .i64 n5, .slice a6 m6 p6, .slice a7 m7 p7, .slice a8 m8 p8, .slice a9 m9 p9, .int .i64 n10, .int .i64 n11, .int .i64 n12, .int .i64 n13, .int .i64 n14, .int .i64 n15, .int .i64 n16, .int .i64 n17] 50 (0, 0))) := by
                refine ⟨hO1, H8.out.2.1.trans hE1, hE1.size H8.out.2.2.1, ?_, hE1.blk H8.out.2.2.2.2 (by decide)⟩
                have h1 := itemO_len HJ.out.2.2.1 HJ.out.2.2.2.1 d4
                have h2 := H8.out.2.2.2.1
                have h3 := HD4.out.2
                rw [hZ3, List.length_append]
                omega
              have HZ3 : Hid (Z3 = R ++ decI n0 ++ numB 32 [n1, n10, n11, n12, n13, n14, n15, n16, n17, (m9 : Int)] ++ (tellR L8).flatMap ackD ++ itemO n2 n3 d4) := by
                show _ = _
                rw [hZ3, HZ2.out]
              clear hO1 hE1 hZ3 HZ2 H8 HQ
              generalize wc = Y3 at H9 ⊢
              obtain ⟨tb2, HQ⟩ : ∃ tb : Bool, Hid ((¬ (n5 = 0 ∧ m6 = 0) → tb = true) ∧ ((n5 = 0 ∧ m6 = 0) → tb = false)) := ⟨!decide (n5 = 0 ∧ m6 = 0), fun h => by simp [h], fun h => by simp [h]⟩
              go_upto_region 16 with fail
              go_cut [122] (fun t wx => t = .bool tb2 ∧ wx = Y3)
              case first =>
                have c5 : Y3.cell? ⟨G, 5, none⟩ = some (.int .i64 n5) := (cell_of_row Y3 _ _ _ _ _ (H9.out.2.2.2.2)).trans rfl
                have c6 : Y3.cell? ⟨G, 6, none⟩ = some (.slice a6 m6 p6) := (cell_of_row Y3 _ _ _ _ _ (H9.out.2.2.2.2)).trans rfl
                by_cases h1 : n5 = 0
                · subst h1
                  by_cases h3 : m6 = 0
                  · subst h3
                    obtain rfl := HQ.out.2 ⟨rfl, rfl⟩
                    go_wp2_with fail
                    go_meet
                    case rel => exact ⟨rfl, rfl⟩
                  · have h3b : decide ((0 : Int) < (m6 : Int)) = true := by simp; omega
                    have h3c : (0 : Int) < (m6 : Int) := by omega
                    obtain rfl := HQ.out.1 (fun h => h3 h.2)
                    go_wp2_with fail
                    go_meet
                    case rel => exact ⟨congrArg Value.bool (decide_eq_true (Nat.pos_of_ne_zero h3)), rfl⟩
                · have h1b : (n5 != 0) = true := by simpa using h1
                  obtain rfl := HQ.out.1 (fun h => h1 h.1)
                  go_wp2_with fail
                  go_meet
                  case rel => exact ⟨rfl, rfl⟩
              case rest =>
                obtain ⟨rfl, h9⟩ := hcut
                have h9 := h9.symm
                subst h9
                go_upto_if 122 with fail
                go_cut [3] (fun v wx => Out B wx v (Z3 ++ serviceT n5 (tellR L6)) ∧ Ex B Y3 wx)
                case first =>
                  by_cases hz : n5 = 0 ∧ m6 = 0
                  · obtain rfl := HQ.out.2 hz
                    have HS0 : Hid (serviceT n5 (tellR L6) = []) := by
                      show _ = _
                      rw [serviceT, if_pos]
                      exact ⟨hz.1, by rw [List.length_eq_zero_iff.1 (HM6.out.trans hz.2)]; rfl⟩
                    clear hz
                    go_wp2_with fail
                    go_meet
                    case rel => exact ⟨by rw [HS0.out, List.append_nil]; exact H9.out.1, Ex.refl _ _⟩
                  · obtain rfl := HQ.out.1 hz
                    have HS1 : Hid (serviceT n5 (tellR L6) = [32, 115] ++ numB 58 [n5] ++ (tellR L6).flatMap (itemD [32, 107])) := by
                      show _ = _
                      rw [serviceT, if_neg]
                      rintro ⟨h1, h2⟩
                      refine hz ⟨h1, ?_⟩
                      rw [← HM6.out]
                      have := congrArg List.length h2
                      simpa using this
                    clear hz
                    have HX : Hid (Ex B w Y3 ∧ B ≤ Y3.heap.size ∧ Out B Y3 u3 Z3 ∧ Y3.heap[G]? = some (.cells #[.int .i64 n0, .int .i64 n1, .int .i64 n2, .int .i64 n3, .slice a4 m4 p4, .int .i64 n5, .slice a6 m6 p6, .slice a7 m7 p7, .slice a8 m8 p8, .slice a9 m9 p9, .int .i64 n10, .int .i64 n11, .int .i64 n12, .int .i64 n13, .int .i64 n14, .int .i64 n15, .int .i64 n16, .int .i64 n17] 50 (0, 0))) := ⟨H9.out.2.1, H9.out.2.2.1, H9.out.1, H9.out.2.2.2.2⟩
                    go_upto_region 17 with fail
                    go_cut [3] (fun v wx => Out B wx v (Z3 ++ [32, 115, 58] ++ joinB 58 [n5]) ∧ Ex B Y3 wx)
                    case first =>
                      as_aux_lemma =>
                        refine wp_region_Z (fun W => W.heap[G]? = some (.cells #[.int .i64 n0, .int .i64 n1, .int .i64 n2, .int .i64 n3, .slice a4 m4 p4, .int .i64 n5, .slice a6 m6 p6, .slice a7 m7 p7, .slice a8 m8 p8, .slice a9 m9 p9, .int .i64 n10, .int .i64 n11, .int .i64 n12, .int .i64 n13, .int .i64 n14, .int .i64 n15, .int .i64 n16, .int .i64 n17] 50 (0, 0))) (fun _ => false) (by kernel_rfl) ?_
                        have hS : Y3.drew.heap[G]? = some (.cells #[.int .i64 n0, .int .i64 n1, .int .i64 n2, .int .i64 n3, .slice a4 m4 p4, .int .i64 n5, .slice a6 m6 p6, .slice a7 m7 p7, .slice a8 m8 p8, .slice a9 m9 p9, .int .i64 n10, .int .i64 n11, .int .i64 n12, .int .i64 n13, .int .i64 n14, .int .i64 n15, .int .i64 n16, .int .i64 n17] 50 (0, 0)) := HX.out.2.2.2
                        refine wpAnyZ_take' (i := 0) (v := ?vz23) rfl (by kernel_rfl) (by kernel_rfl) (by kernel_rfl) (fun _ _ _ h => h) (Or.inl ⟨by rfl, ?yz23⟩) ?rz23
                        case yz23 => (intro w _; go_simp; first | done | with_reducible rfl)
                        simp only [Act.put, List.setIfInBounds_toArray, List.set_cons_zero, List.set_cons_succ]
                        refine wpAnyZ_take' (i := 2) (v := ?vz24) rfl (by kernel_rfl) (by kernel_rfl) (by kernel_rfl) (fun _ _ _ h => h) (Or.inl ⟨by rfl, ?yz24⟩) ?rz24
                        case yz24 => (intro w _; go_simp; first | done | with_reducible rfl)
                        simp only [Act.put, List.setIfInBounds_toArray, List.set_cons_zero, List.set_cons_succ]
                        refine wpAnyZ_take' (i := 3) (v := ?vz25) rfl (by kernel_rfl) (by kernel_rfl) (by kernel_rfl) (fun _ _ _ h => h) (Or.inl ⟨by rfl, ?yz25⟩) ?rz25
                        case yz25 => (intro w _; go_simp; first | done | with_reducible rfl)
                        simp only [Act.put, List.setIfInBounds_toArray, List.set_cons_zero, List.set_cons_succ]
                        refine wpAnyZ_loadS (i := 4) (v := ?vz26) rfl (by kernel_rfl) (by kernel_rfl) (by kernel_rfl) (fun _ _ _ h => h) (fun _ => rfl) (Or.inl ⟨by rfl, ?yz26⟩) hS ?rz26
                        case yz26 => (intro W hW; have c0 : W.cell? ⟨G, 5, none⟩ = some (.int .i64 n5) := (cell_of_row W _ _ _ _ _ hW).trans rfl; go_simp; first | done | with_reducible rfl)
                        simp only [Act.put, List.setIfInBounds_toArray, List.set_cons_zero, List.set_cons_succ]
                        refine wpAnyZ_two' (i := 1) (k := 5) (by kernel_rfl) rfl rfl (fun K hK => ?_) (fun K hK => ?_)
                        · (refine step_out_s (by rfl) (.tmp 123) _ (by rfl) (B := B) (zs := Z3) (by rfl) (by exact HX.out.2.2.1.heap rfl) [32, 115, 58] (by rfl) (by rfl) (by decide) (by have := H9.out.2.2.2.1; simp; omega) (by exact HX.out.2.1) ?_; intro v1 w1 H1)
                          refine hK.out _ _ (fun _ h => H1.out.2.blk h (by decide)) ?_
                          clear hK K
                          simp only [Act.put, List.setIfInBounds_toArray, List.set_cons_zero, List.set_cons_succ]
                          have H2 : Hid (Ex B Y3 w1 ∧ B ≤ w1.heap.size) := ⟨((Ex.refl B Y3).same (x := Y3.drew) ⟨rfl, rfl, rfl, rfl⟩).trans H1.out.2, H1.out.2.size (by exact HX.out.2.1)⟩
                          refine wpAnyZ_one' (i := 5) (by kernel_rfl) rfl (fun K hK => ?_)
                          go_simp
                          refine hK.out _ _ (fun _ h => grown_blk (World.grownBy_alloc _ _ _) h) ?_
                          clear hK K
                          try simp only [Act.put, List.setIfInBounds_toArray, List.set_cons_zero, List.set_cons_succ]
                          have H3 : Hid (Ex B Y3 (w1.alloc (.cells #[.int .i64 n5] 3))) := H2.out.1.alloc H2.out.2 _
                          refine wpAnyZ_one' (i := 6) (by kernel_rfl) rfl (fun K hK => ?_)
                          go_simp
                          go_at_call 15
                          refine (l7Join_out (B := B) (zs := Z3 ++ [32, 115, 58]) (H1.out.1.alloc _) 58 (by decide) w1.heap.size [n5] (heap_alloc_new w1 _) (i64s1 HJ.out.2.2.2.2.1) (by simp) (by have := H2.out.2; simp; omega) (by have := H9.out.2.2.2.1; rw [List.length_append]; simp; omega)).mono ?_
                          rintro e w3 ⟨v3, rfl, hO3, hE3⟩
                          have H4 : Hid (Out B w3 v3 (Z3 ++ [32, 115, 58] ++ joinB 58 [n5]) ∧ Ex B Y3 w3) := ⟨hO3, H3.out.trans hE3⟩
                          go_wp2_with fail
                          refine hK.out _ _ (fun _ h => hE3.blk h (by decide)) ?_
                          clear hK K
                          try simp only [Act.put, List.setIfInBounds_toArray, List.set_cons_zero, List.set_cons_succ]
                          refine wpAnyZ_one' (i := 7) (by kernel_rfl) rfl (fun K hK => ?_)
                          go_simp
                          refine hK.out _ _ (fun _ h => h) ?_
                          clear hK K
                          try simp only [Act.put, List.setIfInBounds_toArray, List.set_cons_zero, List.set_cons_succ]
                          refine wpAnyZ_done (by kernel_rfl) ?_ _
                          go_wp2_with fail
                          go_meet
                          case rel => exact H4.out
                        · go_simp
                          refine hK.out _ _ (fun _ h => grown_blk (World.grownBy_alloc _ _ _) h) ?_
                          clear hK K
                          try simp only [Act.put, List.setIfInBounds_toArray, List.set_cons_zero, List.set_cons_succ]
                          have H2 : Hid (Ex B Y3 (Y3.drew.alloc (.cells #[.int .i64 n5] 3)) ∧ B ≤ (Y3.drew.alloc (.cells #[.int .i64 n5] 3)).heap.size) := ⟨((Ex.refl B Y3).same (x := Y3.drew) ⟨rfl, rfl, rfl, rfl⟩).alloc (by exact HX.out.2.1) _, by have := HX.out.2.1; simp; omega⟩
                          refine wpAnyZ_one' (i := 1) (by kernel_rfl) rfl (fun K hK => ?_)
                          (refine step_out_s (by rfl) (.tmp 123) _ (by rfl) (B := B) (zs := Z3) (by rfl) (by exact (HX.out.2.2.1.heap (x := Y3.drew) rfl).alloc _) [32, 115, 58] (by rfl) (by rfl) (by decide) (by have := H9.out.2.2.2.1; simp; omega) (by exact H2.out.2) ?_; intro v1 w1 H1)
                          refine hK.out _ _ (fun _ h => H1.out.2.blk h (by decide)) ?_
                          clear hK K
                          simp only [Act.put, List.setIfInBounds_toArray, List.set_cons_zero, List.set_cons_succ]
                          have H3 : Hid (Ex B Y3 w1) := H2.out.1.trans H1.out.2
                          refine wpAnyZ_one' (i := 6) (by kernel_rfl) rfl (fun K hK => ?_)
                          go_simp
                          go_at_call 15
                          refine (l7Join_out (B := B) (zs := Z3 ++ [32, 115, 58]) H1.out.1 58 (by decide) Y3.heap.size [n5] (H1.out.2.blk (heap_alloc_new Y3.drew _) (by decide)) (i64s1 HJ.out.2.2.2.2.1) (by simp) (H3.out.size HX.out.2.1) (by have := H9.out.2.2.2.1; rw [List.length_append]; simp; omega)).mono ?_
                          rintro e w3 ⟨v3, rfl, hO3, hE3⟩
                          have H4 : Hid (Out B w3 v3 (Z3 ++ [32, 115, 58] ++ joinB 58 [n5]) ∧ Ex B Y3 w3) := ⟨hO3, H3.out.trans hE3⟩
                          go_wp2_with fail
                          refine hK.out _ _ (fun _ h => hE3.blk h (by decide)) ?_
                          clear hK K
                          try simp only [Act.put, List.setIfInBounds_toArray, List.set_cons_zero, List.set_cons_succ]
                          refine wpAnyZ_one' (i := 7) (by kernel_rfl) rfl (fun K hK => ?_)
                          go_simp
                          refine hK.out _ _ (fun _ h => h) ?_
                          clear hK K
                          try simp only [Act.put, List.setIfInBounds_toArray, List.set_cons_zero, List.set_cons_succ]
                          refine wpAnyZ_done (by kernel_rfl) ?_ _
                          go_wp2_with fail
                          go_meet
                          case rel => exact H4.out
                    case rest =>
                      obtain ⟨hO1, hE1⟩ := hcut
                      have HE2 : Hid (Out B wc u3 (Z3 ++ [32, 115] ++ numB 58 [n5]) ∧ Ex B Y3 wc ∧ B ≤ wc.heap.size ∧ (Z3 ++ [32, 115] ++ numB 58 [n5]).length ≤ 3221225472 + 24) := by
                        refine ⟨?_, hE1, hE1.size H9.out.2.2.1, ?_⟩
                        · rw [show ([32, 115, 58] : List Nat) = [32, 115] ++ [58] from rfl, join58] at hO1
                          exact hO1
                        · have h1 := numB_len (mark := 58) (i64s1 HJ.out.2.2.2.2.1)
                          have h2 := H9.out.2.2.2.1
                          rw [List.length_append, List.length_append]
                          simp at h1 ⊢
                          omega
                      have hS : wc.heap[G]? = some (.cells #[.int .i64 n0, .int .i64 n1, .int .i64 n2, .int .i64 n3, .slice a4 m4 p4, .int .i64 n5, .slice a6 m6 p6, .slice a7 m7 p7, .slice a8 m8 p8, .slice a9 m9 p9, .int .i64 n10, .int .i64 n11, .int .i64 n12, .int .i64 n13, .int .i64 n14, .int .i64 n15, .int .i64 n16, .int .i64 n17] 50 (0, 0)) := hE1.blk H9.out.2.2.2.2 (by decide)
                      clear hO1 hE1
                      generalize wc = Y4 at HE2 hS ⊢
                      have c6 : Y4.cell? ⟨G, 6, none⟩ = some (.slice a6 m6 p6) := (cell_of_row Y4 _ _ _ _ _ (hS)).trans rfl
                      clear hS
                      go_wp2
                      clear c6
                      go_loopw [3, 134] (fun v i wr => ∃ j : Nat, j ≤ m6 ∧ i = .int .i64 (j : Int) ∧ Out B wr v (Z3 ++ [32, 115] ++ numB 58 [n5] ++ (tellR (L6.take j)).flatMap (itemD [32, 107])) ∧ Ex B Y3 wr) (fun _ i _ => m6 - (intOf i).toNat)
                      case atStart => exact ⟨0, Nat.zero_le _, rfl, by simpa using HE2.out.1, HE2.out.2.1⟩
                      case round =>
                        obtain ⟨j, hj, rfl, hOr, hE⟩ := hrel
                        obtain ⟨T, hTe⟩ : ∃ T, T = Z3 ++ [32, 115] ++ numB 58 [n5] ++ (tellR (L6.take j)).flatMap (itemD [32, 107]) := ⟨_, rfl⟩
                        rw [← hTe] at hOr
                        have HR : Hid (Out B wr u3 T ∧ Ex B Y3 wr ∧ B ≤ wr.heap.size ∧ Ex B w wr ∧ T = Z3 ++ [32, 115] ++ numB 58 [n5] ++ (tellR (L6.take j)).flatMap (itemD [32, 107])) := ⟨hOr, hE, hE.size H9.out.2.2.1, H9.out.2.1.trans hE, hTe⟩
                        have hlen : T.length ≤ 3221225472 + 24 + 64 * 1048576 := by
                          have h1 := kept_len (tellR (L6.take j)) (fun x hx => HL6.out.1.ok.nu x (by rw [tellR, List.map_take] at hx; exact List.mem_of_mem_take hx))
                          have h2 := totTo_le L6 j
                          have h3 := HL6.out.2
                          have h4 := HE2.out.2.2.2
                          rw [hTe, List.length_append]
                          unfold totTo at h2
                          rw [List.length_map, List.length_take] at h1
                          omega
                        clear hOr hE hTe
                        by_cases hjl : j < m6
                        · obtain ⟨e, he⟩ : ∃ e, L6[j]? = some e := ⟨_, List.getElem?_eq_getElem (by rw [HM6.out]; exact hjl)⟩
                          obtain ⟨hf, hrd, b8, o8, hab, hc⟩ := HL6.out.1 wr HR.out.2.2.2.1.below j e he
                          obtain ⟨y0, y1, yd, y2, y3, rfl⟩ := fitItem hf
                          subst hab
                          have hd2 : yd.length ≤ 1048576 := by have h1 := tot_sub (y := .byt yd y2 y3) (j := 2) he rfl; rw [tot_byt] at h1; have := HL6.out.2; omega
                          have HDi : Hid (SlLow B w y2 yd.length yd ∧ yd.length ≤ 1048576) := ⟨HL6.out.1.byt (p := y3) he (by simp), hd2⟩
                          have HIi : Hid (I64 y0 ∧ I64 y1) := ⟨(hrd (.int y0) (by simp)).isInt, (hrd (.int y1) (by simp)).isInt⟩
                          have q0 : wr.cell? ⟨b8, o8 + j * 3, none⟩ = some (.int .i64 y0) := hc 0 _ rfl
                          have q1 : wr.cell? ⟨b8, o8 + j * 3 + 1, none⟩ = some (.int .i64 y1) := hc 1 _ rfl
                          have q3 : wr.cell? ⟨b8, o8 + j * 3 + 2, none⟩ = some (.slice y2 yd.length y3) := hc 2 _ rfl
                          have HTi : Hid (Z3 ++ [32, 115] ++ numB 58 [n5] ++ (tellR (L6.take (j + 1))).flatMap (itemD [32, 107]) = T ++ itemT [32, 107] y0 y1 yd) := by
                            show _ = _
                            rw [flat_snoc _ he, HR.out.2.2.2.2, ← List.append_assoc]
                            rfl
                          clear hc hf hrd he hd2
                          obtain ⟨q2, hq2⟩ : ∃ q2, yd.length = q2 := ⟨_, rfl⟩
                          rw [hq2] at q3
                          have HMo := HM
                          clear HM
                          have HM : Hid (yd.length = q2) := hq2
                          clear hq2
                          have hjI : (j : Int) < (m6 : Int) := by omega
                          go_upto_region 21 with fail
                          generalize hY : wr.alloc (.cells #[.int .i64 y0, .int .i64 y1, .slice y2 q2 y3] 40) = Y
                          have HX : Hid (Ex B w Y ∧ B ≤ Y.heap.size ∧ Out B Y u3 T ∧ Y.heap[wr.heap.size]? = some (.cells #[.int .i64 y0, .int .i64 y1, .slice y2 q2 y3] 40 (0, 0))) := by
                            subst hY
                            exact ⟨HR.out.2.2.2.1.alloc HR.out.2.2.1 _, by have := HR.out.2.2.1; simp; omega, HR.out.1.alloc _, heap_alloc_new wr _⟩
                          have HY : Hid (Ex B Y3 Y) := by
                            subst hY
                            exact HR.out.2.1.alloc HR.out.2.2.1 _
                          clear hY q0 q1 q3
                          generalize wr.heap.size = Gi at HX ⊢
                          go_cut [3] (fun v wx => Out B wx v (T ++ [32, 107, 58] ++ joinB 58 [y0, y1]) ∧ Ex B Y wx)
                          case first =>
                            as_aux_lemma =>
                              refine wp_region_Z (fun W => W.heap[Gi]? = some (.cells #[.int .i64 y0, .int .i64 y1, .slice y2 q2 y3] 40 (0, 0))) (fun _ => false) (by kernel_rfl) ?_
                              have hS : Y.drew.heap[Gi]? = some (.cells #[.int .i64 y0, .int .i64 y1, .slice y2 q2 y3] 40 (0, 0)) := HX.out.2.2.2
                              refine wpAnyZ_take' (i := 0) (v := ?vz27) rfl (by kernel_rfl) (by kernel_rfl) (by kernel_rfl) (fun _ _ _ h => h) (Or.inl ⟨by rfl, ?yz27⟩) ?rz27
                              case yz27 => (intro w _; go_simp; first | done | with_reducible rfl)
                              simp only [Act.put, List.setIfInBounds_toArray, List.set_cons_zero, List.set_cons_succ]
                              refine wpAnyZ_take' (i := 2) (v := ?vz28) rfl (by kernel_rfl) (by kernel_rfl) (by kernel_rfl) (fun _ _ _ h => h) (Or.inl ⟨by rfl, ?yz28⟩) ?rz28
                              case yz28 => (intro w _; go_simp; first | done | with_reducible rfl)
                              simp only [Act.put, List.setIfInBounds_toArray, List.set_cons_zero, List.set_cons_succ]
                              refine wpAnyZ_loadS (i := 3) (v := ?vz29) rfl (by kernel_rfl) (by kernel_rfl) (by kernel_rfl) (fun _ _ _ h => h) (fun _ => rfl) (Or.inl ⟨by rfl, ?yz29⟩) hS ?rz29
                              case yz29 => (intro W hW; have c0 : W.cell? ⟨Gi, 0, none⟩ = some (.int .i64 y0) := (cell_of_row W _ _ _ _ _ hW).trans rfl; go_simp; first | done | with_reducible rfl)
                              simp only [Act.put, List.setIfInBounds_toArray, List.set_cons_zero, List.set_cons_succ]
                              refine wpAnyZ_take' (i := 4) (v := ?vz30) rfl (by kernel_rfl) (by kernel_rfl) (by kernel_rfl) (fun _ _ _ h => h) (Or.inl ⟨by rfl, ?yz30⟩) ?rz30
                              case yz30 => (intro w _; go_simp; first | done | with_reducible rfl)
                              simp only [Act.put, List.setIfInBounds_toArray, List.set_cons_zero, List.set_cons_succ]
                              refine wpAnyZ_loadS (i := 5) (v := ?vz31) rfl (by kernel_rfl) (by kernel_rfl) (by kernel_rfl) (fun _ _ _ h => h) (fun _ => rfl) (Or.inl ⟨by rfl, ?yz31⟩) hS ?rz31
                              case yz31 => (intro W hW; have c0 : W.cell? ⟨Gi, 1, none⟩ = some (.int .i64 y1) := (cell_of_row W _ _ _ _ _ hW).trans rfl; go_simp; first | done | with_reducible rfl)
                              simp only [Act.put, List.setIfInBounds_toArray, List.set_cons_zero, List.set_cons_succ]
                              refine wpAnyZ_two' (i := 1) (k := 6) (by kernel_rfl) rfl rfl (fun K hK => ?_) (fun K hK => ?_)
                              · (refine step_out_s (by rfl) (.tmp 138) _ (by rfl) (B := B) (zs := T) (by rfl) (by exact HX.out.2.2.1.heap rfl) [32, 107, 58] (by rfl) (by rfl) (by decide) (by simp; omega) (by exact HX.out.2.1) ?_; intro v1 w1 H1)
                                refine hK.out _ _ (fun _ h => H1.out.2.blk h (by decide)) ?_
                                clear hK K
                                simp only [Act.put, List.setIfInBounds_toArray, List.set_cons_zero, List.set_cons_succ]
                                have H2 : Hid (Ex B Y w1 ∧ B ≤ w1.heap.size) := ⟨((Ex.refl B Y).same (x := Y.drew) ⟨rfl, rfl, rfl, rfl⟩).trans H1.out.2, H1.out.2.size (by exact HX.out.2.1)⟩
                                refine wpAnyZ_one' (i := 6) (by kernel_rfl) rfl (fun K hK => ?_)
                                go_simp
                                refine hK.out _ _ (fun _ h => grown_blk (World.grownBy_alloc _ _ _) h) ?_
                                clear hK K
                                try simp only [Act.put, List.setIfInBounds_toArray, List.set_cons_zero, List.set_cons_succ]
                                have H3 : Hid (Ex B Y (w1.alloc (.cells #[.int .i64 y0, .int .i64 y1] 3))) := H2.out.1.alloc H2.out.2 _
                                refine wpAnyZ_one' (i := 7) (by kernel_rfl) rfl (fun K hK => ?_)
                                go_simp
                                go_at_call 15
                                refine (l7Join_out (B := B) (zs := T ++ [32, 107, 58]) (H1.out.1.alloc _) 58 (by decide) w1.heap.size [y0, y1] (heap_alloc_new w1 _) (i64s2 HIi.out.1 HIi.out.2) (by simp) (by have := H2.out.2; simp; omega) (by rw [List.length_append]; simp; omega)).mono ?_
                                rintro e w3 ⟨v3, rfl, hO3, hE3⟩
                                have H4 : Hid (Out B w3 v3 (T ++ [32, 107, 58] ++ joinB 58 [y0, y1]) ∧ Ex B Y w3) := ⟨hO3, H3.out.trans hE3⟩
                                go_wp2_with fail
                                refine hK.out _ _ (fun _ h => hE3.blk h (by decide)) ?_
                                clear hK K
                                try simp only [Act.put, List.setIfInBounds_toArray, List.set_cons_zero, List.set_cons_succ]
                                refine wpAnyZ_one' (i := 8) (by kernel_rfl) rfl (fun K hK => ?_)
                                go_simp
                                refine hK.out _ _ (fun _ h => h) ?_
                                clear hK K
                                try simp only [Act.put, List.setIfInBounds_toArray, List.set_cons_zero, List.set_cons_succ]
                                refine wpAnyZ_done (by kernel_rfl) ?_ _
                                go_wp2_with fail
                                go_meet
                                case rel => exact H4.out
                              · go_simp
                                refine hK.out _ _ (fun _ h => grown_blk (World.grownBy_alloc _ _ _) h) ?_
                                clear hK K
                                try simp only [Act.put, List.setIfInBounds_toArray, List.set_cons_zero, List.set_cons_succ]
                                have H2 : Hid (Ex B Y (Y.drew.alloc (.cells #[.int .i64 y0, .int .i64 y1] 3)) ∧ B ≤ (Y.drew.alloc (.cells #[.int .i64 y0, .int .i64 y1] 3)).heap.size) := ⟨((Ex.refl B Y).same (x := Y.drew) ⟨rfl, rfl, rfl, rfl⟩).alloc (by exact HX.out.2.1) _, by have := HX.out.2.1; simp; omega⟩
                                refine wpAnyZ_one' (i := 1) (by kernel_rfl) rfl (fun K hK => ?_)
                                (refine step_out_s (by rfl) (.tmp 138) _ (by rfl) (B := B) (zs := T) (by rfl) (by exact (HX.out.2.2.1.heap (x := Y.drew) rfl).alloc _) [32, 107, 58] (by rfl) (by rfl) (by decide) (by simp; omega) (by exact H2.out.2) ?_; intro v1 w1 H1)
                                refine hK.out _ _ (fun _ h => H1.out.2.blk h (by decide)) ?_
                                clear hK K
                                simp only [Act.put, List.setIfInBounds_toArray, List.set_cons_zero, List.set_cons_succ]
                                have H3 : Hid (Ex B Y w1) := H2.out.1.trans H1.out.2
                                refine wpAnyZ_one' (i := 7) (by kernel_rfl) rfl (fun K hK => ?_)
                                go_simp
                                go_at_call 15
                                refine (l7Join_out (B := B) (zs := T ++ [32, 107, 58]) H1.out.1 58 (by decide) Y.heap.size [y0, y1] (H1.out.2.blk (heap_alloc_new Y.drew _) (by decide)) (i64s2 HIi.out.1 HIi.out.2) (by simp) (H3.out.size HX.out.2.1) (by rw [List.length_append]; simp; omega)).mono ?_
                                rintro e w3 ⟨v3, rfl, hO3, hE3⟩
                                have H4 : Hid (Out B w3 v3 (T ++ [32, 107, 58] ++ joinB 58 [y0, y1]) ∧ Ex B Y w3) := ⟨hO3, H3.out.trans hE3⟩
                                go_wp2_with fail
                                refine hK.out _ _ (fun _ h => hE3.blk h (by decide)) ?_
                                clear hK K
                                try simp only [Act.put, List.setIfInBounds_toArray, List.set_cons_zero, List.set_cons_succ]
                                refine wpAnyZ_one' (i := 8) (by kernel_rfl) rfl (fun K hK => ?_)
                                go_simp
                                refine hK.out _ _ (fun _ h => h) ?_
                                clear hK K
                                try simp only [Act.put, List.setIfInBounds_toArray, List.set_cons_zero, List.set_cons_succ]
                                refine wpAnyZ_done (by kernel_rfl) ?_ _
                                go_wp2_with fail
                                go_meet
                                case rel => exact H4.out
                          case rest =>
                            obtain ⟨hO1, hE1⟩ := hcut
                            have HE3 : Hid (Out B wc u3 (T ++ [32, 107, 58] ++ joinB 58 [y0, y1]) ∧ Ex B Y wc) := ⟨hO1, hE1⟩
                            clear hO1 hE1
                            have HXo := HX
                            clear HX
                            generalize wc = Y5 at HE3 ⊢
                            have HX : Hid (Ex B w Y5 ∧ B ≤ Y5.heap.size ∧ Out B Y5 u3 (T ++ [32, 107, 58] ++ joinB 58 [y0, y1]) ∧ Y5.heap[Gi]? = some (.cells #[.int .i64 y0, .int .i64 y1, .slice y2 q2 y3] 40 (0, 0))) := ⟨HXo.out.1.trans HE3.out.2, HE3.out.2.size HXo.out.2.1, HE3.out.1, HE3.out.2.blk HXo.out.2.2.2 (by decide)⟩
                            have hlen2 : (T ++ [32, 107, 58] ++ joinB 58 [y0, y1]).length ≤ 4294967296 := by
                              have h1 := joinB_len (mark := 58) (i64s2 HIi.out.1 HIi.out.2)
                              rw [List.length_append, List.length_append]
                              simp at h1 ⊢
                              omega
                            go_wp2
                            refine wp_region_Z (fun W => W.heap[Gi]? = some (.cells #[.int .i64 y0, .int .i64 y1, .slice y2 q2 y3] 40 (0, 0))) (fun _ => false) (by kernel_rfl) ?_
                            have hS : Y5.drew.heap[Gi]? = some (.cells #[.int .i64 y0, .int .i64 y1, .slice y2 q2 y3] 40 (0, 0)) := HX.out.2.2.2
                            have HQX : Hid (Ex B w Y5.drew ∧ Ex B Y5 Y5.drew) := ⟨HX.out.1.same ⟨rfl, rfl, rfl, rfl⟩, (Ex.refl B _).same ⟨rfl, rfl, rfl, rfl⟩⟩
                            have HL : Hid (0 < (hexB yd).length ∧ (hexB yd).length ≤ 2097153) := ⟨hexB_len0 _, by have h1 := hexB_len yd; have h2 := HDi.out.2; omega⟩
                            refine wpAnyZ_take' (i := 0) (v := ?vz32) rfl (by kernel_rfl) (by kernel_rfl) (by kernel_rfl) (fun _ _ _ h => h) (Or.inl ⟨by rfl, ?yz32⟩) ?rz32
                            case yz32 => (intro w _; go_simp; first | done | with_reducible rfl)
                            simp only [Act.put, List.setIfInBounds_toArray, List.set_cons_zero, List.set_cons_succ]
                            refine wpAnyZ_take' (i := 3) (v := ?vz33) rfl (by kernel_rfl) (by kernel_rfl) (by kernel_rfl) (fun _ _ _ h => h) (Or.inl ⟨by rfl, ?yz33⟩) ?rz33
                            case yz33 => (intro w _; go_simp; first | done | with_reducible rfl)
                            simp only [Act.put, List.setIfInBounds_toArray, List.set_cons_zero, List.set_cons_succ]
                            refine wpAnyZ_loadS (i := 4) (v := ?vz34) rfl (by kernel_rfl) (by kernel_rfl) (by kernel_rfl) (fun _ _ _ h => h) (fun _ => rfl) (Or.inl ⟨by rfl, ?yz34⟩) hS ?rz34
                            case yz34 => (intro W hW; have c0 : W.cell? ⟨Gi, 2, none⟩ = some (.slice y2 q2 y3) := (cell_of_row W _ _ _ _ _ hW).trans rfl; go_simp; first | done | with_reducible rfl)
                            simp only [Act.put, List.setIfInBounds_toArray, List.set_cons_zero, List.set_cons_succ]
                            refine wpAnyZ_one' (i := 1) (by kernel_rfl) rfl (fun K hK => ?_)
                            go_simp
                            refine hK.out _ _ (fun _ h => grown_blk (World.grownBy_alloc _ _ _) h) ?_
                            clear hK K
                            try simp only [Act.put, List.setIfInBounds_toArray, List.set_cons_zero, List.set_cons_succ]
                            have HQ1 : Hid (Ex B w (Y5.drew.alloc (.cells #[.int .u8 58] 5)) ∧ Ex B Y5 (Y5.drew.alloc (.cells #[.int .u8 58] 5)) ∧ B ≤ ((Y5.drew.alloc (.cells #[.int .u8 58] 5))).heap.size) := ⟨HQX.out.1.alloc HX.out.2.1 _, HQX.out.2.alloc HX.out.2.1 _, by have := HX.out.2.1; simp; omega⟩
                            refine wpAnyZ_one' (i := 2) (by kernel_rfl) rfl (fun K hK => ?_)
                            (refine step_out_bG (by rfl) (.tmp 146) (.tmp 147) (by rfl) (B := B) (zs := T ++ [32, 107, 58] ++ joinB 58 [y0, y1]) (by rfl) (by exact (HX.out.2.2.1.heap (x := Y5.drew) rfl).alloc _) (oa := some ⟨Y5.heap.size, 0, none⟩) (m := 1) (c := 1) (ys := [58]) (by rfl) (by exact one_byte Y5.drew 58 (by decide) _) (by decide) (by first | omega | (simp at hlen2 ⊢; omega)) (by exact HQ1.out.2.2) ?_; intro v1 w1 H1)
                            refine hK.out _ _ (fun _ h => H1.out.2.1.blk h (by decide)) ?_
                            clear hK K
                            simp only [Act.put, List.setIfInBounds_toArray, List.set_cons_zero, List.set_cons_succ]
                            have HQ2 : Hid (Ex B w w1 ∧ Ex B Y5 w1 ∧ B ≤ w1.heap.size) := ⟨HQ1.out.1.trans H1.out.2.1, HQ1.out.2.1.trans H1.out.2.1, H1.out.2.1.size HQ1.out.2.2⟩
                            refine wpAnyZ_one' (i := 5) (by kernel_rfl) rfl (fun K hK => ?_)
                            go_simp
                            go_at_call 16
                            refine calls_argsT (args := #[.slice y2 yd.length y3]) (by rw [HM.out]) ?_
                            refine (l7Hex_any w1 y2 yd y3 (HDi.out.1 _ (HQ2.out.1).below) HDi.out.2).mono ?_
                            rintro e w2 ⟨g, cap, rfl, hS2, hG2, hg2⟩
                            go_wp2_with fail
                            refine hK.out _ _ (fun _ h => grown_blk hG2 h) ?_
                            clear hK K
                            try simp only [Act.put, List.setIfInBounds_toArray, List.set_cons_zero, List.set_cons_succ]
                            have HL2 : Hid (Out B w2 v1 (T ++ [32, 107, 58] ++ joinB 58 [y0, y1] ++ [58]) ∧ SlB w2 (some ⟨g, 0, none⟩) (hexB yd).length (hexB yd) ∧ Ex B Y5 w2 ∧ B ≤ w2.heap.size) := ⟨H1.out.1.grown hG2, hS2, HQ2.out.2.1.grown hG2 HQ2.out.2.2, Nat.le_trans HQ2.out.2.2 hG2.size⟩
                            refine wpAnyZ_one' (i := 6) (by kernel_rfl) rfl (fun K hK => ?_)
                            (refine step_out_b (by rfl) (.tmp 148) (.tmp 151) (by rfl) (B := B) (zs := T ++ [32, 107, 58] ++ joinB 58 [y0, y1] ++ [58]) (by rfl) (by exact HL2.out.1) (oa := some ⟨g, 0, none⟩) (m := (hexB yd).length) (c := cap) (ys := hexB yd) (by rfl) (by exact HL2.out.2.1) HL.out.1 (by have := HL.out.2; rw [List.length_append]; first | omega | (simp at hlen2 ⊢; omega)) (by exact HL2.out.2.2.2) ?_; intro v3 w3 H3)
                            refine hK.out _ _ (fun _ h => H3.out.2.blk h (by decide)) ?_
                            clear hK K
                            simp only [Act.put, List.setIfInBounds_toArray, List.set_cons_zero, List.set_cons_succ]
                            have H4 : Hid (Out B w3 v3 (T ++ [32, 107, 58] ++ joinB 58 [y0, y1] ++ [58] ++ hexB yd) ∧ Ex B Y5 w3) := ⟨H3.out.1, HL2.out.2.2.1.trans H3.out.2⟩
                            refine wpAnyZ_one' (i := 7) (by kernel_rfl) rfl (fun K hK => ?_)
                            go_simp
                            refine hK.out _ _ (fun _ h => h) ?_
                            clear hK K
                            try simp only [Act.put, List.setIfInBounds_toArray, List.set_cons_zero, List.set_cons_succ]
                            refine wpAnyZ_done (by kernel_rfl) ?_ _
                            have H11 : Hid (Out B w3 v3 (Z3 ++ [32, 115] ++ numB 58 [n5] ++ (tellR (L6.take (j + 1))).flatMap (itemD [32, 107])) ∧ Ex B Y3 w3) := by
                              refine ⟨?_, HY.out.trans (HE3.out.2.trans H4.out.2)⟩
                              rw [HTi.out]
                              have h9 := H4.out.1
                              rw [show ([32, 107, 58] : List Nat) = [32, 107] ++ [58] from rfl, join58] at h9
                              simpa [itemT] using h9
                            go_wp2
                            go_roundw
                            case rel => exact ⟨j + 1, by omega, by go_num, H11.out.1, H11.out.2⟩
                            case measure => simp [intOf]; omega
                        · obtain rfl : m6 = j := by omega
                          have H12 : Hid (Out B wr u3 (Z3 ++ serviceT n5 (tellR L6)) ∧ Ex B Y3 wr) := by
                            refine ⟨?_, HR.out.2.1⟩
                            have h1 := HR.out.1
                            rw [HR.out.2.2.2.2, ← HM6.out, List.take_length] at h1
                            rw [HS1.out, ← List.append_assoc, ← List.append_assoc]
                            exact h1
                          go_wp2_with fail
                          go_meet
                          case rel => exact H12.out
                case rest =>
                  obtain ⟨hO1, hE1⟩ := hcut
                  have H13 : Hid (Out B wc u3 (Z3 ++ serviceT n5 (tellR L6)) ∧ Ex B w wc ∧ B ≤ wc.heap.size ∧ (Z3 ++ serviceT n5 (tellR L6)).length ≤ 3221225472 + 24 + 64 * 1048576) := ⟨hO1, H9.out.2.1.trans hE1, hE1.size H9.out.2.2.1, by have h1 := serviceT_len HJ.out.2.2.2.2.1 (tellR L6) HL6.out.1.ok.nu; have h2 := H9.out.2.2.2.1; have h3 := HL6.out.2; unfold totR at h3; rw [List.length_map] at h1; rw [List.length_append]; omega⟩
                  clear hO1 hE1
                  go_wp2_with (at_builtin; refine wpList_out_b (by rfl) (.tmp 154) (.tmp 155) (by rfl) (B := B) (zs := Z3 ++ serviceT n5 (tellR L6)) (by rfl) (by exact H13.out.1.alloc _) (oa := some ⟨wc.heap.size, 0, none⟩) (m := 1) (c := 1) (ys := [10]) (by rfl) (by exact one_byte wc 10 (by decide) _) (by decide) (by have := H13.out.2.2.2; omega) (by have := H13.out.2.2.1; simp; omega) ?_; intro v14 w14 H14)
                  have H15 : Hid (Out B w14 v14 (reportT code (tellR (L.take (k + 1)))) ∧ Ex B w w14) := by
                    refine ⟨?_, (H13.out.2.1.alloc H13.out.2.2.1 _).trans H14.out.2⟩
                    have h9 := H14.out.1
                    rw [HZ3.out] at h9
                    rw [HTX.out]
                    simpa [obsT] using h9
                  clear H14
                  go_roundw
                  case rel => exact ⟨k + 1, by omega, by go_num, H15.out.1, H15.out.2⟩
                  case measure => simp [intOf]; omega
    · obtain rfl : k = n := by omega
      go_wp2
      go_ret
      refine ⟨_, rfl, ?_, HR.out.2.1⟩
      have h1 := HR.out.1
      rw [← HN.out, List.take_length] at h1
      exact h1
end Go.Proofs.YtkjjglnbbahbkaaDoor

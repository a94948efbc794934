/-
  An observation as text, by the program: walked.
-/
import Derived.Test.YtkjjglnbbahbkaaDoorSvT
namespace Go.Proofs.YtkjjglnbbahbkaaDoor
open Go.RowKit

set_option maxRecDepth 4000 in
set_option maxHeartbeats 8000000 in
theorem addObs_out {B : Nat} {w : World} {v : Value} {zs : List Nat} (ho : Out B w v zs) (n0 n1 n2 n3 n5 n10 n11 n12 n13 n14 n15 n16 n17 : Int) (d4 : List Nat) (L6 L8 : List (List Tr)) (a4 a6 a7 a8 a9 : Option Addr) (p4 p6 p7 p8 p9 m7 m9 : Nat)
    (hI : I64 n0 ∧ I64 n1 ∧ I64 n2 ∧ I64 n3 ∧ I64 n5 ∧ I64 n10 ∧ I64 n11 ∧ I64 n12 ∧ I64 n13 ∧ I64 n14 ∧ I64 n15 ∧ I64 n16 ∧ I64 n17) (h4 : SlLow B w a4 d4.length d4) (s4 : d4.length ≤ 1048576) (h6 : RowLow B w kItem a6 L6) (s6 : totR L6 ≤ 1048576) (h8 : RowLow B w kAck a8 L8) (s8 : totR L8 ≤ 1048576) (s9 : m9 ≤ 1048576) (hB : B ≤ w.heap.size) (hl : zs.length ≤ 2147483648) (htab : Lib.TabBelow Tryd.prog B w pow10 .u64 Lib.pow10Tab) :
    Calls Tryd.prog 19 #[v, .agg #[.int .i64 n0, .int .i64 n1, .int .i64 n2, .int .i64 n3, .slice a4 d4.length p4, .int .i64 n5, .slice a6 L6.length p6, .slice a7 m7 p7, .slice a8 L8.length p8, .slice a9 m9 p9, .int .i64 n10, .int .i64 n11, .int .i64 n12, .int .i64 n13, .int .i64 n14, .int .i64 n15, .int .i64 n16, .int .i64 n17]] w fun e w' => ∃ v', e = .returned v' ∧ Out B w' v' (zs ++ obsT n0 n1 n2 n3 d4 n5 (tellR L6) (tellR L8) m9 n10 n11 n12 n13 n14 n15 n16 n17) ∧ Ex B w w' := by
  have HO : Hid (Out B w v zs ∧ B ≤ w.heap.size ∧ SlLow B w a4 d4.length d4 ∧ RowLow B w kItem a6 L6 ∧ RowLow B w kAck a8 L8 ∧ totR L6 ≤ 1048576 ∧ totR L8 ≤ 1048576 ∧ d4.length ≤ 1048576) := ⟨ho, hB, h4, h6, h8, s6, s8, s4⟩
  have HT : Hid (Lib.TabBelow Tryd.prog B w pow10 .u64 Lib.pow10Tab) := htab
  have HI : Hid (I64 n0 ∧ I64 n1 ∧ I64 n2 ∧ I64 n3 ∧ I64 n5 ∧ I64 n10 ∧ I64 n11 ∧ I64 n12 ∧ I64 n13 ∧ I64 n14 ∧ I64 n15 ∧ I64 n16 ∧ I64 n17) := hI
  have hn8 : L8.length ≤ 1048576 := Nat.le_trans (totR_len L8) s8
  have hn6 : L6.length ≤ 1048576 := Nat.le_trans (totR_len L6) s6
  clear ho hB h4 h6 h8 s6 s8 htab hI
  obtain ⟨m4, e4⟩ : ∃ n, d4.length = n := ⟨_, rfl⟩
  obtain ⟨m6, e6⟩ : ∃ n, L6.length = n := ⟨_, rfl⟩
  obtain ⟨m8, e8⟩ : ∃ n, L8.length = n := ⟨_, rfl⟩
  have HN : Hid (d4.length = m4 ∧ L6.length = m6 ∧ L8.length = m8) := ⟨e4, e6, e8⟩
  rw [e4] at s4
  rw [e6] at hn6
  rw [e8] at hn8
  rw [e4, e6, e8]
  clear e4 e6 e8
  go_enter Tryd.func19, Tryd.ntmps19
  go_upto_region 2 with fail
  generalize hX : (w.alloc (.cells #[.int .i64 n0, .int .i64 n1, .int .i64 n2, .int .i64 n3, .slice a4 m4 p4, .int .i64 n5, .slice a6 m6 p6, .slice a7 m7 p7, .slice a8 m8 p8, .slice a9 m9 p9, .int .i64 n10, .int .i64 n11, .int .i64 n12, .int .i64 n13, .int .i64 n14, .int .i64 n15, .int .i64 n16, .int .i64 n17] 50)).alloc (.cells #[.int .i64 n10, .int .i64 n11, .int .i64 n12, .int .i64 n13, .int .i64 n14, .int .i64 n15, .int .i64 n16, .int .i64 n17] 48) = X
  have HB : Hid (Ex B w X ∧ B ≤ X.heap.size ∧ Out B X v zs ∧ X.heap[w.heap.size]? = some (.cells #[.int .i64 n0, .int .i64 n1, .int .i64 n2, .int .i64 n3, .slice a4 m4 p4, .int .i64 n5, .slice a6 m6 p6, .slice a7 m7 p7, .slice a8 m8 p8, .slice a9 m9 p9, .int .i64 n10, .int .i64 n11, .int .i64 n12, .int .i64 n13, .int .i64 n14, .int .i64 n15, .int .i64 n16, .int .i64 n17] 50 (0, 0)) ∧ X.heap[w.heap.size + 1]? = some (.cells #[.int .i64 n10, .int .i64 n11, .int .i64 n12, .int .i64 n13, .int .i64 n14, .int .i64 n15, .int .i64 n16, .int .i64 n17] 48 (0, 0))) := by
    subst hX
    have hb := HO.out.2.1
    exact ⟨((Ex.refl B w).alloc hb _).alloc (by simp; omega) _, by simp; omega, (HO.out.1.alloc _).alloc _, (heap_alloc_old _ _ (by simp)).trans (heap_alloc_new w _), by have := heap_alloc_new (w.alloc (.cells #[.int .i64 n0, .int .i64 n1, .int .i64 n2, .int .i64 n3, .slice a4 m4 p4, .int .i64 n5, .slice a6 m6 p6, .slice a7 m7 p7, .slice a8 m8 p8, .slice a9 m9 p9, .int .i64 n10, .int .i64 n11, .int .i64 n12, .int .i64 n13, .int .i64 n14, .int .i64 n15, .int .i64 n16, .int .i64 n17] 50)) (.cells #[.int .i64 n10, .int .i64 n11, .int .i64 n12, .int .i64 n13, .int .i64 n14, .int .i64 n15, .int .i64 n16, .int .i64 n17] 48 (0, 0)); simpa using this⟩
  clear hX
  have c0 : X.cell? ⟨w.heap.size, 0, none⟩ = some (.int .i64 n0) := (cell_of_row X _ _ _ _ _ (HB.out.2.2.2.1)).trans rfl
  go_wp2_with fail
  refine (appendInt_out HB.out.2.2.1 n0 HI.out.1 HB.out.2.1 (by omega) (HT.out.on HB.out.1.below)).mono ?_
  rintro e w1 ⟨v1, rfl, hO1, hE1⟩
  have H1 : Hid (Out B w1 v1 (zs ++ decI n0) ∧ Ex B X w1 ∧ B ≤ w1.heap.size ∧ (zs ++ decI n0).length ≤ zs.length + 21) := ⟨hO1, hE1, hE1.size HB.out.2.1, by rw [List.length_append]; have := decI_len HI.out.1; omega⟩
  clear hO1 hE1 c0
  have c1 : w1.cell? ⟨w.heap.size, 1, none⟩ = some (.int .i64 n1) := (cell_of_row w1 _ _ _ _ _ (H1.out.2.1.blk HB.out.2.2.2.1 (by decide))).trans rfl
  have c9 : w1.cell? ⟨w.heap.size, 9, none⟩ = some (.slice a9 m9 p9) := (cell_of_row w1 _ _ _ _ _ (H1.out.2.1.blk HB.out.2.2.2.1 (by decide))).trans rfl
  have e0 : w1.cell? ⟨w.heap.size + 1, 0, none⟩ = some (.int .i64 n10) := (cell_of_row w1 _ _ _ _ _ (H1.out.2.1.blk HB.out.2.2.2.2 (by decide))).trans rfl
  have e1 : w1.cell? ⟨w.heap.size + 1, 1, none⟩ = some (.int .i64 n11) := (cell_of_row w1 _ _ _ _ _ (H1.out.2.1.blk HB.out.2.2.2.2 (by decide))).trans rfl
  have e2 : w1.cell? ⟨w.heap.size + 1, 2, none⟩ = some (.int .i64 n12) := (cell_of_row w1 _ _ _ _ _ (H1.out.2.1.blk HB.out.2.2.2.2 (by decide))).trans rfl
  have e3 : w1.cell? ⟨w.heap.size + 1, 3, none⟩ = some (.int .i64 n13) := (cell_of_row w1 _ _ _ _ _ (H1.out.2.1.blk HB.out.2.2.2.2 (by decide))).trans rfl
  have e4 : w1.cell? ⟨w.heap.size + 1, 4, none⟩ = some (.int .i64 n14) := (cell_of_row w1 _ _ _ _ _ (H1.out.2.1.blk HB.out.2.2.2.2 (by decide))).trans rfl
  have e5 : w1.cell? ⟨w.heap.size + 1, 5, none⟩ = some (.int .i64 n15) := (cell_of_row w1 _ _ _ _ _ (H1.out.2.1.blk HB.out.2.2.2.2 (by decide))).trans rfl
  have e6 : w1.cell? ⟨w.heap.size + 1, 6, none⟩ = some (.int .i64 n16) := (cell_of_row w1 _ _ _ _ _ (H1.out.2.1.blk HB.out.2.2.2.2 (by decide))).trans rfl
  have e7 : w1.cell? ⟨w.heap.size + 1, 7, none⟩ = some (.int .i64 n17) := (cell_of_row w1 _ _ _ _ _ (H1.out.2.1.blk HB.out.2.2.2.2 (by decide))).trans rfl
  go_wp2_with fail
  refine (addNumbers_out (B := B) (zs := zs ++ decI n0) (H1.out.1.alloc _) 32 (by decide) w1.heap.size [n1, n10, n11, n12, n13, n14, n15, n16, n17, (m9 : Int)] (heap_alloc_new w1 _) (i64s10 HI.out.2.1 HI.out.2.2.2.2.2.1 HI.out.2.2.2.2.2.2.1 HI.out.2.2.2.2.2.2.2.1 HI.out.2.2.2.2.2.2.2.2.1 HI.out.2.2.2.2.2.2.2.2.2.1 HI.out.2.2.2.2.2.2.2.2.2.2.1 HI.out.2.2.2.2.2.2.2.2.2.2.2.1 HI.out.2.2.2.2.2.2.2.2.2.2.2.2 (i64sN m9 s9)) (by simp) (by simp) (by have := H1.out.2.2.1; simp; omega) (by have := H1.out.2.2.2; omega) (HT.out.on ((HB.out.1.trans H1.out.2.1).alloc H1.out.2.2.1 _).below)).mono ?_
  rintro e w2 ⟨v2, rfl, hO2, hE2⟩
  obtain ⟨Z, hZ⟩ : ∃ Z, Z = zs ++ decI n0 ++ numB 32 [n1, n10, n11, n12, n13, n14, n15, n16, n17, (m9 : Int)] := ⟨_, rfl⟩
  have H2 : Hid (Out B w2 v2 Z ∧ Ex B X w2 ∧ Z.length ≤ zs.length + 241 ∧ Z = zs ++ decI n0 ++ numB 32 [n1, n10, n11, n12, n13, n14, n15, n16, n17, (m9 : Int)]) := by
    refine ⟨by rw [hZ]; exact hO2, (H1.out.2.1.alloc H1.out.2.2.1 _).trans hE2, ?_, hZ⟩
    have h5 := numB_len (mark := 32) (i64s10 HI.out.2.1 HI.out.2.2.2.2.2.1 HI.out.2.2.2.2.2.2.1 HI.out.2.2.2.2.2.2.2.1 HI.out.2.2.2.2.2.2.2.2.1 HI.out.2.2.2.2.2.2.2.2.2.1 HI.out.2.2.2.2.2.2.2.2.2.2.1 HI.out.2.2.2.2.2.2.2.2.2.2.2.1 HI.out.2.2.2.2.2.2.2.2.2.2.2.2 (i64sN m9 s9))
    have h6 := H1.out.2.2.2
    rw [hZ, List.length_append]
    simp only [List.length_cons, List.length_nil] at h5
    omega
  clear hO2 hE2 hZ H1 c1 c9 e0 e1 e2 e3 e4 e5 e6 e7
  have c8 : w2.cell? ⟨w.heap.size, 8, none⟩ = some (.slice a8 m8 p8) := (cell_of_row w2 _ _ _ _ _ (H2.out.2.1.blk HB.out.2.2.2.1 (by decide))).trans rfl
  go_wp2
  clear c8
  go_loopw [0, 42] (fun v i wr => ∃ k : Nat, k ≤ m8 ∧ i = .int .i64 (k : Int) ∧ Out B wr v (Z ++ (tellR (L8.take k)).flatMap ackD) ∧ Ex B X wr) (fun _ i _ => m8 - (intOf i).toNat)
  case atStart => exact ⟨0, Nat.zero_le _, rfl, by simpa using H2.out.1, H2.out.2.1⟩
  case round =>
    obtain ⟨k, hk, rfl, hOr, hE⟩ := hrel
    have HR : Hid (Out B wr u0 (Z ++ (tellR (L8.take k)).flatMap ackD) ∧ Ex B X wr ∧ B ≤ wr.heap.size) := ⟨hOr, hE, hE.size HB.out.2.1⟩
    clear hOr hE
    have hlen : Hid ((Z ++ (tellR (L8.take k)).flatMap ackD).length ≤ 2147483648 + 241 + 112 * 1048576) := by
      have h1 := acks_len (tellR (L8.take k)) (fun x hx => HO.out.2.2.2.2.1.ok.nu x (by rw [tellR, List.map_take] at hx; exact List.mem_of_mem_take hx))
      have h2 := totTo_le L8 k
      have h3 := HO.out.2.2.2.2.2.2.1
      have h4 := H2.out.2.2.1
      show _ ≤ _
      rw [List.length_append]
      unfold totTo at h2
      rw [List.length_map, List.length_take] at h1
      omega
    by_cases hlt : k < m8
    · obtain ⟨e, he⟩ : ∃ e, L8[k]? = some e := ⟨_, List.getElem?_eq_getElem (by rw [HN.out.2.2]; exact hlt)⟩
      obtain ⟨hf, hrd, bb, off, hab, hc⟩ := HO.out.2.2.2.2.1 wr (HB.out.1.trans HR.out.2.1).below k e he
      obtain ⟨x0, x1, x2, x3, x4, rfl⟩ := fitAck hf
      subst hab
      have q0 : wr.cell? ⟨bb, off + k * 5, none⟩ = some (.int .i64 x0) := hc 0 _ rfl
      have q1 : wr.cell? ⟨bb, off + k * 5 + 1, none⟩ = some (.int .i64 x1) := hc 1 _ rfl
      have q2 : wr.cell? ⟨bb, off + k * 5 + 2, none⟩ = some (.int .i64 x2) := hc 2 _ rfl
      have q3 : wr.cell? ⟨bb, off + k * 5 + 3, none⟩ = some (.int .i64 x3) := hc 3 _ rfl
      have q4 : wr.cell? ⟨bb, off + k * 5 + 4, none⟩ = some (.int .i64 x4) := hc 4 _ rfl
      have HJ : Hid (L8[k]? = some [.int x0, .int x1, .int x2, .int x3, .int x4] ∧ ∀ y ∈ [x0, x1, x2, x3, x4], I64 y) := ⟨he, i64s5 (hrd (.int x0) (by simp)).isInt (hrd (.int x1) (by simp)).isInt (hrd (.int x2) (by simp)).isInt (hrd (.int x3) (by simp)).isInt (hrd (.int x4) (by simp)).isInt⟩
      clear hc hf hrd he
      have hkI : (k : Int) < (m8 : Int) := by omega
      go_upto_region 7 with fail
      generalize hY : wr.alloc (.cells #[.int .i64 x0, .int .i64 x1, .int .i64 x2, .int .i64 x3, .int .i64 x4] 53) = Y
      have HX : Hid (Ex B w Y ∧ B ≤ Y.heap.size ∧ Out B Y u0 (Z ++ (tellR (L8.take k)).flatMap ackD) ∧ Y.heap[wr.heap.size]? = some (.cells #[.int .i64 x0, .int .i64 x1, .int .i64 x2, .int .i64 x3, .int .i64 x4] 53 (0, 0))) := by
        subst hY
        exact ⟨(HB.out.1.trans HR.out.2.1).alloc HR.out.2.2 _, by have := HR.out.2.2; simp; omega, HR.out.1.alloc _, heap_alloc_new wr _⟩
      have HY : Hid (Ex B X Y) := by
        subst hY
        exact HR.out.2.1.alloc HR.out.2.2 _
      clear hY q0 q1 q2 q3 q4
      refine wp_region_Z (fun W => W.heap[wr.heap.size]? = some (.cells #[.int .i64 x0, .int .i64 x1, .int .i64 x2, .int .i64 x3, .int .i64 x4] 53 (0, 0))) (fun _ => false) (by kernel_rfl) ?_
      have hS : Y.drew.heap[wr.heap.size]? = some (.cells #[.int .i64 x0, .int .i64 x1, .int .i64 x2, .int .i64 x3, .int .i64 x4] 53 (0, 0)) := HX.out.2.2.2
      refine wpAnyZ_take' (i := 0) (v := ?vz29) rfl (by kernel_rfl) (by kernel_rfl) (by kernel_rfl) (fun _ _ _ h => h) (Or.inl ⟨by rfl, ?yz29⟩) ?rz29
      case yz29 => (intro w _; go_simp; first | done | with_reducible rfl)
      simp only [Act.put, List.setIfInBounds_toArray, List.set_cons_zero, List.set_cons_succ]
      refine wpAnyZ_take' (i := 2) (v := ?vz30) rfl (by kernel_rfl) (by kernel_rfl) (by kernel_rfl) (fun _ _ _ h => h) (Or.inl ⟨by rfl, ?yz30⟩) ?rz30
      case yz30 => (intro w _; go_simp; first | done | with_reducible rfl)
      simp only [Act.put, List.setIfInBounds_toArray, List.set_cons_zero, List.set_cons_succ]
      refine wpAnyZ_loadS (i := 3) (v := ?vz31) rfl (by kernel_rfl) (by kernel_rfl) (by kernel_rfl) (fun _ _ _ h => h) (fun _ => rfl) (Or.inl ⟨by rfl, ?yz31⟩) hS ?rz31
      case yz31 => (intro W hW; have c0 : W.cell? ⟨wr.heap.size, 0, none⟩ = some (.int .i64 x0) := (cell_of_row W _ _ _ _ _ hW).trans rfl; go_simp; first | done | with_reducible rfl)
      simp only [Act.put, List.setIfInBounds_toArray, List.set_cons_zero, List.set_cons_succ]
      refine wpAnyZ_take' (i := 4) (v := ?vz32) rfl (by kernel_rfl) (by kernel_rfl) (by kernel_rfl) (fun _ _ _ h => h) (Or.inl ⟨by rfl, ?yz32⟩) ?rz32
      case yz32 => (intro w _; go_simp; first | done | with_reducible rfl)
      simp only [Act.put, List.setIfInBounds_toArray, List.set_cons_zero, List.set_cons_succ]
      refine wpAnyZ_loadS (i := 5) (v := ?vz33) rfl (by kernel_rfl) (by kernel_rfl) (by kernel_rfl) (fun _ _ _ h => h) (fun _ => rfl) (Or.inl ⟨by rfl, ?yz33⟩) hS ?rz33
      case yz33 => (intro W hW; have c0 : W.cell? ⟨wr.heap.size, 1, none⟩ = some (.int .i64 x1) := (cell_of_row W _ _ _ _ _ hW).trans rfl; go_simp; first | done | with_reducible rfl)
      simp only [Act.put, List.setIfInBounds_toArray, List.set_cons_zero, List.set_cons_succ]
      refine wpAnyZ_take' (i := 6) (v := ?vz34) rfl (by kernel_rfl) (by kernel_rfl) (by kernel_rfl) (fun _ _ _ h => h) (Or.inl ⟨by rfl, ?yz34⟩) ?rz34
      case yz34 => (intro w _; go_simp; first | done | with_reducible rfl)
      simp only [Act.put, List.setIfInBounds_toArray, List.set_cons_zero, List.set_cons_succ]
      refine wpAnyZ_loadS (i := 7) (v := ?vz35) rfl (by kernel_rfl) (by kernel_rfl) (by kernel_rfl) (fun _ _ _ h => h) (fun _ => rfl) (Or.inl ⟨by rfl, ?yz35⟩) hS ?rz35
      case yz35 => (intro W hW; have c0 : W.cell? ⟨wr.heap.size, 2, none⟩ = some (.int .i64 x2) := (cell_of_row W _ _ _ _ _ hW).trans rfl; go_simp; first | done | with_reducible rfl)
      simp only [Act.put, List.setIfInBounds_toArray, List.set_cons_zero, List.set_cons_succ]
      refine wpAnyZ_take' (i := 8) (v := ?vz36) rfl (by kernel_rfl) (by kernel_rfl) (by kernel_rfl) (fun _ _ _ h => h) (Or.inl ⟨by rfl, ?yz36⟩) ?rz36
      case yz36 => (intro w _; go_simp; first | done | with_reducible rfl)
      simp only [Act.put, List.setIfInBounds_toArray, List.set_cons_zero, List.set_cons_succ]
      refine wpAnyZ_loadS (i := 9) (v := ?vz37) rfl (by kernel_rfl) (by kernel_rfl) (by kernel_rfl) (fun _ _ _ h => h) (fun _ => rfl) (Or.inl ⟨by rfl, ?yz37⟩) hS ?rz37
      case yz37 => (intro W hW; have c0 : W.cell? ⟨wr.heap.size, 3, none⟩ = some (.int .i64 x3) := (cell_of_row W _ _ _ _ _ hW).trans rfl; go_simp; first | done | with_reducible rfl)
      simp only [Act.put, List.setIfInBounds_toArray, List.set_cons_zero, List.set_cons_succ]
      refine wpAnyZ_take' (i := 10) (v := ?vz38) rfl (by kernel_rfl) (by kernel_rfl) (by kernel_rfl) (fun _ _ _ h => h) (Or.inl ⟨by rfl, ?yz38⟩) ?rz38
      case yz38 => (intro w _; go_simp; first | done | with_reducible rfl)
      simp only [Act.put, List.setIfInBounds_toArray, List.set_cons_zero, List.set_cons_succ]
      refine wpAnyZ_loadS (i := 11) (v := ?vz39) rfl (by kernel_rfl) (by kernel_rfl) (by kernel_rfl) (fun _ _ _ h => h) (fun _ => rfl) (Or.inl ⟨by rfl, ?yz39⟩) hS ?rz39
      case yz39 => (intro W hW; have c0 : W.cell? ⟨wr.heap.size, 4, none⟩ = some (.int .i64 x4) := (cell_of_row W _ _ _ _ _ hW).trans rfl; go_simp; first | done | with_reducible rfl)
      simp only [Act.put, List.setIfInBounds_toArray, List.set_cons_zero, List.set_cons_succ]
      refine wpAnyZ_two' (i := 1) (k := 12) (by kernel_rfl) rfl rfl (fun K hK => ?_) (fun K hK => ?_)
      · (refine step_out_s (by rfl) (.tmp 46) _ (by rfl) (B := B) (zs := Z ++ (tellR (L8.take k)).flatMap ackD) (by rfl) (by exact HX.out.2.2.1.heap rfl) [32, 97] (by rfl) (by rfl) (by decide) (by have := hlen.out; simp at this ⊢; omega) (by exact HX.out.2.1) ?_; intro v1 w1 H1)
        refine hK.out _ _ (fun _ h => H1.out.2.blk h (by decide)) ?_
        clear hK K
        simp only [Act.put, List.setIfInBounds_toArray, List.set_cons_zero, List.set_cons_succ]
        have H2 : Hid (Ex B Y w1 ∧ B ≤ w1.heap.size) := ⟨((Ex.refl B Y).same (x := Y.drew) ⟨rfl, rfl, rfl, rfl⟩).trans H1.out.2, H1.out.2.size (by exact HX.out.2.1)⟩
        refine wpAnyZ_one' (i := 12) (by kernel_rfl) rfl (fun K hK => ?_)
        go_simp
        refine hK.out _ _ (fun _ h => grown_blk (World.grownBy_alloc _ _ _) h) ?_
        clear hK K
        try simp only [Act.put, List.setIfInBounds_toArray, List.set_cons_zero, List.set_cons_succ]
        have H3 : Hid (Ex B Y (w1.alloc (.cells #[.int .i64 x0, .int .i64 x1, .int .i64 x2, .int .i64 x3, .int .i64 x4] 3))) := H2.out.1.alloc H2.out.2 _
        refine wpAnyZ_one' (i := 13) (by kernel_rfl) rfl (fun K hK => ?_)
        go_simp
        go_at_call 18
        refine (addNumbers_out (B := B) (zs := Z ++ (tellR (L8.take k)).flatMap ackD ++ [32, 97]) (H1.out.1.alloc _) 58 (by decide) w1.heap.size [x0, x1, x2, x3, x4] (heap_alloc_new w1 _) HJ.out.2 (by simp) (by simp) (by have := H2.out.2; simp; omega) (by have := hlen.out; rw [List.length_append]; simp at this ⊢; omega) (HT.out.on (HX.out.1.trans H3.out).below)).mono ?_
        rintro e w3 ⟨v3, rfl, hO3, hE3⟩
        have H4 : Hid (Out B w3 v3 (Z ++ (tellR (L8.take k)).flatMap ackD ++ [32, 97] ++ numB 58 [x0, x1, x2, x3, x4]) ∧ Ex B Y w3) := ⟨hO3, H3.out.trans hE3⟩
        go_wp2_with fail
        refine hK.out _ _ (fun _ h => hE3.blk h (by decide)) ?_
        clear hK K
        try simp only [Act.put, List.setIfInBounds_toArray, List.set_cons_zero, List.set_cons_succ]
        refine wpAnyZ_one' (i := 14) (by kernel_rfl) rfl (fun K hK => ?_)
        go_simp
        refine hK.out _ _ (fun _ h => h) ?_
        clear hK K
        try simp only [Act.put, List.setIfInBounds_toArray, List.set_cons_zero, List.set_cons_succ]
        refine wpAnyZ_done (by kernel_rfl) ?_ _
        have H5 : Hid (Out B w3 v3 (Z ++ (tellR (L8.take (k + 1))).flatMap ackD) ∧ Ex B X w3) := by
          refine ⟨?_, HY.out.trans H4.out.2⟩
          rw [flat_snoc _ HJ.out.1, ← List.append_assoc]
          exact (List.append_assoc _ _ _) ▸ H4.out.1
        go_wp2
        go_roundw
        case rel => exact ⟨k + 1, by omega, by go_num, H5.out.1, H5.out.2⟩
        case measure => simp [intOf]; omega
      · go_simp
        refine hK.out _ _ (fun _ h => grown_blk (World.grownBy_alloc _ _ _) h) ?_
        clear hK K
        try simp only [Act.put, List.setIfInBounds_toArray, List.set_cons_zero, List.set_cons_succ]
        have H2 : Hid (Ex B Y (Y.drew.alloc (.cells #[.int .i64 x0, .int .i64 x1, .int .i64 x2, .int .i64 x3, .int .i64 x4] 3)) ∧ B ≤ (Y.drew.alloc (.cells #[.int .i64 x0, .int .i64 x1, .int .i64 x2, .int .i64 x3, .int .i64 x4] 3)).heap.size) := ⟨((Ex.refl B Y).same (x := Y.drew) ⟨rfl, rfl, rfl, rfl⟩).alloc (by exact HX.out.2.1) _, by have := HX.out.2.1; simp; omega⟩
        refine wpAnyZ_one' (i := 1) (by kernel_rfl) rfl (fun K hK => ?_)
        (refine step_out_s (by rfl) (.tmp 46) _ (by rfl) (B := B) (zs := Z ++ (tellR (L8.take k)).flatMap ackD) (by rfl) (by exact (HX.out.2.2.1.heap (x := Y.drew) rfl).alloc _) [32, 97] (by rfl) (by rfl) (by decide) (by have := hlen.out; simp at this ⊢; omega) (by exact H2.out.2) ?_; intro v1 w1 H1)
        refine hK.out _ _ (fun _ h => H1.out.2.blk h (by decide)) ?_
        clear hK K
        simp only [Act.put, List.setIfInBounds_toArray, List.set_cons_zero, List.set_cons_succ]
        have H3 : Hid (Ex B Y w1) := H2.out.1.trans H1.out.2
        refine wpAnyZ_one' (i := 13) (by kernel_rfl) rfl (fun K hK => ?_)
        go_simp
        go_at_call 18
        refine (addNumbers_out (B := B) (zs := Z ++ (tellR (L8.take k)).flatMap ackD ++ [32, 97]) H1.out.1 58 (by decide) Y.heap.size [x0, x1, x2, x3, x4] (H1.out.2.blk (heap_alloc_new Y.drew _) (by decide)) HJ.out.2 (by simp) (by simp) (H3.out.size HX.out.2.1) (by have := hlen.out; rw [List.length_append]; simp at this ⊢; omega) (HT.out.on (HX.out.1.trans H3.out).below)).mono ?_
        rintro e w3 ⟨v3, rfl, hO3, hE3⟩
        have H4 : Hid (Out B w3 v3 (Z ++ (tellR (L8.take k)).flatMap ackD ++ [32, 97] ++ numB 58 [x0, x1, x2, x3, x4]) ∧ Ex B Y w3) := ⟨hO3, H3.out.trans hE3⟩
        go_wp2_with fail
        refine hK.out _ _ (fun _ h => hE3.blk h (by decide)) ?_
        clear hK K
        try simp only [Act.put, List.setIfInBounds_toArray, List.set_cons_zero, List.set_cons_succ]
        refine wpAnyZ_one' (i := 14) (by kernel_rfl) rfl (fun K hK => ?_)
        go_simp
        refine hK.out _ _ (fun _ h => h) ?_
        clear hK K
        try simp only [Act.put, List.setIfInBounds_toArray, List.set_cons_zero, List.set_cons_succ]
        refine wpAnyZ_done (by kernel_rfl) ?_ _
        have H5 : Hid (Out B w3 v3 (Z ++ (tellR (L8.take (k + 1))).flatMap ackD) ∧ Ex B X w3) := by
          refine ⟨?_, HY.out.trans H4.out.2⟩
          rw [flat_snoc _ HJ.out.1, ← List.append_assoc]
          exact (List.append_assoc _ _ _) ▸ H4.out.1
        go_wp2
        go_roundw
        case rel => exact ⟨k + 1, by omega, by go_num, H5.out.1, H5.out.2⟩
        case measure => simp [intOf]; omega
    · obtain rfl : k = m8 := by omega
      obtain ⟨Z2, hZ2⟩ : ∃ Z2, Z2 = Z ++ (tellR L8).flatMap ackD := ⟨_, rfl⟩
      have H3 : Hid (Out B wr u0 Z2 ∧ Ex B X wr ∧ B ≤ wr.heap.size ∧ Z2.length ≤ 2147483648 + 241 + 112 * 1048576 ∧ Z2 = Z ++ (tellR L8).flatMap ackD) := by
        have h1 := HR.out.1
        have h2 := hlen.out
        rw [← HN.out.2.2, List.take_length] at h1 h2
        rw [← hZ2] at h1 h2
        exact ⟨h1, HR.out.2.1, HR.out.2.2, h2, hZ2⟩
      clear hZ2 HR hlen
      have c2 : wr.cell? ⟨w.heap.size, 2, none⟩ = some (.int .i64 n2) := (cell_of_row wr _ _ _ _ _ (H3.out.2.1.blk HB.out.2.2.2.1 (by decide))).trans rfl
      have c3 : wr.cell? ⟨w.heap.size, 3, none⟩ = some (.int .i64 n3) := (cell_of_row wr _ _ _ _ _ (H3.out.2.1.blk HB.out.2.2.2.1 (by decide))).trans rfl
      have c4 : wr.cell? ⟨w.heap.size, 4, none⟩ = some (.slice a4 m4 p4) := (cell_of_row wr _ _ _ _ _ (H3.out.2.1.blk HB.out.2.2.2.1 (by decide))).trans rfl
      go_upto_region 10 with fail
      generalize hY : wr.alloc (.cells #[.int .i64 n2, .int .i64 n3, .slice a4 m4 p4] 40) = Y
      have H4 : Hid (Out B Y u0 Z2 ∧ Ex B X Y ∧ B ≤ Y.heap.size ∧ Y.heap[wr.heap.size]? = some (.cells #[.int .i64 n2, .int .i64 n3, .slice a4 m4 p4] 40 (0, 0))) := by
        subst hY
        exact ⟨H3.out.1.alloc _, H3.out.2.1.alloc H3.out.2.2.1 _, by have := H3.out.2.2.1; simp; omega, heap_alloc_new wr _⟩
      clear hY c2 c3 c4
      obtain ⟨tb, HQ⟩ : ∃ tb : Bool, Hid ((¬ (n2 = 0 ∧ n3 = 0 ∧ m4 = 0) → tb = true) ∧ ((n2 = 0 ∧ n3 = 0 ∧ m4 = 0) → tb = false)) := ⟨!decide (n2 = 0 ∧ n3 = 0 ∧ m4 = 0), fun h => by simp [h], fun h => by simp [h]⟩
      go_cut [76] (fun t wx => t = .bool tb ∧ wx = Y)
      case first =>
        have c0 : Y.cell? ⟨wr.heap.size, 0, none⟩ = some (.int .i64 n2) := (cell_of_row Y _ _ _ _ _ (H4.out.2.2.2)).trans rfl
        have c1 : Y.cell? ⟨wr.heap.size, 1, none⟩ = some (.int .i64 n3) := (cell_of_row Y _ _ _ _ _ (H4.out.2.2.2)).trans rfl
        have c2 : Y.cell? ⟨wr.heap.size, 2, none⟩ = some (.slice a4 m4 p4) := (cell_of_row Y _ _ _ _ _ (H4.out.2.2.2)).trans rfl
        by_cases h1 : n2 = 0
        · subst h1
          by_cases h2 : n3 = 0
          · subst h2
            by_cases h3 : m4 = 0
            · subst h3
              obtain rfl := HQ.out.2 ⟨rfl, rfl, rfl⟩
              go_wp2_with fail
              go_meet
              case rel => exact ⟨rfl, rfl⟩
            · have h3b : decide ((0 : Int) < (m4 : Int)) = true := by simp; omega
              have h3c : (0 : Int) < (m4 : Int) := by omega
              obtain rfl := HQ.out.1 (fun h => h3 h.2.2)
              go_wp2_with fail
              go_meet
              case rel => exact ⟨congrArg Value.bool (decide_eq_true (Nat.pos_of_ne_zero h3)), rfl⟩
          · have h2b : (n3 != 0) = true := by simpa using h2
            obtain rfl := HQ.out.1 (fun h => h2 h.2.1)
            go_wp2_with fail
            go_meet
            case rel => exact ⟨rfl, rfl⟩
        · have h1b : (n2 != 0) = true := by simpa using h1
          obtain rfl := HQ.out.1 (fun h => h1 h.1)
          go_wp2_with fail
          go_meet
          case rel => exact ⟨rfl, rfl⟩
      case rest =>
        obtain ⟨rfl, h9⟩ := hcut
        have h9 := h9.symm
        subst h9
        go_upto_if 76 with fail
        go_cut [0] (fun v wx => Out B wx v (Z2 ++ itemO n2 n3 d4) ∧ Ex B X wx)
        case first =>
          by_cases hz : n2 = 0 ∧ n3 = 0 ∧ m4 = 0
          · obtain rfl := HQ.out.2 hz
            have HZ : Hid (itemO n2 n3 d4 = []) := by
              show _ = _
              rw [itemO, if_pos ⟨hz.1, hz.2.1, List.length_eq_zero_iff.1 (by rw [HN.out.1]; exact hz.2.2)⟩]
            clear hz
            go_wp2_with fail
            go_meet
            case rel => exact ⟨by rw [HZ.out, List.append_nil]; exact H4.out.1, H4.out.2.1⟩
          · obtain rfl := HQ.out.1 hz
            have HZ : Hid (itemO n2 n3 d4 = itemT [32, 105] n2 n3 d4) := by
              show _ = _
              rw [itemO, if_neg]
              rintro ⟨h1, h2, h3⟩
              exact hz ⟨h1, h2, by rw [← HN.out.1, h3]; rfl⟩
            clear hz
            have c0 : Y.cell? ⟨wr.heap.size, 0, none⟩ = some (.int .i64 n2) := (cell_of_row Y _ _ _ _ _ (H4.out.2.2.2)).trans rfl
            have c1 : Y.cell? ⟨wr.heap.size, 1, none⟩ = some (.int .i64 n3) := (cell_of_row Y _ _ _ _ _ (H4.out.2.2.2)).trans rfl
            have c2 : Y.cell? ⟨wr.heap.size, 2, none⟩ = some (.slice a4 m4 p4) := (cell_of_row Y _ _ _ _ _ (H4.out.2.2.2)).trans rfl
            go_wp2_with fail
            refine calls_argsT (args := #[u0, .string ⟨#[32, 105]⟩, .agg #[.int .i64 n2, .int .i64 n3, .slice a4 d4.length p4]]) (by rw [HN.out.1]) ?_
            refine (addItem_out H4.out.1 ⟨#[32, 105]⟩ [32, 105] rfl (by decide) (by decide) n2 n3 HI.out.2.2.1 HI.out.2.2.2.1 a4 d4 p4 (HO.out.2.2.1.on (HB.out.1.trans H4.out.2.1).below) HO.out.2.2.2.2.2.2.2 H4.out.2.2.1 (by have := H3.out.2.2.2.1; omega) (HT.out.on (HB.out.1.trans H4.out.2.1).below)).mono ?_
            rintro e w3 ⟨v3, rfl, hO3, hE3⟩
            have H5 : Hid (Out B w3 v3 (Z2 ++ itemO n2 n3 d4) ∧ Ex B X w3) := ⟨by rw [HZ.out]; exact hO3, H4.out.2.1.trans hE3⟩
            clear hO3 hE3 c0 c1 c2
            go_wp2_with fail
            go_meet
            case rel => exact H5.out
        case rest =>
          obtain ⟨hO1, hE1⟩ := hcut
          have H6 : Hid (Out B wc u0 (Z2 ++ itemO n2 n3 d4) ∧ Ex B X wc ∧ B ≤ wc.heap.size ∧ (Z2 ++ itemO n2 n3 d4).length ≤ 3221225472) := ⟨hO1, hE1, hE1.size HB.out.2.1, by have h1 := itemO_len HI.out.2.2.1 HI.out.2.2.2.1 d4; have h2 := H3.out.2.2.2.1; have h3 := HO.out.2.2.2.2.2.2.2; rw [List.length_append]; omega⟩
          clear hO1 hE1
          have c5 : wc.cell? ⟨w.heap.size, 5, none⟩ = some (.int .i64 n5) := (cell_of_row wc _ _ _ _ _ (H6.out.2.1.blk HB.out.2.2.2.1 (by decide))).trans rfl
          have c6 : wc.cell? ⟨w.heap.size, 6, none⟩ = some (.slice a6 m6 p6) := (cell_of_row wc _ _ _ _ _ (H6.out.2.1.blk HB.out.2.2.2.1 (by decide))).trans rfl
          have c7 : wc.cell? ⟨w.heap.size, 7, none⟩ = some (.slice a7 m7 p7) := (cell_of_row wc _ _ _ _ _ (H6.out.2.1.blk HB.out.2.2.2.1 (by decide))).trans rfl
          go_wp2_with fail
          refine calls_argsT (args := #[u0, .agg #[.int .i64 n5, .slice a6 L6.length p6, .slice a7 m7 p7]]) (by rw [HN.out.2.1]) ?_
          refine (addService_out H6.out.1 n5 HI.out.2.2.2.2.1 L6 a6 p6 a7 m7 p7 (HO.out.2.2.2.1.on (HB.out.1.trans H6.out.2.1).below) HO.out.2.2.2.2.2.1 H6.out.2.2.1 H6.out.2.2.2 (HT.out.on (HB.out.1.trans H6.out.2.1).below)).mono ?_
          rintro e w5 ⟨v5, rfl, hO5, hE5⟩
          have H7 : Hid (Out B w5 v5 (Z2 ++ itemO n2 n3 d4 ++ serviceT n5 (tellR L6)) ∧ Ex B X w5 ∧ B ≤ w5.heap.size ∧ (Z2 ++ itemO n2 n3 d4 ++ serviceT n5 (tellR L6)).length ≤ 3221225472 + 24 + 64 * 1048576) := ⟨hO5, H6.out.2.1.trans hE5, (H6.out.2.1.trans hE5).size HB.out.2.1, by have h1 := serviceT_len HI.out.2.2.2.2.1 (tellR L6) HO.out.2.2.2.1.ok.nu; have h2 := H6.out.2.2.2; have h3 := HO.out.2.2.2.2.2.1; unfold totR at h3; rw [List.length_map] at h1; rw [List.length_append]; omega⟩
          clear hO5 hE5 c5 c6 c7
          go_wp2_with (at_builtin; refine wpList_out_b (by rfl) (.tmp 84) (.tmp 85) (by rfl) (B := B) (zs := Z2 ++ itemO n2 n3 d4 ++ serviceT n5 (tellR L6)) (by rfl) (by exact H7.out.1.alloc _) (oa := some ⟨w5.heap.size, 0, none⟩) (m := 1) (c := 1) (ys := [10]) (by rfl) (by exact one_byte w5 10 (by decide) _) (by decide) (by have := H7.out.2.2.2; omega) (by have := H7.out.2.2.1; simp; omega) ?_; intro v6 w6 H8)
          go_ret
          refine ⟨_, rfl, ?_, HB.out.1.trans ((H7.out.2.1.alloc H7.out.2.2.1 _).trans H8.out.2)⟩
          have h9 := H8.out.1
          rw [H3.out.2.2.2.2, H2.out.2.2.2] at h9
          simpa [obsT] using h9
end Go.Proofs.YtkjjglnbbahbkaaDoor

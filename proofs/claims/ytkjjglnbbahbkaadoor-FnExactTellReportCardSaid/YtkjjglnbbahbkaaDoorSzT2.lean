/-
  The laws' sz.. over reports, walked.
-/
import Derived.Test.YtkjjglnbbahbkaaDoorSzT
namespace Go.Proofs.YtkjjglnbbahbkaaDoor
open Go.RowKit

set_option maxRecDepth 4000 in
set_option maxHeartbeats 4000000 in
theorem szObs_any (n0 : Int) (n1 : Int) (n2 : Int) (n3 : Int) (d4 : List Nat) (a4 : Option Addr) (p4 : Nat) (n5 : Int) (L6 : List (List Tr)) (a6 : Option Addr) (p6 : Nat) (L7 : List (List Tr)) (a7 : Option Addr) (p7 : Nat) (L8 : List (List Tr)) (a8 : Option Addr) (p8 : Nat) (L9 : List (List Tr)) (a9 : Option Addr) (p9 : Nat) (n10 : Int) (n11 : Int) (n12 : Int) (n13 : Int) (n14 : Int) (n15 : Int) (n16 : Int) (n17 : Int) (m : Nat) (w : World) (b4 : d4.length ≤ maxLen) (h6 : RowOk w kItem a6 L6) (b6 : L6.length ≤ maxLen) (h7 : RowOk w kSession a7 L7) (b7 : L7.length ≤ maxLen) (h8 : RowOk w kAck a8 L8) (b8 : L8.length ≤ maxLen) (h9 : RowOk w kMessage a9 L9) (b9 : L9.length ≤ maxLen) (hm : m ≤ 1048576) :
    Calls Tryd.prog 22 #[.agg #[.int .i64 n0, .int .i64 n1, .int .i64 n2, .int .i64 n3, .slice a4 d4.length p4, .int .i64 n5, .slice a6 L6.length p6, .slice a7 L7.length p7, .slice a8 L8.length p8, .slice a9 L9.length p9, .int .i64 n10, .int .i64 n11, .int .i64 n12, .int .i64 n13, .int .i64 n14, .int .i64 n15, .int .i64 n16, .int .i64 n17], .int .i64 (m : Int)] w fun e w' => ∃ v : Int, e = .returned (.int .i64 v) ∧ ((d4.length + totR L6 + totR L7 + totR L8 + totR L9 ≤ m ∧ v = (m : Int) - ((d4.length + totR L6 + totR L7 + totR L8 + totR L9 : Nat) : Int)) ∨ (m < d4.length + totR L6 + totR L7 + totR L8 + totR L9 ∧ v = -1)) ∧ w.grownBy w' none := by
  have C0 : Hid (∀ (Y : World) (z : Nat), w.grownBy Y none → z ≤ 1048576 → Calls Tryd.prog 32 #[.agg #[.int .i64 n2, .int .i64 n3, .slice a4 d4.length p4], .int .i64 (z : Int)] Y fun e w' => ∃ v : Int, e = .returned (.int .i64 v) ∧ ((d4.length ≤ z ∧ v = (z : Int) - ((d4.length : Nat) : Int)) ∨ (z < d4.length ∧ v = -1)) ∧ Y.grownBy w' none) := fun Y z hY hz => szItem_any n2 n3 d4 a4 p4 z Y b4 hz
  have C1 : Hid (∀ (Y : World) (z : Nat), w.grownBy Y none → z ≤ 1048576 → Calls Tryd.prog 33 #[.agg #[.int .i64 n5, .slice a6 L6.length p6, .slice a7 L7.length p7], .int .i64 (z : Int)] Y fun e w' => ∃ v : Int, e = .returned (.int .i64 v) ∧ ((totR L6 + totR L7 ≤ z ∧ v = (z : Int) - ((totR L6 + totR L7 : Nat) : Int)) ∨ (z < totR L6 + totR L7 ∧ v = -1)) ∧ Y.grownBy w' none) := fun Y z hY hz => szService_any n5 L6 a6 p6 L7 a7 p7 z Y (h6.grown0 hY) b6 (h7.grown0 hY) b7 hz
  have C2 : Hid (∀ (Y : World) (z : Nat), w.grownBy Y none → z ≤ 1048576 → Calls Tryd.prog 34 #[.slice a8 L8.length p8, .int .i64 (z : Int)] Y fun e w' => ∃ v : Int, e = .returned (.int .i64 v) ∧ ((totR L8 ≤ z ∧ v = (z : Int) - ((totR L8 : Nat) : Int)) ∨ (z < totR L8 ∧ v = -1)) ∧ Y.grownBy w' none) := fun Y z hY hz => szAckS_any L8 a8 p8 z Y (h8.grown0 hY) b8 hz
  have C3 : Hid (∀ (Y : World) (z : Nat), w.grownBy Y none → z ≤ 1048576 → Calls Tryd.prog 35 #[.slice a9 L9.length p9, .int .i64 (z : Int)] Y fun e w' => ∃ v : Int, e = .returned (.int .i64 v) ∧ ((totR L9 ≤ z ∧ v = (z : Int) - ((totR L9 : Nat) : Int)) ∨ (z < totR L9 ∧ v = -1)) ∧ Y.grownBy w' none) := fun Y z hY hz => szMessageS_any L9 a9 p9 z Y (h9.grown0 hY) b9 hz
  have HW : Hid (∀ Y : World, (w.alloc (.cells #[.int .i64 n0, .int .i64 n1, .int .i64 n2, .int .i64 n3, .slice a4 d4.length p4, .int .i64 n5, .slice a6 L6.length p6, .slice a7 L7.length p7, .slice a8 L8.length p8, .slice a9 L9.length p9, .int .i64 n10, .int .i64 n11, .int .i64 n12, .int .i64 n13, .int .i64 n14, .int .i64 n15, .int .i64 n16, .int .i64 n17] 69)).grownBy Y none → Y.cell? ⟨w.heap.size, 4, none⟩ = some (.slice a4 d4.length p4) ∧ Y.cell? ⟨w.heap.size, 6, none⟩ = some (.slice a6 L6.length p6) ∧ Y.cell? ⟨w.heap.size, 7, none⟩ = some (.slice a7 L7.length p7) ∧ Y.cell? ⟨w.heap.size, 8, none⟩ = some (.slice a8 L8.length p8) ∧ Y.cell? ⟨w.heap.size, 9, none⟩ = some (.slice a9 L9.length p9)) := fun Y hY => by
    have x0 : Y.heap[w.heap.size]? = some (.cells #[.int .i64 n0, .int .i64 n1, .int .i64 n2, .int .i64 n3, .slice a4 d4.length p4, .int .i64 n5, .slice a6 L6.length p6, .slice a7 L7.length p7, .slice a8 L8.length p8, .slice a9 L9.length p9, .int .i64 n10, .int .i64 n11, .int .i64 n12, .int .i64 n13, .int .i64 n14, .int .i64 n15, .int .i64 n16, .int .i64 n17] 69 (0, 0)) := (hY.block _ (by simp) (by simp)).trans (heap_alloc_new w _)
    simp [World.cell?, x0]
  have HV : Hid (∀ Y : World, (w.alloc (.cells #[.int .i64 n0, .int .i64 n1, .int .i64 n2, .int .i64 n3, .slice a4 d4.length p4, .int .i64 n5, .slice a6 L6.length p6, .slice a7 L7.length p7, .slice a8 L8.length p8, .slice a9 L9.length p9, .int .i64 n10, .int .i64 n11, .int .i64 n12, .int .i64 n13, .int .i64 n14, .int .i64 n15, .int .i64 n16, .int .i64 n17] 69)).grownBy Y none → Y.cell? ⟨w.heap.size, 2, none⟩ = some (.int .i64 n2) ∧ Y.cell? ⟨w.heap.size, 3, none⟩ = some (.int .i64 n3) ∧ Y.cell? ⟨w.heap.size, 5, none⟩ = some (.int .i64 n5)) := fun Y hY => by
    have x0 : Y.heap[w.heap.size]? = some (.cells #[.int .i64 n0, .int .i64 n1, .int .i64 n2, .int .i64 n3, .slice a4 d4.length p4, .int .i64 n5, .slice a6 L6.length p6, .slice a7 L7.length p7, .slice a8 L8.length p8, .slice a9 L9.length p9, .int .i64 n10, .int .i64 n11, .int .i64 n12, .int .i64 n13, .int .i64 n14, .int .i64 n15, .int .i64 n16, .int .i64 n17] 69 (0, 0)) := (hY.block _ (by simp) (by simp)).trans (heap_alloc_new w _)
    simp [World.cell?, x0]
  have HG : Hid (w.grownBy (w.alloc (.cells #[.int .i64 n0, .int .i64 n1, .int .i64 n2, .int .i64 n3, .slice a4 d4.length p4, .int .i64 n5, .slice a6 L6.length p6, .slice a7 L7.length p7, .slice a8 L8.length p8, .slice a9 L9.length p9, .int .i64 n10, .int .i64 n11, .int .i64 n12, .int .i64 n13, .int .i64 n14, .int .i64 n15, .int .i64 n16, .int .i64 n17] 69)) none) := World.grownBy_alloc _ _ _
  clear b4 h6 b6 h7 b7 h8 b8 h9 b9
  go_enter Tryd.func22, Tryd.ntmps22
  go_wp2_with fail
  refine (C0.out _ m HG.out hm).mono ?_
  rintro e w1 ⟨v0, rfl, hv0, hG1⟩
  have HY : Hid ((w.alloc (.cells #[.int .i64 n0, .int .i64 n1, .int .i64 n2, .int .i64 n3, .slice a4 d4.length p4, .int .i64 n5, .slice a6 L6.length p6, .slice a7 L7.length p7, .slice a8 L8.length p8, .slice a9 L9.length p9, .int .i64 n10, .int .i64 n11, .int .i64 n12, .int .i64 n13, .int .i64 n14, .int .i64 n15, .int .i64 n16, .int .i64 n17] 69)).grownBy w1 none) := hG1
  clear hG1
  have hC := HW.out w1 HY.out
  have hD := HV.out w1 HY.out
  rcases hv0 with ⟨hle, rfl⟩ | ⟨hgt, rfl⟩
  rotate_left
  · have HX : Hid (m < d4.length) := hgt
    clear hgt
    go_wp2
    go_ret
    exact ⟨-1, rfl, .inr ⟨by have hx := HX.out;  omega, rfl⟩, grownBy_trans HG.out HY.out⟩
  obtain ⟨m0, hmm⟩ : ∃ z, m - (d4.length) = z := ⟨_, rfl⟩
  have hmi : (m : Int) - ((d4.length : Nat) : Int) = (m0 : Int) := by omega
  have hm0 : m0 ≤ 1048576 := by omega
  have E0 : Hid (d4.length ≤ m ∧ m - (d4.length) = m0) := ⟨hle, hmm⟩
  rw [hmi]
  clear hle hmm hmi
  go_wp2_with fail
  refine (C1.out _ m0 (grownBy_trans HG.out HY.out) hm0).mono ?_
  rintro e w2 ⟨v1, rfl, hv1, hG2⟩
  have HY : Hid ((w.alloc (.cells #[.int .i64 n0, .int .i64 n1, .int .i64 n2, .int .i64 n3, .slice a4 d4.length p4, .int .i64 n5, .slice a6 L6.length p6, .slice a7 L7.length p7, .slice a8 L8.length p8, .slice a9 L9.length p9, .int .i64 n10, .int .i64 n11, .int .i64 n12, .int .i64 n13, .int .i64 n14, .int .i64 n15, .int .i64 n16, .int .i64 n17] 69)).grownBy w2 none) := grownBy_trans HY.out hG2
  clear hG2 hC hD
  have hC := HW.out w2 HY.out
  have hD := HV.out w2 HY.out
  rcases hv1 with ⟨hle, rfl⟩ | ⟨hgt, rfl⟩
  rotate_left
  · have HX : Hid (m0 < totR L6 + totR L7) := hgt
    clear hgt
    go_wp2
    go_ret
    exact ⟨-1, rfl, .inr ⟨by have hx := HX.out; have e0 := E0.out; omega, rfl⟩, grownBy_trans HG.out HY.out⟩
  obtain ⟨m1, hmm⟩ : ∃ z, m0 - (totR L6 + totR L7) = z := ⟨_, rfl⟩
  have hmi : (m0 : Int) - ((totR L6 + totR L7 : Nat) : Int) = (m1 : Int) := by omega
  have hm1 : m1 ≤ 1048576 := by omega
  have E1 : Hid (totR L6 + totR L7 ≤ m0 ∧ m0 - (totR L6 + totR L7) = m1) := ⟨hle, hmm⟩
  rw [hmi]
  clear hle hmm hmi
  go_wp2_with fail
  refine (C2.out _ m1 (grownBy_trans HG.out HY.out) hm1).mono ?_
  rintro e w3 ⟨v2, rfl, hv2, hG3⟩
  have HY : Hid ((w.alloc (.cells #[.int .i64 n0, .int .i64 n1, .int .i64 n2, .int .i64 n3, .slice a4 d4.length p4, .int .i64 n5, .slice a6 L6.length p6, .slice a7 L7.length p7, .slice a8 L8.length p8, .slice a9 L9.length p9, .int .i64 n10, .int .i64 n11, .int .i64 n12, .int .i64 n13, .int .i64 n14, .int .i64 n15, .int .i64 n16, .int .i64 n17] 69)).grownBy w3 none) := grownBy_trans HY.out hG3
  clear hG3 hC hD
  have hC := HW.out w3 HY.out
  have hD := HV.out w3 HY.out
  rcases hv2 with ⟨hle, rfl⟩ | ⟨hgt, rfl⟩
  rotate_left
  · have HX : Hid (m1 < totR L8) := hgt
    clear hgt
    go_wp2
    go_ret
    exact ⟨-1, rfl, .inr ⟨by have hx := HX.out; have e0 := E0.out; have e1 := E1.out; omega, rfl⟩, grownBy_trans HG.out HY.out⟩
  obtain ⟨m2, hmm⟩ : ∃ z, m1 - (totR L8) = z := ⟨_, rfl⟩
  have hmi : (m1 : Int) - ((totR L8 : Nat) : Int) = (m2 : Int) := by omega
  have hm2 : m2 ≤ 1048576 := by omega
  have E2 : Hid (totR L8 ≤ m1 ∧ m1 - (totR L8) = m2) := ⟨hle, hmm⟩
  rw [hmi]
  clear hle hmm hmi
  go_wp2_with fail
  refine (C3.out _ m2 (grownBy_trans HG.out HY.out) hm2).mono ?_
  rintro e w4 ⟨v3, rfl, hv3, hG4⟩
  have HY : Hid ((w.alloc (.cells #[.int .i64 n0, .int .i64 n1, .int .i64 n2, .int .i64 n3, .slice a4 d4.length p4, .int .i64 n5, .slice a6 L6.length p6, .slice a7 L7.length p7, .slice a8 L8.length p8, .slice a9 L9.length p9, .int .i64 n10, .int .i64 n11, .int .i64 n12, .int .i64 n13, .int .i64 n14, .int .i64 n15, .int .i64 n16, .int .i64 n17] 69)).grownBy w4 none) := grownBy_trans HY.out hG4
  clear hG4 hC hD
  have hC := HW.out w4 HY.out
  have hD := HV.out w4 HY.out
  rcases hv3 with ⟨hle, rfl⟩ | ⟨hgt, rfl⟩
  rotate_left
  · have HX : Hid (m2 < totR L9) := hgt
    clear hgt
    go_wp2
    go_ret
    exact ⟨-1, rfl, .inr ⟨by have hx := HX.out; have e0 := E0.out; have e1 := E1.out; have e2 := E2.out; omega, rfl⟩, grownBy_trans HG.out HY.out⟩
  obtain ⟨m3, hmm⟩ : ∃ z, m2 - (totR L9) = z := ⟨_, rfl⟩
  have hmi : (m2 : Int) - ((totR L9 : Nat) : Int) = (m3 : Int) := by omega
  have hm3 : m3 ≤ 1048576 := by omega
  have E3 : Hid (totR L9 ≤ m2 ∧ m2 - (totR L9) = m3) := ⟨hle, hmm⟩
  rw [hmi]
  clear hle hmm hmi
  go_wp2
  go_ret
  exact ⟨_, rfl, .inl ⟨by have e0 := E0.out; have e1 := E1.out; have e2 := E2.out; have e3 := E3.out; omega, by have e0 := E0.out; have e1 := E1.out; have e2 := E2.out; have e3 := E3.out; omega⟩, grownBy_trans HG.out HY.out⟩
set_option maxRecDepth 4000 in
set_option maxHeartbeats 4000000 in
theorem szObsS_any (L : List (List Tr)) (a : Option Addr) (p m : Nat) (w : World) (h : RowOk w kObs a L) (hb : L.length ≤ maxLen) (hm : m ≤ 1048576) :
    Calls Tryd.prog 13 #[.slice a L.length p, .int .i64 (m : Int)] w fun e w' => ∃ v : Int, e = .returned (.int .i64 v) ∧ ((totR L ≤ m ∧ v = (m : Int) - ((totR L : Nat) : Int)) ∨ (m < totR L ∧ v = -1)) ∧ w.grownBy w' none := by
  have HR : Hid (RowOk w kObs a L) := h
  unfold maxLen at hb
  clear h
  obtain ⟨n, hn⟩ : ∃ n, L.length = n := ⟨_, rfl⟩
  have HN : Hid (L.length = n) := hn
  rw [hn] at hb ⊢
  clear hn
  by_cases hbig : m < n
  · have HB : Hid (m < totR L) := by have := totR_len L; have h2 := HN.out; show m < totR L; omega
    go_enter Tryd.func13, Tryd.ntmps13
    go_wp2
    go_ret
    exact ⟨-1, rfl, .inr ⟨HB.out, rfl⟩, grownBy_refl _ _⟩
  have H0 : Hid (totTo L 0 = n) := by show _ = _; rw [totTo_zero]; exact HN.out
  go_enter Tryd.func13, Tryd.ntmps13
  go_wp2
  go_loopw [1, 5] (fun q i wr => ∃ k : Nat, k ≤ n ∧ i = .int .i64 (k : Int) ∧ q = .int .i64 ((m : Int) - (totTo L k : Int)) ∧ totTo L k ≤ m ∧ w.grownBy wr none) (fun _ i _ => n - (intOf i).toNat)
  case atStart => exact ⟨0, Nat.zero_le _, rfl, by rw [H0.out], by rw [H0.out]; omega, grownBy_refl _ _⟩
  case round =>
    obtain ⟨k, hk, rfl, rfl, hle, hG⟩ := hrel
    have HG : Hid (w.grownBy wr none) := hG
    clear hG
    by_cases hlt : k < n
    · obtain ⟨e, he⟩ : ∃ e, L[k]? = some e := ⟨_, List.getElem?_eq_getElem (by rw [HN.out]; exact hlt)⟩
      have HS : Hid (totTo L (k + 1) = totTo L k + tdEl (e.map Tr.tell) ∧ totTo L (k + 1) ≤ totR L) := ⟨totTo_succ he, totTo_le L _⟩
      obtain ⟨hf, hrd, b, off, hab, hc⟩ := HR.out.grown0 HG.out k e he
      obtain ⟨n0, n1, n2, n3, d4, a4, p4, n5, L6, a6, p6, L7, a7, p7, L8, a8, p8, L9, a9, p9, n10, n11, n12, n13, n14, n15, n16, n17, rfl⟩ := fitObs hf
      have HT : Hid (tdEl (List.map Tr.tell [.int n0, .int n1, .int n2, .int n3, .byt d4 a4 p4, .int n5, .row kItem.length a6 p6 L6, .row kSession.length a7 p7 L7, .row kAck.length a8 p8 L8, .row kMessage.length a9 p9 L9, .int n10, .int n11, .int n12, .int n13, .int n14, .int n15, .int n16, .int n17]) = d4.length + totR L6 + totR L7 + totR L8 + totR L9) := by show _ = _; simp only [List.map_cons, List.map_nil, tdEl, totR, tellR, List.length_map]; omega
      subst hab
      have c0 : wr.cell? ⟨b, off + k * 18, none⟩ = some (.int .i64 n0) := hc 0 _ rfl
      have c1 : wr.cell? ⟨b, off + k * 18 + 1, none⟩ = some (.int .i64 n1) := hc 1 _ rfl
      have c2 : wr.cell? ⟨b, off + k * 18 + 2, none⟩ = some (.int .i64 n2) := hc 2 _ rfl
      have c3 : wr.cell? ⟨b, off + k * 18 + 3, none⟩ = some (.int .i64 n3) := hc 3 _ rfl
      have c4 : wr.cell? ⟨b, off + k * 18 + 4, none⟩ = some (.slice a4 d4.length p4) := hc 4 _ rfl
      have c5 : wr.cell? ⟨b, off + k * 18 + 5, none⟩ = some (.int .i64 n5) := hc 5 _ rfl
      have c6 : wr.cell? ⟨b, off + k * 18 + 6, none⟩ = some (.slice a6 L6.length p6) := hc 6 _ rfl
      have c7 : wr.cell? ⟨b, off + k * 18 + 7, none⟩ = some (.slice a7 L7.length p7) := hc 7 _ rfl
      have c8 : wr.cell? ⟨b, off + k * 18 + 8, none⟩ = some (.slice a8 L8.length p8) := hc 8 _ rfl
      have c9 : wr.cell? ⟨b, off + k * 18 + 9, none⟩ = some (.slice a9 L9.length p9) := hc 9 _ rfl
      have c10 : wr.cell? ⟨b, off + k * 18 + 10, none⟩ = some (.int .i64 n10) := hc 10 _ rfl
      have c11 : wr.cell? ⟨b, off + k * 18 + 11, none⟩ = some (.int .i64 n11) := hc 11 _ rfl
      have c12 : wr.cell? ⟨b, off + k * 18 + 12, none⟩ = some (.int .i64 n12) := hc 12 _ rfl
      have c13 : wr.cell? ⟨b, off + k * 18 + 13, none⟩ = some (.int .i64 n13) := hc 13 _ rfl
      have c14 : wr.cell? ⟨b, off + k * 18 + 14, none⟩ = some (.int .i64 n14) := hc 14 _ rfl
      have c15 : wr.cell? ⟨b, off + k * 18 + 15, none⟩ = some (.int .i64 n15) := hc 15 _ rfl
      have c16 : wr.cell? ⟨b, off + k * 18 + 16, none⟩ = some (.int .i64 n16) := hc 16 _ rfl
      have c17 : wr.cell? ⟨b, off + k * 18 + 17, none⟩ = some (.int .i64 n17) := hc 17 _ rfl
      obtain ⟨z, hz⟩ : ∃ z, m - totTo L k = z := ⟨_, rfl⟩
      have hzI : (m : Int) - (totTo L k : Int) = (z : Int) := by omega
      have HM : Hid (m - totTo L k = z ∧ totTo L k ≤ m) := ⟨hz, hle⟩
      have hzb : z ≤ 1048576 := by omega
      have HK : Hid (∀ X : World, wr.grownBy X none → Calls Tryd.prog 22 #[.agg #[.int .i64 n0, .int .i64 n1, .int .i64 n2, .int .i64 n3, .slice a4 d4.length p4, .int .i64 n5, .slice a6 L6.length p6, .slice a7 L7.length p7, .slice a8 L8.length p8, .slice a9 L9.length p9, .int .i64 n10, .int .i64 n11, .int .i64 n12, .int .i64 n13, .int .i64 n14, .int .i64 n15, .int .i64 n16, .int .i64 n17], .int .i64 (z : Int)] X fun e w' => ∃ v : Int, e = .returned (.int .i64 v) ∧ ((d4.length + totR L6 + totR L7 + totR L8 + totR L9 ≤ z ∧ v = (z : Int) - ((d4.length + totR L6 + totR L7 + totR L8 + totR L9 : Nat) : Int)) ∨ (z < d4.length + totR L6 + totR L7 + totR L8 + totR L9 ∧ v = -1)) ∧ X.grownBy w' none) := fun X hs => szObs_any n0 n1 n2 n3 d4 a4 p4 n5 L6 a6 p6 L7 a7 p7 L8 a8 p8 L9 a9 p9 n10 n11 n12 n13 n14 n15 n16 n17 z X ((hrd (.byt d4 a4 p4) (by simp)).lenB) (((hrd (.row kItem.length a6 p6 L6) (by simp)).rowOk ((hf.2 6 _ _ rfl rfl)) (by decide)).grown0 hs) ((hrd (.row kItem.length a6 p6 L6) (by simp)).lenR) (((hrd (.row kSession.length a7 p7 L7) (by simp)).rowOk ((hf.2 7 _ _ rfl rfl)) (by decide)).grown0 hs) ((hrd (.row kSession.length a7 p7 L7) (by simp)).lenR) (((hrd (.row kAck.length a8 p8 L8) (by simp)).rowOk ((hf.2 8 _ _ rfl rfl)) (by decide)).grown0 hs) ((hrd (.row kAck.length a8 p8 L8) (by simp)).lenR) (((hrd (.row kMessage.length a9 p9 L9) (by simp)).rowOk ((hf.2 9 _ _ rfl rfl)) (by decide)).grown0 hs) ((hrd (.row kMessage.length a9 p9 L9) (by simp)).lenR) hzb
      rw [hzI]
      clear hz hzI hle hc hrd hf he
      have hkI : (k : Int) < (n : Int) := by omega
      go_wp2_with fail
      refine (HK.out _ (grownBy_refl _ _)).mono ?_
      rintro e w1 ⟨v, rfl, hv, hG1⟩
      have HG1 : Hid (w.grownBy w1 none) := grownBy_trans HG.out hG1
      clear hG1
      rcases hv with ⟨hle, rfl⟩ | ⟨hgt, rfl⟩
      · obtain ⟨y, hy⟩ : ∃ y, z - (d4.length + totR L6 + totR L7 + totR L8 + totR L9) = y := ⟨_, rfl⟩
        have hyI : (z : Int) - ((d4.length + totR L6 + totR L7 + totR L8 + totR L9 : Nat) : Int) = (y : Int) := by omega
        have HYY : Hid (z - (d4.length + totR L6 + totR L7 + totR L8 + totR L9) = y ∧ d4.length + totR L6 + totR L7 + totR L8 + totR L9 ≤ z) := ⟨hy, hle⟩
        have hyb : y ≤ 1048576 := by omega
        rw [hyI]
        clear hy hyI hle
        go_wp2
        go_roundw
        case rel => exact ⟨k + 1, by omega, by go_num, by have h1 := HS.out.1; rw [HT.out] at h1; have h2 := HM.out; have h3 := HYY.out; congr 1; omega, by have h1 := HS.out.1; rw [HT.out] at h1; have h2 := HM.out; have h3 := HYY.out; omega, HG1.out⟩
        case measure => simp [intOf]; omega
      · have HX : Hid (z < d4.length + totR L6 + totR L7 + totR L8 + totR L9) := hgt
        clear hgt
        go_wp2
        go_ret
        exact ⟨-1, rfl, .inr ⟨by have h1 := HS.out; rw [HT.out] at h1; have h2 := HM.out; have h3 := HX.out; omega, rfl⟩, HG1.out⟩
    · obtain rfl : k = n := by omega
      have HT : Hid (totTo L k = totR L) := by show _ = _; rw [← totTo_all, HN.out]
      obtain ⟨t, ht⟩ : ∃ t, totTo L k = t := ⟨_, rfl⟩
      have HT2 : Hid (totTo L k = t) := ht
      obtain ⟨z, hz⟩ : ∃ z, m - totTo L k = z := ⟨_, rfl⟩
      have hzI : (m : Int) - (totTo L k : Int) = (z : Int) := by omega
      have HM : Hid (m - totTo L k = z ∧ totTo L k ≤ m) := ⟨hz, hle⟩
      have hzb : z ≤ 1048576 := by omega
      rw [hzI]
      clear hz hzI hle ht
      go_wp2
      go_ret
      exact ⟨_, rfl, .inl ⟨by rw [← HT.out]; exact HM.out.2, by rw [← HT.out]; have h2 := HM.out; omega⟩, HG.out⟩
set_option maxRecDepth 4000 in
set_option maxHeartbeats 4000000 in
theorem szReport_any (n0 : Int) (L1 : List (List Tr)) (a1 : Option Addr) (p1 : Nat) (m : Nat) (w : World) (h1 : RowOk w kObs a1 L1) (b1 : L1.length ≤ maxLen) (hm : m ≤ 1048576) :
    Calls Tryd.prog 4 #[.agg #[.int .i64 n0, .slice a1 L1.length p1], .int .i64 (m : Int)] w fun e w' => ∃ v : Int, e = .returned (.int .i64 v) ∧ ((totR L1 ≤ m ∧ v = (m : Int) - ((totR L1 : Nat) : Int)) ∨ (m < totR L1 ∧ v = -1)) ∧ w.grownBy w' none := by
  have C0 : Hid (∀ (Y : World) (z : Nat), w.grownBy Y none → z ≤ 1048576 → Calls Tryd.prog 13 #[.slice a1 L1.length p1, .int .i64 (z : Int)] Y fun e w' => ∃ v : Int, e = .returned (.int .i64 v) ∧ ((totR L1 ≤ z ∧ v = (z : Int) - ((totR L1 : Nat) : Int)) ∨ (z < totR L1 ∧ v = -1)) ∧ Y.grownBy w' none) := fun Y z hY hz => szObsS_any L1 a1 p1 z Y (h1.grown0 hY) b1 hz
  have HW : Hid (∀ Y : World, (w.alloc (.cells #[.int .i64 n0, .slice a1 L1.length p1] 24)).grownBy Y none → Y.cell? ⟨w.heap.size, 1, none⟩ = some (.slice a1 L1.length p1)) := fun Y hY => by
    have x0 : Y.heap[w.heap.size]? = some (.cells #[.int .i64 n0, .slice a1 L1.length p1] 24 (0, 0)) := (hY.block _ (by simp) (by simp)).trans (heap_alloc_new w _)
    simp [World.cell?, x0]
  have HG : Hid (w.grownBy (w.alloc (.cells #[.int .i64 n0, .slice a1 L1.length p1] 24)) none) := World.grownBy_alloc _ _ _
  clear h1 b1
  go_enter Tryd.func4, Tryd.ntmps4
  go_wp2_with fail
  refine (C0.out _ m HG.out hm).mono ?_
  rintro e w1 ⟨v0, rfl, hv0, hG1⟩
  have HY : Hid ((w.alloc (.cells #[.int .i64 n0, .slice a1 L1.length p1] 24)).grownBy w1 none) := hG1
  clear hG1
  have hC := HW.out w1 HY.out
  rcases hv0 with ⟨hle, rfl⟩ | ⟨hgt, rfl⟩
  rotate_left
  · have HX : Hid (m < totR L1) := hgt
    clear hgt
    go_wp2
    go_ret
    exact ⟨-1, rfl, .inr ⟨by have hx := HX.out;  omega, rfl⟩, grownBy_trans HG.out HY.out⟩
  obtain ⟨m0, hmm⟩ : ∃ z, m - (totR L1) = z := ⟨_, rfl⟩
  have hmi : (m : Int) - ((totR L1 : Nat) : Int) = (m0 : Int) := by omega
  have hm0 : m0 ≤ 1048576 := by omega
  have E0 : Hid (totR L1 ≤ m ∧ m - (totR L1) = m0) := ⟨hle, hmm⟩
  rw [hmi]
  clear hle hmm hmi
  go_wp2
  go_ret
  exact ⟨_, rfl, .inl ⟨by have e0 := E0.out; omega, by have e0 := E0.out; omega⟩, grownBy_trans HG.out HY.out⟩
end Go.Proofs.YtkjjglnbbahbkaaDoor

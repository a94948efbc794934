/-
  The laws' mark.. over the types of a report, walked: numbers are laid over, the places stay.
-/
import Derived.Test.YtkjjglnbbahbkaaDoorShapes
import Derived.Test.YtkjjglnbbahbkaaDoorMadeT
import Derived.Test.YtkjjglnbbahbkaaDoorMarkT2
import Derived.Deep.DeepCutAuto
import Derived.Deep.CutRange
namespace Go.Proofs.YtkjjglnbbahbkaaDoor
open Go.RowKit

set_option maxRecDepth 8000 in
set_option maxHeartbeats 8000000 in
theorem markObsS_any (L : List (List Tr)) (a : Option Addr) (p k0 : Nat) (lo : Nat → Prop) (w : World) (h : Dug w lo (.row kObs.length a p L)) (hf : Fits (.row kObs.length a p L) (.row kObs)) (s : k0 + 32 * totR L ≤ 1073741824) :
    Calls Tryd.prog 21 #[.slice a L.length p, .int .i64 (k0 : Int)] w fun e w' => ∃ v : Nat, e = .returned (.int .i64 (v : Int)) ∧ v ≤ k0 + 32 * totR L ∧ Mk lo w w' := by
  obtain ⟨g, rfl⟩ := h.place
  have hn : L.length ≤ totR L := totR_len L
  have HD : Hid (Dug w lo (.row kObs.length (some ⟨g, 0, none⟩) p L) ∧ (∀ (i : Nat) (e : List Tr), L[i]? = some e → FitsL e kObs) ∧ k0 + 32 * totR L ≤ 1073741824) := ⟨h, hf.els, s⟩
  clear h hf
  obtain ⟨n, hnn⟩ : ∃ n, L.length = n := ⟨_, rfl⟩
  have HN : Hid (L.length = n ∧ totTo L 0 = n) := ⟨hnn, by rw [totTo_zero]; exact hnn⟩
  rw [hnn] at hn ⊢
  obtain ⟨T, hT⟩ : ∃ T, totR L = T := ⟨_, rfl⟩
  have HT : Hid (totR L = T) := hT
  rw [hT] at hn s ⊢
  clear hnn hT
  go_enter Tryd.func21, Tryd.ntmps21
  go_wp2
  go_loopw [1, 5] (fun q i wr => ∃ k v : Nat, k ≤ n ∧ i = .int .i64 (k : Int) ∧ q = .int .i64 (v : Int) ∧ v + 32 * n ≤ k0 + 32 * k + 32 * totTo L k ∧ Mk lo w wr) (fun _ i _ => n - (intOf i).toNat)
  case atStart => exact ⟨0, k0, Nat.zero_le _, rfl, rfl, by rw [HN.out.2]; omega, Mk.refl _ _⟩
  case round =>
    obtain ⟨k, v, hk, rfl, rfl, hv, hM⟩ := hrel
    have HM : Hid (Mk lo w wr) := hM
    clear hM
    by_cases hlt : k < n
    · obtain ⟨e, he⟩ : ∃ e, L[k]? = some e := ⟨_, List.getElem?_eq_getElem (by rw [HN.out.1]; exact hlt)⟩
      have HS : Hid (totTo L (k + 1) = totTo L k + tdEl (e.map Tr.tell) ∧ totTo L (k + 1) ≤ T) := ⟨totTo_succ he, by rw [← HT.out]; exact totTo_le L _⟩
      have hf := HD.out.2.1 k e he
      have hsub := fun j y hj => HD.out.1.sub k j e y he hj
      have hcel := fun j y hj => HD.out.1.cell k j e y he hj
      obtain ⟨n0, n1, n2, n3, d4, a4, p4, n5, L6, a6, p6, L7, a7, p7, L8, a8, p8, L9, a9, p9, n10, n11, n12, n13, n14, n15, n16, n17, rfl⟩ := fitObs hf
      have HE : Hid (tdEl (List.map Tr.tell [.int n0, .int n1, .int n2, .int n3, .byt d4 a4 p4, .int n5, .row kItem.length a6 p6 L6, .row kSession.length a7 p7 L7, .row kAck.length a8 p8 L8, .row kMessage.length a9 p9 L9, .int n10, .int n11, .int n12, .int n13, .int n14, .int n15, .int n16, .int n17]) = d4.length + totR L6 + totR L7 + totR L8 + totR L9) := by show _ = _; simp only [List.map_cons, List.map_nil, tdEl, totR, tellR, List.length_map]; try omega
      have Q0 : Hid (∀ X, Mk lo w X → ∃ u : Int, X.cell? ⟨g, k * 18, none⟩ = some (.int .i64 u) ∧ X.frozen? ⟨g, k * 18, none⟩ = false) := fun X hX => (hcel 0 _ rfl).int hX
      have Q1 : Hid (∀ X, Mk lo w X → ∃ u : Int, X.cell? ⟨g, k * 18 + 1, none⟩ = some (.int .i64 u) ∧ X.frozen? ⟨g, k * 18 + 1, none⟩ = false) := fun X hX => (hcel 1 _ rfl).int hX
      have Q2 : Hid (∀ X, Mk lo w X → ∃ u : Int, X.cell? ⟨g, k * 18 + 2, none⟩ = some (.int .i64 u) ∧ X.frozen? ⟨g, k * 18 + 2, none⟩ = false) := fun X hX => (hcel 2 _ rfl).int hX
      have Q3 : Hid (∀ X, Mk lo w X → ∃ u : Int, X.cell? ⟨g, k * 18 + 3, none⟩ = some (.int .i64 u) ∧ X.frozen? ⟨g, k * 18 + 3, none⟩ = false) := fun X hX => (hcel 3 _ rfl).int hX
      have Q4 : Hid (∀ X, Mk lo w X → X.cell? ⟨g, k * 18 + 4, none⟩ = some (.slice a4 d4.length p4)) := fun X hX => (hcel 4 _ rfl).slice hX
      have C4 : Hid (∀ X (z : Nat), Mk lo w X → z + 32 * d4.length ≤ 1073741824 → Calls Tryd.prog 11 #[.slice a4 d4.length p4, .int .i64 (z : Int)] X fun e w' => ∃ v : Nat, e = .returned (.int .i64 (v : Int)) ∧ v ≤ z + 32 * d4.length ∧ Mk lo X w') := fun X z hX hz => markByteS_dug d4 a4 p4 z lo X ((hsub 4 _ rfl).mk hX) hz
      have Q5 : Hid (∀ X, Mk lo w X → ∃ u : Int, X.cell? ⟨g, k * 18 + 5, none⟩ = some (.int .i64 u) ∧ X.frozen? ⟨g, k * 18 + 5, none⟩ = false) := fun X hX => (hcel 5 _ rfl).int hX
      have Q6 : Hid (∀ X, Mk lo w X → X.cell? ⟨g, k * 18 + 6, none⟩ = some (.slice a6 L6.length p6)) := fun X hX => (hcel 6 _ rfl).slice hX
      have C6 : Hid (∀ X (z : Nat), Mk lo w X → z + 32 * totR L6 ≤ 1073741824 → Calls Tryd.prog 28 #[.slice a6 L6.length p6, .int .i64 (z : Int)] X fun e w' => ∃ v : Nat, e = .returned (.int .i64 (v : Int)) ∧ v ≤ z + 32 * totR L6 ∧ Mk lo X w') := fun X z hX hz => markItemS_any L6 a6 p6 z lo X ((hsub 6 _ rfl).mk hX) (hf.2 6 _ _ rfl rfl) hz
      have Q7 : Hid (∀ X, Mk lo w X → X.cell? ⟨g, k * 18 + 7, none⟩ = some (.slice a7 L7.length p7)) := fun X hX => (hcel 7 _ rfl).slice hX
      have C7 : Hid (∀ X (z : Nat), Mk lo w X → z + 32 * totR L7 ≤ 1073741824 → Calls Tryd.prog 29 #[.slice a7 L7.length p7, .int .i64 (z : Int)] X fun e w' => ∃ v : Nat, e = .returned (.int .i64 (v : Int)) ∧ v ≤ z + 32 * totR L7 ∧ Mk lo X w') := fun X z hX hz => markSessionS_any L7 a7 p7 z lo X ((hsub 7 _ rfl).mk hX) (hf.2 7 _ _ rfl rfl) hz
      have Q8 : Hid (∀ X, Mk lo w X → X.cell? ⟨g, k * 18 + 8, none⟩ = some (.slice a8 L8.length p8)) := fun X hX => (hcel 8 _ rfl).slice hX
      have C8 : Hid (∀ X (z : Nat), Mk lo w X → z + 32 * totR L8 ≤ 1073741824 → Calls Tryd.prog 30 #[.slice a8 L8.length p8, .int .i64 (z : Int)] X fun e w' => ∃ v : Nat, e = .returned (.int .i64 (v : Int)) ∧ v ≤ z + 32 * totR L8 ∧ Mk lo X w') := fun X z hX hz => markAckS_any L8 a8 p8 z lo X ((hsub 8 _ rfl).mk hX) (hf.2 8 _ _ rfl rfl) hz
      have Q9 : Hid (∀ X, Mk lo w X → X.cell? ⟨g, k * 18 + 9, none⟩ = some (.slice a9 L9.length p9)) := fun X hX => (hcel 9 _ rfl).slice hX
      have C9 : Hid (∀ X (z : Nat), Mk lo w X → z + 32 * totR L9 ≤ 1073741824 → Calls Tryd.prog 31 #[.slice a9 L9.length p9, .int .i64 (z : Int)] X fun e w' => ∃ v : Nat, e = .returned (.int .i64 (v : Int)) ∧ v ≤ z + 32 * totR L9 ∧ Mk lo X w') := fun X z hX hz => markMessageS_any L9 a9 p9 z lo X ((hsub 9 _ rfl).mk hX) (hf.2 9 _ _ rfl rfl) hz
      have Q10 : Hid (∀ X, Mk lo w X → ∃ u : Int, X.cell? ⟨g, k * 18 + 10, none⟩ = some (.int .i64 u) ∧ X.frozen? ⟨g, k * 18 + 10, none⟩ = false) := fun X hX => (hcel 10 _ rfl).int hX
      have Q11 : Hid (∀ X, Mk lo w X → ∃ u : Int, X.cell? ⟨g, k * 18 + 11, none⟩ = some (.int .i64 u) ∧ X.frozen? ⟨g, k * 18 + 11, none⟩ = false) := fun X hX => (hcel 11 _ rfl).int hX
      have Q12 : Hid (∀ X, Mk lo w X → ∃ u : Int, X.cell? ⟨g, k * 18 + 12, none⟩ = some (.int .i64 u) ∧ X.frozen? ⟨g, k * 18 + 12, none⟩ = false) := fun X hX => (hcel 12 _ rfl).int hX
      have Q13 : Hid (∀ X, Mk lo w X → ∃ u : Int, X.cell? ⟨g, k * 18 + 13, none⟩ = some (.int .i64 u) ∧ X.frozen? ⟨g, k * 18 + 13, none⟩ = false) := fun X hX => (hcel 13 _ rfl).int hX
      have Q14 : Hid (∀ X, Mk lo w X → ∃ u : Int, X.cell? ⟨g, k * 18 + 14, none⟩ = some (.int .i64 u) ∧ X.frozen? ⟨g, k * 18 + 14, none⟩ = false) := fun X hX => (hcel 14 _ rfl).int hX
      have Q15 : Hid (∀ X, Mk lo w X → ∃ u : Int, X.cell? ⟨g, k * 18 + 15, none⟩ = some (.int .i64 u) ∧ X.frozen? ⟨g, k * 18 + 15, none⟩ = false) := fun X hX => (hcel 15 _ rfl).int hX
      have Q16 : Hid (∀ X, Mk lo w X → ∃ u : Int, X.cell? ⟨g, k * 18 + 16, none⟩ = some (.int .i64 u) ∧ X.frozen? ⟨g, k * 18 + 16, none⟩ = false) := fun X hX => (hcel 16 _ rfl).int hX
      have Q17 : Hid (∀ X, Mk lo w X → ∃ u : Int, X.cell? ⟨g, k * 18 + 17, none⟩ = some (.int .i64 u) ∧ X.frozen? ⟨g, k * 18 + 17, none⟩ = false) := fun X hX => (hcel 17 _ rfl).int hX
      have HL : Hid (lo g) := HD.out.1.low
      have hvb : v + 32 + 32 * (d4.length + totR L6 + totR L7 + totR L8 + totR L9) ≤ 1073741824 := by have h1 := HS.out; rw [HE.out] at h1; have h2 := HD.out.2.2; have h3 := HT.out; omega
      have HV : Hid (v + 32 * n ≤ k0 + 32 * k + 32 * totTo L k) := hv
      clear hf hsub hcel he hv
      have hkI : (k : Int) < (n : Int) := by omega
      obtain ⟨u0, c0, f0⟩ := Q0.out wr HM.out
      obtain ⟨u1, c1, f1⟩ := Q1.out wr HM.out
      obtain ⟨u2, c2, f2⟩ := Q2.out wr HM.out
      obtain ⟨u3, c3, f3⟩ := Q3.out wr HM.out
      go_upto_region 12 with fail
      have K0 := HM.out
      have K1 := K0.setN (Q0.out _ K0) HL.out ((v : Int))
      have K2 := K1.setN (Q1.out _ K1) HL.out ((v : Int) + 1)
      have K3 := K2.setN (Q2.out _ K2) HL.out ((v : Int) + 1 + 1)
      have K4 := K3.setN (Q3.out _ K3) HL.out ((v : Int) + 1 + 1 + 1)
      generalize hW0 : ((((wr).setCell ⟨g, k * 18, none⟩ (.int .i64 ((v : Int)))).setCell ⟨g, k * 18 + 1, none⟩ (.int .i64 ((v : Int) + 1))).setCell ⟨g, k * 18 + 2, none⟩ (.int .i64 ((v : Int) + 1 + 1))).setCell ⟨g, k * 18 + 3, none⟩ (.int .i64 ((v : Int) + 1 + 1 + 1)) = W0 at K4 ⊢
      have HK0 : Hid (Mk lo w W0) := K4
      clear hW0 K0 K1 K2 K3 K4 c0 f0 c1 f1 c2 f2 c3 f3
      have c4 := Q4.out W0 HK0.out
      obtain ⟨z0, hz0⟩ : ∃ z : Nat, v + 4 = z := ⟨_, rfl⟩
      have hzI : (v : Int) + 1 + 1 + 1 + 1 = (z0 : Int) := by omega
      simp only [hzI]
      have E0 : Hid (v + 4 = z0) := hz0
      have hzb0 : z0 ≤ v + 4 := by omega
      clear hzI hz0
      go_wp2_with fail
      refine (C4.out _ z0 HK0.out (by omega)).mono ?_
      rintro e w1 ⟨v1, rfl, hv1, hM1⟩
      have HM1 : Hid (Mk lo w w1) := HK0.out.trans hM1
      clear hM1 c4
      obtain ⟨u5, c5, f5⟩ := Q5.out w1 HM1.out
      go_upto_region 15 with fail
      have K0 := HM1.out
      have K1 := K0.setN (Q5.out _ K0) HL.out ((v1 : Int))
      generalize hW1 : (w1).setCell ⟨g, k * 18 + 5, none⟩ (.int .i64 ((v1 : Int))) = W1 at K1 ⊢
      have HK1 : Hid (Mk lo w W1) := K1
      clear hW1 K0 K1 c5 f5
      have c6 := Q6.out W1 HK1.out
      obtain ⟨z1, hz1⟩ : ∃ z : Nat, v1 + 1 = z := ⟨_, rfl⟩
      have hzI : (v1 : Int) + 1 = (z1 : Int) := by omega
      simp only [hzI]
      have E1 : Hid (v1 + 1 = z1) := hz1
      have hzb1 : z1 ≤ v1 + 1 := by omega
      clear hzI hz1
      go_wp2_with fail
      refine (C6.out _ z1 HK1.out (by omega)).mono ?_
      rintro e w2 ⟨v2, rfl, hv2, hM2⟩
      have HM2 : Hid (Mk lo w w2) := HK1.out.trans hM2
      clear hM2 c6
      have c7 := Q7.out w2 HM2.out
      go_wp2_with fail
      refine (C7.out _ v2 HM2.out (by omega)).mono ?_
      rintro e w3 ⟨v3, rfl, hv3, hM3⟩
      have HM3 : Hid (Mk lo w w3) := HM2.out.trans hM3
      clear hM3 c7
      have c8 := Q8.out w3 HM3.out
      go_wp2_with fail
      refine (C8.out _ v3 HM3.out (by omega)).mono ?_
      rintro e w4 ⟨v4, rfl, hv4, hM4⟩
      have HM4 : Hid (Mk lo w w4) := HM3.out.trans hM4
      clear hM4 c8
      have c9 := Q9.out w4 HM4.out
      go_wp2_with fail
      refine (C9.out _ v4 HM4.out (by omega)).mono ?_
      rintro e w5 ⟨v5, rfl, hv5, hM5⟩
      have HM5 : Hid (Mk lo w w5) := HM4.out.trans hM5
      clear hM5 c9
      obtain ⟨u10, c10, f10⟩ := Q10.out w5 HM5.out
      obtain ⟨u11, c11, f11⟩ := Q11.out w5 HM5.out
      obtain ⟨u12, c12, f12⟩ := Q12.out w5 HM5.out
      obtain ⟨u13, c13, f13⟩ := Q13.out w5 HM5.out
      obtain ⟨u14, c14, f14⟩ := Q14.out w5 HM5.out
      obtain ⟨u15, c15, f15⟩ := Q15.out w5 HM5.out
      obtain ⟨u16, c16, f16⟩ := Q16.out w5 HM5.out
      obtain ⟨u17, c17, f17⟩ := Q17.out w5 HM5.out
      have HB : Hid (v5 + 8 ≤ v + 32 + 32 * (d4.length + totR L6 + totR L7 + totR L8 + totR L9)) := by show _ ≤ _; omega
      have hcb : v5 + 32 ≤ 1073741824 + 32 := by omega
      have K0 := HM5.out
      have K1 := K0.setN (Q10.out _ K0) HL.out ((v5 : Int))
      have K2 := K1.setN (Q11.out _ K1) HL.out ((v5 : Int) + 1)
      have K3 := K2.setN (Q12.out _ K2) HL.out ((v5 : Int) + 1 + 1)
      have K4 := K3.setN (Q13.out _ K3) HL.out ((v5 : Int) + 1 + 1 + 1)
      have K5 := K4.setN (Q14.out _ K4) HL.out ((v5 : Int) + 1 + 1 + 1 + 1)
      have K6 := K5.setN (Q15.out _ K5) HL.out ((v5 : Int) + 1 + 1 + 1 + 1 + 1)
      have K7 := K6.setN (Q16.out _ K6) HL.out ((v5 : Int) + 1 + 1 + 1 + 1 + 1 + 1)
      have K8 := K7.setN (Q17.out _ K7) HL.out ((v5 : Int) + 1 + 1 + 1 + 1 + 1 + 1 + 1)
      have HK : Hid _ := K8
      clear K0 K1 K2 K3 K4 K5 K6 K7 K8
      go_wp2
      go_roundw
      case rel => exact ⟨k + 1, v5 + 8, by omega, by go_num, by go_num, by have h1 := HS.out.1; rw [HE.out] at h1; have h2 := HV.out; have h3 := HB.out; omega, HK.out⟩
      case measure => simp [intOf]; omega
    · obtain rfl : k = n := by omega
      have HX : Hid (totTo L k = T) := by show _ = _; rw [← HT.out, ← totTo_all, HN.out.1]
      have HV : Hid (v ≤ k0 + 32 * T) := by show _ ≤ _; rw [HX.out] at hv; omega
      have hvb : v ≤ 1073741824 := by have := HV.out; omega
      clear hv
      go_wp2
      go_ret
      exact ⟨v, rfl, HV.out, HM.out⟩
end Go.Proofs.YtkjjglnbbahbkaaDoor

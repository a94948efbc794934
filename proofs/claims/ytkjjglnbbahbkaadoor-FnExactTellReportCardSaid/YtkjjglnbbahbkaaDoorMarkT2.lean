/-
  The laws' mark.. over the types of a report, walked: numbers are laid over, the places stay.
-/
import Derived.Test.YtkjjglnbbahbkaaDoorShapes
import Derived.Test.YtkjjglnbbahbkaaDoorMadeT
import Derived.Test.YtkjjglnbbahbkaaDoorMarkT
import Derived.Deep.DeepCutAuto
import Derived.Deep.CutRange
namespace Go.Proofs.YtkjjglnbbahbkaaDoor
open Go.RowKit

set_option maxRecDepth 8000 in
set_option maxHeartbeats 8000000 in
theorem markMessageS_any (L : List (List Tr)) (a : Option Addr) (p k0 : Nat) (lo : Nat → Prop) (w : World) (h : Dug w lo (.row kMessage.length a p L)) (hf : Fits (.row kMessage.length a p L) (.row kMessage)) (s : k0 + 32 * totR L ≤ 1073741824) :
    Calls Tryd.prog 31 #[.slice a L.length p, .int .i64 (k0 : Int)] w fun e w' => ∃ v : Nat, e = .returned (.int .i64 (v : Int)) ∧ v ≤ k0 + 32 * totR L ∧ Mk lo w w' := by
  obtain ⟨g, rfl⟩ := h.place
  have hn : L.length ≤ totR L := totR_len L
  have HD : Hid (Dug w lo (.row kMessage.length (some ⟨g, 0, none⟩) p L) ∧ (∀ (i : Nat) (e : List Tr), L[i]? = some e → FitsL e kMessage) ∧ k0 + 32 * totR L ≤ 1073741824) := ⟨h, hf.els, s⟩
  clear h hf
  obtain ⟨n, hnn⟩ : ∃ n, L.length = n := ⟨_, rfl⟩
  have HN : Hid (L.length = n ∧ totTo L 0 = n) := ⟨hnn, by rw [totTo_zero]; exact hnn⟩
  rw [hnn] at hn ⊢
  obtain ⟨T, hT⟩ : ∃ T, totR L = T := ⟨_, rfl⟩
  have HT : Hid (totR L = T) := hT
  rw [hT] at hn s ⊢
  clear hnn hT
  go_enter Tryd.func31, Tryd.ntmps31
  go_wp2
  go_loopw [1, 5] (fun q i wr => ∃ k v : Nat, k ≤ n ∧ i = .int .i64 (k : Int) ∧ q = .int .i64 (v : Int) ∧ v + 32 * n ≤ k0 + 32 * k + 32 * totTo L k ∧ Mk lo w wr) (fun _ i _ => n - (intOf i).toNat)
  case atStart => exact ⟨0, k0, Nat.zero_le _, rfl, rfl, by rw [HN.out.2]; omega, Mk.refl _ _⟩
  case round =>
    obtain ⟨k, v, hk, rfl, rfl, hv, hM⟩ := hrel
    have HM : Hid (Mk lo w wr) := hM
    clear hM
    by_cases hlt : k < n
    · obtain ⟨e, he⟩ : ∃ e, L[k]? = some e := ⟨_, List.getElem?_eq_getElem (by rw [HN.out.1]; exact hlt)⟩
      have HS : Hid (totTo L (k + 1) = totTo L k + tdEl (e.map Tr.tell) ∧ totTo L (k + 1) ≤ T) := ⟨totTo_succ he, by rw [← HT.out]; exact totTo_le L _⟩
      have hf := HD.out.2.1 k e he
      have hsub := fun j y hj => HD.out.1.sub k j e y he hj
      have hcel := fun j y hj => HD.out.1.cell k j e y he hj
      obtain ⟨n0, n1, n2, n3, n4, n5, n6, b7, L8, a8, p8, d9, a9, p9, rfl⟩ := fitMessage hf
      have HE : Hid (tdEl (List.map Tr.tell [.int n0, .int n1, .int n2, .int n3, .int n4, .int n5, .int n6, .bool b7, .row kEntry.length a8 p8 L8, .byt d9 a9 p9]) = totR L8 + d9.length) := by show _ = _; simp only [List.map_cons, List.map_nil, tdEl, totR, tellR, List.length_map]; try omega
      have Q0 : Hid (∀ X, Mk lo w X → ∃ u : Int, X.cell? ⟨g, k * 10, none⟩ = some (.int .i64 u) ∧ X.frozen? ⟨g, k * 10, none⟩ = false) := fun X hX => (hcel 0 _ rfl).int hX
      have Q1 : Hid (∀ X, Mk lo w X → ∃ u : Int, X.cell? ⟨g, k * 10 + 1, none⟩ = some (.int .i64 u) ∧ X.frozen? ⟨g, k * 10 + 1, none⟩ = false) := fun X hX => (hcel 1 _ rfl).int hX
      have Q2 : Hid (∀ X, Mk lo w X → ∃ u : Int, X.cell? ⟨g, k * 10 + 2, none⟩ = some (.int .i64 u) ∧ X.frozen? ⟨g, k * 10 + 2, none⟩ = false) := fun X hX => (hcel 2 _ rfl).int hX
      have Q3 : Hid (∀ X, Mk lo w X → ∃ u : Int, X.cell? ⟨g, k * 10 + 3, none⟩ = some (.int .i64 u) ∧ X.frozen? ⟨g, k * 10 + 3, none⟩ = false) := fun X hX => (hcel 3 _ rfl).int hX
      have Q4 : Hid (∀ X, Mk lo w X → ∃ u : Int, X.cell? ⟨g, k * 10 + 4, none⟩ = some (.int .i64 u) ∧ X.frozen? ⟨g, k * 10 + 4, none⟩ = false) := fun X hX => (hcel 4 _ rfl).int hX
      have Q5 : Hid (∀ X, Mk lo w X → ∃ u : Int, X.cell? ⟨g, k * 10 + 5, none⟩ = some (.int .i64 u) ∧ X.frozen? ⟨g, k * 10 + 5, none⟩ = false) := fun X hX => (hcel 5 _ rfl).int hX
      have Q6 : Hid (∀ X, Mk lo w X → ∃ u : Int, X.cell? ⟨g, k * 10 + 6, none⟩ = some (.int .i64 u) ∧ X.frozen? ⟨g, k * 10 + 6, none⟩ = false) := fun X hX => (hcel 6 _ rfl).int hX
      have Q7 : Hid (∀ X, Mk lo w X → ∃ u : Bool, X.cell? ⟨g, k * 10 + 7, none⟩ = some (.bool u) ∧ X.frozen? ⟨g, k * 10 + 7, none⟩ = false) := fun X hX => (hcel 7 _ rfl).bool hX
      have Q8 : Hid (∀ X, Mk lo w X → X.cell? ⟨g, k * 10 + 8, none⟩ = some (.slice a8 L8.length p8)) := fun X hX => (hcel 8 _ rfl).slice hX
      have C8 : Hid (∀ X (z : Nat), Mk lo w X → z + 32 * totR L8 ≤ 1073741824 → Calls Tryd.prog 48 #[.slice a8 L8.length p8, .int .i64 (z : Int)] X fun e w' => ∃ v : Nat, e = .returned (.int .i64 (v : Int)) ∧ v ≤ z + 32 * totR L8 ∧ Mk lo X w') := fun X z hX hz => markEntryS_any L8 a8 p8 z lo X ((hsub 8 _ rfl).mk hX) (hf.2 8 _ _ rfl rfl) hz
      have Q9 : Hid (∀ X, Mk lo w X → X.cell? ⟨g, k * 10 + 9, none⟩ = some (.slice a9 d9.length p9)) := fun X hX => (hcel 9 _ rfl).slice hX
      have C9 : Hid (∀ X (z : Nat), Mk lo w X → z + 32 * d9.length ≤ 1073741824 → Calls Tryd.prog 11 #[.slice a9 d9.length p9, .int .i64 (z : Int)] X fun e w' => ∃ v : Nat, e = .returned (.int .i64 (v : Int)) ∧ v ≤ z + 32 * d9.length ∧ Mk lo X w') := fun X z hX hz => markByteS_dug d9 a9 p9 z lo X ((hsub 9 _ rfl).mk hX) hz
      have HL : Hid (lo g) := HD.out.1.low
      have hvb : v + 32 + 32 * (totR L8 + d9.length) ≤ 1073741824 := by have h1 := HS.out; rw [HE.out] at h1; have h2 := HD.out.2.2; have h3 := HT.out; omega
      have HV : Hid (v + 32 * n ≤ k0 + 32 * k + 32 * totTo L k) := hv
      clear hf hsub hcel he hv
      have hkI : (k : Int) < (n : Int) := by omega
      obtain ⟨u0, c0, f0⟩ := Q0.out wr HM.out
      obtain ⟨u1, c1, f1⟩ := Q1.out wr HM.out
      obtain ⟨u2, c2, f2⟩ := Q2.out wr HM.out
      obtain ⟨u3, c3, f3⟩ := Q3.out wr HM.out
      obtain ⟨u4, c4, f4⟩ := Q4.out wr HM.out
      obtain ⟨u5, c5, f5⟩ := Q5.out wr HM.out
      obtain ⟨u6, c6, f6⟩ := Q6.out wr HM.out
      obtain ⟨u7, c7, f7⟩ := Q7.out wr HM.out
      go_upto_region 20 with fail
      have K0 := HM.out
      have K1 := K0.setN (Q0.out _ K0) HL.out ((v : Int))
      have K2 := K1.setN (Q1.out _ K1) HL.out ((v : Int) + 1)
      have K3 := K2.setN (Q2.out _ K2) HL.out ((v : Int) + 1 + 1)
      have K4 := K3.setN (Q3.out _ K3) HL.out ((v : Int) + 1 + 1 + 1)
      have K5 := K4.setN (Q4.out _ K4) HL.out ((v : Int) + 1 + 1 + 1 + 1)
      have K6 := K5.setN (Q5.out _ K5) HL.out ((v : Int) + 1 + 1 + 1 + 1 + 1)
      have K7 := K6.setN (Q6.out _ K6) HL.out ((v : Int) + 1 + 1 + 1 + 1 + 1 + 1)
      have K8 := K7.setB (Q7.out _ K7) HL.out (((v : Int) + 1 + 1 + 1 + 1 + 1 + 1 + 1) % 3 == 0)
      generalize hW0 : ((((((((wr).setCell ⟨g, k * 10, none⟩ (.int .i64 ((v : Int)))).setCell ⟨g, k * 10 + 1, none⟩ (.int .i64 ((v : Int) + 1))).setCell ⟨g, k * 10 + 2, none⟩ (.int .i64 ((v : Int) + 1 + 1))).setCell ⟨g, k * 10 + 3, none⟩ (.int .i64 ((v : Int) + 1 + 1 + 1))).setCell ⟨g, k * 10 + 4, none⟩ (.int .i64 ((v : Int) + 1 + 1 + 1 + 1))).setCell ⟨g, k * 10 + 5, none⟩ (.int .i64 ((v : Int) + 1 + 1 + 1 + 1 + 1))).setCell ⟨g, k * 10 + 6, none⟩ (.int .i64 ((v : Int) + 1 + 1 + 1 + 1 + 1 + 1))).setCell ⟨g, k * 10 + 7, none⟩ (.bool (((v : Int) + 1 + 1 + 1 + 1 + 1 + 1 + 1) % 3 == 0)) = W0 at K8 ⊢
      have HK0 : Hid (Mk lo w W0) := K8
      clear hW0 K0 K1 K2 K3 K4 K5 K6 K7 K8 c0 f0 c1 f1 c2 f2 c3 f3 c4 f4 c5 f5 c6 f6 c7 f7
      have c8 := Q8.out W0 HK0.out
      obtain ⟨z0, hz0⟩ : ∃ z : Nat, v + 8 = z := ⟨_, rfl⟩
      have hzI : (v : Int) + 1 + 1 + 1 + 1 + 1 + 1 + 1 + 1 = (z0 : Int) := by omega
      simp only [hzI]
      have E0 : Hid (v + 8 = z0) := hz0
      have hzb0 : z0 ≤ v + 8 := by omega
      clear hzI hz0
      go_wp2_with fail
      refine (C8.out _ z0 HK0.out (by omega)).mono ?_
      rintro e w1 ⟨v1, rfl, hv1, hM1⟩
      have HM1 : Hid (Mk lo w w1) := HK0.out.trans hM1
      clear hM1 c8
      have c9 := Q9.out w1 HM1.out
      go_wp2_with fail
      refine (C9.out _ v1 HM1.out (by omega)).mono ?_
      rintro e w2 ⟨v2, rfl, hv2, hM2⟩
      have HM2 : Hid (Mk lo w w2) := HM1.out.trans hM2
      clear hM2 c9
      have HB : Hid (v2 ≤ v + 32 + 32 * (totR L8 + d9.length)) := by show _ ≤ _; omega
      have hcb : v2 ≤ 1073741824 := by omega
      go_wp2
      go_roundw
      case rel => exact ⟨k + 1, _, by omega, by go_num, rfl, by have h1 := HS.out.1; rw [HE.out] at h1; have h2 := HV.out; have h3 := HB.out; omega, HM2.out⟩
      case measure => simp [intOf]; omega
    · obtain rfl : k = n := by omega
      have HX : Hid (totTo L k = T) := by show _ = _; rw [← HT.out, ← totTo_all, HN.out.1]
      have HV : Hid (v ≤ k0 + 32 * T) := by show _ ≤ _; rw [HX.out] at hv; omega
      have hvb : v ≤ 1073741824 := by have := HV.out; omega
      clear hv
      go_wp2
      go_ret
      exact ⟨v, rfl, HV.out, HM.out⟩
end Go.Proofs.YtkjjglnbbahbkaaDoor

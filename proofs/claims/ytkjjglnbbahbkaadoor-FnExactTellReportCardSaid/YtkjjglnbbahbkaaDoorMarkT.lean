/-
  The laws' mark.. over the types of a report, walked: numbers are laid over, the places stay.
-/
import Derived.Test.YtkjjglnbbahbkaaDoorShapes
import Derived.Test.YtkjjglnbbahbkaaDoorMadeT
import Derived.Test.YtkjjglnbbahbkaaDoorSzT
import Derived.Test.YtkjjglnbbahbkaaDoorMarkG
import Derived.Deep.DeepCutAuto
import Derived.Deep.CutRange
namespace Go.Proofs.YtkjjglnbbahbkaaDoor
open Go.RowKit

set_option maxRecDepth 8000 in
set_option maxHeartbeats 8000000 in
theorem markEntryS_any (L : List (List Tr)) (a : Option Addr) (p k0 : Nat) (lo : Nat → Prop) (w : World) (h : Dug w lo (.row kEntry.length a p L)) (hf : Fits (.row kEntry.length a p L) (.row kEntry)) (s : k0 + 32 * totR L ≤ 1073741824) :
    Calls Tryd.prog 48 #[.slice a L.length p, .int .i64 (k0 : Int)] w fun e w' => ∃ v : Nat, e = .returned (.int .i64 (v : Int)) ∧ v ≤ k0 + 32 * totR L ∧ Mk lo w w' := by
  obtain ⟨g, rfl⟩ := h.place
  have hn : L.length ≤ totR L := totR_len L
  have HD : Hid (Dug w lo (.row kEntry.length (some ⟨g, 0, none⟩) p L) ∧ (∀ (i : Nat) (e : List Tr), L[i]? = some e → FitsL e kEntry) ∧ k0 + 32 * totR L ≤ 1073741824) := ⟨h, hf.els, s⟩
  clear h hf
  obtain ⟨n, hnn⟩ : ∃ n, L.length = n := ⟨_, rfl⟩
  have HN : Hid (L.length = n ∧ totTo L 0 = n) := ⟨hnn, by rw [totTo_zero]; exact hnn⟩
  rw [hnn] at hn ⊢
  obtain ⟨T, hT⟩ : ∃ T, totR L = T := ⟨_, rfl⟩
  have HT : Hid (totR L = T) := hT
  rw [hT] at hn s ⊢
  clear hnn hT
  go_enter Tryd.func48, Tryd.ntmps48
  go_wp2
  go_loopw [1, 5] (fun q i wr => ∃ k v : Nat, k ≤ n ∧ i = .int .i64 (k : Int) ∧ q = .int .i64 (v : Int) ∧ v + 32 * n ≤ k0 + 32 * k + 32 * totTo L k ∧ Mk lo w wr) (fun _ i _ => n - (intOf i).toNat)
  case atStart => exact ⟨0, k0, Nat.zero_le _, rfl, rfl, by rw [HN.out.2]; omega, Mk.refl _ _⟩
  case round =>
    obtain ⟨k, v, hk, rfl, rfl, hv, hM⟩ := hrel
    have HM : Hid (Mk lo w wr) := hM
    clear hM
    by_cases hlt : k < n
    · obtain ⟨e, he⟩ : ∃ e, L[k]? = some e := ⟨_, List.getElem?_eq_getElem (by rw [HN.out.1]; exact hlt)⟩
      have HS : Hid (totTo L (k + 1) = totTo L k + tdEl (e.map Tr.tell) ∧ totTo L (k + 1) ≤ T) := ⟨totTo_succ he, by rw [← HT.out]; exact totTo_le L _⟩
      have hf := HD.out.2.1 k e he
      have hsub := fun j y hj => HD.out.1.sub k j e y he hj
      have hcel := fun j y hj => HD.out.1.cell k j e y he hj
      obtain ⟨n0, d1, a1, p1, rfl⟩ := fitEntry hf
      have HE : Hid (tdEl (List.map Tr.tell [.int n0, .byt d1 a1 p1]) = d1.length) := by show _ = _; simp only [List.map_cons, List.map_nil, tdEl]; try omega
      have Q0 : Hid (∀ X, Mk lo w X → ∃ u : Int, X.cell? ⟨g, k * 2, none⟩ = some (.int .i64 u) ∧ X.frozen? ⟨g, k * 2, none⟩ = false) := fun X hX => (hcel 0 _ rfl).int hX
      have Q1 : Hid (∀ X, Mk lo w X → X.cell? ⟨g, k * 2 + 1, none⟩ = some (.slice a1 d1.length p1)) := fun X hX => (hcel 1 _ rfl).slice hX
      have C1 : Hid (∀ X (z : Nat), Mk lo w X → z + 32 * d1.length ≤ 1073741824 → Calls Tryd.prog 11 #[.slice a1 d1.length p1, .int .i64 (z : Int)] X fun e w' => ∃ v : Nat, e = .returned (.int .i64 (v : Int)) ∧ v ≤ z + 32 * d1.length ∧ Mk lo X w') := fun X z hX hz => markByteS_dug d1 a1 p1 z lo X ((hsub 1 _ rfl).mk hX) hz
      have HL : Hid (lo g) := HD.out.1.low
      have hvb : v + 32 + 32 * (d1.length) ≤ 1073741824 := by have h1 := HS.out; rw [HE.out] at h1; have h2 := HD.out.2.2; have h3 := HT.out; omega
      have HV : Hid (v + 32 * n ≤ k0 + 32 * k + 32 * totTo L k) := hv
      clear hf hsub hcel he hv
      have hkI : (k : Int) < (n : Int) := by omega
      obtain ⟨u0, c0, f0⟩ := Q0.out wr HM.out
      go_upto_region 6 with fail
      have K0 := HM.out
      have K1 := K0.setN (Q0.out _ K0) HL.out ((v : Int))
      generalize hW0 : (wr).setCell ⟨g, k * 2, none⟩ (.int .i64 ((v : Int))) = W0 at K1 ⊢
      have HK0 : Hid (Mk lo w W0) := K1
      clear hW0 K0 K1 c0 f0
      have c1 := Q1.out W0 HK0.out
      obtain ⟨z0, hz0⟩ : ∃ z : Nat, v + 1 = z := ⟨_, rfl⟩
      have hzI : (v : Int) + 1 = (z0 : Int) := by omega
      simp only [hzI]
      have E0 : Hid (v + 1 = z0) := hz0
      have hzb0 : z0 ≤ v + 1 := by omega
      clear hzI hz0
      go_wp2_with fail
      refine (C1.out _ z0 HK0.out (by omega)).mono ?_
      rintro e w1 ⟨v1, rfl, hv1, hM1⟩
      have HM1 : Hid (Mk lo w w1) := HK0.out.trans hM1
      clear hM1 c1
      have HB : Hid (v1 ≤ v + 32 + 32 * (d1.length)) := by show _ ≤ _; omega
      have hcb : v1 ≤ 1073741824 := by omega
      go_wp2
      go_roundw
      case rel => exact ⟨k + 1, _, by omega, by go_num, rfl, by have h1 := HS.out.1; rw [HE.out] at h1; have h2 := HV.out; have h3 := HB.out; omega, HM1.out⟩
      case measure => simp [intOf]; omega
    · obtain rfl : k = n := by omega
      have HX : Hid (totTo L k = T) := by show _ = _; rw [← HT.out, ← totTo_all, HN.out.1]
      have HV : Hid (v ≤ k0 + 32 * T) := by show _ ≤ _; rw [HX.out] at hv; omega
      have hvb : v ≤ 1073741824 := by have := HV.out; omega
      clear hv
      go_wp2
      go_ret
      exact ⟨v, rfl, HV.out, HM.out⟩
set_option maxRecDepth 8000 in
set_option maxHeartbeats 8000000 in
theorem markAckS_any (L : List (List Tr)) (a : Option Addr) (p k0 : Nat) (lo : Nat → Prop) (w : World) (h : Dug w lo (.row kAck.length a p L)) (hf : Fits (.row kAck.length a p L) (.row kAck)) (s : k0 + 32 * totR L ≤ 1073741824) :
    Calls Tryd.prog 30 #[.slice a L.length p, .int .i64 (k0 : Int)] w fun e w' => ∃ v : Nat, e = .returned (.int .i64 (v : Int)) ∧ v ≤ k0 + 32 * totR L ∧ Mk lo w w' := by
  obtain ⟨g, rfl⟩ := h.place
  have hn : L.length ≤ totR L := totR_len L
  have HD : Hid (Dug w lo (.row kAck.length (some ⟨g, 0, none⟩) p L) ∧ (∀ (i : Nat) (e : List Tr), L[i]? = some e → FitsL e kAck) ∧ k0 + 32 * totR L ≤ 1073741824) := ⟨h, hf.els, s⟩
  clear h hf
  obtain ⟨n, hnn⟩ : ∃ n, L.length = n := ⟨_, rfl⟩
  have HN : Hid (L.length = n ∧ totTo L 0 = n) := ⟨hnn, by rw [totTo_zero]; exact hnn⟩
  rw [hnn] at hn ⊢
  obtain ⟨T, hT⟩ : ∃ T, totR L = T := ⟨_, rfl⟩
  have HT : Hid (totR L = T) := hT
  rw [hT] at hn s ⊢
  clear hnn hT
  go_enter Tryd.func30, Tryd.ntmps30
  go_wp2
  go_loopw [1, 5] (fun q i wr => ∃ k v : Nat, k ≤ n ∧ i = .int .i64 (k : Int) ∧ q = .int .i64 (v : Int) ∧ v + 32 * n ≤ k0 + 32 * k + 32 * totTo L k ∧ Mk lo w wr) (fun _ i _ => n - (intOf i).toNat)
  case atStart => exact ⟨0, k0, Nat.zero_le _, rfl, rfl, by rw [HN.out.2]; omega, Mk.refl _ _⟩
  case round =>
    obtain ⟨k, v, hk, rfl, rfl, hv, hM⟩ := hrel
    have HM : Hid (Mk lo w wr) := hM
    clear hM
    by_cases hlt : k < n
    · obtain ⟨e, he⟩ : ∃ e, L[k]? = some e := ⟨_, List.getElem?_eq_getElem (by rw [HN.out.1]; exact hlt)⟩
      have HS : Hid (totTo L (k + 1) = totTo L k + tdEl (e.map Tr.tell) ∧ totTo L (k + 1) ≤ T) := ⟨totTo_succ he, by rw [← HT.out]; exact totTo_le L _⟩
      have hf := HD.out.2.1 k e he
      have hsub := fun j y hj => HD.out.1.sub k j e y he hj
      have hcel := fun j y hj => HD.out.1.cell k j e y he hj
      obtain ⟨n0, n1, n2, n3, n4, rfl⟩ := fitAck hf
      have HE : Hid (tdEl (List.map Tr.tell [.int n0, .int n1, .int n2, .int n3, .int n4]) = 0) := by show _ = _; simp only [List.map_cons, List.map_nil, tdEl]; try omega
      have Q0 : Hid (∀ X, Mk lo w X → ∃ u : Int, X.cell? ⟨g, k * 5, none⟩ = some (.int .i64 u) ∧ X.frozen? ⟨g, k * 5, none⟩ = false) := fun X hX => (hcel 0 _ rfl).int hX
      have Q1 : Hid (∀ X, Mk lo w X → ∃ u : Int, X.cell? ⟨g, k * 5 + 1, none⟩ = some (.int .i64 u) ∧ X.frozen? ⟨g, k * 5 + 1, none⟩ = false) := fun X hX => (hcel 1 _ rfl).int hX
      have Q2 : Hid (∀ X, Mk lo w X → ∃ u : Int, X.cell? ⟨g, k * 5 + 2, none⟩ = some (.int .i64 u) ∧ X.frozen? ⟨g, k * 5 + 2, none⟩ = false) := fun X hX => (hcel 2 _ rfl).int hX
      have Q3 : Hid (∀ X, Mk lo w X → ∃ u : Int, X.cell? ⟨g, k * 5 + 3, none⟩ = some (.int .i64 u) ∧ X.frozen? ⟨g, k * 5 + 3, none⟩ = false) := fun X hX => (hcel 3 _ rfl).int hX
      have Q4 : Hid (∀ X, Mk lo w X → ∃ u : Int, X.cell? ⟨g, k * 5 + 4, none⟩ = some (.int .i64 u) ∧ X.frozen? ⟨g, k * 5 + 4, none⟩ = false) := fun X hX => (hcel 4 _ rfl).int hX
      have HL : Hid (lo g) := HD.out.1.low
      have hvb : v + 32 + 32 * (0) ≤ 1073741824 := by have h1 := HS.out; rw [HE.out] at h1; have h2 := HD.out.2.2; have h3 := HT.out; omega
      have HV : Hid (v + 32 * n ≤ k0 + 32 * k + 32 * totTo L k) := hv
      clear hf hsub hcel he hv
      have hkI : (k : Int) < (n : Int) := by omega
      obtain ⟨u0, c0, f0⟩ := Q0.out wr HM.out
      obtain ⟨u1, c1, f1⟩ := Q1.out wr HM.out
      obtain ⟨u2, c2, f2⟩ := Q2.out wr HM.out
      obtain ⟨u3, c3, f3⟩ := Q3.out wr HM.out
      obtain ⟨u4, c4, f4⟩ := Q4.out wr HM.out
      have HB : Hid (v + 5 ≤ v + 32 + 32 * (0)) := by show _ ≤ _; omega
      have hcb : v + 32 ≤ 1073741824 + 32 := by omega
      have K0 := HM.out
      have K1 := K0.setN (Q0.out _ K0) HL.out ((v : Int))
      have K2 := K1.setN (Q1.out _ K1) HL.out ((v : Int) + 1)
      have K3 := K2.setN (Q2.out _ K2) HL.out ((v : Int) + 1 + 1)
      have K4 := K3.setN (Q3.out _ K3) HL.out ((v : Int) + 1 + 1 + 1)
      have K5 := K4.setN (Q4.out _ K4) HL.out ((v : Int) + 1 + 1 + 1 + 1)
      have HK : Hid _ := K5
      clear K0 K1 K2 K3 K4 K5
      go_wp2
      go_roundw
      case rel => exact ⟨k + 1, v + 5, by omega, by go_num, by go_num, by have h1 := HS.out.1; rw [HE.out] at h1; have h2 := HV.out; have h3 := HB.out; omega, HK.out⟩
      case measure => simp [intOf]; omega
    · obtain rfl : k = n := by omega
      have HX : Hid (totTo L k = T) := by show _ = _; rw [← HT.out, ← totTo_all, HN.out.1]
      have HV : Hid (v ≤ k0 + 32 * T) := by show _ ≤ _; rw [HX.out] at hv; omega
      have hvb : v ≤ 1073741824 := by have := HV.out; omega
      clear hv
      go_wp2
      go_ret
      exact ⟨v, rfl, HV.out, HM.out⟩
set_option maxRecDepth 8000 in
set_option maxHeartbeats 8000000 in
theorem markItemS_any (L : List (List Tr)) (a : Option Addr) (p k0 : Nat) (lo : Nat → Prop) (w : World) (h : Dug w lo (.row kItem.length a p L)) (hf : Fits (.row kItem.length a p L) (.row kItem)) (s : k0 + 32 * totR L ≤ 1073741824) :
    Calls Tryd.prog 28 #[.slice a L.length p, .int .i64 (k0 : Int)] w fun e w' => ∃ v : Nat, e = .returned (.int .i64 (v : Int)) ∧ v ≤ k0 + 32 * totR L ∧ Mk lo w w' := by
  obtain ⟨g, rfl⟩ := h.place
  have hn : L.length ≤ totR L := totR_len L
  have HD : Hid (Dug w lo (.row kItem.length (some ⟨g, 0, none⟩) p L) ∧ (∀ (i : Nat) (e : List Tr), L[i]? = some e → FitsL e kItem) ∧ k0 + 32 * totR L ≤ 1073741824) := ⟨h, hf.els, s⟩
  clear h hf
  obtain ⟨n, hnn⟩ : ∃ n, L.length = n := ⟨_, rfl⟩
  have HN : Hid (L.length = n ∧ totTo L 0 = n) := ⟨hnn, by rw [totTo_zero]; exact hnn⟩
  rw [hnn] at hn ⊢
  obtain ⟨T, hT⟩ : ∃ T, totR L = T := ⟨_, rfl⟩
  have HT : Hid (totR L = T) := hT
  rw [hT] at hn s ⊢
  clear hnn hT
  go_enter Tryd.func28, Tryd.ntmps28
  go_wp2
  go_loopw [1, 5] (fun q i wr => ∃ k v : Nat, k ≤ n ∧ i = .int .i64 (k : Int) ∧ q = .int .i64 (v : Int) ∧ v + 32 * n ≤ k0 + 32 * k + 32 * totTo L k ∧ Mk lo w wr) (fun _ i _ => n - (intOf i).toNat)
  case atStart => exact ⟨0, k0, Nat.zero_le _, rfl, rfl, by rw [HN.out.2]; omega, Mk.refl _ _⟩
  case round =>
    obtain ⟨k, v, hk, rfl, rfl, hv, hM⟩ := hrel
    have HM : Hid (Mk lo w wr) := hM
    clear hM
    by_cases hlt : k < n
    · obtain ⟨e, he⟩ : ∃ e, L[k]? = some e := ⟨_, List.getElem?_eq_getElem (by rw [HN.out.1]; exact hlt)⟩
      have HS : Hid (totTo L (k + 1) = totTo L k + tdEl (e.map Tr.tell) ∧ totTo L (k + 1) ≤ T) := ⟨totTo_succ he, by rw [← HT.out]; exact totTo_le L _⟩
      have hf := HD.out.2.1 k e he
      have hsub := fun j y hj => HD.out.1.sub k j e y he hj
      have hcel := fun j y hj => HD.out.1.cell k j e y he hj
      obtain ⟨n0, n1, d2, a2, p2, rfl⟩ := fitItem hf
      have HE : Hid (tdEl (List.map Tr.tell [.int n0, .int n1, .byt d2 a2 p2]) = d2.length) := by show _ = _; simp only [List.map_cons, List.map_nil, tdEl]; try omega
      have Q0 : Hid (∀ X, Mk lo w X → ∃ u : Int, X.cell? ⟨g, k * 3, none⟩ = some (.int .i64 u) ∧ X.frozen? ⟨g, k * 3, none⟩ = false) := fun X hX => (hcel 0 _ rfl).int hX
      have Q1 : Hid (∀ X, Mk lo w X → ∃ u : Int, X.cell? ⟨g, k * 3 + 1, none⟩ = some (.int .i64 u) ∧ X.frozen? ⟨g, k * 3 + 1, none⟩ = false) := fun X hX => (hcel 1 _ rfl).int hX
      have Q2 : Hid (∀ X, Mk lo w X → X.cell? ⟨g, k * 3 + 2, none⟩ = some (.slice a2 d2.length p2)) := fun X hX => (hcel 2 _ rfl).slice hX
      have C2 : Hid (∀ X (z : Nat), Mk lo w X → z + 32 * d2.length ≤ 1073741824 → Calls Tryd.prog 11 #[.slice a2 d2.length p2, .int .i64 (z : Int)] X fun e w' => ∃ v : Nat, e = .returned (.int .i64 (v : Int)) ∧ v ≤ z + 32 * d2.length ∧ Mk lo X w') := fun X z hX hz => markByteS_dug d2 a2 p2 z lo X ((hsub 2 _ rfl).mk hX) hz
      have HL : Hid (lo g) := HD.out.1.low
      have hvb : v + 32 + 32 * (d2.length) ≤ 1073741824 := by have h1 := HS.out; rw [HE.out] at h1; have h2 := HD.out.2.2; have h3 := HT.out; omega
      have HV : Hid (v + 32 * n ≤ k0 + 32 * k + 32 * totTo L k) := hv
      clear hf hsub hcel he hv
      have hkI : (k : Int) < (n : Int) := by omega
      obtain ⟨u0, c0, f0⟩ := Q0.out wr HM.out
      obtain ⟨u1, c1, f1⟩ := Q1.out wr HM.out
      go_upto_region 8 with fail
      have K0 := HM.out
      have K1 := K0.setN (Q0.out _ K0) HL.out ((v : Int))
      have K2 := K1.setN (Q1.out _ K1) HL.out ((v : Int) + 1)
      generalize hW0 : ((wr).setCell ⟨g, k * 3, none⟩ (.int .i64 ((v : Int)))).setCell ⟨g, k * 3 + 1, none⟩ (.int .i64 ((v : Int) + 1)) = W0 at K2 ⊢
      have HK0 : Hid (Mk lo w W0) := K2
      clear hW0 K0 K1 K2 c0 f0 c1 f1
      have c2 := Q2.out W0 HK0.out
      obtain ⟨z0, hz0⟩ : ∃ z : Nat, v + 2 = z := ⟨_, rfl⟩
      have hzI : (v : Int) + 1 + 1 = (z0 : Int) := by omega
      simp only [hzI]
      have E0 : Hid (v + 2 = z0) := hz0
      have hzb0 : z0 ≤ v + 2 := by omega
      clear hzI hz0
      go_wp2_with fail
      refine (C2.out _ z0 HK0.out (by omega)).mono ?_
      rintro e w1 ⟨v1, rfl, hv1, hM1⟩
      have HM1 : Hid (Mk lo w w1) := HK0.out.trans hM1
      clear hM1 c2
      have HB : Hid (v1 ≤ v + 32 + 32 * (d2.length)) := by show _ ≤ _; omega
      have hcb : v1 ≤ 1073741824 := by omega
      go_wp2
      go_roundw
      case rel => exact ⟨k + 1, _, by omega, by go_num, rfl, by have h1 := HS.out.1; rw [HE.out] at h1; have h2 := HV.out; have h3 := HB.out; omega, HM1.out⟩
      case measure => simp [intOf]; omega
    · obtain rfl : k = n := by omega
      have HX : Hid (totTo L k = T) := by show _ = _; rw [← HT.out, ← totTo_all, HN.out.1]
      have HV : Hid (v ≤ k0 + 32 * T) := by show _ ≤ _; rw [HX.out] at hv; omega
      have hvb : v ≤ 1073741824 := by have := HV.out; omega
      clear hv
      go_wp2
      go_ret
      exact ⟨v, rfl, HV.out, HM.out⟩
set_option maxRecDepth 8000 in
set_option maxHeartbeats 8000000 in
theorem markSessionS_any (L : List (List Tr)) (a : Option Addr) (p k0 : Nat) (lo : Nat → Prop) (w : World) (h : Dug w lo (.row kSession.length a p L)) (hf : Fits (.row kSession.length a p L) (.row kSession)) (s : k0 + 32 * totR L ≤ 1073741824) :
    Calls Tryd.prog 29 #[.slice a L.length p, .int .i64 (k0 : Int)] w fun e w' => ∃ v : Nat, e = .returned (.int .i64 (v : Int)) ∧ v ≤ k0 + 32 * totR L ∧ Mk lo w w' := by
  obtain ⟨g, rfl⟩ := h.place
  have hn : L.length ≤ totR L := totR_len L
  have HD : Hid (Dug w lo (.row kSession.length (some ⟨g, 0, none⟩) p L) ∧ (∀ (i : Nat) (e : List Tr), L[i]? = some e → FitsL e kSession) ∧ k0 + 32 * totR L ≤ 1073741824) := ⟨h, hf.els, s⟩
  clear h hf
  obtain ⟨n, hnn⟩ : ∃ n, L.length = n := ⟨_, rfl⟩
  have HN : Hid (L.length = n ∧ totTo L 0 = n) := ⟨hnn, by rw [totTo_zero]; exact hnn⟩
  rw [hnn] at hn ⊢
  obtain ⟨T, hT⟩ : ∃ T, totR L = T := ⟨_, rfl⟩
  have HT : Hid (totR L = T) := hT
  rw [hT] at hn s ⊢
  clear hnn hT
  go_enter Tryd.func29, Tryd.ntmps29
  go_wp2
  go_loopw [1, 5] (fun q i wr => ∃ k v : Nat, k ≤ n ∧ i = .int .i64 (k : Int) ∧ q = .int .i64 (v : Int) ∧ v + 32 * n ≤ k0 + 32 * k + 32 * totTo L k ∧ Mk lo w wr) (fun _ i _ => n - (intOf i).toNat)
  case atStart => exact ⟨0, k0, Nat.zero_le _, rfl, rfl, by rw [HN.out.2]; omega, Mk.refl _ _⟩
  case round =>
    obtain ⟨k, v, hk, rfl, rfl, hv, hM⟩ := hrel
    have HM : Hid (Mk lo w wr) := hM
    clear hM
    by_cases hlt : k < n
    · obtain ⟨e, he⟩ : ∃ e, L[k]? = some e := ⟨_, List.getElem?_eq_getElem (by rw [HN.out.1]; exact hlt)⟩
      have HS : Hid (totTo L (k + 1) = totTo L k + tdEl (e.map Tr.tell) ∧ totTo L (k + 1) ≤ T) := ⟨totTo_succ he, by rw [← HT.out]; exact totTo_le L _⟩
      have hf := HD.out.2.1 k e he
      have hsub := fun j y hj => HD.out.1.sub k j e y he hj
      have hcel := fun j y hj => HD.out.1.cell k j e y he hj
      obtain ⟨n0, n1, n2, d3, a3, p3, rfl⟩ := fitSession hf
      have HE : Hid (tdEl (List.map Tr.tell [.int n0, .int n1, .int n2, .byt d3 a3 p3]) = d3.length) := by show _ = _; simp only [List.map_cons, List.map_nil, tdEl]; try omega
      have Q0 : Hid (∀ X, Mk lo w X → ∃ u : Int, X.cell? ⟨g, k * 4, none⟩ = some (.int .i64 u) ∧ X.frozen? ⟨g, k * 4, none⟩ = false) := fun X hX => (hcel 0 _ rfl).int hX
      have Q1 : Hid (∀ X, Mk lo w X → ∃ u : Int, X.cell? ⟨g, k * 4 + 1, none⟩ = some (.int .i64 u) ∧ X.frozen? ⟨g, k * 4 + 1, none⟩ = false) := fun X hX => (hcel 1 _ rfl).int hX
      have Q2 : Hid (∀ X, Mk lo w X → ∃ u : Int, X.cell? ⟨g, k * 4 + 2, none⟩ = some (.int .i64 u) ∧ X.frozen? ⟨g, k * 4 + 2, none⟩ = false) := fun X hX => (hcel 2 _ rfl).int hX
      have Q3 : Hid (∀ X, Mk lo w X → X.cell? ⟨g, k * 4 + 3, none⟩ = some (.slice a3 d3.length p3)) := fun X hX => (hcel 3 _ rfl).slice hX
      have C3 : Hid (∀ X (z : Nat), Mk lo w X → z + 32 * d3.length ≤ 1073741824 → Calls Tryd.prog 11 #[.slice a3 d3.length p3, .int .i64 (z : Int)] X fun e w' => ∃ v : Nat, e = .returned (.int .i64 (v : Int)) ∧ v ≤ z + 32 * d3.length ∧ Mk lo X w') := fun X z hX hz => markByteS_dug d3 a3 p3 z lo X ((hsub 3 _ rfl).mk hX) hz
      have HL : Hid (lo g) := HD.out.1.low
      have hvb : v + 32 + 32 * (d3.length) ≤ 1073741824 := by have h1 := HS.out; rw [HE.out] at h1; have h2 := HD.out.2.2; have h3 := HT.out; omega
      have HV : Hid (v + 32 * n ≤ k0 + 32 * k + 32 * totTo L k) := hv
      clear hf hsub hcel he hv
      have hkI : (k : Int) < (n : Int) := by omega
      obtain ⟨u0, c0, f0⟩ := Q0.out wr HM.out
      obtain ⟨u1, c1, f1⟩ := Q1.out wr HM.out
      obtain ⟨u2, c2, f2⟩ := Q2.out wr HM.out
      go_upto_region 10 with fail
      have K0 := HM.out
      have K1 := K0.setN (Q0.out _ K0) HL.out ((v : Int))
      have K2 := K1.setN (Q1.out _ K1) HL.out ((v : Int) + 1)
      have K3 := K2.setN (Q2.out _ K2) HL.out ((v : Int) + 1 + 1)
      generalize hW0 : (((wr).setCell ⟨g, k * 4, none⟩ (.int .i64 ((v : Int)))).setCell ⟨g, k * 4 + 1, none⟩ (.int .i64 ((v : Int) + 1))).setCell ⟨g, k * 4 + 2, none⟩ (.int .i64 ((v : Int) + 1 + 1)) = W0 at K3 ⊢
      have HK0 : Hid (Mk lo w W0) := K3
      clear hW0 K0 K1 K2 K3 c0 f0 c1 f1 c2 f2
      have c3 := Q3.out W0 HK0.out
      obtain ⟨z0, hz0⟩ : ∃ z : Nat, v + 3 = z := ⟨_, rfl⟩
      have hzI : (v : Int) + 1 + 1 + 1 = (z0 : Int) := by omega
      simp only [hzI]
      have E0 : Hid (v + 3 = z0) := hz0
      have hzb0 : z0 ≤ v + 3 := by omega
      clear hzI hz0
      go_wp2_with fail
      refine (C3.out _ z0 HK0.out (by omega)).mono ?_
      rintro e w1 ⟨v1, rfl, hv1, hM1⟩
      have HM1 : Hid (Mk lo w w1) := HK0.out.trans hM1
      clear hM1 c3
      have HB : Hid (v1 ≤ v + 32 + 32 * (d3.length)) := by show _ ≤ _; omega
      have hcb : v1 ≤ 1073741824 := by omega
      go_wp2
      go_roundw
      case rel => exact ⟨k + 1, _, by omega, by go_num, rfl, by have h1 := HS.out.1; rw [HE.out] at h1; have h2 := HV.out; have h3 := HB.out; omega, HM1.out⟩
      case measure => simp [intOf]; omega
    · obtain rfl : k = n := by omega
      have HX : Hid (totTo L k = T) := by show _ = _; rw [← HT.out, ← totTo_all, HN.out.1]
      have HV : Hid (v ≤ k0 + 32 * T) := by show _ ≤ _; rw [HX.out] at hv; omega
      have hvb : v ≤ 1073741824 := by have := HV.out; omega
      clear hv
      go_wp2
      go_ret
      exact ⟨v, rfl, HV.out, HM.out⟩
end Go.Proofs.YtkjjglnbbahbkaaDoor

/-
  The model's numerals (l7Dec, l7Join), walked.
-/
import Derived.Test.YtkjjglnbbahbkaaDoorOutB
namespace Go.Proofs.YtkjjglnbbahbkaaDoor
open Go.RowKit

/-- digits -/
def dd (u : Nat) : List Nat := (Lib.decDigits u).map UInt8.toNat
theorem dd_small {u : Nat} (h : u < 10) : dd u = [48 + u % 10] := by
  rw [dd, Lib.decDigits, dif_pos h, Nat.mod_eq_of_lt h]
  simp [UInt8.toNat_ofNat]
  omega
theorem dd_big {u : Nat} (h : 10 ≤ u) : dd u = dd (u / 10) ++ [48 + u % 10] := by
  rw [dd, Lib.decDigits, dif_neg (by omega), List.map_append]
  congr 1
  simp [UInt8.toNat_ofNat]
  omega
/-- what is still to come ahead -/
def pre (u : Nat) : List Nat := if u < 10 then [] else dd (u / 10)
theorem dd_pre (u : Nat) : dd u = pre u ++ [48 + u % 10] := by
  unfold pre
  split
  · rename_i h; rw [dd_small h]; rfl
  · rename_i h; exact dd_big (by omega)
theorem pre_big {u : Nat} (h : 10 ≤ u) : pre u = pre (u / 10) ++ [48 + u / 10 % 10] := by
  rw [← dd_pre, pre, if_neg (by omega)]
theorem decI_neg {v : Int} (h : v < 0) : decI v = 45 :: dd v.natAbs := by rw [decI, Lib.itoa, if_pos h]; rfl
theorem decI_nonneg {v : Int} (h : 0 ≤ v) : decI v = dd v.toNat := by rw [decI, Lib.itoa, if_neg (by omega)]; rfl
theorem dd_lt (u : Nat) : ∀ z ∈ dd u, z < 256 := by
  intro z hz
  obtain ⟨b, -, rfl⟩ := List.mem_map.1 hz
  exact b.toNat_lt
theorem lit_out (w : World) (B r : Nat) (hr : r < 256) (hB : B ≤ w.heap.size) : Out B (w.alloc (.cells #[.int .u8 (r : Int)] 5)) (.slice (some ⟨w.heap.size, 0, none⟩) 1 1) [r] :=
  ⟨⟨by simp, .inr ⟨w.heap.size, 1, #[.int .u8 (r : Int)], rfl, hB, heap_alloc_new w _, Nat.le_refl _, by unfold maxLen; omega, by simp, by simp [bv]⟩⟩, by simpa using hr⟩
theorem dd_len {U : Nat} (h : U ≤ 9223372036854775808) : (dd U).length ≤ 21 ∧ 0 < (dd U).length := by
  refine ⟨?_, ?_⟩
  · by_cases h0 : U = 0
    · subst h0; rw [dd_small (by decide)]; decide
    · have h1 := decI_len (i := -(U : Int)) ⟨by omega, by omega⟩
      rw [decI_neg (by omega)] at h1
      simp only [List.length_cons, show (-(U : Int)).natAbs = U by omega] at h1
      omega
  · rw [dd_pre]; simp
theorem lit_byte (x : Nat) : 48 + x % 10 < 256 := by omega
set_option maxRecDepth 4000 in
set_option maxHeartbeats 4000000 in
theorem l7Dec_pos (U : Nat) (hU : U ≤ 9223372036854775807) (w : World) :
    Calls Tryd.prog 14 #[.int .i64 (U : Int)] w fun e w' => ∃ g cap, e = .returned (.slice (some ⟨g, 0, none⟩) (dd U).length cap) ∧ SlB w' (some ⟨g, 0, none⟩) (dd U).length (dd U) ∧ w.grownBy w' none := by
  have HD : Hid ((dd U).length ≤ 21) := (dd_len (by omega)).1
  go_enter Tryd.func14, Tryd.ntmps14
  go_wp2
  go_loopw [3, 4] (fun u v wr => ∃ (x g cap : Nat) (zs : List Nat), x ≤ U ∧ u = .int .u64 (x : Int) ∧ v = .slice (some ⟨g, 0, none⟩) zs.length cap ∧ Out w.heap.size wr v zs ∧ 0 < zs.length ∧ dd U = pre x ++ zs ∧ w.grownBy wr none) (fun u _ _ => (intOf u).toNat)
  case atStart =>
    refine ⟨U, w.heap.size, 1, [48 + U % 10], Nat.le_refl _, rfl, rfl, ?_, by simp, dd_pre U, World.grownBy_alloc _ _ _⟩
    exact lit_out w w.heap.size (48 + U % 10) (lit_byte U) (Nat.le_refl _)
  case round =>
    obtain ⟨x, g, cap, zs, hx, rfl, rfl, hO, hz, hdd, hG⟩ := hrel
    have hl : zs.length ≤ 21 := by have h1 := congrArg List.length hdd; have h2 := HD.out; rw [List.length_append] at h1; omega
    obtain ⟨m, hm⟩ : ∃ m, zs.length = m := ⟨_, rfl⟩
    have HR : Hid (Out w.heap.size wr (.slice (some ⟨g, 0, none⟩) m cap) zs ∧ dd U = pre x ++ zs ∧ w.grownBy wr none ∧ zs.length = m ∧ SlB wr (some ⟨g, 0, none⟩) m zs) := by
      rw [hm] at hO
      obtain ⟨g', cap', e, -, hOw⟩ := hO.sl (by omega)
      simp only [Value.slice.injEq, Option.some.injEq, Addr.mk.injEq, and_true] at e
      obtain ⟨rfl, -, rfl⟩ := e
      exact ⟨hO, hdd, hG, hm, hOw.sl m hm⟩
    rw [hm] at hl hz ⊢
    have hsz : w.heap.size ≤ wr.heap.size := hG.size
    clear hO hdd hG hm
    by_cases hlt : 10 ≤ x
    · have e1 : ((48 + (x / 10 : Nat) % 10 : Nat) : Int) = 48 + (x : Int) / 10 % 10 := by omega
      go_wp2_with (at_builtin; refine wpList_out_b (by rfl) (.tmp 24) (.tmp 25) (by rfl) (B := w.heap.size) (zs := [48 + x / 10 % 10]) (by rfl) (by have h9 := lit_out wr w.heap.size (48 + x / 10 % 10) (lit_byte (x / 10)) hsz; rw [e1] at h9; exact h9) (oa := some ⟨g, 0, none⟩) (m := m) (c := cap) (ys := zs) (by rfl) (by exact HR.out.2.2.2.2.grown0 (World.grownBy_alloc _ _ _)) hz (by simp; omega) (by simp; omega) ?_; intro v1 w1 H1)
      obtain ⟨g1, c1, hv1, -, -⟩ := H1.out.1.sl (by simp)
      have H2 : Hid (dd U = pre (x / 10) ++ ([48 + x / 10 % 10] ++ zs) ∧ w.grownBy w1 none) := by
        refine ⟨by rw [HR.out.2.1, pre_big hlt]; simp, ?_⟩
        have h9 := ((Ex.refl w.heap.size wr).alloc hsz (.cells #[.int .u8 (48 + (x : Int) / 10 % 10)] 5)).trans H1.out.2
        exact grownBy_below HR.out.2.2.1 h9.below (Nat.le_refl _)
      have H3 : Hid (v1 = .slice (some ⟨g1, 0, none⟩) ([48 + x / 10 % 10] ++ zs).length c1) := hv1
      clear hv1 e1
      go_wp2
      go_roundw
      case rel => exact ⟨x / 10, g1, c1, [48 + x / 10 % 10] ++ zs, by omega, by go_num, H3.out, H1.out.1, by simp, H2.out.1, H2.out.2⟩
      case measure => simp [intOf]; omega
    · have HE : Hid (dd U = zs) := by show _ = _; rw [HR.out.2.1, pre, if_pos (by omega)]; rfl
      go_wp2
      go_ret
      exact ⟨g, cap, by rw [HE.out, HR.out.2.2.2.1]; rfl, by rw [HE.out, HR.out.2.2.2.1]; exact HR.out.2.2.2.2, HR.out.2.2.1⟩
set_option maxRecDepth 4000 in
set_option maxHeartbeats 4000000 in
theorem l7Dec_neg (U : Nat) (hU : U ≤ 9223372036854775808) (h0 : 0 < U) (w : World) :
    Calls Tryd.prog 14 #[.int .i64 (-(U : Int))] w fun e w' => ∃ g cap, e = .returned (.slice (some ⟨g, 0, none⟩) (45 :: dd U).length cap) ∧ SlB w' (some ⟨g, 0, none⟩) (45 :: dd U).length (45 :: dd U) ∧ w.grownBy w' none := by
  have hw1 : IntKind.u64.wrap (-(U : Int)) = 18446744073709551616 - (U : Int) := by rw [IntKind.wrap_u64]; omega
  have hw2 : IntKind.u64.wrap (-(18446744073709551616 - (U : Int))) = (U : Int) := by rw [IntKind.wrap_u64]; omega
  have HD : Hid ((dd U).length ≤ 21) := (dd_len (by omega)).1
  go_enter Tryd.func14, Tryd.ntmps14
  go_wp2
  go_loopw [3, 4] (fun u v wr => ∃ (x g cap : Nat) (zs : List Nat), x ≤ U ∧ u = .int .u64 (x : Int) ∧ v = .slice (some ⟨g, 0, none⟩) zs.length cap ∧ Out w.heap.size wr v zs ∧ 0 < zs.length ∧ dd U = pre x ++ zs ∧ w.grownBy wr none) (fun u _ _ => (intOf u).toNat)
  case atStart =>
    refine ⟨U, w.heap.size, 1, [48 + U % 10], Nat.le_refl _, rfl, rfl, ?_, by simp, dd_pre U, World.grownBy_alloc _ _ _⟩
    exact lit_out w w.heap.size (48 + U % 10) (lit_byte U) (Nat.le_refl _)
  case round =>
    obtain ⟨x, g, cap, zs, hx, rfl, rfl, hO, hz, hdd, hG⟩ := hrel
    have hl : zs.length ≤ 21 := by have h1 := congrArg List.length hdd; have h2 := HD.out; rw [List.length_append] at h1; omega
    obtain ⟨m, hm⟩ : ∃ m, zs.length = m := ⟨_, rfl⟩
    have HR : Hid (Out w.heap.size wr (.slice (some ⟨g, 0, none⟩) m cap) zs ∧ dd U = pre x ++ zs ∧ w.grownBy wr none ∧ zs.length = m ∧ SlB wr (some ⟨g, 0, none⟩) m zs) := by
      rw [hm] at hO
      obtain ⟨g', cap', e, -, hOw⟩ := hO.sl (by omega)
      simp only [Value.slice.injEq, Option.some.injEq, Addr.mk.injEq, and_true] at e
      obtain ⟨rfl, -, rfl⟩ := e
      exact ⟨hO, hdd, hG, hm, hOw.sl m hm⟩
    rw [hm] at hl hz ⊢
    have hsz : w.heap.size ≤ wr.heap.size := hG.size
    clear hO hdd hG hm
    by_cases hlt : 10 ≤ x
    · have e1 : ((48 + (x / 10 : Nat) % 10 : Nat) : Int) = 48 + (x : Int) / 10 % 10 := by omega
      go_wp2_with (at_builtin; refine wpList_out_b (by rfl) (.tmp 24) (.tmp 25) (by rfl) (B := w.heap.size) (zs := [48 + x / 10 % 10]) (by rfl) (by have h9 := lit_out wr w.heap.size (48 + x / 10 % 10) (lit_byte (x / 10)) hsz; rw [e1] at h9; exact h9) (oa := some ⟨g, 0, none⟩) (m := m) (c := cap) (ys := zs) (by rfl) (by exact HR.out.2.2.2.2.grown0 (World.grownBy_alloc _ _ _)) hz (by simp; omega) (by simp; omega) ?_; intro v1 w1 H1)
      obtain ⟨g1, c1, hv1, -, -⟩ := H1.out.1.sl (by simp)
      have H2 : Hid (dd U = pre (x / 10) ++ ([48 + x / 10 % 10] ++ zs) ∧ w.grownBy w1 none) := by
        refine ⟨by rw [HR.out.2.1, pre_big hlt]; simp, ?_⟩
        have h9 := ((Ex.refl w.heap.size wr).alloc hsz (.cells #[.int .u8 (48 + (x : Int) / 10 % 10)] 5)).trans H1.out.2
        exact grownBy_below HR.out.2.2.1 h9.below (Nat.le_refl _)
      have H3 : Hid (v1 = .slice (some ⟨g1, 0, none⟩) ([48 + x / 10 % 10] ++ zs).length c1) := hv1
      clear hv1 e1
      go_wp2
      go_roundw
      case rel => exact ⟨x / 10, g1, c1, [48 + x / 10 % 10] ++ zs, by omega, by go_num, H3.out, H1.out.1, by simp, H2.out.1, H2.out.2⟩
      case measure => simp [intOf]; omega
    · have HE : Hid (dd U = zs) := by show _ = _; rw [HR.out.2.1, pre, if_pos (by omega)]; rfl
      go_wp2_with (at_builtin; refine wpList_out_b (by rfl) (.tmp 29) (.tmp 30) (by rfl) (B := w.heap.size) (zs := [45]) (by rfl) (by exact lit_out wr w.heap.size 45 (by decide) hsz) (oa := some ⟨g, 0, none⟩) (m := m) (c := cap) (ys := zs) (by rfl) (by exact HR.out.2.2.2.2.grown0 (World.grownBy_alloc _ _ _)) hz (by simp; omega) (by simp; omega) ?_; intro v1 w1 H1)
      obtain ⟨g1, c1, hv1, -, hO1⟩ := H1.out.1.sl (by simp)
      have H2 : Hid (w.grownBy w1 none ∧ Own w1 5 g1 ([45] ++ zs)) := by
        refine ⟨?_, hO1⟩
        have h9 := ((Ex.refl w.heap.size wr).alloc hsz (.cells #[.int .u8 45] 5)).trans H1.out.2
        exact grownBy_below HR.out.2.2.1 h9.below (Nat.le_refl _)
      have H3 : Hid (v1 = .slice (some ⟨g1, 0, none⟩) ([45] ++ zs).length c1) := hv1
      clear hv1 hO1
      go_wp2
      go_ret
      refine ⟨g1, c1, ?_, by rw [HE.out]; exact H2.out.2.sl _ rfl, H2.out.1⟩
      rw [HE.out]
      exact congrArg Ending.returned H3.out
theorem l7Dec_any (v : Int) (hv : I64 v) (w : World) :
    Calls Tryd.prog 14 #[.int .i64 v] w fun e w' => ∃ g cap, e = .returned (.slice (some ⟨g, 0, none⟩) (decI v).length cap) ∧ SlB w' (some ⟨g, 0, none⟩) (decI v).length (decI v) ∧ w.grownBy w' none := by
  obtain ⟨h1, h2⟩ := hv
  by_cases h : v < 0
  · have h3 := l7Dec_neg v.natAbs (by omega) (by omega) w
    rw [decI_neg h]
    rwa [show -((v.natAbs : Nat) : Int) = v by omega] at h3
  · have h3 := l7Dec_pos v.toNat (by omega) w
    rw [decI_nonneg (by omega)]
    rwa [show ((v.toNat : Nat) : Int) = v by omega] at h3
end Go.Proofs.YtkjjglnbbahbkaaDoor

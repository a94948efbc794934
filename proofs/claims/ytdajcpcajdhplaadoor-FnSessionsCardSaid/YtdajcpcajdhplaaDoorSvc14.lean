/-
  SpVal
-/
import Derived.Test.YtdajcpcajdhplaaDoorSvc7
import Derived.BigQuiet
/-
  A service held against the bounds, whatever its numbers, with its kept items: the model's L5Valid.
-/
namespace Go.Proofs.YtdajcpcajdhplaaDoor
open Go.RowKit

set_option maxRecDepth 4000 in
set_option maxHeartbeats 4000000 in
theorem l5validE_any (b : Int) (ko : Option Addr) (kc : Nat) (K : List El) (so : Option Addr) (sc : Nat) (S : List El) (w : World) (hK : ElO w 32 2 ko kc K) (hS : ElO w 74 3 so sc S) (hkl : K.length ≤ 1048576) (hsl : S.length ≤ 1048576) (hkd : ∀ x ∈ K, x.d.length ≤ 1048576) (hsd : ∀ x ∈ S, x.d.length ≤ 1048576) :
    Calls Tryd.prog 43 #[.agg #[.int .i64 b, .slice ko K.length kc, .slice so S.length sc]] w fun e w' => ∃ r : Bool, e = .returned (.bool r) ∧ (r = true ↔ ValidV b K S) ∧ w.grownBy w' none := by
  have HS : Hid (ElO w 32 2 ko kc K ∧ ElO w 74 3 so sc S ∧ (∀ x ∈ K, x.d.length ≤ 1048576) ∧ (∀ x ∈ S, x.d.length ≤ 1048576)) := ⟨hK, hS, hkd, hsd⟩; clear hK hS hkd hsd
  rcases (show (b < 0 ∨ (0 ≤ b ∧ 1000000 < b)) ∨ (0 ≤ b ∧ b ≤ 1000000 ∧ (1000000 : Int) < (K.length : Int)) ∨ (0 ≤ b ∧ b ≤ 1000000 ∧ (K.length : Int) ≤ 1000000) by omega) with h0 | ⟨h0, h1, h2⟩ | ⟨hb0, hb1, hb2⟩
  · rcases h0 with h0 | ⟨h0, h1⟩
    all_goals
      go_enter Tryd.func43, Tryd.ntmps43
      go_wp2; go_ret; refine ⟨false, rfl, ⟨fun h => (by cases h), fun h => absurd h.1 (by have := h.2.1; omega)⟩, ?_⟩
      repeat (first | exact grownBy_refl _ _ | apply grownBy_alloc)
  · go_enter Tryd.func43, Tryd.ntmps43
    go_wp2; go_ret; refine ⟨false, rfl, ⟨fun h => (by cases h), fun h => absurd h.2.2.1 (by omega)⟩, ?_⟩
    repeat (first | exact grownBy_refl _ _ | apply grownBy_alloc)
  obtain ⟨P0, hP0⟩ : ∃ P0, P0 = w.alloc (.cells #[.int .i64 b, .slice ko K.length kc, .slice so S.length sc] 28) := ⟨_, rfl⟩
  have HP0 : Hid (w.grownBy P0 none ∧ P0.heap.size = w.heap.size + 1 ∧ P0.cell? ⟨w.heap.size, 0, none⟩ = some (.int .i64 b) ∧ P0.cell? ⟨w.heap.size, 1, none⟩ = some (.slice ko K.length kc) ∧ P0.cell? ⟨w.heap.size, 2, none⟩ = some (.slice so S.length sc)) := by
    rw [hP0]; exact ⟨World.grownBy_alloc _ _ _, by simp, by simp, by simp, by simp⟩
  go_enter Tryd.func43, Tryd.ntmps43
  go_wp2; rw [← hP0]
  go_loopw [24] (fun i wl => ∃ k : Nat, k ≤ K.length ∧ i = .int .i64 (k : Int) ∧ okK K k ∧ P0.grownBy wl none) (fun i _ => K.length - (intOf i).toNat)
  case atStart => exact ⟨0, Nat.zero_le _, rfl, by simp [okK], grownBy_refl _ _⟩
  case round =>
    clear hP0; obtain ⟨k, hk, rfl, hok, hG⟩ := hrel; have HG : Hid (P0.grownBy wr none ∧ w.grownBy wr none ∧ okK K k) := ⟨hG, grownBy_trans HP0.out.1 hG, hok⟩
    have hp : w.heap.size < wr.heap.size := by have := hG.size; have := HP0.out.2.1; omega
    obtain ⟨hc, -⟩ := bcell hG; have s0 : wr.cell? ⟨w.heap.size, 0, none⟩ = some (.int .i64 b) := (hc _ _ (by have := HP0.out.2.1; omega)).trans HP0.out.2.2.1; have s1 : wr.cell? ⟨w.heap.size, 1, none⟩ = some (.slice ko K.length kc) := (hc _ _ (by have := HP0.out.2.1; omega)).trans HP0.out.2.2.2.1; have s2 : wr.cell? ⟨w.heap.size, 2, none⟩ = some (.slice so S.length sc) := (hc _ _ (by have := HP0.out.2.1; omega)).trans HP0.out.2.2.2.2; clear hG hc hok
    by_cases hlt : k < K.length
    · obtain ⟨x, hx⟩ : ∃ x, K[k]? = some x := ⟨K[k], List.getElem?_eq_getElem hlt⟩
      rcases HS.out.1.grown0 HG.out.2.1 with ⟨_, _, h0⟩ | ⟨g, rfl, hA⟩
      · rw [h0] at hx; simp at hx
      obtain ⟨n0, n1, hhd, c0, c1, cd⟩ := hA.get2 hx; have hdl := HS.out.2.2.1 x (List.mem_of_getElem? hx); obtain ⟨e0, e1⟩ := El.hd2 hhd; have HX : Hid (K[k]? = some x ∧ (itemOk n0 n1 x.d.length ↔ okE x)) := ⟨hx, by unfold okE; rw [e0, e1]⟩; clear hx hA e0 e1 hhd; obtain ⟨xh, d, o, cp⟩ := x; simp only at hdl cd HX
      have hkL : (k : Int) < (K.length : Int) := by omega
      have HW : Hid (P0.grownBy (wr.alloc (.cells #[.int .i64 n0, .int .i64 n1, .slice (oad o) d.length cp] 32)) none ∧ w.grownBy (wr.alloc (.cells #[.int .i64 n0, .int .i64 n1, .slice (oad o) d.length cp] 32)) none) := ⟨grownBy_alloc HG.out.1 _, grownBy_alloc HG.out.2.1 _⟩; generalize oad o = og at *; go_wp2_with fail; refine (l5Item_any n0 n1 og d.length cp _ (by unfold maxLen; omega)).mono ?_; rintro e w1 ⟨rfl, hw1⟩; subst hw1
      by_cases h1 : itemOk n0 n1 d.length
      · rw [decide_eq_true h1]; have HOK : Hid (okK K (k + 1)) := okK_succ K k _ HX.out.1 HG.out.2.2 (HX.out.2.1 h1); clear h1; go_wp2; go_roundw
        case rel => exact ⟨k + 1, by omega, by go_num, HOK.out, HW.out.1⟩
        case measure => simp [intOf]; omega
      · rw [decide_eq_false h1]; go_wp2; go_ret; refine ⟨false, rfl, ⟨fun h => (by cases h), fun h => ?_⟩, HW.out.2⟩; exact absurd (HX.out.2.2 (h.2.2.2.1 _ (List.mem_of_getElem? HX.out.1))) h1
    · obtain rfl : k = K.length := by omega
      have HKK : Hid (okK K K.length) := HG.out.2.2; obtain ⟨W1, hW1⟩ : ∃ W1, W1 = wr := ⟨_, rfl⟩
      have HW1 : Hid (w.grownBy W1 none ∧ w.heap.size < W1.heap.size ∧ W1.cell? ⟨w.heap.size, 0, none⟩ = some (.int .i64 b) ∧ W1.cell? ⟨w.heap.size, 1, none⟩ = some (.slice ko K.length kc) ∧ W1.cell? ⟨w.heap.size, 2, none⟩ = some (.slice so S.length sc)) := by
        rw [hW1]; exact ⟨HG.out.2.1, hp, s0, s1, s2⟩
      go_wp2
      go_loopw [40] (fun i wl => ∃ k : Nat, k ≤ S.length ∧ i = .int .i64 (k : Int) ∧ okUp (b + K.length) S k ∧ W1.grownBy wl none) (fun i _ => S.length - (intOf i).toNat)
      case atStart => exact ⟨0, Nat.zero_le _, rfl, ⟨by simp, by simp [risesE]⟩, by rw [hW1]; exact grownBy_refl _ _⟩
      case round =>
        clear s0 s1 s2 hp hW1 HG; obtain ⟨k, hk, rfl, hok, hG⟩ := hrel
        have hp : w.heap.size < wr.heap.size := by have := hG.size; have := HW1.out.2.1; omega
        obtain ⟨hc, -⟩ := bcell hG; have s0 : wr.cell? ⟨w.heap.size, 0, none⟩ = some (.int .i64 b) := (hc _ _ HW1.out.2.1).trans HW1.out.2.2.1; have s1 : wr.cell? ⟨w.heap.size, 1, none⟩ = some (.slice ko K.length kc) := (hc _ _ HW1.out.2.1).trans HW1.out.2.2.2.1; have s2 : wr.cell? ⟨w.heap.size, 2, none⟩ = some (.slice so S.length sc) := (hc _ _ HW1.out.2.1).trans HW1.out.2.2.2.2; have HG : Hid (w.grownBy wr none ∧ W1.grownBy wr none ∧ okUp (b + K.length) S k) := ⟨grownBy_trans HW1.out.1 hG, hG, hok⟩; clear hG hc hok
        by_cases hlt : k < S.length
        · obtain ⟨x, hx⟩ : ∃ x, S[k]? = some x := ⟨S[k], List.getElem?_eq_getElem hlt⟩
          rcases HS.out.2.1.grown0 HG.out.1 with ⟨_, _, h0⟩ | ⟨g, rfl, hA⟩
          · rw [h0] at hx; simp at hx
          obtain ⟨n0, n1, n2, hhd, x0, x1, x2, x3⟩ := hA.get3 hx; have hdl := HS.out.2.2.2 x (List.mem_of_getElem? hx); obtain ⟨e0, e1, e2⟩ := El.hd3 hhd; obtain ⟨lc, hlc⟩ : ∃ lc, lastE S k = lc := ⟨_, rfl⟩
          have HX : Hid (S[k]? = some x ∧ (okUp (b + K.length) S (k + 1) ↔ okUp (b + K.length) S k ∧ (itemOk n0 n1 x.d.length ∧ 0 ≤ n2 ∧ n2 < b + K.length) ∧ lc < n0)) :=
            ⟨hx, by have := okUp_succ (b + K.length) S k x hx; unfold okE at this; rw [e0, e1, e2, hlc] at this; exact this⟩
          have HA : Hid (ElAt wr 74 3 g S) := hA; have HLC : Hid (lastE S k = lc) := hlc; clear hx hA e0 e1 e2 hhd hlc; obtain ⟨xh, d, o, cp⟩ := x; simp only at hdl x3 HX; generalize oad o = og at *
          have HI : Hid (∀ w', Calls Tryd.prog 69 #[.int .i64 n0, .int .i64 n1, .slice og d.length cp] w' fun e w'' => e = .returned (.bool (decide (itemOk n0 n1 d.length))) ∧ w'' = w') := fun w' => l5Item_any _ _ _ _ _ w' (by unfold maxLen; omega)
          have HW : Hid (w.grownBy (wr.alloc (.cells #[.int .i64 n0, .int .i64 n1, .int .i64 n2, .slice og d.length cp] 74)) none ∧ W1.grownBy (wr.alloc (.cells #[.int .i64 n0, .int .i64 n1, .int .i64 n2, .slice og d.length cp] 74)) none) := ⟨grownBy_alloc HG.out.1 _, grownBy_alloc HG.out.2.1 _⟩
          have hkL : (k : Int) < (S.length : Int) := by omega
          have kB : IntKind.i64.wrap (b + (K.length : Int)) = b + (K.length : Int) := IntWalk.i64_in _ (by omega); go_wp2_with fail; refine (HI.out _).mono ?_; rintro e w1 ⟨rfl, rfl⟩
          by_cases h1 : itemOk n0 n1 d.length
          · rw [decide_eq_true h1]
            by_cases h4 : 0 ≤ n2
            · have j4 : decide (n2 < 0) = false := by simp; omega
              by_cases h3 : n2 < b + (K.length : Int)
              · cases k with
                | zero =>
                  have HOK : Hid (okUp (b + K.length) S 1) := HX.out.2.2 ⟨HG.out.2.2, ⟨h1, h4, h3⟩, by rw [← HLC.out]; simp [lastE]; have := h1.1; omega⟩; go_wp2; go_quiet (fail); go_wp2; go_roundw
                  case rel => exact ⟨1, by omega, by go_num, HOK.out, grownBy_same HW.out.2 ⟨rfl, rfl, rfl, rfl⟩⟩
                  case measure => simp [intOf]; omega
                | succ j =>
                  obtain ⟨y, hy⟩ : ∃ y, S[j]? = some y := ⟨S[j], List.getElem?_eq_getElem (by omega)⟩; obtain ⟨p0, p1, p2, hhd', y0, -, -, -⟩ := HA.out.get3 hy; have y5 := HA.out.lt
                  have hlc : lc = p0 := by rw [← HLC.out, lastE_succ S j y hy]; exact (El.hd3 hhd').1
                  subst hlc; clear hhd' hy
                  have j5 : (0 : Int) < ((j : Int) + 1) := by omega
                  have j6 : (j : Int) < (S.length : Int) := by omega
                  have j7 : j < S.length := by omega
                  by_cases h2 : lc < n0
                  · have j2 : decide (n0 ≤ lc) = false := by simp; omega
                    have HOK : Hid (okUp (b + K.length) S (j + 1 + 1)) := HX.out.2.2 ⟨HG.out.2.2, ⟨h1, h4, h3⟩, h2⟩; go_wp2; go_quiet (fail); go_wp2; go_roundw
                    case rel => exact ⟨j + 1 + 1, by omega, by go_num, HOK.out, grownBy_same HW.out.2 ⟨rfl, rfl, rfl, rfl⟩⟩
                    case measure => simp [intOf]; omega
                  · have j2 : decide (n0 ≤ lc) = true := by simp; omega
                    go_wp2; go_quiet (fail); go_wp2; go_ret; refine ⟨false, rfl, ⟨fun h => (by cases h), fun h => ?_⟩, grownBy_same HW.out.1 ⟨rfl, rfl, rfl, rfl⟩⟩; have h9 := HX.out.2.1 (okUp_of h (j + 1 + 1)); have := h9.2.2
                    omega
              · have j3 : b + (K.length : Int) ≤ n2 := by omega
                go_wp2; go_ret; refine ⟨false, rfl, ⟨fun h => (by cases h), fun h => ?_⟩, HW.out.1⟩; have := (HX.out.2.1 (okUp_of h (k + 1))).2.1.2.2
                omega
            · have j4 : n2 < 0 := by omega
              go_wp2; go_ret; refine ⟨false, rfl, ⟨fun h => (by cases h), fun h => ?_⟩, HW.out.1⟩; have := (HX.out.2.1 (okUp_of h (k + 1))).2.1.2.1
              omega
          · rw [decide_eq_false h1]; go_wp2; go_ret; refine ⟨false, rfl, ⟨fun h => (by cases h), fun h => ?_⟩, HW.out.1⟩; exact absurd (HX.out.2.1 (okUp_of h (k + 1))).2.1.1 h1
        · obtain rfl : k = S.length := by omega
          go_wp2; go_ret; exact ⟨true, rfl, ⟨fun _ => valid_all hb0 hb1 (by omega) HKK.out HG.out.2.2, fun _ => rfl⟩, HG.out.1⟩
end Go.Proofs.YtdajcpcajdhplaaDoor

/-
  A service without kept items, held against the bounds: the model's L5Valid.
-/
import Derived.Test.YtionggfecikedaaSvValid
import Derived.BigQuiet
namespace Go.Proofs.Ytionggfecikedaa
open Go.RowKit

set_option maxRecDepth 4000 in
set_option maxHeartbeats 4000000 in
theorem l5valid_any (b : Nat) (oa : Option Addr) (cap : Nat) (L : List Se) (w : World) (hs : SesSl w oa L) (hL : L.length ≤ 1073741824) (hn : ∀ x ∈ L, x.c ≤ 4611686018427387904 ∧ x.q ≤ 4611686018427387904 ∧ x.i ≤ 4611686018427387904 ∧ x.d.length ≤ 1073741824) (hb : b ≤ 4611686018427387904) :
    Calls Try.prog 53 #[.agg #[.int .i64 (b : Int), .slice none 0 0, .slice oa L.length cap]] w fun e w' => ∃ r : Bool, e = .returned (.bool r) ∧ (r = true ↔ ValidS b (L.map Se.tell)) ∧ w.grownBy w' none := by
  have HS : Hid (SesSl w oa L ∧ ∀ x ∈ L, x.c ≤ 4611686018427387904 ∧ x.q ≤ 4611686018427387904 ∧ x.i ≤ 4611686018427387904 ∧ x.d.length ≤ 1073741824) := ⟨hs, hn⟩
  clear hs hn
  by_cases hbig : 1000000 < b
  · have hb1 : (1000000 : Int) < (b : Int) := by omega
    go_enter Try.func53, Try.ntmps53
    go_wp2
    go_ret
    refine ⟨false, rfl, ⟨fun h => (by cases h), fun h => absurd h.1 (by omega)⟩, ?_⟩
    repeat (first | exact grownBy_refl _ _ | apply grownBy_alloc)
  have hb1 : (b : Int) ≤ 1000000 := by omega
  go_enter Try.func53, Try.ntmps53
  go_wp2
  go_loop [24] (fun i => i = .int .i64 0) (fun _ => 0)
  case atStart => rfl
  case round =>
    obtain rfl := hrel
    go_wp2
    go_loopw [40] (fun i wl => ∃ k : Nat, k ≤ L.length ∧ i = .int .i64 (k : Int) ∧ okTo b L k ∧ (w.alloc (.cells #[.int .i64 (b : Int), .slice none 0 0, .slice oa L.length cap] 57)).grownBy wl none) (fun i _ => L.length - (intOf i).toNat)
    case atStart => exact ⟨0, Nat.zero_le _, rfl, ⟨by simp, by simp [rises]⟩, grownBy_refl _ _⟩
    case round =>
      obtain ⟨k, hk, rfl, hok, hG⟩ := hrel
      have hp : w.heap.size < wr.heap.size := by have := hG.size; simp at this; omega
      obtain ⟨hc, -⟩ := bcell hG
      have s0 : wr.cell? ⟨w.heap.size, 0, none⟩ = some (.int .i64 (b : Int)) := (hc _ _ (by simp)).trans (by simp)
      have s1 : wr.cell? ⟨w.heap.size, 1, none⟩ = some (.slice none 0 0) := (hc _ _ (by simp)).trans (by simp)
      have s2 : wr.cell? ⟨w.heap.size, 2, none⟩ = some (.slice oa L.length cap) := (hc _ _ (by simp)).trans (by simp)
      have HG : Hid (w.grownBy wr none ∧ (w.alloc (.cells #[.int .i64 (b : Int), .slice none 0 0, .slice oa L.length cap] 57)).grownBy wr none ∧ okTo b L k) := ⟨grownBy_trans (World.grownBy_alloc _ _ _) hG, hG, hok⟩
      clear hG hc hok
      by_cases hlt : k < L.length
      · obtain ⟨x, hx⟩ : ∃ x, L[k]? = some x := ⟨L[k], List.getElem?_eq_getElem hlt⟩
        obtain ⟨g, rfl, x0, x1, x2, x3, x4, x5⟩ := (HS.out.1.grown HG.out.1) k x hx
        obtain ⟨n1, n2, n3, n4⟩ := HS.out.2 x (List.mem_of_getElem? hx)
        have HX : Hid (L[k]? = some x ∧ (okTo b L (k + 1) ↔ okTo b L k ∧ (okS x.tell ∧ x.i < b) ∧ lastC L k < x.c)) := ⟨hx, okTo_succ b L k x hx⟩
        have hkL : (k : Int) < (L.length : Int) := by omega
        have HI : Hid (∀ w', Calls Try.prog 44 #[.int .i64 (x.c : Int), .int .i64 (x.q : Int), .slice (oad x.o) x.d.length x.cp] w' fun e w'' => e = .returned (.bool (decide (itemOk (x.c : Int) (x.q : Int) x.d.length))) ∧ w'' = w') := fun w' => l5Item_any _ _ _ _ _ w' (by unfold maxLen; omega)
        have HW : Hid (w.grownBy (wr.alloc (.cells #[.int .i64 (x.c : Int), .int .i64 (x.q : Int), .int .i64 (x.i : Int), .slice (oad x.o) x.d.length x.cp] 79)) none) := grownBy_alloc HG.out.1 _
        clear hx x4
        go_wp2_with fail
        refine (HI.out _).mono ?_
        rintro e w1 ⟨rfl, rfl⟩
        by_cases h1 : okS x.tell
        · rw [decide_eq_true ((item_ok x).2 h1)]
          have j4 : decide ((x.i : Int) < 0) = false := by simp
          by_cases h3 : x.i < b
          · have j3 : (x.i : Int) < (b : Int) := by omega
            have hc1 : 1 ≤ x.c := h1.1
            cases k with
            | zero =>
              have HOK : Hid (okTo b L 1) := HX.out.2.2 ⟨HG.out.2.2, ⟨h1, h3⟩, by simp [lastC]; omega⟩
              go_wp2
              go_quiet (fail)
              go_wp2
              go_roundw
              case rel => exact ⟨1, by omega, by go_num, HOK.out, grownBy_same (grownBy_alloc HG.out.2.1 _) ⟨rfl, rfl, rfl, rfl⟩⟩
              case measure => simp [intOf]; omega
            | succ j =>
              obtain ⟨y, hy⟩ : ∃ y, L[j]? = some y := ⟨L[j], List.getElem?_eq_getElem (by omega)⟩
              obtain ⟨g', hg', y0, -, -, -, -, y5⟩ := (HS.out.1.grown HG.out.1) j y hy
              simp only [Option.some.injEq, Addr.mk.injEq, and_true] at hg'
              subst hg'
              have hlc : lastC L (j + 1) = y.c := lastC_succ L j y hy
              have j5 : (0 : Int) < ((j : Int) + 1) := by omega
              have j6 : (j : Int) < (L.length : Int) := by omega
              have j7 : j < L.length := by omega
              by_cases h2 : y.c < x.c
              · have j2 : decide (x.c ≤ y.c) = false := by simp; omega
                have j2' : decide ((x.c : Int) ≤ (y.c : Int)) = false := by simp; omega
                have HOK : Hid (okTo b L (j + 1 + 1)) := HX.out.2.2 ⟨HG.out.2.2, ⟨h1, h3⟩, by rw [hlc]; exact h2⟩
                go_wp2
                go_quiet (fail)
                go_wp2
                go_roundw
                case rel => exact ⟨j + 1 + 1, by omega, by go_num, HOK.out, grownBy_same (grownBy_alloc HG.out.2.1 _) ⟨rfl, rfl, rfl, rfl⟩⟩
                case measure => simp [intOf]; omega
              · have j2 : decide (x.c ≤ y.c) = true := by simp; omega
                have j2' : decide ((x.c : Int) ≤ (y.c : Int)) = true := by simp; omega
                go_wp2
                go_quiet (fail)
                go_wp2
                go_ret
                refine ⟨false, rfl, ⟨fun h => (by cases h), fun h => ?_⟩, grownBy_same HW.out ⟨rfl, rfl, rfl, rfl⟩⟩
                have h9 := HX.out.2.1 (okTo_of b L h (j + 1 + 1))
                rw [hlc] at h9
                exact absurd h9.2.2 h2
          · have j3 : (b : Int) ≤ (x.i : Int) := by omega
            go_wp2
            go_ret
            refine ⟨false, rfl, ⟨fun h => (by cases h), fun h => ?_⟩, HW.out⟩
            exact absurd (HX.out.2.1 (okTo_of b L h (k + 1))).2.1.2 h3
        · rw [decide_eq_false (fun h => h1 ((item_ok x).1 h))]
          go_wp2
          go_ret
          refine ⟨false, rfl, ⟨fun h => (by cases h), fun h => ?_⟩, HW.out⟩
          exact absurd (HX.out.2.1 (okTo_of b L h (k + 1))).2.1.1 h1
      · obtain rfl : k = L.length := by omega
        go_wp2
        go_ret
        exact ⟨true, rfl, ⟨fun _ => valid_of b L (by omega) HG.out.2.2, fun _ => rfl⟩, HG.out.1⟩
end Go.Proofs.Ytionggfecikedaa

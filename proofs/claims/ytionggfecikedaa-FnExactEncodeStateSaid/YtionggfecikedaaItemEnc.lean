/-
  An item laid down: EncodeItem, the program's and the model's, walked.
-/
import Derived.Test.YtionggfecikedaaItemEncI
import Derived.Test.YtionggfecikedaaPut
import Derived.Test.YtionggfecikedaaMarkS
import Derived.Deep.RegionHeld3
namespace Go.Proofs.Ytionggfecikedaa
open Go.RowKit

/-- two numbers laid down one behind the other, from any world that is W but for draws -/
theorem put2 (W : World) (b : Nat) (c0 c1 c2 : Value) (hb : b < W.heap.size) (k0 : W.cell? ⟨b, 0, none⟩ = some c0) (k1 : W.cell? ⟨b, 1, none⟩ = some c1) (k2 : W.cell? ⟨b, 2, none⟩ = some c2) :
    ∀ (V1 : Nat) X, V1 ≤ 1000000000 → Same W X → Calls Try.prog 45 #[.int .i64 (V1 : Int), .int .i64 4] X fun e w1 => ∃ g1 p1, e = .returned (.slice (some ⟨g1, 0, none⟩) 4 p1) ∧ (w1.cell? ⟨b, 0, none⟩ = some c0 ∧ w1.cell? ⟨b, 1, none⟩ = some c1 ∧ w1.cell? ⟨b, 2, none⟩ = some c2) ∧
      Hid (∀ (V2 : Nat) Y, V2 ≤ 1000000000 → Same w1 Y → Calls Try.prog 45 #[.int .i64 (V2 : Int), .int .i64 4] Y fun e w2 => ∃ g2 p2, e = .returned (.slice (some ⟨g2, 0, none⟩) 4 p2) ∧ (w2.cell? ⟨b, 0, none⟩ = some c0 ∧ w2.cell? ⟨b, 1, none⟩ = some c1 ∧ w2.cell? ⟨b, 2, none⟩ = some c2) ∧
        Hid (w2.ownsRow W.heap.size 5 1 (.slice (some ⟨g1, 0, none⟩) 4 p1) 4 ((le4 V1).map bv)) ∧ Hid (w2.ownsRow W.heap.size 5 1 (.slice (some ⟨g2, 0, none⟩) 4 p2) 4 ((le4 V2).map bv)) ∧ Hid (W.grownBy w2 none)) := by
  intro V1 X h1 hX
  have G0 : W.grownBy X none := grownBy_same (grownBy_refl _ _) hX
  refine (l2Put4 V1 X (by omega)).mono ?_
  rintro e w1 ⟨g1, p1, rfl, hown1, hG1⟩
  have G1 := grownBy_trans G0 hG1
  refine ⟨g1, p1, rfl, ⟨((bcell G1).1 _ _ hb).trans k0, ((bcell G1).1 _ _ hb).trans k1, ((bcell G1).1 _ _ hb).trans k2⟩, fun V2 Y h2 hY => ?_⟩
  have G2 := grownBy_same G1 hY
  refine (l2Put4 V2 Y (by omega)).mono ?_
  rintro e w2 ⟨g2, p2, rfl, hown2, hG2⟩
  have G3 := grownBy_trans G2 hG2
  have hz := G0.size
  have hz2 := G2.size
  refine ⟨g2, p2, rfl, ⟨((bcell G3).1 _ _ hb).trans k0, ((bcell G3).1 _ _ hb).trans k1, ((bcell G3).1 _ _ hb).trans k2⟩, ?_, ownsRow_base hown2 hz2, G3⟩
  exact World.ownsRow.kept (ownsRow_heap (ownsRow_base hown1 hz) hY.1) hG2 (.inr (by simp [Value.ownBlock]))

set_option maxRecDepth 4000 in
set_option maxHeartbeats 1000000 in
theorem specEncodeItem_ok (cl sq : Nat) (oa : Option Addr) (len cap : Nat) (zs : List Nat) (w : World) (h : itemOk cl sq len) (hsl : SlB w oa len zs) :
    Calls Try.prog 20 #[.agg #[.int .i64 (cl : Int), .int .i64 (sq : Int), .slice oa len cap]] w fun e w' => ∃ g n cp, e = .returned (.tuple #[.slice (some ⟨g, 0, none⟩) n cp, .int .i64 0]) ∧ n = 8 + len ∧ w.heap.size ≤ g ∧ Own w' 5 g (itemB cl sq zs) ∧ w.grownBy w' none := by
  have HS : Hid (SlB w oa len zs) := hsl
  have HK : Hid (itemOk cl sq len) := h
  have hl : zs.length = len := hsl.1
  have hcl : cl ≤ 50 := by have := h.2.1; omega
  have hsq : sq ≤ 1000000000 := by have := h.2.2.2.1; omega
  have hln : len ≤ 64 := h.2.2.2.2
  clear hsl h
  obtain ⟨i0, TB⟩ := byteT
  go_enter Try.func20, Try.ntmps20
  go_wp2_with fail
  refine (l5Item_yes cl sq oa len cap _ HK.out).mono ?_
  rintro e w1 ⟨rfl, hw1⟩
  have HG : Hid (w.grownBy w1 none) := by rw [hw1]; exact World.grownBy_alloc _ _ _
  have hz1 : w1.heap.size = w.heap.size + 1 := by rw [hw1]; simp
  have A0 : w1.cell? ⟨w.heap.size, 0, none⟩ = some (.int .i64 (cl : Int)) := by rw [hw1]; simp
  have A1 : w1.cell? ⟨w.heap.size, 1, none⟩ = some (.int .i64 (sq : Int)) := by rw [hw1]; simp
  have A2 : w1.cell? ⟨w.heap.size, 2, none⟩ = some (.slice oa len cap) := by rw [hw1]; simp
  clear hw1
  have HL : Hid (∀ (V1 : Nat) X, V1 ≤ 1000000000 → Same w1 X → _) := put2 w1 w.heap.size _ _ _ (by omega) A0 A1 A2
  go_wp2_with fail
  go_region_held3 (fun w' => w'.cell? ⟨w.heap.size, 0, none⟩ = some (.int .i64 (cl : Int)) ∧ w'.cell? ⟨w.heap.size, 1, none⟩ = some (.int .i64 (sq : Int)) ∧ w'.cell? ⟨w.heap.size, 2, none⟩ = some (.slice oa len cap)) (first | go_keep | exact hE | exact hD | (exact ⟨keep_far hgr.out hlt hne hD.1, keep_far hgr.out hlt hne hD.2.1, keep_far hgr.out hlt hne hD.2.2⟩) | fail)
    (first
      | (go_at_call 45; refine (HN.out _ _ (by omega) (by exact ⟨rfl, rfl, rfl, rfl⟩)).mono ?_; rintro e w2 ⟨g2, p2, rfl, hD, HR1, HR2, HG2⟩)
      | (go_at_call 45; refine (HL.out _ _ (by omega) (by exact ⟨rfl, rfl, rfl, rfl⟩)).mono ?_; rintro e wa ⟨ga, pa, rfl, hE, HN⟩)
      | (refine step_append_b (by rfl) (.tmp 15) (.tmp 18) TB (by rfl) (base := w1.heap.size) (g := ga) (n := 4) (cap := pa) (xs := le4 cl) (by rfl) (by exact ownsRow_heap HR1.out rfl) (oa := some ⟨g2, 0, none⟩) (m := 4) (c := p2) (zs := le4 sq) (by rfl) (by exact (ownsRow_sl HR2.out (le4_lt sq)).heap rfl) (by omega) (by exact HG2.out.size) ?_; intro g3 c3 w3 hown hgr hat hsz; have hlt : w.heap.size < w2.heap.size := (by have := HG2.out.size; omega); have hne : w.heap.size ≠ ga := (by have := (HR1.out.lt ga rfl).1; omega))
      | (refine step_append_b (by rfl) (.tmp 15) (.tmp 18) TB (by rfl) (base := w1.heap.size) (g := g2) (n := 4) (cap := p2) (xs := le4 cl) (by rfl) (by exact ownsRow_heap HR2.out rfl) (oa := some ⟨ga, 0, none⟩) (m := 4) (c := pa) (zs := le4 sq) (by rfl) (by exact (ownsRow_sl HR1.out (le4_lt sq)).heap rfl) (by omega) (by exact HG2.out.size) ?_; intro g3 c3 w3 hown hgr hat hsz; have hlt : w.heap.size < w2.heap.size := (by have := HG2.out.size; omega); have hne : w.heap.size ≠ g2 := (by have := (HR2.out.lt g2 rfl).1; omega))
      | fail)
  all_goals
    have hK : w3.cell? ⟨w.heap.size, 2, none⟩ = some (.slice oa len cap) := by first | exact keep_far hgr.out hlt hne hD.2.2
    have C3 : Hid (w.grownBy w3 none) := grown_next hgr.out (grownBy_trans HG.out HG2.out) ⟨rfl, rfl, rfl, rfl⟩ (by first | (have := (HR1.out.lt ga rfl).1; omega) | (have := (HR2.out.lt g2 rfl).1; omega))
    have hz3 := C3.out.size
    have hz4 : w1.heap.size ≤ w3.heap.size := Nat.le_trans HG2.out.size hsz
    have R3 : Hid (w3.ownsRow w1.heap.size 5 1 (.slice (some ⟨g3, 0, none⟩) 8 c3) 8 ((le4 cl ++ le4 sq).map bv)) := hown
    clear hgr hat hown hD HR1 HR2 HG2 hne hlt hE HN
    go_wp2_with (at_builtin; refine wpList_append_b (by rfl) (.tmp 20) (.tmp 22) TB (by rfl) (base := w1.heap.size) (g := g3) (n := 8) (cap := c3) (xs := le4 cl ++ le4 sq) (by rfl) (by exact R3.out) (oa := oa) (m := len) (c := cap) (zs := zs) (by rfl) (by exact HS.out.grown0 C3.out) (by omega) (by omega) ?_; intro g4 c4 w4 hown4 hgr4 hat4 hsz4)
    go_ret2
    have hg3 := (R3.out.lt g3 rfl).1
    have hg4 := (hown4.out.lt g4 rfl).1
    refine ⟨g4, 8 + len, c4, rfl, rfl, by omega, ?_, grown_next hgr4.out C3.out ⟨rfl, rfl, rfl, rfl⟩ (by omega)⟩
    exact own_made hown4.out (itemB_lt cl sq zs HS.out.2.1)
set_option maxHeartbeats 400000 in
theorem specEncodeItem_no (cl sq : Int) (oa : Option Addr) (len cap : Nat) (w : World) (h : ¬ itemOk cl sq len) (hx : len ≤ maxLen) :
    Calls Try.prog 20 #[.agg #[.int .i64 cl, .int .i64 sq, .slice oa len cap]] w fun e w' => e = .returned (.tuple #[.slice none 0 0, .int .i64 5]) ∧ w.grownBy w' none := by
  have HK : Hid (¬ itemOk cl sq len) := h
  clear h
  go_enter Try.func20, Try.ntmps20
  go_wp2_with fail
  refine (l5Item_no cl sq oa len cap _ HK.out hx).mono ?_
  rintro e w1 ⟨rfl, hw1⟩
  have HG : Hid (w.grownBy w1 none) := by rw [hw1]; exact World.grownBy_alloc _ _ _
  clear hw1
  go_wp2
  go_ret2
  exact ⟨rfl, HG.out⟩
theorem specEncodeItem_any (cl sq : Int) (oa : Option Addr) (len cap : Nat) (zs : List Nat) (w : World) (hsl : SlB w oa len zs) (hx : len ≤ maxLen) :
    Calls Try.prog 20 #[.agg #[.int .i64 cl, .int .i64 sq, .slice oa len cap]] w fun e w' => ∃ og n cp, e = .returned (.tuple #[.slice og n cp, .int .i64 (itemC cl sq zs)]) ∧ n ≤ 72 ∧ (og = none → cp = 0) ∧ (∀ g, blk og = some g → w.heap.size ≤ g) ∧ OwnS w' 5 og n (itemR cl sq zs) ∧ w.grownBy w' none := by
  have hl := hsl.1
  by_cases hb : itemOk cl sq zs.length
  · have e1 : itemR cl sq zs = itemB cl.toNat sq.toNat zs := if_pos hb
    have e2 : itemC cl sq zs = 0 := if_pos hb
    rw [e1, e2]
    obtain ⟨c, rfl⟩ : ∃ c : Nat, cl = c := ⟨cl.toNat, by have := hb.1; omega⟩
    obtain ⟨q, rfl⟩ : ∃ q : Nat, sq = q := ⟨sq.toNat, by have := hb.2.2.1; omega⟩
    have h64 := hb.2.2.2.2
    refine (specEncodeItem_ok c q oa len cap zs w (by rw [← hl]; exact hb) hsl).mono ?_
    rintro e w' ⟨g, n, cp, rfl, hn, hg, hO, hG⟩
    refine ⟨some ⟨g, 0, none⟩, n, cp, rfl, by omega, (fun h => by cases h), fun g' hg' => ?_, ?_, hG⟩
    · obtain rfl : g = g' := by simpa [blk] using hg'
      exact hg
    · exact hO.s (by rw [itemB_len]; omega)
  · have e1 : itemR cl sq zs = [] := if_neg hb
    have e2 : itemC cl sq zs = 5 := if_neg hb
    rw [e1, e2]
    refine (specEncodeItem_no cl sq oa len cap w (by rw [← hl]; exact hb) hx).mono ?_
    rintro e w' ⟨rfl, hG⟩
    exact ⟨none, 0, 0, rfl, by omega, fun _ => rfl, (fun g hg => by cases hg), OwnS.none _ _, hG⟩
end Go.Proofs.Ytionggfecikedaa

/-
  An item that is drawn: L5DrawItem, walked.
-/
import Derived.Test.YtdajcpcajdhplaaDoorDraw2
import Derived.Test.YtdajcpcajdhplaaDoorItemOk
import Derived.Deep.DeepCutAuto
namespace Go.Proofs.YtdajcpcajdhplaaDoor
open Go.RowKit

set_option maxHeartbeats 400000 in
theorem oneD_any (s : Nat) (k : Int) (zs : List Nat) (w : World) (hs : Src w s zs) (hk : k < 9223372036854775808) (hk0 : -9223372036854775808 ≤ k) :
    Calls Tryd.prog 27 #[.pointer (some ⟨s, 0, none⟩), .int .i64 k] w fun e w' => ∃ b, e = .returned (.bool b) ∧ Src w' s zs ∧ w.grownBy w' (some s) := by
  have HN : Hid (Calls _ _ _ _ _) := drawN_any s k zs w hs hk hk0
  clear hs
  go_enter Tryd.func27, Tryd.ntmps27
  go_wp2_with fail
  refine HN.out.mono ?_
  clear HN
  rintro e w1 ⟨r, rfl, -, -, h1, h2⟩
  have R : Hid (_ ∧ _) := ⟨h1, h2⟩
  clear h1 h2
  go_wp2
  go_ret
  exact ⟨_, rfl, R.out.1, R.out.2⟩
/-- while an item is drawn -/
structure DI (w wl : World) (s : Nat) (zs : List Nat) : Prop where
  src : Src wl s zs
  gr : w.grownBy wl (some s)
  lt : s < w.heap.size
theorem DI.step {w wl wx : World} {s : Nat} {zs : List Nat} (h : DI w wl s zs) (hs : Src wx s zs) (hg : wl.grownBy wx (some s)) : DI w wx s zs := ⟨hs, grownBy_trans h.gr hg, h.lt⟩
theorem DI.more {w wl wx : World} {s : Nat} {zs : List Nat} (h : DI w wl s zs) (hg : wl.grownBy wx none) : DI w wx s zs := ⟨h.src.grown0 hg, grownBy_trans h.gr ⟨hg.os, hg.tape, hg.output, hg.size, fun k hk _ => hg.block k hk (by simp)⟩, h.lt⟩
theorem DI.new {w wl : World} {s : Nat} {zs : List Nat} (h : DI w wl s zs) {b o : Nat} {u : Value} (ha : w.heap.size ≤ b) : DI w (wl.setCell ⟨b, o, none⟩ u) s zs := by
  have hlt := h.lt
  have hb : ∀ k, k ≠ b → (wl.setCell ⟨b, o, none⟩ u).heap[k]? = wl.heap[k]? := fun k hk => heap_setCell_other _ _ _ _ hk
  have hg : wl.grownBy (wl.setCell ⟨b, o, none⟩ u) (some b) := grownBy_setCell (grownBy_refl _ _)
  refine ⟨?_, ⟨hg.os.trans h.gr.os, hg.tape.trans h.gr.tape, hg.output.trans h.gr.output, Nat.le_trans h.gr.size hg.size, fun k hk hne => (hb k (by omega)).trans (h.gr.block k hk hne)⟩, h.lt⟩
  exact h.src.grown hg (fun r e => by simp only [Option.some.injEq] at e; omega)
set_option maxRecDepth 4000 in
set_option maxHeartbeats 4000000 in
theorem drawItem_any (s : Nat) (zs : List Nat) (w : World) (hs : Src w s zs) :
    Calls Tryd.prog 8 #[.pointer (some ⟨s, 0, none⟩)] w fun e w' => ∃ (c q n g cp : Nat) (xs : List Nat), e = .returned (.agg #[.int .i64 (c : Int), .int .i64 (q : Int), .slice (some ⟨g, 0, none⟩) n cp]) ∧ itemOk (c : Int) (q : Int) n ∧ xs.length = n ∧ w.heap.size ≤ g ∧ Own w' 5 g xs ∧ Src w' s zs ∧ w.grownBy w' (some s) := by
  have hsl := hs.lt
  have HN : Hid (∀ (k : Int) (X : World), Src X s zs → k < 9223372036854775808 → 1 < k → Calls Tryd.prog 6 #[.pointer (some ⟨s, 0, none⟩), .int .i64 k] X fun e w' => ∃ r : Nat, e = .returned (.int .i64 (r : Int)) ∧ (r : Int) < k ∧ Src w' s zs ∧ X.grownBy w' (some s)) := fun k X hX h1 h2 => by
    refine (drawN_any s k zs X hX h1 (by omega)).mono ?_
    rintro e w' ⟨r, rfl, -, h4, h5, h6⟩
    exact ⟨r, rfl, h4 h2, h5, h6⟩
  have HB : Hid (∀ (n : Nat) (X : World), Src X s zs → n ≤ 64 → Calls Tryd.prog 26 #[.pointer (some ⟨s, 0, none⟩), .int .i64 (n : Int)] X fun e w' => ∃ (g cap : Nat) (xs : List Nat), e = .returned (.slice (some ⟨g, 0, none⟩) n cap) ∧ xs.length = n ∧ X.heap.size ≤ g ∧ Own w' 5 g xs ∧ Src w' s zs ∧ X.grownBy w' (some s)) := fun n X hX hn => by
    refine (drawBytes_any s n zs X hX (by omega)).mono ?_
    rintro e w' ⟨g, cap, xs, rfl, h1, h2, h3, h4⟩
    exact ⟨g, cap, xs, rfl, by simpa using h2.1, (h2.lt g rfl).1, own_made h2 h1, h3, h4⟩
  have D0 : Hid (DI w (w.alloc (.cells #[.int .i64 0, .int .i64 0, .slice none 0 0] 32)) s zs ∧ (w.alloc (.cells #[.int .i64 0, .int .i64 0, .slice none 0 0] 32)).heap[w.heap.size]? = some (.cells #[.int .i64 0, .int .i64 0, .slice none 0 0] 32 (0, 0))) := ⟨⟨hs.grown0 (World.grownBy_alloc _ _ _), World.grownBy_alloc _ _ _, hsl⟩, heap_alloc_new _ _⟩
  clear hs
  go_enter Tryd.func8, Tryd.ntmps8
  go_wp2_with fail
  refine (HN.out 3 _ D0.out.1.src (by decide) (by decide)).mono ?_
  rintro e w1 ⟨r1, rfl, hr1, hS1, hG1⟩
  have D1 : Hid (DI w w1 s zs ∧ w1.heap[w.heap.size]? = some (.cells #[.int .i64 0, .int .i64 0, .slice none 0 0] 32 (0, 0))) := ⟨D0.out.1.step hS1 hG1, (hG1.block _ (by simp) (by simp; omega)).trans D0.out.2⟩
  clear hS1 hG1 D0
  go_wp2_with fail
  refine (HN.out 6 _ D1.out.1.src (by decide) (by decide)).mono ?_
  rintro e w2 ⟨r2, rfl, hr2, hS2, hG2⟩
  have D2 : Hid (DI w w2 s zs ∧ w2.heap[w.heap.size]? = some (.cells #[.int .i64 0, .int .i64 0, .slice none 0 0] 32 (0, 0))) := ⟨D1.out.1.step hS2 hG2, (hG2.block _ (Array.getElem?_eq_some_iff.1 D1.out.2).1 (by simp; omega)).trans D1.out.2⟩
  clear hS2 hG2 D1
  go_wp2_with fail
  refine (HN.out 4 _ D2.out.1.src (by decide) (by decide)).mono ?_
  rintro e w3 ⟨r3, rfl, hr3, hS3, hG3⟩
  have D3 : Hid (DI w w3 s zs ∧ w3.heap[w.heap.size]? = some (.cells #[.int .i64 0, .int .i64 0, .slice none 0 0] 32 (0, 0))) := ⟨D2.out.1.step hS3 hG3, (hG3.block _ (Array.getElem?_eq_some_iff.1 D2.out.2).1 (by simp; omega)).trans D2.out.2⟩
  clear hS3 hG3 D2
  go_wp2_with fail
  refine (HB.out r3 _ D3.out.1.src (by omega)).mono ?_
  rintro e w4 ⟨g4, c4, xs4, rfl, hx4, hg4, hO4, hS4, hG4⟩
  have D4 : Hid (DI w w4 s zs ∧ w4.heap[w.heap.size]? = some (.cells #[.int .i64 0, .int .i64 0, .slice none 0 0] 32 (0, 0)) ∧ Own w4 5 g4 xs4 ∧ xs4.length = r3 ∧ w.heap.size < g4) := ⟨D3.out.1.step hS4 hG4, (hG4.block _ (Array.getElem?_eq_some_iff.1 D3.out.2).1 (by simp; omega)).trans D3.out.2, hO4, hx4, by have := (Array.getElem?_eq_some_iff.1 D3.out.2).1; omega⟩
  clear hx4 hg4 hO4 hS4 hG4 D3
  have G5 := World.grownBy_alloc w4 (.cells #[.int .i64 (1 + (r1 : Int)), .int .i64 (1 + (r2 : Int)), .slice (some ⟨g4, 0, none⟩) r3 c4] 32) none
  have D5 : Hid (DI w (w4.alloc (.cells #[.int .i64 (1 + (r1 : Int)), .int .i64 (1 + (r2 : Int)), .slice (some ⟨g4, 0, none⟩) r3 c4] 32)) s zs ∧ (w4.alloc (.cells #[.int .i64 (1 + (r1 : Int)), .int .i64 (1 + (r2 : Int)), .slice (some ⟨g4, 0, none⟩) r3 c4] 32)).heap[w.heap.size]? = some (.cells #[.int .i64 0, .int .i64 0, .slice none 0 0] 32 (0, 0)) ∧ (w4.alloc (.cells #[.int .i64 (1 + (r1 : Int)), .int .i64 (1 + (r2 : Int)), .slice (some ⟨g4, 0, none⟩) r3 c4] 32)).heap[w4.heap.size]? = some (.cells #[.int .i64 (1 + (r1 : Int)), .int .i64 (1 + (r2 : Int)), .slice (some ⟨g4, 0, none⟩) r3 c4] 32 (0, 0)) ∧ Own (w4.alloc (.cells #[.int .i64 (1 + (r1 : Int)), .int .i64 (1 + (r2 : Int)), .slice (some ⟨g4, 0, none⟩) r3 c4] 32)) 5 g4 xs4 ∧ xs4.length = r3 ∧ w.heap.size < g4 ∧ w.heap.size < w4.heap.size ∧ g4 < w4.heap.size) := ⟨D4.out.1.more G5, (G5.block _ (Array.getElem?_eq_some_iff.1 D4.out.2.1).1 (by simp)).trans D4.out.2.1, heap_alloc_new _ _, D4.out.2.2.1.grown G5 (by simp), D4.out.2.2.2.1, D4.out.2.2.2.2, (Array.getElem?_eq_some_iff.1 D4.out.2.1).1, D4.out.2.2.1.lt⟩
  clear D4 G5
  go_upto_region 2 with fail
  generalize w4.alloc (.cells #[.int .i64 (1 + (r1 : Int)), .int .i64 (1 + (r2 : Int)), .slice (some ⟨g4, 0, none⟩) r3 c4] 32) = W5 at *
  generalize w4.heap.size = ix at *
  go_wp2_with fail
  refine (oneD_any s 20 zs W5 D5.out.1.src (by decide) (by decide)).mono ?_
  rintro e w6 ⟨b6, rfl, hS6, hG6⟩
  have hxs : ix ≠ s := by have := D5.out.2.2.2.2.2.2.1; omega
  have hgs4 : g4 ≠ s := by have := D5.out.2.2.2.2.2.1; omega
  have D6 : Hid (DI w w6 s zs ∧ w6.heap[w.heap.size]? = some (.cells #[.int .i64 0, .int .i64 0, .slice none 0 0] 32 (0, 0)) ∧ w6.heap[ix]? = some (.cells #[.int .i64 (1 + (r1 : Int)), .int .i64 (1 + (r2 : Int)), .slice (some ⟨g4, 0, none⟩) r3 c4] 32 (0, 0)) ∧ Own w6 5 g4 xs4) := ⟨D5.out.1.step hS6 hG6, (hG6.block _ (Array.getElem?_eq_some_iff.1 D5.out.2.1).1 (by simp; omega)).trans D5.out.2.1, (hG6.block _ (Array.getElem?_eq_some_iff.1 D5.out.2.2.1).1 (by simpa using hxs)).trans D5.out.2.2.1, D5.out.2.2.2.1.grown hG6 (by simpa using hgs4)⟩
  have hlx := D5.out.2.2.2.2
  clear hS6 hG6
  obtain ⟨hx4, hgw, hixw, hg4x⟩ := hlx
  have hixw' : w.heap.size ≠ ix := by omega
  cases b6 with
  | true =>
    clear D5
    go_wp2_with fail
    refine (HN.out 2 _ D6.out.1.src (by decide) (by decide)).mono ?_
    rintro e w7 ⟨r7, rfl, hr7, hS7, hG7⟩
    have D7 : Hid (DI w w7 s zs ∧ w7.heap[w.heap.size]? = some (.cells #[.int .i64 0, .int .i64 0, .slice none 0 0] 32 (0, 0)) ∧ w7.heap[ix]? = some (.cells #[.int .i64 (1 + (r1 : Int)), .int .i64 (1 + (r2 : Int)), .slice (some ⟨g4, 0, none⟩) r3 c4] 32 (0, 0))) := ⟨D6.out.1.step hS7 hG7, (hG7.block _ (Array.getElem?_eq_some_iff.1 D6.out.2.1).1 (by simp; omega)).trans D6.out.2.1, (hG7.block _ (Array.getElem?_eq_some_iff.1 D6.out.2.2.1).1 (by simpa using hxs)).trans D6.out.2.2.1⟩
    clear hS7 hG7 D6
    have x0 : w7.cell? ⟨ix, 0, none⟩ = some (.int .i64 (1 + (r1 : Int))) := by simp [World.cell?, D7.out.2.2]
    have x1 : w7.cell? ⟨ix, 1, none⟩ = some (.int .i64 (1 + (r2 : Int))) := by simp [World.cell?, D7.out.2.2]
    have f0 : w7.frozen? ⟨ix, 0, none⟩ = false := by simp [World.frozen?, D7.out.2.2]
    have f1 : w7.frozen? ⟨ix, 1, none⟩ = false := by simp [World.frozen?, D7.out.2.2]
    obtain ⟨W8, hW8⟩ : ∃ W8, W8 = (w7.setCell ⟨ix, 0, none⟩ (.int .i64 (50 - (r7 : Int)))).setCell ⟨ix, 1, none⟩ (.int .i64 1000000000) := ⟨_, rfl⟩
    have D8 : Hid (DI w W8 s zs ∧ W8.heap[w.heap.size]? = some (.cells #[.int .i64 0, .int .i64 0, .slice none 0 0] 32 (0, 0)) ∧ W8.heap[ix]? = some (.cells #[.int .i64 (50 - (r7 : Int)), .int .i64 1000000000, .slice (some ⟨g4, 0, none⟩) r3 c4] 32 (0, 0))) := by
      rw [hW8]
      refine ⟨(D7.out.1.new (by show w.heap.size ≤ ix; omega)).new (by show w.heap.size ≤ ix; omega), ?_, heap_setCell_same _ _ 1 _ _ _ (heap_setCell_same _ _ 0 _ _ _ D7.out.2.2)⟩
      rw [heap_setCell_other _ _ _ _ hixw', heap_setCell_other _ _ _ _ hixw']
      exact D7.out.2.1
    have HW8 : Hid (W8 = (w7.setCell ⟨ix, 0, none⟩ (.int .i64 (50 - (r7 : Int)))).setCell ⟨ix, 1, none⟩ (.int .i64 1000000000)) := hW8
    clear hW8 D7
    go_upto_region 5 with fail
    rw [← HW8.out]
    clear HW8 x0 x1 f0 f1
    go_wp2_with fail
    refine (HB.out 64 _ D8.out.1.src (by decide)).mono ?_
    rintro e w9 ⟨g9, c9, xs9, rfl, hx9, hg9, hO9, hS9, hG9⟩
    have D9 : Hid (DI w w9 s zs ∧ w9.heap[w.heap.size]? = some (.cells #[.int .i64 0, .int .i64 0, .slice none 0 0] 32 (0, 0)) ∧ w9.heap[ix]? = some (.cells #[.int .i64 (50 - (r7 : Int)), .int .i64 1000000000, .slice (some ⟨g4, 0, none⟩) r3 c4] 32 (0, 0)) ∧ Own w9 5 g9 xs9 ∧ xs9.length = 64 ∧ ix < g9) := ⟨D8.out.1.step hS9 hG9, (hG9.block _ (Array.getElem?_eq_some_iff.1 D8.out.2.1).1 (by simp; omega)).trans D8.out.2.1, (hG9.block _ (Array.getElem?_eq_some_iff.1 D8.out.2.2).1 (by simpa using hxs)).trans D8.out.2.2, hO9, hx9, by have := (Array.getElem?_eq_some_iff.1 D8.out.2.2).1; omega⟩
    clear hx9 hg9 hO9 hS9 hG9 D8
    have x2 : w9.cell? ⟨ix, 2, none⟩ = some (.slice (some ⟨g4, 0, none⟩) r3 c4) := by simp [World.cell?, D9.out.2.2.1]
    have f2 : w9.frozen? ⟨ix, 2, none⟩ = false := by simp [World.frozen?, D9.out.2.2.1]
    obtain ⟨WA, hWA⟩ : ∃ WA, WA = w9.setCell ⟨ix, 2, none⟩ (.slice (some ⟨g9, 0, none⟩) 64 c9) := ⟨_, rfl⟩
    have DA : Hid (DI w WA s zs ∧ WA.heap[w.heap.size]? = some (.cells #[.int .i64 0, .int .i64 0, .slice none 0 0] 32 (0, 0)) ∧ WA.heap[ix]? = some (.cells #[.int .i64 (50 - (r7 : Int)), .int .i64 1000000000, .slice (some ⟨g9, 0, none⟩) 64 c9] 32 (0, 0)) ∧ Own WA 5 g9 xs9 ∧ xs9.length = 64 ∧ ix < g9) := by
      have hgx := D9.out.2.2.2.2.2
      rw [hWA]
      refine ⟨D9.out.1.new (by show w.heap.size ≤ ix; omega), ?_, heap_setCell_same _ _ 2 _ _ _ D9.out.2.2.1, D9.out.2.2.2.1.setOther (by show g9 ≠ ix; omega), D9.out.2.2.2.2.1, hgx⟩
      rw [heap_setCell_other _ _ _ _ hixw']
      exact D9.out.2.1
    have HWA : Hid (WA = w9.setCell ⟨ix, 2, none⟩ (.slice (some ⟨g9, 0, none⟩) 64 c9)) := hWA
    clear hWA D9
    go_upto_region 6 with fail
    rw [← HWA.out]
    clear HWA x2 f2
    have y0 : WA.cell? ⟨ix, 0, none⟩ = some (.int .i64 (50 - (r7 : Int))) := by simp [World.cell?, DA.out.2.2.1]
    have y1 : WA.cell? ⟨ix, 1, none⟩ = some (.int .i64 1000000000) := by simp [World.cell?, DA.out.2.2.1]
    have y2 : WA.cell? ⟨ix, 2, none⟩ = some (.slice (some ⟨g9, 0, none⟩) 64 c9) := by simp [World.cell?, DA.out.2.2.1]
    have z0 : WA.cell? ⟨w.heap.size, 0, none⟩ = some (.int .i64 0) := by simp [World.cell?, DA.out.2.1]
    have z1 : WA.cell? ⟨w.heap.size, 1, none⟩ = some (.int .i64 0) := by simp [World.cell?, DA.out.2.1]
    have z2 : WA.cell? ⟨w.heap.size, 2, none⟩ = some (.slice none 0 0) := by simp [World.cell?, DA.out.2.1]
    have o0 : WA.frozen? ⟨w.heap.size, 0, none⟩ = false := by simp [World.frozen?, DA.out.2.1]
    have o1 : WA.frozen? ⟨w.heap.size, 1, none⟩ = false := by simp [World.frozen?, DA.out.2.1]
    have o2 : WA.frozen? ⟨w.heap.size, 2, none⟩ = false := by simp [World.frozen?, DA.out.2.1]
    go_wp2
    refine bodyPost_ret (v := .agg #[.int .i64 (50 - (r7 : Int)), .int .i64 1000000000, .slice (some ⟨g9, 0, none⟩) 64 c9]) (by simp [results, Tryd.results8, go_sem, z0, z1, z2]) rfl ?_
    have hn : (((50 - r7 : Nat) : Int)) = 50 - (r7 : Int) := by omega
    have D' := ((DA.out.1.new (b := w.heap.size) (o := 0) (u := .int .i64 (50 - (r7 : Int))) (Nat.le_refl _)).new (b := w.heap.size) (o := 1) (u := .int .i64 1000000000) (Nat.le_refl _)).new (b := w.heap.size) (o := 2) (u := .slice (some ⟨g9, 0, none⟩) 64 c9) (Nat.le_refl _)
    have hgw : g9 ≠ w.heap.size := by have := DA.out.2.2.2.2.2; omega
    refine ⟨50 - r7, 1000000000, 64, g9, c9, xs9, by rw [hn]; rfl, ?_, DA.out.2.2.2.2.1, by have := DA.out.2.2.2.2.2; omega, ((DA.out.2.2.2.1.setOther hgw).setOther hgw).setOther hgw, D'.src, D'.gr⟩
    unfold itemOk
    omega
  | false =>
    have y0 : w6.cell? ⟨ix, 0, none⟩ = some (.int .i64 (1 + (r1 : Int))) := by simp [World.cell?, D6.out.2.2.1]
    have y1 : w6.cell? ⟨ix, 1, none⟩ = some (.int .i64 (1 + (r2 : Int))) := by simp [World.cell?, D6.out.2.2.1]
    have y2 : w6.cell? ⟨ix, 2, none⟩ = some (.slice (some ⟨g4, 0, none⟩) r3 c4) := by simp [World.cell?, D6.out.2.2.1]
    have z0 : w6.cell? ⟨w.heap.size, 0, none⟩ = some (.int .i64 0) := by simp [World.cell?, D6.out.2.1]
    have z1 : w6.cell? ⟨w.heap.size, 1, none⟩ = some (.int .i64 0) := by simp [World.cell?, D6.out.2.1]
    have z2 : w6.cell? ⟨w.heap.size, 2, none⟩ = some (.slice none 0 0) := by simp [World.cell?, D6.out.2.1]
    have o0 : w6.frozen? ⟨w.heap.size, 0, none⟩ = false := by simp [World.frozen?, D6.out.2.1]
    have o1 : w6.frozen? ⟨w.heap.size, 1, none⟩ = false := by simp [World.frozen?, D6.out.2.1]
    have o2 : w6.frozen? ⟨w.heap.size, 2, none⟩ = false := by simp [World.frozen?, D6.out.2.1]
    clear D5
    go_wp2
    refine bodyPost_ret (v := .agg #[.int .i64 (1 + (r1 : Int)), .int .i64 (1 + (r2 : Int)), .slice (some ⟨g4, 0, none⟩) r3 c4]) (by simp [results, Tryd.results8, go_sem, z0, z1, z2]) rfl ?_
    have h1 : (((1 + r1 : Nat) : Int)) = 1 + (r1 : Int) := by omega
    have h2 : (((1 + r2 : Nat) : Int)) = 1 + (r2 : Int) := by omega
    have D' := ((D6.out.1.new (b := w.heap.size) (o := 0) (u := .int .i64 (1 + (r1 : Int))) (Nat.le_refl _)).new (b := w.heap.size) (o := 1) (u := .int .i64 (1 + (r2 : Int))) (Nat.le_refl _)).new (b := w.heap.size) (o := 2) (u := .slice (some ⟨g4, 0, none⟩) r3 c4) (Nat.le_refl _)
    have hgw' : g4 ≠ w.heap.size := by omega
    refine ⟨1 + r1, 1 + r2, r3, g4, c4, xs4, by rw [h1, h2], ?_, hx4, by omega, ((D6.out.2.2.2.setOther hgw').setOther hgw').setOther hgw', D'.src, D'.gr⟩
    unfold itemOk
    omega
end Go.Proofs.YtdajcpcajdhplaaDoor

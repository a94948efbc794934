/-
  DrawItem, StEnc, Le4, Payload
-/
import Derived.Test.YtdajcpcajdhplaaDoorSvc20
import Derived.Test.YtdajcpcajdhplaaDoorSvc1
import Derived.Deep.DeepCutAuto
import Derived.Test.YtdajcpcajdhplaaDoorSvc3
import Derived.Laws.OwnMore
/-
  An item that is drawn: L5DrawItem, walked.
-/
namespace Go.Proofs.YtdajcpcajdhplaaDoor
open Go.RowKit

set_option maxHeartbeats 400000 in
theorem oneD_any (s : Nat) (k : Int) (zs : List Nat) (w : World) (hs : Src w s zs) (hk : k < 9223372036854775808) (hk0 : -9223372036854775808 ≤ k) :
    Calls Tryd.prog 27 #[.pointer (some ⟨s, 0, none⟩), .int .i64 k] w fun e w' => ∃ b, e = .returned (.bool b) ∧ Src w' s zs ∧ w.grownBy w' (some s) := by
  have HN : Hid (Calls _ _ _ _ _) := drawN_any s k zs w hs hk hk0; clear hs
  go_enter Tryd.func27, Tryd.ntmps27
  go_wp2_with fail; refine HN.out.mono ?_; clear HN; rintro e w1 ⟨r, rfl, -, -, h1, h2⟩; have R : Hid (_ ∧ _) := ⟨h1, h2⟩; clear h1 h2; go_wp2; go_ret; exact ⟨_, rfl, R.out.1, R.out.2⟩
/-- while an item is drawn -/
structure DI (w wl : World) (s : Nat) (zs : List Nat) : Prop where
  src : Src wl s zs
  gr : w.grownBy wl (some s)
  lt : s < w.heap.size
theorem DI.step {w wl wx : World} {s : Nat} {zs : List Nat} (h : DI w wl s zs) (hs : Src wx s zs) (hg : wl.grownBy wx (some s)) : DI w wx s zs := ⟨hs, grownBy_trans h.gr hg, h.lt⟩
theorem DI.more {w wl wx : World} {s : Nat} {zs : List Nat} (h : DI w wl s zs) (hg : wl.grownBy wx none) : DI w wx s zs := ⟨h.src.grown0 hg, grownBy_trans h.gr ⟨hg.os, hg.tape, hg.output, hg.size, fun k hk _ => hg.block k hk (by simp)⟩, h.lt⟩
theorem DI.new {w wl : World} {s : Nat} {zs : List Nat} (h : DI w wl s zs) {b o : Nat} {u : Value} (ha : w.heap.size ≤ b) : DI w (wl.setCell ⟨b, o, none⟩ u) s zs := by
  have hlt := h.lt
  have hb : ∀ k, k ≠ b → (wl.setCell ⟨b, o, none⟩ u).heap[k]? = wl.heap[k]? := fun k hk => heap_setCell_other _ _ _ _ hk
  have hg : wl.grownBy (wl.setCell ⟨b, o, none⟩ u) (some b) := grownBy_setCell (grownBy_refl _ _); refine ⟨?_, ⟨hg.os.trans h.gr.os, hg.tape.trans h.gr.tape, hg.output.trans h.gr.output, Nat.le_trans h.gr.size hg.size, fun k hk hne => (hb k (by omega)).trans (h.gr.block k hk hne)⟩, h.lt⟩; exact h.src.grown hg (fun r e => by simp only [Option.some.injEq] at e; omega)
set_option maxRecDepth 4000 in
set_option maxHeartbeats 4000000 in
theorem drawItem_any (s : Nat) (zs : List Nat) (w : World) (hs : Src w s zs) :
    Calls Tryd.prog 8 #[.pointer (some ⟨s, 0, none⟩)] w fun e w' => ∃ (c q n g cp : Nat) (xs : List Nat), e = .returned (.agg #[.int .i64 (c : Int), .int .i64 (q : Int), .slice (some ⟨g, 0, none⟩) n cp]) ∧ itemOk (c : Int) (q : Int) n ∧ xs.length = n ∧ w.heap.size ≤ g ∧ Own w' 5 g xs ∧ Src w' s zs ∧ w.grownBy w' (some s) := by
  have hsl := hs.lt
  have HN : Hid (∀ (k : Int) (X : World), Src X s zs → k < 9223372036854775808 → 1 < k → Calls Tryd.prog 6 #[.pointer (some ⟨s, 0, none⟩), .int .i64 k] X fun e w' => ∃ r : Nat, e = .returned (.int .i64 (r : Int)) ∧ (r : Int) < k ∧ Src w' s zs ∧ X.grownBy w' (some s)) := fun k X hX h1 h2 => by
    refine (drawN_any s k zs X hX h1 (by omega)).mono ?_; rintro e w' ⟨r, rfl, -, h4, h5, h6⟩; exact ⟨r, rfl, h4 h2, h5, h6⟩
  have HB : Hid (∀ (n : Nat) (X : World), Src X s zs → n ≤ 64 → Calls Tryd.prog 26 #[.pointer (some ⟨s, 0, none⟩), .int .i64 (n : Int)] X fun e w' => ∃ (g cap : Nat) (xs : List Nat), e = .returned (.slice (some ⟨g, 0, none⟩) n cap) ∧ xs.length = n ∧ X.heap.size ≤ g ∧ Own w' 5 g xs ∧ Src w' s zs ∧ X.grownBy w' (some s)) := fun n X hX hn => by
    refine (drawBytes_any s n zs X hX (by omega)).mono ?_; rintro e w' ⟨g, cap, xs, rfl, h1, h2, h3, h4⟩; exact ⟨g, cap, xs, rfl, by simpa using h2.1, (h2.lt g rfl).1, own_made h2 h1, h3, h4⟩
  have D0 : Hid (DI w (w.alloc (.cells #[.int .i64 0, .int .i64 0, .slice none 0 0] 32)) s zs ∧ (w.alloc (.cells #[.int .i64 0, .int .i64 0, .slice none 0 0] 32)).heap[w.heap.size]? = some (.cells #[.int .i64 0, .int .i64 0, .slice none 0 0] 32 (0, 0))) := ⟨⟨hs.grown0 (World.grownBy_alloc _ _ _), World.grownBy_alloc _ _ _, hsl⟩, heap_alloc_new _ _⟩; clear hs
  go_enter Tryd.func8, Tryd.ntmps8
  go_wp2_with fail; refine (HN.out 3 _ D0.out.1.src (by decide) (by decide)).mono ?_; rintro e w1 ⟨r1, rfl, hr1, hS1, hG1⟩; have D1 : Hid (DI w w1 s zs ∧ w1.heap[w.heap.size]? = some (.cells #[.int .i64 0, .int .i64 0, .slice none 0 0] 32 (0, 0))) := ⟨D0.out.1.step hS1 hG1, (hG1.block _ (by simp) (by simp; omega)).trans D0.out.2⟩; clear hS1 hG1 D0; go_wp2_with fail; refine (HN.out 6 _ D1.out.1.src (by decide) (by decide)).mono ?_; rintro e w2 ⟨r2, rfl, hr2, hS2, hG2⟩; have D2 : Hid (DI w w2 s zs ∧ w2.heap[w.heap.size]? = some (.cells #[.int .i64 0, .int .i64 0, .slice none 0 0] 32 (0, 0))) := ⟨D1.out.1.step hS2 hG2, (hG2.block _ (Array.getElem?_eq_some_iff.1 D1.out.2).1 (by simp; omega)).trans D1.out.2⟩; clear hS2 hG2 D1; go_wp2_with fail; refine (HN.out 4 _ D2.out.1.src (by decide) (by decide)).mono ?_; rintro e w3 ⟨r3, rfl, hr3, hS3, hG3⟩; have D3 : Hid (DI w w3 s zs ∧ w3.heap[w.heap.size]? = some (.cells #[.int .i64 0, .int .i64 0, .slice none 0 0] 32 (0, 0))) := ⟨D2.out.1.step hS3 hG3, (hG3.block _ (Array.getElem?_eq_some_iff.1 D2.out.2).1 (by simp; omega)).trans D2.out.2⟩; clear hS3 hG3 D2; go_wp2_with fail; refine (HB.out r3 _ D3.out.1.src (by omega)).mono ?_; rintro e w4 ⟨g4, c4, xs4, rfl, hx4, hg4, hO4, hS4, hG4⟩; have D4 : Hid (DI w w4 s zs ∧ w4.heap[w.heap.size]? = some (.cells #[.int .i64 0, .int .i64 0, .slice none 0 0] 32 (0, 0)) ∧ Own w4 5 g4 xs4 ∧ xs4.length = r3 ∧ w.heap.size < g4) := ⟨D3.out.1.step hS4 hG4, (hG4.block _ (Array.getElem?_eq_some_iff.1 D3.out.2).1 (by simp; omega)).trans D3.out.2, hO4, hx4, by have := (Array.getElem?_eq_some_iff.1 D3.out.2).1; omega⟩; clear hx4 hg4 hO4 hS4 hG4 D3; have G5 := World.grownBy_alloc w4 (.cells #[.int .i64 (1 + (r1 : Int)), .int .i64 (1 + (r2 : Int)), .slice (some ⟨g4, 0, none⟩) r3 c4] 32) none; have D5 : Hid (DI w (w4.alloc (.cells #[.int .i64 (1 + (r1 : Int)), .int .i64 (1 + (r2 : Int)), .slice (some ⟨g4, 0, none⟩) r3 c4] 32)) s zs ∧ (w4.alloc (.cells #[.int .i64 (1 + (r1 : Int)), .int .i64 (1 + (r2 : Int)), .slice (some ⟨g4, 0, none⟩) r3 c4] 32)).heap[w.heap.size]? = some (.cells #[.int .i64 0, .int .i64 0, .slice none 0 0] 32 (0, 0)) ∧ (w4.alloc (.cells #[.int .i64 (1 + (r1 : Int)), .int .i64 (1 + (r2 : Int)), .slice (some ⟨g4, 0, none⟩) r3 c4] 32)).heap[w4.heap.size]? = some (.cells #[.int .i64 (1 + (r1 : Int)), .int .i64 (1 + (r2 : Int)), .slice (some ⟨g4, 0, none⟩) r3 c4] 32 (0, 0)) ∧ Own (w4.alloc (.cells #[.int .i64 (1 + (r1 : Int)), .int .i64 (1 + (r2 : Int)), .slice (some ⟨g4, 0, none⟩) r3 c4] 32)) 5 g4 xs4 ∧ xs4.length = r3 ∧ w.heap.size < g4 ∧ w.heap.size < w4.heap.size ∧ g4 < w4.heap.size) := ⟨D4.out.1.more G5, (G5.block _ (Array.getElem?_eq_some_iff.1 D4.out.2.1).1 (by simp)).trans D4.out.2.1, heap_alloc_new _ _, D4.out.2.2.1.grown G5 (by simp), D4.out.2.2.2.1, D4.out.2.2.2.2, (Array.getElem?_eq_some_iff.1 D4.out.2.1).1, D4.out.2.2.1.lt⟩; clear D4 G5
  go_upto_region 2 with fail
  generalize w4.alloc (.cells #[.int .i64 (1 + (r1 : Int)), .int .i64 (1 + (r2 : Int)), .slice (some ⟨g4, 0, none⟩) r3 c4] 32) = W5 at *; generalize w4.heap.size = ix at *; go_wp2_with fail; refine (oneD_any s 20 zs W5 D5.out.1.src (by decide) (by decide)).mono ?_; rintro e w6 ⟨b6, rfl, hS6, hG6⟩
  have hxs : ix ≠ s := by have := D5.out.2.2.2.2.2.2.1; omega
  have hgs4 : g4 ≠ s := by have := D5.out.2.2.2.2.2.1; omega
  have D6 : Hid (DI w w6 s zs ∧ w6.heap[w.heap.size]? = some (.cells #[.int .i64 0, .int .i64 0, .slice none 0 0] 32 (0, 0)) ∧ w6.heap[ix]? = some (.cells #[.int .i64 (1 + (r1 : Int)), .int .i64 (1 + (r2 : Int)), .slice (some ⟨g4, 0, none⟩) r3 c4] 32 (0, 0)) ∧ Own w6 5 g4 xs4) := ⟨D5.out.1.step hS6 hG6, (hG6.block _ (Array.getElem?_eq_some_iff.1 D5.out.2.1).1 (by simp; omega)).trans D5.out.2.1, (hG6.block _ (Array.getElem?_eq_some_iff.1 D5.out.2.2.1).1 (by simpa using hxs)).trans D5.out.2.2.1, D5.out.2.2.2.1.grown hG6 (by simpa using hgs4)⟩; have hlx := D5.out.2.2.2.2; clear hS6 hG6; obtain ⟨hx4, hgw, hixw, hg4x⟩ := hlx
  have hixw' : w.heap.size ≠ ix := by omega
  cases b6 with
  | true =>
    clear D5; go_wp2_with fail; refine (HN.out 2 _ D6.out.1.src (by decide) (by decide)).mono ?_; rintro e w7 ⟨r7, rfl, hr7, hS7, hG7⟩; have D7 : Hid (DI w w7 s zs ∧ w7.heap[w.heap.size]? = some (.cells #[.int .i64 0, .int .i64 0, .slice none 0 0] 32 (0, 0)) ∧ w7.heap[ix]? = some (.cells #[.int .i64 (1 + (r1 : Int)), .int .i64 (1 + (r2 : Int)), .slice (some ⟨g4, 0, none⟩) r3 c4] 32 (0, 0))) := ⟨D6.out.1.step hS7 hG7, (hG7.block _ (Array.getElem?_eq_some_iff.1 D6.out.2.1).1 (by simp; omega)).trans D6.out.2.1, (hG7.block _ (Array.getElem?_eq_some_iff.1 D6.out.2.2.1).1 (by simpa using hxs)).trans D6.out.2.2.1⟩; clear hS7 hG7 D6
    have x0 : w7.cell? ⟨ix, 0, none⟩ = some (.int .i64 (1 + (r1 : Int))) := by simp [World.cell?, D7.out.2.2]
    have x1 : w7.cell? ⟨ix, 1, none⟩ = some (.int .i64 (1 + (r2 : Int))) := by simp [World.cell?, D7.out.2.2]
    have f0 : w7.frozen? ⟨ix, 0, none⟩ = false := by simp [World.frozen?, D7.out.2.2]
    have f1 : w7.frozen? ⟨ix, 1, none⟩ = false := by simp [World.frozen?, D7.out.2.2]
    obtain ⟨W8, hW8⟩ : ∃ W8, W8 = (w7.setCell ⟨ix, 0, none⟩ (.int .i64 (50 - (r7 : Int)))).setCell ⟨ix, 1, none⟩ (.int .i64 1000000000) := ⟨_, rfl⟩
    have D8 : Hid (DI w W8 s zs ∧ W8.heap[w.heap.size]? = some (.cells #[.int .i64 0, .int .i64 0, .slice none 0 0] 32 (0, 0)) ∧ W8.heap[ix]? = some (.cells #[.int .i64 (50 - (r7 : Int)), .int .i64 1000000000, .slice (some ⟨g4, 0, none⟩) r3 c4] 32 (0, 0))) := by
      rw [hW8]; refine ⟨(D7.out.1.new (by show w.heap.size ≤ ix; omega)).new (by show w.heap.size ≤ ix; omega), ?_, heap_setCell_same _ _ 1 _ _ _ (heap_setCell_same _ _ 0 _ _ _ D7.out.2.2)⟩; rw [heap_setCell_other _ _ _ _ hixw', heap_setCell_other _ _ _ _ hixw']; exact D7.out.2.1
    have HW8 : Hid (W8 = (w7.setCell ⟨ix, 0, none⟩ (.int .i64 (50 - (r7 : Int)))).setCell ⟨ix, 1, none⟩ (.int .i64 1000000000)) := hW8; clear hW8 D7
    go_upto_region 5 with fail
    rw [← HW8.out]; clear HW8 x0 x1 f0 f1; go_wp2_with fail; refine (HB.out 64 _ D8.out.1.src (by decide)).mono ?_; rintro e w9 ⟨g9, c9, xs9, rfl, hx9, hg9, hO9, hS9, hG9⟩; have D9 : Hid (DI w w9 s zs ∧ w9.heap[w.heap.size]? = some (.cells #[.int .i64 0, .int .i64 0, .slice none 0 0] 32 (0, 0)) ∧ w9.heap[ix]? = some (.cells #[.int .i64 (50 - (r7 : Int)), .int .i64 1000000000, .slice (some ⟨g4, 0, none⟩) r3 c4] 32 (0, 0)) ∧ Own w9 5 g9 xs9 ∧ xs9.length = 64 ∧ ix < g9) := ⟨D8.out.1.step hS9 hG9, (hG9.block _ (Array.getElem?_eq_some_iff.1 D8.out.2.1).1 (by simp; omega)).trans D8.out.2.1, (hG9.block _ (Array.getElem?_eq_some_iff.1 D8.out.2.2).1 (by simpa using hxs)).trans D8.out.2.2, hO9, hx9, by have := (Array.getElem?_eq_some_iff.1 D8.out.2.2).1; omega⟩; clear hx9 hg9 hO9 hS9 hG9 D8
    have x2 : w9.cell? ⟨ix, 2, none⟩ = some (.slice (some ⟨g4, 0, none⟩) r3 c4) := by simp [World.cell?, D9.out.2.2.1]
    have f2 : w9.frozen? ⟨ix, 2, none⟩ = false := by simp [World.frozen?, D9.out.2.2.1]
    obtain ⟨WA, hWA⟩ : ∃ WA, WA = w9.setCell ⟨ix, 2, none⟩ (.slice (some ⟨g9, 0, none⟩) 64 c9) := ⟨_, rfl⟩
    have DA : Hid (DI w WA s zs ∧ WA.heap[w.heap.size]? = some (.cells #[.int .i64 0, .int .i64 0, .slice none 0 0] 32 (0, 0)) ∧ WA.heap[ix]? = some (.cells #[.int .i64 (50 - (r7 : Int)), .int .i64 1000000000, .slice (some ⟨g9, 0, none⟩) 64 c9] 32 (0, 0)) ∧ Own WA 5 g9 xs9 ∧ xs9.length = 64 ∧ ix < g9) := by
      have hgx := D9.out.2.2.2.2.2; rw [hWA]; refine ⟨D9.out.1.new (by show w.heap.size ≤ ix; omega), ?_, heap_setCell_same _ _ 2 _ _ _ D9.out.2.2.1, D9.out.2.2.2.1.setOther (by show g9 ≠ ix; omega), D9.out.2.2.2.2.1, hgx⟩; rw [heap_setCell_other _ _ _ _ hixw']; exact D9.out.2.1
    have HWA : Hid (WA = w9.setCell ⟨ix, 2, none⟩ (.slice (some ⟨g9, 0, none⟩) 64 c9)) := hWA; clear hWA D9
    go_upto_region 6 with fail
    rw [← HWA.out]; clear HWA x2 f2
    have y0 : WA.cell? ⟨ix, 0, none⟩ = some (.int .i64 (50 - (r7 : Int))) := by simp [World.cell?, DA.out.2.2.1]
    have y1 : WA.cell? ⟨ix, 1, none⟩ = some (.int .i64 1000000000) := by simp [World.cell?, DA.out.2.2.1]
    have y2 : WA.cell? ⟨ix, 2, none⟩ = some (.slice (some ⟨g9, 0, none⟩) 64 c9) := by simp [World.cell?, DA.out.2.2.1]
    have z0 : WA.cell? ⟨w.heap.size, 0, none⟩ = some (.int .i64 0) := by simp [World.cell?, DA.out.2.1]
    have z1 : WA.cell? ⟨w.heap.size, 1, none⟩ = some (.int .i64 0) := by simp [World.cell?, DA.out.2.1]
    have z2 : WA.cell? ⟨w.heap.size, 2, none⟩ = some (.slice none 0 0) := by simp [World.cell?, DA.out.2.1]
    have o0 : WA.frozen? ⟨w.heap.size, 0, none⟩ = false := by simp [World.frozen?, DA.out.2.1]
    have o1 : WA.frozen? ⟨w.heap.size, 1, none⟩ = false := by simp [World.frozen?, DA.out.2.1]
    have o2 : WA.frozen? ⟨w.heap.size, 2, none⟩ = false := by simp [World.frozen?, DA.out.2.1]
    go_wp2; refine bodyPost_ret (v := .agg #[.int .i64 (50 - (r7 : Int)), .int .i64 1000000000, .slice (some ⟨g9, 0, none⟩) 64 c9]) (by simp [results, Tryd.results8, go_sem, z0, z1, z2]) rfl ?_
    have hn : (((50 - r7 : Nat) : Int)) = 50 - (r7 : Int) := by omega
    have D' := ((DA.out.1.new (b := w.heap.size) (o := 0) (u := .int .i64 (50 - (r7 : Int))) (Nat.le_refl _)).new (b := w.heap.size) (o := 1) (u := .int .i64 1000000000) (Nat.le_refl _)).new (b := w.heap.size) (o := 2) (u := .slice (some ⟨g9, 0, none⟩) 64 c9) (Nat.le_refl _)
    have hgw : g9 ≠ w.heap.size := by have := DA.out.2.2.2.2.2; omega
    refine ⟨50 - r7, 1000000000, 64, g9, c9, xs9, by rw [hn]; rfl, ?_, DA.out.2.2.2.2.1, by have := DA.out.2.2.2.2.2; omega, ((DA.out.2.2.2.1.setOther hgw).setOther hgw).setOther hgw, D'.src, D'.gr⟩
    unfold itemOk
    omega
  | false =>
    have y0 : w6.cell? ⟨ix, 0, none⟩ = some (.int .i64 (1 + (r1 : Int))) := by simp [World.cell?, D6.out.2.2.1]
    have y1 : w6.cell? ⟨ix, 1, none⟩ = some (.int .i64 (1 + (r2 : Int))) := by simp [World.cell?, D6.out.2.2.1]
    have y2 : w6.cell? ⟨ix, 2, none⟩ = some (.slice (some ⟨g4, 0, none⟩) r3 c4) := by simp [World.cell?, D6.out.2.2.1]
    have z0 : w6.cell? ⟨w.heap.size, 0, none⟩ = some (.int .i64 0) := by simp [World.cell?, D6.out.2.1]
    have z1 : w6.cell? ⟨w.heap.size, 1, none⟩ = some (.int .i64 0) := by simp [World.cell?, D6.out.2.1]
    have z2 : w6.cell? ⟨w.heap.size, 2, none⟩ = some (.slice none 0 0) := by simp [World.cell?, D6.out.2.1]
    have o0 : w6.frozen? ⟨w.heap.size, 0, none⟩ = false := by simp [World.frozen?, D6.out.2.1]
    have o1 : w6.frozen? ⟨w.heap.size, 1, none⟩ = false := by simp [World.frozen?, D6.out.2.1]
    have o2 : w6.frozen? ⟨w.heap.size, 2, none⟩ = false := by simp [World.frozen?, D6.out.2.1]
    clear D5; go_wp2; refine bodyPost_ret (v := .agg #[.int .i64 (1 + (r1 : Int)), .int .i64 (1 + (r2 : Int)), .slice (some ⟨g4, 0, none⟩) r3 c4]) (by simp [results, Tryd.results8, go_sem, z0, z1, z2]) rfl ?_
    have h1 : (((1 + r1 : Nat) : Int)) = 1 + (r1 : Int) := by omega
    have h2 : (((1 + r2 : Nat) : Int)) = 1 + (r2 : Int) := by omega
    have D' := ((D6.out.1.new (b := w.heap.size) (o := 0) (u := .int .i64 (1 + (r1 : Int))) (Nat.le_refl _)).new (b := w.heap.size) (o := 1) (u := .int .i64 (1 + (r2 : Int))) (Nat.le_refl _)).new (b := w.heap.size) (o := 2) (u := .slice (some ⟨g4, 0, none⟩) r3 c4) (Nat.le_refl _)
    have hgw' : g4 ≠ w.heap.size := by omega
    refine ⟨1 + r1, 1 + r2, r3, g4, c4, xs4, by rw [h1, h2], ?_, hx4, by omega, ((D6.out.2.2.2.setOther hgw').setOther hgw').setOther hgw', D'.src, D'.gr⟩
    unfold itemOk
    omega
theorem Hid.mkS {p : Prop} (h : p) : Hid p := h
/-- the bytes of the first k sessions behind the head -/
def stTo (b : Nat) (L : List Se) (k : Nat) : List Nat := leN b 8 ++ (leN L.length 8 ++ encL ((L.take k).map Se.tell))
/-- .. and of the first j numbers of one more -/
def numTo (x : Se) (j : Nat) : List Nat := ([x.c, x.q, x.i, x.d.length].take j).flatMap (fun v => leN v 8)
theorem stTo_zero (b : Nat) (L : List Se) : stTo b L 0 = leN b 8 ++ leN L.length 8 := by simp [stTo, encL]
theorem stTo_all (b : Nat) (L : List Se) : stTo b L L.length = encSt b (L.map Se.tell) := by simp [stTo, encSt]
theorem stTo_succ (b : Nat) (L : List Se) (k : Nat) (x : Se) (hx : L[k]? = some x) : stTo b L (k + 1) = stTo b L k ++ numTo x 4 ++ x.d := by
  have hk : k < L.length := (List.getElem?_eq_some_iff.1 hx).1
  have e : L.take (k + 1) = L.take k ++ [x] := by
    rw [List.getElem?_eq_getElem hk] at hx; rw [List.take_succ_eq_append_getElem hk, Option.some.inj hx]
  unfold stTo
  rw [e, List.map_append, List.map_cons, List.map_nil, encL_snoc]
  simp [encS, numTo, Se.tell]
theorem numTo_succ (x : Se) (j : Nat) (hj : j < 4) : numTo x (j + 1) = numTo x j ++ leN ([x.c, x.q, x.i, x.d.length].getD j 0) 8 := by
  rcases (show j = 0 ∨ j = 1 ∨ j = 2 ∨ j = 3 by omega) with rfl | rfl | rfl | rfl <;> simp [numTo]
theorem numTo_len (x : Se) (j : Nat) (hj : j ≤ 4) : (numTo x j).length = 8 * j := by
  rcases (show j = 0 ∨ j = 1 ∨ j = 2 ∨ j = 3 ∨ j = 4 by omega) with rfl | rfl | rfl | rfl | rfl <;> simp [numTo, leN_len]
theorem stTo_lt (b : Nat) (L : List Se) (k : Nat) (h : ∀ x ∈ L, ∀ z ∈ x.d, z < 256) : ∀ z ∈ stTo b L k, z < 256 := by
  intro z hz
  unfold stTo at hz
  rcases List.mem_append.1 hz with h1 | h1
  · exact leN_lt _ _ z h1
  · rcases List.mem_append.1 h1 with h1 | h1
    · exact leN_lt _ _ z h1
    · unfold encL at h1
      obtain ⟨y, hy, hz'⟩ := List.mem_flatMap.1 h1; obtain ⟨x, hx, rfl⟩ := List.mem_map.1 hy
      unfold encS at hz'
      simp only [List.mem_append] at hz'
      rcases hz' with h2 | h2 | h2 | h2 | h2
      · exact leN_lt _ _ z h2
      · exact leN_lt _ _ z h2
      · exact leN_lt _ _ z h2
      · exact leN_lt _ _ z h2
      · exact h x (List.mem_of_mem_take hx) z h2
theorem numTo_lt (x : Se) (j : Nat) : ∀ z ∈ numTo x j, z < 256 := by
  intro z hz
  unfold numTo at hz
  obtain ⟨v, _, hv⟩ := List.mem_flatMap.1 hz; exact leN_lt _ _ z hv
theorem row_ne {w : World} {base e g n c k : Nat} {xs : List Value} {cur : Array Value} {e' : TypeId} {f : Nat × Nat} (h : w.ownsRow base e 1 (.slice (some ⟨g, 0, none⟩) n c) n xs) (h' : w.heap[k]? = some (.cells cur e' f)) (hne : e ≠ e') : k ≠ g := by
  rintro rfl
  rcases h.2 with ⟨h0, _⟩ | ⟨g', cap', cur', h0, _, hg, _⟩
  · simp at h0
  · simp only [Value.slice.injEq, Option.some.injEq, Addr.mk.injEq, and_true, true_and] at h0; obtain ⟨rfl, _⟩ := h0; rw [hg] at h'; simp only [Option.some.injEq, Obj.cells.injEq] at h'; exact hne h'.2.1
/-- as ValidS, where the count may be above the bound of a base -/
def ValidW (b : Nat) (l : List Sn) : Prop := b ≤ 2000000 ∧ (∀ x ∈ l, okS x ∧ x.i < b) ∧ rises 0 l
theorem ValidW.len {b : Nat} {l : List Sn} (h : ValidW b l) : l.length ≤ 50 := by
  have := rises_len l 0 h.2.2 (fun x hx => (h.2.1 x hx).1.2.1) (by decide)
  omega
set_option maxHeartbeats 1000000 in
theorem putNumber_own (g off len cap n : Nat) (zs : List Nat) (w : World) (hO : Own w 5 g zs) (h4 : 4 ≤ len) (hm : len ≤ 1073741824) (hl : off + 4 ≤ zs.length) (hn : n < 4294967296) :
    Calls Tryd.prog 29 #[.slice (some ⟨g, off, none⟩) len cap, .int .u32 (n : Int)] w fun e w' => e = .returned (.tuple #[]) ∧ Own w' 5 g (putN zs off n 4) ∧ w.grownBy w' (some g) := by
  have HO : Hid (Own w 5 g zs) := hO; clear hO
  go_enter Tryd.func29, Tryd.ntmps29
  go_wp2
  go_loopw [5] (fun i wr => ∃ k : Nat, k ≤ 4 ∧ i = .int .i64 k ∧ Own wr 5 g (putN zs off n k) ∧ w.grownBy wr (some g)) (fun i _ => 4 - (intOf i).toNat)
  case atStart => exact ⟨0, Nat.zero_le _, rfl, HO.out, grownBy_refl _ _⟩
  case round =>
    obtain ⟨k, hk, rfl, hO, hG⟩ := hrel
    by_cases hlt : k < 4
    · have hcw := hO.cell (off + k) (by rw [putN_len]; omega); have hfz := hO.free (off + k)
      have hv : (le4 n).getD k 0 < 256 := by
        have hk4 : k < (le4 n).length := by rw [le4_len]; omega
        refine le4_lt n _ ?_
        simp [List.getD, hk4]
      have R : Hid (Own (wr.setCell ⟨g, off + k, none⟩ (.int .u8 (((le4 n).getD k 0 : Nat) : Int))) 5 g (putN zs off n (k + 1)) ∧ w.grownBy (wr.setCell ⟨g, off + k, none⟩ (.int .u8 (((le4 n).getD k 0 : Nat) : Int))) (some g)) :=
        ⟨hO.set (off + k) _ hv, grownBy_setCell hG⟩
      obtain ⟨c0, hce0⟩ : ∃ c0, c0 = (putN zs off n k).getD (off + k) 0 := ⟨_, rfl⟩; rw [← hce0] at hcw; clear hO hG hce0 hv
      rcases (show k = 0 ∨ k = 1 ∨ k = 2 ∨ k = 3 by omega) with rfl | rfl | rfl | rfl
      · have e1 : (((le4 n).getD 0 0 : Nat) : Int) = (n : Int) % 256 := by simp [le4]
        rw [e1] at R; simp only [Nat.add_zero] at R hcw hfz; go_wp2; go_roundw
        case rel => exact ⟨1, by omega, by go_num, R.out.1, R.out.2⟩
        case measure => simp [intOf]
      · have e1 : (((le4 n).getD 1 0 : Nat) : Int) = (n : Int) / 256 % 256 := by simp [le4]
        rw [e1] at R; go_wp2; go_roundw
        case rel => exact ⟨2, by omega, by go_num, R.out.1, R.out.2⟩
        case measure => simp [intOf]
      · have e1 : (((le4 n).getD 2 0 : Nat) : Int) = (n : Int) / 65536 % 256 := by simp [le4]
        rw [e1] at R; go_wp2; go_roundw
        case rel => exact ⟨3, by omega, by go_num, R.out.1, R.out.2⟩
        case measure => simp [intOf]
      · have e1 : (((le4 n).getD 3 0 : Nat) : Int) = (n : Int) / 16777216 := by simp [le4]; omega
        rw [e1] at R; go_wp2; go_roundw
        case rel => exact ⟨4, by omega, by go_num, R.out.1, R.out.2⟩
        case measure => simp [intOf]
    · obtain rfl : k = 4 := by omega
      have R : Hid (_ ∧ _) := ⟨hO, hG⟩; clear hO hG; go_wp2
      go_end0
      exact ⟨rfl, R.out.1, R.out.2⟩
set_option maxHeartbeats 1000000 in
theorem putNumber_row (base m cp g off len cap n : Nat) (zs : List Nat) (w : World) (hR : w.ownsRow base 5 1 (.slice (some ⟨g, 0, none⟩) m cp) m (zs.map bv)) (hz : ∀ z ∈ zs, z < 256) (h4 : 4 ≤ len) (hm : len ≤ 1073741824) (hl : off + 4 ≤ zs.length) (hn : n < 4294967296) :
    Calls Tryd.prog 29 #[.slice (some ⟨g, off, none⟩) len cap, .int .u32 (n : Int)] w fun e w' => e = .returned (.tuple #[]) ∧ w'.ownsRow base 5 1 (.slice (some ⟨g, 0, none⟩) m cp) m ((putN zs off n 4).map bv) ∧ w.grownBy w' (some g) := by
  have HO : Hid (w.ownsRow base 5 1 (.slice (some ⟨g, 0, none⟩) m cp) m ((zs).map bv)) := hR; have HZ : Hid (∀ z ∈ zs, z < 256) := hz; clear hR hz
  go_enter Tryd.func29, Tryd.ntmps29
  go_wp2
  go_loopw [5] (fun i wr => ∃ k : Nat, k ≤ 4 ∧ i = .int .i64 k ∧ wr.ownsRow base 5 1 (.slice (some ⟨g, 0, none⟩) m cp) m ((putN zs off n k).map bv) ∧ w.grownBy wr (some g)) (fun i _ => 4 - (intOf i).toNat)
  case atStart => exact ⟨0, Nat.zero_le _, rfl, HO.out, grownBy_refl _ _⟩
  case round =>
    obtain ⟨k, hk, rfl, hR, hG⟩ := hrel; have hO := own_made hR (putN_lt zs off n k HZ.out)
    by_cases hlt : k < 4
    · have hcw := hO.cell (off + k) (by rw [putN_len]; omega); have hfz := hO.free (off + k)
      have hv : (le4 n).getD k 0 < 256 := by
        have hk4 : k < (le4 n).length := by rw [le4_len]; omega
        refine le4_lt n _ ?_
        simp [List.getD, hk4]
      have R : Hid ((wr.setCell ⟨g, off + k, none⟩ (.int .u8 (((le4 n).getD k 0 : Nat) : Int))).ownsRow base 5 1 (.slice (some ⟨g, 0, none⟩) m cp) m ((putN zs off n (k + 1)).map bv) ∧ w.grownBy (wr.setCell ⟨g, off + k, none⟩ (.int .u8 (((le4 n).getD k 0 : Nat) : Int))) (some g)) :=
        ⟨by have := hR.stored (off + k) (bv ((le4 n).getD k 0)); rw [← List.map_set] at this; exact this.1, grownBy_setCell hG⟩
      obtain ⟨c0, hce0⟩ : ∃ c0, c0 = (putN zs off n k).getD (off + k) 0 := ⟨_, rfl⟩; rw [← hce0] at hcw; clear hO hG hR hce0 hv
      rcases (show k = 0 ∨ k = 1 ∨ k = 2 ∨ k = 3 by omega) with rfl | rfl | rfl | rfl
      · have e1 : (((le4 n).getD 0 0 : Nat) : Int) = (n : Int) % 256 := by simp [le4]
        rw [e1] at R; simp only [Nat.add_zero] at R hcw hfz; go_wp2; go_roundw
        case rel => exact ⟨1, by omega, by go_num, R.out.1, R.out.2⟩
        case measure => simp [intOf]
      · have e1 : (((le4 n).getD 1 0 : Nat) : Int) = (n : Int) / 256 % 256 := by simp [le4]
        rw [e1] at R; go_wp2; go_roundw
        case rel => exact ⟨2, by omega, by go_num, R.out.1, R.out.2⟩
        case measure => simp [intOf]
      · have e1 : (((le4 n).getD 2 0 : Nat) : Int) = (n : Int) / 65536 % 256 := by simp [le4]
        rw [e1] at R; go_wp2; go_roundw
        case rel => exact ⟨3, by omega, by go_num, R.out.1, R.out.2⟩
        case measure => simp [intOf]
      · have e1 : (((le4 n).getD 3 0 : Nat) : Int) = (n : Int) / 16777216 := by simp [le4]; omega
        rw [e1] at R; go_wp2; go_roundw
        case rel => exact ⟨4, by omega, by go_num, R.out.1, R.out.2⟩
        case measure => simp [intOf]
    · obtain rfl : k = 4 := by omega
      have R : Hid (_ ∧ _) := ⟨hR, hG⟩; clear hO hG hR; go_wp2
      go_end0
      exact ⟨rfl, R.out.1, R.out.2⟩
def payN (vs : List Nat) : List Nat := vs.flatMap (fun v => leN v 8)
theorem payN_len (vs : List Nat) : (payN vs).length = 8 * vs.length := by
  induction vs with
  | nil => rfl
  | cons v vs ih => simp [payN, leN_len] at *; omega
theorem payN_lt (vs : List Nat) : ∀ z ∈ payN vs, z < 256 := by
  intro z hz; obtain ⟨v, _, hv⟩ := List.mem_flatMap.1 hz; exact leN_lt v 8 z hv
/-- behind k rounds -/
def payTo (vs : List Nat) (n k : Nat) : List Nat := payN (vs.take k) ++ List.replicate (8 * (n - k)) 0
theorem leN_eight (v : Nat) (h : v < 4294967296) : leN v 8 = le4 v ++ [0, 0, 0, 0] := by
  simp [leN, le4]
  omega
theorem payTo_one (vs : List Nat) (n k v : Nat) (hv : vs[k]? = some v) (hn : vs.length = n) (h32 : v < 4294967296) : putN (putN (payTo vs n k) (8 * k) v 4) (8 * k + 4) 0 4 = payTo vs n (k + 1) := by
  have hk : k < vs.length := (List.getElem?_eq_some_iff.1 hv).1
  have hl : (payN (vs.take k)).length = 8 * k := by rw [payN_len, List.length_take]; omega
  have e1 : payTo vs n k = payN (vs.take k) ++ List.replicate 4 0 ++ (List.replicate 4 0 ++ List.replicate (8 * (n - (k + 1))) 0) := by
    unfold payTo
    rw [List.append_assoc, ← List.append_assoc (List.replicate 4 0), List.replicate_append_replicate, List.replicate_append_replicate]
    congr 2
    omega
  rw [e1, ← hl, putN_four _ _ _ _ (by simp)]
  have e2 : payN (vs.take k) ++ le4 v ++ (List.replicate 4 0 ++ List.replicate (8 * (n - (k + 1))) 0) = (payN (vs.take k) ++ le4 v) ++ List.replicate 4 0 ++ List.replicate (8 * (n - (k + 1))) 0 := by simp [List.append_assoc]
  have hl2 : (payN (vs.take k) ++ le4 v).length = (payN (vs.take k)).length + 4 := by simp [le4_len]
  rw [e2, ← hl2, putN_four _ _ _ _ (by simp)]
  unfold payTo
  have e3 : vs.take (k + 1) = vs.take k ++ [v] := by
    rw [List.getElem?_eq_getElem hk] at hv; rw [List.take_succ_eq_append_getElem hk, Option.some.inj hv]
  rw [e3]; simp only [payN, List.flatMap_append, List.flatMap_cons, List.flatMap_nil, List.append_nil, leN_eight v h32]
  simp [le4]
theorem payTo_len (vs : List Nat) (n k : Nat) (hk : k ≤ n) (hn : vs.length = n) : (payTo vs n k).length = 8 * n := by
  unfold payTo
  rw [List.length_append, payN_len, List.length_take, List.length_replicate]
  omega
theorem payTo_lt (vs : List Nat) (n k : Nat) : ∀ z ∈ payTo vs n k, z < 256 := by
  intro z hz
  rcases List.mem_append.1 hz with h | h
  · exact payN_lt _ z h
  · have := List.eq_of_mem_replicate h
    omega
set_option maxRecDepth 4000 in
set_option maxHeartbeats 2000000 in
theorem payload_any (Y n cap : Nat) (vs : List Nat) (w : World) (hY : ∀ (i v : Nat), vs[i]? = some v → w.cell? ⟨Y, i, none⟩ = some (.int .i64 (v : Int))) (hn : vs.length = n) (hn9 : n ≤ 1000) (hv : ∀ v ∈ vs, v < 4294967296) :
    Calls Tryd.prog 37 #[.slice (some ⟨Y, 0, none⟩) n cap] w fun e w' => e = .returned (.slice (some ⟨w.heap.size, 0, none⟩) (8 * n) (8 * n)) ∧ w'.ownsRow w.heap.size 5 1 (.slice (some ⟨w.heap.size, 0, none⟩) (8 * n) (8 * n)) (8 * n) ((payN vs).map bv) ∧ w.grownBy w' none := by
  have HY : Hid ((∀ (i v : Nat), vs[i]? = some v → w.cell? ⟨Y, i, none⟩ = some (.int .i64 (v : Int))) ∧ vs.length = n ∧ ∀ v ∈ vs, v < 4294967296) := ⟨hY, hn, hv⟩; clear hY hn hv; obtain ⟨i0, hi, hz0, hz1, hz2⟩ := info_parts Tryd.infoByte; obtain ⟨N, hN⟩ : ∃ N, 8 * n = N := ⟨_, rfl⟩
  have hNI : (8 : Int) * (n : Int) = (N : Int) := by omega
  have HN : Hid (8 * n = N) := hN
  have hNb : N ≤ 8000 := by omega
  rw [hN]; clear hN
  go_enter Tryd.func37, Tryd.ntmps37
  go_wp2_with (at_make; refine wpList_make_full _ rfl (.tmp 8) (.tmp 8) 22 rfl w.heap.size 5 i0 (.int .u8 0) 1 Tryd.underlying22 hi hz0 hz1 .i64 .i64 N N N rfl rfl rfl rfl ?cb ?cm (Nat.le_refl _) ?_)
  case cb => rw [hz2]; omega
  case cm => unfold maxLen; omega
  intro w1 hown hgrow
  have HO : Hid (w1.ownsRow w.heap.size 5 1 (.slice (some ⟨w.heap.size, 0, none⟩) N N) N ((payTo vs n 0).map bv)) := by
    have e : (madeCells #[Value.int .u8 0] N).toList = (payTo vs n 0).map bv := by
      have := HN.out
      simp [payTo, payN, toList_madeCells_one, bv, ← this]
    rw [← e]; exact hown
  have HG : Hid (w.grownBy w1 none) := hgrow; clear hown hgrow; go_wp2
  go_loopw [12] (fun i wr => ∃ k : Nat, k ≤ n ∧ i = .int .i64 (k : Int) ∧ wr.ownsRow w.heap.size 5 1 (.slice (some ⟨w.heap.size, 0, none⟩) N N) N ((payTo vs n k).map bv) ∧ w.grownBy wr none) (fun i _ => n - (intOf i).toNat)
  case atStart => exact ⟨0, Nat.zero_le _, rfl, HO.out, HG.out⟩
  case round =>
    clear HO HG; obtain ⟨k, hk, rfl, hO, hG⟩ := hrel; have HO : Hid (wr.ownsRow w.heap.size 5 1 (.slice (some ⟨w.heap.size, 0, none⟩) N N) N ((payTo vs n k).map bv) ∧ w.grownBy wr none) := ⟨hO, hG⟩
    by_cases hlt : k < n
    · obtain ⟨v, hv⟩ : ∃ v, vs[k]? = some v := ⟨_, List.getElem?_eq_getElem (by rw [HY.out.2.1]; exact hlt)⟩
      have hcv : wr.cell? ⟨Y, k, none⟩ = some (.int .i64 (v : Int)) := by
        have h0 := HY.out.1 k v hv; exact ((bcell hG).1 _ _ (cell_block_lt h0)).trans h0
      have hv32 := HY.out.2.2 v (List.mem_of_getElem? hv); have HP : Hid (putN (putN (payTo vs n k) (8 * k) v 4) (8 * k + 4) 0 4 = payTo vs n (k + 1) ∧ (payTo vs n k).length = N) := ⟨payTo_one vs n k v hv HY.out.2.1 hv32, by rw [payTo_len vs n k hk HY.out.2.1]; exact HN.out⟩; obtain ⟨k8, hk8⟩ : ∃ k8, 8 * k = k8 := ⟨_, rfl⟩
      have hk8I : (8 : Int) * (k : Int) = (k8 : Int) := by omega
      have HK8 : Hid (8 * k = k8 ∧ k8 + 8 ≤ N) := ⟨hk8, by have := HN.out; omega⟩
      have z0 : ¬ N = k8 := by have := HN.out; omega
      have z1 : ¬ N = k8 + 4 := by have := HN.out; omega
      have z2 : (k8 : Int) ≤ (N : Int) := by have := HN.out; omega
      have z3 : (k8 : Int) + 4 ≤ (N : Int) := by have := HN.out; omega
      have hkI : (k : Int) < (n : Int) := by omega
      have d0 : (v : Int) / 4294967296 = 0 := by omega
      have d1 : v / 4294967296 = 0 := by omega
      clear hv hO hG hk8; go_wp2_with fail; refine (putNumber_row w.heap.size N N w.heap.size k8 (N - k8) (N - k8) v (payTo vs n k) _ HO.out.1 (payTo_lt vs n k) (by have := HK8.out.2; omega) (by omega) (by rw [HP.out.2]; have := HK8.out.2; omega) hv32).mono ?_; rintro e w2 ⟨rfl, hO2, hG2⟩; have H2 : Hid (w2.ownsRow w.heap.size 5 1 (.slice (some ⟨w.heap.size, 0, none⟩) N N) N ((putN (payTo vs n k) k8 v 4).map bv) ∧ w.grownBy w2 none) := ⟨hO2, grownBy_new HO.out.2 hG2 (Nat.le_refl _)⟩; clear hO2 hG2; go_wp2_with fail; refine (putNumber_row w.heap.size N N w.heap.size (k8 + 4) (N - (k8 + 4)) (N - (k8 + 4)) 0 _ _ H2.out.1 (putN_lt _ _ _ _ (payTo_lt vs n k)) (by have := HK8.out.2; omega) (by omega) (by rw [putN_len, HP.out.2]; have := HK8.out.2; omega) (by omega)).mono ?_; rintro e w3 ⟨rfl, hO3, hG3⟩
      have H3 : Hid (w3.ownsRow w.heap.size 5 1 (.slice (some ⟨w.heap.size, 0, none⟩) N N) N ((payTo vs n (k + 1)).map bv) ∧ w.grownBy w3 none) := by
        refine ⟨?_, grownBy_new H2.out.2 hG3 (Nat.le_refl _)⟩; have := HP.out.1; rw [HK8.out.1] at this; rw [← this]; exact hO3
      clear hO3 hG3 HO H2; go_wp2; go_roundw
      case rel => exact ⟨k + 1, by omega, by go_num, H3.out.1, H3.out.2⟩
      case measure => simp [intOf]; omega
    · obtain rfl : k = n := by omega
      clear hO hG; go_wp2; go_ret; refine ⟨rfl, ?_, HO.out.2⟩; have h1 := HO.out.1
      have e : payTo vs k k = payN vs := by
        have := HY.out.2.1
        simp [payTo, ← this]
      rw [e] at h1; exact h1
end Go.Proofs.YtdajcpcajdhplaaDoor

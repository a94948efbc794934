/-
  Md20, Md21, Md22, Md23, Md24, Md25, Draw, DrawS, Draw2, Dw0, Dw1, Md26, Dw2
-/
import Derived.Test.YtgehhfncjoogiaaGreatDoorSyn8
import Derived.Test.YtgehhfncjoogiaaGreatDoorSyn1
import Derived.BigQuiet
import Derived.Test.YtgehhfncjoogiaaGreatDoorChecked
import Derived.Deep.CutRange
namespace Go.Proofs.YtgehhfncjoogiaaGreatDoor
open Go.RowKit Go.Maps

set_option maxRecDepth 20000 in
set_option maxHeartbeats 8000000 in
theorem do9_anyM (d : Nat) (B : Bs) (N Z L Q : Nat) (M : Mk) (a : Int) (nm tn : ByteArray) (da : Option Addr) (dn dc : Nat) (D : List Nat) (w : World) (h : MkAt w B d M N Z L Q) (hD : BV w (.slice da dn dc) D) (hbd : N + 2 * Q ≤ 800000 ∧ L ≤ 900000 ∧ Z < 800000 ∧ Q ≤ 300000) :
    Calls Tryz.prog 9 #[.pointer (some ⟨d, 0, none⟩), .agg #[.int .i64 9, .int .i64 a, .string nm, .string tn, .slice da dn dc]] w fun e w' => (∃ u0 u1, e = .returned (.agg #[u0, u1])) ∧ DoOutM w w' B d (N + 2 * Q) Z L Q := by
  obtain ⟨hN, hL, hZ, hQ⟩ := hbd; have hdl : d < w.heap.size := (Array.getElem?_eq_some_iff.1 h.box).1
  have e1 : (w.alloc (.cells #[.int .i64 9, .int .i64 a, .string nm, .string tn, .slice da dn dc] 33)).heap.size = w.heap.size + 1 := by simp
  have hg2 : w.grownBy ((w.alloc (.cells #[.int .i64 9, .int .i64 a, .string nm, .string tn, .slice da dn dc] 33)).alloc (.cells #[.int .i64 0, .slice none 0 0] 35)) none := grownBy_alloc (grownBy_alloc (grownBy_refl _ _) _) _
  have HB2 : Hid (((w.alloc (.cells #[.int .i64 9, .int .i64 a, .string nm, .string tn, .slice da dn dc] 33)).alloc (.cells #[.int .i64 0, .slice none 0 0] 35)).heap[w.heap.size]? = some (.cells #[.int .i64 9, .int .i64 a, .string nm, .string tn, .slice da dn dc] 33 (0, 0)) ∧ ((w.alloc (.cells #[.int .i64 9, .int .i64 a, .string nm, .string tn, .slice da dn dc] 33)).alloc (.cells #[.int .i64 0, .slice none 0 0] 35)).heap[w.heap.size + 1]? = some (.cells [.int .i64 0, .slice none 0 0].toArray 35 (0, 0)) ∧ w.grownBy ((w.alloc (.cells #[.int .i64 9, .int .i64 a, .string nm, .string tn, .slice da dn dc] 33)).alloc (.cells #[.int .i64 0, .slice none 0 0] 35)) none ∧ MkAt ((w.alloc (.cells #[.int .i64 9, .int .i64 a, .string nm, .string tn, .slice da dn dc] 33)).alloc (.cells #[.int .i64 0, .slice none 0 0] 35)) B d M N Z L Q ∧ BV ((w.alloc (.cells #[.int .i64 9, .int .i64 a, .string nm, .string tn, .slice da dn dc] 33)).alloc (.cells #[.int .i64 0, .slice none 0 0] 35)) (.slice da dn dc) D) := by
    refine ⟨grown_blk (World.grownBy_alloc _ _ none) (heap_alloc_new w _), ?_, hg2, h.grown0 hg2, hD.grown0 hg2⟩; rw [← e1]; exact heap_alloc_new _ _
  clear h hD hg2 e1
  go_enter Tryz.func9, Tryz.ntmps9
  go_upto_region 1 with fail
  generalize ((w.alloc (.cells #[.int .i64 9, .int .i64 a, .string nm, .string tn, .slice da dn dc] 33)).alloc (.cells #[.int .i64 0, .slice none 0 0] 35)) = W2 at HB2 ⊢; have o0 : W2.cell? ⟨w.heap.size, 0, none⟩ = some (.int .i64 9) := (zCr HB2.out.1).trans rfl; have o1 : W2.cell? ⟨w.heap.size, 1, none⟩ = some (.int .i64 a) := (zCr HB2.out.1).trans rfl; have o4 : W2.cell? ⟨w.heap.size, 4, none⟩ = some (.slice da dn dc) := (zCr HB2.out.1).trans rfl; have HCR : Hid (Calls _ _ _ _ _) := l1Within_any a 0 262144 W2; go_wp2_with fail; refine HCR.out.mono ?_; rintro e w0 ⟨⟨r, rfl⟩, hg0⟩; have hmk := HB2.out.2.2.2.1.grown0 hg0; have z1 : w0.cell? ⟨d, 7, none⟩ = some _ := hmk.cap8.1; have z2 : w0.frozen? ⟨d, 7, none⟩ = false := hmk.cap8.2.2.2 7
  have hmo : MkOut W2 (w0.setCell ⟨d, 7, none⟩ (.int .i64 r)) B d (N + 2 * Q) Z L Q := by
    obtain ⟨f1, f2⟩ := hmk.setCap r; exact ⟨⟨_, f1.mono (by omega) (Nat.le_refl _) (Nat.le_refl _) (Nat.le_refl _)⟩, (Moves.of_grown0 hg0).trans (f2.wide (fun _ h => h) (by simp))⟩
  clear HCR o0 o1 o4 hg0 hmk
  go_upto_region 4 with fail
  generalize w0.setCell ⟨d, 7, none⟩ (.int .i64 r) = w1 at hmo ⊢; clear z1 z2; have HF : Hid (_ ∧ _ ∧ _) := hmo.ans (u0 := .int .i64 0) (u1 := .slice none 0 0) HB2.out.2.2.1 (by omega) HB2.out.2.1 rfl; have hT := HF.out.2.1; clear hmo
  go_wp2_with (refine wpList_store_mid (by rfl) 35 (.tmp 4) (.tmp 18) (by rfl) (w.heap.size + 1) 0 #[.int .i64 0, .slice none 0 0] (by rfl) (by rfl) ?sa ?sb ?sc ?sd; exact hT; show _ = some 2; exact Tryz.sizeAns; exact all_oneCell_toArray (List.all_eq_true.1 rfl); simp only [Act.put])
  refine bodyPost_ret (results_ans (g := w.heap.size + 1) rfl rfl HF.out.1 rfl) rfl ?_; exact ⟨⟨_, _, rfl⟩, HF.out.2.2⟩
set_option maxRecDepth 20000 in
set_option maxHeartbeats 8000000 in
theorem do10_anyM (d : Nat) (B : Bs) (N Z L Q : Nat) (M : Mk) (a : Int) (nm tn : ByteArray) (da : Option Addr) (dn dc : Nat) (D : List Nat) (w : World) (h : MkAt w B d M N Z L Q) (hD : BV w (.slice da dn dc) D) (hbd : N + 2 * Q ≤ 800000 ∧ L ≤ 900000 ∧ Z < 800000 ∧ Q ≤ 300000) :
    Calls Tryz.prog 9 #[.pointer (some ⟨d, 0, none⟩), .agg #[.int .i64 10, .int .i64 a, .string nm, .string tn, .slice da dn dc]] w fun e w' => (∃ u0 u1, e = .returned (.agg #[u0, u1])) ∧ DoOutM w w' B d (N + 2 * Q) Z L Q := by
  obtain ⟨hN, hL, hZ, hQ⟩ := hbd; have hdl : d < w.heap.size := (Array.getElem?_eq_some_iff.1 h.box).1
  have e1 : (w.alloc (.cells #[.int .i64 10, .int .i64 a, .string nm, .string tn, .slice da dn dc] 33)).heap.size = w.heap.size + 1 := by simp
  have hg2 : w.grownBy ((w.alloc (.cells #[.int .i64 10, .int .i64 a, .string nm, .string tn, .slice da dn dc] 33)).alloc (.cells #[.int .i64 0, .slice none 0 0] 35)) none := grownBy_alloc (grownBy_alloc (grownBy_refl _ _) _) _
  have HB2 : Hid (((w.alloc (.cells #[.int .i64 10, .int .i64 a, .string nm, .string tn, .slice da dn dc] 33)).alloc (.cells #[.int .i64 0, .slice none 0 0] 35)).heap[w.heap.size]? = some (.cells #[.int .i64 10, .int .i64 a, .string nm, .string tn, .slice da dn dc] 33 (0, 0)) ∧ ((w.alloc (.cells #[.int .i64 10, .int .i64 a, .string nm, .string tn, .slice da dn dc] 33)).alloc (.cells #[.int .i64 0, .slice none 0 0] 35)).heap[w.heap.size + 1]? = some (.cells [.int .i64 0, .slice none 0 0].toArray 35 (0, 0)) ∧ w.grownBy ((w.alloc (.cells #[.int .i64 10, .int .i64 a, .string nm, .string tn, .slice da dn dc] 33)).alloc (.cells #[.int .i64 0, .slice none 0 0] 35)) none ∧ MkAt ((w.alloc (.cells #[.int .i64 10, .int .i64 a, .string nm, .string tn, .slice da dn dc] 33)).alloc (.cells #[.int .i64 0, .slice none 0 0] 35)) B d M N Z L Q ∧ BV ((w.alloc (.cells #[.int .i64 10, .int .i64 a, .string nm, .string tn, .slice da dn dc] 33)).alloc (.cells #[.int .i64 0, .slice none 0 0] 35)) (.slice da dn dc) D) := by
    refine ⟨grown_blk (World.grownBy_alloc _ _ none) (heap_alloc_new w _), ?_, hg2, h.grown0 hg2, hD.grown0 hg2⟩; rw [← e1]; exact heap_alloc_new _ _
  clear h hD hg2 e1
  go_enter Tryz.func9, Tryz.ntmps9
  go_upto_region 1 with fail
  generalize ((w.alloc (.cells #[.int .i64 10, .int .i64 a, .string nm, .string tn, .slice da dn dc] 33)).alloc (.cells #[.int .i64 0, .slice none 0 0] 35)) = W2 at HB2 ⊢; have o0 : W2.cell? ⟨w.heap.size, 0, none⟩ = some (.int .i64 10) := (zCr HB2.out.1).trans rfl; have o1 : W2.cell? ⟨w.heap.size, 1, none⟩ = some (.int .i64 a) := (zCr HB2.out.1).trans rfl; have o4 : W2.cell? ⟨w.heap.size, 4, none⟩ = some (.slice da dn dc) := (zCr HB2.out.1).trans rfl; have HCR : Hid (Calls _ _ _ _ _) := l1Within_any a (-1) a W2; go_wp2_with fail; refine HCR.out.mono ?_; rintro e w0 ⟨⟨r, rfl⟩, hg0⟩; have hmk := HB2.out.2.2.2.1.grown0 hg0; have z1 : w0.cell? ⟨d, 8, none⟩ = some _ := hmk.cap8.2.1; have z2 : w0.frozen? ⟨d, 8, none⟩ = false := hmk.cap8.2.2.2 8
  have hmo : MkOut W2 (w0.setCell ⟨d, 8, none⟩ (.int .i64 r)) B d (N + 2 * Q) Z L Q := by
    obtain ⟨f1, f2⟩ := hmk.setFuse r; exact ⟨⟨_, f1.mono (by omega) (Nat.le_refl _) (Nat.le_refl _) (Nat.le_refl _)⟩, (Moves.of_grown0 hg0).trans (f2.wide (fun _ h => h) (by simp))⟩
  clear HCR o0 o1 o4 hg0 hmk
  go_upto_region 7 with fail
  generalize w0.setCell ⟨d, 8, none⟩ (.int .i64 r) = w1 at hmo ⊢; clear z1 z2; have HF : Hid (_ ∧ _ ∧ _) := hmo.ans (u0 := .int .i64 0) (u1 := .slice none 0 0) HB2.out.2.2.1 (by omega) HB2.out.2.1 rfl; have hT := HF.out.2.1; clear hmo
  go_wp2_with (refine wpList_store_mid (by rfl) 35 (.tmp 4) (.tmp 29) (by rfl) (w.heap.size + 1) 0 #[.int .i64 0, .slice none 0 0] (by rfl) (by rfl) ?sa ?sb ?sc ?sd; exact hT; show _ = some 2; exact Tryz.sizeAns; exact all_oneCell_toArray (List.all_eq_true.1 rfl); simp only [Act.put])
  refine bodyPost_ret (results_ans (g := w.heap.size + 1) rfl rfl HF.out.1 rfl) rfl ?_; exact ⟨⟨_, _, rfl⟩, HF.out.2.2⟩
set_option maxRecDepth 20000 in
set_option maxHeartbeats 8000000 in
theorem do11_anyM (d : Nat) (B : Bs) (N Z L Q : Nat) (M : Mk) (a : Int) (nm tn : ByteArray) (da : Option Addr) (dn dc : Nat) (D : List Nat) (w : World) (h : MkAt w B d M N Z L Q) (hD : BV w (.slice da dn dc) D) (hbd : N + 2 * Q ≤ 800000 ∧ L ≤ 900000 ∧ Z < 800000 ∧ Q ≤ 300000) :
    Calls Tryz.prog 9 #[.pointer (some ⟨d, 0, none⟩), .agg #[.int .i64 11, .int .i64 a, .string nm, .string tn, .slice da dn dc]] w fun e w' => (∃ u0 u1, e = .returned (.agg #[u0, u1])) ∧ DoOutM w w' B d (N + 2 * Q) Z L Q := by
  obtain ⟨hN, hL, hZ, hQ⟩ := hbd; have hdl : d < w.heap.size := (Array.getElem?_eq_some_iff.1 h.box).1
  have e1 : (w.alloc (.cells #[.int .i64 11, .int .i64 a, .string nm, .string tn, .slice da dn dc] 33)).heap.size = w.heap.size + 1 := by simp
  have hg2 : w.grownBy ((w.alloc (.cells #[.int .i64 11, .int .i64 a, .string nm, .string tn, .slice da dn dc] 33)).alloc (.cells #[.int .i64 0, .slice none 0 0] 35)) none := grownBy_alloc (grownBy_alloc (grownBy_refl _ _) _) _
  have HB2 : Hid (((w.alloc (.cells #[.int .i64 11, .int .i64 a, .string nm, .string tn, .slice da dn dc] 33)).alloc (.cells #[.int .i64 0, .slice none 0 0] 35)).heap[w.heap.size]? = some (.cells #[.int .i64 11, .int .i64 a, .string nm, .string tn, .slice da dn dc] 33 (0, 0)) ∧ ((w.alloc (.cells #[.int .i64 11, .int .i64 a, .string nm, .string tn, .slice da dn dc] 33)).alloc (.cells #[.int .i64 0, .slice none 0 0] 35)).heap[w.heap.size + 1]? = some (.cells [.int .i64 0, .slice none 0 0].toArray 35 (0, 0)) ∧ w.grownBy ((w.alloc (.cells #[.int .i64 11, .int .i64 a, .string nm, .string tn, .slice da dn dc] 33)).alloc (.cells #[.int .i64 0, .slice none 0 0] 35)) none ∧ MkAt ((w.alloc (.cells #[.int .i64 11, .int .i64 a, .string nm, .string tn, .slice da dn dc] 33)).alloc (.cells #[.int .i64 0, .slice none 0 0] 35)) B d M N Z L Q ∧ BV ((w.alloc (.cells #[.int .i64 11, .int .i64 a, .string nm, .string tn, .slice da dn dc] 33)).alloc (.cells #[.int .i64 0, .slice none 0 0] 35)) (.slice da dn dc) D) := by
    refine ⟨grown_blk (World.grownBy_alloc _ _ none) (heap_alloc_new w _), ?_, hg2, h.grown0 hg2, hD.grown0 hg2⟩; rw [← e1]; exact heap_alloc_new _ _
  clear h hD hg2 e1
  go_enter Tryz.func9, Tryz.ntmps9
  go_upto_region 1 with fail
  generalize ((w.alloc (.cells #[.int .i64 11, .int .i64 a, .string nm, .string tn, .slice da dn dc] 33)).alloc (.cells #[.int .i64 0, .slice none 0 0] 35)) = W2 at HB2 ⊢; have o0 : W2.cell? ⟨w.heap.size, 0, none⟩ = some (.int .i64 11) := (zCr HB2.out.1).trans rfl; have o1 : W2.cell? ⟨w.heap.size, 1, none⟩ = some (.int .i64 a) := (zCr HB2.out.1).trans rfl; have o4 : W2.cell? ⟨w.heap.size, 4, none⟩ = some (.slice da dn dc) := (zCr HB2.out.1).trans rfl; have HCR : Hid (Calls _ _ _ _ _) := crash_anyM d B N Z L Q M da dn dc D W2 HB2.out.2.2.2.1 HB2.out.2.2.2.2 (by omega) (by omega) hL (by omega); go_wp2_with fail; refine HCR.out.mono ?_; rintro e w1 ⟨rfl, hmo⟩; clear HCR o0 o1 o4; have HF : Hid (_ ∧ _ ∧ _) := hmo.ans (u0 := .int .i64 0) (u1 := .slice none 0 0) HB2.out.2.2.1 (by omega) HB2.out.2.1 rfl; have hT := HF.out.2.1; clear hmo
  go_wp2_with (refine wpList_store_mid (by rfl) 35 (.tmp 4) (.tmp 36) (by rfl) (w.heap.size + 1) 0 #[.int .i64 0, .slice none 0 0] (by rfl) (by rfl) ?sa ?sb ?sc ?sd; exact hT; show _ = some 2; exact Tryz.sizeAns; exact all_oneCell_toArray (List.all_eq_true.1 rfl); simp only [Act.put])
  refine bodyPost_ret (results_ans (g := w.heap.size + 1) rfl rfl HF.out.1 rfl) rfl ?_; exact ⟨⟨_, _, rfl⟩, HF.out.2.2⟩
set_option maxRecDepth 20000 in
set_option maxHeartbeats 8000000 in
theorem doS_anyM (d : Nat) (B : Bs) (N Z L Q N' Z' Q' : Nat) (M : Mk) (kd a : Int) (nm tn : ByteArray) (da : Option Addr) (dn dc : Nat) (D : List Nat) (w : World) (h : MkAt w B d M N Z L Q) (hD : BV w (.slice da dn dc) D) (hle : N ≤ N' ∧ Z ≤ Z' ∧ Q ≤ Q') (hkd : 1 ≤ kd ∧ kd ≤ 7)
    (hft : ∀ w1, MkAt w1 B d M N Z L Q → Calls Tryz.prog 24 #[.pointer (some ⟨d, 0, none⟩), .agg #[.int .i64 kd, .int .i64 a, .string nm, .string tn, .slice da dn dc]] w1 fun e w' => (∃ code : Int, e = .returned (.int .i64 code) ∧ (code = 0 → FOk kd a nm dn L M.mn)) ∧ w1.grownBy w' none)
    (hsp : FOk kd a nm dn L M.mn → ∀ w1 M1, MkAt w1 B d M1 N Z L Q → M1.mn = M.mn → BV w1 (.slice da dn dc) D → Calls Tryz.prog 26 #[.pointer (some ⟨d, 0, none⟩), .agg #[.int .i64 kd, .int .i64 a, .string nm, .string tn, .slice da dn dc]] w1 fun e w' => e = .returned (.tuple #[]) ∧ MkOut w1 w' B d N' Z' L Q') :
    Calls Tryz.prog 9 #[.pointer (some ⟨d, 0, none⟩), .agg #[.int .i64 kd, .int .i64 a, .string nm, .string tn, .slice da dn dc]] w fun e w' => (∃ u0 u1, e = .returned (.agg #[u0, u1])) ∧ DoOutM w w' B d N' Z' L Q' := by
  have hdl : d < w.heap.size := (Array.getElem?_eq_some_iff.1 h.box).1
  have e1 : (w.alloc (.cells #[.int .i64 kd, .int .i64 a, .string nm, .string tn, .slice da dn dc] 33)).heap.size = w.heap.size + 1 := by simp
  have hg2 : w.grownBy ((w.alloc (.cells #[.int .i64 kd, .int .i64 a, .string nm, .string tn, .slice da dn dc] 33)).alloc (.cells #[.int .i64 0, .slice none 0 0] 35)) none := grownBy_alloc (grownBy_alloc (grownBy_refl _ _) _) _
  have HB2 : Hid (((w.alloc (.cells #[.int .i64 kd, .int .i64 a, .string nm, .string tn, .slice da dn dc] 33)).alloc (.cells #[.int .i64 0, .slice none 0 0] 35)).heap[w.heap.size]? = some (.cells #[.int .i64 kd, .int .i64 a, .string nm, .string tn, .slice da dn dc] 33 (0, 0)) ∧ ((w.alloc (.cells #[.int .i64 kd, .int .i64 a, .string nm, .string tn, .slice da dn dc] 33)).alloc (.cells #[.int .i64 0, .slice none 0 0] 35)).heap[w.heap.size + 1]? = some (.cells [.int .i64 0, .slice none 0 0].toArray 35 (0, 0)) ∧ w.grownBy ((w.alloc (.cells #[.int .i64 kd, .int .i64 a, .string nm, .string tn, .slice da dn dc] 33)).alloc (.cells #[.int .i64 0, .slice none 0 0] 35)) none ∧ MkAt ((w.alloc (.cells #[.int .i64 kd, .int .i64 a, .string nm, .string tn, .slice da dn dc] 33)).alloc (.cells #[.int .i64 0, .slice none 0 0] 35)) B d M N Z L Q ∧ BV ((w.alloc (.cells #[.int .i64 kd, .int .i64 a, .string nm, .string tn, .slice da dn dc] 33)).alloc (.cells #[.int .i64 0, .slice none 0 0] 35)) (.slice da dn dc) D) := by
    refine ⟨grown_blk (World.grownBy_alloc _ _ none) (heap_alloc_new w _), ?_, hg2, h.grown0 hg2, hD.grown0 hg2⟩; rw [← e1]; exact heap_alloc_new _ _
  have t9 : (kd == 9) = false := by simp; omega
  have t10 : (kd == 10) = false := by simp; omega
  have t11 : (kd == 11) = false := by simp; omega
  have t8 : (kd == 8) = false := by simp; omega
  have t1 : ¬ kd < 1 := by omega
  have t2 : ¬ 8 < kd := by omega
  clear h hD hg2 e1
  go_enter Tryz.func9, Tryz.ntmps9
  go_upto_region 1 with fail
  generalize ((w.alloc (.cells #[.int .i64 kd, .int .i64 a, .string nm, .string tn, .slice da dn dc] 33)).alloc (.cells #[.int .i64 0, .slice none 0 0] 35)) = W2 at HB2 ⊢; have o0 : W2.cell? ⟨w.heap.size, 0, none⟩ = some (.int .i64 kd) := (zCr HB2.out.1).trans rfl; have o1 : W2.cell? ⟨w.heap.size, 1, none⟩ = some (.int .i64 a) := (zCr HB2.out.1).trans rfl; have o2 : W2.cell? ⟨w.heap.size, 2, none⟩ = some (.string nm) := (zCr HB2.out.1).trans rfl; have o3 : W2.cell? ⟨w.heap.size, 3, none⟩ = some (.string tn) := (zCr HB2.out.1).trans rfl; have o4 : W2.cell? ⟨w.heap.size, 4, none⟩ = some (.slice da dn dc) := (zCr HB2.out.1).trans rfl; obtain ⟨hcap, hfu, hof, hfz⟩ := HB2.out.2.2.2.1.cap8; obtain ⟨ob, hob⟩ : ∃ y, M.off = y := ⟨_, rfl⟩; rw [hob] at hof
  cases ob
  · have HFC : Hid (Calls _ _ _ _ _) := hft W2 HB2.out.2.2.2.1; clear hcap hfu hfz; go_wp2_with fail; refine HFC.out.mono ?_; rintro e w3 ⟨⟨code, rfl, hfo⟩, hg3⟩; have HB3 : Hid (w3.heap[w.heap.size]? = some (.cells #[.int .i64 kd, .int .i64 a, .string nm, .string tn, .slice da dn dc] 33 (0, 0)) ∧ MkAt w3 B d M N Z L Q ∧ BV w3 (.slice da dn dc) D ∧ W2.grownBy w3 none) := ⟨grown_blk hg3 HB2.out.1, HB2.out.2.2.2.1.grown0 hg3, HB2.out.2.2.2.2.grown0 hg3, hg3⟩; clear HFC hg3 o0 o1 o2 o3 o4 hof; have o0 : w3.cell? ⟨w.heap.size, 0, none⟩ = some (.int .i64 kd) := (zCr HB3.out.1).trans rfl; have o1 : w3.cell? ⟨w.heap.size, 1, none⟩ = some (.int .i64 a) := (zCr HB3.out.1).trans rfl; have o2 : w3.cell? ⟨w.heap.size, 2, none⟩ = some (.string nm) := (zCr HB3.out.1).trans rfl; have o3 : w3.cell? ⟨w.heap.size, 3, none⟩ = some (.string tn) := (zCr HB3.out.1).trans rfl; have o4 : w3.cell? ⟨w.heap.size, 4, none⟩ = some (.slice da dn dc) := (zCr HB3.out.1).trans rfl
    by_cases hc0 : code = 0
    · subst hc0; have HFO : Hid (FOk kd a nm dn L M.mn) := hfo rfl; clear hfo; obtain ⟨hcap, hfu, hof, hfz⟩ := HB3.out.2.1.cap8; have hz8 := hfz 8; have hz9 := hfz 9
      by_cases hf0 : M.fuse = 0
      · have tf : (M.fuse == 0) = true := by simp [hf0]
        have hmo : MkOut W2 (w3.setCell ⟨d, 9, none⟩ (.bool true)) B d N' Z' L Q' := by
          obtain ⟨f1, f2⟩ := HB3.out.2.1.setOff true; exact ⟨⟨_, f1.mono hle.1 hle.2.1 (Nat.le_refl _) hle.2.2⟩, (Moves.of_grown0 HB3.out.2.2.2).trans (f2.wide (fun _ h => h) (by simp))⟩
        clear hfz
        go_upto_region 26 with fail
        generalize w3.setCell ⟨d, 9, none⟩ (.bool true) = w6 at hmo ⊢; clear hcap hfu hof hz8 hz9 o0 o1 o2 o3 o4; have HF : Hid (_ ∧ _ ∧ _) := hmo.ans (u0 := .int .i64 7) (u1 := .slice none 0 0) HB2.out.2.2.1 (by omega) HB2.out.2.1 rfl; have hT := HF.out.2.1
        go_wp2_with (refine wpList_store_mid (by rfl) 35 (.tmp 4) (.tmp 95) (by rfl) (w.heap.size + 1) 0 #[.int .i64 7, .slice none 0 0] (by rfl) (by rfl) ?sa1 ?sb1 ?sc1 ?sd1; exact hT; show _ = some 2; exact Tryz.sizeAns; exact all_oneCell_toArray (List.all_eq_true.1 rfl); simp only [Act.put])
        refine bodyPost_ret (results_ans (g := w.heap.size + 1) rfl rfl HF.out.1 rfl) rfl ?_; exact ⟨⟨_, _, rfl⟩, HF.out.2.2⟩
      · have tf : (M.fuse == 0) = false := by simp [hf0]
        by_cases hf1 : 0 < M.fuse
        · obtain ⟨fz, hwz⟩ : ∃ y, IntKind.i64.wrap (M.fuse - 1) = y := ⟨_, rfl⟩; obtain ⟨f1, f2⟩ := HB3.out.2.1.setFuse fz; have HB4 : Hid (MkAt (w3.setCell ⟨d, 8, none⟩ (.int .i64 fz)) B d { M with fuse := fz } N Z L Q ∧ Moves [] [63] w3 (w3.setCell ⟨d, 8, none⟩ (.int .i64 fz)) ∧ (w3.setCell ⟨d, 8, none⟩ (.int .i64 fz)).heap[w.heap.size]? = some (.cells #[.int .i64 kd, .int .i64 a, .string nm, .string tn, .slice da dn dc] 33 (0, 0))) := ⟨f1, f2, f2.cells HB3.out.1 (by decide) (by simp)⟩; clear hfz f1 f2
          go_upto_region 29 with fail
          generalize w3.setCell ⟨d, 8, none⟩ (.int .i64 fz) = w5 at HB4 ⊢; clear hcap hfu hof hz8 hz9 o0 o1 o2 o3 o4; have o0 : w5.cell? ⟨w.heap.size, 0, none⟩ = some (.int .i64 kd) := (zCr HB4.out.2.2).trans rfl; have o1 : w5.cell? ⟨w.heap.size, 1, none⟩ = some (.int .i64 a) := (zCr HB4.out.2.2).trans rfl; have o2 : w5.cell? ⟨w.heap.size, 2, none⟩ = some (.string nm) := (zCr HB4.out.2.2).trans rfl; have o3 : w5.cell? ⟨w.heap.size, 3, none⟩ = some (.string tn) := (zCr HB4.out.2.2).trans rfl; have o4 : w5.cell? ⟨w.heap.size, 4, none⟩ = some (.slice da dn dc) := (zCr HB4.out.2.2).trans rfl; have HSC : Hid (Calls _ _ _ _ _) := hsp HFO.out w5 _ (HB4.out.1) rfl (HB3.out.2.2.1.moves HB4.out.2.1 (by decide)); go_wp2_with fail; refine HSC.out.mono ?_; rintro e w6 ⟨rfl, hms⟩; have hmo : MkOut W2 w6 B d N' Z' L Q' := ⟨hms.1, ((Moves.of_grown0 HB3.out.2.2.2).trans (HB4.out.2.1.wide (fun _ h => h) (by simp))).trans hms.2⟩; clear hms HSC; clear o0 o1 o2 o3 o4; have HF : Hid (_ ∧ _ ∧ _) := hmo.ans (u0 := .int .i64 0) (u1 := .slice none 0 0) HB2.out.2.2.1 (by omega) HB2.out.2.1 rfl; have hT := HF.out.2.1
          go_wp2_with (refine wpList_store_mid (by rfl) 35 (.tmp 4) (.tmp 111) (by rfl) (w.heap.size + 1) 0 #[.int .i64 0, .slice none 0 0] (by rfl) (by rfl) ?sa2 ?sb2 ?sc2 ?sd2; exact hT; show _ = some 2; exact Tryz.sizeAns; exact all_oneCell_toArray (List.all_eq_true.1 rfl); simp only [Act.put])
          refine bodyPost_ret (results_ans (g := w.heap.size + 1) rfl rfl HF.out.1 rfl) rfl ?_; exact ⟨⟨_, _, rfl⟩, HF.out.2.2⟩
        · clear hcap hof hz8 hz9 hfz; have HSC : Hid (Calls _ _ _ _ _) := hsp HFO.out w3 M (HB3.out.2.1) rfl (HB3.out.2.2.1); go_wp2_with fail; refine HSC.out.mono ?_; rintro e w6 ⟨rfl, hms⟩; have hmo : MkOut W2 w6 B d N' Z' L Q' := ⟨hms.1, ((Moves.of_grown0 HB3.out.2.2.2)).trans hms.2⟩; clear hms HSC; clear o0 o1 o2 o3 o4; have HF : Hid (_ ∧ _ ∧ _) := hmo.ans (u0 := .int .i64 0) (u1 := .slice none 0 0) HB2.out.2.2.1 (by omega) HB2.out.2.1 rfl; have hT := HF.out.2.1
          go_wp2_with (refine wpList_store_mid (by rfl) 35 (.tmp 4) (.tmp 111) (by rfl) (w.heap.size + 1) 0 #[.int .i64 0, .slice none 0 0] (by rfl) (by rfl) ?sa3 ?sb3 ?sc3 ?sd3; exact hT; show _ = some 2; exact Tryz.sizeAns; exact all_oneCell_toArray (List.all_eq_true.1 rfl); simp only [Act.put])
          refine bodyPost_ret (results_ans (g := w.heap.size + 1) rfl rfl HF.out.1 rfl) rfl ?_; exact ⟨⟨_, _, rfl⟩, HF.out.2.2⟩
    · clear hfo
      have tc : (code != 0) = true := by simp [hc0]
      have hmo : MkOut W2 w3 B d N' Z' L Q' := ⟨⟨M, HB3.out.2.1.mono hle.1 hle.2.1 (Nat.le_refl _) hle.2.2⟩, Moves.of_grown0 HB3.out.2.2.2⟩; clear o0 o1 o2 o3 o4; have HF : Hid (_ ∧ _ ∧ _) := hmo.ans (u0 := .int .i64 code) (u1 := .slice none 0 0) HB2.out.2.2.1 (by omega) HB2.out.2.1 rfl; have hT := HF.out.2.1
      go_wp2_with (refine wpList_store_mid (by rfl) 35 (.tmp 4) (.tmp 57) (by rfl) (w.heap.size + 1) 0 #[.int .i64 code, .slice none 0 0] (by rfl) (by rfl) ?sa4 ?sb4 ?sc4 ?sd4; exact hT; show _ = some 2; exact Tryz.sizeAns; exact all_oneCell_toArray (List.all_eq_true.1 rfl); simp only [Act.put])
      refine bodyPost_ret (results_ans (g := w.heap.size + 1) rfl rfl HF.out.1 rfl) rfl ?_; exact ⟨⟨_, _, rfl⟩, HF.out.2.2⟩
  · have hmo : MkOut W2 W2 B d N' Z' L Q' := ⟨⟨M, HB2.out.2.2.2.1.mono hle.1 hle.2.1 (Nat.le_refl _) hle.2.2⟩, Moves.refl _ _ _⟩; clear hcap hfu hfz; have HF : Hid (_ ∧ _ ∧ _) := hmo.ans (u0 := .int .i64 7) (u1 := .slice none 0 0) HB2.out.2.2.1 (by omega) HB2.out.2.1 rfl; have hT := HF.out.2.1
    go_wp2_with (refine wpList_store_mid (by rfl) 35 (.tmp 4) (.tmp 41) (by rfl) (w.heap.size + 1) 0 #[.int .i64 7, .slice none 0 0] (by rfl) (by rfl) ?sa5 ?sb5 ?sc5 ?sd5; exact hT; show _ = some 2; exact Tryz.sizeAns; exact all_oneCell_toArray (List.all_eq_true.1 rfl); simp only [Act.put])
    refine bodyPost_ret (results_ans (g := w.heap.size + 1) rfl rfl HF.out.1 rfl) rfl ?_; exact ⟨⟨_, _, rfl⟩, HF.out.2.2⟩
theorem do1_anyM (d : Nat) (B : Bs) (N Z L Q : Nat) (M : Mk) (a : Int) (nm tn : ByteArray) (da : Option Addr) (dn dc : Nat) (D : List Nat) (w : World) (h : MkAt w B d M N Z L Q) (hD : BV w (.slice da dn dc) D) (hbd : N + 2 * Q ≤ 800000 ∧ L ≤ 900000 ∧ Z < 800000 ∧ Q ≤ 300000 ∧ nm.size ≤ 1000 ∧ tn.size ≤ 1000 ∧ dn ≤ 900000) :
    Calls Tryz.prog 9 #[.pointer (some ⟨d, 0, none⟩), .agg #[.int .i64 1, .int .i64 a, .string nm, .string tn, .slice da dn dc]] w fun e w' => (∃ u0 u1, e = .returned (.agg #[u0, u1])) ∧ DoOutM w w' B d (N + 2 * Q + 2) (Z + 1) L (Q + 1) := by
  obtain ⟨h1, h2, h3, h4, h5, h6, h7⟩ := hbd; exact doS_anyM d B N Z L Q _ _ _ M 1 a nm tn da dn dc D w h hD ⟨by omega, by omega, by omega⟩ ⟨by omega, by omega⟩ (fun w1 hw => fault1_any d B N Z L Q M a nm tn da dn dc w1 hw ⟨by omega, h2, by omega, h5, h6, h7⟩) (fun _ w1 M1 hw _ _ => step1_anyM d B N Z L Q M1 a nm tn da dn dc w1 hw ⟨h1, h2, h3, h4, h5, h6⟩)
theorem do3_anyM (d : Nat) (B : Bs) (N Z L Q : Nat) (M : Mk) (a : Int) (nm tn : ByteArray) (da : Option Addr) (dn dc : Nat) (D : List Nat) (w : World) (h : MkAt w B d M N Z L Q) (hD : BV w (.slice da dn dc) D) (hbd : N + 2 * Q ≤ 800000 ∧ L ≤ 900000 ∧ Z < 800000 ∧ Q ≤ 300000 ∧ nm.size ≤ 1000 ∧ tn.size ≤ 1000 ∧ dn ≤ 900000) :
    Calls Tryz.prog 9 #[.pointer (some ⟨d, 0, none⟩), .agg #[.int .i64 3, .int .i64 a, .string nm, .string tn, .slice da dn dc]] w fun e w' => (∃ u0 u1, e = .returned (.agg #[u0, u1])) ∧ DoOutM w w' B d (N + 2 * Q + 2) (Z + 1) L (Q + 1) := by
  obtain ⟨h1, h2, h3, h4, h5, h6, h7⟩ := hbd; exact doS_anyM d B N Z L Q _ _ _ M 3 a nm tn da dn dc D w h hD ⟨by omega, by omega, by omega⟩ ⟨by omega, by omega⟩ (fun w1 hw => fault3_any d B N Z L Q M a nm tn da dn dc w1 hw ⟨by omega, h2, by omega, h5, h6, h7⟩) (fun hf w1 M1 hw _ _ => step3_anyM d B N Z L Q M1 a nm tn da dn dc w1 hw ⟨h1, h2, h3, h4, h5, h6⟩ ⟨(hf.2.2 rfl).1, (hf.2.2 rfl).2⟩)
theorem do4_anyM (d : Nat) (B : Bs) (N Z L Q : Nat) (M : Mk) (a : Int) (nm tn : ByteArray) (da : Option Addr) (dn dc : Nat) (D : List Nat) (w : World) (h : MkAt w B d M N Z L Q) (hD : BV w (.slice da dn dc) D) (hbd : N + 2 * Q ≤ 800000 ∧ L ≤ 900000 ∧ Z < 800000 ∧ Q ≤ 300000 ∧ nm.size ≤ 1000 ∧ tn.size ≤ 1000 ∧ dn ≤ 900000) :
    Calls Tryz.prog 9 #[.pointer (some ⟨d, 0, none⟩), .agg #[.int .i64 4, .int .i64 a, .string nm, .string tn, .slice da dn dc]] w fun e w' => (∃ u0 u1, e = .returned (.agg #[u0, u1])) ∧ DoOutM w w' B d (N + 2 * Q + 2) (Z + 1) L (Q + 1) := by
  obtain ⟨h1, h2, h3, h4, h5, h6, h7⟩ := hbd; exact doS_anyM d B N Z L Q _ _ _ M 4 a nm tn da dn dc D w h hD ⟨by omega, by omega, by omega⟩ ⟨by omega, by omega⟩ (fun w1 hw => fault4_any d B N Z L Q M a nm tn da dn dc w1 hw ⟨by omega, h2, by omega, h5, h6, h7⟩) (fun _ w1 M1 hw _ _ => step4_anyM d B N Z L Q M1 a nm tn da dn dc w1 hw ⟨h1, h2, h3, h4, h5, h6⟩)
theorem do5_anyM (d : Nat) (B : Bs) (N Z L Q : Nat) (M : Mk) (a : Int) (nm tn : ByteArray) (da : Option Addr) (dn dc : Nat) (D : List Nat) (w : World) (h : MkAt w B d M N Z L Q) (hD : BV w (.slice da dn dc) D) (hbd : N + 2 * Q ≤ 800000 ∧ L ≤ 900000 ∧ Z < 800000 ∧ Q ≤ 300000 ∧ nm.size ≤ 1000 ∧ tn.size ≤ 1000 ∧ dn ≤ 900000) :
    Calls Tryz.prog 9 #[.pointer (some ⟨d, 0, none⟩), .agg #[.int .i64 5, .int .i64 a, .string nm, .string tn, .slice da dn dc]] w fun e w' => (∃ u0 u1, e = .returned (.agg #[u0, u1])) ∧ DoOutM w w' B d (N + 2 * Q + 2) (Z + 1) L (Q + 1) := by
  obtain ⟨h1, h2, h3, h4, h5, h6, h7⟩ := hbd; exact doS_anyM d B N Z L Q _ _ _ M 5 a nm tn da dn dc D w h hD ⟨by omega, by omega, by omega⟩ ⟨by omega, by omega⟩ (fun w1 hw => fault5_any d B N Z L Q M a nm tn da dn dc w1 hw ⟨by omega, h2, by omega, h5, h6, h7⟩) (fun _ w1 M1 hw _ _ => step5_anyM d B N Z L Q M1 a nm tn da dn dc w1 hw ⟨h1, h2, h3, h4, h5, h6⟩)
theorem do6_anyM (d : Nat) (B : Bs) (N Z L Q : Nat) (M : Mk) (a : Int) (nm tn : ByteArray) (da : Option Addr) (dn dc : Nat) (D : List Nat) (w : World) (h : MkAt w B d M N Z L Q) (hD : BV w (.slice da dn dc) D) (hbd : N + 2 * Q ≤ 800000 ∧ L ≤ 900000 ∧ Z < 800000 ∧ Q ≤ 300000 ∧ nm.size ≤ 1000 ∧ tn.size ≤ 1000 ∧ dn ≤ 900000) :
    Calls Tryz.prog 9 #[.pointer (some ⟨d, 0, none⟩), .agg #[.int .i64 6, .int .i64 a, .string nm, .string tn, .slice da dn dc]] w fun e w' => (∃ u0 u1, e = .returned (.agg #[u0, u1])) ∧ DoOutM w w' B d (N + 2 * Q + 2) (Z + 1) L (Q + 1) := by
  obtain ⟨h1, h2, h3, h4, h5, h6, h7⟩ := hbd; exact doS_anyM d B N Z L Q _ _ _ M 6 a nm tn da dn dc D w h hD ⟨by omega, by omega, by omega⟩ ⟨by omega, by omega⟩ (fun w1 hw => fault6_any d B N Z L Q M a nm tn da dn dc w1 hw ⟨by omega, h2, by omega, h5, h6, h7⟩) (fun _ w1 M1 hw _ _ => step6_anyM d B N Z L Q M1 a nm tn da dn dc w1 hw ⟨h1, h2, h3, h4, h5, h6⟩)
theorem do7_anyM (d : Nat) (B : Bs) (N Z L Q : Nat) (M : Mk) (a : Int) (nm tn : ByteArray) (da : Option Addr) (dn dc : Nat) (D : List Nat) (w : World) (h : MkAt w B d M N Z L Q) (hD : BV w (.slice da dn dc) D) (hbd : N + 2 * Q ≤ 800000 ∧ L ≤ 900000 ∧ Z < 800000 ∧ Q ≤ 300000 ∧ nm.size ≤ 1000 ∧ tn.size ≤ 1000 ∧ dn ≤ 900000) :
    Calls Tryz.prog 9 #[.pointer (some ⟨d, 0, none⟩), .agg #[.int .i64 7, .int .i64 a, .string nm, .string tn, .slice da dn dc]] w fun e w' => (∃ u0 u1, e = .returned (.agg #[u0, u1])) ∧ DoOutM w w' B d (N + 2 * Q + 2) (Z + 1) L (Q + 1) := by
  obtain ⟨h1, h2, h3, h4, h5, h6, h7⟩ := hbd; exact doS_anyM d B N Z L Q _ _ _ M 7 a nm tn da dn dc D w h hD ⟨by omega, by omega, by omega⟩ ⟨by omega, by omega⟩ (fun w1 hw => fault7_any d B N Z L Q M a nm tn da dn dc w1 hw ⟨by omega, h2, by omega, h5, h6, h7⟩) (fun _ w1 M1 hw _ _ => step7_anyM d B N Z L Q M1 a nm tn da dn dc w1 hw ⟨h1, h2, h3, h4, h5, h6⟩)
set_option maxRecDepth 20000 in
set_option maxHeartbeats 8000000 in
theorem do8_anyM (d : Nat) (B : Bs) (N Z L Q : Nat) (M : Mk) (a : Int) (nm tn : ByteArray) (da : Option Addr) (dn dc : Nat) (D : List Nat) (w : World) (h : MkAt w B d M N Z L Q) (hD : BV w (.slice da dn dc) D) (hbd : N ≤ 800000 ∧ L ≤ 900000 ∧ Z < 800000 ∧ Q ≤ 300000 ∧ nm.size ≤ 1000 ∧ tn.size ≤ 1000 ∧ dn ≤ 900000) :
    Calls Tryz.prog 9 #[.pointer (some ⟨d, 0, none⟩), .agg #[.int .i64 8, .int .i64 a, .string nm, .string tn, .slice da dn dc]] w fun e w' => (∃ u0 u1, e = .returned (.agg #[u0, u1])) ∧ DoOutM w w' B d N Z L Q := by
  obtain ⟨g1, g2, g3, g4, g5, g6, g7⟩ := hbd; have hdl : d < w.heap.size := (Array.getElem?_eq_some_iff.1 h.box).1
  have e1 : (w.alloc (.cells #[.int .i64 8, .int .i64 a, .string nm, .string tn, .slice da dn dc] 33)).heap.size = w.heap.size + 1 := by simp
  have hg2 : w.grownBy ((w.alloc (.cells #[.int .i64 8, .int .i64 a, .string nm, .string tn, .slice da dn dc] 33)).alloc (.cells #[.int .i64 0, .slice none 0 0] 35)) none := grownBy_alloc (grownBy_alloc (grownBy_refl _ _) _) _
  have HB2 : Hid (((w.alloc (.cells #[.int .i64 8, .int .i64 a, .string nm, .string tn, .slice da dn dc] 33)).alloc (.cells #[.int .i64 0, .slice none 0 0] 35)).heap[w.heap.size]? = some (.cells #[.int .i64 8, .int .i64 a, .string nm, .string tn, .slice da dn dc] 33 (0, 0)) ∧ ((w.alloc (.cells #[.int .i64 8, .int .i64 a, .string nm, .string tn, .slice da dn dc] 33)).alloc (.cells #[.int .i64 0, .slice none 0 0] 35)).heap[w.heap.size + 1]? = some (.cells [.int .i64 0, .slice none 0 0].toArray 35 (0, 0)) ∧ w.grownBy ((w.alloc (.cells #[.int .i64 8, .int .i64 a, .string nm, .string tn, .slice da dn dc] 33)).alloc (.cells #[.int .i64 0, .slice none 0 0] 35)) none ∧ MkAt ((w.alloc (.cells #[.int .i64 8, .int .i64 a, .string nm, .string tn, .slice da dn dc] 33)).alloc (.cells #[.int .i64 0, .slice none 0 0] 35)) B d M N Z L Q ∧ BV ((w.alloc (.cells #[.int .i64 8, .int .i64 a, .string nm, .string tn, .slice da dn dc] 33)).alloc (.cells #[.int .i64 0, .slice none 0 0] 35)) (.slice da dn dc) D) := by
    refine ⟨grown_blk (World.grownBy_alloc _ _ none) (heap_alloc_new w _), ?_, hg2, h.grown0 hg2, hD.grown0 hg2⟩; rw [← e1]; exact heap_alloc_new _ _
  clear h hD hg2 e1
  go_enter Tryz.func9, Tryz.ntmps9
  go_upto_region 1 with fail
  generalize ((w.alloc (.cells #[.int .i64 8, .int .i64 a, .string nm, .string tn, .slice da dn dc] 33)).alloc (.cells #[.int .i64 0, .slice none 0 0] 35)) = W2 at HB2 ⊢; have o0 : W2.cell? ⟨w.heap.size, 0, none⟩ = some (.int .i64 8) := (zCr HB2.out.1).trans rfl; have o1 : W2.cell? ⟨w.heap.size, 1, none⟩ = some (.int .i64 a) := (zCr HB2.out.1).trans rfl; have o2 : W2.cell? ⟨w.heap.size, 2, none⟩ = some (.string nm) := (zCr HB2.out.1).trans rfl; have o3 : W2.cell? ⟨w.heap.size, 3, none⟩ = some (.string tn) := (zCr HB2.out.1).trans rfl; have o4 : W2.cell? ⟨w.heap.size, 4, none⟩ = some (.slice da dn dc) := (zCr HB2.out.1).trans rfl; obtain ⟨hcap, hfu, hof, hfz⟩ := HB2.out.2.2.2.1.cap8; obtain ⟨ob, hob⟩ : ∃ y, M.off = y := ⟨_, rfl⟩; rw [hob] at hof
  cases ob
  · have HFC : Hid (Calls _ _ _ _ _) := fault8_any d B N Z L Q M a nm tn da dn dc W2 HB2.out.2.2.2.1 ⟨by omega, g2, by omega, g5, g6, g7⟩; clear hcap hfu hfz; go_wp2_with fail; refine HFC.out.mono ?_; rintro e w3 ⟨⟨code, rfl, hfo⟩, hg3⟩; have HB3 : Hid (w3.heap[w.heap.size]? = some (.cells #[.int .i64 8, .int .i64 a, .string nm, .string tn, .slice da dn dc] 33 (0, 0)) ∧ MkAt w3 B d M N Z L Q ∧ W2.grownBy w3 none) := ⟨grown_blk hg3 HB2.out.1, HB2.out.2.2.2.1.grown0 hg3, hg3⟩; clear HFC hg3 o0 o1 o2 o3 o4 hof; have o0 : w3.cell? ⟨w.heap.size, 0, none⟩ = some (.int .i64 8) := (zCr HB3.out.1).trans rfl; have o1 : w3.cell? ⟨w.heap.size, 1, none⟩ = some (.int .i64 a) := (zCr HB3.out.1).trans rfl; have o2 : w3.cell? ⟨w.heap.size, 2, none⟩ = some (.string nm) := (zCr HB3.out.1).trans rfl; have o3 : w3.cell? ⟨w.heap.size, 3, none⟩ = some (.string tn) := (zCr HB3.out.1).trans rfl; have o4 : w3.cell? ⟨w.heap.size, 4, none⟩ = some (.slice da dn dc) := (zCr HB3.out.1).trans rfl
    by_cases hc0 : code = 0
    · subst hc0; have HFO : Hid (InS nm M.mn.ss) := (hfo rfl).1 (by decide) (by decide); clear hfo; obtain ⟨a3, b3, c3, a4, b4, c4, a5, b5, c5, k3, k4, k5, hn⟩ := HB3.out.2.1.nowCells
      have hb34 : M.mn.ss.length = b3 ∧ M.mn.zs.length = b4 ∧ M.mn.ds.length = b5 := by
        obtain ⟨_, _, _, _, _, _, _, _, _, e1, e2, e3, f1, f2, f3, -⟩ := hn.vals; simp only [Value.slice.injEq] at e1 e2 e3; exact ⟨by omega, by omega, by omega⟩
      obtain rfl : b3 = b4 := by have := HB3.out.2.1.smn.eq; omega
      have HSM : Hid (M.mn.Sm N Z L ∧ M.mn.ss.length = b3) := ⟨HB3.out.2.1.smn, hb34.1⟩; have hss : M.mn.ss.length ≤ N := HB3.out.2.1.smn.ns; have HW4 : Hid (w3.grownBy (w3.alloc (.cells #[.slice a3 b3 c3, .slice a4 b3 c4, .slice a5 b5 c5] 60)) none ∧ (w3.alloc (.cells #[.slice a3 b3 c3, .slice a4 b3 c4, .slice a5 b5 c5] 60)).heap[w3.heap.size]? = some (.cells #[.slice a3 b3 c3, .slice a4 b3 c4, .slice a5 b5 c5] 60 (0, 0)) ∧ DirAt (w3.alloc (.cells #[.slice a3 b3 c3, .slice a4 b3 c4, .slice a5 b5 c5] 60)) (.slice a3 b3 c3) (.slice a4 b3 c4) (.slice a5 b5 c5) M.mn) := ⟨World.grownBy_alloc _ _ none, heap_alloc_new w3 _, hn.grown0 (World.grownBy_alloc _ _ none)⟩; clear hn hb34
      go_upto_region 20 with fail
      generalize w3.alloc (.cells #[.slice a3 b3 c3, .slice a4 b3 c4, .slice a5 b5 c5] 60) = W4 at HW4 ⊢; clear k3 k4 k5 o0 o1 o2 o3 o4; refine wp_region_Z (fun Y => Y.heap[w3.heap.size]? = some (.cells #[.slice a3 b3 c3, .slice a4 b3 c4, .slice a5 b5 c5] 60 (0, 0)) ∧ Y.heap[w.heap.size]? = some (.cells #[.int .i64 8, .int .i64 a, .string nm, .string tn, .slice da dn dc] 33 (0, 0)) ∧ RI Y (.slice a4 b3 c4) (M.mn.zs.map (fun z : Nat => (z : Int)))) (fun _ => false) (by kernel_rfl) ?_; have hS : W4.drew.heap[w3.heap.size]? = some (.cells #[.slice a3 b3 c3, .slice a4 b3 c4, .slice a5 b5 c5] 60 (0, 0)) ∧ W4.drew.heap[w.heap.size]? = some (.cells #[.int .i64 8, .int .i64 a, .string nm, .string tn, .slice da dn dc] 33 (0, 0)) ∧ RI W4.drew (.slice a4 b3 c4) (M.mn.zs.map (fun z : Nat => (z : Int))) := ⟨HW4.out.2.1, grown_blk (grownBy_drew HW4.out.1) HB3.out.1, HW4.out.2.2.drew.z⟩; refine zTk 0 ?_; simp only [Act.put, zq1, zq2, zq3]; refine zLs 1 rfl hS (by intro W hW; have z0 : W.cell? ⟨w3.heap.size, 0, none⟩ = some (.slice a3 b3 c3) := (zCr hW.1).trans rfl; have z1 : W.cell? ⟨w3.heap.size, 1, none⟩ = some (.slice a4 b3 c4) := (zCr hW.1).trans rfl; have z2 : W.cell? ⟨w3.heap.size, 2, none⟩ = some (.slice a5 b5 c5) := (zCr hW.1).trans rfl; go_simp; first | done | with_reducible rfl) ?_; simp only [Act.put, zq1, zq2, zq3]; refine zLs 2 rfl hS (by intro W hW; have z0 : W.cell? ⟨w3.heap.size, 0, none⟩ = some (.slice a3 b3 c3) := (zCr hW.1).trans rfl; have z1 : W.cell? ⟨w3.heap.size, 1, none⟩ = some (.slice a4 b3 c4) := (zCr hW.1).trans rfl; have z2 : W.cell? ⟨w3.heap.size, 2, none⟩ = some (.slice a5 b5 c5) := (zCr hW.1).trans rfl; go_simp; first | done | with_reducible rfl) ?_; simp only [Act.put, zq1, zq2, zq3]; refine zTk 3 ?_; simp only [Act.put, zq1, zq2, zq3]; refine zLs 4 rfl hS (by intro W hW; have z9 : W.cell? ⟨w.heap.size, 2, none⟩ = some (.string nm) := (zCr hW.2.1).trans rfl; go_simp; first | done | with_reducible rfl) ?_; simp only [Act.put, zq1, zq2, zq3]; refine wpAnyZ_one' (i := 5) (by kernel_rfl) rfl (fun K hK => ?_); go_simp; go_at_call 25; refine (dirAt_in (.slice a3 b3 c3) (.slice a4 b3 c4) (.slice a5 b5 c5) M.mn nm W4.drew HW4.out.2.2.drew (by omega)).mono ?_; rintro e w5 ⟨ix, rfl, ⟨-, hix, hin⟩, hg5⟩; have hg5 : W4.grownBy w5 none := ⟨hg5.os, hg5.tape, hg5.output, hg5.size, hg5.block⟩; obtain ⟨jx, rfl⟩ := int_nat (hin.2 HFO.out)
      have hjx : jx < b3 := by have := HSM.out.2; omega
      have hS5 : w5.heap[w3.heap.size]? = some (.cells #[.slice a3 b3 c3, .slice a4 b3 c4, .slice a5 b5 c5] 60 (0, 0)) ∧ w5.heap[w.heap.size]? = some (.cells #[.int .i64 8, .int .i64 a, .string nm, .string tn, .slice da dn dc] 33 (0, 0)) ∧ RI w5 (.slice a4 b3 c4) (M.mn.zs.map (fun z : Nat => (z : Int))) := ⟨grown_blk hg5 hS.1, grown_blk hg5 hS.2.1, (HW4.out.2.2.grown0 hg5).z⟩; refine hK.out _ _ (fun _ _ => hS5) ?_; clear hK K hS; have hS := hS5; clear hS5; (try simp only [Act.put, zq1, zq2, zq3])
      have hjI : (jx : Int) < (b3 : Int) := by omega
      obtain ⟨zb, zoff, z, hza, hzz, hzc⟩ := hS.2.2.at jx hjx
      obtain ⟨bx, hbx, rfl⟩ : ∃ x : Nat, M.mn.zs[jx]? = some x ∧ z = (x : Int) := by
        rw [List.getElem?_map] at hzz; obtain ⟨x, hx, h9⟩ := Option.map_eq_some_iff.1 hzz; exact ⟨x, hx, h9.symm⟩
      have HBX : Hid (M.mn.zs[jx]? = some bx ∧ (M.mn.zs.map (fun z : Nat => (z : Int)))[jx]? = some (bx : Int)) := ⟨hbx, hzz⟩; have HG5 : Hid (W2.grownBy w5 none ∧ RB w5 (.slice a5 b5 c5) M.mn.ds ∧ MkAt w5 B d M N Z L Q) := ⟨grownBy_trans HB3.out.2.2 (grownBy_trans HW4.out.1 hg5), (HW4.out.2.2.grown0 hg5).d, (HB3.out.2.1.grown0 HW4.out.1).grown0 hg5⟩; subst hza; clear hg5 hin hix hzz hbx; refine zTk 6 ?_; simp only [Act.put, zq1, zq2, zq3]; refine zLs 7 rfl hS (by intro W hW; have z0 : W.cell? ⟨zb, zoff + jx, none⟩ = some (.int .i64 (bx : Int)) := ri_at hW.2.2 HBX.out.2; go_simp; first | done | with_reducible rfl) ?_; simp only [Act.put, zq1, zq2, zq3]; refine zTk 8 ?_; simp only [Act.put, zq1, zq2, zq3]; refine wpAnyZ_done (by kernel_rfl) ?_ _; have kd5 : w5.cell? ⟨w3.heap.size, 2, none⟩ = some (.slice a5 b5 c5) := (zCr hS.1).trans rfl; clear hS hzc
      by_cases hb5 : b5 ≤ bx
      · have hb5I : (b5 : Int) ≤ (bx : Int) := by omega
        have hmo : MkOut W2 w5 B d N Z L Q := ⟨⟨M, HG5.out.2.2⟩, Moves.of_grown0 HG5.out.1⟩; have HF : Hid (_ ∧ _ ∧ _) := hmo.ans (u0 := .int .i64 0) (u1 := .slice none 0 0) HB2.out.2.2.1 (by omega) HB2.out.2.1 rfl; have hT := HF.out.2.1
        go_wp2_with (refine wpList_store_mid (by rfl) 35 (.tmp 4) (.tmp 78) (by rfl) (w.heap.size + 1) 0 #[.int .i64 0, .slice none 0 0] (by rfl) (by rfl) ?sa1 ?sb1 ?sc1 ?sd1; exact hT; show _ = some 2; exact Tryz.sizeAns; exact all_oneCell_toArray (List.all_eq_true.1 rfl); simp only [Act.put])
        refine bodyPost_ret (results_ans (g := w.heap.size + 1) rfl rfl HF.out.1 rfl) rfl ?_; exact ⟨⟨_, _, rfl⟩, HF.out.2.2⟩
      · have hb5I : ¬ (b5 : Int) ≤ (bx : Int) := by omega
        have hb5J : (bx : Int) < (b5 : Int) := by omega
        obtain ⟨db, doff, u, dd, hda, hdd, kq, hbv⟩ := HG5.out.2.1.at bx (by omega); subst hda; obtain ⟨ua, uc, hue, hus, -⟩ := hbv.sl; obtain ⟨yn, hyn⟩ : ∃ y, dd.length = y := ⟨_, rfl⟩; rw [hyn] at hue hus; subst hue
        have hyL : yn ≤ L := by rw [← hyn]; exact HSM.out.1.d dd (List.mem_of_getElem? hdd)
        have HUS : Hid (SlB (w5.alloc (.cells #[] 5)) ua yn dd ∧ dd.length = yn) := ⟨hus.grown0 (World.grownBy_alloc _ _ none), hyn⟩; have hwl : w3.heap.size < w5.heap.size := cell_block_lt kd5; have hdl5 : db < w5.heap.size := cell_block_lt kq; clear hbv hdd hyn hus
        go_wp2_with (at_builtin; refine wpList_app_row (B := w5.heap.size) (v := .slice (some ⟨w5.heap.size, 0, none⟩) 0 0) (L := []) (D := dd) rfl _ _ rfl rfl ⟨by simp, .inl ⟨rfl, _, rfl⟩⟩ rfl HUS.out.1 (by simp; omega) (by simp) ?_)
        intro yv w7 hr1 hr2 hr3; obtain ⟨ya, yc, hye, hycn⟩ := hr1.is; rw [HUS.out.2] at hye; have hg7 : w5.grownBy w7 none := grown_step (World.grownBy_alloc w5 _ none) hr2 (by simp [rowBlk]); have hmo : MkOut W2 w7 B d N Z L Q := ⟨⟨M, HG5.out.2.2.grown0 hg7⟩, Moves.of_grown0 (grownBy_trans HG5.out.1 hg7)⟩; subst hye; clear hr1 hr2 hr3 hg7 HUS kq kd5 hycn; have HF : Hid (_ ∧ _ ∧ _) := hmo.ans (u0 := .int .i64 0) (u1 := .slice ya yn yc) HB2.out.2.2.1 (by omega) HB2.out.2.1 rfl; have hT := HF.out.2.1
        go_wp2_with (refine wpList_store_mid (by rfl) 35 (.tmp 4) (.tmp 86) (by rfl) (w.heap.size + 1) 0 #[.int .i64 0, .slice ya yn yc] (by rfl) (by rfl) ?sa2 ?sb2 ?sc2 ?sd2; exact hT; show _ = some 2; exact Tryz.sizeAns; exact all_oneCell_toArray (List.all_eq_true.1 rfl); simp only [Act.put])
        refine bodyPost_ret (results_ans (g := w.heap.size + 1) rfl rfl HF.out.1 rfl) rfl ?_; exact ⟨⟨_, _, rfl⟩, HF.out.2.2⟩
    · clear hfo
      have tc : (code != 0) = true := by simp [hc0]
      have hmo : MkOut W2 w3 B d N Z L Q := ⟨⟨M, HB3.out.2.1⟩, Moves.of_grown0 HB3.out.2.2⟩; clear o0 o1 o2 o3 o4; have HF : Hid (_ ∧ _ ∧ _) := hmo.ans (u0 := .int .i64 code) (u1 := .slice none 0 0) HB2.out.2.2.1 (by omega) HB2.out.2.1 rfl; have hT := HF.out.2.1
      go_wp2_with (refine wpList_store_mid (by rfl) 35 (.tmp 4) (.tmp 57) (by rfl) (w.heap.size + 1) 0 #[.int .i64 code, .slice none 0 0] (by rfl) (by rfl) ?sa4 ?sb4 ?sc4 ?sd4; exact hT; show _ = some 2; exact Tryz.sizeAns; exact all_oneCell_toArray (List.all_eq_true.1 rfl); simp only [Act.put])
      refine bodyPost_ret (results_ans (g := w.heap.size + 1) rfl rfl HF.out.1 rfl) rfl ?_; exact ⟨⟨_, _, rfl⟩, HF.out.2.2⟩
  · have hmo : MkOut W2 W2 B d N Z L Q := ⟨⟨M, HB2.out.2.2.2.1⟩, Moves.refl _ _ _⟩; clear hcap hfu hfz; have HF : Hid (_ ∧ _ ∧ _) := hmo.ans (u0 := .int .i64 7) (u1 := .slice none 0 0) HB2.out.2.2.1 (by omega) HB2.out.2.1 rfl; have hT := HF.out.2.1
    go_wp2_with (refine wpList_store_mid (by rfl) 35 (.tmp 4) (.tmp 41) (by rfl) (w.heap.size + 1) 0 #[.int .i64 7, .slice none 0 0] (by rfl) (by rfl) ?sa5 ?sb5 ?sc5 ?sd5; exact hT; show _ = some 2; exact Tryz.sizeAns; exact all_oneCell_toArray (List.all_eq_true.1 rfl); simp only [Act.put])
    refine bodyPost_ret (results_ans (g := w.heap.size + 1) rfl rfl HF.out.1 rfl) rfl ?_; exact ⟨⟨_, _, rfl⟩, HF.out.2.2⟩
set_option maxRecDepth 20000 in
set_option maxHeartbeats 8000000 in
theorem doX_anyM (d : Nat) (B : Bs) (N Z L Q : Nat) (M : Mk) (kd a : Int) (nm tn : ByteArray) (da : Option Addr) (dn dc : Nat) (D : List Nat) (w : World) (h : MkAt w B d M N Z L Q) (hD : BV w (.slice da dn dc) D) (hkd : kd < 1 ∨ 11 < kd) :
    Calls Tryz.prog 9 #[.pointer (some ⟨d, 0, none⟩), .agg #[.int .i64 kd, .int .i64 a, .string nm, .string tn, .slice da dn dc]] w fun e w' => (∃ u0 u1, e = .returned (.agg #[u0, u1])) ∧ DoOutM w w' B d N Z L Q := by
  have hdl : d < w.heap.size := (Array.getElem?_eq_some_iff.1 h.box).1
  have e1 : (w.alloc (.cells #[.int .i64 kd, .int .i64 a, .string nm, .string tn, .slice da dn dc] 33)).heap.size = w.heap.size + 1 := by simp
  have hg2 : w.grownBy ((w.alloc (.cells #[.int .i64 kd, .int .i64 a, .string nm, .string tn, .slice da dn dc] 33)).alloc (.cells #[.int .i64 0, .slice none 0 0] 35)) none := grownBy_alloc (grownBy_alloc (grownBy_refl _ _) _) _
  have HB2 : Hid (((w.alloc (.cells #[.int .i64 kd, .int .i64 a, .string nm, .string tn, .slice da dn dc] 33)).alloc (.cells #[.int .i64 0, .slice none 0 0] 35)).heap[w.heap.size]? = some (.cells #[.int .i64 kd, .int .i64 a, .string nm, .string tn, .slice da dn dc] 33 (0, 0)) ∧ ((w.alloc (.cells #[.int .i64 kd, .int .i64 a, .string nm, .string tn, .slice da dn dc] 33)).alloc (.cells #[.int .i64 0, .slice none 0 0] 35)).heap[w.heap.size + 1]? = some (.cells [.int .i64 0, .slice none 0 0].toArray 35 (0, 0)) ∧ w.grownBy ((w.alloc (.cells #[.int .i64 kd, .int .i64 a, .string nm, .string tn, .slice da dn dc] 33)).alloc (.cells #[.int .i64 0, .slice none 0 0] 35)) none ∧ MkAt ((w.alloc (.cells #[.int .i64 kd, .int .i64 a, .string nm, .string tn, .slice da dn dc] 33)).alloc (.cells #[.int .i64 0, .slice none 0 0] 35)) B d M N Z L Q ∧ BV ((w.alloc (.cells #[.int .i64 kd, .int .i64 a, .string nm, .string tn, .slice da dn dc] 33)).alloc (.cells #[.int .i64 0, .slice none 0 0] 35)) (.slice da dn dc) D) := by
    refine ⟨grown_blk (World.grownBy_alloc _ _ none) (heap_alloc_new w _), ?_, hg2, h.grown0 hg2, hD.grown0 hg2⟩; rw [← e1]; exact heap_alloc_new _ _
  have t9 : (kd == 9) = false := by simp; omega
  have t10 : (kd == 10) = false := by simp; omega
  have t11 : (kd == 11) = false := by simp; omega
  clear h hD hg2 e1
  go_enter Tryz.func9, Tryz.ntmps9
  go_upto_region 1 with fail
  generalize ((w.alloc (.cells #[.int .i64 kd, .int .i64 a, .string nm, .string tn, .slice da dn dc] 33)).alloc (.cells #[.int .i64 0, .slice none 0 0] 35)) = W2 at HB2 ⊢; have o0 : W2.cell? ⟨w.heap.size, 0, none⟩ = some (.int .i64 kd) := (zCr HB2.out.1).trans rfl; have o1 : W2.cell? ⟨w.heap.size, 1, none⟩ = some (.int .i64 a) := (zCr HB2.out.1).trans rfl; have o2 : W2.cell? ⟨w.heap.size, 2, none⟩ = some (.string nm) := (zCr HB2.out.1).trans rfl; have o3 : W2.cell? ⟨w.heap.size, 3, none⟩ = some (.string tn) := (zCr HB2.out.1).trans rfl; have o4 : W2.cell? ⟨w.heap.size, 4, none⟩ = some (.slice da dn dc) := (zCr HB2.out.1).trans rfl; obtain ⟨hcap, hfu, hof, hfz⟩ := HB2.out.2.2.2.1.cap8; obtain ⟨ob, hob⟩ : ∃ y, M.off = y := ⟨_, rfl⟩; rw [hob] at hof
  cases ob
  · have hmo : MkOut W2 W2 B d N Z L Q := ⟨⟨M, HB2.out.2.2.2.1⟩, Moves.refl _ _ _⟩; clear hcap hfu hfz
    by_cases t1 : kd < 1
    · have HF : Hid (_ ∧ _ ∧ _) := hmo.ans (u0 := .int .i64 10) (u1 := .slice none 0 0) HB2.out.2.2.1 (by omega) HB2.out.2.1 rfl; have hT := HF.out.2.1
      go_wp2_with (refine wpList_store_mid (by rfl) 35 (.tmp 4) (.tmp 50) (by rfl) (w.heap.size + 1) 0 #[.int .i64 10, .slice none 0 0] (by rfl) (by rfl) ?sa1 ?sb1 ?sc1 ?sd1; exact hT; show _ = some 2; exact Tryz.sizeAns; exact all_oneCell_toArray (List.all_eq_true.1 rfl); simp only [Act.put])
      refine bodyPost_ret (results_ans (g := w.heap.size + 1) rfl rfl HF.out.1 rfl) rfl ?_; exact ⟨⟨_, _, rfl⟩, HF.out.2.2⟩
    · have t2 : 8 < kd := by omega
      have HF : Hid (_ ∧ _ ∧ _) := hmo.ans (u0 := .int .i64 10) (u1 := .slice none 0 0) HB2.out.2.2.1 (by omega) HB2.out.2.1 rfl; have hT := HF.out.2.1
      go_wp2_with (refine wpList_store_mid (by rfl) 35 (.tmp 4) (.tmp 50) (by rfl) (w.heap.size + 1) 0 #[.int .i64 10, .slice none 0 0] (by rfl) (by rfl) ?sa2 ?sb2 ?sc2 ?sd2; exact hT; show _ = some 2; exact Tryz.sizeAns; exact all_oneCell_toArray (List.all_eq_true.1 rfl); simp only [Act.put])
      refine bodyPost_ret (results_ans (g := w.heap.size + 1) rfl rfl HF.out.1 rfl) rfl ?_; exact ⟨⟨_, _, rfl⟩, HF.out.2.2⟩
  · have hmo : MkOut W2 W2 B d N Z L Q := ⟨⟨M, HB2.out.2.2.2.1⟩, Moves.refl _ _ _⟩; clear hcap hfu hfz; have HF : Hid (_ ∧ _ ∧ _) := hmo.ans (u0 := .int .i64 7) (u1 := .slice none 0 0) HB2.out.2.2.1 (by omega) HB2.out.2.1 rfl; have hT := HF.out.2.1
    go_wp2_with (refine wpList_store_mid (by rfl) 35 (.tmp 4) (.tmp 41) (by rfl) (w.heap.size + 1) 0 #[.int .i64 7, .slice none 0 0] (by rfl) (by rfl) ?sa5 ?sb5 ?sc5 ?sd5; exact hT; show _ = some 2; exact Tryz.sizeAns; exact all_oneCell_toArray (List.all_eq_true.1 rfl); simp only [Act.put])
    refine bodyPost_ret (results_ans (g := w.heap.size + 1) rfl rfl HF.out.1 rfl) rfl ?_; exact ⟨⟨_, _, rfl⟩, HF.out.2.2⟩
theorem slb_mid {w : World} {b off : Nat} {len : Nat} {zs : List Nat} (h : SlB w (some ⟨b, off, none⟩) len zs) (i n : Nat) (hi : i + n ≤ len) : SlB w (some ⟨b, off + i, none⟩) n ((zs.drop i).take n) := by
  obtain ⟨h1, h2, h3⟩ := h; refine ⟨by simp; omega, fun z hz => h2 z (List.mem_of_mem_drop (List.mem_of_mem_take hz)), fun hn0 => ?_⟩; obtain ⟨b', off', he, hc⟩ := h3 (by omega)
  obtain ⟨rfl, rfl⟩ : b = b' ∧ off = off' := by simpa using he
  refine ⟨b, off + i, rfl, fun j hj => ?_⟩; rw [Nat.add_assoc, hc (i + j) (by omega)]
  simp [List.getD, hj]
theorem rem_nat (n : Nat) : ∃ r : Nat, ((n : Int)).tmod 32 = (r : Int) ∧ r < 32 := ⟨n % 32, by rw [Int.tmod_eq_emod_of_nonneg (by omega)]; omega, by omega⟩
theorem brow_nil (w : World) (B g : Nat) : BRow w B (.slice (some ⟨g, 0, none⟩) 0 0) [] := ⟨by simp, .inl ⟨rfl, _, rfl⟩⟩
set_option maxRecDepth 20000 in
set_option maxHeartbeats 8000000 in
theorem step2_anyM (d : Nat) (B : Bs) (N Z L Q : Nat) (M : Mk) (a : Int) (nm tn : ByteArray) (da : Option Addr) (dn dc : Nat) (w : World) (h : MkAt w B d M N Z L Q) (hbd : N + 2 * Q ≤ 800000 ∧ L ≤ 900000 ∧ Z < 800000 ∧ Q ≤ 300000 ∧ nm.size ≤ 1000 ∧ tn.size ≤ 1000) (D : List Nat) (hD : BV w (.slice da dn dc) D) (hfo : 0 ≤ a ∧ a + (dn : Int) ≤ 65536 ∧ 65536 ≤ L ∧ dn ≤ 1000) :
    Calls Tryz.prog 26 #[.pointer (some ⟨d, 0, none⟩), .agg #[.int .i64 2, .int .i64 a, .string nm, .string tn, .slice da dn dc]] w fun e w' => e = .returned (.tuple #[]) ∧ MkOut w w' B d (N + 2 * Q + 2 * dn + 2) (Z + 1) L (Q + dn + 1) := by
  obtain ⟨hN, hL, hZ, hQ, hsn, hst⟩ := hbd; obtain ⟨a3, b3, c3, a4, b4, c4, a5, b5, c5, k3, k4, k5, hn⟩ := h.nowCells; have hdl : d < w.heap.size := cell_block_lt k3; have hss : M.mn.ss.length ≤ N := h.smn.ns
  have hb34 : M.mn.ss.length = b3 ∧ M.mn.zs.length = b4 := by
    obtain ⟨_, _, _, _, _, _, _, _, _, e1, e2, e3, f1, f2, f3, -⟩ := hn.vals; simp only [Value.slice.injEq] at e1 e2 e3; exact ⟨by omega, by omega⟩
  obtain rfl : b3 = b4 := by have := h.smn.eq; omega
  have HSM : Hid (M.mn.Sm N Z L ∧ M.mn.ss.length = b3 ∧ M.mn.zs.length = b3) := ⟨h.smn, hb34⟩
  have e1 : (w.alloc (.cells #[.int .i64 2, .int .i64 a, .string nm, .string tn, .slice da dn dc] 33)).heap.size = w.heap.size + 1 := by simp
  have hg2 : w.grownBy ((w.alloc (.cells #[.int .i64 2, .int .i64 a, .string nm, .string tn, .slice da dn dc] 33)).alloc (.cells #[.slice a3 b3 c3, .slice a4 b3 c4, .slice a5 b5 c5] 60)) none := grownBy_alloc (grownBy_alloc (grownBy_refl _ _) _) _
  have HB2 : Hid (((w.alloc (.cells #[.int .i64 2, .int .i64 a, .string nm, .string tn, .slice da dn dc] 33)).alloc (.cells #[.slice a3 b3 c3, .slice a4 b3 c4, .slice a5 b5 c5] 60)).heap[w.heap.size]? = some (.cells #[.int .i64 2, .int .i64 a, .string nm, .string tn, .slice da dn dc] 33 (0, 0)) ∧ ((w.alloc (.cells #[.int .i64 2, .int .i64 a, .string nm, .string tn, .slice da dn dc] 33)).alloc (.cells #[.slice a3 b3 c3, .slice a4 b3 c4, .slice a5 b5 c5] 60)).heap[w.heap.size + 1]? = some (.cells #[.slice a3 b3 c3, .slice a4 b3 c4, .slice a5 b5 c5] 60 (0, 0))) := by
    refine ⟨grown_blk (World.grownBy_alloc _ _ none) (heap_alloc_new w _), ?_⟩; rw [← e1]; exact heap_alloc_new _ _
  have HD : Hid (DirAt w (.slice a3 b3 c3) (.slice a4 b3 c4) (.slice a5 b5 c5) M.mn ∧ MkAt w B d M N Z L Q) := ⟨hn, h⟩; have HC : Hid (Calls _ _ _ _ _) := dirAt_in (.slice a3 b3 c3) (.slice a4 b3 c4) (.slice a5 b5 c5) M.mn nm ((w.alloc (.cells #[.int .i64 2, .int .i64 a, .string nm, .string tn, .slice da dn dc] 33)).alloc (.cells #[.slice a3 b3 c3, .slice a4 b3 c4, .slice a5 b5 c5] 60)) (hn.grown0 hg2) (by omega); have HG2 : Hid (w.grownBy ((w.alloc (.cells #[.int .i64 2, .int .i64 a, .string nm, .string tn, .slice da dn dc] 33)).alloc (.cells #[.slice a3 b3 c3, .slice a4 b3 c4, .slice a5 b5 c5] 60)) none) := hg2; clear h hn hg2 e1 hb34
  go_enter Tryz.func26, Tryz.ntmps26
  go_wp2_with fail; refine HC.out.mono ?_; rintro e w0 ⟨ix, rfl, ⟨hi1, hi2, -⟩, hg1⟩; have HG0 : Hid (w.grownBy w0 none ∧ w0.heap[w.heap.size]? = some (.cells #[.int .i64 2, .int .i64 a, .string nm, .string tn, .slice da dn dc] 33 (0, 0)) ∧ w0.heap[w.heap.size + 1]? = some (.cells #[.slice a3 b3 c3, .slice a4 b3 c4, .slice a5 b5 c5] 60 (0, 0))) := ⟨grownBy_trans HG2.out hg1, grown_blk hg1 HB2.out.1, grown_blk hg1 HB2.out.2⟩; have HFR : Hid (Calls _ _ _ _ _) := fresh_any d B N Z L Q M w0 (HD.out.2.grown0 HG0.out.1) (by omega) (by omega) (by omega); clear HC HB2 HG2 hg1 k3 k4 k5; go_wp2_with fail; refine HFR.out.mono ?_; rintro e w1 ⟨⟨nf, hnf, rfl⟩, hg1⟩; have HB1 : Hid ((w1.heap[w.heap.size]? = some (.cells #[.int .i64 2, .int .i64 a, .string nm, .string tn, .slice da dn dc] 33 (0, 0)) ∧ w1.heap[w.heap.size + 1]? = some (.cells #[.slice a3 b3 c3, .slice a4 b3 c4, .slice a5 b5 c5] 60 (0, 0))) ∧ w.grownBy w1 none) := ⟨⟨grown_blk hg1 HG0.out.2.1, grown_blk hg1 HG0.out.2.2⟩, grownBy_trans HG0.out.1 hg1⟩; clear hg1 HFR HG0; have po0 : w1.cell? ⟨w.heap.size, 0, none⟩ = some (.int .i64 2) := (zCr HB1.out.1.1).trans rfl; have po1 : w1.cell? ⟨w.heap.size, 1, none⟩ = some (.int .i64 a) := (zCr HB1.out.1.1).trans rfl; have po2 : w1.cell? ⟨w.heap.size, 2, none⟩ = some (.string nm) := (zCr HB1.out.1.1).trans rfl; have po3 : w1.cell? ⟨w.heap.size, 3, none⟩ = some (.string tn) := (zCr HB1.out.1.1).trans rfl; have po4 : w1.cell? ⟨w.heap.size, 4, none⟩ = some (.slice da dn dc) := (zCr HB1.out.1.1).trans rfl; have pl0 : w1.cell? ⟨w.heap.size + 1, 0, none⟩ = some (.slice a3 b3 c3) := (zCr HB1.out.1.2).trans rfl; have pl1 : w1.cell? ⟨w.heap.size + 1, 1, none⟩ = some (.slice a4 b3 c4) := (zCr HB1.out.1.2).trans rfl; have pl2 : w1.cell? ⟨w.heap.size + 1, 2, none⟩ = some (.slice a5 b5 c5) := (zCr HB1.out.1.2).trans rfl
  go_upto_if 20 with fail
  go_cut [6] from 19 to 25 (fun v wx => (∃ bd : Nat, bd ≤ Z + 1 ∧ v = .int .i64 (bd : Int)) ∧ w1.grownBy wx none)
  case first =>
    by_cases h0 : 0 ≤ ix
    · obtain ⟨jx, rfl⟩ := int_nat h0
      have hj4 : jx < b3 := by have := HSM.out.2.1; omega
      have hj4I : (jx : Int) < (b3 : Int) := by omega
      obtain ⟨zb, zoff, z, hza, hzz, hzc⟩ := (HD.out.1.grown0 HB1.out.2).z.at jx hj4
      obtain ⟨bx, hbx, rfl⟩ : ∃ x : Nat, M.mn.zs[jx]? = some x ∧ z = (x : Int) := by
        rw [List.getElem?_map] at hzz; obtain ⟨x, hx, h9⟩ := Option.map_eq_some_iff.1 hzz; exact ⟨x, hx, h9.symm⟩
      have hbZ : bx ≤ Z + 1 := by have := HSM.out.1.z bx (List.mem_of_getElem? hbx); omega
      subst hza; clear hzz hbx; go_wp2; go_meet
      case rel => exact ⟨⟨bx, hbZ, rfl⟩, grownBy_refl _ _⟩
    · go_wp2; go_meet
      case rel => exact ⟨⟨nf, hnf, rfl⟩, grownBy_refl _ _⟩
  case rest =>
    obtain ⟨⟨bd, hbd, rfl⟩, hgc⟩ := hcut; obtain ⟨W5, hW5⟩ : ∃ y, wc = y := ⟨_, rfl⟩; rw [hW5] at hgc ⊢; clear hW5; have HB5 : Hid ((W5.heap[w.heap.size]? = some (.cells #[.int .i64 2, .int .i64 a, .string nm, .string tn, .slice da dn dc] 33 (0, 0)) ∧ W5.heap[w.heap.size + 1]? = some (.cells #[.slice a3 b3 c3, .slice a4 b3 c4, .slice a5 b5 c5] 60 (0, 0))) ∧ w.grownBy W5 none) := ⟨⟨grown_blk hgc HB1.out.1.1, grown_blk hgc HB1.out.1.2⟩, grownBy_trans HB1.out.2 hgc⟩; clear hgc po0 po1 po2 po3 po4 pl0 pl1 pl2 HB1; have ro0 : W5.cell? ⟨w.heap.size, 0, none⟩ = some (.int .i64 2) := (zCr HB5.out.1.1).trans rfl; have ro1 : W5.cell? ⟨w.heap.size, 1, none⟩ = some (.int .i64 a) := (zCr HB5.out.1.1).trans rfl; have ro2 : W5.cell? ⟨w.heap.size, 2, none⟩ = some (.string nm) := (zCr HB5.out.1.1).trans rfl; have ro3 : W5.cell? ⟨w.heap.size, 3, none⟩ = some (.string tn) := (zCr HB5.out.1.1).trans rfl; have ro4 : W5.cell? ⟨w.heap.size, 4, none⟩ = some (.slice da dn dc) := (zCr HB5.out.1.1).trans rfl; have rl0 : W5.cell? ⟨w.heap.size + 1, 0, none⟩ = some (.slice a3 b3 c3) := (zCr HB5.out.1.2).trans rfl; have rl1 : W5.cell? ⟨w.heap.size + 1, 1, none⟩ = some (.slice a4 b3 c4) := (zCr HB5.out.1.2).trans rfl; have rl2 : W5.cell? ⟨w.heap.size + 1, 2, none⟩ = some (.slice a5 b5 c5) := (zCr HB5.out.1.2).trans rfl; obtain ⟨an, rfl⟩ := int_nat hfo.1; have hmk := HD.out.2.grown0 HB5.out.2; obtain ⟨-, -, -, -, -, -, -, -, -, -, -, -, -, -, -, -, -, -, -, -, wa, wc, -, -, -, -, -, -, -, e7⟩ := hmk.vals; obtain ⟨wn, hwn⟩ : ∃ y, M.wn = y := ⟨_, rfl⟩; rw [hwn] at e7; have hbx := hmk.box; rw [Mk.box, e7] at hbx; have HMK : Hid (MkAt W5 B d M N Z L Q ∧ M.wv = .slice wa wn wc ∧ M.wn = wn ∧ wn ≤ Q ∧ BV W5 (.slice da dn dc) D) := ⟨hmk, e7, hwn, by rw [← hwn]; exact hmk.wn, hD.grown0 HB5.out.2⟩; have HRG : Hid (W5.heap[d]? = some (.cells #[M.s0, M.s1, M.s2, M.n0, M.n1, M.n2, M.qv, .int .i64 M.cap, .int .i64 M.fuse, .bool M.off, .slice wa wn wc] 63 (0, 0)) ∧ W5.heap[w.heap.size]? = some (.cells #[.int .i64 2, .int .i64 (an : Int), .string nm, .string tn, .slice da dn dc] 33 (0, 0))) := ⟨hbx, HB5.out.1.1⟩; clear hmk hbx e7 hwn hD
    go_upto_region 19 with fail
    clear ro0 ro1 ro2 ro3 ro4 rl0 rl1 rl2; refine wp_region_Z (fun Y => Y.heap[d]? = some (.cells #[M.s0, M.s1, M.s2, M.n0, M.n1, M.n2, M.qv, .int .i64 M.cap, .int .i64 M.fuse, .bool M.off, .slice wa wn wc] 63 (0, 0)) ∧ Y.heap[w.heap.size]? = some (.cells #[.int .i64 2, .int .i64 (an : Int), .string nm, .string tn, .slice da dn dc] 33 (0, 0))) (fun j => j == 17) (by kernel_rfl) ?_; have hS : W5.drew.heap[d]? = some (.cells #[M.s0, M.s1, M.s2, M.n0, M.n1, M.n2, M.qv, .int .i64 M.cap, .int .i64 M.fuse, .bool M.off, .slice wa wn wc] 63 (0, 0)) ∧ W5.drew.heap[w.heap.size]? = some (.cells #[.int .i64 2, .int .i64 (an : Int), .string nm, .string tn, .slice da dn dc] 33 (0, 0)) := HRG.out; refine zTk 0 ?_; simp only [Act.put, zq1, zq2, zq3]; refine zTk 1 ?_; simp only [Act.put, zq1, zq2, zq3]; refine zTk 2 ?_; simp only [Act.put, zq1, zq2, zq3]; refine zTk 3 ?_; simp only [Act.put, zq1, zq2, zq3]; refine zLd 4 17 rfl hS (by intro W hW; have z0 : W.cell? ⟨d, 10, none⟩ = some (.slice wa wn wc) := (zCr hW.1).trans rfl; go_simp; first | done | with_reducible rfl) ?_; simp only [Act.put, zq1, zq2, zq3]; refine zTk 5 ?_; simp only [Act.put, zq1, zq2, zq3]; refine zTk 6 ?_; simp only [Act.put, zq1, zq2, zq3]; refine zLd 7 17 rfl hS (by intro W hW; have z0 : W.cell? ⟨w.heap.size, 1, none⟩ = some (.int .i64 (an : Int)) := (zCr hW.2).trans rfl; go_simp; first | done | with_reducible rfl) ?_; simp only [Act.put, zq1, zq2, zq3]; refine zTk 9 ?_; simp only [Act.put, zq1, zq2, zq3]; refine zLd 10 17 rfl hS (by intro W hW; have z0 : W.cell? ⟨w.heap.size, 4, none⟩ = some (.slice da dn dc) := (zCr hW.2).trans rfl; go_simp; first | done | with_reducible rfl) ?_; simp only [Act.put, zq1, zq2, zq3]; clear hS; refine wpAnyZ_one' (i := 8) (by kernel_rfl) rfl (fun K hK => ?_); go_simp; have hga : W5.grownBy (W5.alloc (.cells #[] 5)).drew none := grownBy_drew (World.grownBy_alloc W5 _ none); refine hK.out _ _ (fun _ _ => ⟨grown_blk hga HRG.out.1, grown_blk hga HRG.out.2⟩) ?_; clear hK K; (try simp only [Act.put, zq1, zq2, zq3]); obtain ⟨da9, dc9, hde, hds, hdc⟩ := HMK.out.2.2.2.2.sl; simp only [Value.slice.injEq] at hde; obtain ⟨rfl, hdl9, rfl⟩ := hde; rw [← hdl9] at hds hdc; obtain ⟨yv, w6, hrun6, hr6, hg6, -⟩ := run_app_row (w := (W5.alloc (.cells #[] 5)).drew) (B := W5.heap.size) (v := .slice (some ⟨W5.heap.size, 0, none⟩) 0 0) (L := []) (ty := 22) (brow_nil _ _ _) (c := dc) (hds.grown0 hga) (by simp; omega) (by simp); have hg6 : W5.grownBy w6 none := grown_step hga hg6 (by simp [rowBlk]); rw [List.nil_append] at hr6; obtain ⟨ya, yc, rfl, hyc⟩ := hr6.is; rw [← hdl9] at hrun6 hr6; have HR6 : Hid (BRow w6 W5.heap.size (.slice ya dn yc) D ∧ W5.grownBy w6 none ∧ D.length = dn) := ⟨hr6, hg6, hdl9.symm⟩; have HDL : Hid (D.length = dn) := hdl9.symm; refine wpAnyZ_one' (i := 11) (by kernel_rfl) rfl (fun K hK => ?_); refine step_run (by rfl) (.tmp 117) (.tmp 119) 22 (by rfl) _ _ (by rfl) (by rfl) hrun6 ?_; refine hK.out _ _ (fun _ _ => ⟨grown_blk hg6 HRG.out.1, grown_blk hg6 HRG.out.2⟩) ?_; clear hK K hrun6 hga hr6 hg6 hds hyc hdl9 hdc; (try simp only [Act.put, zq1, zq2, zq3]); refine zTk 12 ?_; simp only [Act.put, zq1, zq2, zq3]; refine wpAnyZ_one' (i := 13) (by kernel_rfl) rfl (fun K hK => ?_); go_simp; have hgb : w6.grownBy (w6.alloc (.cells #[.int .i64 1, .int .i64 (bd : Int), .int .i64 (an : Int), .slice ya dn yc, .slice none 0 0, .slice none 0 0] 65)) none := World.grownBy_alloc w6 _ none; have hgc : W5.grownBy (w6.alloc (.cells #[.int .i64 1, .int .i64 (bd : Int), .int .i64 (an : Int), .slice ya dn yc, .slice none 0 0, .slice none 0 0] 65)) none := grownBy_trans HR6.out.2.1 hgb; refine hK.out _ _ (fun _ _ => ⟨grown_blk hgc HRG.out.1, grown_blk hgc HRG.out.2⟩) ?_; clear hK K hgb hgc; (try simp only [Act.put, zq1, zq2, zq3]); have hmk6 := HMK.out.1.grown0 HR6.out.2.1; obtain ⟨wa2, wc2, w7, hrun7, ho7, hg7, hn7⟩ := run_app1b (P := Tryz.prog) (w0 := w6) 61 61 B.n 65 Tryz.underlying61 Tryz.infoCh rfl (by decide) (.slice wa wn wc) wn M.wc (by have h9 := hmk6.wr; rw [HMK.out.2.1, HMK.out.2.2.1] at h9; exact h9) #[.int .i64 1, .int .i64 (bd : Int), .int .i64 (an : Int), .slice ya dn yc, .slice none 0 0, .slice none 0 0] w6.heap.size rfl rfl rfl (by have := HMK.out.2.2.2.1; omega) (by decide) hmk6.sizeB; have HP : Hid (_ ∧ _ ∧ _) := hmk6.pushW (v' := .slice wa2 (wn + 1) wc2) (by rw [HMK.out.2.2.1]; exact ho7) (by rw [HMK.out.2.1]; exact hg7) (by rw [HMK.out.2.1]; exact hn7); have hM7 : Moves [] [65] w6 w7 := Moves.of_row (by have h9 := hmk6.wr; rw [HMK.out.2.1] at h9; exact h9) hg7; have hbx7 : w7.heap[d]? = some (.cells #[M.s0, M.s1, M.s2, M.n0, M.n1, M.n2, M.qv, .int .i64 M.cap, .int .i64 M.fuse, .bool M.off, .slice wa wn wc] 63 (0, 0)) := hM7.cells (grown_blk HR6.out.2.1 HRG.out.1) (by decide) (by simp); have hop7 : w7.heap[w.heap.size]? = some (.cells #[.int .i64 2, .int .i64 (an : Int), .string nm, .string tn, .slice da dn dc] 33 (0, 0)) := hM7.cells (grown_blk HR6.out.2.1 HRG.out.2) (by decide) (by simp); refine wpAnyZ_one' (i := 14) (by kernel_rfl) rfl (fun K hK => ?_); refine step_run (by rfl) (.tmp 113) (.tmp 122) 61 (by rfl) _ _ (by rfl) (by rfl) hrun7 ?_; refine hK.out _ _ (fun _ _ => ⟨hbx7, hop7⟩) ?_; clear hK K hrun7 ho7 hg7 hn7 hmk6; (try simp only [Act.put, zq1, zq2, zq3]); refine zTk 15 ?_; simp only [Act.put, zq1, zq2, zq3]; refine zTk 16 ?_; simp only [Act.put, zq1, zq2, zq3]; have kq : w7.cell? ⟨d, 10, none⟩ = some (.slice wa wn wc) := (zCr hbx7).trans rfl
    have kf : w7.frozen? ⟨d, 10, none⟩ = false := by simp [World.frozen?, hbx7]
    have HX : Hid (MkAt (w7.setCell ⟨d, 10, none⟩ (.slice wa2 (wn + 1) wc2)) B d { M with wv := .slice wa2 (wn + 1) wc2, wn := M.wn + 1, wc := M.wc ++ [.int .i64 1, .int .i64 (bd : Int), .int .i64 (an : Int), .slice ya dn yc, .slice none 0 0, .slice none 0 0] } N Z L (Q + 1) ∧ Moves [] [63, 65] W5 (w7.setCell ⟨d, 10, none⟩ (.slice wa2 (wn + 1) wc2))) := ⟨HP.out.2.1, (Moves.of_grown0 HR6.out.2.1).trans HP.out.2.2⟩; refine wpAnyZ_one' (i := 17) (by kernel_rfl) rfl (fun K hK => ?_); go_simp; refine hK.out _ _ (fun hc => (by cases hc)) ?_; clear hK K; (try simp only [Act.put]); refine wpAnyZ_done (by kernel_rfl) ?_ _; clear kq kf hbx7 hop7 hM7 HP HR6; generalize w7.setCell ⟨d, 10, none⟩ (.slice wa2 (wn + 1) wc2) = W6 at HX ⊢; have HX6 : Hid (∃ M2, MkAt W6 B d M2 N (Z + 1) L (Q + 1)) := ⟨_, HX.out.1.mono (Nat.le_refl _) (by omega) (Nat.le_refl _) (Nat.le_refl _)⟩; have HDV : Hid (W6.heap[w.heap.size]? = some (.cells #[.int .i64 2, .int .i64 (an : Int), .string nm, .string tn, .slice da dn dc] 33 (0, 0)) ∧ BV W6 (.slice da dn dc) D ∧ Moves [] [63, 65] w W6 ∧ D.length = dn) := ⟨HX.out.2.cells HRG.out.2 (by decide) (by simp), HMK.out.2.2.2.2.moves HX.out.2 (by decide), (Moves.of_grown0 HB5.out.2).trans HX.out.2, HDL.out⟩; clear HX HMK HRG HD HB5 HSM
    go_upto_region 21 with fail
    go_loopw [7] (fun v wr => ∃ (f k : Nat) (M2 : Mk), f ≤ dn ∧ k ≤ f ∧ v = .int .i64 (f : Int) ∧ MkAt wr B d M2 (N + 2 * k) (Z + 1) L (Q + 1 + k) ∧ Moves [] [63, 65] W6 wr) (fun v _ => dn - (intOf v).toNat)
    case atStart =>
      obtain ⟨M2, h9⟩ := HX6.out; exact ⟨0, 0, M2, Nat.zero_le _, Nat.le_refl _, rfl, h9, Moves.refl _ _ _⟩
    case round =>
      obtain ⟨f, k, M2, hf, hk, rfl, hm2, hmv⟩ := hrel; have hop : wr.heap[w.heap.size]? = some (.cells #[.int .i64 2, .int .i64 (an : Int), .string nm, .string tn, .slice da dn dc] 33 (0, 0)) := hmv.cells HDV.out.1 (by decide) (by simp); have HR : Hid (MkAt wr B d M2 (N + 2 * k) (Z + 1) L (Q + 1 + k) ∧ Moves [] [63, 65] W6 wr ∧ wr.heap[w.heap.size]? = some (.cells #[.int .i64 2, .int .i64 (an : Int), .string nm, .string tn, .slice da dn dc] 33 (0, 0)) ∧ BV wr (.slice da dn dc) D) := ⟨hm2, hmv, hop, HDV.out.2.1.moves hmv (by decide)⟩; have o1 : wr.cell? ⟨w.heap.size, 1, none⟩ = some (.int .i64 (an : Int)) := (zCr hop).trans rfl; have o4 : wr.cell? ⟨w.heap.size, 4, none⟩ = some (.slice da dn dc) := (zCr hop).trans rfl; clear hm2 hmv hop HX6
      by_cases hlt : f < dn
      · have hltI : (f : Int) < (dn : Int) := by omega
        have v1 : IntKind.i64.wrap ((f : Int) + 32) = (f : Int) + 32 := IntWalk.i64_in _ (by omega); have v2 : IntKind.i64.wrap ((an : Int) + (f : Int)) = (an : Int) + (f : Int) := IntWalk.i64_in _ (by omega); obtain ⟨r, hr, hr32⟩ := rem_nat (an + f)
        have v3 : ((an : Int) + (f : Int)).tmod 32 = (r : Int) := by rw [← hr]; congr 1
        obtain ⟨t, ht⟩ : ∃ t : Nat, t = f + 32 - r := ⟨_, rfl⟩
        have v4 : IntKind.i64.wrap ((f : Int) + 32 - (r : Int)) = (t : Int) := by rw [IntWalk.i64_in _ (by omega)]; omega
        have htf : f < t := by omega
        clear hr ht
        go_upto_region 23 with fail
        go_upto_if 143 with fail
        go_cut [8] from 126 to 146 (fun v wx => (∃ tz : Nat, f < tz ∧ tz ≤ dn ∧ v = .int .i64 (tz : Int)) ∧ wx = wr)
        case first =>
          by_cases htd : dn < t
          · have htI : (dn : Int) < (t : Int) := by omega
            go_wp2; go_meet
            case rel => exact ⟨⟨dn, hlt, Nat.le_refl _, rfl⟩, rfl⟩
          · have htI : ¬ (dn : Int) < (t : Int) := by omega
            go_wp2; go_meet
            case rel => exact ⟨⟨t, htf, by omega, rfl⟩, rfl⟩
        case rest =>
          obtain ⟨⟨tz, h1, h2, rfl⟩, hwc⟩ := hcut; rw [hwc]; clear hwc v1 v2 v3 v4 hr32 htf t r; have v2 : IntKind.i64.wrap ((an : Int) + (f : Int)) = (an : Int) + (f : Int) := IntWalk.i64_in _ (by omega); obtain ⟨da9, dc9, hde, hds, hdc9⟩ := HR.out.2.2.2.sl; simp only [Value.slice.injEq] at hde; obtain ⟨rfl, -, rfl⟩ := hde; rw [HDV.out.2.2.2] at hds hdc9; obtain ⟨b, off, rfl, -⟩ := hds.2.2 (by omega)
          have t1 : (f : Int) ≤ (tz : Int) := by omega
          have t2 : (tz : Int) ≤ (dc : Int) := by omega
          have t3 : ¬ dc = f := by omega
          have hga : wr.grownBy (wr.alloc (.cells #[] 5)).drew none := grownBy_drew (World.grownBy_alloc wr _ none); obtain ⟨yv, w8, hrun8, hr8, hg8, -⟩ := run_app_row (w := (wr.alloc (.cells #[] 5)).drew) (B := wr.heap.size) (v := .slice (some ⟨wr.heap.size, 0, none⟩) 0 0) (L := []) (ty := 22) (brow_nil _ _ _) (c := dc - f) ((slb_mid hds f (tz - f) (by omega)).grown0 hga) (by simp; omega) (by simp); have hg8 : wr.grownBy w8 none := grown_step hga hg8 (by simp [rowBlk]); rw [List.nil_append] at hr8; obtain ⟨ya, yc, rfl, hyc⟩ := hr8.is
          have hpl : ((D.drop f).take (tz - f)).length = tz - f := by rw [List.length_take, List.length_drop, HDV.out.2.2.2]; omega
          have HCM : Hid (Calls _ _ _ _ _) := add_any d B (N + 2 * k) (Z + 1) L (Q + 1 + k) M2 ⟨1, (bd : Int), (an : Int) + (f : Int), (D.drop f).take (tz - f), [], []⟩ (.slice ya ((D.drop f).take (tz - f)).length yc) (.slice none 0 0) (.slice none 0 0) w8 (HR.out.1.grown0 hg8) (by omega) (by omega) hL (by omega) ⟨BV.of_row hr8, rs_nil _, ri_nil _⟩ ⟨rfl, by simp, by simp, by simp, ⟨by show (-1 : Int) ≤ (bd : Int); omega, by show (bd : Int) ≤ _; omega⟩, fun _ => ⟨by show (0 : Int) ≤ (bd : Int); omega, by show (0 : Int) ≤ (an : Int) + (f : Int); omega, by show (an : Int) + (f : Int) + (((D.drop f).take (tz - f)).length : Int) ≤ (L : Int); rw [hpl]; have := hfo.2.1; omega⟩, fun _ => by show 1 ≤ ((D.drop f).take (tz - f)).length; rw [hpl]; omega⟩ (.inl rfl); rw [hpl] at HCM hrun8; have hop8 : w8.heap[w.heap.size]? = some (.cells #[.int .i64 2, .int .i64 (an : Int), .string nm, .string tn, .slice (some ⟨b, off, none⟩) dn dc] 33 (0, 0)) := grown_blk hg8 HR.out.2.2.1; have HG8 : Hid (Moves [] [63, 65] W6 w8) := HR.out.2.1.trans (Moves.of_grown0 hg8); clear hds hdc9 hr8 hyc hpl o1 o4
          go_upto_region 25 with fail
          refine wp_region_Z (fun Y => Y.heap[w.heap.size]? = some (.cells #[.int .i64 2, .int .i64 (an : Int), .string nm, .string tn, .slice (some ⟨b, off, none⟩) dn dc] 33 (0, 0))) (fun _ => false) (by kernel_rfl) ?_; have hS : wr.drew.heap[w.heap.size]? = some (.cells #[.int .i64 2, .int .i64 (an : Int), .string nm, .string tn, .slice (some ⟨b, off, none⟩) dn dc] 33 (0, 0)) := HR.out.2.2.1; refine zTk 0 ?_; simp only [Act.put, zq1, zq2, zq3]; refine zTk 1 ?_; simp only [Act.put, zq1, zq2, zq3]; refine zTk 2 ?_; simp only [Act.put, zq1, zq2, zq3]; refine zLs 3 rfl hS (by intro W hW; have z0 : W.cell? ⟨w.heap.size, 1, none⟩ = some (.int .i64 (an : Int)) := (zCr hW).trans rfl; go_simp; first | done | with_reducible rfl) ?_; simp only [Act.put, zq1, zq2, zq3]; refine zTk 4 ?_; simp only [Act.put, zq1, zq2, zq3]; refine zTk 5 ?_; simp only [Act.put, zq1, zq2, zq3]; refine zTk 7 ?_; simp only [Act.put, zq1, zq2, zq3]; refine zLs 8 rfl hS (by intro W hW; have z0 : W.cell? ⟨w.heap.size, 4, none⟩ = some (.slice (some ⟨b, off, none⟩) dn dc) := (zCr hW).trans rfl; go_simp; first | done | with_reducible rfl) ?_; simp only [Act.put, zq1, zq2, zq3]; refine zTk 9 ?_; simp only [Act.put, zq1, zq2, zq3]; refine zTk 10 ?_; simp only [Act.put, zq1, zq2, zq3]; refine zTk 11 ?_; simp only [Act.put, zq1, zq2, zq3]; refine wpAnyZ_one' (i := 6) (by kernel_rfl) rfl (fun K hK => ?_); go_simp; refine hK.out _ _ (fun _ _ => grown_blk hga HR.out.2.2.1) ?_; clear hK K; (try simp only [Act.put, zq1, zq2, zq3]); refine wpAnyZ_one' (i := 12) (by kernel_rfl) rfl (fun K hK => ?_); refine step_run (by rfl) (.tmp 153) (.tmp 158) 22 (by rfl) _ _ (by rfl) (by rfl) hrun8 ?_; refine hK.out _ _ (fun _ _ => hop8) ?_; clear hK K hrun8; (try simp only [Act.put, zq1, zq2, zq3]); refine zTk 13 ?_; simp only [Act.put, zq1, zq2, zq3]; refine wpAnyZ_one' (i := 14) (by kernel_rfl) rfl (fun K hK => ?_); go_simp; go_at_call 42; refine HCM.out.mono ?_; rintro e w9 ⟨rfl, ⟨M3, hm3⟩, hmo⟩; have HN : Hid (MkAt w9 B d M3 (N + 2 * (k + 1)) (Z + 1) L (Q + 1 + (k + 1)) ∧ Moves [] [63, 65] W6 w9) := ⟨hm3.mono (by omega) (Nat.le_refl _) (Nat.le_refl _) (by omega), HG8.out.trans hmo⟩; refine hK.out _ _ (fun _ _ => hmo.cells hop8 (by decide) (by simp)) ?_; clear hK K HCM hm3 hmo HG8 hop8 hg8 hga; (try simp only [Act.put, zq1, zq2, zq3]); refine wpAnyZ_done (by kernel_rfl) ?_ _; go_wp2; go_roundw
          case rel => exact ⟨tz, k + 1, M3, h2, by omega, rfl, HN.out.1, HN.out.2⟩
          case measure => simp [intOf]; omega
      · have hltI : ¬ (f : Int) < (dn : Int) := by omega
        have HF : Hid (MkOut w wr B d (N + 2 * Q + 2 * dn + 2) (Z + 1) L (Q + dn + 1)) := ⟨⟨M2, HR.out.1.mono (by omega) (Nat.le_refl _) (Nat.le_refl _) (by omega)⟩, HDV.out.2.2.1.trans HR.out.2.1⟩; go_wp2; refine bodyPost_end (results_none rfl _ _ _) rfl ⟨rfl, HF.out⟩
theorem do2_anyM (d : Nat) (B : Bs) (N Z L Q : Nat) (M : Mk) (a : Int) (nm tn : ByteArray) (da : Option Addr) (dn dc : Nat) (D : List Nat) (w : World) (h : MkAt w B d M N Z L Q) (hD : BV w (.slice da dn dc) D) (hbd : N + 2 * Q ≤ 800000 ∧ L ≤ 900000 ∧ Z < 800000 ∧ Q ≤ 300000 ∧ nm.size ≤ 1000 ∧ tn.size ≤ 1000 ∧ dn ≤ 1000) (hL : 65536 ≤ L) :
    Calls Tryz.prog 9 #[.pointer (some ⟨d, 0, none⟩), .agg #[.int .i64 2, .int .i64 a, .string nm, .string tn, .slice da dn dc]] w fun e w' => (∃ u0 u1, e = .returned (.agg #[u0, u1])) ∧ DoOutM w w' B d (N + 2 * Q + 2 * dn + 2) (Z + 1) L (Q + dn + 1) := by
  obtain ⟨h1, h2, h3, h4, h5, h6, h7⟩ := hbd; exact doS_anyM d B N Z L Q _ _ _ M 2 a nm tn da dn dc D w h hD ⟨by omega, by omega, by omega⟩ ⟨by omega, by omega⟩ (fun w1 hw => fault2_any d B N Z L Q M a nm tn da dn dc w1 hw ⟨by omega, h2, by omega, h5, h6, by omega⟩) (fun hf w1 M1 hw _ hD1 => step2_anyM d B N Z L Q M1 a nm tn da dn dc w1 hw ⟨h1, h2, h3, h4, h5, h6⟩ D hD1 ⟨(hf.2.1 rfl).1, (hf.2.1 rfl).2, hL, h7⟩)
end Go.Proofs.YtgehhfncjoogiaaGreatDoor
namespace Go.Proofs.YtgehhfncjoogiaaGreatDoor
open Go.RowKit

theorem SlB.grownZ {w w' : World} {row : Option Nat} {oa : Option Addr} {len : Nat} {zs : List Nat} (h : SlB w oa len zs) (hg : w.grownBy w' row) (hne : len ≠ 0 → ∀ b off, oa = some ⟨b, off, none⟩ → some b ≠ row) : SlB w' oa len zs := by
  by_cases hz : len = 0
  · subst hz; exact ⟨h.1, h.2.1, fun h => absurd rfl h⟩
  · exact h.grown hg (hne hz)
def Src (w : World) (g : Nat) (zs : List Nat) : Prop :=
  ∃ (oa : Option Addr) (len cap i x : Nat), w.heap[g]? = some (.cells #[.slice oa len cap, .int .i64 (i : Int), .int .u64 (x : Int)] 51 (0, 0)) ∧ SlB w oa len zs ∧ (len ≠ 0 → ∀ b o, oa = some ⟨b, o, none⟩ → b < g) ∧ i ≤ len ∧ x < 18446744073709551616 ∧ len ≤ 1073741824
theorem Src.lt {w : World} {g : Nat} {zs : List Nat} (h : Src w g zs) : g < w.heap.size := by
  obtain ⟨_, _, _, _, _, hg, _⟩ := h; exact (Array.getElem?_eq_some_iff.1 hg).1
theorem Src.grown0 {w w' : World} {g : Nat} {zs : List Nat} (h : Src w g zs) (hg : w.grownBy w' none) : Src w' g zs := by
  have hlt := h.lt; obtain ⟨oa, len, cap, i, x, hb, hs, hn, h1, h2, h3⟩ := h; exact ⟨oa, len, cap, i, x, (hg.block g hlt (by simp)).trans hb, hs.grown0 hg, hn, h1, h2, h3⟩
theorem Src.grown {w w' : World} {row : Option Nat} {g : Nat} {zs : List Nat} (h : Src w g zs) (hg : w.grownBy w' row) (hr : ∀ r, row = some r → g < r) : Src w' g zs := by
  have hlt := h.lt; obtain ⟨oa, len, cap, i, x, hb, hs, hn, h1, h2, h3⟩ := h; exact ⟨oa, len, cap, i, x, (hg.block g hlt (fun e => by have := hr g e.symm; omega)).trans hb, hs.grownZ hg (fun hz b o e e2 => by have := hr b e2.symm; have := hn hz b o e; omega), hn, h1, h2, h3⟩
set_option maxHeartbeats 400000 in
theorem l1Draw_any (oa : Option Addr) (len cap : Nat) (zs : List Nat) (w : World) (hsl : SlB w oa len zs) (hm : len ≤ 1073741824) :
    Calls Tryz.prog 4 #[.slice oa len cap] w fun e w' => ∃ g, e = .returned (.pointer (some ⟨g, 0, none⟩)) ∧ w.heap.size ≤ g ∧ Src w' g zs ∧ w.grownBy w' none := by
  have HS : Hid (SlB w oa len zs) := hsl
  have HI : Hid (len ≠ 0 → ∀ b o, oa = some ⟨b, o, none⟩ → b < w.heap.size) := by
    intro hz b o e; obtain ⟨b', o', e', hc⟩ := hsl.2.2 hz; rw [e] at e'
    obtain ⟨rfl, rfl⟩ : b = b' ∧ o = o' := by simpa using e'
    exact cell_block_lt (hc 0 (by omega))
  clear hsl
  go_enter Tryz.func4, Tryz.ntmps4
  go_wp2; go_ret; have G := World.grownBy_alloc w (Obj.cells #[Value.slice oa len cap, Value.int IntKind.i64 0, Value.int IntKind.u64 (88172645463325252 + ↑len)] 51) none; exact ⟨w.heap.size, rfl, Nat.le_refl _, ⟨oa, len, cap, 0, 88172645463325252 + len, (by show (w.heap.push _)[w.heap.size]? = _; simp), HS.out.grown0 G, HI.out, by omega, by omega, hm⟩, G⟩
theorem u64_wrap (z : Int) : ∃ y : Nat, IntKind.u64.wrap z = (y : Int) ∧ y < 18446744073709551616 := by
  have h : IntKind.u64.wrap z = z % 18446744073709551616 := by simp [IntKind.wrap, IntKind.signed, IntKind.bits]
  exact ⟨(z % 18446744073709551616).toNat, by rw [h]; omega, by omega⟩
theorem draw_num (y : Nat) (k : Int) (hy : y < 18446744073709551616) (hk : 1 < k) (hk2 : k < 9223372036854775808) : ∃ r : Nat, wrap64 (((y : Int) / 8589934592).tmod k) = (r : Int) ∧ (r : Int) < k := by
  have h1 : (((y : Int) / 8589934592).tmod k) = ((y : Int) / 8589934592) % k := Int.tmod_eq_emod_of_nonneg (by omega); have h2 := Int.emod_nonneg ((y : Int) / 8589934592) (show k ≠ 0 by omega); have h3 := Int.emod_lt_of_pos ((y : Int) / 8589934592) (show 0 < k by omega); rw [h1]; generalize ((y : Int) / 8589934592) % k = z at *; refine ⟨z.toNat, ?_, by omega⟩; have : wrap64 z = z := IntWalk.wrap64_in z (by omega); rw [this]
  omega
theorem src_one {w : World} {g : Nat} {zs : List Nat} {oa : Option Addr} {len cap i x : Nat} (hb : w.heap[g]? = some (.cells #[.slice oa len cap, .int .i64 (i : Int), .int .u64 (x : Int)] 51 (0, 0))) (hs : SlB w oa len zs) (hn : len ≠ 0 → ∀ b o, oa = some ⟨b, o, none⟩ → b < g) (hi : i ≤ len) (hm : len ≤ 1073741824) (n y : Nat) (hy : y < 18446744073709551616) :
    Src ((w.drewN n).setCell ⟨g, 2, none⟩ (.int .u64 (y : Int))) g zs ∧ w.grownBy ((w.drewN n).setCell ⟨g, 2, none⟩ (.int .u64 (y : Int))) (some g) := by
  have G : w.grownBy ((w.drewN n).setCell ⟨g, 2, none⟩ (.int .u64 (y : Int))) (some g) := grownBy_setCell ⟨rfl, rfl, rfl, Nat.le_refl _, fun _ _ _ => rfl⟩; refine ⟨⟨oa, len, cap, i, y, ?_, hs.grownZ G (fun hz b o h => by have := hn hz b o h; simp only [ne_eq, Option.some.injEq]; omega), hn, hi, hy, hm⟩, G⟩; rw [heap_setCell_same (w.drewN n) g 2 _ _ _ hb]
  rfl
theorem src_two {w : World} {g : Nat} {zs : List Nat} {oa : Option Addr} {len cap i x : Nat} (hb : w.heap[g]? = some (.cells #[.slice oa len cap, .int .i64 (i : Int), .int .u64 (x : Int)] 51 (0, 0))) (hs : SlB w oa len zs) (hn : len ≠ 0 → ∀ b o, oa = some ⟨b, o, none⟩ → b < g) (hi : i < len) (hm : len ≤ 1073741824) (n y : Nat) (hy : y < 18446744073709551616) :
    Src (((w.drewN n).setCell ⟨g, 1, none⟩ (.int .i64 ((i : Int) + 1))).setCell ⟨g, 2, none⟩ (.int .u64 (y : Int))) g zs ∧ w.grownBy (((w.drewN n).setCell ⟨g, 1, none⟩ (.int .i64 ((i : Int) + 1))).setCell ⟨g, 2, none⟩ (.int .u64 (y : Int))) (some g) := by
  have G : w.grownBy (((w.drewN n).setCell ⟨g, 1, none⟩ (.int .i64 ((i : Int) + 1))).setCell ⟨g, 2, none⟩ (.int .u64 (y : Int))) (some g) := grownBy_setCell (grownBy_setCell ⟨rfl, rfl, rfl, Nat.le_refl _, fun _ _ _ => rfl⟩); refine ⟨⟨oa, len, cap, i + 1, y, ?_, hs.grownZ G (fun hz b o h => by have := hn hz b o h; simp only [ne_eq, Option.some.injEq]; omega), hn, hi, hy, hm⟩, G⟩; have h1 := heap_setCell_same (w.drewN n) g 1 _ _ (.int .i64 ((i : Int) + 1)) hb; rw [heap_setCell_same _ g 2 _ _ _ h1]
  rfl
set_option maxHeartbeats 1000000 in
theorem drawN_any (g : Nat) (k : Int) (zs : List Nat) (w : World) (hs : Src w g zs) (hk : k < 9223372036854775808) (hk0 : -9223372036854775808 ≤ k) :
    Calls Tryz.prog 11 #[.pointer (some ⟨g, 0, none⟩), .int .i64 k] w fun e w' => ∃ r : Nat, e = .returned (.int .i64 (r : Int)) ∧ (k ≤ 1 → r = 0) ∧ (1 < k → (r : Int) < k) ∧ Src w' g zs ∧ w.grownBy w' (some g) := by
  obtain ⟨oa, len, cap, i, x, hb, hs, hn, h1, h2, h3⟩ := hs
  have c0 : w.cell? ⟨g, 0, none⟩ = some (.slice oa len cap) := by simp [World.cell?, hb]
  have c1 : w.cell? ⟨g, 1, none⟩ = some (.int .i64 (i : Int)) := by simp [World.cell?, hb]
  have c2 : w.cell? ⟨g, 2, none⟩ = some (.int .u64 (x : Int)) := by simp [World.cell?, hb]
  have f1 : w.frozen? ⟨g, 1, none⟩ = false := by simp [World.frozen?, hb]
  have f2 : w.frozen? ⟨g, 2, none⟩ = false := by simp [World.frozen?, hb]
  have H1 : Hid (∀ n y : Nat, y < 18446744073709551616 → _ ∧ _) := fun n y hy => src_one hb hs hn h1 h3 n y hy
  have H2 : Hid (i < len → ∀ n y : Nat, y < 18446744073709551616 → _ ∧ _) := fun hi n y hy => src_two hb hs hn hi h3 n y hy
  have HS : Hid (SlB w oa len zs) := hs; have HN : Hid (len ≠ 0 → ∀ b o, oa = some ⟨b, o, none⟩ → b < g) := hn
  have HQ : Hid (∀ y : Nat, y < 18446744073709551616 → 1 < k → _) := fun y hy h => draw_num y k hy h hk
  clear hs hb hn
  by_cases hlt : i < len
  · obtain ⟨b, off, rfl, hc⟩ := HS.out.2.2 (by omega); have hck := hc i hlt; obtain ⟨c, hce⟩ : ∃ c, c = zs.getD i 0 := ⟨_, rfl⟩
    have hc256 : c < 256 := by
      rw [hce, List.getD_eq_getElem?_getD]; have hl := HS.out.1; rw [List.getElem?_eq_getElem (by omega)]; exact HS.out.2.1 _ (List.getElem_mem _)
    rw [← hce] at hck; have hbg : b ≠ g := Nat.ne_of_lt (HN.out (by omega) b off rfl); clear hc hce
    by_cases hk1 : k ≤ 1
    · go_enter Tryz.func11, Tryz.ntmps11
      go_wp2; go_quiet (fail); go_wp2; go_quiet (fail); go_wp2; go_ret; obtain ⟨y, hy, hy2⟩ := u64_wrap (IntKind.u64.wrap (IntKind.u64.wrap (↑x + (↑c + 1)) * 6364136223846793005) + 1442695040888963407); rw [hy]; exact ⟨0, rfl, fun _ => rfl, fun h => by omega, H2.out hlt _ y hy2⟩
    · go_enter Tryz.func11, Tryz.ntmps11
      go_wp2; go_quiet (fail); go_wp2; go_quiet (fail); go_wp2; go_ret; obtain ⟨y, hy, hy2⟩ := u64_wrap (IntKind.u64.wrap (IntKind.u64.wrap (↑x + (↑c + 1)) * 6364136223846793005) + 1442695040888963407); rw [hy]; obtain ⟨r, hr, hr2⟩ := HQ.out y hy2 (by omega); rw [hr]; exact ⟨r, rfl, fun h => by omega, fun _ => hr2, H2.out hlt _ y hy2⟩
  · by_cases hk1 : k ≤ 1
    · go_enter Tryz.func11, Tryz.ntmps11
      go_wp2; go_quiet (fail); go_wp2; go_ret; obtain ⟨y, hy, hy2⟩ := u64_wrap (IntKind.u64.wrap (↑x * 6364136223846793005) + 1442695040888963407); rw [hy]; exact ⟨0, rfl, fun _ => rfl, fun h => by omega, H1.out _ y hy2⟩
    · go_enter Tryz.func11, Tryz.ntmps11
      go_wp2; go_quiet (fail); go_wp2; go_ret; obtain ⟨y, hy, hy2⟩ := u64_wrap (IntKind.u64.wrap (↑x * 6364136223846793005) + 1442695040888963407); rw [hy]; obtain ⟨r, hr, hr2⟩ := HQ.out y hy2 (by omega); rw [hr]; exact ⟨r, rfl, fun h => by omega, fun _ => hr2, H1.out _ y hy2⟩
set_option maxHeartbeats 400000 in
theorem l1Size_any (oa : Option Addr) (len cap m : Nat) (w : World) (hl : len ≤ 1073741824) (hm : m ≤ 1073741824) :
    Calls Tryz.prog 8 #[.slice oa len cap, .int .i64 (m : Int)] w fun e w' => ∃ r : Nat, e = .returned (.int .i64 (r : Int)) ∧ r ≤ m ∧ w' = w := by
  by_cases h : m < 2 + len / 2
  · have h' : (m : Int) < 2 + (len : Int) / 2 := by omega
    go_enter Tryz.func8, Tryz.ntmps8
    go_wp2; go_ret; exact ⟨m, rfl, Nat.le_refl _, rfl⟩
  · have h' : ¬ ((m : Int) < 2 + (len : Int) / 2) := by omega
    go_enter Tryz.func8, Tryz.ntmps8
    go_wp2; go_ret; exact ⟨2 + len / 2, by simp, by omega, rfl⟩
theorem one_sl (w : World) (r : Nat) (hr : r < 256) (e : TypeId) : SlB (w.alloc (.cells #[.int .u8 (r : Int)] e)) (some ⟨w.heap.size, 0, none⟩) 1 [r] := by
  refine ⟨rfl, by simpa using hr, fun _ => ⟨w.heap.size, 0, rfl, fun i hi => ?_⟩⟩
  obtain rfl : i = 0 := by omega
  simp
set_option maxHeartbeats 1000000 in
theorem drawBytes_any (s n : Nat) (zs : List Nat) (w : World) (hs : Src w s zs) (hn : n ≤ 1000000) :
    Calls Tryz.prog 10 #[.pointer (some ⟨s, 0, none⟩), .int .i64 (n : Int)] w fun e w' => ∃ (g cap : Nat) (xs : List Nat), e = .returned (.slice (some ⟨g, 0, none⟩) n cap) ∧ (∀ z ∈ xs, z < 256) ∧ w'.ownsRow w.heap.size 5 1 (.slice (some ⟨g, 0, none⟩) n cap) n (xs.map bv) ∧ Src w' s zs ∧ w.grownBy w' (some s) := by
  obtain ⟨i0, TB⟩ := byteT; have HSw : Hid (s < w.heap.size) := hs.lt; have HS0 : Hid (Src w s zs) := hs; clear hs
  go_enter Tryz.func10, Tryz.ntmps10
  go_wp2
  go_loopw [5, 6] (fun o i wr => ∃ k : Nat, k ≤ n ∧ i = .int .i64 k ∧ (∃ (g cap : Nat) (xs : List Nat), o = .slice (some ⟨g, 0, none⟩) k cap ∧ (∀ z ∈ xs, z < 256) ∧ wr.ownsRow w.heap.size 5 1 (.slice (some ⟨g, 0, none⟩) k cap) k (xs.map bv)) ∧ Src wr s zs ∧ w.grownBy wr (some s)) (fun _ i _ => n - (intOf i).toNat)
  case atStart => exact ⟨0, Nat.zero_le _, rfl, ⟨w.heap.size, 0, [], rfl, by simp, World.ownsRow_made w #[] 0 (Nat.le_refl _) (Nat.zero_le _) rfl⟩, HS0.out.grown0 (World.grownBy_alloc _ _ _), World.grownBy_alloc _ _ _⟩
  case round =>
    obtain ⟨k, hk, rfl, ⟨g, cap, xs, rfl, hxs, hown⟩, hsrc, hG⟩ := hrel
    by_cases hlt : k < n
    · have HX : Hid (∀ z ∈ xs, z < 256) := hxs; have HG : Hid (w.grownBy wr (some s)) := hG; have hsz := hG.size; have HR : Hid (w.heap.size ≤ g ∧ g < wr.heap.size) := hown.lt g rfl; have HO : Hid (wr.ownsRow w.heap.size 5 1 (.slice (some ⟨g, 0, none⟩) k cap) k (xs.map bv)) := hown
      have HN : Hid (∀ k : Int, k < 9223372036854775808 → -9223372036854775808 ≤ k → _) := fun k h h' => drawN_any s k zs wr hsrc h h'
      clear hxs hG hown hsrc; go_wp2_with fail; refine (HN.out 256 (by decide) (by decide)).mono ?_; rintro e w1 ⟨r, rfl, -, hr, hs1, hg1⟩
      have hr' : r < 256 := by have := hr (by decide); omega
      clear hr HN; have hz1 := hg1.size; have HO1 : Hid (w1.ownsRow w.heap.size 5 1 (.slice (some ⟨g, 0, none⟩) k cap) k (xs.map bv)) := World.ownsRow.kept HO.out hg1 (.inr <| by have := HR.out; have := HSw.out; simp only [Value.ownBlock, ne_eq, Option.some.injEq]; omega); have HS1 : Hid (Src w1 s zs) := hs1; have HG1 : Hid (w.grownBy w1 (some s)) := grownBy_trans HG.out hg1; clear hs1 hg1 HO HG
      go_wp2_with (at_builtin; refine wpList_append_b (by rfl) (.tmp 13) (.tmp 17) TB (by rfl) (base := w.heap.size) (g := g) (n := k) (cap := cap) (xs := xs) (by rfl) (by exact World.ownsRow.alloc HO1.out _) (oa := some ⟨w1.heap.size, 0, none⟩) (m := 1) (c := 1) (zs := [r]) (by rfl) (by exact one_sl w1 r hr' _) (by omega) (by simp; omega) ?_; intro g' cap' w2 hown' hgr hat hsz2)
      have R : Hid (w2.ownsRow w.heap.size 5 1 (.slice (some ⟨g', 0, none⟩) (k + 1) cap') (k + 1) ((xs ++ [r]).map bv) ∧ Src w2 s zs ∧ w.grownBy w2 (some s)) := by
        have hB := HR.out; have hS := HSw.out; refine ⟨hown'.out, (HS1.out.grown0 (World.grownBy_alloc _ _ _)).grown hgr.out (fun r' e => by cases e; omega), ?_⟩; refine ⟨hgr.out.os.trans HG1.out.os, hgr.out.tape.trans HG1.out.tape, hgr.out.output.trans HG1.out.output, ?_, fun j hj hne => ?_⟩
        · have := hgr.out.size; have := HG1.out.size; simp at *; omega
        · have h1 := hgr.out.block j (by simp; omega) (by simp only [ne_eq, Option.some.injEq]; omega); rw [h1, (World.grownBy_alloc w1 _ none).block j (by omega) (by simp)]; exact HG1.out.block j hj hne
      have HX2 : Hid (∀ z ∈ xs ++ [r], z < 256) := by
        intro z hz
        rcases List.mem_append.1 hz with h | h
        · exact HX.out z h
        · obtain rfl : z = r := by simpa using h
          exact hr'
      clear hown' hgr hat HO1 HS1 HG1 HX; go_wp2; go_roundw
      case rel => exact ⟨k + 1, by omega, by go_num, ⟨g', cap', xs ++ [r], rfl, HX2.out, R.out.1⟩, R.out.2.1, R.out.2.2⟩
      case measure => simp [intOf]; omega
    · obtain rfl : k = n := by omega
      have R : Hid (_ ∧ _ ∧ _ ∧ _) := ⟨hxs, hown, hsrc, hG⟩; clear hxs hown hsrc hG; go_wp2; go_ret; exact ⟨g, cap, xs, rfl, R.out⟩
set_option maxHeartbeats 1000000 in
theorem cp_any (oa : Option Addr) (len cap : Nat) (zs : List Nat) (w : World) (hsl : SlB w oa len zs) (hm : len ≤ 1073741824) :
    Calls Tryz.prog 15 #[.slice oa len cap] w fun e w' => ∃ g cp, e = .returned (.slice (some ⟨g, 0, none⟩) len cp) ∧ w'.ownsRow w.heap.size 5 1 (.slice (some ⟨g, 0, none⟩) len cp) len (zs.map bv) ∧ w.grownBy w' none := by
  obtain ⟨i0, TB⟩ := byteT; have HS : Hid (SlB w oa len zs) := hsl; clear hsl
  go_enter Tryz.func15, Tryz.ntmps15
  go_wp2_with (at_builtin; refine wpList_append_b (by rfl) (.tmp 3) (.tmp 4) TB (by rfl) (base := w.heap.size) (g := w.heap.size) (n := 0) (cap := 0) (xs := []) (by rfl) (by exact World.ownsRow_made w #[] 0 (Nat.le_refl _) (Nat.zero_le _) rfl) (oa := oa) (m := len) (c := cap) (zs := zs) (by rfl) (by exact HS.out.grown0 (World.grownBy_alloc _ _ _)) (by omega) (by simp) ?_; intro g' cap' w1 hown' hgr hat hsz1)
  go_ret; have C1 : w.grownBy w1 none := grown_next hgr.out (World.grownBy_alloc w _ _) ⟨rfl, rfl, rfl, rfl⟩ (Nat.le_refl _); have h1 := hown'.out; rw [Nat.zero_add, List.nil_append] at h1; exact ⟨g', cap', rfl, h1, C1⟩
theorem one_any (g : Nat) (k : Int) (zs : List Nat) (w : World) (hs : Src w g zs) (hk : k < 9223372036854775808) (hk0 : -9223372036854775808 ≤ k) :
    Calls Tryz.prog 20 #[.pointer (some ⟨g, 0, none⟩), .int .i64 k] w fun e w' => (∃ b : Bool, e = .returned (.bool b)) ∧ Src w' g zs ∧ w.grownBy w' (some g) := by
  have HN : Hid (Calls _ _ _ _ _) := drawN_any g k zs w hs hk hk0; clear hs
  go_enter Tryz.func20, Tryz.ntmps20
  go_wp2_with fail; refine HN.out.mono ?_; rintro e w1 ⟨r, rfl, -, -, hs1, hg1⟩; have HR : Hid (Src w1 g zs ∧ w.grownBy w1 (some g)) := ⟨hs1, hg1⟩; clear hs1 hg1 HN; go_wp2; go_ret; exact ⟨⟨_, rfl⟩, HR.out.1, HR.out.2⟩
set_option maxHeartbeats 1000000 in
theorem wild_any (g : Nat) (zs : List Nat) (w : World) (hs : Src w g zs) :
    Calls Tryz.prog 29 #[.pointer (some ⟨g, 0, none⟩)] w fun e w' => (∃ z : Int, e = .returned (.int .i64 z) ∧ -9223372036854775808 ≤ z ∧ z ≤ 9223372036854775807) ∧ Src w' g zs ∧ w.grownBy w' (some g) := by
  have HN : Hid (Calls _ _ _ _ _) := drawN_any g 6 zs w hs (by decide) (by decide); clear hs
  go_enter Tryz.func29, Tryz.ntmps29
  go_wp2_with fail; refine HN.out.mono ?_; rintro e w1 ⟨r, rfl, -, hr, hs1, hg1⟩; have hr6 := hr (by decide); have HR : Hid (Src w1 g zs ∧ w.grownBy w1 (some g)) := ⟨hs1, hg1⟩
  have HK : Hid (∀ k : Int, k < 9223372036854775808 → -9223372036854775808 ≤ k → _) := fun k h h' => drawN_any g k zs w1 hs1 h h'
  clear hs1 hg1 HN hr
  rcases (by omega : r = 0 ∨ r = 1 ∨ r = 2 ∨ r = 3 ∨ r = 4 ∨ r = 5) with rfl | rfl | rfl | rfl | rfl | rfl
  · go_wp2; go_ret; exact ⟨⟨_, rfl, by omega, by omega⟩, HR.out.1, HR.out.2⟩
  · go_wp2; go_ret; exact ⟨⟨_, rfl, by omega, by omega⟩, HR.out.1, HR.out.2⟩
  · go_wp2; go_ret; exact ⟨⟨_, rfl, by omega, by omega⟩, HR.out.1, HR.out.2⟩
  · go_wp2_with fail; refine (HK.out 100000 (by decide) (by decide)).mono ?_; rintro e w2 ⟨r, rfl, -, hr, hs2, hg2⟩; have hr' := hr (by decide); have HR2 : Hid (Src w2 g zs ∧ w.grownBy w2 (some g)) := ⟨hs2, grownBy_trans HR.out.2 hg2⟩; clear hs2 hg2 hr HK; go_wp2; go_ret; exact ⟨⟨_, rfl, by omega, by omega⟩, HR2.out.1, HR2.out.2⟩
  · go_wp2_with fail; refine (HK.out 1000 (by decide) (by decide)).mono ?_; rintro e w2 ⟨r, rfl, -, hr, hs2, hg2⟩; have hr' := hr (by decide); have HR2 : Hid (Src w2 g zs ∧ w.grownBy w2 (some g)) := ⟨hs2, grownBy_trans HR.out.2 hg2⟩; have v1 : IntKind.i64.wrap (-(r : Int)) = -(r : Int) := IntWalk.i64_in _ (by omega); clear hs2 hg2 hr HK; go_wp2; go_ret; exact ⟨⟨_, rfl, by omega, by omega⟩, HR2.out.1, HR2.out.2⟩
  · go_wp2_with fail; refine (HK.out 20 (by decide) (by decide)).mono ?_; rintro e w2 ⟨r, rfl, -, hr, hs2, hg2⟩; have hr' := hr (by decide); have HR2 : Hid (Src w2 g zs ∧ w.grownBy w2 (some g)) := ⟨hs2, grownBy_trans HR.out.2 hg2⟩; have v1 : IntKind.i64.wrap (9223372036854775807 - (r : Int)) = 9223372036854775807 - (r : Int) := IntWalk.i64_in _ (by omega); clear hs2 hg2 hr HK; go_wp2; go_ret; exact ⟨⟨_, rfl, by omega, by omega⟩, HR2.out.1, HR2.out.2⟩
def safeB : ByteArray := ⟨#[115, 97, 102, 101]⟩
theorem names6 (r : Nat) (hr : r < 6) : ∃ s : ByteArray, (#[.string ⟨#[97]⟩, .string ⟨#[98]⟩, .string ⟨#[109, 101, 116, 97]⟩, .string ⟨#[109, 101, 116, 97, 46, 116, 109, 112]⟩, .string ⟨#[119, 97, 108, 48, 48, 48, 48, 48, 48, 48, 49]⟩, .string ⟨#[120, 45, 49]⟩] : Array Value)[r]? = some (.string s) ∧ s ≠ safeB ∧ s.size ≤ 25 := by
  rcases (by omega : r = 0 ∨ r = 1 ∨ r = 2 ∨ r = 3 ∨ r = 4 ∨ r = 5) with rfl | rfl | rfl | rfl | rfl | rfl <;> exact ⟨_, rfl, by unfold safeB; decide, by decide⟩
theorem names5 (r : Nat) (hr : r < 5) : ∃ s : ByteArray, (#[.string ⟨#[]⟩, .string ⟨#[65]⟩, .string ⟨#[97, 32, 98]⟩, .string ⟨#[97, 98, 99, 100, 101, 102, 103, 104, 105, 106, 107, 108, 109, 110, 111, 112, 113, 114, 115, 116, 117, 118, 119, 120, 121]⟩, .string ⟨#[97, 98, 99, 100, 101, 102, 103, 104, 105, 106, 107, 108, 109, 110, 111, 112, 113, 114, 115, 116, 117, 118, 119, 120]⟩] : Array Value)[r]? = some (.string s) ∧ s ≠ safeB ∧ s.size ≤ 25 := by
  rcases (by omega : r = 0 ∨ r = 1 ∨ r = 2 ∨ r = 3 ∨ r = 4) with rfl | rfl | rfl | rfl | rfl <;> exact ⟨_, rfl, by unfold safeB; decide, by decide⟩
theorem src_row {w w' : World} {g b : Nat} {o : Obj} (hb : w.heap[b]? = some o) (hg : w.grownBy w' (some g)) (hne : b ≠ g) : w'.heap[b]? = some o := (hg.block b (Array.getElem?_eq_some_iff.1 hb).1 (by simpa using hne)).trans hb
set_option maxHeartbeats 1000000 in
theorem name_any (g : Nat) (zs : List Nat) (w : World) (hs : Src w g zs) :
    Calls Tryz.prog 27 #[.pointer (some ⟨g, 0, none⟩)] w fun e w' => (∃ s : ByteArray, e = .returned (.string s) ∧ s ≠ safeB ∧ s.size ≤ 25) ∧ Src w' g zs ∧ w.grownBy w' (some g) := by
  have hgl := hs.lt; have HW1 : Hid ((w.alloc (.cells #[.string ⟨#[97]⟩, .string ⟨#[98]⟩, .string ⟨#[109, 101, 116, 97]⟩, .string ⟨#[109, 101, 116, 97, 46, 116, 109, 112]⟩, .string ⟨#[119, 97, 108, 48, 48, 48, 48, 48, 48, 48, 49]⟩, .string ⟨#[120, 45, 49]⟩] 9)).heap[w.heap.size]? = some (.cells #[.string ⟨#[97]⟩, .string ⟨#[98]⟩, .string ⟨#[109, 101, 116, 97]⟩, .string ⟨#[109, 101, 116, 97, 46, 116, 109, 112]⟩, .string ⟨#[119, 97, 108, 48, 48, 48, 48, 48, 48, 48, 49]⟩, .string ⟨#[120, 45, 49]⟩] 9 (0, 0)) ∧ Src (w.alloc (.cells #[.string ⟨#[97]⟩, .string ⟨#[98]⟩, .string ⟨#[109, 101, 116, 97]⟩, .string ⟨#[109, 101, 116, 97, 46, 116, 109, 112]⟩, .string ⟨#[119, 97, 108, 48, 48, 48, 48, 48, 48, 48, 49]⟩, .string ⟨#[120, 45, 49]⟩] 9)) g zs ∧ w.grownBy (w.alloc (.cells #[.string ⟨#[97]⟩, .string ⟨#[98]⟩, .string ⟨#[109, 101, 116, 97]⟩, .string ⟨#[109, 101, 116, 97, 46, 116, 109, 112]⟩, .string ⟨#[119, 97, 108, 48, 48, 48, 48, 48, 48, 48, 49]⟩, .string ⟨#[120, 45, 49]⟩] 9)) (some g)) := ⟨heap_alloc_new w _, hs.grown0 (World.grownBy_alloc _ _ _), World.grownBy_alloc _ _ _⟩; have HN : Hid (Calls _ _ _ _ _) := one_any g 30 zs (w.alloc (.cells #[.string ⟨#[97]⟩, .string ⟨#[98]⟩, .string ⟨#[109, 101, 116, 97]⟩, .string ⟨#[109, 101, 116, 97, 46, 116, 109, 112]⟩, .string ⟨#[119, 97, 108, 48, 48, 48, 48, 48, 48, 48, 49]⟩, .string ⟨#[120, 45, 49]⟩] 9)) (hs.grown0 (World.grownBy_alloc _ _ _)) (by decide) (by decide); clear hs
  go_enter Tryz.func27, Tryz.ntmps27
  go_wp2_with fail; refine HN.out.mono ?_; rintro e w1 ⟨⟨b, rfl⟩, hs1, hg1⟩; have hb1 := src_row HW1.out.1 hg1 (by omega); have hz1 : w.heap.size < w1.heap.size := (Array.getElem?_eq_some_iff.1 hb1).1; have HR : Hid (w1.heap[w.heap.size]? = some (.cells #[.string ⟨#[97]⟩, .string ⟨#[98]⟩, .string ⟨#[109, 101, 116, 97]⟩, .string ⟨#[109, 101, 116, 97, 46, 116, 109, 112]⟩, .string ⟨#[119, 97, 108, 48, 48, 48, 48, 48, 48, 48, 49]⟩, .string ⟨#[120, 45, 49]⟩] 9 (0, 0)) ∧ Src w1 g zs ∧ w.grownBy w1 (some g)) := ⟨hb1, hs1, grownBy_trans HW1.out.2.2 hg1⟩; clear hs1 hg1 HN HW1 hb1
  cases b
  · have HK : Hid (Calls _ _ _ _ _) := drawN_any g 6 zs w1 HR.out.2.1 (by decide) (by decide); go_wp2_with fail; refine HK.out.mono ?_; rintro e w2 ⟨r, rfl, -, hr, hs2, hg2⟩; have hr' := hr (by decide)
    have hrI : (r : Int) < 6 := by omega
    obtain ⟨s, hsr, hs9⟩ := names6 r (by omega); have hb2 := src_row HR.out.1 hg2 (by omega); have c2 : w2.cell? ⟨w.heap.size, r, none⟩ = some (.string s) := (zCr hb2).trans hsr; have HR2 : Hid (Src w2 g zs ∧ w.grownBy w2 (some g) ∧ s ≠ safeB ∧ s.size ≤ 25) := ⟨hs2, grownBy_trans HR.out.2.2 hg2, hs9⟩; clear hs2 hg2 hr HK hb2 hsr hs9; go_wp2; go_ret; exact ⟨⟨_, rfl, HR2.out.2.2⟩, HR2.out.1, HR2.out.2.1⟩
  · have HW2 : Hid ((w1.alloc (.cells #[.string ⟨#[]⟩, .string ⟨#[65]⟩, .string ⟨#[97, 32, 98]⟩, .string ⟨#[97, 98, 99, 100, 101, 102, 103, 104, 105, 106, 107, 108, 109, 110, 111, 112, 113, 114, 115, 116, 117, 118, 119, 120, 121]⟩, .string ⟨#[97, 98, 99, 100, 101, 102, 103, 104, 105, 106, 107, 108, 109, 110, 111, 112, 113, 114, 115, 116, 117, 118, 119, 120]⟩] 9)).heap[w1.heap.size]? = some (.cells #[.string ⟨#[]⟩, .string ⟨#[65]⟩, .string ⟨#[97, 32, 98]⟩, .string ⟨#[97, 98, 99, 100, 101, 102, 103, 104, 105, 106, 107, 108, 109, 110, 111, 112, 113, 114, 115, 116, 117, 118, 119, 120, 121]⟩, .string ⟨#[97, 98, 99, 100, 101, 102, 103, 104, 105, 106, 107, 108, 109, 110, 111, 112, 113, 114, 115, 116, 117, 118, 119, 120]⟩] 9 (0, 0)) ∧ Src (w1.alloc (.cells #[.string ⟨#[]⟩, .string ⟨#[65]⟩, .string ⟨#[97, 32, 98]⟩, .string ⟨#[97, 98, 99, 100, 101, 102, 103, 104, 105, 106, 107, 108, 109, 110, 111, 112, 113, 114, 115, 116, 117, 118, 119, 120, 121]⟩, .string ⟨#[97, 98, 99, 100, 101, 102, 103, 104, 105, 106, 107, 108, 109, 110, 111, 112, 113, 114, 115, 116, 117, 118, 119, 120]⟩] 9)) g zs ∧ w.grownBy (w1.alloc (.cells #[.string ⟨#[]⟩, .string ⟨#[65]⟩, .string ⟨#[97, 32, 98]⟩, .string ⟨#[97, 98, 99, 100, 101, 102, 103, 104, 105, 106, 107, 108, 109, 110, 111, 112, 113, 114, 115, 116, 117, 118, 119, 120, 121]⟩, .string ⟨#[97, 98, 99, 100, 101, 102, 103, 104, 105, 106, 107, 108, 109, 110, 111, 112, 113, 114, 115, 116, 117, 118, 119, 120]⟩] 9)) (some g)) := ⟨heap_alloc_new w1 _, HR.out.2.1.grown0 (World.grownBy_alloc _ _ _), grownBy_alloc HR.out.2.2 _⟩; have HK : Hid (Calls _ _ _ _ _) := drawN_any g 5 zs (w1.alloc (.cells #[.string ⟨#[]⟩, .string ⟨#[65]⟩, .string ⟨#[97, 32, 98]⟩, .string ⟨#[97, 98, 99, 100, 101, 102, 103, 104, 105, 106, 107, 108, 109, 110, 111, 112, 113, 114, 115, 116, 117, 118, 119, 120, 121]⟩, .string ⟨#[97, 98, 99, 100, 101, 102, 103, 104, 105, 106, 107, 108, 109, 110, 111, 112, 113, 114, 115, 116, 117, 118, 119, 120]⟩] 9)) HW2.out.2.1 (by decide) (by decide); go_wp2_with fail; refine HK.out.mono ?_; rintro e w2 ⟨r, rfl, -, hr, hs2, hg2⟩; have hr' := hr (by decide)
    have hrI : (r : Int) < 5 := by omega
    obtain ⟨s, hsr, hs9⟩ := names5 r (by omega); have hb2 := src_row HW2.out.1 hg2 (by omega); have c2 : w2.cell? ⟨w1.heap.size, r, none⟩ = some (.string s) := (zCr hb2).trans hsr; have HR2 : Hid (Src w2 g zs ∧ w.grownBy w2 (some g) ∧ s ≠ safeB ∧ s.size ≤ 25) := ⟨hs2, grownBy_trans HW2.out.2.2 hg2, hs9⟩; clear hs2 hg2 hr HK hb2 hsr hs9; go_wp2; go_ret; exact ⟨⟨_, rfl, HR2.out.2.2⟩, HR2.out.1, HR2.out.2.1⟩
set_option maxHeartbeats 2000000 in
theorem choice_any (s : Nat) (n : Int) (zs : List Nat) (w : World) (hs : Src w s zs) (hn : n ≤ 1000000) (hn0 : -1000000 ≤ n) :
    Calls Tryz.prog 13 #[.pointer (some ⟨s, 0, none⟩), .int .i64 n] w fun e w' => (∃ (g m cap : Nat) (xs : List Nat), e = .returned (.slice (some ⟨g, 0, none⟩) m cap) ∧ m ≤ n.toNat ∧ (∀ z ∈ xs, z < 256) ∧ w'.ownsRow w.heap.size 5 1 (.slice (some ⟨g, 0, none⟩) m cap) m (xs.map bv)) ∧ Src w' s zs ∧ w.grownBy w' (some s) := by
  obtain ⟨i0, TB⟩ := byteT; have HSw : Hid (s < w.heap.size) := hs.lt; have HW : Hid ((w.alloc (.cells #[] 5)).ownsRow w.heap.size 5 1 (.slice (some ⟨w.heap.size, 0, none⟩) 0 0) 0 [] ∧ Src (w.alloc (.cells #[] 5)) s zs ∧ w.grownBy (w.alloc (.cells #[] 5)) (some s)) := ⟨World.ownsRow_made w #[] 0 (Nat.le_refl _) (Nat.zero_le _) rfl, hs.grown0 (World.grownBy_alloc w (.cells #[] 5) none), World.grownBy_alloc w (.cells #[] 5) (some s)⟩; have HN : Hid (Calls _ _ _ _ _) := drawN_any s 5 zs (w.alloc (.cells #[] 5)) (hs.grown0 (World.grownBy_alloc _ _ _)) (by decide) (by decide); clear hs
  go_enter Tryz.func13, Tryz.ntmps13
  go_wp2_with fail; refine HN.out.mono ?_; rintro e w0 ⟨m, rfl, -, hr, hs0, hg0⟩; have hm5 := hr (by decide); have H0 : Hid (w0.ownsRow w.heap.size 5 1 (.slice (some ⟨w.heap.size, 0, none⟩) 0 0) 0 (([] : List Nat).map bv) ∧ Src w0 s zs ∧ w.grownBy w0 (some s)) := ⟨World.ownsRow.kept HW.out.1 hg0 (.inr (by have := HSw.out; simp only [Value.ownBlock, ne_eq, Option.some.injEq]; omega)), hs0, grownBy_trans HW.out.2.2 hg0⟩; clear hr hs0 hg0 HN HW; go_wp2
  go_loopw [5, 7] (fun o i wr => ∃ k : Nat, k ≤ n.toNat ∧ i = .int .i64 (k : Int) ∧ (∃ (g cap : Nat) (xs : List Nat), o = .slice (some ⟨g, 0, none⟩) k cap ∧ (∀ z ∈ xs, z < 256) ∧ wr.ownsRow w.heap.size 5 1 (.slice (some ⟨g, 0, none⟩) k cap) k (xs.map bv)) ∧ Src wr s zs ∧ w.grownBy wr (some s)) (fun _ i _ => n.toNat - (intOf i).toNat)
  case atStart => exact ⟨0, Nat.zero_le _, rfl, ⟨w.heap.size, 0, [], rfl, by simp, H0.out.1⟩, H0.out.2.1, H0.out.2.2⟩
  case round =>
    obtain ⟨k, hk, rfl, ⟨g, cap, xs, rfl, hxs, hown⟩, hsrc, hG⟩ := hrel; have hB : w.heap.size ≤ g ∧ g < wr.heap.size := hown.lt g rfl; have HA : Hid ((∀ z ∈ xs, z < 256) ∧ wr.ownsRow w.heap.size 5 1 (.slice (some ⟨g, 0, none⟩) k cap) k (xs.map bv) ∧ Src wr s zs ∧ w.grownBy wr (some s)) := ⟨hxs, hown, hsrc, hG⟩
    have HK : Hid (∀ k : Int, k < 9223372036854775808 → -9223372036854775808 ≤ k → _) := fun k h h' => drawN_any s k zs wr hsrc h h'
    clear hxs hown hsrc hG H0
    by_cases hlt : (k : Int) < n
    · go_upto_region 6 with fail
      go_cut [8] from 12 to 16 (fun v wx => v = .int .u8 0 ∧ wx = wr)
      case first =>
        go_wp2; go_meet
        case rel => exact ⟨rfl, rfl⟩
      case rest =>
        obtain ⟨rfl, hwc⟩ := hcut; rw [hwc]; clear hwc; apply_assumption; refine wp_seq_k (fun K hK => ?_)
        go_cut [8] from 12 to 43 (fun v wx => (∃ c : Nat, c < 256 ∧ v = .int .u8 (c : Int)) ∧ Src wx s zs ∧ wr.grownBy wx (some s))
        case first =>
          rcases (by omega : m = 0 ∨ m = 1 ∨ m = 2 ∨ m = 3 ∨ m = 4) with rfl | rfl | rfl | hm34
          · go_wp2; go_meet
            case rel => exact ⟨⟨255, by decide, rfl⟩, HA.out.2.2.1, grownBy_refl _ _⟩
          · go_wp2_with fail; refine (HK.out 2 (by decide) (by decide)).mono ?_; rintro e w2 ⟨r, rfl, -, hr, hs2, hg2⟩; have hr' := hr (by decide); have HR2 : Hid (Src w2 s zs ∧ wr.grownBy w2 (some s)) := ⟨hs2, hg2⟩; clear hs2 hg2 hr
            rcases (by omega : r = 0 ∨ r = 1) with rfl | rfl
            · go_wp2; go_meet
              case rel => exact ⟨⟨0, by decide, rfl⟩, HR2.out⟩
            · go_wp2; go_meet
              case rel => exact ⟨⟨255, by decide, rfl⟩, HR2.out⟩
          · go_wp2
            all_goals (go_meet; case rel => first | exact ⟨⟨255, by decide, rfl⟩, HA.out.2.2.1, grownBy_refl _ _⟩ | exact ⟨⟨0, by decide, rfl⟩, HA.out.2.2.1, grownBy_refl _ _⟩)
          · have e0 : ((m : Int) == 0) = false := by simp; omega
            have e1 : ((m : Int) == 1) = false := by simp; omega
            have e2 : ((m : Int) == 2) = false := by simp; omega
            have e3 : (2 : Int) < (m : Int) := by omega
            go_wp2_with fail; refine (HK.out 256 (by decide) (by decide)).mono ?_; rintro e w2 ⟨r, rfl, -, hr, hs2, hg2⟩
            have hr' : r < 256 := by have := hr (by decide); omega
            have HR2 : Hid (wr.grownBy w2 (some s)) := hg2; have HO : Hid (Calls _ _ _ _ _) := one_any s 2 zs w2 hs2 (by decide) (by decide); clear hs2 hg2 hr; go_wp2_with fail; refine HO.out.mono ?_; rintro e w3 ⟨⟨b, rfl⟩, hs3, hg3⟩; have HR3 : Hid (Src w3 s zs ∧ wr.grownBy w3 (some s)) := ⟨hs3, grownBy_trans HR2.out hg3⟩; clear hs3 hg3 HO
            cases b
            · go_wp2; go_meet
              case rel => exact ⟨⟨r, hr', rfl⟩, HR3.out⟩
            · go_wp2; go_meet
              case rel => exact ⟨⟨255, by decide, rfl⟩, HR3.out⟩
        case rest =>
          obtain ⟨⟨c, hc, rfl⟩, hsc, hgc⟩ := hcut; obtain ⟨w1, hw1⟩ : ∃ y, y = wc := ⟨_, rfl⟩; subst hw1; have HO1 : Hid (w1.ownsRow w.heap.size 5 1 (.slice (some ⟨g, 0, none⟩) k cap) k (xs.map bv)) := World.ownsRow.kept HA.out.2.1 hgc (.inr <| by have := HSw.out; simp only [Value.ownBlock, ne_eq, Option.some.injEq]; omega); have HS1 : Hid (Src w1 s zs) := hsc; have HG1 : Hid (w.grownBy w1 (some s)) := grownBy_trans HA.out.2.2.2 hgc; have hz1 := hgc.size; have hz2 := HA.out.2.2.2.size; have HX : Hid (∀ z ∈ xs, z < 256) := HA.out.1; clear hsc hgc HA HK
          go_wp2_with (at_builtin; refine wpList_append_b (by rfl) (.tmp 44) (.tmp 46) TB (by rfl) (base := w.heap.size) (g := g) (n := k) (cap := cap) (xs := xs) (by rfl) (by exact World.ownsRow.alloc HO1.out _) (oa := some ⟨w1.heap.size, 0, none⟩) (m := 1) (c := 1) (zs := [c]) (by rfl) (by exact one_sl w1 c hc _) (by omega) (by simp; omega) ?_; intro g' cap' w2 hown' hgr hat hsz2)
          have R : Hid (w2.ownsRow w.heap.size 5 1 (.slice (some ⟨g', 0, none⟩) (k + 1) cap') (k + 1) ((xs ++ [c]).map bv) ∧ Src w2 s zs ∧ w.grownBy w2 (some s)) := by
            have hS := HSw.out; refine ⟨hown'.out, (HS1.out.grown0 (World.grownBy_alloc _ _ _)).grown hgr.out (fun r' e => by cases e; omega), ?_⟩; refine ⟨hgr.out.os.trans HG1.out.os, hgr.out.tape.trans HG1.out.tape, hgr.out.output.trans HG1.out.output, ?_, fun j hj hne => ?_⟩
            · have := hgr.out.size; have := HG1.out.size; simp at *; omega
            · have h1 := hgr.out.block j (by simp; omega) (by simp only [ne_eq, Option.some.injEq]; omega); rw [h1, (World.grownBy_alloc w1 _ none).block j (by omega) (by simp)]; exact HG1.out.block j hj hne
          have HX2 : Hid (∀ z ∈ xs ++ [c], z < 256) := by
            intro z hz
            rcases List.mem_append.1 hz with h | h
            · exact HX.out z h
            · obtain rfl : z = c := by simpa using h
              exact hc
          clear hown' hgr hat HO1 HS1 HG1 HX; go_wp2; go_roundw
          case rel => exact ⟨k + 1, by omega, by go_num, ⟨g', cap', xs ++ [c], rfl, HX2.out, R.out.1⟩, R.out.2.1, R.out.2.2⟩
          case measure => simp [intOf]; omega
    · go_wp2; go_ret; exact ⟨⟨g, k, cap, rfl, hk, xs, HA.out.1, HA.out.2.1⟩, HA.out.2.2.1, HA.out.2.2.2⟩
end Go.Proofs.YtgehhfncjoogiaaGreatDoor
namespace Go.Proofs.YtgehhfncjoogiaaGreatDoor
open Go.RowKit Go.Maps

theorem own_mv {w w' : World} {B e s n : Nat} {v : Value} {xs : List Value} {ts : List TypeId} (ho : w.ownsRow B e s v n xs) (hM : Moves [] ts w w') (ht : e ∉ ts) : w'.ownsRow B e s v n xs := by
  obtain ⟨hl, h1 | ⟨g, cap, cur, h1, hb, hg, h2⟩⟩ := ho
  · exact ⟨hl, .inl h1⟩
  · exact ⟨hl, .inr ⟨g, cap, cur, h1, hb, hM.cells hg ht (by simp), h2⟩⟩
theorem Src.ty {w : World} {g : Nat} {zs : List Nat} (h : Src w g zs) : ∃ cur, w.heap[g]? = some (.cells cur 51 (0, 0)) := by
  obtain ⟨_, _, _, _, _, hb, _⟩ := h; exact ⟨_, hb⟩
theorem Src.mv {w w' : World} {g : Nat} {zs : List Nat} (h : Src w g zs) (hg : w.grownBy w' (some g)) : Moves [] [51] w w' :=
  Moves.of_turn (Turn.of_grown (T := fun k => (some g : Option Nat) = some k) hg (fun _ h => h)) (fun k _ hk => .inr (by
    obtain rfl : g = k := by simpa using hk
    obtain ⟨cur, h9⟩ := h.ty
    exact ⟨cur, _, _, h9, by simp⟩))
theorem MkAt.mv {w w' : World} {B : Bs} {d : Nat} {M : Mk} {N Z L Q : Nat} {ts : List TypeId} (h : MkAt w B d M N Z L Q) (hM : Moves [] ts w w') (ht : ∀ t ∈ ts, t ≠ 9 ∧ t ≠ 3 ∧ t ≠ 22 ∧ t ≠ 5) (h1 : 63 ∉ ts) (h2 : 65 ∉ ts) : MkAt w' ⟨B.n, fun j => w'.heap[j]?⟩ d M N Z L Q :=
  ⟨hM.cells h.box h1 (by simp), h.low, h.syn.moves hM ht, h.sms, h.now.moves hM ht, h.smn, own_mv h.q hM h2, fun e he => (h.qc e he).moves hM ht, h.qo, h.qn, own_mv h.wr hM h2, h.wn, h.ap, fun _ _ => rfl⟩
theorem tySrc : ∀ t ∈ [51], t ≠ 9 ∧ t ≠ 3 ∧ t ≠ 22 ∧ t ≠ 5 := by decide
theorem tyOp : ∀ t ∈ [33], t ≠ 9 ∧ t ≠ 3 ∧ t ≠ 22 ∧ t ≠ 5 := by decide
theorem MkAt.src {w w' : World} {B : Bs} {d s : Nat} {M : Mk} {N Z L Q : Nat} {zs : List Nat} (h : MkAt w B d M N Z L Q) (hs : Src w s zs) (hg : w.grownBy w' (some s)) : MkAt w' ⟨B.n, fun j => w'.heap[j]?⟩ d M N Z L Q := h.mv (hs.mv hg) tySrc (by decide) (by decide)
theorem Src.noStr {w : World} {g k : Nat} {zs : List Nat} {x : ByteArray} (h : Src w g zs) : w.cell? ⟨g, k, none⟩ ≠ some (.string x) := by
  obtain ⟨oa, len, cap, i, x', hb, -⟩ := h; intro hc; rw [zCr hb] at hc
  rcases (by omega : k = 0 ∨ k = 1 ∨ k = 2 ∨ 3 ≤ k) with rfl | rfl | rfl | h9
  · simp at hc
  · simp at hc
  · simp at hc
  · rw [Array.getElem?_eq_none (by simpa using h9)] at hc
    cases hc
theorem FsM.src {w w' : World} {v : Value} {n s : Nat} {zs : List Nat} (h : FsM w v n) (hs : Src w s zs) (hg : w.grownBy w' (some s)) : FsM w' v n := by
  obtain ⟨oa, c, h1, h2⟩ := h; refine ⟨oa, c, h1, fun i hi => ?_⟩; obtain ⟨b, off, x, da, dn, dc, k1, k2, k3, k4⟩ := h2 i hi
  have hne : b ≠ s := fun hc => hs.noStr (hc ▸ k2)
  have hb : w'.heap[b]? = w.heap[b]? := hg.block b (cell_block_lt k2) (by simpa using hne); exact ⟨b, off, x, da, dn, dc, k1, (World.cell?_of_block (w := w) (w' := w') (a := ⟨b, _, none⟩) hb).trans k2, (World.cell?_of_block (w := w) (w' := w') (a := ⟨b, _, none⟩) hb).trans k3, k4⟩
structure OpG (w : World) (kd a : Int) (nm tn : ByteArray) (da : Option Addr) (dn dc : Nat) (D : List Nat) : Prop where
  sn : nm.size ≤ 1000
  st : tn.size ≤ 1000
  ts : tn ≠ safeB
  bv : BV w (.slice da dn dc) D
  d2 : kd = 2 → dn ≤ 100
  dz : dn ≤ 100000
  ia : -9223372036854775808 ≤ a ∧ a ≤ 9223372036854775807
theorem OpG.grown0 {w w' : World} {kd a : Int} {nm tn : ByteArray} {da : Option Addr} {dn dc : Nat} {D : List Nat} (h : OpG w kd a nm tn da dn dc D) (hg : w.grownBy w' none) : OpG w' kd a nm tn da dn dc D := ⟨h.sn, h.st, h.ts, h.bv.grown0 hg, h.d2, h.dz, h.ia⟩
theorem OpG.mv {w w' : World} {kd a : Int} {nm tn : ByteArray} {da : Option Addr} {dn dc : Nat} {D : List Nat} {ts : List TypeId} (h : OpG w kd a nm tn da dn dc D) (hM : Moves [] ts w w') (ht : 5 ∉ ts) : OpG w' kd a nm tn da dn dc D := ⟨h.sn, h.st, h.ts, h.bv.moves hM ht, h.d2, h.dz, h.ia⟩
structure DS (w X : World) (s b d Bn : Nat) (zs : List Nat) (M : Mk) (N Z L Q : Nat) (kd a : Int) (nm tn : ByteArray) (da : Option Addr) (dn dc : Nat) (D : List Nat) : Prop where
  sl : s < w.heap.size
  res : X.heap[w.heap.size]? = some (.cells #[.int .i64 0, .int .i64 0, .string ⟨#[]⟩, .string ⟨#[]⟩, .slice none 0 0] 33 (0, 0))
  op : X.heap[b]? = some (.cells #[.int .i64 kd, .int .i64 a, .string nm, .string tn, .slice da dn dc] 33 (0, 0))
  bl : w.heap.size < b
  src : Src X s zs
  dk : MkAt X ⟨Bn, fun j => X.heap[j]?⟩ d M N Z L Q
  g : OpG X kd a nm tn da dn dc D
  gr : w.grownBy X (some s)
section
variable {w X Y : World} {s b d Bn : Nat} {zs : List Nat} {M : Mk} {N Z L Q : Nat} {kd a : Int} {nm tn : ByteArray} {da : Option Addr} {dn dc : Nat} {D : List Nat}
theorem DS.draw (h : DS w X s b d Bn zs M N Z L Q kd a nm tn da dn dc D) (hs : Src Y s zs) (hg : X.grownBy Y (some s)) : DS w Y s b d Bn zs M N Z L Q kd a nm tn da dn dc D := by
  have h1 := h.sl; have h2 := h.bl; exact ⟨h.sl, src_row h.res hg (by omega), src_row h.op hg (by omega), h.bl, hs, h.dk.src h.src hg, h.g.mv (h.src.mv hg) (by decide), grownBy_trans h.gr hg⟩
theorem DS.grown0 (h : DS w X s b d Bn zs M N Z L Q kd a nm tn da dn dc D) (hg : X.grownBy Y none) : DS w Y s b d Bn zs M N Z L Q kd a nm tn da dn dc D := h.draw (h.src.grown0 hg) (grownBy_weak hg)
theorem DS.set {kd' a' : Int} {nm' tn' : ByteArray} {da' : Option Addr} {dn' dc' : Nat} {D' : List Nat} (h : DS w X s b d Bn zs M N Z L Q kd a nm tn da dn dc D) (i : Nat) (u : Value) (hg : OpG X kd' a' nm' tn' da' dn' dc' D') (hop : (X.setCell ⟨b, i, none⟩ u).heap[b]? = some (.cells #[.int .i64 kd', .int .i64 a', .string nm', .string tn', .slice da' dn' dc'] 33 (0, 0))) : DS w (X.setCell ⟨b, i, none⟩ u) s b d Bn zs M N Z L Q kd' a' nm' tn' da' dn' dc' D' := by
  have h1 := h.sl; have h2 := h.bl; have hM : Moves [] [33] X (X.setCell ⟨b, i, none⟩ u) := set_type h.op; have hG : X.grownBy (X.setCell ⟨b, i, none⟩ u) (some b) := grownBy_setCell (grownBy_refl _ _); exact ⟨h.sl, (heap_setCell_other X ⟨b, i, none⟩ _ _ (by show w.heap.size ≠ b; omega)).trans h.res, hop, h.bl, h.src.grown hG (fun r hr => by obtain rfl : b = r := (by simpa using hr); omega), h.dk.mv hM tyOp (by decide) (by decide), hg.mv hM (by decide), ⟨h.gr.os, h.gr.tape, h.gr.output, Nat.le_trans h.gr.size hG.size, fun k hk hne => (heap_setCell_other X ⟨b, i, none⟩ k u (by show k ≠ b; omega)).trans (h.gr.block k hk hne)⟩⟩
theorem DS.cells (h : DS w X s b d Bn zs M N Z L Q kd a nm tn da dn dc D) : X.cell? ⟨b, 0, none⟩ = some (.int .i64 kd) ∧ X.cell? ⟨b, 1, none⟩ = some (.int .i64 a) ∧ X.cell? ⟨b, 2, none⟩ = some (.string nm) ∧ X.cell? ⟨b, 3, none⟩ = some (.string tn) ∧ X.cell? ⟨b, 4, none⟩ = some (.slice da dn dc) ∧ ∀ i, X.frozen? ⟨b, i, none⟩ = false :=
  ⟨(zCr h.op).trans rfl, (zCr h.op).trans rfl, (zCr h.op).trans rfl, (zCr h.op).trans rfl, (zCr h.op).trans rfl, fun i => by simp [World.frozen?, h.op]⟩
def DrawnOp (w Y : World) (s : Nat) (zs : List Nat) (kd a : Int) (nm tn : ByteArray) (da : Option Addr) (dn dc : Nat) (D : List Nat) : Prop := Y.heap[w.heap.size]? = some (.cells [.int .i64 kd, .int .i64 a, .string nm, .string tn, .slice da dn dc].toArray 33 (0, 0)) ∧ OpG Y kd a nm tn da dn dc D ∧ Src Y s zs ∧ w.grownBy Y (some s)
theorem setCells5_type {w : World} {g o : Nat} {cur : Array Value} {t : TypeId} {u0 u1 u2 u3 u4 : Value} (h : w.heap[g]? = some (.cells cur t (0, 0))) : Moves [] [t] w (w.setCells g o [u0, u1, u2, u3, u4]) := by
  have h1 := heap_setCell_same w g o cur t u0 h; have h2 := heap_setCell_same _ g (o + 1) _ t u1 h1; have h3 := heap_setCell_same _ g (o + 1 + 1) _ t u2 h2; have h4 := heap_setCell_same _ g (o + 1 + 1 + 1) _ t u3 h3; exact ((((set_type (i := o) (u := u0) h).trans (set_type (i := o + 1) (u := u1) h1)).trans (set_type (i := o + 1 + 1) (u := u2) h2)).trans (set_type (i := o + 1 + 1 + 1) (u := u3) h3)).trans (set_type (i := o + 1 + 1 + 1 + 1) (u := u4) h4)
theorem DS.fin {kd' a' : Int} {nm' tn' : ByteArray} {da' : Option Addr} {dn' dc' : Nat} {D' : List Nat} (h : DS w X s b d Bn zs M N Z L Q kd a nm tn da dn dc D) (hg : OpG X kd' a' nm' tn' da' dn' dc' D') : X.there w.heap.size 0 5 ∧ DrawnOp w (X.setCells w.heap.size 0 [.int .i64 kd', .int .i64 a', .string nm', .string tn', .slice da' dn' dc']) s zs kd' a' nm' tn' da' dn' dc' D' := by
  have h1 := h.sl; have hM : Moves [] [33] X (X.setCells w.heap.size 0 [.int .i64 kd', .int .i64 a', .string nm', .string tn', .slice da' dn' dc']) := setCells5_type h.res; have hres : X.heap[w.heap.size]? = some (.cells [.int .i64 0, .int .i64 0, .string ⟨#[]⟩, .string ⟨#[]⟩, .slice none 0 0].toArray 33 (0, 0)) := h.res; have hG : X.grownBy (X.setCells w.heap.size 0 [.int .i64 kd', .int .i64 a', .string nm', .string tn', .slice da' dn' dc']) (some w.heap.size) := ⟨hM.os, hM.tape, hM.output, hM.size, fun k _ hne => setCells_oth w.heap.size k (by simpa using hne) _ _ _⟩; refine ⟨there_blk hres rfl, setCells_all hres rfl, hg.mv hM (by decide), h.src.grown hG (fun r hr => by have : w.heap.size = r := (by simpa using hr); omega), ?_⟩; exact ⟨hG.os.trans h.gr.os, hG.tape.trans h.gr.tape, hG.output.trans h.gr.output, Nat.le_trans h.gr.size hG.size, fun k hk hne => (hG.block k (Nat.lt_of_lt_of_le hk h.gr.size) (by simp; omega)).trans (h.gr.block k hk hne)⟩
end
theorem Tryz.sizeOp : (Tryz.prog.info? 33).map (·.size) = some 5 := by kernel_rfl
theorem results_op {fn : Func} {t : Tmp} {w : World} {g : Nat} {vs : List Value} {tmps : Array Value} (h : fn.results = #[.cell t 33]) (ht : tmps.getD t undef = .pointer (some ⟨g, 0, none⟩)) (hg : w.heap[g]? = some (.cells vs.toArray 33 (0, 0))) (hl : vs.length = 5) : (results fn tmps).run Tryz.prog w = .ok (.agg vs.toArray) w := by
  have h1 := run_loadVar_mid (P := Tryz.prog) w g 0 33 vs _ (range_blk hg) Tryz.underlying33 rfl (by rw [hl]; exact Tryz.sizeOp); exact results_ret h ht h1
theorem bv_own {w : World} {B g n cap : Nat} {xs : List Nat} (h : w.ownsRow B 5 1 (.slice (some ⟨g, 0, none⟩) n cap) n (xs.map bv)) (h0 : ∀ z ∈ xs, z < 256) : BV w (.slice (some ⟨g, 0, none⟩) n cap) xs := by
  have hl : xs.length = n := by simpa using h.1
  refine ⟨h0, some ⟨g, 0, none⟩, cap, by rw [hl], CellsT.of_own h, by rw [hl]; exact own_le h⟩
theorem FsM.is {w : World} {v : Value} {n : Nat} (h : FsM w v n) : ∃ oa c, v = .slice oa n c ∧ True := by
  obtain ⟨oa, c, h1, -⟩ := h; exact ⟨oa, c, h1, trivial⟩
set_option maxRecDepth 20000 in
set_option maxHeartbeats 8000000 in
theorem drawOp_any (s d : Nat) (zs : List Nat) (B : Bs) (M : Mk) (N Z L Q : Nat) (w : World) (hs : Src w s zs) (hm : MkAt w B d M N Z L Q) (hbd : N ≤ 900000 ∧ L ≤ 900000 ∧ Q ≤ 90000) :
    Calls Tryz.prog 12 #[.pointer (some ⟨s, 0, none⟩), .pointer (some ⟨d, 0, none⟩)] w fun e w' => (∃ kd a nm tn da dn dc D, e = .returned (.agg #[.int .i64 kd, .int .i64 a, .string nm, .string tn, .slice da dn dc]) ∧ OpG w' kd a nm tn da dn dc D) ∧ Src w' s zs ∧ w.grownBy w' (some s) := by
  obtain ⟨hN, hL, hQ⟩ := hbd; have hsl := hs.lt; have hga : w.grownBy (w.alloc (.cells #[.int .i64 0, .int .i64 0, .string ⟨#[]⟩, .string ⟨#[]⟩, .slice none 0 0] 33)) (some s) := World.grownBy_alloc _ _ _; have HW1 : Hid ((w.alloc (.cells #[.int .i64 0, .int .i64 0, .string ⟨#[]⟩, .string ⟨#[]⟩, .slice none 0 0] 33)).heap[w.heap.size]? = some (.cells #[.int .i64 0, .int .i64 0, .string ⟨#[]⟩, .string ⟨#[]⟩, .slice none 0 0] 33 (0, 0)) ∧ Src (w.alloc (.cells #[.int .i64 0, .int .i64 0, .string ⟨#[]⟩, .string ⟨#[]⟩, .slice none 0 0] 33)) s zs ∧ MkAt (w.alloc (.cells #[.int .i64 0, .int .i64 0, .string ⟨#[]⟩, .string ⟨#[]⟩, .slice none 0 0] 33)) ⟨B.n, fun j => (w.alloc (.cells #[.int .i64 0, .int .i64 0, .string ⟨#[]⟩, .string ⟨#[]⟩, .slice none 0 0] 33)).heap[j]?⟩ d M N Z L Q ∧ w.grownBy (w.alloc (.cells #[.int .i64 0, .int .i64 0, .string ⟨#[]⟩, .string ⟨#[]⟩, .slice none 0 0] 33)) (some s)) := ⟨heap_alloc_new w _, hs.grown0 (World.grownBy_alloc _ _ _), hm.src hs hga, hga⟩; clear hs hm hga
  go_enter Tryz.func12, Tryz.ntmps12
  go_wp2_with fail; refine (drawN_any s 8 zs _ HW1.out.2.1 (by decide) (by decide)).mono ?_; rintro e w1 ⟨r, rfl, -, hr, hs1, hg1⟩; have hr8 := hr (by decide); have HW2 : Hid (w1.heap[w.heap.size]? = some (.cells #[.int .i64 0, .int .i64 0, .string ⟨#[]⟩, .string ⟨#[]⟩, .slice none 0 0] 33 (0, 0)) ∧ Src w1 s zs ∧ MkAt w1 ⟨B.n, fun j => w1.heap[j]?⟩ d M N Z L Q ∧ w.grownBy w1 (some s)) := ⟨src_row HW1.out.1 hg1 (by omega), hs1, HW1.out.2.2.1.src HW1.out.2.1 hg1, grownBy_trans HW1.out.2.2.2 hg1⟩; have v1 : IntKind.i64.wrap (1 + (r : Int)) = 1 + (r : Int) := IntWalk.i64_in _ (by omega); clear hr hs1 hg1 HW1; go_wp2_with fail; refine (name_any s zs w1 HW2.out.2.1).mono ?_; rintro e w2 ⟨⟨nm, rfl, -, hnm⟩, hs1, hg1⟩; have HW3 : Hid (w2.heap[w.heap.size]? = some (.cells #[.int .i64 0, .int .i64 0, .string ⟨#[]⟩, .string ⟨#[]⟩, .slice none 0 0] 33 (0, 0)) ∧ Src w2 s zs ∧ MkAt w2 ⟨B.n, fun j => w2.heap[j]?⟩ d M N Z L Q ∧ w.grownBy w2 (some s)) := ⟨src_row HW2.out.1 hg1 (by omega), hs1, HW2.out.2.2.1.src HW2.out.2.1 hg1, grownBy_trans HW2.out.2.2.2 hg1⟩; clear hs1 hg1 HW2; go_wp2_with fail; refine (name_any s zs w2 HW3.out.2.1).mono ?_; rintro e w3 ⟨⟨tn, rfl, htn, htz⟩, hs1, hg1⟩; have HW4 : Hid (w3.heap[w.heap.size]? = some (.cells #[.int .i64 0, .int .i64 0, .string ⟨#[]⟩, .string ⟨#[]⟩, .slice none 0 0] 33 (0, 0)) ∧ Src w3 s zs ∧ MkAt w3 ⟨B.n, fun j => w3.heap[j]?⟩ d M N Z L Q ∧ w.grownBy w3 (some s)) := ⟨src_row HW3.out.1 hg1 (by omega), hs1, HW3.out.2.2.1.src HW3.out.2.1 hg1, grownBy_trans HW3.out.2.2.2 hg1⟩
  have HD0 : Hid (DS w (w3.alloc (.cells #[.int .i64 (1 + (r : Int)), .int .i64 0, .string nm, .string tn, .slice none 0 0] 33)) s w3.heap.size d B.n zs M N Z L Q (1 + (r : Int)) 0 nm tn none 0 0 []) := by
    have hgn := World.grownBy_alloc w3 (.cells #[.int .i64 (1 + (r : Int)), .int .i64 0, .string nm, .string tn, .slice none 0 0] 33) none; exact ⟨hsl, grown_blk hgn HW4.out.1, heap_alloc_new w3 _, (Array.getElem?_eq_some_iff.1 HW4.out.1).1, HW4.out.2.1.grown0 hgn, HW4.out.2.2.1.src HW4.out.2.1 (grownBy_weak hgn), ⟨by omega, by omega, htn, bv_nil _, fun _ => by omega, by omega, by omega⟩, grownBy_alloc HW4.out.2.2.2 _⟩
  clear hs1 hg1 HW3 HW4 hnm htn htz; go_wp2_with fail; generalize w3.alloc (.cells #[.int .i64 (1 + (r : Int)), .int .i64 0, .string nm, .string tn, .slice none 0 0] 33) = X0 at HD0 ⊢; generalize w3.heap.size = b at HD0 ⊢; refine (Live_any d _ N Z L Q M X0 HD0.out.dk hN hL).mono ?_; rintro e w5 ⟨⟨v5, n, rfl, hnN, hfs⟩, hg5⟩; have HD5 : Hid (DS w w5 s b d B.n zs M N Z L Q (1 + (r : Int)) 0 nm tn none 0 0 []) := HD0.out.grown0 hg5; obtain ⟨fa, fc, rfl, -⟩ := hfs.is; have HFS : Hid (FsM w5 (.slice fa n fc) n) := hfs; clear hfs hg5 HD0 X0
  go_upto_region 3 with fail
  go_cut [25] from 18 to 25 (fun v wx => (∃ bb : Bool, v = .bool bb ∧ (bb = false ∨ 0 < n)) ∧ Src wx s zs ∧ w5.grownBy wx (some s))
  case first =>
    by_cases hn0 : n = 0
    · subst hn0; go_wp2; go_meet
      case rel => exact ⟨⟨false, rfl, .inl rfl⟩, HD5.out.src, grownBy_refl _ _⟩
    · have hnI : (0 : Int) < (n : Int) := by omega
      go_wp2_with fail; refine (drawN_any s 5 zs w5 HD5.out.src (by decide) (by decide)).mono ?_; rintro e w6 ⟨r5, rfl, -, -, hs9, hg9⟩; have HR : Hid (Src w6 s zs ∧ w5.grownBy w6 (some s)) := ⟨hs9, hg9⟩; clear hs9 hg9; go_wp2; go_meet
      case rel => exact ⟨⟨_, rfl, .inr (by omega)⟩, HR.out⟩
  case rest =>
    obtain ⟨⟨bb, rfl, hbb⟩, hs9, hg9⟩ := hcut; obtain ⟨X6, hX6⟩ : ∃ y, y = wc := ⟨_, rfl⟩; subst hX6; have HD6 : Hid (DS w X6 s b d B.n zs M N Z L Q (1 + (r : Int)) 0 nm tn none 0 0 [] ∧ FsM X6 (.slice fa n fc) n) := ⟨HD5.out.draw hs9 hg9, HFS.out.src HD5.out.src hg9⟩; clear hs9 hg9 HD5 HFS
    go_upto_if 25 with fail
    go_cut [] from 26 to 51 (fun wx => ∃ (a : Int) (nm : ByteArray), DS w wx s b d B.n zs M N Z L Q (1 + (r : Int)) a nm tn none 0 0 [])
    case first =>
      cases bb
      · go_wp2; go_meet
        case rel => exact ⟨0, nm, HD6.out.1⟩
      · have hn1 : 0 < n := by rcases hbb with h | h; cases h; exact h
        go_wp2_with fail; refine (drawN_any s (n : Int) zs X6 HD6.out.1.src (by omega) (by omega)).mono ?_; rintro e X7 ⟨i, rfl, hi0, hi1, hs9, hg9⟩
        have hin : i < n := by by_cases h1 : n = 1; (have := hi0 (by omega); omega); (have := hi1 (by omega); omega)
        have hinI : (i : Int) < (n : Int) := by omega
        obtain ⟨fa', fc', hfe, hfs⟩ := HD6.out.2.src HD6.out.1.src hg9; simp only [Value.slice.injEq] at hfe; obtain ⟨rfl, -, rfl⟩ := hfe; obtain ⟨fb, off, fn, ua, un, uc, rfl, q0, q1, hfz⟩ := hfs i hin; have HD7 : Hid (DS w X7 s b d B.n zs M N Z L Q (1 + (r : Int)) 0 nm tn none 0 0 []) := HD6.out.1.draw hs9 hg9; have HD8 : Hid (DS w (X7.alloc (.cells #[.string fn, .slice ua un uc] 55)) s b d B.n zs M N Z L Q (1 + (r : Int)) 0 nm tn none 0 0 [] ∧ (X7.alloc (.cells #[.string fn, .slice ua un uc] 55)).heap[X7.heap.size]? = some (.cells #[.string fn, .slice ua un uc] 55 (0, 0)) ∧ s < X7.heap.size) := ⟨HD7.out.grown0 (World.grownBy_alloc _ _ none), heap_alloc_new X7 _, HD7.out.src.lt⟩; clear hs9 hg9 hi0 hi1 hfs HD6 HD7
        go_upto_region 5 with fail
        generalize X7.alloc (.cells #[.string fn, .slice ua un uc] 55) = X8 at HD8 ⊢; obtain ⟨f, hf⟩ : ∃ y, X7.heap.size = y := ⟨_, rfl⟩; rw [hf] at HD8 ⊢; clear hf q0 q1
        have hfb : f ≠ b := fun hc => by
          have h1 := HD8.out.2.1; have h2 := HD8.out.1.op; rw [hc, h2] at h1
          simp at h1
        obtain ⟨c0, -, c2, -, -, cf⟩ := HD8.out.1.cells; have cf2 := cf 2; have g0 : X8.cell? ⟨f, 0, none⟩ = some (.string fn) := (zCr HD8.out.2.1).trans rfl; have HF8 : Hid (X8.heap[f]? = some (.cells #[.string fn, .slice ua un uc] 55 (0, 0)) ∧ s < f) := ⟨HD8.out.2.1, HD8.out.2.2⟩; have HE8 : Hid (DS w X8 s b d B.n zs M N Z L Q (1 + (r : Int)) 0 nm tn none 0 0 []) := HD8.out.1; clear HD8 cf
        go_upto_if 35 with fail
        go_cut [] from 33 to 38 (fun wx => ∃ nm : ByteArray, DS w wx s b d B.n zs M N Z L Q (1 + (r : Int)) 0 nm tn none 0 0 [] ∧ wx.heap[f]? = some (.cells #[.string fn, .slice ua un uc] 55 (0, 0)))
        case first =>
          have HN2 : Hid (DS w (X8.setCell ⟨b, 2, none⟩ (.string fn)) s b d B.n zs M N Z L Q (1 + (r : Int)) 0 fn tn none 0 0 [] ∧ (X8.setCell ⟨b, 2, none⟩ (.string fn)).heap[f]? = some (.cells #[.string fn, .slice ua un uc] 55 (0, 0))) := ⟨HE8.out.set 2 _ ⟨hfz.1, HE8.out.g.st, HE8.out.g.ts, HE8.out.g.bv, fun _ => by omega, by omega, HE8.out.g.ia⟩ ((heap_setCell_same X8 b 2 _ _ _ HE8.out.op).trans rfl), (heap_setCell_other X8 ⟨b, 2, none⟩ _ _ hfb).trans HF8.out.1⟩; go_wp2
          all_goals (go_meet; case rel => first | exact ⟨fn, HN2.out⟩ | exact ⟨nm, HE8.out, HF8.out.1⟩)
        case rest =>
          obtain ⟨nm9, hD9, hf9⟩ := hcut; obtain ⟨X9, hX9⟩ : ∃ y, y = wc := ⟨_, rfl⟩; subst hX9; clear c0 c2 cf2 g0 HE8; have HE9 : Hid (DS w X9 s b d B.n zs M N Z L Q (1 + (r : Int)) 0 nm9 tn none 0 0 [] ∧ X9.heap[f]? = some (.cells #[.string fn, .slice ua un uc] 55 (0, 0)) ∧ s < f) := ⟨hD9, hf9, HF8.out.2⟩; have g1 : X9.cell? ⟨f, 1, none⟩ = some (.slice ua un uc) := (zCr hf9).trans rfl; have v2 : IntKind.i64.wrap ((un : Int) + 1) = (un : Int) + 1 := IntWalk.i64_in _ (by omega); clear hD9 hf9 HF8; go_wp2_with fail; refine (drawN_any s ((un : Int) + 1) zs X9 HE9.out.1.src (by omega) (by omega)).mono ?_; rintro e Y0 ⟨a1, rfl, hi0, hi1, hs9, hg9⟩
          have ha1 : (a1 : Int) ≤ un := by by_cases h1 : un = 0; (have := hi0 (by omega); omega); (have := hi1 (by omega); omega)
          have hE0 : DS w Y0 s b d B.n zs M N Z L Q (1 + (r : Int)) 0 nm9 tn none 0 0 [] := HE9.out.1.draw hs9 hg9; have HE1 : Hid (DS w (Y0.setCell ⟨b, 1, none⟩ (.int .i64 (a1 : Int))) s b d B.n zs M N Z L Q (1 + (r : Int)) (a1 : Int) nm9 tn none 0 0 [] ∧ (Y0.setCell ⟨b, 1, none⟩ (.int .i64 (a1 : Int))).heap[f]? = some (.cells #[.string fn, .slice ua un uc] 55 (0, 0))) := ⟨hE0.set 1 _ ⟨hE0.g.sn, hE0.g.st, hE0.g.ts, hE0.g.bv, fun _ => by omega, by omega, by omega⟩ ((heap_setCell_same Y0 b 1 _ _ _ hE0.op).trans rfl), (heap_setCell_other Y0 ⟨b, 1, none⟩ _ _ hfb).trans (src_row HE9.out.2.1 hg9 (by have := HE9.out.2.2; omega))⟩; have y1 := hE0.cells.2.1; have y2 := hE0.cells.2.2.2.2.2 1; clear hs9 hg9 hi0 hi1 hE0 g1
          go_upto_region 8 with fail
          generalize Y0.setCell ⟨b, 1, none⟩ (.int .i64 (a1 : Int)) = Y1 at HE1 ⊢; clear y1 y2; go_wp2_with fail; refine (one_any s 2 zs Y1 HE1.out.1.src (by decide) (by decide)).mono ?_; rintro e Y2 ⟨⟨b2, rfl⟩, hs9, hg9⟩; have hE2 : DS w Y2 s b d B.n zs M N Z L Q (1 + (r : Int)) (a1 : Int) nm9 tn none 0 0 [] := HE1.out.1.draw hs9 hg9; have hf2 : Y2.heap[f]? = some (.cells #[.string fn, .slice ua un uc] 55 (0, 0)) := src_row HE1.out.2 hg9 (by have := HE9.out.2.2; omega); have g1 : Y2.cell? ⟨f, 1, none⟩ = some (.slice ua un uc) := (zCr hf2).trans rfl; have y1 := hE2.cells.2.1; have y2 := hE2.cells.2.2.2.2.2 1; have HE2 : Hid (DS w Y2 s b d B.n zs M N Z L Q (1 + (r : Int)) (a1 : Int) nm9 tn none 0 0 []) := hE2; have HE3 : Hid (DS w (Y2.setCell ⟨b, 1, none⟩ (.int .i64 (un : Int))) s b d B.n zs M N Z L Q (1 + (r : Int)) (un : Int) nm9 tn none 0 0 []) := hE2.set 1 _ ⟨hE2.g.sn, hE2.g.st, hE2.g.ts, hE2.g.bv, fun _ => by omega, by omega, by omega⟩ ((heap_setCell_same Y2 b 1 _ _ _ hE2.op).trans rfl); clear hs9 hg9 hE2 hf2 HE1 HE9
          cases b2
          · go_wp2; go_meet
            case rel => exact ⟨_, _, HE2.out⟩
          · go_wp2; go_meet
            case rel => exact ⟨_, _, HE3.out⟩
    case rest =>
      obtain ⟨a, nm9, hD⟩ := hcut; obtain ⟨X, hX⟩ : ∃ y, y = wc := ⟨_, rfl⟩; subst hX; have HD : Hid (DS w X s b d B.n zs M N Z L Q (1 + (r : Int)) a nm9 tn none 0 0 []) := hD; clear hD HD6 hbb; apply_assumption; refine wp_seq_k (fun K hK => ?_)
      go_cut [] from 52 to 86 (fun wx => ∃ kd : Int, DS w wx s b d B.n zs M N Z L Q kd a nm9 tn none 0 0 [])
      case first =>
        go_wp2_with fail; refine (drawN_any s 9 zs X HD.out.src (by decide) (by decide)).mono ?_; rintro e X1 ⟨r9, rfl, -, hr9, hs9, hg9⟩; have hr9' := hr9 (by decide); have hE1 := HD.out.draw hs9 hg9; have y0 := hE1.cells.1; have yf := hE1.cells.2.2.2.2.2 0; have HE : Hid (DS w X1 s b d B.n zs M N Z L Q (1 + (r : Int)) a nm9 tn none 0 0 []) := hE1
        have HS : Hid (∀ k : Int, DS w (X1.setCell ⟨b, 0, none⟩ (.int .i64 k)) s b d B.n zs M N Z L Q k a nm9 tn none 0 0 []) := fun k => hE1.set 0 _ ⟨hE1.g.sn, hE1.g.st, hE1.g.ts, hE1.g.bv, fun _ => by omega, by omega, hE1.g.ia⟩ ((heap_setCell_same X1 b 0 _ _ _ hE1.op).trans rfl)
        clear hs9 hg9 hr9 hE1 HD
        rcases (by omega : r9 = 0 ∨ r9 = 1 ∨ r9 = 2 ∨ r9 = 3 ∨ r9 = 4 ∨ 4 < r9) with rfl | rfl | rfl | rfl | rfl | hr4
        · go_wp2; go_meet
          case rel => exact ⟨_, HS.out 2⟩
        · go_wp2; go_meet
          case rel => exact ⟨_, HS.out 2⟩
        · go_wp2; go_meet
          case rel => exact ⟨_, HS.out 6⟩
        · go_wp2_with fail; refine (one_any s 3 zs X1 HE.out.src (by decide) (by decide)).mono ?_; rintro e X2 ⟨⟨b2, rfl⟩, hs9, hg9⟩; have HE2 : Hid (DS w X2 s b d B.n zs M N Z L Q (1 + (r : Int)) a nm9 tn none 0 0 []) := HE.out.draw hs9 hg9; clear hs9 hg9 HE HS y0 yf
          cases b2
          · go_wp2; go_meet
            case rel => exact ⟨_, HE2.out⟩
          · go_wp2_with fail; refine (Queue_any d _ N Z L Q M X2 HE2.out.dk).mono ?_; rintro e X3 ⟨rfl, hg9⟩; have HE3 : Hid (DS w X3 s b d B.n zs M N Z L Q (1 + (r : Int)) a nm9 tn none 0 0 []) := HE2.out.grown0 hg9; have hqn : M.qs.length ≤ Q := HE2.out.dk.qn; obtain ⟨qn, hqe⟩ : ∃ y, M.qs.length = y := ⟨_, rfl⟩; rw [hqe] at hqn ⊢; clear hg9 HE2 hqe; go_wp2_with fail; refine (drawN_any s 3 zs X3 HE3.out.src (by decide) (by decide)).mono ?_; rintro e X4 ⟨r3, rfl, -, hr3, hs9, hg9⟩; have hr3' := hr3 (by decide); have HE4 : Hid (DS w X4 s b d B.n zs M N Z L Q (1 + (r : Int)) a nm9 tn none 0 0 []) := HE3.out.draw hs9 hg9; have v2 : IntKind.i64.wrap ((qn : Int) + (r3 : Int)) = (qn : Int) + (r3 : Int) := IntWalk.i64_in _ (by omega); have v3 : IntKind.i64.wrap ((qn : Int) + (r3 : Int) - 1) = (qn : Int) + (r3 : Int) - 1 := IntWalk.i64_in _ (by omega); clear hs9 hg9 hr3 HE3; go_wp2_with fail; refine (choice_any s ((qn : Int) + (r3 : Int) - 1) zs X4 HE4.out.src (by omega) (by omega)).mono ?_; rintro e X5 ⟨⟨g, m, cap, xs, rfl, hmn, hxs, hown⟩, hs9, hg9⟩; have hE5 : DS w X5 s b d B.n zs M N Z L Q (1 + (r : Int)) a nm9 tn none 0 0 [] := HE4.out.draw hs9 hg9; have HF : Hid (_ ∧ _) := hE5.fin (kd' := 11) (a' := 0) (nm' := ⟨#[]⟩) (tn' := ⟨#[]⟩) (da' := some ⟨g, 0, none⟩) (dn' := m) (dc' := cap) (D' := xs) ⟨by decide, by decide, by unfold safeB; decide, bv_own hown hxs, fun h => absurd h (by decide), by omega, by omega⟩; have hT := HF.out.1; clear hE5 hs9 hg9 hown hxs hmn HE4
            go_wp2_with (refine wpList_store_mid (by rfl) 33 (.tmp 4) (.tmp 73) (by rfl) w.heap.size 0 #[.int .i64 11, .int .i64 0, .string ⟨#[]⟩, .string ⟨#[]⟩, .slice (some ⟨g, 0, none⟩) m cap] (by rfl) (by rfl) ?sa73 ?sb73 ?sc73 ?sd73; exact hT; show _ = some 5; exact Tryz.sizeOp; exact all_oneCell_toArray (List.all_eq_true.1 rfl); simp only [Act.put])
            refine bodyPost_ret (results_op (g := w.heap.size) rfl rfl HF.out.2.1 rfl) rfl ?_; exact ⟨⟨_, _, _, _, _, _, _, _, rfl, HF.out.2.2.1⟩, HF.out.2.2.2.1, HF.out.2.2.2.2⟩
        · go_wp2_with fail; refine (one_any s 6 zs X1 HE.out.src (by decide) (by decide)).mono ?_; rintro e X2 ⟨⟨b2, rfl⟩, hs9, hg9⟩; have HE2 : Hid (DS w X2 s b d B.n zs M N Z L Q (1 + (r : Int)) a nm9 tn none 0 0 []) := HE.out.draw hs9 hg9; clear hs9 hg9 HE HS y0 yf
          cases b2
          · go_wp2_with fail; refine (one_any s 6 zs X2 HE2.out.src (by decide) (by decide)).mono ?_; rintro e X3 ⟨⟨b3, rfl⟩, hs9, hg9⟩; have HE3 : Hid (DS w X3 s b d B.n zs M N Z L Q (1 + (r : Int)) a nm9 tn none 0 0 []) := HE2.out.draw hs9 hg9; clear hs9 hg9 HE2
            cases b3
            · go_wp2; go_meet
              case rel => exact ⟨_, HE3.out⟩
            · go_wp2_with fail; refine (drawN_any s 400 zs X3 HE3.out.src (by decide) (by decide)).mono ?_; rintro e X4 ⟨r3, rfl, -, hr3, hs9, hg9⟩; have hr3' := hr3 (by decide); have hE4 : DS w X4 s b d B.n zs M N Z L Q (1 + (r : Int)) a nm9 tn none 0 0 [] := HE3.out.draw hs9 hg9; have HF : Hid (_ ∧ _) := hE4.fin (kd' := 9) (a' := (r3 : Int)) (nm' := ⟨#[]⟩) (tn' := ⟨#[]⟩) (da' := none) (dn' := 0) (dc' := 0) (D' := []) ⟨by decide, by decide, by unfold safeB; decide, bv_nil _, fun h => absurd h (by decide), by omega, by omega⟩; have hT := HF.out.1; clear hE4 hs9 hg9 hr3 HE3
              go_wp2_with (refine wpList_store_mid (by rfl) 33 (.tmp 4) (.tmp 86) (by rfl) w.heap.size 0 #[.int .i64 9, .int .i64 (r3 : Int), .string ⟨#[]⟩, .string ⟨#[]⟩, .slice none 0 0] (by rfl) (by rfl) ?sa86 ?sb86 ?sc86 ?sd86; exact hT; show _ = some 5; exact Tryz.sizeOp; exact all_oneCell_toArray (List.all_eq_true.1 rfl); simp only [Act.put])
              refine bodyPost_ret (results_op (g := w.heap.size) rfl rfl HF.out.2.1 rfl) rfl ?_; exact ⟨⟨_, _, _, _, _, _, _, _, rfl, HF.out.2.2.1⟩, HF.out.2.2.2.1, HF.out.2.2.2.2⟩
          · go_wp2_with fail; refine (drawN_any s 6 zs X2 HE2.out.src (by decide) (by decide)).mono ?_; rintro e X3 ⟨r3, rfl, -, hr3, hs9, hg9⟩; have hr3' := hr3 (by decide); have hE4 : DS w X3 s b d B.n zs M N Z L Q (1 + (r : Int)) a nm9 tn none 0 0 [] := HE2.out.draw hs9 hg9; have v2 : IntKind.i64.wrap ((r3 : Int) - 1) = (r3 : Int) - 1 := IntWalk.i64_in _ (by omega); have HF : Hid (_ ∧ _) := hE4.fin (kd' := 10) (a' := (r3 : Int) - 1) (nm' := ⟨#[]⟩) (tn' := ⟨#[]⟩) (da' := none) (dn' := 0) (dc' := 0) (D' := []) ⟨by decide, by decide, by unfold safeB; decide, bv_nil _, fun h => absurd h (by decide), by omega, by omega⟩; have hT := HF.out.1; clear hE4 hs9 hg9 hr3 HE2
            go_wp2_with (refine wpList_store_mid (by rfl) 33 (.tmp 4) (.tmp 81) (by rfl) w.heap.size 0 #[.int .i64 10, .int .i64 ((r3 : Int) - 1), .string ⟨#[]⟩, .string ⟨#[]⟩, .slice none 0 0] (by rfl) (by rfl) ?sa81 ?sb81 ?sc81 ?sd81; exact hT; show _ = some 5; exact Tryz.sizeOp; exact all_oneCell_toArray (List.all_eq_true.1 rfl); simp only [Act.put])
            refine bodyPost_ret (results_op (g := w.heap.size) rfl rfl HF.out.2.1 rfl) rfl ?_; exact ⟨⟨_, _, _, _, _, _, _, _, rfl, HF.out.2.2.1⟩, HF.out.2.2.2.1, HF.out.2.2.2.2⟩
        · have e0 : ((r9 : Int) == 0) = false := by simp; omega
          have e1 : ((r9 : Int) == 1) = false := by simp; omega
          have e2 : ((r9 : Int) == 2) = false := by simp; omega
          have e3 : ((r9 : Int) == 3) = false := by simp; omega
          have e4 : ((r9 : Int) == 4) = false := by simp; omega
          go_wp2; go_meet
          case rel => exact ⟨_, HE.out⟩
      case rest =>
        obtain ⟨kd, hD⟩ := hcut; obtain ⟨X1, hX⟩ : ∃ y, y = wc := ⟨_, rfl⟩; subst hX; have y0 := hD.cells.1; have HD1 : Hid (DS w X1 s b d B.n zs M N Z L Q kd a nm9 tn none 0 0 []) := hD; clear hD HD
        go_upto_if 89 with fail
        go_cut [] from 87 to 94 (fun wx => ∃ (da : Option Addr) (dn dc : Nat) (D : List Nat), dn ≤ 100 ∧ DS w wx s b d B.n zs M N Z L Q kd a nm9 tn da dn dc D)
        case first =>
          by_cases hk2 : kd = 2
          · subst hk2; go_wp2_with fail; refine (drawN_any s 70 zs X1 HD1.out.src (by decide) (by decide)).mono ?_; rintro e X2 ⟨r7, rfl, -, hr7, hs9, hg9⟩; have hr7' := hr7 (by decide); have HD2 : Hid (DS w X2 s b d B.n zs M N Z L Q 2 a nm9 tn none 0 0 []) := HD1.out.draw hs9 hg9; clear hs9 hg9 hr7 y0 HD1; go_wp2_with fail; refine (drawBytes_any s r7 zs X2 HD2.out.src (by omega)).mono ?_; rintro e X3 ⟨g, cap, xs, rfl, hxs, hown, hs9, hg9⟩; have hD3 : DS w X3 s b d B.n zs M N Z L Q 2 a nm9 tn none 0 0 [] := HD2.out.draw hs9 hg9; have z4 := hD3.cells.2.2.2.2.1; have z5 := hD3.cells.2.2.2.2.2 4; have HD3 : Hid (DS w (X3.setCell ⟨b, 4, none⟩ (.slice (some ⟨g, 0, none⟩) r7 cap)) s b d B.n zs M N Z L Q 2 a nm9 tn (some ⟨g, 0, none⟩) r7 cap xs) := hD3.set 4 _ ⟨hD3.g.sn, hD3.g.st, hD3.g.ts, bv_own hown hxs, fun _ => by omega, by omega, hD3.g.ia⟩ ((heap_setCell_same X3 b 4 _ _ _ hD3.op).trans rfl); clear hs9 hg9 hown hxs hD3 HD2; go_wp2; go_meet
            case rel => exact ⟨_, _, _, _, by omega, HD3.out⟩
          · have e2 : (kd == 2) = false := by simpa using hk2
            go_wp2; go_meet
            case rel => exact ⟨none, 0, 0, [], by omega, HD1.out⟩
        case rest =>
          obtain ⟨da, dn, dc, D, hdn, hD⟩ := hcut; obtain ⟨X2, hX⟩ : ∃ y, y = wc := ⟨_, rfl⟩; subst hX; have HD2 : Hid (DS w X2 s b d B.n zs M N Z L Q kd a nm9 tn da dn dc D) := hD; clear hD HD1 y0; go_wp2_with fail; refine (one_any s 30 zs X2 HD2.out.src (by decide) (by decide)).mono ?_; rintro e X3 ⟨⟨b2, rfl⟩, hs9, hg9⟩; have HD3 : Hid (DS w X3 s b d B.n zs M N Z L Q kd a nm9 tn da dn dc D) := HD2.out.draw hs9 hg9; clear hs9 hg9 HD2
          go_upto_if 96 with fail
          go_cut [] from 95 to 99 (fun wx => ∃ a : Int, DS w wx s b d B.n zs M N Z L Q kd a nm9 tn da dn dc D)
          case first =>
            cases b2
            · go_wp2; go_meet
              case rel => exact ⟨_, HD3.out⟩
            · go_wp2_with fail; refine (wild_any s zs X3 HD3.out.src).mono ?_; rintro e X4 ⟨⟨z, rfl, hz1, hz2⟩, hs9, hg9⟩; have hD4 : DS w X4 s b d B.n zs M N Z L Q kd a nm9 tn da dn dc D := HD3.out.draw hs9 hg9; have z4 := hD4.cells.2.1; have z5 := hD4.cells.2.2.2.2.2 1; have HD4 : Hid (DS w (X4.setCell ⟨b, 1, none⟩ (.int .i64 z)) s b d B.n zs M N Z L Q kd z nm9 tn da dn dc D) := hD4.set 1 _ ⟨hD4.g.sn, hD4.g.st, hD4.g.ts, hD4.g.bv, hD4.g.d2, hD4.g.dz, ⟨hz1, hz2⟩⟩ ((heap_setCell_same X4 b 1 _ _ _ hD4.op).trans rfl); clear hs9 hg9 hD4 HD3 hz1 hz2; go_wp2; go_meet
              case rel => exact ⟨_, HD4.out⟩
          case rest =>
            obtain ⟨a9, hD⟩ := hcut; obtain ⟨X4, hX⟩ : ∃ y, y = wc := ⟨_, rfl⟩; subst hX; have HD4 : Hid (DS w X4 s b d B.n zs M N Z L Q kd a9 nm9 tn da dn dc D) := hD; clear hD HD3; go_wp2_with fail; refine (one_any s 60 zs X4 HD4.out.src (by decide) (by decide)).mono ?_; rintro e X5 ⟨⟨b3, rfl⟩, hs9, hg9⟩; have HD5 : Hid (DS w X5 s b d B.n zs M N Z L Q kd a9 nm9 tn da dn dc D) := HD4.out.draw hs9 hg9; clear hs9 hg9 HD4
            go_upto_if 101 with fail
            go_cut [] from 100 to 104 (fun wx => ∃ kd : Int, DS w wx s b d B.n zs M N Z L Q kd a9 nm9 tn da dn dc D)
            case first =>
              cases b3
              · go_wp2; go_meet
                case rel => exact ⟨_, HD5.out⟩
              · go_wp2_with fail; refine (wild_any s zs X5 HD5.out.src).mono ?_; rintro e X6 ⟨⟨z, rfl, hz1, hz2⟩, hs9, hg9⟩; have hD4 : DS w X6 s b d B.n zs M N Z L Q kd a9 nm9 tn da dn dc D := HD5.out.draw hs9 hg9; have z4 := hD4.cells.1; have z5 := hD4.cells.2.2.2.2.2 0; have HD6 : Hid (DS w (X6.setCell ⟨b, 0, none⟩ (.int .i64 z)) s b d B.n zs M N Z L Q z a9 nm9 tn da dn dc D) := hD4.set 0 _ ⟨hD4.g.sn, hD4.g.st, hD4.g.ts, hD4.g.bv, fun _ => hdn, hD4.g.dz, hD4.g.ia⟩ ((heap_setCell_same X6 b 0 _ _ _ hD4.op).trans rfl); clear hs9 hg9 hD4 HD5 hz1 hz2; go_wp2; go_meet
                case rel => exact ⟨_, HD6.out⟩
            case rest =>
              obtain ⟨kd9, hD⟩ := hcut; obtain ⟨X6, hX⟩ : ∃ y, y = wc := ⟨_, rfl⟩; subst hX; obtain ⟨z0, z1, z2, z3, z4, -⟩ := hD.cells; have HF : Hid (_ ∧ _) := hD.fin hD.g; have hT := HF.out.1; clear hD HD5
              go_wp2_with (refine wpList_store_mid (by rfl) 33 (.tmp 4) (.tmp 105) (by rfl) w.heap.size 0 #[.int .i64 kd9, .int .i64 a9, .string nm9, .string tn, .slice da dn dc] (by rfl) (by rfl) ?sa105 ?sb105 ?sc105 ?sd105; exact hT; show _ = some 5; exact Tryz.sizeOp; exact all_oneCell_toArray (List.all_eq_true.1 rfl); simp only [Act.put])
              refine bodyPost_ret (results_op (g := w.heap.size) rfl rfl HF.out.2.1 rfl) rfl ?_; exact ⟨⟨_, _, _, _, _, _, _, _, rfl, HF.out.2.2.1⟩, HF.out.2.2.2.1, HF.out.2.2.2.2⟩
def Qb (k : Nat) : Nat := 10 + 101 * k
def Nb : Nat → Nat
  | 0 => 10
  | k + 1 => Nb k + 2 * Qb k + 202
theorem Nb_sq (k : Nat) : Nb k ≤ 10 + 222 * k + 101 * (k * k) := by
  induction k with
  | zero => exact Nat.le_refl _
  | succ k ih =>
    have h1 : (k + 1) * (k + 1) = k * k + 2 * k + 1 := by rw [Nat.add_mul, Nat.mul_add]; omega
    show Nb k + 2 * (10 + 101 * k) + 202 ≤ _
    rw [h1]
    omega
theorem Nb_le {k : Nat} (h : k ≤ 70) : Nb k ≤ 600000 := by
  have h1 := Nb_sq k; have h2 : k * k ≤ 70 * 70 := Nat.mul_le_mul h h
  omega
theorem DoOutM.mono {w w' : World} {B : Bs} {d N Z L Q N' Z' Q' : Nat} (h : DoOutM w w' B d N Z L Q) (h1 : N ≤ N') (h2 : Z ≤ Z') (h3 : Q ≤ Q') : DoOutM w w' B d N' Z' L Q' := by
  obtain ⟨⟨M', hM⟩, hm⟩ := h; exact ⟨⟨M', hM.mono h1 h2 (Nat.le_refl _) h3⟩, hm⟩
theorem do_anyM (k d : Nat) (B : Bs) (M : Mk) (kd a : Int) (nm tn : ByteArray) (da : Option Addr) (dn dc : Nat) (D : List Nat) (w : World) (hk : k ≤ 69) (h : MkAt w B d M (Nb k) (4 + k) 65536 (Qb k)) (hg : OpG w kd a nm tn da dn dc D) :
    Calls Tryz.prog 9 #[.pointer (some ⟨d, 0, none⟩), .agg #[.int .i64 kd, .int .i64 a, .string nm, .string tn, .slice da dn dc]] w fun e w' => (∃ u0 u1, e = .returned (.agg #[u0, u1])) ∧ DoOutM w w' B d (Nb (k + 1)) (4 + (k + 1)) 65536 (Qb (k + 1)) := by
  have hN := Nb_le (k := k) (by omega); have hQ : Qb k = 10 + 101 * k := rfl; have hQ1 : Qb (k + 1) = 10 + 101 * (k + 1) := rfl; have hN1 : Nb (k + 1) = Nb k + 2 * Qb k + 202 := rfl; have h1 := hg.sn; have h2 := hg.st; have h3 := hg.dz; have h4 := hg.d2; have hD := hg.bv
  rcases (by omega : kd = 1 ∨ kd = 2 ∨ kd = 3 ∨ kd = 4 ∨ kd = 5 ∨ kd = 6 ∨ kd = 7 ∨ kd = 8 ∨ kd = 9 ∨ kd = 10 ∨ kd = 11 ∨ (kd < 1 ∨ 11 < kd)) with rfl | rfl | rfl | rfl | rfl | rfl | rfl | rfl | rfl | rfl | rfl | hx
  · exact (do1_anyM d B _ _ _ _ M a nm tn da dn dc D w h hD ⟨by omega, by omega, by omega, by omega, h1, h2, by omega⟩).mono fun e w' ⟨he, ho⟩ => ⟨he, ho.mono (by omega) (by omega) (by omega)⟩
  · have h5 := h4 rfl
    exact (do2_anyM d B _ _ _ _ M a nm tn da dn dc D w h hD ⟨by omega, by omega, by omega, by omega, h1, h2, by omega⟩ (Nat.le_refl _)).mono fun e w' ⟨he, ho⟩ => ⟨he, ho.mono (by omega) (by omega) (by omega)⟩
  · exact (do3_anyM d B _ _ _ _ M a nm tn da dn dc D w h hD ⟨by omega, by omega, by omega, by omega, h1, h2, by omega⟩).mono fun e w' ⟨he, ho⟩ => ⟨he, ho.mono (by omega) (by omega) (by omega)⟩
  · exact (do4_anyM d B _ _ _ _ M a nm tn da dn dc D w h hD ⟨by omega, by omega, by omega, by omega, h1, h2, by omega⟩).mono fun e w' ⟨he, ho⟩ => ⟨he, ho.mono (by omega) (by omega) (by omega)⟩
  · exact (do5_anyM d B _ _ _ _ M a nm tn da dn dc D w h hD ⟨by omega, by omega, by omega, by omega, h1, h2, by omega⟩).mono fun e w' ⟨he, ho⟩ => ⟨he, ho.mono (by omega) (by omega) (by omega)⟩
  · exact (do6_anyM d B _ _ _ _ M a nm tn da dn dc D w h hD ⟨by omega, by omega, by omega, by omega, h1, h2, by omega⟩).mono fun e w' ⟨he, ho⟩ => ⟨he, ho.mono (by omega) (by omega) (by omega)⟩
  · exact (do7_anyM d B _ _ _ _ M a nm tn da dn dc D w h hD ⟨by omega, by omega, by omega, by omega, h1, h2, by omega⟩).mono fun e w' ⟨he, ho⟩ => ⟨he, ho.mono (by omega) (by omega) (by omega)⟩
  · exact (do8_anyM d B _ _ _ _ M a nm tn da dn dc D w h hD ⟨by omega, by omega, by omega, by omega, h1, h2, by omega⟩).mono fun e w' ⟨he, ho⟩ => ⟨he, ho.mono (by omega) (by omega) (by omega)⟩
  · exact (do9_anyM d B _ _ _ _ M a nm tn da dn dc D w h hD ⟨by omega, by omega, by omega, by omega⟩).mono fun e w' ⟨he, ho⟩ => ⟨he, ho.mono (by omega) (by omega) (by omega)⟩
  · exact (do10_anyM d B _ _ _ _ M a nm tn da dn dc D w h hD ⟨by omega, by omega, by omega, by omega⟩).mono fun e w' ⟨he, ho⟩ => ⟨he, ho.mono (by omega) (by omega) (by omega)⟩
  · exact (do11_anyM d B _ _ _ _ M a nm tn da dn dc D w h hD ⟨by omega, by omega, by omega, by omega⟩).mono fun e w' ⟨he, ho⟩ => ⟨he, ho.mono (by omega) (by omega) (by omega)⟩
  · exact (doX_anyM d B _ _ _ _ M kd a nm tn da dn dc D w h hD hx).mono fun e w' ⟨he, ho⟩ => ⟨he, ho.mono (by omega) (by omega) (by omega)⟩
theorem CellsF.kept {w w' : World} {B : Nat} {cells : List Value} {F : List (List UInt8 × List Nat)} {row : Option Nat} (h : CellsF w B cells F) (hg : w.grownBy w' row) (hne : ∀ v d, BRow w B v d → ∀ k, rowBlk v = some k → row ≠ some k) : CellsF w' B cells F := by
  refine ⟨h.1, fun i s d hi => ?_⟩; obtain ⟨g1, a1, c1, g2, g3⟩ := h.2 i s d hi; exact ⟨g1, a1, c1, g2, g3.grown hg (hne _ _ g3)⟩
def N4 : List (List UInt8) := [[97], [98], [109, 101, 116, 97], [120, 45, 49]]
def ImF (F : List (List UInt8 × List Nat)) (k : Nat) : Prop := (F.map (·.1)).Sublist (N4.take k) ∧ ∀ x ∈ F, x.2.length ≤ 79
theorem ImF.len {F : List (List UInt8 × List Nat)} {k : Nat} (h : ImF F k) : F.length ≤ k := by
  have h1 := h.1.length_le; rw [List.length_map, List.length_take] at h1
  omega
theorem names4 (k : Nat) (hk : k < 4) : ∃ s : List UInt8, (#[.string ⟨#[97]⟩, .string ⟨#[98]⟩, .string ⟨#[109, 101, 116, 97]⟩, .string ⟨#[120, 45, 49]⟩] : Array Value)[k]? = some (.string ⟨s.toArray⟩) ∧ N4[k]? = some s := by
  rcases (by omega : k = 0 ∨ k = 1 ∨ k = 2 ∨ k = 3) with rfl | rfl | rfl | rfl <;> exact ⟨_, rfl, rfl⟩
theorem ImF.skip {F : List (List UInt8 × List Nat)} {k : Nat} (h : ImF F k) : ImF F (k + 1) := by
  refine ⟨h.1.trans ?_, h.2⟩; rw [List.take_add_one]; exact List.sublist_append_left _ _
theorem ImF.put {F : List (List UInt8 × List Nat)} {k : Nat} {s : List UInt8} {d : List Nat} (h : ImF F k) (hs : N4[k]? = some s) (hd : d.length ≤ 79) : ImF (F ++ [(s, d)]) (k + 1) := by
  refine ⟨?_, fun x hx => ?_⟩
  · rw [List.take_add_one, hs, List.map_append]; exact List.Sublist.append h.1 (List.Sublist.refl _)
  · rcases List.mem_append.1 hx with h9 | h9
    · exact h.2 x h9
    · obtain rfl : x = (s, d) := by simpa using h9
      exact hd
theorem brow_own {w : World} {B B' g n cap : Nat} {xs : List Nat} (h : w.ownsRow B' 5 1 (.slice (some ⟨g, 0, none⟩) n cap) n (xs.map bv)) (h0 : ∀ z ∈ xs, z < 256) (hB : B ≤ B') : BRow w B (.slice (some ⟨g, 0, none⟩) n cap) xs := by
  have hl : xs.length = n := by simpa using h.1
  have hc := own_le h; refine ⟨h0, ?_⟩
  by_cases h1 : cap = 0
  · subst h1
    obtain rfl : n = 0 := by omega
    exact .inl ⟨List.eq_nil_of_length_eq_zero hl, _, rfl⟩
  · exact .inr ⟨g, cap, by rw [hl], by omega, by rw [hl]; exact ownsRow_base h hB⟩
structure ImSt (w wr : World) (s : Nat) (zs : List Nat) (k n : Nat) (v : Value) (F : List (List UInt8 × List Nat)) (cells : List Value) : Prop where
  row : wr.ownsRow w.heap.size 55 2 v n cells
  cs : CellsF wr w.heap.size cells F
  f : ImF F k
  fn : F.length = n
  nm : wr.heap[w.heap.size + 1]? = some (.cells #[.string ⟨#[97]⟩, .string ⟨#[98]⟩, .string ⟨#[109, 101, 116, 97]⟩, .string ⟨#[120, 45, 49]⟩] 9 (0, 0))
  src : Src wr s zs
  gr : w.grownBy wr (some s)
  sl : s < w.heap.size
theorem ImSt.draw {w wr X : World} {s : Nat} {zs : List Nat} {k n : Nat} {v : Value} {F : List (List UInt8 × List Nat)} {cells : List Value} (h : ImSt w wr s zs k n v F cells) (hs : Src X s zs) (hg : wr.grownBy X (some s)) : ImSt w X s zs k n v F cells := by
  have h1 := h.sl; obtain ⟨cur, hty⟩ := h.src.ty
  exact ⟨own_mv h.row (h.src.mv hg) (by decide), h.cs.kept hg (fun v d hv k hk hc => by
    obtain rfl : s = k := (by simpa using hc)
    exact hv.ne hty (by decide) hk), h.f, h.fn, src_row h.nm hg (by omega), hs, grownBy_trans h.gr hg, h.sl⟩
set_option maxHeartbeats 4000000 in
theorem drawImage_any (s : Nat) (zs : List Nat) (w : World) (hs : Src w s zs) :
    Calls Tryz.prog 5 #[.pointer (some ⟨s, 0, none⟩), .int .i64 4] w fun e w' => (∃ v F, e = .returned v ∧ FlAt w' w.heap.size v F ∧ ImF F 4) ∧ Src w' s zs ∧ w.grownBy w' (some s) := by
  have hsl := hs.lt
  have e1 : (w.alloc (.cells #[] 55)).heap.size = w.heap.size + 1 := by simp
  have HS0 : Hid (ImSt w ((w.alloc (.cells #[] 55)).alloc (.cells #[.string ⟨#[97]⟩, .string ⟨#[98]⟩, .string ⟨#[109, 101, 116, 97]⟩, .string ⟨#[120, 45, 49]⟩] 9)) s zs 0 0 (.slice (some ⟨w.heap.size, 0, none⟩) 0 0) [] []) := by
    have hg1 : w.grownBy ((w.alloc (.cells #[] 55)).alloc (.cells #[.string ⟨#[97]⟩, .string ⟨#[98]⟩, .string ⟨#[109, 101, 116, 97]⟩, .string ⟨#[120, 45, 49]⟩] 9)) none := grownBy_alloc (grownBy_alloc (grownBy_refl _ _) _) _; refine ⟨own1_grown ⟨rfl, .inr ⟨w.heap.size, 0, _, rfl, Nat.le_refl _, heap_alloc_new w _, Nat.le_refl _, Nat.zero_le _, rfl, rfl⟩⟩ (World.grownBy_alloc _ _ none), ⟨rfl, by simp⟩, ⟨by simp, by simp⟩, rfl, ?_, hs.grown0 hg1, grownBy_weak hg1, hsl⟩; rw [← e1]; exact heap_alloc_new _ _
  clear hs e1
  go_enter Tryz.func5, Tryz.ntmps5
  go_wp2; generalize ((w.alloc (.cells #[] 55)).alloc (.cells #[.string ⟨#[97]⟩, .string ⟨#[98]⟩, .string ⟨#[109, 101, 116, 97]⟩, .string ⟨#[120, 45, 49]⟩] 9)) = W0 at HS0 ⊢
  go_loopw [5, 11] (fun v iv wr => ∃ (k n : Nat) (F : List (List UInt8 × List Nat)) (cells : List Value), k ≤ 4 ∧ iv = .int .i64 (k : Int) ∧ (∃ oa c, v = .slice oa n c) ∧ ImSt w wr s zs k n v F cells) (fun _ iv _ => 4 - (intOf iv).toNat)
  case atStart => exact ⟨0, 0, [], [], Nat.zero_le _, rfl, ⟨_, _, rfl⟩, HS0.out⟩
  case round =>
    obtain ⟨k, n, F, cells, hk, rfl, ⟨oa, c, rfl⟩, hst⟩ := hrel; have HS : Hid (ImSt w wr s zs k n (.slice oa n c) F cells) := hst; clear hst HS0
    by_cases hlt : k < 4
    · have hltI : (k : Int) < 4 := by omega
      obtain ⟨sk, hsk, hnk⟩ := names4 k hlt; have c4 : wr.cell? ⟨w.heap.size + 1, k, none⟩ = some (.string ⟨sk.toArray⟩) := (zCr HS.out.nm).trans hsk; have HNK : Hid (N4[k]? = some sk) := hnk
      have hn4 : (n : Int) < 4 := by have := HS.out.f.len; have := HS.out.fn; omega
      have v1 : IntKind.i64.wrap ((k : Int) + 1) = (k : Int) + 1 := IntWalk.i64_in _ (by omega); clear hsk hnk; go_wp2_with fail; refine (one_any s 2 zs wr HS.out.src (by decide) (by decide)).mono ?_; rintro e X1 ⟨⟨b, rfl⟩, hs9, hg9⟩; have HS1 : Hid (ImSt w X1 s zs k n (.slice oa n c) F cells) := HS.out.draw hs9 hg9; clear hs9 hg9 HS c4
      cases b
      · have HS2 : Hid (ImSt w X1 s zs (k + 1) n (.slice oa n c) F cells) := ⟨HS1.out.row, HS1.out.cs, HS1.out.f.skip, HS1.out.fn, HS1.out.nm, HS1.out.src, HS1.out.gr, HS1.out.sl⟩; go_wp2; go_roundw
        case rel => exact ⟨k + 1, n, F, cells, by omega, by go_num, ⟨_, _, rfl⟩, HS2.out⟩
        case measure => simp [intOf]; omega
      · go_wp2_with fail; refine (drawN_any s 80 zs X1 HS1.out.src (by decide) (by decide)).mono ?_; rintro e X2 ⟨r, rfl, -, hr, hs9, hg9⟩; have hr' := hr (by decide); have HS2 : Hid (ImSt w X2 s zs k n (.slice oa n c) F cells) := HS1.out.draw hs9 hg9; clear hs9 hg9 hr HS1; go_wp2_with fail; refine (drawBytes_any s r zs X2 HS2.out.src (by omega)).mono ?_; rintro e X3 ⟨g, cap, xs, rfl, hxs, hown, hs9, hg9⟩; have HS3 : Hid (ImSt w X3 s zs k n (.slice oa n c) F cells) := HS2.out.draw hs9 hg9
        have hxl : xs.length = r := by simpa using hown.1
        have HBX : Hid (BRow X3 w.heap.size (.slice (some ⟨g, 0, none⟩) r cap) xs ∧ xs.length = r) := ⟨brow_own hown hxs HS2.out.gr.size, hxl⟩; have hB : w.heap.size ≤ X3.heap.size := HS3.out.gr.size; clear hs9 hg9 hown hxs hxl HS2
        go_wp2_with (at_builtin; refine wpList_app1 rfl _ _ 25 rfl w.heap.size 55 Tryz.underlying25 Tryz.infoFile rfl (by decide) (.slice oa n c) n cells rfl HS3.out.row #[.string ⟨sk.toArray⟩, .slice (some ⟨g, 0, none⟩) r cap] X3.heap.size rfl rfl rfl rfl (by omega) (by decide) hB ?_; intro v3 w3 h2 h3 h4)
        obtain ⟨oa3, c3, rfl⟩ := h4
        have HN : Hid (ImSt w w3 s zs (k + 1) (n + 1) (.slice oa3 (n + 1) c3) (F ++ [(sk, xs)]) (cells ++ [encStr sk, .slice (some ⟨g, 0, none⟩) r cap])) := by
          have hM : Moves [] [55] X3 w3 := Moves.of_row HS3.out.row h3
          have h8 := HS3.out.cs.snoc h3 (fun v dd hv kk hkk hc => by
            obtain ⟨cur, h7⟩ := row_type HS3.out.row hc
            exact hv.ne h7 (by decide) hkk) sk xs (some ⟨g, 0, none⟩) cap (by rw [HBX.out.2]; exact HBX.out.1)
          rw [HBX.out.2] at h8
          have hbs : ∀ q, (Value.slice oa n c).ownBlock = some q → w.heap.size ≤ q := fun q hq => own1_base HS3.out.row hq
          have hs9 := HS3.out.sl; refine ⟨h2, h8, HS3.out.f.put HNK.out (by rw [HBX.out.2]; omega), by simp [HS3.out.fn], hM.cells HS3.out.nm (by decide) (by simp), HS3.out.src.grown h3 (fun q hq => by have := hbs q hq; omega), ?_, HS3.out.sl⟩; exact ⟨h3.os.trans HS3.out.gr.os, h3.tape.trans HS3.out.gr.tape, h3.output.trans HS3.out.gr.output, Nat.le_trans HS3.out.gr.size h3.size, fun j hj hne => (h3.block j (by omega) (fun hc => by have := hbs j hc.symm; omega)).trans (HS3.out.gr.block j hj hne)⟩
        clear h2 h3 HS3 HBX; go_wp2; go_roundw
        case rel => exact ⟨k + 1, n + 1, _, _, by omega, by go_num, ⟨_, _, rfl⟩, HN.out⟩
        case measure => simp [intOf]; omega
    · obtain rfl : k = 4 := by omega
      have HFA : Hid (FlAt wr w.heap.size (.slice oa n c) F) := ⟨oa, c, cells, by rw [HS.out.fn], by rw [HS.out.fn]; exact HS.out.row, HS.out.cs⟩; go_wp2; go_ret; exact ⟨⟨_, F, rfl, HFA.out, HS.out.f⟩, HS.out.src, HS.out.gr⟩
end Go.Proofs.YtgehhfncjoogiaaGreatDoor

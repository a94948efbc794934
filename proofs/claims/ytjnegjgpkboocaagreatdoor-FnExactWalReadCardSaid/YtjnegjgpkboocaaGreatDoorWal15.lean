/-
  L2One2, SpecScan, SpB, WalI
-/
import Derived.Test.YtjnegjgpkboocaaGreatDoorWal14
import Derived.RangeFuncBox
import Derived.Test.YtjnegjgpkboocaaGreatDoorWal13
/-
  The model's l2One, where the head is right: walked.
-/
namespace Go.Proofs.YtjnegjgpkboocaaGreatDoor
open Go.RowKit

theorem set2_block {w : World} {r : Nat} {a b x y : Value} (h : w.heap[r]? = some (.cells #[a, b] 85 (0, 0))) : ((w.setCell ⟨r, 0, none⟩ x).setCell ⟨r, 1, none⟩ y).heap[r]? = some (.cells #[x, y] 85 (0, 0)) :=
  (heap_setCell_same _ r 1 _ _ _ (heap_setCell_same w r 0 _ _ _ h)).trans (by simp)
theorem ownsRow_caps3 {w : World} {base e size g n cap : Nat} {xs : List Value} (h : w.ownsRow base e size (.slice (some ⟨g, 0, none⟩) n cap) n xs) : n ≤ cap ∧ cap ≤ maxLen := by
  rcases h.2 with ⟨h0, _⟩ | ⟨g', cap', cur, h0, hb, hg, hc, hm, hs, ht⟩
  · simp at h0
  · simp only [Value.slice.injEq, Option.some.injEq, Addr.mk.injEq, and_true, true_and] at h0; obtain ⟨-, rfl⟩ := h0; exact ⟨hc, hm⟩
theorem own_neC {w : World} {g r : Nat} {zs : List Nat} {c : Array Value} (hO : Own w 5 g zs) (hr : w.heap[r]? = some (.cells c 85 (0, 0))) (e : g = r) : False := by
  subst e; exact absurd (hO.type hr) (by decide)
theorem cell_set2 {w : World} {r b o : Nat} {u v x : Value} (hb : ¬ b = r) (h : w.cell? ⟨b, o, none⟩ = some x) : ((w.setCell ⟨r, 0, none⟩ u).setCell ⟨r, 1, none⟩ v).cell? ⟨b, o, none⟩ = some x :=
  (World.cell?_of_block (w := w) (a := ⟨b, o, none⟩) ((heap_setCell_other _ ⟨r, 1, none⟩ b v hb).trans (heap_setCell_other w ⟨r, 0, none⟩ b u hb))).trans h

set_option maxRecDepth 100000 in
set_option maxHeartbeats 4000000 in
theorem l2One_long (b off : Nat) (len cap : Nat) (zs : List Nat) (w : World) (hsl : SlB w (some ⟨b, off, none⟩) len zs) (h12 : 12 ≤ len) (hlc : len ≤ cap) (hm : cap ≤ maxLen) (hm2 : len ≤ 1073741824) (hok : ¬ headBad zs) :
    Calls Tryz.prog 48 #[.slice (some ⟨b, off, none⟩) len cap] w fun e w' => w.grownBy w' none ∧
      ((len < recSize zs ∧ e = .returned (.tuple #[.agg #[.int .i64 0, .slice none 0 0], .int .i64 0, .int .i64 1])) ∨
       (recSize zs ≤ len ∧ sumBad zs ∧ e = .returned (.tuple #[.agg #[.int .i64 0, .slice none 0 0], .int .i64 0, .int .i64 3])) ∨
       (recSize zs ≤ len ∧ ¬ sumBad zs ∧ padBad zs ∧ e = .returned (.tuple #[.agg #[.int .i64 0, .slice none 0 0], .int .i64 0, .int .i64 4])) ∨
       (recSize zs ≤ len ∧ ¬ sumBad zs ∧ ¬ padBad zs ∧ ∃ g cp, (w.heap.size ≤ g ∧ recN zs ≤ cp ∧ cp ≤ maxLen) ∧ Own w' 5 g (recData zs) ∧ e = .returned (.tuple #[.agg #[.int .i64 ((zs.getD 4 0 : Nat) : Int), .slice (some ⟨g, 0, none⟩) (recN zs) cp], .int .i64 ((recSize zs : Nat) : Int), .int .i64 0]))) := by
  unfold maxLen at hm
  have hlz := hsl.1; have hG : w.grownBy (w.alloc (.cells #[.int .i64 0, .slice none 0 0] 85)) none := World.grownBy_alloc w _ none; have hs2 := hsl.grown0 hG
  have HT : Hid (∀ w' : World, w'.heap = (w.alloc (.cells #[.int .i64 0, .slice none 0 0] 85)).heap → Calls _ _ _ w' _) := fun w' hh => l2Get_any (some ⟨b, off, none⟩) 4 cap (zs.take 4) w' ((hs2.take 4 (by omega)).heap hh) (by omega)
  rw [satVal_four (zs.take 4) (fun z hz => hsl.2.1 z (List.mem_of_mem_take hz)) (by simp; omega), show leVal (zs.take 4) = recN zs from rfl] at HT; have c4 := hs2.cellAt 4 (by omega); have c5 := hs2.cellAt 5 (by omega); have c6 := hs2.cellAt 6 (by omega); have c7 := hs2.cellAt 7 (by omega)
  obtain ⟨g0, g4, g5, g6, g7⟩ : recN zs ≤ 8192 ∧ zs.getD 4 0 ≠ 0 ∧ zs.getD 5 0 = 0 ∧ zs.getD 6 0 = 0 ∧ zs.getD 7 0 = 0 := by
    unfold headBad at hok
    refine ⟨?_, ?_, ?_, ?_, ?_⟩
    · exact Nat.le_of_not_lt fun h => hok (.inl h)
    · exact fun h => hok (.inr (.inl h))
    · exact Classical.byContradiction fun h => hok (.inr (.inr (.inl h)))
    · exact Classical.byContradiction fun h => hok (.inr (.inr (.inr (.inl h))))
    · exact Classical.byContradiction fun h => hok (.inr (.inr (.inr (.inr h))))
  have l4 : zs.getD 4 0 < 256 := hsl.2.1 _ (Crc.getD_mem _ _ (by omega)); rw [g5] at c5; rw [g6] at c6; rw [g7] at c7; have hp4 := pad_lt (recN zs)
  have hsz : recSize zs = (12 + recN zs + 3) / 4 * 4 := by unfold recSize pad; omega
  have hrz : recSize zs = 12 + recN zs + pad (recN zs) := rfl; have HSL : Hid (SlB w (some ⟨b, off, none⟩) len zs) := hsl; have HOK : Hid (¬ headBad zs) := hok; obtain ⟨n, hn⟩ : ∃ n, recN zs = n := ⟨_, rfl⟩; obtain ⟨z4, hz4⟩ : ∃ z, zs.getD 4 0 = z := ⟨_, rfl⟩; obtain ⟨sz, hsze⟩ : ∃ z, recSize zs = z := ⟨_, rfl⟩; rw [hn] at HT g0 hp4 hsz hrz; rw [hz4] at c4 l4 g4; rw [hsze] at hsz hrz; have HN : Hid (recN zs = n ∧ zs.getD 4 0 = z4 ∧ recSize zs = sz) := ⟨hn, hz4, hsze⟩
  have hlI : (12 : Int) ≤ (len : Int) := by omega
  have hcI : (4 : Int) ≤ (cap : Int) := by omega
  have d4 : ((z4 : Int) == 0) = false := by rw [beq_eq_false_iff_ne]; omega
  have d0 : decide ((8192 : Int) < (n : Int)) = false := by rw [decide_eq_false_iff_not]; omega
  obtain ⟨p, hp⟩ : ∃ p, pad n = p := ⟨_, rfl⟩; have HPP : Hid (pad n = p) := hp; rw [hp] at hp4 hrz; subst hrz
  have hzI : ((12 : Int) + n + 3) / 4 * 4 = 12 + n + p := by omega
  clear hsl hs2 hG hok hn hz4 hsze g5 g6 g7 hp hsz
  by_cases hsh : len < 12 + n + p
  · go_enter Tryz.func48, Tryz.ntmps48
    go_wp2_with fail; refine (HT.out _ rfl).mono ?_; clear HT; rintro e w1 ⟨rfl, rfl⟩; go_wp2; refine bodyPost_ret (results_rec rfl rfl (heap_alloc_new w _)) rfl ?_; exact ⟨World.grownBy_alloc w _ none, .inl ⟨by rw [HN.out.2.2]; exact hsh, rfl⟩⟩
  · go_enter Tryz.func48, Tryz.ntmps48
    go_wp2_with fail; refine (HT.out _ rfl).mono ?_; clear HT; rintro e w1 ⟨rfl, rfl⟩; go_wp2; have hG1 : w.grownBy (w.alloc (.cells #[.int .i64 0, .slice none 0 0] 85)) none := World.grownBy_alloc w _ none; have hr1 : (w.alloc (.cells #[.int .i64 0, .slice none 0 0] 85)).heap[w.heap.size]? = some (.cells #[.int .i64 0, .slice none 0 0] 85 (0, 0)) := heap_alloc_new w _
    have hs1 : (w.alloc (.cells #[.int .i64 0, .slice none 0 0] 85)).heap.size = w.heap.size + 1 := by simp
    generalize w.alloc (.cells #[.int .i64 0, .slice none 0 0] 85) = W1 at hG1 hr1 hs1 c4 c5 c6 c7 ⊢; clear c5 c6 c7; have hSL1 := HSL.out.grown0 hG1; obtain ⟨ad, had⟩ : ∃ ad : Option Addr, (if cap = 12 then some (⟨b, off, none⟩ : Addr) else some ⟨b, off + 12, none⟩) = ad := ⟨_, rfl⟩
    have hD : SlB W1 ad n ((zs.drop 12).take n) := by rw [← had]; exact hSL1.cut 12 n cap (by omega) hlc
    have HD : Hid (SlB W1 ad n ((zs.drop 12).take n)) := hD; have HW1 : Hid (w.grownBy W1 none ∧ W1.heap[w.heap.size]? = some (.cells #[.int .i64 0, .slice none 0 0] 85 (0, 0)) ∧ W1.heap.size = w.heap.size + 1 ∧ SlB W1 (some ⟨b, off, none⟩) len zs) := ⟨hG1, hr1, hs1, hSL1⟩; have hb1 : b < W1.heap.size := cell_block_lt c4; clear hD hSL1 hG1 hr1 hs1
    have HX4 : Hid (∀ X w2, W1.grownBy X none → X.grownBy w2 (some W1.heap.size) → w2.cell? ⟨b, off + 4, none⟩ = some (.int .u8 (z4 : Int))) := fun X w2 hX hg => keep_far hg (Nat.lt_of_lt_of_le hb1 hX.size) (by omega) (((bcell hX).1 b (off + 4) hb1).trans c4)
    have HX1 : Hid (W1.grownBy ((W1.alloc (.cells #[] 5)).drew) none) := grownBy_drew (World.grownBy_alloc W1 _ none); have HX2 : Hid (W1.grownBy (((W1.alloc (.cells #[] 5)).alloc (.cells #[.int .i64 0, .slice none 0 0] 85)).drew) none) := grownBy_drew (grownBy_alloc (World.grownBy_alloc W1 _ none) _)
    have HR2 : Hid (∀ w2, (((W1.alloc (.cells #[] 5)).alloc (.cells #[.int .i64 0, .slice none 0 0] 85)).drew).grownBy w2 (some W1.heap.size) → w2.heap[W1.heap.size + 1]? = some (.cells #[.int .i64 0, .slice none 0 0] 85 (0, 0))) := fun w2 hg => (hg.block (W1.heap.size + 1) (by show _ < ((W1.alloc _).alloc _).heap.size; simp) (by simp)).trans (heap_two W1 _ _)
    have HX5 : Hid (∀ X w2, W1.grownBy X none → X.grownBy w2 (some (W1.heap.size + 1)) → w2.cell? ⟨b, off + 4, none⟩ = some (.int .u8 (z4 : Int))) := fun X w2 hX hg => keep_far hg (Nat.lt_of_lt_of_le hb1 hX.size) (by omega) (((bcell hX).1 b (off + 4) hb1).trans c4)
    have HX3 : Hid (W1.grownBy (((W1.alloc (.cells #[.int .i64 0, .slice none 0 0] 85)).alloc (.cells #[] 5)).drew) none) := grownBy_drew (grownBy_alloc (World.grownBy_alloc W1 _ none) _)
    have HO3 : Hid ((((W1.alloc (.cells #[.int .i64 0, .slice none 0 0] 85)).alloc (.cells #[] 5)).drew).ownsRow W1.heap.size 5 1 (.slice (some ⟨W1.heap.size + 1, 0, none⟩) 0 0) 0 (([] : List Nat).map bv)) := by
      have h1 := World.ownsRow_made (base := W1.heap.size) (e := 5) (size := 1) (W1.alloc (.cells #[.int .i64 0, .slice none 0 0] 85)) #[] 0 (by simp) (Nat.zero_le _) rfl; rw [World.size_alloc] at h1; exact ownsRow_heap h1 rfl
    have HR3 : Hid (∀ w2, (((W1.alloc (.cells #[.int .i64 0, .slice none 0 0] 85)).alloc (.cells #[] 5)).drew).grownBy w2 (some (W1.heap.size + 1)) → w2.heap[W1.heap.size]? = some (.cells #[.int .i64 0, .slice none 0 0] 85 (0, 0))) := fun w2 hg => (hg.block W1.heap.size (by show _ < ((W1.alloc _).alloc _).heap.size; simp; omega) (by simp)).trans ((Below.heap_alloc _ _ _ (by simp)).trans (heap_alloc_new W1 _))
    obtain ⟨i0, TB⟩ := byteT; have v1 : IntKind.i64.wrap (12 + (n : Int)) = 12 + n := IntWalk.i64_in _ (by omega); have v2 : IntKind.i64.wrap (z4 : Int) = z4 := IntWalk.i64_in _ (by omega)
    have q1 : (12 : Int) + n ≤ (cap : Int) := by omega
    have q2 : (0 : Int) ≤ (12 : Int) + n := by omega
    have q3 : (12 : Int) ≤ (12 : Int) + n := by omega
    have q4 : max ((12 : Int) + n) 0 = 12 + n := by omega
    have q5 : ((12 : Int) + n).toNat - 12 = n := by omega
    have q6 : (4 : Int) < (len : Int) := by omega
    go_region_held3 (fun w' => w'.cell? ⟨b, off + 4, none⟩ = some (.int .u8 (z4 : Int))) (first | go_keep | (exact c42) | (exact cell_set2 hb4 c42) | fail)
      (first
        | (refine step_append_b (by rfl) (.tmp 62) (.tmp 66) TB (by rfl) (base := W1.heap.size) (g := W1.heap.size) (n := 0) (cap := 0) (xs := []) (by rfl) (by exact ownsRow_heap (World.ownsRow_made W1 #[] 0 (Nat.le_refl _) (Nat.zero_le _) rfl) rfl) (oa := ad) (m := n) (c := cap - 12) (zs := (zs.drop 12).take n) (by rfl) (by exact HD.out.grown0 HX1.out) (by omega) (by first | omega | (simp; done) | (simp; omega)) ?_; intro g2 cp2 w2 hown2 hgr2 hat2 hsz2; have c42 : w2.cell? ⟨b, off + 4, none⟩ = some (.int .u8 (z4 : Int)) := (by exact HX4.out _ _ HX1.out hgr2.out); have hb2 : b < w2.heap.size := (by exact cell_block_lt c42); have hb3 : ¬ b = w2.heap.size := (by omega); have HC2 : Hid (W1.grownBy w2 none) := (by exact grownBy_new HX1.out hgr2.out (Nat.le_refl _)))
        | (refine step_append_b (by rfl) (.tmp 62) (.tmp 66) TB (by rfl) (base := W1.heap.size) (g := W1.heap.size) (n := 0) (cap := 0) (xs := []) (by rfl) (by exact ownsRow_heap ((World.ownsRow_made W1 #[] 0 (Nat.le_refl _) (Nat.zero_le _) rfl).alloc (.cells #[.int .i64 0, .slice none 0 0] 85)) rfl) (oa := ad) (m := n) (c := cap - 12) (zs := (zs.drop 12).take n) (by rfl) (by exact HD.out.grown0 HX2.out) (by omega) (by first | omega | (simp; done) | (simp; omega)) ?_; intro g2 cp2 w2 hown2 hgr2 hat2 hsz2; have c42 : w2.cell? ⟨b, off + 4, none⟩ = some (.int .u8 (z4 : Int)) := (by exact HX4.out _ _ HX2.out hgr2.out); have hb2 : b < w2.heap.size := (by exact cell_block_lt c42); have hr2 := (HR2.out _ hgr2.out); have hr20 : w2.cell? ⟨W1.heap.size + 1, 0, none⟩ = some (.int .i64 0) := (by simp [World.cell?, hr2]); have hr21 : w2.cell? ⟨W1.heap.size + 1, 1, none⟩ = some (.slice none 0 0) := (by simp [World.cell?, hr2]); have hf20 : w2.frozen? ⟨W1.heap.size + 1, 0, none⟩ = false := (by simp [World.frozen?, hr2]); have hf21 : w2.frozen? ⟨W1.heap.size + 1, 1, none⟩ = false := (by simp [World.frozen?, hr2]); have hb4 : ¬ b = W1.heap.size + 1 := (by omega); have HC2 : Hid (W1.grownBy w2 none) := (by exact grownBy_new HX2.out hgr2.out (Nat.le_refl _)))
        | (refine step_append_b (by rfl) (.tmp 62) (.tmp 66) TB (by rfl) (base := W1.heap.size) (g := W1.heap.size + 1) (n := 0) (cap := 0) (xs := []) (by rfl) (by exact HO3.out) (oa := ad) (m := n) (c := cap - 12) (zs := (zs.drop 12).take n) (by rfl) (by exact HD.out.grown0 HX3.out) (by omega) (by first | omega | (simp; done) | (simp; omega)) ?_; intro g2 cp2 w2 hown2 hgr2 hat2 hsz2; have c42 : w2.cell? ⟨b, off + 4, none⟩ = some (.int .u8 (z4 : Int)) := (by exact HX5.out _ _ HX3.out hgr2.out); have hb2 : b < w2.heap.size := (by exact cell_block_lt c42); have hr2 := (HR3.out _ hgr2.out); have hr20 : w2.cell? ⟨W1.heap.size, 0, none⟩ = some (.int .i64 0) := (by simp [World.cell?, hr2]); have hr21 : w2.cell? ⟨W1.heap.size, 1, none⟩ = some (.slice none 0 0) := (by simp [World.cell?, hr2]); have hf20 : w2.frozen? ⟨W1.heap.size, 0, none⟩ = false := (by simp [World.frozen?, hr2]); have hf21 : w2.frozen? ⟨W1.heap.size, 1, none⟩ = false := (by simp [World.frozen?, hr2]); have hb4 : ¬ b = W1.heap.size := (by omega); have HC2 : Hid (W1.grownBy w2 none) := (by exact grownBy_new HX3.out hgr2.out (by omega)))
        | fail)
    · have HCP : Hid (n ≤ cp2 ∧ cp2 ≤ maxLen) := by have h9 := hown2.out; rw [Nat.zero_add] at h9; exact ownsRow_caps3 h9
      have F : Hid ((w2.alloc (.cells #[.int .i64 (z4 : Int), .slice (some ⟨g2, 0, none⟩) n cp2] 85)).heap[w2.heap.size]? = some (.cells #[.int .i64 (z4 : Int), .slice (some ⟨g2, 0, none⟩) n cp2] 85 (0, 0)) ∧ W1.heap.size ≤ w2.heap.size ∧ W1.grownBy (w2.alloc (.cells #[.int .i64 (z4 : Int), .slice (some ⟨g2, 0, none⟩) n cp2] 85)) none ∧ Own (w2.alloc (.cells #[.int .i64 (z4 : Int), .slice (some ⟨g2, 0, none⟩) n cp2] 85)) 5 g2 ((zs.drop 12).take n) ∧ W1.heap.size ≤ g2) := by
        have hO := own_made (zs := (zs.drop 12).take n) (by have := hown2.out; rwa [Nat.zero_add, List.nil_append] at this) HD.out.2.1; exact ⟨heap_alloc_new w2 _, HC2.out.size, grownBy_alloc HC2.out _, hO.grown (World.grownBy_alloc w2 _ none) (by simp), (hown2.out.lt g2 rfl).1⟩
      clear hown2 hgr2 hat2 c42 hb2 HX1 HX2 HX3 HX4 HX5 HO3 HR2 HR3 HC2; generalize w2.alloc (.cells #[.int .i64 (z4 : Int), .slice (some ⟨g2, 0, none⟩) n cp2] 85) = W2 at F ⊢
      have hdl : ((zs.drop 12).take n).length = n := by simp; omega
      have cr0 : W2.cell? ⟨w2.heap.size, 0, none⟩ = some (.int .i64 (z4 : Int)) := by simp [World.cell?, F.out.1]
      have cr1 : W2.cell? ⟨w2.heap.size, 1, none⟩ = some (.slice (some ⟨g2, 0, none⟩) n cp2) := by simp [World.cell?, F.out.1]
      have HEN : Hid (Calls _ _ _ _ _) := specEncode_ok z4 (some ⟨g2, 0, none⟩) n cp2 ((zs.drop 12).take n) W2 (by omega) (by omega) (by omega) (F.out.2.2.2.1.sl n hdl); go_wp2_with fail; refine HEN.out.mono ?_; clear HEN; rintro e w3 ⟨g3, N, cp3, rfl, hN, hg3, hO3, hG3, hNc⟩
      have hNN : N = 12 + n + p := by rw [hN, enc_len, hdl, HPP.out]
      subst hNN
      have hrl : w.heap.size < W1.heap.size := by have := HW1.out.2.2.1; omega
      have hW13 : W1.grownBy w3 none := grownBy_trans F.out.2.2.1 hG3; have hwg : w.grownBy w3 none := grownBy_trans HW1.out.1 hW13; have hRq3 : w3.heap[w2.heap.size]? = some (.cells #[.int .i64 (z4 : Int), .slice (some ⟨g2, 0, none⟩) n cp2] 85 (0, 0)) := (hG3.block _ (Array.getElem?_eq_some_iff.1 F.out.1).1 (by simp)).trans F.out.1; have hRes3 : w3.heap[w.heap.size]? = some (.cells #[.int .i64 0, .slice none 0 0] 85 (0, 0)) := (hW13.block _ hrl (by simp)).trans HW1.out.2.1; have hO23 : Own w3 5 g2 ((zs.drop 12).take n) := F.out.2.2.2.1.grown hG3 (by simp); have hSL3 : SlB w3 (some ⟨b, off, none⟩) len zs := HSL.out.grown0 hwg
      have cr03 : w3.cell? ⟨w2.heap.size, 0, none⟩ = some (.int .i64 (z4 : Int)) := by simp [World.cell?, hRq3]
      have cr13 : w3.cell? ⟨w2.heap.size, 1, none⟩ = some (.slice (some ⟨g2, 0, none⟩) n cp2) := by simp [World.cell?, hRq3]
      have ce0 : w3.cell? ⟨w.heap.size, 0, none⟩ = some (.int .i64 0) := by simp [World.cell?, hRes3]
      have ce1 : w3.cell? ⟨w.heap.size, 1, none⟩ = some (.slice none 0 0) := by simp [World.cell?, hRes3]
      have fe0 : w3.frozen? ⟨w.heap.size, 0, none⟩ = false := by simp [World.frozen?, hRes3]
      have fe1 : w3.frozen? ⟨w.heap.size, 1, none⟩ = false := by simp [World.frozen?, hRes3]
      have hcv1 : ∀ k, (convert 37 9 (.slice (some ⟨g3, 0, none⟩) (12 + n + p) cp3)).run Tryz.prog (w3.drewN k) = .ok (.string (strB (enc z4 ((zs.drop 12).take n)))) (w3.drewN k) := fun k => run_str_b (w3.drewN k) Tryz.underlying37 Tryz.underlying5 Tryz.underlying9 ((hO3.sl _ hN.symm).heap rfl) cp3
      have hcv2 : ∀ k, (convert 37 9 (.slice (some ⟨b, off, none⟩) (12 + n + p) cap)).run Tryz.prog (w3.drewN k) = .ok (.string (strB (zs.take (12 + n + p)))) (w3.drewN k) := fun k => run_str_b (w3.drewN k) Tryz.underlying37 Tryz.underlying5 Tryz.underlying9 ((hSL3.take _ (by omega)).heap rfl) cap
      have hcv3 : ∀ k, (convert 37 9 (.slice (some ⟨g3, 0, none⟩) 12 cp3)).run Tryz.prog (w3.drewN k) = .ok (.string (strB ((enc z4 ((zs.drop 12).take n)).take 12))) (w3.drewN k) := fun k => run_str_b (w3.drewN k) Tryz.underlying37 Tryz.underlying5 Tryz.underlying9 (((hO3.sl _ hN.symm).take 12 (by omega)).heap rfl) cp3
      have hcv4 : ∀ k, (convert 37 9 (.slice (some ⟨b, off, none⟩) 12 cap)).run Tryz.prog (w3.drewN k) = .ok (.string (strB (zs.take 12))) (w3.drewN k) := fun k => run_str_b (w3.drewN k) Tryz.underlying37 Tryz.underlying5 Tryz.underlying9 ((hSL3.take 12 (by omega)).heap rfl) cap
      have hEz : ∀ z ∈ enc z4 ((zs.drop 12).take n), z < 256 := hO3.1; have hZz : ∀ z ∈ zs, z < 256 := HSL.out.2.1; have hE1 := strB_eq (enc z4 ((zs.drop 12).take n)) (zs.take (12 + n + p)) hEz (fun z hz => hZz z (List.mem_of_mem_take hz)); have hE2 := strB_eq ((enc z4 ((zs.drop 12).take n)).take 12) (zs.take 12) (fun z hz => hEz z (List.mem_of_mem_take hz)) (fun z hz => hZz z (List.mem_of_mem_take hz))
      have hM1 : enc z4 ((zs.drop 12).take n) = zs.take (12 + n + p) ↔ ¬ sumBad zs ∧ ¬ padBad zs := by
        have h1 := whole_eq zs hZz (by omega) HOK.out (by rw [HN.out.2.2]; omega); rw [HN.out.2.2, HN.out.2.1] at h1
        unfold recData at h1
        rw [HN.out.1] at h1; exact h1
      have hM2 : (enc z4 ((zs.drop 12).take n)).take 12 = zs.take 12 ↔ ¬ sumBad zs := by
        have h1 := twelve_eq zs hZz (by omega) HOK.out (by rw [HN.out.1]; omega); rw [HN.out.2.1] at h1
        unfold recData at h1
        rw [HN.out.1] at h1; exact h1
      have HFIN : Hid (w.grownBy w3 none ∧ w3.heap[w.heap.size]? = some (.cells #[.int .i64 0, .slice none 0 0] 85 (0, 0)) ∧ Own w3 5 g2 ((zs.drop 12).take n) ∧ w.heap.size < g2) := ⟨hwg, hRes3, hO23, by have := F.out.2.2.2.2; omega⟩; clear F hN hO3 hG3 hW13 hwg hRq3 hRes3 hO23 hSL3 cr0 cr1 hEz hZz hg3; generalize strB (enc z4 ((zs.drop 12).take n)) = s1 at *; generalize strB (zs.take (12 + n + p)) = s2 at *; generalize strB ((enc z4 ((zs.drop 12).take n)).take 12) = s3 at *; generalize strB (zs.take 12) = s4 at *
      have r1 : (12 : Int) + n + p ≤ (cap : Int) := by omega
      have r2 : (0 : Int) ≤ (12 : Int) + n + p := by omega
      have r3 : ((12 : Int) + n + p).toNat = 12 + n + p := by omega
      have r4 : (12 : Int) ≤ (cp3 : Int) := by omega
      have r5 : (12 : Int) ≤ (cap : Int) := by omega
      have hcv5 : ∀ j k, (convert 37 9 (.slice (some ⟨g3, 0, none⟩) 12 cp3)).run Tryz.prog ((w3.drewN j).drewN k) = .ok (.string s3) ((w3.drewN j).drewN k) := fun j k => by rw [World.drewN_drewN]; exact hcv3 _
      have hcv6 : ∀ j k, (convert 37 9 (.slice (some ⟨b, off, none⟩) 12 cap)).run Tryz.prog ((w3.drewN j).drewN k) = .ok (.string s4) ((w3.drewN j).drewN k) := fun j k => by rw [World.drewN_drewN]; exact hcv4 _
      by_cases hw : enc z4 ((zs.drop 12).take n) = zs.take (12 + n + p)
      · rw [decide_eq_true hw] at hE1; have HX : Hid (¬ sumBad zs ∧ ¬ padBad zs) := hM1.1 hw; clear hw hE2 hM1 hM2; go_wp2; go_quiet (fail); go_wp2
        have hne : g2 ≠ w.heap.size := by have := HFIN.out.2.2.2; omega
        refine bodyPost_ret (results_rec (x := .int .i64 (z4 : Int)) (y := .slice (some ⟨g2, 0, none⟩) n cp2) rfl rfl (set2_block HFIN.out.2.1)) rfl ?_; refine ⟨grownBy_setNew (grownBy_setNew (grownBy_same HFIN.out.1 ⟨rfl, rfl, rfl, rfl⟩) (Nat.le_refl _)) (Nat.le_refl _), .inr (.inr (.inr ⟨by rw [HN.out.2.2]; omega, HX.out.1, HX.out.2, g2, cp2, ⟨by have := HFIN.out.2.2.2; omega, by rw [HN.out.1]; exact HCP.out.1, HCP.out.2⟩, ?_, by rw [HN.out.1, HN.out.2.1, HN.out.2.2]; rfl⟩))⟩
        unfold recData
        rw [HN.out.1]; exact ((HFIN.out.2.2.1.heap (w' := w3.drewN nq) rfl).setOther (a := ⟨w.heap.size, 0, none⟩) hne).setOther (a := ⟨w.heap.size, 1, none⟩) hne
      · rw [decide_eq_false hw] at hE1
        have HX : Hid (¬ (¬ sumBad zs ∧ ¬ padBad zs)) := fun h => hw (hM1.2 h)
        clear hM1
        by_cases hw2 : (enc z4 ((zs.drop 12).take n)).take 12 = zs.take 12
        · rw [decide_eq_true hw2] at hE2; have HY : Hid (¬ sumBad zs ∧ padBad zs) := ⟨hM2.1 hw2, Classical.byContradiction fun h => HX.out ⟨hM2.1 hw2, h⟩⟩; clear hw hw2 hM2; go_wp2; go_quiet (fail); go_wp2; go_quiet (fail); go_wp2; refine bodyPost_ret (results_rec (x := .int .i64 0) (y := .slice none 0 0) rfl rfl (set2_block HFIN.out.2.1)) rfl ?_; exact ⟨grownBy_setNew (grownBy_setNew (grownBy_same HFIN.out.1 ⟨rfl, rfl, rfl, rfl⟩) (Nat.le_refl _)) (Nat.le_refl _), .inr (.inr (.inl ⟨by rw [HN.out.2.2]; omega, HY.out.1, HY.out.2, rfl⟩))⟩
        · rw [decide_eq_false hw2] at hE2
          have HY : Hid (sumBad zs) := Classical.byContradiction fun h => hw2 (hM2.2 h)
          clear hw hw2 hM2; go_wp2; go_quiet (fail); go_wp2; go_quiet (fail); go_wp2; refine bodyPost_ret (results_rec (x := .int .i64 0) (y := .slice none 0 0) rfl rfl (set2_block HFIN.out.2.1)) rfl ?_; exact ⟨grownBy_setNew (grownBy_setNew (grownBy_same HFIN.out.1 ⟨rfl, rfl, rfl, rfl⟩) (Nat.le_refl _)) (Nat.le_refl _), .inr (.inl ⟨by rw [HN.out.2.2]; omega, HY.out, rfl⟩)⟩
    · have HCP : Hid (n ≤ cp2 ∧ cp2 ≤ maxLen) := by have h9 := hown2.out; rw [Nat.zero_add] at h9; exact ownsRow_caps3 h9
      have F : Hid (((w2.setCell ⟨W1.heap.size + 1, 0, none⟩ (.int .i64 (z4 : Int))).setCell ⟨W1.heap.size + 1, 1, none⟩ (.slice (some ⟨g2, 0, none⟩) n cp2)).heap[W1.heap.size + 1]? = some (.cells #[.int .i64 (z4 : Int), .slice (some ⟨g2, 0, none⟩) n cp2] 85 (0, 0)) ∧ W1.heap.size ≤ W1.heap.size + 1 ∧ W1.grownBy ((w2.setCell ⟨W1.heap.size + 1, 0, none⟩ (.int .i64 (z4 : Int))).setCell ⟨W1.heap.size + 1, 1, none⟩ (.slice (some ⟨g2, 0, none⟩) n cp2)) none ∧ Own ((w2.setCell ⟨W1.heap.size + 1, 0, none⟩ (.int .i64 (z4 : Int))).setCell ⟨W1.heap.size + 1, 1, none⟩ (.slice (some ⟨g2, 0, none⟩) n cp2)) 5 g2 ((zs.drop 12).take n) ∧ W1.heap.size ≤ g2) := by
        have hO := own_made (zs := (zs.drop 12).take n) (by have := hown2.out; rwa [Nat.zero_add, List.nil_append] at this) HD.out.2.1; exact ⟨(heap_setCell_same _ (W1.heap.size + 1) 1 _ _ _ (heap_setCell_same w2 (W1.heap.size + 1) 0 _ _ _ hr2)).trans (by simp), Nat.le_succ _, grownBy_setNew (grownBy_setNew HC2.out (Nat.le_succ _)) (Nat.le_succ _), (hO.setOther (fun e => own_neC hO hr2 e)).setOther (fun e => own_neC hO hr2 e), (hown2.out.lt g2 rfl).1⟩
      clear hown2 hgr2 hat2 c42 hb2 HX1 HX2 HX3 HX4 HX5 HO3 HR2 HR3 HC2; generalize (w2.setCell ⟨W1.heap.size + 1, 0, none⟩ (.int .i64 (z4 : Int))).setCell ⟨W1.heap.size + 1, 1, none⟩ (.slice (some ⟨g2, 0, none⟩) n cp2) = W2 at F ⊢
      have hdl : ((zs.drop 12).take n).length = n := by simp; omega
      have cr0 : W2.cell? ⟨W1.heap.size + 1, 0, none⟩ = some (.int .i64 (z4 : Int)) := by simp [World.cell?, F.out.1]
      have cr1 : W2.cell? ⟨W1.heap.size + 1, 1, none⟩ = some (.slice (some ⟨g2, 0, none⟩) n cp2) := by simp [World.cell?, F.out.1]
      have HEN : Hid (Calls _ _ _ _ _) := specEncode_ok z4 (some ⟨g2, 0, none⟩) n cp2 ((zs.drop 12).take n) W2 (by omega) (by omega) (by omega) (F.out.2.2.2.1.sl n hdl); go_wp2_with fail; refine HEN.out.mono ?_; clear HEN; rintro e w3 ⟨g3, N, cp3, rfl, hN, hg3, hO3, hG3, hNc⟩
      have hNN : N = 12 + n + p := by rw [hN, enc_len, hdl, HPP.out]
      subst hNN
      have hrl : w.heap.size < W1.heap.size := by have := HW1.out.2.2.1; omega
      have hW13 : W1.grownBy w3 none := grownBy_trans F.out.2.2.1 hG3; have hwg : w.grownBy w3 none := grownBy_trans HW1.out.1 hW13; have hRq3 : w3.heap[W1.heap.size + 1]? = some (.cells #[.int .i64 (z4 : Int), .slice (some ⟨g2, 0, none⟩) n cp2] 85 (0, 0)) := (hG3.block _ (Array.getElem?_eq_some_iff.1 F.out.1).1 (by simp)).trans F.out.1; have hRes3 : w3.heap[w.heap.size]? = some (.cells #[.int .i64 0, .slice none 0 0] 85 (0, 0)) := (hW13.block _ hrl (by simp)).trans HW1.out.2.1; have hO23 : Own w3 5 g2 ((zs.drop 12).take n) := F.out.2.2.2.1.grown hG3 (by simp); have hSL3 : SlB w3 (some ⟨b, off, none⟩) len zs := HSL.out.grown0 hwg
      have cr03 : w3.cell? ⟨W1.heap.size + 1, 0, none⟩ = some (.int .i64 (z4 : Int)) := by simp [World.cell?, hRq3]
      have cr13 : w3.cell? ⟨W1.heap.size + 1, 1, none⟩ = some (.slice (some ⟨g2, 0, none⟩) n cp2) := by simp [World.cell?, hRq3]
      have ce0 : w3.cell? ⟨w.heap.size, 0, none⟩ = some (.int .i64 0) := by simp [World.cell?, hRes3]
      have ce1 : w3.cell? ⟨w.heap.size, 1, none⟩ = some (.slice none 0 0) := by simp [World.cell?, hRes3]
      have fe0 : w3.frozen? ⟨w.heap.size, 0, none⟩ = false := by simp [World.frozen?, hRes3]
      have fe1 : w3.frozen? ⟨w.heap.size, 1, none⟩ = false := by simp [World.frozen?, hRes3]
      have hcv1 : ∀ k, (convert 37 9 (.slice (some ⟨g3, 0, none⟩) (12 + n + p) cp3)).run Tryz.prog (w3.drewN k) = .ok (.string (strB (enc z4 ((zs.drop 12).take n)))) (w3.drewN k) := fun k => run_str_b (w3.drewN k) Tryz.underlying37 Tryz.underlying5 Tryz.underlying9 ((hO3.sl _ hN.symm).heap rfl) cp3
      have hcv2 : ∀ k, (convert 37 9 (.slice (some ⟨b, off, none⟩) (12 + n + p) cap)).run Tryz.prog (w3.drewN k) = .ok (.string (strB (zs.take (12 + n + p)))) (w3.drewN k) := fun k => run_str_b (w3.drewN k) Tryz.underlying37 Tryz.underlying5 Tryz.underlying9 ((hSL3.take _ (by omega)).heap rfl) cap
      have hcv3 : ∀ k, (convert 37 9 (.slice (some ⟨g3, 0, none⟩) 12 cp3)).run Tryz.prog (w3.drewN k) = .ok (.string (strB ((enc z4 ((zs.drop 12).take n)).take 12))) (w3.drewN k) := fun k => run_str_b (w3.drewN k) Tryz.underlying37 Tryz.underlying5 Tryz.underlying9 (((hO3.sl _ hN.symm).take 12 (by omega)).heap rfl) cp3
      have hcv4 : ∀ k, (convert 37 9 (.slice (some ⟨b, off, none⟩) 12 cap)).run Tryz.prog (w3.drewN k) = .ok (.string (strB (zs.take 12))) (w3.drewN k) := fun k => run_str_b (w3.drewN k) Tryz.underlying37 Tryz.underlying5 Tryz.underlying9 ((hSL3.take 12 (by omega)).heap rfl) cap
      have hEz : ∀ z ∈ enc z4 ((zs.drop 12).take n), z < 256 := hO3.1; have hZz : ∀ z ∈ zs, z < 256 := HSL.out.2.1; have hE1 := strB_eq (enc z4 ((zs.drop 12).take n)) (zs.take (12 + n + p)) hEz (fun z hz => hZz z (List.mem_of_mem_take hz)); have hE2 := strB_eq ((enc z4 ((zs.drop 12).take n)).take 12) (zs.take 12) (fun z hz => hEz z (List.mem_of_mem_take hz)) (fun z hz => hZz z (List.mem_of_mem_take hz))
      have hM1 : enc z4 ((zs.drop 12).take n) = zs.take (12 + n + p) ↔ ¬ sumBad zs ∧ ¬ padBad zs := by
        have h1 := whole_eq zs hZz (by omega) HOK.out (by rw [HN.out.2.2]; omega); rw [HN.out.2.2, HN.out.2.1] at h1
        unfold recData at h1
        rw [HN.out.1] at h1; exact h1
      have hM2 : (enc z4 ((zs.drop 12).take n)).take 12 = zs.take 12 ↔ ¬ sumBad zs := by
        have h1 := twelve_eq zs hZz (by omega) HOK.out (by rw [HN.out.1]; omega); rw [HN.out.2.1] at h1
        unfold recData at h1
        rw [HN.out.1] at h1; exact h1
      have HFIN : Hid (w.grownBy w3 none ∧ w3.heap[w.heap.size]? = some (.cells #[.int .i64 0, .slice none 0 0] 85 (0, 0)) ∧ Own w3 5 g2 ((zs.drop 12).take n) ∧ w.heap.size < g2) := ⟨hwg, hRes3, hO23, by have := F.out.2.2.2.2; omega⟩; clear F hN hO3 hG3 hW13 hwg hRq3 hRes3 hO23 hSL3 cr0 cr1 hEz hZz hg3; generalize strB (enc z4 ((zs.drop 12).take n)) = s1 at *; generalize strB (zs.take (12 + n + p)) = s2 at *; generalize strB ((enc z4 ((zs.drop 12).take n)).take 12) = s3 at *; generalize strB (zs.take 12) = s4 at *
      have r1 : (12 : Int) + n + p ≤ (cap : Int) := by omega
      have r2 : (0 : Int) ≤ (12 : Int) + n + p := by omega
      have r3 : ((12 : Int) + n + p).toNat = 12 + n + p := by omega
      have r4 : (12 : Int) ≤ (cp3 : Int) := by omega
      have r5 : (12 : Int) ≤ (cap : Int) := by omega
      have hcv5 : ∀ j k, (convert 37 9 (.slice (some ⟨g3, 0, none⟩) 12 cp3)).run Tryz.prog ((w3.drewN j).drewN k) = .ok (.string s3) ((w3.drewN j).drewN k) := fun j k => by rw [World.drewN_drewN]; exact hcv3 _
      have hcv6 : ∀ j k, (convert 37 9 (.slice (some ⟨b, off, none⟩) 12 cap)).run Tryz.prog ((w3.drewN j).drewN k) = .ok (.string s4) ((w3.drewN j).drewN k) := fun j k => by rw [World.drewN_drewN]; exact hcv4 _
      by_cases hw : enc z4 ((zs.drop 12).take n) = zs.take (12 + n + p)
      · rw [decide_eq_true hw] at hE1; have HX : Hid (¬ sumBad zs ∧ ¬ padBad zs) := hM1.1 hw; clear hw hE2 hM1 hM2; go_wp2; go_quiet (fail); go_wp2
        have hne : g2 ≠ w.heap.size := by have := HFIN.out.2.2.2; omega
        refine bodyPost_ret (results_rec (x := .int .i64 (z4 : Int)) (y := .slice (some ⟨g2, 0, none⟩) n cp2) rfl rfl (set2_block HFIN.out.2.1)) rfl ?_; refine ⟨grownBy_setNew (grownBy_setNew (grownBy_same HFIN.out.1 ⟨rfl, rfl, rfl, rfl⟩) (Nat.le_refl _)) (Nat.le_refl _), .inr (.inr (.inr ⟨by rw [HN.out.2.2]; omega, HX.out.1, HX.out.2, g2, cp2, ⟨by have := HFIN.out.2.2.2; omega, by rw [HN.out.1]; exact HCP.out.1, HCP.out.2⟩, ?_, by rw [HN.out.1, HN.out.2.1, HN.out.2.2]; rfl⟩))⟩
        unfold recData
        rw [HN.out.1]; exact ((HFIN.out.2.2.1.heap (w' := w3.drewN nq) rfl).setOther (a := ⟨w.heap.size, 0, none⟩) hne).setOther (a := ⟨w.heap.size, 1, none⟩) hne
      · rw [decide_eq_false hw] at hE1
        have HX : Hid (¬ (¬ sumBad zs ∧ ¬ padBad zs)) := fun h => hw (hM1.2 h)
        clear hM1
        by_cases hw2 : (enc z4 ((zs.drop 12).take n)).take 12 = zs.take 12
        · rw [decide_eq_true hw2] at hE2; have HY : Hid (¬ sumBad zs ∧ padBad zs) := ⟨hM2.1 hw2, Classical.byContradiction fun h => HX.out ⟨hM2.1 hw2, h⟩⟩; clear hw hw2 hM2; go_wp2; go_quiet (fail); go_wp2; go_quiet (fail); go_wp2; refine bodyPost_ret (results_rec (x := .int .i64 0) (y := .slice none 0 0) rfl rfl (set2_block HFIN.out.2.1)) rfl ?_; exact ⟨grownBy_setNew (grownBy_setNew (grownBy_same HFIN.out.1 ⟨rfl, rfl, rfl, rfl⟩) (Nat.le_refl _)) (Nat.le_refl _), .inr (.inr (.inl ⟨by rw [HN.out.2.2]; omega, HY.out.1, HY.out.2, rfl⟩))⟩
        · rw [decide_eq_false hw2] at hE2
          have HY : Hid (sumBad zs) := Classical.byContradiction fun h => hw2 (hM2.2 h)
          clear hw hw2 hM2; go_wp2; go_quiet (fail); go_wp2; go_quiet (fail); go_wp2; refine bodyPost_ret (results_rec (x := .int .i64 0) (y := .slice none 0 0) rfl rfl (set2_block HFIN.out.2.1)) rfl ?_; exact ⟨grownBy_setNew (grownBy_setNew (grownBy_same HFIN.out.1 ⟨rfl, rfl, rfl, rfl⟩) (Nat.le_refl _)) (Nat.le_refl _), .inr (.inl ⟨by rw [HN.out.2.2]; omega, HY.out, rfl⟩)⟩
    · have HCP : Hid (n ≤ cp2 ∧ cp2 ≤ maxLen) := by have h9 := hown2.out; rw [Nat.zero_add] at h9; exact ownsRow_caps3 h9
      have F : Hid (((w2.setCell ⟨W1.heap.size, 0, none⟩ (.int .i64 (z4 : Int))).setCell ⟨W1.heap.size, 1, none⟩ (.slice (some ⟨g2, 0, none⟩) n cp2)).heap[W1.heap.size]? = some (.cells #[.int .i64 (z4 : Int), .slice (some ⟨g2, 0, none⟩) n cp2] 85 (0, 0)) ∧ W1.heap.size ≤ W1.heap.size ∧ W1.grownBy ((w2.setCell ⟨W1.heap.size, 0, none⟩ (.int .i64 (z4 : Int))).setCell ⟨W1.heap.size, 1, none⟩ (.slice (some ⟨g2, 0, none⟩) n cp2)) none ∧ Own ((w2.setCell ⟨W1.heap.size, 0, none⟩ (.int .i64 (z4 : Int))).setCell ⟨W1.heap.size, 1, none⟩ (.slice (some ⟨g2, 0, none⟩) n cp2)) 5 g2 ((zs.drop 12).take n) ∧ W1.heap.size ≤ g2) := by
        have hO := own_made (zs := (zs.drop 12).take n) (by have := hown2.out; rwa [Nat.zero_add, List.nil_append] at this) HD.out.2.1; exact ⟨(heap_setCell_same _ (W1.heap.size) 1 _ _ _ (heap_setCell_same w2 (W1.heap.size) 0 _ _ _ hr2)).trans (by simp), Nat.le_refl _, grownBy_setNew (grownBy_setNew HC2.out (Nat.le_refl _)) (Nat.le_refl _), (hO.setOther (fun e => own_neC hO hr2 e)).setOther (fun e => own_neC hO hr2 e), (hown2.out.lt g2 rfl).1⟩
      clear hown2 hgr2 hat2 c42 hb2 HX1 HX2 HX3 HX4 HX5 HO3 HR2 HR3 HC2; generalize (w2.setCell ⟨W1.heap.size, 0, none⟩ (.int .i64 (z4 : Int))).setCell ⟨W1.heap.size, 1, none⟩ (.slice (some ⟨g2, 0, none⟩) n cp2) = W2 at F ⊢
      have hdl : ((zs.drop 12).take n).length = n := by simp; omega
      have cr0 : W2.cell? ⟨W1.heap.size, 0, none⟩ = some (.int .i64 (z4 : Int)) := by simp [World.cell?, F.out.1]
      have cr1 : W2.cell? ⟨W1.heap.size, 1, none⟩ = some (.slice (some ⟨g2, 0, none⟩) n cp2) := by simp [World.cell?, F.out.1]
      have HEN : Hid (Calls _ _ _ _ _) := specEncode_ok z4 (some ⟨g2, 0, none⟩) n cp2 ((zs.drop 12).take n) W2 (by omega) (by omega) (by omega) (F.out.2.2.2.1.sl n hdl); go_wp2_with fail; refine HEN.out.mono ?_; clear HEN; rintro e w3 ⟨g3, N, cp3, rfl, hN, hg3, hO3, hG3, hNc⟩
      have hNN : N = 12 + n + p := by rw [hN, enc_len, hdl, HPP.out]
      subst hNN
      have hrl : w.heap.size < W1.heap.size := by have := HW1.out.2.2.1; omega
      have hW13 : W1.grownBy w3 none := grownBy_trans F.out.2.2.1 hG3; have hwg : w.grownBy w3 none := grownBy_trans HW1.out.1 hW13; have hRq3 : w3.heap[W1.heap.size]? = some (.cells #[.int .i64 (z4 : Int), .slice (some ⟨g2, 0, none⟩) n cp2] 85 (0, 0)) := (hG3.block _ (Array.getElem?_eq_some_iff.1 F.out.1).1 (by simp)).trans F.out.1; have hRes3 : w3.heap[w.heap.size]? = some (.cells #[.int .i64 0, .slice none 0 0] 85 (0, 0)) := (hW13.block _ hrl (by simp)).trans HW1.out.2.1; have hO23 : Own w3 5 g2 ((zs.drop 12).take n) := F.out.2.2.2.1.grown hG3 (by simp); have hSL3 : SlB w3 (some ⟨b, off, none⟩) len zs := HSL.out.grown0 hwg
      have cr03 : w3.cell? ⟨W1.heap.size, 0, none⟩ = some (.int .i64 (z4 : Int)) := by simp [World.cell?, hRq3]
      have cr13 : w3.cell? ⟨W1.heap.size, 1, none⟩ = some (.slice (some ⟨g2, 0, none⟩) n cp2) := by simp [World.cell?, hRq3]
      have ce0 : w3.cell? ⟨w.heap.size, 0, none⟩ = some (.int .i64 0) := by simp [World.cell?, hRes3]
      have ce1 : w3.cell? ⟨w.heap.size, 1, none⟩ = some (.slice none 0 0) := by simp [World.cell?, hRes3]
      have fe0 : w3.frozen? ⟨w.heap.size, 0, none⟩ = false := by simp [World.frozen?, hRes3]
      have fe1 : w3.frozen? ⟨w.heap.size, 1, none⟩ = false := by simp [World.frozen?, hRes3]
      have hcv1 : ∀ k, (convert 37 9 (.slice (some ⟨g3, 0, none⟩) (12 + n + p) cp3)).run Tryz.prog (w3.drewN k) = .ok (.string (strB (enc z4 ((zs.drop 12).take n)))) (w3.drewN k) := fun k => run_str_b (w3.drewN k) Tryz.underlying37 Tryz.underlying5 Tryz.underlying9 ((hO3.sl _ hN.symm).heap rfl) cp3
      have hcv2 : ∀ k, (convert 37 9 (.slice (some ⟨b, off, none⟩) (12 + n + p) cap)).run Tryz.prog (w3.drewN k) = .ok (.string (strB (zs.take (12 + n + p)))) (w3.drewN k) := fun k => run_str_b (w3.drewN k) Tryz.underlying37 Tryz.underlying5 Tryz.underlying9 ((hSL3.take _ (by omega)).heap rfl) cap
      have hcv3 : ∀ k, (convert 37 9 (.slice (some ⟨g3, 0, none⟩) 12 cp3)).run Tryz.prog (w3.drewN k) = .ok (.string (strB ((enc z4 ((zs.drop 12).take n)).take 12))) (w3.drewN k) := fun k => run_str_b (w3.drewN k) Tryz.underlying37 Tryz.underlying5 Tryz.underlying9 (((hO3.sl _ hN.symm).take 12 (by omega)).heap rfl) cp3
      have hcv4 : ∀ k, (convert 37 9 (.slice (some ⟨b, off, none⟩) 12 cap)).run Tryz.prog (w3.drewN k) = .ok (.string (strB (zs.take 12))) (w3.drewN k) := fun k => run_str_b (w3.drewN k) Tryz.underlying37 Tryz.underlying5 Tryz.underlying9 ((hSL3.take 12 (by omega)).heap rfl) cap
      have hEz : ∀ z ∈ enc z4 ((zs.drop 12).take n), z < 256 := hO3.1; have hZz : ∀ z ∈ zs, z < 256 := HSL.out.2.1; have hE1 := strB_eq (enc z4 ((zs.drop 12).take n)) (zs.take (12 + n + p)) hEz (fun z hz => hZz z (List.mem_of_mem_take hz)); have hE2 := strB_eq ((enc z4 ((zs.drop 12).take n)).take 12) (zs.take 12) (fun z hz => hEz z (List.mem_of_mem_take hz)) (fun z hz => hZz z (List.mem_of_mem_take hz))
      have hM1 : enc z4 ((zs.drop 12).take n) = zs.take (12 + n + p) ↔ ¬ sumBad zs ∧ ¬ padBad zs := by
        have h1 := whole_eq zs hZz (by omega) HOK.out (by rw [HN.out.2.2]; omega); rw [HN.out.2.2, HN.out.2.1] at h1
        unfold recData at h1
        rw [HN.out.1] at h1; exact h1
      have hM2 : (enc z4 ((zs.drop 12).take n)).take 12 = zs.take 12 ↔ ¬ sumBad zs := by
        have h1 := twelve_eq zs hZz (by omega) HOK.out (by rw [HN.out.1]; omega); rw [HN.out.2.1] at h1
        unfold recData at h1
        rw [HN.out.1] at h1; exact h1
      have HFIN : Hid (w.grownBy w3 none ∧ w3.heap[w.heap.size]? = some (.cells #[.int .i64 0, .slice none 0 0] 85 (0, 0)) ∧ Own w3 5 g2 ((zs.drop 12).take n) ∧ w.heap.size < g2) := ⟨hwg, hRes3, hO23, by have := F.out.2.2.2.2; omega⟩; clear F hN hO3 hG3 hW13 hwg hRq3 hRes3 hO23 hSL3 cr0 cr1 hEz hZz hg3; generalize strB (enc z4 ((zs.drop 12).take n)) = s1 at *; generalize strB (zs.take (12 + n + p)) = s2 at *; generalize strB ((enc z4 ((zs.drop 12).take n)).take 12) = s3 at *; generalize strB (zs.take 12) = s4 at *
      have r1 : (12 : Int) + n + p ≤ (cap : Int) := by omega
      have r2 : (0 : Int) ≤ (12 : Int) + n + p := by omega
      have r3 : ((12 : Int) + n + p).toNat = 12 + n + p := by omega
      have r4 : (12 : Int) ≤ (cp3 : Int) := by omega
      have r5 : (12 : Int) ≤ (cap : Int) := by omega
      have hcv5 : ∀ j k, (convert 37 9 (.slice (some ⟨g3, 0, none⟩) 12 cp3)).run Tryz.prog ((w3.drewN j).drewN k) = .ok (.string s3) ((w3.drewN j).drewN k) := fun j k => by rw [World.drewN_drewN]; exact hcv3 _
      have hcv6 : ∀ j k, (convert 37 9 (.slice (some ⟨b, off, none⟩) 12 cap)).run Tryz.prog ((w3.drewN j).drewN k) = .ok (.string s4) ((w3.drewN j).drewN k) := fun j k => by rw [World.drewN_drewN]; exact hcv4 _
      by_cases hw : enc z4 ((zs.drop 12).take n) = zs.take (12 + n + p)
      · rw [decide_eq_true hw] at hE1; have HX : Hid (¬ sumBad zs ∧ ¬ padBad zs) := hM1.1 hw; clear hw hE2 hM1 hM2; go_wp2; go_quiet (fail); go_wp2
        have hne : g2 ≠ w.heap.size := by have := HFIN.out.2.2.2; omega
        refine bodyPost_ret (results_rec (x := .int .i64 (z4 : Int)) (y := .slice (some ⟨g2, 0, none⟩) n cp2) rfl rfl (set2_block HFIN.out.2.1)) rfl ?_; refine ⟨grownBy_setNew (grownBy_setNew (grownBy_same HFIN.out.1 ⟨rfl, rfl, rfl, rfl⟩) (Nat.le_refl _)) (Nat.le_refl _), .inr (.inr (.inr ⟨by rw [HN.out.2.2]; omega, HX.out.1, HX.out.2, g2, cp2, ⟨by have := HFIN.out.2.2.2; omega, by rw [HN.out.1]; exact HCP.out.1, HCP.out.2⟩, ?_, by rw [HN.out.1, HN.out.2.1, HN.out.2.2]; rfl⟩))⟩
        unfold recData
        rw [HN.out.1]; exact ((HFIN.out.2.2.1.heap (w' := w3.drewN nq) rfl).setOther (a := ⟨w.heap.size, 0, none⟩) hne).setOther (a := ⟨w.heap.size, 1, none⟩) hne
      · rw [decide_eq_false hw] at hE1
        have HX : Hid (¬ (¬ sumBad zs ∧ ¬ padBad zs)) := fun h => hw (hM1.2 h)
        clear hM1
        by_cases hw2 : (enc z4 ((zs.drop 12).take n)).take 12 = zs.take 12
        · rw [decide_eq_true hw2] at hE2; have HY : Hid (¬ sumBad zs ∧ padBad zs) := ⟨hM2.1 hw2, Classical.byContradiction fun h => HX.out ⟨hM2.1 hw2, h⟩⟩; clear hw hw2 hM2; go_wp2; go_quiet (fail); go_wp2; go_quiet (fail); go_wp2; refine bodyPost_ret (results_rec (x := .int .i64 0) (y := .slice none 0 0) rfl rfl (set2_block HFIN.out.2.1)) rfl ?_; exact ⟨grownBy_setNew (grownBy_setNew (grownBy_same HFIN.out.1 ⟨rfl, rfl, rfl, rfl⟩) (Nat.le_refl _)) (Nat.le_refl _), .inr (.inr (.inl ⟨by rw [HN.out.2.2]; omega, HY.out.1, HY.out.2, rfl⟩))⟩
        · rw [decide_eq_false hw2] at hE2
          have HY : Hid (sumBad zs) := Classical.byContradiction fun h => hw2 (hM2.2 h)
          clear hw hw2 hM2; go_wp2; go_quiet (fail); go_wp2; go_quiet (fail); go_wp2; refine bodyPost_ret (results_rec (x := .int .i64 0) (y := .slice none 0 0) rfl rfl (set2_block HFIN.out.2.1)) rfl ?_; exact ⟨grownBy_setNew (grownBy_setNew (grownBy_same HFIN.out.1 ⟨rfl, rfl, rfl, rfl⟩) (Nat.le_refl _)) (Nat.le_refl _), .inr (.inl ⟨by rw [HN.out.2.2]; omega, HY.out, rfl⟩)⟩
theorem Tryz.infoRec2 : (Tryz.prog.info? 85).map (fun i => (i.zero, i.size, i.bytes)) = some (some (.agg #[.int .i64 0, .slice none 0 0]), 2, 32) := by kernel_rfl

theorem l2One_any (oa : Option Addr) (len cap : Nat) (zs : List Nat) (w : World) (hsl : SlB w oa len zs) (hlc : len ≤ cap) (hm : cap ≤ maxLen) (hm2 : len ≤ 1073741824) :
    Calls Tryz.prog 48 #[.slice oa len cap] w fun e w' => w.grownBy w' none ∧
      (((fault zs ≠ 0 ∨ zs.length = 0) ∧ e = .returned (.tuple #[.agg #[.int .i64 0, .slice none 0 0], .int .i64 0, .int .i64 ((fault zs : Nat) : Int)])) ∨
       (¬ (fault zs ≠ 0 ∨ zs.length = 0) ∧ ∃ g cp, (w.heap.size ≤ g ∧ recN zs ≤ cp ∧ cp ≤ maxLen) ∧ Own w' 5 g (recData zs) ∧ e = .returned (.tuple #[.agg #[.int .i64 ((zs.getD 4 0 : Nat) : Int), .slice (some ⟨g, 0, none⟩) (recN zs) cp], .int .i64 ((recSize zs : Nat) : Int), .int .i64 0]))) := by
  have hl := hsl.1
  by_cases h12 : len < 12
  · refine (l2One_short oa len cap w h12).mono ?_; rintro e w' ⟨rfl, hG⟩; refine ⟨hG, .inl ?_⟩
    by_cases h0 : len = 0
    · have hf : fault zs = 0 := by unfold fault; rw [if_pos (by omega)]
      exact ⟨.inr (by omega), by rw [if_pos h0, hf]; rfl⟩
    · have hf : fault zs = 1 := by unfold fault; rw [if_neg (by omega), if_pos (by omega)]
      exact ⟨.inl (by omega), by rw [if_neg h0, hf]; rfl⟩
  · obtain ⟨b, off, rfl, -⟩ := hsl.2.2 (by omega)
    by_cases hb : headBad zs
    · refine (l2One_head b off len cap zs w hsl (by omega) hlc hm2 hb).mono ?_; rintro e w' ⟨rfl, hG⟩
      have hf : fault zs = 2 := by unfold fault; rw [if_neg (by omega), if_neg (by omega), if_pos hb]
      exact ⟨hG, .inl ⟨.inl (by omega), by rw [hf]; rfl⟩⟩
    · refine (l2One_long b off len cap zs w hsl (by omega) hlc hm hm2 hb).mono ?_; rintro e w' ⟨hG, h⟩; refine ⟨hG, ?_⟩
      have hf : fault zs = if zs.length < recSize zs then 1 else if sumBad zs then 3 else if padBad zs then 4 else 0 := by
        unfold fault
        rw [if_neg (by omega), if_neg (by omega), if_neg hb]
      rw [hl] at hf
      rcases h with ⟨h1, rfl⟩ | ⟨h1, h2, rfl⟩ | ⟨h1, h2, h3, rfl⟩ | ⟨h1, h2, h3, g, cp, h4, h5, rfl⟩
      · rw [if_pos h1] at hf; exact .inl ⟨.inl (by omega), by rw [hf]; rfl⟩
      · rw [if_neg (by omega), if_pos h2] at hf; exact .inl ⟨.inl (by omega), by rw [hf]; rfl⟩
      · rw [if_neg (by omega), if_neg h2, if_pos h3] at hf; exact .inl ⟨.inl (by omega), by rw [hf]; rfl⟩
      · rw [if_neg (by omega), if_neg h2, if_neg h3] at hf; exact .inr ⟨by omega, g, cp, h4, h5, rfl⟩

set_option maxRecDepth 100000 in
set_option maxHeartbeats 4000000 in
theorem specScan_any (b off len cap : Nat) (zs : List Nat) (w : World) (hsl : SlB w (some ⟨b, off, none⟩) len zs) (hlc : len ≤ cap) (hm : cap ≤ maxLen) (hm2 : len ≤ 1048576) :
    Calls Tryz.prog 32 #[.slice (some ⟨b, off, none⟩) len cap] w fun e w' => ∃ v R, e = .returned (.tuple #[v, .int .i64 (((scan zs).2.1 : Nat) : Int), .int .i64 (((scan zs).2.2 : Nat) : Int)]) ∧ RecRow w' w.heap.size v R ∧ (R.map Rc.tell = (scan zs).1 ∧ ∀ r ∈ R, r.data.length ≤ r.cp ∧ r.cp ≤ maxLen) ∧ w.grownBy w' none := by
  have hl := hsl.1; have HSL : Hid (SlB w (some ⟨b, off, none⟩) len zs) := hsl; clear hsl; obtain ⟨i0, hi, hz0, hz1, hz2⟩ := info_parts Tryz.infoRec2
  unfold maxLen at hm
  go_enter Tryz.func32, Tryz.ntmps32
  go_wp2
  go_loopw [5, 6] (fun o i wr => ∃ (at_ : Nat) (pre : List (Nat × List Nat)) (R : List Rc) (g k c : Nat), At zs pre at_ ∧ i = .int .i64 (at_ : Int) ∧ o = .slice (some ⟨g, 0, none⟩) k c ∧ k = R.length ∧ RecRow wr w.heap.size o R ∧ (R.map Rc.tell = pre ∧ ∀ r ∈ R, r.data.length ≤ r.cp ∧ r.cp ≤ maxLen) ∧ w.grownBy wr none) (fun _ i _ => len - (intOf i).toNat)
  case atStart =>
    refine ⟨0, [], [], w.heap.size, 0, 0, At.zero zs, rfl, rfl, rfl, ⟨World.ownsRow_made w #[] 0 (Nat.le_refl _) (Nat.zero_le _) rfl, by simp, by simp⟩, ⟨rfl, by simp⟩, World.grownBy_alloc _ _ _⟩
  case round =>
    obtain ⟨at_, pre, R, gr, k, c, hAt, rfl, rfl, hk, hRR, htell, hG⟩ := hrel; subst hk; have hat := hAt.1; rw [hl] at hat; obtain ⟨ad, had⟩ : ∃ ad : Option Addr, (if cap = at_ then some (⟨b, off, none⟩ : Addr) else some ⟨b, off + at_, none⟩) = ad := ⟨_, rfl⟩
    have hrest : SlB wr ad (len - at_) (zs.drop at_) := by
      have h1 := (HSL.out.grown0 hG).cut at_ (len - at_) cap (by omega) hlc; rw [had, List.take_of_length_le (by simp; omega)] at h1; exact h1
    have HC : Hid (Calls _ _ _ _ _) := l2One_any ad (len - at_) (cap - at_) (zs.drop at_) wr hrest (by omega) (by unfold maxLen; omega) (by omega); have HW : Hid (At zs pre at_ ∧ RecRow wr w.heap.size (.slice (some ⟨gr, 0, none⟩) R.length c) R ∧ (R.map Rc.tell = pre ∧ ∀ r ∈ R, r.data.length ≤ r.cp ∧ r.cp ≤ maxLen) ∧ w.grownBy wr none) := ⟨hAt, hRR, htell, hG⟩
    have hatI : (at_ : Int) ≤ (len : Int) := by omega
    have hsz := hG.size; clear hAt hRR htell hG hrest; go_wp2_with fail; refine HC.out.mono ?_; clear HC; rintro e w1 ⟨hG1, (⟨hend, rfl⟩ | ⟨hne, g, cp, ⟨hg, hcp1, hcp2⟩, hO, rfl⟩)⟩
    · have HE : Hid (wr.grownBy w1 none ∧ scan zs = (pre, at_, fault (zs.drop at_))) := ⟨hG1, HW.out.1.done hend⟩; obtain ⟨f, hf⟩ : ∃ f, fault (zs.drop at_) = f := ⟨_, rfl⟩; rw [hf] at HE ⊢; clear hend hG1 hf; go_wp2
      go_ret3
      refine ⟨_, R, by rw [HE.out.2]; rfl, ?_, by rw [HE.out.2]; exact HW.out.2.2.1, grownBy_alloc (grownBy_trans HW.out.2.2.2 HE.out.1) _⟩; exact (HW.out.2.1.grown HE.out.1 (by simp)).grown (World.grownBy_alloc w1 _ none) (by simp)
    · have hok := fault_ok _ hne
      have hrs : 12 ≤ recSize (zs.drop at_) := by unfold recSize; omega
      have hrl := hok.2.2.1; simp only [List.length_drop, hl] at hrl; have hz4 : (zs.drop at_).getD 4 0 < 256 := HSL.out.2.1 _ (List.mem_of_mem_drop (Crc.getD_mem (zs.drop at_) 4 (by have := hok.1; omega))); have hdl : (recData (zs.drop at_)).length = recN (zs.drop at_) := recData_len _ (by have := hok.2.2.1; unfold recSize at this; omega)
      have hcnt : R.length < 87382 := by
        have h1 := HW.out.1.more hne; have h2 := scan_len zs; rw [← HW.out.2.2.1.1] at h1; simp only [List.length_map] at h1
        omega
      have HNX : Hid (At zs (pre ++ [((zs.drop at_).getD 4 0, recData (zs.drop at_))]) (at_ + recSize (zs.drop at_))) := HW.out.1.next hne; have HCP : Hid ((recData (zs.drop at_)).length ≤ cp ∧ cp ≤ maxLen) := ⟨by rw [hdl]; exact hcp1, hcp2⟩; have HE : Hid (wr.grownBy w1 none ∧ wr.heap.size ≤ g ∧ Own w1 5 g (recData (zs.drop at_))) := ⟨hG1, hg, hO⟩; obtain ⟨ty, hty⟩ : ∃ z, (zs.drop at_).getD 4 0 = z := ⟨_, rfl⟩; obtain ⟨D, hD⟩ : ∃ z, recData (zs.drop at_) = z := ⟨_, rfl⟩; obtain ⟨rs, hrse⟩ : ∃ z, recSize (zs.drop at_) = z := ⟨_, rfl⟩; rw [hty] at hz4 HNX ⊢; rw [hD] at hdl HNX HE HCP; rw [hrse] at hrs hrl HNX ⊢; rw [← hdl]; clear hok hne hG1 hg hO hty hD hrse hdl had hcp1 hcp2
      have hrz : ((rs : Int) == 0) = false := by rw [beq_eq_false_iff_ne]; omega
      go_wp2_with (at_builtin; refine wpList_append_own _ rfl _ _ 77 rfl w.heap.size 85 i0 (.agg #[.int .i64 0, .slice none 0 0]) 2 32 Tryz.underlying77 hi hz0 hz1 hz2 rfl (by decide) (.slice (some ⟨gr, 0, none⟩) R.length c) R.length (R.flatMap Rc.cells) rfl (by exact (((HW.out.2.1.grown HE.out.1 (by simp)).1.alloc _).alloc _)) ⟨w1.heap.size + 1, 0, none⟩ 1 1 [.int .i64 (ty : Int), .slice (some ⟨g, 0, none⟩) D.length cp] rfl rfl ?c1 ?c2 ?c3 ?c4 ?c5 ?_)
      case c1 =>
        intro j u hj; have hX := heap_two w1 (.cells #[.int .i64 (ty : Int), .slice (some ⟨g, 0, none⟩) D.length cp] 85) (.cells #[.int .i64 (ty : Int), .slice (some ⟨g, 0, none⟩) D.length cp] 85)
        match j, hj with
        | 0, hj => simp at hj; subst hj; exact cell_of_row _ _ 0 _ _ _ hX
        | 1, hj => simp at hj; subst hj; exact cell_of_row _ _ 1 _ _ _ hX
      case c2 => intro u hu; simp at hu; rcases hu with rfl | rfl <;> rfl
      case c3 => unfold maxLen; omega
      case c4 => omega
      case c5 => have := HE.out.1.size; simp; omega
      intro v' w2 hown' hgrow _; obtain ⟨g', cap', rfl⟩ := ownsRow_succ hown'; have hX1 : w1.grownBy ((w1.alloc (.cells #[.int .i64 (ty : Int), .slice (some ⟨g, 0, none⟩) D.length cp] 85)).alloc (.cells #[.int .i64 (ty : Int), .slice (some ⟨g, 0, none⟩) D.length cp] 85)) none := grownBy_alloc (World.grownBy_alloc w1 _ none) _; have hXR := (HW.out.2.1.grown HE.out.1 (by simp)).grown hX1 (by simp)
      have hfresh : g ∉ R.map Rc.g := by
        intro hm'; obtain ⟨r, hr, rfl⟩ := List.mem_map.1 hm'; have := HW.out.2.1.lt r hr; have := HE.out.2.1
        omega
      have hRR2 : RecRow w2 w.heap.size (.slice (some ⟨g', 0, none⟩) (R.length + 1) cap') (R ++ [⟨ty, D, g, cp⟩]) :=
        hXR.append (r := ⟨ty, D, g, cp⟩) (HE.out.2.2.grown hX1 (by simp)) (Nat.le_trans hsz HE.out.2.1) hfresh hown' hgrow
      have hG2 : w.grownBy w2 none := grownBy_row (grownBy_trans (grownBy_trans HW.out.2.2.2 HE.out.1) hX1) hgrow (fun k hk => (hXR.1.lt k hk).1); have HF : Hid (RecRow w2 w.heap.size (.slice (some ⟨g', 0, none⟩) (R.length + 1) cap') (R ++ [⟨ty, D, g, cp⟩]) ∧ w.grownBy w2 none) := ⟨hRR2, hG2⟩; clear hRR2 hG2 hX1 hXR hfresh hown' hgrow; go_wp2; go_roundw
      case rel => exact ⟨at_ + rs, _, R ++ [⟨ty, D, g, cp⟩], g', R.length + 1, cap', HNX.out, by go_num, rfl, by simp, HF.out.1, ⟨by rw [List.map_append, HW.out.2.2.1.1]; rfl, fun r hr => by
        rcases List.mem_append.1 hr with h9 | h9
        · exact HW.out.2.2.1.2 r h9
        · simp only [List.mem_cons, List.not_mem_nil, or_false] at h9; subst h9
          exact HCP.out⟩, HF.out.2⟩
      case measure => simp [intOf]; omega
def SBd (w : World) (v : Value) (bs : List (Nat × Nat)) : Prop := (bs = [] ∧ v = .slice none 0 0) ∨ ∃ g, bs ≠ [] ∧ v = .slice (some ⟨g, 0, none⟩) bs.length bs.length ∧ w.heap[g]? = some (.cells (bcs bs).toArray 108 (0, 0))
theorem SBd.grown0 {w w' : World} {v : Value} {bs : List (Nat × Nat)} (h : SBd w v bs) (hg : w.grownBy w' none) : SBd w' v bs := by
  rcases h with h | ⟨g, h0, h1, h2⟩
  · exact .inl h
  · exact .inr ⟨g, h0, h1, grown_blk hg h2⟩
theorem wb_none {ty : Nat} (h : ty = 0 ∨ 7 < ty) : wb ty = [] := by
  unfold wb
  split <;> first | rfl | omega
set_option maxRecDepth 8000 in
set_option maxHeartbeats 4000000 in
theorem l3Bounds_any (ty : Nat) (w : World) (h : ty < 256) :
    Calls Tryz.prog 49 #[.int .i64 (ty : Int)] w fun e w' => ∃ v, e = .returned v ∧ SBd w' v (wb ty) ∧ w.grownBy w' none := by
  by_cases h0 : ty = 0 ∨ 7 < ty
  · have t1 : ((ty : Int) == 1) = false := by simp; omega
    have t2 : ((ty : Int) == 2) = false := by simp; omega
    have t3 : ((ty : Int) == 3) = false := by simp; omega
    have t4 : ((ty : Int) == 4) = false := by simp; omega
    have t5 : ((ty : Int) == 5) = false := by simp; omega
    have t6 : ((ty : Int) == 6) = false := by simp; omega
    have t7 : ((ty : Int) == 7) = false := by simp; omega
    have HZ : Hid (wb ty = []) := wb_none h0; clear h0
    go_enter Tryz.func49, Tryz.ntmps49
    go_wp2; go_ret; exact ⟨_, rfl, .inl ⟨HZ.out, rfl⟩, grownBy_refl _ _⟩
  · obtain h1 | h1 | h1 | h1 | h1 | h1 | h1 : ty = 1 ∨ ty = 2 ∨ ty = 3 ∨ ty = 4 ∨ ty = 5 ∨ ty = 6 ∨ ty = 7 := by omega
    all_goals
      subst h1; clear h h0
      go_enter Tryz.func49, Tryz.ntmps49
      go_wp2; go_ret; exact ⟨_, rfl, .inr ⟨w.heap.size, by decide, rfl, heap_alloc_new w _⟩, World.grownBy_alloc w _ _⟩
theorem Tryz.infoIntW : (Tryz.prog.info? 3).map (fun i => (i.zero, i.size, i.bytes)) = some (some (.int .i64 0), 1, 8) := by kernel_rfl
theorem Tryz.sizeView : (Tryz.prog.info? 27).map (·.size) = some 7 := by kernel_rfl
def ivs (ns : List Nat) : List Value := ns.map (fun n : Nat => Value.int .i64 (n : Int))
theorem inS_own {w : World} {B : Nat} {v : Value} {ns : List Nat} (h : w.ownsRow B 3 1 v ns.length (ivs ns)) (hb : ∀ n ∈ ns, n ≤ 99999999) : ∃ oa cp, v = .slice oa ns.length cp ∧ InS w oa ns.length (ns.map (fun n : Nat => (n : Int))) ∧ ∀ ad : Addr, oa = some ad → B ≤ ad.block := by
  rcases h.2 with ⟨h1, h0⟩ | ⟨g, cap, cur, h1, hB, hg, hc, hm, hs, ht⟩
  · have hE : ns = [] := List.eq_nil_of_length_eq_zero h0; subst hE; exact ⟨none, 0, h1, ⟨rfl, .inl ⟨rfl, rfl⟩⟩, fun ad hc => by cases hc⟩
  · refine ⟨some ⟨g, 0, none⟩, cap, h1, ⟨by simp, .inr ⟨g, rfl, ⟨fun z hz => ?_, cur, hg, fun i hi => ?_⟩⟩⟩, fun ad hc => by cases hc; exact hB⟩
    · obtain ⟨n, hn, rfl⟩ := List.mem_map.1 hz; have := hb n hn
      unfold i64Ok
      omega
    · simp only [List.length_map] at hi
      have h2 : (ivs ns)[i]? = some (.int .i64 ((ns[i]'hi : Nat) : Int)) := by simp [ivs, hi]
      rw [← ht, List.getElem?_take, if_pos (by omega)] at h2; rw [← Array.getElem?_toList, h2]
      simp [List.getD, hi]
theorem own1_grown {w w' : World} {B e s n : Nat} {v : Value} {xs : List Value} (h : w.ownsRow B e s v n xs) (hg : w.grownBy w' none) : w'.ownsRow B e s v n xs := by
  obtain ⟨hl', h1 | ⟨g', cap, cur, h1, hb', hg', h2⟩⟩ := h
  · exact ⟨hl', .inl h1⟩
  · exact ⟨hl', .inr ⟨g', cap, cur, h1, hb', grown_blk hg hg', h2⟩⟩
theorem own1_set {w : World} {R j B e s n : Nat} {u v : Value} {xs : List Value} (h : w.ownsRow B e s v n xs) (hR : R < B) : (w.setCell ⟨R, j, none⟩ u).ownsRow B e s v n xs := by
  obtain ⟨hl', h1 | ⟨g', cap, cur, h1, hb', hg', h2⟩⟩ := h
  · exact ⟨hl', .inl h1⟩
  · exact ⟨hl', .inr ⟨g', cap, cur, h1, hb', (heap_setCell_other w ⟨R, j, none⟩ g' _ (by show g' ≠ R; omega)).trans hg', h2⟩⟩
theorem own1_succ {w : World} {B e s n : Nat} {v : Value} {xs : List Value} (h : w.ownsRow B e s v (n + 1) xs) : ∃ g cap, v = .slice (some ⟨g, 0, none⟩) (n + 1) cap := by
  obtain ⟨hl', ⟨h1, h2⟩ | ⟨g', cap, cur, h1, -⟩⟩ := h
  · omega
  · exact ⟨g', cap, h1⟩
theorem inS_keep {w w' : World} {oa : Option Addr} {n : Nat} {zs : List Int} (h : InS w oa n zs) (hk : ∀ G, oa = some ⟨G, 0, none⟩ → w'.heap[G]? = w.heap[G]?) : InS w' oa n zs := by
  obtain ⟨h1, h2 | ⟨G, h2, h3, cur, h4, h5⟩⟩ := h
  · exact ⟨h1, .inl h2⟩
  · exact ⟨h1, .inr ⟨G, h2, h3, cur, (hk G h2).trans h4, h5⟩⟩
theorem own1_base {w : World} {B e s n g : Nat} {v : Value} {xs : List Value} (h : w.ownsRow B e s v n xs) (hg : v.ownBlock = some g) : B ≤ g := by
  obtain ⟨hl', ⟨h1, -⟩ | ⟨g', cap, cur, h1, hb', -⟩⟩ := h
  · rw [h1] at hg; cases hg
  · rw [h1] at hg; cases hg; exact hb'
theorem results_view {fn : Func} {t : Tmp} {w : World} {g : Nat} {vs : List Value} {tmps : Array Value} (h : fn.results = #[.cell t 27]) (ht : tmps.getD t undef = .pointer (some ⟨g, 0, none⟩)) (hg : w.heap[g]? = some (.cells vs.toArray 27 (0, 0))) (hl : vs.length = 7) :
    (results fn tmps).run Tryz.prog w = .ok (.agg vs.toArray) w := by
  have h1 := run_loadVar_mid (P := Tryz.prog) w g 0 27 vs _ (range_blk hg) Tryz.underlying27 rfl (by rw [hl]; exact Tryz.sizeView)
  have ht' : tmps[t]?.getD undef = .pointer (some ⟨g, 0, none⟩) := by simpa using ht
  simp [results, h, ht', h1, asAddr]
theorem scanL_valid : ∀ (k : Nat) (zs : List Nat), (scanL k zs).2.1 ≤ zs.length
  | 0, _ => by simp [scanL]
  | k + 1, zs => by
    rw [scanL]
    split
    · simp
    · rename_i h
      have h1 := (fault_ok zs h).2.2.1; have h2 := scanL_valid k (zs.drop (recSize zs)); simp only [List.length_drop] at h2
      simp only
      omega
theorem scan_valid (zs : List Nat) : (scan zs).2.1 ≤ zs.length := scanL_valid _ zs
theorem okImg_each {F : List Pf} (h : okImg F = true) {x : Pf} (hx : x ∈ F) : x.2.length ≤ 65536 := by
  unfold okImg at h
  simp only [Bool.and_eq_true, decide_eq_true_eq] at h; obtain ⟨i, hi⟩ := List.getElem?_of_mem hx; have h1 := h.1.2 i (List.getElem?_eq_some_iff.1 hi).1; rw [badAt_eq (s := x.1) (d := x.2) hi] at h1; simp only [Bool.or_eq_false_iff, decide_eq_false_iff_not] at h1
  omega
theorem keptP_sub (fs : List Pf) : ∀ x ∈ keptP fs, x ∈ fs := by
  intro x hx
  unfold keptP at hx
  split at hx
  · exact List.dropLast_subset _ hx
  · exact hx
theorem walP_keep {F : List Pf} (h : okImg F = true) {p : Pl} {ns : List Nat} {kp : Nat} {b : Bool} (hw : walP F = some (p, ns, kp, b)) : kp ≤ 1048576 := by
  unfold walP at hw
  split at hw
  · simp only [Option.map_eq_some_iff, Prod.mk.injEq] at hw; obtain ⟨q, -, -, -, rfl, -⟩ := hw
    unfold keepP
    split
    · omega
    · rename_i x hx
      have h1 := keptP_sub _ x (List.mem_of_getLast? hx); have h2 := okImg_each h (List.mem_filter.1 h1).1; have h3 := scan_valid x.2
      omega
  · cases hw
theorem walP_nums {F : List Pf} {p : Pl} {ns : List Nat} {kp : Nat} {b : Bool} (hw : walP F = some (p, ns, kp, b)) : ∀ n ∈ ns, n ≤ 99999999 := by
  unfold walP at hw
  split at hw
  · simp only [Option.map_eq_some_iff, Prod.mk.injEq] at hw; obtain ⟨q, -, -, rfl, -, -⟩ := hw; intro n hn; obtain ⟨x, -, rfl⟩ := List.mem_map.1 hn; exact pnum_le x
  · cases hw
theorem okImg_len {F : List Fi} (h : okImg (F.map Fi.pf) = true) : F.length ≤ 512 := by
  unfold okImg at h
  simp only [Bool.and_eq_true, decide_eq_true_eq, List.length_map] at h; exact h.1.1
/-- the answer owns what it shows, and it is new -/
structure WvNew (w w' : World) (v : Wv) : Prop where
  at_ : WvAt w' v
  sm : WvSm v
  new : ∀ k, v.blk k → w.heap.size ≤ k
def wv0 (c : Nat) : Wv := ⟨c, 0, 0, [], [], 0, false, none, 0, none, 0⟩
theorem wv0_new (c : Nat) (hc : c ≤ 100) (w w' : World) : WvNew w w' (wv0 c) :=
  ⟨⟨⟨rfl, .inl ⟨rfl, rfl⟩⟩, ⟨rfl, .inl ⟨rfl, rfl⟩⟩⟩, ⟨by simp [wv0], by simp [wv0], by simp [wv0], ⟨by simp only [wv0]; omega, by simp [wv0], by simp [wv0], by simp [wv0]⟩⟩, fun k hk => by
    rcases hk with ⟨a, h1, -⟩ | h1 | ⟨a, h1, -⟩
    · cases h1
    · simp [wv0] at h1
    · cases h1⟩
set_option maxRecDepth 100000 in
set_option maxHeartbeats 4000000 in
theorem walRead_any (F : List Fi) (a : Option Addr) (p : Nat) (ad : Nat → Addr) (w : World) (h : ImgAt w a F) (ht : totR (F.map Fi.row) ≤ 1048576) (htb : Tab w) (hgw : 14 ≤ w.heap.size) (hE : ErrsAt w ad) :
    Calls Tryz.prog 7 #[.slice a F.length p] w fun e w' => ∃ v : Wv, e = .returned v.val ∧ WvNew w w' v ∧ v.tell = walTell (F.map Fi.pf) ∧ w.grownBy w' none := by
  have hVI := validImage_any (F.map Fi.row) a p; rw [filesOf_rows, List.length_map] at hVI; obtain ⟨n0, hn0⟩ : ∃ n, F.length = n := ⟨_, rfl⟩; obtain ⟨ok, hok⟩ : ∃ b, okImg (F.map Fi.pf) = b := ⟨_, rfl⟩
  have HVI : Hid (∀ w' : World, w.grownBy w' none → Calls Tryz.prog 17 #[.slice a n0 p] w' fun e w'' => e = .returned (.bool ok) ∧ w'.grownBy w'' none) := fun w' hg => by
    rw [← hn0, ← hok]; exact hVI w' (h.grown0 hg).rowOk ht
  have HH : Hid (ImgAt w a F ∧ Tab w ∧ ErrsAt w ad ∧ F.length = n0 ∧ okImg (F.map Fi.pf) = ok) := ⟨h, htb, hE, hn0, hok⟩; rw [hn0]; clear hVI h ht htb hE hn0 hok
  go_enter Tryz.func7, Tryz.ntmps7
  go_wp2_with fail; have hb0 : (w.alloc (.cells #[.int .i64 0, .int .i64 0, .int .i64 0, .slice none 0 0, .slice none 0 0, .int .i64 0, .bool false] 27)).heap[w.heap.size]? = some (.cells #[.int .i64 0, .int .i64 0, .int .i64 0, .slice none 0 0, .slice none 0 0, .int .i64 0, .bool false] 27 (0, 0)) := heap_alloc_new w _; have hG0 : w.grownBy (w.alloc (.cells #[.int .i64 0, .int .i64 0, .int .i64 0, .slice none 0 0, .slice none 0 0, .int .i64 0, .bool false] 27)) none := World.grownBy_alloc w _ _; generalize w.alloc (.cells #[.int .i64 0, .int .i64 0, .int .i64 0, .slice none 0 0, .slice none 0 0, .int .i64 0, .bool false] 27) = W0 at hb0 hG0 ⊢; refine (HVI.out W0 hG0).mono ?_; clear HVI; rintro e W1 ⟨rfl, hG1⟩; have hb1 := grown_blk hG1 hb0; have hGW := grownBy_trans hG0 hG1; have hlt1 : w.heap.size < W1.heap.size := (Array.getElem?_eq_some_iff.1 hb1).1; have H1 : Hid (W1.heap[w.heap.size]? = some (.cells #[.int .i64 0, .int .i64 0, .int .i64 0, .slice none 0 0, .slice none 0 0, .int .i64 0, .bool false] 27 (0, 0)) ∧ w.grownBy W1 none) := ⟨hb1, hGW⟩; clear hb0 hG0 hG1 hGW hb1
  cases ok with
  | false =>
    have HT : Hid (W1.there w.heap.size 0 7) := there_blk (vs := [.int .i64 0, .int .i64 0, .int .i64 0, .slice none 0 0, .slice none 0 0, .int .i64 0, .bool false]) H1.out.1 rfl
    go_wp2_with (refine wpList_store_mid (by rfl) _ (.tmp 2) (.tmp 11) (by rfl) _ _ _ (by rfl) (by rfl) ?sa ?sb ?sc ?sd; exact HT.out; show _ = some 7; kernel_rfl; exact all_oneCell_toArray (List.all_eq_true.1 rfl); simp only [Act.put]; generalize hX : World.setCells W1 w.heap.size 0 _ = W2; have hbR : W2.heap[w.heap.size]? = some (.cells [.int .i64 1, .int .i64 0, .int .i64 0, .slice none 0 0, .slice none 0 0, .int .i64 0, .bool false].toArray 27 (0, 0)) := (by rw [← hX]; exact setCells_all (cur := [.int .i64 0, .int .i64 0, .int .i64 0, .slice none 0 0, .slice none 0 0, .int .i64 0, .bool false]) H1.out.1 rfl); have hG2 : w.grownBy W2 none := (by rw [← hX]; exact grownBy_setCellsN (Nat.le_refl _) _ _ _ H1.out.2); clear hX)
    refine bodyPost_ret (results_view (g := w.heap.size) rfl rfl hbR rfl) rfl ?_; exact ⟨wv0 1, rfl, wv0_new 1 (by omega) _ _, (walTell_no HH.out.2.2.2.2).symm, hG2⟩
  | true =>
    have HRL := readLog_any F a p (ad 0) W1 (HH.out.1.grown0 H1.out.2) (okImg_len HH.out.2.2.2.2) (Tab_grown HH.out.2.1 H1.out.2) (by omega) ((HH.out.2.2.1.grown H1.out.2).cell 0 (by omega)); rw [HH.out.2.2.2.1] at HRL; have HRL' : Hid (Calls _ _ _ _ _) := HRL; clear HRL; go_wp2_with fail; refine HRL'.out.mono ?_; clear HRL'; rintro e W2 ⟨hG2, ⟨S, R, B, kp, dr, L, hR, hL, hwp, rfl⟩ | ⟨hno, rfl⟩⟩
    · have hs2 := hG2.size; have HL : Hid (LogIn W2 R B (formCs S ++ [.int .i64 (kp : Int), .int .i64 (dr : Int)]) L ∧ walP (F.map Fi.pf) = some (L.pl, L.S.map Prod.fst, kp, decide (dr ≠ 0)) ∧ w.grownBy W2 none ∧ (logVs L S kp dr).toArray.all (·.oneCell') = true ∧ W1.heap.size ≤ R ∧ W2.heap[w.heap.size]? = some (.cells #[.int .i64 0, .int .i64 0, .int .i64 0, .slice none 0 0, .slice none 0 0, .int .i64 0, .bool false] 27 (0, 0))) := ⟨hL, hwp, grownBy_trans H1.out.2 hG2, logVs_one hL _ _ _, hR, grown_blk hG2 H1.out.1⟩; clear hL hwp hR hG2 H1; have hT3 : (W2.alloc (.cells #[.int .i64 0, .int .i64 0, .slice none 0 0, .slice none 0 0, .slice none 0 0, .int .i64 0, .nilFunc, .slice none 0 0, .int .i64 0, .nilFunc, .slice none 0 0, .int .i64 0, .nilFunc, .slice none 0 0, .int .i64 0, .nilFunc, .slice none 0 0, .int .i64 0, .nilFunc, .slice none 0 0, .int .i64 0, .nilFunc, .slice none 0 0, .int .i64 0, .nilFunc, .slice none 0 0, .int .i64 0, .nilFunc, .int .i64 0, .int .i64 0] 60)).there W2.heap.size 0 30 := there_blk (vs := zWal) (heap_alloc_new W2 _) rfl
      go_upto_region 4 with (refine wpList_store_mid (by rfl) _ (.tmp 3) (.tmp 15) (by rfl) _ _ (logVs L S kp dr).toArray (by rfl) (by rfl) ?ta ?tb ?tc ?td; exact hT3; show _ = some 30; exact Tryz.sizeWal; exact HL.out.2.2.2.1; simp only [Act.put]; generalize hX : World.setCells (W2.alloc (.cells #[.int .i64 0, .int .i64 0, .slice none 0 0, .slice none 0 0, .slice none 0 0, .int .i64 0, .nilFunc, .slice none 0 0, .int .i64 0, .nilFunc, .slice none 0 0, .int .i64 0, .nilFunc, .slice none 0 0, .int .i64 0, .nilFunc, .slice none 0 0, .int .i64 0, .nilFunc, .slice none 0 0, .int .i64 0, .nilFunc, .slice none 0 0, .int .i64 0, .nilFunc, .slice none 0 0, .int .i64 0, .nilFunc, .int .i64 0, .int .i64 0] 60)) W2.heap.size 0 _ = W3; have hb3 : W3.heap[W2.heap.size]? = some (.cells (logVs L S kp dr).toArray 60 (0, 0)) := (by rw [← hX]; exact setCells_all (cur := zWal) (heap_alloc_new W2 _) rfl); have hG3 : W2.grownBy W3 none := (by rw [← hX]; exact grownBy_setCellsN (Nat.le_refl _) _ _ _ (World.grownBy_alloc W2 _ _)); clear hX hT3)
      have HRR : Hid (W1.heap.size ≤ R) := HL.out.2.2.2.2.1; have hs3 := hG3.size; obtain ⟨R3, hR3⟩ : ∃ x, W2.heap.size = x := ⟨_, rfl⟩; rw [hR3] at hb3 hs2 hs3 ⊢; have hL3 := HL.out.1.grown0 hG3; have hGw3 := grownBy_trans HL.out.2.2.1 hG3; have hC3 := grown_blk hG3 HL.out.2.2.2.2.2; obtain ⟨sa, scap, hsv, hsc1, hsc2⟩ := hL3.svIs; obtain ⟨n, hn⟩ : ∃ n, L.S.length = n := ⟨_, rfl⟩
      have hn1 : n ≤ 1000 := by rw [← hn]; exact hL3.sm.2.2.1
      obtain ⟨ea, ecap, hev, hES, heB⟩ := hL3.enS; have c0 : W3.cell? ⟨R3, 0, none⟩ = some (.int .i64 (L.base : Int)) := (cell_of_row W3 _ _ _ _ _ hb3).trans rfl; have c1 : W3.cell? ⟨R3, 1, none⟩ = some (.int .i64 (L.bt : Int)) := (cell_of_row W3 _ _ _ _ _ hb3).trans rfl; have c2 : W3.cell? ⟨R3, 2, none⟩ = some (.slice ea L.E.length ecap) := (cell_of_row W3 _ _ _ _ _ hb3).trans (congrArg some hev); have c3 : W3.cell? ⟨R3, 3, none⟩ = some (.slice sa n scap) := (cell_of_row W3 _ _ _ _ _ hb3).trans (congrArg some (show L.sv = _ by rw [hsv, hn])); have c28 : W3.cell? ⟨R3, 28, none⟩ = some (.int .i64 (kp : Int)) := (cell_of_row W3 _ _ _ _ _ hb3).trans rfl; have c29 : W3.cell? ⟨R3, 29, none⟩ = some (.int .i64 (dr : Int)) := (cell_of_row W3 _ _ _ _ _ hb3).trans rfl; obtain ⟨ba, hba⟩ : ∃ x, L.base = x := ⟨_, rfl⟩; obtain ⟨bt, hbt⟩ : ∃ x, L.bt = x := ⟨_, rfl⟩; obtain ⟨el, hel⟩ : ∃ x, L.E.length = x := ⟨_, rfl⟩; obtain ⟨db, hdb⟩ : ∃ b, ((dr : Int) != 0) = b := ⟨_, rfl⟩
      have hdd : decide (dr ≠ 0) = db := by
        rw [← hdb]
        by_cases h9 : dr = 0
        · simp [h9]
        · simp [h9]
      rw [hba] at c0; rw [hbt] at c1; rw [hel] at c2; have hsm := hL3.sm; rw [hba, hbt, hel] at hsm; have H3 : Hid (LogIn W3 R B (formCs S ++ [.int .i64 (kp : Int), .int .i64 (dr : Int)]) L ∧ w.grownBy W3 none ∧ W3.heap[w.heap.size]? = some (.cells #[.int .i64 0, .int .i64 0, .int .i64 0, .slice none 0 0, .slice none 0 0, .int .i64 0, .bool false] 27 (0, 0)) ∧ L.sv = .slice sa L.S.length scap ∧ L.S.length = n ∧ L.base = ba ∧ L.bt = bt ∧ L.E.length = el ∧ walP (F.map Fi.pf) = some (L.pl, L.S.map Prod.fst, kp, db) ∧ L.ev = .slice ea L.E.length ecap ∧ EnS W3 ea L.E.length L.E ∧ (∀ ad : Addr, ea = some ad → B ≤ ad.block) ∧ w.heap.size < B ∧ W3.heap[R3]? = some (.cells (logVs L S kp dr).toArray 60 (0, 0)) ∧ kp ≤ 1048576) := ⟨hL3, hGw3, hC3, hsv, hn, hba, hbt, hel, by rw [HL.out.2.1, hdd], hev, hES, heB, by have := hL3.low; have := HL.out.2.2.2.2.1; omega, hb3, walP_keep HH.out.2.2.2.2 HL.out.2.1⟩; clear hL3 hGw3 hC3 hsv hn hba hbt hel hev hES heB hG3 HL hdd hb3 hsm; have hT4 : (W3.alloc (.cells #[.int .i64 0, .int .i64 0, .int .i64 0, .slice none 0 0, .slice none 0 0, .int .i64 0, .bool false] 27)).there W3.heap.size 0 7 := there_blk (vs := [.int .i64 0, .int .i64 0, .int .i64 0, .slice none 0 0, .slice none 0 0, .int .i64 0, .bool false]) (heap_alloc_new W3 _) rfl
      go_upto_region 7 with (refine wpList_store_mid (by rfl) _ (.tmp 5) (.tmp 36) (by rfl) _ _ _ (by rfl) (by rfl) ?ua ?ub ?uc ?ud; exact hT4; show _ = some 7; exact Tryz.sizeView; exact all_oneCell_toArray (List.all_eq_true.1 rfl); simp only [Act.put]; generalize hX : World.setCells (W3.alloc (.cells #[.int .i64 0, .int .i64 0, .int .i64 0, .slice none 0 0, .slice none 0 0, .int .i64 0, .bool false] 27)) W3.heap.size 0 _ = W4; have hb4 : W4.heap[W3.heap.size]? = some (.cells [.int .i64 0, .int .i64 (ba : Int), .int .i64 (bt : Int), .slice ea el ecap, .slice none 0 0, .int .i64 (kp : Int), .bool db].toArray 27 (0, 0)) := (by rw [← hX]; exact setCells_all (cur := [.int .i64 0, .int .i64 0, .int .i64 0, .slice none 0 0, .slice none 0 0, .int .i64 0, .bool false]) (heap_alloc_new W3 _) rfl); have hG4 : W3.grownBy W4 none := (by rw [← hX]; exact grownBy_setCellsN (Nat.le_refl _) _ _ _ (World.grownBy_alloc W3 _ _)); clear hX hT4)
      obtain ⟨V, hV⟩ : ∃ x, W3.heap.size = x := ⟨_, rfl⟩
      have hR3V : R3 < V := by rw [← hV]; exact cell_block_lt c0
      have hwV : w.heap.size < V := by rw [← hV]; exact Nat.lt_of_lt_of_le (by omega) hs3
      have hsV : W3.heap.size ≤ V := Nat.le_of_eq hV; rw [hV] at hb4 ⊢; have hV4 : V < W4.heap.size := (Array.getElem?_eq_some_iff.1 hb4).1; have c3' : W4.cell? ⟨R3, 3, none⟩ = some (.slice sa n scap) := ((bcell hG4).1 _ _ (cell_block_lt c3)).trans c3; have hL4 := H3.out.1.grown0 hG4; have H4 : Hid (LogIn W4 R B (formCs S ++ [.int .i64 (kp : Int), .int .i64 (dr : Int)]) L ∧ W3.grownBy W4 none ∧ W4.heap[V]? = some (.cells [.int .i64 0, .int .i64 (ba : Int), .int .i64 (bt : Int), .slice ea el ecap, .slice none 0 0, .int .i64 (kp : Int), .bool db].toArray 27 (0, 0)) ∧ Off L R V ∧ W3.heap.size = V) := ⟨hL4, hG4, hb4, hL4.off hb4 (by have := H3.out.1.cells.2.2.2.2.2; omega) (fun c t f e => by injection e with _ e _; subst e; decide), hV⟩; clear c0 c1 c2 c3 c28 c29 hL4 hG4 hb4 hV hs3; go_wp2
      go_loopw [41] (fun i wr => ∃ (k : Nat) (sg : Value), k ≤ n ∧ i = .int .i64 (k : Int) ∧ wr.heap[V]? = some (.cells [.int .i64 0, .int .i64 (ba : Int), .int .i64 (bt : Int), .slice ea el ecap, sg, .int .i64 (kp : Int), .bool db].toArray 27 (0, 0)) ∧ wr.ownsRow W4.heap.size 3 1 sg k (ivs ((L.S.map Prod.fst).take k)) ∧ W4.grownBy wr (some V)) (fun i _ => n - (intOf i).toNat)
      case atStart => exact ⟨0, _, Nat.zero_le _, rfl, H4.out.2.2.1, World.ownsRow_nil _ _ _ _, grownBy_refl _ _⟩
      case round =>
        obtain ⟨k, sg, hk, rfl, hbV, hoS, hGr⟩ := hrel; have HR : Hid (wr.heap[V]? = some (.cells [.int .i64 0, .int .i64 (ba : Int), .int .i64 (bt : Int), .slice ea el ecap, sg, .int .i64 (kp : Int), .bool db].toArray 27 (0, 0)) ∧ wr.ownsRow W4.heap.size 3 1 sg k (ivs ((L.S.map Prod.fst).take k)) ∧ W4.grownBy wr (some V) ∧ LogIn wr R B (formCs S ++ [.int .i64 (kp : Int), .int .i64 (dr : Int)]) L) := ⟨hbV, hoS, hGr, H4.out.1.grownOff hGr H4.out.2.2.2.1⟩; have hszr := hGr.size; clear hbV hoS hGr
        by_cases hlt : k < n
        · obtain ⟨x, hx⟩ : ∃ x, L.S[k]? = some x := ⟨_, List.getElem?_eq_getElem (by rw [H3.out.2.2.2.2.1]; exact hlt)⟩; have hf2 := flat2_get (fun s : Nat × Nat => Value.int .i64 (s.1 : Int)) (fun s : Nat × Nat => Value.int .i64 (s.2 : Int)) L.S hx; obtain ⟨g1, cp1, e1, -, -, -, q1, -⟩ := own_at HR.out.2.2.2.seg (i := k * 2) hf2.1; obtain ⟨g2, cp2, e2, -, -, -, q2, -⟩ := own_at HR.out.2.2.2.seg (i := k * 2 + 1) hf2.2; rw [H3.out.2.2.2.1] at e1 e2; simp only [Value.slice.injEq, true_and] at e1 e2; obtain ⟨rfl, rfl⟩ := e1; obtain ⟨e3, -⟩ := e2; simp only [Option.some.injEq, Addr.mk.injEq, and_true] at e3; subst e3
          have HTK : Hid ((L.S.map Prod.fst).take (k + 1) = (L.S.map Prod.fst).take k ++ [x.1]) := by
            show _ = _
            rw [List.take_add_one]
            simp [hx]
          obtain ⟨x1, x2⟩ := x
          have hkI : (k : Int) < (n : Int) := by omega
          have v1 : IntKind.i64.wrap ((k : Int) + 1) = (k : Int) + 1 := IntWalk.i64_in _ (by omega); clear hx hf2
          go_upto_region 10 with fail
          have hA := World.grownBy_alloc wr (.cells #[.int .i64 (x1 : Int), .int .i64 (x2 : Int)] 67) none; have hnew : (wr.alloc (.cells #[.int .i64 (x1 : Int), .int .i64 (x2 : Int)] 67)).heap[wr.heap.size]? = some (.cells #[.int .i64 (x1 : Int), .int .i64 (x2 : Int)] 67 (0, 0)) := heap_alloc_new wr _; have hVx := grown_blk hA HR.out.1; have hox := own1_grown HR.out.2.1 hA; generalize wr.alloc (.cells #[.int .i64 (x1 : Int), .int .i64 (x2 : Int)] 67) = X at hA hnew hVx hox ⊢; have r0 : X.cell? ⟨wr.heap.size, 0, none⟩ = some (.int .i64 (x1 : Int)) := (cell_of_row _ _ _ _ _ _ hnew).trans rfl; have r1 : X.cell? ⟨V, 4, none⟩ = some sg := (cell_of_row _ _ _ _ _ _ hVx).trans rfl; have HX : Hid (X.heap[V]? = some (.cells [.int .i64 0, .int .i64 (ba : Int), .int .i64 (bt : Int), .slice ea el ecap, sg, .int .i64 (kp : Int), .bool db].toArray 27 (0, 0)) ∧ X.ownsRow W4.heap.size 3 1 sg k (ivs ((L.S.map Prod.fst).take k)) ∧ wr.grownBy X none) := ⟨hVx, hox, hA⟩; have hxs := hA.size; clear hA hnew hVx hox q1 q2; obtain ⟨i0, hi, hz0, hz1, hz2'⟩ := info_parts Tryz.infoIntW
          go_wp2_with (at_builtin; refine wpList_append_own _ rfl _ _ 25 rfl W4.heap.size 3 i0 (.int .i64 0) 1 8 Tryz.underlying25 hi hz0 hz1 hz2' rfl (by decide) sg k (ivs ((L.S.map Prod.fst).take k)) rfl (by exact own1_grown HX.out.2.1 (World.grownBy_alloc _ _ _)) ⟨X.heap.size, 0, none⟩ 1 1 [.int .i64 (x1 : Int)] rfl rfl ?c1 ?c2 ?c3 ?c4 ?c5 ?_)
          case c2 => rfl
          case c3 => unfold maxLen; omega
          case c4 => omega
          case c5 => first | omega | (simp; omega)
          intro v' w5 hown' hgrow _; obtain ⟨g5, cap5, rfl⟩ := own1_succ hown'; have hVk : w5.heap[V]? = some (.cells [.int .i64 0, .int .i64 (ba : Int), .int .i64 (bt : Int), .slice ea el ecap, sg, .int .i64 (kp : Int), .bool db].toArray 27 (0, 0)) := (hgrow.block V (by simp; omega) (fun hc => by have := own1_base HX.out.2.1 hc.symm; omega)).trans ((Below.heap_alloc _ _ _ (by omega)).trans HX.out.1)
          have HF : Hid ((w5.setCell ⟨V, 4, none⟩ (.slice (some ⟨g5, 0, none⟩) (k + 1) cap5)).heap[V]? = some (.cells [.int .i64 0, .int .i64 (ba : Int), .int .i64 (bt : Int), .slice ea el ecap, .slice (some ⟨g5, 0, none⟩) (k + 1) cap5, .int .i64 (kp : Int), .bool db].toArray 27 (0, 0)) ∧ (w5.setCell ⟨V, 4, none⟩ (.slice (some ⟨g5, 0, none⟩) (k + 1) cap5)).ownsRow W4.heap.size 3 1 (.slice (some ⟨g5, 0, none⟩) (k + 1) cap5) (k + 1) (ivs ((L.S.map Prod.fst).take (k + 1))) ∧ W4.grownBy (w5.setCell ⟨V, 4, none⟩ (.slice (some ⟨g5, 0, none⟩) (k + 1) cap5)) (some V)) := by
            refine ⟨set_blkL 4 _ hVk, ?_, grownBy_setCell ?_⟩
            · rw [HTK.out]; simp only [ivs, List.map_append, List.map_cons, List.map_nil]; exact own1_set hown' (by omega)
            · have g1 : W4.grownBy X (some V) := grownBy_trans HR.out.2.2.1 (grownBy_weak HX.out.2.2); have g2 : W4.grownBy (X.alloc (.cells #[.int .i64 (x1 : Int)] 3)) (some V) := grownBy_alloc g1 _; exact ⟨hgrow.os.trans g2.os, hgrow.tape.trans g2.tape, hgrow.output.trans g2.output, Nat.le_trans g2.size hgrow.size, fun q hq hne => (hgrow.block q (Nat.lt_of_lt_of_le hq g2.size) (fun hc => by have := own1_base HX.out.2.1 hc.symm; omega)).trans (g2.block q hq hne)⟩
          have pc4 : w5.cell? ⟨V, 4, none⟩ = some sg := (cell_of_row _ _ _ _ _ _ hVk).trans rfl
          have pf4 : w5.frozen? ⟨V, 4, none⟩ = false := by simp [World.frozen?, hVk]
          clear hown' hgrow hVk r0 r1; go_wp2; go_roundw
          case rel => exact ⟨k + 1, _, hlt, by go_num, HF.out.1, HF.out.2.1, HF.out.2.2⟩
          case measure => simp [intOf]; omega
        · obtain rfl : n = k := by omega
          have hkI : ¬ (n : Int) < (n : Int) := by omega
          have hC : wr.heap[w.heap.size]? = some (.cells #[.int .i64 0, .int .i64 0, .int .i64 0, .slice none 0 0, .slice none 0 0, .int .i64 0, .bool false] 27 (0, 0)) := (HR.out.2.2.1.block _ (by omega) (by simp; omega)).trans (grown_blk H4.out.2.1 H3.out.2.2.1); have htkn : (L.S.map Prod.fst).take n = L.S.map Prod.fst := List.take_of_length_le (by rw [List.length_map, H3.out.2.2.2.2.1]; exact Nat.le_refl _); have hoS := HR.out.2.1; rw [htkn, ← H3.out.2.2.2.2.1, show L.S.length = (L.S.map Prod.fst).length by simp] at hoS; obtain ⟨oa, cp, rfl, hIS, hsB⟩ := inS_own hoS (walP_nums H3.out.2.2.2.2.2.2.2.2.1)
          have HRB : Hid (w.heap.size < R) := by have := HRR.out; show _ < _; omega
          have HRG : Hid (wr.rangeAt V 0 [.int .i64 0, .int .i64 (ba : Int), .int .i64 (bt : Int), .slice ea el ecap, .slice oa (L.S.map Prod.fst).length cp, .int .i64 (kp : Int), .bool db] ∧ wr.there w.heap.size 0 7) := ⟨range_blk HR.out.1, there_blk (vs := [.int .i64 0, .int .i64 0, .int .i64 0, .slice none 0 0, .slice none 0 0, .int .i64 0, .bool false]) hC rfl⟩
          have HPOST : Hid (w.grownBy (wr.setCells w.heap.size 0 [.int .i64 0, .int .i64 (ba : Int), .int .i64 (bt : Int), .slice ea el ecap, .slice oa (L.S.map Prod.fst).length cp, .int .i64 (kp : Int), .bool db]) none ∧ (wr.setCells w.heap.size 0 [.int .i64 0, .int .i64 (ba : Int), .int .i64 (bt : Int), .slice ea el ecap, .slice oa (L.S.map Prod.fst).length cp, .int .i64 (kp : Int), .bool db]).heap[w.heap.size]? = some (.cells [.int .i64 0, .int .i64 (ba : Int), .int .i64 (bt : Int), .slice ea el ecap, .slice oa (L.S.map Prod.fst).length cp, .int .i64 (kp : Int), .bool db].toArray 27 (0, 0)) ∧ WvNew w (wr.setCells w.heap.size 0 [.int .i64 0, .int .i64 (ba : Int), .int .i64 (bt : Int), .slice ea el ecap, .slice oa (L.S.map Prod.fst).length cp, .int .i64 (kp : Int), .bool db]) ⟨0, ba, bt, L.E, (L.S.map Prod.fst).map (fun n : Nat => (n : Int)), kp, db, ea, ecap, oa, cp⟩) := by
            obtain ⟨h1, h2, h3, h4, h5, h6, h7, h8, h9, h10, -, -, h13, -, h15⟩ := H3.out; have hGr : w.grownBy wr none := grownBy_new (grownBy_trans h2 H4.out.2.1) HR.out.2.2.1 (by omega); have hLF := HR.out.2.2.2.grownOff (grownBy_cells [.int .i64 0, .int .i64 (ba : Int), .int .i64 (bt : Int), .slice ea el ecap, .slice oa (L.S.map Prod.fst).length cp, .int .i64 (kp : Int), .bool db] 0 _ (grownBy_refl _ (some w.heap.size))) (HR.out.2.2.2.off hC (by have := h1.low; have := HR.out.2.2.2.cells.2.2.2.2.2; have := HRB.out; omega) (fun c t f e => by injection e with _ e _; subst e; decide)); obtain ⟨oa', cp', e1, e2, e3⟩ := hLF.enS; rw [h10] at e1; simp only [Value.slice.injEq, true_and] at e1; obtain ⟨rfl, rfl⟩ := e1; have hsm := hLF.sm; refine ⟨grownBy_setCellsN (Nat.le_refl _) _ _ _ hGr, setCells_all hC rfl, ⟨⟨e2, ?_⟩, ⟨?_, ?_, ?_, ⟨?_, ?_, ?_, ?_⟩⟩, ?_⟩⟩
            · have hk := hIS; simp only [List.length_map] at hk ⊢; refine inS_keep hk (fun G hG => setCells_oth _ _ (by have := hsB _ hG; simp only at this; omega) _ _ _)
            · simp only; omega
            · simp only [List.length_map]; omega
            · intro e he; exact ⟨by have := (hsm.2.2.2 e he).1; omega, by have := (hsm.2.2.2 e he).2; omega, (hLF.own e he).2.2⟩
            · simp only; omega
            · simp only; omega
            · simp only; omega
            · simp only; omega
            · intro q hq
              rcases hq with ⟨a9, k1, rfl⟩ | k1 | ⟨a9, k1, rfl⟩
              · have := e3 a9 k1; omega
              · obtain ⟨e, he, rfl⟩ := List.mem_map.1 k1; have := (hLF.own e he).1; omega
              · have := hsB a9 k1; omega
          go_wp2_with (first | (refine wpList_load_mid (by rfl) _ (.tmp 5) (by rfl) V 0 (by rfl) [.int .i64 0, .int .i64 (ba : Int), .int .i64 (bt : Int), .slice ea el ecap, .slice oa (L.S.map Prod.fst).length cp, .int .i64 (kp : Int), .bool db] _ HRG.out.1 Tryz.underlying27 rfl (by show _ = some 7; exact Tryz.sizeView) ?_; simp only [Act.put]) | (refine wpList_store_mid (by rfl) _ (.tmp 2) (.tmp 53) (by rfl) w.heap.size 0 [.int .i64 0, .int .i64 (ba : Int), .int .i64 (bt : Int), .slice ea el ecap, .slice oa (L.S.map Prod.fst).length cp, .int .i64 (kp : Int), .bool db].toArray (by rfl) (by rfl) HRG.out.2 (by show _ = some 7; exact Tryz.sizeView) (all_oneCell_toArray (List.all_eq_true.1 rfl)) ?_; simp only [Act.put]; generalize World.setCells wr w.heap.size 0 _ = Y7 at HPOST) | fail)
          refine bodyPost_ret (results_view (g := w.heap.size) rfl rfl HPOST.out.2.1 rfl) rfl ?_; obtain ⟨-, -, -, -, h5, h6, h7, h8, h9, -⟩ := H3.out; refine ⟨_, ?_, HPOST.out.2.2, ?_, HPOST.out.1⟩
          · simp [Wv.val, h8]
          · rw [walTell_ok HH.out.2.2.2.2 h9]
            simp [Wv.tell, Lg.pl, h6, h7]
    · have hs2 := hG2.size; have HL : Hid (walP (F.map Fi.pf) = none ∧ w.grownBy W2 none ∧ W2.heap[w.heap.size]? = some (.cells #[.int .i64 0, .int .i64 0, .int .i64 0, .slice none 0 0, .slice none 0 0, .int .i64 0, .bool false] 27 (0, 0)) ∧ ErrsAt W2 ad) := ⟨hno, grownBy_trans H1.out.2 hG2, grown_blk hG2 H1.out.1, HH.out.2.2.1.grown (grownBy_trans H1.out.2 hG2)⟩; clear hno hG2 H1; have hT3 : (W2.alloc (.cells #[.int .i64 0, .int .i64 0, .slice none 0 0, .slice none 0 0, .slice none 0 0, .int .i64 0, .nilFunc, .slice none 0 0, .int .i64 0, .nilFunc, .slice none 0 0, .int .i64 0, .nilFunc, .slice none 0 0, .int .i64 0, .nilFunc, .slice none 0 0, .int .i64 0, .nilFunc, .slice none 0 0, .int .i64 0, .nilFunc, .slice none 0 0, .int .i64 0, .nilFunc, .slice none 0 0, .int .i64 0, .nilFunc, .int .i64 0, .int .i64 0] 60)).there W2.heap.size 0 30 := there_blk (vs := zWal) (heap_alloc_new W2 _) rfl
      go_upto_region 4 with (refine wpList_store_mid (by rfl) _ (.tmp 3) (.tmp 15) (by rfl) _ _ zWal.toArray (by rfl) (by rfl) ?va ?vb ?vc ?vd; exact hT3; show _ = some 30; exact Tryz.sizeWal; exact all_oneCell_toArray (List.all_eq_true.1 rfl); simp only [Act.put]; generalize hX : World.setCells (W2.alloc (.cells #[.int .i64 0, .int .i64 0, .slice none 0 0, .slice none 0 0, .slice none 0 0, .int .i64 0, .nilFunc, .slice none 0 0, .int .i64 0, .nilFunc, .slice none 0 0, .int .i64 0, .nilFunc, .slice none 0 0, .int .i64 0, .nilFunc, .slice none 0 0, .int .i64 0, .nilFunc, .slice none 0 0, .int .i64 0, .nilFunc, .slice none 0 0, .int .i64 0, .nilFunc, .slice none 0 0, .int .i64 0, .nilFunc, .int .i64 0, .int .i64 0] 60)) W2.heap.size 0 _ = W3; have hG3 : W2.grownBy W3 none := (by rw [← hX]; exact grownBy_setCellsN (Nat.le_refl _) _ _ _ (World.grownBy_alloc W2 _ _)); clear hX hT3)
      have HCO : Hid (Calls _ _ _ _ _) := codeOf_corrupt ad W3 (HL.out.2.2.2.grown hG3); have H3 : Hid (w.grownBy W3 none ∧ W3.heap[w.heap.size]? = some (.cells #[.int .i64 0, .int .i64 0, .int .i64 0, .slice none 0 0, .slice none 0 0, .int .i64 0, .bool false] 27 (0, 0))) := ⟨grownBy_trans HL.out.2.1 hG3, grown_blk hG3 HL.out.2.2.1⟩; clear hG3; go_wp2_with fail; refine HCO.out.mono ?_; clear HCO; rintro e W4 ⟨rfl, hG4⟩; have H4 : Hid (w.grownBy W4 none ∧ W4.heap[w.heap.size]? = some (.cells #[.int .i64 0, .int .i64 0, .int .i64 0, .slice none 0 0, .slice none 0 0, .int .i64 0, .bool false] 27 (0, 0))) := ⟨grownBy_trans H3.out.1 hG4, grown_blk hG4 H3.out.2⟩; have HT : Hid (W4.there w.heap.size 0 7) := there_blk (vs := [.int .i64 0, .int .i64 0, .int .i64 0, .slice none 0 0, .slice none 0 0, .int .i64 0, .bool false]) H4.out.2 rfl; clear hG4
      go_wp2_with (refine wpList_store_mid (by rfl) _ (.tmp 2) (.tmp 21) (by rfl) _ _ _ (by rfl) (by rfl) ?wa ?wb ?wc ?wd; exact HT.out; show _ = some 7; kernel_rfl; exact all_oneCell_toArray (List.all_eq_true.1 rfl); simp only [Act.put]; generalize hX : World.setCells W4 w.heap.size 0 _ = W5; have hbR : W5.heap[w.heap.size]? = some (.cells [.int .i64 8, .int .i64 0, .int .i64 0, .slice none 0 0, .slice none 0 0, .int .i64 0, .bool false].toArray 27 (0, 0)) := (by rw [← hX]; exact setCells_all (cur := [.int .i64 0, .int .i64 0, .int .i64 0, .slice none 0 0, .slice none 0 0, .int .i64 0, .bool false]) H4.out.2 rfl); have hG5 : w.grownBy W5 none := (by rw [← hX]; exact grownBy_setCellsN (Nat.le_refl _) _ _ _ H4.out.1); clear hX)
      refine bodyPost_ret (results_view (g := w.heap.size) rfl rfl hbR rfl) rfl ?_; exact ⟨wv0 8, rfl, wv0_new 8 (by omega) _ _, (walTell_bad HH.out.2.2.2.2 HL.out.1).symm, hG5⟩
end Go.Proofs.YtjnegjgpkboocaaGreatDoor

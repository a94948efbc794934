/-
  The model's l2One, where the head is right: walked.
-/
import Derived.Test.YteacgefklafofaaDoorL2One
import Derived.Test.YteacgefklafofaaDoorOwnSp
namespace Go.Proofs.YteacgefklafofaaDoor
open Go.RowKit

theorem set2_block {w : World} {r : Nat} {a b x y : Value} (h : w.heap[r]? = some (.cells #[a, b] 33 (0, 0))) : ((w.setCell ⟨r, 0, none⟩ x).setCell ⟨r, 1, none⟩ y).heap[r]? = some (.cells #[x, y] 33 (0, 0)) :=
  (heap_setCell_same _ r 1 _ _ _ (heap_setCell_same w r 0 _ _ _ h)).trans (by simp)
theorem ownsRow_caps3 {w : World} {base e size g n cap : Nat} {xs : List Value} (h : w.ownsRow base e size (.slice (some ⟨g, 0, none⟩) n cap) n xs) : n ≤ cap ∧ cap ≤ maxLen := by
  rcases h.2 with ⟨h0, _⟩ | ⟨g', cap', cur, h0, hb, hg, hc, hm, hs, ht⟩
  · simp at h0
  · simp only [Value.slice.injEq, Option.some.injEq, Addr.mk.injEq, and_true, true_and] at h0
    obtain ⟨-, rfl⟩ := h0
    exact ⟨hc, hm⟩
theorem own_neC {w : World} {g r : Nat} {zs : List Nat} {c : Array Value} (hO : Own w 5 g zs) (hr : w.heap[r]? = some (.cells c 33 (0, 0))) (e : g = r) : False := by
  subst e
  exact absurd (hO.type hr) (by decide)
theorem cell_set2 {w : World} {r b o : Nat} {u v x : Value} (hb : ¬ b = r) (h : w.cell? ⟨b, o, none⟩ = some x) : ((w.setCell ⟨r, 0, none⟩ u).setCell ⟨r, 1, none⟩ v).cell? ⟨b, o, none⟩ = some x :=
  (World.cell?_of_block (w := w) (a := ⟨b, o, none⟩) ((heap_setCell_other _ ⟨r, 1, none⟩ b v hb).trans (heap_setCell_other w ⟨r, 0, none⟩ b u hb))).trans h

set_option maxRecDepth 100000 in
set_option maxHeartbeats 4000000 in
theorem l2One_long (b off : Nat) (len cap : Nat) (zs : List Nat) (w : World) (hsl : SlB w (some ⟨b, off, none⟩) len zs) (h12 : 12 ≤ len) (hlc : len ≤ cap) (hm : cap ≤ maxLen) (hm2 : len ≤ 1073741824) (hok : ¬ headBad zs) :
    Calls Tryd.prog 40 #[.slice (some ⟨b, off, none⟩) len cap] w fun e w' => w.grownBy w' none ∧
      ((len < recSize zs ∧ e = .returned (.tuple #[.agg #[.int .i64 0, .slice none 0 0], .int .i64 0, .int .i64 1])) ∨
       (recSize zs ≤ len ∧ sumBad zs ∧ e = .returned (.tuple #[.agg #[.int .i64 0, .slice none 0 0], .int .i64 0, .int .i64 3])) ∨
       (recSize zs ≤ len ∧ ¬ sumBad zs ∧ padBad zs ∧ e = .returned (.tuple #[.agg #[.int .i64 0, .slice none 0 0], .int .i64 0, .int .i64 4])) ∨
       (recSize zs ≤ len ∧ ¬ sumBad zs ∧ ¬ padBad zs ∧ ∃ g cp, (w.heap.size ≤ g ∧ recN zs ≤ cp ∧ cp ≤ maxLen) ∧ Own w' 5 g (recData zs) ∧ e = .returned (.tuple #[.agg #[.int .i64 ((zs.getD 4 0 : Nat) : Int), .slice (some ⟨g, 0, none⟩) (recN zs) cp], .int .i64 ((recSize zs : Nat) : Int), .int .i64 0]))) := by
  unfold maxLen at hm
  have hlz := hsl.1
  have hG : w.grownBy (w.alloc (.cells #[.int .i64 0, .slice none 0 0] 33)) none := World.grownBy_alloc w _ none
  have hs2 := hsl.grown0 hG
  have HT : Hid (∀ w' : World, w'.heap = (w.alloc (.cells #[.int .i64 0, .slice none 0 0] 33)).heap → Calls _ _ _ w' _) := fun w' hh => l2Get_any (some ⟨b, off, none⟩) 4 cap (zs.take 4) w' ((hs2.take 4 (by omega)).heap hh) (by omega)
  rw [satVal_four (zs.take 4) (fun z hz => hsl.2.1 z (List.mem_of_mem_take hz)) (by simp; omega), show leVal (zs.take 4) = recN zs from rfl] at HT
  have c4 := hs2.cellAt 4 (by omega)
  have c5 := hs2.cellAt 5 (by omega)
  have c6 := hs2.cellAt 6 (by omega)
  have c7 := hs2.cellAt 7 (by omega)
  obtain ⟨g0, g4, g5, g6, g7⟩ : recN zs ≤ 8192 ∧ zs.getD 4 0 ≠ 0 ∧ zs.getD 5 0 = 0 ∧ zs.getD 6 0 = 0 ∧ zs.getD 7 0 = 0 := by
    unfold headBad at hok
    refine ⟨?_, ?_, ?_, ?_, ?_⟩
    · exact Nat.le_of_not_lt fun h => hok (.inl h)
    · exact fun h => hok (.inr (.inl h))
    · exact Classical.byContradiction fun h => hok (.inr (.inr (.inl h)))
    · exact Classical.byContradiction fun h => hok (.inr (.inr (.inr (.inl h))))
    · exact Classical.byContradiction fun h => hok (.inr (.inr (.inr (.inr h))))
  have l4 : zs.getD 4 0 < 256 := hsl.2.1 _ (Crc.getD_mem _ _ (by omega))
  rw [g5] at c5
  rw [g6] at c6
  rw [g7] at c7
  have hp4 := pad_lt (recN zs)
  have hsz : recSize zs = (12 + recN zs + 3) / 4 * 4 := by unfold recSize pad; omega
  have hrz : recSize zs = 12 + recN zs + pad (recN zs) := rfl
  have HSL : Hid (SlB w (some ⟨b, off, none⟩) len zs) := hsl
  have HOK : Hid (¬ headBad zs) := hok
  obtain ⟨n, hn⟩ : ∃ n, recN zs = n := ⟨_, rfl⟩
  obtain ⟨z4, hz4⟩ : ∃ z, zs.getD 4 0 = z := ⟨_, rfl⟩
  obtain ⟨sz, hsze⟩ : ∃ z, recSize zs = z := ⟨_, rfl⟩
  rw [hn] at HT g0 hp4 hsz hrz
  rw [hz4] at c4 l4 g4
  rw [hsze] at hsz hrz
  have HN : Hid (recN zs = n ∧ zs.getD 4 0 = z4 ∧ recSize zs = sz) := ⟨hn, hz4, hsze⟩
  have hlI : (12 : Int) ≤ (len : Int) := by omega
  have hcI : (4 : Int) ≤ (cap : Int) := by omega
  have d4 : ((z4 : Int) == 0) = false := by rw [beq_eq_false_iff_ne]; omega
  have d0 : decide ((8192 : Int) < (n : Int)) = false := by rw [decide_eq_false_iff_not]; omega
  obtain ⟨p, hp⟩ : ∃ p, pad n = p := ⟨_, rfl⟩
  have HPP : Hid (pad n = p) := hp
  rw [hp] at hp4 hrz
  subst hrz
  have hzI : ((12 : Int) + n + 3) / 4 * 4 = 12 + n + p := by omega
  clear hsl hs2 hG hok hn hz4 hsze g5 g6 g7 hp hsz
  by_cases hsh : len < 12 + n + p
  · go_enter Tryd.func40, Tryd.ntmps40
    go_wp2_with fail
    refine (HT.out _ rfl).mono ?_
    clear HT
    rintro e w1 ⟨rfl, rfl⟩
    go_wp2
    refine bodyPost_ret (results_rec rfl rfl (heap_alloc_new w _)) rfl ?_
    exact ⟨World.grownBy_alloc w _ none, .inl ⟨by rw [HN.out.2.2]; exact hsh, rfl⟩⟩
  · go_enter Tryd.func40, Tryd.ntmps40
    go_wp2_with fail
    refine (HT.out _ rfl).mono ?_
    clear HT
    rintro e w1 ⟨rfl, rfl⟩
    go_wp2
    have hG1 : w.grownBy (w.alloc (.cells #[.int .i64 0, .slice none 0 0] 33)) none := World.grownBy_alloc w _ none
    have hr1 : (w.alloc (.cells #[.int .i64 0, .slice none 0 0] 33)).heap[w.heap.size]? = some (.cells #[.int .i64 0, .slice none 0 0] 33 (0, 0)) := heap_alloc_new w _
    have hs1 : (w.alloc (.cells #[.int .i64 0, .slice none 0 0] 33)).heap.size = w.heap.size + 1 := by simp
    generalize w.alloc (.cells #[.int .i64 0, .slice none 0 0] 33) = W1 at hG1 hr1 hs1 c4 c5 c6 c7 ⊢
    clear c5 c6 c7
    have hSL1 := HSL.out.grown0 hG1
    obtain ⟨ad, had⟩ : ∃ ad : Option Addr, (if cap = 12 then some (⟨b, off, none⟩ : Addr) else some ⟨b, off + 12, none⟩) = ad := ⟨_, rfl⟩
    have hD : SlB W1 ad n ((zs.drop 12).take n) := by rw [← had]; exact hSL1.cut 12 n cap (by omega) hlc
    have HD : Hid (SlB W1 ad n ((zs.drop 12).take n)) := hD
    have HW1 : Hid (w.grownBy W1 none ∧ W1.heap[w.heap.size]? = some (.cells #[.int .i64 0, .slice none 0 0] 33 (0, 0)) ∧ W1.heap.size = w.heap.size + 1 ∧ SlB W1 (some ⟨b, off, none⟩) len zs) := ⟨hG1, hr1, hs1, hSL1⟩
    have hb1 : b < W1.heap.size := cell_block_lt c4
    clear hD hSL1 hG1 hr1 hs1
    have HX4 : Hid (∀ X w2, W1.grownBy X none → X.grownBy w2 (some W1.heap.size) → w2.cell? ⟨b, off + 4, none⟩ = some (.int .u8 (z4 : Int))) := fun X w2 hX hg => keep_far hg (Nat.lt_of_lt_of_le hb1 hX.size) (by omega) (((bcell hX).1 b (off + 4) hb1).trans c4)
    have HX1 : Hid (W1.grownBy ((W1.alloc (.cells #[] 5)).drew) none) := grownBy_drew (World.grownBy_alloc W1 _ none)
    have HX2 : Hid (W1.grownBy (((W1.alloc (.cells #[] 5)).alloc (.cells #[.int .i64 0, .slice none 0 0] 33)).drew) none) := grownBy_drew (grownBy_alloc (World.grownBy_alloc W1 _ none) _)
    have HR2 : Hid (∀ w2, (((W1.alloc (.cells #[] 5)).alloc (.cells #[.int .i64 0, .slice none 0 0] 33)).drew).grownBy w2 (some W1.heap.size) → w2.heap[W1.heap.size + 1]? = some (.cells #[.int .i64 0, .slice none 0 0] 33 (0, 0))) := fun w2 hg => (hg.block (W1.heap.size + 1) (by show _ < ((W1.alloc _).alloc _).heap.size; simp) (by simp)).trans (heap_two W1 _ _)
    have HX5 : Hid (∀ X w2, W1.grownBy X none → X.grownBy w2 (some (W1.heap.size + 1)) → w2.cell? ⟨b, off + 4, none⟩ = some (.int .u8 (z4 : Int))) := fun X w2 hX hg => keep_far hg (Nat.lt_of_lt_of_le hb1 hX.size) (by omega) (((bcell hX).1 b (off + 4) hb1).trans c4)
    have HX3 : Hid (W1.grownBy (((W1.alloc (.cells #[.int .i64 0, .slice none 0 0] 33)).alloc (.cells #[] 5)).drew) none) := grownBy_drew (grownBy_alloc (World.grownBy_alloc W1 _ none) _)
    have HO3 : Hid ((((W1.alloc (.cells #[.int .i64 0, .slice none 0 0] 33)).alloc (.cells #[] 5)).drew).ownsRow W1.heap.size 5 1 (.slice (some ⟨W1.heap.size + 1, 0, none⟩) 0 0) 0 (([] : List Nat).map bv)) := by
      have h1 := World.ownsRow_made (base := W1.heap.size) (e := 5) (size := 1) (W1.alloc (.cells #[.int .i64 0, .slice none 0 0] 33)) #[] 0 (by simp) (Nat.zero_le _) rfl
      rw [World.size_alloc] at h1
      exact ownsRow_heap h1 rfl
    have HR3 : Hid (∀ w2, (((W1.alloc (.cells #[.int .i64 0, .slice none 0 0] 33)).alloc (.cells #[] 5)).drew).grownBy w2 (some (W1.heap.size + 1)) → w2.heap[W1.heap.size]? = some (.cells #[.int .i64 0, .slice none 0 0] 33 (0, 0))) := fun w2 hg => (hg.block W1.heap.size (by show _ < ((W1.alloc _).alloc _).heap.size; simp; omega) (by simp)).trans ((Below.heap_alloc _ _ _ (by simp)).trans (heap_alloc_new W1 _))
    obtain ⟨i0, TB⟩ := byteT
    have v1 : IntKind.i64.wrap (12 + (n : Int)) = 12 + n := IntWalk.i64_in _ (by omega)
    have v2 : IntKind.i64.wrap (z4 : Int) = z4 := IntWalk.i64_in _ (by omega)
    have q1 : (12 : Int) + n ≤ (cap : Int) := by omega
    have q2 : (0 : Int) ≤ (12 : Int) + n := by omega
    have q3 : (12 : Int) ≤ (12 : Int) + n := by omega
    have q4 : max ((12 : Int) + n) 0 = 12 + n := by omega
    have q5 : ((12 : Int) + n).toNat - 12 = n := by omega
    have q6 : (4 : Int) < (len : Int) := by omega
    go_region_held3 (fun w' => w'.cell? ⟨b, off + 4, none⟩ = some (.int .u8 (z4 : Int))) (first | go_keep | (exact c42) | (exact cell_set2 hb4 c42) | fail)
      (first
        | (refine step_append_b (by rfl) (.tmp 62) (.tmp 66) TB (by rfl) (base := W1.heap.size) (g := W1.heap.size) (n := 0) (cap := 0) (xs := []) (by rfl) (by exact ownsRow_heap (World.ownsRow_made W1 #[] 0 (Nat.le_refl _) (Nat.zero_le _) rfl) rfl) (oa := ad) (m := n) (c := cap - 12) (zs := (zs.drop 12).take n) (by rfl) (by exact HD.out.grown0 HX1.out) (by omega) (by first | omega | (simp; done) | (simp; omega)) ?_; intro g2 cp2 w2 hown2 hgr2 hat2 hsz2; have c42 : w2.cell? ⟨b, off + 4, none⟩ = some (.int .u8 (z4 : Int)) := (by exact HX4.out _ _ HX1.out hgr2.out); have hb2 : b < w2.heap.size := (by exact cell_block_lt c42); have hb3 : ¬ b = w2.heap.size := (by omega); have HC2 : Hid (W1.grownBy w2 none) := (by exact grownBy_new HX1.out hgr2.out (Nat.le_refl _)))
        | (refine step_append_b (by rfl) (.tmp 62) (.tmp 66) TB (by rfl) (base := W1.heap.size) (g := W1.heap.size) (n := 0) (cap := 0) (xs := []) (by rfl) (by exact ownsRow_heap ((World.ownsRow_made W1 #[] 0 (Nat.le_refl _) (Nat.zero_le _) rfl).alloc (.cells #[.int .i64 0, .slice none 0 0] 33)) rfl) (oa := ad) (m := n) (c := cap - 12) (zs := (zs.drop 12).take n) (by rfl) (by exact HD.out.grown0 HX2.out) (by omega) (by first | omega | (simp; done) | (simp; omega)) ?_; intro g2 cp2 w2 hown2 hgr2 hat2 hsz2; have c42 : w2.cell? ⟨b, off + 4, none⟩ = some (.int .u8 (z4 : Int)) := (by exact HX4.out _ _ HX2.out hgr2.out); have hb2 : b < w2.heap.size := (by exact cell_block_lt c42); have hr2 := (HR2.out _ hgr2.out); have hr20 : w2.cell? ⟨W1.heap.size + 1, 0, none⟩ = some (.int .i64 0) := (by simp [World.cell?, hr2]); have hr21 : w2.cell? ⟨W1.heap.size + 1, 1, none⟩ = some (.slice none 0 0) := (by simp [World.cell?, hr2]); have hf20 : w2.frozen? ⟨W1.heap.size + 1, 0, none⟩ = false := (by simp [World.frozen?, hr2]); have hf21 : w2.frozen? ⟨W1.heap.size + 1, 1, none⟩ = false := (by simp [World.frozen?, hr2]); have hb4 : ¬ b = W1.heap.size + 1 := (by omega); have HC2 : Hid (W1.grownBy w2 none) := (by exact grownBy_new HX2.out hgr2.out (Nat.le_refl _)))
        | (refine step_append_b (by rfl) (.tmp 62) (.tmp 66) TB (by rfl) (base := W1.heap.size) (g := W1.heap.size + 1) (n := 0) (cap := 0) (xs := []) (by rfl) (by exact HO3.out) (oa := ad) (m := n) (c := cap - 12) (zs := (zs.drop 12).take n) (by rfl) (by exact HD.out.grown0 HX3.out) (by omega) (by first | omega | (simp; done) | (simp; omega)) ?_; intro g2 cp2 w2 hown2 hgr2 hat2 hsz2; have c42 : w2.cell? ⟨b, off + 4, none⟩ = some (.int .u8 (z4 : Int)) := (by exact HX5.out _ _ HX3.out hgr2.out); have hb2 : b < w2.heap.size := (by exact cell_block_lt c42); have hr2 := (HR3.out _ hgr2.out); have hr20 : w2.cell? ⟨W1.heap.size, 0, none⟩ = some (.int .i64 0) := (by simp [World.cell?, hr2]); have hr21 : w2.cell? ⟨W1.heap.size, 1, none⟩ = some (.slice none 0 0) := (by simp [World.cell?, hr2]); have hf20 : w2.frozen? ⟨W1.heap.size, 0, none⟩ = false := (by simp [World.frozen?, hr2]); have hf21 : w2.frozen? ⟨W1.heap.size, 1, none⟩ = false := (by simp [World.frozen?, hr2]); have hb4 : ¬ b = W1.heap.size := (by omega); have HC2 : Hid (W1.grownBy w2 none) := (by exact grownBy_new HX3.out hgr2.out (by omega)))
        | fail)
    · have HCP : Hid (n ≤ cp2 ∧ cp2 ≤ maxLen) := by have h9 := hown2.out; rw [Nat.zero_add] at h9; exact ownsRow_caps3 h9
      have F : Hid ((w2.alloc (.cells #[.int .i64 (z4 : Int), .slice (some ⟨g2, 0, none⟩) n cp2] 33)).heap[w2.heap.size]? = some (.cells #[.int .i64 (z4 : Int), .slice (some ⟨g2, 0, none⟩) n cp2] 33 (0, 0)) ∧ W1.heap.size ≤ w2.heap.size ∧ W1.grownBy (w2.alloc (.cells #[.int .i64 (z4 : Int), .slice (some ⟨g2, 0, none⟩) n cp2] 33)) none ∧ Own (w2.alloc (.cells #[.int .i64 (z4 : Int), .slice (some ⟨g2, 0, none⟩) n cp2] 33)) 5 g2 ((zs.drop 12).take n) ∧ W1.heap.size ≤ g2) := by
        have hO := own_made (zs := (zs.drop 12).take n) (by have := hown2.out; rwa [Nat.zero_add, List.nil_append] at this) HD.out.2.1
        exact ⟨heap_alloc_new w2 _, HC2.out.size, grownBy_alloc HC2.out _, hO.grown (World.grownBy_alloc w2 _ none) (by simp), (hown2.out.lt g2 rfl).1⟩
      clear hown2 hgr2 hat2 c42 hb2 HX1 HX2 HX3 HX4 HX5 HO3 HR2 HR3 HC2
      generalize w2.alloc (.cells #[.int .i64 (z4 : Int), .slice (some ⟨g2, 0, none⟩) n cp2] 33) = W2 at F ⊢
      have hdl : ((zs.drop 12).take n).length = n := by simp; omega
      have cr0 : W2.cell? ⟨w2.heap.size, 0, none⟩ = some (.int .i64 (z4 : Int)) := by simp [World.cell?, F.out.1]
      have cr1 : W2.cell? ⟨w2.heap.size, 1, none⟩ = some (.slice (some ⟨g2, 0, none⟩) n cp2) := by simp [World.cell?, F.out.1]
      have HEN : Hid (Calls _ _ _ _ _) := specEncode_ok z4 (some ⟨g2, 0, none⟩) n cp2 ((zs.drop 12).take n) W2 (by omega) (by omega) (by omega) (F.out.2.2.2.1.sl n hdl)
      go_wp2_with fail
      refine HEN.out.mono ?_
      clear HEN
      rintro e w3 ⟨g3, N, cp3, rfl, hN, hg3, hO3, hG3, hNc⟩
      have hNN : N = 12 + n + p := by rw [hN, enc_len, hdl, HPP.out]
      subst hNN
      have hrl : w.heap.size < W1.heap.size := by have := HW1.out.2.2.1; omega
      have hW13 : W1.grownBy w3 none := grownBy_trans F.out.2.2.1 hG3
      have hwg : w.grownBy w3 none := grownBy_trans HW1.out.1 hW13
      have hRq3 : w3.heap[w2.heap.size]? = some (.cells #[.int .i64 (z4 : Int), .slice (some ⟨g2, 0, none⟩) n cp2] 33 (0, 0)) := (hG3.block _ (Array.getElem?_eq_some_iff.1 F.out.1).1 (by simp)).trans F.out.1
      have hRes3 : w3.heap[w.heap.size]? = some (.cells #[.int .i64 0, .slice none 0 0] 33 (0, 0)) := (hW13.block _ hrl (by simp)).trans HW1.out.2.1
      have hO23 : Own w3 5 g2 ((zs.drop 12).take n) := F.out.2.2.2.1.grown hG3 (by simp)
      have hSL3 : SlB w3 (some ⟨b, off, none⟩) len zs := HSL.out.grown0 hwg
      have cr03 : w3.cell? ⟨w2.heap.size, 0, none⟩ = some (.int .i64 (z4 : Int)) := by simp [World.cell?, hRq3]
      have cr13 : w3.cell? ⟨w2.heap.size, 1, none⟩ = some (.slice (some ⟨g2, 0, none⟩) n cp2) := by simp [World.cell?, hRq3]
      have ce0 : w3.cell? ⟨w.heap.size, 0, none⟩ = some (.int .i64 0) := by simp [World.cell?, hRes3]
      have ce1 : w3.cell? ⟨w.heap.size, 1, none⟩ = some (.slice none 0 0) := by simp [World.cell?, hRes3]
      have fe0 : w3.frozen? ⟨w.heap.size, 0, none⟩ = false := by simp [World.frozen?, hRes3]
      have fe1 : w3.frozen? ⟨w.heap.size, 1, none⟩ = false := by simp [World.frozen?, hRes3]
      have hcv1 : ∀ k, (convert 22 9 (.slice (some ⟨g3, 0, none⟩) (12 + n + p) cp3)).run Tryd.prog (w3.drewN k) = .ok (.string (strB (enc z4 ((zs.drop 12).take n)))) (w3.drewN k) := fun k => run_str_b (w3.drewN k) Tryd.underlying22 Tryd.underlying5 Tryd.underlying9 ((hO3.sl _ hN.symm).heap rfl) cp3
      have hcv2 : ∀ k, (convert 22 9 (.slice (some ⟨b, off, none⟩) (12 + n + p) cap)).run Tryd.prog (w3.drewN k) = .ok (.string (strB (zs.take (12 + n + p)))) (w3.drewN k) := fun k => run_str_b (w3.drewN k) Tryd.underlying22 Tryd.underlying5 Tryd.underlying9 ((hSL3.take _ (by omega)).heap rfl) cap
      have hcv3 : ∀ k, (convert 22 9 (.slice (some ⟨g3, 0, none⟩) 12 cp3)).run Tryd.prog (w3.drewN k) = .ok (.string (strB ((enc z4 ((zs.drop 12).take n)).take 12))) (w3.drewN k) := fun k => run_str_b (w3.drewN k) Tryd.underlying22 Tryd.underlying5 Tryd.underlying9 (((hO3.sl _ hN.symm).take 12 (by omega)).heap rfl) cp3
      have hcv4 : ∀ k, (convert 22 9 (.slice (some ⟨b, off, none⟩) 12 cap)).run Tryd.prog (w3.drewN k) = .ok (.string (strB (zs.take 12))) (w3.drewN k) := fun k => run_str_b (w3.drewN k) Tryd.underlying22 Tryd.underlying5 Tryd.underlying9 ((hSL3.take 12 (by omega)).heap rfl) cap
      have hEz : ∀ z ∈ enc z4 ((zs.drop 12).take n), z < 256 := hO3.1
      have hZz : ∀ z ∈ zs, z < 256 := HSL.out.2.1
      have hE1 := strB_eq (enc z4 ((zs.drop 12).take n)) (zs.take (12 + n + p)) hEz (fun z hz => hZz z (List.mem_of_mem_take hz))
      have hE2 := strB_eq ((enc z4 ((zs.drop 12).take n)).take 12) (zs.take 12) (fun z hz => hEz z (List.mem_of_mem_take hz)) (fun z hz => hZz z (List.mem_of_mem_take hz))
      have hM1 : enc z4 ((zs.drop 12).take n) = zs.take (12 + n + p) ↔ ¬ sumBad zs ∧ ¬ padBad zs := by
        have h1 := whole_eq zs hZz (by omega) HOK.out (by rw [HN.out.2.2]; omega)
        rw [HN.out.2.2, HN.out.2.1] at h1
        unfold recData at h1
        rw [HN.out.1] at h1
        exact h1
      have hM2 : (enc z4 ((zs.drop 12).take n)).take 12 = zs.take 12 ↔ ¬ sumBad zs := by
        have h1 := twelve_eq zs hZz (by omega) HOK.out (by rw [HN.out.1]; omega)
        rw [HN.out.2.1] at h1
        unfold recData at h1
        rw [HN.out.1] at h1
        exact h1
      have HFIN : Hid (w.grownBy w3 none ∧ w3.heap[w.heap.size]? = some (.cells #[.int .i64 0, .slice none 0 0] 33 (0, 0)) ∧ Own w3 5 g2 ((zs.drop 12).take n) ∧ w.heap.size < g2) := ⟨hwg, hRes3, hO23, by have := F.out.2.2.2.2; omega⟩
      clear F hN hO3 hG3 hW13 hwg hRq3 hRes3 hO23 hSL3 cr0 cr1 hEz hZz hg3
      generalize strB (enc z4 ((zs.drop 12).take n)) = s1 at *
      generalize strB (zs.take (12 + n + p)) = s2 at *
      generalize strB ((enc z4 ((zs.drop 12).take n)).take 12) = s3 at *
      generalize strB (zs.take 12) = s4 at *
      have r1 : (12 : Int) + n + p ≤ (cap : Int) := by omega
      have r2 : (0 : Int) ≤ (12 : Int) + n + p := by omega
      have r3 : ((12 : Int) + n + p).toNat = 12 + n + p := by omega
      have r4 : (12 : Int) ≤ (cp3 : Int) := by omega
      have r5 : (12 : Int) ≤ (cap : Int) := by omega
      have hcv5 : ∀ j k, (convert 22 9 (.slice (some ⟨g3, 0, none⟩) 12 cp3)).run Tryd.prog ((w3.drewN j).drewN k) = .ok (.string s3) ((w3.drewN j).drewN k) := fun j k => by rw [World.drewN_drewN]; exact hcv3 _
      have hcv6 : ∀ j k, (convert 22 9 (.slice (some ⟨b, off, none⟩) 12 cap)).run Tryd.prog ((w3.drewN j).drewN k) = .ok (.string s4) ((w3.drewN j).drewN k) := fun j k => by rw [World.drewN_drewN]; exact hcv4 _
      by_cases hw : enc z4 ((zs.drop 12).take n) = zs.take (12 + n + p)
      · rw [decide_eq_true hw] at hE1
        have HX : Hid (¬ sumBad zs ∧ ¬ padBad zs) := hM1.1 hw
        clear hw hE2 hM1 hM2
        go_wp2
        go_quiet (fail)
        go_wp2
        have hne : g2 ≠ w.heap.size := by have := HFIN.out.2.2.2; omega
        refine bodyPost_ret (results_rec (x := .int .i64 (z4 : Int)) (y := .slice (some ⟨g2, 0, none⟩) n cp2) rfl rfl (set2_block HFIN.out.2.1)) rfl ?_
        refine ⟨grownBy_setNew (grownBy_setNew (grownBy_same HFIN.out.1 ⟨rfl, rfl, rfl, rfl⟩) (Nat.le_refl _)) (Nat.le_refl _), .inr (.inr (.inr ⟨by rw [HN.out.2.2]; omega, HX.out.1, HX.out.2, g2, cp2, ⟨by have := HFIN.out.2.2.2; omega, by rw [HN.out.1]; exact HCP.out.1, HCP.out.2⟩, ?_, by rw [HN.out.1, HN.out.2.1, HN.out.2.2]; rfl⟩))⟩
        unfold recData
        rw [HN.out.1]
        exact ((HFIN.out.2.2.1.heap (w' := w3.drewN nq) rfl).setOther (a := ⟨w.heap.size, 0, none⟩) hne).setOther (a := ⟨w.heap.size, 1, none⟩) hne
      · rw [decide_eq_false hw] at hE1
        have HX : Hid (¬ (¬ sumBad zs ∧ ¬ padBad zs)) := fun h => hw (hM1.2 h)
        clear hM1
        by_cases hw2 : (enc z4 ((zs.drop 12).take n)).take 12 = zs.take 12
        · rw [decide_eq_true hw2] at hE2
          have HY : Hid (¬ sumBad zs ∧ padBad zs) := ⟨hM2.1 hw2, Classical.byContradiction fun h => HX.out ⟨hM2.1 hw2, h⟩⟩
          clear hw hw2 hM2
          go_wp2
          go_quiet (fail)
          go_wp2
          go_quiet (fail)
          go_wp2
          refine bodyPost_ret (results_rec (x := .int .i64 0) (y := .slice none 0 0) rfl rfl (set2_block HFIN.out.2.1)) rfl ?_
          exact ⟨grownBy_setNew (grownBy_setNew (grownBy_same HFIN.out.1 ⟨rfl, rfl, rfl, rfl⟩) (Nat.le_refl _)) (Nat.le_refl _), .inr (.inr (.inl ⟨by rw [HN.out.2.2]; omega, HY.out.1, HY.out.2, rfl⟩))⟩
        · rw [decide_eq_false hw2] at hE2
          have HY : Hid (sumBad zs) := Classical.byContradiction fun h => hw2 (hM2.2 h)
          clear hw hw2 hM2
          go_wp2
          go_quiet (fail)
          go_wp2
          go_quiet (fail)
          go_wp2
          refine bodyPost_ret (results_rec (x := .int .i64 0) (y := .slice none 0 0) rfl rfl (set2_block HFIN.out.2.1)) rfl ?_
          exact ⟨grownBy_setNew (grownBy_setNew (grownBy_same HFIN.out.1 ⟨rfl, rfl, rfl, rfl⟩) (Nat.le_refl _)) (Nat.le_refl _), .inr (.inl ⟨by rw [HN.out.2.2]; omega, HY.out, rfl⟩)⟩
    · have HCP : Hid (n ≤ cp2 ∧ cp2 ≤ maxLen) := by have h9 := hown2.out; rw [Nat.zero_add] at h9; exact ownsRow_caps3 h9
      have F : Hid (((w2.setCell ⟨W1.heap.size + 1, 0, none⟩ (.int .i64 (z4 : Int))).setCell ⟨W1.heap.size + 1, 1, none⟩ (.slice (some ⟨g2, 0, none⟩) n cp2)).heap[W1.heap.size + 1]? = some (.cells #[.int .i64 (z4 : Int), .slice (some ⟨g2, 0, none⟩) n cp2] 33 (0, 0)) ∧ W1.heap.size ≤ W1.heap.size + 1 ∧ W1.grownBy ((w2.setCell ⟨W1.heap.size + 1, 0, none⟩ (.int .i64 (z4 : Int))).setCell ⟨W1.heap.size + 1, 1, none⟩ (.slice (some ⟨g2, 0, none⟩) n cp2)) none ∧ Own ((w2.setCell ⟨W1.heap.size + 1, 0, none⟩ (.int .i64 (z4 : Int))).setCell ⟨W1.heap.size + 1, 1, none⟩ (.slice (some ⟨g2, 0, none⟩) n cp2)) 5 g2 ((zs.drop 12).take n) ∧ W1.heap.size ≤ g2) := by
        have hO := own_made (zs := (zs.drop 12).take n) (by have := hown2.out; rwa [Nat.zero_add, List.nil_append] at this) HD.out.2.1
        exact ⟨(heap_setCell_same _ (W1.heap.size + 1) 1 _ _ _ (heap_setCell_same w2 (W1.heap.size + 1) 0 _ _ _ hr2)).trans (by simp), Nat.le_succ _, grownBy_setNew (grownBy_setNew HC2.out (Nat.le_succ _)) (Nat.le_succ _), (hO.setOther (fun e => own_neC hO hr2 e)).setOther (fun e => own_neC hO hr2 e), (hown2.out.lt g2 rfl).1⟩
      clear hown2 hgr2 hat2 c42 hb2 HX1 HX2 HX3 HX4 HX5 HO3 HR2 HR3 HC2
      generalize (w2.setCell ⟨W1.heap.size + 1, 0, none⟩ (.int .i64 (z4 : Int))).setCell ⟨W1.heap.size + 1, 1, none⟩ (.slice (some ⟨g2, 0, none⟩) n cp2) = W2 at F ⊢
      have hdl : ((zs.drop 12).take n).length = n := by simp; omega
      have cr0 : W2.cell? ⟨W1.heap.size + 1, 0, none⟩ = some (.int .i64 (z4 : Int)) := by simp [World.cell?, F.out.1]
      have cr1 : W2.cell? ⟨W1.heap.size + 1, 1, none⟩ = some (.slice (some ⟨g2, 0, none⟩) n cp2) := by simp [World.cell?, F.out.1]
      have HEN : Hid (Calls _ _ _ _ _) := specEncode_ok z4 (some ⟨g2, 0, none⟩) n cp2 ((zs.drop 12).take n) W2 (by omega) (by omega) (by omega) (F.out.2.2.2.1.sl n hdl)
      go_wp2_with fail
      refine HEN.out.mono ?_
      clear HEN
      rintro e w3 ⟨g3, N, cp3, rfl, hN, hg3, hO3, hG3, hNc⟩
      have hNN : N = 12 + n + p := by rw [hN, enc_len, hdl, HPP.out]
      subst hNN
      have hrl : w.heap.size < W1.heap.size := by have := HW1.out.2.2.1; omega
      have hW13 : W1.grownBy w3 none := grownBy_trans F.out.2.2.1 hG3
      have hwg : w.grownBy w3 none := grownBy_trans HW1.out.1 hW13
      have hRq3 : w3.heap[W1.heap.size + 1]? = some (.cells #[.int .i64 (z4 : Int), .slice (some ⟨g2, 0, none⟩) n cp2] 33 (0, 0)) := (hG3.block _ (Array.getElem?_eq_some_iff.1 F.out.1).1 (by simp)).trans F.out.1
      have hRes3 : w3.heap[w.heap.size]? = some (.cells #[.int .i64 0, .slice none 0 0] 33 (0, 0)) := (hW13.block _ hrl (by simp)).trans HW1.out.2.1
      have hO23 : Own w3 5 g2 ((zs.drop 12).take n) := F.out.2.2.2.1.grown hG3 (by simp)
      have hSL3 : SlB w3 (some ⟨b, off, none⟩) len zs := HSL.out.grown0 hwg
      have cr03 : w3.cell? ⟨W1.heap.size + 1, 0, none⟩ = some (.int .i64 (z4 : Int)) := by simp [World.cell?, hRq3]
      have cr13 : w3.cell? ⟨W1.heap.size + 1, 1, none⟩ = some (.slice (some ⟨g2, 0, none⟩) n cp2) := by simp [World.cell?, hRq3]
      have ce0 : w3.cell? ⟨w.heap.size, 0, none⟩ = some (.int .i64 0) := by simp [World.cell?, hRes3]
      have ce1 : w3.cell? ⟨w.heap.size, 1, none⟩ = some (.slice none 0 0) := by simp [World.cell?, hRes3]
      have fe0 : w3.frozen? ⟨w.heap.size, 0, none⟩ = false := by simp [World.frozen?, hRes3]
      have fe1 : w3.frozen? ⟨w.heap.size, 1, none⟩ = false := by simp [World.frozen?, hRes3]
      have hcv1 : ∀ k, (convert 22 9 (.slice (some ⟨g3, 0, none⟩) (12 + n + p) cp3)).run Tryd.prog (w3.drewN k) = .ok (.string (strB (enc z4 ((zs.drop 12).take n)))) (w3.drewN k) := fun k => run_str_b (w3.drewN k) Tryd.underlying22 Tryd.underlying5 Tryd.underlying9 ((hO3.sl _ hN.symm).heap rfl) cp3
      have hcv2 : ∀ k, (convert 22 9 (.slice (some ⟨b, off, none⟩) (12 + n + p) cap)).run Tryd.prog (w3.drewN k) = .ok (.string (strB (zs.take (12 + n + p)))) (w3.drewN k) := fun k => run_str_b (w3.drewN k) Tryd.underlying22 Tryd.underlying5 Tryd.underlying9 ((hSL3.take _ (by omega)).heap rfl) cap
      have hcv3 : ∀ k, (convert 22 9 (.slice (some ⟨g3, 0, none⟩) 12 cp3)).run Tryd.prog (w3.drewN k) = .ok (.string (strB ((enc z4 ((zs.drop 12).take n)).take 12))) (w3.drewN k) := fun k => run_str_b (w3.drewN k) Tryd.underlying22 Tryd.underlying5 Tryd.underlying9 (((hO3.sl _ hN.symm).take 12 (by omega)).heap rfl) cp3
      have hcv4 : ∀ k, (convert 22 9 (.slice (some ⟨b, off, none⟩) 12 cap)).run Tryd.prog (w3.drewN k) = .ok (.string (strB (zs.take 12))) (w3.drewN k) := fun k => run_str_b (w3.drewN k) Tryd.underlying22 Tryd.underlying5 Tryd.underlying9 ((hSL3.take 12 (by omega)).heap rfl) cap
      have hEz : ∀ z ∈ enc z4 ((zs.drop 12).take n), z < 256 := hO3.1
      have hZz : ∀ z ∈ zs, z < 256 := HSL.out.2.1
      have hE1 := strB_eq (enc z4 ((zs.drop 12).take n)) (zs.take (12 + n + p)) hEz (fun z hz => hZz z (List.mem_of_mem_take hz))
      have hE2 := strB_eq ((enc z4 ((zs.drop 12).take n)).take 12) (zs.take 12) (fun z hz => hEz z (List.mem_of_mem_take hz)) (fun z hz => hZz z (List.mem_of_mem_take hz))
      have hM1 : enc z4 ((zs.drop 12).take n) = zs.take (12 + n + p) ↔ ¬ sumBad zs ∧ ¬ padBad zs := by
        have h1 := whole_eq zs hZz (by omega) HOK.out (by rw [HN.out.2.2]; omega)
        rw [HN.out.2.2, HN.out.2.1] at h1
        unfold recData at h1
        rw [HN.out.1] at h1
        exact h1
      have hM2 : (enc z4 ((zs.drop 12).take n)).take 12 = zs.take 12 ↔ ¬ sumBad zs := by
        have h1 := twelve_eq zs hZz (by omega) HOK.out (by rw [HN.out.1]; omega)
        rw [HN.out.2.1] at h1
        unfold recData at h1
        rw [HN.out.1] at h1
        exact h1
      have HFIN : Hid (w.grownBy w3 none ∧ w3.heap[w.heap.size]? = some (.cells #[.int .i64 0, .slice none 0 0] 33 (0, 0)) ∧ Own w3 5 g2 ((zs.drop 12).take n) ∧ w.heap.size < g2) := ⟨hwg, hRes3, hO23, by have := F.out.2.2.2.2; omega⟩
      clear F hN hO3 hG3 hW13 hwg hRq3 hRes3 hO23 hSL3 cr0 cr1 hEz hZz hg3
      generalize strB (enc z4 ((zs.drop 12).take n)) = s1 at *
      generalize strB (zs.take (12 + n + p)) = s2 at *
      generalize strB ((enc z4 ((zs.drop 12).take n)).take 12) = s3 at *
      generalize strB (zs.take 12) = s4 at *
      have r1 : (12 : Int) + n + p ≤ (cap : Int) := by omega
      have r2 : (0 : Int) ≤ (12 : Int) + n + p := by omega
      have r3 : ((12 : Int) + n + p).toNat = 12 + n + p := by omega
      have r4 : (12 : Int) ≤ (cp3 : Int) := by omega
      have r5 : (12 : Int) ≤ (cap : Int) := by omega
      have hcv5 : ∀ j k, (convert 22 9 (.slice (some ⟨g3, 0, none⟩) 12 cp3)).run Tryd.prog ((w3.drewN j).drewN k) = .ok (.string s3) ((w3.drewN j).drewN k) := fun j k => by rw [World.drewN_drewN]; exact hcv3 _
      have hcv6 : ∀ j k, (convert 22 9 (.slice (some ⟨b, off, none⟩) 12 cap)).run Tryd.prog ((w3.drewN j).drewN k) = .ok (.string s4) ((w3.drewN j).drewN k) := fun j k => by rw [World.drewN_drewN]; exact hcv4 _
      by_cases hw : enc z4 ((zs.drop 12).take n) = zs.take (12 + n + p)
      · rw [decide_eq_true hw] at hE1
        have HX : Hid (¬ sumBad zs ∧ ¬ padBad zs) := hM1.1 hw
        clear hw hE2 hM1 hM2
        go_wp2
        go_quiet (fail)
        go_wp2
        have hne : g2 ≠ w.heap.size := by have := HFIN.out.2.2.2; omega
        refine bodyPost_ret (results_rec (x := .int .i64 (z4 : Int)) (y := .slice (some ⟨g2, 0, none⟩) n cp2) rfl rfl (set2_block HFIN.out.2.1)) rfl ?_
        refine ⟨grownBy_setNew (grownBy_setNew (grownBy_same HFIN.out.1 ⟨rfl, rfl, rfl, rfl⟩) (Nat.le_refl _)) (Nat.le_refl _), .inr (.inr (.inr ⟨by rw [HN.out.2.2]; omega, HX.out.1, HX.out.2, g2, cp2, ⟨by have := HFIN.out.2.2.2; omega, by rw [HN.out.1]; exact HCP.out.1, HCP.out.2⟩, ?_, by rw [HN.out.1, HN.out.2.1, HN.out.2.2]; rfl⟩))⟩
        unfold recData
        rw [HN.out.1]
        exact ((HFIN.out.2.2.1.heap (w' := w3.drewN nq) rfl).setOther (a := ⟨w.heap.size, 0, none⟩) hne).setOther (a := ⟨w.heap.size, 1, none⟩) hne
      · rw [decide_eq_false hw] at hE1
        have HX : Hid (¬ (¬ sumBad zs ∧ ¬ padBad zs)) := fun h => hw (hM1.2 h)
        clear hM1
        by_cases hw2 : (enc z4 ((zs.drop 12).take n)).take 12 = zs.take 12
        · rw [decide_eq_true hw2] at hE2
          have HY : Hid (¬ sumBad zs ∧ padBad zs) := ⟨hM2.1 hw2, Classical.byContradiction fun h => HX.out ⟨hM2.1 hw2, h⟩⟩
          clear hw hw2 hM2
          go_wp2
          go_quiet (fail)
          go_wp2
          go_quiet (fail)
          go_wp2
          refine bodyPost_ret (results_rec (x := .int .i64 0) (y := .slice none 0 0) rfl rfl (set2_block HFIN.out.2.1)) rfl ?_
          exact ⟨grownBy_setNew (grownBy_setNew (grownBy_same HFIN.out.1 ⟨rfl, rfl, rfl, rfl⟩) (Nat.le_refl _)) (Nat.le_refl _), .inr (.inr (.inl ⟨by rw [HN.out.2.2]; omega, HY.out.1, HY.out.2, rfl⟩))⟩
        · rw [decide_eq_false hw2] at hE2
          have HY : Hid (sumBad zs) := Classical.byContradiction fun h => hw2 (hM2.2 h)
          clear hw hw2 hM2
          go_wp2
          go_quiet (fail)
          go_wp2
          go_quiet (fail)
          go_wp2
          refine bodyPost_ret (results_rec (x := .int .i64 0) (y := .slice none 0 0) rfl rfl (set2_block HFIN.out.2.1)) rfl ?_
          exact ⟨grownBy_setNew (grownBy_setNew (grownBy_same HFIN.out.1 ⟨rfl, rfl, rfl, rfl⟩) (Nat.le_refl _)) (Nat.le_refl _), .inr (.inl ⟨by rw [HN.out.2.2]; omega, HY.out, rfl⟩)⟩
    · have HCP : Hid (n ≤ cp2 ∧ cp2 ≤ maxLen) := by have h9 := hown2.out; rw [Nat.zero_add] at h9; exact ownsRow_caps3 h9
      have F : Hid (((w2.setCell ⟨W1.heap.size, 0, none⟩ (.int .i64 (z4 : Int))).setCell ⟨W1.heap.size, 1, none⟩ (.slice (some ⟨g2, 0, none⟩) n cp2)).heap[W1.heap.size]? = some (.cells #[.int .i64 (z4 : Int), .slice (some ⟨g2, 0, none⟩) n cp2] 33 (0, 0)) ∧ W1.heap.size ≤ W1.heap.size ∧ W1.grownBy ((w2.setCell ⟨W1.heap.size, 0, none⟩ (.int .i64 (z4 : Int))).setCell ⟨W1.heap.size, 1, none⟩ (.slice (some ⟨g2, 0, none⟩) n cp2)) none ∧ Own ((w2.setCell ⟨W1.heap.size, 0, none⟩ (.int .i64 (z4 : Int))).setCell ⟨W1.heap.size, 1, none⟩ (.slice (some ⟨g2, 0, none⟩) n cp2)) 5 g2 ((zs.drop 12).take n) ∧ W1.heap.size ≤ g2) := by
        have hO := own_made (zs := (zs.drop 12).take n) (by have := hown2.out; rwa [Nat.zero_add, List.nil_append] at this) HD.out.2.1
        exact ⟨(heap_setCell_same _ (W1.heap.size) 1 _ _ _ (heap_setCell_same w2 (W1.heap.size) 0 _ _ _ hr2)).trans (by simp), Nat.le_refl _, grownBy_setNew (grownBy_setNew HC2.out (Nat.le_refl _)) (Nat.le_refl _), (hO.setOther (fun e => own_neC hO hr2 e)).setOther (fun e => own_neC hO hr2 e), (hown2.out.lt g2 rfl).1⟩
      clear hown2 hgr2 hat2 c42 hb2 HX1 HX2 HX3 HX4 HX5 HO3 HR2 HR3 HC2
      generalize (w2.setCell ⟨W1.heap.size, 0, none⟩ (.int .i64 (z4 : Int))).setCell ⟨W1.heap.size, 1, none⟩ (.slice (some ⟨g2, 0, none⟩) n cp2) = W2 at F ⊢
      have hdl : ((zs.drop 12).take n).length = n := by simp; omega
      have cr0 : W2.cell? ⟨W1.heap.size, 0, none⟩ = some (.int .i64 (z4 : Int)) := by simp [World.cell?, F.out.1]
      have cr1 : W2.cell? ⟨W1.heap.size, 1, none⟩ = some (.slice (some ⟨g2, 0, none⟩) n cp2) := by simp [World.cell?, F.out.1]
      have HEN : Hid (Calls _ _ _ _ _) := specEncode_ok z4 (some ⟨g2, 0, none⟩) n cp2 ((zs.drop 12).take n) W2 (by omega) (by omega) (by omega) (F.out.2.2.2.1.sl n hdl)
      go_wp2_with fail
      refine HEN.out.mono ?_
      clear HEN
      rintro e w3 ⟨g3, N, cp3, rfl, hN, hg3, hO3, hG3, hNc⟩
      have hNN : N = 12 + n + p := by rw [hN, enc_len, hdl, HPP.out]
      subst hNN
      have hrl : w.heap.size < W1.heap.size := by have := HW1.out.2.2.1; omega
      have hW13 : W1.grownBy w3 none := grownBy_trans F.out.2.2.1 hG3
      have hwg : w.grownBy w3 none := grownBy_trans HW1.out.1 hW13
      have hRq3 : w3.heap[W1.heap.size]? = some (.cells #[.int .i64 (z4 : Int), .slice (some ⟨g2, 0, none⟩) n cp2] 33 (0, 0)) := (hG3.block _ (Array.getElem?_eq_some_iff.1 F.out.1).1 (by simp)).trans F.out.1
      have hRes3 : w3.heap[w.heap.size]? = some (.cells #[.int .i64 0, .slice none 0 0] 33 (0, 0)) := (hW13.block _ hrl (by simp)).trans HW1.out.2.1
      have hO23 : Own w3 5 g2 ((zs.drop 12).take n) := F.out.2.2.2.1.grown hG3 (by simp)
      have hSL3 : SlB w3 (some ⟨b, off, none⟩) len zs := HSL.out.grown0 hwg
      have cr03 : w3.cell? ⟨W1.heap.size, 0, none⟩ = some (.int .i64 (z4 : Int)) := by simp [World.cell?, hRq3]
      have cr13 : w3.cell? ⟨W1.heap.size, 1, none⟩ = some (.slice (some ⟨g2, 0, none⟩) n cp2) := by simp [World.cell?, hRq3]
      have ce0 : w3.cell? ⟨w.heap.size, 0, none⟩ = some (.int .i64 0) := by simp [World.cell?, hRes3]
      have ce1 : w3.cell? ⟨w.heap.size, 1, none⟩ = some (.slice none 0 0) := by simp [World.cell?, hRes3]
      have fe0 : w3.frozen? ⟨w.heap.size, 0, none⟩ = false := by simp [World.frozen?, hRes3]
      have fe1 : w3.frozen? ⟨w.heap.size, 1, none⟩ = false := by simp [World.frozen?, hRes3]
      have hcv1 : ∀ k, (convert 22 9 (.slice (some ⟨g3, 0, none⟩) (12 + n + p) cp3)).run Tryd.prog (w3.drewN k) = .ok (.string (strB (enc z4 ((zs.drop 12).take n)))) (w3.drewN k) := fun k => run_str_b (w3.drewN k) Tryd.underlying22 Tryd.underlying5 Tryd.underlying9 ((hO3.sl _ hN.symm).heap rfl) cp3
      have hcv2 : ∀ k, (convert 22 9 (.slice (some ⟨b, off, none⟩) (12 + n + p) cap)).run Tryd.prog (w3.drewN k) = .ok (.string (strB (zs.take (12 + n + p)))) (w3.drewN k) := fun k => run_str_b (w3.drewN k) Tryd.underlying22 Tryd.underlying5 Tryd.underlying9 ((hSL3.take _ (by omega)).heap rfl) cap
      have hcv3 : ∀ k, (convert 22 9 (.slice (some ⟨g3, 0, none⟩) 12 cp3)).run Tryd.prog (w3.drewN k) = .ok (.string (strB ((enc z4 ((zs.drop 12).take n)).take 12))) (w3.drewN k) := fun k => run_str_b (w3.drewN k) Tryd.underlying22 Tryd.underlying5 Tryd.underlying9 (((hO3.sl _ hN.symm).take 12 (by omega)).heap rfl) cp3
      have hcv4 : ∀ k, (convert 22 9 (.slice (some ⟨b, off, none⟩) 12 cap)).run Tryd.prog (w3.drewN k) = .ok (.string (strB (zs.take 12))) (w3.drewN k) := fun k => run_str_b (w3.drewN k) Tryd.underlying22 Tryd.underlying5 Tryd.underlying9 ((hSL3.take 12 (by omega)).heap rfl) cap
      have hEz : ∀ z ∈ enc z4 ((zs.drop 12).take n), z < 256 := hO3.1
      have hZz : ∀ z ∈ zs, z < 256 := HSL.out.2.1
      have hE1 := strB_eq (enc z4 ((zs.drop 12).take n)) (zs.take (12 + n + p)) hEz (fun z hz => hZz z (List.mem_of_mem_take hz))
      have hE2 := strB_eq ((enc z4 ((zs.drop 12).take n)).take 12) (zs.take 12) (fun z hz => hEz z (List.mem_of_mem_take hz)) (fun z hz => hZz z (List.mem_of_mem_take hz))
      have hM1 : enc z4 ((zs.drop 12).take n) = zs.take (12 + n + p) ↔ ¬ sumBad zs ∧ ¬ padBad zs := by
        have h1 := whole_eq zs hZz (by omega) HOK.out (by rw [HN.out.2.2]; omega)
        rw [HN.out.2.2, HN.out.2.1] at h1
        unfold recData at h1
        rw [HN.out.1] at h1
        exact h1
      have hM2 : (enc z4 ((zs.drop 12).take n)).take 12 = zs.take 12 ↔ ¬ sumBad zs := by
        have h1 := twelve_eq zs hZz (by omega) HOK.out (by rw [HN.out.1]; omega)
        rw [HN.out.2.1] at h1
        unfold recData at h1
        rw [HN.out.1] at h1
        exact h1
      have HFIN : Hid (w.grownBy w3 none ∧ w3.heap[w.heap.size]? = some (.cells #[.int .i64 0, .slice none 0 0] 33 (0, 0)) ∧ Own w3 5 g2 ((zs.drop 12).take n) ∧ w.heap.size < g2) := ⟨hwg, hRes3, hO23, by have := F.out.2.2.2.2; omega⟩
      clear F hN hO3 hG3 hW13 hwg hRq3 hRes3 hO23 hSL3 cr0 cr1 hEz hZz hg3
      generalize strB (enc z4 ((zs.drop 12).take n)) = s1 at *
      generalize strB (zs.take (12 + n + p)) = s2 at *
      generalize strB ((enc z4 ((zs.drop 12).take n)).take 12) = s3 at *
      generalize strB (zs.take 12) = s4 at *
      have r1 : (12 : Int) + n + p ≤ (cap : Int) := by omega
      have r2 : (0 : Int) ≤ (12 : Int) + n + p := by omega
      have r3 : ((12 : Int) + n + p).toNat = 12 + n + p := by omega
      have r4 : (12 : Int) ≤ (cp3 : Int) := by omega
      have r5 : (12 : Int) ≤ (cap : Int) := by omega
      have hcv5 : ∀ j k, (convert 22 9 (.slice (some ⟨g3, 0, none⟩) 12 cp3)).run Tryd.prog ((w3.drewN j).drewN k) = .ok (.string s3) ((w3.drewN j).drewN k) := fun j k => by rw [World.drewN_drewN]; exact hcv3 _
      have hcv6 : ∀ j k, (convert 22 9 (.slice (some ⟨b, off, none⟩) 12 cap)).run Tryd.prog ((w3.drewN j).drewN k) = .ok (.string s4) ((w3.drewN j).drewN k) := fun j k => by rw [World.drewN_drewN]; exact hcv4 _
      by_cases hw : enc z4 ((zs.drop 12).take n) = zs.take (12 + n + p)
      · rw [decide_eq_true hw] at hE1
        have HX : Hid (¬ sumBad zs ∧ ¬ padBad zs) := hM1.1 hw
        clear hw hE2 hM1 hM2
        go_wp2
        go_quiet (fail)
        go_wp2
        have hne : g2 ≠ w.heap.size := by have := HFIN.out.2.2.2; omega
        refine bodyPost_ret (results_rec (x := .int .i64 (z4 : Int)) (y := .slice (some ⟨g2, 0, none⟩) n cp2) rfl rfl (set2_block HFIN.out.2.1)) rfl ?_
        refine ⟨grownBy_setNew (grownBy_setNew (grownBy_same HFIN.out.1 ⟨rfl, rfl, rfl, rfl⟩) (Nat.le_refl _)) (Nat.le_refl _), .inr (.inr (.inr ⟨by rw [HN.out.2.2]; omega, HX.out.1, HX.out.2, g2, cp2, ⟨by have := HFIN.out.2.2.2; omega, by rw [HN.out.1]; exact HCP.out.1, HCP.out.2⟩, ?_, by rw [HN.out.1, HN.out.2.1, HN.out.2.2]; rfl⟩))⟩
        unfold recData
        rw [HN.out.1]
        exact ((HFIN.out.2.2.1.heap (w' := w3.drewN nq) rfl).setOther (a := ⟨w.heap.size, 0, none⟩) hne).setOther (a := ⟨w.heap.size, 1, none⟩) hne
      · rw [decide_eq_false hw] at hE1
        have HX : Hid (¬ (¬ sumBad zs ∧ ¬ padBad zs)) := fun h => hw (hM1.2 h)
        clear hM1
        by_cases hw2 : (enc z4 ((zs.drop 12).take n)).take 12 = zs.take 12
        · rw [decide_eq_true hw2] at hE2
          have HY : Hid (¬ sumBad zs ∧ padBad zs) := ⟨hM2.1 hw2, Classical.byContradiction fun h => HX.out ⟨hM2.1 hw2, h⟩⟩
          clear hw hw2 hM2
          go_wp2
          go_quiet (fail)
          go_wp2
          go_quiet (fail)
          go_wp2
          refine bodyPost_ret (results_rec (x := .int .i64 0) (y := .slice none 0 0) rfl rfl (set2_block HFIN.out.2.1)) rfl ?_
          exact ⟨grownBy_setNew (grownBy_setNew (grownBy_same HFIN.out.1 ⟨rfl, rfl, rfl, rfl⟩) (Nat.le_refl _)) (Nat.le_refl _), .inr (.inr (.inl ⟨by rw [HN.out.2.2]; omega, HY.out.1, HY.out.2, rfl⟩))⟩
        · rw [decide_eq_false hw2] at hE2
          have HY : Hid (sumBad zs) := Classical.byContradiction fun h => hw2 (hM2.2 h)
          clear hw hw2 hM2
          go_wp2
          go_quiet (fail)
          go_wp2
          go_quiet (fail)
          go_wp2
          refine bodyPost_ret (results_rec (x := .int .i64 0) (y := .slice none 0 0) rfl rfl (set2_block HFIN.out.2.1)) rfl ?_
          exact ⟨grownBy_setNew (grownBy_setNew (grownBy_same HFIN.out.1 ⟨rfl, rfl, rfl, rfl⟩) (Nat.le_refl _)) (Nat.le_refl _), .inr (.inl ⟨by rw [HN.out.2.2]; omega, HY.out, rfl⟩)⟩
end Go.Proofs.YteacgefklafofaaDoor

/-
  The laws' szService and toService, of whatever arguments.
-/
import Derived.Test.YtdajcpcajdhplaaDoorToFull
import Derived.Test.YtdajcpcajdhplaaDoorClone2
import Derived.Test.YtdajcpcajdhplaaDoorItemDec2
namespace Go.Proofs.YtdajcpcajdhplaaDoor
open Go.RowKit

abbrev Told := Int × List (List Int × List Nat) × List (List Int × List Nat)
set_option maxHeartbeats 800000 in
theorem szService_any (b : Int) (ko : Option Addr) (kc : Nat) (A : List Ar) (so : Option Addr) (sc : Nat) (B : List Ar) (w : World) (hA : ArSl w 2 ko A) (hB : ArSl w 3 so B) (hnA : A.length ≤ maxLen) (hnB : B.length ≤ maxLen) :
    Calls Tryd.prog 17 #[.agg #[.int .i64 b, .slice ko A.length kc, .slice so B.length sc], .int .i64 1048576] w fun e w' => ∃ v : Int, e = .returned (.int .i64 v) ∧ ((tot A + tot B ≤ 1048576 ∧ 0 ≤ v ∧ v ≤ 1048576) ∨ (1048576 < tot A + tot B ∧ v = -1)) ∧ w.grownBy w' none := by
  have HA : Hid (∀ X : World, w.grownBy X none → Calls Tryd.prog 41 #[.slice ko A.length kc, .int .i64 1048576] X fun e w' => ∃ v : Int, e = .returned (.int .i64 v) ∧ ((tot A ≤ 1048576 ∧ v = ((1048576 : Nat) : Int) - (tot A : Int)) ∨ (1048576 < tot A ∧ v = -1)) ∧ X.grownBy w' none) := fun X hX => szItemS_any ko kc A 1048576 X (hA.grown hX) hnA (by omega)
  have HB : Hid (∀ (L : Nat) (X : World), L ≤ 1048576 → w.grownBy X none → Calls Tryd.prog 42 #[.slice so B.length sc, .int .i64 (L : Int)] X fun e w' => ∃ v : Int, e = .returned (.int .i64 v) ∧ ((tot B ≤ L ∧ v = (L : Int) - (tot B : Int)) ∨ (L < tot B ∧ v = -1)) ∧ X.grownBy w' none) := fun L X hL hX => szSessionS_any so sc B L X (hB.grown hX) hnB hL
  clear hA hB hnA hnB
  generalize A.length = an at *
  generalize B.length = bn at *
  go_enter Tryd.func17, Tryd.ntmps17
  go_wp2_with fail
  refine (HA.out _ (World.grownBy_alloc _ _ _)).mono ?_
  rintro e w1 ⟨v, rfl, hv, hG1⟩
  have hz : w.heap.size < w1.heap.size := by have := hG1.size; simp at this; omega
  have a2 : w1.cell? ⟨w.heap.size, 2, none⟩ = some (.slice so bn sc) := ((bcell hG1).1 _ _ (by simp)).trans (by simp)
  have HG1 : Hid (w.grownBy w1 none) := grownBy_trans (World.grownBy_alloc _ _ _) hG1
  clear hG1
  rcases hv with ⟨h1, rfl⟩ | ⟨h1, rfl⟩
  · obtain ⟨L, hL⟩ : ∃ L : Nat, ((1048576 : Nat) : Int) - (tot A : Int) = (L : Int) := ⟨1048576 - tot A, by omega⟩
    have HL : Hid (tot A + L = 1048576) := by show _ = _; omega
    have hL2 : L ≤ 1048576 := by omega
    rw [hL]
    clear hL h1
    go_wp2_with fail
    refine (HB.out L _ hL2 HG1.out).mono ?_
    rintro e w2 ⟨v, rfl, hv, hG2⟩
    have R : Hid (w.grownBy w2 none) := grownBy_trans HG1.out hG2
    clear hG2
    rcases hv with ⟨h1, rfl⟩ | ⟨h1, rfl⟩
    · obtain ⟨M, hM⟩ : ∃ M : Nat, (L : Int) - (tot B : Int) = (M : Int) := ⟨L - tot B, by omega⟩
      have HM : Hid (tot B + M = L) := by show _ = _; omega
      rw [hM]
      clear hM h1
      go_wp2
      go_ret
      exact ⟨(M : Int), rfl, .inl ⟨by have := HM.out; have := HL.out; omega, by omega, by have := HM.out; have := HL.out; omega⟩, R.out⟩
    · have H1 : Hid (L < tot B) := h1
      clear h1
      go_wp2
      go_ret
      exact ⟨-1, rfl, .inr ⟨by have := HL.out; have := H1.out; omega, rfl⟩, R.out⟩
  · have H1 : Hid (1048576 < tot A) := h1
    clear h1
    go_wp2
    go_ret
    exact ⟨-1, rfl, .inr ⟨by have := H1.out; omega, rfl⟩, HG1.out⟩
/-- fits the laws' room -/
def SvFit (s : Sv) : Prop := s.K.length + (s.K.map (fun x => x.d.length)).sum ≤ 1048576 ∧ s.S.length + (s.S.map (fun x => x.d.length)).sum ≤ 1048576
theorem mem_sum (l : List Nat) (x : Nat) (h : x ∈ l) : x ≤ l.sum := by
  induction l with
  | nil => simp at h
  | cons y l ih =>
    simp only [List.sum_cons]
    rcases List.mem_cons.1 h with rfl | h
    · omega
    · have := ih h; omega
theorem SvFit.small {s : Sv} (h : SvFit s) : SvSmall s := by
  obtain ⟨h1, h2⟩ := h
  refine ⟨by omega, by omega, fun x hx => ?_, fun x hx => ?_⟩
  · have := mem_sum _ _ (List.mem_map.2 ⟨x, hx, rfl⟩ : x.d.length ∈ s.K.map (fun x => x.d.length)); omega
  · have := mem_sum _ _ (List.mem_map.2 ⟨x, hx, rfl⟩ : x.d.length ∈ s.S.map (fun x => x.d.length)); omega
theorem eAt_sum (c : Nat) (L : List El) (m k : Nat) : eAt c L m k ≤ m + c * k + ((L.take k).map (fun x => x.d.length)).sum := by
  induction k with
  | zero => simp [eAt]
  | succ k ih =>
    simp only [eAt]
    cases hx : L[k]? with
    | none =>
      have hk : L.length ≤ k := by rw [List.getElem?_eq_none_iff] at hx; exact hx
      rw [List.take_of_length_le (by omega : L.length ≤ k + 1)]
      rw [List.take_of_length_le hk] at ih
      simp
      rw [Nat.mul_add]
      omega
    | some x =>
      rw [take_snoc hx]
      simp
      rw [Nat.mul_add]
      simp at ih
      omega
theorem sum_take (l : List El) (k : Nat) : ((l.take k).map (fun x => x.d.length)).sum ≤ (l.map (fun x => x.d.length)).sum := by
  induction l generalizing k with
  | nil => simp
  | cons x l ih =>
    cases k with
    | zero => simp
    | succ k =>
      have := ih k
      simp only [List.take_succ_cons, List.map_cons, List.sum_cons]
      omega
theorem SvFit.bound {s : Sv} (h : SvFit s) : SvBound s 1 := by
  obtain ⟨h1, h2⟩ := h
  have hm : s.mid 1 ≤ 1 + 2 * 1048576 + 1048576 := by
    have h3 := eAt_sum 2 s.K 1 s.K.length
    have h4 := sum_take s.K s.K.length
    unfold Sv.mid
    omega
  refine ⟨fun k hk => ?_, fun k hk => ?_⟩
  · have h3 := eAt_sum 2 s.K 1 k
    have h4 := sum_take s.K k
    omega
  · have h3 := eAt_sum 3 s.S (s.mid 1) k
    have h4 := sum_take s.S k
    omega
theorem fit_of {A : List Ar} {M : List El} (h : M.map El.tell = A.map Ar.tell) (hd : ∀ x ∈ A, x.d.length = x.len) (ht : tot A ≤ 1048576) : M.length + (M.map (fun x => x.d.length)).sum ≤ 1048576 := by
  have e1 : M.length = A.length := by have := congrArg List.length h; simpa using this
  have e2 : M.map (fun x => x.d.length) = A.map Ar.len := by
    have h2 := congrArg (List.map (fun y : List Int × List Nat => y.2.length)) h
    simp only [List.map_map] at h2
    have h3 : A.map ((fun y : List Int × List Nat => y.2.length) ∘ Ar.tell) = A.map Ar.len := List.map_congr_left fun x hx => hd x hx
    rw [h3] at h2
    exact h2
  rw [e1, e2]
  unfold tot totTo at ht
  rw [List.take_length] at ht
  exact ht
set_option maxHeartbeats 800000 in
theorem toService_full (b : Int) (ko : Option Addr) (kc : Nat) (A : List Ar) (so : Option Addr) (sc : Nat) (B : List Ar) (w : World) (hA : ArSl w 2 ko A) (hB : ArSl w 3 so B) (ht : tot A + tot B ≤ 1048576) :
    Calls Tryd.prog 19 #[.agg #[.int .i64 b, .slice ko A.length kc, .slice so B.length sc]] w fun e w' => ∃ s : Sv, e = .returned (.agg #[.int .i64 s.b, .slice s.ko s.K.length s.kc, .slice s.so s.S.length s.sc]) ∧ s.tell = (b, A.map Ar.tell, B.map Ar.tell) ∧ SvFull w' s ∧ SvFit s ∧ (∀ k, SvB s k → w.heap.size ≤ k) ∧ w.grownBy w' none := by
  have hlA := tot_len A
  have hlB := tot_len B
  have HA : Hid (∀ X : World, w.grownBy X none → Calls Tryd.prog 46 #[.slice ko A.length kc] X fun e w' => ∃ M, e = .returned (.slice (some ⟨X.heap.size, 0, none⟩) A.length A.length) ∧ ElAt w' 32 2 X.heap.size M ∧ M.map El.tell = A.map Ar.tell ∧ elSome M ∧ (∀ y ∈ M, ∀ b, y.o = some b → X.heap.size < b) ∧ X.grownBy w' none) := fun X hX => toItemS_full ko kc A X (hA.grown hX) (by omega) (fun x hx => by have := tot_each A x hx; omega)
  have HB : Hid (∀ X : World, w.grownBy X none → Calls Tryd.prog 47 #[.slice so B.length sc] X fun e w' => ∃ M, e = .returned (.slice (some ⟨X.heap.size, 0, none⟩) B.length B.length) ∧ ElAt w' 74 3 X.heap.size M ∧ M.map El.tell = B.map Ar.tell ∧ elSome M ∧ (∀ y ∈ M, ∀ b, y.o = some b → X.heap.size < b) ∧ X.grownBy w' none) := fun X hX => toSessionS_full so sc B X (hB.grown hX) (by omega) (fun x hx => by have := tot_each B x hx; omega)
  have HF : Hid ((∀ x ∈ A, x.d.length = x.len) ∧ (∀ x ∈ B, x.d.length = x.len) ∧ tot A ≤ 1048576 ∧ tot B ≤ 1048576) := ⟨fun x hx => by
      obtain ⟨i, hi⟩ := List.getElem?_of_mem hx
      obtain ⟨_, _, _, _, _, _, h5, _⟩ := hA i x hi
      exact h5.1, fun x hx => by
      obtain ⟨i, hi⟩ := List.getElem?_of_mem hx
      obtain ⟨_, _, _, _, _, _, h5, _⟩ := hB i x hi
      exact h5.1, by omega, by omega⟩
  clear hA hB ht hlA hlB
  obtain ⟨an, han⟩ : ∃ an, A.length = an := ⟨_, rfl⟩
  obtain ⟨bn, hbn⟩ : ∃ bn, B.length = bn := ⟨_, rfl⟩
  have HAN : Hid (A.length = an ∧ B.length = bn) := ⟨han, hbn⟩
  rw [han] at HA ⊢
  rw [hbn] at HB ⊢
  clear han hbn
  go_enter Tryd.func19, Tryd.ntmps19
  go_wp2_with fail
  refine (HA.out _ (by repeat (first | exact grownBy_refl _ _ | apply grownBy_alloc))).mono ?_
  rintro e w1 ⟨M, rfl, hM, hMt, hMe, hMf, hG1⟩
  have HE1 : Hid (elSome M) := hMe
  clear hMe
  obtain ⟨W0, hW0⟩ : ∃ W0, W0 = ((w.alloc (.cells #[.int .i64 b, .slice ko an kc, .slice so bn sc] 50)).alloc (.cells #[.int .i64 0, .slice none 0 0, .slice none 0 0] 28)).alloc (.cells #[.int .i64 b, .slice none 0 0, .slice none 0 0] 28) := ⟨_, rfl⟩
  have k0 : W0.heap[w.heap.size]? = some (.cells #[.int .i64 b, .slice ko an kc, .slice so bn sc] 50 (0, 0)) := by rw [hW0]; exact push0' w _ _ _
  have k1 : W0.heap[w.heap.size + 1]? = some (.cells #[.int .i64 0, .slice none 0 0, .slice none 0 0] 28 (0, 0)) := by rw [hW0]; exact push2 w _ _ _
  have k2 : W0.heap[w.heap.size + 2]? = some (.cells #[.int .i64 b, .slice none 0 0, .slice none 0 0] 28 (0, 0)) := by rw [hW0]; exact push3 w _ _ _
  have kz : W0.heap.size = w.heap.size + 3 := by rw [hW0]; simp
  have kg : w.grownBy W0 none := by rw [hW0]; exact grownBy_alloc (grownBy_alloc (World.grownBy_alloc _ _ _) _) _
  rw [← hW0] at hM hMf hG1 ⊢
  clear hW0
  obtain ⟨g1, hg1⟩ : ∃ g1, g1 = W0.heap.size := ⟨_, rfl⟩
  rw [← hg1] at hM hMf ⊢
  have j0 : w1.heap[w.heap.size]? = some (.cells #[.int .i64 b, .slice ko an kc, .slice so bn sc] 50 (0, 0)) := (hG1.block _ (by omega) (by simp)).trans k0
  have j1 : w1.heap[w.heap.size + 1]? = some (.cells #[.int .i64 0, .slice none 0 0, .slice none 0 0] 28 (0, 0)) := (hG1.block _ (by omega) (by simp)).trans k1
  have j2 : w1.heap[w.heap.size + 2]? = some (.cells #[.int .i64 b, .slice none 0 0, .slice none 0 0] 28 (0, 0)) := (hG1.block _ (by omega) (by simp)).trans k2
  have p0 : w1.cell? ⟨w.heap.size, 2, none⟩ = some (.slice so bn sc) := by simp [World.cell?, j0]
  have q1 : w1.cell? ⟨w.heap.size + 2, 1, none⟩ = some (.slice none 0 0) := by simp [World.cell?, j2]
  have f1 : w1.frozen? ⟨w.heap.size + 2, 1, none⟩ = false := by simp [World.frozen?, j2]
  have hz1 : w.heap.size + 3 ≤ w1.heap.size := by have := hG1.size; omega
  have H1 : Hid (ElAt w1 32 2 g1 M ∧ M.map El.tell = A.map Ar.tell ∧ (∀ y ∈ M, ∀ b, y.o = some b → g1 < b) ∧ w.grownBy w1 none ∧ g1 = w.heap.size + 3) := ⟨hM, hMt, hMf, grownBy_trans kg hG1, by rw [hg1, kz]⟩
  have HJ : Hid (w1.heap[w.heap.size + 1]? = some (.cells #[.int .i64 0, .slice none 0 0, .slice none 0 0] 28 (0, 0)) ∧ w1.heap[w.heap.size + 2]? = some (.cells #[.int .i64 b, .slice none 0 0, .slice none 0 0] 28 (0, 0))) := ⟨j1, j2⟩
  clear hM hMt hMf hG1 k0 k1 k2 kz kg hg1 j0 j1 j2 HA
  go_wp2_with fail
  refine (HB.out _ (grownBy_setNew H1.out.2.2.2.1 (by simp; omega))).mono ?_
  rintro e w2 ⟨M2, rfl, hM2, hMt2, hMe2, hMf2, hG2⟩
  have HE2 : Hid (elSome M2) := hMe2
  clear hMe2
  obtain ⟨g2, hg2⟩ : ∃ g2, g2 = (w1.setCell ⟨w.heap.size + 2, 1, none⟩ (.slice (some ⟨g1, 0, none⟩) an an)).heap.size := ⟨_, rfl⟩
  rw [← hg2] at hM2 hMf2 ⊢
  have hz2 : g2 = w1.heap.size := by rw [hg2]; simp [World.setCell]
  have hzs := hG2.size
  rw [← hg2, hz2] at hzs
  have m1 : w2.heap[w.heap.size + 1]? = some (.cells #[.int .i64 0, .slice none 0 0, .slice none 0 0] 28 (0, 0)) := by
    refine (hG2.block _ (by rw [← hg2, hz2]; omega) (by simp)).trans ?_
    rw [heap_setCell_other _ _ _ _ (by simp)]
    exact HJ.out.1
  have m2 : w2.heap[w.heap.size + 2]? = some (.cells #[.int .i64 b, .slice (some ⟨g1, 0, none⟩) an an, .slice none 0 0] 28 (0, 0)) := by
    refine (hG2.block _ (by rw [← hg2, hz2]; omega) (by simp)).trans ?_
    rw [heap_setCell_same w1 (w.heap.size + 2) 1 _ _ _ HJ.out.2]
    rfl
  have a0 : w2.cell? ⟨w.heap.size + 2, 0, none⟩ = some (.int .i64 b) := by simp [World.cell?, m2]
  have a1 : w2.cell? ⟨w.heap.size + 2, 1, none⟩ = some (.slice (some ⟨g1, 0, none⟩) an an) := by simp [World.cell?, m2]
  have a2 : w2.cell? ⟨w.heap.size + 2, 2, none⟩ = some (.slice none 0 0) := by simp [World.cell?, m2]
  have x2 : w2.frozen? ⟨w.heap.size + 2, 2, none⟩ = false := by simp [World.frozen?, m2]
  have r0 : w2.cell? ⟨w.heap.size + 1, 0, none⟩ = some (.int .i64 0) := by simp [World.cell?, m1]
  have r1 : w2.cell? ⟨w.heap.size + 1, 1, none⟩ = some (.slice none 0 0) := by simp [World.cell?, m1]
  have r2 : w2.cell? ⟨w.heap.size + 1, 2, none⟩ = some (.slice none 0 0) := by simp [World.cell?, m1]
  have y0 : w2.frozen? ⟨w.heap.size + 1, 0, none⟩ = false := by simp [World.frozen?, m1]
  have y1 : w2.frozen? ⟨w.heap.size + 1, 1, none⟩ = false := by simp [World.frozen?, m1]
  have y2 : w2.frozen? ⟨w.heap.size + 1, 2, none⟩ = false := by simp [World.frozen?, m1]
  have H2 : Hid (ElAt w2 32 2 g1 M ∧ ElAt w2 74 3 g2 M2 ∧ M2.map El.tell = B.map Ar.tell ∧ (∀ y ∈ M2, ∀ b, y.o = some b → g2 < b) ∧ w.grownBy w2 none ∧ g1 < g2 ∧ (∀ y ∈ M, ∀ b, y.o = some b → g1 < b ∧ b < g2)) := by
    have hg1e := H1.out.2.2.2.2
    have hlt := H1.out.1.lt
    have hA1 : ElAt (w1.setCell ⟨w.heap.size + 2, 1, none⟩ (.slice (some ⟨g1, 0, none⟩) an an)) 32 2 g1 M := H1.out.1.kept (fun k hk hkk => heap_setCell_other _ _ _ _ (by
      show k ≠ w.heap.size + 2
      rcases hkk with rfl | ⟨x, hx, ho⟩
      · omega
      · have := H1.out.2.2.1 x hx k ho; omega))
    refine ⟨hA1.kept (fun k hk _ => hG2.block k hk (by simp)), hM2, hMt2, hMf2, grownBy_trans (grownBy_setNew H1.out.2.2.2.1 (by simp; omega)) hG2, by omega, fun y hy b' hb' => ⟨H1.out.2.2.1 y hy b' hb', ?_⟩⟩
    obtain ⟨i, hi⟩ := List.getElem?_of_mem hy
    have := (ownS_blk (H1.out.1.own i y hi).2.1 hb').lt
    omega
  have HZ : Hid (g1 = w.heap.size + 3) := H1.out.2.2.2.2
  have HT1 : Hid (M.map El.tell = A.map Ar.tell) := H1.out.2.1
  clear hM2 hMt2 hMf2 hG2 hg2 hz2 hzs m1 m2 p0 q1 f1 hz1 H1 HJ HB
  go_wp2
  have lM : M.length = an := by have := congrArg List.length HT1.out; have h2 := HAN.out.1; simp at this; omega
  have lM2 : M2.length = bn := by have := congrArg List.length H2.out.2.2.1; have h2 := HAN.out.2; simp at this; omega
  refine bodyPost_ret (v := .agg #[.int .i64 b, .slice (some ⟨g1, 0, none⟩) an an, .slice (some ⟨g2, 0, none⟩) bn bn]) (by simp [results, Tryd.results19, go_sem, r0, r1, r2]) rfl ⟨⟨b, some ⟨g1, 0, none⟩, an, M, some ⟨g2, 0, none⟩, bn, M2⟩, by simp [lM, lM2], by simp [Sv.tell, HT1.out, H2.out.2.2.1], ?_, ⟨fit_of HT1.out HF.out.1 HF.out.2.2.1, fit_of H2.out.2.2.1 HF.out.2.1 HF.out.2.2.2⟩, fun k hk => ?_, ?_⟩
  · have hz := HZ.out
    have ho : ∀ {t : TypeId} {m g : Nat} {L : List El} {X : World} (p : Addr) (v : Value), ElAt X t m g L → (∀ k, (k = g ∨ ∃ x ∈ L, x.o = some k) → k ≠ p.block) → ElAt (X.setCell p v) t m g L := fun p v h hk => h.kept (fun k _ hkk => heap_setCell_other _ _ _ _ (hk k hkk))
    have hK : ∀ k, (k = g1 ∨ ∃ x ∈ M, x.o = some k) → w.heap.size + 2 < k := by
      rintro k (rfl | ⟨x, hx, hxo⟩)
      · omega
      · have := (H2.out.2.2.2.2.2.2 x hx k hxo).1; omega
    have hS : ∀ k, (k = g2 ∨ ∃ x ∈ M2, x.o = some k) → w.heap.size + 2 < k := by
      have := H2.out.2.2.2.2.2.1
      rintro k (rfl | ⟨x, hx, hxo⟩)
      · omega
      · have := H2.out.2.2.2.1 x hx k hxo; omega
    refine ⟨⟨.inr ⟨g1, rfl, ?_⟩, .inr ⟨g2, rfl, ?_⟩, fun x hx y hy j hxj hyj => ?_⟩, HE1.out, HE2.out, ⟨g1, rfl⟩, ⟨g2, rfl⟩⟩
    · exact ho _ _ (ho _ _ (ho _ _ (ho _ _ H2.out.1 (fun k hk => by have := hK k hk; show k ≠ w.heap.size + 2; omega)) (fun k hk => by have := hK k hk; show k ≠ w.heap.size + 1; omega)) (fun k hk => by have := hK k hk; show k ≠ w.heap.size + 1; omega)) (fun k hk => by have := hK k hk; show k ≠ w.heap.size + 1; omega)
    · exact ho _ _ (ho _ _ (ho _ _ (ho _ _ H2.out.2.1 (fun k hk => by have := hS k hk; show k ≠ w.heap.size + 2; omega)) (fun k hk => by have := hS k hk; show k ≠ w.heap.size + 1; omega)) (fun k hk => by have := hS k hk; show k ≠ w.heap.size + 1; omega)) (fun k hk => by have := hS k hk; show k ≠ w.heap.size + 1; omega)
    · have h1 := (H2.out.2.2.2.2.2.2 x hx j hxj).2
      have h2 := H2.out.2.2.2.1 y hy j hyj
      omega
  · have hz := HZ.out
    have h12 := H2.out.2.2.2.2.2.1
    rcases hk with (h | ⟨x, hx, ho⟩) | (h | ⟨x, hx, ho⟩)
    · have : g1 = k := by simpa using h
      omega
    · have := (H2.out.2.2.2.2.2.2 x hx k ho).1; omega
    · have : g2 = k := by simpa using h
      omega
    · have := H2.out.2.2.2.1 x hx k ho; omega
  · exact grownBy_setNew (grownBy_setNew (grownBy_setNew (grownBy_setNew H2.out.2.2.2.2.1 (by simp; omega)) (by simp)) (by simp)) (by simp)
end Go.Proofs.YtdajcpcajdhplaaDoor

/-
  The copy of the service of no items, no sessions, no memory.
-/
import Derived.Test.YtdajcpcajdhplaaDoorAp6F
namespace Go.Proofs.YtdajcpcajdhplaaDoor
open Go.RowKit

theorem el_none {w : World} {t : TypeId} {m g n sz cap : Nat} {cs : List Value} (h : w.ownsRow n t sz (.slice (some ⟨g, 0, none⟩) 0 cap) 0 cs) : ElAt w t m g [] := by
  rcases h.2 with ⟨h0, _⟩ | ⟨g', cap', cur, h0, hb, hg, _⟩
  · simp at h0
  · simp only [Value.slice.injEq, Option.some.injEq, Addr.mk.injEq, and_true] at h0
    obtain ⟨rfl, -⟩ := h0
    exact ⟨⟨cur, hg, fun i x hx => by simp at hx⟩, fun i x hx => by simp at hx, fun i j x y k hx => by simp at hx⟩
set_option maxRecDepth 4000 in
set_option maxHeartbeats 1000000 in
theorem cloneItemS_nil (w : World) : Calls Tryd.prog 56 #[.slice none 0 0, .func (.func 31) #[] #[]] w fun e w' => e = .returned (.slice (some ⟨w.heap.size, 0, none⟩) 0 0) ∧ ElAt w' 32 2 w.heap.size [] ∧ w.grownBy w' none := by
  obtain ⟨i0, hi, hz0, hz1, hz2⟩ := info_parts Tryd.infoItem
  go_enter Tryd.func56, Tryd.ntmps56
  go_wp2_with (at_make; refine wpList_make_full _ rfl (.tmp 9) (.tmp 9) 25 rfl w.heap.size 32 i0 (.agg #[.int .i64 0, .int .i64 0, .slice none 0 0]) 3 Tryd.underlying25 hi hz0 hz1 .i64 .i64 0 0 0 rfl rfl rfl rfl ?cb ?cm (Nat.le_refl _) ?_)
  case cb => omega
  case cm => exact Nat.zero_le _
  intro w1 hown hgrow
  have HO : Hid (ElAt w1 32 2 w.heap.size [] ∧ w.grownBy w1 none) := ⟨el_none hown, hgrow⟩
  clear hown hgrow
  go_wp2
  go_loopw [13] (fun i wr => i = .int .i64 0 ∧ ElAt wr 32 2 w.heap.size [] ∧ w.grownBy wr none) (fun _ _ => 0)
  case atStart => exact ⟨rfl, HO.out.1, HO.out.2⟩
  case round =>
    obtain ⟨rfl, h1, h2⟩ := hrel
    have HR : Hid (ElAt wr 32 2 w.heap.size [] ∧ w.grownBy wr none) := ⟨h1, h2⟩
    clear h1 h2 HO
    go_wp2
    go_ret
    exact ⟨rfl, HR.out.1, HR.out.2⟩
set_option maxRecDepth 4000 in
set_option maxHeartbeats 1000000 in
theorem cloneSessionS_nil (w : World) : Calls Tryd.prog 57 #[.slice none 0 0, .func (.func 58) #[] #[]] w fun e w' => e = .returned (.slice (some ⟨w.heap.size, 0, none⟩) 0 0) ∧ ElAt w' 74 3 w.heap.size [] ∧ w.grownBy w' none := by
  obtain ⟨i0, hi, hz0, hz1, hz2⟩ := info_parts Tryd.infoSession
  go_enter Tryd.func57, Tryd.ntmps57
  go_wp2_with (at_make; refine wpList_make_full _ rfl (.tmp 9) (.tmp 9) 26 rfl w.heap.size 74 i0 (.agg #[.int .i64 0, .int .i64 0, .int .i64 0, .slice none 0 0]) 4 Tryd.underlying26 hi hz0 hz1 .i64 .i64 0 0 0 rfl rfl rfl rfl ?cb ?cm (Nat.le_refl _) ?_)
  case cb => omega
  case cm => exact Nat.zero_le _
  intro w1 hown hgrow
  have HO : Hid (ElAt w1 74 3 w.heap.size [] ∧ w.grownBy w1 none) := ⟨el_none hown, hgrow⟩
  clear hown hgrow
  go_wp2
  go_loopw [13] (fun i wr => i = .int .i64 0 ∧ ElAt wr 74 3 w.heap.size [] ∧ w.grownBy wr none) (fun _ _ => 0)
  case atStart => exact ⟨rfl, HO.out.1, HO.out.2⟩
  case round =>
    obtain ⟨rfl, h1, h2⟩ := hrel
    have HR : Hid (ElAt wr 74 3 w.heap.size [] ∧ w.grownBy wr none) := ⟨h1, h2⟩
    clear h1 h2 HO
    go_wp2
    go_ret
    exact ⟨rfl, HR.out.1, HR.out.2⟩
def zeroSv : Sv := ⟨0, none, 0, [], none, 0, []⟩
set_option maxRecDepth 4000 in
set_option maxHeartbeats 2000000 in
theorem cloneAt_nil (w : World) : CloneAt zeroSv w := by
  intro w2 _
  generalize w2 = w
  show Calls Tryd.prog 34 #[.agg #[.int .i64 0, .slice none 0 0, .slice none 0 0]] w _
  obtain ⟨W0, hW0⟩ : ∃ W0, W0 = (w.alloc (.cells #[.int .i64 0, .slice none 0 0, .slice none 0 0] 28)).alloc (.cells #[.int .i64 0, .slice none 0 0, .slice none 0 0] 28) := ⟨_, rfl⟩
  have B0 : W0.heap[w.heap.size]? = some (.cells #[.int .i64 0, .slice none 0 0, .slice none 0 0] 28 (0, 0)) := by
    rw [hW0]
    exact ((World.grownBy_alloc _ _ none).block _ (by simp) (by simp)).trans (heap_alloc_new w _)
  have B1 : W0.heap[w.heap.size + 1]? = some (.cells #[.int .i64 0, .slice none 0 0, .slice none 0 0] 28 (0, 0)) := by rw [hW0]; exact heap_two w _ _
  have G0 : w.grownBy W0 none := by rw [hW0]; exact grownBy_alloc (World.grownBy_alloc _ _ _) _
  have z0 : W0.heap.size = w.heap.size + 2 := by rw [hW0]; simp
  have HKI : Hid (∀ X : World, Same W0 X → Calls Tryd.prog 56 #[.slice none 0 0, .func (.func 31) #[] #[]] X fun e w1 => ∃ g1, e = .returned (.slice (some ⟨g1, 0, none⟩) 0 0) ∧ (w1.cell? ⟨w.heap.size, 0, none⟩ = some (.int .i64 0) ∧ w1.cell? ⟨w.heap.size, 1, none⟩ = some (.slice none 0 0) ∧ w1.cell? ⟨w.heap.size, 2, none⟩ = some (.slice none 0 0)) ∧
      Hid (∀ Y : World, Same w1 Y → Calls Tryd.prog 57 #[.slice none 0 0, .func (.func 58) #[] #[]] Y fun e w2 => ∃ g2, e = .returned (.slice (some ⟨g2, 0, none⟩) 0 0) ∧ (w2.cell? ⟨w.heap.size, 0, none⟩ = some (.int .i64 0) ∧ w2.cell? ⟨w.heap.size, 1, none⟩ = some (.slice none 0 0) ∧ w2.cell? ⟨w.heap.size, 2, none⟩ = some (.slice none 0 0)) ∧ (w2.cell? ⟨w.heap.size + 1, 0, none⟩ = some (.int .i64 0) ∧ w2.cell? ⟨w.heap.size + 1, 1, none⟩ = some (.slice none 0 0) ∧ w2.cell? ⟨w.heap.size + 1, 2, none⟩ = some (.slice none 0 0)) ∧ (w2.frozen? ⟨w.heap.size + 1, 0, none⟩ = false ∧ w2.frozen? ⟨w.heap.size + 1, 1, none⟩ = false ∧ w2.frozen? ⟨w.heap.size + 1, 2, none⟩ = false) ∧
        Hid (ElAt w2 32 2 g1 [] ∧ ElAt w2 74 3 g2 [] ∧ w.heap.size + 2 ≤ g1 ∧ w.heap.size + 2 ≤ g2 ∧ w.grownBy w2 none))) := by
    intro X hX
    have GX : w.grownBy X none := grownBy_same G0 hX
    refine (cloneItemS_nil X).mono ?_
    rintro e w1 ⟨rfl, hM, hG1⟩
    have GG1 : W0.grownBy w1 none := grownBy_trans (grownBy_same (grownBy_refl W0 none) hX) hG1
    have zX : X.heap.size = w.heap.size + 2 := by rw [hX.1, z0]
    have hb1 : w1.heap[w.heap.size]? = _ := (GG1.block _ (by omega) (by simp)).trans B0
    refine ⟨X.heap.size, rfl, by simp [World.cell?, hb1], fun Y hY => ?_⟩
    have GY : w.grownBy Y none := grownBy_same (grownBy_trans GX hG1) hY
    refine (cloneSessionS_nil Y).mono ?_
    rintro e w2 ⟨rfl, hM2, hG2⟩
    have GG2 : W0.grownBy w2 none := grownBy_trans (grownBy_same GG1 hY) hG2
    have hb2 : w2.heap[w.heap.size + 1]? = _ := (GG2.block _ (by omega) (by simp)).trans B1
    have hb3 : w2.heap[w.heap.size]? = _ := (GG2.block _ (by omega) (by simp)).trans B0
    have hlt1 := hM.lt
    have zY : Y.heap.size = w1.heap.size := by rw [hY.1]
    have hMY : ElAt Y 32 2 X.heap.size [] := hM.kept (fun k _ _ => by rw [hY.1])
    exact ⟨Y.heap.size, rfl, by simp [World.cell?, hb3], by simp [World.cell?, hb2], by simp [World.frozen?, hb2], hMY.kept (fun k hk _ => hG2.block k hk (by simp)), hM2, by omega, by omega, grownBy_trans GY hG2⟩
  have a0 : W0.cell? ⟨w.heap.size, 0, none⟩ = some (.int .i64 0) := by simp [World.cell?, B0]
  have a1 : W0.cell? ⟨w.heap.size, 1, none⟩ = some (.slice none 0 0) := by simp [World.cell?, B0]
  have a2 : W0.cell? ⟨w.heap.size, 2, none⟩ = some (.slice none 0 0) := by simp [World.cell?, B0]
  clear B0 B1 z0
  go_enter Tryd.func34, Tryd.ntmps34
  go_wp2_with fail
  rw [← hW0]
  clear hW0
  go_region_held3 (fun w' => w'.cell? ⟨w.heap.size, 0, none⟩ = some (.int .i64 0) ∧ w'.cell? ⟨w.heap.size, 1, none⟩ = some (.slice none 0 0) ∧ w'.cell? ⟨w.heap.size, 2, none⟩ = some (.slice none 0 0)) (first | (go_keep; done) | exact hD1 | exact hD2 | (simp [hD2.1, hD2.2.1, hD2.2.2]; done) | fail)
    (first
      | (go_at_call 56; refine (HKI.out _ (by exact ⟨rfl, rfl, rfl, rfl⟩)).mono ?_; rintro e w1 ⟨g1, rfl, hD1, HKS⟩)
      | (go_at_call 57; refine (HKS.out _ (by exact ⟨rfl, rfl, rfl, rfl⟩)).mono ?_; rintro e w2 ⟨g2, rfl, hD2, ⟨r0, r1, r2⟩, ⟨y0, y1, y2⟩, HR⟩)
      | fail)
  all_goals
    go_wp2
    refine bodyPost_ret (v := .agg #[.int .i64 0, .slice (some ⟨g1, 0, none⟩) 0 0, .slice (some ⟨g2, 0, none⟩) 0 0]) (by simp [results, Tryd.results34, go_sem, r0, r1, r2]) rfl ⟨g1, g2, 0, 0, [], [], rfl, ⟨rfl, rfl, rfl, rfl, ?_, ?_, by simp, fun j hj => ?_, by simp [elSome], by simp [elSome]⟩, ?_⟩
    · obtain ⟨hM, hM2, hg1, hg2, -⟩ := HR.out
      have ho : ∀ {t : TypeId} {m g : Nat} {L : List El} {X : World} (p : Addr) (v : Value), ElAt X t m g L → (∀ k, (k = g ∨ ∃ x ∈ L, x.o = some k) → k ≠ p.block) → ElAt (X.setCell p v) t m g L := fun p v h hk => h.kept (fun k _ hkk => heap_setCell_other _ _ _ _ (hk k hkk))
      have hK : ∀ k, (k = g1 ∨ ∃ x ∈ ([] : List El), x.o = some k) → k ≠ w.heap.size + 1 := by
        rintro k (rfl | ⟨x, hx, _⟩)
        · omega
        · simp at hx
      exact ho _ _ (ho _ _ (ho _ _ hM hK) hK) hK
    · obtain ⟨hM, hM2, hg1, hg2, -⟩ := HR.out
      have ho : ∀ {t : TypeId} {m g : Nat} {L : List El} {X : World} (p : Addr) (v : Value), ElAt X t m g L → (∀ k, (k = g ∨ ∃ x ∈ L, x.o = some k) → k ≠ p.block) → ElAt (X.setCell p v) t m g L := fun p v h hk => h.kept (fun k _ hkk => heap_setCell_other _ _ _ _ (hk k hkk))
      have hK : ∀ k, (k = g2 ∨ ∃ x ∈ ([] : List El), x.o = some k) → k ≠ w.heap.size + 1 := by
        rintro k (rfl | ⟨x, hx, _⟩)
        · omega
        · simp at hx
      exact ho _ _ (ho _ _ (ho _ _ hM2 hK) hK) hK
    · obtain ⟨-, -, hg1, hg2, -⟩ := HR.out
      rcases hj with (h | ⟨x, hx, _⟩) | (h | ⟨x, hx, _⟩)
      · have : g1 = j := by simpa using h
        omega
      · simp at hx
      · have : g2 = j := by simpa using h
        omega
      · simp at hx
    · exact grownBy_setNew (grownBy_setNew (grownBy_setNew HR.out.2.2.2.2 (by simp)) (by simp)) (by simp)
end Go.Proofs.YtdajcpcajdhplaaDoor

/-
  The model's Apply, walked: the roads that end before the sessions are looked at.
-/
import Derived.Test.YtdajcpcajdhplaaDoorSpCopy
import Derived.Test.YtdajcpcajdhplaaDoorSpVal
import Derived.Test.YtdajcpcajdhplaaDoorAp8
import Derived.Test.YtdajcpcajdhplaaDoorSpBuild
namespace Go.Proofs.YtdajcpcajdhplaaDoor
open Go.RowKit

set_option maxRecDepth 4000 in
set_option maxHeartbeats 2000000 in
theorem specApply_no (s : Sv) (v : Value) (w : World) (h : SvAt w s) (hs : SvSmall s) (hno : ¬ ValidV s.b s.K s.S) :
    Calls Tryd.prog 18 #[.agg #[.int .i64 s.b, .slice s.ko s.K.length s.kc, .slice s.so s.S.length s.sc], v] w fun e w' => e = .returned (.tuple #[.agg #[.int .i64 0, .slice none 0 0, .slice none 0 0], .int .i64 0, .int .i64 5]) ∧ w.grownBy w' none := by
  have HV : Hid (∀ X : World, w.grownBy X none → Calls Tryd.prog 43 #[.agg #[.int .i64 s.b, .slice s.ko s.K.length s.kc, .slice s.so s.S.length s.sc]] X fun e w' => e = .returned (.bool false) ∧ X.grownBy w' none) := fun X hX => by
    refine (l5validE_any s.b s.ko s.kc s.K s.so s.sc s.S X (h.kk.grown0 hX) (h.ss.grown0 hX) hs.1 hs.2.1 hs.2.2.1 hs.2.2.2).mono ?_
    rintro e w' ⟨r, rfl, hr, hG⟩
    cases r with
    | true => exact absurd (hr.1 rfl) hno
    | false => exact ⟨rfl, hG⟩
  clear h hs hno
  obtain ⟨b, ko, kc, K, so, sc, S⟩ := s
  simp only at HV ⊢
  generalize K.length = kn at *
  generalize S.length = sn at *
  go_enter Tryd.func18, Tryd.ntmps18
  go_wp2_with fail
  refine (HV.out _ (grownBy_alloc (World.grownBy_alloc _ _ _) _)).mono ?_
  rintro e w1 ⟨rfl, hG1⟩
  have hb := (hG1.block (w.heap.size + 1) (by simp) (by simp)).trans (heap_two w _ _)
  have r0 : w1.cell? ⟨w.heap.size + 1, 0, none⟩ = some (.int .i64 0) := by simp [World.cell?, hb]
  have r1 : w1.cell? ⟨w.heap.size + 1, 1, none⟩ = some (.slice none 0 0) := by simp [World.cell?, hb]
  have r2 : w1.cell? ⟨w.heap.size + 1, 2, none⟩ = some (.slice none 0 0) := by simp [World.cell?, hb]
  have y0 : w1.frozen? ⟨w.heap.size + 1, 0, none⟩ = false := by simp [World.frozen?, hb]
  have y1 : w1.frozen? ⟨w.heap.size + 1, 1, none⟩ = false := by simp [World.frozen?, hb]
  have y2 : w1.frozen? ⟨w.heap.size + 1, 2, none⟩ = false := by simp [World.frozen?, hb]
  have HG : Hid (w.grownBy w1 none) := grownBy_trans (grownBy_alloc (World.grownBy_alloc _ _ _) _) hG1
  clear hb hG1
  go_wp2
  refine bodyPost_ret (v := .tuple #[.agg #[.int .i64 0, .slice none 0 0, .slice none 0 0], .int .i64 0, .int .i64 5]) (by simp [results, Tryd.results18, go_sem, r0, r1, r2]) rfl ⟨rfl, ?_⟩
  exact grownBy_setNew (grownBy_setNew (grownBy_setNew HG.out (by simp)) (by simp)) (by simp)
/-- what Apply hands back, with the service's copy -/
def ApPost (s : Sv) (zs : List Nat) (w : World) (e : Ending) (w' : World) : Prop :=
  ∃ (q r : Sv) (pl c : Int), e = .returned (.tuple #[r.val, .int .i64 pl, .int .i64 c]) ∧ q.tell = s.tell ∧ r.b = s.b ∧ ApSays s.b q.K q.S zs pl c (r.K.map El.tell) (r.S.map El.tell) ∧ SvAt w' r ∧ (∀ k, SvB r k → w.heap.size ≤ k) ∧ w.grownBy w' none
/-- the service is copied into the parameter's own memory -/
structure AC (s : Sv) (w wl : World) (vk vs : Value) (K S : List El) : Prop where
  cd : CD w wl w.heap.size (w.heap.size + 2) s.b vk vs K S
  res : wl.heap[w.heap.size + 1]? = some (.cells #[.int .i64 0, .slice none 0 0, .slice none 0 0] 28 (0, 0))
  tk : K.map El.tell = s.K.map El.tell
  ts : S.map El.tell = s.S.map El.tell
theorem AC.more {s : Sv} {w wl wx : World} {vk vs : Value} {K S : List El} (h : AC s w wl vk vs K S) (hg : wl.grownBy wx none) : AC s w wx vk vs K S :=
  ⟨h.cd.more hg, (hg.block _ (Array.getElem?_eq_some_iff.1 h.res).1 (by simp)).trans h.res, h.tk, h.ts⟩
theorem AC.resC {s : Sv} {w wl : World} {vk vs : Value} {K S : List El} (h : AC s w wl vk vs K S) : (wl.cell? ⟨w.heap.size + 1, 0, none⟩ = some (.int .i64 0) ∧ wl.cell? ⟨w.heap.size + 1, 1, none⟩ = some (.slice none 0 0) ∧ wl.cell? ⟨w.heap.size + 1, 2, none⟩ = some (.slice none 0 0)) ∧ wl.frozen? ⟨w.heap.size + 1, 0, none⟩ = false ∧ wl.frozen? ⟨w.heap.size + 1, 1, none⟩ = false ∧ wl.frozen? ⟨w.heap.size + 1, 2, none⟩ = false := by
  have := h.res
  simp [World.cell?, World.frozen?, this]
/-- handed back as it is -/
theorem AC.post {s : Sv} {zs : List Nat} {w wl : World} {vk vs : Value} {K S : List El} {pl c : Int} {a0 a1 a2 : Value} (h : AC s w wl vk vs K S) (ha : ApSays s.b K S zs pl c (K.map El.tell) (S.map El.tell)) : ApPost s zs w (.returned (.tuple #[.agg #[.int .i64 s.b, vk, vs], .int .i64 pl, .int .i64 c])) (((wl.setCell ⟨w.heap.size + 1, 0, none⟩ a0).setCell ⟨w.heap.size + 1, 1, none⟩ a1).setCell ⟨w.heap.size + 1, 2, none⟩ a2) := by
  obtain ⟨r, e, hb, rfl, rfl, h1, h2, h3⟩ := h.cd.done a0 a1 a2
  exact ⟨⟨s.b, none, 0, r.K, none, 0, r.S⟩, r, pl, c, by rw [e], by simp [Sv.tell, h.tk, h.ts], hb, ha, h1, h2, h3⟩
/-- the copy's ground: the box is turned, all else grows -/
theorem ac_start {s : Sv} {w w1 w2 : World} {vk vs : Value} {K S : List El} {x0 x1 x2 : Value} (hp : w1.heap[w.heap.size]? = some (.cells #[x0, x1, x2] 28 (0, 0))) (hr : w1.heap[w.heap.size + 1]? = some (.cells #[.int .i64 0, .slice none 0 0, .slice none 0 0] 28 (0, 0))) (hg : w.grownBy w1 none) (hg2 : w1.grownBy w2 none)
    (tk : K.map El.tell = s.K.map El.tell) (ts : S.map El.tell = s.S.map El.tell) (rk : ElRow w2 w1.heap.size 32 2 vk K) (rs : ElRow w2 w1.heap.size 74 3 vs S) (far : ∀ g ∈ K.filterMap El.o, g ∉ S.filterMap El.o) :
    AC s w (((w2.setCell ⟨w.heap.size, 0, none⟩ (.int .i64 s.b)).setCell ⟨w.heap.size, 1, none⟩ vk).setCell ⟨w.heap.size, 2, none⟩ vs) vk vs K S := by
  have hl := (Array.getElem?_eq_some_iff.1 hr).1
  have hp2 := (hg2.block _ (Array.getElem?_eq_some_iff.1 hp).1 (by simp)).trans hp
  have hr2 := (hg2.block _ hl (by simp)).trans hr
  have hG : ∀ (X : World) (j : Nat) (u : Value), X.grownBy (X.setCell ⟨w.heap.size, j, none⟩ u) (some w.heap.size) := fun X j u => grownBy_setCell (grownBy_refl _ _)
  have hlt : ∀ k, some w.heap.size = some k → k < w1.heap.size := fun k e => by simp only [Option.some.injEq] at e; omega
  refine ⟨⟨?_, ?_, ?_, ?_, far, Nat.le_refl _, by omega⟩, ?_, tk, ts⟩
  · exact grownBy_setNew (grownBy_setNew (grownBy_setNew (grownBy_trans hg hg2) (Nat.le_refl _)) (Nat.le_refl _)) (Nat.le_refl _)
  · exact heap_setCell_same _ _ 2 _ _ _ (heap_setCell_same _ _ 1 _ _ _ (heap_setCell_same _ _ 0 _ _ _ hp2))
  · exact (((rk.grown (hG _ _ _) hlt).grown (hG _ _ _) hlt).grown (hG _ _ _) hlt).lower (by omega)
  · exact (((rs.grown (hG _ _ _) hlt).grown (hG _ _ _) hlt).grown (hG _ _ _) hlt).lower (by omega)
  · exact (heap_setCell_other _ _ _ _ (by show w.heap.size + 1 ≠ w.heap.size; omega)).trans ((heap_setCell_other _ _ _ _ (by show w.heap.size + 1 ≠ w.heap.size; omega)).trans ((heap_setCell_other _ _ _ _ (by show w.heap.size + 1 ≠ w.heap.size; omega)).trans hr2))
/-- what Apply's first two calls want and give -/
def ApCalls (s : Sv) (w : World) : Prop :=
  (∀ X : World, w.grownBy X none → Calls Tryd.prog 43 #[.agg #[.int .i64 s.b, .slice s.ko s.K.length s.kc, .slice s.so s.S.length s.sc]] X fun e w' => e = .returned (.bool true) ∧ X.grownBy w' none) ∧
  (∀ X : World, w.grownBy X none → Calls Tryd.prog 44 #[.agg #[.int .i64 s.b, .slice s.ko s.K.length s.kc, .slice s.so s.S.length s.sc]] X fun e w' => ∃ (vk vs : Value) (K S : List El), e = .returned (.agg #[.int .i64 s.b, vk, vs]) ∧ Hid (K.map El.tell = s.K.map El.tell ∧ S.map El.tell = s.S.map El.tell ∧ ElRow w' X.heap.size 32 2 vk K ∧ ElRow w' X.heap.size 74 3 vs S ∧ (∀ g ∈ K.filterMap El.o, g ∉ S.filterMap El.o) ∧ X.grownBy w' none))
theorem apCalls {s : Sv} {w : World} (h : SvAt w s) (hs : SvSmall s) (hv : ValidV s.b s.K s.S) : ApCalls s w := by
  refine ⟨fun X hX => ?_, fun X hX => ?_⟩
  · refine (l5validE_any s.b s.ko s.kc s.K s.so s.sc s.S X (h.kk.grown0 hX) (h.ss.grown0 hX) hs.1 hs.2.1 hs.2.2.1 hs.2.2.2).mono ?_
    rintro e w' ⟨r, rfl, hr, hG⟩
    cases r with
    | true => exact ⟨rfl, hG⟩
    | false => exact absurd (hr.2 hv) (by simp)
  · refine (l5Copy_any s X (h.grown0 hX) hs).mono ?_
    rintro e w' ⟨vk, vs, K, S, rfl, h1, h2, h3, h4, h5, h6⟩
    exact ⟨vk, vs, K, S, rfl, h1, h2, h3, h4, h5, h6⟩
end Go.Proofs.YtdajcpcajdhplaaDoor

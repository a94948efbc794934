/-
  The program's FrameScan, walked.
-/
import Derived.Test.YteacgefklafofaaDoorRecords
import Derived.Test.YteacgefklafofaaDoorRecRow
import Derived.Test.YteacgefklafofaaDoorRangeB
import Derived.Shelf.Abstract
namespace Go.Proofs.YteacgefklafofaaDoor
open Go.RowKit
attribute [local go_sem] Oper.semAt_some

theorem Tryd.infoRec : (Tryd.prog.info? 33).map (fun i => (i.zero, i.size, i.bytes)) = some (some (.agg #[.int .i64 0, .slice none 0 0]), 2, 32) := by kernel_rfl

theorem putObj_grown {w0 w : World} {r : Nat} {o : Obj} (h : w0.grownBy w none) (hr : w0.heap.size ≤ r) : w0.grownBy (w.putObj r o) none :=
  ⟨h.os, h.tape, h.output, by simpa using h.size, fun k hk hne => (World.putObj_heap_other (by omega)).trans (h.block k hk hne)⟩

set_option maxRecDepth 100000 in
set_option maxHeartbeats 4000000 in
theorem implScan_any (b off len cap : Nat) (zs : List Nat) (w : World) (hsl : SlB w (some ⟨b, off, none⟩) len zs) (ht : Tab w) (hlc : len ≤ cap) (hm : cap ≤ maxLen) (hm2 : len ≤ 1048576) (hb : b < w.heap.size) :
    Calls Tryd.prog 21 #[.slice (some ⟨b, off, none⟩) len cap] w fun e w' => ∃ v R, e = .returned (.tuple #[v, .int .i64 (((scan zs).2.1 : Nat) : Int), .int .i64 (((scan zs).2.2 : Nat) : Int)]) ∧ RecRow w' w.heap.size v R ∧ R.map Rc.tell = (scan zs).1 ∧ w.grownBy w' none := by
  have HH : Hid (SlB w (some ⟨b, off, none⟩) len zs ∧ Tab w) := ⟨hsl, ht⟩
  clear hsl ht
  refine (callsIn_wide (n := 0)).1 (callsIn_of_wp_marks Tryd.func21 rfl trivial ?_ rfl)
  refine wpIn_wide.2 ?_
  simp only [Tryd.ntmps21, List.size_toArray, List.length_cons, List.length_nil, Nat.reduceAdd, Nat.reduceSub, Array.replicate_succ, Array.replicate_zero, List.push_toArray, List.append_toArray, List.nil_append, List.cons_append]
  go_wp2
  have hsz : ((w.alloc (.cells #[.slice (some ⟨b, off, none⟩) len cap, .int .i64 0, .int .i64 0] 60)).alloc (.cells #[.slice none 0 0] 39)).heap.size = w.heap.size + 2 := by simp
  have hS0 : ScanAt ((w.alloc (.cells #[.slice (some ⟨b, off, none⟩) len cap, .int .i64 0, .int .i64 0] 60)).alloc (.cells #[.slice none 0 0] 39)) w.heap.size (some ⟨b, off, none⟩) len cap 0 0 :=
    (Below.heap_alloc _ _ _ (by simp)).trans (heap_alloc_new w _)
  have hO0 : ((w.alloc (.cells #[.slice (some ⟨b, off, none⟩) len cap, .int .i64 0, .int .i64 0] 60)).alloc (.cells #[.slice none 0 0] 39)).heap[w.heap.size + 1]? = some (.cells #[.slice none 0 0] 39 (0, 0)) := heap_two w _ _
  have hG0 : w.grownBy ((w.alloc (.cells #[.slice (some ⟨b, off, none⟩) len cap, .int .i64 0, .int .i64 0] 60)).alloc (.cells #[.slice none 0 0] 39)) none := grownBy_alloc (World.grownBy_alloc w _ _) _
  generalize (w.alloc (.cells #[.slice (some ⟨b, off, none⟩) len cap, .int .i64 0, .int .i64 0] 60)).alloc (.cells #[.slice none 0 0] 39) = W0 at hsz hS0 hO0 hG0 ⊢
  refine wp_range_bound rfl (enters_of Tryd.func41 (by kernel_rfl) rfl) fun fn => ?_
  generalize hL : loopRec fn _ _ _ _ W0.heap.size LoopState.ready = L0
  have hW1s : ((W0.alloc (.deferred (some []))).alloc (.loop L0)).heap.size = w.heap.size + 4 := by simp [hsz]
  have hG1 : W0.grownBy ((W0.alloc (.deferred (some []))).alloc (.loop L0)) none := grownBy_alloc (World.grownBy_alloc W0 _ _) _
  have hl1 : ((W0.alloc (.deferred (some []))).alloc (.loop L0)).heap[W0.heap.size + 1]? = some (.loop L0) := heap_two W0 _ _
  have hD1 : ((W0.alloc (.deferred (some []))).alloc (.loop L0)).heap[W0.heap.size]? = some (.deferred (some [])) := (Below.heap_alloc _ _ _ (by simp)).trans (heap_alloc_new W0 _)
  generalize (W0.alloc (.deferred (some []))).alloc (.loop L0) = W1 at hW1s hG1 hl1 hD1 ⊢
  have hG01 : w.grownBy W1 none := grownBy_trans hG0 hG1
  rw [hsz] at hl1 hD1 hL ⊢
  refine (records_any (w.heap.size + 2 + 1) w.heap.size b off len cap zs (fun pre W => W.heap[w.heap.size + 2 + 1]? = some (.loop L0) ∧ W.heap[w.heap.size + 2]? = some (.deferred (some [])) ∧ (∃ v R, W.heap[w.heap.size + 1]? = some (.cells #[v] 39 (0, 0)) ∧ RecRow W (w.heap.size + 4) v R ∧ R.map Rc.tell = pre) ∧ w.grownBy W none ∧ w.heap.size + 4 ≤ W.heap.size) hlc hm hm2 (by omega) ?_ ?_ ?_ W1 0
    ((hG1.block w.heap.size (by omega) (by simp)).trans hS0) (HH.out.1.grown0 hG01) (Tab_grown HH.out.2 hG01)
    ⟨hl1, hD1, ⟨.slice none 0 0, [], (hG1.block _ (by omega) (by simp)).trans hO0, RecRow.nil _ _, rfl⟩, hG01, by omega⟩).mono ?_
  · have := cell_block_lt (HH.out.2 0 (by decide))
    simp only at this
    omega
  · rintro pre W W' ⟨h1, h2, ⟨v, R, h3, h4, h5⟩, h6, h7⟩ hg
    exact ⟨(hg.block _ (by omega) (by simp; try omega)).trans h1, (hg.block _ (by omega) (by simp; try omega)).trans h2, ⟨v, R, (hg.block _ (by omega) (by simp; try omega)).trans h3, h4.grown hg (fun k e => by cases e; omega), h5⟩, grownBy_new h6 hg (Nat.le_refl _), Nat.le_trans h7 hg.size⟩
  · rintro pre ty data g cp W2 W hplen hty hdz ⟨h1, h2, ⟨v, R, h3, h4, h5⟩, h6, h7⟩ hg hgs hOwn hslW hTW
    have hl2 : W.heap[w.heap.size + 2 + 1]? = some (.loop L0) := (hg.block _ (by omega) (by simp; try omega)).trans h1
    have hD2 := (hg.block _ (by omega) (by simp; try omega)).trans h2
    have hO2 := (hg.block _ (by omega) (by simp; try omega)).trans h3
    have hR2 : RecRow W (w.heap.size + 4) v R := h4.grown hg (fun k e => by cases e; omega)
    have hG2 : w.grownBy W none := grownBy_new h6 hg (Nat.le_refl _)
    have hz2 : w.heap.size + 4 ≤ W.heap.size := Nat.le_trans h7 hg.size
    have hfresh : g ∉ R.map Rc.g := by
      intro hm'
      obtain ⟨r, hr, rfl⟩ := List.mem_map.1 hm'
      have := h4.lt r hr
      omega
    have HB : Hid (_ ∧ _ ∧ _ ∧ _ ∧ _ ∧ _ ∧ _ ∧ _) := And.intro hD2 (And.intro hO2 (And.intro hR2 (And.intro hG2 (And.intro hfresh (And.intro hOwn (And.intro hslW hTW))))))
    have HS : Hid (∃ x : Obj, W.heap[w.heap.size]? = some x) := by
      have : w.heap.size < W.heap.size := by omega
      exact ⟨_, Array.getElem?_eq_getElem this⟩
    have hgb : w.heap.size + 4 ≤ g := by omega
    clear h1 h2 h3 h4 h6 h7 hg hD2 hO2 hR2 hG2 hfresh hOwn hslW hTW
    refine yield_round2 hL hl2 rfl fun Lb => ?_
    gi_wp2
    refine ⟨(Below.heap_alloc _ _ _ (by omega)).trans hl2, ?_⟩
    have hlen : R.length < 87382 := by
      have h1 := scan_len zs
      have h2 : zs.length = len := HH.out.1.1
      rw [← h5] at hplen
      simp only [List.length_map] at hplen
      omega
    have hBk : ((W.alloc (.cells #[.int .i64 (ty : Int), .slice (some ⟨g, 0, none⟩) data.length cp] 33)).putObj (w.heap.size + 2 + 1) (.loop Lb)).heap[W.heap.size]? = some (.cells #[.int .i64 (ty : Int), .slice (some ⟨g, 0, none⟩) data.length cp] 33 (0, 0)) :=
      (World.putObj_heap_other (by omega)).trans (heap_alloc_new W _)
    have hold : ∀ k, k < W.heap.size → k ≠ w.heap.size + 2 + 1 → ((W.alloc (.cells #[.int .i64 (ty : Int), .slice (some ⟨g, 0, none⟩) data.length cp] 33)).putObj (w.heap.size + 2 + 1) (.loop Lb)).heap[k]? = W.heap[k]? :=
      fun k hk hne => (World.putObj_heap_other hne).trans (Below.heap_alloc _ _ _ hk)
    have hlb : ((W.alloc (.cells #[.int .i64 (ty : Int), .slice (some ⟨g, 0, none⟩) data.length cp] 33)).putObj (w.heap.size + 2 + 1) (.loop Lb)).heap[w.heap.size + 2 + 1]? = some (.loop Lb) := World.putObj_heap_same (by simp; omega)
    have hs3 : ((W.alloc (.cells #[.int .i64 (ty : Int), .slice (some ⟨g, 0, none⟩) data.length cp] 33)).putObj (w.heap.size + 2 + 1) (.loop Lb)).heap.size = W.heap.size + 1 := by simp
    have hg3 : w.grownBy ((W.alloc (.cells #[.int .i64 (ty : Int), .slice (some ⟨g, 0, none⟩) data.length cp] 33)).putObj (w.heap.size + 2 + 1) (.loop Lb)) none := putObj_grown (grownBy_alloc HB.out.2.2.2.1 _) (by omega)
    generalize (W.alloc (.cells #[.int .i64 (ty : Int), .slice (some ⟨g, 0, none⟩) data.length cp] 33)).putObj (w.heap.size + 2 + 1) (.loop Lb) = W3 at hBk hold hlb hs3 hg3 ⊢
    obtain ⟨i0, hi, hz0, hz1, hz2'⟩ := info_parts Tryd.infoRec
    have hO3 : W3.heap[w.heap.size + 1]? = some (.cells #[v] 39 (0, 0)) := (hold _ (by omega) (by omega)).trans HB.out.2.1
    have hR3 : RecRow W3 (w.heap.size + 4) v R := HB.out.2.2.1.kept (fun k hb hk => hold k hk (by omega))
    have cO : W3.cell? ⟨w.heap.size + 1, 0, none⟩ = some v := by simp [World.cell?, hO3]
    have fO : W3.frozen? ⟨w.heap.size + 1, 0, none⟩ = false := by simp [World.frozen?, hO3]
    have cB0 : W3.cell? ⟨W.heap.size, 0, none⟩ = some (.int .i64 (ty : Int)) := by simp [World.cell?, hBk]
    have cB1 : W3.cell? ⟨W.heap.size, 1, none⟩ = some (.slice (some ⟨g, 0, none⟩) data.length cp) := by simp [World.cell?, hBk]
    have HR3 : Hid (RecRow W3 (w.heap.size + 4) v R) := hR3
    have HOLD : Hid (∀ k, k < W.heap.size → k ≠ w.heap.size + 2 + 1 → W3.heap[k]? = W.heap[k]?) := hold
    have HLB : Hid (W3.heap[w.heap.size + 2 + 1]? = some (.loop Lb) ∧ w.grownBy W3 none ∧ W3.heap[w.heap.size + 1]? = some (.cells #[v] 39 (0, 0))) := ⟨hlb, hg3, hO3⟩
    clear hR3 hold hlb hg3 hBk hl2 hO3
    gi_wp2_with (gi_at_builtin; refine wpListIn_append_own _ rfl _ _ 39 rfl (w.heap.size + 4) 33 i0 (.agg #[.int .i64 0, .slice none 0 0]) 2 32 Tryd.underlying39 hi hz0 hz1 hz2' rfl (by decide) v R.length (R.flatMap Rc.cells) rfl (by exact HR3.out.1.alloc _) ⟨W.heap.size + 1, 0, none⟩ 1 1 [.int .i64 (ty : Int), .slice (some ⟨g, 0, none⟩) data.length cp] rfl rfl ?c1 ?c2 ?c3 ?c4 ?c5 ?_)
    case c1 =>
      intro j u hj
      have hX : (W3.alloc (.cells #[.int .i64 (ty : Int), .slice (some ⟨g, 0, none⟩) data.length cp] 33)).heap[W.heap.size + 1]? = some (.cells #[.int .i64 (ty : Int), .slice (some ⟨g, 0, none⟩) data.length cp] 33 (0, 0)) := by
        rw [← hs3]; exact heap_alloc_new W3 _
      match j, hj with
      | 0, hj => simp at hj; subst hj; simp [Addr.add, World.cell?, hX]
      | 1, hj => simp at hj; subst hj; simp [Addr.add, World.cell?, hX]
    case c2 => intro u hu; simp at hu; rcases hu with rfl | rfl <;> rfl
    case c3 => unfold maxLen; omega
    case c4 => omega
    case c5 => simp; omega
    intro v' w4 hown' hgrow _
    obtain ⟨g', cap', rfl⟩ := ownsRow_succ hown'
    have hXR : RecRow (W3.alloc (.cells #[.int .i64 (ty : Int), .slice (some ⟨g, 0, none⟩) data.length cp] 33)) (w.heap.size + 4) v R := HR3.out.grown (World.grownBy_alloc W3 _ none) (by simp)
    have hrow : ∀ k, v.ownBlock = some k → w.heap.size + 4 ≤ k := fun k hk => (hXR.1.lt k hk).1
    have hk4 : ∀ k, k < w.heap.size + 4 → w4.heap[k]? = W3.heap[k]? := fun k hk =>
      (hgrow.block k (by simp; omega) (fun e => by have := hrow k e.symm; omega)).trans (Below.heap_alloc _ _ _ (by omega))
    have hO4 : w4.heap[w.heap.size + 1]? = some (.cells #[v] 39 (0, 0)) := (hk4 _ (by omega)).trans HLB.out.2.2
    have hOwnX : Own (W3.alloc (.cells #[.int .i64 (ty : Int), .slice (some ⟨g, 0, none⟩) data.length cp] 33)) 5 g data := by
      have h1 := HB.out.2.2.2.2.2.1
      exact (h1.of_block (HOLD.out g h1.lt (by omega))).grown (World.grownBy_alloc W3 _ none) (by simp)
    have hRR4 : RecRow w4 (w.heap.size + 4) (.slice (some ⟨g', 0, none⟩) (R.length + 1) cap') (R ++ [⟨ty, data, g, cp⟩]) :=
      hXR.append (r := ⟨ty, data, g, cp⟩) hOwnX hgb HB.out.2.2.2.2.1 hown' hgrow
    have hg4 : w.grownBy w4 none := grownBy_row (grownBy_alloc HLB.out.2.1 _) hgrow (fun k hk => by have := hrow k hk; omega)
    have hs4 : w.heap.size + 4 ≤ w4.heap.size := by have := hgrow.size; simp at this; omega
    have cO4 : w4.cell? ⟨w.heap.size + 1, 0, none⟩ = some v := by simp [World.cell?, hO4]
    have fO4 : w4.frozen? ⟨w.heap.size + 1, 0, none⟩ = false := by simp [World.frozen?, hO4]
    have hst : (w4.setCell ⟨w.heap.size + 1, 0, none⟩ (.slice (some ⟨g', 0, none⟩) (R.length + 1) cap')).heap[w.heap.size + 1]? = some (.cells #[.slice (some ⟨g', 0, none⟩) (R.length + 1) cap'] 39 (0, 0)) := heap_setCell_same w4 _ 0 _ _ _ hO4
    have hoth : ∀ k, k ≠ w.heap.size + 1 → (w4.setCell ⟨w.heap.size + 1, 0, none⟩ (.slice (some ⟨g', 0, none⟩) (R.length + 1) cap')).heap[k]? = w4.heap[k]? := fun k hk => heap_setCell_other w4 ⟨w.heap.size + 1, 0, none⟩ k _ hk
    have hg5 : w.grownBy (w4.setCell ⟨w.heap.size + 1, 0, none⟩ (.slice (some ⟨g', 0, none⟩) (R.length + 1) cap')) none := grownBy_setNew hg4 (by simp)
    have hs5 : (w4.setCell ⟨w.heap.size + 1, 0, none⟩ (.slice (some ⟨g', 0, none⟩) (R.length + 1) cap')).heap.size = w4.heap.size := by simp [World.setCell]
    have HFIN : Hid ((w4.setCell ⟨w.heap.size + 1, 0, none⟩ (.slice (some ⟨g', 0, none⟩) (R.length + 1) cap')).heap[w.heap.size + 2 + 1]? = some (.loop Lb) ∧ _) := And.intro ((hoth _ (by omega)).trans ((hk4 _ (by omega)).trans HLB.out.1)) (And.intro hst (And.intro hoth (And.intro hg5 (And.intro hs5 (And.intro hRR4 (And.intro hk4 hs4))))))
    clear hXR hrow hk4 hO4 hOwnX hRR4 hg4 hs4 hst hoth hg5 hs5 hown' hgrow cO fO cB0 cB1
    gi_wp2
    obtain ⟨f1, f2, f3, f4, f5, f6, f7, f8⟩ := HFIN.out
    generalize w4.setCell ⟨w.heap.size + 1, 0, none⟩ (.slice (some ⟨g', 0, none⟩) (R.length + 1) cap') = W5 at f1 f2 f3 f4 f5 ⊢
    have hp : ∀ k, k ≠ w.heap.size + 2 + 1 → (W5.putObj (w.heap.size + 2 + 1) (.loop L0)).heap[k]? = W5.heap[k]? := fun k hk => World.putObj_heap_other hk
    have hgf : w.grownBy (W5.putObj (w.heap.size + 2 + 1) (.loop L0)) none := putObj_grown f4 (by omega)
    refine ⟨f1, ⟨World.putObj_heap_same (by omega), (hp _ (by omega)).trans ((f3 _ (by omega)).trans ((f7 _ (by omega)).trans ((HOLD.out _ (by omega) (by omega)).trans HB.out.1))), ⟨_, (hp _ (by omega)).trans f2, R ++ [⟨ty, data, g, cp⟩], f6.kept (fun k hk1 hk2 => (hp k (by omega)).trans (f3 k (by omega))), by rw [List.map_append, h5]; rfl⟩, hgf, f8⟩,
      (hp _ (by omega)).trans ((f3 _ (by omega)).trans ((f7 _ (by omega)).trans (HOLD.out _ (by omega) (by omega)))), HH.out.1.grown0 hgf, Tab_grown HH.out.2 hgf⟩
  · rintro e W' ⟨⟨ve, rfl⟩, ⟨hl3, hD3, ⟨vo, R, hO3, hRR, hR⟩, hgw, hsz'⟩, hS3⟩
    have hpn : L0.pending = none := by rw [← hL]; rfl
    have hbz : L0.state ≠ .busy := by rw [← hL]; simp [loopRec]
    have hrun := (run_endLoop (P := Tryd.prog) hl3 hbz).trans (congrArg (fun q => Result.ok q (W'.putObj (w.heap.size + 2 + 1) (.loop { L0 with state := .exhausted }))) hpn)
    refine ⟨none, W'.putObj (w.heap.size + 2 + 1) (.loop { L0 with state := .exhausted }), hrun, ?_⟩
    clear hrun hl3 hpn hbz hL hl1 hD1
    have hp : ∀ k, k ≠ w.heap.size + 2 + 1 → (W'.putObj (w.heap.size + 2 + 1) (.loop { L0 with state := .exhausted })).heap[k]? = W'.heap[k]? := fun k hk => World.putObj_heap_other hk
    have hg4 : w.grownBy (W'.putObj (w.heap.size + 2 + 1) (.loop { L0 with state := .exhausted })) none := putObj_grown hgw (by omega)
    generalize W'.putObj (w.heap.size + 2 + 1) (.loop { L0 with state := .exhausted }) = W4 at hp hg4 ⊢
    have hO4 : W4.heap[w.heap.size + 1]? = some (.cells #[vo] 39 (0, 0)) := (hp _ (by omega)).trans hO3
    have hD4 : W4.heap[w.heap.size + 2]? = some (.deferred (some [])) := (hp _ (by omega)).trans hD3
    have hS4 : ScanAt W4 w.heap.size (some ⟨b, off, none⟩) len cap _ _ := (hp _ (by omega)).trans hS3
    have hR4 : RecRow W4 (w.heap.size + 4) vo R := hRR.kept (fun k hk _ => hp k (by omega))
    have cO : W4.cell? ⟨w.heap.size + 1, 0, none⟩ = some vo := by simp [World.cell?, hO4]
    obtain ⟨c0, c1, c2, -, -⟩ := hS4.cells
    have HE : Hid (_ ∧ _ ∧ _ ∧ _) := And.intro hD4 (And.intro hR4 (And.intro hR hg4))
    clear hO3 hD3 hS3 hRR hp hO4 hD4 hS4 hR4 hR hg4 hgw c0
    obtain ⟨V, hV⟩ : ∃ V, (scan zs).2.1 = V := ⟨_, rfl⟩
    obtain ⟨RS, hRS⟩ : ∃ V, (scan zs).2.2 = V := ⟨_, rfl⟩
    have HV : Hid ((scan zs).2.1 = V ∧ (scan zs).2.2 = RS) := ⟨hV, hRS⟩
    rw [hV] at c1
    rw [hRS] at c2
    clear hV hRS
    go_wp2
    go_quiet (fail)
    go_wp2
    obtain ⟨k1, k2, k3, k4⟩ := HE.out
    refine ⟨by simp, .inl ⟨_, _, rfl, run_takeDeferred (w := W4.drewN nq) k1, ?_⟩⟩
    refine ⟨_, results_tmp3 rfl _ _ _, vo, R, by rw [HV.out.1, HV.out.2]; rfl, ?_, k3, putObj_grown (grownBy_trans k4 (grownBy_drewN W4 nq)) (by omega)⟩
    exact (k2.kept (fun k hk _ => World.putObj_heap_other (w := W4.drewN nq) (by omega))).lower (by omega)
end Go.Proofs.YteacgefklafofaaDoor

/-
  slices.AppendSeq, Collect, Sorted over slices.Values of ints, walked.
-/
import Derived.Test.YtionggfecikedaaValues
import Derived.Test.YtionggfecikedaaShelf
import Derived.Shelf.Abstract
namespace Go.Proofs.Ytionggfecikedaa
open Go.RowKit
attribute [local go_sem] Oper.semAt_some

theorem putObj_grownI {w0 w : World} {r : Nat} {o : Obj} (h : w0.grownBy w none) (hr : w0.heap.size ≤ r) : w0.grownBy (w.putObj r o) none :=
  ⟨h.os, h.tape, h.output, by simpa using h.size, fun k hk hne => (World.putObj_heap_other (by omega)).trans (h.block k hk hne)⟩
theorem grownBy_rowI {a b c : World} {row : Option Nat} (h : a.grownBy b none) (k : b.grownBy c row) (hr : ∀ g, row = some g → a.heap.size ≤ g) : a.grownBy c none := by
  cases row with
  | none => exact grownBy_trans h k
  | some g => exact grownBy_new h k (hr g rfl)
theorem ints_one (zs : List Int) : ∀ v ∈ zs.map iv, v.oneCell' = true := by
  intro v hv; obtain ⟨z, _, rfl⟩ := List.mem_map.1 hv; rfl

set_option maxRecDepth 100000 in
set_option maxHeartbeats 2000000 in
theorem appendSeq_any (B : Nat) (oa : Option Addr) (len cap : Nat) (zs : List Int) (w : World) (hsl : SlI w oa len zs) (hB : w.heap[B]? = some (.cells #[.slice oa len cap] 23 (0, 0))) (hm : len ≤ 1048576) :
    Calls Try.prog 85 #[.slice none 0 0, .func (.func 84) #[] #[.pointer (some ⟨B, 0, none⟩)]] w fun e w' => ∃ v, e = .returned v ∧ w'.ownsRow w.heap.size 3 1 v len (zs.map iv) ∧ w.grownBy w' none := by
  have HH : Hid (SlI w oa len zs ∧ w.heap[B]? = some (.cells #[.slice oa len cap] 23 (0, 0))) := ⟨hsl, hB⟩
  have hl : zs.length = len := hsl.1
  have hBl : B < w.heap.size := (Array.getElem?_eq_some_iff.1 hB).1
  clear hsl hB
  refine (callsIn_wide (n := 0)).1 (callsIn_of_wp_marks Try.func85 rfl trivial ?_ rfl)
  refine wpIn_wide.2 ?_
  simp only [Try.ntmps85, List.size_toArray, List.length_cons, List.length_nil, Nat.reduceAdd, Nat.reduceSub, Array.replicate_succ, Array.replicate_zero, List.push_toArray, List.append_toArray, List.nil_append, List.cons_append]
  go_wp2
  have hsz : (w.alloc (.cells #[.slice none 0 0] 23)).heap.size = w.heap.size + 1 := by simp
  have hO0 : (w.alloc (.cells #[.slice none 0 0] 23)).heap[w.heap.size]? = some (.cells #[.slice none 0 0] 23 (0, 0)) := heap_alloc_new w _
  have hG0 : w.grownBy (w.alloc (.cells #[.slice none 0 0] 23)) none := World.grownBy_alloc w _ _
  generalize w.alloc (.cells #[.slice none 0 0] 23) = W0 at hsz hO0 hG0 ⊢
  refine wp_range_clo rfl (enters_of Try.func84 (by kernel_rfl) rfl) fun fn => ?_
  generalize hL : loopRec fn _ _ _ _ W0.heap.size LoopState.ready = L0
  have hW1s : ((W0.alloc (.deferred (some []))).alloc (.loop L0)).heap.size = w.heap.size + 3 := by simp [hsz]
  have hG1 : W0.grownBy ((W0.alloc (.deferred (some []))).alloc (.loop L0)) none := grownBy_alloc (World.grownBy_alloc W0 _ _) _
  have hl1 : ((W0.alloc (.deferred (some []))).alloc (.loop L0)).heap[W0.heap.size + 1]? = some (.loop L0) := by
    have := heap_alloc_new (W0.alloc (.deferred (some []))) (.loop L0)
    simpa using this
  have hD1 : ((W0.alloc (.deferred (some []))).alloc (.loop L0)).heap[W0.heap.size]? = some (.deferred (some [])) := (Below.heap_alloc _ _ _ (by simp)).trans (heap_alloc_new W0 _)
  generalize (W0.alloc (.deferred (some []))).alloc (.loop L0) = W1 at hW1s hG1 hl1 hD1 ⊢
  have hG01 : w.grownBy W1 none := grownBy_trans hG0 hG1
  rw [hsz] at hl1 hD1 hL ⊢
  have hBc : W1.cell? ⟨B, 0, none⟩ = some (.slice oa len cap) := by
    have := (hG01.block B hBl (by simp)).trans HH.out.2
    simp [World.cell?, this]
  refine (valuesIt_any (w.heap.size + 1 + 1) B oa len cap zs (fun pre W => W.heap[w.heap.size + 1 + 1]? = some (.loop L0) ∧ W.heap[w.heap.size + 1]? = some (.deferred (some [])) ∧ (∃ v, W.heap[w.heap.size]? = some (.cells #[v] 23 (0, 0)) ∧ W.ownsRow (w.heap.size + 3) 3 1 v pre.length (pre.map iv)) ∧ w.grownBy W none ∧ w.heap.size + 3 ≤ W.heap.size) (by omega) ?_ ?_ ?_ W1 hBc
    ⟨hl1, hD1, ⟨.slice none 0 0, (hG1.block _ (by omega) (by simp)).trans hO0, World.ownsRow_nil _ _ _ _⟩, hG01, by omega⟩).mono ?_
  · rintro pre W ⟨-, -, -, h6, -⟩
    exact HH.out.1.grown0 h6
  · rintro pre x W hplen ⟨h1, h2, ⟨v, h3, h4⟩, h6, h7⟩
    refine yield_round2 hL h1 rfl fun Lb => ?_
    have H1 : Hid (W.heap[w.heap.size + 1 + 1]? = some (.loop L0)) := h1
    clear h1
    gi_wp2
    refine ⟨H1.out, ?_⟩
    have hold : ∀ k, k ≠ w.heap.size + 1 + 1 → (W.putObj (w.heap.size + 1 + 1) (.loop Lb)).heap[k]? = W.heap[k]? := fun k hne => World.putObj_heap_other hne
    have hlb : (W.putObj (w.heap.size + 1 + 1) (.loop Lb)).heap[w.heap.size + 1 + 1]? = some (.loop Lb) := World.putObj_heap_same (by omega)
    have hs3 : (W.putObj (w.heap.size + 1 + 1) (.loop Lb)).heap.size = W.heap.size := by simp
    have hg3 : w.grownBy (W.putObj (w.heap.size + 1 + 1) (.loop Lb)) none := putObj_grownI h6 (by omega)
    generalize W.putObj (w.heap.size + 1 + 1) (.loop Lb) = W3 at hold hlb hs3 hg3 ⊢
    obtain ⟨i0, hi, hz0, hz1, hz2'⟩ := info_parts Try.infoInt
    have hO3 : W3.heap[w.heap.size]? = some (.cells #[v] 23 (0, 0)) := (hold _ (by omega)).trans h3
    have hR3 : W3.ownsRow (w.heap.size + 3) 3 1 v pre.length (pre.map iv) := by
      refine ⟨h4.1, ?_⟩
      rcases h4.2 with h9 | ⟨g, cp, cur, rfl, hb, hgg, rest⟩
      · exact .inl h9
      · exact .inr ⟨g, cp, cur, rfl, hb, (hold g (by omega)).trans hgg, rest⟩
    have cO : W3.cell? ⟨w.heap.size, 0, none⟩ = some v := by simp [World.cell?, hO3]
    have fO : W3.frozen? ⟨w.heap.size, 0, none⟩ = false := by simp [World.frozen?, hO3]
    have HR3 : Hid (W3.ownsRow (w.heap.size + 3) 3 1 v pre.length (pre.map iv)) := hR3
    have HLB : Hid (W3.heap[w.heap.size + 1 + 1]? = some (.loop Lb) ∧ w.grownBy W3 none ∧ W3.heap[w.heap.size]? = some (.cells #[v] 23 (0, 0)) ∧ W3.heap[w.heap.size + 1]? = some (.deferred (some []))) := ⟨hlb, hg3, hO3, (hold _ (by omega)).trans h2⟩
    clear hR3 hold hlb hg3 hO3 h2 h3 h4 h6
    gi_wp2_with (gi_at_builtin; refine wpListIn_append_own _ rfl _ _ 23 rfl (w.heap.size + 3) 3 i0 (.int .i64 0) 1 8 Try.underlying23 hi hz0 hz1 hz2' rfl (by decide) v pre.length (pre.map iv) rfl (by exact HR3.out.alloc _) ⟨W.heap.size, 0, none⟩ 1 1 [.int .i64 x] rfl rfl ?c1 ?c2 ?c3 ?c4 ?c5 ?_)
    case c1 =>
      intro j u hj
      have hX : (W3.alloc (.cells #[.int .i64 x] 3)).heap[W.heap.size]? = some (.cells #[.int .i64 x] 3 (0, 0)) := by
        rw [← hs3]; exact heap_alloc_new W3 _
      match j, hj with
      | 0, hj => simp at hj; subst hj; simp [Addr.add, World.cell?, hX]
    case c2 => intro u hu; simp at hu; subst hu; rfl
    case c3 => unfold maxLen; omega
    case c4 => omega
    case c5 => simp; omega
    intro v' w4 hown' hgrow _
    obtain ⟨g', cap', hv'⟩ : ∃ g' cap', v' = .slice (some ⟨g', 0, none⟩) (pre.length + 1) cap' := by
      rcases hown'.2 with ⟨_, h0⟩ | ⟨g', cap', cur, h9, _⟩
      · omega
      · exact ⟨g', cap', h9⟩
    subst hv'
    have hrow : ∀ k, v.ownBlock = some k → w.heap.size + 3 ≤ k := fun k hk => (HR3.out.lt k hk).1
    have hk4 : ∀ k, k < w.heap.size + 3 → w4.heap[k]? = W3.heap[k]? := fun k hk =>
      (hgrow.block k (by simp; omega) (fun e => by have := hrow k e.symm; omega)).trans (Below.heap_alloc _ _ _ (by omega))
    have hO4 : w4.heap[w.heap.size]? = some (.cells #[v] 23 (0, 0)) := (hk4 _ (by omega)).trans HLB.out.2.2.1
    have hg4 : w.grownBy w4 none := grownBy_rowI (grownBy_alloc HLB.out.2.1 _) hgrow (fun k hk => by have := hrow k hk; omega)
    have hs4 : w.heap.size + 3 ≤ w4.heap.size := by have := hgrow.size; simp at this; omega
    have cO4 : w4.cell? ⟨w.heap.size, 0, none⟩ = some v := by simp [World.cell?, hO4]
    have fO4 : w4.frozen? ⟨w.heap.size, 0, none⟩ = false := by simp [World.frozen?, hO4]
    have hst : (w4.setCell ⟨w.heap.size, 0, none⟩ (.slice (some ⟨g', 0, none⟩) (pre.length + 1) cap')).heap[w.heap.size]? = some (.cells #[.slice (some ⟨g', 0, none⟩) (pre.length + 1) cap'] 23 (0, 0)) := heap_setCell_same w4 _ 0 _ _ _ hO4
    have hoth : ∀ k, k ≠ w.heap.size → (w4.setCell ⟨w.heap.size, 0, none⟩ (.slice (some ⟨g', 0, none⟩) (pre.length + 1) cap')).heap[k]? = w4.heap[k]? := fun k hk => heap_setCell_other w4 ⟨w.heap.size, 0, none⟩ k _ hk
    have hg5 : w.grownBy (w4.setCell ⟨w.heap.size, 0, none⟩ (.slice (some ⟨g', 0, none⟩) (pre.length + 1) cap')) none := grownBy_setNew hg4 (by simp)
    have hs5 : (w4.setCell ⟨w.heap.size, 0, none⟩ (.slice (some ⟨g', 0, none⟩) (pre.length + 1) cap')).heap.size = w4.heap.size := by simp [World.setCell]
    have HFIN : Hid ((w4.setCell ⟨w.heap.size, 0, none⟩ (.slice (some ⟨g', 0, none⟩) (pre.length + 1) cap')).heap[w.heap.size + 1 + 1]? = some (.loop Lb) ∧ _) := And.intro ((hoth _ (by omega)).trans ((hk4 _ (by omega)).trans HLB.out.1)) (And.intro hst (And.intro hoth (And.intro hg5 (And.intro hs5 (And.intro hown' (And.intro hs4 ((hk4 (w.heap.size + 1) (by omega)).trans HLB.out.2.2.2)))))))
    clear hrow hk4 hO4 hg4 hs4 hst hoth hg5 hs5 hown' hgrow cO fO
    gi_wp2
    obtain ⟨f1, f2, f3, f4, f5, f6, f7, f8⟩ := HFIN.out
    generalize w4.setCell ⟨w.heap.size, 0, none⟩ (.slice (some ⟨g', 0, none⟩) (pre.length + 1) cap') = W5 at f1 f2 f3 f4 f5 ⊢
    have hp : ∀ k, k ≠ w.heap.size + 1 + 1 → (W5.putObj (w.heap.size + 1 + 1) (.loop L0)).heap[k]? = W5.heap[k]? := fun k hk => World.putObj_heap_other hk
    have hgf : w.grownBy (W5.putObj (w.heap.size + 1 + 1) (.loop L0)) none := putObj_grownI f4 (by omega)
    refine ⟨f1, World.putObj_heap_same (by omega), (hp _ (by omega)).trans ((f3 _ (by omega)).trans f8), ⟨.slice (some ⟨g', 0, none⟩) (pre.length + 1) cap', (hp _ (by omega)).trans f2, ?_⟩, hgf, by first | omega | (simp; omega)⟩
    refine ⟨f6.1, ?_⟩
    rcases f6.2 with h9 | ⟨g, cp, cur, h8', hb, hgg, rest⟩
    · exact .inl h9
    · exact .inr ⟨g, cp, cur, h8', hb, (hp g (by omega)).trans ((f3 g (by omega)).trans hgg), rest⟩
  · rintro pre W ⟨h1, h2, ⟨v, h3, h4⟩, h6, h7⟩
    exact ⟨h1, h2, ⟨v, h3, h4.drew⟩, grownBy_drew h6, h7⟩
  · rintro e W' ⟨⟨ve, rfl⟩, ⟨hl3, hD3, ⟨vo, hO3, hRR⟩, hgw, hsz'⟩⟩
    have hpn : L0.pending = none := by rw [← hL]; rfl
    have hbz : L0.state ≠ .busy := by rw [← hL]; simp [loopRec]
    have hrun := (run_endLoop (P := Try.prog) hl3 hbz).trans (congrArg (fun q => Result.ok q (W'.putObj (w.heap.size + 1 + 1) (.loop { L0 with state := .exhausted }))) hpn)
    refine ⟨none, W'.putObj (w.heap.size + 1 + 1) (.loop { L0 with state := .exhausted }), hrun, ?_⟩
    clear hrun hl3 hpn hbz hL hl1 hD1
    have hp : ∀ k, k ≠ w.heap.size + 1 + 1 → (W'.putObj (w.heap.size + 1 + 1) (.loop { L0 with state := .exhausted })).heap[k]? = W'.heap[k]? := fun k hk => World.putObj_heap_other hk
    have hg4 : w.grownBy (W'.putObj (w.heap.size + 1 + 1) (.loop { L0 with state := .exhausted })) none := putObj_grownI hgw (by omega)
    generalize W'.putObj (w.heap.size + 1 + 1) (.loop { L0 with state := .exhausted }) = W4 at hp hg4 ⊢
    have hO4 : W4.heap[w.heap.size]? = some (.cells #[vo] 23 (0, 0)) := (hp _ (by omega)).trans hO3
    have hD4 : W4.heap[w.heap.size + 1]? = some (.deferred (some [])) := (hp _ (by omega)).trans hD3
    have hR4 : W4.ownsRow (w.heap.size + 3) 3 1 vo zs.length (zs.map iv) := by
      refine ⟨hRR.1, ?_⟩
      rcases hRR.2 with h9 | ⟨g, cp, cur, rfl, hb, hgg, rest⟩
      · exact .inl h9
      · exact .inr ⟨g, cp, cur, rfl, hb, (hp g (by omega)).trans hgg, rest⟩
    have cO : W4.cell? ⟨w.heap.size, 0, none⟩ = some vo := by simp [World.cell?, hO4]
    have HE : Hid (_ ∧ _ ∧ _) := And.intro hD4 (And.intro hR4 hg4)
    clear hO3 hD3 hRR hp hO4 hD4 hR4 hg4 hgw
    go_wp2
    obtain ⟨k1, k2, k4⟩ := HE.out
    refine ⟨by simp, .inl ⟨_, _, rfl, run_takeDeferred (w := W4) k1, ?_⟩⟩
    refine ⟨_, results_tmp rfl _ _ _, vo, rfl, ?_, putObj_grownI k4 (by omega)⟩
    rw [hl] at k2
    refine ⟨k2.1, ?_⟩
    rcases k2.2 with h9 | ⟨g, cp, cur, rfl, hb, hgg, rest⟩
    · exact .inl h9
    · exact .inr ⟨g, cp, cur, rfl, by omega, (World.putObj_heap_other (by omega)).trans hgg, rest⟩

set_option maxHeartbeats 400000 in
theorem collect_any (B : Nat) (oa : Option Addr) (len cap : Nat) (zs : List Int) (w : World) (hsl : SlI w oa len zs) (hB : w.heap[B]? = some (.cells #[.slice oa len cap] 23 (0, 0))) (hm : len ≤ 1048576) :
    Calls Try.prog 82 #[.func (.func 84) #[] #[.pointer (some ⟨B, 0, none⟩)]] w fun e w' => ∃ v, e = .returned v ∧ w'.ownsRow w.heap.size 3 1 v len (zs.map iv) ∧ w.grownBy w' none := by
  have HC : Hid (Calls _ _ _ _ _) := appendSeq_any B oa len cap zs w hsl hB hm
  clear hsl hB
  go_enter Try.func82, Try.ntmps82
  go_wp2_with fail
  refine HC.out.mono ?_
  rintro e w1 ⟨v, rfl, hR, hG⟩
  have R : Hid (_ ∧ _) := ⟨hR, hG⟩
  clear hR hG HC
  go_wp2
  go_ret
  exact ⟨v, rfl, R.out.1, R.out.2⟩
end Go.Proofs.Ytionggfecikedaa

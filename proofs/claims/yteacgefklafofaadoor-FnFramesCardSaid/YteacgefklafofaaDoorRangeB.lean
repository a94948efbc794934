/-
  A range over a method value whose iterator keeps its state in cells: the statement at the wide fence. Nothing here reaches the dump.
-/
import Derived.Test.YteacgefklafofaaDoorBase
import Derived.RangeFuncNested
import Derived.RangeFuncLeaves
import Derived.RangeFuncRecord
namespace Go.Proofs.YteacgefklafofaaDoor
open Go.RowKit

/-- the loop's record -/
def loopRec (fn : FuncId) (tmps : Array Value) (ps : Array Tmp) (assign body : Code) (d : Nat) (s : LoopState) : Loop :=
  { state := s, pending := none, fn := fn, tmps := tmps, params := ps, assign := assign, body := body, defers := d }
theorem wp_range_bound {P : Program} {g : Operand} {ps : Array Tmp} {assign body : Code} {Q : Exit → Act → World → Prop} {a : Act} {w : World} {f : FuncId} {bound : Array Value}
    (hg : a.eval g = .func (.func f) bound #[]) (he : ∀ args w, (callFunc f args).run P w = .ok (.enter f args) w)
    (h : ∀ fn, Calls P f (bound ++ #[.func (.yield (w.heap.size + 1)) #[] #[]]) ((w.alloc (.deferred (some []))).alloc (.loop (loopRec fn a.tmps ps assign body w.heap.size .ready)))
      (rangePost Fence.wide 0 P (w.heap.size + 1) Q { a with defers := [{ target := .collected w.heap.size, args := #[] }] ++ a.defers })) :
    (Code.rangeFunc g ps assign body).wp P Q a w := by
  refine (wpIn_wide (n := 0)).1 (wpIn_rangeFunc fun fn _ => ?_)
  refine ⟨w.heap.size + 1, [{ target := .collected w.heap.size, args := #[] }], (w.alloc (.deferred (some []))).alloc (.loop (loopRec fn a.tmps ps assign body w.heap.size .ready)),
    { target := .fn (.func f) #[], args := bound ++ #[.func (.yield (w.heap.size + 1)) #[] #[]] }, (w.alloc (.deferred (some []))).alloc (.loop (loopRec fn a.tmps ps assign body w.heap.size .ready)), f,
    bound ++ #[.func (.yield (w.heap.size + 1)) #[] #[]], (w.alloc (.deferred (some []))).alloc (.loop (loopRec fn a.tmps ps assign body w.heap.size .ready)), ?_, ?_, ?_, ?_, ?_, ?_⟩
  · exact run_enterLoop_outer _ _ _ _ _
  · simp only [resolve, hg]
    simp [go_sem]
  · intro f' _; trivial
  · simp [invoke, he]
  · intro h; cases h
  · exact callsIn_wide.2 (h fn)

/-- one round: the assignment's code and the body's, each told by what it leaves -/
theorem yield_round {P : Program} {l fn : Nat} {tmps : Array Value} {ps : Array Tmp} {assign body : Code} {d : Nat} {args : Array Value} {W : World} {R : Ending → World → Prop}
    (hl : W.heap[l]? = some (.loop (loopRec fn tmps ps assign body d .ready))) (hs : args.size = ps.size)
    (h : assign.wpIn (Fence.wide.inRound l) 0 P (Exit.then (fun a₁ w₁ => w₁.heap[l]? = some (.loop (loopRec fn tmps ps assign body d .ready)) ∧
        body.wpIn (Fence.wide.inRound l) 0 P (fun e _ w₃ => e = .normal ∧ w₃.heap[l]? = some (.loop (loopRec fn tmps ps assign body d .busy)) ∧ R (.returned (.bool true)) (w₃.putObj l (.loop (loopRec fn tmps ps assign body d .ready)))) a₁
          (w₁.putObj l (.loop (loopRec fn tmps ps assign body d .busy)))) (fun _ _ _ => False))
      { tmps := (ps.zip args).foldl (fun tmps (t, a) => tmps.setIfInBounds t a) tmps, defers := [] } W) :
    YieldAt Fence.wide 0 P l args W R := by
  refine ⟨fn, _, assign, body, run_yield hl hs, roundIn_of_wpIn trivial ?_⟩
  refine Code.wpIn_mono (fun e a w hq => ?_) h
  cases e with
  | normal =>
    obtain ⟨h1, h2⟩ := hq
    refine ⟨_, run_beginRound h1 rfl, ?_⟩
    refine Code.wpIn_mono (fun e' a' w' hq' => ?_) h2
    obtain ⟨rfl, h3, h4⟩ := hq'
    exact ⟨_, _, run_endRound none h3, h4⟩
  | _ => exact hq.elim
/-- the same, the two states of the record under names -/
theorem yield_round2 {P : Program} {l fn : Nat} {tmps : Array Value} {ps : Array Tmp} {assign body : Code} {d : Nat} {args : Array Value} {W : World} {R : Ending → World → Prop} {L0 : Loop}
    (hL : loopRec fn tmps ps assign body d .ready = L0) (hl : W.heap[l]? = some (.loop L0)) (hs : args.size = ps.size)
    (h : ∀ Lb : Loop, assign.wpIn (Fence.wide.inRound l) 0 P (Exit.then (fun a₁ w₁ => w₁.heap[l]? = some (.loop L0) ∧
        body.wpIn (Fence.wide.inRound l) 0 P (fun e _ w₃ => e = .normal ∧ w₃.heap[l]? = some (.loop Lb) ∧ R (.returned (.bool true)) (w₃.putObj l (.loop L0))) a₁
          (w₁.putObj l (.loop Lb))) (fun _ _ _ => False))
      { tmps := (ps.zip args).foldl (fun tmps (t, a) => tmps.setIfInBounds t a) tmps, defers := [] } W) :
    YieldAt Fence.wide 0 P l args W R := by
  subst hL
  exact yield_round hl hs (h _)
end Go.Proofs.YteacgefklafofaaDoor

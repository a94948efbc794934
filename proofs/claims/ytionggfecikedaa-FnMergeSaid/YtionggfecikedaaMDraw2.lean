/-
  DrawMergePoint, walked: whatever it draws, two bounded rows and two numbers.
-/
import Derived.Test.YtionggfecikedaaMDraw
namespace Go.Proofs.Ytionggfecikedaa
open Go.RowKit

/-- a small number, or one more -/
def small2 (z : Int) : Prop := 0 ≤ z ∧ z ≤ 1001
theorem small.two {z : Int} (h : small z) : small2 z := ⟨h.1, by have := h.2; omega⟩
theorem small2.ok {z : Int} (h : small2 z) : i64Ok z := ⟨by have := h.1; omega, by have := h.2; omega⟩
/-- two rows don't lie in one block -/
def Apart (v1 v2 : Value) : Prop := ∀ g, v1.ownBlock = some g → v2.ownBlock ≠ some g
/-- a source of draws and two rows of small ints, all new -/
structure MS (w0 w : World) (s : Nat) (zs : List Nat) (v1 v2 : Value) (ts ns : List Int) : Prop where
  src : Src w s zs
  grown : w0.grownBy w none
  low : w0.heap.size ≤ s
  r1 : w.ownsRow (s + 1) 3 1 v1 ts.length (ts.map iv)
  r2 : w.ownsRow (s + 1) 3 1 v2 ns.length (ns.map iv)
  apart : Apart v1 v2
  s1 : ∀ z ∈ ts, small z
  s2 : ∀ z ∈ ns, small2 z
theorem row_keep {w w' : World} {s base e n : Nat} {v : Value} {xs : List Value} (h : w.ownsRow base e 1 v n xs) (hg : w.grownBy w' (some s)) (hb : s < base) : w'.ownsRow base e 1 v n xs :=
  h.kept hg (by
    cases hob : v.ownBlock with
    | none => exact .inl rfl
    | some g => right; have := (h.lt g hob).1; simp; omega)
theorem MS.draw {w0 w w' : World} {s : Nat} {zs : List Nat} {v1 v2 : Value} {ts ns : List Int} (h : MS w0 w s zs v1 v2 ts ns) (hs : Src w' s zs) (hg : w.grownBy w' (some s)) : MS w0 w' s zs v1 v2 ts ns :=
  ⟨hs, grownBy_new h.grown hg h.low, h.low, row_keep h.r1 hg (by omega), row_keep h.r2 hg (by omega), h.apart, h.s1, h.s2⟩
theorem MS.more {w0 w w' : World} {s : Nat} {zs : List Nat} {v1 v2 : Value} {ts ns : List Int} (h : MS w0 w s zs v1 v2 ts ns) (hg : w.grownBy w' none) : MS w0 w' s zs v1 v2 ts ns :=
  ⟨h.src.grown0 hg, grownBy_trans h.grown hg, h.low, h.r1.kept hg (by cases v1.ownBlock with | none => exact .inl rfl | some g => exact .inr (by simp)), h.r2.kept hg (by cases v2.ownBlock with | none => exact .inl rfl | some g => exact .inr (by simp)), h.apart, h.s1, h.s2⟩
theorem row_low {w : World} {base base' e n : Nat} {v : Value} {xs : List Value} (h : w.ownsRow base e 1 v n xs) (hb : base' ≤ base) : w.ownsRow base' e 1 v n xs := by
  refine ⟨h.1, ?_⟩
  rcases h.2 with h2 | ⟨g, cap, cur, h2, h3, h4⟩
  · exact .inl h2
  · exact .inr ⟨g, cap, cur, h2, Nat.le_trans hb h3, h4⟩
theorem MS.none2 {w0 w : World} {s : Nat} {zs : List Nat} {v1 v2 : Value} {ts ns : List Int} (h : MS w0 w s zs v1 v2 ts ns) : MS w0 w s zs v1 (.slice none 0 0) ts [] :=
  ⟨h.src, h.grown, h.low, h.r1, World.ownsRow_nil _ _ _ _, (fun g _ h9 => by cases h9), h.s1, by simp⟩
/-- behind an append of one number to the second row -/
theorem MS.push {w0 w wA w4 : World} {s : Nat} {zs : List Nat} {v1 v2 v' : Value} {ts ns : List Int} {x : Int} (h : MS w0 w s zs v1 v2 ts ns) (hA : w.grownBy wA none) (hown : w4.ownsRow (s + 1) 3 1 v' (ns.length + 1) ((ns ++ [x]).map iv))
    (hgr : wA.grownBy w4 v2.ownBlock) (hat : ∀ g', v'.ownBlock = some g' → v2.ownBlock = some g' ∨ g' = wA.heap.size) (hx : small2 x) : MS w0 w4 s zs v1 v' ts (ns ++ [x]) := by
  have hm := h.more hA
  refine ⟨hm.src.grown hgr (fun r hr => by have := (hm.r2.lt r hr).1; omega), ?_, h.low, hm.r1.kept hgr ?_, by simpa using hown, ?_, h.s1, ?_⟩
  · have h5 := hm.grown
    refine ⟨hgr.os.trans h5.os, hgr.tape.trans h5.tape, hgr.output.trans h5.output, Nat.le_trans h5.size hgr.size, fun j hj hne => ?_⟩
    refine (hgr.block j (Nat.lt_of_lt_of_le hj h5.size) (fun e => ?_)).trans (h5.block j hj hne)
    have := (hm.r2.lt j e.symm).1
    have := h.low
    omega
  · cases hob : v1.ownBlock with
    | none => exact .inl rfl
    | some g => exact .inr (fun e => h.apart g hob e.symm)
  · intro g hg1 hg2
    rcases hat g hg2 with h9 | h9
    · exact h.apart g hg1 h9
    · have := (hm.r1.lt g hg1).2; omega
  · intro z hz
    rcases List.mem_append.1 hz with h9 | h9
    · exact h.s2 z h9
    · simp at h9; subst h9; exact hx
/-- one of the second row's numbers is turned -/
theorem MS.set {w0 w : World} {s g n cp j : Nat} {zs : List Nat} {v1 : Value} {ts ns : List Int} {x : Int} (h : MS w0 w s zs v1 (.slice (some ⟨g, 0, none⟩) n cp) ts ns) (hn : ns.length = n) (hx : small2 x) : MS w0 (w.setCell ⟨g, j, none⟩ (.int .i64 x)) s zs v1 (.slice (some ⟨g, 0, none⟩) n cp) ts (ns.set j x) := by
  subst hn
  have h2 := h.r2.stored j (.int .i64 x)
  have hgs : s + 1 ≤ g := (h.r2.lt g rfl).1
  refine ⟨h.src.grown h2.2 (fun r hr => by cases hr; omega), grownBy_new h.grown h2.2 (by have := h.low; omega), h.low, h.r1.kept h2.2 ?_, ?_, h.apart, h.s1, ?_⟩
  · cases hob : v1.ownBlock with
    | none => exact .inl rfl
    | some g' => exact .inr (fun e => h.apart g' hob (by cases e; rfl))
  · have := h2.1
    rw [List.length_set, List.map_set]
    exact this
  · intro z hz
    rcases List.mem_or_eq_of_mem_set hz with h9 | h9
    · exact h.s2 z h9
    · rw [h9]; exact hx
end Go.Proofs.Ytionggfecikedaa

/-
  A slice of records of the call's own: its row, the bytes of each.
-/
import Derived.Test.YteacgefklafofaaDoorScanMath
namespace Go.Proofs.YteacgefklafofaaDoor
open Go.RowKit

/-- a record as it lies: type, bytes, the bytes' block, their capacity -/
structure Rc where
  ty : Nat
  data : List Nat
  g : Nat
  cp : Nat
def Rc.cells (r : Rc) : List Value := [.int .i64 (r.ty : Int), .slice (some ⟨r.g, 0, none⟩) r.data.length r.cp]
def Rc.tell (r : Rc) : Nat × List Nat := (r.ty, r.data)
def RecRow (w : World) (base : Nat) (v : Value) (R : List Rc) : Prop :=
  w.ownsRow base 33 2 v R.length (R.flatMap Rc.cells) ∧ (∀ r ∈ R, base ≤ r.g ∧ Own w 5 r.g r.data) ∧ (R.map Rc.g).Nodup
theorem RecRow.nil (w : World) (base : Nat) : RecRow w base (.slice none 0 0) [] := ⟨World.ownsRow_nil _ _ _ _, by simp, by simp⟩
theorem Own.type {w : World} {e e' : TypeId} {g : Nat} {zs : List Nat} {cur : Array Value} {f : Nat × Nat} (h : Own w e g zs) (h' : w.heap[g]? = some (.cells cur e' f)) : e = e' := by
  obtain ⟨_, cur', hg, _⟩ := h
  rw [hg] at h'
  simp only [Option.some.injEq, Obj.cells.injEq] at h'
  exact h'.2.1
/-- kept where its blocks are -/
theorem RecRow.kept {w w' : World} {base : Nat} {v : Value} {R : List Rc} (h : RecRow w base v R) (hk : ∀ k, base ≤ k → k < w.heap.size → w'.heap[k]? = w.heap[k]?) : RecRow w' base v R := by
  obtain ⟨h1, h2, h3⟩ := h
  refine ⟨⟨h1.1, ?_⟩, fun r hr => ⟨(h2 r hr).1, (h2 r hr).2.of_block (hk _ (h2 r hr).1 (h2 r hr).2.lt)⟩, h3⟩
  rcases h1.2 with h | ⟨g, cap, cur, hv, hb, hg, rest⟩
  · exact .inl h
  · exact .inr ⟨g, cap, cur, hv, hb, (hk g hb (Array.getElem?_eq_some_iff.1 hg).1).trans hg, rest⟩
theorem RecRow.grown {w w' : World} {row : Option Nat} {base : Nat} {v : Value} {R : List Rc} (h : RecRow w base v R) (hg : w.grownBy w' row) (hr : ∀ k, row = some k → k < base) : RecRow w' base v R :=
  h.kept fun k hb hk => hg.block k hk (fun e => by have := hr k e.symm; omega)
theorem RecRow.lower {w : World} {base base' : Nat} {v : Value} {R : List Rc} (h : RecRow w base v R) (hb : base' ≤ base) : RecRow w base' v R :=
  ⟨ownsRow_base h.1 hb, fun r hr => ⟨Nat.le_trans hb (h.2.1 r hr).1, (h.2.1 r hr).2⟩, h.2.2⟩
theorem RecRow.lt {w : World} {base : Nat} {v : Value} {R : List Rc} (h : RecRow w base v R) : ∀ r ∈ R, r.g < w.heap.size := fun r hr => (h.2.1 r hr).2.lt
/-- a record more: what an append onto the row leaves -/
theorem RecRow.append {w w' : World} {base : Nat} {v v' : Value} {R : List Rc} {r : Rc} (h : RecRow w base v R) (hO : Own w 5 r.g r.data) (hb : base ≤ r.g) (hn : r.g ∉ R.map Rc.g)
    (hown : w'.ownsRow base 33 2 v' (R.length + 1) (R.flatMap Rc.cells ++ r.cells)) (hg : w.grownBy w' v.ownBlock) : RecRow w' base v' (R ++ [r]) := by
  obtain ⟨h1, h2, h3⟩ := h
  have hne : ∀ g zs, Own w 5 g zs → some g ≠ v.ownBlock := by
    intro g zs hgO e
    rcases h1.2 with ⟨rfl, _⟩ | ⟨g', cap, cur, rfl, hb', hg', _⟩
    · simp [Value.ownBlock] at e
    · simp only [Value.ownBlock, Option.some.injEq] at e
      subst e
      exact absurd (hgO.type hg') (by decide)
  refine ⟨by simpa using hown, fun r' hr' => ?_, ?_⟩
  · rcases List.mem_append.1 hr' with hr | hr
    · exact ⟨(h2 r' hr).1, (h2 r' hr).2.grown hg (hne _ _ (h2 r' hr).2)⟩
    · obtain rfl : r' = r := by simpa using hr
      exact ⟨hb, hO.grown hg (hne _ _ hO)⟩
  · rw [List.map_append, List.nodup_append]
    refine ⟨h3, by simp, fun a ha b hb' => ?_⟩
    obtain rfl : b = r.g := by simpa using hb'
    intro e
    subst e
    exact hn ha
end Go.Proofs.YteacgefklafofaaDoor

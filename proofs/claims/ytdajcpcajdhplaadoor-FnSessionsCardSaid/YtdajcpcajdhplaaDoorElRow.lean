/-
  Rows of elements that grow by append.
-/
import Derived.Test.YtdajcpcajdhplaaDoorElPut2
namespace Go.Proofs.YtdajcpcajdhplaaDoor
open Go.RowKit

def ElOwn (w : World) (base m : Nat) (x : El) : Prop := x.hd.length = m ∧ OwnS w 5 (oad x.o) x.d.length x.d ∧ (x.o = none → x.cp = 0) ∧ ∀ g, x.o = some g → base ≤ g
structure ElRow (w : World) (base : Nat) (t : TypeId) (m : Nat) (v : Value) (L : List El) : Prop where
  row : w.ownsRow base t (m + 1) v L.length (L.flatMap El.cells)
  own : ∀ x ∈ L, ElOwn w base m x
  nod : (L.filterMap El.o).Nodup
theorem ElOwn.lt {w : World} {base m : Nat} {x : El} (h : ElOwn w base m x) : ∀ g, x.o = some g → g < w.heap.size := fun g hg => h.2.1.lt g (by rw [blk_oad]; exact hg)
theorem ElOwn.grown {w w' : World} {row : Option Nat} {base m : Nat} {x : El} (h : ElOwn w base m x) (hg : w.grownBy w' row) (hne : ∀ g, x.o = some g → some g ≠ row) : ElOwn w' base m x := ⟨h.1, h.2.1.grown hg (fun g e => hne g (by rw [← blk_oad x.o]; exact e)), h.2.2⟩
theorem ElRow.nil (w : World) (base : Nat) (t : TypeId) (m : Nat) : ElRow w base t m (.slice none 0 0) [] := ⟨World.ownsRow_nil _ _ _ _, by simp, by simp⟩
theorem ElRow.lt {w : World} {base m : Nat} {t : TypeId} {v : Value} {L : List El} (h : ElRow w base t m v L) : ∀ g ∈ L.filterMap El.o, base ≤ g ∧ g < w.heap.size := by
  intro g hg
  obtain ⟨x, hx, e⟩ := List.mem_filterMap.1 hg
  exact ⟨(h.own x hx).2.2.2 g e, (h.own x hx).lt g e⟩
theorem ElRow.grown {w w' : World} {row : Option Nat} {base m : Nat} {t : TypeId} {v : Value} {L : List El} (h : ElRow w base t m v L) (hg : w.grownBy w' row) (hr : ∀ k, row = some k → k < base) : ElRow w' base t m v L := by
  obtain ⟨h1, h2, h3⟩ := h
  refine ⟨h1.kept hg ?_, fun x hx => (h2 x hx).grown hg (fun g e e2 => ?_), h3⟩
  · cases hv : v.ownBlock with
    | none => exact .inl rfl
    | some k =>
      refine .inr fun e => ?_
      have h5 := (h1.lt k hv).1
      have := hr k e.symm
      omega
  · have h4 := (h2 x hx).2.2.2 g e
    have := hr g e2.symm
    omega
theorem ElRow.lower {w : World} {base base' m : Nat} {t : TypeId} {v : Value} {L : List El} (h : ElRow w base t m v L) (hb : base' ≤ base) : ElRow w base' t m v L :=
  ⟨ownsRow_base h.row hb, fun x hx => ⟨(h.own x hx).1, (h.own x hx).2.1, (h.own x hx).2.2.1, fun g e => Nat.le_trans hb ((h.own x hx).2.2.2 g e)⟩, h.nod⟩
/-- nothing of it is touched -/
theorem ElRow.kept {w w' : World} {row : Option Nat} {base m : Nat} {t : TypeId} {v : Value} {L : List El} (h : ElRow w base t m v L) (hg : w.grownBy w' row) (hv : ∀ k, v.ownBlock = some k → row ≠ some k) (hL : ∀ g ∈ L.filterMap El.o, row ≠ some g) : ElRow w' base t m v L := by
  obtain ⟨h1, h2, h3⟩ := h
  refine ⟨h1.kept hg ?_, fun x hx => (h2 x hx).grown hg (fun g e e2 => hL g (List.mem_filterMap.2 ⟨x, hx, e⟩) e2.symm), h3⟩
  cases hb : v.ownBlock with
  | none => exact .inl rfl
  | some k => exact .inr fun e => hv k hb e.symm
/-- the row's own block is none of its bytes' -/
theorem ElRow.ne {w : World} {base m : Nat} {t : TypeId} {v : Value} {L : List El} (h : ElRow w base t m v L) (ht : t ≠ 5) {x : El} {base' m' : Nat} (hx : ElOwn w base' m' x) : ∀ g, x.o = some g → some g ≠ v.ownBlock := by
  intro g hyo e
  have hgO := ownS_blk hx.2.1 hyo
  rcases h.row.2 with ⟨h0, _⟩ | ⟨g', cap, cur, h0, hb', hg', _⟩
  · rw [h0] at e; simp [Value.ownBlock] at e
  · rw [h0] at e
    simp only [Value.ownBlock, Option.some.injEq] at e
    subst e
    exact ht (own_type hgO hg').symm
/-- two rows of two types have two blocks -/
theorem ElRow.two {w : World} {base m base' m' : Nat} {t t' : TypeId} {v v' : Value} {L L' : List El} (h : ElRow w base t m v L) (h' : ElRow w base' t' m' v' L') (ht : t ≠ t') : ∀ k, v.ownBlock = some k → v'.ownBlock ≠ some k := by
  intro k e e'
  rcases h.row.2 with ⟨h0, _⟩ | ⟨g, cap, cur, h0, hb, hg, _⟩
  · rw [h0] at e; simp [Value.ownBlock] at e
  · rcases h'.row.2 with ⟨h0', _⟩ | ⟨g', cap', cur', h0', hb', hg', _⟩
    · rw [h0'] at e'; simp [Value.ownBlock] at e'
    · rw [h0] at e; rw [h0'] at e'
      simp only [Value.ownBlock, Option.some.injEq] at e e'
      subst e; subst e'
      rw [hg] at hg'
      simp only [Option.some.injEq, Obj.cells.injEq] at hg'
      exact ht hg'.2.1
/-- an element more: what an append onto the row leaves -/
theorem ElRow.append {w w' : World} {base m : Nat} {t : TypeId} {v v' : Value} {L : List El} {x : El} (h : ElRow w base t m v L) (ht : t ≠ 5) (hO : ElOwn w base m x) (hn : ∀ g, x.o = some g → g ∉ L.filterMap El.o)
    (hown : w'.ownsRow base t (m + 1) v' (L.length + 1) (L.flatMap El.cells ++ x.cells)) (hg : w.grownBy w' v.ownBlock) : ElRow w' base t m v' (L ++ [x]) := by
  have hne := fun {y : El} (hy : ElOwn w base m y) => h.ne ht hy
  obtain ⟨h1, h2, h3⟩ := h
  refine ⟨by simpa using hown, fun y hy => ?_, ?_⟩
  · rcases List.mem_append.1 hy with hr | hr
    · exact (h2 y hr).grown hg (hne (h2 y hr))
    · obtain rfl : y = x := by simpa using hr
      exact hO.grown hg (hne hO)
  · rw [List.filterMap_append, List.nodup_append]
    refine ⟨h3, ?_, fun a ha b hb' e => ?_⟩
    · cases hxo : x.o <;> simp [hxo]
    · subst e
      have : x.o = some a := by
        obtain ⟨y, hy, e⟩ := List.mem_filterMap.1 hb'
        obtain rfl : y = x := by simpa using hy
        exact e
      exact hn a this ha
theorem nod_far : ∀ (L : List El), (L.filterMap El.o).Nodup → ∀ (i j : Nat) (x y : El) (k : Nat), L[i]? = some x → L[j]? = some y → x.o = some k → y.o = some k → i = j := by
  intro L
  induction L with
  | nil => intro _ i j x y k hi; simp at hi
  | cons z L ih =>
    intro hn i j x y k hi hj hx hy
    have hmem : ∀ {n : Nat} {u : El}, L[n]? = some u → u.o = some k → k ∈ L.filterMap El.o := fun {n u} hu ho => List.mem_filterMap.2 ⟨u, List.mem_of_getElem? hu, ho⟩
    have hn' : (L.filterMap El.o).Nodup := by
      cases hz : z.o with
      | none => rw [List.filterMap_cons_none hz] at hn; exact hn
      | some b => rw [List.filterMap_cons_some hz] at hn; exact (List.nodup_cons.1 hn).2
    have hzk : z.o = some k → k ∉ L.filterMap El.o := fun hz => by
      rw [List.filterMap_cons_some hz] at hn
      exact (List.nodup_cons.1 hn).1
    cases i with
    | zero =>
      simp at hi; subst hi
      cases j with
      | zero => rfl
      | succ j => exact absurd (hmem (by simpa using hj) hy) (hzk hx)
    | succ i =>
      cases j with
      | zero =>
        simp at hj; subst hj
        exact absurd (hmem (by simpa using hi) hx) (hzk hy)
      | succ j => rw [ih hn' i j x y k (by simpa using hi) (by simpa using hj) hx hy]
/-- cells of elements whose bytes are owned: the elements lie there -/
theorem elO_of_row {w : World} {base m : Nat} {t : TypeId} {v : Value} {L : List El} (h : w.ownsRow base t (m + 1) v L.length (L.flatMap El.cells))
    (hown : ∀ x ∈ L, x.hd.length = m ∧ OwnS w 5 (oad x.o) x.d.length x.d ∧ (x.o = none → x.cp = 0)) (hfar : ∀ (i j : Nat) (x y : El) (k : Nat), L[i]? = some x → L[j]? = some y → x.o = some k → y.o = some k → i = j) :
    ∃ oa cap, v = .slice oa L.length cap ∧ ElO w t m oa cap L ∧ (∀ g, oa = some ⟨g, 0, none⟩ → base ≤ g ∧ v.ownBlock = some g) ∧ L.length ≤ cap ∧ cap ≤ maxLen := by
  rcases h.2 with ⟨h0, hl⟩ | ⟨g, cap, cur, h0, hb, hg, hc, hm, hs, htake⟩
  · have hL := List.eq_nil_of_length_eq_zero hl
    subst hL
    exact ⟨none, 0, h0, .inl ⟨rfl, rfl, rfl⟩, (fun g e => by cases e), Nat.le_refl _, Nat.zero_le _⟩
  · refine ⟨some ⟨g, 0, none⟩, cap, h0, .inr ⟨g, rfl, el_of_flat hg (fun j hj => ?_) (fun i x hx => hown x (List.mem_of_getElem? hx)) hfar⟩, fun g' e => ?_, hc, hm⟩
    · rw [← htake, List.getElem?_take, if_pos hj, Array.getElem?_toList]
    · simp only [Option.some.injEq, Addr.mk.injEq, and_true] at e
      subst e
      exact ⟨hb, by rw [h0]; rfl⟩
theorem ElRow.elO {w : World} {base m : Nat} {t : TypeId} {v : Value} {L : List El} (h : ElRow w base t m v L) : ∃ oa cap, v = .slice oa L.length cap ∧ ElO w t m oa cap L ∧ (∀ k, ElB oa L k → base ≤ k) ∧ L.length ≤ cap ∧ cap ≤ maxLen := by
  obtain ⟨oa, cap, h1, h2, h3, h4, h5⟩ := elO_of_row h.row (fun x hx => ⟨(h.own x hx).1, (h.own x hx).2.1, (h.own x hx).2.2.1⟩) (nod_far L h.nod)
  refine ⟨oa, cap, h1, h2, fun k hk => ?_, h4, h5⟩
  rcases hk with hk | ⟨x, hx, ho⟩
  · exact (h3 k hk).1
  · exact (h.own x hx).2.2.2 k ho
end Go.Proofs.YtdajcpcajdhplaaDoor

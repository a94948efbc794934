/-
  The model's copy of a service: what lies while it is made.
-/
import Derived.Test.YtdajcpcajdhplaaDoorElRow
import Derived.Test.YtdajcpcajdhplaaDoorSvLaw
namespace Go.Proofs.YtdajcpcajdhplaaDoor
open Go.RowKit

structure CD (w wl : World) (s B : Nat) (b : Int) (vk vs : Value) (K S : List El) : Prop where
  grown : w.grownBy wl none
  sv : wl.heap[s]? = some (.cells #[.int .i64 b, vk, vs] 28 (0, 0))
  rk : ElRow wl B 32 2 vk K
  rs : ElRow wl B 74 3 vs S
  far : ∀ g ∈ K.filterMap El.o, g ∉ S.filterMap El.o
  lo : w.heap.size ≤ s
  sB : s < B
theorem CD.slt {w wl : World} {s B : Nat} {b : Int} {vk vs : Value} {K S : List El} (h : CD w wl s B b vk vs K S) : s < wl.heap.size := (Array.getElem?_eq_some_iff.1 h.sv).1
theorem CD.cells {w wl : World} {s B : Nat} {b : Int} {vk vs : Value} {K S : List El} (h : CD w wl s B b vk vs K S) : wl.cell? ⟨s, 0, none⟩ = some (.int .i64 b) ∧ wl.cell? ⟨s, 1, none⟩ = some vk ∧ wl.cell? ⟨s, 2, none⟩ = some vs ∧ wl.frozen? ⟨s, 1, none⟩ = false ∧ wl.frozen? ⟨s, 2, none⟩ = false := by
  have := h.sv
  simp [World.cell?, World.frozen?, this]
theorem CD.more {w wl wx : World} {s B : Nat} {b : Int} {vk vs : Value} {K S : List El} (h : CD w wl s B b vk vs K S) (hg : wl.grownBy wx none) : CD w wx s B b vk vs K S :=
  ⟨grownBy_trans h.grown hg, (hg.block s h.slt (by simp)).trans h.sv, h.rk.grown hg (by simp), h.rs.grown hg (by simp), h.far, h.lo, h.sB⟩
/-- behind an append onto the kept items' row the service's cells are as they were -/
theorem CD.cellsK {w wl wa : World} {s B : Nat} {b : Int} {vk vs : Value} {K S : List El} (h : CD w wl s B b vk vs K S) (hg : wl.grownBy wa vk.ownBlock) : wa.heap[s]? = some (.cells #[.int .i64 b, vk, vs] 28 (0, 0)) :=
  (hg.block s h.slt (fun e => by have := (h.rk.row.lt s e.symm).1; have := h.sB; omega)).trans h.sv
theorem CD.cellsS {w wl wa : World} {s B : Nat} {b : Int} {vk vs : Value} {K S : List El} (h : CD w wl s B b vk vs K S) (hg : wl.grownBy wa vs.ownBlock) : wa.heap[s]? = some (.cells #[.int .i64 b, vk, vs] 28 (0, 0)) :=
  (hg.block s h.slt (fun e => by have := (h.rs.row.lt s e.symm).1; have := h.sB; omega)).trans h.sv
theorem CD.putK {w wl wa : World} {s B : Nat} {b : Int} {vk vs v' : Value} {K S : List El} (h : CD w wl s B b vk vs K S) (x : El) (hx : ElOwn wl B 2 x) (hn : ∀ g, x.o = some g → g ∉ K.filterMap El.o ∧ g ∉ S.filterMap El.o)
    (hown : wa.ownsRow B 32 3 v' (K.length + 1) (K.flatMap El.cells ++ x.cells)) (hg : wl.grownBy wa vk.ownBlock) : CD w (wa.setCell ⟨s, 1, none⟩ v') s B b v' vs (K ++ [x]) S := by
  have hv : ∀ k, vk.ownBlock = some k → B ≤ k := fun k e => (h.rk.row.lt k e).1
  have hlo := h.lo
  have hsB := h.sB
  have hset : wa.grownBy (wa.setCell ⟨s, 1, none⟩ v') (some s) := grownBy_setCell (grownBy_refl _ _)
  refine ⟨grownBy_new (grownBy_row h.grown hg (fun k e => by have := hv k e; omega)) hset (by omega), heap_setCell_same wa s 1 _ _ _ (h.cellsK hg), ?_, ?_, ?_, h.lo, h.sB⟩
  · exact (h.rk.append (by decide) hx (fun g e => (hn g e).1) hown hg).grown hset (fun k e => by simp only [Option.some.injEq] at e; omega)
  · refine (h.rs.kept hg (fun k e e2 => h.rk.two h.rs (by decide) k e2 e) (fun g hgm e => ?_)).grown hset (fun k e => by simp only [Option.some.injEq] at e; omega)
    obtain ⟨y, hy, ho⟩ := List.mem_filterMap.1 hgm
    exact h.rk.ne (by decide) (h.rs.own y hy) g ho e.symm
  · intro g hgm
    rw [List.filterMap_append] at hgm
    rcases List.mem_append.1 hgm with h1 | h1
    · exact h.far g h1
    · obtain ⟨y, hy, ho⟩ := List.mem_filterMap.1 h1
      obtain rfl : y = x := by simpa using hy
      exact (hn g ho).2
theorem CD.putS {w wl wa : World} {s B : Nat} {b : Int} {vk vs v' : Value} {K S : List El} (h : CD w wl s B b vk vs K S) (x : El) (hx : ElOwn wl B 3 x) (hn : ∀ g, x.o = some g → g ∉ K.filterMap El.o ∧ g ∉ S.filterMap El.o)
    (hown : wa.ownsRow B 74 4 v' (S.length + 1) (S.flatMap El.cells ++ x.cells)) (hg : wl.grownBy wa vs.ownBlock) : CD w (wa.setCell ⟨s, 2, none⟩ v') s B b vk v' K (S ++ [x]) := by
  have hv : ∀ k, vs.ownBlock = some k → B ≤ k := fun k e => (h.rs.row.lt k e).1
  have hlo := h.lo
  have hsB := h.sB
  have hset : wa.grownBy (wa.setCell ⟨s, 2, none⟩ v') (some s) := grownBy_setCell (grownBy_refl _ _)
  refine ⟨grownBy_new (grownBy_row h.grown hg (fun k e => by have := hv k e; omega)) hset (by omega), heap_setCell_same wa s 2 _ _ _ (h.cellsS hg), ?_, ?_, ?_, h.lo, h.sB⟩
  · refine (h.rk.kept hg (fun k e e2 => h.rk.two h.rs (by decide) k e e2) (fun g hgm e => ?_)).grown hset (fun k e => by simp only [Option.some.injEq] at e; omega)
    obtain ⟨y, hy, ho⟩ := List.mem_filterMap.1 hgm
    exact h.rs.ne (by decide) (h.rk.own y hy) g ho e.symm
  · exact (h.rs.append (by decide) hx (fun g e => (hn g e).2) hown hg).grown hset (fun k e => by simp only [Option.some.injEq] at e; omega)
  · intro g hgm hgs
    rw [List.filterMap_append] at hgs
    rcases List.mem_append.1 hgs with h1 | h1
    · exact h.far g hgm h1
    · obtain ⟨y, hy, ho⟩ := List.mem_filterMap.1 h1
      obtain rfl : y = x := by simpa using hy
      exact (hn g ho).1 hgm
/-- what lies below the rows is kept -/
theorem CD.restK {w wl wa : World} {s B : Nat} {b : Int} {vk vs v' : Value} {K S : List El} (h : CD w wl s B b vk vs K S) (hg : wl.grownBy wa vk.ownBlock) {k : Nat} (hk : k < B) (hks : k ≠ s) (hkl : k < wl.heap.size) : (wa.setCell ⟨s, 1, none⟩ v').heap[k]? = wl.heap[k]? :=
  (heap_setCell_other _ _ _ _ hks).trans (hg.block k hkl (fun e => by have := (h.rk.row.lt k e.symm).1; omega))
/-- the service that is handed back -/
theorem CD.done {w wl : World} {p : Nat} {b : Int} {vk vs : Value} {K S : List El} (h : CD w wl p (p + 2) b vk vs K S) (a0 a1 a2 : Value) :
    ∃ r : Sv, Value.agg #[.int .i64 b, vk, vs] = r.val ∧ r.b = b ∧ r.K = K ∧ r.S = S ∧ SvAt (((wl.setCell ⟨p + 1, 0, none⟩ a0).setCell ⟨p + 1, 1, none⟩ a1).setCell ⟨p + 1, 2, none⟩ a2) r ∧ (∀ k, SvB r k → w.heap.size ≤ k) ∧ w.grownBy (((wl.setCell ⟨p + 1, 0, none⟩ a0).setCell ⟨p + 1, 1, none⟩ a1).setCell ⟨p + 1, 2, none⟩ a2) none := by
  have hlo := h.lo
  have hG : ∀ (X : World) (j : Nat) (u : Value), X.grownBy (X.setCell ⟨p + 1, j, none⟩ u) (some (p + 1)) := fun X j u => grownBy_setCell (grownBy_refl _ _)
  have hlt : ∀ k, some (p + 1) = some k → k < p + 2 := fun k e => by simp only [Option.some.injEq] at e; omega
  have h1 := ((h.rk.grown (hG _ 0 a0) hlt).grown (hG _ 1 a1) hlt).grown (hG _ 2 a2) hlt
  have h2 := ((h.rs.grown (hG _ 0 a0) hlt).grown (hG _ 1 a1) hlt).grown (hG _ 2 a2) hlt
  obtain ⟨ko, kc, e1, o1, b1, -, -⟩ := h1.elO
  obtain ⟨so, sc, e2, o2, b2, -, -⟩ := h2.elO
  refine ⟨⟨b, ko, kc, K, so, sc, S⟩, by rw [e1, e2]; rfl, rfl, rfl, rfl, ⟨o1, o2, fun x hx y hy j hxj hyj => ?_⟩, fun k hk => ?_, ?_⟩
  · exact h.far j (List.mem_filterMap.2 ⟨x, hx, hxj⟩) (List.mem_filterMap.2 ⟨y, hy, hyj⟩)
  · rcases hk with hk | hk
    · have := b1 k hk; omega
    · have := b2 k hk; omega
  · exact grownBy_setNew (grownBy_setNew (grownBy_setNew h.grown (by show w.heap.size ≤ p + 1; omega)) (by show w.heap.size ≤ p + 1; omega)) (by show w.heap.size ≤ p + 1; omega)
end Go.Proofs.YtdajcpcajdhplaaDoor

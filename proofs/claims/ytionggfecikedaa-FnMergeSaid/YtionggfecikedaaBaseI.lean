/-
  Words for rows of ints: a slice of ints (SlI), a row of the call's own (OwnI). Nothing here reaches the dump.
-/
import Derived.Test.YtionggfecikedaaBase
import Derived.ProofKit
import Derived.OpenShut
namespace Go.Proofs.Ytionggfecikedaa
open Go.ChangeShapes Go.WideShapes Go.ChangeAt Go.RowKit

/-- an int as a value -/
def iv (n : Int) : Value := .int .i64 n
/-- a number that an int can be -/
def i64Ok (n : Int) : Prop := -9223372036854775808 ≤ n ∧ n ≤ 9223372036854775807

/-- A slice of ints that reads as zs, in the world w (its address unknown where it is empty). -/
def SlI (w : World) (oa : Option Addr) (len : Nat) (zs : List Int) : Prop :=
  zs.length = len ∧ (∀ z ∈ zs, i64Ok z) ∧ (len ≠ 0 → ∃ b off, oa = some ⟨b, off, none⟩ ∧ ∀ i, i < len → w.cell? ⟨b, off + i, none⟩ = some (.int .i64 (zs.getD i 0)))

/-- Block g is a row of ints, not frozen, whose first cells are zs. -/
def OwnI (w : World) (e : TypeId) (g : Nat) (zs : List Int) : Prop :=
  (∀ z ∈ zs, i64Ok z) ∧ ∃ cur : Array Value, w.heap[g]? = some (.cells cur e (0, 0)) ∧ ∀ i, i < zs.length → cur[i]? = some (.int .i64 (zs.getD i 0))

theorem getI_mem {zs : List Int} {i : Nat} (h : i < zs.length) : zs.getD i 0 ∈ zs := by simp [List.getD, h]
theorem SlI.ok {w : World} {oa : Option Addr} {len : Nat} {zs : List Int} (h : SlI w oa len zs) {i : Nat} (hi : i < len) : i64Ok (zs.getD i 0) := h.2.1 _ (getI_mem (by rw [h.1]; exact hi))
theorem OwnI.lt {w : World} {e : TypeId} {g : Nat} {zs : List Int} (h : OwnI w e g zs) : g < w.heap.size := by
  obtain ⟨_, cur, hg, _⟩ := h
  exact (Array.getElem?_eq_some_iff.1 hg).1
theorem OwnI.cell {w : World} {e : TypeId} {g : Nat} {zs : List Int} (h : OwnI w e g zs) (i : Nat) (hi : i < zs.length) : w.cell? ⟨g, i, none⟩ = some (.int .i64 (zs.getD i 0)) := by
  obtain ⟨_, cur, hg, hc⟩ := h
  simp only [World.cell?, hg]
  simpa using hc i hi
theorem OwnI.free {w : World} {e : TypeId} {g : Nat} {zs : List Int} (h : OwnI w e g zs) (i : Nat) : w.frozen? ⟨g, i, none⟩ = false := by
  obtain ⟨_, cur, hg, hc⟩ := h
  simp [World.frozen?, hg]
theorem OwnI.of_block {w w' : World} {e : TypeId} {g : Nat} {zs : List Int} (h : OwnI w e g zs) (hb : w'.heap[g]? = w.heap[g]?) : OwnI w' e g zs := by
  obtain ⟨hz, cur, hg, hc⟩ := h
  exact ⟨hz, cur, hb.trans hg, hc⟩
theorem OwnI.grown {w w' : World} {row : Option Nat} {e : TypeId} {g : Nat} {zs : List Int} (h : OwnI w e g zs) (hg : w.grownBy w' row) (hne : some g ≠ row) : OwnI w' e g zs :=
  h.of_block (hg.block g h.lt hne)
theorem OwnI.sl {w : World} {e : TypeId} {g : Nat} {zs : List Int} (h : OwnI w e g zs) (len : Nat) (hl : zs.length = len) : SlI w (some ⟨g, 0, none⟩) len zs :=
  ⟨hl, h.1, fun _ => ⟨g, 0, rfl, fun i hi => by rw [Nat.zero_add]; exact h.cell i (by omega)⟩⟩
theorem OwnI.set {w : World} {e : TypeId} {g : Nat} {zs : List Int} (h : OwnI w e g zs) (i : Nat) (v : Int) (hv : i64Ok v) : OwnI (w.setCell ⟨g, i, none⟩ (.int .i64 v)) e g (zs.set i v) := by
  obtain ⟨hz, cur, hg, hc⟩ := h
  refine ⟨fun z hz' => ?_, cur.setIfInBounds i (.int .i64 v), heap_setCell_same w g i cur e _ hg, fun j hj => ?_⟩
  · rcases List.mem_or_eq_of_mem_set hz' with h1 | h1
    · exact hz z h1
    · rw [h1]; exact hv
  · rw [List.length_set] at hj
    have := hc j hj
    rw [Array.getElem?_setIfInBounds]
    by_cases e1 : i = j
    · subst e1
      have hs : i < cur.size := (Array.getElem?_eq_some_iff.1 this).1
      simp [hs, List.getD, hj]
    · simp [e1, this, List.getD]
theorem SlI.grown {w w' : World} {row : Option Nat} {oa : Option Addr} {len : Nat} {zs : List Int} (h : SlI w oa len zs) (hg : w.grownBy w' row) (hne : ∀ b off, oa = some ⟨b, off, none⟩ → some b ≠ row) : SlI w' oa len zs := by
  obtain ⟨h1, h2, h3⟩ := h
  refine ⟨h1, h2, fun hn => ?_⟩
  obtain ⟨b, off, rfl, hc⟩ := h3 hn
  exact ⟨b, off, rfl, fun i hi => (World.cell?_of_block (w := w) (a := ⟨b, off + i, none⟩) (hg.block b (cell_block_lt (hc i hi)) (hne b off rfl))).trans (hc i hi)⟩
theorem SlI.grown0 {w w' : World} {oa : Option Addr} {len : Nat} {zs : List Int} (h : SlI w oa len zs) (hg : w.grownBy w' none) : SlI w' oa len zs := h.grown hg (by simp)
theorem SlI.heap {w w' : World} {oa : Option Addr} {len : Nat} {zs : List Int} (h : SlI w oa len zs) (hh : w'.heap = w.heap) : SlI w' oa len zs := by
  obtain ⟨h1, h2, h3⟩ := h
  refine ⟨h1, h2, fun hn => ?_⟩
  obtain ⟨b, off, rfl, hc⟩ := h3 hn
  exact ⟨b, off, rfl, fun i hi => (World.cell?_of_block (w := w) (a := ⟨b, off + i, none⟩) (by rw [hh])).trans (hc i hi)⟩
/-- a row that a make has laid -/
theorem ownI_made {w' : World} {base e : Nat} {g n cap : Nat} {zs : List Int} (h : w'.ownsRow base e 1 (.slice (some ⟨g, 0, none⟩) n cap) n (zs.map iv)) (hz : ∀ z ∈ zs, i64Ok z) : OwnI w' e g zs := by
  rcases h.2 with ⟨h', _⟩ | ⟨g', cap', cur, h', _, hg, _, _, _, htake⟩
  · simp at h'
  · simp only [Value.slice.injEq, Option.some.injEq, Addr.mk.injEq, and_true, true_and] at h'
    obtain ⟨rfl, rfl⟩ := h'
    refine ⟨hz, cur, hg, fun i hi => ?_⟩
    have hl : zs.length = n := by simpa using h.1
    have h2 : (cur.toList.take (n * 1))[i]? = (zs.map iv)[i]? := by rw [htake]
    rw [List.getElem?_take, if_pos (by omega)] at h2
    rw [← Array.getElem?_toList, h2]
    simp [List.getD, hi, iv]

/-- a slice of ints that came in, opened once -/
theorem sli_open {H : Type} {enc : TypeId × Value → H} {P : Program} {W : World} {t e : TypeId} {a : Option Addr} {len cap : Nat} {d : DataW H} {p : List MemPlace}
    (hu : P.underlying t = some (.slice e)) (he : P.underlying e = some (.int .i64)) (hc : P.cellsOf e = 1)
    (h : DataW.Trod enc P W 0 (fun _ => true) true t (.slice a len cap) d p) : ∃ zs, SlI W a len zs ∧ len ≤ maxLen := by
  obtain ⟨fuel, hf⟩ := h
  rcases open_ints hu he hc hf with ⟨hcs, _⟩ | ⟨x, l, c, zs, hcs, _, hl, hm, hz, _, hcell, hwz⟩
  · simp [Value.cells] at hcs
    obtain ⟨rfl, rfl, rfl⟩ := hcs
    exact ⟨[], ⟨rfl, by simp, fun h => absurd rfl h⟩, Nat.zero_le _⟩
  · simp [Value.cells] at hcs
    obtain ⟨rfl, rfl, rfl⟩ := hcs
    have hz' : zs.length = cap := by simpa using hz
    refine ⟨zs.take len, ⟨by simp; omega, fun z hz1 => bounds_i64 (hwz z (List.mem_of_mem_take hz1)), fun hn => ?_⟩, by omega⟩
    obtain ⟨b, off, spot⟩ := x
    have h0 := hcell 0 (by omega)
    have hspot : spot = none := by simpa [Addr.add] using World.cell?_spot h0
    subst hspot
    refine ⟨b, off, rfl, fun i hi => ?_⟩
    have hi' := hcell i (by omega)
    have e1 : (zs.take len).getD i 0 = zs.getD i 0 := by simp [List.getD, hi]
    rw [e1]
    have e2 : (⟨b, off, none⟩ : Addr).add i = ⟨b, off + i, none⟩ := by
      by_cases h0' : i = 0 <;> simp [Addr.add, h0']
    rw [← e2]
    exact hi'
end Go.Proofs.Ytionggfecikedaa

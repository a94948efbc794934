/-
  Words for worlds: a row of bytes that came in (SlB), a row of bytes of the call's own (Own), what is kept (World.grownBy). Nothing here reaches the dump.
-/
import Derived.WalkKit
import Derived.WalkSpells
import Derived.WalkLawsBesides
import Derived.Below
namespace Go.Proofs.YtkjjglnbbahbkaaDoor
open Go.RowKit

theorem ret_int {k : IntKind} {a b : Int} (h : a = b) : Ending.returned (.int k a) = .returned (.int k b) := by rw [h]
theorem ret_bool {a b : Bool} (h : a = b) : Ending.returned (.bool a) = .returned (.bool b) := by rw [h]
/-- a byte as a value -/
def bv (n : Nat) : Value := .int .u8 (n : Int)

/-- A slice of bytes that reads as zs, in the world w (its address unknown where it is empty). -/
def SlB (w : World) (oa : Option Addr) (len : Nat) (zs : List Nat) : Prop :=
  zs.length = len ∧ (∀ z ∈ zs, z < 256) ∧ (len ≠ 0 → ∃ b off, oa = some ⟨b, off, none⟩ ∧ ∀ i, i < len → w.cell? ⟨b, off + i, none⟩ = some (.int .u8 ((zs.getD i 0 : Nat) : Int)))

/-- Block g is a row of bytes, not frozen, whose first cells are zs. -/
def Own (w : World) (e : TypeId) (g : Nat) (zs : List Nat) : Prop :=
  (∀ z ∈ zs, z < 256) ∧ ∃ cur : Array Value, w.heap[g]? = some (.cells cur e (0, 0)) ∧ ∀ i, i < zs.length → cur[i]? = some (.int .u8 ((zs.getD i 0 : Nat) : Int))

theorem cell_block_lt {w : World} {a : Addr} {v : Value} (h : w.cell? a = some v) : a.block < w.heap.size := by
  unfold World.cell? at h
  cases hb : w.heap[a.block]? with
  | none => rw [hb] at h; simp at h
  | some o => exact (Array.getElem?_eq_some_iff.1 hb).1

theorem Own.lt {w : World} {e : TypeId} {g : Nat} {zs : List Nat} (h : Own w e g zs) : g < w.heap.size := by
  obtain ⟨_, cur, hg, _⟩ := h
  exact (Array.getElem?_eq_some_iff.1 hg).1
theorem Own.cell {w : World} {e : TypeId} {g : Nat} {zs : List Nat} (h : Own w e g zs) (i : Nat) (hi : i < zs.length) : w.cell? ⟨g, i, none⟩ = some (.int .u8 ((zs.getD i 0 : Nat) : Int)) := by
  obtain ⟨_, cur, hg, hc⟩ := h
  simp only [World.cell?, hg]
  simpa using hc i hi
theorem Own.free {w : World} {e : TypeId} {g : Nat} {zs : List Nat} (h : Own w e g zs) (i : Nat) : w.frozen? ⟨g, i, none⟩ = false := by
  obtain ⟨_, cur, hg, hc⟩ := h
  simp [World.frozen?, hg]
theorem Own.of_block {w w' : World} {e : TypeId} {g : Nat} {zs : List Nat} (h : Own w e g zs) (hb : w'.heap[g]? = w.heap[g]?) : Own w' e g zs := by
  obtain ⟨hz, cur, hg, hc⟩ := h
  exact ⟨hz, cur, hb.trans hg, hc⟩
theorem Own.grown {w w' : World} {row : Option Nat} {e : TypeId} {g : Nat} {zs : List Nat} (h : Own w e g zs) (hg : w.grownBy w' row) (hne : some g ≠ row) : Own w' e g zs :=
  h.of_block (hg.block g h.lt hne)
theorem Own.take {w : World} {e : TypeId} {g : Nat} {zs : List Nat} (h : Own w e g zs) (n : Nat) : Own w e g (zs.take n) := by
  obtain ⟨hz, cur, hg, hc⟩ := h
  refine ⟨fun z hz' => hz z (List.mem_of_mem_take hz'), cur, hg, fun i hi => ?_⟩
  simp only [List.length_take] at hi
  rw [hc i (by omega)]
  simp [List.getD, show i < n by omega]
theorem Own.sl {w : World} {e : TypeId} {g : Nat} {zs : List Nat} (h : Own w e g zs) (len : Nat) (hl : zs.length = len) : SlB w (some ⟨g, 0, none⟩) len zs :=
  ⟨hl, h.1, fun _ => ⟨g, 0, rfl, fun i hi => by rw [Nat.zero_add]; exact h.cell i (by omega)⟩⟩
/-- a cut of an owned row -/
theorem Own.slAt {w : World} {e : TypeId} {g : Nat} {zs : List Nat} (h : Own w e g zs) (off len : Nat) (hl : off + len ≤ zs.length) : SlB w (some ⟨g, off, none⟩) len ((zs.drop off).take len) := by
  refine ⟨by simp; omega, fun z hz => h.1 z (List.mem_of_mem_drop (List.mem_of_mem_take hz)), fun _ => ⟨g, off, rfl, fun i hi => ?_⟩⟩
  rw [h.cell (off + i) (by omega)]
  simp [List.getD, hi]
theorem Own.set {w : World} {e : TypeId} {g : Nat} {zs : List Nat} (h : Own w e g zs) (i v : Nat) (hv : v < 256) : Own (w.setCell ⟨g, i, none⟩ (.int .u8 (v : Int))) e g (zs.set i v) := by
  obtain ⟨hz, cur, hg, hc⟩ := h
  refine ⟨fun z hz' => ?_, cur.setIfInBounds i (.int .u8 (v : Int)), heap_setCell_same w g i cur e _ hg, fun j hj => ?_⟩
  · rcases List.mem_or_eq_of_mem_set hz' with h1 | h1
    · exact hz z h1
    · omega
  · rw [List.length_set] at hj
    have := hc j hj
    rw [Array.getElem?_setIfInBounds]
    by_cases e1 : i = j
    · subst e1
      have hs : i < cur.size := (Array.getElem?_eq_some_iff.1 this).1
      simp [hs, List.getD, hj]
    · simp [e1, this, List.getD]
theorem grownBy_setCell {w0 w : World} {g i : Nat} {u : Value} (h : w0.grownBy w (some g)) : w0.grownBy (w.setCell ⟨g, i, none⟩ u) (some g) :=
  ⟨h.os, h.tape, h.output, by simpa [World.setCell] using h.size, fun k hk hne => (heap_setCell_other w ⟨g, i, none⟩ k u (fun e1 => hne (by simp [e1]))).trans (h.block k hk hne)⟩
theorem grownBy_refl (w : World) (row : Option Nat) : w.grownBy w row := ⟨rfl, rfl, rfl, Nat.le_refl _, fun _ _ _ => rfl⟩
theorem grownBy_weak {w w' : World} {row : Option Nat} (h : w.grownBy w' none) : w.grownBy w' row := ⟨h.os, h.tape, h.output, h.size, fun k hk _ => h.block k hk (by simp)⟩
theorem grownBy_trans {a b c : World} {row : Option Nat} (h : a.grownBy b row) (k : b.grownBy c row) : a.grownBy c row :=
  ⟨k.os.trans h.os, k.tape.trans h.tape, k.output.trans h.output, Nat.le_trans h.size k.size, fun j hj hne => (k.block j (Nat.lt_of_lt_of_le hj h.size) hne).trans (h.block j hj hne)⟩
/-- what is written is new: nothing old has turned -/
theorem grownBy_new {a b c : World} {g : Nat} (h : a.grownBy b none) (k : b.grownBy c (some g)) (hg : a.heap.size ≤ g) : a.grownBy c none :=
  ⟨k.os.trans h.os, k.tape.trans h.tape, k.output.trans h.output, Nat.le_trans h.size k.size, fun j hj hne =>
    (k.block j (Nat.lt_of_lt_of_le hj h.size) (by simp only [ne_eq, Option.some.injEq]; omega)).trans (h.block j hj hne)⟩
theorem grownBy_drew {w w' : World} {row : Option Nat} (h : w.grownBy w' row) : w.grownBy w'.drew row := ⟨h.os, h.tape, h.output, h.size, h.block⟩
theorem grownBy_alloc {w w' : World} {row : Option Nat} (h : w.grownBy w' row) (o : Obj) : w.grownBy (w'.alloc o) row := grownBy_trans h (World.grownBy_alloc w' o row)
theorem below_of_grown {w w' : World} (h : w.grownBy w' none) : Below w.heap.size w w' := ⟨h.os, h.tape, h.output, h.size, fun k hk => h.block k hk (by simp)⟩
theorem SlB.grown {w w' : World} {row : Option Nat} {oa : Option Addr} {len : Nat} {zs : List Nat} (h : SlB w oa len zs) (hg : w.grownBy w' row) (hne : ∀ b off, oa = some ⟨b, off, none⟩ → some b ≠ row) : SlB w' oa len zs := by
  obtain ⟨h1, h2, h3⟩ := h
  refine ⟨h1, h2, fun hn => ?_⟩
  obtain ⟨b, off, rfl, hc⟩ := h3 hn
  exact ⟨b, off, rfl, fun i hi => (World.cell?_of_block (w := w) (a := ⟨b, off + i, none⟩) (hg.block b (cell_block_lt (hc i hi)) (hne b off rfl))).trans (hc i hi)⟩
theorem SlB.grown0 {w w' : World} {oa : Option Addr} {len : Nat} {zs : List Nat} (h : SlB w oa len zs) (hg : w.grownBy w' none) : SlB w' oa len zs := h.grown hg (by simp)
/-- a row that a make has laid -/
theorem own_made {w' : World} {base e : Nat} {g n cap : Nat} {zs : List Nat} (h : w'.ownsRow base e 1 (.slice (some ⟨g, 0, none⟩) n cap) n (zs.map bv)) (hz : ∀ z ∈ zs, z < 256) : Own w' e g zs := by
  rcases h.2 with ⟨h', _⟩ | ⟨g', cap', cur, h', _, hg, _, _, _, htake⟩
  · simp at h'
  · simp only [Value.slice.injEq, Option.some.injEq, Addr.mk.injEq, and_true, true_and] at h'
    obtain ⟨rfl, rfl⟩ := h'
    refine ⟨hz, cur, hg, fun i hi => ?_⟩
    have hl : zs.length = n := by simpa using h.1
    have h2 : (cur.toList.take (n * 1))[i]? = (zs.map bv)[i]? := by rw [htake]
    rw [List.getElem?_take, if_pos (by omega)] at h2
    rw [← Array.getElem?_toList, h2]
    simp [List.getD, hi, bv]
theorem Own.setOther {w : World} {e : TypeId} {g : Nat} {zs : List Nat} (h : Own w e g zs) {a : Addr} {u : Value} (hne : g ≠ a.block) : Own (w.setCell a u) e g zs :=
  h.of_block (heap_setCell_other w a g u hne)
theorem grownBy_setNew {w0 w : World} {a : Addr} {u : Value} (h : w0.grownBy w none) (ha : w0.heap.size ≤ a.block) : w0.grownBy (w.setCell a u) none :=
  ⟨h.os, h.tape, h.output, by simpa [World.setCell] using h.size, fun k hk hne => (heap_setCell_other w a k u (by omega)).trans (h.block k hk hne)⟩
/-- behind a call that turned nothing old: every old cell and mark reads as before (two rules for the walk) -/
theorem bcell {W w1 : World} (hb : W.grownBy w1 none) : (∀ b o, b < W.heap.size → w1.cell? ⟨b, o, none⟩ = W.cell? ⟨b, o, none⟩) ∧ (∀ b o, b < W.heap.size → w1.frozen? ⟨b, o, none⟩ = W.frozen? ⟨b, o, none⟩) :=
  ⟨fun b o h => (below_of_grown hb).cell (p := ⟨b, o, none⟩) h, fun b o h => (below_of_grown hb).frozen (p := ⟨b, o, none⟩) h⟩
end Go.Proofs.YtkjjglnbbahbkaaDoor

/-
  Small laws that every walk over bytes takes: worlds that are the same but for draws, the element type of bytes. No function of the dump is named.
-/
import Derived.Test.YtkjjglnbbahbkaaDoorChecked
import Derived.Test.YtkjjglnbbahbkaaDoorApp
namespace Go.Proofs.YtkjjglnbbahbkaaDoor
open Go.RowKit

theorem Tryd.infoByte : (Tryd.prog.info? 5).map (fun i => (i.zero, i.size, i.bytes)) = some (some (.int .u8 0), 1, 1) := by kernel_rfl

theorem grownBy_below {a w x : World} {B : Nat} (h : a.grownBy w none) (hb : Below B w x) (hB : a.heap.size ≤ B) : a.grownBy x none :=
  ⟨hb.os.trans h.os, hb.tape.trans h.tape, hb.output.trans h.output, Nat.le_trans h.size hb.size, fun k hk hne => (hb.block k (by omega)).trans (h.block k hk hne)⟩
/-- the same world, but for draws -/
def Same (w x : World) : Prop := x.heap = w.heap ∧ x.os = w.os ∧ x.tape = w.tape ∧ x.output = w.output
theorem grownBy_same {a w x : World} {row : Option Nat} (h : a.grownBy w row) (hs : Same w x) : a.grownBy x row :=
  ⟨hs.2.1.trans h.os, hs.2.2.1.trans h.tape, hs.2.2.2.trans h.output, by rw [hs.1]; exact h.size, fun k hk hne => by rw [hs.1]; exact h.block k hk hne⟩
theorem SlB.heap {w w' : World} {oa : Option Addr} {len : Nat} {zs : List Nat} (h : SlB w oa len zs) (hh : w'.heap = w.heap) : SlB w' oa len zs := by
  obtain ⟨h1, h2, h3⟩ := h
  refine ⟨h1, h2, fun hn => ?_⟩
  obtain ⟨b, off, rfl, hc⟩ := h3 hn
  exact ⟨b, off, rfl, fun i hi => (World.cell?_of_block (w := w) (a := ⟨b, off + i, none⟩) (by rw [hh])).trans (hc i hi)⟩
theorem Own.heap {w w' : World} {e : TypeId} {g : Nat} {zs : List Nat} (h : Own w e g zs) (hh : w'.heap = w.heap) : Own w' e g zs := h.of_block (by rw [hh])
theorem grownBy_row {a b c : World} {row : Option Nat} (h : a.grownBy b none) (k : b.grownBy c row) (hr : ∀ g, row = some g → a.heap.size ≤ g) : a.grownBy c none := by
  cases row with
  | none => exact grownBy_trans h k
  | some g => exact grownBy_new h k (hr g rfl)

/-- a slice's length -/
def sliceLen : Value → Nat
  | .slice _ n _ => n
  | _ => 0
theorem keep_far {X w' : World} {gp s o : Nat} {v : Value} (hgr : X.grownBy w' (some gp)) (hs : s < X.heap.size) (hne : s ≠ gp) (h : X.cell? ⟨s, o, none⟩ = some v) : w'.cell? ⟨s, o, none⟩ = some v :=
  (hgr.cell_far ⟨s, o, none⟩ hs (by simpa using hne)).trans h
theorem heap_two (w : World) (A B : Obj) : ((w.alloc A).alloc B).heap[w.heap.size + 1]? = some B := by
  have := heap_alloc_new (w.alloc A) B
  simpa using this
theorem grown_next {a b b' c : World} {g : Nat} (k : b'.grownBy c (some g)) (h : a.grownBy b none) (hs : Same b b') (hg : a.heap.size ≤ g) : a.grownBy c none := grownBy_new (grownBy_same h hs) k hg
theorem ownsRow_le {w : World} {base e size g n cap : Nat} {xs : List Value} (h : w.ownsRow base e size (.slice (some ⟨g, 0, none⟩) n cap) n xs) : n ≤ cap := by
  rcases h.2 with ⟨h', _⟩ | ⟨g', cap', cur, h', _, _, hc, _⟩
  · simp at h'
  · simp only [Value.slice.injEq, Option.some.injEq, Addr.mk.injEq, and_true, true_and] at h'
    obtain ⟨_, rfl⟩ := h'
    exact hc
theorem byteT : ∃ i, ByteT Tryd.prog 26 5 i := by
  obtain ⟨i0, hi, hz0, hz1, hz2⟩ := info_parts Tryd.infoByte
  exact ⟨i0, Tryd.underlying26, hi, hz0, hz1, hz2⟩

end Go.Proofs.YtkjjglnbbahbkaaDoor

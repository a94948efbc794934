/-
  Parts for the model's text of a report.
-/
import Derived.Test.YtkjjglnbbahbkaaDoorTextD
import Derived.Test.YtkjjglnbbahbkaaDoorTreeL
import Derived.Deep.MidRow
namespace Go.Proofs.YtkjjglnbbahbkaaDoor
open Go.RowKit

theorem run_out_bG {B : Nat} {w : World} {v : Value} {zs : List Nat} (ho : Out B w v zs) {oa : Option Addr} {m : Nat} {ys : List Nat} (hs : SlB w oa m ys) (hm : 0 < m) (c : Nat) (ty : TypeId) (hl : zs.length + m ≤ 1099511627776) (hB : B ≤ w.heap.size) :
    ∃ v' w', (Builtin.append_ #[26, 26] ty #[v, .slice oa m c]).run Tryd.prog w = .ok v' w' ∧ Out B w' v' (zs ++ ys) ∧ Ex B w w' ∧ w.grownBy w' v.ownBlock := by
  obtain ⟨i, T⟩ := byteT
  obtain ⟨ad, rfl, hnews⟩ := hs.src hm
  obtain ⟨v', w', hr, h1, h2, -⟩ := run_append_own (P := Tryd.prog) w B 26 ty 5 i (.int .u8 0) 1 1 T.und T.info T.zero T.size T.bytes rfl (by decide) v zs.length (zs.map bv) ho.1 ad m c (ys.map bv) (by simpa using hs.1) hnews (bytes_one ys) (by unfold maxLen; omega) (by omega) hB
  refine ⟨v', w', hr, ⟨?_, fun z hz => ?_⟩, (Ex.refl B w).app ho h2 hB, h2⟩
  · rw [List.length_append, hs.1, List.map_append]; exact h1
  · rcases List.mem_append.1 hz with h | h
    · exact ho.2 z h
    · exact hs.2.1 z h
/-- as a step of a drawn region; and which block was written -/
theorem step_out_bG {w : World} {ops : Array Oper} {o : Oper} {a : Act} {K : Act → World → Prop} {Q : Exit → Act → World → Prop} {E : Prop} (hgd : o.guard = none) (s x : Operand) (ho : o.op = .call { callee := .builtin .append, args := #[s, x], argTypes := #[26, 26] })
    {B : Nat} {v : Value} {zs : List Nat} (hs : a.eval s = v) (hown : Out B w v zs) {oa : Option Addr} {m c : Nat} {ys : List Nat} (hx : a.eval x = .slice oa m c) (hsrc : SlB w oa m ys) (hm : 0 < m) (hl : zs.length + m ≤ 1099511627776) (hB : B ≤ w.heap.size)
    (h : ∀ v' w', Hid (Out B w' v' (zs ++ ys) ∧ Ex B w w' ∧ w.grownBy w' v.ownBlock) → K (a.put o.dst v') w') : if Region.wanted o (yielded ops a.tmps) = true then Oper.wp Tryd.prog o a w K Q else E := by
  have hw : Region.wanted o (yielded ops a.tmps) = true := by simp [Region.wanted, hgd]
  rw [if_pos hw]
  obtain ⟨v', w', hrun, h1, h2, h3⟩ := run_out_bG hown hsrc hm c o.type hl hB
  unfold Oper.wp
  simp [execOp, ho, resolve, invoke, builtin, hs, hx, hrun, Result.andThen]
  exact h v' w' ⟨h1, h2, h3⟩
/-- bytes that are not those that are appended to -/
theorem SlB.app {B : Nat} {X w w' : World} {v : Value} {zs ys : List Nat} {g n : Nat} (h : SlB w (some ⟨g, 0, none⟩) n ys) (hn : 0 < n) (ho : Out B X v zs) (hX : X.heap.size ≤ g) (hg : w.grownBy w' v.ownBlock) : SlB w' (some ⟨g, 0, none⟩) n ys := by
  obtain ⟨h1, h2, h3⟩ := h
  refine ⟨h1, h2, fun hn0 => ?_⟩
  obtain ⟨b, off, ha, hc⟩ := h3 hn0
  simp only [Option.some.injEq, Addr.mk.injEq, and_true] at ha
  obtain ⟨rfl, rfl⟩ := ha
  have hlt : g < w.heap.size := cell_block_lt (hc 0 hn)
  have hb : w'.heap[g]? = w.heap[g]? := hg.block g hlt (fun e => by have := (ho.1.lt g e.symm).2; omega)
  exact ⟨g, 0, rfl, fun i hi => (World.cell?_of_block hb).trans (hc i hi)⟩
theorem blk_setCells {t : TypeId} (g : Nat) : ∀ (vs pre old : List Value) (w : World), old.length = vs.length → w.heap[g]? = some (.cells (pre ++ old).toArray t (0, 0)) → (w.setCells g pre.length vs).heap[g]? = some (.cells (pre ++ vs).toArray t (0, 0))
  | [], pre, old, w, hl, h => by
    obtain rfl : old = [] := List.length_eq_zero_iff.1 hl
    exact h
  | v :: vs, pre, [], w, hl, h => by simp at hl
  | v :: vs, pre, x :: old, w, hl, h => by
    have h1 := set_blk pre.length v h
    have h2 : (pre ++ x :: old).toArray.setIfInBounds pre.length v = ((pre ++ [v]) ++ old).toArray := by
      rw [List.setIfInBounds_toArray]
      simp
    rw [h2] at h1
    have h3 := blk_setCells g vs (pre ++ [v]) old (w.setCell ⟨g, pre.length, none⟩ v) (by simpa using hl) h1
    rw [World.setCells]
    simpa using h3
theorem blk_setCells0 {t : TypeId} {g : Nat} {vs old : List Value} {w : World} (hl : old.length = vs.length) (h : w.heap[g]? = some (.cells old.toArray t (0, 0))) : (w.setCells g 0 vs).heap[g]? = some (.cells vs.toArray t (0, 0)) := by
  have := blk_setCells g vs [] old w hl (by simpa using h)
  simpa using this
theorem lit5 (X : World) (B : Nat) (hB : B ≤ X.heap.size) (fz : Nat × Nat) : Lit B (X.alloc (.cells #[.int .u8 99, .int .u8 111, .int .u8 100, .int .u8 101, .int .u8 32] 5 fz)) (.slice (some ⟨X.heap.size, 0, none⟩) 5 5) [99, 111, 100, 101, 32] :=
  ⟨X.heap.size, fz, rfl, hB, heap_alloc_new X _, by decide⟩
theorem i64s11 {q a b c d e f g h i j : Int} (hq : I64 q) (ha : I64 a) (hb : I64 b) (hc : I64 c) (hd : I64 d) (he : I64 e) (hf : I64 f) (hg : I64 g) (hh : I64 h) (hi : I64 i) (hj : I64 j) : ∀ x ∈ [q, a, b, c, d, e, f, g, h, i, j], I64 x := by
  intro x hx
  rcases List.mem_cons.1 hx with rfl | hx
  · exact hq
  · exact i64s10 ha hb hc hd he hf hg hh hi hj x hx
/-- marks: theirs and ours -/
theorem join58 (zs nm : List Nat) (x : Int) (ns : List Int) : zs ++ (nm ++ [58]) ++ joinB 58 (x :: ns) = zs ++ nm ++ numB 58 (x :: ns) := by
  rw [← joinB_mark]
  simp
end Go.Proofs.YtkjjglnbbahbkaaDoor

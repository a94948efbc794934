/-
  Text that grows: a value that owns bytes, appended to; what else stands; the numeral of a number.
-/
import Derived.Test.YtkjjglnbbahbkaaDoorSmall
import Derived.Test.YtkjjglnbbahbkaaDoorTree
import Derived.Test.YtkjjglnbbahbkaaDoorRegZ
import Derived.Test.YtkjjglnbbahbkaaDoorShelf
import Derived.Lib.AppendStr
import Derived.Lib.SlBytesConst
import Derived.Lib.OwnKind
import Derived.Lib.ItoaLen
import Derived.Lib.AppendIntMem
namespace Go.Proofs.YtkjjglnbbahbkaaDoor
open Go.RowKit

/-- v owns the bytes zs, from block B on -/
def Out (B : Nat) (w : World) (v : Value) (zs : List Nat) : Prop := w.ownsRow B 5 1 v zs.length (zs.map bv) ∧ ∀ z ∈ zs, z < 256
/-- below B all stands; so does each block that is no row of bytes -/
structure Ex (B : Nat) (w w' : World) : Prop where
  below : Below B w w'
  kept : Lib.OthersKept 5 none w w'
theorem Ex.refl (B : Nat) (w : World) : Ex B w w := ⟨Below.refl _ _, Lib.OthersKept.refl _ _ _⟩
theorem Ex.trans {B : Nat} {a b c : World} (h : Ex B a b) (k : Ex B b c) : Ex B a c := ⟨h.below.trans k.below, h.kept.trans k.kept⟩
theorem Ex.same {B : Nat} {a w x : World} (h : Ex B a w) (hs : x.heap = w.heap ∧ x.os = w.os ∧ x.tape = w.tape ∧ x.output = w.output) : Ex B a x :=
  h.trans ⟨⟨hs.2.1, hs.2.2.1, hs.2.2.2, by rw [hs.1]; exact Nat.le_refl _, fun k _ => by rw [hs.1]⟩, fun k o hk _ _ => by rw [hs.1]; exact hk⟩
theorem Ex.grown {B : Nat} {a w w' : World} (h : Ex B a w) (hg : w.grownBy w' none) (hB : B ≤ w.heap.size) : Ex B a w' :=
  ⟨h.below.trans ((below_of_grown hg).mono hB), h.kept.grown hg (by simp)⟩
theorem Ex.alloc {B : Nat} {a w : World} (h : Ex B a w) (hB : B ≤ w.heap.size) (o : Obj) : Ex B a (w.alloc o) := ⟨h.below.alloc hB o, h.kept.alloc o⟩
theorem Ex.app {B : Nat} {a w w' : World} {v : Value} {zs : List Nat} (h : Ex B a w) (ho : Out B w v zs) (hg : w.grownBy w' v.ownBlock) (hB : B ≤ w.heap.size) : Ex B a w' := by
  refine ⟨h.below.trans ⟨hg.os, hg.tape, hg.output, hg.size, fun k hk => hg.block k (by omega) (fun e => ?_)⟩, h.kept.grown hg (fun g e => Lib.ownsRow_kind ho.1 g e)⟩
  rcases ho.1.2 with ⟨rfl, _⟩ | ⟨g, cap, cur, rfl, hb, _⟩
  · simp [Value.ownBlock] at e
  · simp only [Value.ownBlock, Option.some.injEq] at e
    omega
theorem Ex.blk {B : Nat} {a w : World} (h : Ex B a w) {k : Nat} {c : Array Value} {t : TypeId} {fz : Nat × Nat} (hk : a.heap[k]? = some (.cells c t fz)) (ht : t ≠ 5) : w.heap[k]? = some (.cells c t fz) :=
  h.kept k _ hk (by simp) (fun c' fz' e => by injection e with h1 h2 h3; exact ht h2)
theorem Ex.g0 {a w : World} (h : Ex a.heap.size a w) : a.grownBy w none := ⟨h.below.os, h.below.tape, h.below.output, h.below.size, fun k hk _ => h.below.block k hk⟩
theorem Ex.size {B : Nat} {a w : World} (h : Ex B a w) (hB : B ≤ a.heap.size) : B ≤ w.heap.size := Nat.le_trans hB h.below.size
theorem Ex.low {B B' : Nat} {a w : World} (h : Ex B a w) (hB : B' ≤ B) : Ex B' a w := ⟨h.below.mono hB, h.kept⟩
theorem Out.alloc {B : Nat} {w : World} {v : Value} {zs : List Nat} (h : Out B w v zs) (o : Obj) : Out B (w.alloc o) v zs := ⟨h.1.alloc o, h.2⟩
theorem Out.heap {B : Nat} {w x : World} {v : Value} {zs : List Nat} (h : Out B w v zs) (hh : x.heap = w.heap) : Out B x v zs := ⟨ownsRow_heap h.1 hh, h.2⟩
theorem Out.grown {B : Nat} {w w' : World} {v : Value} {zs : List Nat} (h : Out B w v zs) (hg : w.grownBy w' none) : Out B w' v zs := by
  refine ⟨⟨h.1.1, ?_⟩, h.2⟩
  rcases h.1.2 with h2 | ⟨g, cap, cur, h2, h3, h4, h5⟩
  · exact .inl h2
  · exact .inr ⟨g, cap, cur, h2, h3, (hg.block g (Array.getElem?_eq_some_iff.1 h4).1 (by simp)).trans h4, h5⟩
/-- as bytes that are read -/
theorem Out.sl {B : Nat} {w : World} {v : Value} {zs : List Nat} (h : Out B w v zs) (hne : 0 < zs.length) : ∃ g cap, v = .slice (some ⟨g, 0, none⟩) zs.length cap ∧ B ≤ g ∧ Own w 5 g zs := by
  have h1 := h.1
  rcases h1.2 with ⟨_, h2⟩ | ⟨g, cap, cur, h2, h3, _⟩
  · omega
  · subst h2
    exact ⟨g, cap, rfl, h3, own_made h1 h.2⟩
theorem run_out_b {B : Nat} {w : World} {v : Value} {zs : List Nat} (ho : Out B w v zs) {oa : Option Addr} {m : Nat} {ys : List Nat} (hs : SlB w oa m ys) (hm : 0 < m) (c : Nat) (ty : TypeId) (hl : zs.length + m ≤ 1099511627776) (hB : B ≤ w.heap.size) :
    ∃ v' w', (Builtin.append_ #[26, 26] ty #[v, .slice oa m c]).run Tryd.prog w = .ok v' w' ∧ Out B w' v' (zs ++ ys) ∧ Ex B w w' := by
  obtain ⟨i, T⟩ := byteT
  obtain ⟨ad, rfl, hnews⟩ := hs.src hm
  obtain ⟨v', w', hr, h1, h2, -⟩ := run_append_own (P := Tryd.prog) w B 26 ty 5 i (.int .u8 0) 1 1 T.und T.info T.zero T.size T.bytes rfl (by decide) v zs.length (zs.map bv) ho.1 ad m c (ys.map bv) (by simpa using hs.1) hnews (bytes_one ys) (by unfold maxLen; omega) (by omega) hB
  refine ⟨v', w', hr, ⟨?_, fun z hz => ?_⟩, (Ex.refl B w).app ho h2 hB⟩
  · rw [List.length_append, hs.1, List.map_append]; exact h1
  · rcases List.mem_append.1 hz with h | h
    · exact ho.2 z h
    · exact hs.2.1 z h
theorem run_out_s {B : Nat} {w : World} {v : Value} {zs : List Nat} (ho : Out B w v zs) (s : ByteArray) (ys : List Nat) (hy : Lib.strCells s = ys.map bv) (hy2 : ∀ z ∈ ys, z < 256) (ty : TypeId) (hl : zs.length + ys.length ≤ 1099511627776) (hB : B ≤ w.heap.size) :
    ∃ v' w', (Builtin.append_ #[26, 9] ty #[v, .string s]).run Tryd.prog w = .ok v' w' ∧ Out B w' v' (zs ++ ys) ∧ Ex B w w' := by
  obtain ⟨i, T⟩ := byteT
  have hsz : s.size = ys.length := by rw [← Lib.strCells_length, hy, List.length_map]
  obtain ⟨v', w', hr, h1, h2, -⟩ := Lib.run_append_own_string (P := Tryd.prog) w B 26 9 ty 5 i T.und Tryd.underlying9 T.info T.zero T.size T.bytes v zs.length (zs.map bv) ho.1 s (by rw [hsz]; unfold maxLen; omega) (by rw [hsz]; omega) hB
  refine ⟨v', w', hr, ⟨?_, fun z hz => ?_⟩, (Ex.refl B w).app ho h2 hB⟩
  · rw [hsz, hy] at h1
    rw [List.length_append, List.map_append]; exact h1
  · rcases List.mem_append.1 hz with h | h
    · exact ho.2 z h
    · exact hy2 z h
/-- a literal's bytes: full to its brim, so that an append makes a new row -/
def Lit (B : Nat) (w : World) (v : Value) (zs : List Nat) : Prop := ∃ g fz, v = .slice (some ⟨g, 0, none⟩) zs.length zs.length ∧ B ≤ g ∧ w.heap[g]? = some (.cells (zs.map bv).toArray 5 fz) ∧ ∀ z ∈ zs, z < 256
def OutL (B : Nat) (w : World) (v : Value) (zs : List Nat) : Prop := Out B w v zs ∨ Lit B w v zs
theorem OutL.alloc {B : Nat} {w : World} {v : Value} {zs : List Nat} (h : OutL B w v zs) (o : Obj) : OutL B (w.alloc o) v zs := by
  rcases h with h | ⟨g, fz, h1, h2, h3, h4⟩
  · exact .inl (h.alloc o)
  · exact .inr ⟨g, fz, h1, h2, (heap_alloc_old w o (Array.getElem?_eq_some_iff.1 h3).1).trans h3, h4⟩
theorem OutL.grown {B : Nat} {w w' : World} {v : Value} {zs : List Nat} (h : OutL B w v zs) (hg : w.grownBy w' none) : OutL B w' v zs := by
  rcases h with h | ⟨g, fz, h1, h2, h3, h4⟩
  · exact .inl (h.grown hg)
  · exact .inr ⟨g, fz, h1, h2, (hg.block g (Array.getElem?_eq_some_iff.1 h3).1 (by simp)).trans h3, h4⟩
theorem run_outL_b {B : Nat} {w : World} {v : Value} {zs : List Nat} (ho : OutL B w v zs) {oa : Option Addr} {m : Nat} {ys : List Nat} (hs : SlB w oa m ys) (hm : 0 < m) (c : Nat) (ty : TypeId) (hl : zs.length + m ≤ 1099511627776) (hB : B ≤ w.heap.size) :
    ∃ v' w', (Builtin.append_ #[26, 26] ty #[v, .slice oa m c]).run Tryd.prog w = .ok v' w' ∧ Out B w' v' (zs ++ ys) ∧ Ex B w w' := by
  rcases ho with ho | ⟨g, fz, rfl, hg, hb, h256⟩
  · exact run_out_b ho hs hm c ty hl hB
  · obtain ⟨i, T⟩ := byteT
    obtain ⟨ad, rfl, hnews⟩ := hs.src hm
    have hb1 := T.bytes
    have hr := run_append_grow (P := Tryd.prog) w 26 ty 5 i (.int .u8 0) T.und T.info T.zero ⟨g, 0, none⟩ zs.length zs.length (zs.map bv) (by rw [T.size]; simp) (fun j u hj => by
      rw [Addr.add_mid, World.cell?]
      simp only [hb, Nat.zero_add]
      simpa using hj) ad m c (ys.map bv) (by rw [T.size]; simpa using hs.1) hnews (by omega) (by omega) (growslice_fits (by omega) (by rw [hb1]; omega))
    have hll : (zs ++ ys).length = zs.length + m := by rw [List.length_append, hs.1]
    have hge := grownCap_ge w (zs.length + m) zs.length 5
    refine ⟨_, _, hr, ⟨?_, fun z hz => ?_⟩, ?_⟩
    · rw [hll, List.map_append]
      refine ⟨by simp [hs.1], .inr ⟨w.heap.size, _, _, rfl, hB, heap_alloc_new w.drew _, hge, grownCap_le_maxLen w _ _ _ (by unfold maxLen; omega), ?_, ?_⟩⟩
      · simp only [Array.size_append, List.size_toArray, size_zeroCells, List.length_map, hs.1]
        simp [Value.cells]
        omega
      · simp only [Array.toList_append, List.append_assoc]
        rw [← List.append_assoc]
        have h9 : (zs.map bv ++ ys.map bv).length = (zs.length + m) * 1 := by simp [hs.1]
        rw [← h9]
        exact List.take_left
    · rcases List.mem_append.1 hz with h | h
      · exact h256 z h
      · exact hs.2.1 z h
    · exact (((Ex.refl B w).same (x := w.drew) ⟨rfl, rfl, rfl, rfl⟩).alloc hB _)
theorem wpList_outL_b {w : World} {ops : Array Oper} {rest : List Oper} {o : Oper} {a : Act} {Q : Exit → Act → World → Prop} (hgd : o.guard = none) (s x : Operand) (ho : o.op = .call { callee := .builtin .append, args := #[s, x], argTypes := #[26, 26] })
    {B : Nat} {v : Value} {zs : List Nat} (hs : a.eval s = v) (hown : OutL B w v zs) {oa : Option Addr} {m c : Nat} {ys : List Nat} (hx : a.eval x = .slice oa m c) (hsrc : SlB w oa m ys) (hm : 0 < m) (hl : zs.length + m ≤ 1099511627776) (hB : B ≤ w.heap.size)
    (h : ∀ v' w', Hid (Out B w' v' (zs ++ ys) ∧ Ex B w w') → wpList Tryd.prog ops Q rest (a.put o.dst v') w') : wpList Tryd.prog ops Q (o :: rest) a w := by
  refine wpList_plain hgd fun K hK => ?_
  obtain ⟨v', w', hrun, h1, h2⟩ := run_outL_b hown hsrc hm c o.type hl hB
  unfold Oper.wp
  simp [execOp, ho, resolve, invoke, builtin, hs, hx, hrun, Result.andThen]
  exact hK _ _ (h v' w' ⟨h1, h2⟩)
/-- a literal's conversion to its own type -/
theorem conv_lit (w : World) (C : Array Value) (n c : Nat) : (convert 26 26 (.slice (some ⟨w.heap.size, 0, none⟩) n c)).run Tryd.prog (w.alloc (.cells C 5)) = .ok (.slice (some ⟨w.heap.size, 0, none⟩) n c) (w.alloc (.cells C 5 (C.size, C.size + 1))) :=
  Lib.run_convert_bytes_const (P := Tryd.prog) w 26 5 C n c Tryd.underlying26 Tryd.underlying5
/-- the two, as a step of a plain region and as one of a drawn region -/
theorem wpList_out_b {w : World} {ops : Array Oper} {rest : List Oper} {o : Oper} {a : Act} {Q : Exit → Act → World → Prop} (hgd : o.guard = none) (s x : Operand) (ho : o.op = .call { callee := .builtin .append, args := #[s, x], argTypes := #[26, 26] })
    {B : Nat} {v : Value} {zs : List Nat} (hs : a.eval s = v) (hown : Out B w v zs) {oa : Option Addr} {m c : Nat} {ys : List Nat} (hx : a.eval x = .slice oa m c) (hsrc : SlB w oa m ys) (hm : 0 < m) (hl : zs.length + m ≤ 1099511627776) (hB : B ≤ w.heap.size)
    (h : ∀ v' w', Hid (Out B w' v' (zs ++ ys) ∧ Ex B w w') → wpList Tryd.prog ops Q rest (a.put o.dst v') w') : wpList Tryd.prog ops Q (o :: rest) a w := by
  refine wpList_plain hgd fun K hK => ?_
  obtain ⟨v', w', hrun, h1, h2⟩ := run_out_b hown hsrc hm c o.type hl hB
  unfold Oper.wp
  simp [execOp, ho, resolve, invoke, builtin, hs, hx, hrun, Result.andThen]
  exact hK _ _ (h v' w' ⟨h1, h2⟩)
theorem wpList_out_s {w : World} {ops : Array Oper} {rest : List Oper} {o : Oper} {a : Act} {Q : Exit → Act → World → Prop} (hgd : o.guard = none) (s x : Operand) (ho : o.op = .call { callee := .builtin .append, args := #[s, x], argTypes := #[26, 9] })
    {B : Nat} {v : Value} {zs : List Nat} (hs : a.eval s = v) (hown : Out B w v zs) {t : ByteArray} (ys : List Nat) (hx : a.eval x = .string t) (hy : Lib.strCells t = ys.map bv) (hy2 : ∀ z ∈ ys, z < 256) (hl : zs.length + ys.length ≤ 1099511627776) (hB : B ≤ w.heap.size)
    (h : ∀ v' w', Hid (Out B w' v' (zs ++ ys) ∧ Ex B w w') → wpList Tryd.prog ops Q rest (a.put o.dst v') w') : wpList Tryd.prog ops Q (o :: rest) a w := by
  refine wpList_plain hgd fun K hK => ?_
  obtain ⟨v', w', hrun, h1, h2⟩ := run_out_s hown t ys hy hy2 o.type hl hB
  unfold Oper.wp
  simp [execOp, ho, resolve, invoke, builtin, hs, hx, hrun, Result.andThen]
  exact hK _ _ (h v' w' ⟨h1, h2⟩)
theorem step_out_b {w : World} {ops : Array Oper} {o : Oper} {a : Act} {K : Act → World → Prop} {Q : Exit → Act → World → Prop} {E : Prop} (hgd : o.guard = none) (s x : Operand) (ho : o.op = .call { callee := .builtin .append, args := #[s, x], argTypes := #[26, 26] })
    {B : Nat} {v : Value} {zs : List Nat} (hs : a.eval s = v) (hown : Out B w v zs) {oa : Option Addr} {m c : Nat} {ys : List Nat} (hx : a.eval x = .slice oa m c) (hsrc : SlB w oa m ys) (hm : 0 < m) (hl : zs.length + m ≤ 1099511627776) (hB : B ≤ w.heap.size)
    (h : ∀ v' w', Hid (Out B w' v' (zs ++ ys) ∧ Ex B w w') → K (a.put o.dst v') w') : if Region.wanted o (yielded ops a.tmps) = true then Oper.wp Tryd.prog o a w K Q else E := by
  have hw : Region.wanted o (yielded ops a.tmps) = true := by simp [Region.wanted, hgd]
  rw [if_pos hw]
  obtain ⟨v', w', hrun, h1, h2⟩ := run_out_b hown hsrc hm c o.type hl hB
  unfold Oper.wp
  simp [execOp, ho, resolve, invoke, builtin, hs, hx, hrun, Result.andThen]
  exact h v' w' ⟨h1, h2⟩
theorem step_out_s {w : World} {ops : Array Oper} {o : Oper} {a : Act} {K : Act → World → Prop} {Q : Exit → Act → World → Prop} {E : Prop} (hgd : o.guard = none) (s x : Operand) (ho : o.op = .call { callee := .builtin .append, args := #[s, x], argTypes := #[26, 9] })
    {B : Nat} {v : Value} {zs : List Nat} (hs : a.eval s = v) (hown : Out B w v zs) {t : ByteArray} (ys : List Nat) (hx : a.eval x = .string t) (hy : Lib.strCells t = ys.map bv) (hy2 : ∀ z ∈ ys, z < 256) (hl : zs.length + ys.length ≤ 1099511627776) (hB : B ≤ w.heap.size)
    (h : ∀ v' w', Hid (Out B w' v' (zs ++ ys) ∧ Ex B w w') → K (a.put o.dst v') w') : if Region.wanted o (yielded ops a.tmps) = true then Oper.wp Tryd.prog o a w K Q else E := by
  have hw : Region.wanted o (yielded ops a.tmps) = true := by simp [Region.wanted, hgd]
  rw [if_pos hw]
  obtain ⟨v', w', hrun, h1, h2⟩ := run_out_s hown t ys hy hy2 o.type hl hB
  unfold Oper.wp
  simp [execOp, ho, resolve, invoke, builtin, hs, hx, hrun, Result.andThen]
  exact h v' w' ⟨h1, h2⟩
/-- one byte that was just laid -/
theorem one_byte (w : World) (r : Nat) (hr : r < 256) (e : TypeId) (fz : Nat × Nat := (0, 0)) : SlB (w.alloc (.cells #[.int .u8 (r : Int)] e fz)) (some ⟨w.heap.size, 0, none⟩) 1 [r] := by
  refine ⟨rfl, by simpa using hr, fun _ => ⟨w.heap.size, 0, rfl, fun i hi => ?_⟩⟩
  obtain rfl : i = 0 := by omega
  rw [cell_of_row _ _ _ _ _ _ (heap_alloc_new w _)]
  simp
/-- the numeral -/
def decI (i : Int) : List Nat := (Lib.itoa i).map UInt8.toNat
theorem decI_cells (i : Int) : Lib.byteCells (Lib.itoa i) = (decI i).map bv := by simp [Lib.byteCells, decI, bv]
theorem decI_lt (i : Int) : ∀ z ∈ decI i, z < 256 := by
  intro z hz
  obtain ⟨b, -, rfl⟩ := List.mem_map.1 hz
  exact b.toNat_lt
theorem decI_len {i : Int} (h : I64 i) : (decI i).length ≤ 21 := by rw [decI, List.length_map]; exact Lib.itoa_length_le i h.1 h.2
theorem decI_pos (i : Int) : 0 < (decI i).length := by
  have hd : ∀ n, 0 < (Lib.decDigits n).length := fun n => by
    rw [Lib.decDigits]
    split <;> simp
  rw [decI, List.length_map, Lib.itoa]
  split
  · simp
  · exact hd _
def pow10 : String := "internal/strconv.uint64pow10"
theorem appendInt_out {B : Nat} {w : World} {v : Value} {zs : List Nat} (ho : Out B w v zs) (i : Int) (hi : I64 i) (hB : B ≤ w.heap.size) (hl : zs.length ≤ 1099511627776) (htab : Lib.TabBelow Tryd.prog B w pow10 .u64 Lib.pow10Tab) :
    Calls Tryd.prog 24 #[v, .int .i64 i, .int .i64 10] w fun e w' => ∃ v', e = .returned v' ∧ Out B w' v' (zs ++ decI i) ∧ Ex B w w' := by
  refine (Tryd.strconv_AppendInt_10 B zs.length i hi.1 hi.2 v (zs.map bv) w ho.1 hB (by omega) htab).mono ?_
  rintro e w' ⟨v', rfl, h1, h2, h3⟩
  refine ⟨v', rfl, ⟨?_, fun z hz => ?_⟩, h2, h3⟩
  · rw [List.length_append, List.map_append, ← decI_cells, decI, List.length_map]
    exact h1
  · rcases List.mem_append.1 hz with h | h
    · exact ho.2 z h
    · exact decI_lt i z h
theorem tabBelow_low {P : Program} {B B' : Nat} {w : World} {n : String} {k : IntKind} {zs : List Int} (h : Lib.TabBelow P B w n k zs) (hB : B ≤ B') : Lib.TabBelow P B' w n k zs := fun w' hb => h w' (hb.mono hB)
/-- marks and numerals -/
def numB (mark : Nat) (ns : List Int) : List Nat := ns.flatMap (fun n => mark :: decI n)
theorem numB_len {mark : Nat} {ns : List Int} (h : ∀ x ∈ ns, I64 x) : (numB mark ns).length ≤ 22 * ns.length := by
  induction ns with
  | nil => simp [numB]
  | cons x ns ih =>
    have h1 := ih (fun y hy => h y (by simp [hy]))
    have h2 := decI_len (h x (by simp))
    simp only [numB, List.flatMap_cons, List.length_append, List.length_cons] at h1 ⊢
    omega
theorem numB_snoc (mark : Nat) (ns : List Int) (k : Nat) (x : Int) (h : ns[k]? = some x) : numB mark (ns.take (k + 1)) = numB mark (ns.take k) ++ (mark :: decI x) := by
  rw [List.take_add_one, h]
  simp [numB]
set_option maxRecDepth 4000 in
set_option maxHeartbeats 2000000 in
theorem addNumbers_outL {B : Nat} {w : World} {v : Value} {zs : List Nat} (ho : OutL B w v zs) (mark : Nat) (hmk : mark < 256) (s : Nat) (ns : List Int) (hs : w.heap[s]? = some (.cells (ns.map (Value.int .i64)).toArray 3 (0, 0))) (hI : ∀ x ∈ ns, I64 x) (hnl : ns.length ≤ 64) (hn0 : 0 < ns.length) (hB : B ≤ w.heap.size) (hl : zs.length ≤ 4294967296) (htab : Lib.TabBelow Tryd.prog B w pow10 .u64 Lib.pow10Tab) :
    Calls Tryd.prog 18 #[v, .int .u8 (mark : Int), .slice (some ⟨s, 0, none⟩) ns.length ns.length] w fun e w' => ∃ v', e = .returned v' ∧ Out B w' v' (zs ++ numB mark ns) ∧ Ex B w w' := by
  have HO : Hid (OutL B w v zs ∧ w.heap[s]? = some (.cells (ns.map (Value.int .i64)).toArray 3 (0, 0)) ∧ (∀ x ∈ ns, I64 x) ∧ B ≤ w.heap.size ∧ Lib.TabBelow Tryd.prog B w pow10 .u64 Lib.pow10Tab) := ⟨ho, hs, hI, hB, htab⟩
  clear ho hs hI hB htab
  obtain ⟨n, hn⟩ : ∃ n, ns.length = n := ⟨_, rfl⟩
  have HN : Hid (ns.length = n) := hn
  rw [hn] at hnl hn0 ⊢
  clear hn
  go_enter Tryd.func18, Tryd.ntmps18
  go_wp2
  go_loopw [0, 11] (fun v i wr => ∃ k : Nat, k ≤ n ∧ i = .int .i64 (k : Int) ∧ OutL B wr v (zs ++ numB mark (ns.take k)) ∧ (0 < k → Out B wr v (zs ++ numB mark (ns.take k))) ∧ Ex B w wr) (fun _ i _ => n - (intOf i).toNat)
  case atStart => exact ⟨0, Nat.zero_le _, rfl, by simpa [numB] using HO.out.1, fun h => absurd h (by omega), Ex.refl _ _⟩
  case round =>
    obtain ⟨k, hk, rfl, hOr, hOk, hE⟩ := hrel
    have HR : Hid (OutL B wr u0 (zs ++ numB mark (ns.take k)) ∧ Ex B w wr ∧ (0 < k → Out B wr u0 (zs ++ numB mark (ns.take k)))) := ⟨hOr, hE, hOk⟩
    clear hOr hE hOk
    by_cases hlt : k < n
    · obtain ⟨x, hx⟩ : ∃ x, ns[k]? = some x := ⟨_, List.getElem?_eq_getElem (by rw [HN.out]; exact hlt)⟩
      have c0 : wr.cell? ⟨s, k, none⟩ = some (.int .i64 x) := by
        rw [cell_of_row wr s k _ _ _ (HR.out.2.1.blk HO.out.2.1 (by decide))]
        simp [hx]
      have hsz : B ≤ wr.heap.size := HR.out.2.1.size HO.out.2.2.2.1
      have hlen : (zs ++ numB mark (ns.take k)).length ≤ 4294967296 + 22 * 64 := by
        rw [List.length_append]
        have h1 := numB_len (mark := mark) (ns := ns.take k) (fun y hy => HO.out.2.2.1 y (List.mem_of_mem_take hy))
        have h2 : (ns.take k).length ≤ 64 := by rw [List.length_take]; have := HN.out; omega
        omega
      have HX : Hid (ns[k]? = some x ∧ I64 x) := ⟨hx, HO.out.2.2.1 x (List.mem_of_getElem? hx)⟩
      clear hx
      obtain ⟨L, hL⟩ : ∃ L, (zs ++ numB mark (ns.take k)).length = L := ⟨_, rfl⟩
      have HL : Hid ((zs ++ numB mark (ns.take k)).length = L) := hL
      rw [hL] at hlen
      clear hL
      have hkI : (k : Int) < (n : Int) := by omega
      go_wp2_with (at_builtin; refine wpList_outL_b (by rfl) (.tmp 15) (.tmp 17) (by rfl) (B := B) (zs := zs ++ numB mark (ns.take k)) (by rfl) (by exact HR.out.1.alloc _) (oa := some ⟨wr.heap.size, 0, none⟩) (m := 1) (c := 1) (ys := [mark]) (by rfl) (by exact one_byte wr mark hmk _) (by decide) (by rw [HL.out]; omega) (by simp; omega) ?_; intro v1 w1 H1)
      have E1 : Hid (Ex B w w1) := (HR.out.2.1.alloc hsz _).trans H1.out.2
      go_wp2_with fail
      refine (appendInt_out H1.out.1 x HX.out.2 (E1.out.size HO.out.2.2.2.1) (by rw [List.length_append, HL.out]; simp; omega) (HO.out.2.2.2.2.on E1.out.below)).mono ?_
      rintro e w2 ⟨v2, rfl, hO2, hE2⟩
      have H2 : Hid (Out B w2 v2 (zs ++ numB mark (ns.take (k + 1))) ∧ Ex B w w2) := by
        refine ⟨?_, E1.out.trans hE2⟩
        rw [numB_snoc mark ns k x HX.out.1]
        simpa using hO2
      clear hO2 hE2
      go_wp2
      go_roundw
      case rel => exact ⟨k + 1, by omega, by go_num, .inl H2.out.1, fun _ => H2.out.1, H2.out.2⟩
      case measure => simp [intOf]; omega
    · obtain rfl : k = n := by omega
      go_wp2
      go_ret
      refine ⟨_, rfl, ?_, HR.out.2.1⟩
      have h1 := HR.out.2.2 hn0
      rw [← HN.out, List.take_length] at h1
      exact h1
theorem addNumbers_out {B : Nat} {w : World} {v : Value} {zs : List Nat} (ho : Out B w v zs) (mark : Nat) (hmk : mark < 256) (s : Nat) (ns : List Int) (hs : w.heap[s]? = some (.cells (ns.map (Value.int .i64)).toArray 3 (0, 0))) (hI : ∀ x ∈ ns, I64 x) (hnl : ns.length ≤ 64) (hn0 : 0 < ns.length) (hB : B ≤ w.heap.size) (hl : zs.length ≤ 4294967296) (htab : Lib.TabBelow Tryd.prog B w pow10 .u64 Lib.pow10Tab) :
    Calls Tryd.prog 18 #[v, .int .u8 (mark : Int), .slice (some ⟨s, 0, none⟩) ns.length ns.length] w fun e w' => ∃ v', e = .returned v' ∧ Out B w' v' (zs ++ numB mark ns) ∧ Ex B w w' :=
  addNumbers_outL (.inl ho) mark hmk s ns hs hI hnl hn0 hB hl htab
end Go.Proofs.YtkjjglnbbahbkaaDoor

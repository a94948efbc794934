/-
  append of bytes onto a row of the call's own, from whatever source (nil, empty, cut): the run, a step of a drawn region, a step of a plain one. Nothing here reaches the dump.
-/
import Derived.Test.YtkjjglnbbahbkaaDoorBase
import Derived.Deep.AppendLies
import Derived.Deep.RegionHeld3
namespace Go.Proofs.YtkjjglnbbahbkaaDoor
open Go.RowKit

theorem SlB.src {w : World} {oa : Option Addr} {m : Nat} {zs : List Nat} (h : SlB w oa m zs) (hm : 0 < m) : ∃ ad, oa = some ad ∧ ∀ j u, (zs.map bv)[j]? = some u → w.cell? (ad.add j) = some u := by
  obtain ⟨h1, h2, h3⟩ := h
  obtain ⟨b, off, rfl, hc⟩ := h3 (by omega)
  refine ⟨_, rfl, fun j v hj => ?_⟩
  have hjl : j < zs.length := by
    have := (List.getElem?_eq_some_iff.1 hj).1
    simpa using this
  have e1 : (⟨b, off, none⟩ : Addr).add j = ⟨b, off + j, none⟩ := by
    by_cases h0' : j = 0 <;> simp [Addr.add, h0']
  rw [e1, hc j (by omega), ← hj]
  simp [List.getD, hjl, bv]
theorem bytes_one (zs : List Nat) : ∀ v ∈ zs.map bv, v.oneCell' = true := by
  intro v hv; obtain ⟨z, _, rfl⟩ := List.mem_map.1 hv; rfl

/-- the facts on the element type that an append of bytes asks -/
structure ByteT (P : Program) (t e : TypeId) (i : TypeInfo) : Prop where
  und : P.underlying t = some (.slice e)
  info : P.info? e = some i
  zero : i.zero = some (.int .u8 0)
  size : i.size = 1
  bytes : i.bytes = 1

theorem run_append_b {P : Program} {w : World} {t ty e : TypeId} {i : TypeInfo} (T : ByteT P t e i) {base g n cap : Nat} {xs : List Nat} (hown : w.ownsRow base e 1 (.slice (some ⟨g, 0, none⟩) n cap) n (xs.map bv))
    {oa : Option Addr} {m c : Nat} {zs : List Nat} (hsrc : SlB w oa m zs) (hb : n + m ≤ 1099511627776) (hbase : base ≤ w.heap.size) :
    ∃ g' cap' w', (Builtin.append_ #[t, t] ty #[.slice (some ⟨g, 0, none⟩) n cap, .slice oa m c]).run P w = .ok (.slice (some ⟨g', 0, none⟩) (n + m) cap') w' ∧
      w'.ownsRow base e 1 (.slice (some ⟨g', 0, none⟩) (n + m) cap') (n + m) ((xs ++ zs).map bv) ∧ w.grownBy w' (some g) ∧ (g' = g ∨ g' = w.heap.size) ∧ w.heap.size ≤ w'.heap.size := by
  by_cases hm : m = 0
  · subst hm
    obtain rfl : zs = [] := List.eq_nil_of_length_eq_zero hsrc.1
    refine ⟨g, cap, w, ?_, by simpa using hown, grownBy_refl _ _, .inl rfl, Nat.le_refl _⟩
    rcases hown.2 with ⟨h', _⟩ | ⟨g', cap', cur, h', _, hg, hnc, _⟩
    · simp at h'
    · simp only [Value.slice.injEq, Option.some.injEq, Addr.mk.injEq, and_true, true_and] at h'
      obtain ⟨rfl, rfl⟩ := h'
      cases oa with
      | none => simp [Builtin.append_, run_underlying T.und, sizeOf, typeInfo, T.info, Builtin.lenOf, Builtin.firstCells, hnc, storeCells]
      | some a =>
        have hf := run_firstCells_some (P := P) w i.size 0 a 0 c [] (by simp) (by simp)
        simp [Builtin.append_, run_underlying T.und, sizeOf, typeInfo, T.info, Builtin.lenOf, hf, hnc, storeCells]
  · obtain ⟨ad, rfl, hnews⟩ := hsrc.src (by omega)
    obtain ⟨g', cap', w', hr, ho, hg, hat, hlt⟩ := run_append_lies (P := P) w t ty base e i (.int .u8 0) 1 1 T.und T.info T.zero T.size T.bytes rfl (by decide) (.slice (some ⟨g, 0, none⟩) n cap) n (xs.map bv) hown ad m c (zs.map bv) (by simpa using hsrc.1) hnews (bytes_one zs) (by omega) (by unfold maxLen; omega) (by omega) hbase w.heap.size rfl
    refine ⟨g', cap', w', hr, by simpa using ho, hg, ?_, hg.size⟩
    rcases hat with h | h
    · exact .inl (by simpa [Value.ownBlock] using h.symm)
    · exact .inr h

theorem wpList_append_b {P : Program} {w : World} {ops : Array Oper} {rest : List Oper} {o : Oper} {a : Act} {Q : Exit → Act → World → Prop} (hgd : o.guard = none) (s x : Operand) {t e : TypeId} {i : TypeInfo} (T : ByteT P t e i)
    (ho : o.op = .call { callee := .builtin .append, args := #[s, x], argTypes := #[t, t] }) {base g n cap : Nat} {xs : List Nat} (hs : a.eval s = .slice (some ⟨g, 0, none⟩) n cap) (hown : w.ownsRow base e 1 (.slice (some ⟨g, 0, none⟩) n cap) n (xs.map bv))
    {oa : Option Addr} {m c : Nat} {zs : List Nat} (hx : a.eval x = .slice oa m c) (hsrc : SlB w oa m zs) (hb : n + m ≤ 1099511627776) (hbase : base ≤ w.heap.size)
    (h : ∀ g' cap' w', Hid (w'.ownsRow base e 1 (.slice (some ⟨g', 0, none⟩) (n + m) cap') (n + m) ((xs ++ zs).map bv)) → Hid (w.grownBy w' (some g)) → Hid (g' = g ∨ g' = w.heap.size) → w.heap.size ≤ w'.heap.size → wpList P ops Q rest (a.put o.dst (.slice (some ⟨g', 0, none⟩) (n + m) cap')) w') :
    wpList P ops Q (o :: rest) a w := by
  refine wpList_plain hgd fun K hK => ?_
  obtain ⟨g', cap', w', hrun, h1, h2, h3, h4⟩ := run_append_b (ty := o.type) (c := c) T hown hsrc hb hbase
  unfold Oper.wp
  simp [execOp, ho, resolve, invoke, builtin, hs, hx, hrun, Result.andThen]
  exact hK _ _ (h g' cap' w' h1 h2 h3 h4)

theorem step_append_b {P : Program} {w : World} {ops : Array Oper} {o : Oper} {a : Act} {K : Act → World → Prop} {Q : Exit → Act → World → Prop} {E : Prop} (hgd : o.guard = none) (s x : Operand) {t e : TypeId} {i : TypeInfo} (T : ByteT P t e i)
    (ho : o.op = .call { callee := .builtin .append, args := #[s, x], argTypes := #[t, t] }) {base g n cap : Nat} {xs : List Nat} (hs : a.eval s = .slice (some ⟨g, 0, none⟩) n cap) (hown : w.ownsRow base e 1 (.slice (some ⟨g, 0, none⟩) n cap) n (xs.map bv))
    {oa : Option Addr} {m c : Nat} {zs : List Nat} (hx : a.eval x = .slice oa m c) (hsrc : SlB w oa m zs) (hb : n + m ≤ 1099511627776) (hbase : base ≤ w.heap.size)
    (h : ∀ g' cap' w', Hid (w'.ownsRow base e 1 (.slice (some ⟨g', 0, none⟩) (n + m) cap') (n + m) ((xs ++ zs).map bv)) → Hid (w.grownBy w' (some g)) → Hid (g' = g ∨ g' = w.heap.size) → w.heap.size ≤ w'.heap.size → K (a.put o.dst (.slice (some ⟨g', 0, none⟩) (n + m) cap')) w') :
    if Region.wanted o (yielded ops a.tmps) = true then Oper.wp P o a w K Q else E := by
  have hw : Region.wanted o (yielded ops a.tmps) = true := by simp [Region.wanted, hgd]
  rw [if_pos hw]
  obtain ⟨g', cap', w', hrun, h1, h2, h3, h4⟩ := run_append_b (ty := o.type) (c := c) T hown hsrc hb hbase
  unfold Oper.wp
  simp [execOp, ho, resolve, invoke, builtin, hs, hx, hrun, Result.andThen]
  exact h g' cap' w' h1 h2 h3 h4

theorem ownsRow_heap {w w' : World} {base e size n : Nat} {v : Value} {xs : List Value} (h : w.ownsRow base e size v n xs) (hh : w'.heap = w.heap) : w'.ownsRow base e size v n xs := by
  unfold World.ownsRow at h ⊢
  rw [hh]; exact h
theorem ownsRow_base {w : World} {base base' e size n : Nat} {v : Value} {xs : List Value} (h : w.ownsRow base e size v n xs) (hb : base' ≤ base) : w.ownsRow base' e size v n xs := by
  refine ⟨h.1, ?_⟩
  rcases h.2 with h2 | ⟨g, cap, cur, h2, h3, h4⟩
  · exact .inl h2
  · exact .inr ⟨g, cap, cur, h2, Nat.le_trans hb h3, h4⟩
/-- an owned row as a source -/
theorem ownsRow_sl {w : World} {base e g n cap : Nat} {xs : List Nat} (h : w.ownsRow base e 1 (.slice (some ⟨g, 0, none⟩) n cap) n (xs.map bv)) (hz : ∀ z ∈ xs, z < 256) : SlB w (some ⟨g, 0, none⟩) n xs :=
  (own_made h hz).sl n (by simpa using h.1)
/-- a literal of bytes as a source -/
theorem lit_sl {w : World} {b e : Nat} {zs : List Nat} (h : w.heap[b]? = some (.cells (zs.map bv).toArray e (0, 0))) (hz : ∀ z ∈ zs, z < 256) : SlB w (some ⟨b, 0, none⟩) zs.length zs :=
  Own.sl (e := e) ⟨hz, _, h, fun i hi => by simp [hi, List.getD, bv]⟩ _ rfl
/-- make([]byte, n, c) -/
theorem wpList_make_cap {P : Program} {w : World} {ops : Array Oper} {rest : List Oper} {o : Oper} {a : Act} {Q : Exit → Act → World → Prop} (hg : o.guard = none) (l c : Operand) {t e : TypeId} {i : TypeInfo} (T : ByteT P t e i) (hop : o.op = Op.makeSlice t l c)
    {base n cp : Nat} {L C : Int} (hl : a.eval l = .int .i64 L) (hc : a.eval c = .int .i64 C) (hL : L = (n : Int)) (hC : C = (cp : Int)) (hn : n ≤ cp) (hm : cp ≤ 1099511627776) (hb : base ≤ w.heap.size)
    (hK : ∀ w', Hid (w'.ownsRow base e 1 (.slice (some ⟨w.heap.size, 0, none⟩) n cp) n ((List.replicate n 0).map bv)) → Hid (w.grownBy w' none) → wpList P ops Q rest (a.put o.dst (.slice (some ⟨w.heap.size, 0, none⟩) n cp)) w') :
    wpList P ops Q (o :: rest) a w := by
  refine wpList_plain hg fun K hK' => ?_
  subst hL
  subst hC
  have hr := run_make (P := P) w t e i (.int .u8 0) T.und T.info T.zero .i64 .i64 (n : Int) (cp : Int) (by omega) (by omega) (by rw [T.bytes]; omega) (by omega)
  rw [T.size] at hr
  simp only [Int.toNat_natCast, Nat.mul_one] at hr
  have hz : (madeCells (Value.int .u8 0).cells cp) = Array.replicate cp (Value.int .u8 0) := by
    apply Array.toList_inj.1
    simp [Value.cells, toList_madeCells_one]
  unfold Oper.wp
  simp [execOp, hop, hl, hc, hr, Result.andThen]
  refine hK' _ _ (hK _ ?_ (World.grownBy_alloc _ _ _))
  rw [hz]
  refine ⟨by simp, .inr ⟨w.heap.size, cp, Array.replicate cp (Value.int .u8 0), rfl, hb, heap_alloc_new w _, hn, by unfold maxLen; omega, by simp, ?_⟩⟩
  simp [List.take_replicate, Nat.min_eq_left hn, bv]
end Go.Proofs.YtkjjglnbbahbkaaDoor

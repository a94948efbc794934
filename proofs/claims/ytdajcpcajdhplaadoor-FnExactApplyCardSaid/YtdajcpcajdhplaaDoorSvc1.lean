/-
  Base, App, Small, Le4P, CrcMath, TakeN, LeN, StMath, ItemOk, Bytes, Bytes2, MarkS, TakeS, Cut
-/
import Derived.WalkKit
import Derived.WalkSpells
import Derived.WalkLawsBesides
import Derived.Below
import Derived.Deep.AppendLies
import Derived.Deep.RegionHeld3
import Derived.Test.YtdajcpcajdhplaaDoorChecked
import Derived.Laws.OwnMore
/-
  Words for worlds: a row of bytes that came in (SlB), a row of bytes of the call's own (Own), what is kept (World.grownBy). Nothing here reaches the dump.
-/
namespace Go.Proofs.YtdajcpcajdhplaaDoor
open Go.RowKit

theorem ret_int {k : IntKind} {a b : Int} (h : a = b) : Ending.returned (.int k a) = .returned (.int k b) := by rw [h]
theorem ret_bool {a b : Bool} (h : a = b) : Ending.returned (.bool a) = .returned (.bool b) := by rw [h]
/-- a byte as a value -/
def bv (n : Nat) : Value := .int .u8 (n : Int)

/-- A slice of bytes that reads as zs, in the world w (its address unknown where it is empty). -/
def SlB (w : World) (oa : Option Addr) (len : Nat) (zs : List Nat) : Prop :=
  zs.length = len ∧ (∀ z ∈ zs, z < 256) ∧ (len ≠ 0 → ∃ b off, oa = some ⟨b, off, none⟩ ∧ ∀ i, i < len → w.cell? ⟨b, off + i, none⟩ = some (.int .u8 ((zs.getD i 0 : Nat) : Int)))

/-- Block g is a row of bytes, not frozen, whose first cells are zs. -/
def Own (w : World) (e : TypeId) (g : Nat) (zs : List Nat) : Prop :=
  (∀ z ∈ zs, z < 256) ∧ ∃ cur : Array Value, w.heap[g]? = some (.cells cur e (0, 0)) ∧ ∀ i, i < zs.length → cur[i]? = some (.int .u8 ((zs.getD i 0 : Nat) : Int))

theorem cell_block_lt {w : World} {a : Addr} {v : Value} (h : w.cell? a = some v) : a.block < w.heap.size := by
  unfold World.cell? at h
  cases hb : w.heap[a.block]? with
  | none => rw [hb] at h; simp at h
  | some o => exact (Array.getElem?_eq_some_iff.1 hb).1

theorem Own.lt {w : World} {e : TypeId} {g : Nat} {zs : List Nat} (h : Own w e g zs) : g < w.heap.size := by
  obtain ⟨_, cur, hg, _⟩ := h; exact (Array.getElem?_eq_some_iff.1 hg).1
theorem Own.cell {w : World} {e : TypeId} {g : Nat} {zs : List Nat} (h : Own w e g zs) (i : Nat) (hi : i < zs.length) : w.cell? ⟨g, i, none⟩ = some (.int .u8 ((zs.getD i 0 : Nat) : Int)) := by
  obtain ⟨_, cur, hg, hc⟩ := h; simp only [World.cell?, hg]
  simpa using hc i hi
theorem Own.free {w : World} {e : TypeId} {g : Nat} {zs : List Nat} (h : Own w e g zs) (i : Nat) : w.frozen? ⟨g, i, none⟩ = false := by
  obtain ⟨_, cur, hg, hc⟩ := h
  simp [World.frozen?, hg]
theorem Own.of_block {w w' : World} {e : TypeId} {g : Nat} {zs : List Nat} (h : Own w e g zs) (hb : w'.heap[g]? = w.heap[g]?) : Own w' e g zs := by
  obtain ⟨hz, cur, hg, hc⟩ := h; exact ⟨hz, cur, hb.trans hg, hc⟩
theorem Own.grown {w w' : World} {row : Option Nat} {e : TypeId} {g : Nat} {zs : List Nat} (h : Own w e g zs) (hg : w.grownBy w' row) (hne : some g ≠ row) : Own w' e g zs :=
  h.of_block (hg.block g h.lt hne)
theorem Own.take {w : World} {e : TypeId} {g : Nat} {zs : List Nat} (h : Own w e g zs) (n : Nat) : Own w e g (zs.take n) := by
  obtain ⟨hz, cur, hg, hc⟩ := h; refine ⟨fun z hz' => hz z (List.mem_of_mem_take hz'), cur, hg, fun i hi => ?_⟩; simp only [List.length_take] at hi; rw [hc i (by omega)]
  simp [List.getD, show i < n by omega]
theorem Own.sl {w : World} {e : TypeId} {g : Nat} {zs : List Nat} (h : Own w e g zs) (len : Nat) (hl : zs.length = len) : SlB w (some ⟨g, 0, none⟩) len zs :=
  ⟨hl, h.1, fun _ => ⟨g, 0, rfl, fun i hi => by rw [Nat.zero_add]; exact h.cell i (by omega)⟩⟩
/-- a cut of an owned row -/
theorem Own.slAt {w : World} {e : TypeId} {g : Nat} {zs : List Nat} (h : Own w e g zs) (off len : Nat) (hl : off + len ≤ zs.length) : SlB w (some ⟨g, off, none⟩) len ((zs.drop off).take len) := by
  refine ⟨by simp; omega, fun z hz => h.1 z (List.mem_of_mem_drop (List.mem_of_mem_take hz)), fun _ => ⟨g, off, rfl, fun i hi => ?_⟩⟩; rw [h.cell (off + i) (by omega)]
  simp [List.getD, hi]
theorem Own.set {w : World} {e : TypeId} {g : Nat} {zs : List Nat} (h : Own w e g zs) (i v : Nat) (hv : v < 256) : Own (w.setCell ⟨g, i, none⟩ (.int .u8 (v : Int))) e g (zs.set i v) := by
  obtain ⟨hz, cur, hg, hc⟩ := h; refine ⟨fun z hz' => ?_, cur.setIfInBounds i (.int .u8 (v : Int)), heap_setCell_same w g i cur e _ hg, fun j hj => ?_⟩
  · rcases List.mem_or_eq_of_mem_set hz' with h1 | h1
    · exact hz z h1
    · omega
  · rw [List.length_set] at hj; have := hc j hj; rw [Array.getElem?_setIfInBounds]
    by_cases e1 : i = j
    · subst e1; have hs : i < cur.size := (Array.getElem?_eq_some_iff.1 this).1
      simp [hs, List.getD, hj]
    · simp [e1, this, List.getD]
theorem grownBy_setCell {w0 w : World} {g i : Nat} {u : Value} (h : w0.grownBy w (some g)) : w0.grownBy (w.setCell ⟨g, i, none⟩ u) (some g) :=
  ⟨h.os, h.tape, h.output, by simpa [World.setCell] using h.size, fun k hk hne => (heap_setCell_other w ⟨g, i, none⟩ k u (fun e1 => hne (by simp [e1]))).trans (h.block k hk hne)⟩
theorem grownBy_refl (w : World) (row : Option Nat) : w.grownBy w row := ⟨rfl, rfl, rfl, Nat.le_refl _, fun _ _ _ => rfl⟩
theorem grownBy_weak {w w' : World} {row : Option Nat} (h : w.grownBy w' none) : w.grownBy w' row := ⟨h.os, h.tape, h.output, h.size, fun k hk _ => h.block k hk (by simp)⟩
theorem grownBy_trans {a b c : World} {row : Option Nat} (h : a.grownBy b row) (k : b.grownBy c row) : a.grownBy c row :=
  ⟨k.os.trans h.os, k.tape.trans h.tape, k.output.trans h.output, Nat.le_trans h.size k.size, fun j hj hne => (k.block j (Nat.lt_of_lt_of_le hj h.size) hne).trans (h.block j hj hne)⟩
/-- what is written is new: nothing old has turned -/
theorem grownBy_new {a b c : World} {g : Nat} (h : a.grownBy b none) (k : b.grownBy c (some g)) (hg : a.heap.size ≤ g) : a.grownBy c none :=
  ⟨k.os.trans h.os, k.tape.trans h.tape, k.output.trans h.output, Nat.le_trans h.size k.size, fun j hj hne =>
    (k.block j (Nat.lt_of_lt_of_le hj h.size) (by simp only [ne_eq, Option.some.injEq]; omega)).trans (h.block j hj hne)⟩
theorem grownBy_drew {w w' : World} {row : Option Nat} (h : w.grownBy w' row) : w.grownBy w'.drew row := ⟨h.os, h.tape, h.output, h.size, h.block⟩
theorem grownBy_alloc {w w' : World} {row : Option Nat} (h : w.grownBy w' row) (o : Obj) : w.grownBy (w'.alloc o) row := grownBy_trans h (World.grownBy_alloc w' o row)
theorem below_of_grown {w w' : World} (h : w.grownBy w' none) : Below w.heap.size w w' := ⟨h.os, h.tape, h.output, h.size, fun k hk => h.block k hk (by simp)⟩
theorem SlB.grown {w w' : World} {row : Option Nat} {oa : Option Addr} {len : Nat} {zs : List Nat} (h : SlB w oa len zs) (hg : w.grownBy w' row) (hne : ∀ b off, oa = some ⟨b, off, none⟩ → some b ≠ row) : SlB w' oa len zs := by
  obtain ⟨h1, h2, h3⟩ := h; refine ⟨h1, h2, fun hn => ?_⟩; obtain ⟨b, off, rfl, hc⟩ := h3 hn; exact ⟨b, off, rfl, fun i hi => (World.cell?_of_block (w := w) (a := ⟨b, off + i, none⟩) (hg.block b (cell_block_lt (hc i hi)) (hne b off rfl))).trans (hc i hi)⟩
theorem SlB.grown0 {w w' : World} {oa : Option Addr} {len : Nat} {zs : List Nat} (h : SlB w oa len zs) (hg : w.grownBy w' none) : SlB w' oa len zs := h.grown hg (by simp)
/-- a row that a make has laid -/
theorem own_made {w' : World} {base e : Nat} {g n cap : Nat} {zs : List Nat} (h : w'.ownsRow base e 1 (.slice (some ⟨g, 0, none⟩) n cap) n (zs.map bv)) (hz : ∀ z ∈ zs, z < 256) : Own w' e g zs := by
  rcases h.2 with ⟨h', _⟩ | ⟨g', cap', cur, h', _, hg, _, _, _, htake⟩
  · simp at h'
  · simp only [Value.slice.injEq, Option.some.injEq, Addr.mk.injEq, and_true, true_and] at h'; obtain ⟨rfl, rfl⟩ := h'; refine ⟨hz, cur, hg, fun i hi => ?_⟩
    have hl : zs.length = n := by simpa using h.1
    have h2 : (cur.toList.take (n * 1))[i]? = (zs.map bv)[i]? := by rw [htake]
    rw [List.getElem?_take, if_pos (by omega)] at h2; rw [← Array.getElem?_toList, h2]
    simp [List.getD, hi, bv]
theorem Own.setOther {w : World} {e : TypeId} {g : Nat} {zs : List Nat} (h : Own w e g zs) {a : Addr} {u : Value} (hne : g ≠ a.block) : Own (w.setCell a u) e g zs :=
  h.of_block (heap_setCell_other w a g u hne)
theorem grownBy_setNew {w0 w : World} {a : Addr} {u : Value} (h : w0.grownBy w none) (ha : w0.heap.size ≤ a.block) : w0.grownBy (w.setCell a u) none :=
  ⟨h.os, h.tape, h.output, by simpa [World.setCell] using h.size, fun k hk hne => (heap_setCell_other w a k u (by omega)).trans (h.block k hk hne)⟩
/-- behind a call that turned nothing old: every old cell and mark reads as before (two rules for the walk) -/
theorem bcell {W w1 : World} (hb : W.grownBy w1 none) : (∀ b o, b < W.heap.size → w1.cell? ⟨b, o, none⟩ = W.cell? ⟨b, o, none⟩) ∧ (∀ b o, b < W.heap.size → w1.frozen? ⟨b, o, none⟩ = W.frozen? ⟨b, o, none⟩) :=
  ⟨fun b o h => (below_of_grown hb).cell (p := ⟨b, o, none⟩) h, fun b o h => (below_of_grown hb).frozen (p := ⟨b, o, none⟩) h⟩
theorem SlB.src {w : World} {oa : Option Addr} {m : Nat} {zs : List Nat} (h : SlB w oa m zs) (hm : 0 < m) : ∃ ad, oa = some ad ∧ ∀ j u, (zs.map bv)[j]? = some u → w.cell? (ad.add j) = some u := by
  obtain ⟨h1, h2, h3⟩ := h; obtain ⟨b, off, rfl, hc⟩ := h3 (by omega); refine ⟨_, rfl, fun j v hj => ?_⟩
  have hjl : j < zs.length := by
    have := (List.getElem?_eq_some_iff.1 hj).1
    simpa using this
  have e1 : (⟨b, off, none⟩ : Addr).add j = ⟨b, off + j, none⟩ := by
    by_cases h0' : j = 0 <;> simp [Addr.add, h0']
  rw [e1, hc j (by omega), ← hj]
  simp [List.getD, hjl, bv]
theorem bytes_one (zs : List Nat) : ∀ v ∈ zs.map bv, v.oneCell' = true := by
  intro v hv; obtain ⟨z, _, rfl⟩ := List.mem_map.1 hv; rfl

/-- the facts on the element type that an append of bytes asks -/
structure ByteT (P : Program) (t e : TypeId) (i : TypeInfo) : Prop where
  und : P.underlying t = some (.slice e)
  info : P.info? e = some i
  zero : i.zero = some (.int .u8 0)
  size : i.size = 1
  bytes : i.bytes = 1

theorem run_append_b {P : Program} {w : World} {t ty e : TypeId} {i : TypeInfo} (T : ByteT P t e i) {base g n cap : Nat} {xs : List Nat} (hown : w.ownsRow base e 1 (.slice (some ⟨g, 0, none⟩) n cap) n (xs.map bv))
    {oa : Option Addr} {m c : Nat} {zs : List Nat} (hsrc : SlB w oa m zs) (hb : n + m ≤ 1099511627776) (hbase : base ≤ w.heap.size) :
    ∃ g' cap' w', (Builtin.append_ #[t, t] ty #[.slice (some ⟨g, 0, none⟩) n cap, .slice oa m c]).run P w = .ok (.slice (some ⟨g', 0, none⟩) (n + m) cap') w' ∧
      w'.ownsRow base e 1 (.slice (some ⟨g', 0, none⟩) (n + m) cap') (n + m) ((xs ++ zs).map bv) ∧ w.grownBy w' (some g) ∧ (g' = g ∨ g' = w.heap.size) ∧ w.heap.size ≤ w'.heap.size := by
  by_cases hm : m = 0
  · subst hm; obtain rfl : zs = [] := List.eq_nil_of_length_eq_zero hsrc.1; refine ⟨g, cap, w, ?_, by simpa using hown, grownBy_refl _ _, .inl rfl, Nat.le_refl _⟩
    rcases hown.2 with ⟨h', _⟩ | ⟨g', cap', cur, h', _, hg, hnc, _⟩
    · simp at h'
    · simp only [Value.slice.injEq, Option.some.injEq, Addr.mk.injEq, and_true, true_and] at h'; obtain ⟨rfl, rfl⟩ := h'
      cases oa with
      | none => simp [Builtin.append_, run_underlying T.und, sizeOf, typeInfo, T.info, Builtin.lenOf, Builtin.firstCells, hnc, storeCells]
      | some a =>
        have hf := run_firstCells_some (P := P) w i.size 0 a 0 c [] (by simp) (by simp)
        simp [Builtin.append_, run_underlying T.und, sizeOf, typeInfo, T.info, Builtin.lenOf, hf, hnc, storeCells]
  · obtain ⟨ad, rfl, hnews⟩ := hsrc.src (by omega); obtain ⟨g', cap', w', hr, ho, hg, hat, hlt⟩ := run_append_lies (P := P) w t ty base e i (.int .u8 0) 1 1 T.und T.info T.zero T.size T.bytes rfl (by decide) (.slice (some ⟨g, 0, none⟩) n cap) n (xs.map bv) hown ad m c (zs.map bv) (by simpa using hsrc.1) hnews (bytes_one zs) (by omega) (by unfold maxLen; omega) (by omega) hbase w.heap.size rfl; refine ⟨g', cap', w', hr, by simpa using ho, hg, ?_, hg.size⟩
    rcases hat with h | h
    · exact .inl (by simpa [Value.ownBlock] using h.symm)
    · exact .inr h

theorem wpList_append_b {P : Program} {w : World} {ops : Array Oper} {rest : List Oper} {o : Oper} {a : Act} {Q : Exit → Act → World → Prop} (hgd : o.guard = none) (s x : Operand) {t e : TypeId} {i : TypeInfo} (T : ByteT P t e i)
    (ho : o.op = .call { callee := .builtin .append, args := #[s, x], argTypes := #[t, t] }) {base g n cap : Nat} {xs : List Nat} (hs : a.eval s = .slice (some ⟨g, 0, none⟩) n cap) (hown : w.ownsRow base e 1 (.slice (some ⟨g, 0, none⟩) n cap) n (xs.map bv))
    {oa : Option Addr} {m c : Nat} {zs : List Nat} (hx : a.eval x = .slice oa m c) (hsrc : SlB w oa m zs) (hb : n + m ≤ 1099511627776) (hbase : base ≤ w.heap.size)
    (h : ∀ g' cap' w', Hid (w'.ownsRow base e 1 (.slice (some ⟨g', 0, none⟩) (n + m) cap') (n + m) ((xs ++ zs).map bv)) → Hid (w.grownBy w' (some g)) → Hid (g' = g ∨ g' = w.heap.size) → w.heap.size ≤ w'.heap.size → wpList P ops Q rest (a.put o.dst (.slice (some ⟨g', 0, none⟩) (n + m) cap')) w') :
    wpList P ops Q (o :: rest) a w := by
  refine wpList_plain hgd fun K hK => ?_
  obtain ⟨g', cap', w', hrun, h1, h2, h3, h4⟩ := run_append_b (ty := o.type) (c := c) T hown hsrc hb hbase
  unfold Oper.wp
  simp [execOp, ho, resolve, invoke, builtin, hs, hx, hrun, Result.andThen]
  exact hK _ _ (h g' cap' w' h1 h2 h3 h4)

theorem step_append_b {P : Program} {w : World} {ops : Array Oper} {o : Oper} {a : Act} {K : Act → World → Prop} {Q : Exit → Act → World → Prop} {E : Prop} (hgd : o.guard = none) (s x : Operand) {t e : TypeId} {i : TypeInfo} (T : ByteT P t e i)
    (ho : o.op = .call { callee := .builtin .append, args := #[s, x], argTypes := #[t, t] }) {base g n cap : Nat} {xs : List Nat} (hs : a.eval s = .slice (some ⟨g, 0, none⟩) n cap) (hown : w.ownsRow base e 1 (.slice (some ⟨g, 0, none⟩) n cap) n (xs.map bv))
    {oa : Option Addr} {m c : Nat} {zs : List Nat} (hx : a.eval x = .slice oa m c) (hsrc : SlB w oa m zs) (hb : n + m ≤ 1099511627776) (hbase : base ≤ w.heap.size)
    (h : ∀ g' cap' w', Hid (w'.ownsRow base e 1 (.slice (some ⟨g', 0, none⟩) (n + m) cap') (n + m) ((xs ++ zs).map bv)) → Hid (w.grownBy w' (some g)) → Hid (g' = g ∨ g' = w.heap.size) → w.heap.size ≤ w'.heap.size → K (a.put o.dst (.slice (some ⟨g', 0, none⟩) (n + m) cap')) w') :
    if Region.wanted o (yielded ops a.tmps) = true then Oper.wp P o a w K Q else E := by
  have hw : Region.wanted o (yielded ops a.tmps) = true := by simp [Region.wanted, hgd]
  rw [if_pos hw]; obtain ⟨g', cap', w', hrun, h1, h2, h3, h4⟩ := run_append_b (ty := o.type) (c := c) T hown hsrc hb hbase
  unfold Oper.wp
  simp [execOp, ho, resolve, invoke, builtin, hs, hx, hrun, Result.andThen]
  exact h g' cap' w' h1 h2 h3 h4

theorem ownsRow_heap {w w' : World} {base e size n : Nat} {v : Value} {xs : List Value} (h : w.ownsRow base e size v n xs) (hh : w'.heap = w.heap) : w'.ownsRow base e size v n xs := by
  unfold World.ownsRow at h ⊢
  rw [hh]; exact h
theorem ownsRow_base {w : World} {base base' e size n : Nat} {v : Value} {xs : List Value} (h : w.ownsRow base e size v n xs) (hb : base' ≤ base) : w.ownsRow base' e size v n xs := by
  refine ⟨h.1, ?_⟩
  rcases h.2 with h2 | ⟨g, cap, cur, h2, h3, h4⟩
  · exact .inl h2
  · exact .inr ⟨g, cap, cur, h2, Nat.le_trans hb h3, h4⟩
/-- an owned row as a source -/
theorem ownsRow_sl {w : World} {base e g n cap : Nat} {xs : List Nat} (h : w.ownsRow base e 1 (.slice (some ⟨g, 0, none⟩) n cap) n (xs.map bv)) (hz : ∀ z ∈ xs, z < 256) : SlB w (some ⟨g, 0, none⟩) n xs :=
  (own_made h hz).sl n (by simpa using h.1)
/-- a literal of bytes as a source -/
theorem lit_sl {w : World} {b e : Nat} {zs : List Nat} (h : w.heap[b]? = some (.cells (zs.map bv).toArray e (0, 0))) (hz : ∀ z ∈ zs, z < 256) : SlB w (some ⟨b, 0, none⟩) zs.length zs :=
  Own.sl (e := e) ⟨hz, _, h, fun i hi => by simp [hi, List.getD, bv]⟩ _ rfl
/-- make([]byte, n, c) -/
theorem wpList_make_cap {P : Program} {w : World} {ops : Array Oper} {rest : List Oper} {o : Oper} {a : Act} {Q : Exit → Act → World → Prop} (hg : o.guard = none) (l c : Operand) {t e : TypeId} {i : TypeInfo} (T : ByteT P t e i) (hop : o.op = Op.makeSlice t l c)
    {base n cp : Nat} {L C : Int} (hl : a.eval l = .int .i64 L) (hc : a.eval c = .int .i64 C) (hL : L = (n : Int)) (hC : C = (cp : Int)) (hn : n ≤ cp) (hm : cp ≤ 1099511627776) (hb : base ≤ w.heap.size)
    (hK : ∀ w', Hid (w'.ownsRow base e 1 (.slice (some ⟨w.heap.size, 0, none⟩) n cp) n ((List.replicate n 0).map bv)) → Hid (w.grownBy w' none) → wpList P ops Q rest (a.put o.dst (.slice (some ⟨w.heap.size, 0, none⟩) n cp)) w') :
    wpList P ops Q (o :: rest) a w := by
  refine wpList_plain hg fun K hK' => ?_
  subst hL; subst hC; have hr := run_make (P := P) w t e i (.int .u8 0) T.und T.info T.zero .i64 .i64 (n : Int) (cp : Int) (by omega) (by omega) (by rw [T.bytes]; omega) (by omega); rw [T.size] at hr; simp only [Int.toNat_natCast, Nat.mul_one] at hr
  have hz : (madeCells (Value.int .u8 0).cells cp) = Array.replicate cp (Value.int .u8 0) := by
    apply Array.toList_inj.1
    simp [Value.cells, toList_madeCells_one]
  unfold Oper.wp
  simp [execOp, hop, hl, hc, hr, Result.andThen]
  refine hK' _ _ (hK _ ?_ (World.grownBy_alloc _ _ _)); rw [hz]; refine ⟨by simp, .inr ⟨w.heap.size, cp, Array.replicate cp (Value.int .u8 0), rfl, hb, heap_alloc_new w _, hn, by unfold maxLen; omega, by simp, ?_⟩⟩
  simp [List.take_replicate, Nat.min_eq_left hn, bv]
theorem Tryd.infoByte : (Tryd.prog.info? 5).map (fun i => (i.zero, i.size, i.bytes)) = some (some (.int .u8 0), 1, 1) := by kernel_rfl

theorem grownBy_below {a w x : World} {B : Nat} (h : a.grownBy w none) (hb : Below B w x) (hB : a.heap.size ≤ B) : a.grownBy x none :=
  ⟨hb.os.trans h.os, hb.tape.trans h.tape, hb.output.trans h.output, Nat.le_trans h.size hb.size, fun k hk hne => (hb.block k (by omega)).trans (h.block k hk hne)⟩
/-- the same world, but for draws -/
def Same (w x : World) : Prop := x.heap = w.heap ∧ x.os = w.os ∧ x.tape = w.tape ∧ x.output = w.output
theorem grownBy_same {a w x : World} {row : Option Nat} (h : a.grownBy w row) (hs : Same w x) : a.grownBy x row :=
  ⟨hs.2.1.trans h.os, hs.2.2.1.trans h.tape, hs.2.2.2.trans h.output, by rw [hs.1]; exact h.size, fun k hk hne => by rw [hs.1]; exact h.block k hk hne⟩
theorem SlB.heap {w w' : World} {oa : Option Addr} {len : Nat} {zs : List Nat} (h : SlB w oa len zs) (hh : w'.heap = w.heap) : SlB w' oa len zs := by
  obtain ⟨h1, h2, h3⟩ := h; refine ⟨h1, h2, fun hn => ?_⟩; obtain ⟨b, off, rfl, hc⟩ := h3 hn; exact ⟨b, off, rfl, fun i hi => (World.cell?_of_block (w := w) (a := ⟨b, off + i, none⟩) (by rw [hh])).trans (hc i hi)⟩
theorem Own.heap {w w' : World} {e : TypeId} {g : Nat} {zs : List Nat} (h : Own w e g zs) (hh : w'.heap = w.heap) : Own w' e g zs := h.of_block (by rw [hh])
theorem grownBy_row {a b c : World} {row : Option Nat} (h : a.grownBy b none) (k : b.grownBy c row) (hr : ∀ g, row = some g → a.heap.size ≤ g) : a.grownBy c none := by
  cases row with
  | none => exact grownBy_trans h k
  | some g => exact grownBy_new h k (hr g rfl)

/-- a slice's length -/
def sliceLen : Value → Nat
  | .slice _ n _ => n
  | _ => 0
theorem keep_far {X w' : World} {gp s o : Nat} {v : Value} (hgr : X.grownBy w' (some gp)) (hs : s < X.heap.size) (hne : s ≠ gp) (h : X.cell? ⟨s, o, none⟩ = some v) : w'.cell? ⟨s, o, none⟩ = some v :=
  (hgr.cell_far ⟨s, o, none⟩ hs (by simpa using hne)).trans h
theorem heap_two (w : World) (A B : Obj) : ((w.alloc A).alloc B).heap[w.heap.size + 1]? = some B := by
  have := heap_alloc_new (w.alloc A) B
  simpa using this
theorem grown_next {a b b' c : World} {g : Nat} (k : b'.grownBy c (some g)) (h : a.grownBy b none) (hs : Same b b') (hg : a.heap.size ≤ g) : a.grownBy c none := grownBy_new (grownBy_same h hs) k hg
theorem ownsRow_le {w : World} {base e size g n cap : Nat} {xs : List Value} (h : w.ownsRow base e size (.slice (some ⟨g, 0, none⟩) n cap) n xs) : n ≤ cap := by
  rcases h.2 with ⟨h', _⟩ | ⟨g', cap', cur, h', _, _, hc, _⟩
  · simp at h'
  · simp only [Value.slice.injEq, Option.some.injEq, Addr.mk.injEq, and_true, true_and] at h'; obtain ⟨_, rfl⟩ := h'; exact hc
theorem byteT : ∃ i, ByteT Tryd.prog 22 5 i := by
  obtain ⟨i0, hi, hz0, hz1, hz2⟩ := info_parts Tryd.infoByte; exact ⟨i0, Tryd.underlying22, hi, hz0, hz1, hz2⟩
/-- four bytes of a number, the lowest first -/
def le4 (n : Nat) : List Nat := [n % 256, n / 256 % 256, n / 65536 % 256, n / 16777216 % 256]
theorem le4_len (n : Nat) : (le4 n).length = 4 := rfl
theorem le4_lt (n : Nat) : ∀ z ∈ le4 n, z < 256 := by
  intro z hz; simp [le4] at hz; omega
/-- the bytes behind k rounds of putNumber -/
def putN (zs : List Nat) (off n : Nat) : Nat → List Nat
  | 0 => zs
  | k + 1 => (putN zs off n k).set (off + k) ((le4 n).getD k 0)
theorem putN_len (zs : List Nat) (off n k : Nat) : (putN zs off n k).length = zs.length := by
  induction k with
  | zero => rfl
  | succ k ih => simp [putN, ih]
theorem putN_four (a b c : List Nat) (n : Nat) (hb : b.length = 4) : putN (a ++ b ++ c) a.length n 4 = a ++ le4 n ++ c := by
  obtain ⟨x, y, z, t, rfl⟩ : ∃ x y z t, b = [x, y, z, t] := by
    match b, hb with
    | [x, y, z, t], _ => exact ⟨x, y, z, t, rfl⟩
  simp [putN, le4]
theorem putN_lt (zs : List Nat) (off n k : Nat) (h : ∀ z ∈ zs, z < 256) : ∀ z ∈ putN zs off n k, z < 256 := by
  induction k with
  | zero => exact h
  | succ k ih =>
    intro z hz
    rcases List.mem_or_eq_of_mem_set hz with h1 | h1
    · exact ih z h1
    · subst h1
      by_cases hk : k < (le4 n).length
      · exact le4_lt n _ (by simp [List.getD, hk])
      · simp [List.getD, hk]
end Go.Proofs.YtdajcpcajdhplaaDoor
/-
  The sum of chapter 3 as plain mathematics on Nat: bit by bit, by halves of a byte, over a list. No Go in it.
-/
namespace Go.Proofs.YtdajcpcajdhplaaDoor.Crc
def P : Nat := 0x82F63B78
def step (x : Nat) : Nat := (x / 2) ^^^ (if x % 2 = 1 then P else 0)
theorem step_bit (x i : Nat) : (step x).testBit i = (x.testBit (i + 1) ^^ (x.testBit 0 && P.testBit i)) := by
  unfold step
  rw [Nat.testBit_xor, Nat.testBit_succ]; have h0 : x.testBit 0 = decide (x % 2 = 1) := Nat.testBit_zero x
  by_cases h : x % 2 = 1 <;> simp [h, h0]
theorem step_xor (a b : Nat) : step (a ^^^ b) = step a ^^^ step b := by
  apply Nat.eq_of_testBit_eq
  intro i; rw [Nat.testBit_xor, step_bit, step_bit, step_bit, Nat.testBit_xor, Nat.testBit_xor]
  cases a.testBit (i+1) <;> cases b.testBit (i+1) <;> cases a.testBit 0 <;> cases b.testBit 0 <;> cases P.testBit i <;> rfl
theorem step_even (q : Nat) : step (2 * q) = q := by
  unfold step
  rw [if_neg (by omega), Nat.mul_div_cancel_left q (by omega), Nat.xor_zero]
theorem step_lt (x : Nat) (h : x < 4294967296) : step x < 4294967296 := by
  unfold step
  exact Nat.xor_lt_two_pow (n := 32) (by omega) (by split <;> decide)
def step4 (x : Nat) : Nat := step (step (step (step x)))
theorem step4_lt (x : Nat) (h : x < 4294967296) : step4 x < 4294967296 := step_lt _ (step_lt _ (step_lt _ (step_lt _ h)))
theorem step4_xor (a b : Nat) : step4 (a ^^^ b) = step4 a ^^^ step4 b := by
  unfold step4; rw [step_xor, step_xor, step_xor, step_xor]
theorem split16 (x : Nat) : x = (16 * (x / 16)) ^^^ (x % 16) := by
  apply Nat.eq_of_testBit_eq
  intro i
  have e1 : (16 * (x / 16)) = (x / 2 ^ 4) * 2 ^ 4 := by omega
  have e2 : x % 16 = x % 2 ^ 4 := by omega
  rw [Nat.testBit_xor, e1, e2, Nat.testBit_mod_two_pow, Nat.testBit_mul_two_pow, Nat.testBit_div_two_pow]
  by_cases h : i < 4
  · simp [h, show ¬ 4 ≤ i by omega]
  · simp [h, show 4 ≤ i by omega, show i - 4 + 4 = i by omega]
theorem step4_split (x : Nat) : step4 x = (x / 16) ^^^ step4 (x % 16) := by
  have h := split16 x
  have e : step4 (16 * (x / 16)) = x / 16 := by
    have e1 : 16 * (x / 16) = 2 * (2 * (2 * (2 * (x / 16)))) := by omega
    unfold step4
    rw [e1, step_even, step_even, step_even, step_even]
  have e2 : step4 x = step4 (16 * (x/16)) ^^^ step4 (x % 16) := by
    rw [← step4_xor, ← h]
  rw [e2, e]
def T : List Nat := [0, 274646895, 549293790, 820201905, 1098587580, 1361435347, 1640403810, 1905808397, 2197175160, 2460548119, 2722870694, 2987750089, 3280807620, 3553878443, 3811616794, 4084100981]
theorem T_step (r : Nat) (h : r < 16) : T[r]? = some (step4 r) := by
  revert r; decide
/-- one byte -/
def crcB (s c : Nat) : Nat := step4 (step4 (s ^^^ c))
/-- many bytes -/
def crcL (s : Nat) (zs : List Nat) : Nat := zs.foldl crcB s
theorem crcB_lt (s c : Nat) (hs : s < 4294967296) (hc : c < 256) : crcB s c < 4294967296 :=
  step4_lt _ (step4_lt _ (Nat.xor_lt_two_pow (n := 32) hs (by omega)))
theorem crcL_nil (s : Nat) : crcL s [] = s := rfl
theorem crcL_snoc (s : Nat) (zs : List Nat) (c : Nat) : crcL s (zs ++ [c]) = crcB (crcL s zs) c := by
  unfold crcL; rw [List.foldl_append]; rfl
theorem crcL_append (s : Nat) (a b : List Nat) : crcL s (a ++ b) = crcL (crcL s a) b := by
  unfold crcL; rw [List.foldl_append]
theorem crcL_lt (zs : List Nat) (h : ∀ z ∈ zs, z < 256) : ∀ s, s < 4294967296 → crcL s zs < 4294967296 := by
  induction zs with
  | nil => intro s hs; exact hs
  | cons z r ih =>
    intro s hs; exact ih (fun x hx => h x (List.mem_cons_of_mem _ hx)) _ (crcB_lt s z hs (h z List.mem_cons_self))
theorem take_snoc (zs : List Nat) (k : Nat) (h : k < zs.length) : zs.take (k + 1) = zs.take k ++ [zs.getD k 0] := by
  rw [List.take_succ_eq_append_getElem h]
  simp [List.getD, h]
theorem getD_mem (zs : List Nat) (k : Nat) (h : k < zs.length) : zs.getD k 0 ∈ zs := by
  simp [List.getD, h]
theorem lt_take (zs : List Nat) (k : Nat) (h : ∀ z ∈ zs, z < 256) : ∀ z ∈ zs.take k, z < 256 := fun z hz => h z (List.mem_of_mem_take hz)
/-- the whole sum -/
def crc (zs : List Nat) : Nat := 4294967295 - crcL 4294967295 zs
end Go.Proofs.YtdajcpcajdhplaaDoor.Crc
/-
  A number out of bytes: the program's takeNumber, walked.
-/
namespace Go.Proofs.YtdajcpcajdhplaaDoor
open Go.RowKit

/-- the number of bytes, the lowest first -/
def leVal : List Nat → Nat
  | [] => 0
  | z :: zs => z + 256 * leVal zs
theorem leVal_snoc (l : List Nat) (c : Nat) : leVal (l ++ [c]) = leVal l + 256 ^ l.length * c := by
  induction l with
  | nil => simp [leVal]
  | cons z l ih =>
    simp only [List.cons_append, leVal, ih, List.length_cons, Nat.pow_succ]; rw [Nat.mul_add, ← Nat.mul_assoc, Nat.mul_comm 256 (256 ^ l.length)]
    omega
theorem leVal_lt (l : List Nat) (h : ∀ z ∈ l, z < 256) : leVal l < 256 ^ l.length := by
  induction l with
  | nil => simp [leVal]
  | cons z l ih =>
    have := ih (fun z hz => h z (by simp [hz])); have := h z (by simp); simp only [leVal, List.length_cons, Nat.pow_succ]
    omega
theorem le4_val (n : Nat) (h : n < 4294967296) : leVal (le4 n) = n := by simp [leVal, le4]; omega
theorem le4_of_val (l : List Nat) (h : ∀ z ∈ l, z < 256) (h4 : l.length = 4) : le4 (leVal l) = l := by
  match l, h4 with
  | [a, b, c, d], _ =>
    have ha := h a (by simp); have hb := h b (by simp); have hc := h c (by simp); have hd := h d (by simp); simp only [leVal, le4]
    congr 1
    · omega
    congr 1
    · omega
    congr 1
    · omega
    congr 1
    · omega
theorem or_add (x z i : Nat) (h : x < 2 ^ i) : x ||| (z * 2 ^ i) = x + z * 2 ^ i := by
  have := Nat.shiftLeft_add_eq_or_of_lt h z; rw [Nat.shiftLeft_eq] at this; rw [Nat.or_comm, ← this, Nat.add_comm]

set_option maxHeartbeats 1000000 in
theorem takeNumber_any (oa : Option Addr) (len cap : Nat) (zs : List Nat) (w : World) (hsl : SlB w oa len zs) (h4 : 4 ≤ len) (hm : len ≤ 1073741824) :
    Calls Tryd.prog 30 #[.slice oa len cap] w fun e w' => e = .returned (.int .u32 ((leVal (zs.take 4) : Nat) : Int)) ∧ w' = w := by
  obtain ⟨hl, hb, hc⟩ := hsl; obtain ⟨b, off, rfl, hcc⟩ := hc (by omega); have HB : Hid (∀ z ∈ zs, z < 256) := hb; have HC : Hid (∀ i, i < len → _) := hcc; clear hb hcc hc
  go_enter Tryd.func30, Tryd.ntmps30
  go_wp2
  go_loop [3, 5] (fun v i => ∃ k : Nat, k ≤ 4 ∧ i = .int .i64 k ∧ v = .int .u32 ((leVal (zs.take k) : Nat) : Int)) (fun _ i => 4 - (intOf i).toNat)
  case atStart => exact ⟨0, Nat.zero_le _, rfl, rfl⟩
  case round =>
    obtain ⟨k, hk, rfl, rfl⟩ := hrel
    by_cases hlt : k < 4
    · have hck := HC.out k (by omega); obtain ⟨c, hce⟩ : ∃ c, c = zs.getD k 0 := ⟨_, rfl⟩
      have hc256 : c < 256 := by rw [hce]; exact HB.out _ (Crc.getD_mem _ _ (by omega))
      rw [← hce] at hck; obtain ⟨x, hxe⟩ : ∃ x, x = leVal (zs.take k) := ⟨_, rfl⟩
      have hx : x < 256 ^ k := by
        have := leVal_lt (zs.take k) (fun z hz => HB.out z (List.mem_of_mem_take hz)); rw [← hxe] at this
        simpa [show min k zs.length = k by omega] using this
      have HN : Hid (leVal (zs.take (k + 1)) = x + 256 ^ k * c) := by
        show _ = _
        rw [Crc.take_snoc zs k (by omega), leVal_snoc, ← hxe, ← hce]
        simp [show min k zs.length = k by omega]
      rw [← hxe]; clear hce hxe
      rcases (show k = 0 ∨ k = 1 ∨ k = 2 ∨ k = 3 by omega) with rfl | rfl | rfl | rfl
      · have e1 : bits .or .u32 (x : Int) (c : Int) = ((x + 256 ^ 0 * c : Nat) : Int) := by
          have := or_add x c 0 (by simpa using hx); rw [u32_or_nat x c (by omega) (by omega)]
          simp at this ⊢
          rw [this]
          simp
        simp only [Nat.add_zero] at hck
        have e0 : ((c : Int) % 4294967296) = c := by omega
        go_wp2
        go_round
        case rel => exact ⟨1, by omega, by go_num, by rw [HN.out]; first | exact congrArg _ e1 | rfl | (simp; done)⟩
        case measure => simp [intOf]
      · have e1 : bits .or .u32 (x : Int) ((c : Int) * 256) = ((x + 256 ^ 1 * c : Nat) : Int) := by
          have := or_add x c 8 (by simpa using hx); rw [show (c : Int) * 256 = ((c * 256 : Nat) : Int) by omega, u32_or_nat x (c * 256) (by omega) (by omega)]; rw [show c * 256 = c * 2 ^ 8 by rfl, this]; simp; omega
        have e0 : ((c : Int) % 4294967296) = c := by omega
        have e2 : ((c : Int) * 256) % 4294967296 = (c : Int) * 256 := by omega
        go_wp2
        go_round
        case rel => exact ⟨2, by omega, by go_num, by rw [HN.out]; first | exact congrArg _ e1 | rfl | (simp; done)⟩
        case measure => simp [intOf]
      · have e1 : bits .or .u32 (x : Int) ((c : Int) * 65536) = ((x + 256 ^ 2 * c : Nat) : Int) := by
          have := or_add x c 16 (by simpa using hx); rw [show (c : Int) * 65536 = ((c * 65536 : Nat) : Int) by omega, u32_or_nat x (c * 65536) (by omega) (by omega)]; rw [show c * 65536 = c * 2 ^ 16 by rfl, this]; simp; omega
        have e0 : ((c : Int) % 4294967296) = c := by omega
        have e2 : ((c : Int) * 65536) % 4294967296 = (c : Int) * 65536 := by omega
        go_wp2
        go_round
        case rel => exact ⟨3, by omega, by go_num, by rw [HN.out]; first | exact congrArg _ e1 | rfl | (simp; done)⟩
        case measure => simp [intOf]
      · have e1 : bits .or .u32 (x : Int) ((c : Int) * 16777216) = ((x + 256 ^ 3 * c : Nat) : Int) := by
          have := or_add x c 24 (by simpa using hx); rw [show (c : Int) * 16777216 = ((c * 16777216 : Nat) : Int) by omega, u32_or_nat x (c * 16777216) (by omega) (by omega)]; rw [show c * 16777216 = c * 2 ^ 24 by rfl, this]; simp; omega
        have e0 : ((c : Int) % 4294967296) = c := by omega
        have e2 : ((c : Int) * 16777216) % 4294967296 = (c : Int) * 16777216 := by omega
        go_wp2
        go_round
        case rel => exact ⟨4, by omega, by go_num, by rw [HN.out]; first | exact congrArg _ e1 | rfl | (simp; done)⟩
        case measure => simp [intOf]
    · obtain rfl : k = 4 := by omega
      go_wp2; go_ret; exact ⟨rfl, rfl⟩
/-- n bytes of a number, the lowest first -/
def leN : Nat → Nat → List Nat
  | _, 0 => []
  | v, n + 1 => leN v n ++ [v / 256 ^ n % 256]
theorem leN_len (v n : Nat) : (leN v n).length = n := by
  induction n with
  | zero => rfl
  | succ n ih => simp [leN, ih]
theorem leN_four (v : Nat) : leN v 4 = le4 v := by simp [leN, le4]
theorem leN_lt (v n : Nat) : ∀ z ∈ leN v n, z < 256 := by
  induction n with
  | zero => simp [leN]
  | succ n ih =>
    intro z hz
    rcases List.mem_append.1 hz with h | h
    · exact ih z h
    · simp at h; omega
end Go.Proofs.YtdajcpcajdhplaaDoor
/-
  A snapshot's state: the plain mathematics. No Go in it.
-/
namespace Go.Proofs.YtdajcpcajdhplaaDoor

theorem leVal_leN (n v : Nat) (h : v < 256 ^ n) : leVal (leN v n) = v := by
  induction n generalizing v with
  | zero => simp [leN, leVal] at *; omega
  | succ n ih =>
    rw [leN, leVal_snoc, leN_len]; have hp : 0 < 256 ^ n := Nat.pow_pos (by decide)
    have h1 : leN v n = leN (v % 256 ^ n) n := by
      have : ∀ m, m ≤ n → leN v m = leN (v % 256 ^ n) m := by
        intro m
        induction m with
        | zero => intro _; rfl
        | succ m ihm =>
          intro hm; rw [leN, leN, ihm (by omega)]
          have e : v % 256 ^ n / 256 ^ m % 256 = v / 256 ^ m % 256 := by
            obtain ⟨k, hk⟩ : ∃ k, n = m + 1 + k := ⟨n - m - 1, by omega⟩
            have e2 : 256 ^ n = 256 ^ m * (256 * 256 ^ k) := by rw [hk, Nat.pow_add, Nat.pow_succ, Nat.mul_assoc]
            rw [e2, Nat.mod_mul_right_div_self, Nat.mod_mul_right_mod]
          rw [e]
      exact this n (Nat.le_refl _)
    rw [h1, ih _ (Nat.mod_lt _ hp)]; have h2 : v / 256 ^ n % 256 = v / 256 ^ n := Nat.mod_eq_of_lt (by rw [Nat.div_lt_iff_lt_mul hp]; rw [Nat.pow_succ, Nat.mul_comm] at h; exact h); rw [h2]; exact Nat.mod_add_div v (256 ^ n)
theorem leVal_inj (a b : List Nat) (ha : ∀ z ∈ a, z < 256) (hb : ∀ z ∈ b, z < 256) (hl : a.length = b.length) (h : leVal a = leVal b) : a = b := by
  induction a generalizing b with
  | nil => cases b with
    | nil => rfl
    | cons y b => simp at hl
  | cons x a ih =>
    cases b with
    | nil => simp at hl
    | cons y b =>
      simp only [leVal] at h; have h1 := ha x (by simp); have h2 := hb y (by simp)
      have h3 : x = y := by omega
      have h4 : leVal a = leVal b := by omega
      rw [h3, ih b (fun z hz => ha z (by simp [hz])) (fun z hz => hb z (by simp [hz])) (by simpa using hl) h4]
theorem leN_leVal (l : List Nat) (h : ∀ z ∈ l, z < 256) (n : Nat) (hn : l.length = n) : leN (leVal l) n = l := by
  refine leVal_inj _ _ (leN_lt _ _) h (by rw [leN_len, hn]) ?_; rw [leVal_leN]; rw [← hn]; exact leVal_lt l h
def P64 : Nat := 256 ^ 8
theorem num_inj {v v' : Nat} {s s' : List Nat} (hv : v < P64) (hv' : v' < P64) (h : leN v 8 ++ s = leN v' 8 ++ s') : v = v' ∧ s = s' := by
  obtain ⟨h1, h2⟩ := List.append_inj h (by rw [leN_len, leN_len]); exact ⟨by rw [← leVal_leN 8 v hv, ← leVal_leN 8 v' hv', h1], h2⟩

/-- a session as it is told -/
structure Sn where
  c : Nat
  q : Nat
  i : Nat
  d : List Nat
def encS (x : Sn) : List Nat := leN x.c 8 ++ (leN x.q 8 ++ (leN x.i 8 ++ (leN x.d.length 8 ++ x.d)))
def encL (l : List Sn) : List Nat := l.flatMap encS
def encSt (b : Nat) (l : List Sn) : List Nat := leN b 8 ++ (leN l.length 8 ++ encL l)
def smallS (x : Sn) : Prop := x.c < P64 ∧ x.q < P64 ∧ x.i < P64 ∧ x.d.length < P64
def okS (x : Sn) : Prop := 1 ≤ x.c ∧ x.c ≤ 50 ∧ 1 ≤ x.q ∧ x.q ≤ 1000000000 ∧ x.d.length ≤ 64
/-- rising by the client, behind a number -/
def rises : Nat → List Sn → Prop
  | _, [] => True
  | b, x :: l => b < x.c ∧ rises x.c l
def ValidS (b : Nat) (l : List Sn) : Prop := b ≤ 1000000 ∧ (∀ x ∈ l, okS x ∧ x.i < b) ∧ rises 0 l
theorem encS_len (x : Sn) : (encS x).length = 32 + x.d.length := by simp [encS, leN_len]; omega
theorem encL_cons (x : Sn) (l : List Sn) : encL (x :: l) = encS x ++ encL l := by simp [encL]
theorem encL_nil : encL [] = [] := rfl
theorem encL_append (a b : List Sn) : encL (a ++ b) = encL a ++ encL b := by simp [encL]
theorem encL_snoc (a : List Sn) (x : Sn) : encL (a ++ [x]) = encL a ++ encS x := by rw [encL_append, encL_cons, encL_nil, List.append_nil]
theorem okS_small {x : Sn} {b : Nat} (h : okS x ∧ x.i < b) (hb : b ≤ 1000000) : smallS x := by
  obtain ⟨⟨h1, h2, h3, h4, h5⟩, h6⟩ := h
  unfold smallS P64
  refine ⟨?_, ?_, ?_, ?_⟩ <;> omega
theorem encS_inj {x y : Sn} {s t : List Nat} (hx : smallS x) (hy : smallS y) (h : encS x ++ s = encS y ++ t) : x = y ∧ s = t := by
  unfold encS at h
  simp only [List.append_assoc] at h; obtain ⟨h1, h⟩ := num_inj hx.1 hy.1 h; obtain ⟨h2, h⟩ := num_inj hx.2.1 hy.2.1 h; obtain ⟨h3, h⟩ := num_inj hx.2.2.1 hy.2.2.1 h; obtain ⟨h4, h⟩ := num_inj hx.2.2.2 hy.2.2.2 h; obtain ⟨h5, h6⟩ := List.append_inj h h4; refine ⟨?_, h6⟩
  cases x; cases y
  simp only at *; subst h1 h2 h3 h5
  rfl
/-- the first few sessions and what is left -/
theorem encL_pre (l l' : List Sn) (s : List Nat) (hl : ∀ x ∈ l, smallS x) (hl' : ∀ x ∈ l', smallS x) (hn : l.length ≤ l'.length) (h : encL l ++ s = encL l') : l'.take l.length = l ∧ s = encL (l'.drop l.length) := by
  induction l generalizing l' with
  | nil => simpa [encL] using h
  | cons x l ih =>
    cases l' with
    | nil => simp at hn
    | cons y l' =>
      rw [encL_cons, encL_cons, List.append_assoc] at h; obtain ⟨rfl, h2⟩ := encS_inj (hl x (by simp)) (hl' y (by simp)) h; obtain ⟨h3, h4⟩ := ih l' (fun z hz => hl z (by simp [hz])) (fun z hz => hl' z (by simp [hz])) (by simpa using hn) h2
      simp [h3, h4]
theorem ValidS.small {b : Nat} {l : List Sn} (h : ValidS b l) : ∀ x ∈ l, smallS x := fun x hx => okS_small (h.2.1 x hx) h.1
theorem rises_len (l : List Sn) : ∀ b, rises b l → (∀ x ∈ l, x.c ≤ 50) → b ≤ 50 → b + l.length ≤ 50 := by
  induction l with
  | nil => intro b _ _ hb; simpa using hb
  | cons x l ih =>
    intro b h hc hb; obtain ⟨h1, h2⟩ := h; have h3 := ih x.c h2 (fun y hy => hc y (by simp [hy])) (hc x (by simp)); simp only [List.length_cons]
    omega
theorem ValidS.len {b : Nat} {l : List Sn} (h : ValidS b l) : l.length ≤ 50 := by
  have := rises_len l 0 h.2.2 (fun x hx => (h.2.1 x hx).1.2.1) (by decide)
  omega
theorem rises_snoc (l : List Sn) (x : Sn) : ∀ b, rises b (l ++ [x]) ↔ rises b l ∧ (l.getLast?.map Sn.c).getD b < x.c := by
  induction l with
  | nil => intro b; simp [rises]
  | cons y l ih =>
    intro b
    cases l with
    | nil => simp [rises]
    | cons z l =>
      have h1 := ih y.c; obtain ⟨t, ht⟩ : ∃ t, (z :: l).getLast? = some t := ⟨_, List.getLast?_eq_some_getLast (by simp)⟩
      have h2 : (y :: z :: l).getLast? = some t := by rw [List.getLast?_cons_cons]; exact ht
      rw [ht] at h1; rw [h2, List.cons_append]; have e1 : rises b (y :: (z :: l ++ [x])) ↔ b < y.c ∧ rises y.c (z :: l ++ [x]) := Iff.rfl; have e2 : rises b (y :: z :: l) ↔ b < y.c ∧ rises y.c (z :: l) := Iff.rfl; rw [e1, e2, h1]
      simp [and_assoc]
/-- what the whole bytes say, where they are a state, once some of it has been read -/
theorem encSt_read {b b' n : Nat} {l l' : List Sn} {s : List Nat} (hb : b < P64) (hn : n < P64) (hl : ∀ x ∈ l, smallS x) (hle : l.length ≤ n) (hV : ValidS b' l') (h : encSt b' l' = leN b 8 ++ (leN n 8 ++ (encL l ++ s))) :
    b' = b ∧ l'.length = n ∧ l'.take l.length = l ∧ s = encL (l'.drop l.length) := by
  unfold encSt at h
  have h50 := hV.len; obtain ⟨h1, h⟩ := num_inj (by have := hV.1; unfold P64; omega) hb h; obtain ⟨h2, h⟩ := num_inj (by unfold P64; omega) hn h; obtain ⟨h3, h4⟩ := encL_pre l l' s hl hV.small (by omega) h.symm; exact ⟨h1, h2, h3, h4⟩
theorem encSt_inj {b b' : Nat} {l l' : List Sn} (hV : ValidS b l) (hV' : ValidS b' l') (h : encSt b l = encSt b' l') : b = b' ∧ l = l' := by
  have h50 := hV'.len; have h51 := hV.len; obtain ⟨h1, h2, h3, h4⟩ := encSt_read (b := b') (n := l'.length) (l := l') (s := []) (by have := hV'.1; unfold P64; omega) (by unfold P64; omega) hV'.small (Nat.le_refl _) hV (by rw [List.append_nil]; exact h); refine ⟨h1, ?_⟩; rw [← h2, List.take_length] at h3; exact h3
end Go.Proofs.YtdajcpcajdhplaaDoor
/-
  Is it an item? The model's l5Item and the program's (Item).valid, walked.
-/
namespace Go.Proofs.YtdajcpcajdhplaaDoor
open Go.RowKit

abbrev itemOk (cl sq : Int) (len : Nat) : Prop := 1 ≤ cl ∧ cl ≤ 50 ∧ 1 ≤ sq ∧ sq ≤ 1000000000 ∧ len ≤ 64
/-- in which way it isn't one -/
theorem itemNo {cl sq : Int} {len : Nat} (h : ¬ itemOk cl sq len) : cl < 1 ∨ (1 ≤ cl ∧ 50 < cl) ∨ (1 ≤ cl ∧ cl ≤ 50 ∧ sq < 1) ∨ (1 ≤ cl ∧ cl ≤ 50 ∧ 1 ≤ sq ∧ 1000000000 < sq) ∨ (1 ≤ cl ∧ cl ≤ 50 ∧ 1 ≤ sq ∧ sq ≤ 1000000000 ∧ 64 < len) := by
  unfold itemOk at h; omega

set_option maxHeartbeats 400000 in
theorem l5Item_yes (cl sq : Int) (oa : Option Addr) (len cap : Nat) (w : World) (h : itemOk cl sq len) :
    Calls Tryd.prog 69 #[.int .i64 cl, .int .i64 sq, .slice oa len cap] w fun e w' => e = .returned (.bool true) ∧ w' = w := by
  obtain ⟨h1, h2, h3, h4, h5⟩ := h
  go_enter Tryd.func69, Tryd.ntmps69
  go_wp2; go_ret; exact ⟨ret_bool (a := decide ((len : Int) ≤ 64)) (by simp; omega), rfl⟩
set_option maxHeartbeats 1000000 in
theorem l5Item_no (cl sq : Int) (oa : Option Addr) (len cap : Nat) (w : World) (h : ¬ itemOk cl sq len) (hx : len ≤ maxLen) :
    Calls Tryd.prog 69 #[.int .i64 cl, .int .i64 sq, .slice oa len cap] w fun e w' => e = .returned (.bool false) ∧ w' = w := by
  unfold maxLen at hx
  have h := itemNo h
  rcases h with h1 | ⟨h1, h2⟩ | ⟨h1, h2, h3⟩ | ⟨h1, h2, h3, h4⟩ | ⟨h1, h2, h3, h4, h5⟩ <;>
    (go_enter Tryd.func69, Tryd.ntmps69; go_wp2; go_ret; exact ⟨by first | rfl | exact ret_bool (a := decide ((len : Int) ≤ 64)) (by simp; omega), rfl⟩)
theorem l5Item_any (cl sq : Int) (oa : Option Addr) (len cap : Nat) (w : World) (hx : len ≤ maxLen) :
    Calls Tryd.prog 69 #[.int .i64 cl, .int .i64 sq, .slice oa len cap] w fun e w' => e = .returned (.bool (decide (itemOk cl sq len))) ∧ w' = w := by
  by_cases h : itemOk cl sq len
  · rw [decide_eq_true h]; exact l5Item_yes cl sq oa len cap w h
  · rw [decide_eq_false h]; exact l5Item_no cl sq oa len cap w h hx

set_option maxHeartbeats 400000 in
theorem valid_yes (cl sq : Int) (oa : Option Addr) (len cap : Nat) (w : World) (h : itemOk cl sq len) :
    Calls Tryd.prog 28 #[.agg #[.int .i64 cl, .int .i64 sq, .slice oa len cap]] w fun e w' => e = .returned (.bool true) ∧ w.grownBy w' none := by
  obtain ⟨h1, h2, h3, h4, h5⟩ := h
  go_enter Tryd.func28, Tryd.ntmps28
  go_wp2; go_ret; exact ⟨ret_bool (a := decide ((len : Int) ≤ 64)) (by simp; omega), World.grownBy_alloc _ _ _⟩
set_option maxHeartbeats 1000000 in
theorem valid_no (cl sq : Int) (oa : Option Addr) (len cap : Nat) (w : World) (h : ¬ itemOk cl sq len) (hx : len ≤ maxLen) :
    Calls Tryd.prog 28 #[.agg #[.int .i64 cl, .int .i64 sq, .slice oa len cap]] w fun e w' => e = .returned (.bool false) ∧ w.grownBy w' none := by
  unfold maxLen at hx
  have h := itemNo h
  rcases h with h1 | ⟨h1, h2⟩ | ⟨h1, h2, h3⟩ | ⟨h1, h2, h3, h4⟩ | ⟨h1, h2, h3, h4, h5⟩ <;>
    (go_enter Tryd.func28, Tryd.ntmps28; go_wp2; go_ret; exact ⟨by first | rfl | exact ret_bool (a := decide ((len : Int) ≤ 64)) (by simp; omega), World.grownBy_alloc _ _ _⟩)
theorem valid_any (cl sq : Int) (oa : Option Addr) (len cap : Nat) (w : World) (hx : len ≤ maxLen) :
    Calls Tryd.prog 28 #[.agg #[.int .i64 cl, .int .i64 sq, .slice oa len cap]] w fun e w' => e = .returned (.bool (decide (itemOk cl sq len))) ∧ w.grownBy w' none := by
  by_cases h : itemOk cl sq len
  · rw [decide_eq_true h]; exact valid_yes cl sq oa len cap w h
  · rw [decide_eq_false h]; exact valid_no cl sq oa len cap w h hx
/-- the copy's bytes behind k rounds -/
def cop (zs : List Nat) (k : Nat) : List Nat := zs.take k ++ List.replicate (zs.length - k) 0
theorem cop_len (zs : List Nat) (k : Nat) (h : k ≤ zs.length) : (cop zs k).length = zs.length := by simp [cop]; omega
theorem cop_zero (zs : List Nat) : cop zs 0 = List.replicate zs.length 0 := by simp [cop]
theorem cop_all (zs : List Nat) : cop zs zs.length = zs := by simp [cop]
theorem cop_succ (zs : List Nat) (k : Nat) (h : k < zs.length) : (cop zs k).set k (zs.getD k 0) = cop zs (k + 1) := by
  unfold cop
  rw [List.set_append_right _ _ (by simp; omega)]
  have e1 : k - (List.take k zs).length = 0 := by simp; omega
  rw [e1]; obtain ⟨m, hm⟩ : ∃ m, zs.length - k = m + 1 := ⟨zs.length - k - 1, by omega⟩; rw [hm, show zs.length - (k + 1) = m by omega, List.replicate_succ, List.set_cons_zero]; rw [List.take_succ_eq_append_getElem h, List.append_assoc, List.singleton_append]; simp only [List.getD, List.getElem?_eq_getElem h, Option.getD_some]

set_option maxHeartbeats 400000 in
theorem toByteS_any (oa : Option Addr) (len cap : Nat) (zs : List Nat) (w : World) (hsl : SlB w oa len zs) (hm : len ≤ 1073741824) :
    Calls Tryd.prog 20 #[.slice oa len cap] w fun e w' => e = .returned (.slice (some ⟨w.heap.size, 0, none⟩) len len) ∧ Own w' 5 w.heap.size zs ∧ w.grownBy w' none := by
  have HS : Hid (SlB w oa len zs) := hsl; obtain ⟨hl, hb, hc⟩ := hsl; have HB : Hid (∀ z ∈ zs, z < 256) := hb; clear hb; obtain ⟨i0, hi, hz0, hz1, hz2⟩ := info_parts Tryd.infoByte
  go_enter Tryd.func20, Tryd.ntmps20
  go_wp2_with (at_make; refine wpList_make_full _ rfl (.tmp 6) (.tmp 6) 22 rfl w.heap.size 5 i0 (.int .u8 0) 1 Tryd.underlying22 hi hz0 hz1 .i64 .i64 len len len rfl rfl rfl rfl ?cb ?cm (Nat.le_refl _) ?_)
  case cb => rw [hz2]; omega
  case cm => unfold maxLen; omega
  intro w1 hown hgrow
  have hO : Own w1 5 w.heap.size (cop zs 0) := by
    refine own_made (n := len) (cap := len) (base := w.heap.size) ?_ ?_
    · have e : (madeCells #[Value.int .u8 0] len).toList = (cop zs 0).map bv := by
        rw [cop_zero, hl]
        simp [toList_madeCells_one, bv]
      rw [← e]; exact hown
    · intro z hz; rw [cop_zero] at hz; have := List.eq_of_mem_replicate hz; omega
  clear hown; have HO : Hid (Own w1 5 w.heap.size (cop zs 0)) := hO; have HG : Hid (w.grownBy w1 none) := hgrow; clear hO hgrow; go_wp2
  go_loopw [4] (fun i wr => ∃ k : Nat, k ≤ len ∧ i = .int .i64 k ∧ Own wr 5 w.heap.size (cop zs k) ∧ w.grownBy wr none) (fun i _ => len - (intOf i).toNat)
  case atStart => exact ⟨0, Nat.zero_le _, rfl, HO.out, HG.out⟩
  case round =>
    obtain ⟨k, hk, rfl, hO, hG⟩ := hrel
    by_cases hlt : k < len
    · obtain ⟨b, off, rfl, hcc⟩ := hc (by omega)
      have hck : wr.cell? ⟨b, off + k, none⟩ = some (.int .u8 ((zs.getD k 0 : Nat) : Int)) := by
        have h0 := hcc k hlt; exact (World.cell?_of_block (w := w) (a := ⟨b, off + k, none⟩) (hG.block b (cell_block_lt h0) (by simp))).trans h0
      have hfz := hO.free k
      have hz256 : zs.getD k 0 < 256 := by
        have hkz : k < zs.length := by omega
        refine HB.out _ ?_
        simp [List.getD, hkz]
      have hcw := hO.cell k (by rw [cop_len _ _ (by omega)]; omega); have hO2 := hO.set k (zs.getD k 0) hz256; rw [cop_succ zs k (by omega)] at hO2
      have hG2 : w.grownBy (wr.setCell ⟨w.heap.size, k, none⟩ (.int .u8 ((zs.getD k 0 : Nat) : Int))) none :=
        grownBy_new hG (grownBy_setCell (grownBy_refl wr _)) (Nat.le_refl _)
      obtain ⟨c, hce⟩ : ∃ c, c = zs.getD k 0 := ⟨_, rfl⟩; rw [← hce] at hck hO2 hG2 hz256; obtain ⟨c0, hce0⟩ : ∃ c0, c0 = (cop zs k).getD k 0 := ⟨_, rfl⟩; rw [← hce0] at hcw; have R : Hid (_ ∧ _) := ⟨hO2, hG2⟩; clear hcc hc hce hO hG hO2 hG2 hce0; go_wp2; go_roundw
      case rel => exact ⟨k + 1, by omega, by go_num, R.out.1, R.out.2⟩
      case measure => simp [intOf]; omega
    · obtain rfl : k = len := by omega
      have R : Hid (_ ∧ _) := ⟨hO, hG⟩; clear hO hG; go_wp2; go_ret; exact ⟨rfl, by rw [← hl] at R; rw [cop_all] at R; exact R.out.1, R.out.2⟩

set_option maxHeartbeats 800000 in
theorem eqByteS_same (oa ob : Option Addr) (len ca cb : Nat) (zs : List Nat) (w : World) (ha : SlB w oa len zs) (hb : SlB w ob len zs) (hm : len ≤ 1073741824) :
    Calls Tryd.prog 22 #[.slice oa len ca, .slice ob len cb] w fun e w' => e = .returned (.bool true) ∧ w.grownBy w' none := by
  obtain ⟨hl, hz, hc⟩ := ha; obtain ⟨_, _, hd⟩ := hb; clear hz
  go_enter Tryd.func22, Tryd.ntmps22
  go_wp2
  go_loopw [5] (fun i wr => ∃ k : Nat, k ≤ len ∧ i = .int .i64 k ∧ w.grownBy wr none) (fun i _ => len - (intOf i).toNat)
  case atStart => exact ⟨0, Nat.zero_le _, rfl, grownBy_refl _ _⟩
  case round =>
    obtain ⟨k, hk, rfl, hG⟩ := hrel
    by_cases hlt : k < len
    · obtain ⟨b, off, rfl, hcc⟩ := hc (by omega); obtain ⟨b', off', rfl, hdd⟩ := hd (by omega)
      have h1 : wr.cell? ⟨b, off + k, none⟩ = some (.int .u8 ((zs.getD k 0 : Nat) : Int)) := by
        have h0 := hcc k hlt; exact (World.cell?_of_block (w := w) (a := ⟨b, off + k, none⟩) (hG.block b (cell_block_lt h0) (by simp))).trans h0
      have h2 : wr.cell? ⟨b', off' + k, none⟩ = some (.int .u8 ((zs.getD k 0 : Nat) : Int)) := by
        have h0 := hdd k hlt; exact (World.cell?_of_block (w := w) (a := ⟨b', off' + k, none⟩) (hG.block b' (cell_block_lt h0) (by simp))).trans h0
      obtain ⟨c, hce⟩ : ∃ c, c = zs.getD k 0 := ⟨_, rfl⟩; rw [← hce] at h1 h2; have HG : Hid (w.grownBy wr none) := hG; clear hcc hdd hc hd hce hG; go_wp2
      go_region
      all_goals (try go_wp2)
      all_goals go_roundw
      all_goals first | (simp [intOf]; omega) | exact ⟨k + 1, by omega, by go_num, by repeat (first | exact HG.out | apply grownBy_drew)⟩
    · have HG : Hid (w.grownBy wr none) := hG; clear hG; go_wp2; go_ret; exact ⟨rfl, HG.out⟩
/-- the bytes behind k rounds of markByteS -/
def marked (zs : List Nat) (m : Nat) : Nat → List Nat
  | 0 => zs
  | k + 1 => (marked zs m k).set k ((m + k) % 256)
theorem marked_len (zs : List Nat) (m k : Nat) : (marked zs m k).length = zs.length := by
  induction k with
  | zero => rfl
  | succ k ih => simp [marked, ih]
theorem marked_get (zs : List Nat) (m k i : Nat) (hi : i < zs.length) (hk : i < k) : (marked zs m k).getD i 0 = (m + i) % 256 := by
  induction k with
  | zero => omega
  | succ k ih =>
    by_cases e : i = k
    · subst e
      simp [marked, List.getD, marked_len, hi]
    · have := ih (by omega); simp only [marked, List.getD, List.getElem?_set] at this ⊢; rw [if_neg (by omega)]; exact this

set_option maxHeartbeats 400000 in
theorem markByteS_own (g len cap m : Nat) (zs : List Nat) (w : World) (hO : Own w 5 g zs) (hl : zs.length = len) (hm : len ≤ 1073741824) (hm2 : m ≤ 1073741824) :
    Calls Tryd.prog 24 #[.slice (some ⟨g, 0, none⟩) len cap, .int .i64 (m : Int)] w fun e w' => e = .returned (.int .i64 ((m : Int) + len)) ∧ Own w' 5 g (marked zs m len) ∧ w.grownBy w' (some g) := by
  have HO : Hid (Own w 5 g zs) := hO; clear hO
  go_enter Tryd.func24, Tryd.ntmps24
  go_wp2
  go_loopw [1, 5] (fun v i wr => ∃ k : Nat, k ≤ len ∧ i = .int .i64 k ∧ v = .int .i64 ((m : Int) + k) ∧ Own wr 5 g (marked zs m k) ∧ w.grownBy wr (some g)) (fun _ i _ => len - (intOf i).toNat)
  case atStart => exact ⟨0, Nat.zero_le _, rfl, by go_num, HO.out, grownBy_refl _ _⟩
  case round =>
    obtain ⟨k, hk, rfl, rfl, hO, hG⟩ := hrel
    by_cases hlt : k < len
    · have hcw := hO.cell k (by rw [marked_len]; omega); have hfz := hO.free k
      have R : Hid (Own (wr.setCell ⟨g, k, none⟩ (.int .u8 (((m + k) % 256 : Nat) : Int))) 5 g (marked zs m (k + 1)) ∧ w.grownBy (wr.setCell ⟨g, k, none⟩ (.int .u8 (((m + k) % 256 : Nat) : Int))) (some g)) :=
        ⟨hO.set k _ (by omega), grownBy_setCell hG⟩
      obtain ⟨c0, hce0⟩ : ∃ c0, c0 = (marked zs m k).getD k 0 := ⟨_, rfl⟩; rw [← hce0] at hcw
      have e1 : (((m + k) % 256 : Nat) : Int) = ((m : Int) + k) % 256 := by omega
      rw [e1] at R; clear hO hG hce0 e1; go_wp2; go_roundw
      case rel => exact ⟨k + 1, by omega, by go_num, by go_num, R.out.1, R.out.2⟩
      case measure => simp [intOf]; omega
    · obtain rfl : k = len := by omega
      have R : Hid (_ ∧ _) := ⟨hO, hG⟩; clear hO hG; go_wp2; go_ret; exact ⟨rfl, R.out.1, R.out.2⟩

set_option maxHeartbeats 400000 in
theorem heldByteS_own (g len cap m : Nat) (zs : List Nat) (w : World) (hO : Own w 5 g zs) (hl : zs.length = len) (hz : ∀ i, i < len → zs.getD i 0 = (m + i) % 256) (hm : len ≤ 1073741824) (hm2 : m ≤ 1073741824) :
    Calls Tryd.prog 75 #[.slice (some ⟨g, 0, none⟩) len cap, .int .i64 (m : Int)] w fun e w' => e = .returned (.int .i64 ((m : Int) + len)) ∧ w' = w := by
  have HO : Hid (Own w 5 g zs) := hO; have HZ : Hid (∀ i, i < len → zs.getD i 0 = (m + i) % 256) := hz; clear hO hz
  go_enter Tryd.func75, Tryd.ntmps75
  go_wp2
  go_loop [1, 5] (fun v i => ∃ k : Nat, k ≤ len ∧ i = .int .i64 k ∧ v = .int .i64 ((m : Int) + k)) (fun _ i => len - (intOf i).toNat)
  case atStart => exact ⟨0, Nat.zero_le _, rfl, by go_num⟩
  case round =>
    obtain ⟨k, hk, rfl, rfl⟩ := hrel
    by_cases hlt : k < len
    · have hcw := HO.out.cell k (by omega); rw [HZ.out k hlt] at hcw
      have e1 : (((m + k) % 256 : Nat) : Int) = ((m : Int) + k) % 256 := by omega
      rw [e1] at hcw; clear e1; go_wp2
      go_round
      case rel => exact ⟨k + 1, by omega, by go_num, by go_num⟩
      case measure => simp [intOf]; omega
    · obtain rfl : k = len := by omega
      go_wp2; go_ret; exact ⟨rfl, rfl⟩

set_option maxHeartbeats 400000 in
theorem szByteS_ok (oa : Option Addr) (len cap L : Nat) (w : World) (h : len ≤ L) (hL : L ≤ 1073741824) :
    Calls Tryd.prog 85 #[.slice oa len cap, .int .i64 (L : Int)] w fun e w' => e = .returned (.int .i64 ((L : Int) - len)) ∧ w' = w := by
  go_enter Tryd.func85, Tryd.ntmps85
  go_wp2; go_ret; exact ⟨rfl, rfl⟩
set_option maxHeartbeats 400000 in
theorem szByteS_big (oa : Option Addr) (len cap L : Nat) (w : World) (h : L < len) (hL : L ≤ 1073741824) (hx : len ≤ maxLen) :
    Calls Tryd.prog 85 #[.slice oa len cap, .int .i64 (L : Int)] w fun e w' => e = .returned (.int .i64 (-1)) ∧ w' = w := by
  unfold maxLen at hx
  go_enter Tryd.func85, Tryd.ntmps85
  go_wp2; go_ret; exact ⟨rfl, rfl⟩
def OwnS (w : World) (e : TypeId) (og : Option Addr) (n : Nat) (zs : List Nat) : Prop :=
  zs.length = n ∧ ((og = none ∧ n = 0) ∨ ∃ g, og = some ⟨g, 0, none⟩ ∧ Own w e g zs)
/-- its block -/
def blk (og : Option Addr) : Option Nat := og.map (·.block)
theorem OwnS.sl {w : World} {e : TypeId} {og : Option Addr} {n : Nat} {zs : List Nat} (h : OwnS w e og n zs) : SlB w og n zs := by
  obtain ⟨h1, ⟨rfl, rfl⟩ | ⟨g, rfl, hO⟩⟩ := h
  · obtain rfl : zs = [] := List.eq_nil_of_length_eq_zero h1; exact ⟨rfl, by simp, fun h => absurd rfl h⟩
  · exact hO.sl n h1
theorem OwnS.grown {w w' : World} {row : Option Nat} {e : TypeId} {og : Option Addr} {n : Nat} {zs : List Nat} (h : OwnS w e og n zs) (hg : w.grownBy w' row) (hne : ∀ g, blk og = some g → some g ≠ row) : OwnS w' e og n zs := by
  obtain ⟨h1, ⟨rfl, rfl⟩ | ⟨g, rfl, hO⟩⟩ := h
  · exact ⟨h1, .inl ⟨rfl, rfl⟩⟩
  · exact ⟨h1, .inr ⟨g, rfl, hO.grown hg (hne g rfl)⟩⟩
theorem OwnS.grown0 {w w' : World} {e : TypeId} {og : Option Addr} {n : Nat} {zs : List Nat} (h : OwnS w e og n zs) (hg : w.grownBy w' none) : OwnS w' e og n zs := h.grown hg (by simp)
theorem OwnS.heap {w w' : World} {e : TypeId} {og : Option Addr} {n : Nat} {zs : List Nat} (h : OwnS w e og n zs) (hh : w'.heap = w.heap) : OwnS w' e og n zs := by
  obtain ⟨h1, h2 | ⟨g, rfl, hO⟩⟩ := h
  · exact ⟨h1, .inl h2⟩
  · exact ⟨h1, .inr ⟨g, rfl, hO.heap hh⟩⟩
theorem OwnS.lt {w : World} {e : TypeId} {og : Option Addr} {n : Nat} {zs : List Nat} (h : OwnS w e og n zs) : ∀ g, blk og = some g → g < w.heap.size := by
  obtain ⟨_, ⟨rfl, rfl⟩ | ⟨g', rfl, hO⟩⟩ := h
  · intro g hg; cases hg
  · intro g hg; obtain rfl : g' = g := by simpa [blk] using hg
    exact hO.lt
theorem Own.s {w : World} {e : TypeId} {g n : Nat} {zs : List Nat} (h : Own w e g zs) (hn : zs.length = n) : OwnS w e (some ⟨g, 0, none⟩) n zs := ⟨hn, .inr ⟨g, rfl, h⟩⟩
theorem OwnS.none (w : World) (e : TypeId) : OwnS w e none 0 [] := ⟨rfl, .inl ⟨rfl, rfl⟩⟩

set_option maxHeartbeats 400000 in
theorem markByteS_nil (m : Nat) (w : World) :
    Calls Tryd.prog 24 #[.slice none 0 0, .int .i64 (m : Int)] w fun e w' => e = .returned (.int .i64 (m : Int)) ∧ w' = w := by
  go_enter Tryd.func24, Tryd.ntmps24
  go_wp2
  go_loop [1, 5] (fun v i => i = .int .i64 0 ∧ v = .int .i64 (m : Int)) (fun _ _ => 0)
  case atStart => exact ⟨rfl, rfl⟩
  case round =>
    obtain ⟨rfl, rfl⟩ := hrel; go_wp2; go_ret; exact ⟨rfl, rfl⟩
set_option maxHeartbeats 400000 in
theorem heldByteS_nil (m : Nat) (w : World) :
    Calls Tryd.prog 75 #[.slice none 0 0, .int .i64 (m : Int)] w fun e w' => e = .returned (.int .i64 (m : Int)) ∧ w' = w := by
  go_enter Tryd.func75, Tryd.ntmps75
  go_wp2
  go_loop [1, 5] (fun v i => i = .int .i64 0 ∧ v = .int .i64 (m : Int)) (fun _ _ => 0)
  case atStart => exact ⟨rfl, rfl⟩
  case round =>
    obtain ⟨rfl, rfl⟩ := hrel; go_wp2; go_ret; exact ⟨rfl, rfl⟩
theorem marked_lt (zs : List Nat) (m k : Nat) (h : ∀ z ∈ zs, z < 256) : ∀ z ∈ marked zs m k, z < 256 := by
  induction k with
  | zero => exact h
  | succ k ih =>
    intro z hz
    rcases List.mem_or_eq_of_mem_set hz with h1 | h1
    · exact ih z h1
    · omega
theorem markByteS_s (og : Option Addr) (n cap m : Nat) (zs : List Nat) (w : World) (h : OwnS w 5 og n zs) (hn : og = none → cap = 0) (hm : n ≤ 1073741824) (hm2 : m ≤ 1073741824) :
    Calls Tryd.prog 24 #[.slice og n cap, .int .i64 (m : Int)] w fun e w' => e = .returned (.int .i64 ((m : Int) + n)) ∧ OwnS w' 5 og n (marked zs m n) ∧ w.grownBy w' (blk og) := by
  obtain ⟨h1, ⟨rfl, rfl⟩ | ⟨g, rfl, hO⟩⟩ := h
  · obtain rfl := hn rfl; refine (markByteS_nil m w).mono ?_; rintro e w' ⟨rfl, rfl⟩; refine ⟨by simp, ⟨by rw [marked_len]; exact h1, .inl ⟨rfl, rfl⟩⟩, grownBy_refl _ _⟩
  · refine (markByteS_own g n cap m zs w hO h1 hm hm2).mono ?_; rintro e w' ⟨rfl, hO', hG⟩; exact ⟨rfl, hO'.s (by rw [marked_len]; exact h1), hG⟩
theorem heldByteS_s (og : Option Addr) (n cap m : Nat) (zs : List Nat) (w : World) (h : OwnS w 5 og n zs) (hn : og = none → cap = 0) (hz : ∀ i, i < n → zs.getD i 0 = (m + i) % 256) (hm : n ≤ 1073741824) (hm2 : m ≤ 1073741824) :
    Calls Tryd.prog 75 #[.slice og n cap, .int .i64 (m : Int)] w fun e w' => e = .returned (.int .i64 ((m : Int) + n)) ∧ w' = w := by
  obtain ⟨h1, ⟨rfl, rfl⟩ | ⟨g, rfl, hO⟩⟩ := h
  · obtain rfl := hn rfl; refine (heldByteS_nil m w).mono ?_; rintro e w' ⟨rfl, rfl⟩; exact ⟨by simp, rfl⟩
  · exact heldByteS_own g n cap m zs w hO h1 hz hm hm2
/-- what l2Get makes of at most eight bytes -/
def satVal (zs : List Nat) : Nat := if 18014398509481984 ≤ leVal (zs.drop 1) then 4611686018427387904 else leVal zs
theorem leVal_drop (zs : List Nat) (k : Nat) (h : k < zs.length) : leVal (zs.drop k) = zs.getD k 0 + 256 * leVal (zs.drop (k + 1)) := by
  rw [List.drop_eq_getElem_cons h, leVal, List.getD_eq_getElem?_getD, List.getElem?_eq_getElem h]
  rfl
theorem leVal_drop_lt (zs : List Nat) (hb : ∀ z ∈ zs, z < 256) (h8 : zs.length ≤ 8) (k : Nat) (hk : 2 ≤ k) : leVal (zs.drop k) < 18014398509481984 := by
  have h1 := leVal_lt (zs.drop k) (fun z hz => hb z (List.mem_of_mem_drop hz))
  have h2 : (zs.drop k).length ≤ 6 := by simp; omega
  exact Nat.lt_of_lt_of_le h1 (Nat.le_trans (Nat.pow_le_pow_right (by decide) h2) (by decide))
theorem satVal_four (zs : List Nat) (hb : ∀ z ∈ zs, z < 256) (h4 : zs.length ≤ 4) : satVal zs = leVal zs := by
  have h1 := leVal_lt (zs.drop 1) (fun z hz => hb z (List.mem_of_mem_drop hz))
  have h2 : (zs.drop 1).length ≤ 3 := by simp; omega
  have h3 : leVal (zs.drop 1) < 16777216 := Nat.lt_of_lt_of_le h1 (Nat.le_trans (Nat.pow_le_pow_right (by decide) h2) (by decide))
  unfold satVal
  rw [if_neg (by omega)]

set_option maxRecDepth 100000 in
set_option maxHeartbeats 1000000 in
theorem l2Get_any (oa : Option Addr) (len cap : Nat) (zs : List Nat) (w : World) (hsl : SlB w oa len zs) (h8 : len ≤ 8) :
    Calls Tryd.prog 70 #[.slice oa len cap] w fun e w' => e = .returned (.int .i64 ((satVal zs : Nat) : Int)) ∧ w' = w := by
  obtain ⟨hl, hb, hc⟩ := hsl; have HB : Hid (∀ z ∈ zs, z < 256) := hb; have HC : Hid (len ≠ 0 → _) := hc; clear hb hc
  go_enter Tryd.func70, Tryd.ntmps70
  go_wp2
  go_loop [3, 4] (fun v i => ∃ k : Nat, k ≤ len ∧ i = .int .i64 ((k : Int) - 1) ∧ v = .int .i64 ((leVal (zs.drop k) : Nat) : Int) ∧ (k = 0 → leVal (zs.drop 1) < 18014398509481984)) (fun _ i => (intOf i + 1).toNat)
  case atStart =>
    refine ⟨len, Nat.le_refl _, rfl, by rw [List.drop_of_length_le (by omega)]; rfl, fun h => ?_⟩; rw [List.drop_of_length_le (by omega)]
    decide
  case round =>
    obtain ⟨k, hk, rfl, rfl, hs⟩ := hrel
    by_cases h0 : k = 0
    · subst h0
      have HS : Hid (satVal zs = leVal (zs.drop 0)) := by
        show _ = _
        unfold satVal
        rw [if_neg (by have := hs rfl; omega)]
        rfl
      obtain ⟨x, hx⟩ : ∃ x, leVal (zs.drop 0) = x := ⟨_, rfl⟩; rw [hx] at HS ⊢; clear hs hx; go_wp2; go_ret; exact ⟨by rw [HS.out]; rfl, rfl⟩
    · obtain ⟨b, off, rfl, hcc⟩ := HC.out (by omega); obtain ⟨j, rfl⟩ : ∃ j, k = j + 1 := ⟨k - 1, by omega⟩; have hck := hcc j (by omega); obtain ⟨c, hce⟩ : ∃ c, c = zs.getD j 0 := ⟨_, rfl⟩
      have hc256 : c < 256 := by rw [hce]; exact HB.out _ (Crc.getD_mem _ _ (by omega))
      rw [← hce] at hck; have hn := leVal_drop zs j (by omega); rw [← hce] at hn; obtain ⟨x, hx⟩ : ∃ x, leVal (zs.drop (j + 1)) = x := ⟨_, rfl⟩
      have HL : Hid (2 ≤ j + 1 → x < 18014398509481984) := fun h => by rw [← hx]; exact leVal_drop_lt zs HB.out (by omega) (j + 1) h
      have HX : Hid (leVal (zs.drop (j + 1)) = x) := hx
      have HN : Hid (leVal (zs.drop j) = c + 256 * x) := by show _ = _; rw [hn, hx]
      rw [hx]; clear hn hx hce hcc HC hs
      have ej : ((j + 1 : Nat) : Int) - 1 = (j : Int) := by omega
      rw [ej]
      by_cases hbig : 18014398509481984 ≤ x
      · have hj : j = 0 := by
          apply Classical.byContradiction
          intro hj; have := HL.out (by omega)
          omega
        have HS : Hid (satVal zs = 4611686018427387904) := by
          show _ = _
          unfold satVal
          subst hj; rw [if_pos (by rw [HX.out]; omega)]
        have hbi : (18014398509481984 : Int) ≤ (x : Int) := by omega
        clear hbig; go_wp2; go_ret; exact ⟨by rw [HS.out]; rfl, rfl⟩
      · obtain ⟨X, hX⟩ : ∃ X : Int, (x : Int) = X := ⟨_, rfl⟩
        have hX0 : 0 ≤ X := by omega
        have hX1 : X < 18014398509481984 := by omega
        have HB2 : Hid (x < 18014398509481984) := by show _ < _; omega
        have HXI : Hid ((x : Int) = X) := hX; rw [hX]; clear hbig hX; go_wp2
        go_round
        case rel => exact ⟨j, by omega, by go_num, by rw [HN.out, Int.natCast_add, Int.natCast_mul, HXI.out]; go_num, fun h => by subst h; rw [HX.out]; exact HB2.out⟩
        case measure => simp [intOf]
/-- the arguments are held against each other ahead of all else: where they differ it fails at once -/
theorem calls_args {P : Program} {f : FuncId} {args args' : Array Value} {w : World} {Q : Ending → World → Prop} (h : args' = args) (k : Calls P f args w Q) : Calls P f args' w Q := by
  rw [h]; exact k
theorem slb_cut {w : World} {b off : Nat} {len : Nat} {zs : List Nat} (h : SlB w (some ⟨b, off, none⟩) len zs) (i n : Nat) (hi : i + n ≤ len) : SlB w (some ⟨b, off + i, none⟩) n ((zs.drop i).take n) := by
  obtain ⟨h1, h2, h3⟩ := h; refine ⟨by simp; omega, fun z hz => h2 z (List.mem_of_mem_drop (List.mem_of_mem_take hz)), fun hn => ?_⟩; obtain ⟨b', off', he, hc⟩ := h3 (by omega); simp only [Option.some.injEq, Addr.mk.injEq, and_true] at he; obtain ⟨rfl, rfl⟩ := he; refine ⟨b, off + i, rfl, fun j hj => ?_⟩; have := hc (i + j) (by omega); rw [← Nat.add_assoc] at this; rw [this]
  simp [List.getD, hj]
theorem slb_cutIf {w : World} {b off : Nat} {len : Nat} {zs : List Nat} (h : SlB w (some ⟨b, off, none⟩) len zs) (i n cap : Nat) (hi : i + n ≤ len) (hc : len ≤ cap) : SlB w (if cap = i then some ⟨b, off, none⟩ else some ⟨b, off + i, none⟩) n ((zs.drop i).take n) := by
  by_cases hci : cap = i
  · rw [if_pos hci]
    obtain rfl : n = 0 := by omega
    exact ⟨by simp, by simp, fun h => absurd rfl h⟩
  · rw [if_neg hci]; exact slb_cut h i n hi
theorem drop_take_all (zs : List Nat) (i n : Nat) (h : i + n = zs.length) : (zs.drop i).take n = zs.drop i := List.take_of_length_le (by simp; omega)
end Go.Proofs.YtdajcpcajdhplaaDoor

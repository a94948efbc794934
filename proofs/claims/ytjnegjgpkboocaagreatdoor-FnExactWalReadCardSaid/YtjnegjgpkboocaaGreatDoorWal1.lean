/-
  Base, Cut, App, Small, Le4P, CrcMath, TakeN, TakeL, OpenB, Tree, Tree2, Tot, TreeL, MadeT, FormW, RegZ, TakeW, Bytes, Bytes2, StrB, BaseI, MarkW, EntW, EntW2, ShapesW, EqW, EqI, ViewW, LogW
-/
import Derived.WalkKit
import Derived.WalkSpells
import Derived.WalkLawsBesides
import Derived.Below
import Derived.Deep.AppendLies
import Derived.Deep.RegionHeld3
import Derived.Test.YtjnegjgpkboocaaGreatDoorChecked
import Derived.Laws.OwnMore
import Derived.BigQuiet
import Derived.Deep.QuietTactic
import Derived.ProofKit
import Derived.OpenShut
import Derived.Laws.Cells
import Derived.Deep.MidRow
import Derived.Deep.DeepCutAuto
import Derived.Deep.CutRange
import Derived.OrdersHeld
import Derived.StillTail
import Derived.Laws.BytesString
/-
  Words for worlds: a row of bytes that came in (SlB), a row of bytes of the call's own (Own), what is kept (World.grownBy). Nothing here reaches the dump.
-/
namespace Go.Proofs.YtjnegjgpkboocaaGreatDoor
open Go.RowKit

theorem ret_int {k : IntKind} {a b : Int} (h : a = b) : Ending.returned (.int k a) = .returned (.int k b) := by rw [h]
theorem ret_bool {a b : Bool} (h : a = b) : Ending.returned (.bool a) = .returned (.bool b) := by rw [h]
/-- a byte as a value -/
def bv (n : Nat) : Value := .int .u8 (n : Int)

/-- A slice of bytes that reads as zs, in the world w (its address unknown where it is empty). -/
def SlB (w : World) (oa : Option Addr) (len : Nat) (zs : List Nat) : Prop :=
  zs.length = len ∧ (∀ z ∈ zs, z < 256) ∧ (len ≠ 0 → ∃ b off, oa = some ⟨b, off, none⟩ ∧ ∀ i, i < len → w.cell? ⟨b, off + i, none⟩ = some (.int .u8 ((zs.getD i 0 : Nat) : Int)))

/-- Block g is a row of bytes, not frozen, whose first cells are zs. -/
def Own (w : World) (e : TypeId) (g : Nat) (zs : List Nat) : Prop :=
  (∀ z ∈ zs, z < 256) ∧ ∃ cur : Array Value, w.heap[g]? = some (.cells cur e (0, 0)) ∧ ∀ i, i < zs.length → cur[i]? = some (.int .u8 ((zs.getD i 0 : Nat) : Int))

theorem cell_block_lt {w : World} {a : Addr} {v : Value} (h : w.cell? a = some v) : a.block < w.heap.size := by
  unfold World.cell? at h
  cases hb : w.heap[a.block]? with
  | none => rw [hb] at h; simp at h
  | some o => exact (Array.getElem?_eq_some_iff.1 hb).1

theorem Own.lt {w : World} {e : TypeId} {g : Nat} {zs : List Nat} (h : Own w e g zs) : g < w.heap.size := by
  obtain ⟨_, cur, hg, _⟩ := h
  exact (Array.getElem?_eq_some_iff.1 hg).1
theorem Own.cell {w : World} {e : TypeId} {g : Nat} {zs : List Nat} (h : Own w e g zs) (i : Nat) (hi : i < zs.length) : w.cell? ⟨g, i, none⟩ = some (.int .u8 ((zs.getD i 0 : Nat) : Int)) := by
  obtain ⟨_, cur, hg, hc⟩ := h
  simp only [World.cell?, hg]
  simpa using hc i hi
theorem Own.free {w : World} {e : TypeId} {g : Nat} {zs : List Nat} (h : Own w e g zs) (i : Nat) : w.frozen? ⟨g, i, none⟩ = false := by
  obtain ⟨_, cur, hg, hc⟩ := h
  simp [World.frozen?, hg]
theorem Own.of_block {w w' : World} {e : TypeId} {g : Nat} {zs : List Nat} (h : Own w e g zs) (hb : w'.heap[g]? = w.heap[g]?) : Own w' e g zs := by
  obtain ⟨hz, cur, hg, hc⟩ := h
  exact ⟨hz, cur, hb.trans hg, hc⟩
theorem Own.grown {w w' : World} {row : Option Nat} {e : TypeId} {g : Nat} {zs : List Nat} (h : Own w e g zs) (hg : w.grownBy w' row) (hne : some g ≠ row) : Own w' e g zs :=
  h.of_block (hg.block g h.lt hne)
theorem Own.take {w : World} {e : TypeId} {g : Nat} {zs : List Nat} (h : Own w e g zs) (n : Nat) : Own w e g (zs.take n) := by
  obtain ⟨hz, cur, hg, hc⟩ := h
  refine ⟨fun z hz' => hz z (List.mem_of_mem_take hz'), cur, hg, fun i hi => ?_⟩
  simp only [List.length_take] at hi
  rw [hc i (by omega)]
  simp [List.getD, show i < n by omega]
theorem Own.sl {w : World} {e : TypeId} {g : Nat} {zs : List Nat} (h : Own w e g zs) (len : Nat) (hl : zs.length = len) : SlB w (some ⟨g, 0, none⟩) len zs :=
  ⟨hl, h.1, fun _ => ⟨g, 0, rfl, fun i hi => by rw [Nat.zero_add]; exact h.cell i (by omega)⟩⟩
/-- a cut of an owned row -/
theorem Own.slAt {w : World} {e : TypeId} {g : Nat} {zs : List Nat} (h : Own w e g zs) (off len : Nat) (hl : off + len ≤ zs.length) : SlB w (some ⟨g, off, none⟩) len ((zs.drop off).take len) := by
  refine ⟨by simp; omega, fun z hz => h.1 z (List.mem_of_mem_drop (List.mem_of_mem_take hz)), fun _ => ⟨g, off, rfl, fun i hi => ?_⟩⟩
  rw [h.cell (off + i) (by omega)]
  simp [List.getD, hi]
theorem Own.set {w : World} {e : TypeId} {g : Nat} {zs : List Nat} (h : Own w e g zs) (i v : Nat) (hv : v < 256) : Own (w.setCell ⟨g, i, none⟩ (.int .u8 (v : Int))) e g (zs.set i v) := by
  obtain ⟨hz, cur, hg, hc⟩ := h
  refine ⟨fun z hz' => ?_, cur.setIfInBounds i (.int .u8 (v : Int)), heap_setCell_same w g i cur e _ hg, fun j hj => ?_⟩
  · rcases List.mem_or_eq_of_mem_set hz' with h1 | h1
    · exact hz z h1
    · omega
  · rw [List.length_set] at hj
    have := hc j hj
    rw [Array.getElem?_setIfInBounds]
    by_cases e1 : i = j
    · subst e1
      have hs : i < cur.size := (Array.getElem?_eq_some_iff.1 this).1
      simp [hs, List.getD, hj]
    · simp [e1, this, List.getD]
theorem grownBy_setCell {w0 w : World} {g i : Nat} {u : Value} (h : w0.grownBy w (some g)) : w0.grownBy (w.setCell ⟨g, i, none⟩ u) (some g) :=
  ⟨h.os, h.tape, h.output, by simpa [World.setCell] using h.size, fun k hk hne => (heap_setCell_other w ⟨g, i, none⟩ k u (fun e1 => hne (by simp [e1]))).trans (h.block k hk hne)⟩
theorem grownBy_refl (w : World) (row : Option Nat) : w.grownBy w row := ⟨rfl, rfl, rfl, Nat.le_refl _, fun _ _ _ => rfl⟩
theorem grownBy_weak {w w' : World} {row : Option Nat} (h : w.grownBy w' none) : w.grownBy w' row := ⟨h.os, h.tape, h.output, h.size, fun k hk _ => h.block k hk (by simp)⟩
theorem grownBy_trans {a b c : World} {row : Option Nat} (h : a.grownBy b row) (k : b.grownBy c row) : a.grownBy c row :=
  ⟨k.os.trans h.os, k.tape.trans h.tape, k.output.trans h.output, Nat.le_trans h.size k.size, fun j hj hne => (k.block j (Nat.lt_of_lt_of_le hj h.size) hne).trans (h.block j hj hne)⟩
/-- what is written is new: nothing old has turned -/
theorem grownBy_new {a b c : World} {g : Nat} (h : a.grownBy b none) (k : b.grownBy c (some g)) (hg : a.heap.size ≤ g) : a.grownBy c none :=
  ⟨k.os.trans h.os, k.tape.trans h.tape, k.output.trans h.output, Nat.le_trans h.size k.size, fun j hj hne =>
    (k.block j (Nat.lt_of_lt_of_le hj h.size) (by simp only [ne_eq, Option.some.injEq]; omega)).trans (h.block j hj hne)⟩
theorem grownBy_drew {w w' : World} {row : Option Nat} (h : w.grownBy w' row) : w.grownBy w'.drew row := ⟨h.os, h.tape, h.output, h.size, h.block⟩
theorem grownBy_alloc {w w' : World} {row : Option Nat} (h : w.grownBy w' row) (o : Obj) : w.grownBy (w'.alloc o) row := grownBy_trans h (World.grownBy_alloc w' o row)
theorem below_of_grown {w w' : World} (h : w.grownBy w' none) : Below w.heap.size w w' := ⟨h.os, h.tape, h.output, h.size, fun k hk => h.block k hk (by simp)⟩
theorem SlB.grown {w w' : World} {row : Option Nat} {oa : Option Addr} {len : Nat} {zs : List Nat} (h : SlB w oa len zs) (hg : w.grownBy w' row) (hne : ∀ b off, oa = some ⟨b, off, none⟩ → some b ≠ row) : SlB w' oa len zs := by
  obtain ⟨h1, h2, h3⟩ := h
  refine ⟨h1, h2, fun hn => ?_⟩
  obtain ⟨b, off, rfl, hc⟩ := h3 hn
  exact ⟨b, off, rfl, fun i hi => (World.cell?_of_block (w := w) (a := ⟨b, off + i, none⟩) (hg.block b (cell_block_lt (hc i hi)) (hne b off rfl))).trans (hc i hi)⟩
theorem SlB.grown0 {w w' : World} {oa : Option Addr} {len : Nat} {zs : List Nat} (h : SlB w oa len zs) (hg : w.grownBy w' none) : SlB w' oa len zs := h.grown hg (by simp)
/-- a row that a make has laid -/
theorem own_made {w' : World} {base e : Nat} {g n cap : Nat} {zs : List Nat} (h : w'.ownsRow base e 1 (.slice (some ⟨g, 0, none⟩) n cap) n (zs.map bv)) (hz : ∀ z ∈ zs, z < 256) : Own w' e g zs := by
  rcases h.2 with ⟨h', _⟩ | ⟨g', cap', cur, h', _, hg, _, _, _, htake⟩
  · simp at h'
  · simp only [Value.slice.injEq, Option.some.injEq, Addr.mk.injEq, and_true, true_and] at h'
    obtain ⟨rfl, rfl⟩ := h'
    refine ⟨hz, cur, hg, fun i hi => ?_⟩
    have hl : zs.length = n := by simpa using h.1
    have h2 : (cur.toList.take (n * 1))[i]? = (zs.map bv)[i]? := by rw [htake]
    rw [List.getElem?_take, if_pos (by omega)] at h2
    rw [← Array.getElem?_toList, h2]
    simp [List.getD, hi, bv]
theorem Own.setOther {w : World} {e : TypeId} {g : Nat} {zs : List Nat} (h : Own w e g zs) {a : Addr} {u : Value} (hne : g ≠ a.block) : Own (w.setCell a u) e g zs :=
  h.of_block (heap_setCell_other w a g u hne)
theorem grownBy_setNew {w0 w : World} {a : Addr} {u : Value} (h : w0.grownBy w none) (ha : w0.heap.size ≤ a.block) : w0.grownBy (w.setCell a u) none :=
  ⟨h.os, h.tape, h.output, by simpa [World.setCell] using h.size, fun k hk hne => (heap_setCell_other w a k u (by omega)).trans (h.block k hk hne)⟩
/-- behind a call that turned nothing old: every old cell and mark reads as before (two rules for the walk) -/
theorem bcell {W w1 : World} (hb : W.grownBy w1 none) : (∀ b o, b < W.heap.size → w1.cell? ⟨b, o, none⟩ = W.cell? ⟨b, o, none⟩) ∧ (∀ b o, b < W.heap.size → w1.frozen? ⟨b, o, none⟩ = W.frozen? ⟨b, o, none⟩) :=
  ⟨fun b o h => (below_of_grown hb).cell (p := ⟨b, o, none⟩) h, fun b o h => (below_of_grown hb).frozen (p := ⟨b, o, none⟩) h⟩
end Go.Proofs.YtjnegjgpkboocaaGreatDoor
/-
  A piece of bytes that came in, as the machine points at it; a call's arguments, held against what a contract asks, fast.
-/
namespace Go.Proofs.YtjnegjgpkboocaaGreatDoor
open Go.RowKit

/-- the arguments are held against each other ahead of all else: where they differ it fails at once -/
theorem calls_args {P : Program} {f : FuncId} {args args' : Array Value} {w : World} {Q : Ending → World → Prop} (h : args' = args) (k : Calls P f args w Q) : Calls P f args' w Q := by
  rw [h]; exact k
theorem slb_cut {w : World} {b off : Nat} {len : Nat} {zs : List Nat} (h : SlB w (some ⟨b, off, none⟩) len zs) (i n : Nat) (hi : i + n ≤ len) : SlB w (some ⟨b, off + i, none⟩) n ((zs.drop i).take n) := by
  obtain ⟨h1, h2, h3⟩ := h
  refine ⟨by simp; omega, fun z hz => h2 z (List.mem_of_mem_drop (List.mem_of_mem_take hz)), fun hn => ?_⟩
  obtain ⟨b', off', he, hc⟩ := h3 (by omega)
  simp only [Option.some.injEq, Addr.mk.injEq, and_true] at he
  obtain ⟨rfl, rfl⟩ := he
  refine ⟨b, off + i, rfl, fun j hj => ?_⟩
  have := hc (i + j) (by omega)
  rw [← Nat.add_assoc] at this
  rw [this]
  simp [List.getD, hj]
theorem slb_cutIf {w : World} {b off : Nat} {len : Nat} {zs : List Nat} (h : SlB w (some ⟨b, off, none⟩) len zs) (i n cap : Nat) (hi : i + n ≤ len) (hc : len ≤ cap) : SlB w (if cap = i then some ⟨b, off, none⟩ else some ⟨b, off + i, none⟩) n ((zs.drop i).take n) := by
  by_cases hci : cap = i
  · rw [if_pos hci]
    obtain rfl : n = 0 := by omega
    exact ⟨by simp, by simp, fun h => absurd rfl h⟩
  · rw [if_neg hci]
    exact slb_cut h i n hi
theorem drop_take_all (zs : List Nat) (i n : Nat) (h : i + n = zs.length) : (zs.drop i).take n = zs.drop i := List.take_of_length_le (by simp; omega)
end Go.Proofs.YtjnegjgpkboocaaGreatDoor
/-
  append of bytes onto a row of the call's own, from whatever source (nil, empty, cut): the run, a step of a drawn region, a step of a plain one. Nothing here reaches the dump.
-/
namespace Go.Proofs.YtjnegjgpkboocaaGreatDoor
open Go.RowKit

theorem SlB.src {w : World} {oa : Option Addr} {m : Nat} {zs : List Nat} (h : SlB w oa m zs) (hm : 0 < m) : ∃ ad, oa = some ad ∧ ∀ j u, (zs.map bv)[j]? = some u → w.cell? (ad.add j) = some u := by
  obtain ⟨h1, h2, h3⟩ := h
  obtain ⟨b, off, rfl, hc⟩ := h3 (by omega)
  refine ⟨_, rfl, fun j v hj => ?_⟩
  have hjl : j < zs.length := by
    have := (List.getElem?_eq_some_iff.1 hj).1
    simpa using this
  have e1 : (⟨b, off, none⟩ : Addr).add j = ⟨b, off + j, none⟩ := by
    by_cases h0' : j = 0 <;> simp [Addr.add, h0']
  rw [e1, hc j (by omega), ← hj]
  simp [List.getD, hjl, bv]
theorem bytes_one (zs : List Nat) : ∀ v ∈ zs.map bv, v.oneCell' = true := by
  intro v hv; obtain ⟨z, _, rfl⟩ := List.mem_map.1 hv; rfl

/-- the facts on the element type that an append of bytes asks -/
structure ByteT (P : Program) (t e : TypeId) (i : TypeInfo) : Prop where
  und : P.underlying t = some (.slice e)
  info : P.info? e = some i
  zero : i.zero = some (.int .u8 0)
  size : i.size = 1
  bytes : i.bytes = 1

theorem run_append_b {P : Program} {w : World} {t ty e : TypeId} {i : TypeInfo} (T : ByteT P t e i) {base g n cap : Nat} {xs : List Nat} (hown : w.ownsRow base e 1 (.slice (some ⟨g, 0, none⟩) n cap) n (xs.map bv))
    {oa : Option Addr} {m c : Nat} {zs : List Nat} (hsrc : SlB w oa m zs) (hb : n + m ≤ 1099511627776) (hbase : base ≤ w.heap.size) :
    ∃ g' cap' w', (Builtin.append_ #[t, t] ty #[.slice (some ⟨g, 0, none⟩) n cap, .slice oa m c]).run P w = .ok (.slice (some ⟨g', 0, none⟩) (n + m) cap') w' ∧
      w'.ownsRow base e 1 (.slice (some ⟨g', 0, none⟩) (n + m) cap') (n + m) ((xs ++ zs).map bv) ∧ w.grownBy w' (some g) ∧ (g' = g ∨ g' = w.heap.size) ∧ w.heap.size ≤ w'.heap.size := by
  by_cases hm : m = 0
  · subst hm
    obtain rfl : zs = [] := List.eq_nil_of_length_eq_zero hsrc.1
    refine ⟨g, cap, w, ?_, by simpa using hown, grownBy_refl _ _, .inl rfl, Nat.le_refl _⟩
    rcases hown.2 with ⟨h', _⟩ | ⟨g', cap', cur, h', _, hg, hnc, _⟩
    · simp at h'
    · simp only [Value.slice.injEq, Option.some.injEq, Addr.mk.injEq, and_true, true_and] at h'
      obtain ⟨rfl, rfl⟩ := h'
      cases oa with
      | none => simp [Builtin.append_, run_underlying T.und, sizeOf, typeInfo, T.info, Builtin.lenOf, Builtin.firstCells, hnc, storeCells]
      | some a =>
        have hf := run_firstCells_some (P := P) w i.size 0 a 0 c [] (by simp) (by simp)
        simp [Builtin.append_, run_underlying T.und, sizeOf, typeInfo, T.info, Builtin.lenOf, hf, hnc, storeCells]
  · obtain ⟨ad, rfl, hnews⟩ := hsrc.src (by omega)
    obtain ⟨g', cap', w', hr, ho, hg, hat, hlt⟩ := run_append_lies (P := P) w t ty base e i (.int .u8 0) 1 1 T.und T.info T.zero T.size T.bytes rfl (by decide) (.slice (some ⟨g, 0, none⟩) n cap) n (xs.map bv) hown ad m c (zs.map bv) (by simpa using hsrc.1) hnews (bytes_one zs) (by omega) (by unfold maxLen; omega) (by omega) hbase w.heap.size rfl
    refine ⟨g', cap', w', hr, by simpa using ho, hg, ?_, hg.size⟩
    rcases hat with h | h
    · exact .inl (by simpa [Value.ownBlock] using h.symm)
    · exact .inr h

theorem wpList_append_b {P : Program} {w : World} {ops : Array Oper} {rest : List Oper} {o : Oper} {a : Act} {Q : Exit → Act → World → Prop} (hgd : o.guard = none) (s x : Operand) {t e : TypeId} {i : TypeInfo} (T : ByteT P t e i)
    (ho : o.op = .call { callee := .builtin .append, args := #[s, x], argTypes := #[t, t] }) {base g n cap : Nat} {xs : List Nat} (hs : a.eval s = .slice (some ⟨g, 0, none⟩) n cap) (hown : w.ownsRow base e 1 (.slice (some ⟨g, 0, none⟩) n cap) n (xs.map bv))
    {oa : Option Addr} {m c : Nat} {zs : List Nat} (hx : a.eval x = .slice oa m c) (hsrc : SlB w oa m zs) (hb : n + m ≤ 1099511627776) (hbase : base ≤ w.heap.size)
    (h : ∀ g' cap' w', Hid (w'.ownsRow base e 1 (.slice (some ⟨g', 0, none⟩) (n + m) cap') (n + m) ((xs ++ zs).map bv)) → Hid (w.grownBy w' (some g)) → Hid (g' = g ∨ g' = w.heap.size) → w.heap.size ≤ w'.heap.size → wpList P ops Q rest (a.put o.dst (.slice (some ⟨g', 0, none⟩) (n + m) cap')) w') :
    wpList P ops Q (o :: rest) a w := by
  refine wpList_plain hgd fun K hK => ?_
  obtain ⟨g', cap', w', hrun, h1, h2, h3, h4⟩ := run_append_b (ty := o.type) (c := c) T hown hsrc hb hbase
  unfold Oper.wp
  simp [execOp, ho, resolve, invoke, builtin, hs, hx, hrun, Result.andThen]
  exact hK _ _ (h g' cap' w' h1 h2 h3 h4)

theorem step_append_b {P : Program} {w : World} {ops : Array Oper} {o : Oper} {a : Act} {K : Act → World → Prop} {Q : Exit → Act → World → Prop} {E : Prop} (hgd : o.guard = none) (s x : Operand) {t e : TypeId} {i : TypeInfo} (T : ByteT P t e i)
    (ho : o.op = .call { callee := .builtin .append, args := #[s, x], argTypes := #[t, t] }) {base g n cap : Nat} {xs : List Nat} (hs : a.eval s = .slice (some ⟨g, 0, none⟩) n cap) (hown : w.ownsRow base e 1 (.slice (some ⟨g, 0, none⟩) n cap) n (xs.map bv))
    {oa : Option Addr} {m c : Nat} {zs : List Nat} (hx : a.eval x = .slice oa m c) (hsrc : SlB w oa m zs) (hb : n + m ≤ 1099511627776) (hbase : base ≤ w.heap.size)
    (h : ∀ g' cap' w', Hid (w'.ownsRow base e 1 (.slice (some ⟨g', 0, none⟩) (n + m) cap') (n + m) ((xs ++ zs).map bv)) → Hid (w.grownBy w' (some g)) → Hid (g' = g ∨ g' = w.heap.size) → w.heap.size ≤ w'.heap.size → K (a.put o.dst (.slice (some ⟨g', 0, none⟩) (n + m) cap')) w') :
    if Region.wanted o (yielded ops a.tmps) = true then Oper.wp P o a w K Q else E := by
  have hw : Region.wanted o (yielded ops a.tmps) = true := by simp [Region.wanted, hgd]
  rw [if_pos hw]
  obtain ⟨g', cap', w', hrun, h1, h2, h3, h4⟩ := run_append_b (ty := o.type) (c := c) T hown hsrc hb hbase
  unfold Oper.wp
  simp [execOp, ho, resolve, invoke, builtin, hs, hx, hrun, Result.andThen]
  exact h g' cap' w' h1 h2 h3 h4

theorem ownsRow_heap {w w' : World} {base e size n : Nat} {v : Value} {xs : List Value} (h : w.ownsRow base e size v n xs) (hh : w'.heap = w.heap) : w'.ownsRow base e size v n xs := by
  unfold World.ownsRow at h ⊢
  rw [hh]; exact h
theorem ownsRow_base {w : World} {base base' e size n : Nat} {v : Value} {xs : List Value} (h : w.ownsRow base e size v n xs) (hb : base' ≤ base) : w.ownsRow base' e size v n xs := by
  refine ⟨h.1, ?_⟩
  rcases h.2 with h2 | ⟨g, cap, cur, h2, h3, h4⟩
  · exact .inl h2
  · exact .inr ⟨g, cap, cur, h2, Nat.le_trans hb h3, h4⟩
/-- an owned row as a source -/
theorem ownsRow_sl {w : World} {base e g n cap : Nat} {xs : List Nat} (h : w.ownsRow base e 1 (.slice (some ⟨g, 0, none⟩) n cap) n (xs.map bv)) (hz : ∀ z ∈ xs, z < 256) : SlB w (some ⟨g, 0, none⟩) n xs :=
  (own_made h hz).sl n (by simpa using h.1)
/-- a literal of bytes as a source -/
theorem lit_sl {w : World} {b e : Nat} {zs : List Nat} (h : w.heap[b]? = some (.cells (zs.map bv).toArray e (0, 0))) (hz : ∀ z ∈ zs, z < 256) : SlB w (some ⟨b, 0, none⟩) zs.length zs :=
  Own.sl (e := e) ⟨hz, _, h, fun i hi => by simp [hi, List.getD, bv]⟩ _ rfl
/-- make([]byte, n, c) -/
theorem wpList_make_cap {P : Program} {w : World} {ops : Array Oper} {rest : List Oper} {o : Oper} {a : Act} {Q : Exit → Act → World → Prop} (hg : o.guard = none) (l c : Operand) {t e : TypeId} {i : TypeInfo} (T : ByteT P t e i) (hop : o.op = Op.makeSlice t l c)
    {base n cp : Nat} {L C : Int} (hl : a.eval l = .int .i64 L) (hc : a.eval c = .int .i64 C) (hL : L = (n : Int)) (hC : C = (cp : Int)) (hn : n ≤ cp) (hm : cp ≤ 1099511627776) (hb : base ≤ w.heap.size)
    (hK : ∀ w', Hid (w'.ownsRow base e 1 (.slice (some ⟨w.heap.size, 0, none⟩) n cp) n ((List.replicate n 0).map bv)) → Hid (w.grownBy w' none) → wpList P ops Q rest (a.put o.dst (.slice (some ⟨w.heap.size, 0, none⟩) n cp)) w') :
    wpList P ops Q (o :: rest) a w := by
  refine wpList_plain hg fun K hK' => ?_
  subst hL
  subst hC
  have hr := run_make (P := P) w t e i (.int .u8 0) T.und T.info T.zero .i64 .i64 (n : Int) (cp : Int) (by omega) (by omega) (by rw [T.bytes]; omega) (by omega)
  rw [T.size] at hr
  simp only [Int.toNat_natCast, Nat.mul_one] at hr
  have hz : (madeCells (Value.int .u8 0).cells cp) = Array.replicate cp (Value.int .u8 0) := by
    apply Array.toList_inj.1
    simp [Value.cells, toList_madeCells_one]
  unfold Oper.wp
  simp [execOp, hop, hl, hc, hr, Result.andThen]
  refine hK' _ _ (hK _ ?_ (World.grownBy_alloc _ _ _))
  rw [hz]
  refine ⟨by simp, .inr ⟨w.heap.size, cp, Array.replicate cp (Value.int .u8 0), rfl, hb, heap_alloc_new w _, hn, by unfold maxLen; omega, by simp, ?_⟩⟩
  simp [List.take_replicate, Nat.min_eq_left hn, bv]
end Go.Proofs.YtjnegjgpkboocaaGreatDoor
/-
  Small laws that every walk over bytes takes: worlds that are the same but for draws, the element type of bytes. No function of the dump is named.
-/
namespace Go.Proofs.YtjnegjgpkboocaaGreatDoor
open Go.RowKit

theorem Tryz.infoByte : (Tryz.prog.info? 5).map (fun i => (i.zero, i.size, i.bytes)) = some (some (.int .u8 0), 1, 1) := by kernel_rfl

theorem grownBy_below {a w x : World} {B : Nat} (h : a.grownBy w none) (hb : Below B w x) (hB : a.heap.size ≤ B) : a.grownBy x none :=
  ⟨hb.os.trans h.os, hb.tape.trans h.tape, hb.output.trans h.output, Nat.le_trans h.size hb.size, fun k hk hne => (hb.block k (by omega)).trans (h.block k hk hne)⟩
/-- the same world, but for draws -/
def Same (w x : World) : Prop := x.heap = w.heap ∧ x.os = w.os ∧ x.tape = w.tape ∧ x.output = w.output
theorem grownBy_same {a w x : World} {row : Option Nat} (h : a.grownBy w row) (hs : Same w x) : a.grownBy x row :=
  ⟨hs.2.1.trans h.os, hs.2.2.1.trans h.tape, hs.2.2.2.trans h.output, by rw [hs.1]; exact h.size, fun k hk hne => by rw [hs.1]; exact h.block k hk hne⟩
theorem SlB.heap {w w' : World} {oa : Option Addr} {len : Nat} {zs : List Nat} (h : SlB w oa len zs) (hh : w'.heap = w.heap) : SlB w' oa len zs := by
  obtain ⟨h1, h2, h3⟩ := h
  refine ⟨h1, h2, fun hn => ?_⟩
  obtain ⟨b, off, rfl, hc⟩ := h3 hn
  exact ⟨b, off, rfl, fun i hi => (World.cell?_of_block (w := w) (a := ⟨b, off + i, none⟩) (by rw [hh])).trans (hc i hi)⟩
theorem Own.heap {w w' : World} {e : TypeId} {g : Nat} {zs : List Nat} (h : Own w e g zs) (hh : w'.heap = w.heap) : Own w' e g zs := h.of_block (by rw [hh])
theorem grownBy_row {a b c : World} {row : Option Nat} (h : a.grownBy b none) (k : b.grownBy c row) (hr : ∀ g, row = some g → a.heap.size ≤ g) : a.grownBy c none := by
  cases row with
  | none => exact grownBy_trans h k
  | some g => exact grownBy_new h k (hr g rfl)

/-- a slice's length -/
def sliceLen : Value → Nat
  | .slice _ n _ => n
  | _ => 0
theorem keep_far {X w' : World} {gp s o : Nat} {v : Value} (hgr : X.grownBy w' (some gp)) (hs : s < X.heap.size) (hne : s ≠ gp) (h : X.cell? ⟨s, o, none⟩ = some v) : w'.cell? ⟨s, o, none⟩ = some v :=
  (hgr.cell_far ⟨s, o, none⟩ hs (by simpa using hne)).trans h
theorem heap_two (w : World) (A B : Obj) : ((w.alloc A).alloc B).heap[w.heap.size + 1]? = some B := by
  have := heap_alloc_new (w.alloc A) B
  simpa using this
theorem grown_next {a b b' c : World} {g : Nat} (k : b'.grownBy c (some g)) (h : a.grownBy b none) (hs : Same b b') (hg : a.heap.size ≤ g) : a.grownBy c none := grownBy_new (grownBy_same h hs) k hg
theorem ownsRow_le {w : World} {base e size g n cap : Nat} {xs : List Value} (h : w.ownsRow base e size (.slice (some ⟨g, 0, none⟩) n cap) n xs) : n ≤ cap := by
  rcases h.2 with ⟨h', _⟩ | ⟨g', cap', cur, h', _, _, hc, _⟩
  · simp at h'
  · simp only [Value.slice.injEq, Option.some.injEq, Addr.mk.injEq, and_true, true_and] at h'
    obtain ⟨_, rfl⟩ := h'
    exact hc
theorem byteT : ∃ i, ByteT Tryz.prog 37 5 i := by
  obtain ⟨i0, hi, hz0, hz1, hz2⟩ := info_parts Tryz.infoByte
  exact ⟨i0, Tryz.underlying37, hi, hz0, hz1, hz2⟩

end Go.Proofs.YtjnegjgpkboocaaGreatDoor
/-
  Four bytes of a number.
-/
namespace Go.Proofs.YtjnegjgpkboocaaGreatDoor
open Go.RowKit

/-- four bytes of a number, the lowest first -/
def le4 (n : Nat) : List Nat := [n % 256, n / 256 % 256, n / 65536 % 256, n / 16777216 % 256]
theorem le4_len (n : Nat) : (le4 n).length = 4 := rfl
theorem le4_lt (n : Nat) : ∀ z ∈ le4 n, z < 256 := by
  intro z hz; simp [le4] at hz; omega
/-- the bytes behind k rounds of putNumber -/
def putN (zs : List Nat) (off n : Nat) : Nat → List Nat
  | 0 => zs
  | k + 1 => (putN zs off n k).set (off + k) ((le4 n).getD k 0)
theorem putN_len (zs : List Nat) (off n k : Nat) : (putN zs off n k).length = zs.length := by
  induction k with
  | zero => rfl
  | succ k ih => simp [putN, ih]
theorem putN_four (a b c : List Nat) (n : Nat) (hb : b.length = 4) : putN (a ++ b ++ c) a.length n 4 = a ++ le4 n ++ c := by
  obtain ⟨x, y, z, t, rfl⟩ : ∃ x y z t, b = [x, y, z, t] := by
    match b, hb with
    | [x, y, z, t], _ => exact ⟨x, y, z, t, rfl⟩
  simp [putN, le4]
theorem putN_lt (zs : List Nat) (off n k : Nat) (h : ∀ z ∈ zs, z < 256) : ∀ z ∈ putN zs off n k, z < 256 := by
  induction k with
  | zero => exact h
  | succ k ih =>
    intro z hz
    rcases List.mem_or_eq_of_mem_set hz with h1 | h1
    · exact ih z h1
    · subst h1
      by_cases hk : k < (le4 n).length
      · exact le4_lt n _ (by simp [List.getD, hk])
      · simp [List.getD, hk]
end Go.Proofs.YtjnegjgpkboocaaGreatDoor
/-
  The sum of chapter 3 as plain mathematics on Nat: bit by bit, by halves of a byte, over a list. No Go in it.
-/
namespace Go.Proofs.YtjnegjgpkboocaaGreatDoor.Crc
def P : Nat := 0x82F63B78
def step (x : Nat) : Nat := (x / 2) ^^^ (if x % 2 = 1 then P else 0)
theorem step_bit (x i : Nat) : (step x).testBit i = (x.testBit (i + 1) ^^ (x.testBit 0 && P.testBit i)) := by
  unfold step
  rw [Nat.testBit_xor, Nat.testBit_succ]
  have h0 : x.testBit 0 = decide (x % 2 = 1) := Nat.testBit_zero x
  by_cases h : x % 2 = 1 <;> simp [h, h0]
theorem step_xor (a b : Nat) : step (a ^^^ b) = step a ^^^ step b := by
  apply Nat.eq_of_testBit_eq
  intro i
  rw [Nat.testBit_xor, step_bit, step_bit, step_bit, Nat.testBit_xor, Nat.testBit_xor]
  cases a.testBit (i+1) <;> cases b.testBit (i+1) <;> cases a.testBit 0 <;> cases b.testBit 0 <;> cases P.testBit i <;> rfl
theorem step_even (q : Nat) : step (2 * q) = q := by
  unfold step
  rw [if_neg (by omega), Nat.mul_div_cancel_left q (by omega), Nat.xor_zero]
theorem step_lt (x : Nat) (h : x < 4294967296) : step x < 4294967296 := by
  unfold step
  exact Nat.xor_lt_two_pow (n := 32) (by omega) (by split <;> decide)
def step4 (x : Nat) : Nat := step (step (step (step x)))
theorem step4_lt (x : Nat) (h : x < 4294967296) : step4 x < 4294967296 := step_lt _ (step_lt _ (step_lt _ (step_lt _ h)))
theorem step4_xor (a b : Nat) : step4 (a ^^^ b) = step4 a ^^^ step4 b := by
  unfold step4; rw [step_xor, step_xor, step_xor, step_xor]
theorem split16 (x : Nat) : x = (16 * (x / 16)) ^^^ (x % 16) := by
  apply Nat.eq_of_testBit_eq
  intro i
  have e1 : (16 * (x / 16)) = (x / 2 ^ 4) * 2 ^ 4 := by omega
  have e2 : x % 16 = x % 2 ^ 4 := by omega
  rw [Nat.testBit_xor, e1, e2, Nat.testBit_mod_two_pow, Nat.testBit_mul_two_pow, Nat.testBit_div_two_pow]
  by_cases h : i < 4
  · simp [h, show ¬ 4 ≤ i by omega]
  · simp [h, show 4 ≤ i by omega, show i - 4 + 4 = i by omega]
theorem step4_split (x : Nat) : step4 x = (x / 16) ^^^ step4 (x % 16) := by
  have h := split16 x
  have e : step4 (16 * (x / 16)) = x / 16 := by
    have e1 : 16 * (x / 16) = 2 * (2 * (2 * (2 * (x / 16)))) := by omega
    unfold step4
    rw [e1, step_even, step_even, step_even, step_even]
  have e2 : step4 x = step4 (16 * (x/16)) ^^^ step4 (x % 16) := by
    rw [← step4_xor, ← h]
  rw [e2, e]
def T : List Nat := [0, 274646895, 549293790, 820201905, 1098587580, 1361435347, 1640403810, 1905808397, 2197175160, 2460548119, 2722870694, 2987750089, 3280807620, 3553878443, 3811616794, 4084100981]
theorem T_step (r : Nat) (h : r < 16) : T[r]? = some (step4 r) := by
  revert r; decide
/-- one byte -/
def crcB (s c : Nat) : Nat := step4 (step4 (s ^^^ c))
/-- many bytes -/
def crcL (s : Nat) (zs : List Nat) : Nat := zs.foldl crcB s
theorem crcB_lt (s c : Nat) (hs : s < 4294967296) (hc : c < 256) : crcB s c < 4294967296 :=
  step4_lt _ (step4_lt _ (Nat.xor_lt_two_pow (n := 32) hs (by omega)))
theorem crcL_nil (s : Nat) : crcL s [] = s := rfl
theorem crcL_snoc (s : Nat) (zs : List Nat) (c : Nat) : crcL s (zs ++ [c]) = crcB (crcL s zs) c := by
  unfold crcL; rw [List.foldl_append]; rfl
theorem crcL_append (s : Nat) (a b : List Nat) : crcL s (a ++ b) = crcL (crcL s a) b := by
  unfold crcL; rw [List.foldl_append]
theorem crcL_lt (zs : List Nat) (h : ∀ z ∈ zs, z < 256) : ∀ s, s < 4294967296 → crcL s zs < 4294967296 := by
  induction zs with
  | nil => intro s hs; exact hs
  | cons z r ih =>
    intro s hs
    exact ih (fun x hx => h x (List.mem_cons_of_mem _ hx)) _ (crcB_lt s z hs (h z List.mem_cons_self))
theorem take_snoc (zs : List Nat) (k : Nat) (h : k < zs.length) : zs.take (k + 1) = zs.take k ++ [zs.getD k 0] := by
  rw [List.take_succ_eq_append_getElem h]
  simp [List.getD, h]
theorem getD_mem (zs : List Nat) (k : Nat) (h : k < zs.length) : zs.getD k 0 ∈ zs := by
  simp [List.getD, h]
theorem lt_take (zs : List Nat) (k : Nat) (h : ∀ z ∈ zs, z < 256) : ∀ z ∈ zs.take k, z < 256 := fun z hz => h z (List.mem_of_mem_take hz)
/-- the whole sum -/
def crc (zs : List Nat) : Nat := 4294967295 - crcL 4294967295 zs
end Go.Proofs.YtjnegjgpkboocaaGreatDoor.Crc
/-
  A number out of bytes: the program's takeNumber, walked.
-/
namespace Go.Proofs.YtjnegjgpkboocaaGreatDoor
open Go.RowKit

/-- the number of bytes, the lowest first -/
def leVal : List Nat → Nat
  | [] => 0
  | z :: zs => z + 256 * leVal zs
theorem leVal_snoc (l : List Nat) (c : Nat) : leVal (l ++ [c]) = leVal l + 256 ^ l.length * c := by
  induction l with
  | nil => simp [leVal]
  | cons z l ih =>
    simp only [List.cons_append, leVal, ih, List.length_cons, Nat.pow_succ]
    rw [Nat.mul_add, ← Nat.mul_assoc, Nat.mul_comm 256 (256 ^ l.length)]
    omega
theorem leVal_lt (l : List Nat) (h : ∀ z ∈ l, z < 256) : leVal l < 256 ^ l.length := by
  induction l with
  | nil => simp [leVal]
  | cons z l ih =>
    have := ih (fun z hz => h z (by simp [hz]))
    have := h z (by simp)
    simp only [leVal, List.length_cons, Nat.pow_succ]
    omega
theorem le4_val (n : Nat) (h : n < 4294967296) : leVal (le4 n) = n := by simp [leVal, le4]; omega
theorem le4_of_val (l : List Nat) (h : ∀ z ∈ l, z < 256) (h4 : l.length = 4) : le4 (leVal l) = l := by
  match l, h4 with
  | [a, b, c, d], _ =>
    have ha := h a (by simp)
    have hb := h b (by simp)
    have hc := h c (by simp)
    have hd := h d (by simp)
    simp only [leVal, le4]
    congr 1
    · omega
    congr 1
    · omega
    congr 1
    · omega
    congr 1
    · omega
theorem or_add (x z i : Nat) (h : x < 2 ^ i) : x ||| (z * 2 ^ i) = x + z * 2 ^ i := by
  have := Nat.shiftLeft_add_eq_or_of_lt h z
  rw [Nat.shiftLeft_eq] at this
  rw [Nat.or_comm, ← this, Nat.add_comm]

set_option maxHeartbeats 1000000 in
theorem takeNumber_any (oa : Option Addr) (len cap : Nat) (zs : List Nat) (w : World) (hsl : SlB w oa len zs) (h4 : 4 ≤ len) (hm : len ≤ 1073741824) :
    Calls Tryz.prog 76 #[.slice oa len cap] w fun e w' => e = .returned (.int .u32 ((leVal (zs.take 4) : Nat) : Int)) ∧ w' = w := by
  obtain ⟨hl, hb, hc⟩ := hsl
  obtain ⟨b, off, rfl, hcc⟩ := hc (by omega)
  have HB : Hid (∀ z ∈ zs, z < 256) := hb
  have HC : Hid (∀ i, i < len → _) := hcc
  clear hb hcc hc
  go_enter Tryz.func76, Tryz.ntmps76
  go_wp2
  go_loop [3, 5] (fun v i => ∃ k : Nat, k ≤ 4 ∧ i = .int .i64 k ∧ v = .int .u32 ((leVal (zs.take k) : Nat) : Int)) (fun _ i => 4 - (intOf i).toNat)
  case atStart => exact ⟨0, Nat.zero_le _, rfl, rfl⟩
  case round =>
    obtain ⟨k, hk, rfl, rfl⟩ := hrel
    by_cases hlt : k < 4
    · have hck := HC.out k (by omega)
      obtain ⟨c, hce⟩ : ∃ c, c = zs.getD k 0 := ⟨_, rfl⟩
      have hc256 : c < 256 := by rw [hce]; exact HB.out _ (Crc.getD_mem _ _ (by omega))
      rw [← hce] at hck
      obtain ⟨x, hxe⟩ : ∃ x, x = leVal (zs.take k) := ⟨_, rfl⟩
      have hx : x < 256 ^ k := by
        have := leVal_lt (zs.take k) (fun z hz => HB.out z (List.mem_of_mem_take hz))
        rw [← hxe] at this
        simpa [show min k zs.length = k by omega] using this
      have HN : Hid (leVal (zs.take (k + 1)) = x + 256 ^ k * c) := by
        show _ = _
        rw [Crc.take_snoc zs k (by omega), leVal_snoc, ← hxe, ← hce]
        simp [show min k zs.length = k by omega]
      rw [← hxe]
      clear hce hxe
      rcases (show k = 0 ∨ k = 1 ∨ k = 2 ∨ k = 3 by omega) with rfl | rfl | rfl | rfl
      · have e1 : bits .or .u32 (x : Int) (c : Int) = ((x + 256 ^ 0 * c : Nat) : Int) := by
          have := or_add x c 0 (by simpa using hx)
          rw [u32_or_nat x c (by omega) (by omega)]
          simp at this ⊢
          rw [this]
          simp
        simp only [Nat.add_zero] at hck
        have e0 : ((c : Int) % 4294967296) = c := by omega
        go_wp2
        go_round
        case rel => exact ⟨1, by omega, by go_num, by rw [HN.out]; first | exact congrArg _ e1 | rfl | (simp; done)⟩
        case measure => simp [intOf]
      · have e1 : bits .or .u32 (x : Int) ((c : Int) * 256) = ((x + 256 ^ 1 * c : Nat) : Int) := by
          have := or_add x c 8 (by simpa using hx)
          rw [show (c : Int) * 256 = ((c * 256 : Nat) : Int) by omega, u32_or_nat x (c * 256) (by omega) (by omega)]
          rw [show c * 256 = c * 2 ^ 8 by rfl, this]; simp; omega
        have e0 : ((c : Int) % 4294967296) = c := by omega
        have e2 : ((c : Int) * 256) % 4294967296 = (c : Int) * 256 := by omega
        go_wp2
        go_round
        case rel => exact ⟨2, by omega, by go_num, by rw [HN.out]; first | exact congrArg _ e1 | rfl | (simp; done)⟩
        case measure => simp [intOf]
      · have e1 : bits .or .u32 (x : Int) ((c : Int) * 65536) = ((x + 256 ^ 2 * c : Nat) : Int) := by
          have := or_add x c 16 (by simpa using hx)
          rw [show (c : Int) * 65536 = ((c * 65536 : Nat) : Int) by omega, u32_or_nat x (c * 65536) (by omega) (by omega)]
          rw [show c * 65536 = c * 2 ^ 16 by rfl, this]; simp; omega
        have e0 : ((c : Int) % 4294967296) = c := by omega
        have e2 : ((c : Int) * 65536) % 4294967296 = (c : Int) * 65536 := by omega
        go_wp2
        go_round
        case rel => exact ⟨3, by omega, by go_num, by rw [HN.out]; first | exact congrArg _ e1 | rfl | (simp; done)⟩
        case measure => simp [intOf]
      · have e1 : bits .or .u32 (x : Int) ((c : Int) * 16777216) = ((x + 256 ^ 3 * c : Nat) : Int) := by
          have := or_add x c 24 (by simpa using hx)
          rw [show (c : Int) * 16777216 = ((c * 16777216 : Nat) : Int) by omega, u32_or_nat x (c * 16777216) (by omega) (by omega)]
          rw [show c * 16777216 = c * 2 ^ 24 by rfl, this]; simp; omega
        have e0 : ((c : Int) % 4294967296) = c := by omega
        have e2 : ((c : Int) * 16777216) % 4294967296 = (c : Int) * 16777216 := by omega
        go_wp2
        go_round
        case rel => exact ⟨4, by omega, by go_num, by rw [HN.out]; first | exact congrArg _ e1 | rfl | (simp; done)⟩
        case measure => simp [intOf]
    · obtain rfl : k = 4 := by omega
      go_wp2
      go_ret
      exact ⟨rfl, rfl⟩

end Go.Proofs.YtjnegjgpkboocaaGreatDoor
/-
  takeLong of eight bytes and more, walked.
-/
namespace Go.Proofs.YtjnegjgpkboocaaGreatDoor
open Go.RowKit

theorem val4_lt (l : List Nat) (h : ∀ z ∈ l, z < 256) (hl : l.length = 4) : leVal l < 4294967296 := by
  have := leVal_lt l h
  rw [hl] at this
  exact this
theorem wrapU64 (n : Int) : IntKind.u64.wrap n = n % 18446744073709551616 := by simp [IntKind.wrap, IntKind.bits, IntKind.signed]
theorem leVal_append (a b : List Nat) : leVal (a ++ b) = leVal a + 256 ^ a.length * leVal b := by
  induction a with
  | nil => simp [leVal]
  | cons x a ih => simp only [List.cons_append, leVal, ih, List.length_cons, Nat.pow_succ]; rw [Nat.mul_add, ← Nat.mul_assoc]; have : 256 * 256 ^ a.length = 256 ^ a.length * 256 := Nat.mul_comm _ _; rw [this]; omega
set_option maxRecDepth 4000 in
set_option maxHeartbeats 800000 in
theorem takeLong_n (b off len cap : Nat) (zs : List Nat) (w : World) (hsl : SlB w (some ⟨b, off, none⟩) len zs) (h8 : 8 ≤ len) (hc : len ≤ cap) (hm : cap ≤ maxLen) (hm2 : len ≤ 1048576) :
    Calls Tryz.prog 79 #[.slice (some ⟨b, off, none⟩) len cap] w fun e w' => e = .returned (.int .u64 ((leVal (zs.take 8) : Nat) : Int)) ∧ ∃ m, w' = w.drewN m := by
  unfold maxLen at hm
  have hl : zs.length = len := hsl.1
  obtain ⟨x, hx⟩ : ∃ x, leVal (zs.take 4) = x := ⟨_, rfl⟩
  obtain ⟨y, hy⟩ : ∃ y, leVal ((zs.drop 4).take 4) = y := ⟨_, rfl⟩
  have x4 : x < 4294967296 := by rw [← hx]; exact val4_lt _ (fun z hz => hsl.2.1 z (List.mem_of_mem_take hz)) (by simp; omega)
  have y4 : y < 4294967296 := by rw [← hy]; exact val4_lt _ (fun z hz => hsl.2.1 z (List.mem_of_mem_drop (List.mem_of_mem_take hz))) (by simp; omega)
  have HV : Hid (leVal (zs.take 8) = x + 4294967296 * y) := by
    show _ = _
    have e := leVal_append (zs.take 4) ((zs.drop 4).take 4)
    rw [hx, hy, List.length_take, Nat.min_eq_left (by omega)] at e
    rw [show (8 : Nat) = 4 + 4 from rfl, List.take_add, e]
  have H1 : Hid (∀ w', w'.heap = w.heap → Calls Tryz.prog 76 #[.slice (some ⟨b, off, none⟩) len cap] w' fun e w'' => e = .returned (.int .u32 (x : Int)) ∧ w'' = w') := by
    intro w' hw'
    have := takeNumber_any (some ⟨b, off, none⟩) len cap zs w' (hsl.heap hw') (by omega) (by omega)
    rw [hx] at this
    exact this
  have H2 : Hid (∀ w', w'.heap = w.heap → Calls Tryz.prog 76 #[.slice (some ⟨b, off + 4, none⟩) (len - 4) (cap - 4)] w' fun e w'' => e = .returned (.int .u32 (y : Int)) ∧ w'' = w') := by
    intro w' hw'
    have h8' := slb_cut hsl 4 (len - 4) (by omega)
    have h9 := takeNumber_any (some ⟨b, off + 4, none⟩) (len - 4) (cap - 4) _ w' (h8'.heap hw') (by omega) (by omega)
    rw [List.take_take, Nat.min_eq_left (by omega), hy] at h9
    exact h9
  have z1 : ¬ cap = 4 := by omega
  have z2 : (len : Int) ≤ (cap : Int) := by omega
  have z4 : (4 : Int) ≤ (len : Int) := by omega
  have z3 : (4 : Int) ≤ (cap : Int) := by omega
  have e0 : IntKind.u64.wrap (x : Int) = x := by rw [wrapU64]; omega
  have e1 : IntKind.u64.wrap (y : Int) = y := by rw [wrapU64]; omega
  have e2 : IntKind.u64.wrap ((y : Int) * 4294967296) = (y : Int) * 4294967296 := by rw [wrapU64]; omega
  have e3 : bits .or .u64 (x : Int) ((y : Int) * 4294967296) = ((x + 4294967296 * y : Nat) : Int) := by
    have := or_add x y 32 (by omega)
    rw [show (y : Int) * 4294967296 = ((y * 4294967296 : Nat) : Int) by omega, u64_or_nat x (y * 4294967296) (by omega) (by omega)]
    rw [show y * 4294967296 = y * 2 ^ 32 by rfl, this]; simp; omega
  clear hsl hx hy
  go_enter Tryz.func79, Tryz.ntmps79
  go_wp2
  go_quiet (first | (go_at_call 76; first | (refine calls_args (args := #[.slice (some ⟨b, off, none⟩) len cap]) (by rfl) ?_; refine Calls.quiet_of_same (H1.out _ rfl)) | (refine calls_args (args := #[.slice (some ⟨b, off + 4, none⟩) (len - 4) (cap - 4)]) (by rfl) ?_; refine Calls.quiet_of_same (H2.out _ rfl))) | fail)
  go_wp2
  go_ret
  have HVI : ((leVal (zs.take 8) : Nat) : Int) = (x : Int) + 4294967296 * (y : Int) := by rw [HV.out]; omega
  exact ⟨by rw [HVI]; rfl, _, rfl⟩
end Go.Proofs.YtjnegjgpkboocaaGreatDoor
/-
  A slice of bytes that came in, opened once: SlB. Nothing here reaches the dump.
-/
namespace Go.Proofs.YtjnegjgpkboocaaGreatDoor
open Go.ChangeShapes Go.WideShapes Go.ChangeAt Go.RowKit

theorem u8_bounds {n : Int} (h : (Lit.int .u8 n).wf = true) : 0 ≤ n ∧ n < 256 := by
  have := bounds_u8 h
  omega

theorem slb_open {H : Type} {enc : TypeId × Value → H} {P : Program} {W : World} {t e : TypeId} {a : Option Addr} {len cap : Nat} {d : DataW H} {p : List MemPlace}
    (hu : P.underlying t = some (.slice e)) (he : P.underlying e = some (.int .u8)) (hc : P.cellsOf e = 1)
    (h : DataW.Trod enc P W 0 (fun _ => true) true t (.slice a len cap) d p) : ∃ zs, SlB W a len zs ∧ len ≤ maxLen := by
  obtain ⟨fuel, hf⟩ := h
  rcases open_ints hu he hc hf with ⟨hcs, _⟩ | ⟨x, l, c, zs, hcs, _, hl, hm, hz, _, hcell, hwz⟩
  · simp [Value.cells] at hcs
    obtain ⟨rfl, rfl, rfl⟩ := hcs
    exact ⟨[], ⟨rfl, by simp, fun h => absurd rfl h⟩, Nat.zero_le _⟩
  · simp [Value.cells] at hcs
    obtain ⟨rfl, rfl, rfl⟩ := hcs
    have hz' : zs.length = cap := by simpa using hz
    refine ⟨(zs.take len).map Int.toNat, ⟨by simp; omega, ?_, fun hn => ?_⟩, by omega⟩
    · intro z hz1
      obtain ⟨n, hn, rfl⟩ := List.mem_map.1 hz1
      have := u8_bounds (hwz n (List.mem_of_mem_take hn))
      omega
    · obtain ⟨b, off, spot⟩ := x
      have h0 := hcell 0 (by omega)
      have hspot : spot = none := by simpa [Addr.add] using World.cell?_spot h0
      subst hspot
      refine ⟨b, off, rfl, fun i hi => ?_⟩
      have hi' := hcell i (by omega)
      have hb := u8_bounds (hwz (zs.getD i 0) (by simp [List.getD, show i < zs.length by omega]))
      have e1 : ((((zs.take len).map Int.toNat).getD i 0 : Nat) : Int) = zs.getD i 0 := by
        have : ((zs.take len).map Int.toNat).getD i 0 = (zs.getD i 0).toNat := by
          simp [List.getD, hi, show i < zs.length by omega]
        rw [this]; omega
      rw [e1]
      have e2 : (⟨b, off, none⟩ : Addr).add i = ⟨b, off + i, none⟩ := by
        by_cases h0' : i = 0 <;> simp [Addr.add, h0']
      rw [← e2]
      exact hi'
end Go.Proofs.YtjnegjgpkboocaaGreatDoor
/-
  Nested data: numbers, truths, bytes, rows of such; how it lies, what it tells; data that came in, opened.
-/
namespace Go.Proofs.YtjnegjgpkboocaaGreatDoor
open Go.ChangeShapes Go.WideShapes Go.ChangeAt Go.RowKit

inductive Tr where
  | int (n : Int)
  | bool (b : Bool)
  | str (s : ByteArray)
  | byt (d : List Nat) (a : Option Addr) (cp : Nat)
  | row (m : Nat) (a : Option Addr) (cp : Nat) (L : List (List Tr))
def Tr.cell : Tr → Value
  | .int n => .int .i64 n
  | .bool b => .bool b
  | .str s => .string s
  | .byt d a cp => .slice a d.length cp
  | .row _ a cp L => .slice a L.length cp
/-- .. without its places -/
inductive Td where
  | int (n : Int)
  | bool (b : Bool)
  | str (s : ByteArray)
  | byt (d : List Nat)
  | row (L : List (List Td))
mutual
def Tr.tell : Tr → Td
  | .int n => .int n
  | .bool b => .bool b
  | .str s => .str s
  | .byt d _ _ => .byt d
  | .row _ _ _ L => .row (tellRows L)
def tellRows : List (List Tr) → List (List Td)
  | [] => []
  | e :: L => tellEl e :: tellRows L
def tellEl : List Tr → List Td
  | [] => []
  | y :: e => y.tell :: tellEl e
end
theorem tellEl_map (e : List Tr) : tellEl e = e.map Tr.tell := by
  induction e with
  | nil => rfl
  | cons y e ih => simp [tellEl, ih]
theorem tellRows_map (L : List (List Tr)) : tellRows L = L.map (fun e => e.map Tr.tell) := by
  induction L with
  | nil => rfl
  | cons e L ih => simp [tellRows, tellEl_map, ih]
/-- a number of 64 bits -/
def I64 (n : Int) : Prop := -9223372036854775808 ≤ n ∧ n ≤ 9223372036854775807
/-- it lies there, and can be read -/
inductive Rd (w : World) : Tr → Prop
  | int {n : Int} (h : I64 n) : Rd w (.int n)
  | bool (b : Bool) : Rd w (.bool b)
  | str {s : ByteArray} (h : s.size ≤ maxLen) : Rd w (.str s)
  | byt {d : List Nat} {a : Option Addr} {cp : Nat} (hb : d.length ≤ maxLen) (h : SlB w a d.length d) : Rd w (.byt d a cp)
  | row {m : Nat} {a : Option Addr} {cp : Nat} {L : List (List Tr)} (hb : L.length ≤ maxLen) (hl : ∀ (i : Nat) (e : List Tr), L[i]? = some e → e.length = m)
      (hc : ∀ (i j : Nat) (e : List Tr) (y : Tr), L[i]? = some e → e[j]? = some y → ∃ b off, a = some ⟨b, off, none⟩ ∧ w.cell? ⟨b, off + i * m + j, none⟩ = some y.cell)
      (hr : ∀ (i j : Nat) (e : List Tr) (y : Tr), L[i]? = some e → e[j]? = some y → Rd w y) : Rd w (.row m a cp L)
theorem Rd.grown0 {w w' : World} {x : Tr} (h : Rd w x) (hg : w.grownBy w' none) : Rd w' x := by
  obtain ⟨hcell, -⟩ := bcell hg
  induction h with
  | int h => exact .int h
  | bool b => exact .bool b
  | str h => exact .str h
  | byt hb h => exact .byt hb (h.grown0 hg)
  | row hb hl hc _ ih =>
    refine .row hb hl (fun i j e y hi hj => ?_) ih
    obtain ⟨b, off, ha, h⟩ := hc i j e y hi hj
    exact ⟨b, off, ha, (hcell _ _ (cell_block_lt h)).trans h⟩
/-- a block of it -/
inductive InB : Tr → Nat → Prop
  | byt {d : List Nat} {a : Addr} {cp : Nat} : InB (.byt d (some a) cp) a.block
  | here {m : Nat} {a : Addr} {cp : Nat} {L : List (List Tr)} : InB (.row m (some a) cp L) a.block
  | sub {m : Nat} {a : Option Addr} {cp : Nat} {L : List (List Tr)} {i j k : Nat} {e : List Tr} {y : Tr} (hi : L[i]? = some e) (hj : e[j]? = some y) (h : InB y k) : InB (.row m a cp L) k
theorem SlB.keep {w w' : World} {a : Option Addr} {len : Nat} {zs : List Nat} (h : SlB w a len zs) (hk : ∀ b off, a = some ⟨b, off, none⟩ → w'.heap[b]? = w.heap[b]?) : SlB w' a len zs := by
  obtain ⟨h1, h2, h3⟩ := h
  refine ⟨h1, h2, fun hn => ?_⟩
  obtain ⟨b, off, ha, hc⟩ := h3 hn
  exact ⟨b, off, ha, fun i hi => (World.cell?_of_block (hk b off ha)).trans (hc i hi)⟩
theorem Rd.keep {w w' : World} {x : Tr} (h : Rd w x) (hk : ∀ k, InB x k → w'.heap[k]? = w.heap[k]?) : Rd w' x := by
  induction h with
  | int h => exact .int h
  | bool b => exact .bool b
  | str h => exact .str h
  | byt hb h => exact .byt hb (h.keep (fun b off ha => by subst ha; exact hk b .byt))
  | row hb hl hc _ ih =>
    refine .row hb hl (fun i j e y hi hj => ?_) (fun i j e y hi hj => ih i j e y hi hj (fun k hkk => hk k (.sub hi hj hkk)))
    obtain ⟨b, off, ha, h⟩ := hc i j e y hi hj
    refine ⟨b, off, ha, (World.cell?_of_block ?_).trans h⟩
    subst ha
    exact hk b .here
/-- a shape: what an element of a type is made of -/
inductive Ki where
  | int
  | bool
  | str
  | byt
  | row (ks : List Ki)
def Ki.leaf : Ki → Bool
  | .int => true
  | .bool => true
  | .str => true
  | _ => false
inductive Fits : Tr → Ki → Prop
  | int (n : Int) : Fits (.int n) .int
  | bool (b : Bool) : Fits (.bool b) .bool
  | str (s : ByteArray) : Fits (.str s) .str
  | byt (d : List Nat) (a : Option Addr) (cp : Nat) : Fits (.byt d a cp) .byt
  | row {a : Option Addr} {cp : Nat} {L : List (List Tr)} {ks : List Ki} (hl : ∀ (i : Nat) (e : List Tr), L[i]? = some e → e.length = ks.length)
      (hf : ∀ (i j : Nat) (e : List Tr) (y : Tr) (k : Ki), L[i]? = some e → e[j]? = some y → ks[j]? = some k → Fits y k) : Fits (.row ks.length a cp L) (.row ks)
def FitsL (es : List Tr) (ks : List Ki) : Prop := es.length = ks.length ∧ ∀ (j : Nat) (y : Tr) (k : Ki), es[j]? = some y → ks[j]? = some k → Fits y k
/-- .. as the program's types have it -/
inductive Flat (P : Program) : TypeId → List Ki → Prop
  | int {t : TypeId} (h : P.underlying t = some (.int .i64)) : Flat P t [.int]
  | bool {t : TypeId} (h : P.underlying t = some .bool) : Flat P t [.bool]
  | str {t : TypeId} (h : P.underlying t = some .string) : Flat P t [.str]
  | byt {t e : TypeId} (h : P.underlying t = some (.slice e)) (he : P.underlying e = some (.int .u8)) (hc : P.cellsOf e = 1) : Flat P t [.byt]
  | row {t e : TypeId} {ks : List Ki} (h : P.underlying t = some (.slice e)) (hc : P.cellsOf e = ks.length) (h0 : 0 < ks.length) (hf : Flat P e ks) : Flat P t [.row ks]
  | struct {t : TypeId} {fs : Array Field} {kk : List (List Ki)} (h : P.underlying t = some (.struct fs)) (hn : fs.size = kk.length) (hc : P.cellsOf t = kk.flatten.length)
      (ho : ∀ (i : Nat) (f : Field) (ks : List Ki), fs[i]? = some f → kk[i]? = some ks → f.offset = (kk.take i).flatten.length ∧ P.cellsOf f.type = ks.length)
      (hf : ∀ (i : Nat) (f : Field) (ks : List Ki), fs[i]? = some f → kk[i]? = some ks → Flat P f.type ks) : Flat P t kk.flatten
theorem exists_list {α : Type} (Q : Nat → α → Prop) (n : Nat) (h : ∀ i, i < n → ∃ x, Q i x) : ∃ L : List α, L.length = n ∧ ∀ (i : Nat) (x : α), L[i]? = some x → Q i x := by
  induction n with
  | zero => exact ⟨[], rfl, fun i x hx => by simp at hx⟩
  | succ n ih =>
    obtain ⟨L, hl, hL⟩ := ih (fun i hi => h i (by omega))
    obtain ⟨x, hx⟩ := h n (by omega)
    refine ⟨L ++ [x], by simp [hl], fun i y hy => ?_⟩
    rcases Nat.lt_or_ge i L.length with hi | hi
    · rw [List.getElem?_append_left hi] at hy; exact hL i y hy
    · rw [List.getElem?_append_right hi] at hy
      have : i - L.length < 1 := by have := (List.getElem?_eq_some_iff.1 hy).1; simpa using this
      have e : i - L.length = 0 := by omega
      rw [e] at hy
      obtain rfl : x = y := by simpa using hy
      obtain rfl : i = n := by omega
      exact hx
theorem flatten_get {α : Type} (kk : List (List α)) : ∀ (i : Nat) (ks : List α) (j : Nat), kk[i]? = some ks → j < ks.length → kk.flatten[(kk.take i).flatten.length + j]? = ks[j]? := by
  induction kk with
  | nil => intro i ks j h; simp at h
  | cons k kk ih =>
    intro i ks j h hj
    cases i with
    | zero =>
      simp at h
      subst h
      simp only [List.take_zero, List.flatten_nil, List.length_nil, Nat.zero_add, List.flatten_cons]
      rw [List.getElem?_append_left hj]
    | succ i =>
      have h1 := ih i ks j (by simpa using h) hj
      rw [List.flatten_cons, List.take_succ_cons, List.flatten_cons, List.length_append, Nat.add_assoc, List.getElem?_append_right (by omega), show k.length + ((kk.take i).flatten.length + j) - k.length = (kk.take i).flatten.length + j by omega]
      exact h1
theorem flatten_at {α : Type} (kk : List (List α)) : ∀ (p : Nat) (x : α), kk.flatten[p]? = some x → ∃ (i : Nat) (ks : List α) (j : Nat), kk[i]? = some ks ∧ ks[j]? = some x ∧ p = (kk.take i).flatten.length + j := by
  induction kk with
  | nil => intro p x h; simp at h
  | cons k kk ih =>
    intro p x h
    rw [List.flatten_cons] at h
    rcases Nat.lt_or_ge p k.length with hp | hp
    · rw [List.getElem?_append_left hp] at h
      exact ⟨0, k, p, rfl, h, by simp⟩
    · rw [List.getElem?_append_right hp] at h
      obtain ⟨i, ks, j, h1, h2, h3⟩ := ih _ x h
      exact ⟨i + 1, ks, j, by simpa using h1, h2, by simp only [List.take_succ_cons, List.flatten_cons, List.length_append]; omega⟩
theorem add_noneT (b off i : Nat) : (⟨b, off, none⟩ : Addr).add i = ⟨b, off + i, none⟩ := by
  by_cases h0 : i = 0 <;> simp [Addr.add, h0]
/-- what came in, opened: whatever its type, so that it is of numbers, truths, bytes and rows -/
theorem open_flat {H : Type} {enc : TypeId × Value → H} {P : Program} {W : World} {t : TypeId} {ks : List Ki} (hF : Flat P t ks) : ∀ (fuel : Nat) (cs : List Value) (x : DataW H × List MemPlace), DataW.trod enc P W 0 (fun _ => true) true fuel t cs = some x → ∃ es : List Tr, es.map Tr.cell = cs ∧ FitsL es ks ∧ ∀ y ∈ es, Rd W y := by
  induction hF with
  | int h =>
    intro fuel cs x hx
    obtain ⟨n, rfl, -, hwf⟩ := DataW.trod_int h hx
    have hI : I64 n := by
      simp only [Lit.wf, Bool.and_eq_true, decide_eq_true_eq] at hwf
      exact hwf
    refine ⟨[.int n], rfl, ⟨rfl, fun j y k hj hk => ?_⟩, by simp; exact .int hI⟩
    cases j with
    | zero => simp at hj hk; subst hj hk; exact .int n
    | succ j => simp at hj
  | bool h =>
    intro fuel cs x hx
    obtain ⟨b, rfl, -⟩ := DataW.trod_bool h hx
    refine ⟨[.bool b], rfl, ⟨rfl, fun j y k hj hk => ?_⟩, by simp; exact .bool b⟩
    cases j with
    | zero => simp at hj hk; subst hj hk; exact .bool b
    | succ j => simp at hj
  | str h =>
    intro fuel cs x hx
    obtain ⟨s, rfl, -, hs⟩ := DataW.trod_string h hx
    refine ⟨[.str s], rfl, ⟨rfl, fun j y k hj hk => ?_⟩, by simp; exact .str hs⟩
    cases j with
    | zero => simp at hj hk; subst hj hk; exact .str s
    | succ j => simp at hj
  | byt h he hc =>
    intro fuel cs x hx
    obtain ⟨a, len, cap, rfl⟩ : ∃ a len cap, cs = [.slice a len cap] := by
      rcases DataW.trod_slice h hx with ⟨h0, _⟩ | ⟨a, l, c, _, _, _, _, h0, _⟩
      · exact ⟨none, 0, 0, h0⟩
      · exact ⟨some a, l, c, h0⟩
    obtain ⟨zs, hs, hsm⟩ := slb_open (a := a) (len := len) (cap := cap) h he hc (d := x.1) (p := x.2) ⟨fuel, by simpa [Value.cells] using hx⟩
    have hzl := hs.1
    refine ⟨[.byt zs a cap], by simp [Tr.cell, hzl], ⟨rfl, fun j y k hj hk => ?_⟩, by simp; exact .byt (by rw [hzl]; exact hsm) (by rw [hzl]; exact hs)⟩
    cases j with
    | zero => simp at hj hk; subst hj hk; exact .byt _ _ _
    | succ j => simp at hj
  | @row t e ks h hc h0 hf ih =>
    intro fuel cs x hx
    have fin : ∀ (a : Option Addr) (cp : Nat) (L : List (List Tr)), L.length ≤ maxLen → (∀ (i : Nat) (el : List Tr), L[i]? = some el → FitsL el ks ∧ (∀ y ∈ el, Rd W y) ∧ ∀ (j : Nat) (y : Tr), el[j]? = some y → ∃ b off, a = some ⟨b, off, none⟩ ∧ W.cell? ⟨b, off + i * ks.length + j, none⟩ = some y.cell) → FitsL [.row ks.length a cp L] [.row ks] ∧ ∀ y ∈ [Tr.row ks.length a cp L], Rd W y := fun a cp L hmx hL => by
      refine ⟨⟨rfl, fun j y k hj hk => ?_⟩, fun y hy => ?_⟩
      · cases j with
        | zero =>
          simp at hj hk
          subst hj hk
          exact .row (fun i el hi => (hL i el hi).1.1) (fun i j el y k hi hj hk => (hL i el hi).1.2 j y k hj hk)
        | succ j => simp at hj
      · obtain rfl : y = _ := by simpa using hy
        exact .row hmx (fun i el hi => (hL i el hi).1.1) (fun i j el y hi hj => (hL i el hi).2.2 j y hj) (fun i j el y hi hj => (hL i el hi).2.1 y (List.mem_of_getElem? hj))
    rcases DataW.trod_slice h hx with ⟨h1, _⟩ | ⟨a, len, cap, elems, rest, n, _, hcs, -, _, hl, hm, hlen, hel, _, _⟩
    · subst h1
      exact ⟨[.row ks.length none 0 []], rfl, fin none 0 [] (Nat.zero_le _) (fun i el hi => by simp at hi)⟩
    · subst hcs
      have hsp0 : 0 < len → a.spot = none := fun h9 => by
        have h1 := hel 0 h9
        rw [List.getElem?_eq_getElem (by omega), Option.bind_eq_some_iff] at h1
        obtain ⟨cs', hcs', -⟩ := h1
        rw [hc] at hcs'
        obtain ⟨_, hcl, hcell⟩ := World.cells?_some hcs'
        have h2 := hcell 0 h0
        rw [List.getElem?_eq_getElem (by omega)] at h2
        have h3 := World.cell?_spot h2
        simpa [Addr.add] using h3
      have each : ∀ i, i < len → ∃ el : List Tr, FitsL el ks ∧ (∀ y ∈ el, Rd W y) ∧ ∀ (j : Nat) (y : Tr), el[j]? = some y → ∃ b off, some a = some (⟨b, off, none⟩ : Addr) ∧ W.cell? ⟨b, off + i * ks.length + j, none⟩ = some y.cell := fun i hi => by
        have h1 := hel i hi
        rw [List.getElem?_eq_getElem (by omega), Option.bind_eq_some_iff] at h1
        obtain ⟨cs', hcs', ht'⟩ := h1
        obtain ⟨el, hmap, hfit, hrd⟩ := ih n cs' _ ht'
        rw [hc] at hcs'
        obtain ⟨_, hcl, hcell⟩ := World.cells?_some hcs'
        have hell : el.length = ks.length := hfit.1
        have hcj : ∀ (j : Nat) (y : Tr), el[j]? = some y → W.cell? ((a.add (i * ks.length)).add j) = some y.cell := fun j y hj => by
          have hjl := (List.getElem?_eq_some_iff.1 hj).1
          have h2 := hcell j (by omega)
          rw [← hmap, List.getElem?_map, hj] at h2
          exact h2
        have hspot := hsp0 (by omega)
        obtain ⟨ab, ao, asp⟩ := a
        simp only at hspot
        subst hspot
        refine ⟨el, hfit, hrd, fun j y hj => ⟨ab, ao, rfl, ?_⟩⟩
        have h4 := hcj j y hj
        rw [add_noneT, add_noneT] at h4
        exact h4
      obtain ⟨L, hLl, hL⟩ := exists_list _ len each
      exact ⟨[.row ks.length (some a) cap L], by simp [Tr.cell, hLl], fin (some a) cap L (by omega) hL⟩
  | @struct t fs kk h hn hc ho hf ih =>
    intro fuel cs x hx
    obtain ⟨xs, n, rfl, -, hl, hlen, hfield⟩ := DataW.trod_struct h hx
    rw [hc] at hl
    have each : ∀ i, i < kk.length → ∃ el : List Tr, ∃ ks f, kk[i]? = some ks ∧ fs[i]? = some f ∧ el.map Tr.cell = (cs.drop f.offset).take ks.length ∧ FitsL el ks ∧ ∀ y ∈ el, Rd W y := fun i hi => by
      have hk := List.getElem?_eq_getElem hi
      have hfi : fs[i]? = some (fs[i]'(by omega)) := Array.getElem?_eq_getElem (by omega)
      have h1 := hfield i _ hfi
      rw [List.getElem?_eq_getElem (l := xs) (i := i) (by omega), (ho i _ _ hfi hk).2] at h1
      obtain ⟨el, h2, h3, h4⟩ := ih i _ _ hfi hk n _ _ h1
      exact ⟨el, _, _, hk, hfi, h2, h3, h4⟩
    obtain ⟨E, hEl, hE⟩ := exists_list _ kk.length each
    have hlens : ∀ (i : Nat) (el : List Tr) (ks : List Ki), E[i]? = some el → kk[i]? = some ks → el.length = ks.length := fun i el ks he hk => by
      obtain ⟨ks', f, hk', _, _, hfit, _⟩ := hE i el he
      rw [hk] at hk'
      obtain rfl := Option.some.inj hk'
      exact hfit.1
    have hpre : ∀ i, (E.take i).flatten.length = (kk.take i).flatten.length := fun i => by
      have e : (E.map List.length) = kk.map List.length := by
        refine List.ext_getElem? fun j => ?_
        rw [List.getElem?_map, List.getElem?_map]
        rcases Nat.lt_or_ge j kk.length with hj | hj
        · have h1 := List.getElem?_eq_getElem hj
          have h2 := List.getElem?_eq_getElem (l := E) (i := j) (by omega)
          rw [h1, h2]
          simp only [Option.map_some]
          rw [hlens j _ _ h2 h1]
        · rw [List.getElem?_eq_none (by omega), List.getElem?_eq_none hj]
          rfl
      rw [List.length_flatten, List.length_flatten, List.map_take, List.map_take, e]
    have hall : E.flatten.length = kk.flatten.length := by
      have h1 := hpre kk.length
      rwa [List.take_of_length_le (by omega), List.take_length] at h1
    refine ⟨E.flatten, ?_, ⟨hall, fun p y k hp hk => ?_⟩, fun y hy => ?_⟩
    · refine List.ext_getElem? fun p => ?_
      rw [List.getElem?_map]
      cases hp : E.flatten[p]? with
      | none =>
        have : E.flatten.length ≤ p := List.getElem?_eq_none_iff.1 hp
        rw [List.getElem?_eq_none (by omega)]
        rfl
      | some y =>
        obtain ⟨i, el, j, h1, h2, rfl⟩ := flatten_at E p y hp
        obtain ⟨ks, f, hk, hfi, hmap, hfit, _⟩ := hE i el h1
        have h3 : (el.map Tr.cell)[j]? = some y.cell := by rw [List.getElem?_map, h2]; rfl
        have hjl := (List.getElem?_eq_some_iff.1 h2).1
        rw [hmap, List.getElem?_take, if_pos (by rw [← hfit.1]; exact hjl), List.getElem?_drop, (ho i f ks hfi hk).1] at h3
        rw [hpre i, h3]
        rfl
    · obtain ⟨i, el, j, h1, h2, rfl⟩ := flatten_at E p y hp
      obtain ⟨ks, f, hk', hfi, hmap, hfit, _⟩ := hE i el h1
      have hjl := (List.getElem?_eq_some_iff.1 h2).1
      rw [hpre i, flatten_get kk i ks j hk' (by rw [← hfit.1]; exact hjl)] at hk
      exact hfit.2 j y k h2 hk
    · obtain ⟨el, hel, hy'⟩ := List.mem_flatten.1 hy
      obtain ⟨i, hi⟩ := List.getElem?_of_mem hel
      obtain ⟨_, _, _, _, _, _, hrd⟩ := hE i el hi
      exact hrd y hy'
end Go.Proofs.YtjnegjgpkboocaaGreatDoor
/-
  Nested data: rows, their elements one by one.
-/
namespace Go.Proofs.YtjnegjgpkboocaaGreatDoor
open Go.RowKit

/-- a row of elements of a shape lies there -/
def RowOk (w : World) (ks : List Ki) (a : Option Addr) (L : List (List Tr)) : Prop :=
  ∀ (i : Nat) (e : List Tr), L[i]? = some e → FitsL e ks ∧ (∀ y ∈ e, Rd w y) ∧ ∃ b off, a = some ⟨b, off, none⟩ ∧ ∀ (j : Nat) (y : Tr), e[j]? = some y → w.cell? ⟨b, off + i * ks.length + j, none⟩ = some y.cell
theorem RowOk.grown0 {w w' : World} {ks : List Ki} {a : Option Addr} {L : List (List Tr)} (h : RowOk w ks a L) (hg : w.grownBy w' none) : RowOk w' ks a L := fun i e hi => by
  obtain ⟨h1, h2, b, off, h3, h4⟩ := h i e hi
  obtain ⟨hc, -⟩ := bcell hg
  exact ⟨h1, fun y hy => (h2 y hy).grown0 hg, b, off, h3, fun j y hj => (hc _ _ (cell_block_lt (h4 j y hj))).trans (h4 j y hj)⟩
theorem Rd.rowOk {w : World} {ks : List Ki} {m cp : Nat} {a : Option Addr} {L : List (List Tr)} (h : Rd w (.row m a cp L)) (hf : Fits (.row m a cp L) (.row ks)) (h0 : 0 < ks.length) : RowOk w ks a L := by
  cases hf with
  | row hl hf =>
    cases h with
    | row _ hl' hc hr =>
      intro i e hi
      have he := hl i e hi
      refine ⟨⟨he, fun j y k hj hk => hf i j e y k hi hj hk⟩, fun y hy => ?_, ?_⟩
      · obtain ⟨j, hj⟩ := List.getElem?_of_mem hy
        exact hr i j e y hi hj
      · obtain ⟨b, off, ha, -⟩ := hc i 0 e _ hi (List.getElem?_eq_getElem (by omega))
        refine ⟨b, off, ha, fun j y hj => ?_⟩
        obtain ⟨b', off', ha', h⟩ := hc i j e y hi hj
        rw [ha] at ha'
        simp only [Option.some.injEq, Addr.mk.injEq, and_true] at ha'
        obtain ⟨rfl, rfl⟩ := ha'
        exact h
theorem RowOk.rd {w : World} {ks : List Ki} {cp : Nat} {a : Option Addr} {L : List (List Tr)} (h : RowOk w ks a L) (hb : L.length ≤ maxLen) : Rd w (.row ks.length a cp L) ∧ Fits (.row ks.length a cp L) (.row ks) := by
  refine ⟨.row hb (fun i e hi => (h i e hi).1.1) (fun i j e y hi hj => ?_) (fun i j e y hi hj => (h i e hi).2.1 y (List.mem_of_getElem? hj)), .row (fun i e hi => (h i e hi).1.1) (fun i j e y k hi hj hk => (h i e hi).1.2 j y k hj hk)⟩
  obtain ⟨-, -, b, off, ha, hc⟩ := h i e hi
  exact ⟨b, off, ha, hc j y hj⟩
theorem FitsL.nil {es : List Tr} (h : FitsL es []) : es = [] := List.eq_nil_of_length_eq_zero h.1
theorem FitsL.cons {es : List Tr} {k : Ki} {ks : List Ki} (h : FitsL es (k :: ks)) : ∃ y e, es = y :: e ∧ Fits y k ∧ FitsL e ks := by
  cases es with
  | nil => have := h.1; simp at this
  | cons y e => exact ⟨y, e, rfl, h.2 0 y k rfl rfl, by have := h.1; simpa using this, fun j z k' hj hk => h.2 (j + 1) z k' (by simpa using hj) (by simpa using hk)⟩
theorem Fits.isInt {y : Tr} (h : Fits y .int) : ∃ n, y = .int n := by cases h with | int n => exact ⟨n, rfl⟩
theorem Fits.isBool {y : Tr} (h : Fits y .bool) : ∃ b, y = .bool b := by cases h with | bool b => exact ⟨b, rfl⟩
theorem Fits.isStr {y : Tr} (h : Fits y .str) : ∃ s, y = .str s := by cases h with | str s => exact ⟨s, rfl⟩
theorem Fits.isByt {y : Tr} (h : Fits y .byt) : ∃ d a p, y = .byt d a p := by cases h with | byt d a p => exact ⟨d, a, p, rfl⟩
theorem Fits.isRow {y : Tr} {ks : List Ki} (h : Fits y (.row ks)) : ∃ a p L, y = .row ks.length a p L := by cases h with | @row a p L _ _ _ => exact ⟨a, p, L, rfl⟩
/-- its lengths are small -/
inductive Sm : Tr → Prop
  | int (n : Int) : Sm (.int n)
  | bool (b : Bool) : Sm (.bool b)
  | str (s : ByteArray) : Sm (.str s)
  | byt {d : List Nat} {a : Option Addr} {cp : Nat} (h : d.length ≤ 1048576) : Sm (.byt d a cp)
  | row {m : Nat} {a : Option Addr} {cp : Nat} {L : List (List Tr)} (h : L.length ≤ 1048576) (hs : ∀ (i j : Nat) (e : List Tr) (y : Tr), L[i]? = some e → e[j]? = some y → Sm y) : Sm (.row m a cp L)
def SmR (L : List (List Tr)) : Prop := L.length ≤ 1048576 ∧ ∀ (i j : Nat) (e : List Tr) (y : Tr), L[i]? = some e → e[j]? = some y → Sm y
theorem Sm.isByt {d : List Nat} {a : Option Addr} {cp : Nat} (h : Sm (.byt d a cp)) : d.length ≤ 1048576 := by cases h with | byt h => exact h
theorem Sm.isRow {m : Nat} {a : Option Addr} {cp : Nat} {L : List (List Tr)} (h : Sm (.row m a cp L)) : SmR L := by cases h with | row h hs => exact ⟨h, hs⟩
theorem Rd.isByt {w : World} {d : List Nat} {a : Option Addr} {cp : Nat} (h : Rd w (.byt d a cp)) : SlB w a d.length d := by cases h with | byt _ h => exact h
theorem Rd.isInt {w : World} {n : Int} (h : Rd w (.int n)) : I64 n := by cases h with | int h => exact h
theorem Rd.isStr {w : World} {s : ByteArray} (h : Rd w (.str s)) : s.size ≤ maxLen := by cases h with | str h => exact h
theorem Rd.lenB {w : World} {d : List Nat} {a : Option Addr} {cp : Nat} (h : Rd w (.byt d a cp)) : d.length ≤ maxLen := by cases h with | byt h _ => exact h
theorem Rd.lenR {w : World} {m : Nat} {a : Option Addr} {cp : Nat} {L : List (List Tr)} (h : Rd w (.row m a cp L)) : L.length ≤ maxLen := by cases h with | row h _ _ _ => exact h
/-- what a row tells -/
abbrev tellR (L : List (List Tr)) : List (List Td) := L.map (fun e => e.map Tr.tell)
theorem tell_row (m : Nat) (a : Option Addr) (cp : Nat) (L : List (List Tr)) : (Tr.row m a cp L).tell = .row (tellR L) := by simp [Tr.tell, tellRows_map]
theorem tellR_get {L L' : List (List Tr)} (h : tellR L = tellR L') {i : Nat} {e e' : List Tr} (hi : L[i]? = some e) (hi' : L'[i]? = some e') : e.map Tr.tell = e'.map Tr.tell := by
  have h1 : (tellR L)[i]? = some (e.map Tr.tell) := by simp [hi]
  have h2 : (tellR L')[i]? = some (e'.map Tr.tell) := by simp [hi']
  rw [h, h2] at h1
  exact (Option.some.inj h1).symm
/-- the same but for draws -/
def SameT (w x : World) : Prop := x.heap = w.heap ∧ x.os = w.os ∧ x.tape = w.tape ∧ x.output = w.output
theorem SameT.grown {w x : World} (h : SameT w x) : w.grownBy x none := ⟨h.2.1, h.2.2.1, h.2.2.2, by rw [h.1]; exact Nat.le_refl _, fun k _ _ => by rw [h.1]⟩
end Go.Proofs.YtjnegjgpkboocaaGreatDoor
/-
  Nested data: how much of it there is.
-/
namespace Go.Proofs.YtjnegjgpkboocaaGreatDoor
open Go.RowKit

mutual
def Td.tot : Td → Nat
  | .int _ => 0
  | .bool _ => 0
  | .str s => s.size
  | .byt d => d.length
  | .row L => L.length + tdRows L
def tdRows : List (List Td) → Nat
  | [] => 0
  | e :: L => tdEl e + tdRows L
def tdEl : List Td → Nat
  | [] => 0
  | y :: e => y.tot + tdEl e
end
theorem tdRows_append (A B : List (List Td)) : tdRows (A ++ B) = tdRows A + tdRows B := by
  induction A with
  | nil => simp [tdRows]
  | cons e A ih => simp [tdRows, ih]; omega
theorem tdEl_get {e : List Td} {j : Nat} {y : Td} (h : e[j]? = some y) : y.tot ≤ tdEl e := by
  induction e generalizing j with
  | nil => simp at h
  | cons z e ih =>
    cases j with
    | zero => simp at h; subst h; simp [tdEl]
    | succ j => have := ih (j := j) (by simpa using h); simp [tdEl]; omega
theorem tdRows_get {L : List (List Td)} {i : Nat} {e : List Td} (h : L[i]? = some e) : tdEl e ≤ tdRows L := by
  induction L generalizing i with
  | nil => simp at h
  | cons z L ih =>
    cases i with
    | zero => simp at h; subst h; simp [tdRows]
    | succ i => have := ih (i := i) (by simpa using h); simp [tdRows]; omega
/-- of a row; of its first k elements -/
def totR (L : List (List Tr)) : Nat := L.length + tdRows (tellR L)
def totTo (L : List (List Tr)) (k : Nat) : Nat := L.length + tdRows (tellR (L.take k))
theorem totTo_zero (L : List (List Tr)) : totTo L 0 = L.length := by simp [totTo, tdRows]
theorem totTo_all (L : List (List Tr)) : totTo L L.length = totR L := by simp [totTo, totR]
theorem totTo_succ {L : List (List Tr)} {k : Nat} {e : List Tr} (h : L[k]? = some e) : totTo L (k + 1) = totTo L k + tdEl (e.map Tr.tell) := by
  unfold totTo
  rw [List.take_add_one, h]
  simp only [tellR, List.map_append, tdRows_append, Option.toList, List.map_cons, List.map_nil, tdRows]
  omega
theorem totTo_le (L : List (List Tr)) (k : Nat) : totTo L k ≤ totR L := by
  unfold totTo totR
  have h : tellR L = tellR (L.take k) ++ tellR (L.drop k) := by simp only [tellR]; rw [← List.map_append, List.take_append_drop]
  rw [h, tdRows_append]
  omega
theorem totR_len (L : List (List Tr)) : L.length ≤ totR L := by unfold totR; omega
theorem tot_row (m : Nat) (a : Option Addr) (cp : Nat) (L : List (List Tr)) : (Tr.row m a cp L).tell.tot = totR L := by simp [Tr.tell, Td.tot, tellRows_map, totR]
theorem tot_byt (d : List Nat) (a : Option Addr) (cp : Nat) : (Tr.byt d a cp).tell.tot = d.length := by simp [Tr.tell, Td.tot]
theorem tot_str (s : ByteArray) : (Tr.str s).tell.tot = s.size := by simp [Tr.tell, Td.tot]
theorem tot_sub {L : List (List Tr)} {i j : Nat} {e : List Tr} {y : Tr} (hi : L[i]? = some e) (hj : e[j]? = some y) : y.tell.tot ≤ totR L := by
  have h1 : (tellR L)[i]? = some (e.map Tr.tell) := by simp [hi]
  have h2 : (e.map Tr.tell)[j]? = some y.tell := by simp [hj]
  have := tdRows_get h1
  have := tdEl_get h2
  unfold totR
  omega
theorem Rd.sm {w : World} {x : Tr} (h : Rd w x) (hb : x.tell.tot ≤ 1048576) : Sm x := by
  induction h with
  | int h => exact .int _
  | bool b => exact .bool b
  | str _ => exact .str _
  | byt _ h => rw [tot_byt] at hb; exact .byt hb
  | @row m a cp L _ hl hc _ ih =>
    rw [tot_row] at hb
    have := totR_len L
    exact .row (by omega) (fun i j e y hi hj => ih i j e y hi hj (by have := tot_sub hi hj; omega))
theorem RowOk.smR {w : World} {ks : List Ki} {a : Option Addr} {L : List (List Tr)} (h : RowOk w ks a L) (hb : totR L ≤ 1048576) : SmR L := by
  have := totR_len L
  exact ⟨by omega, fun i j e y hi hj => ((h i e hi).2.1 y (List.mem_of_getElem? hj)).sm (by have := tot_sub hi hj; omega)⟩
/-- the same but for the places: as much -/
theorem totR_tell {L L' : List (List Tr)} (h : tellR L = tellR L') : totR L = totR L' := by
  have h1 : L.length = L'.length := by have := congrArg List.length h; simpa using this
  unfold totR
  rw [h, h1]
end Go.Proofs.YtjnegjgpkboocaaGreatDoor
/-
  Nested data: an element, loaded whole.
-/
namespace Go.Proofs.YtjnegjgpkboocaaGreatDoor
open Go.RowKit

theorem load_el {P : Program} {w Y : World} {b o n : Nat} {e : List Tr} (hh : Y.heap = w.heap) (hn : e.length = n) (hc : ∀ (j : Nat) (y : Tr), e[j]? = some y → w.cell? ⟨b, o + j, none⟩ = some y.cell) : (loadCellsFrom ⟨b, o, none⟩ 0 n #[]).run P Y = .ok (e.map Tr.cell).toArray Y := by
  subst hn
  have h := run_loadCells_list (P := P) (w := Y) (a := ⟨b, o, none⟩) (cs := e.map Tr.cell) (fun j v hv => by
    rw [List.getElem?_map] at hv
    cases hj : e[j]? with
    | none => rw [hj] at hv; cases hv
    | some y =>
      rw [hj] at hv
      obtain rfl := Option.some.inj hv
      rw [add_noneT, World.cell?_of_block (w := w) (by rw [hh])]
      exact hc j y hj)
  rw [List.length_map] at h
  exact h
theorem range_el {w Y : World} {b o : Nat} {e : List Tr} (hc : ∀ (j : Nat) (y : Tr), e[j]? = some y → w.cell? ⟨b, o + j, none⟩ = some y.cell) (hh : Y.heap = w.heap := by rfl) : Y.rangeAt b o (e.map Tr.cell) := fun j v hv => by
  rw [List.getElem?_map] at hv
  cases hj : e[j]? with
  | none => rw [hj] at hv; cases hv
  | some y =>
    rw [hj] at hv
    obtain rfl := Option.some.inj hv
    rw [World.cell?_of_block (w := w) (by rw [hh])]
    exact hc j y hj
end Go.Proofs.YtjnegjgpkboocaaGreatDoor
/-
  Nested data that was made new: its blocks lie from lo on, each row apart from its elements' (they lie behind it), all may be written.
-/
namespace Go.Proofs.YtjnegjgpkboocaaGreatDoor
open Go.RowKit

inductive Made (w : World) (lo : Nat) : Tr → Prop
  | int {n : Int} (h : I64 n) : Made w lo (.int n)
  | bool (b : Bool) : Made w lo (.bool b)
  | str {s : ByteArray} (h : s.size ≤ maxLen) : Made w lo (.str s)
  | byt {d : List Nat} {g cp : Nat} (hg : lo ≤ g) (hb : d.length ≤ 1048576) (h : Own w 5 g d) (hcp : cp = d.length) : Made w lo (.byt d (some ⟨g, 0, none⟩) cp)
  | row {m g cp : Nat} {L : List (List Tr)} (hg : lo ≤ g) (hlt : g < w.heap.size) (hb : L.length ≤ 1048576) (hl : ∀ (i : Nat) (e : List Tr), L[i]? = some e → e.length = m)
      (hc : ∀ (i : Nat) (e : List Tr), L[i]? = some e → w.rangeAt g (i * m) (e.map Tr.cell)) (hf : ∀ o, w.frozen? ⟨g, o, none⟩ = false)
      (hs : ∀ (i j : Nat) (e : List Tr) (y : Tr), L[i]? = some e → e[j]? = some y → Made w lo y) : Made w lo (.row m (some ⟨g, 0, none⟩) cp L)
theorem World.frozen?_of_blockT {w w' : World} {a : Addr} (h : w'.heap[a.block]? = w.heap[a.block]?) : w'.frozen? a = w.frozen? a := by simp [World.frozen?, h]
theorem Made.keep {w w' : World} {lo : Nat} {x : Tr} (h : Made w lo x) (hsz : w.heap.size ≤ w'.heap.size) (hk : ∀ k, lo ≤ k → k < w.heap.size → w'.heap[k]? = w.heap[k]?) : Made w' lo x := by
  induction h with
  | int h => exact .int h
  | bool b => exact .bool b
  | str h => exact .str h
  | byt hg hb h hcp => exact .byt hg hb (h.of_block (hk _ hg (by obtain ⟨_, cur, hc, _⟩ := h; exact (Array.getElem?_eq_some_iff.1 hc).1))) hcp
  | row hg hlt hb hl hc hf _ ih =>
    exact .row hg (by omega) hb hl (fun i e hi j v hv => (World.cell?_of_block (hk _ hg hlt)).trans (hc i e hi j v hv)) (fun o => (World.frozen?_of_blockT (hk _ hg hlt)).trans (hf o)) ih
theorem Made.grown0 {w w' : World} {lo : Nat} {x : Tr} (h : Made w lo x) (hg : w.grownBy w' none) : Made w' lo x := h.keep hg.size (fun k _ hk => hg.block k hk (by simp))
theorem Made.low {w : World} {lo lo' : Nat} {x : Tr} (h : Made w lo x) (hle : lo' ≤ lo) : Made w lo' x := by
  induction h with
  | int h => exact .int h
  | bool b => exact .bool b
  | str h => exact .str h
  | byt hg hb h hcp => exact .byt (by omega) hb h hcp
  | row hg hlt hb hl hc hf _ ih => exact .row (by omega) hlt hb hl hc hf ih
theorem heap_setCells_other (b : Nat) : ∀ (vs : List Value) (o : Nat) (w : World) (k : Nat), k ≠ b → (w.setCells b o vs).heap[k]? = w.heap[k]?
  | [], _, _, _, _ => rfl
  | v :: r, o, w, k, h => by rw [World.setCells, heap_setCells_other b r (o + 1) _ k h, heap_setCell_other _ _ _ _ h]
theorem size_setCells (b : Nat) : ∀ (vs : List Value) (o : Nat) (w : World), (w.setCells b o vs).heap.size = w.heap.size
  | [], _, _ => rfl
  | v :: r, o, w => by rw [World.setCells, size_setCells b r (o + 1) _]; simp [World.setCell]
theorem grownBy_setCellsN {w0 : World} {b : Nat} (hb : w0.heap.size ≤ b) : ∀ (vs : List Value) (o : Nat) (w : World), w0.grownBy w none → w0.grownBy (w.setCells b o vs) none
  | [], _, _, h => h
  | v :: r, o, w, h => by rw [World.setCells]; exact grownBy_setCellsN hb r (o + 1) _ (grownBy_setNew h hb)
theorem Made.setCells {w : World} {lo b o : Nat} {vs : List Value} {x : Tr} (h : Made w lo x) (hb : b < lo) : Made (w.setCells b o vs) lo x :=
  h.keep (by rw [size_setCells]; exact Nat.le_refl _) (fun k hk _ => heap_setCells_other b vs o w k (by omega))
theorem Made.rd {w : World} {lo : Nat} {x : Tr} (h : Made w lo x) : Rd w x := by
  induction h with
  | int h => exact .int h
  | bool b => exact .bool b
  | str h => exact .str h
  | @byt d g cp hg hb h _ => exact .byt (by unfold maxLen; omega) (h.sl _ rfl)
  | @row m g cp L hg hlt hb hl hc hf _ ih =>
    refine .row (by unfold maxLen; omega) hl (fun i j e y hi hj => ⟨g, 0, rfl, ?_⟩) ih
    rw [Nat.zero_add]
    exact hc i e hi j _ (by rw [List.getElem?_map, hj]; rfl)
theorem Made.lt {w : World} {lo : Nat} {x : Tr} (h : Made w lo x) : ∀ k, InB x k → lo ≤ k ∧ k < w.heap.size := by
  induction h with
  | int _ => intro k hk; cases hk
  | bool b => intro k hk; cases hk
  | str h => intro k hk; cases hk
  | byt hg hb h => intro k hk; cases hk with | byt => obtain ⟨_, cur, hc, _⟩ := h; exact ⟨hg, (Array.getElem?_eq_some_iff.1 hc).1⟩
  | row hg hlt hb hl hc hf _ ih =>
    intro k hk
    cases hk with
    | here => exact ⟨hg, hlt⟩
    | sub hi hj h => exact ih _ _ _ _ hi hj k h
/-- out of a block: a fact on it in a later world -/
theorem grown_blk {W w' : World} {k : Nat} {o : Obj} (h : W.grownBy w' none) (hb : W.heap[k]? = some o) : w'.heap[k]? = some o :=
  (h.block k (Array.getElem?_eq_some_iff.1 hb).1 (by simp)).trans hb
theorem set_blk {W : World} {b : Nat} {cur : Array Value} {t : TypeId} (j : Nat) (v : Value) (h : W.heap[b]? = some (.cells cur t (0, 0))) : (W.setCell ⟨b, j, none⟩ v).heap[b]? = some (.cells (cur.setIfInBounds j v) t (0, 0)) := heap_setCell_same W b j cur t v h
theorem set_blkL {W : World} {b : Nat} {L : List Value} {t : TypeId} (j : Nat) (v : Value) (h : W.heap[b]? = some (.cells L.toArray t (0, 0))) : (W.setCell ⟨b, j, none⟩ v).heap[b]? = some (.cells (L.set j v).toArray t (0, 0)) := by
  have h1 := set_blk j v h
  rwa [List.setIfInBounds_toArray] at h1
theorem set_oth {W : World} {b b' : Nat} {o : Obj} (j : Nat) (v : Value) (hne : b' ≠ b) (h : W.heap[b']? = some o) : (W.setCell ⟨b, j, none⟩ v).heap[b']? = some o := (heap_setCell_other W ⟨b, j, none⟩ b' v hne).trans h
/-- a row that was made: whatever it holds, its cells are there -/
theorem there_of_block {w : World} {g : Nat} {cur : Array Value} {t : TypeId} {n : Nat} (h : w.heap[g]? = some (.cells cur t (0, 0))) (hn : n ≤ cur.size) : w.there g 0 n ∧ ∀ o, w.frozen? ⟨g, o, none⟩ = false := by
  have hf : ∀ o, w.frozen? ⟨g, o, none⟩ = false := fun o => by simp [World.frozen?, h]
  refine ⟨fun j hj => ⟨?_, by rw [Nat.zero_add]; exact hf j⟩, hf⟩
  rw [Nat.zero_add, cell_of_row w g j cur t (0, 0) h, Array.getElem?_eq_getElem (by omega)]
  rfl
theorem there_sub {w : World} {g n o k : Nat} (h : w.there g 0 n) (hk : o + k ≤ n) : w.there g o k := fun j hj => by
  have := h (o + j) (by omega)
  rwa [Nat.zero_add] at this
/-- a row as it is filled -/
structure Fill (w wr : World) (g n m : Nat) (L M : List (List Tr)) (ks : List Ki) : Prop where
  lt : g < wr.heap.size
  there : wr.there g 0 (n * m)
  free : ∀ o, wr.frozen? ⟨g, o, none⟩ = false
  cells : ∀ (i : Nat) (e : List Tr), M[i]? = some e → wr.rangeAt g (i * m) (e.map Tr.cell)
  fit : ∀ e ∈ M, FitsL e ks
  made : ∀ e ∈ M, ∀ y ∈ e, Made wr (g + 1) y
  tell : tellR M = tellR (L.take M.length)
  grown : w.grownBy wr none
theorem Fill.step {w wr w1 : World} {g n m : Nat} {L M : List (List Tr)} {ks : List Ki} (h : Fill w wr g n m L M ks) (hg : w.heap.size ≤ g) (hkm : ks.length = m) (hG : wr.grownBy w1 none) {e e' : List Tr} (he : L[M.length]? = some e) (hM : M.length < n) (hf : FitsL e' ks)
    (hmd : ∀ y ∈ e', Made w1 (g + 1) y) (ht : e'.map Tr.tell = e.map Tr.tell) : Fill w (w1.setCells g (M.length * m) (e'.map Tr.cell)) g n m L (M ++ [e']) ks := by
  have hlen : (e'.map Tr.cell).length = m := by rw [List.length_map, hf.1, hkm]
  have hb := bcell hG
  have hth : w1.there g 0 (n * m) := fun j hj => by
    obtain ⟨h1, h2⟩ := h.there j hj
    exact ⟨by rw [hb.1 _ _ h.lt]; exact h1, by rw [hb.2 _ _ h.lt]; exact h2⟩
  have hin : M.length * m + m ≤ n * m := by
    have h9 := Nat.mul_le_mul_right m (show M.length + 1 ≤ n by omega)
    rw [Nat.succ_mul] at h9
    exact h9
  refine ⟨by rw [size_setCells]; have := hG.size; have := h.lt; omega, World.there_setCells hth _ _ _, fun o => by rw [World.frozen?_setCells, hb.2 _ _ h.lt]; exact h.free o, fun i x hi => ?_, fun x hx => ?_, fun x hx => ?_, ?_, grownBy_setCellsN hg _ _ _ (grownBy_trans h.grown hG)⟩
  · rcases Nat.lt_or_ge i M.length with hil | hil
    · rw [List.getElem?_append_left hil] at hi
      have h1 : w1.rangeAt g (i * m) (x.map Tr.cell) := fun j v hv => (hb.1 _ _ h.lt).trans (h.cells i x hi j v hv)
      refine World.rangeAt_setCells_apart h1 _ _ _ (.inr (.inl ?_))
      have h2 := h.fit x (List.mem_of_getElem? hi)
      rw [List.length_map, h2.1, hkm]
      have h9 := Nat.mul_le_mul_right m (show i + 1 ≤ M.length by omega)
      rw [Nat.succ_mul] at h9
      exact h9
    · rw [List.getElem?_append_right hil] at hi
      have h0 : i - M.length < 1 := by have := (List.getElem?_eq_some_iff.1 hi).1; simpa using this
      have e0 : i - M.length = 0 := by omega
      rw [e0] at hi
      obtain rfl : e' = x := by simpa using hi
      obtain rfl : i = M.length := by omega
      exact World.rangeAt_setCells_same _ _ _ _ (by rw [hlen]; exact there_sub hth hin)
  · rcases List.mem_append.1 hx with hx | hx
    · exact h.fit x hx
    · obtain rfl : x = e' := by simpa using hx
      exact hf
  · rcases List.mem_append.1 hx with hx | hx
    · exact fun y hy => ((h.made x hx y hy).grown0 hG).setCells (by omega)
    · obtain rfl : x = e' := by simpa using hx
      exact fun y hy => (hmd y hy).setCells (by omega)
  · rw [List.length_append, List.length_singleton, List.take_add_one, he]
    have h1 := h.tell
    simp only [tellR, List.map_append, Option.toList, List.map_cons, List.map_nil, ht] at h1 ⊢
    rw [h1]
theorem Fill.all {w wr : World} {g n m cp : Nat} {L M : List (List Tr)} {ks : List Ki} (h : Fill w wr g n m L M ks) (hkm : ks.length = m) (hM : M.length = n) (hL : L.length = n) (hn : n ≤ 1048576) :
    Made wr g (.row ks.length (some ⟨g, 0, none⟩) cp M) ∧ Fits (.row ks.length (some ⟨g, 0, none⟩) cp M) (.row ks) ∧ tellR M = tellR L := by
  have hfi : ∀ (i : Nat) (e : List Tr), M[i]? = some e → FitsL e ks := fun i e hi => h.fit e (List.mem_of_getElem? hi)
  refine ⟨.row (Nat.le_refl _) h.lt (by omega) (fun i e hi => (hfi i e hi).1) (fun i e hi => by rw [hkm]; exact h.cells i e hi) h.free (fun i j e y hi hj => (h.made e (List.mem_of_getElem? hi) y (List.mem_of_getElem? hj)).low (by omega)), .row (fun i e hi => (hfi i e hi).1) (fun i j e y k hi hj hk => (hfi i e hi).2 j y k hj hk), ?_⟩
  rw [h.tell, hM, ← hL, List.take_length]
theorem results_cell1 {fn : Func} {p : Tmp} {ty : TypeId} (h : fn.results = #[.cell p ty]) (tmps : Array Value) (P : Program) (w : World) :
    (results fn tmps).run P w = ((asAddr (tmps.getD p undef)).run P w).andThen fun a w₁ => (loadVar ty a).run P w₁ := by
  simp only [results, h]
  simp [Sem.run_bind]
theorem results_ret {fn : Func} {p : Tmp} {ty : TypeId} (h : fn.results = #[.cell p ty]) {tmps : Array Value} {P : Program} {w : World} {v : Value} {a : Addr} (hp : tmps.getD p undef = .pointer (some a)) (hl : (loadVar ty a).run P w = .ok v w) :
    (results fn tmps).run P w = .ok v w := by
  rw [results_cell1 h, hp]
  simp [asAddr, Result.andThen, hl]
end Go.Proofs.YtjnegjgpkboocaaGreatDoor
/-
  The forms of records: recordForms and take, walked.
-/
namespace Go.Proofs.YtjnegjgpkboocaaGreatDoor
open Go.RowKit

/-- the bounds of a type's numbers, and the most bytes behind them -/
def wb : Nat → List (Nat × Nat)
  | 1 => [(1, 99999999), (1, 1000000), (0, 1000000000)]
  | 2 => [(1, 1000000), (0, 1000000000)]
  | 3 => [(1, 1000000), (0, 1000000000)]
  | 4 => [(0, 1000000000), (0, 7)]
  | 5 => [(1, 1000000), (0, 1000000000)]
  | 6 => [(0, 1000000)]
  | 7 => [(0, 1000000), (0, 1000000000)]
  | _ => []
def wroom : Nat → Nat
  | 2 => 128
  | 5 => 8000
  | _ => 0
/-- bounds as they lie -/
def bcs (bs : List (Nat × Nat)) : List Value := bs.flatMap (fun b => [.int .i64 (b.1 : Int), .int .i64 (b.2 : Int)])
def BdR (w : World) (g : Nat) (bs : List (Nat × Nat)) : Prop := w.heap[g]? = some (.cells (bcs bs).toArray 113 (0, 0))
/-- the table of forms, its rows of bounds from block S on -/
def formCs (S : Nat) : List Value := [.slice none 0 0, .int .i64 0, .nilFunc, .slice (some ⟨S, 0, none⟩) 3 3, .int .i64 0, .func (.func 53) #[] #[], .slice (some ⟨S + 1, 0, none⟩) 2 2, .int .i64 128, .func (.func 54) #[] #[], .slice (some ⟨S + 2, 0, none⟩) 2 2, .int .i64 0, .func (.func 55) #[] #[], .slice (some ⟨S + 3, 0, none⟩) 2 2, .int .i64 0, .func (.func 56) #[] #[], .slice (some ⟨S + 4, 0, none⟩) 2 2, .int .i64 8000, .func (.func 56) #[] #[], .slice (some ⟨S + 5, 0, none⟩) 1 1, .int .i64 0, .func (.func 56) #[] #[], .slice (some ⟨S + 6, 0, none⟩) 2 2, .int .i64 0, .func (.func 57) #[] #[]]
def Forms (w : World) (S : Nat) : Prop := ∀ ty, 1 ≤ ty → ty ≤ 7 → BdR w (S + (ty - 1)) (wb ty)
theorem Forms.grown0 {w w' : World} {S : Nat} (h : Forms w S) (hg : w.grownBy w' none) : Forms w' S := fun ty h1 h2 => grown_blk hg (h ty h1 h2)
theorem setCells_oth (g k : Nat) (hk : k ≠ g) : ∀ (vs : List Value) (o : Nat) (w : World), (w.setCells g o vs).heap[k]? = w.heap[k]?
  | [], _, _ => rfl
  | v :: r, o, w => by rw [World.setCells, setCells_oth g k hk r (o + 1) _, heap_setCell_other w _ k v hk]
set_option maxRecDepth 8000 in
set_option maxHeartbeats 4000000 in
theorem recordForms_any (w : World) :
    Calls Tryz.prog 37 #[] w fun e w' => ∃ S, e = .returned (.agg (formCs S).toArray) ∧ Forms w' S ∧ w.heap.size ≤ S ∧ w.grownBy w' none := by
  have hT : ∀ Y : World, (w.alloc (.cells #[.slice none 0 0, .int .i64 0, .nilFunc, .slice none 0 0, .int .i64 0, .nilFunc, .slice none 0 0, .int .i64 0, .nilFunc, .slice none 0 0, .int .i64 0, .nilFunc, .slice none 0 0, .int .i64 0, .nilFunc, .slice none 0 0, .int .i64 0, .nilFunc, .slice none 0 0, .int .i64 0, .nilFunc, .slice none 0 0, .int .i64 0, .nilFunc] 58)).grownBy Y none → Y.there w.heap.size 0 24 := fun Y hY => (there_of_block (grown_blk hY (heap_alloc_new w _)) (by simp)).1
  go_enter Tryz.func37, Tryz.ntmps37
  go_wp2_with (refine wpList_store_mid (by rfl) _ (.tmp 0) (.tmp 39) (by rfl) _ _ _ (by rfl) (by rfl) ?sa ?sb ?sc ?sd; exact hT _ (by repeat (first | exact grownBy_refl _ _ | apply grownBy_alloc)); show _ = some 24; kernel_rfl; exact all_oneCell_toArray (List.all_eq_true.1 rfl); simp only [Act.put])
  generalize hW : ((((((((((((w.alloc (.cells #[.slice none 0 0, .int .i64 0, .nilFunc, .slice none 0 0, .int .i64 0, .nilFunc, .slice none 0 0, .int .i64 0, .nilFunc, .slice none 0 0, .int .i64 0, .nilFunc, .slice none 0 0, .int .i64 0, .nilFunc, .slice none 0 0, .int .i64 0, .nilFunc, .slice none 0 0, .int .i64 0, .nilFunc, .slice none 0 0, .int .i64 0, .nilFunc] 58)).alloc (.cells #[.int .i64 1, .int .i64 99999999] 113)).alloc (.cells #[.int .i64 0, .int .i64 1000000] 113)).alloc (.cells #[.int .i64 1, .int .i64 1000000] 113)).alloc (.cells #[.int .i64 0, .int .i64 1000000000] 113)).alloc (.cells #[.int .i64 0, .int .i64 7] 113)).alloc (.cells #[.int .i64 1, .int .i64 99999999, .int .i64 1, .int .i64 1000000, .int .i64 0, .int .i64 1000000000] 113)).alloc (.cells #[.int .i64 1, .int .i64 1000000, .int .i64 0, .int .i64 1000000000] 113)).alloc (.cells #[.int .i64 1, .int .i64 1000000, .int .i64 0, .int .i64 1000000000] 113)).alloc (.cells #[.int .i64 0, .int .i64 1000000000, .int .i64 0, .int .i64 7] 113)).alloc (.cells #[.int .i64 1, .int .i64 1000000, .int .i64 0, .int .i64 1000000000] 113)).alloc (.cells #[.int .i64 0, .int .i64 1000000] 113)).alloc (.cells #[.int .i64 0, .int .i64 1000000, .int .i64 0, .int .i64 1000000000] 113) = W
  have HW : Hid (W.there w.heap.size 0 24 ∧ w.grownBy W none ∧ W.heap[w.heap.size + 6]? = some (.cells #[.int .i64 1, .int .i64 99999999, .int .i64 1, .int .i64 1000000, .int .i64 0, .int .i64 1000000000] 113 (0, 0)) ∧ W.heap[w.heap.size + 7]? = some (.cells #[.int .i64 1, .int .i64 1000000, .int .i64 0, .int .i64 1000000000] 113 (0, 0)) ∧ W.heap[w.heap.size + 8]? = some (.cells #[.int .i64 1, .int .i64 1000000, .int .i64 0, .int .i64 1000000000] 113 (0, 0)) ∧ W.heap[w.heap.size + 9]? = some (.cells #[.int .i64 0, .int .i64 1000000000, .int .i64 0, .int .i64 7] 113 (0, 0)) ∧ W.heap[w.heap.size + 10]? = some (.cells #[.int .i64 1, .int .i64 1000000, .int .i64 0, .int .i64 1000000000] 113 (0, 0)) ∧ W.heap[w.heap.size + 11]? = some (.cells #[.int .i64 0, .int .i64 1000000] 113 (0, 0)) ∧ W.heap[w.heap.size + 12]? = some (.cells #[.int .i64 0, .int .i64 1000000, .int .i64 0, .int .i64 1000000000] 113 (0, 0))) := by
    subst hW
    refine ⟨hT _ (by repeat (first | exact grownBy_refl _ _ | apply grownBy_alloc)), (by repeat (first | exact World.grownBy_alloc _ _ _ | apply grownBy_alloc)), ?_, ?_, ?_, ?_, ?_, ?_, ?_⟩
    · have h := heap_alloc_new ((((((w.alloc (.cells #[.slice none 0 0, .int .i64 0, .nilFunc, .slice none 0 0, .int .i64 0, .nilFunc, .slice none 0 0, .int .i64 0, .nilFunc, .slice none 0 0, .int .i64 0, .nilFunc, .slice none 0 0, .int .i64 0, .nilFunc, .slice none 0 0, .int .i64 0, .nilFunc, .slice none 0 0, .int .i64 0, .nilFunc, .slice none 0 0, .int .i64 0, .nilFunc] 58)).alloc (.cells #[.int .i64 1, .int .i64 99999999] 113)).alloc (.cells #[.int .i64 0, .int .i64 1000000] 113)).alloc (.cells #[.int .i64 1, .int .i64 1000000] 113)).alloc (.cells #[.int .i64 0, .int .i64 1000000000] 113)).alloc (.cells #[.int .i64 0, .int .i64 7] 113)) (.cells #[.int .i64 1, .int .i64 99999999, .int .i64 1, .int .i64 1000000, .int .i64 0, .int .i64 1000000000] 113 (0, 0))
      have e : ((((((w.alloc (.cells #[.slice none 0 0, .int .i64 0, .nilFunc, .slice none 0 0, .int .i64 0, .nilFunc, .slice none 0 0, .int .i64 0, .nilFunc, .slice none 0 0, .int .i64 0, .nilFunc, .slice none 0 0, .int .i64 0, .nilFunc, .slice none 0 0, .int .i64 0, .nilFunc, .slice none 0 0, .int .i64 0, .nilFunc, .slice none 0 0, .int .i64 0, .nilFunc] 58)).alloc (.cells #[.int .i64 1, .int .i64 99999999] 113)).alloc (.cells #[.int .i64 0, .int .i64 1000000] 113)).alloc (.cells #[.int .i64 1, .int .i64 1000000] 113)).alloc (.cells #[.int .i64 0, .int .i64 1000000000] 113)).alloc (.cells #[.int .i64 0, .int .i64 7] 113)).heap.size = w.heap.size + 6 := by simp
      rw [e] at h; exact (grown_blk (World.grownBy_alloc _ _ _) (grown_blk (World.grownBy_alloc _ _ _) (grown_blk (World.grownBy_alloc _ _ _) (grown_blk (World.grownBy_alloc _ _ _) (grown_blk (World.grownBy_alloc _ _ _) (grown_blk (World.grownBy_alloc _ _ _) h))))))
    · have h := heap_alloc_new (((((((w.alloc (.cells #[.slice none 0 0, .int .i64 0, .nilFunc, .slice none 0 0, .int .i64 0, .nilFunc, .slice none 0 0, .int .i64 0, .nilFunc, .slice none 0 0, .int .i64 0, .nilFunc, .slice none 0 0, .int .i64 0, .nilFunc, .slice none 0 0, .int .i64 0, .nilFunc, .slice none 0 0, .int .i64 0, .nilFunc, .slice none 0 0, .int .i64 0, .nilFunc] 58)).alloc (.cells #[.int .i64 1, .int .i64 99999999] 113)).alloc (.cells #[.int .i64 0, .int .i64 1000000] 113)).alloc (.cells #[.int .i64 1, .int .i64 1000000] 113)).alloc (.cells #[.int .i64 0, .int .i64 1000000000] 113)).alloc (.cells #[.int .i64 0, .int .i64 7] 113)).alloc (.cells #[.int .i64 1, .int .i64 99999999, .int .i64 1, .int .i64 1000000, .int .i64 0, .int .i64 1000000000] 113)) (.cells #[.int .i64 1, .int .i64 1000000, .int .i64 0, .int .i64 1000000000] 113 (0, 0))
      have e : (((((((w.alloc (.cells #[.slice none 0 0, .int .i64 0, .nilFunc, .slice none 0 0, .int .i64 0, .nilFunc, .slice none 0 0, .int .i64 0, .nilFunc, .slice none 0 0, .int .i64 0, .nilFunc, .slice none 0 0, .int .i64 0, .nilFunc, .slice none 0 0, .int .i64 0, .nilFunc, .slice none 0 0, .int .i64 0, .nilFunc, .slice none 0 0, .int .i64 0, .nilFunc] 58)).alloc (.cells #[.int .i64 1, .int .i64 99999999] 113)).alloc (.cells #[.int .i64 0, .int .i64 1000000] 113)).alloc (.cells #[.int .i64 1, .int .i64 1000000] 113)).alloc (.cells #[.int .i64 0, .int .i64 1000000000] 113)).alloc (.cells #[.int .i64 0, .int .i64 7] 113)).alloc (.cells #[.int .i64 1, .int .i64 99999999, .int .i64 1, .int .i64 1000000, .int .i64 0, .int .i64 1000000000] 113)).heap.size = w.heap.size + 7 := by simp
      rw [e] at h; exact (grown_blk (World.grownBy_alloc _ _ _) (grown_blk (World.grownBy_alloc _ _ _) (grown_blk (World.grownBy_alloc _ _ _) (grown_blk (World.grownBy_alloc _ _ _) (grown_blk (World.grownBy_alloc _ _ _) h)))))
    · have h := heap_alloc_new ((((((((w.alloc (.cells #[.slice none 0 0, .int .i64 0, .nilFunc, .slice none 0 0, .int .i64 0, .nilFunc, .slice none 0 0, .int .i64 0, .nilFunc, .slice none 0 0, .int .i64 0, .nilFunc, .slice none 0 0, .int .i64 0, .nilFunc, .slice none 0 0, .int .i64 0, .nilFunc, .slice none 0 0, .int .i64 0, .nilFunc, .slice none 0 0, .int .i64 0, .nilFunc] 58)).alloc (.cells #[.int .i64 1, .int .i64 99999999] 113)).alloc (.cells #[.int .i64 0, .int .i64 1000000] 113)).alloc (.cells #[.int .i64 1, .int .i64 1000000] 113)).alloc (.cells #[.int .i64 0, .int .i64 1000000000] 113)).alloc (.cells #[.int .i64 0, .int .i64 7] 113)).alloc (.cells #[.int .i64 1, .int .i64 99999999, .int .i64 1, .int .i64 1000000, .int .i64 0, .int .i64 1000000000] 113)).alloc (.cells #[.int .i64 1, .int .i64 1000000, .int .i64 0, .int .i64 1000000000] 113)) (.cells #[.int .i64 1, .int .i64 1000000, .int .i64 0, .int .i64 1000000000] 113 (0, 0))
      have e : ((((((((w.alloc (.cells #[.slice none 0 0, .int .i64 0, .nilFunc, .slice none 0 0, .int .i64 0, .nilFunc, .slice none 0 0, .int .i64 0, .nilFunc, .slice none 0 0, .int .i64 0, .nilFunc, .slice none 0 0, .int .i64 0, .nilFunc, .slice none 0 0, .int .i64 0, .nilFunc, .slice none 0 0, .int .i64 0, .nilFunc, .slice none 0 0, .int .i64 0, .nilFunc] 58)).alloc (.cells #[.int .i64 1, .int .i64 99999999] 113)).alloc (.cells #[.int .i64 0, .int .i64 1000000] 113)).alloc (.cells #[.int .i64 1, .int .i64 1000000] 113)).alloc (.cells #[.int .i64 0, .int .i64 1000000000] 113)).alloc (.cells #[.int .i64 0, .int .i64 7] 113)).alloc (.cells #[.int .i64 1, .int .i64 99999999, .int .i64 1, .int .i64 1000000, .int .i64 0, .int .i64 1000000000] 113)).alloc (.cells #[.int .i64 1, .int .i64 1000000, .int .i64 0, .int .i64 1000000000] 113)).heap.size = w.heap.size + 8 := by simp
      rw [e] at h; exact (grown_blk (World.grownBy_alloc _ _ _) (grown_blk (World.grownBy_alloc _ _ _) (grown_blk (World.grownBy_alloc _ _ _) (grown_blk (World.grownBy_alloc _ _ _) h))))
    · have h := heap_alloc_new (((((((((w.alloc (.cells #[.slice none 0 0, .int .i64 0, .nilFunc, .slice none 0 0, .int .i64 0, .nilFunc, .slice none 0 0, .int .i64 0, .nilFunc, .slice none 0 0, .int .i64 0, .nilFunc, .slice none 0 0, .int .i64 0, .nilFunc, .slice none 0 0, .int .i64 0, .nilFunc, .slice none 0 0, .int .i64 0, .nilFunc, .slice none 0 0, .int .i64 0, .nilFunc] 58)).alloc (.cells #[.int .i64 1, .int .i64 99999999] 113)).alloc (.cells #[.int .i64 0, .int .i64 1000000] 113)).alloc (.cells #[.int .i64 1, .int .i64 1000000] 113)).alloc (.cells #[.int .i64 0, .int .i64 1000000000] 113)).alloc (.cells #[.int .i64 0, .int .i64 7] 113)).alloc (.cells #[.int .i64 1, .int .i64 99999999, .int .i64 1, .int .i64 1000000, .int .i64 0, .int .i64 1000000000] 113)).alloc (.cells #[.int .i64 1, .int .i64 1000000, .int .i64 0, .int .i64 1000000000] 113)).alloc (.cells #[.int .i64 1, .int .i64 1000000, .int .i64 0, .int .i64 1000000000] 113)) (.cells #[.int .i64 0, .int .i64 1000000000, .int .i64 0, .int .i64 7] 113 (0, 0))
      have e : (((((((((w.alloc (.cells #[.slice none 0 0, .int .i64 0, .nilFunc, .slice none 0 0, .int .i64 0, .nilFunc, .slice none 0 0, .int .i64 0, .nilFunc, .slice none 0 0, .int .i64 0, .nilFunc, .slice none 0 0, .int .i64 0, .nilFunc, .slice none 0 0, .int .i64 0, .nilFunc, .slice none 0 0, .int .i64 0, .nilFunc, .slice none 0 0, .int .i64 0, .nilFunc] 58)).alloc (.cells #[.int .i64 1, .int .i64 99999999] 113)).alloc (.cells #[.int .i64 0, .int .i64 1000000] 113)).alloc (.cells #[.int .i64 1, .int .i64 1000000] 113)).alloc (.cells #[.int .i64 0, .int .i64 1000000000] 113)).alloc (.cells #[.int .i64 0, .int .i64 7] 113)).alloc (.cells #[.int .i64 1, .int .i64 99999999, .int .i64 1, .int .i64 1000000, .int .i64 0, .int .i64 1000000000] 113)).alloc (.cells #[.int .i64 1, .int .i64 1000000, .int .i64 0, .int .i64 1000000000] 113)).alloc (.cells #[.int .i64 1, .int .i64 1000000, .int .i64 0, .int .i64 1000000000] 113)).heap.size = w.heap.size + 9 := by simp
      rw [e] at h; exact (grown_blk (World.grownBy_alloc _ _ _) (grown_blk (World.grownBy_alloc _ _ _) (grown_blk (World.grownBy_alloc _ _ _) h)))
    · have h := heap_alloc_new ((((((((((w.alloc (.cells #[.slice none 0 0, .int .i64 0, .nilFunc, .slice none 0 0, .int .i64 0, .nilFunc, .slice none 0 0, .int .i64 0, .nilFunc, .slice none 0 0, .int .i64 0, .nilFunc, .slice none 0 0, .int .i64 0, .nilFunc, .slice none 0 0, .int .i64 0, .nilFunc, .slice none 0 0, .int .i64 0, .nilFunc, .slice none 0 0, .int .i64 0, .nilFunc] 58)).alloc (.cells #[.int .i64 1, .int .i64 99999999] 113)).alloc (.cells #[.int .i64 0, .int .i64 1000000] 113)).alloc (.cells #[.int .i64 1, .int .i64 1000000] 113)).alloc (.cells #[.int .i64 0, .int .i64 1000000000] 113)).alloc (.cells #[.int .i64 0, .int .i64 7] 113)).alloc (.cells #[.int .i64 1, .int .i64 99999999, .int .i64 1, .int .i64 1000000, .int .i64 0, .int .i64 1000000000] 113)).alloc (.cells #[.int .i64 1, .int .i64 1000000, .int .i64 0, .int .i64 1000000000] 113)).alloc (.cells #[.int .i64 1, .int .i64 1000000, .int .i64 0, .int .i64 1000000000] 113)).alloc (.cells #[.int .i64 0, .int .i64 1000000000, .int .i64 0, .int .i64 7] 113)) (.cells #[.int .i64 1, .int .i64 1000000, .int .i64 0, .int .i64 1000000000] 113 (0, 0))
      have e : ((((((((((w.alloc (.cells #[.slice none 0 0, .int .i64 0, .nilFunc, .slice none 0 0, .int .i64 0, .nilFunc, .slice none 0 0, .int .i64 0, .nilFunc, .slice none 0 0, .int .i64 0, .nilFunc, .slice none 0 0, .int .i64 0, .nilFunc, .slice none 0 0, .int .i64 0, .nilFunc, .slice none 0 0, .int .i64 0, .nilFunc, .slice none 0 0, .int .i64 0, .nilFunc] 58)).alloc (.cells #[.int .i64 1, .int .i64 99999999] 113)).alloc (.cells #[.int .i64 0, .int .i64 1000000] 113)).alloc (.cells #[.int .i64 1, .int .i64 1000000] 113)).alloc (.cells #[.int .i64 0, .int .i64 1000000000] 113)).alloc (.cells #[.int .i64 0, .int .i64 7] 113)).alloc (.cells #[.int .i64 1, .int .i64 99999999, .int .i64 1, .int .i64 1000000, .int .i64 0, .int .i64 1000000000] 113)).alloc (.cells #[.int .i64 1, .int .i64 1000000, .int .i64 0, .int .i64 1000000000] 113)).alloc (.cells #[.int .i64 1, .int .i64 1000000, .int .i64 0, .int .i64 1000000000] 113)).alloc (.cells #[.int .i64 0, .int .i64 1000000000, .int .i64 0, .int .i64 7] 113)).heap.size = w.heap.size + 10 := by simp
      rw [e] at h; exact (grown_blk (World.grownBy_alloc _ _ _) (grown_blk (World.grownBy_alloc _ _ _) h))
    · have h := heap_alloc_new (((((((((((w.alloc (.cells #[.slice none 0 0, .int .i64 0, .nilFunc, .slice none 0 0, .int .i64 0, .nilFunc, .slice none 0 0, .int .i64 0, .nilFunc, .slice none 0 0, .int .i64 0, .nilFunc, .slice none 0 0, .int .i64 0, .nilFunc, .slice none 0 0, .int .i64 0, .nilFunc, .slice none 0 0, .int .i64 0, .nilFunc, .slice none 0 0, .int .i64 0, .nilFunc] 58)).alloc (.cells #[.int .i64 1, .int .i64 99999999] 113)).alloc (.cells #[.int .i64 0, .int .i64 1000000] 113)).alloc (.cells #[.int .i64 1, .int .i64 1000000] 113)).alloc (.cells #[.int .i64 0, .int .i64 1000000000] 113)).alloc (.cells #[.int .i64 0, .int .i64 7] 113)).alloc (.cells #[.int .i64 1, .int .i64 99999999, .int .i64 1, .int .i64 1000000, .int .i64 0, .int .i64 1000000000] 113)).alloc (.cells #[.int .i64 1, .int .i64 1000000, .int .i64 0, .int .i64 1000000000] 113)).alloc (.cells #[.int .i64 1, .int .i64 1000000, .int .i64 0, .int .i64 1000000000] 113)).alloc (.cells #[.int .i64 0, .int .i64 1000000000, .int .i64 0, .int .i64 7] 113)).alloc (.cells #[.int .i64 1, .int .i64 1000000, .int .i64 0, .int .i64 1000000000] 113)) (.cells #[.int .i64 0, .int .i64 1000000] 113 (0, 0))
      have e : (((((((((((w.alloc (.cells #[.slice none 0 0, .int .i64 0, .nilFunc, .slice none 0 0, .int .i64 0, .nilFunc, .slice none 0 0, .int .i64 0, .nilFunc, .slice none 0 0, .int .i64 0, .nilFunc, .slice none 0 0, .int .i64 0, .nilFunc, .slice none 0 0, .int .i64 0, .nilFunc, .slice none 0 0, .int .i64 0, .nilFunc, .slice none 0 0, .int .i64 0, .nilFunc] 58)).alloc (.cells #[.int .i64 1, .int .i64 99999999] 113)).alloc (.cells #[.int .i64 0, .int .i64 1000000] 113)).alloc (.cells #[.int .i64 1, .int .i64 1000000] 113)).alloc (.cells #[.int .i64 0, .int .i64 1000000000] 113)).alloc (.cells #[.int .i64 0, .int .i64 7] 113)).alloc (.cells #[.int .i64 1, .int .i64 99999999, .int .i64 1, .int .i64 1000000, .int .i64 0, .int .i64 1000000000] 113)).alloc (.cells #[.int .i64 1, .int .i64 1000000, .int .i64 0, .int .i64 1000000000] 113)).alloc (.cells #[.int .i64 1, .int .i64 1000000, .int .i64 0, .int .i64 1000000000] 113)).alloc (.cells #[.int .i64 0, .int .i64 1000000000, .int .i64 0, .int .i64 7] 113)).alloc (.cells #[.int .i64 1, .int .i64 1000000, .int .i64 0, .int .i64 1000000000] 113)).heap.size = w.heap.size + 11 := by simp
      rw [e] at h; exact (grown_blk (World.grownBy_alloc _ _ _) h)
    · have h := heap_alloc_new ((((((((((((w.alloc (.cells #[.slice none 0 0, .int .i64 0, .nilFunc, .slice none 0 0, .int .i64 0, .nilFunc, .slice none 0 0, .int .i64 0, .nilFunc, .slice none 0 0, .int .i64 0, .nilFunc, .slice none 0 0, .int .i64 0, .nilFunc, .slice none 0 0, .int .i64 0, .nilFunc, .slice none 0 0, .int .i64 0, .nilFunc, .slice none 0 0, .int .i64 0, .nilFunc] 58)).alloc (.cells #[.int .i64 1, .int .i64 99999999] 113)).alloc (.cells #[.int .i64 0, .int .i64 1000000] 113)).alloc (.cells #[.int .i64 1, .int .i64 1000000] 113)).alloc (.cells #[.int .i64 0, .int .i64 1000000000] 113)).alloc (.cells #[.int .i64 0, .int .i64 7] 113)).alloc (.cells #[.int .i64 1, .int .i64 99999999, .int .i64 1, .int .i64 1000000, .int .i64 0, .int .i64 1000000000] 113)).alloc (.cells #[.int .i64 1, .int .i64 1000000, .int .i64 0, .int .i64 1000000000] 113)).alloc (.cells #[.int .i64 1, .int .i64 1000000, .int .i64 0, .int .i64 1000000000] 113)).alloc (.cells #[.int .i64 0, .int .i64 1000000000, .int .i64 0, .int .i64 7] 113)).alloc (.cells #[.int .i64 1, .int .i64 1000000, .int .i64 0, .int .i64 1000000000] 113)).alloc (.cells #[.int .i64 0, .int .i64 1000000] 113)) (.cells #[.int .i64 0, .int .i64 1000000, .int .i64 0, .int .i64 1000000000] 113 (0, 0))
      have e : ((((((((((((w.alloc (.cells #[.slice none 0 0, .int .i64 0, .nilFunc, .slice none 0 0, .int .i64 0, .nilFunc, .slice none 0 0, .int .i64 0, .nilFunc, .slice none 0 0, .int .i64 0, .nilFunc, .slice none 0 0, .int .i64 0, .nilFunc, .slice none 0 0, .int .i64 0, .nilFunc, .slice none 0 0, .int .i64 0, .nilFunc, .slice none 0 0, .int .i64 0, .nilFunc] 58)).alloc (.cells #[.int .i64 1, .int .i64 99999999] 113)).alloc (.cells #[.int .i64 0, .int .i64 1000000] 113)).alloc (.cells #[.int .i64 1, .int .i64 1000000] 113)).alloc (.cells #[.int .i64 0, .int .i64 1000000000] 113)).alloc (.cells #[.int .i64 0, .int .i64 7] 113)).alloc (.cells #[.int .i64 1, .int .i64 99999999, .int .i64 1, .int .i64 1000000, .int .i64 0, .int .i64 1000000000] 113)).alloc (.cells #[.int .i64 1, .int .i64 1000000, .int .i64 0, .int .i64 1000000000] 113)).alloc (.cells #[.int .i64 1, .int .i64 1000000, .int .i64 0, .int .i64 1000000000] 113)).alloc (.cells #[.int .i64 0, .int .i64 1000000000, .int .i64 0, .int .i64 7] 113)).alloc (.cells #[.int .i64 1, .int .i64 1000000, .int .i64 0, .int .i64 1000000000] 113)).alloc (.cells #[.int .i64 0, .int .i64 1000000] 113)).heap.size = w.heap.size + 12 := by simp
      rw [e] at h; exact h
  clear hW hT
  have hld : (loadVar 58 ⟨w.heap.size, 0, none⟩).run Tryz.prog (W.setCells w.heap.size 0 [.slice none 0 0, .int .i64 0, .nilFunc, .slice (some ⟨(w.heap.size + 6), 0, none⟩) 3 3, .int .i64 0, .func (.func 53) #[] #[], .slice (some ⟨(w.heap.size + 6) + 1, 0, none⟩) 2 2, .int .i64 128, .func (.func 54) #[] #[], .slice (some ⟨(w.heap.size + 6) + 2, 0, none⟩) 2 2, .int .i64 0, .func (.func 55) #[] #[], .slice (some ⟨(w.heap.size + 6) + 3, 0, none⟩) 2 2, .int .i64 0, .func (.func 56) #[] #[], .slice (some ⟨(w.heap.size + 6) + 4, 0, none⟩) 2 2, .int .i64 8000, .func (.func 56) #[] #[], .slice (some ⟨(w.heap.size + 6) + 5, 0, none⟩) 1 1, .int .i64 0, .func (.func 56) #[] #[], .slice (some ⟨(w.heap.size + 6) + 6, 0, none⟩) 2 2, .int .i64 0, .func (.func 57) #[] #[]]) = .ok (.agg #[.slice none 0 0, .int .i64 0, .nilFunc, .slice (some ⟨(w.heap.size + 6), 0, none⟩) 3 3, .int .i64 0, .func (.func 53) #[] #[], .slice (some ⟨(w.heap.size + 6) + 1, 0, none⟩) 2 2, .int .i64 128, .func (.func 54) #[] #[], .slice (some ⟨(w.heap.size + 6) + 2, 0, none⟩) 2 2, .int .i64 0, .func (.func 55) #[] #[], .slice (some ⟨(w.heap.size + 6) + 3, 0, none⟩) 2 2, .int .i64 0, .func (.func 56) #[] #[], .slice (some ⟨(w.heap.size + 6) + 4, 0, none⟩) 2 2, .int .i64 8000, .func (.func 56) #[] #[], .slice (some ⟨(w.heap.size + 6) + 5, 0, none⟩) 1 1, .int .i64 0, .func (.func 56) #[] #[], .slice (some ⟨(w.heap.size + 6) + 6, 0, none⟩) 2 2, .int .i64 0, .func (.func 57) #[] #[]]) (W.setCells w.heap.size 0 [.slice none 0 0, .int .i64 0, .nilFunc, .slice (some ⟨(w.heap.size + 6), 0, none⟩) 3 3, .int .i64 0, .func (.func 53) #[] #[], .slice (some ⟨(w.heap.size + 6) + 1, 0, none⟩) 2 2, .int .i64 128, .func (.func 54) #[] #[], .slice (some ⟨(w.heap.size + 6) + 2, 0, none⟩) 2 2, .int .i64 0, .func (.func 55) #[] #[], .slice (some ⟨(w.heap.size + 6) + 3, 0, none⟩) 2 2, .int .i64 0, .func (.func 56) #[] #[], .slice (some ⟨(w.heap.size + 6) + 4, 0, none⟩) 2 2, .int .i64 8000, .func (.func 56) #[] #[], .slice (some ⟨(w.heap.size + 6) + 5, 0, none⟩) 1 1, .int .i64 0, .func (.func 56) #[] #[], .slice (some ⟨(w.heap.size + 6) + 6, 0, none⟩) 2 2, .int .i64 0, .func (.func 57) #[] #[]]) := run_loadVar_mid _ w.heap.size 0 58 [.slice none 0 0, .int .i64 0, .nilFunc, .slice (some ⟨(w.heap.size + 6), 0, none⟩) 3 3, .int .i64 0, .func (.func 53) #[] #[], .slice (some ⟨(w.heap.size + 6) + 1, 0, none⟩) 2 2, .int .i64 128, .func (.func 54) #[] #[], .slice (some ⟨(w.heap.size + 6) + 2, 0, none⟩) 2 2, .int .i64 0, .func (.func 55) #[] #[], .slice (some ⟨(w.heap.size + 6) + 3, 0, none⟩) 2 2, .int .i64 0, .func (.func 56) #[] #[], .slice (some ⟨(w.heap.size + 6) + 4, 0, none⟩) 2 2, .int .i64 8000, .func (.func 56) #[] #[], .slice (some ⟨(w.heap.size + 6) + 5, 0, none⟩) 1 1, .int .i64 0, .func (.func 56) #[] #[], .slice (some ⟨(w.heap.size + 6) + 6, 0, none⟩) 2 2, .int .i64 0, .func (.func 57) #[] #[]] _ (World.rangeAt_setCells_same _ _ _ _ HW.out.1) Tryz.underlying58 rfl (by kernel_rfl)
  refine bodyPost_ret (v := .agg #[.slice none 0 0, .int .i64 0, .nilFunc, .slice (some ⟨(w.heap.size + 6), 0, none⟩) 3 3, .int .i64 0, .func (.func 53) #[] #[], .slice (some ⟨(w.heap.size + 6) + 1, 0, none⟩) 2 2, .int .i64 128, .func (.func 54) #[] #[], .slice (some ⟨(w.heap.size + 6) + 2, 0, none⟩) 2 2, .int .i64 0, .func (.func 55) #[] #[], .slice (some ⟨(w.heap.size + 6) + 3, 0, none⟩) 2 2, .int .i64 0, .func (.func 56) #[] #[], .slice (some ⟨(w.heap.size + 6) + 4, 0, none⟩) 2 2, .int .i64 8000, .func (.func 56) #[] #[], .slice (some ⟨(w.heap.size + 6) + 5, 0, none⟩) 1 1, .int .i64 0, .func (.func 56) #[] #[], .slice (some ⟨(w.heap.size + 6) + 6, 0, none⟩) 2 2, .int .i64 0, .func (.func 57) #[] #[]]) ?_ rfl ⟨w.heap.size + 6, rfl, fun ty h1 h2 => ?_, by omega, grownBy_setCellsN (Nat.le_refl _) _ _ _ HW.out.2.1⟩
  · exact results_ret rfl rfl hld
  · unfold BdR
    rw [setCells_oth _ _ (by omega)]
    obtain ⟨-, -, b1, b2, b3, b4, b5, b6, b7⟩ := HW.out
    match ty, h1, h2 with
    | 1, _, _ => exact b1
    | 2, _, _ => exact b2
    | 3, _, _ => exact b3
    | 4, _, _ => exact b4
    | 5, _, _ => exact b5
    | 6, _, _ => exact b6
    | 7, _, _ => exact b7
end Go.Proofs.YtjnegjgpkboocaaGreatDoor
/-
  A region that draws its order and ends with a store into a cell that it loads: the load is taken first, the condition is asked only where the load may still be to come.
-/
namespace Go.Proofs.YtjnegjgpkboocaaGreatDoor
open Go.RowKit

section
variable {P : Program} {ops : Array Oper} {Q : Exit → Act → World → Prop} {md : Region.Mode} {S : World → Prop} {ex : Nat → Bool}

/-- whatever order is picked, and S holds behind every operation but the excepted ones -/
def wpAnyZ (P : Program) (md : Region.Mode) (ops : Array Oper) (Q : Exit → Act → World → Prop) (S : World → Prop) (ex : Nat → Bool) : Nat → Array Bool → Act → World → Prop
  | 0, listed, a, w => Region.ready md ops listed = [] ∧ Q .normal a w
  | fuel + 1, listed, a, w =>
    (Region.ready md ops listed = [] → Q .normal a w) ∧
    ∀ i ∈ Region.ready md ops listed, wpOp P ops Q i (fun a' w' => (ex i = false → S w → S w') ∧ wpAnyZ P md ops Q S ex fuel (listed.setIfInBounds i true) a' w') a w
theorem wpAny_of_Z : ∀ (fuel : Nat) (listed : Array Bool) (a : Act) (w : World), wpAnyZ P md ops Q S ex fuel listed a w → wpAny P md ops Q fuel listed a w
  | 0, _, _, _, h => h
  | fuel + 1, _, _, _, h => ⟨h.1, fun i hi => wpOp_mono (fun a' w' h' => wpAny_of_Z fuel _ a' w' h'.2) (h.2 i hi)⟩
/-- one that yields under S0 may come first, where S0 holds as long as it is to come -/
theorem wpAnyZ_first {S0 : World → Prop} {I : Array Bool → Prop} {i : Nat} {oi : Oper} {v : Value} (hi : ops[i]? = some oi) (hsel : ∀ (j : Nat) (o : Oper) cs b, ops[j]? = some o → o.op ≠ .select cs b)
    (hQ : ∀ c a w, Q (.panic c) (a.put oi.dst v) w → Q (.panic c) a w)
    (hI : ∀ (listed : Array Bool) (j : Nat) (w w' : World), I listed → i ∈ Region.ready md ops listed → j ∈ Region.ready md ops listed → j ≠ i → S0 w → (ex j = false → S w → S w') → S0 w' ∧ I (listed.setIfInBounds j true)) :
    ∀ (fuel : Nat) (listed : Array Bool) (a : Act) (w : World),
      (∀ j oj, ops[j]? = some oj → j ≠ i → listed.getD j true = false → (∀ e ∈ oj.after, Region.binds md e = true → e.on ≠ i) → oi.apart ops oj = true) →
      i ∈ Region.ready md ops listed → I listed → YieldsIf P ops S0 oi v a → S0 w →
      wpAnyZ P md ops Q S ex fuel (listed.setIfInBounds i true) (a.put oi.dst v) w → wpAnyZ P md ops Q S ex (fuel + 1) listed a w := by
  intro fuel
  induction fuel with
  | zero =>
    intro listed a w _ hr hIl hy hS H
    refine ⟨fun h => (by rw [h] at hr; cases hr), fun j hj => ?_⟩
    by_cases hji : j = i
    · subst hji; exact hy.wpOp hi hS ⟨fun _ h => h, H⟩
    · have := ready_mono hj hji
      rw [H.1] at this
      cases this
  | succ fuel ih =>
    intro listed a w hfree hr hIl hy hS H
    refine ⟨fun h => (by rw [h] at hr; cases hr), fun j hj => ?_⟩
    by_cases hji : j = i
    · subst hji; exact hy.wpOp hi hS ⟨fun _ h => h, H⟩
    · have h1 := H.2 j (ready_mono hj hji)
      obtain ⟨hjun, oj, hoj, hall⟩ := mem_ready.1 hj
      have hiun : listed.getD i false = false := getD_both (mem_ready.1 hr).1
      have hnot : ∀ e ∈ oj.after, Region.binds md e = true → e.on ≠ i := fun e he hb heq => by
        have h1 := hall e he hb
        rw [heq, hiun] at h1
        cases h1
      have h2 := wpOp_putIf hoj (hfree j oj hoj hji hjun hnot) (fun cs b => hsel i oi cs b hi) (fun cs b => hsel j oj cs b hoj) hQ hy h1
      have hfree' : ∀ k ok, ops[k]? = some ok → k ≠ i → (listed.setIfInBounds j true).getD k true = false →
          (∀ e ∈ ok.after, Region.binds md e = true → e.on ≠ i) → oi.apart ops ok = true := fun k ok hk hki hun hno => by
        refine hfree k ok hk hki ?_ hno
        by_cases hjk : j = k
        · subst hjk; exact hjun
        · rw [getD_set_ne true hjk] at hun; exact hun
      refine wpOp_mono (fun a' w' h3 => ?_) h2
      obtain ⟨h4, h5⟩ := hI listed j w w' hIl hr hj hji hS h3.2.1
      refine ⟨h3.2.1, ih (listed.setIfInBounds j true) a' w' hfree' (ready_mono hr (Ne.symm hji)) h5 h3.1 h4 ?_⟩
      rw [Array.setIfInBounds_comm _ _ hji]
      exact h3.2.2
/-- an operation that yields in whatever world -/
theorem wpAnyZ_take {i : Nat} {oi : Oper} {v : Value} {fuel : Nat} {listed : Array Bool} {a : Act} {w : World} (hi : ops[i]? = some oi) (hs : Region.noSelect ops = true) (hf : Region.free md ops listed i = true) (hr : (Region.ready md ops listed).contains i = true)
    (hQ : ∀ c a w, Q (.panic c) (a.put oi.dst v) w → Q (.panic c) a w) (hy : YieldsIf P ops (fun _ => True) oi v a)
    (h : wpAnyZ P md ops Q S ex fuel (listed.setIfInBounds i true) (a.put oi.dst v) w) : wpAnyZ P md ops Q S ex (fuel + 1) listed a w :=
  wpAnyZ_first (S0 := fun _ => True) (I := fun _ => True) hi (Region.noSelect_spec hs) hQ (fun _ _ _ _ _ _ _ _ _ _ => ⟨trivial, trivial⟩) fuel listed a w (Region.free_spec hi hf) (by simpa using hr) trivial hy trivial h
/-- the load: those that are excepted wait for it, or for y that waits for it, or leave the world as it is -/
theorem wpAnyZ_load {i y : Nat} {oi : Oper} {v : Value} {fuel : Nat} {listed : Array Bool} {a : Act} {w : World} (hi : ops[i]? = some oi) (hs : Region.noSelect ops = true) (hf : Region.free md ops listed i = true) (hr : (Region.ready md ops listed).contains i = true)
    (hQ : ∀ c a w, Q (.panic c) (a.put oi.dst v) w → Q (.panic c) a w) (hex : ∀ j, ex j = true → Region.waitsFor md ops j i = true ∨ Region.waitsFor md ops j y = true) (hey : ex y = true) (hyl : listed.getD y false = false) (hy : YieldsIf P ops S oi v a) (hS : S w)
    (h : wpAnyZ P md ops Q S ex fuel (listed.setIfInBounds i true) (a.put oi.dst v) w) : wpAnyZ P md ops Q S ex (fuel + 1) listed a w := by
  refine wpAnyZ_first (S0 := S) (I := fun l => l.getD y false = false) hi (Region.noSelect_spec hs) hQ (fun l j w0 w' hIl hri hrj hne hS0 hS' => ?_) fuel listed a w (Region.free_spec hi hf) (by simpa using hr) hyl hy hS h
  have hiun : l.getD i false = false := getD_both (mem_ready.1 hri).1
  have hno : ∀ k, l.getD k false = false → Region.waitsFor md ops j k = true → False := by
    intro k hk hw
    obtain ⟨oj, hoj, e, he, hb, hon⟩ := Region.waitsFor_spec hw
    obtain ⟨_, oj', hoj', hall⟩ := mem_ready.1 hrj
    rw [hoj] at hoj'
    obtain rfl := Option.some.inj hoj'
    have := hall e he hb
    rw [hon, hk] at this
    cases this
  have hexj : ex j = false := by
    cases hx : ex j with
    | false => rfl
    | true =>
      rcases hex j hx with h1 | h1
      · exact (hno i hiun h1).elim
      · exact (hno y hIl h1).elim
  refine ⟨hS' hexj hS0, ?_⟩
  have hjy : j ≠ y := fun e => by rw [e, hey] at hexj; cases hexj
  show (l.setIfInBounds j true).getD y false = false
  rw [getD_set_ne false hjy]
  exact hIl
theorem wpAnyZ_done {listed : Array Bool} {a : Act} {w : World} (hr : Region.ready md ops listed = []) (h : Q .normal a w) : ∀ fuel, wpAnyZ P md ops Q S ex fuel listed a w
  | 0 => ⟨hr, h⟩
  | _ + 1 => ⟨fun _ => h, by rw [hr]; simp⟩
/-- one of those that may come up -/
theorem wpZ_step {i : Nat} {o : Oper} {fuel : Nat} {listed : Array Bool} {a : Act} {w : World} (ho : ops[i]? = some o)
    (h : ∀ K : Act → World → Prop, Hid (∀ a' w', (ex i = false → S w → S w') → wpAnyZ P md ops Q S ex fuel (listed.setIfInBounds i true) a' w' → K a' w') →
      if Region.wanted o (yielded ops a.tmps) = true then Oper.wp P o a w K Q else K (a.put o.dst undef) w) :
    wpOp P ops Q i (fun a' w' => (ex i = false → S w → S w') ∧ wpAnyZ P md ops Q S ex fuel (listed.setIfInBounds i true) a' w') a w := by
  unfold wpOp
  simp only [ho]
  have h1 := h (fun a' w' => (ex i = false → S w → S w') ∧ wpAnyZ P md ops Q S ex fuel (listed.setIfInBounds i true) a' w') (fun a' w' hS hw => ⟨hS, hw⟩)
  split
  · rename_i hw
    rw [if_pos hw] at h1
    exact .inl h1
  · rename_i hw
    rw [if_neg hw] at h1
    exact h1
theorem wpAnyZ_one {i : Nat} {o : Oper} {fuel : Nat} {listed : Array Bool} {a : Act} {w : World} (hr : Region.ready md ops listed = [i]) (ho : ops[i]? = some o)
    (h : ∀ K : Act → World → Prop, Hid (∀ a' w', (ex i = false → S w → S w') → wpAnyZ P md ops Q S ex fuel (listed.setIfInBounds i true) a' w' → K a' w') →
      if Region.wanted o (yielded ops a.tmps) = true then Oper.wp P o a w K Q else K (a.put o.dst undef) w) : wpAnyZ P md ops Q S ex (fuel + 1) listed a w := by
  refine ⟨fun h0 => (by rw [hr] at h0; cases h0), fun j hj => ?_⟩
  rw [hr] at hj
  obtain rfl : j = i := by simpa using hj
  exact wpZ_step ho h
theorem wpAnyZ_two {i k : Nat} {o o' : Oper} {fuel : Nat} {listed : Array Bool} {a : Act} {w : World} (hr : Region.ready md ops listed = [i, k]) (ho : ops[i]? = some o) (ho' : ops[k]? = some o')
    (h : ∀ K : Act → World → Prop, Hid (∀ a' w', (ex i = false → S w → S w') → wpAnyZ P md ops Q S ex fuel (listed.setIfInBounds i true) a' w' → K a' w') →
      if Region.wanted o (yielded ops a.tmps) = true then Oper.wp P o a w K Q else K (a.put o.dst undef) w)
    (h' : ∀ K : Act → World → Prop, Hid (∀ a' w', (ex k = false → S w → S w') → wpAnyZ P md ops Q S ex fuel (listed.setIfInBounds k true) a' w' → K a' w') →
      if Region.wanted o' (yielded ops a.tmps) = true then Oper.wp P o' a w K Q else K (a.put o'.dst undef) w) : wpAnyZ P md ops Q S ex (fuel + 1) listed a w := by
  refine ⟨fun h0 => (by rw [hr] at h0; cases h0), fun j hj => ?_⟩
  rw [hr] at hj
  simp only [List.mem_cons, List.not_mem_nil, or_false] at hj
  rcases hj with rfl | rfl
  · exact wpZ_step ho h
  · exact wpZ_step ho' h'
theorem get_of_drop {i : Nat} {oi : Oper} {rest : List Oper} (h : ops.toList.drop i = oi :: rest) : ops[i]? = some oi := by
  have h1 : (ops.toList.drop i)[0]? = some oi := by rw [h]; rfl
  rw [List.getElem?_drop, Array.getElem?_toList] at h1
  exact h1
theorem wpAnyZ_take' {i : Nat} {oi : Oper} {rest : List Oper} {v : Value} {fuel : Nat} {listed : Array Bool} {a : Act} {w : World} (hd : ops.toList.drop i = oi :: rest) (hs : Region.noSelect ops = true) (hf : Region.free md ops listed i = true) (hr : (Region.ready md ops listed).contains i = true)
    (hQ : ∀ c a w, Q (.panic c) (a.put oi.dst v) w → Q (.panic c) a w) (hy : YieldsIf P ops (fun _ => True) oi v a)
    (h : wpAnyZ P md ops Q S ex fuel (listed.setIfInBounds i true) (a.put oi.dst v) w) : wpAnyZ P md ops Q S ex (fuel + 1) listed a w := wpAnyZ_take (get_of_drop hd) hs hf hr hQ hy h
theorem wpAnyZ_load' {i y : Nat} {oi : Oper} {rest : List Oper} {v : Value} {fuel : Nat} {listed : Array Bool} {a : Act} {w : World} (hd : ops.toList.drop i = oi :: rest) (hs : Region.noSelect ops = true) (hf : Region.free md ops listed i = true) (hr : (Region.ready md ops listed).contains i = true)
    (hQ : ∀ c a w, Q (.panic c) (a.put oi.dst v) w → Q (.panic c) a w) (hex : ∀ j, ex j = true → Region.waitsFor md ops j i = true ∨ Region.waitsFor md ops j y = true) (hey : ex y = true) (hyl : listed.getD y false = false) (hy : YieldsIf P ops S oi v a) (hS : S w)
    (h : wpAnyZ P md ops Q S ex fuel (listed.setIfInBounds i true) (a.put oi.dst v) w) : wpAnyZ P md ops Q S ex (fuel + 1) listed a w := wpAnyZ_load (get_of_drop hd) hs hf hr hQ hex hey hyl hy hS h
theorem wpAnyZ_one' {i : Nat} {o : Oper} {rest : List Oper} {fuel : Nat} {listed : Array Bool} {a : Act} {w : World} (hr : Region.ready md ops listed = [i]) (ho : ops.toList.drop i = o :: rest)
    (h : ∀ K : Act → World → Prop, Hid (∀ a' w', (ex i = false → S w → S w') → wpAnyZ P md ops Q S ex fuel (listed.setIfInBounds i true) a' w' → K a' w') →
      if Region.wanted o (yielded ops a.tmps) = true then Oper.wp P o a w K Q else K (a.put o.dst undef) w) : wpAnyZ P md ops Q S ex (fuel + 1) listed a w := wpAnyZ_one hr (get_of_drop ho) h
theorem wpAnyZ_two' {i k : Nat} {o o' : Oper} {rest rest' : List Oper} {fuel : Nat} {listed : Array Bool} {a : Act} {w : World} (hr : Region.ready md ops listed = [i, k]) (ho : ops.toList.drop i = o :: rest) (ho' : ops.toList.drop k = o' :: rest')
    (h : ∀ K : Act → World → Prop, Hid (∀ a' w', (ex i = false → S w → S w') → wpAnyZ P md ops Q S ex fuel (listed.setIfInBounds i true) a' w' → K a' w') →
      if Region.wanted o (yielded ops a.tmps) = true then Oper.wp P o a w K Q else K (a.put o.dst undef) w)
    (h' : ∀ K : Act → World → Prop, Hid (∀ a' w', (ex k = false → S w → S w') → wpAnyZ P md ops Q S ex fuel (listed.setIfInBounds k true) a' w' → K a' w') →
      if Region.wanted o' (yielded ops a.tmps) = true then Oper.wp P o' a w K Q else K (a.put o'.dst undef) w) : wpAnyZ P md ops Q S ex (fuel + 1) listed a w := wpAnyZ_two hr (get_of_drop ho) (get_of_drop ho') h h'
theorem wp_region_Z {id : Nat} {a : Act} {w : World} (S : World → Prop) (ex : Nat → Bool) (hm : P.follows .mixedOrders = true) (h : wpAnyZ P .any ops Q S ex ops.size (Array.replicate ops.size false) a w.drew) : (Code.region id ops true).wp P Q a w :=
  wp_region_any hm (wpAny_of_Z _ _ _ _ h)
end
end Go.Proofs.YtjnegjgpkboocaaGreatDoor
/-
  A record's payload taken apart by the program: walked.
-/
namespace Go.Proofs.YtjnegjgpkboocaaGreatDoor
open Go.RowKit

/-- number i of a payload -/
def wnum (zs : List Nat) (i : Nat) : Nat := leVal ((zs.drop (8 * i)).take 8)
def inb (b : Nat × Nat) (n : Nat) : Bool := decide (b.1 ≤ n) && decide (n ≤ b.2)
def okTo (bs : List (Nat × Nat)) (zs : List Nat) (k : Nat) : Prop := ∀ i b, i < k → bs[i]? = some b → inb b (wnum zs i) = true
/-- a right payload -/
def WOk (bs : List (Nat × Nat)) (room : Nat) (zs : List Nat) : Prop := 8 * bs.length ≤ zs.length ∧ zs.length ≤ 8 * bs.length + room ∧ okTo bs zs bs.length
def fld (bs : List (Nat × Nat)) (zs : List Nat) (k i : Nat) : Nat := if i < k ∧ i < bs.length then wnum zs i else 0
theorem fld_same {bs : List (Nat × Nat)} {zs : List Nat} {k : Nat} (h : k < bs.length) : fld bs zs (k + 1) k = wnum zs k := by rw [fld, if_pos ⟨by omega, h⟩]
theorem fld_ne {bs : List (Nat × Nat)} {zs : List Nat} {k i : Nat} (h : i ≠ k) : fld bs zs (k + 1) i = fld bs zs k i := by
  unfold fld
  by_cases h1 : i < k ∧ i < bs.length
  · rw [if_pos h1, if_pos ⟨by omega, h1.2⟩]
  · rw [if_neg h1, if_neg (fun hc => h1 ⟨by omega, hc.2⟩)]
theorem bcs_get {bs : List (Nat × Nat)} {i : Nat} {b : Nat × Nat} (h : bs[i]? = some b) : (bcs bs)[i * 2]? = some (.int .i64 (b.1 : Int)) ∧ (bcs bs)[i * 2 + 1]? = some (.int .i64 (b.2 : Int)) := by
  induction bs generalizing i with
  | nil => simp at h
  | cons x bs ih =>
    cases i with
    | zero => simp at h; subst h; simp [bcs]
    | succ i =>
      have h1 := ih (i := i) (by simpa using h)
      have e : bcs (x :: bs) = .int .i64 (x.1 : Int) :: .int .i64 (x.2 : Int) :: bcs bs := by simp [bcs]
      rw [e, show (i + 1) * 2 = i * 2 + 1 + 1 by omega]
      simpa using h1
theorem wnum_lt {zs : List Nat} (h : ∀ z ∈ zs, z < 256) (i : Nat) : wnum zs i < 18446744073709551616 := by
  have h1 := leVal_lt ((zs.drop (8 * i)).take 8) (fun z hz => h z (List.mem_of_mem_drop (List.mem_of_mem_take hz)))
  have h2 : ((zs.drop (8 * i)).take 8).length ≤ 8 := by simp; omega
  have h3 : 256 ^ ((zs.drop (8 * i)).take 8).length ≤ 256 ^ 8 := Nat.pow_le_pow_right (by decide) h2
  unfold wnum
  have h4 : (256 : Nat) ^ 8 = 18446744073709551616 := by decide
  omega
section
variable {P : Program} {ops : Array Oper} {Q : Exit → Act → World → Prop} {md : Region.Mode} {S : World → Prop} {ex : Nat → Bool}
/-- a load whose memory every operation keeps -/
theorem wpAnyZ_loadS {i : Nat} {oi : Oper} {rest : List Oper} {v : Value} {fuel : Nat} {listed : Array Bool} {a : Act} {w : World} (hd : ops.toList.drop i = oi :: rest) (hs : Region.noSelect ops = true) (hf : Region.free md ops listed i = true) (hr : (Region.ready md ops listed).contains i = true)
    (hQ : ∀ c a w, Q (.panic c) (a.put oi.dst v) w → Q (.panic c) a w) (hex : ∀ j, ex j = false) (hy : YieldsIf P ops S oi v a) (hS : S w)
    (h : wpAnyZ P md ops Q S ex fuel (listed.setIfInBounds i true) (a.put oi.dst v) w) : wpAnyZ P md ops Q S ex (fuel + 1) listed a w :=
  wpAnyZ_first (S0 := S) (I := fun _ => True) (get_of_drop hd) (Region.noSelect_spec hs) hQ (fun _ j _ _ _ _ _ _ hS0 hS' => ⟨hS' (hex j) hS0, trivial⟩) fuel listed a w (Region.free_spec (get_of_drop hd) hf) (by simpa using hr) trivial hy hS h
end
/-- behind a slice's front -/
def adr (off cap size : Nat) : Nat := if cap = size then off else off + size
set_option maxRecDepth 8000 in
set_option maxHeartbeats 4000000 in
theorem take_any (g : Nat) (bs : List (Nat × Nat)) (room f : Nat) (b off len cap : Nat) (zs : List Nat) (w : World) (hg : BdR w g bs) (h1 : 1 ≤ bs.length) (h3 : bs.length ≤ 3) (hbb : ∀ x ∈ bs, x.1 ≤ 1073741824 ∧ x.2 ≤ 1073741824) (hr : room ≤ 8000)
    (hsl : SlB w (some ⟨b, off, none⟩) len zs) (hlc : len ≤ cap) (hm : cap ≤ maxLen) (hm2 : len ≤ 1048576) :
    Calls Tryz.prog 60 #[.agg #[.slice (some ⟨g, 0, none⟩) bs.length bs.length, .int .i64 (room : Int), .func (.func f) #[] #[]], .slice (some ⟨b, off, none⟩) len cap] w fun e w' => w.grownBy w' none ∧
      ((WOk bs room zs ∧ e = .returned (.tuple #[.agg #[.int .i64 ((fld bs zs bs.length 0 : Nat) : Int), .int .i64 ((fld bs zs bs.length 1 : Nat) : Int), .int .i64 ((fld bs zs bs.length 2 : Nat) : Int)], .slice (some ⟨b, adr off cap (8 * bs.length), none⟩) (len - 8 * bs.length) (cap - 8 * bs.length), .bool true]))
        ∨ (¬ WOk bs room zs ∧ e = .returned (.tuple #[.agg #[.int .i64 0, .int .i64 0, .int .i64 0], .slice none 0 0, .bool false]))) := by
  have hzl : zs.length = len := hsl.1
  unfold maxLen at hm
  obtain ⟨n, hn⟩ : ∃ n, bs.length = n := ⟨_, rfl⟩
  have HO : Hid (BdR w g bs ∧ bs.length = n ∧ (∀ x ∈ bs, x.1 ≤ 1073741824 ∧ x.2 ≤ 1073741824) ∧ SlB w (some ⟨b, off, none⟩) len zs ∧ zs.length = len) := ⟨hg, hn, hbb, hsl, hzl⟩
  rw [hn] at h1 h3 ⊢
  clear hg hn hbb hsl hzl
  go_enter Tryz.func60, Tryz.ntmps60
  by_cases hs1 : len < 8 * n
  · have e1 : (len : Int) < 8 * (n : Int) := by omega
    have HB : Hid (¬ WOk bs room zs) := fun hc => by have h9 := hc.1; rw [HO.out.2.1, HO.out.2.2.2.2] at h9; omega
    go_wp2
    refine bodyPost_ret (v := .tuple #[.agg #[.int .i64 0, .int .i64 0, .int .i64 0], .slice none 0 0, .bool false]) (by simp [results, Tryz.results60, go_sem]) rfl ⟨grownBy_alloc (World.grownBy_alloc _ _ _) _, .inr ⟨HB.out, rfl⟩⟩
  · have e1 : ¬ (len : Int) < 8 * (n : Int) := by omega
    by_cases hs2 : 8 * n + room < len
    · have e2 : 8 * (n : Int) + (room : Int) < (len : Int) := by omega
      have HB : Hid (¬ WOk bs room zs) := fun hc => by have h9 := hc.2.1; rw [HO.out.2.1, HO.out.2.2.2.2] at h9; omega
      go_wp2; refine bodyPost_ret (v := .tuple #[.agg #[.int .i64 0, .int .i64 0, .int .i64 0], .slice none 0 0, .bool false]) (by simp [results, Tryz.results60, go_sem]) rfl ⟨grownBy_alloc (World.grownBy_alloc _ _ _) _, .inr ⟨HB.out, rfl⟩⟩
    · have e2 : ¬ 8 * (n : Int) + (room : Int) < (len : Int) := by omega
      go_wp2
      go_loopw [33] (fun i wr => ∃ k : Nat, k ≤ n ∧ i = .int .i64 (k : Int) ∧ okTo bs zs k ∧ w.grownBy wr none ∧ wr.heap[w.heap.size + 1]? = some (.cells #[.int .i64 0, .int .i64 0, .int .i64 0] 123 (0, 0)) ∧ wr.heap[w.heap.size + 1 + 1]? = some (.cells #[.int .i64 ((fld bs zs k 0 : Nat) : Int), .int .i64 ((fld bs zs k 1 : Nat) : Int), .int .i64 ((fld bs zs k 2 : Nat) : Int)] 123 (0, 0))) (fun i _ => n - (intOf i).toNat)
      case atStart =>
        refine ⟨0, Nat.zero_le _, rfl, fun i b hi => absurd hi (by omega), grownBy_alloc (grownBy_alloc (World.grownBy_alloc _ _ _) _) _, ?_, ?_⟩
        · have h := heap_two w (.cells #[.slice (some ⟨g, 0, none⟩) n n, .int .i64 (room : Int), .func (.func f) #[] #[]] 56) (.cells #[.int .i64 0, .int .i64 0, .int .i64 0] 123 (0, 0))
          exact grown_blk (World.grownBy_alloc _ _ _) h
        · have h := heap_alloc_new ((w.alloc (.cells #[.slice (some ⟨g, 0, none⟩) n n, .int .i64 (room : Int), .func (.func f) #[] #[]] 56)).alloc (.cells #[.int .i64 0, .int .i64 0, .int .i64 0] 123)) (.cells #[.int .i64 0, .int .i64 0, .int .i64 0] 123 (0, 0))
          simpa [fld] using h
      case round =>
        obtain ⟨k, hk, rfl, hok, hGr, hb1, hb2⟩ := hrel
        have HR : Hid (okTo bs zs k ∧ w.grownBy wr none ∧ wr.heap[w.heap.size + 1]? = some (.cells #[.int .i64 0, .int .i64 0, .int .i64 0] 123 (0, 0)) ∧ wr.heap[w.heap.size + 1 + 1]? = some (.cells #[.int .i64 ((fld bs zs k 0 : Nat) : Int), .int .i64 ((fld bs zs k 1 : Nat) : Int), .int .i64 ((fld bs zs k 2 : Nat) : Int)] 123 (0, 0))) := ⟨hok, hGr, hb1, hb2⟩
        clear hok hGr hb1 hb2
        by_cases hlt : k < n
        · obtain ⟨x, hx⟩ : ∃ x, bs[k]? = some x := ⟨_, List.getElem?_eq_getElem (by rw [HO.out.2.1]; exact hlt)⟩
          obtain ⟨lo, hi⟩ := x; have hxb := HO.out.2.2.1 _ (List.mem_of_getElem? hx); have hgw : BdR wr g bs := grown_blk HR.out.2.1 HO.out.1
          have q0 : wr.cell? ⟨g, k * 2, none⟩ = some (.int .i64 (lo : Int)) := by rw [cell_of_row wr g _ _ _ _ hgw]; simpa using (bcs_get hx).1
          have q1 : wr.cell? ⟨g, k * 2 + 1, none⟩ = some (.int .i64 (hi : Int)) := by rw [cell_of_row wr g _ _ _ _ hgw]; simpa using (bcs_get hx).2
          have HX : Hid (bs[k]? = some (lo, hi)) := hx; have hl1 : lo ≤ 1073741824 := hxb.1; have hl2 : hi ≤ 1073741824 := hxb.2; clear hx hxb hgw
          have hkI : (k : Int) < (n : Int) := by omega
          have z1 : ¬ cap = 8 * k := by omega
          have z2 : 8 * (k : Int) ≤ (len : Int) := by omega
          have z3 : (len : Int) ≤ (cap : Int) := by omega
          go_wp2_with fail
          have hcut := slb_cut HO.out.2.2.2.1 (8 * k) (len - 8 * k) (by omega); refine (takeLong_n b (off + 8 * k) (len - 8 * k) (cap - 8 * k) _ _ (hcut.grown0 (grownBy_alloc HR.out.2.1 _)) (by omega) (by omega) (by unfold maxLen; omega) (by omega)).mono ?_; rintro e w1 ⟨rfl, m, hw1⟩
          have hve : leVal (((zs.drop (8 * k)).take (len - 8 * k)).take 8) = wnum zs k := by rw [List.take_take, Nat.min_eq_left (by omega)]; rfl
          rw [hve]
          obtain ⟨v, hv⟩ : ∃ v, wnum zs k = v := ⟨_, rfl⟩
          have HV : Hid (wnum zs k = v) := hv
          have hvb : v < 18446744073709551616 := by rw [← hv]; exact wnum_lt HO.out.2.2.2.1.2.1 k
          rw [hv]
          have hXh : w1.heap = (wr.alloc (.cells #[.int .i64 (lo : Int), .int .i64 (hi : Int)] 113)).heap := by rw [hw1]; simp
          have HX1 : Hid (w.grownBy w1 none ∧ w1.heap[w.heap.size + 1]? = some (.cells #[.int .i64 0, .int .i64 0, .int .i64 0] 123 (0, 0)) ∧ w1.heap[w.heap.size + 1 + 1]? = some (.cells #[.int .i64 ((fld bs zs k 0 : Nat) : Int), .int .i64 ((fld bs zs k 1 : Nat) : Int), .int .i64 ((fld bs zs k 2 : Nat) : Int)] 123 (0, 0)) ∧ w1.heap[wr.heap.size]? = some (.cells #[.int .i64 (lo : Int), .int .i64 (hi : Int)] 113 (0, 0))) := by
            have hA := World.grownBy_alloc wr (.cells #[.int .i64 (lo : Int), .int .i64 (hi : Int)] 113) none; have hGA : w.grownBy (wr.alloc (.cells #[.int .i64 (lo : Int), .int .i64 (hi : Int)] 113)) none := grownBy_alloc HR.out.2.1 _; rw [hXh]; refine ⟨?_, grown_blk hA HR.out.2.2.1, grown_blk hA HR.out.2.2.2, heap_alloc_new wr _⟩; rw [hw1]; exact ⟨hGA.os, hGA.tape, hGA.output, hGA.size, hGA.block⟩
          clear hcut hve hv hXh hw1 q0 q1; have c0 : w1.cell? ⟨wr.heap.size, 0, none⟩ = some (.int .i64 (lo : Int)) := (cell_of_row w1 _ _ _ _ _ HX1.out.2.2.2).trans rfl; have c1 : w1.cell? ⟨wr.heap.size, 1, none⟩ = some (.int .i64 (hi : Int)) := (cell_of_row w1 _ _ _ _ _ HX1.out.2.2.2).trans rfl
          have u1 : IntKind.u64.wrap (lo : Int) = lo := by rw [wrapU64]; omega
          have u2 : IntKind.u64.wrap (hi : Int) = hi := by rw [wrapU64]; omega
          have r0 : w1.cell? ⟨w.heap.size + 1, 0, none⟩ = some (.int .i64 0) := (cell_of_row w1 _ _ _ _ _ HX1.out.2.1).trans rfl; have r1 : w1.cell? ⟨w.heap.size + 1, 1, none⟩ = some (.int .i64 0) := (cell_of_row w1 _ _ _ _ _ HX1.out.2.1).trans rfl; have r2 : w1.cell? ⟨w.heap.size + 1, 2, none⟩ = some (.int .i64 0) := (cell_of_row w1 _ _ _ _ _ HX1.out.2.1).trans rfl
          have rf : ∀ o, w1.frozen? ⟨w.heap.size + 1, o, none⟩ = false := fun o => by simp [World.frozen?, HX1.out.2.1]
          by_cases hv1 : v < lo
          · have a1 : (v : Int) < (lo : Int) := by omega
            have HB : Hid (¬ WOk bs room zs) := fun hc => by
              have h9 := hc.2.2 k _ (by rw [HO.out.2.1]; exact hlt) HX.out; rw [HV.out] at h9
              simp [inb] at h9
              omega
            have f0 := rf 0; have f1 := rf 1; have f2 := rf 2; go_wp2; refine bodyPost_ret (v := .tuple #[.agg #[.int .i64 0, .int .i64 0, .int .i64 0], .slice none 0 0, .bool false]) (by simp [results, Tryz.results60, go_sem, r0, r1, r2]) rfl ⟨grownBy_setNew (grownBy_setNew (grownBy_setNew HX1.out.1 (Nat.le_succ _)) (Nat.le_succ _)) (Nat.le_succ _), .inr ⟨HB.out, rfl⟩⟩
          · have a1 : ¬ (v : Int) < (lo : Int) := by omega
            by_cases hv2 : hi < v
            · have a2 : (hi : Int) < (v : Int) := by omega
              have HB : Hid (¬ WOk bs room zs) := fun hc => by
                have h9 := hc.2.2 k _ (by rw [HO.out.2.1]; exact hlt) HX.out; rw [HV.out] at h9
                simp [inb] at h9
                omega
              have f0 := rf 0; have f1 := rf 1; have f2 := rf 2; go_wp2; refine bodyPost_ret (v := .tuple #[.agg #[.int .i64 0, .int .i64 0, .int .i64 0], .slice none 0 0, .bool false]) (by simp [results, Tryz.results60, go_sem, r0, r1, r2]) rfl ⟨grownBy_setNew (grownBy_setNew (grownBy_setNew HX1.out.1 (Nat.le_succ _)) (Nat.le_succ _)) (Nat.le_succ _), .inr ⟨HB.out, rfl⟩⟩
            · have a2 : ¬ (hi : Int) < (v : Int) := by omega
              have u3 : IntKind.i64.wrap (v : Int) = v := by simp [IntKind.wrap, IntKind.bits, IntKind.signed]; omega
              have HOK : Hid (okTo bs zs (k + 1)) := fun i b' hi' hb' => by
                by_cases hik : i = k
                · subst hik
                  rw [HX.out] at hb'; obtain rfl := Option.some.inj hb'; rw [HV.out]
                  simp [inb]
                  omega
                · exact HR.out.1 i b' (by omega) hb'
              have HN2 : Hid ((w1.setCell ⟨w.heap.size + 1 + 1, k, none⟩ (.int .i64 (v : Int))).heap[w.heap.size + 1 + 1]? = some (.cells #[.int .i64 ((fld bs zs (k + 1) 0 : Nat) : Int), .int .i64 ((fld bs zs (k + 1) 1 : Nat) : Int), .int .i64 ((fld bs zs (k + 1) 2 : Nat) : Int)] 123 (0, 0)) ∧ w.grownBy (w1.setCell ⟨w.heap.size + 1 + 1, k, none⟩ (.int .i64 (v : Int))) none ∧ (w1.setCell ⟨w.heap.size + 1 + 1, k, none⟩ (.int .i64 (v : Int))).heap[w.heap.size + 1]? = some (.cells #[.int .i64 0, .int .i64 0, .int .i64 0] 123 (0, 0))) := by
                refine ⟨?_, grownBy_setNew HX1.out.1 (Nat.le_trans (Nat.le_succ _) (Nat.le_succ _)), set_oth k _ (by omega) HX1.out.2.1⟩; have h9 := set_blkL k (.int .i64 (v : Int)) HX1.out.2.2.1; have hbl := HO.out.2.1; have hv' := HV.out
                have hkb : k < bs.length := by rw [hbl]; exact hlt
                have e9 : v = fld bs zs (k + 1) k := by rw [fld_same hkb, hv']
                rw [e9] at h9 ⊢; clear e9
                rcases (show k = 0 ∨ k = 1 ∨ k = 2 by omega) with rfl | rfl | rfl
                · rw [fld_ne (i := 1) (by decide), fld_ne (i := 2) (by decide)]
                  exact h9
                · rw [fld_ne (i := 0) (by decide), fld_ne (i := 2) (by decide)]
                  exact h9
                · rw [fld_ne (i := 0) (by decide), fld_ne (i := 1) (by decide)]
                  exact h9
              have s0 : ∃ u, w1.cell? ⟨w.heap.size + 1 + 1, k, none⟩ = some (.int .i64 u) := by
                rw [cell_of_row w1 _ _ _ _ _ HX1.out.2.2.1]
                rcases (show k = 0 ∨ k = 1 ∨ k = 2 by omega) with rfl | rfl | rfl <;> exact ⟨_, rfl⟩
              obtain ⟨u9, s0⟩ := s0
              have sf : w1.frozen? ⟨w.heap.size + 1 + 1, k, none⟩ = false := by simp [World.frozen?, HX1.out.2.2.1]
              have hk3 : (k : Int) < 3 := by omega
              clear r0 r1 r2 rf; go_wp2
              go_roundw
              case rel => exact ⟨k + 1, by omega, by go_num, HOK.out, HN2.out.2.1, HN2.out.2.2, HN2.out.1⟩
              case measure => simp [intOf]; omega
        · obtain rfl : k = n := by omega
          have HW : Hid (WOk bs room zs) := ⟨by rw [HO.out.2.1, HO.out.2.2.2.2]; omega, by rw [HO.out.2.1, HO.out.2.2.2.2]; omega, by rw [HO.out.2.1]; exact HR.out.1⟩
          have z2 : 8 * (k : Int) ≤ (len : Int) := by omega
          have z3 : (len : Int) ≤ (cap : Int) := by omega
          have z0 : (0 : Int) ≤ 8 * (k : Int) := by omega
          have zt : (8 * (k : Int)).toNat = 8 * k := by omega
          by_cases hcap : cap = 8 * k
          · have hcI : (cap : Int) = 8 * (k : Int) := by omega
            have hS : wr.drew.heap[w.heap.size + 1 + 1]? = some (.cells #[.int .i64 ((fld bs zs k 0 : Nat) : Int), .int .i64 ((fld bs zs k 1 : Nat) : Int), .int .i64 ((fld bs zs k 2 : Nat) : Int)] 123 (0, 0)) := HR.out.2.2.2; have r0 : wr.cell? ⟨w.heap.size + 1, 0, none⟩ = some (.int .i64 0) := (cell_of_row wr _ _ _ _ _ HR.out.2.2.1).trans rfl
            have f0 : wr.frozen? ⟨w.heap.size + 1, 0, none⟩ = false := by simp [World.frozen?, HR.out.2.2.1]
            have r1 : wr.cell? ⟨w.heap.size + 1, 1, none⟩ = some (.int .i64 0) := (cell_of_row wr _ _ _ _ _ HR.out.2.2.1).trans rfl
            have f1 : wr.frozen? ⟨w.heap.size + 1, 1, none⟩ = false := by simp [World.frozen?, HR.out.2.2.1]
            have r2 : wr.cell? ⟨w.heap.size + 1, 2, none⟩ = some (.int .i64 0) := (cell_of_row wr _ _ _ _ _ HR.out.2.2.1).trans rfl
            have f2 : wr.frozen? ⟨w.heap.size + 1, 2, none⟩ = false := by simp [World.frozen?, HR.out.2.2.1]
            go_wp2; refine wp_region_Z (fun W => W.heap[w.heap.size + 1 + 1]? = some (.cells #[.int .i64 ((fld bs zs k 0 : Nat) : Int), .int .i64 ((fld bs zs k 1 : Nat) : Int), .int .i64 ((fld bs zs k 2 : Nat) : Int)] 123 (0, 0))) (fun _ => false) (by kernel_rfl) ?_; refine wpAnyZ_loadS (i := 0) (v := ?vz1) rfl (by kernel_rfl) (by kernel_rfl) (by kernel_rfl) (fun _ _ _ h => h) (fun _ => rfl) (Or.inl ⟨by rfl, ?yz1⟩) hS ?rz1
            case yz1 => (intro W hW; have c0 : W.cell? ⟨w.heap.size + 1 + 1, 0, none⟩ = some (.int .i64 ((fld bs zs k 0 : Nat) : Int)) := (cell_of_row W _ _ _ _ _ hW).trans rfl; have c1 : W.cell? ⟨w.heap.size + 1 + 1, 1, none⟩ = some (.int .i64 ((fld bs zs k 1 : Nat) : Int)) := (cell_of_row W _ _ _ _ _ hW).trans rfl; have c2 : W.cell? ⟨w.heap.size + 1 + 1, 2, none⟩ = some (.int .i64 ((fld bs zs k 2 : Nat) : Int)) := (cell_of_row W _ _ _ _ _ hW).trans rfl; go_simp; first | done | with_reducible rfl)
            simp only [Act.put, List.setIfInBounds_toArray, List.set_cons_zero, List.set_cons_succ]; refine wpAnyZ_take' (i := 1) (v := ?vz2) rfl (by kernel_rfl) (by kernel_rfl) (by kernel_rfl) (fun _ _ _ h => h) (Or.inl ⟨by rfl, ?yz2⟩) ?rz2
            case yz2 => (intro w _; go_simp; first | done | with_reducible rfl)
            simp only [Act.put, List.setIfInBounds_toArray, List.set_cons_zero, List.set_cons_succ]; refine wpAnyZ_take' (i := 2) (v := ?vz3) rfl (by kernel_rfl) (by kernel_rfl) (by kernel_rfl) (fun _ _ _ h => h) (Or.inl ⟨by rfl, ?yz3⟩) ?rz3
            case yz3 => (intro w _; go_simp; first | done | with_reducible rfl)
            simp only [Act.put, List.setIfInBounds_toArray, List.set_cons_zero, List.set_cons_succ]; refine wpAnyZ_take' (i := 3) (v := ?vz4) rfl (by kernel_rfl) (by kernel_rfl) (by kernel_rfl) (fun _ _ _ h => h) (Or.inl ⟨by rfl, ?yz4⟩) ?rz4
            case yz4 => (intro w _; go_simp; first | done | with_reducible rfl)
            simp only [Act.put, List.setIfInBounds_toArray, List.set_cons_zero, List.set_cons_succ]; refine wpAnyZ_one' (i := 4) (by kernel_rfl) rfl (fun K hK => ?_); go_simp; refine hK.out _ _ (fun _ h => set_oth 2 _ (by omega) (set_oth 1 _ (by omega) (set_oth 0 _ (by omega) h))) ?_; clear hK K
            try simp only [Act.put, List.setIfInBounds_toArray, List.set_cons_zero, List.set_cons_succ]
            refine wpAnyZ_one' (i := 5) (by kernel_rfl) rfl (fun K hK => ?_); go_simp; refine hK.out _ _ (fun _ h => h) ?_; clear hK K
            try simp only [Act.put, List.setIfInBounds_toArray, List.set_cons_zero, List.set_cons_succ]
            refine wpAnyZ_one' (i := 6) (by kernel_rfl) rfl (fun K hK => ?_); go_simp; refine hK.out _ _ (fun _ h => h) ?_; clear hK K
            try simp only [Act.put, List.setIfInBounds_toArray, List.set_cons_zero, List.set_cons_succ]
            refine wpAnyZ_done (by kernel_rfl) ?_ _; go_wp2; refine bodyPost_ret (v := .tuple #[.agg #[.int .i64 ((fld bs zs k 0 : Nat) : Int), .int .i64 ((fld bs zs k 1 : Nat) : Int), .int .i64 ((fld bs zs k 2 : Nat) : Int)], .slice (some ⟨b, off, none⟩) (len - 8 * k) (cap - 8 * k), .bool true]) (by simp [results, Tryz.results60, go_sem, r0, r1, r2]; omega) rfl ⟨grownBy_setNew (grownBy_setNew (grownBy_setNew (grownBy_drew HR.out.2.1) (Nat.le_succ _)) (Nat.le_succ _)) (Nat.le_succ _), .inl ⟨HW.out, by rw [adr, if_pos hcap]⟩⟩
          · have hcI : ¬ (cap : Int) = 8 * (k : Int) := by omega
            have hS : wr.drew.heap[w.heap.size + 1 + 1]? = some (.cells #[.int .i64 ((fld bs zs k 0 : Nat) : Int), .int .i64 ((fld bs zs k 1 : Nat) : Int), .int .i64 ((fld bs zs k 2 : Nat) : Int)] 123 (0, 0)) := HR.out.2.2.2; have r0 : wr.cell? ⟨w.heap.size + 1, 0, none⟩ = some (.int .i64 0) := (cell_of_row wr _ _ _ _ _ HR.out.2.2.1).trans rfl
            have f0 : wr.frozen? ⟨w.heap.size + 1, 0, none⟩ = false := by simp [World.frozen?, HR.out.2.2.1]
            have r1 : wr.cell? ⟨w.heap.size + 1, 1, none⟩ = some (.int .i64 0) := (cell_of_row wr _ _ _ _ _ HR.out.2.2.1).trans rfl
            have f1 : wr.frozen? ⟨w.heap.size + 1, 1, none⟩ = false := by simp [World.frozen?, HR.out.2.2.1]
            have r2 : wr.cell? ⟨w.heap.size + 1, 2, none⟩ = some (.int .i64 0) := (cell_of_row wr _ _ _ _ _ HR.out.2.2.1).trans rfl
            have f2 : wr.frozen? ⟨w.heap.size + 1, 2, none⟩ = false := by simp [World.frozen?, HR.out.2.2.1]
            go_wp2; refine wp_region_Z (fun W => W.heap[w.heap.size + 1 + 1]? = some (.cells #[.int .i64 ((fld bs zs k 0 : Nat) : Int), .int .i64 ((fld bs zs k 1 : Nat) : Int), .int .i64 ((fld bs zs k 2 : Nat) : Int)] 123 (0, 0))) (fun _ => false) (by kernel_rfl) ?_; refine wpAnyZ_loadS (i := 0) (v := ?vz5) rfl (by kernel_rfl) (by kernel_rfl) (by kernel_rfl) (fun _ _ _ h => h) (fun _ => rfl) (Or.inl ⟨by rfl, ?yz5⟩) hS ?rz5
            case yz5 => (intro W hW; have c0 : W.cell? ⟨w.heap.size + 1 + 1, 0, none⟩ = some (.int .i64 ((fld bs zs k 0 : Nat) : Int)) := (cell_of_row W _ _ _ _ _ hW).trans rfl; have c1 : W.cell? ⟨w.heap.size + 1 + 1, 1, none⟩ = some (.int .i64 ((fld bs zs k 1 : Nat) : Int)) := (cell_of_row W _ _ _ _ _ hW).trans rfl; have c2 : W.cell? ⟨w.heap.size + 1 + 1, 2, none⟩ = some (.int .i64 ((fld bs zs k 2 : Nat) : Int)) := (cell_of_row W _ _ _ _ _ hW).trans rfl; go_simp; first | done | with_reducible rfl)
            simp only [Act.put, List.setIfInBounds_toArray, List.set_cons_zero, List.set_cons_succ]; refine wpAnyZ_take' (i := 1) (v := ?vz6) rfl (by kernel_rfl) (by kernel_rfl) (by kernel_rfl) (fun _ _ _ h => h) (Or.inl ⟨by rfl, ?yz6⟩) ?rz6
            case yz6 => (intro w _; go_simp; first | done | with_reducible rfl)
            simp only [Act.put, List.setIfInBounds_toArray, List.set_cons_zero, List.set_cons_succ]; refine wpAnyZ_take' (i := 2) (v := ?vz7) rfl (by kernel_rfl) (by kernel_rfl) (by kernel_rfl) (fun _ _ _ h => h) (Or.inl ⟨by rfl, ?yz7⟩) ?rz7
            case yz7 => (intro w _; go_simp; first | done | with_reducible rfl)
            simp only [Act.put, List.setIfInBounds_toArray, List.set_cons_zero, List.set_cons_succ]; refine wpAnyZ_take' (i := 3) (v := ?vz8) rfl (by kernel_rfl) (by kernel_rfl) (by kernel_rfl) (fun _ _ _ h => h) (Or.inl ⟨by rfl, ?yz8⟩) ?rz8
            case yz8 => (intro w _; go_simp; first | done | with_reducible rfl)
            simp only [Act.put, List.setIfInBounds_toArray, List.set_cons_zero, List.set_cons_succ]; refine wpAnyZ_one' (i := 4) (by kernel_rfl) rfl (fun K hK => ?_); go_simp; refine hK.out _ _ (fun _ h => set_oth 2 _ (by omega) (set_oth 1 _ (by omega) (set_oth 0 _ (by omega) h))) ?_; clear hK K
            try simp only [Act.put, List.setIfInBounds_toArray, List.set_cons_zero, List.set_cons_succ]
            refine wpAnyZ_one' (i := 5) (by kernel_rfl) rfl (fun K hK => ?_); go_simp; refine hK.out _ _ (fun _ h => h) ?_; clear hK K
            try simp only [Act.put, List.setIfInBounds_toArray, List.set_cons_zero, List.set_cons_succ]
            refine wpAnyZ_one' (i := 6) (by kernel_rfl) rfl (fun K hK => ?_); go_simp; refine hK.out _ _ (fun _ h => h) ?_; clear hK K
            try simp only [Act.put, List.setIfInBounds_toArray, List.set_cons_zero, List.set_cons_succ]
            refine wpAnyZ_done (by kernel_rfl) ?_ _; go_wp2; refine bodyPost_ret (v := .tuple #[.agg #[.int .i64 ((fld bs zs k 0 : Nat) : Int), .int .i64 ((fld bs zs k 1 : Nat) : Int), .int .i64 ((fld bs zs k 2 : Nat) : Int)], .slice (some ⟨b, off + 8 * k, none⟩) (len - 8 * k) (cap - 8 * k), .bool true]) (by simp [results, Tryz.results60, go_sem, r0, r1, r2]) rfl ⟨grownBy_setNew (grownBy_setNew (grownBy_setNew (grownBy_drew HR.out.2.1) (Nat.le_succ _)) (Nat.le_succ _)) (Nat.le_succ _), .inl ⟨HW.out, by rw [adr, if_neg hcap]⟩⟩
end Go.Proofs.YtjnegjgpkboocaaGreatDoor
/-
  The laws' helpers over bytes, walked: toByteS (a copy in new memory), eqByteS.
-/
namespace Go.Proofs.YtjnegjgpkboocaaGreatDoor
open Go.RowKit

/-- the copy's bytes behind k rounds -/
def cop (zs : List Nat) (k : Nat) : List Nat := zs.take k ++ List.replicate (zs.length - k) 0
theorem cop_len (zs : List Nat) (k : Nat) (h : k ≤ zs.length) : (cop zs k).length = zs.length := by simp [cop]; omega
theorem cop_zero (zs : List Nat) : cop zs 0 = List.replicate zs.length 0 := by simp [cop]
theorem cop_all (zs : List Nat) : cop zs zs.length = zs := by simp [cop]
theorem cop_succ (zs : List Nat) (k : Nat) (h : k < zs.length) : (cop zs k).set k (zs.getD k 0) = cop zs (k + 1) := by
  unfold cop
  rw [List.set_append_right _ _ (by simp; omega)]
  have e1 : k - (List.take k zs).length = 0 := by simp; omega
  rw [e1]
  obtain ⟨m, hm⟩ : ∃ m, zs.length - k = m + 1 := ⟨zs.length - k - 1, by omega⟩
  rw [hm, show zs.length - (k + 1) = m by omega, List.replicate_succ, List.set_cons_zero]
  rw [List.take_succ_eq_append_getElem h, List.append_assoc, List.singleton_append]
  simp only [List.getD, List.getElem?_eq_getElem h, Option.getD_some]

set_option maxHeartbeats 400000 in
theorem toByteS_any (oa : Option Addr) (len cap : Nat) (zs : List Nat) (w : World) (hsl : SlB w oa len zs) (hm : len ≤ 1073741824) :
    Calls Tryz.prog 35 #[.slice oa len cap] w fun e w' => e = .returned (.slice (some ⟨w.heap.size, 0, none⟩) len len) ∧ Own w' 5 w.heap.size zs ∧ w.grownBy w' none := by
  have HS : Hid (SlB w oa len zs) := hsl
  obtain ⟨hl, hb, hc⟩ := hsl
  have HB : Hid (∀ z ∈ zs, z < 256) := hb
  clear hb
  obtain ⟨i0, hi, hz0, hz1, hz2⟩ := info_parts Tryz.infoByte
  go_enter Tryz.func35, Tryz.ntmps35
  go_wp2_with (at_make; refine wpList_make_full _ rfl (.tmp 6) (.tmp 6) 37 rfl w.heap.size 5 i0 (.int .u8 0) 1 Tryz.underlying37 hi hz0 hz1 .i64 .i64 len len len rfl rfl rfl rfl ?cb ?cm (Nat.le_refl _) ?_)
  case cb => rw [hz2]; omega
  case cm => unfold maxLen; omega
  intro w1 hown hgrow
  have hO : Own w1 5 w.heap.size (cop zs 0) := by
    refine own_made (n := len) (cap := len) (base := w.heap.size) ?_ ?_
    · have e : (madeCells #[Value.int .u8 0] len).toList = (cop zs 0).map bv := by
        rw [cop_zero, hl]
        simp [toList_madeCells_one, bv]
      rw [← e]; exact hown
    · intro z hz; rw [cop_zero] at hz; have := List.eq_of_mem_replicate hz; omega
  clear hown
  have HO : Hid (Own w1 5 w.heap.size (cop zs 0)) := hO
  have HG : Hid (w.grownBy w1 none) := hgrow
  clear hO hgrow
  go_wp2
  go_loopw [4] (fun i wr => ∃ k : Nat, k ≤ len ∧ i = .int .i64 k ∧ Own wr 5 w.heap.size (cop zs k) ∧ w.grownBy wr none) (fun i _ => len - (intOf i).toNat)
  case atStart => exact ⟨0, Nat.zero_le _, rfl, HO.out, HG.out⟩
  case round =>
    obtain ⟨k, hk, rfl, hO, hG⟩ := hrel
    by_cases hlt : k < len
    · obtain ⟨b, off, rfl, hcc⟩ := hc (by omega)
      have hck : wr.cell? ⟨b, off + k, none⟩ = some (.int .u8 ((zs.getD k 0 : Nat) : Int)) := by
        have h0 := hcc k hlt
        exact (World.cell?_of_block (w := w) (a := ⟨b, off + k, none⟩) (hG.block b (cell_block_lt h0) (by simp))).trans h0
      have hfz := hO.free k
      have hz256 : zs.getD k 0 < 256 := by
        have hkz : k < zs.length := by omega
        refine HB.out _ ?_
        simp [List.getD, hkz]
      have hcw := hO.cell k (by rw [cop_len _ _ (by omega)]; omega)
      have hO2 := hO.set k (zs.getD k 0) hz256
      rw [cop_succ zs k (by omega)] at hO2
      have hG2 : w.grownBy (wr.setCell ⟨w.heap.size, k, none⟩ (.int .u8 ((zs.getD k 0 : Nat) : Int))) none :=
        grownBy_new hG (grownBy_setCell (grownBy_refl wr _)) (Nat.le_refl _)
      obtain ⟨c, hce⟩ : ∃ c, c = zs.getD k 0 := ⟨_, rfl⟩
      rw [← hce] at hck hO2 hG2 hz256
      obtain ⟨c0, hce0⟩ : ∃ c0, c0 = (cop zs k).getD k 0 := ⟨_, rfl⟩
      rw [← hce0] at hcw
      have R : Hid (_ ∧ _) := ⟨hO2, hG2⟩
      clear hcc hc hce hO hG hO2 hG2 hce0
      go_wp2
      go_roundw
      case rel => exact ⟨k + 1, by omega, by go_num, R.out.1, R.out.2⟩
      case measure => simp [intOf]; omega
    · obtain rfl : k = len := by omega
      have R : Hid (_ ∧ _) := ⟨hO, hG⟩
      clear hO hG
      go_wp2
      go_ret
      exact ⟨rfl, by rw [← hl] at R; rw [cop_all] at R; exact R.out.1, R.out.2⟩

set_option maxHeartbeats 800000 in
theorem eqByteS_same (oa ob : Option Addr) (len ca cb : Nat) (zs : List Nat) (w : World) (ha : SlB w oa len zs) (hb : SlB w ob len zs) (hm : len ≤ 1073741824) :
    Calls Tryz.prog 45 #[.slice oa len ca, .slice ob len cb] w fun e w' => e = .returned (.bool true) ∧ w.grownBy w' none := by
  obtain ⟨hl, hz, hc⟩ := ha
  obtain ⟨_, _, hd⟩ := hb
  clear hz
  go_enter Tryz.func45, Tryz.ntmps45
  go_wp2
  go_loopw [5] (fun i wr => ∃ k : Nat, k ≤ len ∧ i = .int .i64 k ∧ w.grownBy wr none) (fun i _ => len - (intOf i).toNat)
  case atStart => exact ⟨0, Nat.zero_le _, rfl, grownBy_refl _ _⟩
  case round =>
    obtain ⟨k, hk, rfl, hG⟩ := hrel
    by_cases hlt : k < len
    · obtain ⟨b, off, rfl, hcc⟩ := hc (by omega)
      obtain ⟨b', off', rfl, hdd⟩ := hd (by omega)
      have h1 : wr.cell? ⟨b, off + k, none⟩ = some (.int .u8 ((zs.getD k 0 : Nat) : Int)) := by
        have h0 := hcc k hlt
        exact (World.cell?_of_block (w := w) (a := ⟨b, off + k, none⟩) (hG.block b (cell_block_lt h0) (by simp))).trans h0
      have h2 : wr.cell? ⟨b', off' + k, none⟩ = some (.int .u8 ((zs.getD k 0 : Nat) : Int)) := by
        have h0 := hdd k hlt
        exact (World.cell?_of_block (w := w) (a := ⟨b', off' + k, none⟩) (hG.block b' (cell_block_lt h0) (by simp))).trans h0
      obtain ⟨c, hce⟩ : ∃ c, c = zs.getD k 0 := ⟨_, rfl⟩
      rw [← hce] at h1 h2
      have HG : Hid (w.grownBy wr none) := hG
      clear hcc hdd hc hd hce hG
      go_wp2
      go_region
      all_goals (try go_wp2)
      all_goals go_roundw
      all_goals first | (simp [intOf]; omega) | exact ⟨k + 1, by omega, by go_num, by repeat (first | exact HG.out | apply grownBy_drew)⟩
    · have HG : Hid (w.grownBy wr none) := hG
      clear hG
      go_wp2
      go_ret
      exact ⟨rfl, HG.out⟩
end Go.Proofs.YtjnegjgpkboocaaGreatDoor
/-
  The laws' helpers over bytes, walked: markByteS (writes its own row), heldByteS, szByteS; over records: szRecord, markRecord, eqRecord, toRecord.
-/
namespace Go.Proofs.YtjnegjgpkboocaaGreatDoor
open Go.RowKit

/-- the bytes behind k rounds of markByteS -/
def marked (zs : List Nat) (m : Nat) : Nat → List Nat
  | 0 => zs
  | k + 1 => (marked zs m k).set k ((m + k) % 256)
theorem marked_len (zs : List Nat) (m k : Nat) : (marked zs m k).length = zs.length := by
  induction k with
  | zero => rfl
  | succ k ih => simp [marked, ih]
theorem marked_get (zs : List Nat) (m k i : Nat) (hi : i < zs.length) (hk : i < k) : (marked zs m k).getD i 0 = (m + i) % 256 := by
  induction k with
  | zero => omega
  | succ k ih =>
    by_cases e : i = k
    · subst e
      simp [marked, List.getD, marked_len, hi]
    · have := ih (by omega)
      simp only [marked, List.getD, List.getElem?_set] at this ⊢
      rw [if_neg (by omega)]
      exact this

set_option maxHeartbeats 400000 in
theorem markByteS_own (g len cap m : Nat) (zs : List Nat) (w : World) (hO : Own w 5 g zs) (hl : zs.length = len) (hm : len ≤ 1073741824) (hm2 : m ≤ 1073741824) :
    Calls Tryz.prog 24 #[.slice (some ⟨g, 0, none⟩) len cap, .int .i64 (m : Int)] w fun e w' => e = .returned (.int .i64 ((m : Int) + len)) ∧ Own w' 5 g (marked zs m len) ∧ w.grownBy w' (some g) := by
  have HO : Hid (Own w 5 g zs) := hO
  clear hO
  go_enter Tryz.func24, Tryz.ntmps24
  go_wp2
  go_loopw [1, 5] (fun v i wr => ∃ k : Nat, k ≤ len ∧ i = .int .i64 k ∧ v = .int .i64 ((m : Int) + k) ∧ Own wr 5 g (marked zs m k) ∧ w.grownBy wr (some g)) (fun _ i _ => len - (intOf i).toNat)
  case atStart => exact ⟨0, Nat.zero_le _, rfl, by go_num, HO.out, grownBy_refl _ _⟩
  case round =>
    obtain ⟨k, hk, rfl, rfl, hO, hG⟩ := hrel
    by_cases hlt : k < len
    · have hcw := hO.cell k (by rw [marked_len]; omega)
      have hfz := hO.free k
      have R : Hid (Own (wr.setCell ⟨g, k, none⟩ (.int .u8 (((m + k) % 256 : Nat) : Int))) 5 g (marked zs m (k + 1)) ∧ w.grownBy (wr.setCell ⟨g, k, none⟩ (.int .u8 (((m + k) % 256 : Nat) : Int))) (some g)) :=
        ⟨hO.set k _ (by omega), grownBy_setCell hG⟩
      obtain ⟨c0, hce0⟩ : ∃ c0, c0 = (marked zs m k).getD k 0 := ⟨_, rfl⟩
      rw [← hce0] at hcw
      have e1 : (((m + k) % 256 : Nat) : Int) = ((m : Int) + k) % 256 := by omega
      rw [e1] at R
      clear hO hG hce0 e1
      go_wp2
      go_roundw
      case rel => exact ⟨k + 1, by omega, by go_num, by go_num, R.out.1, R.out.2⟩
      case measure => simp [intOf]; omega
    · obtain rfl : k = len := by omega
      have R : Hid (_ ∧ _) := ⟨hO, hG⟩
      clear hO hG
      go_wp2
      go_ret
      exact ⟨rfl, R.out.1, R.out.2⟩

set_option maxHeartbeats 400000 in
theorem heldByteS_own (g len cap m : Nat) (zs : List Nat) (w : World) (hO : Own w 5 g zs) (hl : zs.length = len) (hz : ∀ i, i < len → zs.getD i 0 = (m + i) % 256) (hm : len ≤ 1073741824) (hm2 : m ≤ 1073741824) :
    Calls Tryz.prog 46 #[.slice (some ⟨g, 0, none⟩) len cap, .int .i64 (m : Int)] w fun e w' => e = .returned (.int .i64 ((m : Int) + len)) ∧ w' = w := by
  have HO : Hid (Own w 5 g zs) := hO
  have HZ : Hid (∀ i, i < len → zs.getD i 0 = (m + i) % 256) := hz
  clear hO hz
  go_enter Tryz.func46, Tryz.ntmps46
  go_wp2
  go_loop [1, 5] (fun v i => ∃ k : Nat, k ≤ len ∧ i = .int .i64 k ∧ v = .int .i64 ((m : Int) + k)) (fun _ i => len - (intOf i).toNat)
  case atStart => exact ⟨0, Nat.zero_le _, rfl, by go_num⟩
  case round =>
    obtain ⟨k, hk, rfl, rfl⟩ := hrel
    by_cases hlt : k < len
    · have hcw := HO.out.cell k (by omega)
      rw [HZ.out k hlt] at hcw
      have e1 : (((m + k) % 256 : Nat) : Int) = ((m : Int) + k) % 256 := by omega
      rw [e1] at hcw
      clear e1
      go_wp2
      go_round
      case rel => exact ⟨k + 1, by omega, by go_num, by go_num⟩
      case measure => simp [intOf]; omega
    · obtain rfl : k = len := by omega
      go_wp2
      go_ret
      exact ⟨rfl, rfl⟩

set_option maxHeartbeats 400000 in
theorem szByteS_ok (oa : Option Addr) (len cap L : Nat) (w : World) (h : len ≤ L) (hL : L ≤ 1073741824) :
    Calls Tryz.prog 29 #[.slice oa len cap, .int .i64 (L : Int)] w fun e w' => e = .returned (.int .i64 ((L : Int) - len)) ∧ w' = w := by
  go_enter Tryz.func29, Tryz.ntmps29
  go_wp2
  go_ret
  exact ⟨rfl, rfl⟩
set_option maxHeartbeats 400000 in
theorem szByteS_big (oa : Option Addr) (len cap L : Nat) (w : World) (h : L < len) (hL : L ≤ 1073741824) (hx : len ≤ maxLen) :
    Calls Tryz.prog 29 #[.slice oa len cap, .int .i64 (L : Int)] w fun e w' => e = .returned (.int .i64 (-1)) ∧ w' = w := by
  unfold maxLen at hx
  go_enter Tryz.func29, Tryz.ntmps29
  go_wp2
  go_ret
  exact ⟨rfl, rfl⟩
end Go.Proofs.YtjnegjgpkboocaaGreatDoor
/-
  string(b) of bytes that lie somewhere: the conversion's run. Nothing here reaches the dump.
-/
namespace Go.Proofs.YtjnegjgpkboocaaGreatDoor
open Go.RowKit

/-- bytes as a string -/
def strB (zs : List Nat) : ByteArray := ⟨(zs.map UInt8.ofNat).toArray⟩
theorem strB_toList (zs : List Nat) : (strB zs).toList = zs.map UInt8.ofNat := by simp [strB]
theorem strB_size (zs : List Nat) : (strB zs).size = zs.length := by simp [strB, ByteArray.size]
theorem foldl_push (l : List Nat) : ∀ s : ByteArray, (l.map (fun n : Nat => (n : Int))).foldl (fun r n => r.push (UInt8.ofNat n.toNat)) s = ⟨s.data ++ (l.map UInt8.ofNat).toArray⟩ := by
  induction l with
  | nil => intro s; simp
  | cons x l ih =>
    intro s
    simp only [List.map_cons, List.foldl_cons]
    rw [ih]
    congr 1
    apply Array.ext'
    simp [ByteArray.push]
theorem run_str_b {P : Program} (w : World) {src dst e : TypeId} (hs : P.underlying src = some (.slice e)) (he : P.underlying e = some (.int .u8)) (hd : P.underlying dst = some .string)
    {oa : Option Addr} {n : Nat} {zs : List Nat} (h : SlB w oa n zs) (c : Nat) : (convert src dst (.slice oa n c)).run P w = .ok (.string (strB zs)) w := by
  rw [run_convert_bytes_string w src dst e oa n c hs he hd]
  by_cases hn : n = 0
  · subst hn
    obtain rfl : zs = [] := List.eq_nil_of_length_eq_zero h.1
    cases oa with
    | none => rfl
    | some a =>
      rw [run_bytesToString w a 0 c [] (by rfl)]
      rfl
  · obtain ⟨ad, rfl, hc⟩ := h.src (by omega)
    have hl : (loadCells ad n).run P w = .ok ((zs.map (fun n : Nat => (n : Int))).map (Value.int .u8)).toArray w := by
      have h1 := run_loadCells_list (P := P) (w := w) ad (zs.map bv) hc
      have h2 : (zs.map bv).length = n := by simpa using h.1
      rw [h2] at h1
      rw [h1]
      simp [bv, Function.comp_def]
    rw [run_bytesToString w ad n c _ hl, foldl_push]
    simp [strB]
/-- two strings of bytes are one where the bytes are -/
theorem strB_eq (xs ys : List Nat) (hx : ∀ z ∈ xs, z < 256) (hy : ∀ z ∈ ys, z < 256) : ((strB xs).toList == (strB ys).toList) = decide (xs = ys) := by
  have hinj : ∀ (a b : List Nat), (∀ z ∈ a, z < 256) → (∀ z ∈ b, z < 256) → a.map UInt8.ofNat = b.map UInt8.ofNat → a = b := by
    intro a
    induction a with
    | nil => intro b _ _ h; cases b with
      | nil => rfl
      | cons => simp at h
    | cons x a ih =>
      intro b ha hb h
      cases b with
      | nil => simp at h
      | cons y b =>
        simp only [List.map_cons, List.cons.injEq] at h
        have e1 : x = y := by
          have := congrArg UInt8.toNat h.1
          have h3 := ha x (by simp)
          have h4 := hb y (by simp)
          simpa [Nat.mod_eq_of_lt h3, Nat.mod_eq_of_lt h4] using this
        rw [e1, ih b (fun z hz => ha z (by simp [hz])) (fun z hz => hb z (by simp [hz])) h.2]
  rw [strB_toList, strB_toList]
  by_cases he : xs = ys
  · subst he; simp
  · rw [decide_eq_false he]
    simpa using fun h => he (hinj xs ys hx hy h)
end Go.Proofs.YtjnegjgpkboocaaGreatDoor
/-
  Words for rows of ints: a slice of ints (SlI), a row of the call's own (OwnI). Nothing here reaches the dump.
-/
namespace Go.Proofs.YtjnegjgpkboocaaGreatDoor
open Go.ChangeShapes Go.WideShapes Go.ChangeAt Go.RowKit

/-- an int as a value -/
def iv (n : Int) : Value := .int .i64 n
/-- a number that an int can be -/
def i64Ok (n : Int) : Prop := -9223372036854775808 ≤ n ∧ n ≤ 9223372036854775807

/-- A slice of ints that reads as zs, in the world w (its address unknown where it is empty). -/
def SlI (w : World) (oa : Option Addr) (len : Nat) (zs : List Int) : Prop :=
  zs.length = len ∧ (∀ z ∈ zs, i64Ok z) ∧ (len ≠ 0 → ∃ b off, oa = some ⟨b, off, none⟩ ∧ ∀ i, i < len → w.cell? ⟨b, off + i, none⟩ = some (.int .i64 (zs.getD i 0)))

/-- Block g is a row of ints, not frozen, whose first cells are zs. -/
def OwnI (w : World) (e : TypeId) (g : Nat) (zs : List Int) : Prop :=
  (∀ z ∈ zs, i64Ok z) ∧ ∃ cur : Array Value, w.heap[g]? = some (.cells cur e (0, 0)) ∧ ∀ i, i < zs.length → cur[i]? = some (.int .i64 (zs.getD i 0))

theorem getI_mem {zs : List Int} {i : Nat} (h : i < zs.length) : zs.getD i 0 ∈ zs := by simp [List.getD, h]
theorem SlI.ok {w : World} {oa : Option Addr} {len : Nat} {zs : List Int} (h : SlI w oa len zs) {i : Nat} (hi : i < len) : i64Ok (zs.getD i 0) := h.2.1 _ (getI_mem (by rw [h.1]; exact hi))
theorem OwnI.lt {w : World} {e : TypeId} {g : Nat} {zs : List Int} (h : OwnI w e g zs) : g < w.heap.size := by
  obtain ⟨_, cur, hg, _⟩ := h
  exact (Array.getElem?_eq_some_iff.1 hg).1
theorem OwnI.cell {w : World} {e : TypeId} {g : Nat} {zs : List Int} (h : OwnI w e g zs) (i : Nat) (hi : i < zs.length) : w.cell? ⟨g, i, none⟩ = some (.int .i64 (zs.getD i 0)) := by
  obtain ⟨_, cur, hg, hc⟩ := h
  simp only [World.cell?, hg]
  simpa using hc i hi
theorem OwnI.free {w : World} {e : TypeId} {g : Nat} {zs : List Int} (h : OwnI w e g zs) (i : Nat) : w.frozen? ⟨g, i, none⟩ = false := by
  obtain ⟨_, cur, hg, hc⟩ := h
  simp [World.frozen?, hg]
theorem OwnI.of_block {w w' : World} {e : TypeId} {g : Nat} {zs : List Int} (h : OwnI w e g zs) (hb : w'.heap[g]? = w.heap[g]?) : OwnI w' e g zs := by
  obtain ⟨hz, cur, hg, hc⟩ := h
  exact ⟨hz, cur, hb.trans hg, hc⟩
theorem OwnI.grown {w w' : World} {row : Option Nat} {e : TypeId} {g : Nat} {zs : List Int} (h : OwnI w e g zs) (hg : w.grownBy w' row) (hne : some g ≠ row) : OwnI w' e g zs :=
  h.of_block (hg.block g h.lt hne)
theorem OwnI.sl {w : World} {e : TypeId} {g : Nat} {zs : List Int} (h : OwnI w e g zs) (len : Nat) (hl : zs.length = len) : SlI w (some ⟨g, 0, none⟩) len zs :=
  ⟨hl, h.1, fun _ => ⟨g, 0, rfl, fun i hi => by rw [Nat.zero_add]; exact h.cell i (by omega)⟩⟩
theorem OwnI.set {w : World} {e : TypeId} {g : Nat} {zs : List Int} (h : OwnI w e g zs) (i : Nat) (v : Int) (hv : i64Ok v) : OwnI (w.setCell ⟨g, i, none⟩ (.int .i64 v)) e g (zs.set i v) := by
  obtain ⟨hz, cur, hg, hc⟩ := h
  refine ⟨fun z hz' => ?_, cur.setIfInBounds i (.int .i64 v), heap_setCell_same w g i cur e _ hg, fun j hj => ?_⟩
  · rcases List.mem_or_eq_of_mem_set hz' with h1 | h1
    · exact hz z h1
    · rw [h1]; exact hv
  · rw [List.length_set] at hj
    have := hc j hj
    rw [Array.getElem?_setIfInBounds]
    by_cases e1 : i = j
    · subst e1
      have hs : i < cur.size := (Array.getElem?_eq_some_iff.1 this).1
      simp [hs, List.getD, hj]
    · simp [e1, this, List.getD]
theorem SlI.grown {w w' : World} {row : Option Nat} {oa : Option Addr} {len : Nat} {zs : List Int} (h : SlI w oa len zs) (hg : w.grownBy w' row) (hne : ∀ b off, oa = some ⟨b, off, none⟩ → some b ≠ row) : SlI w' oa len zs := by
  obtain ⟨h1, h2, h3⟩ := h
  refine ⟨h1, h2, fun hn => ?_⟩
  obtain ⟨b, off, rfl, hc⟩ := h3 hn
  exact ⟨b, off, rfl, fun i hi => (World.cell?_of_block (w := w) (a := ⟨b, off + i, none⟩) (hg.block b (cell_block_lt (hc i hi)) (hne b off rfl))).trans (hc i hi)⟩
theorem SlI.grown0 {w w' : World} {oa : Option Addr} {len : Nat} {zs : List Int} (h : SlI w oa len zs) (hg : w.grownBy w' none) : SlI w' oa len zs := h.grown hg (by simp)
theorem SlI.heap {w w' : World} {oa : Option Addr} {len : Nat} {zs : List Int} (h : SlI w oa len zs) (hh : w'.heap = w.heap) : SlI w' oa len zs := by
  obtain ⟨h1, h2, h3⟩ := h
  refine ⟨h1, h2, fun hn => ?_⟩
  obtain ⟨b, off, rfl, hc⟩ := h3 hn
  exact ⟨b, off, rfl, fun i hi => (World.cell?_of_block (w := w) (a := ⟨b, off + i, none⟩) (by rw [hh])).trans (hc i hi)⟩
/-- a row that a make has laid -/
theorem ownI_made {w' : World} {base e : Nat} {g n cap : Nat} {zs : List Int} (h : w'.ownsRow base e 1 (.slice (some ⟨g, 0, none⟩) n cap) n (zs.map iv)) (hz : ∀ z ∈ zs, i64Ok z) : OwnI w' e g zs := by
  rcases h.2 with ⟨h', _⟩ | ⟨g', cap', cur, h', _, hg, _, _, _, htake⟩
  · simp at h'
  · simp only [Value.slice.injEq, Option.some.injEq, Addr.mk.injEq, and_true, true_and] at h'
    obtain ⟨rfl, rfl⟩ := h'
    refine ⟨hz, cur, hg, fun i hi => ?_⟩
    have hl : zs.length = n := by simpa using h.1
    have h2 : (cur.toList.take (n * 1))[i]? = (zs.map iv)[i]? := by rw [htake]
    rw [List.getElem?_take, if_pos (by omega)] at h2
    rw [← Array.getElem?_toList, h2]
    simp [List.getD, hi, iv]

/-- a slice of ints that came in, opened once -/
theorem sli_open {H : Type} {enc : TypeId × Value → H} {P : Program} {W : World} {t e : TypeId} {a : Option Addr} {len cap : Nat} {d : DataW H} {p : List MemPlace}
    (hu : P.underlying t = some (.slice e)) (he : P.underlying e = some (.int .i64)) (hc : P.cellsOf e = 1)
    (h : DataW.Trod enc P W 0 (fun _ => true) true t (.slice a len cap) d p) : ∃ zs, SlI W a len zs ∧ len ≤ maxLen := by
  obtain ⟨fuel, hf⟩ := h
  rcases open_ints hu he hc hf with ⟨hcs, _⟩ | ⟨x, l, c, zs, hcs, _, hl, hm, hz, _, hcell, hwz⟩
  · simp [Value.cells] at hcs
    obtain ⟨rfl, rfl, rfl⟩ := hcs
    exact ⟨[], ⟨rfl, by simp, fun h => absurd rfl h⟩, Nat.zero_le _⟩
  · simp [Value.cells] at hcs
    obtain ⟨rfl, rfl, rfl⟩ := hcs
    have hz' : zs.length = cap := by simpa using hz
    refine ⟨zs.take len, ⟨by simp; omega, fun z hz1 => bounds_i64 (hwz z (List.mem_of_mem_take hz1)), fun hn => ?_⟩, by omega⟩
    obtain ⟨b, off, spot⟩ := x
    have h0 := hcell 0 (by omega)
    have hspot : spot = none := by simpa [Addr.add] using World.cell?_spot h0
    subst hspot
    refine ⟨b, off, rfl, fun i hi => ?_⟩
    have hi' := hcell i (by omega)
    have e1 : (zs.take len).getD i 0 = zs.getD i 0 := by simp [List.getD, hi]
    rw [e1]
    have e2 : (⟨b, off, none⟩ : Addr).add i = ⟨b, off + i, none⟩ := by
      by_cases h0' : i = 0 <;> simp [Addr.add, h0']
    rw [← e2]
    exact hi'
end Go.Proofs.YtjnegjgpkboocaaGreatDoor
/-
  markByteS and heldByteS over bytes that lie somewhere in a row, walked; markText; whole numbers marked and held.
-/
namespace Go.Proofs.YtjnegjgpkboocaaGreatDoor
open Go.RowKit

/-- the row behind k rounds of markByteS from its place off on -/
def mkAt (D : List Nat) (off m : Nat) : Nat → List Nat
  | 0 => D
  | k + 1 => (mkAt D off m k).set (off + k) ((m + k) % 256)
theorem mkAt_len (D : List Nat) (off m k : Nat) : (mkAt D off m k).length = D.length := by
  induction k with
  | zero => rfl
  | succ k ih => simp [mkAt, ih]
theorem mkAt_get (D : List Nat) (off m k i : Nat) (hi : off + i < D.length) (hk : i < k) : (mkAt D off m k).getD (off + i) 0 = (m + i) % 256 := by
  induction k with
  | zero => omega
  | succ k ih =>
    by_cases e : i = k
    · subst e
      simp [mkAt, List.getD, mkAt_len, hi]
    · have := ih (by omega)
      simp only [mkAt, List.getD, List.getElem?_set] at this ⊢
      rw [if_neg (by omega)]
      exact this
set_option maxHeartbeats 400000 in
theorem markByteS_at (g off len cap m : Nat) (D : List Nat) (w : World) (hO : Own w 5 g D) (hl : off + len ≤ D.length) (hm : len ≤ 1073741824) (hm2 : m ≤ 1073741824) :
    Calls Tryz.prog 24 #[.slice (some ⟨g, off, none⟩) len cap, .int .i64 (m : Int)] w fun e w' => e = .returned (.int .i64 ((m : Int) + len)) ∧ Own w' 5 g (mkAt D off m len) ∧ w.grownBy w' (some g) := by
  have HO : Hid (Own w 5 g D) := hO
  clear hO
  go_enter Tryz.func24, Tryz.ntmps24
  go_wp2
  go_loopw [1, 5] (fun v i wr => ∃ k : Nat, k ≤ len ∧ i = .int .i64 k ∧ v = .int .i64 ((m : Int) + k) ∧ Own wr 5 g (mkAt D off m k) ∧ w.grownBy wr (some g)) (fun _ i _ => len - (intOf i).toNat)
  case atStart => exact ⟨0, Nat.zero_le _, rfl, by go_num, HO.out, grownBy_refl _ _⟩
  case round =>
    obtain ⟨k, hk, rfl, rfl, hO, hG⟩ := hrel
    by_cases hlt : k < len
    · have hcw := hO.cell (off + k) (by rw [mkAt_len]; omega)
      have hfz := hO.free (off + k)
      have R : Hid (Own (wr.setCell ⟨g, off + k, none⟩ (.int .u8 (((m + k) % 256 : Nat) : Int))) 5 g (mkAt D off m (k + 1)) ∧ w.grownBy (wr.setCell ⟨g, off + k, none⟩ (.int .u8 (((m + k) % 256 : Nat) : Int))) (some g)) :=
        ⟨hO.set (off + k) _ (by omega), grownBy_setCell hG⟩
      obtain ⟨c0, hce0⟩ : ∃ c0, c0 = (mkAt D off m k).getD (off + k) 0 := ⟨_, rfl⟩
      rw [← hce0] at hcw
      have e1 : (((m + k) % 256 : Nat) : Int) = ((m : Int) + k) % 256 := by omega
      rw [e1] at R
      clear hO hG hce0 e1
      go_wp2
      go_roundw
      case rel => exact ⟨k + 1, by omega, by go_num, by go_num, R.out.1, R.out.2⟩
      case measure => simp [intOf]; omega
    · obtain rfl : k = len := by omega
      have R : Hid (_ ∧ _) := ⟨hO, hG⟩
      clear hO hG
      go_wp2
      go_ret
      exact ⟨rfl, R.out.1, R.out.2⟩
set_option maxHeartbeats 400000 in
theorem heldByteS_at (g off len cap m : Nat) (D : List Nat) (w : World) (hO : Own w 5 g D) (hl : off + len ≤ D.length) (hz : ∀ i, i < len → D.getD (off + i) 0 = (m + i) % 256) (hm : len ≤ 1073741824) (hm2 : m ≤ 1073741824) :
    Calls Tryz.prog 46 #[.slice (some ⟨g, off, none⟩) len cap, .int .i64 (m : Int)] w fun e w' => e = .returned (.int .i64 ((m : Int) + len)) ∧ w' = w := by
  have HO : Hid (Own w 5 g D) := hO
  have HZ : Hid (∀ i, i < len → D.getD (off + i) 0 = (m + i) % 256) := hz
  clear hO hz
  go_enter Tryz.func46, Tryz.ntmps46
  go_wp2
  go_loop [1, 5] (fun v i => ∃ k : Nat, k ≤ len ∧ i = .int .i64 k ∧ v = .int .i64 ((m : Int) + k)) (fun _ i => len - (intOf i).toNat)
  case atStart => exact ⟨0, Nat.zero_le _, rfl, by go_num⟩
  case round =>
    obtain ⟨k, hk, rfl, rfl⟩ := hrel
    by_cases hlt : k < len
    · have hcw := HO.out.cell (off + k) (by omega)
      rw [HZ.out k hlt] at hcw
      have e1 : (((m + k) % 256 : Nat) : Int) = ((m : Int) + k) % 256 := by omega
      rw [e1] at hcw
      clear e1
      go_wp2
      go_round
      case rel => exact ⟨k + 1, by omega, by go_num, by go_num⟩
      case measure => simp [intOf]; omega
    · obtain rfl : k = len := by omega
      go_wp2
      go_ret
      exact ⟨rfl, rfl⟩
/-- whole numbers behind k rounds of markIntS -/
def mkI (zs : List Int) (m : Nat) : Nat → List Int
  | 0 => zs
  | k + 1 => (mkI zs m k).set k ((m + k : Nat) : Int)
theorem mkI_len (zs : List Int) (m k : Nat) : (mkI zs m k).length = zs.length := by
  induction k with
  | zero => rfl
  | succ k ih => simp [mkI, ih]
theorem mkI_get (zs : List Int) (m k i : Nat) (hi : i < zs.length) (hk : i < k) : (mkI zs m k).getD i 0 = ((m + i : Nat) : Int) := by
  induction k with
  | zero => omega
  | succ k ih =>
    by_cases e : i = k
    · subst e
      simp [mkI, List.getD, mkI_len, hi]
    · have := ih (by omega)
      simp only [mkI, List.getD, List.getElem?_set] at this ⊢
      rw [if_neg (by omega)]
      exact this
set_option maxHeartbeats 400000 in
theorem markIntS_own (g len cap m : Nat) (zs : List Int) (w : World) (hO : OwnI w 3 g zs) (hl : zs.length = len) (hm : len ≤ 1073741824) (hm2 : m ≤ 1073741824) :
    Calls Tryz.prog 26 #[.slice (some ⟨g, 0, none⟩) len cap, .int .i64 (m : Int)] w fun e w' => e = .returned (.int .i64 ((m : Int) + len)) ∧ OwnI w' 3 g (mkI zs m len) ∧ w.grownBy w' (some g) := by
  have HO : Hid (OwnI w 3 g zs) := hO
  clear hO
  go_enter Tryz.func26, Tryz.ntmps26
  go_wp2
  go_loopw [1, 5] (fun v i wr => ∃ k : Nat, k ≤ len ∧ i = .int .i64 k ∧ v = .int .i64 ((m : Int) + k) ∧ OwnI wr 3 g (mkI zs m k) ∧ w.grownBy wr (some g)) (fun _ i _ => len - (intOf i).toNat)
  case atStart => exact ⟨0, Nat.zero_le _, rfl, by go_num, HO.out, grownBy_refl _ _⟩
  case round =>
    obtain ⟨k, hk, rfl, rfl, hO, hG⟩ := hrel
    by_cases hlt : k < len
    · have hcw := hO.cell k (by rw [mkI_len]; omega)
      have hfz := hO.free k
      have R : Hid (OwnI (wr.setCell ⟨g, k, none⟩ (.int .i64 ((m + k : Nat) : Int))) 3 g (mkI zs m (k + 1)) ∧ w.grownBy (wr.setCell ⟨g, k, none⟩ (.int .i64 ((m + k : Nat) : Int))) (some g)) :=
        ⟨hO.set k _ ⟨by omega, by omega⟩, grownBy_setCell hG⟩
      obtain ⟨c0, hce0⟩ : ∃ c0, c0 = (mkI zs m k).getD k 0 := ⟨_, rfl⟩
      rw [← hce0] at hcw
      have e1 : ((m + k : Nat) : Int) = (m : Int) + k := by omega
      rw [e1] at R
      clear hO hG hce0 e1
      go_wp2
      go_roundw
      case rel => exact ⟨k + 1, by omega, by go_num, by go_num, R.out.1, R.out.2⟩
      case measure => simp [intOf]; omega
    · obtain rfl : k = len := by omega
      have R : Hid (_ ∧ _) := ⟨hO, hG⟩
      clear hO hG
      go_wp2
      go_ret
      exact ⟨rfl, R.out.1, R.out.2⟩
set_option maxHeartbeats 400000 in
theorem heldIntS_own (g len cap m : Nat) (zs : List Int) (w : World) (hO : OwnI w 3 g zs) (hl : zs.length = len) (hz : ∀ i, i < len → zs.getD i 0 = ((m + i : Nat) : Int)) (hm : len ≤ 1073741824) (hm2 : m ≤ 1073741824) :
    Calls Tryz.prog 28 #[.slice (some ⟨g, 0, none⟩) len cap, .int .i64 (m : Int)] w fun e w' => e = .returned (.int .i64 ((m : Int) + len)) ∧ w' = w := by
  have HO : Hid (OwnI w 3 g zs) := hO
  have HZ : Hid (∀ i, i < len → zs.getD i 0 = ((m + i : Nat) : Int)) := hz
  clear hO hz
  go_enter Tryz.func28, Tryz.ntmps28
  go_wp2
  go_loop [1, 5] (fun v i => ∃ k : Nat, k ≤ len ∧ i = .int .i64 k ∧ v = .int .i64 ((m : Int) + k)) (fun _ i => len - (intOf i).toNat)
  case atStart => exact ⟨0, Nat.zero_le _, rfl, by go_num⟩
  case round =>
    obtain ⟨k, hk, rfl, rfl⟩ := hrel
    by_cases hlt : k < len
    · have hcw := HO.out.cell k (by omega)
      rw [HZ.out k hlt] at hcw
      have e1 : ((m + k : Nat) : Int) = (m : Int) + k := by omega
      rw [e1] at hcw
      clear e1
      go_wp2
      go_round
      case rel => exact ⟨k + 1, by omega, by go_num, by go_num⟩
      case measure => simp [intOf]; omega
    · obtain rfl : k = len := by omega
      go_wp2
      go_ret
      exact ⟨rfl, rfl⟩
theorem markIntS_nil (m : Nat) (cap : Nat) (w : World) :
    Calls Tryz.prog 26 #[.slice none 0 cap, .int .i64 (m : Int)] w fun e w' => e = .returned (.int .i64 (m : Int)) ∧ w' = w := by
  go_enter Tryz.func26, Tryz.ntmps26
  go_wp2
  go_loop [1, 5] (fun v i => i = .int .i64 0 ∧ v = .int .i64 (m : Int)) (fun _ _ => 0)
  case atStart => exact ⟨rfl, rfl⟩
  case round =>
    obtain ⟨rfl, rfl⟩ := hrel
    go_wp2
    go_ret
    exact ⟨rfl, rfl⟩
theorem heldIntS_nil (m : Nat) (cap : Nat) (w : World) :
    Calls Tryz.prog 28 #[.slice none 0 cap, .int .i64 (m : Int)] w fun e w' => e = .returned (.int .i64 (m : Int)) ∧ w' = w := by
  go_enter Tryz.func28, Tryz.ntmps28
  go_wp2
  go_loop [1, 5] (fun v i => i = .int .i64 0 ∧ v = .int .i64 (m : Int)) (fun _ _ => 0)
  case atStart => exact ⟨rfl, rfl⟩
  case round =>
    obtain ⟨rfl, rfl⟩ := hrel
    go_wp2
    go_ret
    exact ⟨rfl, rfl⟩
end Go.Proofs.YtjnegjgpkboocaaGreatDoor
/-
  The laws' markEntryS and heldEntryS over entries of their own memory, walked.
-/
namespace Go.Proofs.YtjnegjgpkboocaaGreatDoor
open Go.RowKit

/-- an entry as it lies: its bytes from a place of a row of their own on -/
structure En where
  t : Nat
  D : List Nat
  off : Nat
  n : Nat
  g : Nat
  cp : Nat
def En.data (e : En) : List Nat := (e.D.drop e.off).take e.n
/-- nothing old turned but in T -/
structure OnlyW (T : Nat → Prop) (w w' : World) : Prop where
  os : w'.os = w.os
  tape : w'.tape = w.tape
  output : w'.output = w.output
  size : w.heap.size ≤ w'.heap.size
  block : ∀ k, k < w.heap.size → ¬ T k → w'.heap[k]? = w.heap[k]?
theorem OnlyW.refl (T : Nat → Prop) (w : World) : OnlyW T w w := ⟨rfl, rfl, rfl, Nat.le_refl _, fun _ _ _ => rfl⟩
theorem OnlyW.trans {T : Nat → Prop} {a b c : World} (h : OnlyW T a b) (k : OnlyW T b c) : OnlyW T a c :=
  ⟨k.os.trans h.os, k.tape.trans h.tape, k.output.trans h.output, Nat.le_trans h.size k.size, fun i hi hT => (k.block i (Nat.lt_of_lt_of_le hi h.size) hT).trans (h.block i hi hT)⟩
theorem OnlyW.of_grown {T : Nat → Prop} {w w' : World} {row : Option Nat} (h : w.grownBy w' row) (hr : ∀ g, row = some g → T g) : OnlyW T w w' :=
  ⟨h.os, h.tape, h.output, h.size, fun k hk hT => h.block k hk (fun e => hT (hr k e.symm))⟩
theorem OnlyW.own {T : Nat → Prop} {w w' : World} (h : OnlyW T w w') {e : TypeId} {g : Nat} {zs : List Nat} (ho : Own w e g zs) (hT : ¬ T g) : Own w' e g zs := ho.of_block (h.block g ho.lt hT)
theorem OnlyW.blk {T : Nat → Prop} {w w' : World} (h : OnlyW T w w') {k : Nat} {o : Obj} (ho : w.heap[k]? = some o) (hT : ¬ T k) : w'.heap[k]? = some o := (h.block k (Array.getElem?_eq_some_iff.1 ho).1 hT).trans ho
theorem OnlyW.grown {T : Nat → Prop} {w0 w w' : World} (h : OnlyW T w w') (hg : w0.grownBy w none) (hT : ∀ k, k < w0.heap.size → ¬ T k) : w0.grownBy w' none :=
  ⟨h.os.trans hg.os, h.tape.trans hg.tape, h.output.trans hg.output, Nat.le_trans hg.size h.size, fun k hk _ => (h.block k (Nat.lt_of_lt_of_le hk hg.size) (hT k hk)).trans (hg.block k hk (by simp))⟩
/-- a row of entries -/
structure EnR (w : World) (G : Nat) (E : List En) : Prop where
  row : ∃ cur : Array Value, w.heap[G]? = some (.cells cur 47 (0, 0)) ∧ ∀ (i : Nat) (e : En), E[i]? = some e → cur[i * 2]? = some (Value.int .i64 (e.t : Int)) ∧ cur[i * 2 + 1]? = some (Value.slice (some ⟨e.g, e.off, none⟩) e.n e.cp)
  own : ∀ e ∈ E, Own w 5 e.g e.D ∧ e.off + e.n ≤ e.D.length
  apart : (E.map En.g).Nodup
theorem EnR.cells {w : World} {G : Nat} {E : List En} (h : EnR w G E) {i : Nat} {e : En} (hi : E[i]? = some e) : w.cell? ⟨G, i * 2, none⟩ = some (.int .i64 (e.t : Int)) ∧ w.cell? ⟨G, i * 2 + 1, none⟩ = some (.slice (some ⟨e.g, e.off, none⟩) e.n e.cp) ∧ ∀ o, w.frozen? ⟨G, o, none⟩ = false := by
  obtain ⟨cur, h1, h2⟩ := h.row
  exact ⟨by rw [cell_of_row w G _ _ _ _ h1]; exact (h2 i e hi).1, by rw [cell_of_row w G _ _ _ _ h1]; exact (h2 i e hi).2, fun o => by simp [World.frozen?, h1]⟩
theorem own_type {w : World} {e e' : TypeId} {g : Nat} {zs : List Nat} {cur : Array Value} {f : Nat × Nat} (h : Own w e g zs) (h' : w.heap[g]? = some (.cells cur e' f)) : e = e' := by
  obtain ⟨-, c, h1, -⟩ := h
  rw [h'] at h1
  have h2 := Option.some.inj h1
  injection h2 with h3 h4 h5
  exact h4.symm
theorem EnR.ne {w : World} {G : Nat} {E : List En} (h : EnR w G E) {e : En} (he : e ∈ E) : e.g ≠ G := by
  obtain ⟨cur, h1, -⟩ := h.row
  intro hg
  have h2 := (h.own e he).1
  rw [hg] at h2
  exact absurd (own_type h2 h1) (by decide)
theorem EnR.lt {w : World} {G : Nat} {E : List En} (h : EnR w G E) : G < w.heap.size := by
  obtain ⟨cur, h1, -⟩ := h.row
  exact (Array.getElem?_eq_some_iff.1 h1).1
theorem EnR.kept {w w' : World} {G : Nat} {E : List En} (h : EnR w G E) (hk : ∀ k, (k = G ∨ k ∈ E.map En.g) → w'.heap[k]? = w.heap[k]?) : EnR w' G E := by
  obtain ⟨⟨cur, h1, h2⟩, h3, h4⟩ := h
  exact ⟨⟨cur, (hk G (.inl rfl)).trans h1, h2⟩, fun e he => ⟨(h3 e he).1.of_block (hk e.g (.inr (List.mem_map_of_mem he))), (h3 e he).2⟩, h4⟩
theorem EnR.grown0 {w w' : World} {G : Nat} {E : List En} (h : EnR w G E) (hg : w.grownBy w' none) : EnR w' G E :=
  h.kept (fun k hk => hg.block k (by
    rcases hk with rfl | hk
    · exact h.lt
    · obtain ⟨e, he, rfl⟩ := List.mem_map.1 hk
      exact (h.own e he).1.lt) (by simp))
/-- the term of one is laid over -/
theorem EnR.setT {w : World} {G : Nat} {E : List En} (h : EnR w G E) {k : Nat} {e : En} (hk : E[k]? = some e) (t : Nat) : EnR (w.setCell ⟨G, k * 2, none⟩ (.int .i64 (t : Int))) G (E.set k { e with t := t }) := by
  have hne := fun (x : En) hx => h.ne (e := x) hx
  obtain ⟨⟨cur, h1, h2⟩, h3, h4⟩ := h
  have hkl : k < E.length := (List.getElem?_eq_some_iff.1 hk).1
  refine ⟨⟨_, heap_setCell_same w G (k * 2) cur _ _ h1, fun i x hi => ?_⟩, fun x hx => ?_, ?_⟩
  · by_cases e1 : i = k
    · subst e1
      rw [List.getElem?_set_self hkl] at hi
      obtain rfl := Option.some.inj hi
      have h5 := h2 i e hk
      have h6 := (Array.getElem?_eq_some_iff.1 h5.1).1
      refine ⟨by simp [h6], ?_⟩
      rw [Array.getElem?_setIfInBounds_ne (by omega)]
      exact h5.2
    · rw [List.getElem?_set_ne (by omega)] at hi
      rw [Array.getElem?_setIfInBounds_ne (by omega), Array.getElem?_setIfInBounds_ne (by omega)]
      exact h2 i x hi
  · have hb : ∀ y ∈ E, Own (w.setCell ⟨G, k * 2, none⟩ (.int .i64 (t : Int))) 5 y.g y.D ∧ y.off + y.n ≤ y.D.length := fun y hy =>
      ⟨(h3 y hy).1.of_block (heap_setCell_other w ⟨G, k * 2, none⟩ y.g _ (hne y hy)), (h3 y hy).2⟩
    rcases List.mem_or_eq_of_mem_set hx with hx | rfl
    · exact hb x hx
    · exact hb e (List.mem_of_getElem? hk)
  · rw [List.map_set]
    have : (E.map En.g).set k e.g = E.map En.g := by
      have h9 : (E.map En.g)[k]? = some e.g := by rw [List.getElem?_map, hk]; rfl
      obtain ⟨h10, h11⟩ := List.getElem?_eq_some_iff.1 h9
      rw [← h11]
      exact List.set_getElem_self h10
    rw [this]; exact h4
/-- the bytes of one are laid over -/
theorem EnR.setD {w w' : World} {G : Nat} {E : List En} (h : EnR w G E) {k : Nat} {e : En} (hk : E[k]? = some e) (D : List Nat) (hl : D.length = e.D.length) (ho : Own w' 5 e.g D) (hg : w.grownBy w' (some e.g)) : EnR w' G (E.set k { e with D := D }) := by
  have hme := List.mem_of_getElem? hk
  have hneG := h.ne hme
  have hG := h.lt
  obtain ⟨⟨cur, h1, h2⟩, h3, h4⟩ := h
  have hkl : k < E.length := (List.getElem?_eq_some_iff.1 hk).1
  have hmap : (E.set k { e with D := D }).map En.g = E.map En.g := by
    rw [List.map_set]
    have h9 : (E.map En.g)[k]? = some e.g := by rw [List.getElem?_map, hk]; rfl
    obtain ⟨h10, h11⟩ := List.getElem?_eq_some_iff.1 h9
    show (E.map En.g).set k e.g = _
    rw [← h11]
    exact List.set_getElem_self h10
  refine ⟨⟨cur, (hg.block G hG (by simp; exact fun e1 => hneG e1.symm)).trans h1, fun i x hi => ?_⟩, fun x hx => ?_, by rw [hmap]; exact h4⟩
  · by_cases e1 : i = k
    · subst e1
      rw [List.getElem?_set_self hkl] at hi
      obtain rfl := Option.some.inj hi
      exact h2 i e hk
    · rw [List.getElem?_set_ne (by omega)] at hi
      exact h2 i x hi
  · obtain ⟨i, hi⟩ := List.mem_iff_getElem?.1 hx
    by_cases e1 : i = k
    · subst e1
      rw [List.getElem?_set_self hkl] at hi
      obtain rfl := Option.some.inj hi
      exact ⟨ho, by show e.off + e.n ≤ D.length; rw [hl]; exact (h3 e hme).2⟩
    · rw [List.getElem?_set_ne (by omega)] at hi
      have hxm := List.mem_of_getElem? hi
      have hgne : x.g ≠ e.g := by
        intro hc
        have ha : (E.map En.g)[i]? = some x.g := by rw [List.getElem?_map, hi]; rfl
        have hb : (E.map En.g)[k]? = some x.g := by rw [List.getElem?_map, hk, hc]; rfl
        have hil := (List.getElem?_eq_some_iff.1 ha).1
        exact e1 ((List.getElem?_inj hil h4).1 (ha.trans hb.symm))
      exact ⟨(h3 x hxm).1.of_block (hg.block x.g (h3 x hxm).1.lt (by simp; exact hgne)), (h3 x hxm).2⟩
/-- how far the count has come behind k entries -/
def finE (E : List En) (m : Nat) : Nat → Nat
  | 0 => m
  | k + 1 => finE E m k + 1 + (E[k]?.map En.n).getD 0
def mkE (E : List En) (m : Nat) : Nat → List En
  | 0 => E
  | k + 1 => match E[k]? with
    | some e => (mkE E m k).set k { e with t := finE E m k, D := mkAt e.D e.off (finE E m k + 1) e.n }
    | none => mkE E m k
theorem finE_succ {E : List En} {m k : Nat} {e : En} (h : E[k]? = some e) : finE E m (k + 1) = finE E m k + 1 + e.n := by rw [finE, h]; rfl
theorem mkE_succ {E : List En} {m k : Nat} {e : En} (h : E[k]? = some e) : mkE E m (k + 1) = (mkE E m k).set k { e with t := finE E m k, D := mkAt e.D e.off (finE E m k + 1) e.n } := by rw [mkE, h]
theorem mkE_len (E : List En) (m k : Nat) : (mkE E m k).length = E.length := by
  induction k with
  | zero => rfl
  | succ k ih =>
    rw [mkE]
    split
    · rw [List.length_set]; exact ih
    · exact ih
theorem mkE_late (E : List En) (m k i : Nat) (h : k ≤ i) : (mkE E m k)[i]? = E[i]? := by
  induction k with
  | zero => rfl
  | succ k ih =>
    rw [mkE]
    split
    · rw [List.getElem?_set_ne (by omega)]; exact ih (by omega)
    · exact ih (by omega)
theorem mkE_get {E : List En} {m k i : Nat} {e : En} (h : E[i]? = some e) (hk : i < k) : (mkE E m k)[i]? = some { e with t := finE E m i, D := mkAt e.D e.off (finE E m i + 1) e.n } := by
  induction k with
  | zero => omega
  | succ k ih =>
    by_cases e1 : i = k
    · subst e1
      rw [mkE_succ h, List.getElem?_set_self (by rw [mkE_len]; exact (List.getElem?_eq_some_iff.1 h).1)]
    · rw [mkE]
      split
      · rw [List.getElem?_set_ne (by omega)]; exact ih (by omega)
      · exact ih (by omega)
theorem finE_mkE (E : List En) (m : Nat) (k : Nat) (hk : k ≤ E.length) (q : Nat) : finE (mkE E m q) m k = finE E m k := by
  induction k with
  | zero => rfl
  | succ k ih =>
    have h1 : E[k]? = some E[k] := List.getElem?_eq_getElem (by omega)
    rw [finE_succ h1]
    rcases Nat.lt_or_ge k q with hlt | hge
    · rw [finE_succ (mkE_get h1 hlt), ih (by omega)]
    · rw [finE_succ (e := E[k]) (by rw [mkE_late _ _ _ _ hge]; exact h1), ih (by omega)]
theorem finE_mono (E : List En) (m : Nat) {i k : Nat} (h : i ≤ k) : finE E m i ≤ finE E m k := by
  induction k with
  | zero => obtain rfl : i = 0 := by omega
            exact Nat.le_refl _
  | succ k ih =>
    rcases Nat.lt_or_ge i (k + 1) with hlt | hge
    · have := ih (by omega)
      rw [finE]; omega
    · obtain rfl : i = k + 1 := by omega
      exact Nat.le_refl _
end Go.Proofs.YtjnegjgpkboocaaGreatDoor
/-
  The laws' markEntryS and heldEntryS, walked.
-/
namespace Go.Proofs.YtjnegjgpkboocaaGreatDoor
open Go.RowKit

set_option maxRecDepth 4000 in
set_option maxHeartbeats 2000000 in
theorem markEntryS_own (G cap m : Nat) (E : List En) (w : World) (h : EnR w G E) (hm : finE E m E.length ≤ 1073741824) :
    Calls Tryz.prog 25 #[.slice (some ⟨G, 0, none⟩) E.length cap, .int .i64 (m : Int)] w fun e w' => e = .returned (.int .i64 ((finE E m E.length : Nat) : Int)) ∧ EnR w' G (mkE E m E.length) ∧ OnlyW (fun k => k = G ∨ k ∈ E.map En.g) w w' := by
  obtain ⟨n, hn⟩ : ∃ n, E.length = n := ⟨_, rfl⟩
  have HN : Hid (E.length = n) := hn
  have HO : Hid (EnR w G E) := h
  rw [hn] at hm ⊢
  have hnm : n ≤ 1073741824 := by
    have h1 : ∀ k, k + m ≤ finE E m k := by
      intro k
      induction k with
      | zero => simp [finE]
      | succ k ih => rw [finE]; omega
    have := h1 n
    omega
  clear hn h
  have HM : Hid (finE E m n ≤ 1073741824) := hm
  clear hm
  go_enter Tryz.func25, Tryz.ntmps25
  go_wp2
  go_loopw [1, 5] (fun v i wr => ∃ k c : Nat, k ≤ n ∧ i = .int .i64 (k : Int) ∧ v = .int .i64 (c : Int) ∧ c = finE E m k ∧ EnR wr G (mkE E m k) ∧ OnlyW (fun k => k = G ∨ k ∈ E.map En.g) w wr) (fun _ i _ => n - (intOf i).toNat)
  case atStart => exact ⟨0, m, Nat.zero_le _, rfl, rfl, rfl, HO.out, OnlyW.refl _ _⟩
  case round =>
    obtain ⟨k, c, hk, rfl, rfl, hc, hR, hW⟩ := hrel
    have HR : Hid (c = finE E m k ∧ EnR wr G (mkE E m k) ∧ OnlyW (fun k => k = G ∨ k ∈ E.map En.g) w wr) := ⟨hc, hR, hW⟩
    clear hc hR hW
    by_cases hlt : k < n
    · obtain ⟨e, he⟩ : ∃ e, E[k]? = some e := ⟨_, List.getElem?_eq_getElem (by rw [HN.out]; exact hlt)⟩
      have he2 : (mkE E m k)[k]? = some e := by rw [mkE_late _ _ _ _ (Nat.le_refl _)]; exact he
      obtain ⟨q0, q1, q2⟩ := HR.out.2.1.cells he2
      have f0 := q2 (k * 2)
      have hcb : c + 1 + e.n ≤ 1073741824 := by
        have h1 := finE_succ (m := m) he
        have h2 := finE_mono E m (show k + 1 ≤ n by omega)
        have h3 := HM.out
        have h4 := HR.out.1
        omega
      have H1 : Hid (EnR (wr.setCell ⟨G, k * 2, none⟩ (.int .i64 (c : Int))) G ((mkE E m k).set k { e with t := c })) := HR.out.2.1.setT he2 c
      have HE : Hid (E[k]? = some e ∧ (mkE E m k)[k]? = some e ∧ e ∈ E) := ⟨he, he2, List.mem_of_getElem? he⟩
      have q1' : (wr.setCell ⟨G, k * 2, none⟩ (.int .i64 (c : Int))).cell? ⟨G, k * 2 + 1, none⟩ = some (.slice (some ⟨e.g, e.off, none⟩) e.n e.cp) := by
        rw [World.cell?_setCell_other _ _ _ _ (by simp)]
        exact q1
      obtain ⟨eg, heg⟩ : ∃ eg, e.g = eg := ⟨_, rfl⟩
      obtain ⟨eo, heo⟩ : ∃ eo, e.off = eo := ⟨_, rfl⟩
      obtain ⟨en, hen⟩ : ∃ en, e.n = en := ⟨_, rfl⟩
      obtain ⟨ec, hec⟩ : ∃ ec, e.cp = ec := ⟨_, rfl⟩
      have HF : Hid (e.g = eg ∧ e.off = eo ∧ e.n = en) := ⟨heg, heo, hen⟩
      rw [heg, heo, hen, hec] at q1' q1
      rw [hen] at hcb
      clear he he2 q1 q2 heg heo hen hec
      have hkI : (k : Int) < (n : Int) := by omega
      go_upto_region 5 with fail
      generalize hX : wr.setCell ⟨G, k * 2, none⟩ (.int .i64 (c : Int)) = X at H1 q1' ⊢
      have H2 : Hid (OnlyW (fun k => k = G ∨ k ∈ E.map En.g) w X) := by
        subst hX
        exact HR.out.2.2.trans (OnlyW.of_grown (row := some G) (grownBy_setCell (grownBy_refl _ _)) (fun g hg => .inl (by simpa using hg.symm)))
      clear hX q0 f0
      obtain ⟨c1, hcc⟩ : ∃ c1, c + 1 = c1 := ⟨_, rfl⟩
      have hc1 : (c : Int) + 1 = (c1 : Int) := by omega
      have HC1 : Hid (c + 1 = c1) := hcc
      have hcb1 : c1 + en ≤ 1073741824 := by omega
      clear hcc
      go_wp2_with fail
      clear hc1
      have hme : ({ e with t := c } : En) ∈ (mkE E m k).set k { e with t := c } := List.mem_of_getElem? (List.getElem?_set_self (by rw [mkE_len]; exact (List.getElem?_eq_some_iff.1 HE.out.1).1))
      refine (markByteS_at eg eo en ec c1 e.D X (by have h9 := (H1.out.own _ hme).1; rw [← HF.out.1]; exact h9) (by have h9 := (H1.out.own _ hme).2; rw [← HF.out.2.1, ← HF.out.2.2]; exact h9) (by omega) (by omega)).mono ?_
      rintro ee w2 ⟨rfl, hO2, hG2⟩
      have H3 : Hid (c1 + en = finE E m (k + 1) ∧ EnR w2 G (mkE E m (k + 1)) ∧ OnlyW (fun k => k = G ∨ k ∈ E.map En.g) w w2) := by
        have hkl : k < (mkE E m k).length := by rw [mkE_len]; exact (List.getElem?_eq_some_iff.1 HE.out.1).1
        refine ⟨by rw [finE_succ HE.out.1, ← HR.out.1, HF.out.2.2, HC1.out], ?_, H2.out.trans (OnlyW.of_grown hG2 (fun g hg => .inr (by have h8 : eg = g := (by simpa using hg); rw [← h8, ← HF.out.1]; exact List.mem_map_of_mem HE.out.2.2)))⟩
        have h9 := H1.out.setD (k := k) (e := { e with t := c }) (List.getElem?_set_self hkl) (mkAt e.D eo c1 en) (by rw [mkAt_len]) (by show Own w2 _ e.g _; rw [HF.out.1]; exact hO2) (by show X.grownBy w2 (some e.g); rw [HF.out.1]; exact hG2)
        rw [List.set_set] at h9
        have hx := HF.out
        rw [mkE_succ HE.out.1, ← HR.out.1, HC1.out]
        rw [← hx.2.1, ← hx.2.2] at h9
        exact h9
      obtain ⟨c2, hc3⟩ : ∃ c2, c1 + en = c2 := ⟨_, rfl⟩
      have hc2 : (c1 : Int) + (en : Int) = (c2 : Int) := by omega
      rw [hc3] at H3 hcb1
      rw [hc2]
      clear hO2 hG2 H1 q1' hc2 hc3 H2 hme
      go_wp2
      go_roundw
      case rel => exact ⟨k + 1, c2, by omega, by go_num, rfl, H3.out.1, H3.out.2.1, H3.out.2.2⟩
      case measure => simp [intOf]; omega
    · obtain rfl : k = n := by omega
      go_wp2
      go_ret
      exact ⟨by rw [← HR.out.1]; rfl, HR.out.2.1, HR.out.2.2⟩
set_option maxRecDepth 4000 in
set_option maxHeartbeats 2000000 in
theorem heldEntryS_own (G cap m : Nat) (E : List En) (w : World) (h : EnR w G E) (hz : ∀ (i : Nat) (e : En), E[i]? = some e → e.t = finE E m i ∧ ∀ j, j < e.n → e.D.getD (e.off + j) 0 = (finE E m i + 1 + j) % 256) (hm : finE E m E.length ≤ 1073741824) (hl : E.length ≤ 1073741824) :
    Calls Tryz.prog 27 #[.slice (some ⟨G, 0, none⟩) E.length cap, .int .i64 (m : Int)] w fun e w' => e = .returned (.int .i64 ((finE E m E.length : Nat) : Int)) ∧ w' = w := by
  obtain ⟨n, hn⟩ : ∃ n, E.length = n := ⟨_, rfl⟩
  have HO : Hid (E.length = n ∧ EnR w G E ∧ (∀ (i : Nat) (e : En), E[i]? = some e → e.t = finE E m i ∧ ∀ j, j < e.n → e.D.getD (e.off + j) 0 = (finE E m i + 1 + j) % 256) ∧ finE E m E.length ≤ 1073741824) := ⟨hn, h, hz, hm⟩
  rw [hn] at hl ⊢
  clear hn h hz hm
  go_enter Tryz.func27, Tryz.ntmps27
  go_wp2
  go_loopw [1, 5] (fun v i wr => ∃ k c : Nat, k ≤ n ∧ i = .int .i64 (k : Int) ∧ v = .int .i64 (c : Int) ∧ c = finE E m k ∧ wr = w) (fun _ i _ => n - (intOf i).toNat)
  case atStart => exact ⟨0, m, Nat.zero_le _, rfl, rfl, rfl, rfl⟩
  case round =>
    obtain ⟨k, c, hk, rfl, rfl, hc, rfl⟩ := hrel
    have HR : Hid (c = finE E m k) := hc
    clear hc
    by_cases hlt : k < n
    · obtain ⟨e, he⟩ : ∃ e, E[k]? = some e := ⟨_, List.getElem?_eq_getElem (by rw [HO.out.1]; exact hlt)⟩
      obtain ⟨q0, q1, -⟩ := HO.out.2.1.cells he
      obtain ⟨ht, hd⟩ := HO.out.2.2.1 k e he
      rw [← HR.out] at ht hd
      rw [ht] at q0
      have hcb : c + 1 + e.n ≤ 1073741824 := by
        have h1 := finE_succ (m := m) he
        have h2 := finE_mono E m (show k + 1 ≤ E.length by rw [HO.out.1]; omega)
        have h3 := HO.out.2.2.2
        have h4 := HR.out
        omega
      have HS : Hid (c + 1 + e.n = finE E m (k + 1)) := by show _ = _; rw [finE_succ he, ← HR.out]
      obtain ⟨ho1, ho2⟩ := HO.out.2.1.own e (List.mem_of_getElem? he)
      have HC : Hid (∀ j : Nat, Calls _ _ _ _ _) := fun _ => heldByteS_at e.g e.off e.n e.cp (c + 1) e.D wr ho1 ho2 hd (by omega) (by omega)
      obtain ⟨en, hen⟩ : ∃ en, e.n = en := ⟨_, rfl⟩
      rw [hen] at q1 HC HS hcb
      clear hd ho1 ho2 he ht hen
      have hkI : (k : Int) < (n : Int) := by omega
      obtain ⟨c1, hcc⟩ : ∃ c1, c + 1 = c1 := ⟨_, rfl⟩
      have hc1 : (c : Int) + 1 = (c1 : Int) := by omega
      rw [hcc] at HC HS hcb
      clear hcc
      go_wp2_with fail
      clear hc1
      refine (HC.out 0).mono ?_
      rintro ee w2 ⟨rfl, hw2⟩
      subst hw2
      obtain ⟨c2, hc3⟩ : ∃ c2, c1 + en = c2 := ⟨_, rfl⟩
      have hc2 : (c1 : Int) + (en : Int) = (c2 : Int) := by omega
      rw [hc3] at HS hcb
      rw [hc2]
      clear hc2 hc3 HC q0 q1
      go_wp2
      go_roundw
      case rel => exact ⟨k + 1, c2, by omega, by go_num, rfl, HS.out, by first | trivial | rfl⟩
      case measure => simp [intOf]; omega
    · obtain rfl : k = n := by omega
      go_wp2
      go_ret
      exact ⟨by rw [← HR.out]; rfl, rfl⟩
end Go.Proofs.YtjnegjgpkboocaaGreatDoor
/-
  The shapes of File and Entry.
-/
namespace Go.Proofs.YtjnegjgpkboocaaGreatDoor
open Go.RowKit

def kEntry : List Ki := [.int, .byt]
def kFile : List Ki := [.str, .byt]
theorem fitEntry {e : List Tr} (h : FitsL e kEntry) : ∃ n0 d1 a1 p1, e = [.int n0, .byt d1 a1 p1] := by
  obtain ⟨y0, e0, rfl, f0, h0⟩ := FitsL.cons h
  obtain ⟨n0, rfl⟩ := f0.isInt
  obtain ⟨y1, e1, rfl, f1, h1⟩ := FitsL.cons h0
  obtain ⟨d1, a1, p1, rfl⟩ := f1.isByt
  obtain rfl := h1.nil
  exact ⟨n0, d1, a1, p1, rfl⟩
theorem fitFile {e : List Tr} (h : FitsL e kFile) : ∃ t0 d1 a1 p1, e = [.str t0, .byt d1 a1 p1] := by
  obtain ⟨y0, e0, rfl, f0, h0⟩ := FitsL.cons h
  obtain ⟨t0, rfl⟩ := f0.isStr
  obtain ⟨y1, e1, rfl, f1, h1⟩ := FitsL.cons h0
  obtain ⟨d1, a1, p1, rfl⟩ := f1.isByt
  obtain rfl := h1.nil
  exact ⟨t0, d1, a1, p1, rfl⟩
end Go.Proofs.YtjnegjgpkboocaaGreatDoor
/-
  The laws' eq.. over File and Entry, walked.
-/
namespace Go.Proofs.YtjnegjgpkboocaaGreatDoor
open Go.RowKit

set_option maxRecDepth 4000 in
set_option maxHeartbeats 4000000 in
theorem eqEntry_same (n0 : Int) (d1 : List Nat) (a1 : Option Addr) (p1 : Nat) (a1' : Option Addr) (p1' : Nat) (w : World) (h1 : SlB w a1 d1.length d1) (h1' : SlB w a1' d1.length d1) (s1 : d1.length ≤ 1048576) :
    Calls Tryz.prog 44 #[.agg #[.int .i64 n0, .slice a1 d1.length p1], .agg #[.int .i64 n0, .slice a1' d1.length p1']] w fun e w' => e = .returned (.bool true) ∧ w.grownBy w' none := by
  have C0 : Hid (∀ Y : World, w.grownBy Y none → Calls Tryz.prog 45 #[.slice a1 d1.length p1, .slice a1' d1.length p1'] Y fun e w' => e = .returned (.bool true) ∧ Y.grownBy w' none) := fun Y hY => eqByteS_same a1 a1' d1.length p1 p1' d1 Y (h1.grown0 hY) (h1'.grown0 hY) (by omega)
  have HW : Hid (∀ Y : World, ((w.alloc (.cells #[.int .i64 n0, .slice a1 d1.length p1] 47)).alloc (.cells #[.int .i64 n0, .slice a1' d1.length p1'] 47)).grownBy Y none → Y.cell? ⟨w.heap.size, 0, none⟩ = some (.int .i64 n0) ∧ Y.cell? ⟨w.heap.size, 1, none⟩ = some (.slice a1 d1.length p1) ∧ Y.cell? ⟨w.heap.size + 1, 0, none⟩ = some (.int .i64 n0) ∧ Y.cell? ⟨w.heap.size + 1, 1, none⟩ = some (.slice a1' d1.length p1')) := fun Y hY => by
    have x0 : Y.heap[w.heap.size]? = some (.cells #[.int .i64 n0, .slice a1 d1.length p1] 47 (0, 0)) := (hY.block _ (by simp; omega) (by simp)).trans ((Below.heap_alloc _ _ _ (by simp)).trans (heap_alloc_new w _))
    have x1 : Y.heap[w.heap.size + 1]? = some (.cells #[.int .i64 n0, .slice a1' d1.length p1'] 47 (0, 0)) := (hY.block _ (by simp) (by simp)).trans (heap_two w _ _)
    simp [World.cell?, x0, x1]
  have HG : Hid (w.grownBy ((w.alloc (.cells #[.int .i64 n0, .slice a1 d1.length p1] 47)).alloc (.cells #[.int .i64 n0, .slice a1' d1.length p1'] 47)) none) := grownBy_alloc (World.grownBy_alloc _ _ _) _
  clear h1 h1' s1
  go_enter Tryz.func44, Tryz.ntmps44
  go_wp2_with fail
  refine (C0.out _ HG.out).mono ?_
  rintro e w1 ⟨rfl, hG1⟩
  have HY : Hid (((w.alloc (.cells #[.int .i64 n0, .slice a1 d1.length p1] 47)).alloc (.cells #[.int .i64 n0, .slice a1' d1.length p1'] 47)).grownBy w1 none) := hG1
  clear hG1
  have hC := HW.out w1 HY.out
  go_wp2
  go_ret
  exact ⟨rfl, grownBy_trans HG.out HY.out⟩
set_option maxRecDepth 4000 in
set_option maxHeartbeats 4000000 in
theorem eqEntryS_same (L : List (List Tr)) (a : Option Addr) (p : Nat) (L' : List (List Tr)) (a' : Option Addr) (p' : Nat) (w : World) (h : RowOk w kEntry a L) (h' : RowOk w kEntry a' L') (e : tellR L = tellR L') (s : SmR L) :
    Calls Tryz.prog 20 #[.slice a L.length p, .slice a' L'.length p'] w fun e w' => e = .returned (.bool true) ∧ w.grownBy w' none := by
  have hll : L'.length = L.length := by have := congrArg List.length e; simpa using this.symm
  rw [hll]
  have HR : Hid (RowOk w kEntry a L ∧ RowOk w kEntry a' L' ∧ tellR L = tellR L' ∧ SmR L) := ⟨h, h', e, s⟩
  have hlen := s.1
  clear h h' e s
  obtain ⟨n, hn⟩ : ∃ n, L.length = n := ⟨_, rfl⟩
  have HN : Hid (L.length = n ∧ L'.length = n) := ⟨hn, by omega⟩
  rw [hn] at hlen ⊢
  clear hll hn
  go_enter Tryz.func20, Tryz.ntmps20
  go_wp2
  go_loopw [5] (fun i wr => ∃ k : Nat, k ≤ n ∧ i = .int .i64 (k : Int) ∧ w.grownBy wr none) (fun i _ => n - (intOf i).toNat)
  case atStart => exact ⟨0, Nat.zero_le _, rfl, grownBy_refl _ _⟩
  case round =>
    obtain ⟨k, hk, rfl, hG⟩ := hrel
    have HG : Hid (w.grownBy wr none) := hG
    clear hG
    by_cases hlt : k < n
    · obtain ⟨e, he⟩ : ∃ e, L[k]? = some e := ⟨_, List.getElem?_eq_getElem (by rw [HN.out.1]; exact hlt)⟩
      obtain ⟨e', he'⟩ : ∃ e, L'[k]? = some e := ⟨_, List.getElem?_eq_getElem (by rw [HN.out.2]; exact hlt)⟩
      have htl := tellR_get HR.out.2.2.1 he he'
      obtain ⟨hf, hrd, b, off, hab, hc⟩ := HR.out.1.grown0 HG.out k e he
      obtain ⟨hf', hrd', b', off', hab', hc'⟩ := HR.out.2.1.grown0 HG.out k e' he'
      have hsm := fun j y hj => HR.out.2.2.2.2 k j e y he hj
      obtain ⟨n0, d1, a1, p1, rfl⟩ := fitEntry hf
      obtain ⟨n0', d1', a1', p1', rfl⟩ := fitEntry hf'
      simp only [List.map_cons, List.map_nil, List.cons.injEq, and_true, Tr.tell, Td.int.injEq, Td.byt.injEq] at htl
      obtain ⟨rfl, rfl⟩ := htl
      subst hab hab'
      have HE : Hid (∀ w' : World, SameT wr w' → Calls Tryz.prog 44 #[.agg #[.int .i64 n0, .slice a1 d1.length p1], .agg #[.int .i64 n0, .slice a1' d1.length p1']] w' fun e w1 => e = .returned (.bool true) ∧ w'.grownBy w1 none) := fun w' hs => by
        have hh : w'.heap = wr.heap := hs.1
        have hhG : wr.grownBy w' none := hs.grown
        exact eqEntry_same n0 d1 a1 p1 a1' p1' w' ((hrd (.byt d1 a1 p1) (by simp)).isByt.heap hh) ((hrd' (.byt d1 a1' p1') (by simp)).isByt.heap hh) (hsm 1 _ rfl).isByt
      have hkI : (k : Int) < (n : Int) := by omega
      have hS : wr.drew.rangeAt b (off + k * 2) [.int .i64 n0, .slice a1 d1.length p1] ∧ wr.drew.rangeAt b' (off' + k * 2) [.int .i64 n0, .slice a1' d1.length p1'] := ⟨range_el hc, range_el hc'⟩
      clear hc hc' hrd hrd' hsm hf hf' he he'
      go_wp2
      go_cut [26] (fun v wx => v = .bool false ∧ wr.grownBy wx none)
      case first =>
        as_aux_lemma =>
          refine wp_region_Z (fun W => W.rangeAt b (off + k * 2) [.int .i64 n0, .slice a1 d1.length p1] ∧ W.rangeAt b' (off' + k * 2) [.int .i64 n0, .slice a1' d1.length p1']) (fun j => j == 8) (by kernel_rfl) ?_
          refine wpAnyZ_take' (i := 0) (v := ?vz0) rfl (by kernel_rfl) (by kernel_rfl) (by kernel_rfl) (fun _ _ _ h => h) (Or.inl ⟨by rfl, ?yz0⟩) ?rz0
          case yz0 => (intro w _; go_simp; first | done | with_reducible rfl)
          simp only [Act.put, List.setIfInBounds_toArray, List.set_cons_zero, List.set_cons_succ]
          refine wpAnyZ_take' (i := 1) (v := ?vz1) rfl (by kernel_rfl) (by kernel_rfl) (by kernel_rfl) (fun _ _ _ h => h) (Or.inl ⟨by rfl, ?yz1⟩) ?rz1
          case yz1 => (intro w _; go_simp; first | done | with_reducible rfl)
          simp only [Act.put, List.setIfInBounds_toArray, List.set_cons_zero, List.set_cons_succ]
          refine wpAnyZ_take' (i := 2) (v := ?vz2) rfl (by kernel_rfl) (by kernel_rfl) (by kernel_rfl) (fun _ _ _ h => h) (Or.inl ⟨by rfl, ?yz2⟩) ?rz2
          case yz2 => (intro w _; go_simp; first | done | with_reducible rfl)
          simp only [Act.put, List.setIfInBounds_toArray, List.set_cons_zero, List.set_cons_succ]
          refine wpAnyZ_load' (i := 3) (y := 8) (v := .agg [.int .i64 n0, .slice a1 d1.length p1].toArray) rfl (by kernel_rfl) (by kernel_rfl) (by kernel_rfl) (fun _ _ _ h => h) (fun j hj => .inl (by obtain rfl : j = 8 := (by simpa using hj); kernel_rfl)) rfl (by kernel_rfl) (yieldsIf_load_mid (by rfl) _ _ rfl _ _ rfl _ _ (fun W hW => hW.1) Tryz.underlying47 rfl (by kernel_rfl)) hS ?rz3
          simp only [Act.put, List.setIfInBounds_toArray, List.set_cons_zero, List.set_cons_succ]
          refine wpAnyZ_take' (i := 4) (v := ?vz4) rfl (by kernel_rfl) (by kernel_rfl) (by kernel_rfl) (fun _ _ _ h => h) (Or.inl ⟨by rfl, ?yz4⟩) ?rz4
          case yz4 => (intro w _; go_simp; first | done | with_reducible rfl)
          simp only [Act.put, List.setIfInBounds_toArray, List.set_cons_zero, List.set_cons_succ]
          refine wpAnyZ_take' (i := 5) (v := ?vz5) rfl (by kernel_rfl) (by kernel_rfl) (by kernel_rfl) (fun _ _ _ h => h) (Or.inl ⟨by rfl, ?yz5⟩) ?rz5
          case yz5 => (intro w _; go_simp; first | done | with_reducible rfl)
          simp only [Act.put, List.setIfInBounds_toArray, List.set_cons_zero, List.set_cons_succ]
          refine wpAnyZ_take' (i := 6) (v := ?vz6) rfl (by kernel_rfl) (by kernel_rfl) (by kernel_rfl) (fun _ _ _ h => h) (Or.inl ⟨by rfl, ?yz6⟩) ?rz6
          case yz6 => (intro w _; go_simp; first | done | with_reducible rfl)
          simp only [Act.put, List.setIfInBounds_toArray, List.set_cons_zero, List.set_cons_succ]
          refine wpAnyZ_load' (i := 7) (y := 8) (v := .agg [.int .i64 n0, .slice a1' d1.length p1'].toArray) rfl (by kernel_rfl) (by kernel_rfl) (by kernel_rfl) (fun _ _ _ h => h) (fun j hj => .inl (by obtain rfl : j = 8 := (by simpa using hj); kernel_rfl)) rfl (by kernel_rfl) (yieldsIf_load_mid (by rfl) _ _ rfl _ _ rfl _ _ (fun W hW => hW.2) Tryz.underlying47 rfl (by kernel_rfl)) hS ?rz7
          simp only [Act.put, List.setIfInBounds_toArray, List.set_cons_zero, List.set_cons_succ]
          refine wpAnyZ_one' (i := 8) (by kernel_rfl) rfl (fun K hK => ?_)
          go_simp
          go_at_call 44
          refine (HE.out wr.drew ⟨rfl, rfl, rfl, rfl⟩).mono ?_
          rintro e w1 ⟨rfl, hG1⟩
          have HG2 : Hid (wr.grownBy w1 none) := grownBy_trans (grownBy_drew (grownBy_refl wr none)) hG1
          clear hG1
          go_wp2_with fail
          refine hK.out _ _ (fun h => by cases h) ?_
          clear hK K
          try simp only [Act.put, List.setIfInBounds_toArray, List.set_cons_zero, List.set_cons_succ]
          refine wpAnyZ_one' (i := 9) (by kernel_rfl) rfl (fun K hK => ?_)
          go_simp
          refine hK.out _ _ (fun _ h => h) ?_
          clear hK K
          try simp only [Act.put, List.setIfInBounds_toArray, List.set_cons_zero, List.set_cons_succ]
          refine wpAnyZ_done (by kernel_rfl) ?_ _
          go_wp2_with fail
          go_meet
          case rel => exact ⟨rfl, HG2.out⟩
      case rest =>
        obtain ⟨rfl, hG1⟩ := hcut
        have HG2 : Hid (w.grownBy wc none) := grownBy_trans HG.out hG1
        clear hG1
        go_wp2
        go_roundw
        case rel => exact ⟨k + 1, by omega, by go_num, HG2.out⟩
        case measure => simp [intOf]; omega
    · obtain rfl : k = n := by omega
      go_wp2
      go_ret
      exact ⟨rfl, HG.out⟩
set_option maxRecDepth 4000 in
set_option maxHeartbeats 4000000 in
theorem eqFile_same (t0 : ByteArray) (d1 : List Nat) (a1 : Option Addr) (p1 : Nat) (a1' : Option Addr) (p1' : Nat) (w : World) (h1 : SlB w a1 d1.length d1) (h1' : SlB w a1' d1.length d1) (s1 : d1.length ≤ 1048576) :
    Calls Tryz.prog 22 #[.agg #[.string t0, .slice a1 d1.length p1], .agg #[.string t0, .slice a1' d1.length p1']] w fun e w' => e = .returned (.bool true) ∧ w.grownBy w' none := by
  have C0 : Hid (∀ Y : World, w.grownBy Y none → Calls Tryz.prog 45 #[.slice a1 d1.length p1, .slice a1' d1.length p1'] Y fun e w' => e = .returned (.bool true) ∧ Y.grownBy w' none) := fun Y hY => eqByteS_same a1 a1' d1.length p1 p1' d1 Y (h1.grown0 hY) (h1'.grown0 hY) (by omega)
  have HW : Hid (∀ Y : World, ((w.alloc (.cells #[.string t0, .slice a1 d1.length p1] 48)).alloc (.cells #[.string t0, .slice a1' d1.length p1'] 48)).grownBy Y none → Y.cell? ⟨w.heap.size, 0, none⟩ = some (.string t0) ∧ Y.cell? ⟨w.heap.size, 1, none⟩ = some (.slice a1 d1.length p1) ∧ Y.cell? ⟨w.heap.size + 1, 0, none⟩ = some (.string t0) ∧ Y.cell? ⟨w.heap.size + 1, 1, none⟩ = some (.slice a1' d1.length p1')) := fun Y hY => by
    have x0 : Y.heap[w.heap.size]? = some (.cells #[.string t0, .slice a1 d1.length p1] 48 (0, 0)) := (hY.block _ (by simp; omega) (by simp)).trans ((Below.heap_alloc _ _ _ (by simp)).trans (heap_alloc_new w _))
    have x1 : Y.heap[w.heap.size + 1]? = some (.cells #[.string t0, .slice a1' d1.length p1'] 48 (0, 0)) := (hY.block _ (by simp) (by simp)).trans (heap_two w _ _)
    simp [World.cell?, x0, x1]
  have HG : Hid (w.grownBy ((w.alloc (.cells #[.string t0, .slice a1 d1.length p1] 48)).alloc (.cells #[.string t0, .slice a1' d1.length p1'] 48)) none) := grownBy_alloc (World.grownBy_alloc _ _ _) _
  clear h1 h1' s1
  go_enter Tryz.func22, Tryz.ntmps22
  go_wp2_with fail
  refine (C0.out _ HG.out).mono ?_
  rintro e w1 ⟨rfl, hG1⟩
  have HY : Hid (((w.alloc (.cells #[.string t0, .slice a1 d1.length p1] 48)).alloc (.cells #[.string t0, .slice a1' d1.length p1'] 48)).grownBy w1 none) := hG1
  clear hG1
  have hC := HW.out w1 HY.out
  go_wp2
  go_ret
  exact ⟨rfl, grownBy_trans HG.out HY.out⟩
set_option maxRecDepth 4000 in
set_option maxHeartbeats 4000000 in
theorem eqFileS_same (L : List (List Tr)) (a : Option Addr) (p : Nat) (L' : List (List Tr)) (a' : Option Addr) (p' : Nat) (w : World) (h : RowOk w kFile a L) (h' : RowOk w kFile a' L') (e : tellR L = tellR L') (s : SmR L) :
    Calls Tryz.prog 9 #[.slice a L.length p, .slice a' L'.length p'] w fun e w' => e = .returned (.bool true) ∧ w.grownBy w' none := by
  have hll : L'.length = L.length := by have := congrArg List.length e; simpa using this.symm
  rw [hll]
  have HR : Hid (RowOk w kFile a L ∧ RowOk w kFile a' L' ∧ tellR L = tellR L' ∧ SmR L) := ⟨h, h', e, s⟩
  have hlen := s.1
  clear h h' e s
  obtain ⟨n, hn⟩ : ∃ n, L.length = n := ⟨_, rfl⟩
  have HN : Hid (L.length = n ∧ L'.length = n) := ⟨hn, by omega⟩
  rw [hn] at hlen ⊢
  clear hll hn
  go_enter Tryz.func9, Tryz.ntmps9
  go_wp2
  go_loopw [5] (fun i wr => ∃ k : Nat, k ≤ n ∧ i = .int .i64 (k : Int) ∧ w.grownBy wr none) (fun i _ => n - (intOf i).toNat)
  case atStart => exact ⟨0, Nat.zero_le _, rfl, grownBy_refl _ _⟩
  case round =>
    obtain ⟨k, hk, rfl, hG⟩ := hrel
    have HG : Hid (w.grownBy wr none) := hG
    clear hG
    by_cases hlt : k < n
    · obtain ⟨e, he⟩ : ∃ e, L[k]? = some e := ⟨_, List.getElem?_eq_getElem (by rw [HN.out.1]; exact hlt)⟩
      obtain ⟨e', he'⟩ : ∃ e, L'[k]? = some e := ⟨_, List.getElem?_eq_getElem (by rw [HN.out.2]; exact hlt)⟩
      have htl := tellR_get HR.out.2.2.1 he he'
      obtain ⟨hf, hrd, b, off, hab, hc⟩ := HR.out.1.grown0 HG.out k e he
      obtain ⟨hf', hrd', b', off', hab', hc'⟩ := HR.out.2.1.grown0 HG.out k e' he'
      have hsm := fun j y hj => HR.out.2.2.2.2 k j e y he hj
      obtain ⟨t0, d1, a1, p1, rfl⟩ := fitFile hf
      obtain ⟨t0', d1', a1', p1', rfl⟩ := fitFile hf'
      simp only [List.map_cons, List.map_nil, List.cons.injEq, and_true, Tr.tell, Td.str.injEq, Td.byt.injEq] at htl
      obtain ⟨rfl, rfl⟩ := htl
      subst hab hab'
      have HE : Hid (∀ w' : World, SameT wr w' → Calls Tryz.prog 22 #[.agg #[.string t0, .slice a1 d1.length p1], .agg #[.string t0, .slice a1' d1.length p1']] w' fun e w1 => e = .returned (.bool true) ∧ w'.grownBy w1 none) := fun w' hs => by
        have hh : w'.heap = wr.heap := hs.1
        have hhG : wr.grownBy w' none := hs.grown
        exact eqFile_same t0 d1 a1 p1 a1' p1' w' ((hrd (.byt d1 a1 p1) (by simp)).isByt.heap hh) ((hrd' (.byt d1 a1' p1') (by simp)).isByt.heap hh) (hsm 1 _ rfl).isByt
      have hkI : (k : Int) < (n : Int) := by omega
      have hS : wr.drew.rangeAt b (off + k * 2) [.string t0, .slice a1 d1.length p1] ∧ wr.drew.rangeAt b' (off' + k * 2) [.string t0, .slice a1' d1.length p1'] := ⟨range_el hc, range_el hc'⟩
      clear hc hc' hrd hrd' hsm hf hf' he he'
      go_wp2
      go_cut [26] (fun v wx => v = .bool false ∧ wr.grownBy wx none)
      case first =>
        as_aux_lemma =>
          refine wp_region_Z (fun W => W.rangeAt b (off + k * 2) [.string t0, .slice a1 d1.length p1] ∧ W.rangeAt b' (off' + k * 2) [.string t0, .slice a1' d1.length p1']) (fun j => j == 8) (by kernel_rfl) ?_
          refine wpAnyZ_take' (i := 0) (v := ?vz0) rfl (by kernel_rfl) (by kernel_rfl) (by kernel_rfl) (fun _ _ _ h => h) (Or.inl ⟨by rfl, ?yz0⟩) ?rz0
          case yz0 => (intro w _; go_simp; first | done | with_reducible rfl)
          simp only [Act.put, List.setIfInBounds_toArray, List.set_cons_zero, List.set_cons_succ]
          refine wpAnyZ_take' (i := 1) (v := ?vz1) rfl (by kernel_rfl) (by kernel_rfl) (by kernel_rfl) (fun _ _ _ h => h) (Or.inl ⟨by rfl, ?yz1⟩) ?rz1
          case yz1 => (intro w _; go_simp; first | done | with_reducible rfl)
          simp only [Act.put, List.setIfInBounds_toArray, List.set_cons_zero, List.set_cons_succ]
          refine wpAnyZ_take' (i := 2) (v := ?vz2) rfl (by kernel_rfl) (by kernel_rfl) (by kernel_rfl) (fun _ _ _ h => h) (Or.inl ⟨by rfl, ?yz2⟩) ?rz2
          case yz2 => (intro w _; go_simp; first | done | with_reducible rfl)
          simp only [Act.put, List.setIfInBounds_toArray, List.set_cons_zero, List.set_cons_succ]
          refine wpAnyZ_load' (i := 3) (y := 8) (v := .agg [.string t0, .slice a1 d1.length p1].toArray) rfl (by kernel_rfl) (by kernel_rfl) (by kernel_rfl) (fun _ _ _ h => h) (fun j hj => .inl (by obtain rfl : j = 8 := (by simpa using hj); kernel_rfl)) rfl (by kernel_rfl) (yieldsIf_load_mid (by rfl) _ _ rfl _ _ rfl _ _ (fun W hW => hW.1) Tryz.underlying48 rfl (by kernel_rfl)) hS ?rz3
          simp only [Act.put, List.setIfInBounds_toArray, List.set_cons_zero, List.set_cons_succ]
          refine wpAnyZ_take' (i := 4) (v := ?vz4) rfl (by kernel_rfl) (by kernel_rfl) (by kernel_rfl) (fun _ _ _ h => h) (Or.inl ⟨by rfl, ?yz4⟩) ?rz4
          case yz4 => (intro w _; go_simp; first | done | with_reducible rfl)
          simp only [Act.put, List.setIfInBounds_toArray, List.set_cons_zero, List.set_cons_succ]
          refine wpAnyZ_take' (i := 5) (v := ?vz5) rfl (by kernel_rfl) (by kernel_rfl) (by kernel_rfl) (fun _ _ _ h => h) (Or.inl ⟨by rfl, ?yz5⟩) ?rz5
          case yz5 => (intro w _; go_simp; first | done | with_reducible rfl)
          simp only [Act.put, List.setIfInBounds_toArray, List.set_cons_zero, List.set_cons_succ]
          refine wpAnyZ_take' (i := 6) (v := ?vz6) rfl (by kernel_rfl) (by kernel_rfl) (by kernel_rfl) (fun _ _ _ h => h) (Or.inl ⟨by rfl, ?yz6⟩) ?rz6
          case yz6 => (intro w _; go_simp; first | done | with_reducible rfl)
          simp only [Act.put, List.setIfInBounds_toArray, List.set_cons_zero, List.set_cons_succ]
          refine wpAnyZ_load' (i := 7) (y := 8) (v := .agg [.string t0, .slice a1' d1.length p1'].toArray) rfl (by kernel_rfl) (by kernel_rfl) (by kernel_rfl) (fun _ _ _ h => h) (fun j hj => .inl (by obtain rfl : j = 8 := (by simpa using hj); kernel_rfl)) rfl (by kernel_rfl) (yieldsIf_load_mid (by rfl) _ _ rfl _ _ rfl _ _ (fun W hW => hW.2) Tryz.underlying48 rfl (by kernel_rfl)) hS ?rz7
          simp only [Act.put, List.setIfInBounds_toArray, List.set_cons_zero, List.set_cons_succ]
          refine wpAnyZ_one' (i := 8) (by kernel_rfl) rfl (fun K hK => ?_)
          go_simp
          go_at_call 22
          refine (HE.out wr.drew ⟨rfl, rfl, rfl, rfl⟩).mono ?_
          rintro e w1 ⟨rfl, hG1⟩
          have HG2 : Hid (wr.grownBy w1 none) := grownBy_trans (grownBy_drew (grownBy_refl wr none)) hG1
          clear hG1
          go_wp2_with fail
          refine hK.out _ _ (fun h => by cases h) ?_
          clear hK K
          try simp only [Act.put, List.setIfInBounds_toArray, List.set_cons_zero, List.set_cons_succ]
          refine wpAnyZ_one' (i := 9) (by kernel_rfl) rfl (fun K hK => ?_)
          go_simp
          refine hK.out _ _ (fun _ h => h) ?_
          clear hK K
          try simp only [Act.put, List.setIfInBounds_toArray, List.set_cons_zero, List.set_cons_succ]
          refine wpAnyZ_done (by kernel_rfl) ?_ _
          go_wp2_with fail
          go_meet
          case rel => exact ⟨rfl, HG2.out⟩
      case rest =>
        obtain ⟨rfl, hG1⟩ := hcut
        have HG2 : Hid (w.grownBy wc none) := grownBy_trans HG.out hG1
        clear hG1
        go_wp2
        go_roundw
        case rel => exact ⟨k + 1, by omega, by go_num, HG2.out⟩
        case measure => simp [intOf]; omega
    · obtain rfl : k = n := by omega
      go_wp2
      go_ret
      exact ⟨rfl, HG.out⟩
end Go.Proofs.YtjnegjgpkboocaaGreatDoor
/-
  eqIntS, walked.
-/
namespace Go.Proofs.YtjnegjgpkboocaaGreatDoor
open Go.RowKit

set_option maxHeartbeats 800000 in
theorem eqIntS_same (oa ob : Option Addr) (len ca cb : Nat) (zs : List Int) (w : World) (ha : SlI w oa len zs) (hb : SlI w ob len zs) (hm : len ≤ 1073741824) :
    Calls Tryz.prog 21 #[.slice oa len ca, .slice ob len cb] w fun e w' => e = .returned (.bool true) ∧ w.grownBy w' none := by
  obtain ⟨hl, hz, hc⟩ := ha
  obtain ⟨_, _, hd⟩ := hb
  clear hz
  go_enter Tryz.func21, Tryz.ntmps21
  go_wp2
  go_loopw [5] (fun i wr => ∃ k : Nat, k ≤ len ∧ i = .int .i64 k ∧ w.grownBy wr none) (fun i _ => len - (intOf i).toNat)
  case atStart => exact ⟨0, Nat.zero_le _, rfl, grownBy_refl _ _⟩
  case round =>
    obtain ⟨k, hk, rfl, hG⟩ := hrel
    by_cases hlt : k < len
    · obtain ⟨b, off, rfl, hcc⟩ := hc (by omega)
      obtain ⟨b', off', rfl, hdd⟩ := hd (by omega)
      have h1 : wr.cell? ⟨b, off + k, none⟩ = some (.int .i64 (zs.getD k 0)) := by
        have h0 := hcc k hlt
        exact (World.cell?_of_block (w := w) (a := ⟨b, off + k, none⟩) (hG.block b (cell_block_lt h0) (by simp))).trans h0
      have h2 : wr.cell? ⟨b', off' + k, none⟩ = some (.int .i64 (zs.getD k 0)) := by
        have h0 := hdd k hlt
        exact (World.cell?_of_block (w := w) (a := ⟨b', off' + k, none⟩) (hG.block b' (cell_block_lt h0) (by simp))).trans h0
      obtain ⟨c, hce⟩ : ∃ c, c = zs.getD k 0 := ⟨_, rfl⟩
      rw [← hce] at h1 h2
      have HG : Hid (w.grownBy wr none) := hG
      clear hcc hdd hc hd hce hG
      go_wp2
      go_region
      all_goals (try go_wp2)
      all_goals go_roundw
      all_goals first | (simp [intOf]; omega) | exact ⟨k + 1, by omega, by go_num, by repeat (first | exact HG.out | apply grownBy_drew)⟩
    · have HG : Hid (w.grownBy wr none) := hG
      clear hG
      go_wp2
      go_ret
      exact ⟨rfl, HG.out⟩
end Go.Proofs.YtjnegjgpkboocaaGreatDoor
/-
  A WalView as it lies; the laws' eqWalView, markWalView, heldWalView, walked.
-/
namespace Go.Proofs.YtjnegjgpkboocaaGreatDoor
open Go.RowKit

def En.tr (e : En) : List Tr := [.int (e.t : Int), .byt e.data (some ⟨e.g, e.off, none⟩) e.cp]
def En.tell (e : En) : Nat × List Nat := (e.t, e.data)
theorem En.data_len {e : En} (h : e.off + e.n ≤ e.D.length) : e.data.length = e.n := by simp [En.data]; omega
theorem EnR.rowOk {w : World} {G : Nat} {E : List En} (h : EnR w G E) (hs : ∀ e ∈ E, e.t ≤ 1073741824 ∧ e.n ≤ 1048576) : RowOk w kEntry (some ⟨G, 0, none⟩) (E.map En.tr) := by
  intro i x hi
  rw [List.getElem?_map] at hi
  obtain ⟨e, he, rfl⟩ := Option.map_eq_some_iff.1 hi
  have hm := List.mem_of_getElem? he
  obtain ⟨ho, hl⟩ := h.own e hm
  obtain ⟨c0, c1, -⟩ := h.cells he
  have hd := En.data_len hl
  refine ⟨⟨rfl, fun j y k hj hk => ?_⟩, fun y hy => ?_, G, 0, rfl, fun j y hj => ?_⟩
  · match j with
    | 0 => obtain rfl := Option.some.inj hj; obtain rfl := Option.some.inj hk; exact .int _
    | 1 => obtain rfl := Option.some.inj hj; obtain rfl := Option.some.inj hk; exact .byt _ _ _
    | j + 2 => cases hk
  · simp only [En.tr, List.mem_cons, List.not_mem_nil, or_false] at hy
    rcases hy with rfl | rfl
    · exact .int ⟨by omega, by have := (hs e hm).1; omega⟩
    · exact .byt (by rw [hd]; have := (hs e hm).2; unfold maxLen; omega) (by rw [hd]; exact ho.slAt e.off e.n hl)
  · match j with
    | 0 =>
      obtain rfl := Option.some.inj hj
      show w.cell? ⟨G, 0 + i * 2 + 0, none⟩ = _
      rw [Nat.zero_add]; exact c0
    | 1 =>
      obtain rfl := Option.some.inj hj
      show w.cell? ⟨G, 0 + i * 2 + 1, none⟩ = some (.slice _ e.data.length _)
      rw [Nat.zero_add, hd]; exact c1
    | j + 2 => cases hj
/-- a slice of entries: none, or a row of its own -/
def EnS (w : World) (oa : Option Addr) (n : Nat) (E : List En) : Prop := E.length = n ∧ ((oa = none ∧ E = []) ∨ ∃ G, oa = some ⟨G, 0, none⟩ ∧ EnR w G E)
/-- a slice of numbers: none, or a row of its own -/
def InS (w : World) (oa : Option Addr) (n : Nat) (zs : List Int) : Prop := zs.length = n ∧ ((oa = none ∧ zs = []) ∨ ∃ G, oa = some ⟨G, 0, none⟩ ∧ OwnI w 3 G zs)
theorem EnS.grown0 {w w' : World} {oa : Option Addr} {n : Nat} {E : List En} (h : EnS w oa n E) (hg : w.grownBy w' none) : EnS w' oa n E := by
  obtain ⟨h1, h2 | ⟨G, h2, h3⟩⟩ := h
  · exact ⟨h1, .inl h2⟩
  · exact ⟨h1, .inr ⟨G, h2, h3.grown0 hg⟩⟩
theorem InS.grown0 {w w' : World} {oa : Option Addr} {n : Nat} {zs : List Int} (h : InS w oa n zs) (hg : w.grownBy w' none) : InS w' oa n zs := by
  obtain ⟨h1, h2 | ⟨G, h2, h3⟩⟩ := h
  · exact ⟨h1, .inl h2⟩
  · exact ⟨h1, .inr ⟨G, h2, h3.grown hg (by simp)⟩⟩
theorem EnS.rowOk {w : World} {oa : Option Addr} {n : Nat} {E : List En} (h : EnS w oa n E) (hs : ∀ e ∈ E, e.t ≤ 1073741824 ∧ e.n ≤ 1048576) : RowOk w kEntry oa (E.map En.tr) := by
  obtain ⟨-, ⟨-, rfl⟩ | ⟨G, rfl, h3⟩⟩ := h
  · intro i x hi; simp at hi
  · exact h3.rowOk hs
theorem InS.sl {w : World} {oa : Option Addr} {n : Nat} {zs : List Int} (h : InS w oa n zs) : SlI w oa n zs := by
  obtain ⟨h1, ⟨rfl, rfl⟩ | ⟨G, rfl, h3⟩⟩ := h
  · exact ⟨h1, by simp, fun hn => absurd h1.symm (by simpa using hn)⟩
  · exact h3.sl n h1
theorem tellR_en {E E' : List En} (h : E.map En.tell = E'.map En.tell) : tellR (E.map En.tr) = tellR (E'.map En.tr) := by
  have h1 : ∀ F : List En, tellR (F.map En.tr) = (F.map En.tell).map (fun p => [Td.int (p.1 : Int), Td.byt p.2]) := by
    intro F
    rw [tellR, List.map_map, List.map_map]
    refine List.map_congr_left (fun e _ => ?_)
    simp [En.tr, En.tell, Tr.tell]
  rw [h1, h1, h]
theorem smR_en {E : List En} (hl : E.length ≤ 1048576) (hs : ∀ e ∈ E, e.data.length ≤ 1048576) : SmR (E.map En.tr) := by
  refine ⟨by simpa using hl, fun i j x y hi hj => ?_⟩
  rw [List.getElem?_map] at hi
  obtain ⟨e, he, rfl⟩ := Option.map_eq_some_iff.1 hi
  match j with
  | 0 => obtain rfl := Option.some.inj hj; exact .int _
  | 1 => obtain rfl := Option.some.inj hj; exact .byt (hs e (List.mem_of_getElem? he))
  | j + 2 => cases hj
/-- the answer -/
structure Wv where
  code : Nat
  base : Nat
  bt : Nat
  E : List En
  zs : List Int
  keep : Nat
  drop : Bool
  ea : Option Addr
  ec : Nat
  sa : Option Addr
  sc : Nat
def Wv.tell (v : Wv) : Nat × Nat × Nat × List (Nat × List Nat) × List Int × Nat × Bool := (v.code, v.base, v.bt, v.E.map En.tell, v.zs, v.keep, v.drop)
structure WvAt (w : World) (v : Wv) : Prop where
  en : EnS w v.ea v.E.length v.E
  se : InS w v.sa v.zs.length v.zs
structure WvSm (v : Wv) : Prop where
  len : v.E.length ≤ 1048576
  slen : v.zs.length ≤ 1048576
  each : ∀ e ∈ v.E, e.t ≤ 1073741824 ∧ e.n ≤ 1048576 ∧ e.off + e.n ≤ e.D.length
  num : v.code ≤ 1073741824 ∧ v.base ≤ 1073741824 ∧ v.bt ≤ 1073741824 ∧ v.keep ≤ 1073741824
theorem WvAt.grown0 {w w' : World} {v : Wv} (h : WvAt w v) (hg : w.grownBy w' none) : WvAt w' v := ⟨h.en.grown0 hg, h.se.grown0 hg⟩
abbrev Wv.val (v : Wv) : Value := .agg #[.int .i64 (v.code : Int), .int .i64 (v.base : Int), .int .i64 (v.bt : Int), .slice v.ea v.E.length v.ec, .slice v.sa v.zs.length v.sc, .int .i64 (v.keep : Int), .bool v.drop]
set_option maxRecDepth 4000 in
set_option maxHeartbeats 2000000 in
theorem eqWalView_same (v u : Wv) (w : World) (hv : WvAt w v) (hu : WvAt w u) (h : v.tell = u.tell) (sv : WvSm v) (su : WvSm u) :
    Calls Tryz.prog 8 #[v.val, u.val] w fun e w' => e = .returned (.bool true) ∧ w.grownBy w' none := by
  obtain ⟨code, base, bt, E, zs, keep, drop, ea, ec, sa, sc⟩ := v
  obtain ⟨code', base', bt', E', zs', keep', drop', ea', ec', sa', sc'⟩ := u
  simp only [Wv.tell, Prod.mk.injEq] at h
  obtain ⟨rfl, rfl, rfl, hE, rfl, rfl, rfl⟩ := h
  have hll : E'.length = E.length := by have := congrArg List.length hE; simpa using this.symm
  have HE : Hid (∀ Y : World, w.grownBy Y none → Calls Tryz.prog 20 #[.slice ea E.length ec, .slice ea' E'.length ec'] Y fun e w' => e = .returned (.bool true) ∧ Y.grownBy w' none) := fun Y hY => by
    have h1 := eqEntryS_same (E.map En.tr) ea ec (E'.map En.tr) ea' ec' Y ((hv.en.grown0 hY).rowOk (fun e he => ⟨(sv.each e he).1, (sv.each e he).2.1⟩)) ((hu.en.grown0 hY).rowOk (fun e he => ⟨(su.each e he).1, (su.each e he).2.1⟩)) (tellR_en hE) (smR_en sv.len (fun e he => by rw [En.data_len (sv.each e he).2.2]; exact (sv.each e he).2.1))
    simpa using h1
  have HI : Hid (∀ Y : World, w.grownBy Y none → Calls Tryz.prog 21 #[.slice sa zs.length sc, .slice sa' zs.length sc'] Y fun e w' => e = .returned (.bool true) ∧ Y.grownBy w' none) := fun Y hY =>
    eqIntS_same sa sa' zs.length sc sc' zs Y (hv.se.grown0 hY).sl (hu.se.grown0 hY).sl (by have := sv.slen; simp at this; omega)
  clear hv hu sv su hE
  simp only [Wv.val]
  rw [hll] at HE ⊢
  clear hll
  generalize E.length = n at *
  generalize zs.length = m at *
  go_enter Tryz.func8, Tryz.ntmps8
  go_wp2_with fail
  refine (HE.out _ (grownBy_alloc (World.grownBy_alloc _ _ _) _)).mono ?_
  rintro e w1 ⟨rfl, hG1⟩
  have hA : w1.heap[w.heap.size]? = some (.cells #[.int .i64 (code : Int), .int .i64 (base : Int), .int .i64 (bt : Int), .slice ea n ec, .slice sa m sc, .int .i64 (keep : Int), .bool drop] 27 (0, 0)) := (hG1.block _ (by simp; omega) (by simp)).trans ((Below.heap_alloc _ _ _ (by simp)).trans (heap_alloc_new w _))
  have hB : w1.heap[w.heap.size + 1]? = some (.cells #[.int .i64 (code : Int), .int .i64 (base : Int), .int .i64 (bt : Int), .slice ea' n ec', .slice sa' m sc', .int .i64 (keep : Int), .bool drop] 27 (0, 0)) := (hG1.block _ (by simp) (by simp)).trans (heap_two w _ _)
  have H1 : Hid (w.grownBy w1 none ∧ w1.heap[w.heap.size]? = some (.cells #[.int .i64 (code : Int), .int .i64 (base : Int), .int .i64 (bt : Int), .slice ea n ec, .slice sa m sc, .int .i64 (keep : Int), .bool drop] 27 (0, 0)) ∧ w1.heap[w.heap.size + 1]? = some (.cells #[.int .i64 (code : Int), .int .i64 (base : Int), .int .i64 (bt : Int), .slice ea' n ec', .slice sa' m sc', .int .i64 (keep : Int), .bool drop] 27 (0, 0))) := ⟨grownBy_trans (grownBy_alloc (World.grownBy_alloc _ _ _) _) hG1, hA, hB⟩
  have c4 : w1.cell? ⟨w.heap.size, 4, none⟩ = some (.slice sa m sc) := (cell_of_row w1 _ _ _ _ _ hA).trans rfl
  have d4 : w1.cell? ⟨w.heap.size + 1, 4, none⟩ = some (.slice sa' m sc') := (cell_of_row w1 _ _ _ _ _ hB).trans rfl
  clear hG1 hA hB HE
  go_wp2_with fail
  refine (HI.out _ H1.out.1).mono ?_
  rintro e w2 ⟨rfl, hG2⟩
  have hA := (hG2.block _ (Array.getElem?_eq_some_iff.1 H1.out.2.1).1 (by simp)).trans H1.out.2.1
  have hB := (hG2.block _ (Array.getElem?_eq_some_iff.1 H1.out.2.2).1 (by simp)).trans H1.out.2.2
  have H2 : Hid (w.grownBy w2 none) := grownBy_trans H1.out.1 hG2
  have c5 : w2.cell? ⟨w.heap.size, 5, none⟩ = some (.int .i64 (keep : Int)) := (cell_of_row w2 _ _ _ _ _ hA).trans rfl
  have d5 : w2.cell? ⟨w.heap.size + 1, 5, none⟩ = some (.int .i64 (keep : Int)) := (cell_of_row w2 _ _ _ _ _ hB).trans rfl
  have c6 : w2.cell? ⟨w.heap.size, 6, none⟩ = some (.bool drop) := (cell_of_row w2 _ _ _ _ _ hA).trans rfl
  have d6 : w2.cell? ⟨w.heap.size + 1, 6, none⟩ = some (.bool drop) := (cell_of_row w2 _ _ _ _ _ hB).trans rfl
  clear hG2 hA hB HI c4 d4 H1
  go_wp2
  go_ret
  exact ⟨rfl, H2.out⟩
end Go.Proofs.YtjnegjgpkboocaaGreatDoor
/-
  The log that is being read: as it lies, and what reads it, walked.
-/
namespace Go.Proofs.YtjnegjgpkboocaaGreatDoor
open Go.RowKit

def En.cells (e : En) : List Value := [.int .i64 (e.t : Int), .slice (some ⟨e.g, e.off, none⟩) e.n e.cp]
def sgCells (s : Nat × Nat) : List Value := [.int .i64 (s.1 : Int), .int .i64 (s.2 : Int)]
structure Lg where
  base : Nat
  bt : Nat
  E : List En
  ev : Value
  S : List (Nat × Nat)
  sv : Value
structure LogIn (w : World) (R B : Nat) (tl : List Value) (L : Lg) : Prop where
  box : w.heap[R]? = some (.cells (Value.int .i64 (L.base : Int) :: .int .i64 (L.bt : Int) :: L.ev :: L.sv :: tl).toArray 60 (0, 0))
  ent : w.ownsRow B 47 2 L.ev L.E.length (L.E.flatMap En.cells)
  own : ∀ e ∈ L.E, B ≤ e.g ∧ Own w 5 e.g e.D ∧ e.off + e.n ≤ e.D.length
  apart : (L.E.map En.g).Nodup
  seg : w.ownsRow B 67 2 L.sv L.S.length (L.S.flatMap sgCells)
  low : R < B
  sm : L.base + L.E.length ≤ 1000000 ∧ L.bt ≤ 1000000000 ∧ L.S.length ≤ 1000 ∧ ∀ e ∈ L.E, e.t ≤ 1000000000 ∧ e.n ≤ 8192
theorem flat2_get {α : Type} (f : α → Value) (g : α → Value) (l : List α) {i : Nat} {x : α} (h : l[i]? = some x) : (l.flatMap (fun y => [f y, g y]))[i * 2]? = some (f x) ∧ (l.flatMap (fun y => [f y, g y]))[i * 2 + 1]? = some (g x) := by
  induction l generalizing i with
  | nil => simp at h
  | cons y l ih =>
    cases i with
    | zero => simp at h; subst h; simp
    | succ i =>
      have h1 := ih (i := i) (by simpa using h)
      rw [show (i + 1) * 2 = i * 2 + 1 + 1 by omega]
      simpa using h1
theorem own_at {w : World} {B e n : Nat} {v : Value} {xs : List Value} (h : w.ownsRow B e 2 v n xs) {i : Nat} {u : Value} (hi : xs[i]? = some u) : ∃ g cap, v = .slice (some ⟨g, 0, none⟩) n cap ∧ B ≤ g ∧ n ≤ cap ∧ cap ≤ maxLen ∧ w.cell? ⟨g, i, none⟩ = some u ∧ (∀ o, w.frozen? ⟨g, o, none⟩ = false) ∧ g < w.heap.size := by
  obtain ⟨hl, ⟨rfl, rfl⟩ | ⟨g, cap, cur, rfl, hb, hg, hc, hm, hs, ht⟩⟩ := h
  · have := (List.getElem?_eq_some_iff.1 hi).1
    omega
  · refine ⟨g, cap, rfl, hb, hc, hm, ?_, fun o => by simp [World.frozen?, hg], (Array.getElem?_eq_some_iff.1 hg).1⟩
    rw [cell_of_row w g _ _ _ _ hg]
    have hil := (List.getElem?_eq_some_iff.1 hi).1
    rw [← ht, List.getElem?_take] at hi
    split at hi
    · simpa using hi
    · cases hi
theorem LogIn.cells {w : World} {R B : Nat} {tl : List Value} {L : Lg} (h : LogIn w R B tl L) : w.cell? ⟨R, 0, none⟩ = some (.int .i64 (L.base : Int)) ∧ w.cell? ⟨R, 1, none⟩ = some (.int .i64 (L.bt : Int)) ∧ w.cell? ⟨R, 2, none⟩ = some L.ev ∧ w.cell? ⟨R, 3, none⟩ = some L.sv ∧ (∀ o, w.frozen? ⟨R, o, none⟩ = false) ∧ R < w.heap.size := by
  have hb := h.box
  refine ⟨?_, ?_, ?_, ?_, fun o => by simp [World.frozen?, hb], (Array.getElem?_eq_some_iff.1 hb).1⟩ <;> rw [cell_of_row w R _ _ _ _ hb] <;> simp
theorem LogIn.evIs {w : World} {R B : Nat} {tl : List Value} {L : Lg} (h : LogIn w R B tl L) : ∃ oa cap, L.ev = .slice oa L.E.length cap ∧ L.E.length ≤ cap ∧ cap ≤ maxLen := by
  obtain ⟨hl, ⟨h1, h2⟩ | ⟨g, cap, cur, h1, hb, hg, hc, hm, hs, ht⟩⟩ := h.ent
  · exact ⟨none, 0, by rw [h1, h2], by omega, by unfold maxLen; omega⟩
  · exact ⟨_, cap, h1, hc, hm⟩
theorem LogIn.svIs {w : World} {R B : Nat} {tl : List Value} {L : Lg} (h : LogIn w R B tl L) : ∃ oa cap, L.sv = .slice oa L.S.length cap ∧ L.S.length ≤ cap ∧ cap ≤ maxLen := by
  obtain ⟨hl, ⟨h1, h2⟩ | ⟨g, cap, cur, h1, hb, hg, hc, hm, hs, ht⟩⟩ := h.seg
  · exact ⟨none, 0, by rw [h1, h2], by omega, by unfold maxLen; omega⟩
  · exact ⟨_, cap, h1, hc, hm⟩
theorem LogIn.heap {w w' : World} {R B : Nat} {tl : List Value} {L : Lg} (h : LogIn w R B tl L) (hh : w'.heap = w.heap) : LogIn w' R B tl L :=
  ⟨by rw [hh]; exact h.box, ownsRow_heap h.ent hh, fun e he => ⟨(h.own e he).1, (h.own e he).2.1.heap hh, (h.own e he).2.2⟩, h.apart, ownsRow_heap h.seg hh, h.low, h.sm⟩
/-- a term -/
def ltm (base bt : Nat) (ts : List Nat) (i : Nat) : Nat := if i = base then bt else if i < base ∨ base + ts.length < i then 0 else ts.getD (i - base - 1) 0
def Lg.term (L : Lg) (i : Nat) : Nat := ltm L.base L.bt (L.E.map En.t) i
def Lg.last (L : Lg) : Nat := L.base + L.E.length
set_option maxRecDepth 4000 in
set_option maxHeartbeats 1000000 in
theorem last_any (R B : Nat) (tl : List Value) (L : Lg) (w : World) (h : LogIn w R B tl L) :
    Calls Tryz.prog 71 #[.pointer (some ⟨R, 0, none⟩)] w fun e w' => e = .returned (.int .i64 (L.last : Int)) ∧ ∃ m, w' = w.drewN m := by
  obtain ⟨c0, -, c2, -⟩ := h.cells
  obtain ⟨oa, cap, hev, -⟩ := h.evIs
  rw [hev] at c2
  have hsm := h.sm.1
  unfold Lg.last
  obtain ⟨base, hb⟩ : ∃ x, L.base = x := ⟨_, rfl⟩
  obtain ⟨n, hn⟩ : ∃ x, L.E.length = x := ⟨_, rfl⟩
  rw [hb, hn] at hsm
  rw [hb] at c0
  rw [hn] at c2
  rw [hb, hn]
  clear h hev hb hn
  have v1 : IntKind.i64.wrap ((base : Int) + n) = base + n := IntWalk.i64_in _ (by omega)
  go_enter Tryz.func71, Tryz.ntmps71
  go_wp2
  go_quiet (fail)
  go_wp2
  go_ret
  exact ⟨ret_int (by omega), _, rfl⟩
set_option maxRecDepth 4000 in
set_option maxHeartbeats 2000000 in
theorem termAt_any (i R B : Nat) (tl : List Value) (L : Lg) (w : World) (h : LogIn w R B tl L) (hi : i ≤ 1073741824) :
    Calls Tryz.prog 73 #[.pointer (some ⟨R, 0, none⟩), .int .i64 (i : Int)] w fun e w' => e = .returned (.int .i64 (L.term i : Int)) ∧ ∃ m, w' = w.drewN m := by
  obtain ⟨c0, c1, c2, -⟩ := h.cells
  have hsm := h.sm.1
  have HC : Hid (∀ w', w'.heap = w.heap → Calls _ _ _ w' _) := fun w' hh => last_any R B tl L w' (h.heap hh)
  unfold Lg.last at HC
  unfold Lg.term ltm
  rw [List.length_map]
  by_cases h1 : i = L.base
  · rw [if_pos h1]
    subst h1
    clear HC
    go_enter Tryz.func73, Tryz.ntmps73
    go_wp2
    go_ret
    exact ⟨rfl, 0, rfl⟩
  · rw [if_neg h1]
    have e1 : ((i : Int) == (L.base : Int)) = false := by rw [beq_eq_false_iff_ne]; omega
    by_cases h2 : i < L.base
    · rw [if_pos (.inl h2)]
      have e2 : (i : Int) < (L.base : Int) := by omega
      clear HC
      go_enter Tryz.func73, Tryz.ntmps73
      go_wp2
      go_ret
      exact ⟨rfl, 0, rfl⟩
    · have e2 : ¬ (i : Int) < (L.base : Int) := by omega
      by_cases h3 : L.base + L.E.length < i
      · rw [if_pos (.inr h3)]
        have e3 : ((L.base + L.E.length : Nat) : Int) < (i : Int) := by omega
        go_enter Tryz.func73, Tryz.ntmps73
        go_wp2_with fail
        refine (HC.out w rfl).mono ?_
        clear HC
        rintro e w1 ⟨rfl, m, rfl⟩
        go_wp2
        go_ret
        exact ⟨rfl, m, rfl⟩
      · rw [if_neg (by omega)]
        have e3 : ¬ ((L.base + L.E.length : Nat) : Int) < (i : Int) := by omega
        obtain ⟨e, he⟩ : ∃ e, L.E[i - L.base - 1]? = some e := ⟨_, List.getElem?_eq_getElem (by omega)⟩
        have ht : (L.E.map En.t).getD (i - L.base - 1) 0 = e.t := by rw [List.getD_eq_getElem?_getD, List.getElem?_map, he]; rfl
        rw [ht]
        obtain ⟨g, cap, hev, -, hc, -, q, -⟩ := own_at h.ent (flat2_get (fun e : En => .int .i64 (e.t : Int)) (fun e : En => .slice (some ⟨e.g, e.off, none⟩) e.n e.cp) L.E he).1
        rw [hev] at c2
        obtain ⟨k, hk⟩ : ∃ k, i - L.base - 1 = k := ⟨_, rfl⟩
        rw [hk] at q
        have v1 : IntKind.i64.wrap ((i : Int) - L.base) = i - L.base := IntWalk.i64_in _ (by omega)
        have v2 : IntKind.i64.wrap ((i : Int) - L.base - 1) = (k : Int) := by rw [IntWalk.i64_in _ (by omega)]; omega
        obtain ⟨n, hn⟩ : ∃ x, L.E.length = x := ⟨_, rfl⟩
        obtain ⟨base, hb⟩ : ∃ x, L.base = x := ⟨_, rfl⟩
        rw [hn] at c2 e3 HC hsm
        rw [hb] at v1 v2 e1 e2 e3 c0 HC hsm
        have e4 : (k : Int) < (n : Int) := by omega
        have hsl : w.cell? ⟨g, k * 2, none⟩ = some (.int .i64 (e.t : Int)) := q
        clear h hev ht he hk q h1 h2 h3 hn hb c1
        go_enter Tryz.func73, Tryz.ntmps73
        go_wp2_with fail
        refine (HC.out w rfl).mono ?_
        clear HC
        rintro e w1 ⟨rfl, m, rfl⟩
        have d0 : (w.drewN m).cell? ⟨R, 0, none⟩ = some (.int .i64 (base : Int)) := c0
        have d2 : (w.drewN m).cell? ⟨R, 2, none⟩ = some (.slice (some ⟨g, 0, none⟩) n cap) := c2
        have d3 : (w.drewN m).cell? ⟨g, k * 2, none⟩ = some (.int .i64 (e.t : Int)) := hsl
        go_wp2
        go_quiet (fail)
        go_wp2
        go_ret
        exact ⟨rfl, m + nq, by simp⟩
end Go.Proofs.YtjnegjgpkboocaaGreatDoor

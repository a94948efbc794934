/-
  Base, Cut, App, Small, Le4P, CrcMath, TakeN, TakeL, OpenB, Tree, Tree2, Tot, TreeL, MadeT
-/
import Derived.WalkKit
import Derived.WalkSpells
import Derived.WalkLawsBesides
import Derived.Below
import Derived.Deep.AppendLies
import Derived.Deep.RegionHeld3
import Derived.Test.YtjnegjgpkboocaaGreatDoorChecked
import Derived.Laws.OwnMore
import Derived.BigQuiet
import Derived.Deep.QuietTactic
import Derived.ProofKit
import Derived.OpenShut
import Derived.Laws.Cells
import Derived.Deep.MidRow
/-
  Words for worlds: a row of bytes that came in (SlB), a row of bytes of the call's own (Own), what is kept (World.grownBy). Nothing here reaches the dump.
-/
namespace Go.Proofs.YtjnegjgpkboocaaGreatDoor
open Go.RowKit

theorem ret_int {k : IntKind} {a b : Int} (h : a = b) : Ending.returned (.int k a) = .returned (.int k b) := by rw [h]
theorem ret_bool {a b : Bool} (h : a = b) : Ending.returned (.bool a) = .returned (.bool b) := by rw [h]
/-- a byte as a value -/
def bv (n : Nat) : Value := .int .u8 (n : Int)

/-- A slice of bytes that reads as zs, in the world w (its address unknown where it is empty). -/
def SlB (w : World) (oa : Option Addr) (len : Nat) (zs : List Nat) : Prop :=
  zs.length = len ∧ (∀ z ∈ zs, z < 256) ∧ (len ≠ 0 → ∃ b off, oa = some ⟨b, off, none⟩ ∧ ∀ i, i < len → w.cell? ⟨b, off + i, none⟩ = some (.int .u8 ((zs.getD i 0 : Nat) : Int)))

/-- Block g is a row of bytes, not frozen, whose first cells are zs. -/
def Own (w : World) (e : TypeId) (g : Nat) (zs : List Nat) : Prop :=
  (∀ z ∈ zs, z < 256) ∧ ∃ cur : Array Value, w.heap[g]? = some (.cells cur e (0, 0)) ∧ ∀ i, i < zs.length → cur[i]? = some (.int .u8 ((zs.getD i 0 : Nat) : Int))

theorem cell_block_lt {w : World} {a : Addr} {v : Value} (h : w.cell? a = some v) : a.block < w.heap.size := by
  unfold World.cell? at h
  cases hb : w.heap[a.block]? with
  | none => rw [hb] at h; simp at h
  | some o => exact (Array.getElem?_eq_some_iff.1 hb).1

theorem Own.lt {w : World} {e : TypeId} {g : Nat} {zs : List Nat} (h : Own w e g zs) : g < w.heap.size := by
  obtain ⟨_, cur, hg, _⟩ := h; exact (Array.getElem?_eq_some_iff.1 hg).1
theorem Own.cell {w : World} {e : TypeId} {g : Nat} {zs : List Nat} (h : Own w e g zs) (i : Nat) (hi : i < zs.length) : w.cell? ⟨g, i, none⟩ = some (.int .u8 ((zs.getD i 0 : Nat) : Int)) := by
  obtain ⟨_, cur, hg, hc⟩ := h; simp only [World.cell?, hg]
  simpa using hc i hi
theorem Own.free {w : World} {e : TypeId} {g : Nat} {zs : List Nat} (h : Own w e g zs) (i : Nat) : w.frozen? ⟨g, i, none⟩ = false := by
  obtain ⟨_, cur, hg, hc⟩ := h
  simp [World.frozen?, hg]
theorem Own.of_block {w w' : World} {e : TypeId} {g : Nat} {zs : List Nat} (h : Own w e g zs) (hb : w'.heap[g]? = w.heap[g]?) : Own w' e g zs := by
  obtain ⟨hz, cur, hg, hc⟩ := h; exact ⟨hz, cur, hb.trans hg, hc⟩
theorem Own.grown {w w' : World} {row : Option Nat} {e : TypeId} {g : Nat} {zs : List Nat} (h : Own w e g zs) (hg : w.grownBy w' row) (hne : some g ≠ row) : Own w' e g zs :=
  h.of_block (hg.block g h.lt hne)
theorem Own.take {w : World} {e : TypeId} {g : Nat} {zs : List Nat} (h : Own w e g zs) (n : Nat) : Own w e g (zs.take n) := by
  obtain ⟨hz, cur, hg, hc⟩ := h; refine ⟨fun z hz' => hz z (List.mem_of_mem_take hz'), cur, hg, fun i hi => ?_⟩; simp only [List.length_take] at hi; rw [hc i (by omega)]
  simp [List.getD, show i < n by omega]
theorem Own.sl {w : World} {e : TypeId} {g : Nat} {zs : List Nat} (h : Own w e g zs) (len : Nat) (hl : zs.length = len) : SlB w (some ⟨g, 0, none⟩) len zs :=
  ⟨hl, h.1, fun _ => ⟨g, 0, rfl, fun i hi => by rw [Nat.zero_add]; exact h.cell i (by omega)⟩⟩
/-- a cut of an owned row -/
theorem Own.slAt {w : World} {e : TypeId} {g : Nat} {zs : List Nat} (h : Own w e g zs) (off len : Nat) (hl : off + len ≤ zs.length) : SlB w (some ⟨g, off, none⟩) len ((zs.drop off).take len) := by
  refine ⟨by simp; omega, fun z hz => h.1 z (List.mem_of_mem_drop (List.mem_of_mem_take hz)), fun _ => ⟨g, off, rfl, fun i hi => ?_⟩⟩; rw [h.cell (off + i) (by omega)]
  simp [List.getD, hi]
theorem Own.set {w : World} {e : TypeId} {g : Nat} {zs : List Nat} (h : Own w e g zs) (i v : Nat) (hv : v < 256) : Own (w.setCell ⟨g, i, none⟩ (.int .u8 (v : Int))) e g (zs.set i v) := by
  obtain ⟨hz, cur, hg, hc⟩ := h; refine ⟨fun z hz' => ?_, cur.setIfInBounds i (.int .u8 (v : Int)), heap_setCell_same w g i cur e _ hg, fun j hj => ?_⟩
  · rcases List.mem_or_eq_of_mem_set hz' with h1 | h1
    · exact hz z h1
    · omega
  · rw [List.length_set] at hj; have := hc j hj; rw [Array.getElem?_setIfInBounds]
    by_cases e1 : i = j
    · subst e1; have hs : i < cur.size := (Array.getElem?_eq_some_iff.1 this).1
      simp [hs, List.getD, hj]
    · simp [e1, this, List.getD]
theorem grownBy_setCell {w0 w : World} {g i : Nat} {u : Value} (h : w0.grownBy w (some g)) : w0.grownBy (w.setCell ⟨g, i, none⟩ u) (some g) :=
  ⟨h.os, h.tape, h.output, by simpa [World.setCell] using h.size, fun k hk hne => (heap_setCell_other w ⟨g, i, none⟩ k u (fun e1 => hne (by simp [e1]))).trans (h.block k hk hne)⟩
theorem grownBy_refl (w : World) (row : Option Nat) : w.grownBy w row := ⟨rfl, rfl, rfl, Nat.le_refl _, fun _ _ _ => rfl⟩
theorem grownBy_weak {w w' : World} {row : Option Nat} (h : w.grownBy w' none) : w.grownBy w' row := ⟨h.os, h.tape, h.output, h.size, fun k hk _ => h.block k hk (by simp)⟩
theorem grownBy_trans {a b c : World} {row : Option Nat} (h : a.grownBy b row) (k : b.grownBy c row) : a.grownBy c row :=
  ⟨k.os.trans h.os, k.tape.trans h.tape, k.output.trans h.output, Nat.le_trans h.size k.size, fun j hj hne => (k.block j (Nat.lt_of_lt_of_le hj h.size) hne).trans (h.block j hj hne)⟩
/-- what is written is new: nothing old has turned -/
theorem grownBy_new {a b c : World} {g : Nat} (h : a.grownBy b none) (k : b.grownBy c (some g)) (hg : a.heap.size ≤ g) : a.grownBy c none :=
  ⟨k.os.trans h.os, k.tape.trans h.tape, k.output.trans h.output, Nat.le_trans h.size k.size, fun j hj hne =>
    (k.block j (Nat.lt_of_lt_of_le hj h.size) (by simp only [ne_eq, Option.some.injEq]; omega)).trans (h.block j hj hne)⟩
theorem grownBy_drew {w w' : World} {row : Option Nat} (h : w.grownBy w' row) : w.grownBy w'.drew row := ⟨h.os, h.tape, h.output, h.size, h.block⟩
theorem grownBy_alloc {w w' : World} {row : Option Nat} (h : w.grownBy w' row) (o : Obj) : w.grownBy (w'.alloc o) row := grownBy_trans h (World.grownBy_alloc w' o row)
theorem below_of_grown {w w' : World} (h : w.grownBy w' none) : Below w.heap.size w w' := ⟨h.os, h.tape, h.output, h.size, fun k hk => h.block k hk (by simp)⟩
theorem SlB.grown {w w' : World} {row : Option Nat} {oa : Option Addr} {len : Nat} {zs : List Nat} (h : SlB w oa len zs) (hg : w.grownBy w' row) (hne : ∀ b off, oa = some ⟨b, off, none⟩ → some b ≠ row) : SlB w' oa len zs := by
  obtain ⟨h1, h2, h3⟩ := h; refine ⟨h1, h2, fun hn => ?_⟩; obtain ⟨b, off, rfl, hc⟩ := h3 hn; exact ⟨b, off, rfl, fun i hi => (World.cell?_of_block (w := w) (a := ⟨b, off + i, none⟩) (hg.block b (cell_block_lt (hc i hi)) (hne b off rfl))).trans (hc i hi)⟩
theorem SlB.grown0 {w w' : World} {oa : Option Addr} {len : Nat} {zs : List Nat} (h : SlB w oa len zs) (hg : w.grownBy w' none) : SlB w' oa len zs := h.grown hg (by simp)
/-- a row that a make has laid -/
theorem own_made {w' : World} {base e : Nat} {g n cap : Nat} {zs : List Nat} (h : w'.ownsRow base e 1 (.slice (some ⟨g, 0, none⟩) n cap) n (zs.map bv)) (hz : ∀ z ∈ zs, z < 256) : Own w' e g zs := by
  rcases h.2 with ⟨h', _⟩ | ⟨g', cap', cur, h', _, hg, _, _, _, htake⟩
  · simp at h'
  · simp only [Value.slice.injEq, Option.some.injEq, Addr.mk.injEq, and_true, true_and] at h'; obtain ⟨rfl, rfl⟩ := h'; refine ⟨hz, cur, hg, fun i hi => ?_⟩
    have hl : zs.length = n := by simpa using h.1
    have h2 : (cur.toList.take (n * 1))[i]? = (zs.map bv)[i]? := by rw [htake]
    rw [List.getElem?_take, if_pos (by omega)] at h2; rw [← Array.getElem?_toList, h2]
    simp [List.getD, hi, bv]
theorem Own.setOther {w : World} {e : TypeId} {g : Nat} {zs : List Nat} (h : Own w e g zs) {a : Addr} {u : Value} (hne : g ≠ a.block) : Own (w.setCell a u) e g zs :=
  h.of_block (heap_setCell_other w a g u hne)
theorem grownBy_setNew {w0 w : World} {a : Addr} {u : Value} (h : w0.grownBy w none) (ha : w0.heap.size ≤ a.block) : w0.grownBy (w.setCell a u) none :=
  ⟨h.os, h.tape, h.output, by simpa [World.setCell] using h.size, fun k hk hne => (heap_setCell_other w a k u (by omega)).trans (h.block k hk hne)⟩
/-- behind a call that turned nothing old: every old cell and mark reads as before (two rules for the walk) -/
theorem bcell {W w1 : World} (hb : W.grownBy w1 none) : (∀ b o, b < W.heap.size → w1.cell? ⟨b, o, none⟩ = W.cell? ⟨b, o, none⟩) ∧ (∀ b o, b < W.heap.size → w1.frozen? ⟨b, o, none⟩ = W.frozen? ⟨b, o, none⟩) :=
  ⟨fun b o h => (below_of_grown hb).cell (p := ⟨b, o, none⟩) h, fun b o h => (below_of_grown hb).frozen (p := ⟨b, o, none⟩) h⟩
/-- the arguments are held against each other ahead of all else: where they differ it fails at once -/
theorem calls_args {P : Program} {f : FuncId} {args args' : Array Value} {w : World} {Q : Ending → World → Prop} (h : args' = args) (k : Calls P f args w Q) : Calls P f args' w Q := by
  rw [h]; exact k
theorem slb_cut {w : World} {b off : Nat} {len : Nat} {zs : List Nat} (h : SlB w (some ⟨b, off, none⟩) len zs) (i n : Nat) (hi : i + n ≤ len) : SlB w (some ⟨b, off + i, none⟩) n ((zs.drop i).take n) := by
  obtain ⟨h1, h2, h3⟩ := h; refine ⟨by simp; omega, fun z hz => h2 z (List.mem_of_mem_drop (List.mem_of_mem_take hz)), fun hn => ?_⟩; obtain ⟨b', off', he, hc⟩ := h3 (by omega); simp only [Option.some.injEq, Addr.mk.injEq, and_true] at he; obtain ⟨rfl, rfl⟩ := he; refine ⟨b, off + i, rfl, fun j hj => ?_⟩; have := hc (i + j) (by omega); rw [← Nat.add_assoc] at this; rw [this]
  simp [List.getD, hj]
theorem slb_cutIf {w : World} {b off : Nat} {len : Nat} {zs : List Nat} (h : SlB w (some ⟨b, off, none⟩) len zs) (i n cap : Nat) (hi : i + n ≤ len) (hc : len ≤ cap) : SlB w (if cap = i then some ⟨b, off, none⟩ else some ⟨b, off + i, none⟩) n ((zs.drop i).take n) := by
  by_cases hci : cap = i
  · rw [if_pos hci]
    obtain rfl : n = 0 := by omega
    exact ⟨by simp, by simp, fun h => absurd rfl h⟩
  · rw [if_neg hci]; exact slb_cut h i n hi
theorem drop_take_all (zs : List Nat) (i n : Nat) (h : i + n = zs.length) : (zs.drop i).take n = zs.drop i := List.take_of_length_le (by simp; omega)
theorem SlB.src {w : World} {oa : Option Addr} {m : Nat} {zs : List Nat} (h : SlB w oa m zs) (hm : 0 < m) : ∃ ad, oa = some ad ∧ ∀ j u, (zs.map bv)[j]? = some u → w.cell? (ad.add j) = some u := by
  obtain ⟨h1, h2, h3⟩ := h; obtain ⟨b, off, rfl, hc⟩ := h3 (by omega); refine ⟨_, rfl, fun j v hj => ?_⟩
  have hjl : j < zs.length := by
    have := (List.getElem?_eq_some_iff.1 hj).1
    simpa using this
  have e1 : (⟨b, off, none⟩ : Addr).add j = ⟨b, off + j, none⟩ := by
    by_cases h0' : j = 0 <;> simp [Addr.add, h0']
  rw [e1, hc j (by omega), ← hj]
  simp [List.getD, hjl, bv]
theorem bytes_one (zs : List Nat) : ∀ v ∈ zs.map bv, v.oneCell' = true := by
  intro v hv; obtain ⟨z, _, rfl⟩ := List.mem_map.1 hv; rfl

/-- the facts on the element type that an append of bytes asks -/
structure ByteT (P : Program) (t e : TypeId) (i : TypeInfo) : Prop where
  und : P.underlying t = some (.slice e)
  info : P.info? e = some i
  zero : i.zero = some (.int .u8 0)
  size : i.size = 1
  bytes : i.bytes = 1

theorem run_append_b {P : Program} {w : World} {t ty e : TypeId} {i : TypeInfo} (T : ByteT P t e i) {base g n cap : Nat} {xs : List Nat} (hown : w.ownsRow base e 1 (.slice (some ⟨g, 0, none⟩) n cap) n (xs.map bv))
    {oa : Option Addr} {m c : Nat} {zs : List Nat} (hsrc : SlB w oa m zs) (hb : n + m ≤ 1099511627776) (hbase : base ≤ w.heap.size) :
    ∃ g' cap' w', (Builtin.append_ #[t, t] ty #[.slice (some ⟨g, 0, none⟩) n cap, .slice oa m c]).run P w = .ok (.slice (some ⟨g', 0, none⟩) (n + m) cap') w' ∧
      w'.ownsRow base e 1 (.slice (some ⟨g', 0, none⟩) (n + m) cap') (n + m) ((xs ++ zs).map bv) ∧ w.grownBy w' (some g) ∧ (g' = g ∨ g' = w.heap.size) ∧ w.heap.size ≤ w'.heap.size := by
  by_cases hm : m = 0
  · subst hm; obtain rfl : zs = [] := List.eq_nil_of_length_eq_zero hsrc.1; refine ⟨g, cap, w, ?_, by simpa using hown, grownBy_refl _ _, .inl rfl, Nat.le_refl _⟩
    rcases hown.2 with ⟨h', _⟩ | ⟨g', cap', cur, h', _, hg, hnc, _⟩
    · simp at h'
    · simp only [Value.slice.injEq, Option.some.injEq, Addr.mk.injEq, and_true, true_and] at h'; obtain ⟨rfl, rfl⟩ := h'
      cases oa with
      | none => simp [Builtin.append_, run_underlying T.und, sizeOf, typeInfo, T.info, Builtin.lenOf, Builtin.firstCells, hnc, storeCells]
      | some a =>
        have hf := run_firstCells_some (P := P) w i.size 0 a 0 c [] (by simp) (by simp)
        simp [Builtin.append_, run_underlying T.und, sizeOf, typeInfo, T.info, Builtin.lenOf, hf, hnc, storeCells]
  · obtain ⟨ad, rfl, hnews⟩ := hsrc.src (by omega); obtain ⟨g', cap', w', hr, ho, hg, hat, hlt⟩ := run_append_lies (P := P) w t ty base e i (.int .u8 0) 1 1 T.und T.info T.zero T.size T.bytes rfl (by decide) (.slice (some ⟨g, 0, none⟩) n cap) n (xs.map bv) hown ad m c (zs.map bv) (by simpa using hsrc.1) hnews (bytes_one zs) (by omega) (by unfold maxLen; omega) (by omega) hbase w.heap.size rfl; refine ⟨g', cap', w', hr, by simpa using ho, hg, ?_, hg.size⟩
    rcases hat with h | h
    · exact .inl (by simpa [Value.ownBlock] using h.symm)
    · exact .inr h

theorem wpList_append_b {P : Program} {w : World} {ops : Array Oper} {rest : List Oper} {o : Oper} {a : Act} {Q : Exit → Act → World → Prop} (hgd : o.guard = none) (s x : Operand) {t e : TypeId} {i : TypeInfo} (T : ByteT P t e i)
    (ho : o.op = .call { callee := .builtin .append, args := #[s, x], argTypes := #[t, t] }) {base g n cap : Nat} {xs : List Nat} (hs : a.eval s = .slice (some ⟨g, 0, none⟩) n cap) (hown : w.ownsRow base e 1 (.slice (some ⟨g, 0, none⟩) n cap) n (xs.map bv))
    {oa : Option Addr} {m c : Nat} {zs : List Nat} (hx : a.eval x = .slice oa m c) (hsrc : SlB w oa m zs) (hb : n + m ≤ 1099511627776) (hbase : base ≤ w.heap.size)
    (h : ∀ g' cap' w', Hid (w'.ownsRow base e 1 (.slice (some ⟨g', 0, none⟩) (n + m) cap') (n + m) ((xs ++ zs).map bv)) → Hid (w.grownBy w' (some g)) → Hid (g' = g ∨ g' = w.heap.size) → w.heap.size ≤ w'.heap.size → wpList P ops Q rest (a.put o.dst (.slice (some ⟨g', 0, none⟩) (n + m) cap')) w') :
    wpList P ops Q (o :: rest) a w := by
  refine wpList_plain hgd fun K hK => ?_
  obtain ⟨g', cap', w', hrun, h1, h2, h3, h4⟩ := run_append_b (ty := o.type) (c := c) T hown hsrc hb hbase
  unfold Oper.wp
  simp [execOp, ho, resolve, invoke, builtin, hs, hx, hrun, Result.andThen]
  exact hK _ _ (h g' cap' w' h1 h2 h3 h4)

theorem step_append_b {P : Program} {w : World} {ops : Array Oper} {o : Oper} {a : Act} {K : Act → World → Prop} {Q : Exit → Act → World → Prop} {E : Prop} (hgd : o.guard = none) (s x : Operand) {t e : TypeId} {i : TypeInfo} (T : ByteT P t e i)
    (ho : o.op = .call { callee := .builtin .append, args := #[s, x], argTypes := #[t, t] }) {base g n cap : Nat} {xs : List Nat} (hs : a.eval s = .slice (some ⟨g, 0, none⟩) n cap) (hown : w.ownsRow base e 1 (.slice (some ⟨g, 0, none⟩) n cap) n (xs.map bv))
    {oa : Option Addr} {m c : Nat} {zs : List Nat} (hx : a.eval x = .slice oa m c) (hsrc : SlB w oa m zs) (hb : n + m ≤ 1099511627776) (hbase : base ≤ w.heap.size)
    (h : ∀ g' cap' w', Hid (w'.ownsRow base e 1 (.slice (some ⟨g', 0, none⟩) (n + m) cap') (n + m) ((xs ++ zs).map bv)) → Hid (w.grownBy w' (some g)) → Hid (g' = g ∨ g' = w.heap.size) → w.heap.size ≤ w'.heap.size → K (a.put o.dst (.slice (some ⟨g', 0, none⟩) (n + m) cap')) w') :
    if Region.wanted o (yielded ops a.tmps) = true then Oper.wp P o a w K Q else E := by
  have hw : Region.wanted o (yielded ops a.tmps) = true := by simp [Region.wanted, hgd]
  rw [if_pos hw]; obtain ⟨g', cap', w', hrun, h1, h2, h3, h4⟩ := run_append_b (ty := o.type) (c := c) T hown hsrc hb hbase
  unfold Oper.wp
  simp [execOp, ho, resolve, invoke, builtin, hs, hx, hrun, Result.andThen]
  exact h g' cap' w' h1 h2 h3 h4

theorem ownsRow_heap {w w' : World} {base e size n : Nat} {v : Value} {xs : List Value} (h : w.ownsRow base e size v n xs) (hh : w'.heap = w.heap) : w'.ownsRow base e size v n xs := by
  unfold World.ownsRow at h ⊢
  rw [hh]; exact h
theorem ownsRow_base {w : World} {base base' e size n : Nat} {v : Value} {xs : List Value} (h : w.ownsRow base e size v n xs) (hb : base' ≤ base) : w.ownsRow base' e size v n xs := by
  refine ⟨h.1, ?_⟩
  rcases h.2 with h2 | ⟨g, cap, cur, h2, h3, h4⟩
  · exact .inl h2
  · exact .inr ⟨g, cap, cur, h2, Nat.le_trans hb h3, h4⟩
/-- an owned row as a source -/
theorem ownsRow_sl {w : World} {base e g n cap : Nat} {xs : List Nat} (h : w.ownsRow base e 1 (.slice (some ⟨g, 0, none⟩) n cap) n (xs.map bv)) (hz : ∀ z ∈ xs, z < 256) : SlB w (some ⟨g, 0, none⟩) n xs :=
  (own_made h hz).sl n (by simpa using h.1)
/-- a literal of bytes as a source -/
theorem lit_sl {w : World} {b e : Nat} {zs : List Nat} (h : w.heap[b]? = some (.cells (zs.map bv).toArray e (0, 0))) (hz : ∀ z ∈ zs, z < 256) : SlB w (some ⟨b, 0, none⟩) zs.length zs :=
  Own.sl (e := e) ⟨hz, _, h, fun i hi => by simp [hi, List.getD, bv]⟩ _ rfl
/-- make([]byte, n, c) -/
theorem wpList_make_cap {P : Program} {w : World} {ops : Array Oper} {rest : List Oper} {o : Oper} {a : Act} {Q : Exit → Act → World → Prop} (hg : o.guard = none) (l c : Operand) {t e : TypeId} {i : TypeInfo} (T : ByteT P t e i) (hop : o.op = Op.makeSlice t l c)
    {base n cp : Nat} {L C : Int} (hl : a.eval l = .int .i64 L) (hc : a.eval c = .int .i64 C) (hL : L = (n : Int)) (hC : C = (cp : Int)) (hn : n ≤ cp) (hm : cp ≤ 1099511627776) (hb : base ≤ w.heap.size)
    (hK : ∀ w', Hid (w'.ownsRow base e 1 (.slice (some ⟨w.heap.size, 0, none⟩) n cp) n ((List.replicate n 0).map bv)) → Hid (w.grownBy w' none) → wpList P ops Q rest (a.put o.dst (.slice (some ⟨w.heap.size, 0, none⟩) n cp)) w') :
    wpList P ops Q (o :: rest) a w := by
  refine wpList_plain hg fun K hK' => ?_
  subst hL; subst hC; have hr := run_make (P := P) w t e i (.int .u8 0) T.und T.info T.zero .i64 .i64 (n : Int) (cp : Int) (by omega) (by omega) (by rw [T.bytes]; omega) (by omega); rw [T.size] at hr; simp only [Int.toNat_natCast, Nat.mul_one] at hr
  have hz : (madeCells (Value.int .u8 0).cells cp) = Array.replicate cp (Value.int .u8 0) := by
    apply Array.toList_inj.1
    simp [Value.cells, toList_madeCells_one]
  unfold Oper.wp
  simp [execOp, hop, hl, hc, hr, Result.andThen]
  refine hK' _ _ (hK _ ?_ (World.grownBy_alloc _ _ _)); rw [hz]; refine ⟨by simp, .inr ⟨w.heap.size, cp, Array.replicate cp (Value.int .u8 0), rfl, hb, heap_alloc_new w _, hn, by unfold maxLen; omega, by simp, ?_⟩⟩
  simp [List.take_replicate, Nat.min_eq_left hn, bv]
theorem Tryz.infoByte : (Tryz.prog.info? 5).map (fun i => (i.zero, i.size, i.bytes)) = some (some (.int .u8 0), 1, 1) := by kernel_rfl

theorem grownBy_below {a w x : World} {B : Nat} (h : a.grownBy w none) (hb : Below B w x) (hB : a.heap.size ≤ B) : a.grownBy x none :=
  ⟨hb.os.trans h.os, hb.tape.trans h.tape, hb.output.trans h.output, Nat.le_trans h.size hb.size, fun k hk hne => (hb.block k (by omega)).trans (h.block k hk hne)⟩
/-- the same world, but for draws -/
def Same (w x : World) : Prop := x.heap = w.heap ∧ x.os = w.os ∧ x.tape = w.tape ∧ x.output = w.output
theorem grownBy_same {a w x : World} {row : Option Nat} (h : a.grownBy w row) (hs : Same w x) : a.grownBy x row :=
  ⟨hs.2.1.trans h.os, hs.2.2.1.trans h.tape, hs.2.2.2.trans h.output, by rw [hs.1]; exact h.size, fun k hk hne => by rw [hs.1]; exact h.block k hk hne⟩
theorem SlB.heap {w w' : World} {oa : Option Addr} {len : Nat} {zs : List Nat} (h : SlB w oa len zs) (hh : w'.heap = w.heap) : SlB w' oa len zs := by
  obtain ⟨h1, h2, h3⟩ := h; refine ⟨h1, h2, fun hn => ?_⟩; obtain ⟨b, off, rfl, hc⟩ := h3 hn; exact ⟨b, off, rfl, fun i hi => (World.cell?_of_block (w := w) (a := ⟨b, off + i, none⟩) (by rw [hh])).trans (hc i hi)⟩
theorem Own.heap {w w' : World} {e : TypeId} {g : Nat} {zs : List Nat} (h : Own w e g zs) (hh : w'.heap = w.heap) : Own w' e g zs := h.of_block (by rw [hh])
theorem grownBy_row {a b c : World} {row : Option Nat} (h : a.grownBy b none) (k : b.grownBy c row) (hr : ∀ g, row = some g → a.heap.size ≤ g) : a.grownBy c none := by
  cases row with
  | none => exact grownBy_trans h k
  | some g => exact grownBy_new h k (hr g rfl)

/-- a slice's length -/
def sliceLen : Value → Nat
  | .slice _ n _ => n
  | _ => 0
theorem keep_far {X w' : World} {gp s o : Nat} {v : Value} (hgr : X.grownBy w' (some gp)) (hs : s < X.heap.size) (hne : s ≠ gp) (h : X.cell? ⟨s, o, none⟩ = some v) : w'.cell? ⟨s, o, none⟩ = some v :=
  (hgr.cell_far ⟨s, o, none⟩ hs (by simpa using hne)).trans h
theorem heap_two (w : World) (A B : Obj) : ((w.alloc A).alloc B).heap[w.heap.size + 1]? = some B := by
  have := heap_alloc_new (w.alloc A) B
  simpa using this
theorem grown_next {a b b' c : World} {g : Nat} (k : b'.grownBy c (some g)) (h : a.grownBy b none) (hs : Same b b') (hg : a.heap.size ≤ g) : a.grownBy c none := grownBy_new (grownBy_same h hs) k hg
theorem ownsRow_le {w : World} {base e size g n cap : Nat} {xs : List Value} (h : w.ownsRow base e size (.slice (some ⟨g, 0, none⟩) n cap) n xs) : n ≤ cap := by
  rcases h.2 with ⟨h', _⟩ | ⟨g', cap', cur, h', _, _, hc, _⟩
  · simp at h'
  · simp only [Value.slice.injEq, Option.some.injEq, Addr.mk.injEq, and_true, true_and] at h'; obtain ⟨_, rfl⟩ := h'; exact hc
theorem byteT : ∃ i, ByteT Tryz.prog 37 5 i := by
  obtain ⟨i0, hi, hz0, hz1, hz2⟩ := info_parts Tryz.infoByte; exact ⟨i0, Tryz.underlying37, hi, hz0, hz1, hz2⟩
/-- four bytes of a number, the lowest first -/
def le4 (n : Nat) : List Nat := [n % 256, n / 256 % 256, n / 65536 % 256, n / 16777216 % 256]
theorem le4_len (n : Nat) : (le4 n).length = 4 := rfl
theorem le4_lt (n : Nat) : ∀ z ∈ le4 n, z < 256 := by
  intro z hz; simp [le4] at hz; omega
/-- the bytes behind k rounds of putNumber -/
def putN (zs : List Nat) (off n : Nat) : Nat → List Nat
  | 0 => zs
  | k + 1 => (putN zs off n k).set (off + k) ((le4 n).getD k 0)
theorem putN_len (zs : List Nat) (off n k : Nat) : (putN zs off n k).length = zs.length := by
  induction k with
  | zero => rfl
  | succ k ih => simp [putN, ih]
theorem putN_four (a b c : List Nat) (n : Nat) (hb : b.length = 4) : putN (a ++ b ++ c) a.length n 4 = a ++ le4 n ++ c := by
  obtain ⟨x, y, z, t, rfl⟩ : ∃ x y z t, b = [x, y, z, t] := by
    match b, hb with
    | [x, y, z, t], _ => exact ⟨x, y, z, t, rfl⟩
  simp [putN, le4]
theorem putN_lt (zs : List Nat) (off n k : Nat) (h : ∀ z ∈ zs, z < 256) : ∀ z ∈ putN zs off n k, z < 256 := by
  induction k with
  | zero => exact h
  | succ k ih =>
    intro z hz
    rcases List.mem_or_eq_of_mem_set hz with h1 | h1
    · exact ih z h1
    · subst h1
      by_cases hk : k < (le4 n).length
      · exact le4_lt n _ (by simp [List.getD, hk])
      · simp [List.getD, hk]
end Go.Proofs.YtjnegjgpkboocaaGreatDoor
/-
  The sum of chapter 3 as plain mathematics on Nat: bit by bit, by halves of a byte, over a list. No Go in it.
-/
namespace Go.Proofs.YtjnegjgpkboocaaGreatDoor.Crc
def P : Nat := 0x82F63B78
def step (x : Nat) : Nat := (x / 2) ^^^ (if x % 2 = 1 then P else 0)
theorem step_bit (x i : Nat) : (step x).testBit i = (x.testBit (i + 1) ^^ (x.testBit 0 && P.testBit i)) := by
  unfold step
  rw [Nat.testBit_xor, Nat.testBit_succ]; have h0 : x.testBit 0 = decide (x % 2 = 1) := Nat.testBit_zero x
  by_cases h : x % 2 = 1 <;> simp [h, h0]
theorem step_xor (a b : Nat) : step (a ^^^ b) = step a ^^^ step b := by
  apply Nat.eq_of_testBit_eq
  intro i; rw [Nat.testBit_xor, step_bit, step_bit, step_bit, Nat.testBit_xor, Nat.testBit_xor]
  cases a.testBit (i+1) <;> cases b.testBit (i+1) <;> cases a.testBit 0 <;> cases b.testBit 0 <;> cases P.testBit i <;> rfl
theorem step_even (q : Nat) : step (2 * q) = q := by
  unfold step
  rw [if_neg (by omega), Nat.mul_div_cancel_left q (by omega), Nat.xor_zero]
theorem step_lt (x : Nat) (h : x < 4294967296) : step x < 4294967296 := by
  unfold step
  exact Nat.xor_lt_two_pow (n := 32) (by omega) (by split <;> decide)
def step4 (x : Nat) : Nat := step (step (step (step x)))
theorem step4_lt (x : Nat) (h : x < 4294967296) : step4 x < 4294967296 := step_lt _ (step_lt _ (step_lt _ (step_lt _ h)))
theorem step4_xor (a b : Nat) : step4 (a ^^^ b) = step4 a ^^^ step4 b := by
  unfold step4; rw [step_xor, step_xor, step_xor, step_xor]
theorem split16 (x : Nat) : x = (16 * (x / 16)) ^^^ (x % 16) := by
  apply Nat.eq_of_testBit_eq
  intro i
  have e1 : (16 * (x / 16)) = (x / 2 ^ 4) * 2 ^ 4 := by omega
  have e2 : x % 16 = x % 2 ^ 4 := by omega
  rw [Nat.testBit_xor, e1, e2, Nat.testBit_mod_two_pow, Nat.testBit_mul_two_pow, Nat.testBit_div_two_pow]
  by_cases h : i < 4
  · simp [h, show ¬ 4 ≤ i by omega]
  · simp [h, show 4 ≤ i by omega, show i - 4 + 4 = i by omega]
theorem step4_split (x : Nat) : step4 x = (x / 16) ^^^ step4 (x % 16) := by
  have h := split16 x
  have e : step4 (16 * (x / 16)) = x / 16 := by
    have e1 : 16 * (x / 16) = 2 * (2 * (2 * (2 * (x / 16)))) := by omega
    unfold step4
    rw [e1, step_even, step_even, step_even, step_even]
  have e2 : step4 x = step4 (16 * (x/16)) ^^^ step4 (x % 16) := by
    rw [← step4_xor, ← h]
  rw [e2, e]
def T : List Nat := [0, 274646895, 549293790, 820201905, 1098587580, 1361435347, 1640403810, 1905808397, 2197175160, 2460548119, 2722870694, 2987750089, 3280807620, 3553878443, 3811616794, 4084100981]
theorem T_step (r : Nat) (h : r < 16) : T[r]? = some (step4 r) := by
  revert r; decide
/-- one byte -/
def crcB (s c : Nat) : Nat := step4 (step4 (s ^^^ c))
/-- many bytes -/
def crcL (s : Nat) (zs : List Nat) : Nat := zs.foldl crcB s
theorem crcB_lt (s c : Nat) (hs : s < 4294967296) (hc : c < 256) : crcB s c < 4294967296 :=
  step4_lt _ (step4_lt _ (Nat.xor_lt_two_pow (n := 32) hs (by omega)))
theorem crcL_nil (s : Nat) : crcL s [] = s := rfl
theorem crcL_snoc (s : Nat) (zs : List Nat) (c : Nat) : crcL s (zs ++ [c]) = crcB (crcL s zs) c := by
  unfold crcL; rw [List.foldl_append]; rfl
theorem crcL_append (s : Nat) (a b : List Nat) : crcL s (a ++ b) = crcL (crcL s a) b := by
  unfold crcL; rw [List.foldl_append]
theorem crcL_lt (zs : List Nat) (h : ∀ z ∈ zs, z < 256) : ∀ s, s < 4294967296 → crcL s zs < 4294967296 := by
  induction zs with
  | nil => intro s hs; exact hs
  | cons z r ih =>
    intro s hs; exact ih (fun x hx => h x (List.mem_cons_of_mem _ hx)) _ (crcB_lt s z hs (h z List.mem_cons_self))
theorem take_snoc (zs : List Nat) (k : Nat) (h : k < zs.length) : zs.take (k + 1) = zs.take k ++ [zs.getD k 0] := by
  rw [List.take_succ_eq_append_getElem h]
  simp [List.getD, h]
theorem getD_mem (zs : List Nat) (k : Nat) (h : k < zs.length) : zs.getD k 0 ∈ zs := by
  simp [List.getD, h]
theorem lt_take (zs : List Nat) (k : Nat) (h : ∀ z ∈ zs, z < 256) : ∀ z ∈ zs.take k, z < 256 := fun z hz => h z (List.mem_of_mem_take hz)
/-- the whole sum -/
def crc (zs : List Nat) : Nat := 4294967295 - crcL 4294967295 zs
end Go.Proofs.YtjnegjgpkboocaaGreatDoor.Crc
/-
  A number out of bytes: the program's takeNumber, walked.
-/
namespace Go.Proofs.YtjnegjgpkboocaaGreatDoor
open Go.RowKit

/-- the number of bytes, the lowest first -/
def leVal : List Nat → Nat
  | [] => 0
  | z :: zs => z + 256 * leVal zs
theorem leVal_snoc (l : List Nat) (c : Nat) : leVal (l ++ [c]) = leVal l + 256 ^ l.length * c := by
  induction l with
  | nil => simp [leVal]
  | cons z l ih =>
    simp only [List.cons_append, leVal, ih, List.length_cons, Nat.pow_succ]; rw [Nat.mul_add, ← Nat.mul_assoc, Nat.mul_comm 256 (256 ^ l.length)]
    omega
theorem leVal_lt (l : List Nat) (h : ∀ z ∈ l, z < 256) : leVal l < 256 ^ l.length := by
  induction l with
  | nil => simp [leVal]
  | cons z l ih =>
    have := ih (fun z hz => h z (by simp [hz])); have := h z (by simp); simp only [leVal, List.length_cons, Nat.pow_succ]
    omega
theorem le4_val (n : Nat) (h : n < 4294967296) : leVal (le4 n) = n := by simp [leVal, le4]; omega
theorem le4_of_val (l : List Nat) (h : ∀ z ∈ l, z < 256) (h4 : l.length = 4) : le4 (leVal l) = l := by
  match l, h4 with
  | [a, b, c, d], _ =>
    have ha := h a (by simp); have hb := h b (by simp); have hc := h c (by simp); have hd := h d (by simp); simp only [leVal, le4]
    congr 1
    · omega
    congr 1
    · omega
    congr 1
    · omega
    congr 1
    · omega
theorem or_add (x z i : Nat) (h : x < 2 ^ i) : x ||| (z * 2 ^ i) = x + z * 2 ^ i := by
  have := Nat.shiftLeft_add_eq_or_of_lt h z; rw [Nat.shiftLeft_eq] at this; rw [Nat.or_comm, ← this, Nat.add_comm]

set_option maxHeartbeats 1000000 in
theorem takeNumber_any (oa : Option Addr) (len cap : Nat) (zs : List Nat) (w : World) (hsl : SlB w oa len zs) (h4 : 4 ≤ len) (hm : len ≤ 1073741824) :
    Calls Tryz.prog 76 #[.slice oa len cap] w fun e w' => e = .returned (.int .u32 ((leVal (zs.take 4) : Nat) : Int)) ∧ w' = w := by
  obtain ⟨hl, hb, hc⟩ := hsl; obtain ⟨b, off, rfl, hcc⟩ := hc (by omega); have HB : Hid (∀ z ∈ zs, z < 256) := hb; have HC : Hid (∀ i, i < len → _) := hcc; clear hb hcc hc
  go_enter Tryz.func76, Tryz.ntmps76
  go_wp2
  go_loop [3, 5] (fun v i => ∃ k : Nat, k ≤ 4 ∧ i = .int .i64 k ∧ v = .int .u32 ((leVal (zs.take k) : Nat) : Int)) (fun _ i => 4 - (intOf i).toNat)
  case atStart => exact ⟨0, Nat.zero_le _, rfl, rfl⟩
  case round =>
    obtain ⟨k, hk, rfl, rfl⟩ := hrel
    by_cases hlt : k < 4
    · have hck := HC.out k (by omega); obtain ⟨c, hce⟩ : ∃ c, c = zs.getD k 0 := ⟨_, rfl⟩
      have hc256 : c < 256 := by rw [hce]; exact HB.out _ (Crc.getD_mem _ _ (by omega))
      rw [← hce] at hck; obtain ⟨x, hxe⟩ : ∃ x, x = leVal (zs.take k) := ⟨_, rfl⟩
      have hx : x < 256 ^ k := by
        have := leVal_lt (zs.take k) (fun z hz => HB.out z (List.mem_of_mem_take hz)); rw [← hxe] at this
        simpa [show min k zs.length = k by omega] using this
      have HN : Hid (leVal (zs.take (k + 1)) = x + 256 ^ k * c) := by
        show _ = _
        rw [Crc.take_snoc zs k (by omega), leVal_snoc, ← hxe, ← hce]
        simp [show min k zs.length = k by omega]
      rw [← hxe]; clear hce hxe
      rcases (show k = 0 ∨ k = 1 ∨ k = 2 ∨ k = 3 by omega) with rfl | rfl | rfl | rfl
      · have e1 : bits .or .u32 (x : Int) (c : Int) = ((x + 256 ^ 0 * c : Nat) : Int) := by
          have := or_add x c 0 (by simpa using hx); rw [u32_or_nat x c (by omega) (by omega)]
          simp at this ⊢
          rw [this]
          simp
        simp only [Nat.add_zero] at hck
        have e0 : ((c : Int) % 4294967296) = c := by omega
        go_wp2
        go_round
        case rel => exact ⟨1, by omega, by go_num, by rw [HN.out]; first | exact congrArg _ e1 | rfl | (simp; done)⟩
        case measure => simp [intOf]
      · have e1 : bits .or .u32 (x : Int) ((c : Int) * 256) = ((x + 256 ^ 1 * c : Nat) : Int) := by
          have := or_add x c 8 (by simpa using hx); rw [show (c : Int) * 256 = ((c * 256 : Nat) : Int) by omega, u32_or_nat x (c * 256) (by omega) (by omega)]; rw [show c * 256 = c * 2 ^ 8 by rfl, this]; simp; omega
        have e0 : ((c : Int) % 4294967296) = c := by omega
        have e2 : ((c : Int) * 256) % 4294967296 = (c : Int) * 256 := by omega
        go_wp2
        go_round
        case rel => exact ⟨2, by omega, by go_num, by rw [HN.out]; first | exact congrArg _ e1 | rfl | (simp; done)⟩
        case measure => simp [intOf]
      · have e1 : bits .or .u32 (x : Int) ((c : Int) * 65536) = ((x + 256 ^ 2 * c : Nat) : Int) := by
          have := or_add x c 16 (by simpa using hx); rw [show (c : Int) * 65536 = ((c * 65536 : Nat) : Int) by omega, u32_or_nat x (c * 65536) (by omega) (by omega)]; rw [show c * 65536 = c * 2 ^ 16 by rfl, this]; simp; omega
        have e0 : ((c : Int) % 4294967296) = c := by omega
        have e2 : ((c : Int) * 65536) % 4294967296 = (c : Int) * 65536 := by omega
        go_wp2
        go_round
        case rel => exact ⟨3, by omega, by go_num, by rw [HN.out]; first | exact congrArg _ e1 | rfl | (simp; done)⟩
        case measure => simp [intOf]
      · have e1 : bits .or .u32 (x : Int) ((c : Int) * 16777216) = ((x + 256 ^ 3 * c : Nat) : Int) := by
          have := or_add x c 24 (by simpa using hx); rw [show (c : Int) * 16777216 = ((c * 16777216 : Nat) : Int) by omega, u32_or_nat x (c * 16777216) (by omega) (by omega)]; rw [show c * 16777216 = c * 2 ^ 24 by rfl, this]; simp; omega
        have e0 : ((c : Int) % 4294967296) = c := by omega
        have e2 : ((c : Int) * 16777216) % 4294967296 = (c : Int) * 16777216 := by omega
        go_wp2
        go_round
        case rel => exact ⟨4, by omega, by go_num, by rw [HN.out]; first | exact congrArg _ e1 | rfl | (simp; done)⟩
        case measure => simp [intOf]
    · obtain rfl : k = 4 := by omega
      go_wp2; go_ret; exact ⟨rfl, rfl⟩
theorem val4_lt (l : List Nat) (h : ∀ z ∈ l, z < 256) (hl : l.length = 4) : leVal l < 4294967296 := by
  have := leVal_lt l h; rw [hl] at this; exact this
theorem wrapU64 (n : Int) : IntKind.u64.wrap n = n % 18446744073709551616 := by simp [IntKind.wrap, IntKind.bits, IntKind.signed]
theorem leVal_append (a b : List Nat) : leVal (a ++ b) = leVal a + 256 ^ a.length * leVal b := by
  induction a with
  | nil => simp [leVal]
  | cons x a ih => simp only [List.cons_append, leVal, ih, List.length_cons, Nat.pow_succ]; rw [Nat.mul_add, ← Nat.mul_assoc]; have : 256 * 256 ^ a.length = 256 ^ a.length * 256 := Nat.mul_comm _ _; rw [this]; omega
set_option maxRecDepth 4000 in
set_option maxHeartbeats 800000 in
theorem takeLong_n (b off len cap : Nat) (zs : List Nat) (w : World) (hsl : SlB w (some ⟨b, off, none⟩) len zs) (h8 : 8 ≤ len) (hc : len ≤ cap) (hm : cap ≤ maxLen) (hm2 : len ≤ 1048576) :
    Calls Tryz.prog 79 #[.slice (some ⟨b, off, none⟩) len cap] w fun e w' => e = .returned (.int .u64 ((leVal (zs.take 8) : Nat) : Int)) ∧ ∃ m, w' = w.drewN m := by
  unfold maxLen at hm
  have hl : zs.length = len := hsl.1; obtain ⟨x, hx⟩ : ∃ x, leVal (zs.take 4) = x := ⟨_, rfl⟩; obtain ⟨y, hy⟩ : ∃ y, leVal ((zs.drop 4).take 4) = y := ⟨_, rfl⟩
  have x4 : x < 4294967296 := by rw [← hx]; exact val4_lt _ (fun z hz => hsl.2.1 z (List.mem_of_mem_take hz)) (by simp; omega)
  have y4 : y < 4294967296 := by rw [← hy]; exact val4_lt _ (fun z hz => hsl.2.1 z (List.mem_of_mem_drop (List.mem_of_mem_take hz))) (by simp; omega)
  have HV : Hid (leVal (zs.take 8) = x + 4294967296 * y) := by
    show _ = _
    have e := leVal_append (zs.take 4) ((zs.drop 4).take 4); rw [hx, hy, List.length_take, Nat.min_eq_left (by omega)] at e; rw [show (8 : Nat) = 4 + 4 from rfl, List.take_add, e]
  have H1 : Hid (∀ w', w'.heap = w.heap → Calls Tryz.prog 76 #[.slice (some ⟨b, off, none⟩) len cap] w' fun e w'' => e = .returned (.int .u32 (x : Int)) ∧ w'' = w') := by
    intro w' hw'; have := takeNumber_any (some ⟨b, off, none⟩) len cap zs w' (hsl.heap hw') (by omega) (by omega); rw [hx] at this; exact this
  have H2 : Hid (∀ w', w'.heap = w.heap → Calls Tryz.prog 76 #[.slice (some ⟨b, off + 4, none⟩) (len - 4) (cap - 4)] w' fun e w'' => e = .returned (.int .u32 (y : Int)) ∧ w'' = w') := by
    intro w' hw'; have h8' := slb_cut hsl 4 (len - 4) (by omega); have h9 := takeNumber_any (some ⟨b, off + 4, none⟩) (len - 4) (cap - 4) _ w' (h8'.heap hw') (by omega) (by omega); rw [List.take_take, Nat.min_eq_left (by omega), hy] at h9; exact h9
  have z1 : ¬ cap = 4 := by omega
  have z2 : (len : Int) ≤ (cap : Int) := by omega
  have z4 : (4 : Int) ≤ (len : Int) := by omega
  have z3 : (4 : Int) ≤ (cap : Int) := by omega
  have e0 : IntKind.u64.wrap (x : Int) = x := by rw [wrapU64]; omega
  have e1 : IntKind.u64.wrap (y : Int) = y := by rw [wrapU64]; omega
  have e2 : IntKind.u64.wrap ((y : Int) * 4294967296) = (y : Int) * 4294967296 := by rw [wrapU64]; omega
  have e3 : bits .or .u64 (x : Int) ((y : Int) * 4294967296) = ((x + 4294967296 * y : Nat) : Int) := by
    have := or_add x y 32 (by omega); rw [show (y : Int) * 4294967296 = ((y * 4294967296 : Nat) : Int) by omega, u64_or_nat x (y * 4294967296) (by omega) (by omega)]; rw [show y * 4294967296 = y * 2 ^ 32 by rfl, this]; simp; omega
  clear hsl hx hy
  go_enter Tryz.func79, Tryz.ntmps79
  go_wp2
  go_quiet (first | (go_at_call 76; first | (refine calls_args (args := #[.slice (some ⟨b, off, none⟩) len cap]) (by rfl) ?_; refine Calls.quiet_of_same (H1.out _ rfl)) | (refine calls_args (args := #[.slice (some ⟨b, off + 4, none⟩) (len - 4) (cap - 4)]) (by rfl) ?_; refine Calls.quiet_of_same (H2.out _ rfl))) | fail)
  go_wp2; go_ret
  have HVI : ((leVal (zs.take 8) : Nat) : Int) = (x : Int) + 4294967296 * (y : Int) := by rw [HV.out]; omega
  exact ⟨by rw [HVI]; rfl, _, rfl⟩
end Go.Proofs.YtjnegjgpkboocaaGreatDoor
/-
  A slice of bytes that came in, opened once: SlB. Nothing here reaches the dump.
-/
namespace Go.Proofs.YtjnegjgpkboocaaGreatDoor
open Go.ChangeShapes Go.WideShapes Go.ChangeAt Go.RowKit

theorem u8_bounds {n : Int} (h : (Lit.int .u8 n).wf = true) : 0 ≤ n ∧ n < 256 := by
  have := bounds_u8 h
  omega

theorem slb_open {H : Type} {enc : TypeId × Value → H} {P : Program} {W : World} {t e : TypeId} {a : Option Addr} {len cap : Nat} {d : DataW H} {p : List MemPlace}
    (hu : P.underlying t = some (.slice e)) (he : P.underlying e = some (.int .u8)) (hc : P.cellsOf e = 1)
    (h : DataW.Trod enc P W 0 (fun _ => true) true t (.slice a len cap) d p) : ∃ zs, SlB W a len zs ∧ len ≤ maxLen := by
  obtain ⟨fuel, hf⟩ := h
  rcases open_ints hu he hc hf with ⟨hcs, _⟩ | ⟨x, l, c, zs, hcs, _, hl, hm, hz, _, hcell, hwz⟩
  · simp [Value.cells] at hcs
    obtain ⟨rfl, rfl, rfl⟩ := hcs; exact ⟨[], ⟨rfl, by simp, fun h => absurd rfl h⟩, Nat.zero_le _⟩
  · simp [Value.cells] at hcs
    obtain ⟨rfl, rfl, rfl⟩ := hcs
    have hz' : zs.length = cap := by simpa using hz
    refine ⟨(zs.take len).map Int.toNat, ⟨by simp; omega, ?_, fun hn => ?_⟩, by omega⟩
    · intro z hz1; obtain ⟨n, hn, rfl⟩ := List.mem_map.1 hz1; have := u8_bounds (hwz n (List.mem_of_mem_take hn))
      omega
    · obtain ⟨b, off, spot⟩ := x; have h0 := hcell 0 (by omega)
      have hspot : spot = none := by simpa [Addr.add] using World.cell?_spot h0
      subst hspot; refine ⟨b, off, rfl, fun i hi => ?_⟩; have hi' := hcell i (by omega); have hb := u8_bounds (hwz (zs.getD i 0) (by simp [List.getD, show i < zs.length by omega]))
      have e1 : ((((zs.take len).map Int.toNat).getD i 0 : Nat) : Int) = zs.getD i 0 := by
        have : ((zs.take len).map Int.toNat).getD i 0 = (zs.getD i 0).toNat := by
          simp [List.getD, hi, show i < zs.length by omega]
        rw [this]; omega
      rw [e1]
      have e2 : (⟨b, off, none⟩ : Addr).add i = ⟨b, off + i, none⟩ := by
        by_cases h0' : i = 0 <;> simp [Addr.add, h0']
      rw [← e2]; exact hi'
/-- what data tell, without their places -/
structure Td where
  tag : Nat
  n : Int
  b : Bool
  s : ByteArray
  d : List Nat
  L : List (List Td)
  tot : Nat
def tdEl : List Td → Nat
  | [] => 0
  | y :: e => y.tot + tdEl e
def tdRows : List (List Td) → Nat
  | [] => 0
  | e :: L => tdEl e + tdRows L
abbrev Td.int (n : Int) : Td := ⟨0, n, false, .empty, [], [], 0⟩
abbrev Td.bool (b : Bool) : Td := ⟨1, 0, b, .empty, [], [], 0⟩
abbrev Td.str (s : ByteArray) : Td := ⟨2, 0, false, s, [], [], s.size⟩
abbrev Td.byt (d : List Nat) : Td := ⟨3, 0, false, .empty, d, [], d.length⟩
abbrev Td.row (L : List (List Td)) : Td := ⟨4, 0, false, .empty, [], L, L.length + tdRows L⟩
theorem Td.int.injEq (x y : Int) : (Td.int x = Td.int y) = (x = y) := propext ⟨fun h => congrArg Td.n h, fun h => by rw [h]⟩
theorem Td.bool.injEq (x y : Bool) : (Td.bool x = Td.bool y) = (x = y) := propext ⟨fun h => congrArg Td.b h, fun h => by rw [h]⟩
theorem Td.str.injEq (x y : ByteArray) : (Td.str x = Td.str y) = (x = y) := propext ⟨fun h => congrArg Td.s h, fun h => by rw [h]⟩
theorem Td.byt.injEq (x y : List Nat) : (Td.byt x = Td.byt y) = (x = y) := propext ⟨fun h => congrArg Td.d h, fun h => by rw [h]⟩
theorem Td.row.injEq (x y : List (List Td)) : (Td.row x = Td.row y) = (x = y) := propext ⟨fun h => congrArg Td.L h, fun h => by rw [h]⟩
/-- .. with their places: its cell, what it tells -/
structure Tr where
  cell : Value
  tell : Td
  a : Option Addr
  cp : Nat
  m : Nat
  L : List (List Tr)
abbrev Tr.int (n : Int) : Tr := ⟨.int .i64 n, .int n, none, 0, 0, []⟩
abbrev Tr.bool (b : Bool) : Tr := ⟨.bool b, .bool b, none, 0, 0, []⟩
abbrev Tr.str (s : ByteArray) : Tr := ⟨.string s, .str s, none, 0, 0, []⟩
abbrev Tr.byt (d : List Nat) (a : Option Addr) (cp : Nat) : Tr := ⟨.slice a d.length cp, .byt d, a, cp, 0, []⟩
abbrev Tr.row (m : Nat) (a : Option Addr) (cp : Nat) (L : List (List Tr)) : Tr := ⟨.slice a L.length cp, .row (L.map (fun e => e.map Tr.tell)), a, cp, m, L⟩
theorem Tr.byt.injEq (d : List Nat) (a : Option Addr) (cp : Nat) (d' : List Nat) (a' : Option Addr) (cp' : Nat) : (Tr.byt d a cp = Tr.byt d' a' cp') = (d = d' ∧ a = a' ∧ cp = cp') := propext ⟨fun h => ⟨congrArg (fun x : Tr => x.tell.d) h, congrArg Tr.a h, congrArg Tr.cp h⟩, fun ⟨h1, h2, h3⟩ => by rw [h1, h2, h3]⟩
theorem Tr.str.injEq (s t : ByteArray) : (Tr.str s = Tr.str t) = (s = t) := propext ⟨fun h => congrArg (fun x : Tr => x.tell.s) h, fun h => by rw [h]⟩
theorem Tr.int.injEq (x y : Int) : (Tr.int x = Tr.int y) = (x = y) := propext ⟨fun h => congrArg (fun x : Tr => x.tell.n) h, fun h => by rw [h]⟩
theorem Tr.row_inj {m m' : Nat} {a a' : Option Addr} {cp cp' : Nat} {L L' : List (List Tr)} (h : Tr.row m a cp L = Tr.row m' a' cp' L') : m = m' ∧ a = a' ∧ cp = cp' ∧ L = L' := ⟨congrArg Tr.m h, congrArg Tr.a h, congrArg Tr.cp h, congrArg Tr.L h⟩
/-- a number of 64 bits -/
def I64 (n : Int) : Prop := -9223372036854775808 ≤ n ∧ n ≤ 9223372036854775807
/-- it lies there, and can be read -/
def Rd (w : World) (x0 : Tr) : Prop :=
  ∀ P : Tr → Prop, (∀ (n : Int) (_h : I64 n), P (.int n)) →
    (∀ (b : Bool), P (.bool b)) →
    (∀ (s : ByteArray) (_h : s.size ≤ maxLen), P (.str s)) →
    (∀ (d : List Nat) (a : Option Addr) (cp : Nat) (_hb : d.length ≤ maxLen) (_h : SlB w a d.length d), P (.byt d a cp)) →
    (∀ (m : Nat) (a : Option Addr) (cp : Nat) (L : List (List Tr)) (_hb : L.length ≤ maxLen) (_hl : ∀ (i : Nat) (e : List Tr), L[i]? = some e → e.length = m) (_hc : ∀ (i j : Nat) (e : List Tr) (y : Tr), L[i]? = some e → e[j]? = some y → ∃ b off, a = some ⟨b, off, none⟩ ∧ w.cell? ⟨b, off + i * m + j, none⟩ = some y.cell) (_hr : ∀ (i j : Nat) (e : List Tr) (y : Tr), L[i]? = some e → e[j]? = some y → P y), P (.row m a cp L)) → P x0
theorem Rd.int {w : World} {n : Int} (h : I64 n) : Rd w (.int n) := fun _ c0 _ _ _ _ => c0 n h
theorem Rd.bool {w : World} (b : Bool) : Rd w (.bool b) := fun _ _ c1 _ _ _ => c1 b
theorem Rd.str {w : World} {s : ByteArray} (h : s.size ≤ maxLen) : Rd w (.str s) := fun _ _ _ c2 _ _ => c2 s h
theorem Rd.byt {w : World} {d : List Nat} {a : Option Addr} {cp : Nat} (hb : d.length ≤ maxLen) (h : SlB w a d.length d) : Rd w (.byt d a cp) := fun _ _ _ _ c3 _ => c3 d a cp hb h
theorem Rd.row {w : World} {m : Nat} {a : Option Addr} {cp : Nat} {L : List (List Tr)} (hb : L.length ≤ maxLen) (hl : ∀ (i : Nat) (e : List Tr), L[i]? = some e → e.length = m) (hc : ∀ (i j : Nat) (e : List Tr) (y : Tr), L[i]? = some e → e[j]? = some y → ∃ b off, a = some ⟨b, off, none⟩ ∧ w.cell? ⟨b, off + i * m + j, none⟩ = some y.cell) (hr : ∀ (i j : Nat) (e : List Tr) (y : Tr), L[i]? = some e → e[j]? = some y → Rd w y) : Rd w (.row m a cp L) := fun P c0 c1 c2 c3 c4 => c4 m a cp L hb hl hc (fun i j e y hi hj => hr i j e y hi hj P c0 c1 c2 c3 c4)
theorem Rd.elim {w : World} {motive : (x0 : Tr) → Rd w x0 → Prop}
    (int : ∀ {n : Int} (h : I64 n), motive (.int n) (.int h))
    (bool : ∀ (b : Bool), motive (.bool b) (.bool b))
    (str : ∀ {s : ByteArray} (h : s.size ≤ maxLen), motive (.str s) (.str h))
    (byt : ∀ {d : List Nat} {a : Option Addr} {cp : Nat} (hb : d.length ≤ maxLen) (h : SlB w a d.length d), motive (.byt d a cp) (.byt hb h))
    (row : ∀ {m : Nat} {a : Option Addr} {cp : Nat} {L : List (List Tr)} (hb : L.length ≤ maxLen) (hl : ∀ (i : Nat) (e : List Tr), L[i]? = some e → e.length = m) (hc : ∀ (i j : Nat) (e : List Tr) (y : Tr), L[i]? = some e → e[j]? = some y → ∃ b off, a = some ⟨b, off, none⟩ ∧ w.cell? ⟨b, off + i * m + j, none⟩ = some y.cell) (hr : ∀ (i j : Nat) (e : List Tr) (y : Tr), L[i]? = some e → e[j]? = some y → Rd w y), (∀ i j e y hi hj, motive y (hr i j e y hi hj)) → motive (.row m a cp L) (.row hb hl hc hr))
    {x0 : Tr} (h : Rd w x0) : motive x0 h :=
  (h (fun x0 => ∃ h : Rd w x0, motive x0 h) (fun _ h => ⟨.int h, int h ⟩)
    (fun b => ⟨.bool b, bool b ⟩)
    (fun _ h => ⟨.str h, str h ⟩)
    (fun _ _ _ hb h => ⟨.byt hb h, byt hb h ⟩)
    (fun _ _ _ _ hb hl hc hr => ⟨.row hb hl hc (fun i j e y hi hj => (hr i j e y hi hj).elim fun a _ => a), row hb hl hc (fun i j e y hi hj => (hr i j e y hi hj).elim fun a _ => a) (fun i j e y hi hj => (hr i j e y hi hj).elim fun _ b => b)⟩)).elim fun _ b => b
theorem Rd.grown0 {w w' : World} {x : Tr} (h : Rd w x) (hg : w.grownBy w' none) : Rd w' x := by
  obtain ⟨hcell, -⟩ := bcell hg
  induction h using Rd.elim with
  | int h => exact .int h
  | bool b => exact .bool b
  | str h => exact .str h
  | byt hb h => exact .byt hb (h.grown0 hg)
  | row hb hl hc _ ih =>
    refine .row hb hl (fun i j e y hi hj => ?_) ih; obtain ⟨b, off, ha, h⟩ := hc i j e y hi hj; exact ⟨b, off, ha, (hcell _ _ (cell_block_lt h)).trans h⟩
/-- a block of it -/
def InB (x0 : Tr) (x1 : Nat) : Prop :=
  ∀ P : Tr → Nat → Prop, (∀ (d : List Nat) (a : Addr) (cp : Nat), P (.byt d (some a) cp) a.block) →
    (∀ (m : Nat) (a : Addr) (cp : Nat) (L : List (List Tr)), P (.row m (some a) cp L) a.block) →
    (∀ (m : Nat) (a : Option Addr) (cp : Nat) (L : List (List Tr)) (i : Nat) (j : Nat) (k : Nat) (e : List Tr) (y : Tr) (_hi : L[i]? = some e) (_hj : e[j]? = some y) (_h : P y k), P (.row m a cp L) k) → P x0 x1
theorem InB.byt {d : List Nat} {a : Addr} {cp : Nat} : InB (.byt d (some a) cp) a.block := fun _ c0 _ _ => c0 d a cp
theorem InB.here {m : Nat} {a : Addr} {cp : Nat} {L : List (List Tr)} : InB (.row m (some a) cp L) a.block := fun _ _ c1 _ => c1 m a cp L
theorem InB.sub {m : Nat} {a : Option Addr} {cp : Nat} {L : List (List Tr)} {i : Nat} {j : Nat} {k : Nat} {e : List Tr} {y : Tr} (hi : L[i]? = some e) (hj : e[j]? = some y) (h : InB y k) : InB (.row m a cp L) k := fun P c0 c1 c2 => c2 m a cp L i j k e y hi hj (h P c0 c1 c2)
theorem InB.elim  {motive : (x0 : Tr) → (x1 : Nat) → InB x0 x1 → Prop}
    (byt : ∀ {d : List Nat} {a : Addr} {cp : Nat}, motive (.byt d (some a) cp) a.block (.byt))
    (here : ∀ {m : Nat} {a : Addr} {cp : Nat} {L : List (List Tr)}, motive (.row m (some a) cp L) a.block (.here))
    (sub : ∀ {m : Nat} {a : Option Addr} {cp : Nat} {L : List (List Tr)} {i : Nat} {j : Nat} {k : Nat} {e : List Tr} {y : Tr} (hi : L[i]? = some e) (hj : e[j]? = some y) (h : InB y k), motive y k h → motive (.row m a cp L) k (.sub hi hj h))
    {x0 : Tr} {x1 : Nat} (h : InB x0 x1) : motive x0 x1 h :=
  (h (fun x0 x1 => ∃ h : InB x0 x1, motive x0 x1 h) (fun _ _ _ => ⟨.byt, byt  ⟩)
    (fun _ _ _ _ => ⟨.here, here  ⟩)
    (fun _ _ _ _ _ _ _ _ _ hi hj h => ⟨.sub hi hj (h.elim fun a _ => a), sub hi hj (h.elim fun a _ => a) (h.elim fun _ b => b)⟩)).elim fun _ b => b
theorem SlB.keep {w w' : World} {a : Option Addr} {len : Nat} {zs : List Nat} (h : SlB w a len zs) (hk : ∀ b off, a = some ⟨b, off, none⟩ → w'.heap[b]? = w.heap[b]?) : SlB w' a len zs := by
  obtain ⟨h1, h2, h3⟩ := h; refine ⟨h1, h2, fun hn => ?_⟩; obtain ⟨b, off, ha, hc⟩ := h3 hn; exact ⟨b, off, ha, fun i hi => (World.cell?_of_block (hk b off ha)).trans (hc i hi)⟩
theorem Rd.keep {w w' : World} {x : Tr} (h : Rd w x) (hk : ∀ k, InB x k → w'.heap[k]? = w.heap[k]?) : Rd w' x := by
  induction h using Rd.elim with
  | int h => exact .int h
  | bool b => exact .bool b
  | str h => exact .str h
  | byt hb h => exact .byt hb (h.keep (fun b off ha => by subst ha; exact hk b .byt))
  | row hb hl hc _ ih =>
    refine .row hb hl (fun i j e y hi hj => ?_) (fun i j e y hi hj => ih i j e y hi hj (fun k hkk => hk k (.sub hi hj hkk))); obtain ⟨b, off, ha, h⟩ := hc i j e y hi hj; refine ⟨b, off, ha, (World.cell?_of_block ?_).trans h⟩; subst ha; exact hk b .here
/-- a shape: what an element of a type is made of -/
structure Ki where
  tag : Nat
  ks : List Ki
abbrev Ki.int : Ki := ⟨0, []⟩
abbrev Ki.bool : Ki := ⟨1, []⟩
abbrev Ki.str : Ki := ⟨2, []⟩
abbrev Ki.byt : Ki := ⟨3, []⟩
abbrev Ki.row (ks : List Ki) : Ki := ⟨4, ks⟩
def Ki.leaf (k : Ki) : Bool := decide (k.tag < 2)
def Fits (x0 : Tr) (x1 : Ki) : Prop :=
  ∀ P : Tr → Ki → Prop, (∀ (n : Int), P (.int n) .int) →
    (∀ (b : Bool), P (.bool b) .bool) →
    (∀ (s : ByteArray), P (.str s) .str) →
    (∀ (d : List Nat) (a : Option Addr) (cp : Nat), P (.byt d a cp) .byt) →
    (∀ (a : Option Addr) (cp : Nat) (L : List (List Tr)) (ks : List Ki) (_hl : ∀ (i : Nat) (e : List Tr), L[i]? = some e → e.length = ks.length) (_hf : ∀ (i j : Nat) (e : List Tr) (y : Tr) (k : Ki), L[i]? = some e → e[j]? = some y → ks[j]? = some k → P y k), P (.row ks.length a cp L) (.row ks)) → P x0 x1
theorem Fits.int (n : Int) : Fits (.int n) .int := fun _ c0 _ _ _ _ => c0 n
theorem Fits.bool (b : Bool) : Fits (.bool b) .bool := fun _ _ c1 _ _ _ => c1 b
theorem Fits.str (s : ByteArray) : Fits (.str s) .str := fun _ _ _ c2 _ _ => c2 s
theorem Fits.byt (d : List Nat) (a : Option Addr) (cp : Nat) : Fits (.byt d a cp) .byt := fun _ _ _ _ c3 _ => c3 d a cp
theorem Fits.row {a : Option Addr} {cp : Nat} {L : List (List Tr)} {ks : List Ki} (hl : ∀ (i : Nat) (e : List Tr), L[i]? = some e → e.length = ks.length) (hf : ∀ (i j : Nat) (e : List Tr) (y : Tr) (k : Ki), L[i]? = some e → e[j]? = some y → ks[j]? = some k → Fits y k) : Fits (.row ks.length a cp L) (.row ks) := fun P c0 c1 c2 c3 c4 => c4 a cp L ks hl (fun i j e y k hi hj hk => hf i j e y k hi hj hk P c0 c1 c2 c3 c4)
theorem Fits.elim  {motive : (x0 : Tr) → (x1 : Ki) → Fits x0 x1 → Prop}
    (int : ∀ (n : Int), motive (.int n) .int (.int n))
    (bool : ∀ (b : Bool), motive (.bool b) .bool (.bool b))
    (str : ∀ (s : ByteArray), motive (.str s) .str (.str s))
    (byt : ∀ (d : List Nat) (a : Option Addr) (cp : Nat), motive (.byt d a cp) .byt (.byt d a cp))
    (row : ∀ {a : Option Addr} {cp : Nat} {L : List (List Tr)} {ks : List Ki} (hl : ∀ (i : Nat) (e : List Tr), L[i]? = some e → e.length = ks.length) (hf : ∀ (i j : Nat) (e : List Tr) (y : Tr) (k : Ki), L[i]? = some e → e[j]? = some y → ks[j]? = some k → Fits y k), (∀ i j e y k hi hj hk, motive y k (hf i j e y k hi hj hk)) → motive (.row ks.length a cp L) (.row ks) (.row hl hf))
    {x0 : Tr} {x1 : Ki} (h : Fits x0 x1) : motive x0 x1 h :=
  (h (fun x0 x1 => ∃ h : Fits x0 x1, motive x0 x1 h) (fun n => ⟨.int n, int n ⟩)
    (fun b => ⟨.bool b, bool b ⟩)
    (fun s => ⟨.str s, str s ⟩)
    (fun d a cp => ⟨.byt d a cp, byt d a cp ⟩)
    (fun _ _ _ _ hl hf => ⟨.row hl (fun i j e y k hi hj hk => (hf i j e y k hi hj hk).elim fun a _ => a), row hl (fun i j e y k hi hj hk => (hf i j e y k hi hj hk).elim fun a _ => a) (fun i j e y k hi hj hk => (hf i j e y k hi hj hk).elim fun _ b => b)⟩)).elim fun _ b => b
def FitsL (es : List Tr) (ks : List Ki) : Prop := es.length = ks.length ∧ ∀ (j : Nat) (y : Tr) (k : Ki), es[j]? = some y → ks[j]? = some k → Fits y k
/-- .. as the program's types have it -/
def Flat (P : Program) (x0 : TypeId) (x1 : List Ki) : Prop :=
  ∀ Q : TypeId → List Ki → Prop, (∀ (t : TypeId) (_h : P.underlying t = some (.int .i64)), Q t [.int]) →
    (∀ (t : TypeId) (_h : P.underlying t = some .bool), Q t [.bool]) →
    (∀ (t : TypeId) (_h : P.underlying t = some .string), Q t [.str]) →
    (∀ (t : TypeId) (e : TypeId) (_h : P.underlying t = some (.slice e)) (_he : P.underlying e = some (.int .u8)) (_hc : P.cellsOf e = 1), Q t [.byt]) →
    (∀ (t : TypeId) (e : TypeId) (ks : List Ki) (_h : P.underlying t = some (.slice e)) (_hc : P.cellsOf e = ks.length) (_h0 : 0 < ks.length) (_hf : Q e ks), Q t [.row ks]) →
    (∀ (t : TypeId) (fs : Array Field) (kk : List (List Ki)) (_h : P.underlying t = some (.struct fs)) (_hn : fs.size = kk.length) (_hc : P.cellsOf t = kk.flatten.length) (_ho : ∀ (i : Nat) (f : Field) (ks : List Ki), fs[i]? = some f → kk[i]? = some ks → f.offset = (kk.take i).flatten.length ∧ P.cellsOf f.type = ks.length) (_hf : ∀ (i : Nat) (f : Field) (ks : List Ki), fs[i]? = some f → kk[i]? = some ks → Q f.type ks), Q t kk.flatten) → Q x0 x1
theorem Flat.int {P : Program} {t : TypeId} (h : P.underlying t = some (.int .i64)) : Flat P t [.int] := fun _ c0 _ _ _ _ _ => c0 t h
theorem Flat.bool {P : Program} {t : TypeId} (h : P.underlying t = some .bool) : Flat P t [.bool] := fun _ _ c1 _ _ _ _ => c1 t h
theorem Flat.str {P : Program} {t : TypeId} (h : P.underlying t = some .string) : Flat P t [.str] := fun _ _ _ c2 _ _ _ => c2 t h
theorem Flat.byt {P : Program} {t : TypeId} {e : TypeId} (h : P.underlying t = some (.slice e)) (he : P.underlying e = some (.int .u8)) (hc : P.cellsOf e = 1) : Flat P t [.byt] := fun _ _ _ _ c3 _ _ => c3 t e h he hc
theorem Flat.row {P : Program} {t : TypeId} {e : TypeId} {ks : List Ki} (h : P.underlying t = some (.slice e)) (hc : P.cellsOf e = ks.length) (h0 : 0 < ks.length) (hf : Flat P e ks) : Flat P t [.row ks] := fun Q c0 c1 c2 c3 c4 c5 => c4 t e ks h hc h0 (hf Q c0 c1 c2 c3 c4 c5)
theorem Flat.struct {P : Program} {t : TypeId} {fs : Array Field} {kk : List (List Ki)} (h : P.underlying t = some (.struct fs)) (hn : fs.size = kk.length) (hc : P.cellsOf t = kk.flatten.length) (ho : ∀ (i : Nat) (f : Field) (ks : List Ki), fs[i]? = some f → kk[i]? = some ks → f.offset = (kk.take i).flatten.length ∧ P.cellsOf f.type = ks.length) (hf : ∀ (i : Nat) (f : Field) (ks : List Ki), fs[i]? = some f → kk[i]? = some ks → Flat P f.type ks) : Flat P t kk.flatten := fun Q c0 c1 c2 c3 c4 c5 => c5 t fs kk h hn hc ho (fun i f ks hi hk => hf i f ks hi hk Q c0 c1 c2 c3 c4 c5)
theorem Flat.elim {P : Program} {motive : (x0 : TypeId) → (x1 : List Ki) → Flat P x0 x1 → Prop}
    (int : ∀ {t : TypeId} (h : P.underlying t = some (.int .i64)), motive t [.int] (.int h))
    (bool : ∀ {t : TypeId} (h : P.underlying t = some .bool), motive t [.bool] (.bool h))
    (str : ∀ {t : TypeId} (h : P.underlying t = some .string), motive t [.str] (.str h))
    (byt : ∀ {t : TypeId} {e : TypeId} (h : P.underlying t = some (.slice e)) (he : P.underlying e = some (.int .u8)) (hc : P.cellsOf e = 1), motive t [.byt] (.byt h he hc))
    (row : ∀ {t : TypeId} {e : TypeId} {ks : List Ki} (h : P.underlying t = some (.slice e)) (hc : P.cellsOf e = ks.length) (h0 : 0 < ks.length) (hf : Flat P e ks), motive e ks hf → motive t [.row ks] (.row h hc h0 hf))
    (struct : ∀ {t : TypeId} {fs : Array Field} {kk : List (List Ki)} (h : P.underlying t = some (.struct fs)) (hn : fs.size = kk.length) (hc : P.cellsOf t = kk.flatten.length) (ho : ∀ (i : Nat) (f : Field) (ks : List Ki), fs[i]? = some f → kk[i]? = some ks → f.offset = (kk.take i).flatten.length ∧ P.cellsOf f.type = ks.length) (hf : ∀ (i : Nat) (f : Field) (ks : List Ki), fs[i]? = some f → kk[i]? = some ks → Flat P f.type ks), (∀ i f ks hi hk, motive f.type ks (hf i f ks hi hk)) → motive t kk.flatten (.struct h hn hc ho hf))
    {x0 : TypeId} {x1 : List Ki} (h : Flat P x0 x1) : motive x0 x1 h :=
  (h (fun x0 x1 => ∃ h : Flat P x0 x1, motive x0 x1 h) (fun _ h => ⟨.int h, int h ⟩)
    (fun _ h => ⟨.bool h, bool h ⟩)
    (fun _ h => ⟨.str h, str h ⟩)
    (fun _ _ h he hc => ⟨.byt h he hc, byt h he hc ⟩)
    (fun _ _ _ h hc h0 hf => ⟨.row h hc h0 (hf.elim fun a _ => a), row h hc h0 (hf.elim fun a _ => a) (hf.elim fun _ b => b)⟩)
    (fun _ _ _ h hn hc ho hf => ⟨.struct h hn hc ho (fun i f ks hi hk => (hf i f ks hi hk).elim fun a _ => a), struct h hn hc ho (fun i f ks hi hk => (hf i f ks hi hk).elim fun a _ => a) (fun i f ks hi hk => (hf i f ks hi hk).elim fun _ b => b)⟩)).elim fun _ b => b
theorem exists_list {α : Type} (Q : Nat → α → Prop) (n : Nat) (h : ∀ i, i < n → ∃ x, Q i x) : ∃ L : List α, L.length = n ∧ ∀ (i : Nat) (x : α), L[i]? = some x → Q i x := by
  induction n with
  | zero => exact ⟨[], rfl, fun i x hx => by simp at hx⟩
  | succ n ih =>
    obtain ⟨L, hl, hL⟩ := ih (fun i hi => h i (by omega)); obtain ⟨x, hx⟩ := h n (by omega); refine ⟨L ++ [x], by simp [hl], fun i y hy => ?_⟩
    rcases Nat.lt_or_ge i L.length with hi | hi
    · rw [List.getElem?_append_left hi] at hy; exact hL i y hy
    · rw [List.getElem?_append_right hi] at hy
      have : i - L.length < 1 := by have := (List.getElem?_eq_some_iff.1 hy).1; simpa using this
      have e : i - L.length = 0 := by omega
      rw [e] at hy
      obtain rfl : x = y := by simpa using hy
      obtain rfl : i = n := by omega
      exact hx
theorem flatten_get {α : Type} (kk : List (List α)) : ∀ (i : Nat) (ks : List α) (j : Nat), kk[i]? = some ks → j < ks.length → kk.flatten[(kk.take i).flatten.length + j]? = ks[j]? := by
  induction kk with
  | nil => intro i ks j h; simp at h
  | cons k kk ih =>
    intro i ks j h hj
    cases i with
    | zero =>
      simp at h
      subst h; simp only [List.take_zero, List.flatten_nil, List.length_nil, Nat.zero_add, List.flatten_cons]; rw [List.getElem?_append_left hj]
    | succ i =>
      have h1 := ih i ks j (by simpa using h) hj; rw [List.flatten_cons, List.take_succ_cons, List.flatten_cons, List.length_append, Nat.add_assoc, List.getElem?_append_right (by omega), show k.length + ((kk.take i).flatten.length + j) - k.length = (kk.take i).flatten.length + j by omega]; exact h1
theorem flatten_at {α : Type} (kk : List (List α)) : ∀ (p : Nat) (x : α), kk.flatten[p]? = some x → ∃ (i : Nat) (ks : List α) (j : Nat), kk[i]? = some ks ∧ ks[j]? = some x ∧ p = (kk.take i).flatten.length + j := by
  induction kk with
  | nil => intro p x h; simp at h
  | cons k kk ih =>
    intro p x h; rw [List.flatten_cons] at h
    rcases Nat.lt_or_ge p k.length with hp | hp
    · rw [List.getElem?_append_left hp] at h; exact ⟨0, k, p, rfl, h, by simp⟩
    · rw [List.getElem?_append_right hp] at h; obtain ⟨i, ks, j, h1, h2, h3⟩ := ih _ x h; exact ⟨i + 1, ks, j, by simpa using h1, h2, by simp only [List.take_succ_cons, List.flatten_cons, List.length_append]; omega⟩
theorem add_noneT (b off i : Nat) : (⟨b, off, none⟩ : Addr).add i = ⟨b, off + i, none⟩ := by
  by_cases h0 : i = 0 <;> simp [Addr.add, h0]
/-- what came in, opened: whatever its type, so that it is of numbers, truths, bytes and rows -/
theorem open_flat {H : Type} {enc : TypeId × Value → H} {P : Program} {W : World} {t : TypeId} {ks : List Ki} (hF : Flat P t ks) : ∀ (fuel : Nat) (cs : List Value) (x : DataW H × List MemPlace), DataW.trod enc P W 0 (fun _ => true) true fuel t cs = some x → ∃ es : List Tr, es.map Tr.cell = cs ∧ FitsL es ks ∧ ∀ y ∈ es, Rd W y := by
  induction hF using Flat.elim with
  | int h =>
    intro fuel cs x hx; obtain ⟨n, rfl, -, hwf⟩ := DataW.trod_int h hx
    have hI : I64 n := by
      simp only [Lit.wf, Bool.and_eq_true, decide_eq_true_eq] at hwf; exact hwf
    refine ⟨[.int n], rfl, ⟨rfl, fun j y k hj hk => ?_⟩, by simp; exact .int hI⟩
    cases j with
    | zero => simp at hj hk; subst hj hk; exact .int n
    | succ j => simp at hj
  | bool h =>
    intro fuel cs x hx; obtain ⟨b, rfl, -⟩ := DataW.trod_bool h hx; refine ⟨[.bool b], rfl, ⟨rfl, fun j y k hj hk => ?_⟩, by simp; exact .bool b⟩
    cases j with
    | zero => simp at hj hk; subst hj hk; exact .bool b
    | succ j => simp at hj
  | str h =>
    intro fuel cs x hx; obtain ⟨s, rfl, -, hs⟩ := DataW.trod_string h hx; refine ⟨[.str s], rfl, ⟨rfl, fun j y k hj hk => ?_⟩, by simp; exact .str hs⟩
    cases j with
    | zero => simp at hj hk; subst hj hk; exact .str s
    | succ j => simp at hj
  | byt h he hc =>
    intro fuel cs x hx
    obtain ⟨a, len, cap, rfl⟩ : ∃ a len cap, cs = [.slice a len cap] := by
      rcases DataW.trod_slice h hx with ⟨h0, _⟩ | ⟨a, l, c, _, _, _, _, h0, _⟩
      · exact ⟨none, 0, 0, h0⟩
      · exact ⟨some a, l, c, h0⟩
    obtain ⟨zs, hs, hsm⟩ := slb_open (a := a) (len := len) (cap := cap) h he hc (d := x.1) (p := x.2) ⟨fuel, by simpa [Value.cells] using hx⟩; have hzl := hs.1; refine ⟨[.byt zs a cap], by simp [hzl], ⟨rfl, fun j y k hj hk => ?_⟩, by simp; exact .byt (by rw [hzl]; exact hsm) (by rw [hzl]; exact hs)⟩
    cases j with
    | zero => simp at hj hk; subst hj hk; exact .byt _ _ _
    | succ j => simp at hj
  | @row t e ks h hc h0 hf ih =>
    intro fuel cs x hx
    have fin : ∀ (a : Option Addr) (cp : Nat) (L : List (List Tr)), L.length ≤ maxLen → (∀ (i : Nat) (el : List Tr), L[i]? = some el → FitsL el ks ∧ (∀ y ∈ el, Rd W y) ∧ ∀ (j : Nat) (y : Tr), el[j]? = some y → ∃ b off, a = some ⟨b, off, none⟩ ∧ W.cell? ⟨b, off + i * ks.length + j, none⟩ = some y.cell) → FitsL [.row ks.length a cp L] [.row ks] ∧ ∀ y ∈ [Tr.row ks.length a cp L], Rd W y := fun a cp L hmx hL => by
      refine ⟨⟨rfl, fun j y k hj hk => ?_⟩, fun y hy => ?_⟩
      · cases j with
        | zero =>
          simp at hj hk
          subst hj hk; exact .row (fun i el hi => (hL i el hi).1.1) (fun i j el y k hi hj hk => (hL i el hi).1.2 j y k hj hk)
        | succ j => simp at hj
      · obtain rfl : y = _ := by simpa using hy
        exact .row hmx (fun i el hi => (hL i el hi).1.1) (fun i j el y hi hj => (hL i el hi).2.2 j y hj) (fun i j el y hi hj => (hL i el hi).2.1 y (List.mem_of_getElem? hj))
    rcases DataW.trod_slice h hx with ⟨h1, _⟩ | ⟨a, len, cap, elems, rest, n, _, hcs, -, _, hl, hm, hlen, hel, _, _⟩
    · subst h1; exact ⟨[.row ks.length none 0 []], rfl, fin none 0 [] (Nat.zero_le _) (fun i el hi => by simp at hi)⟩
    · subst hcs
      have hsp0 : 0 < len → a.spot = none := fun h9 => by
        have h1 := hel 0 h9; rw [List.getElem?_eq_getElem (by omega), Option.bind_eq_some_iff] at h1; obtain ⟨cs', hcs', -⟩ := h1; rw [hc] at hcs'; obtain ⟨_, hcl, hcell⟩ := World.cells?_some hcs'; have h2 := hcell 0 h0; rw [List.getElem?_eq_getElem (by omega)] at h2; have h3 := World.cell?_spot h2
        simpa [Addr.add] using h3
      have each : ∀ i, i < len → ∃ el : List Tr, FitsL el ks ∧ (∀ y ∈ el, Rd W y) ∧ ∀ (j : Nat) (y : Tr), el[j]? = some y → ∃ b off, some a = some (⟨b, off, none⟩ : Addr) ∧ W.cell? ⟨b, off + i * ks.length + j, none⟩ = some y.cell := fun i hi => by
        have h1 := hel i hi; rw [List.getElem?_eq_getElem (by omega), Option.bind_eq_some_iff] at h1; obtain ⟨cs', hcs', ht'⟩ := h1; obtain ⟨el, hmap, hfit, hrd⟩ := ih n cs' _ ht'; rw [hc] at hcs'; obtain ⟨_, hcl, hcell⟩ := World.cells?_some hcs'; have hell : el.length = ks.length := hfit.1
        have hcj : ∀ (j : Nat) (y : Tr), el[j]? = some y → W.cell? ((a.add (i * ks.length)).add j) = some y.cell := fun j y hj => by
          have hjl := (List.getElem?_eq_some_iff.1 hj).1; have h2 := hcell j (by omega); rw [← hmap, List.getElem?_map, hj] at h2; exact h2
        have hspot := hsp0 (by omega); obtain ⟨ab, ao, asp⟩ := a; simp only at hspot; subst hspot; refine ⟨el, hfit, hrd, fun j y hj => ⟨ab, ao, rfl, ?_⟩⟩; have h4 := hcj j y hj; rw [add_noneT, add_noneT] at h4; exact h4
      obtain ⟨L, hLl, hL⟩ := exists_list _ len each; exact ⟨[.row ks.length (some a) cap L], by simp [hLl], fin (some a) cap L (by omega) hL⟩
  | @struct t fs kk h hn hc ho hf ih =>
    intro fuel cs x hx; obtain ⟨xs, n, rfl, -, hl, hlen, hfield⟩ := DataW.trod_struct h hx; rw [hc] at hl
    have each : ∀ i, i < kk.length → ∃ el : List Tr, ∃ ks f, kk[i]? = some ks ∧ fs[i]? = some f ∧ el.map Tr.cell = (cs.drop f.offset).take ks.length ∧ FitsL el ks ∧ ∀ y ∈ el, Rd W y := fun i hi => by
      have hk := List.getElem?_eq_getElem hi; have hfi : fs[i]? = some (fs[i]'(by omega)) := Array.getElem?_eq_getElem (by omega); have h1 := hfield i _ hfi; rw [List.getElem?_eq_getElem (l := xs) (i := i) (by omega), (ho i _ _ hfi hk).2] at h1; obtain ⟨el, h2, h3, h4⟩ := ih i _ _ hfi hk n _ _ h1; exact ⟨el, _, _, hk, hfi, h2, h3, h4⟩
    obtain ⟨E, hEl, hE⟩ := exists_list _ kk.length each
    have hlens : ∀ (i : Nat) (el : List Tr) (ks : List Ki), E[i]? = some el → kk[i]? = some ks → el.length = ks.length := fun i el ks he hk => by
      obtain ⟨ks', f, hk', _, _, hfit, _⟩ := hE i el he; rw [hk] at hk'; obtain rfl := Option.some.inj hk'; exact hfit.1
    have hpre : ∀ i, (E.take i).flatten.length = (kk.take i).flatten.length := fun i => by
      have e : (E.map List.length) = kk.map List.length := by
        refine List.ext_getElem? fun j => ?_
        rw [List.getElem?_map, List.getElem?_map]
        rcases Nat.lt_or_ge j kk.length with hj | hj
        · have h1 := List.getElem?_eq_getElem hj; have h2 := List.getElem?_eq_getElem (l := E) (i := j) (by omega); rw [h1, h2]; simp only [Option.map_some]; rw [hlens j _ _ h2 h1]
        · rw [List.getElem?_eq_none (by omega), List.getElem?_eq_none hj]
          rfl
      rw [List.length_flatten, List.length_flatten, List.map_take, List.map_take, e]
    have hall : E.flatten.length = kk.flatten.length := by
      have h1 := hpre kk.length
      rwa [List.take_of_length_le (by omega), List.take_length] at h1
    refine ⟨E.flatten, ?_, ⟨hall, fun p y k hp hk => ?_⟩, fun y hy => ?_⟩
    · refine List.ext_getElem? fun p => ?_
      rw [List.getElem?_map]
      cases hp : E.flatten[p]? with
      | none =>
        have : E.flatten.length ≤ p := List.getElem?_eq_none_iff.1 hp; rw [List.getElem?_eq_none (by omega)]
        rfl
      | some y =>
        obtain ⟨i, el, j, h1, h2, rfl⟩ := flatten_at E p y hp; obtain ⟨ks, f, hk, hfi, hmap, hfit, _⟩ := hE i el h1
        have h3 : (el.map Tr.cell)[j]? = some y.cell := by rw [List.getElem?_map, h2]; rfl
        have hjl := (List.getElem?_eq_some_iff.1 h2).1; rw [hmap, List.getElem?_take, if_pos (by rw [← hfit.1]; exact hjl), List.getElem?_drop, (ho i f ks hfi hk).1] at h3; rw [hpre i, h3]
        rfl
    · obtain ⟨i, el, j, h1, h2, rfl⟩ := flatten_at E p y hp; obtain ⟨ks, f, hk', hfi, hmap, hfit, _⟩ := hE i el h1; have hjl := (List.getElem?_eq_some_iff.1 h2).1; rw [hpre i, flatten_get kk i ks j hk' (by rw [← hfit.1]; exact hjl)] at hk; exact hfit.2 j y k h2 hk
    · obtain ⟨el, hel, hy'⟩ := List.mem_flatten.1 hy; obtain ⟨i, hi⟩ := List.getElem?_of_mem hel; obtain ⟨_, _, _, _, _, _, hrd⟩ := hE i el hi; exact hrd y hy'
end Go.Proofs.YtjnegjgpkboocaaGreatDoor
/-
  Nested data: rows, their elements one by one.
-/
namespace Go.Proofs.YtjnegjgpkboocaaGreatDoor
open Go.RowKit

/-- a row of elements of a shape lies there -/
def RowOk (w : World) (ks : List Ki) (a : Option Addr) (L : List (List Tr)) : Prop :=
  ∀ (i : Nat) (e : List Tr), L[i]? = some e → FitsL e ks ∧ (∀ y ∈ e, Rd w y) ∧ ∃ b off, a = some ⟨b, off, none⟩ ∧ ∀ (j : Nat) (y : Tr), e[j]? = some y → w.cell? ⟨b, off + i * ks.length + j, none⟩ = some y.cell
theorem RowOk.grown0 {w w' : World} {ks : List Ki} {a : Option Addr} {L : List (List Tr)} (h : RowOk w ks a L) (hg : w.grownBy w' none) : RowOk w' ks a L := fun i e hi => by
  obtain ⟨h1, h2, b, off, h3, h4⟩ := h i e hi; obtain ⟨hc, -⟩ := bcell hg; exact ⟨h1, fun y hy => (h2 y hy).grown0 hg, b, off, h3, fun j y hj => (hc _ _ (cell_block_lt (h4 j y hj))).trans (h4 j y hj)⟩
theorem Rd.inv {w : World} {x : Tr} (h : Rd w x) : (x.tell.tag = 0 → I64 x.tell.n) ∧ (x.tell.tag = 2 → x.tell.s.size ≤ maxLen) ∧ (x.tell.tag = 3 → x.tell.d.length ≤ maxLen ∧ SlB w x.a x.tell.d.length x.tell.d) ∧ (x.tell.tag = 4 → x.L.length ≤ maxLen ∧ (∀ (i : Nat) (e : List Tr), x.L[i]? = some e → e.length = x.m) ∧ (∀ (i j : Nat) (e : List Tr) (y : Tr), x.L[i]? = some e → e[j]? = some y → ∃ b off, x.a = some ⟨b, off, none⟩ ∧ w.cell? ⟨b, off + i * x.m + j, none⟩ = some y.cell) ∧ ∀ (i j : Nat) (e : List Tr) (y : Tr), x.L[i]? = some e → e[j]? = some y → Rd w y) := by
  cases h using Rd.elim with
  | int h => exact ⟨fun _ => h, fun e => (by cases e), fun e => (by cases e), fun e => (by cases e)⟩
  | bool b => exact ⟨fun e => (by cases e), fun e => (by cases e), fun e => (by cases e), fun e => (by cases e)⟩
  | str h => exact ⟨fun e => (by cases e), fun _ => h, fun e => (by cases e), fun e => (by cases e)⟩
  | byt hb h => exact ⟨fun e => (by cases e), fun e => (by cases e), fun _ => ⟨hb, h⟩, fun e => (by cases e)⟩
  | row hb hl hc hr => exact ⟨fun e => (by cases e), fun e => (by cases e), fun e => (by cases e), fun _ => ⟨hb, hl, hc, hr⟩⟩
theorem Rd.row' {w : World} {m cp : Nat} {a : Option Addr} {L : List (List Tr)} (h : Rd w (.row m a cp L)) : L.length ≤ maxLen ∧ (∀ (i : Nat) (e : List Tr), L[i]? = some e → e.length = m) ∧ (∀ (i j : Nat) (e : List Tr) (y : Tr), L[i]? = some e → e[j]? = some y → ∃ b off, a = some ⟨b, off, none⟩ ∧ w.cell? ⟨b, off + i * m + j, none⟩ = some y.cell) ∧ ∀ (i j : Nat) (e : List Tr) (y : Tr), L[i]? = some e → e[j]? = some y → Rd w y := h.inv.2.2.2 rfl
theorem Fits.inv {x : Tr} {k : Ki} (h : Fits x k) : (k.tag = 0 → ∃ n, x = .int n) ∧ (k.tag = 1 → ∃ b, x = .bool b) ∧ (k.tag = 2 → ∃ s, x = .str s) ∧ (k.tag = 3 → ∃ d a p, x = .byt d a p) ∧ (k.tag = 4 → ∃ a p, x = .row k.ks.length a p x.L ∧ (∀ (i : Nat) (e : List Tr), x.L[i]? = some e → e.length = k.ks.length) ∧ ∀ (i j : Nat) (e : List Tr) (y : Tr) (q : Ki), x.L[i]? = some e → e[j]? = some y → k.ks[j]? = some q → Fits y q) ∧ k.tag = x.tell.tag := by
  cases h using Fits.elim with
  | int n => exact ⟨fun _ => ⟨n, rfl⟩, fun e => (by cases e), fun e => (by cases e), fun e => (by cases e), fun e => (by cases e), rfl⟩
  | bool b => exact ⟨fun e => (by cases e), fun _ => ⟨b, rfl⟩, fun e => (by cases e), fun e => (by cases e), fun e => (by cases e), rfl⟩
  | str s => exact ⟨fun e => (by cases e), fun e => (by cases e), fun _ => ⟨s, rfl⟩, fun e => (by cases e), fun e => (by cases e), rfl⟩
  | byt d a p => exact ⟨fun e => (by cases e), fun e => (by cases e), fun e => (by cases e), fun _ => ⟨d, a, p, rfl⟩, fun e => (by cases e), rfl⟩
  | @row a p _ _ hl hf => exact ⟨fun e => (by cases e), fun e => (by cases e), fun e => (by cases e), fun e => (by cases e), fun _ => ⟨a, p, rfl, hl, hf⟩, rfl⟩
theorem Fits.isRowL {x : Tr} {ks : List Ki} (h : Fits x (.row ks)) : (∀ (i : Nat) (e : List Tr), x.L[i]? = some e → e.length = ks.length) ∧ ∀ (i j : Nat) (e : List Tr) (y : Tr) (q : Ki), x.L[i]? = some e → e[j]? = some y → ks[j]? = some q → Fits y q := by
  obtain ⟨_, _, -, h1, h2⟩ := h.inv.2.2.2.2.1 rfl; exact ⟨h1, h2⟩
theorem Rd.rowOk {w : World} {ks : List Ki} {m cp : Nat} {a : Option Addr} {L : List (List Tr)} (h : Rd w (.row m a cp L)) (hf : Fits (.row m a cp L) (.row ks)) (h0 : 0 < ks.length) : RowOk w ks a L := by
  have hl := hf.isRowL.1; have hff := hf.isRowL.2; obtain ⟨-, hl', hc, hr⟩ := h.row'; intro i e hi; have he := hl i e hi; have hm := hl' i e hi
  have hmk : m = ks.length := by omega
  subst hmk; refine ⟨⟨he, fun j y k hj hk => hff i j e y k hi hj hk⟩, fun y hy => ?_, ?_⟩
  · obtain ⟨j, hj⟩ := List.getElem?_of_mem hy; exact hr i j e y hi hj
  · obtain ⟨b, off, ha, -⟩ := hc i 0 e _ hi (List.getElem?_eq_getElem (by omega)); refine ⟨b, off, ha, fun j y hj => ?_⟩; obtain ⟨b', off', ha', h⟩ := hc i j e y hi hj; rw [ha] at ha'; simp only [Option.some.injEq, Addr.mk.injEq, and_true] at ha'; obtain ⟨rfl, rfl⟩ := ha'; exact h
theorem RowOk.rd {w : World} {ks : List Ki} {cp : Nat} {a : Option Addr} {L : List (List Tr)} (h : RowOk w ks a L) (hb : L.length ≤ maxLen) : Rd w (.row ks.length a cp L) ∧ Fits (.row ks.length a cp L) (.row ks) := by
  refine ⟨.row hb (fun i e hi => (h i e hi).1.1) (fun i j e y hi hj => ?_) (fun i j e y hi hj => (h i e hi).2.1 y (List.mem_of_getElem? hj)), .row (fun i e hi => (h i e hi).1.1) (fun i j e y k hi hj hk => (h i e hi).1.2 j y k hj hk)⟩; obtain ⟨-, -, b, off, ha, hc⟩ := h i e hi; exact ⟨b, off, ha, hc j y hj⟩
theorem FitsL.nil {es : List Tr} (h : FitsL es []) : es = [] := List.eq_nil_of_length_eq_zero h.1
theorem FitsL.cons {es : List Tr} {k : Ki} {ks : List Ki} (h : FitsL es (k :: ks)) : ∃ y e, es = y :: e ∧ Fits y k ∧ FitsL e ks := by
  cases es with
  | nil => have := h.1; simp at this
  | cons y e => exact ⟨y, e, rfl, h.2 0 y k rfl rfl, by have := h.1; simpa using this, fun j z k' hj hk => h.2 (j + 1) z k' (by simpa using hj) (by simpa using hk)⟩
theorem Fits.isInt {y : Tr} (h : Fits y .int) : ∃ n, y = .int n := h.inv.1 rfl
theorem Fits.isBool {y : Tr} (h : Fits y .bool) : ∃ b, y = .bool b := h.inv.2.1 rfl
theorem Fits.isStr {y : Tr} (h : Fits y .str) : ∃ s, y = .str s := h.inv.2.2.1 rfl
theorem Fits.isByt {y : Tr} (h : Fits y .byt) : ∃ d a p, y = .byt d a p := h.inv.2.2.2.1 rfl
theorem Fits.isRow {y : Tr} {ks : List Ki} (h : Fits y (.row ks)) : ∃ a p L, y = .row ks.length a p L := by
  obtain ⟨a, p, h1, -⟩ := h.inv.2.2.2.2.1 rfl; exact ⟨a, p, y.L, h1⟩
/-- its lengths are small -/
def Sm (x0 : Tr) : Prop :=
  ∀ P : Tr → Prop, (∀ (n : Int), P (.int n)) →
    (∀ (b : Bool), P (.bool b)) →
    (∀ (s : ByteArray), P (.str s)) →
    (∀ (d : List Nat) (a : Option Addr) (cp : Nat) (_h : d.length ≤ 1048576), P (.byt d a cp)) →
    (∀ (m : Nat) (a : Option Addr) (cp : Nat) (L : List (List Tr)) (_h : L.length ≤ 1048576) (_hs : ∀ (i j : Nat) (e : List Tr) (y : Tr), L[i]? = some e → e[j]? = some y → P y), P (.row m a cp L)) → P x0
theorem Sm.int (n : Int) : Sm (.int n) := fun _ c0 _ _ _ _ => c0 n
theorem Sm.bool (b : Bool) : Sm (.bool b) := fun _ _ c1 _ _ _ => c1 b
theorem Sm.str (s : ByteArray) : Sm (.str s) := fun _ _ _ c2 _ _ => c2 s
theorem Sm.byt {d : List Nat} {a : Option Addr} {cp : Nat} (h : d.length ≤ 1048576) : Sm (.byt d a cp) := fun _ _ _ _ c3 _ => c3 d a cp h
theorem Sm.row {m : Nat} {a : Option Addr} {cp : Nat} {L : List (List Tr)} (h : L.length ≤ 1048576) (hs : ∀ (i j : Nat) (e : List Tr) (y : Tr), L[i]? = some e → e[j]? = some y → Sm y) : Sm (.row m a cp L) := fun P c0 c1 c2 c3 c4 => c4 m a cp L h (fun i j e y hi hj => hs i j e y hi hj P c0 c1 c2 c3 c4)
theorem Sm.elim  {motive : (x0 : Tr) → Sm x0 → Prop}
    (int : ∀ (n : Int), motive (.int n) (.int n))
    (bool : ∀ (b : Bool), motive (.bool b) (.bool b))
    (str : ∀ (s : ByteArray), motive (.str s) (.str s))
    (byt : ∀ {d : List Nat} {a : Option Addr} {cp : Nat} (h : d.length ≤ 1048576), motive (.byt d a cp) (.byt h))
    (row : ∀ {m : Nat} {a : Option Addr} {cp : Nat} {L : List (List Tr)} (h : L.length ≤ 1048576) (hs : ∀ (i j : Nat) (e : List Tr) (y : Tr), L[i]? = some e → e[j]? = some y → Sm y), (∀ i j e y hi hj, motive y (hs i j e y hi hj)) → motive (.row m a cp L) (.row h hs))
    {x0 : Tr} (h : Sm x0) : motive x0 h :=
  (h (fun x0 => ∃ h : Sm x0, motive x0 h) (fun n => ⟨.int n, int n ⟩)
    (fun b => ⟨.bool b, bool b ⟩)
    (fun s => ⟨.str s, str s ⟩)
    (fun _ _ _ h => ⟨.byt h, byt h ⟩)
    (fun _ _ _ _ h hs => ⟨.row h (fun i j e y hi hj => (hs i j e y hi hj).elim fun a _ => a), row h (fun i j e y hi hj => (hs i j e y hi hj).elim fun a _ => a) (fun i j e y hi hj => (hs i j e y hi hj).elim fun _ b => b)⟩)).elim fun _ b => b
def SmR (L : List (List Tr)) : Prop := L.length ≤ 1048576 ∧ ∀ (i j : Nat) (e : List Tr) (y : Tr), L[i]? = some e → e[j]? = some y → Sm y
theorem Sm.inv {x : Tr} (h : Sm x) : (x.tell.tag = 3 → x.tell.d.length ≤ 1048576) ∧ (x.tell.tag = 4 → SmR x.L) := by
  cases h using Sm.elim with
  | int n => exact ⟨fun e => (by cases e), fun e => (by cases e)⟩
  | bool b => exact ⟨fun e => (by cases e), fun e => (by cases e)⟩
  | str s => exact ⟨fun e => (by cases e), fun e => (by cases e)⟩
  | byt h => exact ⟨fun _ => h, fun e => (by cases e)⟩
  | row h hs => exact ⟨fun e => (by cases e), fun _ => ⟨h, hs⟩⟩
theorem Sm.isByt {d : List Nat} {a : Option Addr} {cp : Nat} (h : Sm (.byt d a cp)) : d.length ≤ 1048576 := h.inv.1 rfl
theorem Sm.isRow {m : Nat} {a : Option Addr} {cp : Nat} {L : List (List Tr)} (h : Sm (.row m a cp L)) : SmR L := h.inv.2 rfl
theorem Rd.isByt {w : World} {d : List Nat} {a : Option Addr} {cp : Nat} (h : Rd w (.byt d a cp)) : SlB w a d.length d := (h.inv.2.2.1 rfl).2
theorem Rd.isInt {w : World} {n : Int} (h : Rd w (.int n)) : I64 n := h.inv.1 rfl
theorem Rd.isStr {w : World} {s : ByteArray} (h : Rd w (.str s)) : s.size ≤ maxLen := h.inv.2.1 rfl
theorem Rd.lenB {w : World} {d : List Nat} {a : Option Addr} {cp : Nat} (h : Rd w (.byt d a cp)) : d.length ≤ maxLen := (h.inv.2.2.1 rfl).1
theorem Rd.lenR {w : World} {m : Nat} {a : Option Addr} {cp : Nat} {L : List (List Tr)} (h : Rd w (.row m a cp L)) : L.length ≤ maxLen := h.row'.1
/-- what a row tells -/
abbrev tellR (L : List (List Tr)) : List (List Td) := L.map (fun e => e.map Tr.tell)
theorem tell_row (m : Nat) (a : Option Addr) (cp : Nat) (L : List (List Tr)) : (Tr.row m a cp L).tell = .row (tellR L) := rfl
theorem tellR_get {L L' : List (List Tr)} (h : tellR L = tellR L') {i : Nat} {e e' : List Tr} (hi : L[i]? = some e) (hi' : L'[i]? = some e') : e.map Tr.tell = e'.map Tr.tell := by
  have h1 : (tellR L)[i]? = some (e.map Tr.tell) := by simp [hi]
  have h2 : (tellR L')[i]? = some (e'.map Tr.tell) := by simp [hi']
  rw [h, h2] at h1; exact (Option.some.inj h1).symm
/-- the same but for draws -/
def SameT (w x : World) : Prop := x.heap = w.heap ∧ x.os = w.os ∧ x.tape = w.tape ∧ x.output = w.output
theorem SameT.grown {w x : World} (h : SameT w x) : w.grownBy x none := ⟨h.2.1, h.2.2.1, h.2.2.2, by rw [h.1]; exact Nat.le_refl _, fun k _ _ => by rw [h.1]⟩
theorem tdRows_append (A B : List (List Td)) : tdRows (A ++ B) = tdRows A + tdRows B := by
  induction A with
  | nil => simp [tdRows]
  | cons e A ih => simp [tdRows, ih]; omega
theorem tdEl_get {e : List Td} {j : Nat} {y : Td} (h : e[j]? = some y) : y.tot ≤ tdEl e := by
  induction e generalizing j with
  | nil => simp at h
  | cons z e ih =>
    cases j with
    | zero => simp at h; subst h; simp [tdEl]
    | succ j => have := ih (j := j) (by simpa using h); simp [tdEl]; omega
theorem tdRows_get {L : List (List Td)} {i : Nat} {e : List Td} (h : L[i]? = some e) : tdEl e ≤ tdRows L := by
  induction L generalizing i with
  | nil => simp at h
  | cons z L ih =>
    cases i with
    | zero => simp at h; subst h; simp [tdRows]
    | succ i => have := ih (i := i) (by simpa using h); simp [tdRows]; omega
/-- of a row; of its first k elements -/
def totR (L : List (List Tr)) : Nat := L.length + tdRows (tellR L)
def totTo (L : List (List Tr)) (k : Nat) : Nat := L.length + tdRows (tellR (L.take k))
theorem totTo_zero (L : List (List Tr)) : totTo L 0 = L.length := by simp [totTo, tdRows]
theorem totTo_all (L : List (List Tr)) : totTo L L.length = totR L := by simp [totTo, totR]
theorem totTo_succ {L : List (List Tr)} {k : Nat} {e : List Tr} (h : L[k]? = some e) : totTo L (k + 1) = totTo L k + tdEl (e.map Tr.tell) := by
  unfold totTo
  rw [List.take_add_one, h]; simp only [tellR, List.map_append, tdRows_append, Option.toList, List.map_cons, List.map_nil, tdRows]
  omega
theorem totTo_le (L : List (List Tr)) (k : Nat) : totTo L k ≤ totR L := by
  unfold totTo totR
  have h : tellR L = tellR (L.take k) ++ tellR (L.drop k) := by simp only [tellR]; rw [← List.map_append, List.take_append_drop]
  rw [h, tdRows_append]
  omega
theorem totR_len (L : List (List Tr)) : L.length ≤ totR L := by unfold totR; omega
theorem tot_row (m : Nat) (a : Option Addr) (cp : Nat) (L : List (List Tr)) : (Tr.row m a cp L).tell.tot = totR L := by
  show (tellR L).length + tdRows (tellR L) = totR L
  simp [totR]
theorem tot_byt (d : List Nat) (a : Option Addr) (cp : Nat) : (Tr.byt d a cp).tell.tot = d.length := rfl
theorem tot_str (s : ByteArray) : (Tr.str s).tell.tot = s.size := rfl
theorem tot_sub {L : List (List Tr)} {i j : Nat} {e : List Tr} {y : Tr} (hi : L[i]? = some e) (hj : e[j]? = some y) : y.tell.tot ≤ totR L := by
  have h1 : (tellR L)[i]? = some (e.map Tr.tell) := by simp [hi]
  have h2 : (e.map Tr.tell)[j]? = some y.tell := by simp [hj]
  have := tdRows_get h1; have := tdEl_get h2
  unfold totR
  omega
theorem Rd.sm {w : World} {x : Tr} (h : Rd w x) (hb : x.tell.tot ≤ 1048576) : Sm x := by
  induction h using Rd.elim with
  | int h => exact .int _
  | bool b => exact .bool b
  | str _ => exact .str _
  | byt _ h => rw [tot_byt] at hb; exact .byt hb
  | @row m a cp L _ hl hc _ ih =>
    rw [tot_row] at hb; have := totR_len L; exact .row (by omega) (fun i j e y hi hj => ih i j e y hi hj (by have := tot_sub hi hj; omega))
theorem RowOk.smR {w : World} {ks : List Ki} {a : Option Addr} {L : List (List Tr)} (h : RowOk w ks a L) (hb : totR L ≤ 1048576) : SmR L := by
  have := totR_len L; exact ⟨by omega, fun i j e y hi hj => ((h i e hi).2.1 y (List.mem_of_getElem? hj)).sm (by have := tot_sub hi hj; omega)⟩
/-- the same but for the places: as much -/
theorem totR_tell {L L' : List (List Tr)} (h : tellR L = tellR L') : totR L = totR L' := by
  have h1 : L.length = L'.length := by have := congrArg List.length h; simpa using this
  unfold totR
  rw [h, h1]
theorem load_el {P : Program} {w Y : World} {b o n : Nat} {e : List Tr} (hh : Y.heap = w.heap) (hn : e.length = n) (hc : ∀ (j : Nat) (y : Tr), e[j]? = some y → w.cell? ⟨b, o + j, none⟩ = some y.cell) : (loadCellsFrom ⟨b, o, none⟩ 0 n #[]).run P Y = .ok (e.map Tr.cell).toArray Y := by
  subst hn
  have h := run_loadCells_list (P := P) (w := Y) (a := ⟨b, o, none⟩) (cs := e.map Tr.cell) (fun j v hv => by
    rw [List.getElem?_map] at hv
    cases hj : e[j]? with
    | none => rw [hj] at hv; cases hv
    | some y =>
      rw [hj] at hv; obtain rfl := Option.some.inj hv; rw [add_noneT, World.cell?_of_block (w := w) (by rw [hh])]
      exact hc j y hj)
  rw [List.length_map] at h; exact h
theorem range_el {w Y : World} {b o : Nat} {e : List Tr} (hc : ∀ (j : Nat) (y : Tr), e[j]? = some y → w.cell? ⟨b, o + j, none⟩ = some y.cell) (hh : Y.heap = w.heap := by rfl) : Y.rangeAt b o (e.map Tr.cell) := fun j v hv => by
  rw [List.getElem?_map] at hv
  cases hj : e[j]? with
  | none => rw [hj] at hv; cases hv
  | some y =>
    rw [hj] at hv; obtain rfl := Option.some.inj hv; rw [World.cell?_of_block (w := w) (by rw [hh])]; exact hc j y hj
def Made (w : World) (lo : Nat) (x0 : Tr) : Prop :=
  ∀ P : Tr → Prop, (∀ (n : Int) (_h : I64 n), P (.int n)) →
    (∀ (b : Bool), P (.bool b)) →
    (∀ (s : ByteArray) (_h : s.size ≤ maxLen), P (.str s)) →
    (∀ (d : List Nat) (g : Nat) (cp : Nat) (_hg : lo ≤ g) (_hb : d.length ≤ 1048576) (_h : Own w 5 g d) (_hcp : cp = d.length), P (.byt d (some ⟨g, 0, none⟩) cp)) →
    (∀ (m : Nat) (g : Nat) (cp : Nat) (L : List (List Tr)) (_hg : lo ≤ g) (_hlt : g < w.heap.size) (_hb : L.length ≤ 1048576) (_hl : ∀ (i : Nat) (e : List Tr), L[i]? = some e → e.length = m) (_hc : ∀ (i : Nat) (e : List Tr), L[i]? = some e → w.rangeAt g (i * m) (e.map Tr.cell)) (_hf : ∀ o, w.frozen? ⟨g, o, none⟩ = false) (_hs : ∀ (i j : Nat) (e : List Tr) (y : Tr), L[i]? = some e → e[j]? = some y → P y), P (.row m (some ⟨g, 0, none⟩) cp L)) → P x0
theorem Made.int {w : World} {lo : Nat} {n : Int} (h : I64 n) : Made w lo (.int n) := fun _ c0 _ _ _ _ => c0 n h
theorem Made.bool {w : World} {lo : Nat} (b : Bool) : Made w lo (.bool b) := fun _ _ c1 _ _ _ => c1 b
theorem Made.str {w : World} {lo : Nat} {s : ByteArray} (h : s.size ≤ maxLen) : Made w lo (.str s) := fun _ _ _ c2 _ _ => c2 s h
theorem Made.byt {w : World} {lo : Nat} {d : List Nat} {g : Nat} {cp : Nat} (hg : lo ≤ g) (hb : d.length ≤ 1048576) (h : Own w 5 g d) (hcp : cp = d.length) : Made w lo (.byt d (some ⟨g, 0, none⟩) cp) := fun _ _ _ _ c3 _ => c3 d g cp hg hb h hcp
theorem Made.row {w : World} {lo : Nat} {m : Nat} {g : Nat} {cp : Nat} {L : List (List Tr)} (hg : lo ≤ g) (hlt : g < w.heap.size) (hb : L.length ≤ 1048576) (hl : ∀ (i : Nat) (e : List Tr), L[i]? = some e → e.length = m) (hc : ∀ (i : Nat) (e : List Tr), L[i]? = some e → w.rangeAt g (i * m) (e.map Tr.cell)) (hf : ∀ o, w.frozen? ⟨g, o, none⟩ = false) (hs : ∀ (i j : Nat) (e : List Tr) (y : Tr), L[i]? = some e → e[j]? = some y → Made w lo y) : Made w lo (.row m (some ⟨g, 0, none⟩) cp L) := fun P c0 c1 c2 c3 c4 => c4 m g cp L hg hlt hb hl hc hf (fun i j e y hi hj => hs i j e y hi hj P c0 c1 c2 c3 c4)
theorem Made.elim {w : World} {lo : Nat} {motive : (x0 : Tr) → Made w lo x0 → Prop}
    (int : ∀ {n : Int} (h : I64 n), motive (.int n) (.int h))
    (bool : ∀ (b : Bool), motive (.bool b) (.bool b))
    (str : ∀ {s : ByteArray} (h : s.size ≤ maxLen), motive (.str s) (.str h))
    (byt : ∀ {d : List Nat} {g : Nat} {cp : Nat} (hg : lo ≤ g) (hb : d.length ≤ 1048576) (h : Own w 5 g d) (hcp : cp = d.length), motive (.byt d (some ⟨g, 0, none⟩) cp) (.byt hg hb h hcp))
    (row : ∀ {m : Nat} {g : Nat} {cp : Nat} {L : List (List Tr)} (hg : lo ≤ g) (hlt : g < w.heap.size) (hb : L.length ≤ 1048576) (hl : ∀ (i : Nat) (e : List Tr), L[i]? = some e → e.length = m) (hc : ∀ (i : Nat) (e : List Tr), L[i]? = some e → w.rangeAt g (i * m) (e.map Tr.cell)) (hf : ∀ o, w.frozen? ⟨g, o, none⟩ = false) (hs : ∀ (i j : Nat) (e : List Tr) (y : Tr), L[i]? = some e → e[j]? = some y → Made w lo y), (∀ i j e y hi hj, motive y (hs i j e y hi hj)) → motive (.row m (some ⟨g, 0, none⟩) cp L) (.row hg hlt hb hl hc hf hs))
    {x0 : Tr} (h : Made w lo x0) : motive x0 h :=
  (h (fun x0 => ∃ h : Made w lo x0, motive x0 h) (fun _ h => ⟨.int h, int h ⟩)
    (fun b => ⟨.bool b, bool b ⟩)
    (fun _ h => ⟨.str h, str h ⟩)
    (fun _ _ _ hg hb h hcp => ⟨.byt hg hb h hcp, byt hg hb h hcp ⟩)
    (fun _ _ _ _ hg hlt hb hl hc hf hs => ⟨.row hg hlt hb hl hc hf (fun i j e y hi hj => (hs i j e y hi hj).elim fun a _ => a), row hg hlt hb hl hc hf (fun i j e y hi hj => (hs i j e y hi hj).elim fun a _ => a) (fun i j e y hi hj => (hs i j e y hi hj).elim fun _ b => b)⟩)).elim fun _ b => b
theorem World.frozen?_of_blockT {w w' : World} {a : Addr} (h : w'.heap[a.block]? = w.heap[a.block]?) : w'.frozen? a = w.frozen? a := by simp [World.frozen?, h]
theorem Made.keep {w w' : World} {lo : Nat} {x : Tr} (h : Made w lo x) (hsz : w.heap.size ≤ w'.heap.size) (hk : ∀ k, lo ≤ k → k < w.heap.size → w'.heap[k]? = w.heap[k]?) : Made w' lo x := by
  induction h using Made.elim with
  | int h => exact .int h
  | bool b => exact .bool b
  | str h => exact .str h
  | byt hg hb h hcp => exact .byt hg hb (h.of_block (hk _ hg (by obtain ⟨_, cur, hc, _⟩ := h; exact (Array.getElem?_eq_some_iff.1 hc).1))) hcp
  | row hg hlt hb hl hc hf _ ih =>
    exact .row hg (by omega) hb hl (fun i e hi j v hv => (World.cell?_of_block (hk _ hg hlt)).trans (hc i e hi j v hv)) (fun o => (World.frozen?_of_blockT (hk _ hg hlt)).trans (hf o)) ih
theorem Made.grown0 {w w' : World} {lo : Nat} {x : Tr} (h : Made w lo x) (hg : w.grownBy w' none) : Made w' lo x := h.keep hg.size (fun k _ hk => hg.block k hk (by simp))
theorem Made.low {w : World} {lo lo' : Nat} {x : Tr} (h : Made w lo x) (hle : lo' ≤ lo) : Made w lo' x := by
  induction h using Made.elim with
  | int h => exact .int h
  | bool b => exact .bool b
  | str h => exact .str h
  | byt hg hb h hcp => exact .byt (by omega) hb h hcp
  | row hg hlt hb hl hc hf _ ih => exact .row (by omega) hlt hb hl hc hf ih
theorem heap_setCells_other (b : Nat) : ∀ (vs : List Value) (o : Nat) (w : World) (k : Nat), k ≠ b → (w.setCells b o vs).heap[k]? = w.heap[k]?
  | [], _, _, _, _ => rfl
  | v :: r, o, w, k, h => by rw [World.setCells, heap_setCells_other b r (o + 1) _ k h, heap_setCell_other _ _ _ _ h]
theorem size_setCells (b : Nat) : ∀ (vs : List Value) (o : Nat) (w : World), (w.setCells b o vs).heap.size = w.heap.size
  | [], _, _ => rfl
  | v :: r, o, w => by rw [World.setCells, size_setCells b r (o + 1) _]; simp [World.setCell]
theorem grownBy_setCellsN {w0 : World} {b : Nat} (hb : w0.heap.size ≤ b) : ∀ (vs : List Value) (o : Nat) (w : World), w0.grownBy w none → w0.grownBy (w.setCells b o vs) none
  | [], _, _, h => h
  | v :: r, o, w, h => by rw [World.setCells]; exact grownBy_setCellsN hb r (o + 1) _ (grownBy_setNew h hb)
theorem Made.setCells {w : World} {lo b o : Nat} {vs : List Value} {x : Tr} (h : Made w lo x) (hb : b < lo) : Made (w.setCells b o vs) lo x :=
  h.keep (by rw [size_setCells]; exact Nat.le_refl _) (fun k hk _ => heap_setCells_other b vs o w k (by omega))
theorem Made.rd {w : World} {lo : Nat} {x : Tr} (h : Made w lo x) : Rd w x := by
  induction h using Made.elim with
  | int h => exact .int h
  | bool b => exact .bool b
  | str h => exact .str h
  | @byt d g cp hg hb h _ => exact .byt (by unfold maxLen; omega) (h.sl _ rfl)
  | @row m g cp L hg hlt hb hl hc hf _ ih =>
    refine .row (by unfold maxLen; omega) hl (fun i j e y hi hj => ⟨g, 0, rfl, ?_⟩) ih; rw [Nat.zero_add]; exact hc i e hi j _ (by rw [List.getElem?_map, hj]; rfl)
theorem Made.inv {w : World} {lo : Nat} {x : Tr} (h : Made w lo x) : (x.tell.tag = 3 → ∃ g, x.a = some ⟨g, 0, none⟩ ∧ lo ≤ g ∧ x.tell.d.length ≤ 1048576 ∧ Own w 5 g x.tell.d ∧ x.cp = x.tell.d.length) ∧ (x.tell.tag = 4 → ∀ (i j : Nat) (e : List Tr) (y : Tr), x.L[i]? = some e → e[j]? = some y → Made w lo y) := by
  cases h using Made.elim with
  | int h => exact ⟨fun e => (by cases e), fun e => (by cases e)⟩
  | bool b => exact ⟨fun e => (by cases e), fun e => (by cases e)⟩
  | str h => exact ⟨fun e => (by cases e), fun e => (by cases e)⟩
  | byt hg hb h hcp => exact ⟨fun _ => ⟨_, rfl, hg, hb, h, hcp⟩, fun e => (by cases e)⟩
  | row _ _ _ _ _ _ hs => exact ⟨fun e => (by cases e), fun _ => hs⟩
theorem InB.inv {x : Tr} {k : Nat} (h : InB x k) : (x.tell.tag = 3 ∨ x.tell.tag = 4) ∧ (x.tell.tag = 3 → ∀ a, x.a = some a → k = a.block) ∧ (x.tell.tag = 4 → (∃ a, x.a = some a ∧ k = a.block) ∨ ∃ (i j : Nat) (e : List Tr) (y : Tr), x.L[i]? = some e ∧ e[j]? = some y ∧ InB y k) := by
  cases h using InB.elim with
  | byt => exact ⟨.inl rfl, fun _ a ha => by cases ha; rfl, fun e => (by cases e)⟩
  | here => exact ⟨.inr rfl, fun e => (by cases e), fun _ => .inl ⟨_, rfl, rfl⟩⟩
  | sub hi hj h => exact ⟨.inr rfl, fun e => (by cases e), fun _ => .inr ⟨_, _, _, _, hi, hj, h⟩⟩
theorem Made.lt {w : World} {lo : Nat} {x : Tr} (h : Made w lo x) : ∀ k, InB x k → lo ≤ k ∧ k < w.heap.size := by
  induction h using Made.elim with
  | int _ => intro k hk; exact absurd hk.inv.1 (by show ¬ ((0 : Nat) = 3 ∨ (0 : Nat) = 4); decide)
  | bool b => intro k hk; exact absurd hk.inv.1 (by show ¬ ((1 : Nat) = 3 ∨ (1 : Nat) = 4); decide)
  | str h => intro k hk; exact absurd hk.inv.1 (by show ¬ ((2 : Nat) = 3 ∨ (2 : Nat) = 4); decide)
  | @byt d g cp hg hb h =>
    intro k hk; have hk' : k = g := hk.inv.2.1 rfl _ rfl; subst hk'; obtain ⟨_, cur, hc, _⟩ := h; exact ⟨hg, (Array.getElem?_eq_some_iff.1 hc).1⟩
  | row hg hlt hb hl hc hf _ ih =>
    intro k hk
    rcases hk.inv.2.2 rfl with ⟨a, ha, rfl⟩ | ⟨i, j, e, y, hi, hj, h⟩
    · cases ha
      exact ⟨hg, hlt⟩
    · exact ih i j e y hi hj k h
/-- out of a block: a fact on it in a later world -/
theorem grown_blk {W w' : World} {k : Nat} {o : Obj} (h : W.grownBy w' none) (hb : W.heap[k]? = some o) : w'.heap[k]? = some o :=
  (h.block k (Array.getElem?_eq_some_iff.1 hb).1 (by simp)).trans hb
theorem set_blk {W : World} {b : Nat} {cur : Array Value} {t : TypeId} (j : Nat) (v : Value) (h : W.heap[b]? = some (.cells cur t (0, 0))) : (W.setCell ⟨b, j, none⟩ v).heap[b]? = some (.cells (cur.setIfInBounds j v) t (0, 0)) := heap_setCell_same W b j cur t v h
theorem set_blkL {W : World} {b : Nat} {L : List Value} {t : TypeId} (j : Nat) (v : Value) (h : W.heap[b]? = some (.cells L.toArray t (0, 0))) : (W.setCell ⟨b, j, none⟩ v).heap[b]? = some (.cells (L.set j v).toArray t (0, 0)) := by
  have h1 := set_blk j v h
  rwa [List.setIfInBounds_toArray] at h1
theorem set_oth {W : World} {b b' : Nat} {o : Obj} (j : Nat) (v : Value) (hne : b' ≠ b) (h : W.heap[b']? = some o) : (W.setCell ⟨b, j, none⟩ v).heap[b']? = some o := (heap_setCell_other W ⟨b, j, none⟩ b' v hne).trans h
/-- a row that was made: whatever it holds, its cells are there -/
theorem there_of_block {w : World} {g : Nat} {cur : Array Value} {t : TypeId} {n : Nat} (h : w.heap[g]? = some (.cells cur t (0, 0))) (hn : n ≤ cur.size) : w.there g 0 n ∧ ∀ o, w.frozen? ⟨g, o, none⟩ = false := by
  have hf : ∀ o, w.frozen? ⟨g, o, none⟩ = false := fun o => by simp [World.frozen?, h]
  refine ⟨fun j hj => ⟨?_, by rw [Nat.zero_add]; exact hf j⟩, hf⟩; rw [Nat.zero_add, cell_of_row w g j cur t (0, 0) h, Array.getElem?_eq_getElem (by omega)]
  rfl
theorem there_sub {w : World} {g n o k : Nat} (h : w.there g 0 n) (hk : o + k ≤ n) : w.there g o k := fun j hj => by
  have := h (o + j) (by omega)
  rwa [Nat.zero_add] at this
/-- a row as it is filled -/
structure Fill (w wr : World) (g n m : Nat) (L M : List (List Tr)) (ks : List Ki) : Prop where
  lt : g < wr.heap.size
  there : wr.there g 0 (n * m)
  free : ∀ o, wr.frozen? ⟨g, o, none⟩ = false
  cells : ∀ (i : Nat) (e : List Tr), M[i]? = some e → wr.rangeAt g (i * m) (e.map Tr.cell)
  fit : ∀ e ∈ M, FitsL e ks
  made : ∀ e ∈ M, ∀ y ∈ e, Made wr (g + 1) y
  tell : tellR M = tellR (L.take M.length)
  grown : w.grownBy wr none
theorem Fill.step {w wr w1 : World} {g n m : Nat} {L M : List (List Tr)} {ks : List Ki} (h : Fill w wr g n m L M ks) (hg : w.heap.size ≤ g) (hkm : ks.length = m) (hG : wr.grownBy w1 none) {e e' : List Tr} (he : L[M.length]? = some e) (hM : M.length < n) (hf : FitsL e' ks)
    (hmd : ∀ y ∈ e', Made w1 (g + 1) y) (ht : e'.map Tr.tell = e.map Tr.tell) : Fill w (w1.setCells g (M.length * m) (e'.map Tr.cell)) g n m L (M ++ [e']) ks := by
  have hlen : (e'.map Tr.cell).length = m := by rw [List.length_map, hf.1, hkm]
  have hb := bcell hG
  have hth : w1.there g 0 (n * m) := fun j hj => by
    obtain ⟨h1, h2⟩ := h.there j hj; exact ⟨by rw [hb.1 _ _ h.lt]; exact h1, by rw [hb.2 _ _ h.lt]; exact h2⟩
  have hin : M.length * m + m ≤ n * m := by
    have h9 := Nat.mul_le_mul_right m (show M.length + 1 ≤ n by omega); rw [Nat.succ_mul] at h9; exact h9
  refine ⟨by rw [size_setCells]; have := hG.size; have := h.lt; omega, World.there_setCells hth _ _ _, fun o => by rw [World.frozen?_setCells, hb.2 _ _ h.lt]; exact h.free o, fun i x hi => ?_, fun x hx => ?_, fun x hx => ?_, ?_, grownBy_setCellsN hg _ _ _ (grownBy_trans h.grown hG)⟩
  · rcases Nat.lt_or_ge i M.length with hil | hil
    · rw [List.getElem?_append_left hil] at hi
      have h1 : w1.rangeAt g (i * m) (x.map Tr.cell) := fun j v hv => (hb.1 _ _ h.lt).trans (h.cells i x hi j v hv)
      refine World.rangeAt_setCells_apart h1 _ _ _ (.inr (.inl ?_)); have h2 := h.fit x (List.mem_of_getElem? hi); rw [List.length_map, h2.1, hkm]; have h9 := Nat.mul_le_mul_right m (show i + 1 ≤ M.length by omega); rw [Nat.succ_mul] at h9; exact h9
    · rw [List.getElem?_append_right hil] at hi
      have h0 : i - M.length < 1 := by have := (List.getElem?_eq_some_iff.1 hi).1; simpa using this
      have e0 : i - M.length = 0 := by omega
      rw [e0] at hi
      obtain rfl : e' = x := by simpa using hi
      obtain rfl : i = M.length := by omega
      exact World.rangeAt_setCells_same _ _ _ _ (by rw [hlen]; exact there_sub hth hin)
  · rcases List.mem_append.1 hx with hx | hx
    · exact h.fit x hx
    · obtain rfl : x = e' := by simpa using hx
      exact hf
  · rcases List.mem_append.1 hx with hx | hx
    · exact fun y hy => ((h.made x hx y hy).grown0 hG).setCells (by omega)
    · obtain rfl : x = e' := by simpa using hx
      exact fun y hy => (hmd y hy).setCells (by omega)
  · rw [List.length_append, List.length_singleton, List.take_add_one, he]; have h1 := h.tell; simp only [tellR, List.map_append, Option.toList, List.map_cons, List.map_nil, ht] at h1 ⊢; rw [h1]
theorem Fill.all {w wr : World} {g n m cp : Nat} {L M : List (List Tr)} {ks : List Ki} (h : Fill w wr g n m L M ks) (hkm : ks.length = m) (hM : M.length = n) (hL : L.length = n) (hn : n ≤ 1048576) :
    Made wr g (.row ks.length (some ⟨g, 0, none⟩) cp M) ∧ Fits (.row ks.length (some ⟨g, 0, none⟩) cp M) (.row ks) ∧ tellR M = tellR L := by
  have hfi : ∀ (i : Nat) (e : List Tr), M[i]? = some e → FitsL e ks := fun i e hi => h.fit e (List.mem_of_getElem? hi)
  refine ⟨.row (Nat.le_refl _) h.lt (by omega) (fun i e hi => (hfi i e hi).1) (fun i e hi => by rw [hkm]; exact h.cells i e hi) h.free (fun i j e y hi hj => (h.made e (List.mem_of_getElem? hi) y (List.mem_of_getElem? hj)).low (by omega)), .row (fun i e hi => (hfi i e hi).1) (fun i j e y k hi hj hk => (hfi i e hi).2 j y k hj hk), ?_⟩; rw [h.tell, hM, ← hL, List.take_length]
theorem results_cell1 {fn : Func} {p : Tmp} {ty : TypeId} (h : fn.results = #[.cell p ty]) (tmps : Array Value) (P : Program) (w : World) :
    (results fn tmps).run P w = ((asAddr (tmps.getD p undef)).run P w).andThen fun a w₁ => (loadVar ty a).run P w₁ := by
  simp only [results, h]
  simp [Sem.run_bind]
theorem results_ret {fn : Func} {p : Tmp} {ty : TypeId} (h : fn.results = #[.cell p ty]) {tmps : Array Value} {P : Program} {w : World} {v : Value} {a : Addr} (hp : tmps.getD p undef = .pointer (some a)) (hl : (loadVar ty a).run P w = .ok v w) :
    (results fn tmps).run P w = .ok v w := by
  rw [results_cell1 h, hp]
  simp [asAddr, Result.andThen, hl]
end Go.Proofs.YtjnegjgpkboocaaGreatDoor

/-
  Base, OpenB, Tree, Tree2, Tot, TreeL, MadeT, App, Small, RegZ, Hold, Ov, Ov2, Ov3, Ov4, Dk0, Dk1, Dk2, Dk3, Dk4, Mp, Dk5, Dk6, Dk7
-/
import Derived.WalkKit
import Derived.WalkSpells
import Derived.WalkLawsBesides
import Derived.Below
import Derived.ProofKit
import Derived.OpenShut
import Derived.Laws.Cells
import Derived.Deep.MidRow
import Derived.Deep.AppendLies
import Derived.Deep.RegionHeld3
import Derived.Test.YtgehhfncjoogiaaGreatDoorChecked
import Derived.OrdersHeld
import Derived.StillTail
import Derived.KernelRfl
import Derived.Laws.CopyOwn
import Derived.Lib.AppendZerosOnto
import Derived.Deep.CutRange
import Derived.Maps.Own
import Derived.Maps.OwnOps
import Derived.Maps.OwnSet
import Derived.StringKeys
namespace Go.Proofs.YtgehhfncjoogiaaGreatDoor
open Go.RowKit

theorem ret_bool {a b : Bool} (h : a = b) : Ending.returned (.bool a) = .returned (.bool b) := by rw [h]
def bv (n : Nat) : Value := .int .u8 (n : Int)

def SlB (w : World) (oa : Option Addr) (len : Nat) (zs : List Nat) : Prop :=
  zs.length = len ∧ (∀ z ∈ zs, z < 256) ∧ (len ≠ 0 → ∃ b off, oa = some ⟨b, off, none⟩ ∧ ∀ i, i < len → w.cell? ⟨b, off + i, none⟩ = some (.int .u8 ((zs.getD i 0 : Nat) : Int)))

def Own (w : World) (e : TypeId) (g : Nat) (zs : List Nat) : Prop :=
  (∀ z ∈ zs, z < 256) ∧ ∃ cur : Array Value, w.heap[g]? = some (.cells cur e (0, 0)) ∧ ∀ i, i < zs.length → cur[i]? = some (.int .u8 ((zs.getD i 0 : Nat) : Int))

theorem cell_block_lt {w : World} {a : Addr} {v : Value} (h : w.cell? a = some v) : a.block < w.heap.size := by
  unfold World.cell? at h
  cases hb : w.heap[a.block]? with
  | none => rw [hb] at h; simp at h
  | some o => exact (Array.getElem?_eq_some_iff.1 hb).1

theorem Own.cell {w : World} {e : TypeId} {g : Nat} {zs : List Nat} (h : Own w e g zs) (i : Nat) (hi : i < zs.length) : w.cell? ⟨g, i, none⟩ = some (.int .u8 ((zs.getD i 0 : Nat) : Int)) := by
  obtain ⟨_, cur, hg, hc⟩ := h; simp only [World.cell?, hg]
  simpa using hc i hi
theorem Own.sl {w : World} {e : TypeId} {g : Nat} {zs : List Nat} (h : Own w e g zs) (len : Nat) (hl : zs.length = len) : SlB w (some ⟨g, 0, none⟩) len zs :=
  ⟨hl, h.1, fun _ => ⟨g, 0, rfl, fun i hi => by rw [Nat.zero_add]; exact h.cell i (by omega)⟩⟩
theorem grownBy_setCell {w0 w : World} {g i : Nat} {u : Value} (h : w0.grownBy w (some g)) : w0.grownBy (w.setCell ⟨g, i, none⟩ u) (some g) :=
  ⟨h.os, h.tape, h.output, by simpa [World.setCell] using h.size, fun k hk hne => (heap_setCell_other w ⟨g, i, none⟩ k u (fun e1 => hne (by simp [e1]))).trans (h.block k hk hne)⟩
theorem grownBy_refl (w : World) (row : Option Nat) : w.grownBy w row := ⟨rfl, rfl, rfl, Nat.le_refl _, fun _ _ _ => rfl⟩
theorem grownBy_weak {w w' : World} {row : Option Nat} (h : w.grownBy w' none) : w.grownBy w' row := ⟨h.os, h.tape, h.output, h.size, fun k hk _ => h.block k hk (by simp)⟩
theorem grownBy_trans {a b c : World} {row : Option Nat} (h : a.grownBy b row) (k : b.grownBy c row) : a.grownBy c row :=
  ⟨k.os.trans h.os, k.tape.trans h.tape, k.output.trans h.output, Nat.le_trans h.size k.size, fun j hj hne => (k.block j (Nat.lt_of_lt_of_le hj h.size) hne).trans (h.block j hj hne)⟩
theorem grownBy_new {a b c : World} {g : Nat} (h : a.grownBy b none) (k : b.grownBy c (some g)) (hg : a.heap.size ≤ g) : a.grownBy c none :=
  ⟨k.os.trans h.os, k.tape.trans h.tape, k.output.trans h.output, Nat.le_trans h.size k.size, fun j hj hne =>
    (k.block j (Nat.lt_of_lt_of_le hj h.size) (by simp only [ne_eq, Option.some.injEq]; omega)).trans (h.block j hj hne)⟩
theorem grownBy_drew {w w' : World} {row : Option Nat} (h : w.grownBy w' row) : w.grownBy w'.drew row := ⟨h.os, h.tape, h.output, h.size, h.block⟩
theorem grownBy_alloc {w w' : World} {row : Option Nat} (h : w.grownBy w' row) (o : Obj) : w.grownBy (w'.alloc o) row := grownBy_trans h (World.grownBy_alloc w' o row)
theorem below_of_grown {w w' : World} (h : w.grownBy w' none) : Below w.heap.size w w' := ⟨h.os, h.tape, h.output, h.size, fun k hk => h.block k hk (by simp)⟩
theorem SlB.grown {w w' : World} {row : Option Nat} {oa : Option Addr} {len : Nat} {zs : List Nat} (h : SlB w oa len zs) (hg : w.grownBy w' row) (hne : ∀ b off, oa = some ⟨b, off, none⟩ → some b ≠ row) : SlB w' oa len zs := by
  obtain ⟨h1, h2, h3⟩ := h; refine ⟨h1, h2, fun hn => ?_⟩; obtain ⟨b, off, rfl, hc⟩ := h3 hn; exact ⟨b, off, rfl, fun i hi => (World.cell?_of_block (w := w) (a := ⟨b, off + i, none⟩) (hg.block b (cell_block_lt (hc i hi)) (hne b off rfl))).trans (hc i hi)⟩
theorem SlB.grown0 {w w' : World} {oa : Option Addr} {len : Nat} {zs : List Nat} (h : SlB w oa len zs) (hg : w.grownBy w' none) : SlB w' oa len zs := h.grown hg (by simp)
theorem own_made {w' : World} {base e : Nat} {g n cap : Nat} {zs : List Nat} (h : w'.ownsRow base e 1 (.slice (some ⟨g, 0, none⟩) n cap) n (zs.map bv)) (hz : ∀ z ∈ zs, z < 256) : Own w' e g zs := by
  rcases h.2 with ⟨h', _⟩ | ⟨g', cap', cur, h', _, hg, _, _, _, htake⟩
  · simp at h'
  · simp only [Value.slice.injEq, Option.some.injEq, Addr.mk.injEq, and_true, true_and] at h'; obtain ⟨rfl, rfl⟩ := h'; refine ⟨hz, cur, hg, fun i hi => ?_⟩
    have hl : zs.length = n := by simpa using h.1
    have h2 : (cur.toList.take (n * 1))[i]? = (zs.map bv)[i]? := by rw [htake]
    rw [List.getElem?_take, if_pos (by omega)] at h2; rw [← Array.getElem?_toList, h2]
    simp [List.getD, hi, bv]
theorem grownBy_setNew {w0 w : World} {a : Addr} {u : Value} (h : w0.grownBy w none) (ha : w0.heap.size ≤ a.block) : w0.grownBy (w.setCell a u) none :=
  ⟨h.os, h.tape, h.output, by simpa [World.setCell] using h.size, fun k hk hne => (heap_setCell_other w a k u (by omega)).trans (h.block k hk hne)⟩
theorem bcell {W w1 : World} (hb : W.grownBy w1 none) : (∀ b o, b < W.heap.size → w1.cell? ⟨b, o, none⟩ = W.cell? ⟨b, o, none⟩) ∧ (∀ b o, b < W.heap.size → w1.frozen? ⟨b, o, none⟩ = W.frozen? ⟨b, o, none⟩) :=
  ⟨fun b o h => (below_of_grown hb).cell (p := ⟨b, o, none⟩) h, fun b o h => (below_of_grown hb).frozen (p := ⟨b, o, none⟩) h⟩
theorem zq1 {α : Type _} {xs : List α} {i : Nat} {x : α} : xs.toArray.setIfInBounds i x = (xs.set i x).toArray := List.setIfInBounds_toArray ..
theorem zq2 {α : Type _} {x : α} {xs : List α} {b : α} : (x :: xs).set 0 b = b :: xs := rfl
theorem zq3 {α : Type _} {x : α} {xs : List α} {n : Nat} {b : α} : (x :: xs).set (n + 1) b = x :: xs.set n b := rfl
theorem zCr {w : World} {g j : Nat} {cs : Array Value} {t : TypeId} {fr : Nat × Nat} (hg : w.heap[g]? = some (.cells cs t fr)) : w.cell? ⟨g, j, none⟩ = cs[j]? := cell_of_row w g j cs t fr hg
end Go.Proofs.YtgehhfncjoogiaaGreatDoor
namespace Go.Proofs.YtgehhfncjoogiaaGreatDoor
open Go.ChangeShapes Go.WideShapes Go.ChangeAt Go.RowKit

theorem u8_bounds {n : Int} (h : (Lit.int .u8 n).wf = true) : 0 ≤ n ∧ n < 256 := by
  have := bounds_u8 h
  omega

theorem slb_open {H : Type} {enc : TypeId × Value → H} {P : Program} {W : World} {t e : TypeId} {a : Option Addr} {len cap : Nat} {d : DataW H} {p : List MemPlace}
    (hu : P.underlying t = some (.slice e)) (he : P.underlying e = some (.int .u8)) (hc : P.cellsOf e = 1)
    (h : DataW.Trod enc P W 0 (fun _ => true) true t (.slice a len cap) d p) : ∃ zs, SlB W a len zs ∧ len ≤ maxLen := by
  obtain ⟨fuel, hf⟩ := h
  rcases open_ints hu he hc hf with ⟨hcs, _⟩ | ⟨x, l, c, zs, hcs, _, hl, hm, hz, _, hcell, hwz⟩
  · simp [Value.cells] at hcs
    obtain ⟨rfl, rfl, rfl⟩ := hcs; exact ⟨[], ⟨rfl, by simp, fun h => absurd rfl h⟩, Nat.zero_le _⟩
  · simp [Value.cells] at hcs
    obtain ⟨rfl, rfl, rfl⟩ := hcs
    have hz' : zs.length = cap := by simpa using hz
    refine ⟨(zs.take len).map Int.toNat, ⟨by simp; omega, ?_, fun hn => ?_⟩, by omega⟩
    · intro z hz1; obtain ⟨n, hn, rfl⟩ := List.mem_map.1 hz1; have := u8_bounds (hwz n (List.mem_of_mem_take hn))
      omega
    · obtain ⟨b, off, spot⟩ := x; have h0 := hcell 0 (by omega)
      have hspot : spot = none := by simpa [Addr.add] using World.cell?_spot h0
      subst hspot; refine ⟨b, off, rfl, fun i hi => ?_⟩; have hi' := hcell i (by omega); have hb := u8_bounds (hwz (zs.getD i 0) (by simp [List.getD, show i < zs.length by omega]))
      have e1 : ((((zs.take len).map Int.toNat).getD i 0 : Nat) : Int) = zs.getD i 0 := by
        have : ((zs.take len).map Int.toNat).getD i 0 = (zs.getD i 0).toNat := by
          simp [List.getD, hi, show i < zs.length by omega]
        rw [this]; omega
      rw [e1]
      have e2 : (⟨b, off, none⟩ : Addr).add i = ⟨b, off + i, none⟩ := by
        by_cases h0' : i = 0 <;> simp [Addr.add, h0']
      rw [← e2]; exact hi'
structure Td where
  tag : Nat
  n : Int
  b : Bool
  s : ByteArray
  d : List Nat
  L : List (List Td)
  tot : Nat
def tdEl : List Td → Nat
  | [] => 0
  | y :: e => y.tot + tdEl e
def tdRows : List (List Td) → Nat
  | [] => 0
  | e :: L => tdEl e + tdRows L
abbrev Td.int (n : Int) : Td := ⟨0, n, false, .empty, [], [], 0⟩
abbrev Td.bool (b : Bool) : Td := ⟨1, 0, b, .empty, [], [], 0⟩
abbrev Td.str (s : ByteArray) : Td := ⟨2, 0, false, s, [], [], s.size⟩
abbrev Td.byt (d : List Nat) : Td := ⟨3, 0, false, .empty, d, [], d.length⟩
abbrev Td.row (L : List (List Td)) : Td := ⟨4, 0, false, .empty, [], L, L.length + tdRows L⟩
structure Tr where
  cell : Value
  tell : Td
  a : Option Addr
  cp : Nat
  m : Nat
  L : List (List Tr)
abbrev Tr.int (n : Int) : Tr := ⟨.int .i64 n, .int n, none, 0, 0, []⟩
abbrev Tr.bool (b : Bool) : Tr := ⟨.bool b, .bool b, none, 0, 0, []⟩
abbrev Tr.str (s : ByteArray) : Tr := ⟨.string s, .str s, none, 0, 0, []⟩
abbrev Tr.byt (d : List Nat) (a : Option Addr) (cp : Nat) : Tr := ⟨.slice a d.length cp, .byt d, a, cp, 0, []⟩
abbrev Tr.row (m : Nat) (a : Option Addr) (cp : Nat) (L : List (List Tr)) : Tr := ⟨.slice a L.length cp, .row (L.map (fun e => e.map Tr.tell)), a, cp, m, L⟩
def I64 (n : Int) : Prop := -9223372036854775808 ≤ n ∧ n ≤ 9223372036854775807
def Rd (w : World) (x0 : Tr) : Prop :=
  ∀ P : Tr → Prop, (∀ (n : Int) (_h : I64 n), P (.int n)) →
    (∀ (b : Bool), P (.bool b)) →
    (∀ (s : ByteArray) (_h : s.size ≤ maxLen), P (.str s)) →
    (∀ (d : List Nat) (a : Option Addr) (cp : Nat) (_hb : d.length ≤ maxLen) (_h : SlB w a d.length d), P (.byt d a cp)) →
    (∀ (m : Nat) (a : Option Addr) (cp : Nat) (L : List (List Tr)) (_hb : L.length ≤ maxLen) (_hl : ∀ (i : Nat) (e : List Tr), L[i]? = some e → e.length = m) (_hc : ∀ (i j : Nat) (e : List Tr) (y : Tr), L[i]? = some e → e[j]? = some y → ∃ b off, a = some ⟨b, off, none⟩ ∧ w.cell? ⟨b, off + i * m + j, none⟩ = some y.cell) (_hr : ∀ (i j : Nat) (e : List Tr) (y : Tr), L[i]? = some e → e[j]? = some y → P y), P (.row m a cp L)) → P x0
theorem Rd.int {w : World} {n : Int} (h : I64 n) : Rd w (.int n) := fun _ c0 _ _ _ _ => c0 n h
theorem Rd.bool {w : World} (b : Bool) : Rd w (.bool b) := fun _ _ c1 _ _ _ => c1 b
theorem Rd.str {w : World} {s : ByteArray} (h : s.size ≤ maxLen) : Rd w (.str s) := fun _ _ _ c2 _ _ => c2 s h
theorem Rd.byt {w : World} {d : List Nat} {a : Option Addr} {cp : Nat} (hb : d.length ≤ maxLen) (h : SlB w a d.length d) : Rd w (.byt d a cp) := fun _ _ _ _ c3 _ => c3 d a cp hb h
theorem Rd.row {w : World} {m : Nat} {a : Option Addr} {cp : Nat} {L : List (List Tr)} (hb : L.length ≤ maxLen) (hl : ∀ (i : Nat) (e : List Tr), L[i]? = some e → e.length = m) (hc : ∀ (i j : Nat) (e : List Tr) (y : Tr), L[i]? = some e → e[j]? = some y → ∃ b off, a = some ⟨b, off, none⟩ ∧ w.cell? ⟨b, off + i * m + j, none⟩ = some y.cell) (hr : ∀ (i j : Nat) (e : List Tr) (y : Tr), L[i]? = some e → e[j]? = some y → Rd w y) : Rd w (.row m a cp L) := fun P c0 c1 c2 c3 c4 => c4 m a cp L hb hl hc (fun i j e y hi hj => hr i j e y hi hj P c0 c1 c2 c3 c4)
theorem Rd.elim {w : World} {motive : (x0 : Tr) → Rd w x0 → Prop}
    (int : ∀ {n : Int} (h : I64 n), motive (.int n) (.int h))
    (bool : ∀ (b : Bool), motive (.bool b) (.bool b))
    (str : ∀ {s : ByteArray} (h : s.size ≤ maxLen), motive (.str s) (.str h))
    (byt : ∀ {d : List Nat} {a : Option Addr} {cp : Nat} (hb : d.length ≤ maxLen) (h : SlB w a d.length d), motive (.byt d a cp) (.byt hb h))
    (row : ∀ {m : Nat} {a : Option Addr} {cp : Nat} {L : List (List Tr)} (hb : L.length ≤ maxLen) (hl : ∀ (i : Nat) (e : List Tr), L[i]? = some e → e.length = m) (hc : ∀ (i j : Nat) (e : List Tr) (y : Tr), L[i]? = some e → e[j]? = some y → ∃ b off, a = some ⟨b, off, none⟩ ∧ w.cell? ⟨b, off + i * m + j, none⟩ = some y.cell) (hr : ∀ (i j : Nat) (e : List Tr) (y : Tr), L[i]? = some e → e[j]? = some y → Rd w y), (∀ i j e y hi hj, motive y (hr i j e y hi hj)) → motive (.row m a cp L) (.row hb hl hc hr))
    {x0 : Tr} (h : Rd w x0) : motive x0 h :=
  (h (fun x0 => ∃ h : Rd w x0, motive x0 h) (fun _ h => ⟨.int h, int h ⟩)
    (fun b => ⟨.bool b, bool b ⟩)
    (fun _ h => ⟨.str h, str h ⟩)
    (fun _ _ _ hb h => ⟨.byt hb h, byt hb h ⟩)
    (fun _ _ _ _ hb hl hc hr => ⟨.row hb hl hc (fun i j e y hi hj => (hr i j e y hi hj).elim fun a _ => a), row hb hl hc (fun i j e y hi hj => (hr i j e y hi hj).elim fun a _ => a) (fun i j e y hi hj => (hr i j e y hi hj).elim fun _ b => b)⟩)).elim fun _ b => b
theorem Rd.grown0 {w w' : World} {x : Tr} (h : Rd w x) (hg : w.grownBy w' none) : Rd w' x := by
  obtain ⟨hcell, -⟩ := bcell hg
  induction h using Rd.elim with
  | int h => exact .int h
  | bool b => exact .bool b
  | str h => exact .str h
  | byt hb h => exact .byt hb (h.grown0 hg)
  | row hb hl hc _ ih =>
    refine .row hb hl (fun i j e y hi hj => ?_) ih; obtain ⟨b, off, ha, h⟩ := hc i j e y hi hj; exact ⟨b, off, ha, (hcell _ _ (cell_block_lt h)).trans h⟩
def InB (x0 : Tr) (x1 : Nat) : Prop :=
  ∀ P : Tr → Nat → Prop, (∀ (d : List Nat) (a : Addr) (cp : Nat), P (.byt d (some a) cp) a.block) →
    (∀ (m : Nat) (a : Addr) (cp : Nat) (L : List (List Tr)), P (.row m (some a) cp L) a.block) →
    (∀ (m : Nat) (a : Option Addr) (cp : Nat) (L : List (List Tr)) (i : Nat) (j : Nat) (k : Nat) (e : List Tr) (y : Tr) (_hi : L[i]? = some e) (_hj : e[j]? = some y) (_h : P y k), P (.row m a cp L) k) → P x0 x1
theorem SlB.keep {w w' : World} {a : Option Addr} {len : Nat} {zs : List Nat} (h : SlB w a len zs) (hk : ∀ b off, a = some ⟨b, off, none⟩ → w'.heap[b]? = w.heap[b]?) : SlB w' a len zs := by
  obtain ⟨h1, h2, h3⟩ := h; refine ⟨h1, h2, fun hn => ?_⟩; obtain ⟨b, off, ha, hc⟩ := h3 hn; exact ⟨b, off, ha, fun i hi => (World.cell?_of_block (hk b off ha)).trans (hc i hi)⟩
structure Ki where
  tag : Nat
  ks : List Ki
abbrev Ki.int : Ki := ⟨0, []⟩
abbrev Ki.bool : Ki := ⟨1, []⟩
abbrev Ki.str : Ki := ⟨2, []⟩
abbrev Ki.byt : Ki := ⟨3, []⟩
abbrev Ki.row (ks : List Ki) : Ki := ⟨4, ks⟩
def Ki.leaf (k : Ki) : Bool := decide (k.tag < 2)
def Fits (x0 : Tr) (x1 : Ki) : Prop :=
  ∀ P : Tr → Ki → Prop, (∀ (n : Int), P (.int n) .int) →
    (∀ (b : Bool), P (.bool b) .bool) →
    (∀ (s : ByteArray), P (.str s) .str) →
    (∀ (d : List Nat) (a : Option Addr) (cp : Nat), P (.byt d a cp) .byt) →
    (∀ (a : Option Addr) (cp : Nat) (L : List (List Tr)) (ks : List Ki) (_hl : ∀ (i : Nat) (e : List Tr), L[i]? = some e → e.length = ks.length) (_hf : ∀ (i j : Nat) (e : List Tr) (y : Tr) (k : Ki), L[i]? = some e → e[j]? = some y → ks[j]? = some k → P y k), P (.row ks.length a cp L) (.row ks)) → P x0 x1
theorem Fits.int (n : Int) : Fits (.int n) .int := fun _ c0 _ _ _ _ => c0 n
theorem Fits.bool (b : Bool) : Fits (.bool b) .bool := fun _ _ c1 _ _ _ => c1 b
theorem Fits.str (s : ByteArray) : Fits (.str s) .str := fun _ _ _ c2 _ _ => c2 s
theorem Fits.byt (d : List Nat) (a : Option Addr) (cp : Nat) : Fits (.byt d a cp) .byt := fun _ _ _ _ c3 _ => c3 d a cp
theorem Fits.row {a : Option Addr} {cp : Nat} {L : List (List Tr)} {ks : List Ki} (hl : ∀ (i : Nat) (e : List Tr), L[i]? = some e → e.length = ks.length) (hf : ∀ (i j : Nat) (e : List Tr) (y : Tr) (k : Ki), L[i]? = some e → e[j]? = some y → ks[j]? = some k → Fits y k) : Fits (.row ks.length a cp L) (.row ks) := fun P c0 c1 c2 c3 c4 => c4 a cp L ks hl (fun i j e y k hi hj hk => hf i j e y k hi hj hk P c0 c1 c2 c3 c4)
theorem Fits.elim  {motive : (x0 : Tr) → (x1 : Ki) → Fits x0 x1 → Prop}
    (int : ∀ (n : Int), motive (.int n) .int (.int n))
    (bool : ∀ (b : Bool), motive (.bool b) .bool (.bool b))
    (str : ∀ (s : ByteArray), motive (.str s) .str (.str s))
    (byt : ∀ (d : List Nat) (a : Option Addr) (cp : Nat), motive (.byt d a cp) .byt (.byt d a cp))
    (row : ∀ {a : Option Addr} {cp : Nat} {L : List (List Tr)} {ks : List Ki} (hl : ∀ (i : Nat) (e : List Tr), L[i]? = some e → e.length = ks.length) (hf : ∀ (i j : Nat) (e : List Tr) (y : Tr) (k : Ki), L[i]? = some e → e[j]? = some y → ks[j]? = some k → Fits y k), (∀ i j e y k hi hj hk, motive y k (hf i j e y k hi hj hk)) → motive (.row ks.length a cp L) (.row ks) (.row hl hf))
    {x0 : Tr} {x1 : Ki} (h : Fits x0 x1) : motive x0 x1 h :=
  (h (fun x0 x1 => ∃ h : Fits x0 x1, motive x0 x1 h) (fun n => ⟨.int n, int n ⟩)
    (fun b => ⟨.bool b, bool b ⟩)
    (fun s => ⟨.str s, str s ⟩)
    (fun d a cp => ⟨.byt d a cp, byt d a cp ⟩)
    (fun _ _ _ _ hl hf => ⟨.row hl (fun i j e y k hi hj hk => (hf i j e y k hi hj hk).elim fun a _ => a), row hl (fun i j e y k hi hj hk => (hf i j e y k hi hj hk).elim fun a _ => a) (fun i j e y k hi hj hk => (hf i j e y k hi hj hk).elim fun _ b => b)⟩)).elim fun _ b => b
def FitsL (es : List Tr) (ks : List Ki) : Prop := es.length = ks.length ∧ ∀ (j : Nat) (y : Tr) (k : Ki), es[j]? = some y → ks[j]? = some k → Fits y k
def Flat (P : Program) (x0 : TypeId) (x1 : List Ki) : Prop :=
  ∀ Q : TypeId → List Ki → Prop, (∀ (t : TypeId) (_h : P.underlying t = some (.int .i64)), Q t [.int]) →
    (∀ (t : TypeId) (_h : P.underlying t = some .bool), Q t [.bool]) →
    (∀ (t : TypeId) (_h : P.underlying t = some .string), Q t [.str]) →
    (∀ (t : TypeId) (e : TypeId) (_h : P.underlying t = some (.slice e)) (_he : P.underlying e = some (.int .u8)) (_hc : P.cellsOf e = 1), Q t [.byt]) →
    (∀ (t : TypeId) (e : TypeId) (ks : List Ki) (_h : P.underlying t = some (.slice e)) (_hc : P.cellsOf e = ks.length) (_h0 : 0 < ks.length) (_hf : Q e ks), Q t [.row ks]) →
    (∀ (t : TypeId) (fs : Array Field) (kk : List (List Ki)) (_h : P.underlying t = some (.struct fs)) (_hn : fs.size = kk.length) (_hc : P.cellsOf t = kk.flatten.length) (_ho : ∀ (i : Nat) (f : Field) (ks : List Ki), fs[i]? = some f → kk[i]? = some ks → f.offset = (kk.take i).flatten.length ∧ P.cellsOf f.type = ks.length) (_hf : ∀ (i : Nat) (f : Field) (ks : List Ki), fs[i]? = some f → kk[i]? = some ks → Q f.type ks), Q t kk.flatten) → Q x0 x1
end Go.Proofs.YtgehhfncjoogiaaGreatDoor
namespace Go.Proofs.YtgehhfncjoogiaaGreatDoor
open Go.RowKit

def RowOk (w : World) (ks : List Ki) (a : Option Addr) (L : List (List Tr)) : Prop :=
  ∀ (i : Nat) (e : List Tr), L[i]? = some e → FitsL e ks ∧ (∀ y ∈ e, Rd w y) ∧ ∃ b off, a = some ⟨b, off, none⟩ ∧ ∀ (j : Nat) (y : Tr), e[j]? = some y → w.cell? ⟨b, off + i * ks.length + j, none⟩ = some y.cell
theorem RowOk.grown0 {w w' : World} {ks : List Ki} {a : Option Addr} {L : List (List Tr)} (h : RowOk w ks a L) (hg : w.grownBy w' none) : RowOk w' ks a L := fun i e hi => by
  obtain ⟨h1, h2, b, off, h3, h4⟩ := h i e hi; obtain ⟨hc, -⟩ := bcell hg; exact ⟨h1, fun y hy => (h2 y hy).grown0 hg, b, off, h3, fun j y hj => (hc _ _ (cell_block_lt (h4 j y hj))).trans (h4 j y hj)⟩
theorem Rd.inv {w : World} {x : Tr} (h : Rd w x) : (x.tell.tag = 0 → I64 x.tell.n) ∧ (x.tell.tag = 2 → x.tell.s.size ≤ maxLen) ∧ (x.tell.tag = 3 → x.tell.d.length ≤ maxLen ∧ SlB w x.a x.tell.d.length x.tell.d) ∧ (x.tell.tag = 4 → x.L.length ≤ maxLen ∧ (∀ (i : Nat) (e : List Tr), x.L[i]? = some e → e.length = x.m) ∧ (∀ (i j : Nat) (e : List Tr) (y : Tr), x.L[i]? = some e → e[j]? = some y → ∃ b off, x.a = some ⟨b, off, none⟩ ∧ w.cell? ⟨b, off + i * x.m + j, none⟩ = some y.cell) ∧ ∀ (i j : Nat) (e : List Tr) (y : Tr), x.L[i]? = some e → e[j]? = some y → Rd w y) := by
  cases h using Rd.elim with
  | int h => exact ⟨fun _ => h, fun e => (by cases e), fun e => (by cases e), fun e => (by cases e)⟩
  | bool b => exact ⟨fun e => (by cases e), fun e => (by cases e), fun e => (by cases e), fun e => (by cases e)⟩
  | str h => exact ⟨fun e => (by cases e), fun _ => h, fun e => (by cases e), fun e => (by cases e)⟩
  | byt hb h => exact ⟨fun e => (by cases e), fun e => (by cases e), fun _ => ⟨hb, h⟩, fun e => (by cases e)⟩
  | row hb hl hc hr => exact ⟨fun e => (by cases e), fun e => (by cases e), fun e => (by cases e), fun _ => ⟨hb, hl, hc, hr⟩⟩
theorem Fits.inv {x : Tr} {k : Ki} (h : Fits x k) : (k.tag = 0 → ∃ n, x = .int n) ∧ (k.tag = 1 → ∃ b, x = .bool b) ∧ (k.tag = 2 → ∃ s, x = .str s) ∧ (k.tag = 3 → ∃ d a p, x = .byt d a p) ∧ (k.tag = 4 → ∃ a p, x = .row k.ks.length a p x.L ∧ (∀ (i : Nat) (e : List Tr), x.L[i]? = some e → e.length = k.ks.length) ∧ ∀ (i j : Nat) (e : List Tr) (y : Tr) (q : Ki), x.L[i]? = some e → e[j]? = some y → k.ks[j]? = some q → Fits y q) ∧ k.tag = x.tell.tag := by
  cases h using Fits.elim with
  | int n => exact ⟨fun _ => ⟨n, rfl⟩, fun e => (by cases e), fun e => (by cases e), fun e => (by cases e), fun e => (by cases e), rfl⟩
  | bool b => exact ⟨fun e => (by cases e), fun _ => ⟨b, rfl⟩, fun e => (by cases e), fun e => (by cases e), fun e => (by cases e), rfl⟩
  | str s => exact ⟨fun e => (by cases e), fun e => (by cases e), fun _ => ⟨s, rfl⟩, fun e => (by cases e), fun e => (by cases e), rfl⟩
  | byt d a p => exact ⟨fun e => (by cases e), fun e => (by cases e), fun e => (by cases e), fun _ => ⟨d, a, p, rfl⟩, fun e => (by cases e), rfl⟩
  | @row a p _ _ hl hf => exact ⟨fun e => (by cases e), fun e => (by cases e), fun e => (by cases e), fun e => (by cases e), fun _ => ⟨a, p, rfl, hl, hf⟩, rfl⟩
theorem FitsL.nil {es : List Tr} (h : FitsL es []) : es = [] := List.eq_nil_of_length_eq_zero h.1
theorem FitsL.cons {es : List Tr} {k : Ki} {ks : List Ki} (h : FitsL es (k :: ks)) : ∃ y e, es = y :: e ∧ Fits y k ∧ FitsL e ks := by
  cases es with
  | nil => have := h.1; simp at this
  | cons y e => exact ⟨y, e, rfl, h.2 0 y k rfl rfl, by have := h.1; simpa using this, fun j z k' hj hk => h.2 (j + 1) z k' (by simpa using hj) (by simpa using hk)⟩
theorem Fits.isStr {y : Tr} (h : Fits y .str) : ∃ s, y = .str s := h.inv.2.2.1 rfl
theorem Fits.isByt {y : Tr} (h : Fits y .byt) : ∃ d a p, y = .byt d a p := h.inv.2.2.2.1 rfl
def Sm (x0 : Tr) : Prop :=
  ∀ P : Tr → Prop, (∀ (n : Int), P (.int n)) →
    (∀ (b : Bool), P (.bool b)) →
    (∀ (s : ByteArray), P (.str s)) →
    (∀ (d : List Nat) (a : Option Addr) (cp : Nat) (_h : d.length ≤ 1048576), P (.byt d a cp)) →
    (∀ (m : Nat) (a : Option Addr) (cp : Nat) (L : List (List Tr)) (_h : L.length ≤ 1048576) (_hs : ∀ (i j : Nat) (e : List Tr) (y : Tr), L[i]? = some e → e[j]? = some y → P y), P (.row m a cp L)) → P x0
def SmR (L : List (List Tr)) : Prop := L.length ≤ 1048576 ∧ ∀ (i j : Nat) (e : List Tr) (y : Tr), L[i]? = some e → e[j]? = some y → Sm y
theorem Rd.isByt {w : World} {d : List Nat} {a : Option Addr} {cp : Nat} (h : Rd w (.byt d a cp)) : SlB w a d.length d := (h.inv.2.2.1 rfl).2
abbrev tellR (L : List (List Tr)) : List (List Td) := L.map (fun e => e.map Tr.tell)
def SameT (w x : World) : Prop := x.heap = w.heap ∧ x.os = w.os ∧ x.tape = w.tape ∧ x.output = w.output
theorem SameT.grown {w x : World} (h : SameT w x) : w.grownBy x none := ⟨h.2.1, h.2.2.1, h.2.2.2, by rw [h.1]; exact Nat.le_refl _, fun k _ _ => by rw [h.1]⟩
theorem tdRows_append (A B : List (List Td)) : tdRows (A ++ B) = tdRows A + tdRows B := by
  induction A with
  | nil => simp [tdRows]
  | cons e A ih => simp [tdRows, ih]; omega
theorem tdEl_get {e : List Td} {j : Nat} {y : Td} (h : e[j]? = some y) : y.tot ≤ tdEl e := by
  induction e generalizing j with
  | nil => simp at h
  | cons z e ih =>
    cases j with
    | zero => simp at h; subst h; simp [tdEl]
    | succ j => have := ih (j := j) (by simpa using h); simp [tdEl]; omega
theorem tdRows_get {L : List (List Td)} {i : Nat} {e : List Td} (h : L[i]? = some e) : tdEl e ≤ tdRows L := by
  induction L generalizing i with
  | nil => simp at h
  | cons z L ih =>
    cases i with
    | zero => simp at h; subst h; simp [tdRows]
    | succ i => have := ih (i := i) (by simpa using h); simp [tdRows]; omega
def totR (L : List (List Tr)) : Nat := L.length + tdRows (tellR L)
def totTo (L : List (List Tr)) (k : Nat) : Nat := L.length + tdRows (tellR (L.take k))
theorem totTo_zero (L : List (List Tr)) : totTo L 0 = L.length := by simp [totTo, tdRows]
theorem totTo_all (L : List (List Tr)) : totTo L L.length = totR L := by simp [totTo, totR]
theorem totTo_succ {L : List (List Tr)} {k : Nat} {e : List Tr} (h : L[k]? = some e) : totTo L (k + 1) = totTo L k + tdEl (e.map Tr.tell) := by
  unfold totTo
  rw [List.take_add_one, h]; simp only [tellR, List.map_append, tdRows_append, Option.toList, List.map_cons, List.map_nil, tdRows]
  omega
theorem totR_len (L : List (List Tr)) : L.length ≤ totR L := by unfold totR; omega
theorem tot_byt (d : List Nat) (a : Option Addr) (cp : Nat) : (Tr.byt d a cp).tell.tot = d.length := rfl
theorem tot_str (s : ByteArray) : (Tr.str s).tell.tot = s.size := rfl
theorem tot_sub {L : List (List Tr)} {i j : Nat} {e : List Tr} {y : Tr} (hi : L[i]? = some e) (hj : e[j]? = some y) : y.tell.tot ≤ totR L := by
  have h1 : (tellR L)[i]? = some (e.map Tr.tell) := by simp [hi]
  have h2 : (e.map Tr.tell)[j]? = some y.tell := by simp [hj]
  have := tdRows_get h1; have := tdEl_get h2
  unfold totR
  omega
def Made (w : World) (lo : Nat) (x0 : Tr) : Prop :=
  ∀ P : Tr → Prop, (∀ (n : Int) (_h : I64 n), P (.int n)) →
    (∀ (b : Bool), P (.bool b)) →
    (∀ (s : ByteArray) (_h : s.size ≤ maxLen), P (.str s)) →
    (∀ (d : List Nat) (g : Nat) (cp : Nat) (_hg : lo ≤ g) (_hb : d.length ≤ 1048576) (_h : Own w 5 g d) (_hcp : cp = d.length), P (.byt d (some ⟨g, 0, none⟩) cp)) →
    (∀ (m : Nat) (g : Nat) (cp : Nat) (L : List (List Tr)) (_hg : lo ≤ g) (_hlt : g < w.heap.size) (_hb : L.length ≤ 1048576) (_hl : ∀ (i : Nat) (e : List Tr), L[i]? = some e → e.length = m) (_hc : ∀ (i : Nat) (e : List Tr), L[i]? = some e → w.rangeAt g (i * m) (e.map Tr.cell)) (_hf : ∀ o, w.frozen? ⟨g, o, none⟩ = false) (_hs : ∀ (i j : Nat) (e : List Tr) (y : Tr), L[i]? = some e → e[j]? = some y → P y), P (.row m (some ⟨g, 0, none⟩) cp L)) → P x0
theorem size_setCells (b : Nat) : ∀ (vs : List Value) (o : Nat) (w : World), (w.setCells b o vs).heap.size = w.heap.size
  | [], _, _ => rfl
  | v :: r, o, w => by rw [World.setCells, size_setCells b r (o + 1) _]; simp [World.setCell]
theorem grownBy_setCellsN {w0 : World} {b : Nat} (hb : w0.heap.size ≤ b) : ∀ (vs : List Value) (o : Nat) (w : World), w0.grownBy w none → w0.grownBy (w.setCells b o vs) none
  | [], _, _, h => h
  | v :: r, o, w, h => by rw [World.setCells]; exact grownBy_setCellsN hb r (o + 1) _ (grownBy_setNew h hb)
theorem grown_blk {W w' : World} {k : Nat} {o : Obj} (h : W.grownBy w' none) (hb : W.heap[k]? = some o) : w'.heap[k]? = some o :=
  (h.block k (Array.getElem?_eq_some_iff.1 hb).1 (by simp)).trans hb
theorem set_blk {W : World} {b : Nat} {cur : Array Value} {t : TypeId} (j : Nat) (v : Value) (h : W.heap[b]? = some (.cells cur t (0, 0))) : (W.setCell ⟨b, j, none⟩ v).heap[b]? = some (.cells (cur.setIfInBounds j v) t (0, 0)) := heap_setCell_same W b j cur t v h
theorem set_blkL {W : World} {b : Nat} {L : List Value} {t : TypeId} (j : Nat) (v : Value) (h : W.heap[b]? = some (.cells L.toArray t (0, 0))) : (W.setCell ⟨b, j, none⟩ v).heap[b]? = some (.cells (L.set j v).toArray t (0, 0)) := by
  have h1 := set_blk j v h
  rwa [List.setIfInBounds_toArray] at h1
structure Fill (w wr : World) (g n m : Nat) (L M : List (List Tr)) (ks : List Ki) : Prop where
  lt : g < wr.heap.size
  there : wr.there g 0 (n * m)
  free : ∀ o, wr.frozen? ⟨g, o, none⟩ = false
  cells : ∀ (i : Nat) (e : List Tr), M[i]? = some e → wr.rangeAt g (i * m) (e.map Tr.cell)
  fit : ∀ e ∈ M, FitsL e ks
  made : ∀ e ∈ M, ∀ y ∈ e, Made wr (g + 1) y
  tell : tellR M = tellR (L.take M.length)
  grown : w.grownBy wr none
theorem results_cell1 {fn : Func} {p : Tmp} {ty : TypeId} (h : fn.results = #[.cell p ty]) (tmps : Array Value) (P : Program) (w : World) :
    (results fn tmps).run P w = ((asAddr (tmps.getD p undef)).run P w).andThen fun a w₁ => (loadVar ty a).run P w₁ := by
  simp only [results, h]
  simp [Sem.run_bind]
theorem results_ret {fn : Func} {p : Tmp} {ty : TypeId} (h : fn.results = #[.cell p ty]) {tmps : Array Value} {P : Program} {w : World} {v : Value} {a : Addr} (hp : tmps.getD p undef = .pointer (some a)) (hl : (loadVar ty a).run P w = .ok v w) :
    (results fn tmps).run P w = .ok v w := by
  rw [results_cell1 h, hp]
  simp [asAddr, Result.andThen, hl]
theorem SlB.src {w : World} {oa : Option Addr} {m : Nat} {zs : List Nat} (h : SlB w oa m zs) (hm : 0 < m) : ∃ ad, oa = some ad ∧ ∀ j u, (zs.map bv)[j]? = some u → w.cell? (ad.add j) = some u := by
  obtain ⟨h1, h2, h3⟩ := h; obtain ⟨b, off, rfl, hc⟩ := h3 (by omega); refine ⟨_, rfl, fun j v hj => ?_⟩
  have hjl : j < zs.length := by
    have := (List.getElem?_eq_some_iff.1 hj).1
    simpa using this
  have e1 : (⟨b, off, none⟩ : Addr).add j = ⟨b, off + j, none⟩ := by
    by_cases h0' : j = 0 <;> simp [Addr.add, h0']
  rw [e1, hc j (by omega), ← hj]
  simp [List.getD, hjl, bv]
theorem bytes_one (zs : List Nat) : ∀ v ∈ zs.map bv, v.oneCell' = true := by
  intro v hv; obtain ⟨z, _, rfl⟩ := List.mem_map.1 hv; rfl

structure ByteT (P : Program) (t e : TypeId) (i : TypeInfo) : Prop where
  und : P.underlying t = some (.slice e)
  info : P.info? e = some i
  zero : i.zero = some (.int .u8 0)
  size : i.size = 1
  bytes : i.bytes = 1

theorem run_append_b {P : Program} {w : World} {t ty e : TypeId} {i : TypeInfo} (T : ByteT P t e i) {base g n cap : Nat} {xs : List Nat} (hown : w.ownsRow base e 1 (.slice (some ⟨g, 0, none⟩) n cap) n (xs.map bv))
    {oa : Option Addr} {m c : Nat} {zs : List Nat} (hsrc : SlB w oa m zs) (hb : n + m ≤ 1099511627776) (hbase : base ≤ w.heap.size) :
    ∃ g' cap' w', (Builtin.append_ #[t, t] ty #[.slice (some ⟨g, 0, none⟩) n cap, .slice oa m c]).run P w = .ok (.slice (some ⟨g', 0, none⟩) (n + m) cap') w' ∧
      w'.ownsRow base e 1 (.slice (some ⟨g', 0, none⟩) (n + m) cap') (n + m) ((xs ++ zs).map bv) ∧ w.grownBy w' (some g) ∧ (g' = g ∨ g' = w.heap.size) ∧ w.heap.size ≤ w'.heap.size := by
  by_cases hm : m = 0
  · subst hm; obtain rfl : zs = [] := List.eq_nil_of_length_eq_zero hsrc.1; refine ⟨g, cap, w, ?_, by simpa using hown, grownBy_refl _ _, .inl rfl, Nat.le_refl _⟩
    rcases hown.2 with ⟨h', _⟩ | ⟨g', cap', cur, h', _, hg, hnc, _⟩
    · simp at h'
    · simp only [Value.slice.injEq, Option.some.injEq, Addr.mk.injEq, and_true, true_and] at h'; obtain ⟨rfl, rfl⟩ := h'
      cases oa with
      | none => simp [Builtin.append_, run_underlying T.und, sizeOf, typeInfo, T.info, Builtin.lenOf, Builtin.firstCells, hnc, storeCells]
      | some a =>
        have hf := run_firstCells_some (P := P) w i.size 0 a 0 c [] (by simp) (by simp)
        simp [Builtin.append_, run_underlying T.und, sizeOf, typeInfo, T.info, Builtin.lenOf, hf, hnc, storeCells]
  · obtain ⟨ad, rfl, hnews⟩ := hsrc.src (by omega); obtain ⟨g', cap', w', hr, ho, hg, hat, hlt⟩ := run_append_lies (P := P) w t ty base e i (.int .u8 0) 1 1 T.und T.info T.zero T.size T.bytes rfl (by decide) (.slice (some ⟨g, 0, none⟩) n cap) n (xs.map bv) hown ad m c (zs.map bv) (by simpa using hsrc.1) hnews (bytes_one zs) (by omega) (by unfold maxLen; omega) (by omega) hbase w.heap.size rfl; refine ⟨g', cap', w', hr, by simpa using ho, hg, ?_, hg.size⟩
    rcases hat with h | h
    · exact .inl (by simpa [Value.ownBlock] using h.symm)
    · exact .inr h

theorem wpList_append_b {P : Program} {w : World} {ops : Array Oper} {rest : List Oper} {o : Oper} {a : Act} {Q : Exit → Act → World → Prop} (hgd : o.guard = none) (s x : Operand) {t e : TypeId} {i : TypeInfo} (T : ByteT P t e i)
    (ho : o.op = .call { callee := .builtin .append, args := #[s, x], argTypes := #[t, t] }) {base g n cap : Nat} {xs : List Nat} (hs : a.eval s = .slice (some ⟨g, 0, none⟩) n cap) (hown : w.ownsRow base e 1 (.slice (some ⟨g, 0, none⟩) n cap) n (xs.map bv))
    {oa : Option Addr} {m c : Nat} {zs : List Nat} (hx : a.eval x = .slice oa m c) (hsrc : SlB w oa m zs) (hb : n + m ≤ 1099511627776) (hbase : base ≤ w.heap.size)
    (h : ∀ g' cap' w', Hid (w'.ownsRow base e 1 (.slice (some ⟨g', 0, none⟩) (n + m) cap') (n + m) ((xs ++ zs).map bv)) → Hid (w.grownBy w' (some g)) → Hid (g' = g ∨ g' = w.heap.size) → w.heap.size ≤ w'.heap.size → wpList P ops Q rest (a.put o.dst (.slice (some ⟨g', 0, none⟩) (n + m) cap')) w') :
    wpList P ops Q (o :: rest) a w := by
  refine wpList_plain hgd fun K hK => ?_
  obtain ⟨g', cap', w', hrun, h1, h2, h3, h4⟩ := run_append_b (ty := o.type) (c := c) T hown hsrc hb hbase
  unfold Oper.wp
  simp [execOp, ho, resolve, invoke, builtin, hs, hx, hrun, Result.andThen]
  exact hK _ _ (h g' cap' w' h1 h2 h3 h4)

theorem ownsRow_base {w : World} {base base' e size n : Nat} {v : Value} {xs : List Value} (h : w.ownsRow base e size v n xs) (hb : base' ≤ base) : w.ownsRow base' e size v n xs := by
  refine ⟨h.1, ?_⟩
  rcases h.2 with h2 | ⟨g, cap, cur, h2, h3, h4⟩
  · exact .inl h2
  · exact .inr ⟨g, cap, cur, h2, Nat.le_trans hb h3, h4⟩
theorem ownsRow_sl {w : World} {base e g n cap : Nat} {xs : List Nat} (h : w.ownsRow base e 1 (.slice (some ⟨g, 0, none⟩) n cap) n (xs.map bv)) (hz : ∀ z ∈ xs, z < 256) : SlB w (some ⟨g, 0, none⟩) n xs :=
  (own_made h hz).sl n (by simpa using h.1)
theorem Tryz.infoByte : (Tryz.prog.info? 5).map (fun i => (i.zero, i.size, i.bytes)) = some (some (.int .u8 0), 1, 1) := by kernel_rfl

def Same (w x : World) : Prop := x.heap = w.heap ∧ x.os = w.os ∧ x.tape = w.tape ∧ x.output = w.output
theorem grownBy_same {a w x : World} {row : Option Nat} (h : a.grownBy w row) (hs : Same w x) : a.grownBy x row :=
  ⟨hs.2.1.trans h.os, hs.2.2.1.trans h.tape, hs.2.2.2.trans h.output, by rw [hs.1]; exact h.size, fun k hk hne => by rw [hs.1]; exact h.block k hk hne⟩
theorem SlB.heap {w w' : World} {oa : Option Addr} {len : Nat} {zs : List Nat} (h : SlB w oa len zs) (hh : w'.heap = w.heap) : SlB w' oa len zs := by
  obtain ⟨h1, h2, h3⟩ := h; refine ⟨h1, h2, fun hn => ?_⟩; obtain ⟨b, off, rfl, hc⟩ := h3 hn; exact ⟨b, off, rfl, fun i hi => (World.cell?_of_block (w := w) (a := ⟨b, off + i, none⟩) (by rw [hh])).trans (hc i hi)⟩
theorem grownBy_row {a b c : World} {row : Option Nat} (h : a.grownBy b none) (k : b.grownBy c row) (hr : ∀ g, row = some g → a.heap.size ≤ g) : a.grownBy c none := by
  cases row with
  | none => exact grownBy_trans h k
  | some g => exact grownBy_new h k (hr g rfl)

def sliceLen : Value → Nat
  | .slice _ n _ => n
  | _ => 0
theorem grown_next {a b b' c : World} {g : Nat} (k : b'.grownBy c (some g)) (h : a.grownBy b none) (hs : Same b b') (hg : a.heap.size ≤ g) : a.grownBy c none := grownBy_new (grownBy_same h hs) k hg
theorem ownsRow_le {w : World} {base e size g n cap : Nat} {xs : List Value} (h : w.ownsRow base e size (.slice (some ⟨g, 0, none⟩) n cap) n xs) : n ≤ cap := by
  rcases h.2 with ⟨h', _⟩ | ⟨g', cap', cur, h', _, _, hc, _⟩
  · simp at h'
  · simp only [Value.slice.injEq, Option.some.injEq, Addr.mk.injEq, and_true, true_and] at h'; obtain ⟨_, rfl⟩ := h'; exact hc
theorem byteT : ∃ i, ByteT Tryz.prog 22 5 i := by
  obtain ⟨i0, hi, hz0, hz1, hz2⟩ := info_parts Tryz.infoByte; exact ⟨i0, Tryz.underlying22, hi, hz0, hz1, hz2⟩
section
variable {P : Program} {ops : Array Oper} {Q : Exit → Act → World → Prop} {md : Region.Mode} {S : World → Prop} {ex : Nat → Bool}

def wpAnyZ (P : Program) (md : Region.Mode) (ops : Array Oper) (Q : Exit → Act → World → Prop) (S : World → Prop) (ex : Nat → Bool) : Nat → Array Bool → Act → World → Prop
  | 0, listed, a, w => Region.ready md ops listed = [] ∧ Q .normal a w
  | fuel + 1, listed, a, w =>
    (Region.ready md ops listed = [] → Q .normal a w) ∧
    ∀ i ∈ Region.ready md ops listed, wpOp P ops Q i (fun a' w' => (ex i = false → S w → S w') ∧ wpAnyZ P md ops Q S ex fuel (listed.setIfInBounds i true) a' w') a w
theorem wpAny_of_Z : ∀ (fuel : Nat) (listed : Array Bool) (a : Act) (w : World), wpAnyZ P md ops Q S ex fuel listed a w → wpAny P md ops Q fuel listed a w
  | 0, _, _, _, h => h
  | fuel + 1, _, _, _, h => ⟨h.1, fun i hi => wpOp_mono (fun a' w' h' => wpAny_of_Z fuel _ a' w' h'.2) (h.2 i hi)⟩
theorem wpAnyZ_first {S0 : World → Prop} {I : Array Bool → Prop} {i : Nat} {oi : Oper} {v : Value} (hi : ops[i]? = some oi) (hsel : ∀ (j : Nat) (o : Oper) cs b, ops[j]? = some o → o.op ≠ .select cs b)
    (hQ : ∀ c a w, Q (.panic c) (a.put oi.dst v) w → Q (.panic c) a w)
    (hI : ∀ (listed : Array Bool) (j : Nat) (w w' : World), I listed → i ∈ Region.ready md ops listed → j ∈ Region.ready md ops listed → j ≠ i → S0 w → (ex j = false → S w → S w') → S0 w' ∧ I (listed.setIfInBounds j true)) :
    ∀ (fuel : Nat) (listed : Array Bool) (a : Act) (w : World),
      (∀ j oj, ops[j]? = some oj → j ≠ i → listed.getD j true = false → (∀ e ∈ oj.after, Region.binds md e = true → e.on ≠ i) → oi.apart ops oj = true) →
      i ∈ Region.ready md ops listed → I listed → YieldsIf P ops S0 oi v a → S0 w →
      wpAnyZ P md ops Q S ex fuel (listed.setIfInBounds i true) (a.put oi.dst v) w → wpAnyZ P md ops Q S ex (fuel + 1) listed a w := by
  intro fuel
  induction fuel with
  | zero =>
    intro listed a w _ hr hIl hy hS H; refine ⟨fun h => (by rw [h] at hr; cases hr), fun j hj => ?_⟩
    by_cases hji : j = i
    · subst hji; exact hy.wpOp hi hS ⟨fun _ h => h, H⟩
    · have := ready_mono hj hji; rw [H.1] at this
      cases this
  | succ fuel ih =>
    intro listed a w hfree hr hIl hy hS H; refine ⟨fun h => (by rw [h] at hr; cases hr), fun j hj => ?_⟩
    by_cases hji : j = i
    · subst hji; exact hy.wpOp hi hS ⟨fun _ h => h, H⟩
    · have h1 := H.2 j (ready_mono hj hji); obtain ⟨hjun, oj, hoj, hall⟩ := mem_ready.1 hj; have hiun : listed.getD i false = false := getD_both (mem_ready.1 hr).1
      have hnot : ∀ e ∈ oj.after, Region.binds md e = true → e.on ≠ i := fun e he hb heq => by
        have h1 := hall e he hb; rw [heq, hiun] at h1
        cases h1
      have h2 := wpOp_putIf hoj (hfree j oj hoj hji hjun hnot) (fun cs b => hsel i oi cs b hi) (fun cs b => hsel j oj cs b hoj) hQ hy h1; have hfree' : ∀ k ok, ops[k]? = some ok → k ≠ i → (listed.setIfInBounds j true).getD k true = false →
          (∀ e ∈ ok.after, Region.binds md e = true → e.on ≠ i) → oi.apart ops ok = true := fun k ok hk hki hun hno => by
        refine hfree k ok hk hki ?_ hno
        by_cases hjk : j = k
        · subst hjk; exact hjun
        · rw [getD_set_ne true hjk] at hun; exact hun
      refine wpOp_mono (fun a' w' h3 => ?_) h2; obtain ⟨h4, h5⟩ := hI listed j w w' hIl hr hj hji hS h3.2.1; refine ⟨h3.2.1, ih (listed.setIfInBounds j true) a' w' hfree' (ready_mono hr (Ne.symm hji)) h5 h3.1 h4 ?_⟩; rw [Array.setIfInBounds_comm _ _ hji]; exact h3.2.2
theorem wpAnyZ_take {i : Nat} {oi : Oper} {v : Value} {fuel : Nat} {listed : Array Bool} {a : Act} {w : World} (hi : ops[i]? = some oi) (hs : Region.noSelect ops = true) (hf : Region.free md ops listed i = true) (hr : (Region.ready md ops listed).contains i = true)
    (hQ : ∀ c a w, Q (.panic c) (a.put oi.dst v) w → Q (.panic c) a w) (hy : YieldsIf P ops (fun _ => True) oi v a)
    (h : wpAnyZ P md ops Q S ex fuel (listed.setIfInBounds i true) (a.put oi.dst v) w) : wpAnyZ P md ops Q S ex (fuel + 1) listed a w :=
  wpAnyZ_first (S0 := fun _ => True) (I := fun _ => True) hi (Region.noSelect_spec hs) hQ (fun _ _ _ _ _ _ _ _ _ _ => ⟨trivial, trivial⟩) fuel listed a w (Region.free_spec hi hf) (by simpa using hr) trivial hy trivial h
theorem wpAnyZ_load {i y : Nat} {oi : Oper} {v : Value} {fuel : Nat} {listed : Array Bool} {a : Act} {w : World} (hi : ops[i]? = some oi) (hs : Region.noSelect ops = true) (hf : Region.free md ops listed i = true) (hr : (Region.ready md ops listed).contains i = true)
    (hQ : ∀ c a w, Q (.panic c) (a.put oi.dst v) w → Q (.panic c) a w) (hex : ∀ j, ex j = true → Region.waitsFor md ops j i = true ∨ Region.waitsFor md ops j y = true) (hey : ex y = true) (hyl : listed.getD y false = false) (hy : YieldsIf P ops S oi v a) (hS : S w)
    (h : wpAnyZ P md ops Q S ex fuel (listed.setIfInBounds i true) (a.put oi.dst v) w) : wpAnyZ P md ops Q S ex (fuel + 1) listed a w := by
  refine wpAnyZ_first (S0 := S) (I := fun l => l.getD y false = false) hi (Region.noSelect_spec hs) hQ (fun l j w0 w' hIl hri hrj hne hS0 hS' => ?_) fuel listed a w (Region.free_spec hi hf) (by simpa using hr) hyl hy hS h; have hiun : l.getD i false = false := getD_both (mem_ready.1 hri).1
  have hno : ∀ k, l.getD k false = false → Region.waitsFor md ops j k = true → False := by
    intro k hk hw; obtain ⟨oj, hoj, e, he, hb, hon⟩ := Region.waitsFor_spec hw; obtain ⟨_, oj', hoj', hall⟩ := mem_ready.1 hrj; rw [hoj] at hoj'; obtain rfl := Option.some.inj hoj'; have := hall e he hb; rw [hon, hk] at this
    cases this
  have hexj : ex j = false := by
    cases hx : ex j with
    | false => rfl
    | true =>
      rcases hex j hx with h1 | h1
      · exact (hno i hiun h1).elim
      · exact (hno y hIl h1).elim
  refine ⟨hS' hexj hS0, ?_⟩
  have hjy : j ≠ y := fun e => by rw [e, hey] at hexj; cases hexj
  show (l.setIfInBounds j true).getD y false = false
  rw [getD_set_ne false hjy]; exact hIl
theorem wpAnyZ_done {listed : Array Bool} {a : Act} {w : World} (hr : Region.ready md ops listed = []) (h : Q .normal a w) : ∀ fuel, wpAnyZ P md ops Q S ex fuel listed a w
  | 0 => ⟨hr, h⟩
  | _ + 1 => ⟨fun _ => h, by rw [hr]; simp⟩
theorem wpZ_step {i : Nat} {o : Oper} {fuel : Nat} {listed : Array Bool} {a : Act} {w : World} (ho : ops[i]? = some o)
    (h : ∀ K : Act → World → Prop, Hid (∀ a' w', (ex i = false → S w → S w') → wpAnyZ P md ops Q S ex fuel (listed.setIfInBounds i true) a' w' → K a' w') →
      if Region.wanted o (yielded ops a.tmps) = true then Oper.wp P o a w K Q else K (a.put o.dst undef) w) :
    wpOp P ops Q i (fun a' w' => (ex i = false → S w → S w') ∧ wpAnyZ P md ops Q S ex fuel (listed.setIfInBounds i true) a' w') a w := by
  unfold wpOp
  simp only [ho]; have h1 := h (fun a' w' => (ex i = false → S w → S w') ∧ wpAnyZ P md ops Q S ex fuel (listed.setIfInBounds i true) a' w') (fun a' w' hS hw => ⟨hS, hw⟩)
  split
  · rename_i hw
    rw [if_pos hw] at h1; exact .inl h1
  · rename_i hw
    rw [if_neg hw] at h1; exact h1
theorem wpAnyZ_one {i : Nat} {o : Oper} {fuel : Nat} {listed : Array Bool} {a : Act} {w : World} (hr : Region.ready md ops listed = [i]) (ho : ops[i]? = some o)
    (h : ∀ K : Act → World → Prop, Hid (∀ a' w', (ex i = false → S w → S w') → wpAnyZ P md ops Q S ex fuel (listed.setIfInBounds i true) a' w' → K a' w') →
      if Region.wanted o (yielded ops a.tmps) = true then Oper.wp P o a w K Q else K (a.put o.dst undef) w) : wpAnyZ P md ops Q S ex (fuel + 1) listed a w := by
  refine ⟨fun h0 => (by rw [hr] at h0; cases h0), fun j hj => ?_⟩; rw [hr] at hj
  obtain rfl : j = i := by simpa using hj
  exact wpZ_step ho h
theorem wpAnyZ_two {i k : Nat} {o o' : Oper} {fuel : Nat} {listed : Array Bool} {a : Act} {w : World} (hr : Region.ready md ops listed = [i, k]) (ho : ops[i]? = some o) (ho' : ops[k]? = some o')
    (h : ∀ K : Act → World → Prop, Hid (∀ a' w', (ex i = false → S w → S w') → wpAnyZ P md ops Q S ex fuel (listed.setIfInBounds i true) a' w' → K a' w') →
      if Region.wanted o (yielded ops a.tmps) = true then Oper.wp P o a w K Q else K (a.put o.dst undef) w)
    (h' : ∀ K : Act → World → Prop, Hid (∀ a' w', (ex k = false → S w → S w') → wpAnyZ P md ops Q S ex fuel (listed.setIfInBounds k true) a' w' → K a' w') →
      if Region.wanted o' (yielded ops a.tmps) = true then Oper.wp P o' a w K Q else K (a.put o'.dst undef) w) : wpAnyZ P md ops Q S ex (fuel + 1) listed a w := by
  refine ⟨fun h0 => (by rw [hr] at h0; cases h0), fun j hj => ?_⟩; rw [hr] at hj; simp only [List.mem_cons, List.not_mem_nil, or_false] at hj
  rcases hj with rfl | rfl
  · exact wpZ_step ho h
  · exact wpZ_step ho' h'
theorem get_of_drop {i : Nat} {oi : Oper} {rest : List Oper} (h : ops.toList.drop i = oi :: rest) : ops[i]? = some oi := by
  have h1 : (ops.toList.drop i)[0]? = some oi := by rw [h]; rfl
  rw [List.getElem?_drop, Array.getElem?_toList] at h1; exact h1
theorem wpAnyZ_take' {i : Nat} {oi : Oper} {rest : List Oper} {v : Value} {fuel : Nat} {listed : Array Bool} {a : Act} {w : World} (hd : ops.toList.drop i = oi :: rest) (hs : Region.noSelect ops = true) (hf : Region.free md ops listed i = true) (hr : (Region.ready md ops listed).contains i = true)
    (hQ : ∀ c a w, Q (.panic c) (a.put oi.dst v) w → Q (.panic c) a w) (hy : YieldsIf P ops (fun _ => True) oi v a)
    (h : wpAnyZ P md ops Q S ex fuel (listed.setIfInBounds i true) (a.put oi.dst v) w) : wpAnyZ P md ops Q S ex (fuel + 1) listed a w := wpAnyZ_take (get_of_drop hd) hs hf hr hQ hy h
theorem wpAnyZ_load' {i y : Nat} {oi : Oper} {rest : List Oper} {v : Value} {fuel : Nat} {listed : Array Bool} {a : Act} {w : World} (hd : ops.toList.drop i = oi :: rest) (hs : Region.noSelect ops = true) (hf : Region.free md ops listed i = true) (hr : (Region.ready md ops listed).contains i = true)
    (hQ : ∀ c a w, Q (.panic c) (a.put oi.dst v) w → Q (.panic c) a w) (hex : ∀ j, ex j = true → Region.waitsFor md ops j i = true ∨ Region.waitsFor md ops j y = true) (hey : ex y = true) (hyl : listed.getD y false = false) (hy : YieldsIf P ops S oi v a) (hS : S w)
    (h : wpAnyZ P md ops Q S ex fuel (listed.setIfInBounds i true) (a.put oi.dst v) w) : wpAnyZ P md ops Q S ex (fuel + 1) listed a w := wpAnyZ_load (get_of_drop hd) hs hf hr hQ hex hey hyl hy hS h
theorem wpAnyZ_one' {i : Nat} {o : Oper} {rest : List Oper} {fuel : Nat} {listed : Array Bool} {a : Act} {w : World} (hr : Region.ready md ops listed = [i]) (ho : ops.toList.drop i = o :: rest)
    (h : ∀ K : Act → World → Prop, Hid (∀ a' w', (ex i = false → S w → S w') → wpAnyZ P md ops Q S ex fuel (listed.setIfInBounds i true) a' w' → K a' w') →
      if Region.wanted o (yielded ops a.tmps) = true then Oper.wp P o a w K Q else K (a.put o.dst undef) w) : wpAnyZ P md ops Q S ex (fuel + 1) listed a w := wpAnyZ_one hr (get_of_drop ho) h
theorem wpAnyZ_two' {i k : Nat} {o o' : Oper} {rest rest' : List Oper} {fuel : Nat} {listed : Array Bool} {a : Act} {w : World} (hr : Region.ready md ops listed = [i, k]) (ho : ops.toList.drop i = o :: rest) (ho' : ops.toList.drop k = o' :: rest')
    (h : ∀ K : Act → World → Prop, Hid (∀ a' w', (ex i = false → S w → S w') → wpAnyZ P md ops Q S ex fuel (listed.setIfInBounds i true) a' w' → K a' w') →
      if Region.wanted o (yielded ops a.tmps) = true then Oper.wp P o a w K Q else K (a.put o.dst undef) w)
    (h' : ∀ K : Act → World → Prop, Hid (∀ a' w', (ex k = false → S w → S w') → wpAnyZ P md ops Q S ex fuel (listed.setIfInBounds k true) a' w' → K a' w') →
      if Region.wanted o' (yielded ops a.tmps) = true then Oper.wp P o' a w K Q else K (a.put o'.dst undef) w) : wpAnyZ P md ops Q S ex (fuel + 1) listed a w := wpAnyZ_two hr (get_of_drop ho) (get_of_drop ho') h h'
theorem wp_region_Z {id : Nat} {a : Act} {w : World} (S : World → Prop) (ex : Nat → Bool) (hm : P.follows .mixedOrders = true) (h : wpAnyZ P .any ops Q S ex ops.size (Array.replicate ops.size false) a w.drew) : (Code.region id ops true).wp P Q a w :=
  wp_region_any hm (wpAny_of_Z _ _ _ _ h)
end
theorem own1_grown {w w' : World} {B e s n : Nat} {v : Value} {xs : List Value} (h : w.ownsRow B e s v n xs) (hg : w.grownBy w' none) : w'.ownsRow B e s v n xs := by
  obtain ⟨hl', h1 | ⟨g', cap, cur, h1, hb', hg', h2⟩⟩ := h
  · exact ⟨hl', .inl h1⟩
  · exact ⟨hl', .inr ⟨g', cap, cur, h1, hb', grown_blk hg hg', h2⟩⟩
theorem own1_base {w : World} {B e s n g : Nat} {v : Value} {xs : List Value} (h : w.ownsRow B e s v n xs) (hg : v.ownBlock = some g) : B ≤ g := by
  obtain ⟨hl', ⟨h1, -⟩ | ⟨g', cap, cur, h1, hb', -⟩⟩ := h
  · rw [h1] at hg; cases hg
  · rw [h1] at hg; cases hg; exact hb'
theorem own1_is {w : World} {B e s n : Nat} {v : Value} {xs : List Value} (h : w.ownsRow B e s v n xs) : ∃ oa c, v = .slice oa n c := by
  obtain ⟨-, ⟨h1, h2⟩ | ⟨g, cap, -, h1, -⟩⟩ := h
  · exact ⟨none, 0, by rw [h1, h2]⟩
  · exact ⟨_, _, h1⟩
theorem own1_at {w : World} {B e n gg cap : Nat} {xs : List Value} (h : w.ownsRow B e 1 (.slice (some ⟨gg, 0, none⟩) n cap) n xs) {i : Nat} {u : Value} (hi : xs[i]? = some u) : w.cell? ⟨gg, i, none⟩ = some u := by
  obtain ⟨hl, ⟨h1, -⟩ | ⟨g, cap', cur, h1, hb, hg, hc, hm, hs, ht⟩⟩ := h
  · cases h1
  · simp only [Value.slice.injEq, Option.some.injEq, Addr.mk.injEq, and_true, true_and] at h1; obtain ⟨rfl, rfl⟩ := h1; rw [cell_of_row w gg _ _ _ _ hg]; rw [← ht, List.getElem?_take] at hi
    split at hi
    · simpa using hi
    · cases hi
theorem own_types {w : World} {B B' e e' s s' n n' : Nat} {v v' : Value} {xs xs' : List Value} (h : w.ownsRow B e s v n xs) (h' : w.ownsRow B' e' s' v' n' xs') (hne : e ≠ e') {k : Nat} (hk : v.ownBlock = some k) : v'.ownBlock ≠ some k := by
  intro hk'
  rcases h.2 with ⟨h1, -⟩ | ⟨g, cap, cur, h1, -, h2, -⟩
  · rw [h1] at hk; cases hk
  · rcases h'.2 with ⟨h3, -⟩ | ⟨g', cap', cur', h3, -, h4, -⟩
    · rw [h3] at hk'; cases hk'
    · rw [h1] at hk; cases hk; rw [h3] at hk'; cases hk'; rw [h2] at h4; have := Option.some.inj h4
      injection this with _ h5 _
      exact hne h5
theorem own1_kept {w w' : World} {B e s n : Nat} {v : Value} {xs : List Value} {row : Option Nat} (h : w.ownsRow B e s v n xs) (hg : w.grownBy w' row) (hne : ∀ k, v.ownBlock = some k → row ≠ some k) : w'.ownsRow B e s v n xs := by
  obtain ⟨hl', h1 | ⟨g', cap, cur, h1, hb', hg', h2⟩⟩ := h
  · exact ⟨hl', .inl h1⟩
  · exact ⟨hl', .inr ⟨g', cap, cur, h1, hb', (hg.block g' (Array.getElem?_eq_some_iff.1 hg').1 (fun hc => hne g' (by rw [h1]; rfl) hc.symm)).trans hg', h2⟩⟩
theorem grown_own2 {V Y Y' : World} {B e s n : Nat} {v : Value} {xs : List Value} (h : V.grownBy Y none) (hB : V.heap.size ≤ B) (ho : Y.ownsRow B e s v n xs) (hg : Y.grownBy Y' v.ownBlock) : V.grownBy Y' none := by
  rcases hv : v.ownBlock with _ | g
  · rw [hv] at hg; exact grownBy_trans h hg
  · rw [hv] at hg; exact grownBy_new h hg (Nat.le_trans hB (own1_base ho hv))
theorem own1_setT {w : World} {b j B e s n : Nat} {u v : Value} {xs : List Value} {cur : Array Value} {t : TypeId} {f : Nat × Nat} (h : w.ownsRow B e s v n xs) (hb : w.heap[b]? = some (.cells cur t f)) (hne : t ≠ e) : (w.setCell ⟨b, j, none⟩ u).ownsRow B e s v n xs := by
  obtain ⟨hl', h1 | ⟨g', cap, cur', h1, hb', hg', h2⟩⟩ := h
  · exact ⟨hl', .inl h1⟩
  · refine ⟨hl', .inr ⟨g', cap, cur', h1, hb', (heap_setCell_other w ⟨b, j, none⟩ g' _ ?_).trans hg', h2⟩⟩; rintro rfl; rw [hb] at hg'; have h9 := Option.some.inj hg'
    injection h9 with _ h8 _
    exact hne h8
theorem own1_keepT {W W' : World} {b B e s n : Nat} {v : Value} {xs : List Value} {cur : Array Value} {t : TypeId} {f : Nat × Nat} (h : W.ownsRow B e s v n xs) (hb : W.heap[b]? = some (.cells cur t f)) (hne : t ≠ e) (hk : ∀ k, k ≠ b → W'.heap[k]? = W.heap[k]?) : W'.ownsRow B e s v n xs := by
  obtain ⟨hl', h1 | ⟨g', cap, cur', h1, hb', hg', h2⟩⟩ := h
  · exact ⟨hl', .inl h1⟩
  · refine ⟨hl', .inr ⟨g', cap, cur', h1, hb', (hk g' ?_).trans hg', h2⟩⟩; rintro rfl; rw [hb] at hg'; have h9 := Option.some.inj hg'
    injection h9 with _ h8 _
    exact hne h8
theorem own_nblk {W : World} {b B e s n : Nat} {v : Value} {xs : List Value} {cur : Array Value} {t : TypeId} {f : Nat × Nat} (h : W.ownsRow B e s v n xs) (hb : W.heap[b]? = some (.cells cur t f)) (hne : t ≠ e) : v.ownBlock ≠ some b := by
  intro hc
  rcases h.2 with ⟨h1, -⟩ | ⟨g', cap, cur', h1, hb', hg', -⟩
  · rw [h1] at hc; cases hc
  · rw [h1] at hc; cases hc; rw [hb] at hg'; have h9 := Option.some.inj hg'
    injection h9 with _ h8 _
    exact hne h8
theorem blk_own {W W' : World} {b B e s n : Nat} {v : Value} {xs : List Value} {cur : Array Value} {t : TypeId} {f : Nat × Nat} (hg : W.grownBy W' v.ownBlock) (h : W.ownsRow B e s v n xs) (hb : W.heap[b]? = some (.cells cur t f)) (hne : t ≠ e) : W'.heap[b]? = some (.cells cur t f) :=
  (hg.block b (Array.getElem?_eq_some_iff.1 hb).1 (fun hc => own_nblk h hb hne hc.symm)).trans hb
theorem setCells_full {g : Nat} {t : TypeId} : ∀ (vs pre cur : List Value) (w : World), w.heap[g]? = some (.cells (pre ++ cur).toArray t (0, 0)) → cur.length = vs.length → (w.setCells g pre.length vs).heap[g]? = some (.cells (pre ++ vs).toArray t (0, 0))
  | [], pre, cur, w, h, hl => by
    have : cur = [] := by cases cur with | nil => rfl | cons => simp at hl
    subst this; exact h
  | v :: r, pre, cur, w, h, hl => by
    cases cur with
    | nil => simp at hl
    | cons c cur =>
      have h1 := set_blkL pre.length v h
      have e1 : (pre ++ c :: cur).set pre.length v = (pre ++ [v]) ++ cur := by simp
      rw [e1] at h1; have h2 := setCells_full r (pre ++ [v]) cur _ h1 (by simpa using hl); rw [World.setCells]
      simpa using h2
theorem setCells_all {g : Nat} {t : TypeId} {vs cur : List Value} {w : World} (h : w.heap[g]? = some (.cells cur.toArray t (0, 0))) (hl : cur.length = vs.length) : (w.setCells g 0 vs).heap[g]? = some (.cells vs.toArray t (0, 0)) := by
  simpa using setCells_full vs [] cur w h hl
theorem setCells_oth (g k : Nat) (hk : k ≠ g) : ∀ (vs : List Value) (o : Nat) (w : World), (w.setCells g o vs).heap[k]? = w.heap[k]?
  | [], _, _ => rfl
  | v :: r, o, w => by rw [World.setCells, setCells_oth g k hk r (o + 1) _, heap_setCell_other w _ k v hk]
theorem there_blk {w : World} {g n : Nat} {t : TypeId} {vs : List Value} (h : w.heap[g]? = some (.cells vs.toArray t (0, 0))) (hn : vs.length = n) : w.there g 0 n := fun j hj => by
  refine ⟨?_, by simp [World.frozen?, h]⟩; rw [cell_of_row w g _ _ _ _ h]
  simp
  omega
theorem range_blk {w : World} {g : Nat} {t : TypeId} {f : Nat × Nat} {vs : List Value} (h : w.heap[g]? = some (.cells vs.toArray t f)) : w.rangeAt g 0 vs := fun j v hv => by
  rw [cell_of_row w g _ _ _ _ h]; simpa using hv
theorem step_store_mid {w : World} {ops : Array Oper} {o : Oper} {a : Act} {K : Act → World → Prop} {Q : Exit → Act → World → Prop} {E : Prop} (hgd : o.guard = none) (ty : TypeId) (x y : Operand) (ho : o.op = .store ty x y)
    (b off : Nat) (cells : Array Value) (hx : a.eval x = .pointer (some ⟨b, off, none⟩)) (hy : a.eval y = .agg cells) (ht : w.there b off cells.size) (hi : (Tryz.prog.info? ty).map (·.size) = some cells.size) (h1 : cells.all (·.oneCell') = true)
    (h : K (a.put o.dst undef) (w.setCells b off cells.toList)) : if Region.wanted o (yielded ops a.tmps) = true then Oper.wp Tryz.prog o a w K Q else E := by
  have hw : Region.wanted o (yielded ops a.tmps) = true := by simp [Region.wanted, hgd]
  rw [if_pos hw]; exact wp_store_mid ty x y ho b off cells hx hy ht hi h1 h
theorem drew_blk {W : World} {b : Nat} {o : Option Obj} (h : W.heap[b]? = o) : W.drew.heap[b]? = o := h
section
variable {P : Program} {ops : Array Oper} {Q : Exit → Act → World → Prop} {md : Region.Mode} {S : World → Prop} {ex : Nat → Bool}
theorem wpAnyZ_loadS {i : Nat} {oi : Oper} {rest : List Oper} {v : Value} {fuel : Nat} {listed : Array Bool} {a : Act} {w : World} (hd : ops.toList.drop i = oi :: rest) (hs : Region.noSelect ops = true) (hf : Region.free md ops listed i = true) (hr : (Region.ready md ops listed).contains i = true)
    (hQ : ∀ c a w, Q (.panic c) (a.put oi.dst v) w → Q (.panic c) a w) (hex : ∀ j, ex j = false) (hy : YieldsIf P ops S oi v a) (hS : S w)
    (h : wpAnyZ P md ops Q S ex fuel (listed.setIfInBounds i true) (a.put oi.dst v) w) : wpAnyZ P md ops Q S ex (fuel + 1) listed a w :=
  wpAnyZ_first (S0 := S) (I := fun _ => True) (get_of_drop hd) (Region.noSelect_spec hs) hQ (fun _ j _ _ _ _ _ _ hS0 hS' => ⟨hS' (hex j) hS0, trivial⟩) fuel listed a w (Region.free_spec (get_of_drop hd) hf) (by simpa using hr) trivial hy hS h
end
section
variable {P : Program} {ops : Array Oper} {Q : Exit → Act → World → Prop} {md : Region.Mode} {S : World → Prop} {ex : Nat → Bool}
theorem zTk (i : Nat) {oi : Oper} {rest : List Oper} {v : Value} {fuel : Nat} {listed : Array Bool} {a : Act} {w : World} (h : wpAnyZ P md ops Q S ex fuel (listed.setIfInBounds i true) (a.put oi.dst v) w) (hd : ops.toList.drop i = oi :: rest := by exact rfl) (hs : Region.noSelect ops = true := by kernel_rfl) (hf : Region.free md ops listed i = true := by kernel_rfl) (hr : (Region.ready md ops listed).contains i = true := by kernel_rfl)
    (hQ : ∀ c a w, Q (.panic c) (a.put oi.dst v) w → Q (.panic c) a w := by exact fun _ _ _ h => h) (hw : Region.wanted oi (yielded ops a.tmps) = true := by rfl) (hy : ∀ w, True → (execOp a.eval oi).run P w = .ok (.value v) w := by (intro w _; go_simp; first | done | with_reducible rfl)) : wpAnyZ P md ops Q S ex (fuel + 1) listed a w := wpAnyZ_take' hd hs hf hr hQ (Or.inl ⟨hw, hy⟩) h
theorem zTu (i : Nat) {oi : Oper} {rest : List Oper} {fuel : Nat} {listed : Array Bool} {a : Act} {w : World} (h : wpAnyZ P md ops Q S ex fuel (listed.setIfInBounds i true) (a.put oi.dst undef) w) (hd : ops.toList.drop i = oi :: rest := by exact rfl) (hs : Region.noSelect ops = true := by kernel_rfl) (hf : Region.free md ops listed i = true := by kernel_rfl) (hr : (Region.ready md ops listed).contains i = true := by kernel_rfl)
    (hQ : ∀ c a w, Q (.panic c) (a.put oi.dst undef) w → Q (.panic c) a w := by exact fun _ _ _ h => h) (hw : Region.wanted oi (yielded ops a.tmps) = false := by rfl) : wpAnyZ P md ops Q S ex (fuel + 1) listed a w := wpAnyZ_take' hd hs hf hr hQ (Or.inr ⟨hw, rfl⟩) h
theorem zLd (i y : Nat) {oi : Oper} {rest : List Oper} {v : Value} {fuel : Nat} {listed : Array Bool} {a : Act} {w : World} (hd : ops.toList.drop i = oi :: rest) (hS : S w) (hy : ∀ w, S w → (execOp a.eval oi).run P w = .ok (.value v) w) (h : wpAnyZ P md ops Q S ex fuel (listed.setIfInBounds i true) (a.put oi.dst v) w) (hs : Region.noSelect ops = true := by kernel_rfl) (hf : Region.free md ops listed i = true := by kernel_rfl) (hr : (Region.ready md ops listed).contains i = true := by kernel_rfl)
    (hQ : ∀ c a w, Q (.panic c) (a.put oi.dst v) w → Q (.panic c) a w := by exact fun _ _ _ h => h) (hex : ∀ j, ex j = true → j = y := by (intro j hj; simpa using hj)) (hwf : Region.waitsFor md ops y i = true := by kernel_rfl) (hey : ex y = true := by rfl) (hyl : listed.getD y false = false := by kernel_rfl) (hw : Region.wanted oi (yielded ops a.tmps) = true := by rfl) : wpAnyZ P md ops Q S ex (fuel + 1) listed a w := wpAnyZ_load' hd hs hf hr hQ (fun j hj => .inl (by rw [hex j hj]; exact hwf)) hey hyl (Or.inl ⟨hw, hy⟩) hS h
theorem zLs (i : Nat) {oi : Oper} {rest : List Oper} {v : Value} {fuel : Nat} {listed : Array Bool} {a : Act} {w : World} (hd : ops.toList.drop i = oi :: rest) (hS : S w) (hy : ∀ w, S w → (execOp a.eval oi).run P w = .ok (.value v) w) (h : wpAnyZ P md ops Q S ex fuel (listed.setIfInBounds i true) (a.put oi.dst v) w) (hs : Region.noSelect ops = true := by kernel_rfl) (hf : Region.free md ops listed i = true := by kernel_rfl) (hr : (Region.ready md ops listed).contains i = true := by kernel_rfl)
    (hQ : ∀ c a w, Q (.panic c) (a.put oi.dst v) w → Q (.panic c) a w := by exact fun _ _ _ h => h) (hex : ∀ j, ex j = false := by exact fun _ => rfl) (hw : Region.wanted oi (yielded ops a.tmps) = true := by rfl) : wpAnyZ P md ops Q S ex (fuel + 1) listed a w := wpAnyZ_loadS hd hs hf hr hQ hex (Or.inl ⟨hw, hy⟩) hS h
end
def rowBlk : Value → Option Nat
  | .slice (some a) _ cap => if cap = 0 then none else some a.block
  | _ => none
def BRow (w : World) (B : Nat) (v : Value) (L : List Nat) : Prop :=
  (∀ z ∈ L, z < 256) ∧ ((L = [] ∧ ∃ oa, v = .slice oa 0 0) ∨ ∃ g cap, v = .slice (some ⟨g, 0, none⟩) L.length cap ∧ 0 < cap ∧ w.ownsRow B 5 1 v L.length (L.map bv))
theorem BRow.is {w : World} {B : Nat} {v : Value} {L : List Nat} (h : BRow w B v L) : ∃ oa cap, v = .slice oa L.length cap ∧ L.length ≤ cap := by
  obtain ⟨-, ⟨rfl, oa, rfl⟩ | ⟨g, cap, rfl, -, h1⟩⟩ := h
  · exact ⟨oa, 0, rfl, Nat.le_refl _⟩
  · exact ⟨_, cap, rfl, ownsRow_le h1⟩
theorem BRow.of_own {w : World} {B : Nat} {v : Value} {L : List Nat} (hz : ∀ z ∈ L, z < 256) (h : w.ownsRow B 5 1 v L.length (L.map bv)) : BRow w B v L := by
  refine ⟨hz, ?_⟩
  rcases h.2 with ⟨h1, h0⟩ | ⟨g, cap, cur, h1, hb, hg, hr⟩
  · exact .inl ⟨List.eq_nil_of_length_eq_zero h0, none, h1⟩
  · by_cases hc : cap = 0
    · subst hc; have hn := hr.1
      have h0 : L.length = 0 := by omega
      exact .inl ⟨List.eq_nil_of_length_eq_zero h0, some ⟨g, 0, none⟩, by rw [h1, h0]⟩
    · exact .inr ⟨g, cap, h1, by omega, h⟩
theorem BRow.grown {w w' : World} {B : Nat} {v : Value} {L : List Nat} {row : Option Nat} (h : BRow w B v L) (hg : w.grownBy w' row) (hne : ∀ k, rowBlk v = some k → row ≠ some k) : BRow w' B v L := by
  obtain ⟨hz, h | ⟨g, cap, rfl, hc, ho⟩⟩ := h
  · exact ⟨hz, .inl h⟩
  · refine ⟨hz, .inr ⟨g, cap, rfl, hc, own1_kept ho hg (fun k hk => hne k ?_)⟩⟩; simp only [Value.ownBlock] at hk; simp only [rowBlk, if_neg (show cap ≠ 0 by omega)]; exact hk
theorem BRow.grown0 {w w' : World} {B : Nat} {v : Value} {L : List Nat} (h : BRow w B v L) (hg : w.grownBy w' none) : BRow w' B v L := h.grown hg (by simp)
theorem BRow.base {w : World} {B : Nat} {v : Value} {L : List Nat} (h : BRow w B v L) {k : Nat} (hk : rowBlk v = some k) : B ≤ k ∧ k < w.heap.size ∧ ∃ cur, w.heap[k]? = some (.cells cur 5 (0, 0)) := by
  obtain ⟨-, ⟨-, oa, rfl⟩ | ⟨g, cap, rfl, hc, ho⟩⟩ := h
  · cases oa <;> simp [rowBlk] at hk
  · simp only [rowBlk, if_neg (show cap ≠ 0 by omega), Option.some.injEq] at hk; subst hk
    rcases ho.2 with ⟨h1, -⟩ | ⟨g', cap', cur, h1, hb, hg, -⟩
    · cases h1
    · simp only [Value.slice.injEq, Option.some.injEq, Addr.mk.injEq, and_true, true_and] at h1; obtain ⟨rfl, rfl⟩ := h1; exact ⟨hb, (Array.getElem?_eq_some_iff.1 hg).1, cur, hg⟩
theorem BRow.sl {w : World} {B : Nat} {v : Value} {L : List Nat} (h : BRow w B v L) : ∃ oa cap, v = .slice oa L.length cap ∧ SlB w oa L.length L := by
  obtain ⟨hz, ⟨rfl, oa, rfl⟩ | ⟨g, cap, rfl, hc, ho⟩⟩ := h
  · exact ⟨oa, 0, rfl, rfl, hz, fun h => absurd rfl h⟩
  · exact ⟨_, cap, rfl, ownsRow_sl ho hz⟩
theorem run_app_none {P : Program} {w : World} {t ty e : TypeId} {i : TypeInfo} (T : ByteT P t e i) {base oa : Option Addr} {n cap c : Nat} (hc : n ≤ cap) : (Builtin.append_ #[t, t] ty #[.slice base n cap, .slice oa 0 c]).run P w = .ok (.slice base n cap) w := by
  have hf : (Builtin.firstCells i.size 0 (.slice oa 0 c)).run P w = .ok #[] w := by
    cases oa with
    | none => simp [Builtin.firstCells]
    | some a => simpa using run_firstCells_some (P := P) w i.size 0 a 0 c [] (by simp) (by simp)
  cases base <;> simp [Builtin.append_, run_underlying T.und, sizeOf, typeInfo, T.info, Builtin.lenOf, hf, hc, storeCells]
theorem run_app_alias {P : Program} {w : World} {t ty e : TypeId} {i : TypeInfo} (T : ByteT P t e i) {a : Addr} {oa : Option Addr} {m c : Nat} (hm : 0 < m) (hb : m ≤ 1099511627776) : (Builtin.append_ #[t, t] ty #[.slice (some a) 0 0, .slice oa m c]).run P w = (Builtin.append_ #[t, t] ty #[.slice none 0 0, .slice oa m c]).run P w := by
  have hf : ∀ X : World, (Builtin.firstCells 1 0 (.slice (some a) 0 0)).run P X = .ok #[] X := fun X => by
    simpa using run_firstCells_some (P := P) X 1 0 a 0 0 [] (by simp) (by simp)
  have hf' : ∀ X : World, (Builtin.firstCells 1 0 (.slice none 0 0)).run P X = .ok #[] X := fun X => by simp [Builtin.firstCells]
  have h0 : m ≠ 0 := by omega
  have hc : ¬ (281474976710656 < Builtin.nextslicecap m 0) := by unfold Builtin.nextslicecap; rw [if_pos (by omega)]; omega
  simp [Builtin.append_, run_underlying T.und, sizeOf, typeInfo, T.info, Builtin.lenOf, h0, hf, hf', T.size, T.bytes, hc]
theorem run_app_row {w : World} {B : Nat} {v : Value} {L : List Nat} {ty : TypeId} (h : BRow w B v L) {oa : Option Addr} {m c : Nat} {D : List Nat} (hs : SlB w oa m D) (hb : L.length + m ≤ 1048576) (hB : B ≤ w.heap.size) :
    ∃ v' w', (Builtin.append_ #[22, 22] ty #[v, .slice oa m c]).run Tryz.prog w = .ok v' w' ∧ BRow w' B v' (L ++ D) ∧ w.grownBy w' (rowBlk v) ∧ ∀ g, rowBlk v' = some g → rowBlk v = some g ∨ w.heap.size ≤ g := by
  obtain ⟨i0, T⟩ := byteT; have hzD := hs.2.1
  by_cases hm : m = 0
  · subst hm; obtain rfl : D = [] := List.eq_nil_of_length_eq_zero hs.1; obtain ⟨a, cap, rfl, hc⟩ := h.is; exact ⟨_, w, run_app_none T hc, by simpa using h, grownBy_refl _ _, fun g hg => .inl hg⟩
  · obtain ⟨hz, ⟨rfl, ob, rfl⟩ | ⟨g, cap, rfl, hc, ho⟩⟩ := h
    · have hrn : ∃ v' w', (Builtin.append_ #[22, 22] ty #[.slice none 0 0, .slice oa m c]).run Tryz.prog w = .ok v' w' ∧ w'.ownsRow B 5 1 v' m (D.map bv) ∧ w.grownBy w' none ∧ ∀ g, v'.ownBlock = some g → w.heap.size ≤ g := by
        obtain ⟨ad, rfl, hsrc⟩ := hs.src (by omega); obtain ⟨v', w', hrun, h1, h2, h3⟩ := run_append_own (P := Tryz.prog) w w.heap.size 22 ty 5 i0 (.int .u8 0) 1 1 T.und T.info T.zero T.size T.bytes rfl (by decide) (.slice none 0 0) 0 [] (World.ownsRow_nil _ _ _ _) ad m c (D.map bv) (by simpa using hs.1) hsrc (bytes_one D) (by unfold maxLen; omega) (by omega) (Nat.le_refl _); simp only [Nat.zero_add, List.nil_append] at h1; exact ⟨v', w', hrun, ownsRow_base h1 hB, h2, fun g hg => own1_base h1 hg⟩
      obtain ⟨v', w', hrun, h1, h2, h3⟩ := hrn; have hl : D.length = m := hs.1; refine ⟨v', w', ?_, by simpa using BRow.of_own hzD (by rw [hl]; exact h1), ?_, ?_⟩
      · cases ob with
        | none => exact hrun
        | some a => rw [run_app_alias T (by omega) (by omega)]; exact hrun
      · have : rowBlk (.slice ob 0 0) = none := by cases ob <;> simp [rowBlk]
        rw [this]; exact h2
      · intro g hg; refine .inr (h3 g ?_)
        rcases h1.2 with ⟨h9, -⟩ | ⟨g', cap', cur, h9, -⟩
        · rw [h9] at hg; simp [rowBlk] at hg
        · rw [h9] at hg ⊢; simp only [rowBlk] at hg
          split at hg
          · cases hg
          · exact hg
    · obtain ⟨g', cap', w', hrun, h1, h2, h3, h4⟩ := run_append_b (ty := ty) (c := c) T ho hs (by omega) hB; have hl : D.length = m := hs.1
      have hcz : cap ≠ 0 := by omega
      have hrb : rowBlk (.slice (some ⟨g, 0, none⟩) L.length cap) = some g := by simp [rowBlk, hcz]
      refine ⟨_, w', hrun, BRow.of_own (fun z hz' => ?_) (by rw [List.length_append, hl]; exact h1), by rw [hrb]; exact h2, fun k hk => ?_⟩
      · rcases List.mem_append.1 hz' with h9 | h9
        · exact hz z h9
        · exact hzD z h9
      · rw [hrb]; simp only [rowBlk] at hk
        split at hk
        · cases hk
        · simp only [Option.some.injEq] at hk; subst hk
          rcases h3 with h3 | h3
          · exact .inl (by rw [h3])
          · exact .inr (by rw [h3]; exact Nat.le_refl _)
theorem zero8 (k : Nat) : Builtin.zeroCells (Value.int .u8 0).cells k = ((List.replicate k 0).map bv).toArray := by
  apply Array.ext
  · simp [Builtin.zeroCells, Value.cells]
  · intro i h1 h2
    simp [Builtin.zeroCells, Value.cells, bv, Nat.mod_one]
theorem take_two {α : Type} (a b c : List α) (m : Nat) (h : m = a.length + b.length) : (a ++ b ++ c).take m = a ++ b := by subst h; rw [List.take_append_of_le_length (by simp), List.take_of_length_le (by simp)]
theorem und_int : Tryz.prog.underlying 3 = some (.int .i64) := Tryz.underlying3
theorem run_zero_row {w : World} {B : Nat} {v : Value} {L : List Nat} {ty : TypeId} (h : BRow w B v L) {k : Nat} (hk : 0 < k) (hb : L.length + k ≤ 1048576) (hB : B ≤ w.heap.size) :
    ∃ v' w', (Builtin.append_ #[22, 3] ty #[v, .int .i64 (k : Int)]).run Tryz.prog w = .ok v' w' ∧ BRow w' B v' (L ++ List.replicate k 0) ∧ w.grownBy w' (rowBlk v) ∧ ∀ g, rowBlk v' = some g → rowBlk v = some g ∨ w.heap.size ≤ g := by
  obtain ⟨i0, T⟩ := byteT
  have hzz : ∀ z ∈ L ++ List.replicate k 0, z < 256 := by
    intro z hz
    rcases List.mem_append.1 hz with h9 | h9
    · exact h.1 z h9
    · rw [(List.mem_replicate.1 h9).2]; decide
  -- a new row
  have hgrow : ∀ (oa : Option Addr) (n cap : Nat) (olds : List Nat), n = olds.length → cap < n + k → n + k ≤ 1048576 → n ≤ cap → (Builtin.firstCells i0.size n (.slice oa n cap)).run Tryz.prog w.drew = .ok (olds.map bv).toArray w.drew →
      ∃ v' w', (Builtin.append_ #[22, 3] ty #[.slice oa n cap, .int .i64 (k : Int)]).run Tryz.prog w = .ok v' w' ∧ w'.ownsRow B 5 1 v' (n + k) ((olds ++ List.replicate k 0).map bv) ∧ w.grownBy w' none ∧ ∀ g, rowBlk v' = some g → w.heap.size ≤ g := by
    intro oa n cap olds hn hc hs hnc hf; have hr := Lib.run_append_grow_zeros (P := Tryz.prog) w 22 3 ty 5 i0 (.int .u8 0) .i64 .i64 T.und und_int T.info T.zero oa n cap (olds.map bv) hf k hk (by rw [T.size]; decide) hc (by omega) (by rw [T.bytes]; omega) (by rw [T.bytes]; exact growslice_fits (by omega) (by omega)); have hge := grownCap_ge w (n + k) cap 5; refine ⟨_, _, hr, ⟨by simp; omega, .inr ⟨w.heap.size, _, _, rfl, hB, heap_alloc_new w.drew _, hge, grownCap_le_maxLen w _ _ _ (by unfold maxLen; omega), ?_, ?_⟩⟩, grownBy_alloc (grownBy_drew (grownBy_refl _ _)) _, ?_⟩
    · rw [zero8, zero8]
      simp
      omega
    · rw [zero8, zero8]; rw [Array.toList_append, Array.toList_append, List.map_append]; exact take_two _ _ _ _ (by simp [hn])
    · intro g hg; simp only [rowBlk] at hg
      split at hg
      · cases hg
      · simp only [Option.some.injEq] at hg
        omega
  obtain ⟨hz, ⟨rfl, ob, rfl⟩ | ⟨g, cap, rfl, hc, ho⟩⟩ := h
  · have hf : (Builtin.firstCells i0.size 0 (.slice ob 0 0)).run Tryz.prog w.drew = .ok (([] : List Nat).map bv).toArray w.drew := by
      cases ob with
      | none => simp [Builtin.firstCells]
      | some a => simpa using run_firstCells_some (P := Tryz.prog) w.drew i0.size 0 a 0 0 [] (by simp) (by simp)
    obtain ⟨v', w', h1, h2, h3, h4⟩ := hgrow ob 0 0 [] rfl (by omega) (by omega) (Nat.le_refl _) hf
    have hrb : rowBlk (.slice ob 0 0) = none := by cases ob <;> simp [rowBlk]
    refine ⟨v', w', h1, BRow.of_own hzz (by simpa using h2), by rw [hrb]; exact h3, fun g hg => .inr (h4 g hg)⟩
  · have hcz : cap ≠ 0 := by omega
    have hrb : rowBlk (.slice (some ⟨g, 0, none⟩) L.length cap) = some g := by simp [rowBlk, hcz]
    have ho' := ho
    rcases ho.2 with ⟨h1, -⟩ | ⟨g', cap', cur, h1, hBg, hg, hn, hm, hs, ht⟩
    · cases h1
    · simp only [Value.slice.injEq, Option.some.injEq, Addr.mk.injEq, and_true, true_and] at h1; obtain ⟨rfl, rfl⟩ := h1; simp only [Nat.mul_one] at hs ht
      by_cases hroom : L.length + k ≤ cap
      · have hst := run_storeCells_at (P := Tryz.prog) g L.length 5 ((List.replicate k 0).map bv) 0 cur w hg (by simp; omega) (bytes_one _)
        have hadd : (⟨g, 0, none⟩ : Addr).add L.length = ⟨g, L.length, none⟩ := by unfold Addr.add; split <;> simp_all
        have hw : IntKind.i64.wrap (k : Int) = (k : Int) := IntWalk.i64_in _ (by omega)
        have hk0 : k ≠ 0 := by omega
        have hk48 : ¬ ((281474976710656 : Int) < (k : Int)) := by omega
        simp only [List.length_map, List.length_replicate, Nat.add_zero] at hst; refine ⟨.slice (some ⟨g, 0, none⟩) (L.length + k) cap, w.setRow g (List.take L.length cur.toList ++ (List.replicate k 0).map bv ++ List.drop (L.length + k) cur.toList).toArray, ?_, BRow.of_own hzz ⟨by simp, .inr ⟨g, cap, _, by simp, hBg, setRow_heap w g cur _ 5 _ hg, by simpa using hroom, hm, ?_, ?_⟩⟩, ?_, fun k' hk' => .inl (by rw [hrb]; simpa [rowBlk, hcz] using hk')⟩
        · have hst' := hst; rw [List.map_replicate] at hst'
          simp [Builtin.append_, run_underlying T.und, run_underlying und_int, sizeOf, typeInfo, T.info, T.size, T.bytes, hw, hk48, hk0, hroom, hadd, zero8, hst', asInt, asIntOf]
          intro h9
          omega
        · simp
          omega
        · have hl : (List.take L.length cur.toList).length = L.length := by rw [List.length_take]; simp; omega
          rw [ht, List.length_append, List.length_replicate, Nat.mul_one, List.map_append]; exact take_two _ _ _ _ (by simp)
        · rw [hrb]; exact ⟨rfl, rfl, rfl, by simp [World.setRow], fun j hj hne => setRow_other w g j _ (fun e => hne (by rw [e]))⟩
      · have hf : (Builtin.firstCells i0.size L.length (.slice (some ⟨g, 0, none⟩) L.length cap)).run Tryz.prog w.drew = .ok (L.map bv).toArray w.drew := by
          refine run_firstCells_some (P := Tryz.prog) w.drew i0.size L.length ⟨g, 0, none⟩ L.length cap (L.map bv) (by rw [T.size]; simp) (fun j u hj => ?_); have h9 := own1_at ho hj
          have hadd : (⟨g, 0, none⟩ : Addr).add j = ⟨g, j, none⟩ := by unfold Addr.add; split <;> simp_all
          rw [hadd]; exact h9
        obtain ⟨v', w', h1, h2, h3, h4⟩ := hgrow (some ⟨g, 0, none⟩) L.length cap L rfl (by omega) hb hn hf; exact ⟨v', w', h1, BRow.of_own hzz (by simpa using h2), ⟨h3.os, h3.tape, h3.output, h3.size, fun j hj _ => h3.block j hj (by simp)⟩, fun g hg => .inr (h4 g hg)⟩
def ov (L : List Nat) (at_ : Nat) (D : List Nat) : List Nat := (L ++ List.replicate (at_ - L.length) 0).take at_ ++ (D ++ (L ++ List.replicate (at_ - L.length) 0).drop (at_ + D.length))
theorem ov_eq (b : List Nat) (at_ m : Nat) (D : List Nat) (h : at_ ≤ b.length) (hm : m = min D.length (b.length - at_)) : splice b at_ (D.take m) ++ D.drop m = b.take at_ ++ (D ++ b.drop (at_ + D.length)) := by
  unfold splice
  by_cases hd : D.length ≤ b.length - at_
  · obtain rfl : m = D.length := by omega
    simp
  · obtain rfl : m = b.length - at_ := by omega
    have h1 : b.drop (at_ + (D.take (b.length - at_)).length) = [] := List.drop_eq_nil_iff.2 (by simp; omega); have h2 : b.drop (at_ + D.length) = [] := List.drop_eq_nil_iff.2 (by omega); rw [h1, h2]
    simp
theorem ov_len (L : List Nat) (at_ : Nat) (D : List Nat) : (ov L at_ D).length = max L.length (at_ + D.length) ∨ (ov L at_ D).length = max (max L.length at_) (at_ + D.length) := by
  unfold ov
  simp
  omega
theorem splice_take {α : Type} (cur X : List α) (n at_ : Nat) (h : at_ + X.length ≤ n) (hn : n ≤ cur.length) : (cur.take at_ ++ (X ++ cur.drop (at_ + X.length))).take n = splice (cur.take n) at_ X := by
  unfold splice
  have h1 : (cur.take at_).length = at_ := by rw [List.length_take]; omega
  rw [List.take_append, h1, List.take_append, List.drop_take, List.take_take, List.take_take, List.take_of_length_le (l := X) (by omega), show min n at_ = at_ by omega, show min at_ n = at_ by omega, show n - at_ - X.length = n - (at_ + X.length) by omega]
theorem wpList_app_row {w : World} {ops : Array Oper} {rest : List Oper} {o : Oper} {a : Act} {Q : Exit → Act → World → Prop} (hgd : o.guard = none) (s x : Operand) (ho : o.op = .call { callee := .builtin .append, args := #[s, x], argTypes := #[22, 22] })
    {B : Nat} {v : Value} {L : List Nat} (hs : a.eval s = v) (h : BRow w B v L) {oa : Option Addr} {m c : Nat} {D : List Nat} (hx : a.eval x = .slice oa m c) (hsrc : SlB w oa m D) (hb : L.length + m ≤ 1048576) (hB : B ≤ w.heap.size)
    (hK : ∀ v' w', BRow w' B v' (L ++ D) → w.grownBy w' (rowBlk v) → (∀ g, rowBlk v' = some g → rowBlk v = some g ∨ w.heap.size ≤ g) → wpList Tryz.prog ops Q rest (a.put o.dst v') w') : wpList Tryz.prog ops Q (o :: rest) a w := by
  refine wpList_plain hgd fun K hK' => ?_
  obtain ⟨v', w', hrun, h1, h2, h3⟩ := run_app_row (ty := o.type) (c := c) h hsrc hb hB
  unfold Oper.wp
  simp [execOp, ho, resolve, invoke, builtin, hs, hx, hrun, Result.andThen]
  exact hK' _ _ (hK v' w' h1 h2 h3)
theorem wpList_zero_row {w : World} {ops : Array Oper} {rest : List Oper} {o : Oper} {a : Act} {Q : Exit → Act → World → Prop} (hgd : o.guard = none) (s x : Operand) (ho : o.op = .call { callee := .builtin .append, args := #[s, x], argTypes := #[22, 3] })
    {B : Nat} {v : Value} {L : List Nat} (hs : a.eval s = v) (h : BRow w B v L) {k : Nat} (hx : a.eval x = .int .i64 (k : Int)) (hk : 0 < k) (hb : L.length + k ≤ 1048576) (hB : B ≤ w.heap.size)
    (hK : ∀ v' w', BRow w' B v' (L ++ List.replicate k 0) → w.grownBy w' (rowBlk v) → (∀ g, rowBlk v' = some g → rowBlk v = some g ∨ w.heap.size ≤ g) → wpList Tryz.prog ops Q rest (a.put o.dst v') w') : wpList Tryz.prog ops Q (o :: rest) a w := by
  refine wpList_plain hgd fun K hK' => ?_
  obtain ⟨v', w', hrun, h1, h2, h3⟩ := run_zero_row (ty := o.type) h hk hb hB
  unfold Oper.wp
  simp [execOp, ho, resolve, invoke, builtin, hs, hx, hrun, Result.andThen]
  exact hK' _ _ (hK v' w' h1 h2 h3)
theorem wpList_copy_row {w : World} {ops : Array Oper} {rest : List Oper} {o : Oper} {a : Act} {Q : Exit → Act → World → Prop} (hgd : o.guard = none) (d s : Operand) (ho : o.op = .call { callee := .builtin .copy, args := #[d, s], argTypes := #[22, 22] })
    {B : Nat} {v : Value} {L : List Nat} (h : BRow w B v L) {at_ : Nat} (hat : at_ ≤ L.length) {dp : Option Addr} {dCap : Nat} (hd : a.eval d = .slice dp (L.length - at_) dCap) (hdp : ∀ g, rowBlk v = some g → at_ < L.length → dp = some ⟨g, at_, none⟩)
    {oa : Option Addr} {m c : Nat} {D : List Nat} (hs : a.eval s = .slice oa m c) (hsrc : SlB w oa m D)
    (hK : ∀ w', BRow w' B v (splice L at_ (D.take (min m (L.length - at_)))) → w.grownBy w' (rowBlk v) → wpList Tryz.prog ops Q rest (a.put o.dst (goInt ((min m (L.length - at_) : Nat) : Int))) w') : wpList Tryz.prog ops Q (o :: rest) a w := by
  have hu := Tryz.underlying22
  have hsz : (Tryz.prog.info? 5).map (·.size) = some 1 := by kernel_rfl
  have hDl : D.length = m := hsrc.1
  by_cases h0 : min m (L.length - at_) = 0
  · refine wpList_copy_nothing hgd d s _ _ ho 5 hu hsz dp oa _ dCap m c hd hs h0 ?_; have := hK w (by rw [h0]; simpa [splice] using h) (grownBy_refl _ _); rw [h0] at this; exact this
  · obtain ⟨ad, rfl, hcs⟩ := hsrc.src (by omega); obtain ⟨hz, ⟨rfl, -⟩ | ⟨g, cap, rfl, hc, hown⟩⟩ := h
    · simp at h0
    · have hcz : cap ≠ 0 := by omega
      have hrb : rowBlk (.slice (some ⟨g, 0, none⟩) L.length cap) = some g := by simp [rowBlk, hcz]
      have hdp' := hdp g hrb (by omega); subst hdp'
      rcases hown.2 with ⟨h1, -⟩ | ⟨g', cap', cur, h1, hBg, hg, hn, hm, hs', ht⟩
      · cases h1
      · simp only [Value.slice.injEq, Option.some.injEq, Addr.mk.injEq, and_true, true_and] at h1; obtain ⟨rfl, rfl⟩ := h1; simp only [Nat.mul_one] at hs' ht
        have hcl : ((D.take (min m (L.length - at_))).map bv).length = Nat.min m (L.length - at_) := by
          rw [List.length_map, List.length_take, hDl]
          show min (min m (L.length - at_)) m = min m (L.length - at_)
          omega
        refine wpList_copy_own hgd d s _ _ ho 5 hu hsz g at_ _ dCap ad m c hd hs cur 5 hg ((D.take (min m (L.length - at_))).map bv) hcl (fun j u hj => hcs j u ?_) (by rw [hcl]; show at_ + min m (L.length - at_) ≤ _; omega) (bytes_one _) ?_
        · rw [List.map_take, List.getElem?_take] at hj
          split at hj
          · exact hj
          · cases hj
        · rw [hcl]; refine hK _ ⟨fun z hz' => ?_, .inr ⟨g, cap, ?_, hc, ?_⟩⟩ ?_
          · unfold splice at hz'
            rcases List.mem_append.1 hz' with h9 | h9
            · exact hz z (List.mem_of_mem_take h9)
            · rcases List.mem_append.1 h9 with h8 | h8
              · exact hsrc.2.1 z (List.mem_of_mem_take h8)
              · exact hz z (List.mem_of_mem_drop h8)
          · rw [length_splice _ _ _ (by rw [List.length_take]; omega)]
          · rw [length_splice _ _ _ (by rw [List.length_take]; omega)]; refine ⟨by rw [List.length_map, length_splice _ _ _ (by rw [List.length_take]; omega)]; simp, .inr ⟨g, cap, _, rfl, hBg, setRow_heap w g cur _ 5 _ hg, hn, hm, ?_, ?_⟩⟩
            · simp only [List.size_toArray, List.length_append, hcl, List.length_take, List.length_drop, Array.length_toList]
              show min at_ cur.size + (min m (L.length - at_) + (cur.size - (at_ + min m (L.length - at_)))) = cap * 1
              omega
            · have hcl' : ((D.take (min m (L.length - at_))).map bv).length = min m (L.length - at_) := hcl; have h9 := splice_take cur.toList ((D.take (min m (L.length - at_))).map bv) L.length at_ (by rw [hcl']; omega) (by simp; omega); rw [hcl', ht] at h9; rw [Nat.mul_one]; refine Eq.trans h9 ?_
              unfold splice
              simp [List.map_take, List.map_drop]
          · rw [hrb]; exact ⟨rfl, rfl, rfl, by simp [World.setRow], fun j hj hne => setRow_other w g j _ (fun e => hne (by rw [e]))⟩
theorem grown_step {w w1 w2 : World} {r0 r1 : Option Nat} (h1 : w.grownBy w1 r0) (h2 : w1.grownBy w2 r1) (hf : ∀ g, r1 = some g → r0 = some g ∨ w.heap.size ≤ g) : w.grownBy w2 r0 :=
  ⟨h2.os.trans h1.os, h2.tape.trans h1.tape, h2.output.trans h1.output, Nat.le_trans h1.size h2.size, fun k hk hne => by
    refine (h2.block k (Nat.lt_of_lt_of_le hk h1.size) (fun hc => ?_)).trans (h1.block k hk hne)
    rcases hf k hc.symm with h9 | h9
    · exact hne h9.symm
    · omega⟩
theorem slb_row {w w' : World} {da : Option Addr} {dn : Nat} {D : List Nat} {row : Option Nat} (hs : SlB w da dn D) (hg : w.grownBy w' row) (hne : dn ≠ 0 → ∀ b off, da = some ⟨b, off, none⟩ → row ≠ some b) : SlB w' da dn D := by
  by_cases h0 : dn = 0
  · exact ⟨hs.1, hs.2.1, fun hc => absurd h0 hc⟩
  · exact hs.grown hg (fun b off he hc => hne h0 b off he hc.symm)
theorem slb_drop {w : World} {da : Option Addr} {dn : Nat} {D : List Nat} (hs : SlB w da dn D) (n : Nat) : SlB w (Option.map (fun x => x.add n) da) (dn - n) (D.drop n) := by
  refine ⟨by rw [List.length_drop, hs.1], fun z hz => hs.2.1 z (List.mem_of_mem_drop hz), fun hc => ?_⟩; obtain ⟨b, off, rfl, hcs⟩ := hs.2.2 (by omega); refine ⟨b, off + n, ?_, fun i hi => ?_⟩
  · have hadd : (⟨b, off, none⟩ : Addr).add n = ⟨b, off + n, none⟩ := by unfold Addr.add; split <;> simp_all
    simp [hadd]
  · rw [Nat.add_assoc, hcs (n + i) (by omega)]
    simp [List.getD, List.getElem?_drop]
theorem slb_lt {w : World} {da : Option Addr} {dn : Nat} {D : List Nat} (hs : SlB w da dn D) (h0 : dn ≠ 0) {b off : Nat} (he : da = some ⟨b, off, none⟩) : b < w.heap.size := by
  obtain ⟨b', off', rfl, hcs⟩ := hs.2.2 h0; have h9 := cell_block_lt (hcs 0 (by omega)); simp only [Option.some.injEq, Addr.mk.injEq, and_true] at he; rw [← he.1]; exact h9
theorem BRow.addr {w : World} {B : Nat} {oa : Option Addr} {n cap : Nat} {L : List Nat} (h : BRow w B (.slice oa n cap) L) {g : Nat} (hg : rowBlk (.slice oa n cap) = some g) (k : Nat) : Option.map (fun x : Addr => x.add k) oa = some ⟨g, k, none⟩ := by
  obtain ⟨-, ⟨-, ob, h1⟩ | ⟨g', cap', h1, hc, -⟩⟩ := h
  · simp only [Value.slice.injEq] at h1; obtain ⟨rfl, rfl, rfl⟩ := h1
    cases oa <;> simp [rowBlk] at hg
  · simp only [Value.slice.injEq] at h1; obtain ⟨rfl, rfl, rfl⟩ := h1
    have hcz : cap ≠ 0 := by omega
    simp only [rowBlk, if_neg hcz, Option.some.injEq] at hg; subst hg
    have hadd : (⟨g', 0, none⟩ : Addr).add k = ⟨g', k, none⟩ := by unfold Addr.add; split <;> simp_all
    simp [hadd]
set_option maxRecDepth 8000 in
set_option maxHeartbeats 2000000 in
theorem overlay_at (v0 : Value) (L : List Nat) (at_ dn dc : Nat) (da : Option Addr) (D : List Nat) (B : Nat) (w : World) (V0 : Value) (W0 : World) (hV0 : V0 = v0) (hW0 : W0 = w) (h : BRow w B v0 L) (hs : SlB w da dn D) (hc : dn ≤ dc) (hsep : ∀ b off, da = some ⟨b, off, none⟩ → rowBlk v0 ≠ some b) (hb : L.length ≤ 70000 ∧ at_ + dn ≤ 70000) (hB : B ≤ w.heap.size) :
    Calls Tryz.prog 76 #[v0, .int .i64 (at_ : Int), .slice da dn dc] w fun e w' => ∃ v', e = .returned v' ∧ BRow w' B v' (ov L at_ D) ∧ W0.grownBy w' (rowBlk V0) ∧ ∀ g, rowBlk v' = some g → rowBlk V0 = some g ∨ W0.heap.size ≤ g := by
  obtain ⟨oa, cap, hv, hcap⟩ := h.is; obtain ⟨n, hn⟩ : ∃ x, L.length = x := ⟨_, rfl⟩; rw [hn] at hv hcap hb; subst hv
  by_cases hat : n < at_
  · have HV : Hid (BRow w B (.slice oa n cap) L ∧ L.length = n) := ⟨h, hn⟩; have HS0 : Hid (SlB w da dn D) := hs
    have HSEP : Hid (∀ b off, da = some ⟨b, off, none⟩ → rowBlk V0 ≠ some b) := by rw [hV0]; exact hsep
    have HE : Hid (V0 = .slice oa n cap ∧ W0 = w) := ⟨hV0, hW0⟩
    have hz1 : IntKind.i64.wrap ((at_ : Int) - (n : Int)) = ((at_ - n : Nat) : Int) := by rw [IntWalk.i64_in _ (by omega)]; omega
    have e0 : (n : Int) < (at_ : Int) := by omega
    obtain ⟨LL, hLL⟩ : ∃ x, x = L ++ List.replicate (at_ - n) 0 := ⟨_, rfl⟩
    have hLl : LL.length = at_ := by rw [hLL]; simp; omega
    have HOV : Hid (ov L at_ D = LL.take at_ ++ (D ++ LL.drop (at_ + D.length))) := by unfold ov; rw [hn, ← hLL]; rfl
    have HLL : Hid (LL = L ++ List.replicate (at_ - n) 0 ∧ LL.length = at_) := ⟨hLL, hLl⟩; clear h hs hn hsep hLL hLl hV0 hW0
    go_enter Tryz.func76, Tryz.ntmps76
    go_upto_region 3 with (at_builtin; refine wpList_zero_row (by rfl) (.tmp 12) (.tmp 16) (by rfl) (by rfl) HV.out.1 (k := at_ - n) (by first | rfl | (show Value.int .i64 _ = _; rw [← hz1]; rfl)) (by omega) (by rw [HV.out.2]; omega) hB ?_; intro v1 w1 b1 g1 f1)
    have HB1 : Hid (BRow w1 B v1 LL) := by rw [HLL.out.1]; exact b1
    obtain ⟨oa1, cap1, hv1, hcap1⟩ := HB1.out.is; obtain ⟨n1, hn1⟩ : ∃ x, LL.length = x := ⟨_, rfl⟩; rw [hn1] at hv1 hcap1
    have HG1 : Hid (W0.grownBy w1 (rowBlk V0) ∧ ∀ g, rowBlk (.slice oa1 n1 cap1) = some g → rowBlk V0 = some g ∨ W0.heap.size ≤ g) := by rw [← hv1, HE.out.1, HE.out.2]; exact ⟨g1, f1⟩
    have HV1 : Hid (BRow w1 B (.slice oa1 n1 cap1) LL ∧ LL.length = n1) := by rw [← hv1]; exact ⟨HB1.out, hn1⟩
    have HS : Hid (SlB w1 da dn D) := slb_row (w := W0) (by rw [HE.out.2]; exact HS0.out) HG1.out.1 (fun _ b off he => HSEP.out b off he)
    have HSP : Hid (dn ≠ 0 → ∀ b off, da = some ⟨b, off, none⟩ → rowBlk (.slice oa1 n1 cap1) ≠ some b) := fun h0 b off he hc => by
      rcases HG1.out.2 b hc with h9 | h9
      · exact HSEP.out b off he h9
      · have h8 := slb_lt HS0.out h0 he; rw [HE.out.2] at h9
        omega
    have hB1 : B ≤ w1.heap.size := Nat.le_trans hB g1.size
    have hn1a : n1 = at_ := by rw [← hn1]; exact HLL.out.2
    rw [hv1]; clear b1 g1 f1 hv1 hn1 HB1 HLL; subst hn1a; have hat1 : n1 ≤ n1 := Nat.le_refl _; have e1 : (n1 : Int) ≤ (n1 : Int) := Int.le_refl _
    have e2 : (n1 : Int) ≤ (cap1 : Int) := by omega
    obtain ⟨mm, hmm⟩ : ∃ x, x = min dn (n1 - n1) := ⟨_, rfl⟩
    rcases Classical.em (cap1 = n1) with hca | hca
    · skip
      obtain rfl : n1 = cap1 := hca.symm
      go_wp2_with (refine wpList_copy_row (at_ := n1) (by rfl) (.tmp 20) (.tmp 21) (by rfl) HV1.out.1 (by rw [HV1.out.2]; exact hat1) (by rw [HV1.out.2]; first | rfl | (rw [Nat.sub_self]; rfl)) (fun g hg hlt => absurd hlt (by rw [HV1.out.2]; omega)) (by rfl) HS.out ?_)
      intro w2 b2 g2; have HMM : Hid (mm = min dn (n1 - n1)) := hmm
      have HB2 : Hid (BRow w2 B (.slice oa1 n1 n1) (splice LL n1 (D.take mm))) := by
        have h9 := b2; rw [HV1.out.2, ← hmm] at h9; exact h9
      have HL2 : Hid ((splice LL n1 (D.take mm)).length = n1) := by
        show _ = _
        rw [length_splice _ _ _ (by rw [List.length_take, HV1.out.2, HS.out.1]; omega)]; exact HV1.out.2
      have HG : Hid (W0.grownBy w2 (rowBlk V0) ∧ ∀ g, rowBlk (.slice oa1 n1 n1) = some g → rowBlk V0 = some g ∨ W0.heap.size ≤ g) := ⟨grown_step HG1.out.1 g2 HG1.out.2, HG1.out.2⟩; have HGs : Hid (w1.heap.size ≤ w2.heap.size) := g2.size; have HS2 : Hid (SlB w2 da dn D) := slb_row HS.out g2 HSP.out
      have emm : (mm : Int) ≤ (dn : Int) := by omega
      have edc : (dn : Int) ≤ (dc : Int) := by omega
      have hmn : mm + n1 ≤ 140001 := by omega
      have hmd : mm ≤ dn := by omega
      rw [HV1.out.2, ← hmm]; clear b2 g2 hmm
      rcases Classical.em (dc = mm) with hdm | hdm
      · have hdm2 : dn - mm = 0 := by omega
        have hsd : SlB w2 da (dn - mm) (D.drop mm) := ⟨by rw [List.length_drop, HS.out.1], fun z hz => HS.out.2.1 z (List.mem_of_mem_drop hz), fun hc => absurd hdm2 hc⟩; clear hdm2
        go_wp2_with (at_builtin; refine wpList_app_row (by rfl) (.tmp 23) (.tmp 26) (by rfl) (by rfl) HB2.out (by rfl) hsd (by rw [HL2.out]; omega) (Nat.le_trans hB1 HGs.out) ?_)
        intro v3 w3 b3 g3 f3; go_wp2; go_ret; refine ⟨v3, rfl, ?_, grown_step HG.out.1 g3 HG.out.2, fun g hg => ?_⟩
        · have h9 := ov_eq LL n1 mm D (by rw [HV1.out.2]; exact hat1) (by rw [HV1.out.2, HS.out.1]; exact HMM.out); rw [HOV.out, ← h9]; exact b3
        · rcases f3 g hg with h9 | h9
          · exact HG.out.2 g h9
          · exact .inr (Nat.le_trans HG.out.1.size h9)
      · have hsd : SlB w2 (Option.map (fun x => x.add mm) da) (dn - mm) (D.drop mm) := slb_drop HS2.out mm
        go_wp2_with (at_builtin; refine wpList_app_row (by rfl) (.tmp 23) (.tmp 26) (by rfl) (by rfl) HB2.out (by rfl) hsd (by rw [HL2.out]; omega) (Nat.le_trans hB1 HGs.out) ?_)
        intro v3 w3 b3 g3 f3; go_wp2; go_ret; refine ⟨v3, rfl, ?_, grown_step HG.out.1 g3 HG.out.2, fun g hg => ?_⟩
        · have h9 := ov_eq LL n1 mm D (by rw [HV1.out.2]; exact hat1) (by rw [HV1.out.2, HS.out.1]; exact HMM.out); rw [HOV.out, ← h9]; exact b3
        · rcases f3 g hg with h9 | h9
          · exact HG.out.2 g h9
          · exact .inr (Nat.le_trans HG.out.1.size h9)
    · skip
      go_wp2_with (refine wpList_copy_row (at_ := n1) (by rfl) (.tmp 20) (.tmp 21) (by rfl) HV1.out.1 (by rw [HV1.out.2]; exact hat1) (by rw [HV1.out.2]; first | rfl | (rw [Nat.sub_self]; rfl)) (fun g hg hlt => HV1.out.1.addr hg n1) (by rfl) HS.out ?_)
      intro w2 b2 g2; have HMM : Hid (mm = min dn (n1 - n1)) := hmm
      have HB2 : Hid (BRow w2 B (.slice oa1 n1 cap1) (splice LL n1 (D.take mm))) := by
        have h9 := b2; rw [HV1.out.2, ← hmm] at h9; exact h9
      have HL2 : Hid ((splice LL n1 (D.take mm)).length = n1) := by
        show _ = _
        rw [length_splice _ _ _ (by rw [List.length_take, HV1.out.2, HS.out.1]; omega)]; exact HV1.out.2
      have HG : Hid (W0.grownBy w2 (rowBlk V0) ∧ ∀ g, rowBlk (.slice oa1 n1 cap1) = some g → rowBlk V0 = some g ∨ W0.heap.size ≤ g) := ⟨grown_step HG1.out.1 g2 HG1.out.2, HG1.out.2⟩; have HGs : Hid (w1.heap.size ≤ w2.heap.size) := g2.size; have HS2 : Hid (SlB w2 da dn D) := slb_row HS.out g2 HSP.out
      have emm : (mm : Int) ≤ (dn : Int) := by omega
      have edc : (dn : Int) ≤ (dc : Int) := by omega
      have hmn : mm + n1 ≤ 140001 := by omega
      have hmd : mm ≤ dn := by omega
      rw [HV1.out.2, ← hmm]; clear b2 g2 hmm
      rcases Classical.em (dc = mm) with hdm | hdm
      · have hdm2 : dn - mm = 0 := by omega
        have hsd : SlB w2 da (dn - mm) (D.drop mm) := ⟨by rw [List.length_drop, HS.out.1], fun z hz => HS.out.2.1 z (List.mem_of_mem_drop hz), fun hc => absurd hdm2 hc⟩; clear hdm2
        go_wp2_with (at_builtin; refine wpList_app_row (by rfl) (.tmp 23) (.tmp 26) (by rfl) (by rfl) HB2.out (by rfl) hsd (by rw [HL2.out]; omega) (Nat.le_trans hB1 HGs.out) ?_)
        intro v3 w3 b3 g3 f3; go_wp2; go_ret; refine ⟨v3, rfl, ?_, grown_step HG.out.1 g3 HG.out.2, fun g hg => ?_⟩
        · have h9 := ov_eq LL n1 mm D (by rw [HV1.out.2]; exact hat1) (by rw [HV1.out.2, HS.out.1]; exact HMM.out); rw [HOV.out, ← h9]; exact b3
        · rcases f3 g hg with h9 | h9
          · exact HG.out.2 g h9
          · exact .inr (Nat.le_trans HG.out.1.size h9)
      · have hsd : SlB w2 (Option.map (fun x => x.add mm) da) (dn - mm) (D.drop mm) := slb_drop HS2.out mm
        go_wp2_with (at_builtin; refine wpList_app_row (by rfl) (.tmp 23) (.tmp 26) (by rfl) (by rfl) HB2.out (by rfl) hsd (by rw [HL2.out]; omega) (Nat.le_trans hB1 HGs.out) ?_)
        intro v3 w3 b3 g3 f3; go_wp2; go_ret; refine ⟨v3, rfl, ?_, grown_step HG.out.1 g3 HG.out.2, fun g hg => ?_⟩
        · have h9 := ov_eq LL n1 mm D (by rw [HV1.out.2]; exact hat1) (by rw [HV1.out.2, HS.out.1]; exact HMM.out); rw [HOV.out, ← h9]; exact b3
        · rcases f3 g hg with h9 | h9
          · exact HG.out.2 g h9
          · exact .inr (Nat.le_trans HG.out.1.size h9)
  · obtain ⟨w1, hw1⟩ : ∃ x, x = w := ⟨_, rfl⟩; obtain ⟨LL, hLL⟩ : ∃ x, x = L := ⟨_, rfl⟩
    have HOV : Hid (ov L at_ D = LL.take at_ ++ (D ++ LL.drop (at_ + D.length))) := by
      show _ = _
      unfold ov
      rw [hn, show at_ - n = 0 by omega, hLL]
      simp
    obtain ⟨oa1, hoa1⟩ : ∃ x, x = oa := ⟨_, rfl⟩; obtain ⟨n1, hn1⟩ : ∃ x, x = n := ⟨_, rfl⟩; obtain ⟨cap1, hcap1'⟩ : ∃ x, x = cap := ⟨_, rfl⟩
    have HV1 : Hid (BRow w1 B (.slice oa1 n1 cap1) LL ∧ LL.length = n1) := by rw [hw1, hLL, hoa1, hn1, hcap1']; exact ⟨h, hn⟩
    have HG1 : Hid (W0.grownBy w1 (rowBlk V0) ∧ ∀ g, rowBlk (.slice oa1 n1 cap1) = some g → rowBlk V0 = some g ∨ W0.heap.size ≤ g) := by
      rw [hw1, hoa1, hn1, hcap1', hV0, hW0]; exact ⟨grownBy_refl _ _, fun g hg => .inl hg⟩
    have HS : Hid (SlB w1 da dn D) := by rw [hw1]; exact hs
    have HSP : Hid (dn ≠ 0 → ∀ b off, da = some ⟨b, off, none⟩ → rowBlk (.slice oa1 n1 cap1) ≠ some b) := by
      rw [hoa1, hn1, hcap1']
      exact fun _ => hsep
    have hB1 : B ≤ w1.heap.size := by rw [hw1]; exact hB
    have hat1 : at_ ≤ n1 := by omega
    have hcap1 : n1 ≤ cap1 := by omega
    have hb1 : n1 ≤ 70000 := by omega
    have e0 : ¬ ((n1 : Int) < (at_ : Int)) := by omega
    have e1 : (at_ : Int) ≤ (n1 : Int) := by omega
    have e2 : (n1 : Int) ≤ (cap1 : Int) := by omega
    rw [← hoa1, ← hn1, ← hcap1', ← hw1]; clear h hs hn hsep hLL hoa1 hcap1' hw1 hcap hat hB hV0 hW0 hn1
    go_enter Tryz.func76, Tryz.ntmps76
    obtain ⟨mm, hmm⟩ : ∃ x, x = min dn (n1 - at_) := ⟨_, rfl⟩
    rcases Classical.em (cap1 = at_) with hca | hca
    · obtain rfl : n1 = at_ := by omega
      obtain rfl : n1 = cap1 := hca.symm
      go_wp2_with (refine wpList_copy_row (at_ := n1) (by rfl) (.tmp 20) (.tmp 21) (by rfl) HV1.out.1 (by rw [HV1.out.2]; exact hat1) (by rw [HV1.out.2]; first | rfl | (rw [Nat.sub_self]; rfl)) (fun g hg hlt => absurd hlt (by rw [HV1.out.2]; omega)) (by rfl) HS.out ?_)
      intro w2 b2 g2; have HMM : Hid (mm = min dn (n1 - n1)) := hmm
      have HB2 : Hid (BRow w2 B (.slice oa1 n1 n1) (splice LL n1 (D.take mm))) := by
        have h9 := b2; rw [HV1.out.2, ← hmm] at h9; exact h9
      have HL2 : Hid ((splice LL n1 (D.take mm)).length = n1) := by
        show _ = _
        rw [length_splice _ _ _ (by rw [List.length_take, HV1.out.2, HS.out.1]; omega)]; exact HV1.out.2
      have HG : Hid (W0.grownBy w2 (rowBlk V0) ∧ ∀ g, rowBlk (.slice oa1 n1 n1) = some g → rowBlk V0 = some g ∨ W0.heap.size ≤ g) := ⟨grown_step HG1.out.1 g2 HG1.out.2, HG1.out.2⟩; have HGs : Hid (w1.heap.size ≤ w2.heap.size) := g2.size; have HS2 : Hid (SlB w2 da dn D) := slb_row HS.out g2 HSP.out
      have emm : (mm : Int) ≤ (dn : Int) := by omega
      have edc : (dn : Int) ≤ (dc : Int) := by omega
      have hmn : mm + n1 ≤ 140001 := by omega
      have hmd : mm ≤ dn := by omega
      rw [HV1.out.2, ← hmm]; clear b2 g2 hmm
      rcases Classical.em (dc = mm) with hdm | hdm
      · have hdm2 : dn - mm = 0 := by omega
        have hsd : SlB w2 da (dn - mm) (D.drop mm) := ⟨by rw [List.length_drop, HS.out.1], fun z hz => HS.out.2.1 z (List.mem_of_mem_drop hz), fun hc => absurd hdm2 hc⟩; clear hdm2
        go_wp2_with (at_builtin; refine wpList_app_row (by rfl) (.tmp 23) (.tmp 26) (by rfl) (by rfl) HB2.out (by rfl) hsd (by rw [HL2.out]; omega) (Nat.le_trans hB1 HGs.out) ?_)
        intro v3 w3 b3 g3 f3; go_wp2; go_ret; refine ⟨v3, rfl, ?_, grown_step HG.out.1 g3 HG.out.2, fun g hg => ?_⟩
        · have h9 := ov_eq LL n1 mm D (by rw [HV1.out.2]; exact hat1) (by rw [HV1.out.2, HS.out.1]; exact HMM.out); rw [HOV.out, ← h9]; exact b3
        · rcases f3 g hg with h9 | h9
          · exact HG.out.2 g h9
          · exact .inr (Nat.le_trans HG.out.1.size h9)
      · have hsd : SlB w2 (Option.map (fun x => x.add mm) da) (dn - mm) (D.drop mm) := slb_drop HS2.out mm
        go_wp2_with (at_builtin; refine wpList_app_row (by rfl) (.tmp 23) (.tmp 26) (by rfl) (by rfl) HB2.out (by rfl) hsd (by rw [HL2.out]; omega) (Nat.le_trans hB1 HGs.out) ?_)
        intro v3 w3 b3 g3 f3; go_wp2; go_ret; refine ⟨v3, rfl, ?_, grown_step HG.out.1 g3 HG.out.2, fun g hg => ?_⟩
        · have h9 := ov_eq LL n1 mm D (by rw [HV1.out.2]; exact hat1) (by rw [HV1.out.2, HS.out.1]; exact HMM.out); rw [HOV.out, ← h9]; exact b3
        · rcases f3 g hg with h9 | h9
          · exact HG.out.2 g h9
          · exact .inr (Nat.le_trans HG.out.1.size h9)
    · skip
      go_wp2_with (refine wpList_copy_row (at_ := at_) (by rfl) (.tmp 20) (.tmp 21) (by rfl) HV1.out.1 (by rw [HV1.out.2]; exact hat1) (by rw [HV1.out.2]; first | rfl | (rw [Nat.sub_self]; rfl)) (fun g hg hlt => HV1.out.1.addr hg at_) (by rfl) HS.out ?_)
      intro w2 b2 g2; have HMM : Hid (mm = min dn (n1 - at_)) := hmm
      have HB2 : Hid (BRow w2 B (.slice oa1 n1 cap1) (splice LL at_ (D.take mm))) := by
        have h9 := b2; rw [HV1.out.2, ← hmm] at h9; exact h9
      have HL2 : Hid ((splice LL at_ (D.take mm)).length = n1) := by
        show _ = _
        rw [length_splice _ _ _ (by rw [List.length_take, HV1.out.2, HS.out.1]; omega)]; exact HV1.out.2
      have HG : Hid (W0.grownBy w2 (rowBlk V0) ∧ ∀ g, rowBlk (.slice oa1 n1 cap1) = some g → rowBlk V0 = some g ∨ W0.heap.size ≤ g) := ⟨grown_step HG1.out.1 g2 HG1.out.2, HG1.out.2⟩; have HGs : Hid (w1.heap.size ≤ w2.heap.size) := g2.size; have HS2 : Hid (SlB w2 da dn D) := slb_row HS.out g2 HSP.out
      have emm : (mm : Int) ≤ (dn : Int) := by omega
      have edc : (dn : Int) ≤ (dc : Int) := by omega
      have hmn : mm + n1 ≤ 140001 := by omega
      have hmd : mm ≤ dn := by omega
      rw [HV1.out.2, ← hmm]; clear b2 g2 hmm
      rcases Classical.em (dc = mm) with hdm | hdm
      · have hdm2 : dn - mm = 0 := by omega
        have hsd : SlB w2 da (dn - mm) (D.drop mm) := ⟨by rw [List.length_drop, HS.out.1], fun z hz => HS.out.2.1 z (List.mem_of_mem_drop hz), fun hc => absurd hdm2 hc⟩; clear hdm2
        go_wp2_with (at_builtin; refine wpList_app_row (by rfl) (.tmp 23) (.tmp 26) (by rfl) (by rfl) HB2.out (by rfl) hsd (by rw [HL2.out]; omega) (Nat.le_trans hB1 HGs.out) ?_)
        intro v3 w3 b3 g3 f3; go_wp2; go_ret; refine ⟨v3, rfl, ?_, grown_step HG.out.1 g3 HG.out.2, fun g hg => ?_⟩
        · have h9 := ov_eq LL at_ mm D (by rw [HV1.out.2]; exact hat1) (by rw [HV1.out.2, HS.out.1]; exact HMM.out); rw [HOV.out, ← h9]; exact b3
        · rcases f3 g hg with h9 | h9
          · exact HG.out.2 g h9
          · exact .inr (Nat.le_trans HG.out.1.size h9)
      · have hsd : SlB w2 (Option.map (fun x => x.add mm) da) (dn - mm) (D.drop mm) := slb_drop HS2.out mm
        go_wp2_with (at_builtin; refine wpList_app_row (by rfl) (.tmp 23) (.tmp 26) (by rfl) (by rfl) HB2.out (by rfl) hsd (by rw [HL2.out]; omega) (Nat.le_trans hB1 HGs.out) ?_)
        intro v3 w3 b3 g3 f3; go_wp2; go_ret; refine ⟨v3, rfl, ?_, grown_step HG.out.1 g3 HG.out.2, fun g hg => ?_⟩
        · have h9 := ov_eq LL at_ mm D (by rw [HV1.out.2]; exact hat1) (by rw [HV1.out.2, HS.out.1]; exact HMM.out); rw [HOV.out, ← h9]; exact b3
        · rcases f3 g hg with h9 | h9
          · exact HG.out.2 g h9
          · exact .inr (Nat.le_trans HG.out.1.size h9)
theorem overlay_any (v0 : Value) (L : List Nat) (at_ dn dc : Nat) (da : Option Addr) (D : List Nat) (B : Nat) (w : World) (h : BRow w B v0 L) (hs : SlB w da dn D) (hc : dn ≤ dc) (hsep : ∀ b off, da = some ⟨b, off, none⟩ → rowBlk v0 ≠ some b) (hb : L.length ≤ 70000 ∧ at_ + dn ≤ 70000) (hB : B ≤ w.heap.size) :
    Calls Tryz.prog 76 #[v0, .int .i64 (at_ : Int), .slice da dn dc] w fun e w' => ∃ v', e = .returned v' ∧ BRow w' B v' (ov L at_ D) ∧ w.grownBy w' (rowBlk v0) ∧ ∀ g, rowBlk v' = some g → rowBlk v0 = some g ∨ w.heap.size ≤ g := overlay_at v0 L at_ dn dc da D B w v0 w rfl rfl h hs hc hsep hb hB
structure Turn (T : Nat → Prop) (w w' : World) : Prop where
  os : w'.os = w.os
  tape : w'.tape = w.tape
  output : w'.output = w.output
  size : w.heap.size ≤ w'.heap.size
  block : ∀ k, k < w.heap.size → ¬ T k → w'.heap[k]? = w.heap[k]?
theorem Turn.refl (T : Nat → Prop) (w : World) : Turn T w w := ⟨rfl, rfl, rfl, Nat.le_refl _, fun _ _ _ => rfl⟩
theorem Turn.trans {T : Nat → Prop} {a b c : World} (h : Turn T a b) (k : Turn T b c) : Turn T a c :=
  ⟨k.os.trans h.os, k.tape.trans h.tape, k.output.trans h.output, Nat.le_trans h.size k.size, fun i hi hT => (k.block i (Nat.lt_of_lt_of_le hi h.size) hT).trans (h.block i hi hT)⟩
theorem Turn.of_grown {T : Nat → Prop} {w w' : World} {row : Option Nat} (h : w.grownBy w' row) (hr : ∀ g, row = some g → T g) : Turn T w w' :=
  ⟨h.os, h.tape, h.output, h.size, fun k hk hT => h.block k hk (fun e => hT (hr k e.symm))⟩
theorem Turn.blk {T : Nat → Prop} {w w' : World} (h : Turn T w w') {k : Nat} {o : Obj} (ho : w.heap[k]? = some o) (hT : ¬ T k) : w'.heap[k]? = some o := (h.block k (Array.getElem?_eq_some_iff.1 ho).1 hT).trans ho
theorem Turn.set {T : Nat → Prop} {w w' : World} (h : Turn T w w') {a : Addr} (ha : T a.block) (v : Value) : Turn T w (w'.setCell a v) :=
  ⟨h.os, h.tape, h.output, Nat.le_trans h.size (by simp [World.setCell]), fun k hk hT => (heap_setCell_other w' a k v (fun hc => hT (hc ▸ ha))).trans (h.block k hk hT)⟩
theorem Turn.drew {T : Nat → Prop} {w w' : World} (h : Turn T w w') : Turn T w w'.drew := ⟨h.os, h.tape, h.output, h.size, h.block⟩
structure Bd where
  b : Nat
  lv : Value
  sv : Value
  L : List Nat
  S : List Nat
  k : Int
def Bd.blk (m : Bd) : Obj := .cells #[m.lv, m.sv, .int .i64 m.k] 93 (0, 0)
structure BdAt (w : World) (B : Nat) (m : Bd) : Prop where
  box : w.heap[m.b]? = some m.blk
  live : BRow w B m.lv m.L
  syn : BRow w B m.sv m.S
  apart : ∀ g, rowBlk m.lv = some g → rowBlk m.sv ≠ some g
def Bd.at_ (m : Bd) (k : Nat) : Prop := k = m.b ∨ rowBlk m.lv = some k ∨ rowBlk m.sv = some k
theorem BRow.turn {T : Nat → Prop} {w w' : World} {B : Nat} {v : Value} {L : List Nat} (h : BRow w B v L) (ht : Turn T w w') (hT : ∀ g, rowBlk v = some g → ¬ T g) : BRow w' B v L := by
  obtain ⟨hz, h | ⟨g, cap, rfl, hc, ho⟩⟩ := h
  · exact ⟨hz, .inl h⟩
  · refine ⟨hz, .inr ⟨g, cap, rfl, hc, ?_⟩⟩
    have hcz : cap ≠ 0 := by omega
    have hg := hT g (by simp [rowBlk, hcz]); obtain ⟨hl, h1 | ⟨g', cap', cur, h1, hb, hg', h2⟩⟩ := ho
    · exact ⟨hl, .inl h1⟩
    · simp only [Value.slice.injEq, Option.some.injEq, Addr.mk.injEq, and_true, true_and] at h1; obtain ⟨rfl, rfl⟩ := h1; exact ⟨hl, .inr ⟨g, cap, cur, rfl, hb, ht.blk hg' hg, h2⟩⟩
theorem BdAt.turn {T : Nat → Prop} {w w' : World} {B : Nat} {m : Bd} (h : BdAt w B m) (ht : Turn T w w') (hT : ∀ k, m.at_ k → ¬ T k) : BdAt w' B m :=
  ⟨ht.blk h.box (hT _ (.inl rfl)), h.live.turn ht (fun g hg => hT g (.inr (.inl hg))), h.syn.turn ht (fun g hg => hT g (.inr (.inr hg))), h.apart⟩
theorem BdAt.lt {w : World} {B : Nat} {m : Bd} (h : BdAt w B m) {k : Nat} (hk : m.at_ k) : k < w.heap.size := by
  rcases hk with rfl | hk | hk
  · exact (Array.getElem?_eq_some_iff.1 h.box).1
  · exact (h.live.base hk).2.1
  · exact (h.syn.base hk).2.1
theorem BRow.ne {w : World} {B : Nat} {v : Value} {L : List Nat} (h : BRow w B v L) {k : Nat} {cur : Array Value} {t : TypeId} {f : Nat × Nat} (hk : w.heap[k]? = some (.cells cur t f)) (ht : t ≠ 5) : rowBlk v ≠ some k := by
  intro hc; obtain ⟨-, -, cur', h9⟩ := h.base hc; rw [hk] at h9; have h8 := Option.some.inj h9
  injection h8 with _ h7 _
  exact ht h7
set_option maxRecDepth 20000 in
set_option maxHeartbeats 2000000 in
theorem writeSync_any (m : Bd) (c at_ dn dc : Nat) (da : Option Addr) (D : List Nat) (mp : Value) (B : Nat) (w : World) (hm : BdAt w B m) (hc : w.heap[c]? = some (.cells #[.pointer (some ⟨m.b, 0, none⟩), .int .i64 (at_ : Int), .slice da dn dc] 157 (0, 0))) (hs : SlB w da dn D) (hcap : dn ≤ dc) (hsep : ∀ b off, da = some ⟨b, off, none⟩ → rowBlk m.sv ≠ some b) (hb : m.S.length ≤ 70000 ∧ at_ + dn ≤ 70000) (hB : B ≤ w.heap.size) :
    Calls Tryz.prog 134 #[.pointer (some ⟨c, 0, none⟩), mp] w fun e w' => e = .returned (.tuple #[]) ∧ ∃ sv', BdAt w' B { m with sv := sv', S := ov m.S at_ D } ∧ Turn (fun k => k = m.b ∨ rowBlk m.sv = some k) w w' ∧ ∀ g, rowBlk sv' = some g → rowBlk m.sv = some g ∨ w.heap.size ≤ g := by
  obtain ⟨sa, sc, hsv, -⟩ := hm.syn.is; obtain ⟨sn, hsn⟩ : ∃ x, m.S.length = x := ⟨_, rfl⟩; rw [hsn] at hsv hb
  have HOV : Hid (∀ X : World, w.grownBy X none → Calls Tryz.prog 76 #[.slice sa sn sc, .int .i64 (at_ : Int), .slice da dn dc] X fun e w' => ∃ v', e = .returned v' ∧ BRow w' B v' (ov m.S at_ D) ∧ X.grownBy w' (rowBlk m.sv) ∧ ∀ g, rowBlk v' = some g → rowBlk m.sv = some g ∨ X.heap.size ≤ g) := fun X hX => by
    rw [← hsv]; exact overlay_any m.sv m.S at_ dn dc da D B X (hm.syn.grown0 hX) (hs.grown0 hX) hcap hsep (by rw [hsn]; exact hb) (Nat.le_trans hB hX.size)
  have hbx : w.heap[m.b]? = some (.cells #[m.lv, .slice sa sn sc, .int .i64 m.k] 93 (0, 0)) := by rw [hm.box, Bd.blk, hsv]
  have HM : Hid (BdAt w B m ∧ w.heap[c]? = some (.cells #[.pointer (some ⟨m.b, 0, none⟩), .int .i64 (at_ : Int), .slice da dn dc] 157 (0, 0)) ∧ w.heap[m.b]? = some (.cells #[m.lv, .slice sa sn sc, .int .i64 m.k] 93 (0, 0)) ∧ m.sv = .slice sa sn sc) := ⟨hm, hc, hbx, hsv⟩; clear hm hc hs hsep hsv hsn hbx
  go_enter Tryz.func134, Tryz.ntmps134
  go_upto_region 0 with fail
  refine wp_region_Z (fun Y => Y.heap[c]? = some (.cells #[.pointer (some ⟨m.b, 0, none⟩), .int .i64 (at_ : Int), .slice da dn dc] 157 (0, 0)) ∧ Y.heap[m.b]? = some (.cells #[m.lv, .slice sa sn sc, .int .i64 m.k] 93 (0, 0))) (fun j => j == 22) (by kernel_rfl) ?_; have hS : w.drew.heap[c]? = some (.cells #[.pointer (some ⟨m.b, 0, none⟩), .int .i64 (at_ : Int), .slice da dn dc] 157 (0, 0)) ∧ w.drew.heap[m.b]? = some (.cells #[m.lv, .slice sa sn sc, .int .i64 m.k] 93 (0, 0)) := ⟨HM.out.2.1, HM.out.2.2.1⟩; refine zTk 0 ?_; simp only [Act.put, zq1, zq2, zq3]; refine zTk 1 ?_; simp only [Act.put, zq1, zq2, zq3]; refine zTk 2 ?_; simp only [Act.put, zq1, zq2, zq3]; refine zLd 3 22 rfl hS (by intro W hW; have c0 : W.cell? ⟨c, 0, none⟩ = some (.pointer (some ⟨m.b, 0, none⟩)) := (zCr hW.1).trans rfl; go_simp; first | done | with_reducible rfl) ?_; simp only [Act.put, zq1, zq2, zq3]; refine zTk 4 ?_; simp only [Act.put, zq1, zq2, zq3]; refine zTk 5 ?_; simp only [Act.put, zq1, zq2, zq3]; refine zTk 6 ?_; simp only [Act.put, zq1, zq2, zq3]; refine zLd 7 22 rfl hS (by intro W hW; have c0 : W.cell? ⟨c, 0, none⟩ = some (.pointer (some ⟨m.b, 0, none⟩)) := (zCr hW.1).trans rfl; go_simp; first | done | with_reducible rfl) ?_; simp only [Act.put, zq1, zq2, zq3]; refine zTk 8 ?_; simp only [Act.put, zq1, zq2, zq3]; refine zTk 9 ?_; simp only [Act.put, zq1, zq2, zq3]; refine zLd 10 22 rfl hS (by intro W hW; have c1 : W.cell? ⟨m.b, 1, none⟩ = some (.slice sa sn sc) := (zCr hW.2).trans rfl; go_simp; first | done | with_reducible rfl) ?_; simp only [Act.put, zq1, zq2, zq3]; refine zTk 11 ?_; simp only [Act.put, zq1, zq2, zq3]; refine zTk 12 ?_; simp only [Act.put, zq1, zq2, zq3]; refine zTk 13 ?_; simp only [Act.put, zq1, zq2, zq3]; refine zLd 14 22 rfl hS (by intro W hW; have c1 : W.cell? ⟨c, 1, none⟩ = some (.int .i64 (at_ : Int)) := (zCr hW.1).trans rfl; go_simp; first | done | with_reducible rfl) ?_; simp only [Act.put, zq1, zq2, zq3]; refine zTk 15 ?_; simp only [Act.put, zq1, zq2, zq3]; refine zTk 16 ?_; simp only [Act.put, zq1, zq2, zq3]; refine zTk 17 ?_; simp only [Act.put, zq1, zq2, zq3]; refine zLd 18 22 rfl hS (by intro W hW; have c2 : W.cell? ⟨c, 2, none⟩ = some (.slice da dn dc) := (zCr hW.1).trans rfl; go_simp; first | done | with_reducible rfl) ?_; simp only [Act.put, zq1, zq2, zq3]; clear hS; refine wpAnyZ_one' (i := 19) (by kernel_rfl) rfl (fun K hK => ?_); go_simp; go_at_call 76; refine (HOV.out _ (grownBy_drew (grownBy_refl _ _))).mono ?_; rintro e w1 ⟨v1, rfl, hv1, hg1, hf1⟩; have hG : w.grownBy w1 (rowBlk m.sv) := ⟨hg1.os, hg1.tape, hg1.output, hg1.size, fun k hk hne => hg1.block k hk hne⟩; have hc1 : w1.heap[c]? = some (.cells #[.pointer (some ⟨m.b, 0, none⟩), .int .i64 (at_ : Int), .slice da dn dc] 157 (0, 0)) := (hG.block c (Array.getElem?_eq_some_iff.1 HM.out.2.1).1 (fun e => HM.out.1.syn.ne HM.out.2.1 (by decide) e.symm)).trans HM.out.2.1; have hb1 : w1.heap[m.b]? = some (.cells #[m.lv, .slice sa sn sc, .int .i64 m.k] 93 (0, 0)) := (hG.block m.b (Array.getElem?_eq_some_iff.1 HM.out.2.2.1).1 (fun e => HM.out.1.syn.ne HM.out.2.2.1 (by decide) e.symm)).trans HM.out.2.2.1; refine hK.out _ _ (fun _ _ => ⟨hc1, hb1⟩) ?_; clear hK K; (try simp only [Act.put, zq1, zq2, zq3]); have k1 : w1.cell? ⟨m.b, 1, none⟩ = some (.slice sa sn sc) := (zCr hb1).trans rfl
  have kf : w1.frozen? ⟨m.b, 1, none⟩ = false := by simp [World.frozen?, hb1]
  have H1 : Hid (BRow w1 B v1 (ov m.S at_ D) ∧ w.grownBy w1 (rowBlk m.sv) ∧ (∀ g, rowBlk v1 = some g → rowBlk m.sv = some g ∨ w.heap.size ≤ g) ∧ w1.heap[m.b]? = some (.cells #[m.lv, .slice sa sn sc, .int .i64 m.k] 93 (0, 0))) := ⟨hv1, hG, hf1, hb1⟩; obtain ⟨oa1, cap1, hv1e, -⟩ := hv1.is; obtain ⟨n1, hn1⟩ : ∃ x, (ov m.S at_ D).length = x := ⟨_, rfl⟩; rw [hn1] at hv1e; subst hv1e; clear hv1 hg1 hf1 hG hc1 hb1 hn1; refine zTk 20 ?_; simp only [Act.put, zq1, zq2, zq3]; refine zTk 21 ?_; simp only [Act.put, zq1, zq2, zq3]; refine wpAnyZ_one' (i := 22) (by kernel_rfl) rfl (fun K hK => ?_); go_simp; refine hK.out _ _ (fun hc => (by cases hc)) ?_; clear hK K; (try simp only [Act.put]); refine wpAnyZ_done (by kernel_rfl) ?_ _; go_wp2; refine bodyPost_end (results_none rfl _ _ _) rfl ⟨rfl, _, ⟨?_, ?_, ?_, ?_⟩, ?_, H1.out.2.2.1⟩
  · exact set_blkL (L := [m.lv, .slice sa sn sc, .int .i64 m.k]) 1 _ H1.out.2.2.2
  · have hT : Turn (fun k => k = m.b ∨ rowBlk m.sv = some k) w (w1.setCell ⟨m.b, 1, none⟩ (.slice oa1 n1 cap1)) := (Turn.of_grown H1.out.2.1 (fun g hg => .inr hg)).set (.inl rfl) _
    exact HM.out.1.live.turn hT (fun g hg hc => by
      rcases hc with rfl | hc
      · exact HM.out.1.live.ne HM.out.2.2.1 (by decide) hg
      · exact HM.out.1.apart g hg hc)
  · exact H1.out.1.turn (T := fun k => k = m.b) ((Turn.refl (fun k => k = m.b) w1).set (a := ⟨m.b, 1, none⟩) (show m.b = m.b from rfl) _) (fun g hg hc => by subst hc; exact H1.out.1.ne H1.out.2.2.2 (by decide) hg)
  · intro g hg hc
    rcases H1.out.2.2.1 g hc with h9 | h9
    · exact HM.out.1.apart g hg h9
    · have := (HM.out.1.live.base hg).2.1
      omega
  · exact (Turn.of_grown H1.out.2.1 (fun g hg => .inr hg)).set (.inl rfl) _
theorem BRow.cut {w : World} {B : Nat} {oa : Option Addr} {n cap : Nat} {L : List Nat} (h : BRow w B (.slice oa n cap) L) (k : Nat) (hk : k ≤ n) : BRow w B (.slice oa k cap) (L.take k) ∧ ∀ g, rowBlk (.slice oa k cap) = some g → rowBlk (.slice oa n cap) = some g := by
  refine ⟨⟨fun z hz => h.1 z (List.mem_of_mem_take hz), ?_⟩, fun g hg => by
    cases oa with
    | none => simp [rowBlk] at hg
    | some a => exact hg⟩
  obtain ⟨-, ⟨rfl, ob, h1⟩ | ⟨g, cap', h1, hc, ho⟩⟩ := h
  · simp only [Value.slice.injEq] at h1; obtain ⟨rfl, rfl, rfl⟩ := h1
    obtain rfl : k = 0 := by omega
    exact .inl ⟨rfl, oa, rfl⟩
  · simp only [Value.slice.injEq] at h1; obtain ⟨rfl, rfl, rfl⟩ := h1
    have hl : (L.take k).length = k := by rw [List.length_take]; omega
    refine .inr ⟨g, cap, by rw [hl], hc, ?_⟩
    rcases ho.2 with ⟨h1, -⟩ | ⟨g', cap', cur, h1, hb, hg, hn, hm, hs, ht⟩
    · cases h1
    · simp only [Value.slice.injEq, Option.some.injEq, Addr.mk.injEq, and_true, true_and] at h1; obtain ⟨rfl, rfl⟩ := h1; refine ⟨by rw [hl]; simp; omega, .inr ⟨g, cap, cur, by rw [hl], hb, hg, by rw [hl]; omega, hm, hs, ?_⟩⟩; rw [hl, List.map_take, ← ht, Nat.mul_one, Nat.mul_one, List.take_take, show min k L.length = k by omega]
set_option maxRecDepth 20000 in
set_option maxHeartbeats 2000000 in
theorem cutSync_any (m : Bd) (c ln : Nat) (mp : Value) (B : Nat) (w : World) (hm : BdAt w B m) (hc : w.heap[c]? = some (.cells #[.pointer (some ⟨m.b, 0, none⟩), .int .i64 (ln : Int)] 160 (0, 0))) :
    Calls Tryz.prog 138 #[.pointer (some ⟨c, 0, none⟩), mp] w fun e w' => e = .returned (.tuple #[]) ∧ ∃ sv', BdAt w' B { m with sv := sv', S := m.S.take ln } ∧ Turn (fun k => k = m.b) w w' ∧ ∀ g, rowBlk sv' = some g → rowBlk m.sv = some g := by
  obtain ⟨sa, sc, hsv, hcp⟩ := hm.syn.is; obtain ⟨sn, hsn⟩ : ∃ x, m.S.length = x := ⟨_, rfl⟩; rw [hsn] at hsv hcp
  have hbx : w.heap[m.b]? = some (.cells #[m.lv, .slice sa sn sc, .int .i64 m.k] 93 (0, 0)) := by rw [hm.box, Bd.blk, hsv]
  have HM : Hid (BdAt w B m ∧ w.heap[c]? = some (.cells #[.pointer (some ⟨m.b, 0, none⟩), .int .i64 (ln : Int)] 160 (0, 0)) ∧ w.heap[m.b]? = some (.cells #[m.lv, .slice sa sn sc, .int .i64 m.k] 93 (0, 0)) ∧ m.sv = .slice sa sn sc ∧ m.S.length = sn) := ⟨hm, hc, hbx, hsv, hsn⟩
  have hT : Hid (∀ k, k ≤ sn → BRow w B (.slice sa k sc) (m.S.take k) ∧ ∀ g, rowBlk (.slice sa k sc) = some g → rowBlk m.sv = some g) := fun k hk => by
    have h9 := hm.syn; rw [hsv] at h9 ⊢; exact h9.cut k hk
  have HCT := hT; clear hm hc hsv hsn hbx hT
  by_cases hl : ln ≤ sn
  · have HC : Hid (BRow w B (.slice sa ln sc) (m.S.take ln) ∧ ∀ g, rowBlk (.slice sa ln sc) = some g → rowBlk m.sv = some g) := HCT.out ln hl; have hT : Hid (Turn (fun k => k = m.b) w (w.setCell ⟨m.b, 1, none⟩ (.slice sa ln sc))) := (Turn.refl (fun k => k = m.b) w).set (a := ⟨m.b, 1, none⟩) (show m.b = m.b from rfl) _
    have e1 : (ln : Int) ≤ (sn : Int) := by omega
    have e2 : min (ln : Int) (sn : Int) = (ln : Int) := by omega
    have e3 : (ln : Int) ≤ (sc : Int) := by omega
    have e4 : ¬ sn < ln := by omega
    clear hl HCT
    go_enter Tryz.func138, Tryz.ntmps138
    go_upto_region 0 with fail
    refine wp_region_Z (fun Y => Y.heap[c]? = some (.cells #[.pointer (some ⟨m.b, 0, none⟩), .int .i64 (ln : Int)] 160 (0, 0)) ∧ Y.heap[m.b]? = some (.cells #[m.lv, .slice sa sn sc, .int .i64 m.k] 93 (0, 0))) (fun j => j == 27) (by kernel_rfl) ?_; have hS : w.drew.heap[c]? = some (.cells #[.pointer (some ⟨m.b, 0, none⟩), .int .i64 (ln : Int)] 160 (0, 0)) ∧ w.drew.heap[m.b]? = some (.cells #[m.lv, .slice sa sn sc, .int .i64 m.k] 93 (0, 0)) := ⟨HM.out.2.1, HM.out.2.2.1⟩; have k1 : w.cell? ⟨m.b, 1, none⟩ = some (.slice sa sn sc) := (zCr HM.out.2.2.1).trans rfl
    have kf : w.frozen? ⟨m.b, 1, none⟩ = false := by simp [World.frozen?, HM.out.2.2.1]
    refine zTk 0 ?_; simp only [Act.put, zq1, zq2, zq3]; refine zTk 1 ?_; simp only [Act.put, zq1, zq2, zq3]; refine zTk 2 ?_; simp only [Act.put, zq1, zq2, zq3]; refine zLd 3 27 rfl hS (by intro W hW; have c0 : W.cell? ⟨c, 0, none⟩ = some (.pointer (some ⟨m.b, 0, none⟩)) := (zCr hW.1).trans rfl; go_simp; first | done | with_reducible rfl) ?_; simp only [Act.put, zq1, zq2, zq3]; refine zTk 4 ?_; simp only [Act.put, zq1, zq2, zq3]; refine zTk 5 ?_; simp only [Act.put, zq1, zq2, zq3]; refine zTk 6 ?_; simp only [Act.put, zq1, zq2, zq3]; refine zLd 7 27 rfl hS (by intro W hW; have c0 : W.cell? ⟨c, 0, none⟩ = some (.pointer (some ⟨m.b, 0, none⟩)) := (zCr hW.1).trans rfl; go_simp; first | done | with_reducible rfl) ?_; simp only [Act.put, zq1, zq2, zq3]; refine zTk 8 ?_; simp only [Act.put, zq1, zq2, zq3]; refine zTk 9 ?_; simp only [Act.put, zq1, zq2, zq3]; refine zLd 10 27 rfl hS (by intro W hW; have c1 : W.cell? ⟨m.b, 1, none⟩ = some (.slice sa sn sc) := (zCr hW.2).trans rfl; go_simp; first | done | with_reducible rfl) ?_; simp only [Act.put, zq1, zq2, zq3]; refine zTk 11 ?_; simp only [Act.put, zq1, zq2, zq3]; refine zTk 12 ?_; simp only [Act.put, zq1, zq2, zq3]; refine zTk 13 ?_; simp only [Act.put, zq1, zq2, zq3]; refine zLd 14 27 rfl hS (by intro W hW; have c1 : W.cell? ⟨c, 1, none⟩ = some (.int .i64 (ln : Int)) := (zCr hW.1).trans rfl; go_simp; first | done | with_reducible rfl) ?_; simp only [Act.put, zq1, zq2, zq3]; refine zTk 15 ?_; simp only [Act.put, zq1, zq2, zq3]; refine zTk 16 ?_; simp only [Act.put, zq1, zq2, zq3]; refine zTk 17 ?_; simp only [Act.put, zq1, zq2, zq3]; refine zLd 18 27 rfl hS (by intro W hW; have c0 : W.cell? ⟨c, 0, none⟩ = some (.pointer (some ⟨m.b, 0, none⟩)) := (zCr hW.1).trans rfl; go_simp; first | done | with_reducible rfl) ?_; simp only [Act.put, zq1, zq2, zq3]; refine zTk 19 ?_; simp only [Act.put, zq1, zq2, zq3]; refine zTk 20 ?_; simp only [Act.put, zq1, zq2, zq3]; refine zLd 21 27 rfl hS (by intro W hW; have c1 : W.cell? ⟨m.b, 1, none⟩ = some (.slice sa sn sc) := (zCr hW.2).trans rfl; go_simp; first | done | with_reducible rfl) ?_; simp only [Act.put, zq1, zq2, zq3]; refine zTk 22 ?_; simp only [Act.put, zq1, zq2, zq3]; refine zTk 23 ?_; simp only [Act.put, zq1, zq2, zq3]; refine zTk 24 ?_; simp only [Act.put, zq1, zq2, zq3]; refine zTk 25 ?_; simp only [Act.put, zq1, zq2, zq3]; refine zTk 26 ?_; simp only [Act.put, zq1, zq2, zq3]; refine wpAnyZ_one' (i := 27) (by kernel_rfl) rfl (fun K hK => ?_); go_simp; refine hK.out _ _ (fun hc => (by cases hc)) ?_; clear hK K; (try simp only [Act.put]); refine wpAnyZ_done (by kernel_rfl) ?_ _; go_wp2; refine bodyPost_end (results_none rfl _ _ _) rfl ⟨rfl, .slice sa ln sc, ⟨?_, ?_, ?_, ?_⟩, ?_, ?_⟩
    · exact drew_blk (set_blkL (L := [m.lv, .slice sa sn sc, .int .i64 m.k]) 1 _ HM.out.2.2.1)
    · exact HM.out.1.live.turn hT.out.drew (fun g hg hc => by subst hc; exact HM.out.1.live.ne HM.out.2.2.1 (by decide) hg)
    · exact HC.out.1.turn hT.out.drew (fun g hg hc => by subst hc; exact HC.out.1.ne HM.out.2.2.1 (by decide) hg)
    · intro g hg hc; exact HM.out.1.apart g hg (HC.out.2 g hc)
    · exact hT.out.drew
    · exact HC.out.2
  · have HC : Hid (BRow w B (.slice sa sn sc) (m.S.take ln) ∧ ∀ g, rowBlk (.slice sa sn sc) = some g → rowBlk m.sv = some g) := by
      have h9 := HCT.out sn (Nat.le_refl _); rw [List.take_of_length_le (by rw [HM.out.2.2.2.2]; exact Nat.le_refl _)] at h9; rw [List.take_of_length_le (by rw [HM.out.2.2.2.2]; omega)]; exact h9
    have hT : Hid (Turn (fun k => k = m.b) w (w.setCell ⟨m.b, 1, none⟩ (.slice sa sn sc))) := (Turn.refl (fun k => k = m.b) w).set (a := ⟨m.b, 1, none⟩) (show m.b = m.b from rfl) _
    have e1 : (sn : Int) < (ln : Int) := by omega
    have e2 : min (ln : Int) (sn : Int) = (sn : Int) := by omega
    have e3 : (sn : Int) ≤ (sc : Int) := by omega
    have e4 : sn < ln := by omega
    clear hl HCT
    go_enter Tryz.func138, Tryz.ntmps138
    go_upto_region 0 with fail
    refine wp_region_Z (fun Y => Y.heap[c]? = some (.cells #[.pointer (some ⟨m.b, 0, none⟩), .int .i64 (ln : Int)] 160 (0, 0)) ∧ Y.heap[m.b]? = some (.cells #[m.lv, .slice sa sn sc, .int .i64 m.k] 93 (0, 0))) (fun j => j == 27) (by kernel_rfl) ?_; have hS : w.drew.heap[c]? = some (.cells #[.pointer (some ⟨m.b, 0, none⟩), .int .i64 (ln : Int)] 160 (0, 0)) ∧ w.drew.heap[m.b]? = some (.cells #[m.lv, .slice sa sn sc, .int .i64 m.k] 93 (0, 0)) := ⟨HM.out.2.1, HM.out.2.2.1⟩; have k1 : w.cell? ⟨m.b, 1, none⟩ = some (.slice sa sn sc) := (zCr HM.out.2.2.1).trans rfl
    have kf : w.frozen? ⟨m.b, 1, none⟩ = false := by simp [World.frozen?, HM.out.2.2.1]
    refine zTk 0 ?_; simp only [Act.put, zq1, zq2, zq3]; refine zTk 1 ?_; simp only [Act.put, zq1, zq2, zq3]; refine zTk 2 ?_; simp only [Act.put, zq1, zq2, zq3]; refine zLd 3 27 rfl hS (by intro W hW; have c0 : W.cell? ⟨c, 0, none⟩ = some (.pointer (some ⟨m.b, 0, none⟩)) := (zCr hW.1).trans rfl; go_simp; first | done | with_reducible rfl) ?_; simp only [Act.put, zq1, zq2, zq3]; refine zTk 4 ?_; simp only [Act.put, zq1, zq2, zq3]; refine zTk 5 ?_; simp only [Act.put, zq1, zq2, zq3]; refine zTk 6 ?_; simp only [Act.put, zq1, zq2, zq3]; refine zLd 7 27 rfl hS (by intro W hW; have c0 : W.cell? ⟨c, 0, none⟩ = some (.pointer (some ⟨m.b, 0, none⟩)) := (zCr hW.1).trans rfl; go_simp; first | done | with_reducible rfl) ?_; simp only [Act.put, zq1, zq2, zq3]; refine zTk 8 ?_; simp only [Act.put, zq1, zq2, zq3]; refine zTk 9 ?_; simp only [Act.put, zq1, zq2, zq3]; refine zLd 10 27 rfl hS (by intro W hW; have c1 : W.cell? ⟨m.b, 1, none⟩ = some (.slice sa sn sc) := (zCr hW.2).trans rfl; go_simp; first | done | with_reducible rfl) ?_; simp only [Act.put, zq1, zq2, zq3]; refine zTk 11 ?_; simp only [Act.put, zq1, zq2, zq3]; refine zTk 12 ?_; simp only [Act.put, zq1, zq2, zq3]; refine zTk 13 ?_; simp only [Act.put, zq1, zq2, zq3]; refine zLd 14 27 rfl hS (by intro W hW; have c1 : W.cell? ⟨c, 1, none⟩ = some (.int .i64 (ln : Int)) := (zCr hW.1).trans rfl; go_simp; first | done | with_reducible rfl) ?_; simp only [Act.put, zq1, zq2, zq3]; refine zTk 15 ?_; simp only [Act.put, zq1, zq2, zq3]; refine zTk 16 ?_; simp only [Act.put, zq1, zq2, zq3]; refine zTk 17 ?_; simp only [Act.put, zq1, zq2, zq3]; refine zLd 18 27 rfl hS (by intro W hW; have c0 : W.cell? ⟨c, 0, none⟩ = some (.pointer (some ⟨m.b, 0, none⟩)) := (zCr hW.1).trans rfl; go_simp; first | done | with_reducible rfl) ?_; simp only [Act.put, zq1, zq2, zq3]; refine zTk 19 ?_; simp only [Act.put, zq1, zq2, zq3]; refine zTk 20 ?_; simp only [Act.put, zq1, zq2, zq3]; refine zLd 21 27 rfl hS (by intro W hW; have c1 : W.cell? ⟨m.b, 1, none⟩ = some (.slice sa sn sc) := (zCr hW.2).trans rfl; go_simp; first | done | with_reducible rfl) ?_; simp only [Act.put, zq1, zq2, zq3]; refine zTk 22 ?_; simp only [Act.put, zq1, zq2, zq3]; refine zTk 23 ?_; simp only [Act.put, zq1, zq2, zq3]; refine zTk 24 ?_; simp only [Act.put, zq1, zq2, zq3]; refine zTk 25 ?_; simp only [Act.put, zq1, zq2, zq3]; refine zTk 26 ?_; simp only [Act.put, zq1, zq2, zq3]; refine wpAnyZ_one' (i := 27) (by kernel_rfl) rfl (fun K hK => ?_); go_simp; refine hK.out _ _ (fun hc => (by cases hc)) ?_; clear hK K; (try simp only [Act.put]); refine wpAnyZ_done (by kernel_rfl) ?_ _; go_wp2; refine bodyPost_end (results_none rfl _ _ _) rfl ⟨rfl, .slice sa sn sc, ⟨?_, ?_, ?_, ?_⟩, ?_, ?_⟩
    · exact drew_blk (set_blkL (L := [m.lv, .slice sa sn sc, .int .i64 m.k]) 1 _ HM.out.2.2.1)
    · exact HM.out.1.live.turn hT.out.drew (fun g hg hc => by subst hc; exact HM.out.1.live.ne HM.out.2.2.1 (by decide) hg)
    · exact HC.out.1.turn hT.out.drew (fun g hg hc => by subst hc; exact HC.out.1.ne HM.out.2.2.1 (by decide) hg)
    · intro g hg hc; exact HM.out.1.apart g hg (HC.out.2 g hc)
    · exact hT.out.drew
    · exact HC.out.2
theorem writeOwner_any (c : Nat) (b : Nat) (at_ dn dc : Nat) (da : Option Addr) (w : World) (hc : w.heap[c]? = some (.cells #[.pointer (some ⟨b, 0, none⟩), .int .i64 (at_ : Int), .slice da dn dc] 157 (0, 0))) : Calls Tryz.prog 135 #[.pointer (some ⟨c, 0, none⟩)] w fun e w' => e = .returned (.pointer (some ⟨b, 0, none⟩)) ∧ w' = w := by
  have c0 : w.cell? ⟨c, 0, none⟩ = some (.pointer (some ⟨b, 0, none⟩)) := (zCr hc).trans rfl; clear hc
  go_enter Tryz.func135, Tryz.ntmps135
  go_wp2; go_ret; exact ⟨rfl, rfl⟩
theorem cutOwner_any (c : Nat) (b : Nat) (ln : Nat) (w : World) (hc : w.heap[c]? = some (.cells #[.pointer (some ⟨b, 0, none⟩), .int .i64 (ln : Int)] 160 (0, 0))) : Calls Tryz.prog 139 #[.pointer (some ⟨c, 0, none⟩)] w fun e w' => e = .returned (.pointer (some ⟨b, 0, none⟩)) ∧ w' = w := by
  have c0 : w.cell? ⟨c, 0, none⟩ = some (.pointer (some ⟨b, 0, none⟩)) := (zCr hc).trans rfl; clear hc
  go_enter Tryz.func139, Tryz.ntmps139
  go_wp2; go_ret; exact ⟨rfl, rfl⟩
theorem namesOwner_any (v : Value) (w : World) : Calls Tryz.prog 131 #[v] w fun e w' => e = .returned (.pointer none) ∧ w' = w := by
  go_enter Tryz.func131, Tryz.ntmps131
  go_wp2; go_ret; exact ⟨rfl, rfl⟩
theorem namesPieces_any (v : Value) (w : World) : Calls Tryz.prog 132 #[v] w fun e w' => e = .returned (.int .i64 1) ∧ w' = w := by
  go_enter Tryz.func132, Tryz.ntmps132
  go_wp2; go_ret; exact ⟨rfl, rfl⟩
theorem cutPieces_any (v : Value) (w : World) : Calls Tryz.prog 140 #[v] w fun e w' => e = .returned (.int .i64 1) ∧ w' = w := by
  go_enter Tryz.func140, Tryz.ntmps140
  go_wp2; go_ret; exact ⟨rfl, rfl⟩
def npc (at_ dn : Nat) : Nat := (at_ + dn - 1) / 32 - at_ / 32 + 1
set_option maxRecDepth 8000 in
theorem writePieces_any (c b at_ dn dc : Nat) (da : Option Addr) (w : World) (hc : w.heap[c]? = some (.cells #[.pointer (some ⟨b, 0, none⟩), .int .i64 (at_ : Int), .slice da dn dc] 157 (0, 0))) (h1 : 1 ≤ dn) (hb : at_ + dn ≤ 70000) : Calls Tryz.prog 136 #[.pointer (some ⟨c, 0, none⟩)] w fun e w' => e = .returned (.int .i64 ((npc at_ dn : Nat) : Int)) ∧ w.grownBy w' none := by
  have c1 : w.cell? ⟨c, 1, none⟩ = some (.int .i64 (at_ : Int)) := (zCr hc).trans rfl; have c2 : w.cell? ⟨c, 2, none⟩ = some (.slice da dn dc) := (zCr hc).trans rfl; clear hc; obtain ⟨q1, hq1⟩ : ∃ x : Nat, x = (at_ + dn - 1) / 32 := ⟨_, rfl⟩; obtain ⟨q2, hq2⟩ : ∃ x : Nat, x = at_ / 32 := ⟨_, rfl⟩
  have hqq : q2 ≤ q1 := by omega
  have hqb : q1 ≤ 70000 := by omega
  have v1 : IntKind.i64.wrap ((at_ : Int) + (dn : Int)) = (at_ : Int) + (dn : Int) := IntWalk.i64_in _ (by omega); have v2 : IntKind.i64.wrap ((at_ : Int) + (dn : Int) - 1) = (at_ : Int) + (dn : Int) - 1 := IntWalk.i64_in _ (by omega)
  have t3 : Int.tdiv ((at_ : Int) + (dn : Int) - 1) 32 = (q1 : Int) := by
    rw [Int.tdiv_eq_ediv_of_nonneg (by omega)]
    omega
  have v3 : IntKind.i64.wrap (Int.tdiv ((at_ : Int) + (dn : Int) - 1) 32) = (q1 : Int) := by rw [t3]; exact IntWalk.i64_in _ (by omega)
  have v4 : IntKind.i64.wrap ((at_ : Int) / 32) = (q2 : Int) := by rw [show (at_ : Int) / 32 = (q2 : Int) by omega]; exact IntWalk.i64_in _ (by omega)
  have v5 : IntKind.i64.wrap ((q1 : Int) - (q2 : Int)) = (q1 : Int) - (q2 : Int) := IntWalk.i64_in _ (by omega); have v6 : IntKind.i64.wrap ((q1 : Int) - (q2 : Int) + 1) = (q1 : Int) - (q2 : Int) + 1 := IntWalk.i64_in _ (by omega)
  have HN : Hid ((npc at_ dn : Int) = (q1 : Int) - (q2 : Int) + 1) := by
    show _ = _
    unfold npc
    omega
  clear hq1 hq2 t3
  go_enter Tryz.func136, Tryz.ntmps136
  go_upto_region 1 with fail
  refine wp_region_Z (fun Y => Y.cell? ⟨c, 1, none⟩ = some (.int .i64 (at_ : Int)) ∧ Y.cell? ⟨c, 2, none⟩ = some (.slice da dn dc)) (fun _ => false) (by kernel_rfl) ?_; have hS : w.drew.cell? ⟨c, 1, none⟩ = some (.int .i64 (at_ : Int)) ∧ w.drew.cell? ⟨c, 2, none⟩ = some (.slice da dn dc) := ⟨c1, c2⟩; refine zTk 0 ?_; simp only [Act.put, zq1, zq2, zq3]; refine zTk 1 ?_; simp only [Act.put, zq1, zq2, zq3]; refine zTk 2 ?_; simp only [Act.put, zq1, zq2, zq3]; refine zLs 3 rfl hS (by intro W hW; have c0 := hW.1; go_simp; first | done | with_reducible rfl) ?_; simp only [Act.put, zq1, zq2, zq3]; refine zTk 4 ?_; simp only [Act.put, zq1, zq2, zq3]; refine zTk 5 ?_; simp only [Act.put, zq1, zq2, zq3]; refine zTk 6 ?_; simp only [Act.put, zq1, zq2, zq3]; refine zLs 7 rfl hS (by intro W hW; have c0 := hW.2; go_simp; first | done | with_reducible rfl) ?_; simp only [Act.put, zq1, zq2, zq3]; refine zTk 8 ?_; simp only [Act.put, zq1, zq2, zq3]; refine zTk 9 ?_; simp only [Act.put, zq1, zq2, zq3]; refine zTk 10 ?_; simp only [Act.put, zq1, zq2, zq3]; refine zTk 11 ?_; simp only [Act.put, zq1, zq2, zq3]; refine zTk 12 ?_; simp only [Act.put, zq1, zq2, zq3]; refine zTk 13 ?_; simp only [Act.put, zq1, zq2, zq3]; refine zTk 14 ?_; simp only [Act.put, zq1, zq2, zq3]; refine zLs 15 rfl hS (by intro W hW; have c0 := hW.1; go_simp; first | done | with_reducible rfl) ?_; simp only [Act.put, zq1, zq2, zq3]; refine zTk 16 ?_; simp only [Act.put, zq1, zq2, zq3]; refine zTk 17 ?_; simp only [Act.put, zq1, zq2, zq3]; refine zTk 18 ?_; simp only [Act.put, zq1, zq2, zq3]; refine zTk 19 ?_; simp only [Act.put, zq1, zq2, zq3]; refine wpAnyZ_done (by kernel_rfl) ?_ _; go_wp2; go_ret; refine ⟨?_, grownBy_drew (grownBy_refl _ _)⟩; rw [HN.out]
  rfl
def pcFrom (at_ p : Nat) : Nat := max at_ ((at_ / 32 + p) * 32)
def pcTo (at_ dn p : Nat) : Nat := min (at_ + dn) ((at_ / 32 + p + 1) * 32)
theorem slb_take {w : World} {oa : Option Addr} {len : Nat} {zs : List Nat} (h : SlB w oa len zs) (n : Nat) (hn : n ≤ len) : SlB w oa n (zs.take n) := by
  refine ⟨by rw [List.length_take, h.1]; omega, fun z hz => h.2.1 z (List.mem_of_mem_take hz), fun h0 => ?_⟩; obtain ⟨b, off, rfl, hc⟩ := h.2.2 (by omega); refine ⟨b, off, rfl, fun i hi => ?_⟩; rw [hc i (by omega)]
  simp [List.getD, hi]
theorem pc_lt {at_ dn p : Nat} (h1 : 1 ≤ dn) (hp : p < npc at_ dn) : pcFrom at_ p < pcTo at_ dn p ∧ at_ ≤ pcFrom at_ p ∧ pcTo at_ dn p ≤ at_ + dn ∧ pcTo at_ dn p ≤ pcFrom at_ p + 32 := by
  unfold pcFrom pcTo
  unfold npc at hp
  omega
def wkept (S : List Nat) (at_ : Nat) (D : List Nat) (p ch : Nat) : List Nat :=
  let fr := pcFrom at_ p
  let tt := if ch = 255 then pcTo at_ D.length p else fr + ch % (pcTo at_ D.length p - fr)
  if fr < tt then ov S fr ((D.drop (fr - at_)).take (tt - fr)) else S
set_option maxRecDepth 20000 in
set_option maxHeartbeats 2000000 in
theorem writeKept_any (m : Bd) (c at_ dn dc p ch : Nat) (da : Option Addr) (D : List Nat) (mp : Value) (B : Nat) (w : World) (hm : BdAt w B m) (hc : w.heap[c]? = some (.cells #[.pointer (some ⟨m.b, 0, none⟩), .int .i64 (at_ : Int), .slice da dn dc] 157 (0, 0))) (hs : SlB w da dn D) (hcap : dn ≤ dc) (hsep : ∀ b off, da = some ⟨b, off, none⟩ → rowBlk m.sv ≠ some b) (hb : m.S.length ≤ 70000 ∧ at_ + dn ≤ 70000) (hB : B ≤ w.heap.size) (h1 : 1 ≤ dn) (hp : p < npc at_ dn) (hch : ch < 256) :
    Calls Tryz.prog 133 #[.pointer (some ⟨c, 0, none⟩), mp, .int .i64 (p : Int), .int .u8 (ch : Int)] w fun e w' => e = .returned (.tuple #[]) ∧ ∃ sv', BdAt w' B { m with sv := sv', S := wkept m.S at_ D p ch } ∧ Turn (fun k => k = m.b ∨ rowBlk m.sv = some k) w w' ∧ ∀ g, rowBlk sv' = some g → rowBlk m.sv = some g ∨ w.heap.size ≤ g := by
  obtain ⟨sa, sc, hsv, -⟩ := hm.syn.is; obtain ⟨sn, hsn⟩ : ∃ x, m.S.length = x := ⟨_, rfl⟩; rw [hsn] at hsv hb
  have hbx : w.heap[m.b]? = some (.cells #[m.lv, .slice sa sn sc, .int .i64 m.k] 93 (0, 0)) := by rw [hm.box, Bd.blk, hsv]
  have HM : Hid (BdAt w B m ∧ w.heap[c]? = some (.cells #[.pointer (some ⟨m.b, 0, none⟩), .int .i64 (at_ : Int), .slice da dn dc] 157 (0, 0)) ∧ w.heap[m.b]? = some (.cells #[m.lv, .slice sa sn sc, .int .i64 m.k] 93 (0, 0)) ∧ m.sv = .slice sa sn sc ∧ SlB w da dn D) := ⟨hm, hc, hbx, hsv, hs⟩; obtain ⟨hp1, hp2, hp3, hp4⟩ := pc_lt h1 hp; obtain ⟨q2, hq2⟩ : ∃ x : Nat, x = at_ / 32 := ⟨_, rfl⟩; obtain ⟨fr, hfr⟩ : ∃ x, pcFrom at_ p = x := ⟨_, rfl⟩; obtain ⟨tt, htt⟩ : ∃ x, pcTo at_ dn p = x := ⟨_, rfl⟩; rw [hfr, htt] at hp1 hp4; rw [hfr] at hp2; rw [htt] at hp3
  have hpb : q2 + p ≤ 70000 := by unfold npc at hp; omega
  have HIF : Hid ((if (at_ : Int) < ((q2 : Int) + (p : Int)) * 32 then ((q2 : Int) + (p : Int)) * 32 else (at_ : Int)) = (fr : Int)) := by
    show _ = _
    rw [← hfr, pcFrom, ← hq2]
    split <;> omega
  have HIT : Hid ((if ((q2 : Int) + (p : Int) + 1) * 32 < (at_ : Int) + (dn : Int) then ((q2 : Int) + (p : Int) + 1) * 32 else (at_ : Int) + (dn : Int)) = (tt : Int)) := by
    show _ = _
    rw [← htt, pcTo, ← hq2]
    split <;> omega
  have HQ : Hid (pcFrom at_ p = fr ∧ pcTo at_ dn p = tt ∧ D.length = dn) := ⟨hfr, htt, hs.1⟩; obtain ⟨lo, hlo⟩ : ∃ lo, fr = at_ + lo := ⟨fr - at_, by omega⟩
  have HOV : Hid (∀ (X : World) (k : Nat), w.grownBy X none → fr + k ≤ tt → Calls Tryz.prog 76 #[.slice sa sn sc, .int .i64 (fr : Int), .slice (Option.map (fun x => x.add lo) da) k (dc - lo)] X fun e w' => ∃ v', e = .returned v' ∧ BRow w' B v' (ov m.S fr ((D.drop lo).take k)) ∧ X.grownBy w' (rowBlk m.sv) ∧ ∀ g, rowBlk v' = some g → rowBlk m.sv = some g ∨ X.heap.size ≤ g) := fun X k hX hk => by
    rw [← hsv]; have h8 : SlB X (Option.map (fun x => x.add lo) da) k ((D.drop lo).take k) := slb_take (slb_drop (hs.grown0 hX) lo) k (by omega); refine overlay_any m.sv m.S fr k (dc - lo) _ _ B X (hm.syn.grown0 hX) h8 (by omega) (fun b off he => ?_) (by rw [hsn]; omega) (Nat.le_trans hB hX.size); obtain ⟨b', off', rfl, -⟩ := hs.2.2 (by omega)
    have hadd : (⟨b', off', none⟩ : Addr).add lo = ⟨b', off' + lo, none⟩ := by unfold Addr.add; split <;> simp_all
    simp only [Option.map_some, hadd, Option.some.injEq, Addr.mk.injEq, and_true] at he; rw [← he.1]; exact hsep b' off' rfl
  have HLO : Hid (fr = at_ + lo) := hlo
  have hlod : lo < dn := by omega
  have hdc : ¬ dc = lo := by omega
  have v7 : IntKind.i64.wrap ((fr : Int) - (at_ : Int)) = (lo : Int) := by rw [IntWalk.i64_in _ (by omega)]; omega
  have v8 : IntKind.i64.wrap ((tt : Int) - (fr : Int)) = ((tt - fr : Nat) : Int) := by rw [IntWalk.i64_in _ (by omega)]; omega
  have c1 : w.cell? ⟨c, 1, none⟩ = some (.int .i64 (at_ : Int)) := (zCr hc).trans rfl; have c2 : w.cell? ⟨c, 2, none⟩ = some (.slice da dn dc) := (zCr hc).trans rfl
  have v1 : IntKind.i64.wrap ((at_ : Int) / 32) = (q2 : Int) := by rw [show (at_ : Int) / 32 = (q2 : Int) by omega]; exact IntWalk.i64_in _ (by omega)
  have v2 : IntKind.i64.wrap ((q2 : Int) + (p : Int)) = (q2 : Int) + (p : Int) := IntWalk.i64_in _ (by omega); have v3 : IntKind.i64.wrap (((q2 : Int) + (p : Int)) * 32) = ((q2 : Int) + (p : Int)) * 32 := IntWalk.i64_in _ (by omega); have v4 : IntKind.i64.wrap ((at_ : Int) + (dn : Int)) = (at_ : Int) + (dn : Int) := IntWalk.i64_in _ (by omega); have v5 : IntKind.i64.wrap ((q2 : Int) + (p : Int) + 1) = (q2 : Int) + (p : Int) + 1 := IntWalk.i64_in _ (by omega); have v6 : IntKind.i64.wrap (((q2 : Int) + (p : Int) + 1) * 32) = ((q2 : Int) + (p : Int) + 1) * 32 := IntWalk.i64_in _ (by omega); clear hq2 hfr htt hm hc hs hsep hsv hsn hbx hp
  go_enter Tryz.func133, Tryz.ntmps133
  go_upto_region 2 with fail
  rw [HIF.out]; refine wp_region_Z (fun Y => Y.cell? ⟨c, 1, none⟩ = some (.int .i64 (at_ : Int)) ∧ Y.cell? ⟨c, 2, none⟩ = some (.slice da dn dc)) (fun _ => false) (by kernel_rfl) ?_; have hS : w.drew.cell? ⟨c, 1, none⟩ = some (.int .i64 (at_ : Int)) ∧ w.drew.cell? ⟨c, 2, none⟩ = some (.slice da dn dc) := ⟨c1, c2⟩; refine zTk 0 ?_; simp only [Act.put, zq1, zq2, zq3]; refine zTk 1 ?_; simp only [Act.put, zq1, zq2, zq3]; refine zTk 2 ?_; simp only [Act.put, zq1, zq2, zq3]; refine zLs 3 rfl hS (by intro W hW; have c0 := hW.1; go_simp; first | done | with_reducible rfl) ?_; simp only [Act.put, zq1, zq2, zq3]; refine zTk 4 ?_; simp only [Act.put, zq1, zq2, zq3]; refine zTk 5 ?_; simp only [Act.put, zq1, zq2, zq3]; refine zTk 6 ?_; simp only [Act.put, zq1, zq2, zq3]; refine zLs 7 rfl hS (by intro W hW; have c0 := hW.2; go_simp; first | done | with_reducible rfl) ?_; simp only [Act.put, zq1, zq2, zq3]; refine zTk 8 ?_; simp only [Act.put, zq1, zq2, zq3]; refine zTk 9 ?_; simp only [Act.put, zq1, zq2, zq3]; refine zTk 10 ?_; simp only [Act.put, zq1, zq2, zq3]; refine zTk 11 ?_; simp only [Act.put, zq1, zq2, zq3]; refine zTk 12 ?_; simp only [Act.put, zq1, zq2, zq3]; refine zTk 13 ?_; simp only [Act.put, zq1, zq2, zq3]; refine zTk 14 ?_; simp only [Act.put, zq1, zq2, zq3]; refine wpAnyZ_done (by kernel_rfl) ?_ _; rw [HIT.out]; clear hS; generalize hw0 : w.drew = X0
  have HX : Hid (w.grownBy X0 none) := by rw [← hw0]; exact grownBy_drew (grownBy_refl _ _)
  clear hw0
  have hhm : 0 < tt - fr := by omega
  obtain ⟨rr, hrr⟩ : ∃ x, ch % (tt - fr) = x := ⟨_, rfl⟩
  have hrl : rr < tt - fr := by rw [← hrr]; exact Nat.mod_lt _ hhm
  have v9 : IntKind.i64.wrap (Int.tmod (ch : Int) ((tt - fr : Nat) : Int)) = (rr : Int) := by
    rw [← hrr, show Int.tmod (ch : Int) ((tt - fr : Nat) : Int) = ((ch % (tt - fr) : Nat) : Int) from rfl]; exact IntWalk.i64_in _ (by omega)
  have v9b : (ch : Int) % ((tt - fr : Nat) : Int) = (rr : Int) := by rw [← hrr]; rfl
  have v10 : IntKind.i64.wrap ((fr : Int) + (rr : Int)) = (fr : Int) + (rr : Int) := IntWalk.i64_in _ (by omega)
  have v11 : IntKind.i64.wrap ((fr : Int) + (rr : Int) - (at_ : Int)) = (lo : Int) + (rr : Int) := by rw [IntWalk.i64_in _ (by omega)]; omega
  have v12 : IntKind.i64.wrap ((tt : Int) - (at_ : Int)) = (lo : Int) + ((tt - fr : Nat) : Int) := by rw [IntWalk.i64_in _ (by omega)]; omega
  rcases Classical.em (ch = 255) with hx | hx
  · have d0 : ((ch : Int) != 255) = false := by simp; omega
    have d1 : (fr : Int) < (tt : Int) := by omega
    have HW : Hid (wkept m.S at_ D p ch = ov m.S fr ((D.drop lo).take (tt - fr))) := by
      show _ = _
      have h9 := HQ.out; simp only [wkept, h9.2.2, h9.1, h9.2.1, if_pos hx, if_pos hp1]; rw [show fr - at_ = lo by omega]
    obtain ⟨kk, hkk⟩ : ∃ x, x = tt - fr := ⟨_, rfl⟩; rw [← hkk] at HW v12
    have hk9 : fr + kk ≤ tt := by omega
    have hk8 : lo + kk ≤ dc := by omega
    clear hx hkk hrr v9 v9b hlo; have hcX := grown_blk HX.out HM.out.2.1; have hbX := grown_blk HX.out HM.out.2.2.1
    have e5 : (lo : Int) ≤ (lo : Int) + (kk : Int) := by omega
    have e6 : (lo : Int) + (kk : Int) ≤ (dc : Int) := by omega
    go_upto_region 6 with fail
    refine wp_region_Z (fun Y => Y.heap[c]? = some (.cells #[.pointer (some ⟨m.b, 0, none⟩), .int .i64 (at_ : Int), .slice da dn dc] 157 (0, 0)) ∧ Y.heap[m.b]? = some (.cells #[m.lv, .slice sa sn sc, .int .i64 m.k] 93 (0, 0))) (fun j => j == 32) (by kernel_rfl) ?_; have hS : X0.drew.heap[c]? = some (.cells #[.pointer (some ⟨m.b, 0, none⟩), .int .i64 (at_ : Int), .slice da dn dc] 157 (0, 0)) ∧ X0.drew.heap[m.b]? = some (.cells #[m.lv, .slice sa sn sc, .int .i64 m.k] 93 (0, 0)) := ⟨hcX, hbX⟩; refine zTk 0 ?_; simp only [Act.put, zq1, zq2, zq3]; refine zTk 1 ?_; simp only [Act.put, zq1, zq2, zq3]; refine zTk 2 ?_; simp only [Act.put, zq1, zq2, zq3]; refine zLd 3 32 rfl hS (by intro W hW; have c0 : W.cell? ⟨c, 0, none⟩ = some (.pointer (some ⟨m.b, 0, none⟩)) := (zCr hW.1).trans rfl; go_simp; first | done | with_reducible rfl) ?_; simp only [Act.put, zq1, zq2, zq3]; refine zTk 4 ?_; simp only [Act.put, zq1, zq2, zq3]; refine zTk 5 ?_; simp only [Act.put, zq1, zq2, zq3]; refine zTk 6 ?_; simp only [Act.put, zq1, zq2, zq3]; refine zLd 7 32 rfl hS (by intro W hW; have c0 : W.cell? ⟨c, 0, none⟩ = some (.pointer (some ⟨m.b, 0, none⟩)) := (zCr hW.1).trans rfl; go_simp; first | done | with_reducible rfl) ?_; simp only [Act.put, zq1, zq2, zq3]; refine zTk 8 ?_; simp only [Act.put, zq1, zq2, zq3]; refine zTk 9 ?_; simp only [Act.put, zq1, zq2, zq3]; refine zLd 10 32 rfl hS (by intro W hW; have c1 : W.cell? ⟨m.b, 1, none⟩ = some (.slice sa sn sc) := (zCr hW.2).trans rfl; go_simp; first | done | with_reducible rfl) ?_; simp only [Act.put, zq1, zq2, zq3]; refine zTk 11 ?_; simp only [Act.put, zq1, zq2, zq3]; refine zTk 12 ?_; simp only [Act.put, zq1, zq2, zq3]; refine zTk 13 ?_; simp only [Act.put, zq1, zq2, zq3]; refine zTk 14 ?_; simp only [Act.put, zq1, zq2, zq3]; refine zLd 15 32 rfl hS (by intro W hW; have c2 : W.cell? ⟨c, 2, none⟩ = some (.slice da dn dc) := (zCr hW.1).trans rfl; go_simp; first | done | with_reducible rfl) ?_; simp only [Act.put, zq1, zq2, zq3]; refine zTk 16 ?_; simp only [Act.put, zq1, zq2, zq3]; refine zTk 17 ?_; simp only [Act.put, zq1, zq2, zq3]; refine zTk 18 ?_; simp only [Act.put, zq1, zq2, zq3]; refine zTk 19 ?_; simp only [Act.put, zq1, zq2, zq3]; refine zLd 20 32 rfl hS (by intro W hW; have c1 : W.cell? ⟨c, 1, none⟩ = some (.int .i64 (at_ : Int)) := (zCr hW.1).trans rfl; go_simp; first | done | with_reducible rfl) ?_; simp only [Act.put, zq1, zq2, zq3]; refine zTk 21 ?_; simp only [Act.put, zq1, zq2, zq3]; refine zTk 22 ?_; simp only [Act.put, zq1, zq2, zq3]; refine zTk 23 ?_; simp only [Act.put, zq1, zq2, zq3]; refine zTk 24 ?_; simp only [Act.put, zq1, zq2, zq3]; refine zTk 25 ?_; simp only [Act.put, zq1, zq2, zq3]; refine zLd 26 32 rfl hS (by intro W hW; have c1 : W.cell? ⟨c, 1, none⟩ = some (.int .i64 (at_ : Int)) := (zCr hW.1).trans rfl; go_simp; first | done | with_reducible rfl) ?_; simp only [Act.put, zq1, zq2, zq3]; refine zTk 27 ?_; simp only [Act.put, zq1, zq2, zq3]; refine zTk 28 ?_; simp only [Act.put, zq1, zq2, zq3]; clear hS; refine wpAnyZ_one' (i := 29) (by kernel_rfl) rfl (fun K hK => ?_); go_simp; go_at_call 76; rw [show ((lo : Int) + (kk : Int)).toNat - lo = kk by omega]; refine (HOV.out _ kk (grownBy_drew HX.out) hk9).mono ?_; rintro e w1 ⟨v1, rfl, hv1, hg1, hf1⟩; have hG0 : X0.grownBy w1 (rowBlk m.sv) := ⟨hg1.os, hg1.tape, hg1.output, hg1.size, fun k hk hne => hg1.block k hk hne⟩; have hG : w.grownBy w1 (rowBlk m.sv) := ⟨hG0.os.trans HX.out.os, hG0.tape.trans HX.out.tape, hG0.output.trans HX.out.output, Nat.le_trans HX.out.size hG0.size, fun k hk hne => (hG0.block k (Nat.lt_of_lt_of_le hk HX.out.size) hne).trans (HX.out.block k hk (by simp))⟩; have hc1 : w1.heap[c]? = some (.cells #[.pointer (some ⟨m.b, 0, none⟩), .int .i64 (at_ : Int), .slice da dn dc] 157 (0, 0)) := (hG.block c (Array.getElem?_eq_some_iff.1 HM.out.2.1).1 (fun e => HM.out.1.syn.ne HM.out.2.1 (by decide) e.symm)).trans HM.out.2.1; have hb1 : w1.heap[m.b]? = some (.cells #[m.lv, .slice sa sn sc, .int .i64 m.k] 93 (0, 0)) := (hG.block m.b (Array.getElem?_eq_some_iff.1 HM.out.2.2.1).1 (fun e => HM.out.1.syn.ne HM.out.2.2.1 (by decide) e.symm)).trans HM.out.2.2.1; refine hK.out _ _ (fun _ _ => ⟨hc1, hb1⟩) ?_; clear hK K; (try simp only [Act.put, zq1, zq2, zq3]); have k1 : w1.cell? ⟨m.b, 1, none⟩ = some (.slice sa sn sc) := (zCr hb1).trans rfl
    have kf : w1.frozen? ⟨m.b, 1, none⟩ = false := by simp [World.frozen?, hb1]
    have H1 : Hid (BRow w1 B v1 (wkept m.S at_ D p ch) ∧ w.grownBy w1 (rowBlk m.sv) ∧ (∀ g, rowBlk v1 = some g → rowBlk m.sv = some g ∨ w.heap.size ≤ g) ∧ w1.heap[m.b]? = some (.cells #[m.lv, .slice sa sn sc, .int .i64 m.k] 93 (0, 0))) := ⟨by rw [HW.out]; exact hv1, hG, fun g hg => (hf1 g hg).imp id (fun h => Nat.le_trans HX.out.size h), hb1⟩; obtain ⟨oa1, cap1, hv1e, -⟩ := H1.out.1.is; obtain ⟨n1, hn1⟩ : ∃ x, (wkept m.S at_ D p ch).length = x := ⟨_, rfl⟩; rw [hn1] at hv1e; subst hv1e; clear hv1 hg1 hf1 hG hG0 hc1 hb1 hn1; refine zTk 30 ?_; simp only [Act.put, zq1, zq2, zq3]; refine zTk 31 ?_; simp only [Act.put, zq1, zq2, zq3]; refine wpAnyZ_one' (i := 32) (by kernel_rfl) rfl (fun K hK => ?_); go_simp; refine hK.out _ _ (fun hc => (by cases hc)) ?_; clear hK K; (try simp only [Act.put]); refine wpAnyZ_done (by kernel_rfl) ?_ _; go_wp2; refine bodyPost_end (results_none rfl _ _ _) rfl ⟨rfl, _, ⟨?_, ?_, ?_, ?_⟩, ?_, H1.out.2.2.1⟩
    · exact set_blkL (L := [m.lv, .slice sa sn sc, .int .i64 m.k]) 1 _ H1.out.2.2.2
    · have hT : Turn (fun k => k = m.b ∨ rowBlk m.sv = some k) w (w1.setCell ⟨m.b, 1, none⟩ (.slice oa1 n1 cap1)) := (Turn.of_grown H1.out.2.1 (fun g hg => .inr hg)).set (.inl rfl) _
      exact HM.out.1.live.turn hT (fun g hg hc => by
        rcases hc with rfl | hc
        · exact HM.out.1.live.ne HM.out.2.2.1 (by decide) hg
        · exact HM.out.1.apart g hg hc)
    · exact H1.out.1.turn (T := fun k => k = m.b) ((Turn.refl (fun k => k = m.b) w1).set (a := ⟨m.b, 1, none⟩) (show m.b = m.b from rfl) _) (fun g hg hc => by subst hc; exact H1.out.1.ne H1.out.2.2.2 (by decide) hg)
    · intro g hg hc
      rcases H1.out.2.2.1 g hc with h9 | h9
      · exact HM.out.1.apart g hg h9
      · have := (HM.out.1.live.base hg).2.1
        omega
    · exact (Turn.of_grown H1.out.2.1 (fun g hg => .inr hg)).set (.inl rfl) _
  · have d0 : ((ch : Int) != 255) = true := by simp; omega
    rcases Classical.em (rr = 0) with hr | hr
    · have d1 : ¬ (fr : Int) < (fr : Int) + (rr : Int) := by omega
      have HW : Hid (wkept m.S at_ D p ch = m.S) := by
        show _ = _
        have h9 := HQ.out; simp only [wkept, h9.2.2, h9.1, h9.2.1, if_neg hx, hrr]; rw [if_neg (by omega)]
      clear hx hrr hr hlo; go_wp2; refine bodyPost_end (results_none rfl _ _ _) rfl ⟨rfl, m.sv, ?_, Turn.of_grown HX.out (by simp), fun g hg => .inl hg⟩; rw [HW.out]; exact HM.out.1.turn (T := fun _ => False) (Turn.of_grown HX.out (by simp)) (fun _ _ h => h)
    · have d1 : (fr : Int) < (fr : Int) + (rr : Int) := by omega
      have HW : Hid (wkept m.S at_ D p ch = ov m.S fr ((D.drop lo).take rr)) := by
        show _ = _
        have h9 := HQ.out; simp only [wkept, h9.2.2, h9.1, h9.2.1, if_neg hx, hrr]; rw [if_pos (by omega), show fr - at_ = lo by omega, show fr + rr - fr = rr by omega]
      obtain ⟨kk, hkk⟩ : ∃ x, x = rr := ⟨_, rfl⟩
      have hk9 : fr + kk ≤ tt := by omega
      have hk8 : lo + kk ≤ dc := by omega
      rw [← hkk] at HW v9 v9b v10 v11 d1; clear hx hrr hr hlo hkk hrl; have hcX := grown_blk HX.out HM.out.2.1; have hbX := grown_blk HX.out HM.out.2.2.1
      have e5 : (lo : Int) ≤ (lo : Int) + (kk : Int) := by omega
      have e6 : (lo : Int) + (kk : Int) ≤ (dc : Int) := by omega
      go_upto_region 6 with fail
      refine wp_region_Z (fun Y => Y.heap[c]? = some (.cells #[.pointer (some ⟨m.b, 0, none⟩), .int .i64 (at_ : Int), .slice da dn dc] 157 (0, 0)) ∧ Y.heap[m.b]? = some (.cells #[m.lv, .slice sa sn sc, .int .i64 m.k] 93 (0, 0))) (fun j => j == 32) (by kernel_rfl) ?_; have hS : X0.drew.heap[c]? = some (.cells #[.pointer (some ⟨m.b, 0, none⟩), .int .i64 (at_ : Int), .slice da dn dc] 157 (0, 0)) ∧ X0.drew.heap[m.b]? = some (.cells #[m.lv, .slice sa sn sc, .int .i64 m.k] 93 (0, 0)) := ⟨hcX, hbX⟩; refine zTk 0 ?_; simp only [Act.put, zq1, zq2, zq3]; refine zTk 1 ?_; simp only [Act.put, zq1, zq2, zq3]; refine zTk 2 ?_; simp only [Act.put, zq1, zq2, zq3]; refine zLd 3 32 rfl hS (by intro W hW; have c0 : W.cell? ⟨c, 0, none⟩ = some (.pointer (some ⟨m.b, 0, none⟩)) := (zCr hW.1).trans rfl; go_simp; first | done | with_reducible rfl) ?_; simp only [Act.put, zq1, zq2, zq3]; refine zTk 4 ?_; simp only [Act.put, zq1, zq2, zq3]; refine zTk 5 ?_; simp only [Act.put, zq1, zq2, zq3]; refine zTk 6 ?_; simp only [Act.put, zq1, zq2, zq3]; refine zLd 7 32 rfl hS (by intro W hW; have c0 : W.cell? ⟨c, 0, none⟩ = some (.pointer (some ⟨m.b, 0, none⟩)) := (zCr hW.1).trans rfl; go_simp; first | done | with_reducible rfl) ?_; simp only [Act.put, zq1, zq2, zq3]; refine zTk 8 ?_; simp only [Act.put, zq1, zq2, zq3]; refine zTk 9 ?_; simp only [Act.put, zq1, zq2, zq3]; refine zLd 10 32 rfl hS (by intro W hW; have c1 : W.cell? ⟨m.b, 1, none⟩ = some (.slice sa sn sc) := (zCr hW.2).trans rfl; go_simp; first | done | with_reducible rfl) ?_; simp only [Act.put, zq1, zq2, zq3]; refine zTk 11 ?_; simp only [Act.put, zq1, zq2, zq3]; refine zTk 12 ?_; simp only [Act.put, zq1, zq2, zq3]; refine zTk 13 ?_; simp only [Act.put, zq1, zq2, zq3]; refine zTk 14 ?_; simp only [Act.put, zq1, zq2, zq3]; refine zLd 15 32 rfl hS (by intro W hW; have c2 : W.cell? ⟨c, 2, none⟩ = some (.slice da dn dc) := (zCr hW.1).trans rfl; go_simp; first | done | with_reducible rfl) ?_; simp only [Act.put, zq1, zq2, zq3]; refine zTk 16 ?_; simp only [Act.put, zq1, zq2, zq3]; refine zTk 17 ?_; simp only [Act.put, zq1, zq2, zq3]; refine zTk 18 ?_; simp only [Act.put, zq1, zq2, zq3]; refine zTk 19 ?_; simp only [Act.put, zq1, zq2, zq3]; refine zLd 20 32 rfl hS (by intro W hW; have c1 : W.cell? ⟨c, 1, none⟩ = some (.int .i64 (at_ : Int)) := (zCr hW.1).trans rfl; go_simp; first | done | with_reducible rfl) ?_; simp only [Act.put, zq1, zq2, zq3]; refine zTk 21 ?_; simp only [Act.put, zq1, zq2, zq3]; refine zTk 22 ?_; simp only [Act.put, zq1, zq2, zq3]; refine zTk 23 ?_; simp only [Act.put, zq1, zq2, zq3]; refine zTk 24 ?_; simp only [Act.put, zq1, zq2, zq3]; refine zTk 25 ?_; simp only [Act.put, zq1, zq2, zq3]; refine zLd 26 32 rfl hS (by intro W hW; have c1 : W.cell? ⟨c, 1, none⟩ = some (.int .i64 (at_ : Int)) := (zCr hW.1).trans rfl; go_simp; first | done | with_reducible rfl) ?_; simp only [Act.put, zq1, zq2, zq3]; refine zTk 27 ?_; simp only [Act.put, zq1, zq2, zq3]; refine zTk 28 ?_; simp only [Act.put, zq1, zq2, zq3]; clear hS; refine wpAnyZ_one' (i := 29) (by kernel_rfl) rfl (fun K hK => ?_); go_simp; go_at_call 76; rw [show ((lo : Int) + (kk : Int)).toNat - lo = kk by omega]; refine (HOV.out _ kk (grownBy_drew HX.out) hk9).mono ?_; rintro e w1 ⟨v1, rfl, hv1, hg1, hf1⟩; have hG0 : X0.grownBy w1 (rowBlk m.sv) := ⟨hg1.os, hg1.tape, hg1.output, hg1.size, fun k hk hne => hg1.block k hk hne⟩; have hG : w.grownBy w1 (rowBlk m.sv) := ⟨hG0.os.trans HX.out.os, hG0.tape.trans HX.out.tape, hG0.output.trans HX.out.output, Nat.le_trans HX.out.size hG0.size, fun k hk hne => (hG0.block k (Nat.lt_of_lt_of_le hk HX.out.size) hne).trans (HX.out.block k hk (by simp))⟩; have hc1 : w1.heap[c]? = some (.cells #[.pointer (some ⟨m.b, 0, none⟩), .int .i64 (at_ : Int), .slice da dn dc] 157 (0, 0)) := (hG.block c (Array.getElem?_eq_some_iff.1 HM.out.2.1).1 (fun e => HM.out.1.syn.ne HM.out.2.1 (by decide) e.symm)).trans HM.out.2.1; have hb1 : w1.heap[m.b]? = some (.cells #[m.lv, .slice sa sn sc, .int .i64 m.k] 93 (0, 0)) := (hG.block m.b (Array.getElem?_eq_some_iff.1 HM.out.2.2.1).1 (fun e => HM.out.1.syn.ne HM.out.2.2.1 (by decide) e.symm)).trans HM.out.2.2.1; refine hK.out _ _ (fun _ _ => ⟨hc1, hb1⟩) ?_; clear hK K; (try simp only [Act.put, zq1, zq2, zq3]); have k1 : w1.cell? ⟨m.b, 1, none⟩ = some (.slice sa sn sc) := (zCr hb1).trans rfl
      have kf : w1.frozen? ⟨m.b, 1, none⟩ = false := by simp [World.frozen?, hb1]
      have H1 : Hid (BRow w1 B v1 (wkept m.S at_ D p ch) ∧ w.grownBy w1 (rowBlk m.sv) ∧ (∀ g, rowBlk v1 = some g → rowBlk m.sv = some g ∨ w.heap.size ≤ g) ∧ w1.heap[m.b]? = some (.cells #[m.lv, .slice sa sn sc, .int .i64 m.k] 93 (0, 0))) := ⟨by rw [HW.out]; exact hv1, hG, fun g hg => (hf1 g hg).imp id (fun h => Nat.le_trans HX.out.size h), hb1⟩; obtain ⟨oa1, cap1, hv1e, -⟩ := H1.out.1.is; obtain ⟨n1, hn1⟩ : ∃ x, (wkept m.S at_ D p ch).length = x := ⟨_, rfl⟩; rw [hn1] at hv1e; subst hv1e; clear hv1 hg1 hf1 hG hG0 hc1 hb1 hn1; refine zTk 30 ?_; simp only [Act.put, zq1, zq2, zq3]; refine zTk 31 ?_; simp only [Act.put, zq1, zq2, zq3]; refine wpAnyZ_one' (i := 32) (by kernel_rfl) rfl (fun K hK => ?_); go_simp; refine hK.out _ _ (fun hc => (by cases hc)) ?_; clear hK K; (try simp only [Act.put]); refine wpAnyZ_done (by kernel_rfl) ?_ _; go_wp2; refine bodyPost_end (results_none rfl _ _ _) rfl ⟨rfl, _, ⟨?_, ?_, ?_, ?_⟩, ?_, H1.out.2.2.1⟩
      · exact set_blkL (L := [m.lv, .slice sa sn sc, .int .i64 m.k]) 1 _ H1.out.2.2.2
      · have hT : Turn (fun k => k = m.b ∨ rowBlk m.sv = some k) w (w1.setCell ⟨m.b, 1, none⟩ (.slice oa1 n1 cap1)) := (Turn.of_grown H1.out.2.1 (fun g hg => .inr hg)).set (.inl rfl) _
        exact HM.out.1.live.turn hT (fun g hg hc => by
          rcases hc with rfl | hc
          · exact HM.out.1.live.ne HM.out.2.2.1 (by decide) hg
          · exact HM.out.1.apart g hg hc)
      · exact H1.out.1.turn (T := fun k => k = m.b) ((Turn.refl (fun k => k = m.b) w1).set (a := ⟨m.b, 1, none⟩) (show m.b = m.b from rfl) _) (fun g hg hc => by subst hc; exact H1.out.1.ne H1.out.2.2.2 (by decide) hg)
      · intro g hg hc
        rcases H1.out.2.2.1 g hc with h9 | h9
        · exact HM.out.1.apart g hg h9
        · have := (HM.out.1.live.base hg).2.1
          omega
      · exact (Turn.of_grown H1.out.2.1 (fun g hg => .inr hg)).set (.inl rfl) _
end Go.Proofs.YtgehhfncjoogiaaGreatDoor
namespace Go.Proofs.YtgehhfncjoogiaaGreatDoor
open Go.RowKit Go.Maps

def kS (s : ByteArray) : Lit := .string s.data.toList
def bD : Option Nat → DataW Unit
  | none => .nil
  | some b => .lit (.int .i64 (b : Int))
def bP : Option Nat → Value
  | none => .pointer none
  | some b => .pointer (some ⟨b, 0, none⟩)
def ptrE : Value → Option (DataW Unit × List MemPlace)
  | .pointer none => some (.nil, [])
  | .pointer (some a) => if a.off = 0 ∧ a.spot = none then some (.lit (.int .i64 (a.block : Int)), []) else none
  | _ => none
theorem ptrE_mk (ob : Option Nat) : ptrE (bP ob) = some (bD ob, []) := by cases ob <;> simp [bP, ptrE, bD]
theorem ptrE_inv {v : Value} {z : DataW Unit × List MemPlace} (h : ptrE v = some z) : ∃ ob, v = bP ob ∧ z = (bD ob, []) := by
  unfold ptrE at h
  split at h
  · exact ⟨none, rfl, (Option.some.inj h).symm⟩
  · rename_i a
    split at h
    · rename_i h1
      obtain ⟨b, o, s⟩ := a; simp only at h1; obtain ⟨rfl, rfl⟩ := h1; exact ⟨some b, rfl, (Option.some.inj h).symm⟩
    · cases h
  · cases h
theorem bD_inj {a b : Option Nat} (h : bD a = bD b) : a = b := by
  cases a <;> cases b <;> simp [bD] at h ⊢
  · exact Int.ofNat.inj h
theorem keyS : Keyed Tryz.prog 9 := string_keyed Tryz.underlying9
theorem keyOfS {s : ByteArray} (h : s.size ≤ maxLen) : keyOf Tryz.prog 9 (.string s) = some (kS s) := WideMaps.keyOf_string_mk Tryz.underlying9 h
theorem zeroP (w : World) : (zeroValue 91).run Tryz.prog w = .ok (.pointer none) w := by kernel_rfl
theorem undMap : Tryz.prog.underlying 87 = some (.map 9 91) := Tryz.underlying87
abbrev NMap (w : World) (b n : Nat) (D : DataW Unit) : Prop := w.ownsMap Tryz.prog 9 ptrE b n D
def bind1 (D : DataW Unit) (x : ByteArray × Option Nat) : DataW Unit := match x.2 with
  | none => D.del (kS x.1)
  | some b => D.put (kS x.1) (.lit (.int .i64 (b : Int)))
def bindD (D : DataW Unit) (bs : List (ByteArray × Option Nat)) : DataW Unit := bs.foldl bind1 D
def BnS (w : World) (oa : Option Addr) (bs : List (ByteArray × Option Nat)) : Prop :=
  ∀ i x, bs[i]? = some x → x.1.size ≤ maxLen ∧ ∃ b, oa = some ⟨b, 0, none⟩ ∧ w.cell? ⟨b, i * 2, none⟩ = some (.string x.1) ∧ w.cell? ⟨b, i * 2 + 1, none⟩ = some (bP x.2) ∧ ∃ cur, w.heap[b]? = some (.cells cur 127 (0, 0))
theorem BnS.kept {w w' : World} {oa : Option Addr} {bs : List (ByteArray × Option Nat)} {mb : Nat} {es : Array MapEntry} {ck : Nat} (h : BnS w oa bs) (hg : w.grownBy w' (some mb)) (hm : w.heap[mb]? = some (.map es ck)) : BnS w' oa bs := by
  intro i x hx; obtain ⟨h1, b, h2, h3, h4, cur, h5⟩ := h i x hx
  have hne : b ≠ mb := by
    rintro rfl; rw [hm] at h5
    cases h5
  have hk := hg.block b (Array.getElem?_eq_some_iff.1 h5).1 (by simpa using hne); exact ⟨h1, b, h2, (World.cell?_of_block (w := w) (a := ⟨b, i * 2, none⟩) hk).trans h3, (World.cell?_of_block (w := w) (a := ⟨b, i * 2 + 1, none⟩) hk).trans h4, cur, hk.trans h5⟩
set_option maxRecDepth 8000 in
set_option maxHeartbeats 1000000 in
theorem bind_any (bs : List (ByteArray × Option Nat)) (oa : Option Addr) (cp mb N : Nat) (D : DataW Unit) (w : World) (h : BnS w oa bs) (hm : NMap w mb N D) (hn : N + bs.length ≤ 1000000) :
    Calls Tryz.prog 75 #[.map (some mb), .slice oa bs.length cp] w fun e w' => e = .returned (.tuple #[]) ∧ NMap w' mb (N + bs.length) (bindD D bs) ∧ w.grownBy w' (some mb) := by
  obtain ⟨n, hn'⟩ : ∃ x, bs.length = x := ⟨_, rfl⟩; have HB : Hid (BnS w oa bs ∧ bs.length = n) := ⟨h, hn'⟩; rw [hn'] at hn ⊢; clear h hn'
  go_enter Tryz.func75, Tryz.ntmps75
  go_wp2
  go_loopw [8] (fun i wr => ∃ k, k ≤ n ∧ i = .int .i64 (k : Int) ∧ NMap wr mb (N + k) (bindD D (bs.take k)) ∧ w.grownBy wr (some mb)) (fun i _ => n - (intOf i).toNat)
  case atStart => exact ⟨0, Nat.zero_le _, rfl, by simpa [bindD] using hm, grownBy_refl _ _⟩
  case round =>
    obtain ⟨k, hk, rfl, hN, hG⟩ := hrel
    by_cases hlt : k < n
    · obtain ⟨x, hx⟩ : ∃ x, bs[k]? = some x := ⟨_, List.getElem?_eq_getElem (by rw [HB.out.2]; exact hlt)⟩; obtain ⟨es, ck, hmb, -⟩ := hm; obtain ⟨hsz, b, rfl, c0, c1, -⟩ := (HB.out.1.kept hG hmb) k x hx; obtain ⟨s, ob⟩ := x; simp only at c0 c1 hsz
      have HN : Hid (NMap wr mb (N + k) (bindD D (bs.take k)) ∧ w.grownBy wr (some mb) ∧ bindD D (bs.take (k + 1)) = bind1 (bindD D (bs.take k)) (s, ob)) := by
        refine ⟨hN, hG, ?_⟩; rw [List.take_add_one, hx]
        simp [bindD, List.foldl_append]
      have hkI : (k : Int) < (n : Int) := by omega
      have v1 : IntKind.i64.wrap ((k : Int) + 1) = (k : Int) + 1 := IntWalk.i64_in _ (by omega); clear hN hG hx hmb
      cases ob with
      | none =>
        simp only [bP] at c1
        go_wp2_with (at_delete; refine wpList_delete_own _ rfl _ _ 87 9 rfl 91 keyS undMap ptrE mb (N + k) (bindD D (bs.take k)) rfl (HN.out.1.alloc _) _ _ rfl (keyOfS hsz) ?_; intro w1 h1 hT)
        have H1 : Hid (NMap w1 mb (N + (k + 1)) (bindD D (bs.take (k + 1))) ∧ w.grownBy w1 (some mb)) := by
          rw [HN.out.2.2]; refine ⟨h1.mono (by omega), ?_⟩; have hg1 := hT.grown; exact grown_step (grown_step HN.out.2.1 (World.grownBy_alloc wr _ none) (by simp)) hg1 (fun g hg => .inl hg)
        clear h1 hT; go_wp2; go_roundw
        case rel => exact ⟨k + 1, hlt, by go_num, H1.out.1, H1.out.2⟩
        case measure => simp [intOf]; omega
      | some b' =>
        simp only [bP] at c1
        go_wp2_with (at_mapUpdate; refine wpList_mapUpdate_own _ rfl _ _ _ 87 rfl 9 91 keyS undMap ptrE mb (N + k) (bindD D (bs.take k)) rfl (HN.out.1.alloc _) (by unfold maxLen; omega) _ _ _ rfl rfl (keyOfS hsz) _ [] (ptrE_mk (some b')) ?_; intro w1 h1 hT)
        have H1 : Hid (NMap w1 mb (N + (k + 1)) (bindD D (bs.take (k + 1))) ∧ w.grownBy w1 (some mb)) := by
          rw [HN.out.2.2]; exact ⟨h1, grown_step (grown_step HN.out.2.1 (World.grownBy_alloc wr _ none) (by simp)) hT (fun g hg => .inl hg)⟩
        clear h1 hT; go_wp2; go_roundw
        case rel => exact ⟨k + 1, hlt, by go_num, H1.out.1, H1.out.2⟩
        case measure => simp [intOf]; omega
    · obtain rfl : n = k := by omega
      have hkI : ¬ (n : Int) < (n : Int) := by omega
      have HF : Hid (NMap wr mb (N + n) (bindD D bs) ∧ w.grownBy wr (some mb)) := by
        rw [List.take_of_length_le (by rw [HB.out.2]; exact Nat.le_refl _)] at hN; exact ⟨hN, hG⟩
      clear hN hG; go_wp2; exact bodyPost_end (results_none rfl _ _ _) rfl ⟨rfl, HF.out.1, HF.out.2⟩
def Ty (w : World) (ts : List TypeId) (k : Nat) : Prop := ∃ cur t f, w.heap[k]? = some (.cells cur t f) ∧ t ∈ ts
def Moves (ms : List Nat) (ts : List TypeId) (w w' : World) : Prop := Turn (fun k => k ∈ ms ∨ Ty w ts k) w w'
theorem Moves.refl (ms : List Nat) (ts : List TypeId) (w : World) : Moves ms ts w w := Turn.refl _ _
theorem Moves.trans {ms : List Nat} {ts : List TypeId} {a b c : World} (h : Moves ms ts a b) (k : Moves ms ts b c) : Moves ms ts a c :=
  ⟨k.os.trans h.os, k.tape.trans h.tape, k.output.trans h.output, Nat.le_trans h.size k.size, fun i hi hT => by
    have h1 := h.block i hi hT; refine (k.block i (Nat.lt_of_lt_of_le hi h.size) ?_).trans h1; rintro (h2 | ⟨cur, t, f, h2, h3⟩)
    · exact hT (.inl h2)
    · exact hT (.inr ⟨cur, t, f, h1.symm.trans h2, h3⟩)⟩
theorem Moves.of_turn {T : Nat → Prop} {ms : List Nat} {ts : List TypeId} {w w' : World} (h : Turn T w w') (ht : ∀ k, k < w.heap.size → T k → k ∈ ms ∨ Ty w ts k) : Moves ms ts w w' :=
  ⟨h.os, h.tape, h.output, h.size, fun k hk hT => h.block k hk (fun hc => hT (ht k hk hc))⟩
theorem Moves.of_grown0 {ms : List Nat} {ts : List TypeId} {w w' : World} (h : w.grownBy w' none) : Moves ms ts w w' := ⟨h.os, h.tape, h.output, h.size, fun k hk _ => h.block k hk (by simp)⟩
theorem Moves.cells {ms : List Nat} {ts : List TypeId} {w w' : World} (h : Moves ms ts w w') {k : Nat} {cur : Array Value} {t : TypeId} {f : Nat × Nat} (hk : w.heap[k]? = some (.cells cur t f)) (ht : t ∉ ts) (hm : k ∉ ms) : w'.heap[k]? = some (.cells cur t f) := by
  refine h.blk hk ?_; rintro (h2 | ⟨cur', t', f', h2, h3⟩)
  · exact hm h2
  · rw [hk] at h2; have h9 := Option.some.inj h2
    injection h9 with _ h8 _
    exact ht (h8 ▸ h3)
theorem Moves.map {ms : List Nat} {ts : List TypeId} {w w' : World} (h : Moves ms ts w w') {k n : Nat} {D : DataW Unit} (hk : NMap w k n D) (hm : k ∉ ms) : NMap w' k n D := by
  obtain ⟨es, ck, h1, h2⟩ := hk; refine ⟨es, ck, h.blk h1 ?_, h2⟩; rintro (h3 | ⟨cur', t', f', h3, -⟩)
  · exact hm h3
  · rw [h1] at h3; cases h3
structure Bods (w : World) (B : Nat) (ms : List Bd) : Prop where
  each : ∀ m ∈ ms, BdAt w B m ∧ m.L.length ≤ 65536 ∧ m.S.length ≤ 65536
  low : ∀ m ∈ ms, B ≤ m.b
  one : (ms.map Bd.b).Nodup
  apart : ∀ m ∈ ms, ∀ m' ∈ ms, m.b ≠ m'.b → ∀ g, (rowBlk m.lv = some g ∨ rowBlk m.sv = some g) → ¬ (rowBlk m'.lv = some g ∨ rowBlk m'.sv = some g)
def putB (m' : Bd) (ms : List Bd) : List Bd := ms.map (fun x => if x.b = m'.b then m' else x)
theorem Bods.same {w : World} {B : Nat} {ms : List Bd} (h : Bods w B ms) {x y : Bd} (hx : x ∈ ms) (hy : y ∈ ms) (he : x.b = y.b) : x = y := by
  obtain ⟨i, hi⟩ := List.mem_iff_getElem?.1 hx; obtain ⟨j, hj⟩ := List.mem_iff_getElem?.1 hy
  have h1 : (ms.map Bd.b)[i]? = some x.b := by rw [List.getElem?_map, hi]; rfl
  have h2 : (ms.map Bd.b)[j]? = some x.b := by rw [List.getElem?_map, hj, he]; rfl
  have h3 := (List.getElem?_inj (List.getElem?_eq_some_iff.1 h1).1 h.one).1 (h1.trans h2.symm); subst h3; rw [hi] at hj; exact Option.some.inj hj
theorem mem_putB {m' : Bd} {ms : List Bd} {x : Bd} (h : x ∈ putB m' ms) : (x = m' ∧ ∃ y ∈ ms, y.b = m'.b) ∨ (x ∈ ms ∧ x.b ≠ m'.b) := by
  obtain ⟨y, hy, rfl⟩ := List.mem_map.1 h
  by_cases hb : y.b = m'.b
  · rw [if_pos hb]; exact .inl ⟨rfl, y, hy, hb⟩
  · rw [if_neg hb]; exact .inr ⟨hy, hb⟩
theorem putB_b (m' : Bd) (ms : List Bd) : (putB m' ms).map Bd.b = ms.map Bd.b := by
  rw [putB, List.map_map]; refine List.map_congr_left (fun x _ => ?_)
  show (if x.b = m'.b then m' else x).b = x.b
  split
  · rename_i h; exact h.symm
  · rfl
theorem Bods.put {w w' : World} {B : Nat} {ms : List Bd} {m m' : Bd} (h : Bods w B ms) (hm : m ∈ ms) (hb : m'.b = m.b) (hT : Turn (fun k => k = m.b ∨ rowBlk m.lv = some k ∨ rowBlk m.sv = some k) w w') (hm' : BdAt w' B m') (hf : ∀ g, (rowBlk m'.lv = some g ∨ rowBlk m'.sv = some g) → (rowBlk m.lv = some g ∨ rowBlk m.sv = some g) ∨ w.heap.size ≤ g)
    (hl : m'.L.length ≤ 65536 ∧ m'.S.length ≤ 65536) : Bods w' B (putB m' ms) := by
  have hold : ∀ x ∈ ms, x.b ≠ m.b → BdAt w' B x := fun x hx hne => (h.each x hx).1.turn hT (fun k hk hc => by
    have hxa := (h.each x hx).1; have hma := (h.each m hm).1
    rcases hc with rfl | hc
    · rcases hk with h1 | h1 | h1
      · exact hne h1.symm
      · exact hxa.live.ne hma.box (by decide) h1
      · exact hxa.syn.ne hma.box (by decide) h1
    · rcases hk with rfl | h1
      · rcases hc with h2 | h2
        · exact hma.live.ne hxa.box (by decide) h2
        · exact hma.syn.ne hxa.box (by decide) h2
      · exact h.apart x hx m hm hne k h1 hc)
  have hnew : ∀ x ∈ ms, x.b ≠ m.b → ∀ g, (rowBlk x.lv = some g ∨ rowBlk x.sv = some g) → ¬ (rowBlk m'.lv = some g ∨ rowBlk m'.sv = some g) := fun x hx hne g hg hc => by
    rcases hf g hc with h1 | h1
    · exact h.apart x hx m hm hne g hg h1
    · have := (h.each x hx).1.lt (.inr hg)
      omega
  refine ⟨fun x hx => ?_, fun x hx => ?_, by rw [putB_b]; exact h.one, fun x hx y hy hne g hg => ?_⟩
  · rcases mem_putB hx with ⟨rfl, -⟩ | ⟨h1, h2⟩
    · exact ⟨hm', hl⟩
    · exact ⟨hold x h1 (by rw [← hb]; exact h2), (h.each x h1).2⟩
  · rcases mem_putB hx with ⟨rfl, -⟩ | ⟨h1, -⟩
    · rw [hb]; exact h.low m hm
    · exact h.low x h1
  · rcases mem_putB hx with ⟨rfl, -⟩ | ⟨h1, h2⟩
    · rcases mem_putB hy with ⟨rfl, -⟩ | ⟨h3, h4⟩
      · exact absurd rfl hne
      · exact fun hc => hnew y h3 (by rw [← hb]; exact h4) g hc hg
    · rcases mem_putB hy with ⟨rfl, -⟩ | ⟨h3, h4⟩
      · exact hnew x h1 (by rw [← hb]; exact h2) g hg
      · exact h.apart x h1 y h3 hne g hg
theorem Bods.grown0 {w w' : World} {B : Nat} {ms : List Bd} (h : Bods w B ms) (hg : w.grownBy w' none) : Bods w' B ms :=
  ⟨fun m hm => ⟨(h.each m hm).1.turn (T := fun _ => False) (Turn.of_grown hg (by simp)) (fun _ _ hc => hc), (h.each m hm).2⟩, h.low, h.one, h.apart⟩
theorem Bods.moves {w w' : World} {B : Nat} {ms : List Bd} {mp : List Nat} {ts : List TypeId} (h : Bods w B ms) (hM : Moves mp ts w w') (h1 : 93 ∉ ts) (h2 : 5 ∉ ts) (hmp : ∀ k ∈ mp, ∃ es ck, w.heap[k]? = some (.map es ck)) : Bods w' B ms :=
  ⟨fun m hm => ⟨(h.each m hm).1.turn hM (fun k hk hc => by
    obtain ⟨cur, t, f, hb, ht⟩ : ∃ cur t f, w.heap[k]? = some (.cells cur t f) ∧ (t = 93 ∨ t = 5) := by
      rcases hk with rfl | hk | hk
      · exact ⟨_, _, _, (h.each m hm).1.box, .inl rfl⟩
      · obtain ⟨-, -, cur, h9⟩ := (h.each m hm).1.live.base hk; exact ⟨cur, _, _, h9, .inr rfl⟩
      · obtain ⟨-, -, cur, h9⟩ := (h.each m hm).1.syn.base hk; exact ⟨cur, _, _, h9, .inr rfl⟩
    rcases hc with hc | ⟨cur', t', f', hc, ht'⟩
    · obtain ⟨es, ck, h9⟩ := hmp k hc; rw [h9] at hb
      cases hb
    · rw [hb] at hc; have h9 := Option.some.inj hc
      injection h9 with _ h8 _
      subst h8
      rcases ht with rfl | rfl
      · exact h1 ht'
      · exact h2 ht'), (h.each m hm).2⟩, h.low, h.one, h.apart⟩
structure Ch where
  kind : Nat
  c : Nat
  b : Nat
  at_ : Nat
  D : List Nat
  da : Option Addr
  dc : Nat
  bs : List (ByteArray × Option Nat)
def Ch.cell (x : Ch) : Value := .iface (if x.kind = 1 then 155 else if x.kind = 2 then 158 else 151) (.pointer (some ⟨x.c, 0, none⟩))
def ChAt (w : World) (B : Nat) (x : Ch) : Prop :=
  (x.kind = 1 ∧ w.heap[x.c]? = some (.cells #[.pointer (some ⟨x.b, 0, none⟩), .int .i64 (x.at_ : Int), .slice x.da x.D.length x.dc] 157 (0, 0)) ∧ SlB w x.da x.D.length x.D ∧ 1 ≤ x.D.length ∧ x.D.length ≤ x.dc ∧ x.at_ + x.D.length ≤ 65536 ∧ ∀ b off, x.da = some ⟨b, off, none⟩ → b < B)
  ∨ (x.kind = 2 ∧ w.heap[x.c]? = some (.cells #[.pointer (some ⟨x.b, 0, none⟩), .int .i64 (x.at_ : Int)] 160 (0, 0)))
  ∨ (x.kind = 3 ∧ w.heap[x.c]? = some (.cells #[.slice x.da x.bs.length x.dc] 153 (0, 0)) ∧ BnS w x.da x.bs)
theorem ChAt.moves {w w' : World} {B : Nat} {x : Ch} {mp : List Nat} {ts : List TypeId} (h : ChAt w B x) (hM : Moves mp ts w w') (h1 : ∀ t ∈ ts, t ≠ 157 ∧ t ≠ 160 ∧ t ≠ 153 ∧ t ≠ 127) (hmp : ∀ k ∈ mp, ∃ es ck, w.heap[k]? = some (.map es ck)) (hlow : ∀ k, k < B → w'.heap[k]? = w.heap[k]?) : ChAt w' B x := by
  have hnm : ∀ {k : Nat} {cur : Array Value} {t : TypeId} {f : Nat × Nat}, w.heap[k]? = some (.cells cur t f) → k ∉ mp := fun hk hc => by
    obtain ⟨es, ck, h9⟩ := hmp _ hc; rw [h9] at hk
    cases hk
  rcases h with ⟨hk, hc, hs, h2, h3, h4, h5⟩ | ⟨hk, hc⟩ | ⟨hk, hc, hb⟩
  · refine .inl ⟨hk, hM.cells hc (fun ht => (h1 _ ht).1 rfl) (hnm hc), ?_, h2, h3, h4, h5⟩; refine ⟨hs.1, hs.2.1, fun h0 => ?_⟩; obtain ⟨b, off, hda, hcs⟩ := hs.2.2 h0; exact ⟨b, off, hda, fun i hi => (World.cell?_of_block (w := w) (a := ⟨b, off + i, none⟩) (hlow b (h5 b off hda))).trans (hcs i hi)⟩
  · exact .inr (.inl ⟨hk, hM.cells hc (fun ht => (h1 _ ht).2.1 rfl) (hnm hc)⟩)
  · refine .inr (.inr ⟨hk, hM.cells hc (fun ht => (h1 _ ht).2.2.1 rfl) (hnm hc), fun i y hy => ?_⟩); obtain ⟨g1, b, g2, g3, g4, cur, g5⟩ := hb i y hy; have g6 := hM.cells g5 (fun ht => (h1 _ ht).2.2.2 rfl) (hnm g5); have g7 : w'.heap[b]? = w.heap[b]? := g6.trans g5.symm; exact ⟨g1, b, g2, (World.cell?_of_block (w := w) (a := ⟨b, i * 2, none⟩) g7).trans g3, (World.cell?_of_block (w := w) (a := ⟨b, i * 2 + 1, none⟩) g7).trans g4, cur, g6⟩
def Bd.tell (m : Bd) : Nat × List Nat × List Nat := (m.b, m.L, m.S)
abbrev Pb := List (Nat × List Nat × List Nat)
def onB (b : Nat) (f : List Nat → List Nat) (P : Pb) : Pb := P.map (fun y => if y.1 = b then (y.1, y.2.1, f y.2.2) else y)
def syncP (x : Ch) (P : Pb) : Pb := if x.kind = 1 then onB x.b (fun S => ov S x.at_ x.D) P else if x.kind = 2 then onB x.b (fun S => S.take x.at_) P else P
def syncD (x : Ch) (D : DataW Unit) : DataW Unit := if x.kind = 3 then bindD D x.bs else D
theorem putB_tell {ms : List Bd} {m m' : Bd} {f : List Nat → List Nat} (h1 : m'.b = m.b) (hL : m'.L = m.L) (hS : m'.S = f m.S) (hu : ∀ x ∈ ms, x.b = m.b → x = m) : (putB m' ms).map Bd.tell = onB m.b f (ms.map Bd.tell) := by
  rw [putB, onB, List.map_map, List.map_map]; refine List.map_congr_left (fun x hx => ?_)
  show Bd.tell (if x.b = m'.b then m' else x) = if x.b = m.b then (x.b, x.L, f x.S) else (x.b, x.L, x.S)
  rw [h1]
  split
  · rename_i h
    obtain rfl := hu x hx h
    simp [Bd.tell, h1, hL, hS]
  · rfl
def SyncOut (w w' : World) (B sb N : Nat) (D : DataW Unit) (P : Pb) : Prop :=
  (∃ ms', Bods w' B ms' ∧ ms'.map Bd.tell = P) ∧ NMap w' sb N D ∧ Moves [sb] [93, 5] w w' ∧ ∀ k, k < B → w'.heap[k]? = w.heap[k]?
theorem sync_of_turn {w w' : World} {B sb N : Nat} {D : DataW Unit} {ms : List Bd} {m m' : Bd} {f : List Nat → List Nat} (h : Bods w B ms) (hm : m ∈ ms) (hN : NMap w sb N D) (hT : Turn (fun k => k = m.b ∨ rowBlk m.sv = some k) w w') (hm' : BdAt w' B m') (h1 : m'.b = m.b) (h2 : m'.lv = m.lv) (hL : m'.L = m.L) (hS : m'.S = f m.S)
    (hf : ∀ g, rowBlk m'.sv = some g → rowBlk m.sv = some g ∨ w.heap.size ≤ g) (hl : m'.S.length ≤ 65536) : SyncOut w w' B sb N D (onB m.b f (ms.map Bd.tell)) := by
  have hmm := (h.each m hm).1
  have hMv : Moves [sb] [93, 5] w w' := Moves.of_turn hT (fun k _ hk => .inr (by
    rcases hk with rfl | hk
    · exact ⟨_, _, _, hmm.box, by simp⟩
    · obtain ⟨-, -, cur, h9⟩ := hmm.syn.base hk
      exact ⟨cur, _, _, h9, by simp⟩))
  refine ⟨⟨putB m' ms, h.put hm h1 ⟨hT.os, hT.tape, hT.output, hT.size, fun k hk hc => hT.block k hk (fun hc' => hc (hc'.imp id .inr))⟩ hm' (fun g hg => ?_) ⟨by rw [hL]; exact (h.each m hm).2.1, hl⟩, putB_tell h1 hL hS (fun x hx hb => h.same hx hm hb)⟩, ?_, hMv, fun k hk => ?_⟩
  · rcases hg with hg | hg
    · rw [h2] at hg; exact .inl (.inl hg)
    · exact (hf g hg).imp .inr id
  · obtain ⟨es, ck, h3, h4⟩ := hN; refine ⟨es, ck, hT.blk h3 ?_, h4⟩; rintro (rfl | hc)
    · have := hmm.box; rw [h3] at this
      cases this
    · obtain ⟨-, -, cur, h9⟩ := hmm.syn.base hc; rw [h3] at h9
      cases h9
  · refine hT.block k (Nat.lt_of_lt_of_le hk (Nat.le_trans (h.low m hm) (Nat.le_of_lt (Array.getElem?_eq_some_iff.1 hmm.box).1))) ?_; rintro (rfl | hc)
    · have := h.low m hm; omega
    · have := (hmm.syn.base hc).1; omega
theorem namesSync_any (c : Nat) (oa : Option Addr) (cp : Nat) (bs : List (ByteArray × Option Nat)) (mb N : Nat) (D : DataW Unit) (w : World) (hc : w.heap[c]? = some (.cells #[.slice oa bs.length cp] 153 (0, 0))) (h : BnS w oa bs) (hm : NMap w mb N D) (hn : N + bs.length ≤ 1000000) :
    Calls Tryz.prog 130 #[.pointer (some ⟨c, 0, none⟩), .map (some mb)] w fun e w' => e = .returned (.tuple #[]) ∧ NMap w' mb (N + bs.length) (bindD D bs) ∧ w.grownBy w' (some mb) := by
  have c0 : w.cell? ⟨c, 0, none⟩ = some (.slice oa bs.length cp) := (zCr hc).trans rfl; have HB : Hid (Calls _ _ _ _ _) := bind_any bs oa cp mb N D w h hm hn; obtain ⟨n, hn'⟩ : ∃ x, bs.length = x := ⟨_, rfl⟩; rw [hn'] at HB c0 ⊢; clear hc h hm hn hn'
  go_enter Tryz.func130, Tryz.ntmps130
  go_wp2_with fail; refine HB.out.mono ?_; rintro e w1 ⟨rfl, h1, h2⟩; have H1 : Hid (NMap w1 mb (N + n) (bindD D bs) ∧ w.grownBy w1 (some mb)) := ⟨h1, h2⟩; clear h1 h2 HB; go_wp2; exact bodyPost_end (results_none rfl _ _ _) rfl ⟨rfl, H1.out.1, H1.out.2⟩
theorem sync_names {w w' : World} {B sb N : Nat} {D D' : DataW Unit} {ms : List Bd} (h : Bods w B ms) (hD : NMap w sb N D) (hB : B ≤ sb) {N' : Nat} (hN : NMap w' sb N' D') (hg : w.grownBy w' (some sb)) : SyncOut w w' B sb N' D' (ms.map Bd.tell) := by
  have hM : Moves [sb] [] w w' := Moves.of_turn (Turn.of_grown (T := fun k => k = sb) hg (fun g hg => by cases hg; rfl)) (fun k _ hk => .inl (by simp [hk]))
  refine ⟨⟨ms, h.moves hM (by simp) (by simp) (fun k hk => ?_), rfl⟩, hN, ⟨hM.os, hM.tape, hM.output, hM.size, fun k hk hc => hM.block k hk (fun h9 => hc (by
    rcases h9 with h9 | ⟨_, _, _, _, h9⟩
    · exact .inl h9
    · cases h9))⟩, fun k hk => ?_⟩
  · simp only [List.mem_cons, List.not_mem_nil, or_false] at hk; subst hk; obtain ⟨es, ck, h1, -⟩ := hD; exact ⟨es, ck, h1⟩
  · obtain ⟨es, ck, h1, -⟩ := hD; refine hg.block k (Nat.lt_of_lt_of_le hk (Nat.le_trans hB (Nat.le_of_lt (Array.getElem?_eq_some_iff.1 h1).1))) ?_
    simp; omega
theorem ov_le {L D : List Nat} {a n : Nat} (h1 : L.length ≤ n) (h2 : a + D.length ≤ n) : (ov L a D).length ≤ n := by
  rcases ov_len L a D with h | h <;> omega
structure Dk where
  lb : Nat
  sb : Nat
  N : Nat
  LD : DataW Unit
  SD : DataW Unit
  qv : Value
  queue : List Ch
  cap : Int
  fuse : Int
  off : Bool
  cnt : Int
def Dk.box (M : Dk) : Obj := .cells #[.map (some M.lb), .map (some M.sb), M.qv, .int .i64 M.cap, .int .i64 M.fuse, .bool M.off, .int .i64 M.cnt] 90 (0, 0)
def Has (ms : List Bd) (b : Nat) : Prop := b ∈ ms.map Bd.b
def ChRef (ms : List Bd) (x : Ch) : Prop := (x.kind ≠ 3 → Has ms x.b) ∧ (x.kind = 3 → ∀ y ∈ x.bs, ∀ b, y.2 = some b → Has ms b)
def DRef (ms : List Bd) (D : DataW Unit) : Prop := (∀ k b, D.atKey k .nil = bD (some b) → Has ms b) ∧ ∀ k zd, D.atKey k zd = .nil → zd = .nil
structure DkAt (w : World) (B d : Nat) (M : Dk) (ms : List Bd) : Prop where
  box : w.heap[d]? = some M.box
  dl : NMap w M.lb M.N M.LD
  ds : NMap w M.sb M.N M.SD
  ne : M.lb ≠ M.sb
  low : B ≤ M.lb ∧ B ≤ M.sb ∧ B ≤ d
  bods : Bods w B ms
  q : w.ownsRow B 104 1 M.qv M.queue.length (M.queue.map Ch.cell)
  chs : ∀ x ∈ M.queue, ChAt w B x
  refs : ∀ x ∈ M.queue, ChRef ms x
  refL : DRef ms M.LD
  refS : DRef ms M.SD
def mineC (o : Option Nat) (x : Ch) : Bool := match o with
  | none => decide (x.kind = 3)
  | some b => decide (x.kind ≠ 3) && decide (x.b = b)
def syncsP (o : Option Nat) (xs : List Ch) (P : Pb) : Pb := xs.foldl (fun P x => if mineC o x then syncP x P else P) P
def syncsD (o : Option Nat) (xs : List Ch) (D : DataW Unit) : DataW Unit := xs.foldl (fun D x => if mineC o x then syncD x D else D) D
def tots (xs : List Ch) : Nat := (xs.map (fun x => x.bs.length)).sum
theorem tots_snoc (xs : List Ch) (x : Ch) : tots (xs ++ [x]) = tots xs + x.bs.length := by simp [tots]
theorem tots_le {xs : List Ch} (k : Nat) : tots (xs.take k) ≤ tots xs := by
  have e : tots xs = tots (xs.take k) + tots (xs.drop k) := by
    conv => lhs; rw [← List.take_append_drop k xs]
    unfold tots
    rw [List.map_append, List.sum_append]
  omega
theorem syncsP_snoc (o : Option Nat) (xs : List Ch) (x : Ch) (P : Pb) : syncsP o (xs ++ [x]) P = if mineC o x then syncP x (syncsP o xs P) else syncsP o xs P := by simp [syncsP, List.foldl_append]
theorem syncsD_snoc (o : Option Nat) (xs : List Ch) (x : Ch) (D : DataW Unit) : syncsD o (xs ++ [x]) D = if mineC o x then syncD x (syncsD o xs D) else syncsD o xs D := by simp [syncsD, List.foldl_append]
theorem onB_fst (b : Nat) (f : List Nat → List Nat) (P : Pb) : (onB b f P).map (·.1) = P.map (·.1) := by
  rw [onB, List.map_map]; refine List.map_congr_left (fun y _ => ?_)
  show (if y.1 = b then (y.1, y.2.1, f y.2.2) else y).1 = y.1
  split <;> rfl
theorem syncP_fst (x : Ch) (P : Pb) : (syncP x P).map (·.1) = P.map (·.1) := by
  unfold syncP
  split
  · exact onB_fst _ _ _
  · split
    · exact onB_fst _ _ _
    · rfl
theorem syncsP_fst (o : Option Nat) : ∀ (xs : List Ch) (P : Pb), (syncsP o xs P).map (·.1) = P.map (·.1)
  | [], _ => rfl
  | x :: xs, P => by
    show (syncsP o xs (if mineC o x then syncP x P else P)).map (·.1) = _
    rw [syncsP_fst o xs]
    split
    · exact syncP_fst x P
    · rfl
theorem has_of_tell {ms ms' : List Bd} (h : (ms'.map Bd.tell).map (·.1) = (ms.map Bd.tell).map (·.1)) {b : Nat} (hb : Has ms b) : Has ms' b := by
  have e1 : ∀ l : List Bd, (l.map Bd.tell).map (·.1) = l.map Bd.b := fun l => by rw [List.map_map]; rfl
  rw [e1, e1] at h
  unfold Has
  rw [h]; exact hb
theorem Has.get {ms : List Bd} {b : Nat} (h : Has ms b) : ∃ m ∈ ms, m.b = b := List.mem_map.1 h
theorem DRef.del {ms : List Bd} {D : DataW Unit} (h : DRef ms D) (k : Lit) : DRef ms (D.del k) := by
  refine ⟨fun k' b hk => ?_, fun k' zd hk => ?_⟩
  · by_cases he : k' = k
    · subst he; rw [atKey_del_same] at hk
      cases hk
    · rw [atKey_del_other he] at hk; exact h.1 k' b hk
  · by_cases he : k' = k
    · subst he; rw [atKey_del_same] at hk; exact hk
    · rw [atKey_del_other he] at hk; exact h.2 k' zd hk
theorem DRef.put {ms : List Bd} {D : DataW Unit} (h : DRef ms D) (hm : IsMap D) {s : ByteArray} {b : Nat} (hb : Has ms b) : DRef ms (D.put (kS s) (.lit (.int .i64 (b : Int)))) := by
  refine ⟨fun k' b' hk => ?_, fun k' zd hk => ?_⟩
  · by_cases he : k' = kS s
    · subst he; rw [atKey_put_same hm (by unfold kS; trivial)] at hk; have : bD (some b) = bD (some b') := hk; obtain rfl := Option.some.inj (bD_inj this); exact hb
    · rw [atKey_put_other he] at hk; exact h.1 k' b' hk
  · by_cases he : k' = kS s
    · subst he; rw [atKey_put_same hm (by unfold kS; trivial)] at hk
      cases hk
    · rw [atKey_put_other he] at hk; exact h.2 k' zd hk
theorem isMap_bind {D : DataW Unit} (h : IsMap D) : ∀ bs, IsMap (bindD D bs) := fun bs => by
  induction bs generalizing D with
  | nil => exact h
  | cons x bs ih =>
    show IsMap (bindD (bind1 D x) bs)
    refine ih ?_
    unfold bind1
    split
    · exact h.del _
    · exact h.put _ _
theorem DRef.bind {ms : List Bd} {D : DataW Unit} (h : DRef ms D) (hm : IsMap D) (bs : List (ByteArray × Option Nat)) (hb : ∀ y ∈ bs, ∀ b, y.2 = some b → Has ms b) : DRef ms (bindD D bs) := by
  induction bs generalizing D with
  | nil => exact h
  | cons x bs ih =>
    show DRef ms (bindD (bind1 D x) bs)
    obtain ⟨s, ob⟩ := x; refine ih ?_ ?_ (fun y hy => hb y (List.mem_cons_of_mem _ hy))
    · unfold bind1
      cases ob with
      | none => exact h.del _
      | some b => exact h.put hm (hb (s, some b) (by simp) b rfl)
    · unfold bind1
      cases ob with
      | none => exact hm.del _
      | some b => exact hm.put _ _
end Go.Proofs.YtgehhfncjoogiaaGreatDoor

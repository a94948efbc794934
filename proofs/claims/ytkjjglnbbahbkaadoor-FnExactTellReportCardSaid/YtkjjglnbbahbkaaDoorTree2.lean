/-
  Nested data: rows, their elements one by one.
-/
import Derived.Test.YtkjjglnbbahbkaaDoorTree
namespace Go.Proofs.YtkjjglnbbahbkaaDoor
open Go.RowKit

/-- a row of elements of a shape lies there -/
def RowOk (w : World) (ks : List Ki) (a : Option Addr) (L : List (List Tr)) : Prop :=
  ∀ (i : Nat) (e : List Tr), L[i]? = some e → FitsL e ks ∧ (∀ y ∈ e, Rd w y) ∧ ∃ b off, a = some ⟨b, off, none⟩ ∧ ∀ (j : Nat) (y : Tr), e[j]? = some y → w.cell? ⟨b, off + i * ks.length + j, none⟩ = some y.cell
theorem RowOk.grown0 {w w' : World} {ks : List Ki} {a : Option Addr} {L : List (List Tr)} (h : RowOk w ks a L) (hg : w.grownBy w' none) : RowOk w' ks a L := fun i e hi => by
  obtain ⟨h1, h2, b, off, h3, h4⟩ := h i e hi
  obtain ⟨hc, -⟩ := bcell hg
  exact ⟨h1, fun y hy => (h2 y hy).grown0 hg, b, off, h3, fun j y hj => (hc _ _ (cell_block_lt (h4 j y hj))).trans (h4 j y hj)⟩
theorem Rd.inv {w : World} {x : Tr} (h : Rd w x) : (x.tell.tag = 0 → I64 x.tell.n) ∧ (x.tell.tag = 2 → x.tell.s.size ≤ maxLen) ∧ (x.tell.tag = 3 → x.tell.d.length ≤ maxLen ∧ SlB w x.a x.tell.d.length x.tell.d) ∧ (x.tell.tag = 4 → x.L.length ≤ maxLen ∧ (∀ (i : Nat) (e : List Tr), x.L[i]? = some e → e.length = x.m) ∧ (∀ (i j : Nat) (e : List Tr) (y : Tr), x.L[i]? = some e → e[j]? = some y → ∃ b off, x.a = some ⟨b, off, none⟩ ∧ w.cell? ⟨b, off + i * x.m + j, none⟩ = some y.cell) ∧ ∀ (i j : Nat) (e : List Tr) (y : Tr), x.L[i]? = some e → e[j]? = some y → Rd w y) := by
  cases h using Rd.elim with
  | int h => exact ⟨fun _ => h, fun e => (by cases e), fun e => (by cases e), fun e => (by cases e)⟩
  | bool b => exact ⟨fun e => (by cases e), fun e => (by cases e), fun e => (by cases e), fun e => (by cases e)⟩
  | str h => exact ⟨fun e => (by cases e), fun _ => h, fun e => (by cases e), fun e => (by cases e)⟩
  | byt hb h => exact ⟨fun e => (by cases e), fun e => (by cases e), fun _ => ⟨hb, h⟩, fun e => (by cases e)⟩
  | row hb hl hc hr => exact ⟨fun e => (by cases e), fun e => (by cases e), fun e => (by cases e), fun _ => ⟨hb, hl, hc, hr⟩⟩
theorem Rd.row' {w : World} {m cp : Nat} {a : Option Addr} {L : List (List Tr)} (h : Rd w (.row m a cp L)) : L.length ≤ maxLen ∧ (∀ (i : Nat) (e : List Tr), L[i]? = some e → e.length = m) ∧ (∀ (i j : Nat) (e : List Tr) (y : Tr), L[i]? = some e → e[j]? = some y → ∃ b off, a = some ⟨b, off, none⟩ ∧ w.cell? ⟨b, off + i * m + j, none⟩ = some y.cell) ∧ ∀ (i j : Nat) (e : List Tr) (y : Tr), L[i]? = some e → e[j]? = some y → Rd w y := h.inv.2.2.2 rfl
theorem Fits.inv {x : Tr} {k : Ki} (h : Fits x k) : (k.tag = 0 → ∃ n, x = .int n) ∧ (k.tag = 1 → ∃ b, x = .bool b) ∧ (k.tag = 2 → ∃ s, x = .str s) ∧ (k.tag = 3 → ∃ d a p, x = .byt d a p) ∧ (k.tag = 4 → ∃ a p, x = .row k.ks.length a p x.L ∧ (∀ (i : Nat) (e : List Tr), x.L[i]? = some e → e.length = k.ks.length) ∧ ∀ (i j : Nat) (e : List Tr) (y : Tr) (q : Ki), x.L[i]? = some e → e[j]? = some y → k.ks[j]? = some q → Fits y q) ∧ k.tag = x.tell.tag := by
  cases h using Fits.elim with
  | int n => exact ⟨fun _ => ⟨n, rfl⟩, fun e => (by cases e), fun e => (by cases e), fun e => (by cases e), fun e => (by cases e), rfl⟩
  | bool b => exact ⟨fun e => (by cases e), fun _ => ⟨b, rfl⟩, fun e => (by cases e), fun e => (by cases e), fun e => (by cases e), rfl⟩
  | str s => exact ⟨fun e => (by cases e), fun e => (by cases e), fun _ => ⟨s, rfl⟩, fun e => (by cases e), fun e => (by cases e), rfl⟩
  | byt d a p => exact ⟨fun e => (by cases e), fun e => (by cases e), fun e => (by cases e), fun _ => ⟨d, a, p, rfl⟩, fun e => (by cases e), rfl⟩
  | @row a p _ _ hl hf => exact ⟨fun e => (by cases e), fun e => (by cases e), fun e => (by cases e), fun e => (by cases e), fun _ => ⟨a, p, rfl, hl, hf⟩, rfl⟩
theorem Fits.isRowL {x : Tr} {ks : List Ki} (h : Fits x (.row ks)) : (∀ (i : Nat) (e : List Tr), x.L[i]? = some e → e.length = ks.length) ∧ ∀ (i j : Nat) (e : List Tr) (y : Tr) (q : Ki), x.L[i]? = some e → e[j]? = some y → ks[j]? = some q → Fits y q := by
  obtain ⟨_, _, -, h1, h2⟩ := h.inv.2.2.2.2.1 rfl
  exact ⟨h1, h2⟩
theorem Rd.rowOk {w : World} {ks : List Ki} {m cp : Nat} {a : Option Addr} {L : List (List Tr)} (h : Rd w (.row m a cp L)) (hf : Fits (.row m a cp L) (.row ks)) (h0 : 0 < ks.length) : RowOk w ks a L := by
  have hl := hf.isRowL.1
  have hff := hf.isRowL.2
  obtain ⟨-, hl', hc, hr⟩ := h.row'
  intro i e hi
  have he := hl i e hi
  have hm := hl' i e hi
  have hmk : m = ks.length := by omega
  subst hmk
  refine ⟨⟨he, fun j y k hj hk => hff i j e y k hi hj hk⟩, fun y hy => ?_, ?_⟩
  · obtain ⟨j, hj⟩ := List.getElem?_of_mem hy
    exact hr i j e y hi hj
  · obtain ⟨b, off, ha, -⟩ := hc i 0 e _ hi (List.getElem?_eq_getElem (by omega))
    refine ⟨b, off, ha, fun j y hj => ?_⟩
    obtain ⟨b', off', ha', h⟩ := hc i j e y hi hj
    rw [ha] at ha'
    simp only [Option.some.injEq, Addr.mk.injEq, and_true] at ha'
    obtain ⟨rfl, rfl⟩ := ha'
    exact h
theorem RowOk.rd {w : World} {ks : List Ki} {cp : Nat} {a : Option Addr} {L : List (List Tr)} (h : RowOk w ks a L) (hb : L.length ≤ maxLen) : Rd w (.row ks.length a cp L) ∧ Fits (.row ks.length a cp L) (.row ks) := by
  refine ⟨.row hb (fun i e hi => (h i e hi).1.1) (fun i j e y hi hj => ?_) (fun i j e y hi hj => (h i e hi).2.1 y (List.mem_of_getElem? hj)), .row (fun i e hi => (h i e hi).1.1) (fun i j e y k hi hj hk => (h i e hi).1.2 j y k hj hk)⟩
  obtain ⟨-, -, b, off, ha, hc⟩ := h i e hi
  exact ⟨b, off, ha, hc j y hj⟩
theorem FitsL.nil {es : List Tr} (h : FitsL es []) : es = [] := List.eq_nil_of_length_eq_zero h.1
theorem FitsL.cons {es : List Tr} {k : Ki} {ks : List Ki} (h : FitsL es (k :: ks)) : ∃ y e, es = y :: e ∧ Fits y k ∧ FitsL e ks := by
  cases es with
  | nil => have := h.1; simp at this
  | cons y e => exact ⟨y, e, rfl, h.2 0 y k rfl rfl, by have := h.1; simpa using this, fun j z k' hj hk => h.2 (j + 1) z k' (by simpa using hj) (by simpa using hk)⟩
theorem Fits.isInt {y : Tr} (h : Fits y .int) : ∃ n, y = .int n := h.inv.1 rfl
theorem Fits.isBool {y : Tr} (h : Fits y .bool) : ∃ b, y = .bool b := h.inv.2.1 rfl
theorem Fits.isStr {y : Tr} (h : Fits y .str) : ∃ s, y = .str s := h.inv.2.2.1 rfl
theorem Fits.isByt {y : Tr} (h : Fits y .byt) : ∃ d a p, y = .byt d a p := h.inv.2.2.2.1 rfl
theorem Fits.isRow {y : Tr} {ks : List Ki} (h : Fits y (.row ks)) : ∃ a p L, y = .row ks.length a p L := by
  obtain ⟨a, p, h1, -⟩ := h.inv.2.2.2.2.1 rfl
  exact ⟨a, p, y.L, h1⟩
/-- its lengths are small -/
def Sm (x0 : Tr) : Prop :=
  ∀ P : Tr → Prop, (∀ (n : Int), P (.int n)) →
    (∀ (b : Bool), P (.bool b)) →
    (∀ (s : ByteArray), P (.str s)) →
    (∀ (d : List Nat) (a : Option Addr) (cp : Nat) (_h : d.length ≤ 1048576), P (.byt d a cp)) →
    (∀ (m : Nat) (a : Option Addr) (cp : Nat) (L : List (List Tr)) (_h : L.length ≤ 1048576) (_hs : ∀ (i j : Nat) (e : List Tr) (y : Tr), L[i]? = some e → e[j]? = some y → P y), P (.row m a cp L)) → P x0
theorem Sm.int (n : Int) : Sm (.int n) := fun _ c0 _ _ _ _ => c0 n
theorem Sm.bool (b : Bool) : Sm (.bool b) := fun _ _ c1 _ _ _ => c1 b
theorem Sm.str (s : ByteArray) : Sm (.str s) := fun _ _ _ c2 _ _ => c2 s
theorem Sm.byt {d : List Nat} {a : Option Addr} {cp : Nat} (h : d.length ≤ 1048576) : Sm (.byt d a cp) := fun _ _ _ _ c3 _ => c3 d a cp h
theorem Sm.row {m : Nat} {a : Option Addr} {cp : Nat} {L : List (List Tr)} (h : L.length ≤ 1048576) (hs : ∀ (i j : Nat) (e : List Tr) (y : Tr), L[i]? = some e → e[j]? = some y → Sm y) : Sm (.row m a cp L) := fun P c0 c1 c2 c3 c4 => c4 m a cp L h (fun i j e y hi hj => hs i j e y hi hj P c0 c1 c2 c3 c4)
theorem Sm.elim  {motive : (x0 : Tr) → Sm x0 → Prop}
    (int : ∀ (n : Int), motive (.int n) (.int n))
    (bool : ∀ (b : Bool), motive (.bool b) (.bool b))
    (str : ∀ (s : ByteArray), motive (.str s) (.str s))
    (byt : ∀ {d : List Nat} {a : Option Addr} {cp : Nat} (h : d.length ≤ 1048576), motive (.byt d a cp) (.byt h))
    (row : ∀ {m : Nat} {a : Option Addr} {cp : Nat} {L : List (List Tr)} (h : L.length ≤ 1048576) (hs : ∀ (i j : Nat) (e : List Tr) (y : Tr), L[i]? = some e → e[j]? = some y → Sm y), (∀ i j e y hi hj, motive y (hs i j e y hi hj)) → motive (.row m a cp L) (.row h hs))
    {x0 : Tr} (h : Sm x0) : motive x0 h :=
  (h (fun x0 => ∃ h : Sm x0, motive x0 h) (fun n => ⟨.int n, int n ⟩)
    (fun b => ⟨.bool b, bool b ⟩)
    (fun s => ⟨.str s, str s ⟩)
    (fun _ _ _ h => ⟨.byt h, byt h ⟩)
    (fun _ _ _ _ h hs => ⟨.row h (fun i j e y hi hj => (hs i j e y hi hj).elim fun a _ => a), row h (fun i j e y hi hj => (hs i j e y hi hj).elim fun a _ => a) (fun i j e y hi hj => (hs i j e y hi hj).elim fun _ b => b)⟩)).elim fun _ b => b
def SmR (L : List (List Tr)) : Prop := L.length ≤ 1048576 ∧ ∀ (i j : Nat) (e : List Tr) (y : Tr), L[i]? = some e → e[j]? = some y → Sm y
theorem Sm.inv {x : Tr} (h : Sm x) : (x.tell.tag = 3 → x.tell.d.length ≤ 1048576) ∧ (x.tell.tag = 4 → SmR x.L) := by
  cases h using Sm.elim with
  | int n => exact ⟨fun e => (by cases e), fun e => (by cases e)⟩
  | bool b => exact ⟨fun e => (by cases e), fun e => (by cases e)⟩
  | str s => exact ⟨fun e => (by cases e), fun e => (by cases e)⟩
  | byt h => exact ⟨fun _ => h, fun e => (by cases e)⟩
  | row h hs => exact ⟨fun e => (by cases e), fun _ => ⟨h, hs⟩⟩
theorem Sm.isByt {d : List Nat} {a : Option Addr} {cp : Nat} (h : Sm (.byt d a cp)) : d.length ≤ 1048576 := h.inv.1 rfl
theorem Sm.isRow {m : Nat} {a : Option Addr} {cp : Nat} {L : List (List Tr)} (h : Sm (.row m a cp L)) : SmR L := h.inv.2 rfl
theorem Rd.isByt {w : World} {d : List Nat} {a : Option Addr} {cp : Nat} (h : Rd w (.byt d a cp)) : SlB w a d.length d := (h.inv.2.2.1 rfl).2
theorem Rd.isInt {w : World} {n : Int} (h : Rd w (.int n)) : I64 n := h.inv.1 rfl
theorem Rd.isStr {w : World} {s : ByteArray} (h : Rd w (.str s)) : s.size ≤ maxLen := h.inv.2.1 rfl
theorem Rd.lenB {w : World} {d : List Nat} {a : Option Addr} {cp : Nat} (h : Rd w (.byt d a cp)) : d.length ≤ maxLen := (h.inv.2.2.1 rfl).1
theorem Rd.lenR {w : World} {m : Nat} {a : Option Addr} {cp : Nat} {L : List (List Tr)} (h : Rd w (.row m a cp L)) : L.length ≤ maxLen := h.row'.1
/-- what a row tells -/
abbrev tellR (L : List (List Tr)) : List (List Td) := L.map (fun e => e.map Tr.tell)
theorem tell_row (m : Nat) (a : Option Addr) (cp : Nat) (L : List (List Tr)) : (Tr.row m a cp L).tell = .row (tellR L) := rfl
theorem tellR_get {L L' : List (List Tr)} (h : tellR L = tellR L') {i : Nat} {e e' : List Tr} (hi : L[i]? = some e) (hi' : L'[i]? = some e') : e.map Tr.tell = e'.map Tr.tell := by
  have h1 : (tellR L)[i]? = some (e.map Tr.tell) := by simp [hi]
  have h2 : (tellR L')[i]? = some (e'.map Tr.tell) := by simp [hi']
  rw [h, h2] at h1
  exact (Option.some.inj h1).symm
/-- the same but for draws -/
def SameT (w x : World) : Prop := x.heap = w.heap ∧ x.os = w.os ∧ x.tape = w.tape ∧ x.output = w.output
theorem SameT.grown {w x : World} (h : SameT w x) : w.grownBy x none := ⟨h.2.1, h.2.2.1, h.2.2.2, by rw [h.1]; exact Nat.le_refl _, fun k _ _ => by rw [h.1]⟩
end Go.Proofs.YtkjjglnbbahbkaaDoor

/-
  Nested data: rows, their elements one by one.
-/
import Derived.Test.YtkjjglnbbahbkaaDoorTree
namespace Go.Proofs.YtkjjglnbbahbkaaDoor
open Go.RowKit

/-- a row of elements of a shape lies there -/
def RowOk (w : World) (ks : List Ki) (a : Option Addr) (L : List (List Tr)) : Prop :=
  ∀ (i : Nat) (e : List Tr), L[i]? = some e → FitsL e ks ∧ (∀ y ∈ e, Rd w y) ∧ ∃ b off, a = some ⟨b, off, none⟩ ∧ ∀ (j : Nat) (y : Tr), e[j]? = some y → w.cell? ⟨b, off + i * ks.length + j, none⟩ = some y.cell
theorem RowOk.grown0 {w w' : World} {ks : List Ki} {a : Option Addr} {L : List (List Tr)} (h : RowOk w ks a L) (hg : w.grownBy w' none) : RowOk w' ks a L := fun i e hi => by
  obtain ⟨h1, h2, b, off, h3, h4⟩ := h i e hi
  obtain ⟨hc, -⟩ := bcell hg
  exact ⟨h1, fun y hy => (h2 y hy).grown0 hg, b, off, h3, fun j y hj => (hc _ _ (cell_block_lt (h4 j y hj))).trans (h4 j y hj)⟩
theorem Rd.rowOk {w : World} {ks : List Ki} {m cp : Nat} {a : Option Addr} {L : List (List Tr)} (h : Rd w (.row m a cp L)) (hf : Fits (.row m a cp L) (.row ks)) (h0 : 0 < ks.length) : RowOk w ks a L := by
  cases hf with
  | row hl hf =>
    cases h with
    | row _ hl' hc hr =>
      intro i e hi
      have he := hl i e hi
      refine ⟨⟨he, fun j y k hj hk => hf i j e y k hi hj hk⟩, fun y hy => ?_, ?_⟩
      · obtain ⟨j, hj⟩ := List.getElem?_of_mem hy
        exact hr i j e y hi hj
      · obtain ⟨b, off, ha, -⟩ := hc i 0 e _ hi (List.getElem?_eq_getElem (by omega))
        refine ⟨b, off, ha, fun j y hj => ?_⟩
        obtain ⟨b', off', ha', h⟩ := hc i j e y hi hj
        rw [ha] at ha'
        simp only [Option.some.injEq, Addr.mk.injEq, and_true] at ha'
        obtain ⟨rfl, rfl⟩ := ha'
        exact h
theorem RowOk.rd {w : World} {ks : List Ki} {cp : Nat} {a : Option Addr} {L : List (List Tr)} (h : RowOk w ks a L) (hb : L.length ≤ maxLen) : Rd w (.row ks.length a cp L) ∧ Fits (.row ks.length a cp L) (.row ks) := by
  refine ⟨.row hb (fun i e hi => (h i e hi).1.1) (fun i j e y hi hj => ?_) (fun i j e y hi hj => (h i e hi).2.1 y (List.mem_of_getElem? hj)), .row (fun i e hi => (h i e hi).1.1) (fun i j e y k hi hj hk => (h i e hi).1.2 j y k hj hk)⟩
  obtain ⟨-, -, b, off, ha, hc⟩ := h i e hi
  exact ⟨b, off, ha, hc j y hj⟩
theorem FitsL.nil {es : List Tr} (h : FitsL es []) : es = [] := List.eq_nil_of_length_eq_zero h.1
theorem FitsL.cons {es : List Tr} {k : Ki} {ks : List Ki} (h : FitsL es (k :: ks)) : ∃ y e, es = y :: e ∧ Fits y k ∧ FitsL e ks := by
  cases es with
  | nil => have := h.1; simp at this
  | cons y e => exact ⟨y, e, rfl, h.2 0 y k rfl rfl, by have := h.1; simpa using this, fun j z k' hj hk => h.2 (j + 1) z k' (by simpa using hj) (by simpa using hk)⟩
theorem Fits.isInt {y : Tr} (h : Fits y .int) : ∃ n, y = .int n := by cases h with | int n => exact ⟨n, rfl⟩
theorem Fits.isBool {y : Tr} (h : Fits y .bool) : ∃ b, y = .bool b := by cases h with | bool b => exact ⟨b, rfl⟩
theorem Fits.isByt {y : Tr} (h : Fits y .byt) : ∃ d a p, y = .byt d a p := by cases h with | byt d a p => exact ⟨d, a, p, rfl⟩
theorem Fits.isRow {y : Tr} {ks : List Ki} (h : Fits y (.row ks)) : ∃ a p L, y = .row ks.length a p L := by cases h with | @row a p L _ _ _ => exact ⟨a, p, L, rfl⟩
/-- its lengths are small -/
inductive Sm : Tr → Prop
  | int (n : Int) : Sm (.int n)
  | bool (b : Bool) : Sm (.bool b)
  | byt {d : List Nat} {a : Option Addr} {cp : Nat} (h : d.length ≤ 1048576) : Sm (.byt d a cp)
  | row {m : Nat} {a : Option Addr} {cp : Nat} {L : List (List Tr)} (h : L.length ≤ 1048576) (hs : ∀ (i j : Nat) (e : List Tr) (y : Tr), L[i]? = some e → e[j]? = some y → Sm y) : Sm (.row m a cp L)
def SmR (L : List (List Tr)) : Prop := L.length ≤ 1048576 ∧ ∀ (i j : Nat) (e : List Tr) (y : Tr), L[i]? = some e → e[j]? = some y → Sm y
theorem Sm.isByt {d : List Nat} {a : Option Addr} {cp : Nat} (h : Sm (.byt d a cp)) : d.length ≤ 1048576 := by cases h with | byt h => exact h
theorem Sm.isRow {m : Nat} {a : Option Addr} {cp : Nat} {L : List (List Tr)} (h : Sm (.row m a cp L)) : SmR L := by cases h with | row h hs => exact ⟨h, hs⟩
theorem Rd.isByt {w : World} {d : List Nat} {a : Option Addr} {cp : Nat} (h : Rd w (.byt d a cp)) : SlB w a d.length d := by cases h with | byt _ h => exact h
theorem Rd.isInt {w : World} {n : Int} (h : Rd w (.int n)) : I64 n := by cases h with | int h => exact h
theorem Rd.lenB {w : World} {d : List Nat} {a : Option Addr} {cp : Nat} (h : Rd w (.byt d a cp)) : d.length ≤ maxLen := by cases h with | byt h _ => exact h
theorem Rd.lenR {w : World} {m : Nat} {a : Option Addr} {cp : Nat} {L : List (List Tr)} (h : Rd w (.row m a cp L)) : L.length ≤ maxLen := by cases h with | row h _ _ _ => exact h
/-- what a row tells -/
abbrev tellR (L : List (List Tr)) : List (List Td) := L.map (fun e => e.map Tr.tell)
theorem tell_row (m : Nat) (a : Option Addr) (cp : Nat) (L : List (List Tr)) : (Tr.row m a cp L).tell = .row (tellR L) := by simp [Tr.tell, tellRows_map]
theorem tellR_get {L L' : List (List Tr)} (h : tellR L = tellR L') {i : Nat} {e e' : List Tr} (hi : L[i]? = some e) (hi' : L'[i]? = some e') : e.map Tr.tell = e'.map Tr.tell := by
  have h1 : (tellR L)[i]? = some (e.map Tr.tell) := by simp [hi]
  have h2 : (tellR L')[i]? = some (e'.map Tr.tell) := by simp [hi']
  rw [h, h2] at h1
  exact (Option.some.inj h1).symm
/-- the same but for draws -/
def SameT (w x : World) : Prop := x.heap = w.heap ∧ x.os = w.os ∧ x.tape = w.tape ∧ x.output = w.output
theorem SameT.grown {w x : World} (h : SameT w x) : w.grownBy x none := ⟨h.2.1, h.2.2.1, h.2.2.2, by rw [h.1]; exact Nat.le_refl _, fun k _ _ => by rw [h.1]⟩
end Go.Proofs.YtkjjglnbbahbkaaDoor

/-
  A report's text, as the data tell it; how long it gets.
-/
import Derived.Test.YtkjjglnbbahbkaaDoorItemT
import Derived.Test.YtkjjglnbbahbkaaDoorTot
import Derived.Test.YtkjjglnbbahbkaaDoorShapes
namespace Go.Proofs.YtkjjglnbbahbkaaDoor
open Go.RowKit

/-- its numbers have 64 bits -/
def Nu (x0 : Td) : Prop :=
  ∀ P : Td → Prop, (∀ (n : Int) (_h : I64 n), P (.int n)) →
    (∀ (b : Bool), P (.bool b)) →
    (∀ (s : ByteArray), P (.str s)) →
    (∀ (d : List Nat), P (.byt d)) →
    (∀ (L : List (List Td)) (_h : ∀ e ∈ L, ∀ y ∈ e, P y), P (.row L)) → P x0
theorem Nu.int {n : Int} (h : I64 n) : Nu (.int n) := fun _ c0 _ _ _ _ => c0 n h
theorem Nu.bool (b : Bool) : Nu (.bool b) := fun _ _ c1 _ _ _ => c1 b
theorem Nu.str (s : ByteArray) : Nu (.str s) := fun _ _ _ c2 _ _ => c2 s
theorem Nu.byt (d : List Nat) : Nu (.byt d) := fun _ _ _ _ c3 _ => c3 d
theorem Nu.row {L : List (List Td)} (h : ∀ e ∈ L, ∀ y ∈ e, Nu y) : Nu (.row L) := fun P c0 c1 c2 c3 c4 => c4 L (fun e he y hy => h e he y hy P c0 c1 c2 c3 c4)
theorem Nu.elim  {motive : (x0 : Td) → Nu x0 → Prop}
    (int : ∀ {n : Int} (h : I64 n), motive (.int n) (.int h))
    (bool : ∀ (b : Bool), motive (.bool b) (.bool b))
    (str : ∀ (s : ByteArray), motive (.str s) (.str s))
    (byt : ∀ (d : List Nat), motive (.byt d) (.byt d))
    (row : ∀ {L : List (List Td)} (h : ∀ e ∈ L, ∀ y ∈ e, Nu y), (∀ e he y hy, motive y (h e he y hy)) → motive (.row L) (.row h))
    {x0 : Td} (h : Nu x0) : motive x0 h :=
  (h (fun x0 => ∃ h : Nu x0, motive x0 h) (fun _ h => ⟨.int h, int h ⟩)
    (fun b => ⟨.bool b, bool b ⟩)
    (fun s => ⟨.str s, str s ⟩)
    (fun d => ⟨.byt d, byt d ⟩)
    (fun _ h => ⟨.row (fun e he y hy => (h e he y hy).elim fun a _ => a), row (fun e he y hy => (h e he y hy).elim fun a _ => a) (fun e he y hy => (h e he y hy).elim fun _ b => b)⟩)).elim fun _ b => b
theorem i64_zero : I64 0 := ⟨by decide, by decide⟩
theorem Nu.inv {x : Td} (h : Nu x) : I64 x.n ∧ x.d.length ≤ x.tot ∧ x.L.length + tdRows x.L ≤ x.tot ∧ ∀ e ∈ x.L, ∀ y ∈ e, Nu y := by
  cases h using Nu.elim with
  | int h => exact ⟨h, Nat.le_refl _, Nat.le_refl _, fun _ h => (by cases h)⟩
  | bool b => exact ⟨i64_zero, Nat.le_refl _, Nat.le_refl _, fun _ h => (by cases h)⟩
  | str s => exact ⟨i64_zero, Nat.zero_le _, Nat.zero_le _, fun _ h => (by cases h)⟩
  | byt d => exact ⟨i64_zero, Nat.le_refl _, Nat.zero_le _, fun _ h => (by cases h)⟩
  | row h => exact ⟨i64_zero, Nat.zero_le _, Nat.le_refl _, h⟩
theorem Rd.nu {w : World} {x : Tr} (h : Rd w x) : Nu x.tell := by
  induction h using Rd.elim with
  | int h => exact .int h
  | bool b => exact .bool b
  | str _ => exact .str _
  | byt _ _ => exact .byt _
  | row _ _ _ _ ih =>
    rw [tell_row]
    refine .row (fun e he y hy => ?_)
    obtain ⟨e', he', rfl⟩ := List.mem_map.1 he
    obtain ⟨y', hy', rfl⟩ := List.mem_map.1 hy
    obtain ⟨i, hi⟩ := List.mem_iff_getElem?.1 he'
    obtain ⟨j, hj⟩ := List.mem_iff_getElem?.1 hy'
    exact ih i j e' y' hi hj
theorem RowOk.nu {w : World} {ks : List Ki} {a : Option Addr} {L : List (List Tr)} (h : RowOk w ks a L) : ∀ e ∈ tellR L, ∀ y ∈ e, Nu y := by
  intro e he y hy
  obtain ⟨e', he', rfl⟩ := List.mem_map.1 he
  obtain ⟨y', hy', rfl⟩ := List.mem_map.1 hy
  obtain ⟨i, hi⟩ := List.mem_iff_getElem?.1 he'
  exact ((h i e' hi).2.1 y' hy').nu
def itemD (nm : List Nat) : List Td → List Nat
  | [c, s, d] => itemT nm c.n s.n d.d
  | _ => []
def ackD : List Td → List Nat
  | [a, b, c, d, e] => [32, 97] ++ numB 58 [a.n, b.n, c.n, d.n, e.n]
  | _ => []
/-- an item is told where it is not the zero one -/
def itemO (c s : Int) (d : List Nat) : List Nat := if c = 0 ∧ s = 0 ∧ d = [] then [] else itemT [32, 105] c s d
def serviceT (b : Int) (K : List (List Td)) : List Nat := if b = 0 ∧ K = [] then [] else [32, 115] ++ numB 58 [b] ++ K.flatMap (itemD [32, 107])
def obsT (code ix c s : Int) (d : List Nat) (b : Int) (K A : List (List Td)) (m : Nat) (v0 v1 v2 v3 v4 v5 v6 v7 : Int) : List Nat :=
  decI code ++ numB 32 [ix, v0, v1, v2, v3, v4, v5, v6, v7, (m : Int)] ++ A.flatMap ackD ++ itemO c s d ++ serviceT b K ++ [10]
def obsD : List Td → List Nat
  | [code, ix, c, s, d, b, K, _, A, M, v0, v1, v2, v3, v4, v5, v6, v7] => obsT code.n ix.n c.n s.n d.d b.n K.L A.L M.L.length v0.n v1.n v2.n v3.n v4.n v5.n v6.n v7.n
  | _ => []
def reportT (code : Int) (O : List (List Td)) : List Nat := [99, 111, 100, 101] ++ numB 32 [code] ++ [10] ++ O.flatMap obsD
theorem itemT_len (nm : List Nat) {c s : Int} (hc : I64 c) (hs : I64 s) (d : List Nat) : (itemT nm c s d).length ≤ nm.length + 46 + 2 * d.length := by
  have h1 := numB_len (mark := 58) (i64s2 hc hs)
  have h2 := hexB_len d
  simp only [itemT, List.length_append, List.length_cons, List.length_nil] at h1 ⊢
  omega
theorem itemD_len (nm : List Nat) (hn : nm.length ≤ 8) (e : List Td) (h : ∀ y ∈ e, Nu y) : (itemD nm e).length ≤ 64 + 64 * tdEl e := by
  unfold itemD
  split
  · rename_i c s d
    have h1 := itemT_len nm (h c (by simp)).inv.1 (h s (by simp)).inv.1 d.d
    have h2 := (h d (by simp)).inv.2.1
    simp only [tdEl]
    omega
  · simp
theorem rows_len (f : List Td → List Nat) (m : Nat) (R : List (List Td)) (h : ∀ e ∈ R, (f e).length ≤ m + m * tdEl e) : (R.flatMap f).length ≤ m * (R.length + tdRows R) := by
  induction R with
  | nil => simp
  | cons e R ih =>
    have h1 := ih (fun x hx => h x (by simp [hx]))
    have h2 := h e (by simp)
    simp only [List.flatMap_cons, List.length_append, List.length_cons, tdRows, Nat.mul_add, Nat.mul_one] at h1 h2 ⊢
    omega
theorem i64s5 {a b c d e : Int} (ha : I64 a) (hb : I64 b) (hc : I64 c) (hd : I64 d) (he : I64 e) : ∀ x ∈ [a, b, c, d, e], I64 x := by
  intro x hx
  simp only [List.mem_cons, List.not_mem_nil, or_false] at hx
  rcases hx with rfl | rfl | rfl | rfl | rfl <;> assumption
theorem i64sN (m : Nat) (hm : m ≤ 1048576) : I64 (m : Int) := ⟨by omega, by omega⟩
theorem ackD_len (e : List Td) (h : ∀ y ∈ e, Nu y) : (ackD e).length ≤ 112 + 112 * tdEl e := by
  unfold ackD
  split
  · rename_i a b c d e
    have h1 := numB_len (mark := 58) (i64s5 (h a (by simp)).inv.1 (h b (by simp)).inv.1 (h c (by simp)).inv.1 (h d (by simp)).inv.1 (h e (by simp)).inv.1)
    simp only [List.length_append, List.length_cons, List.length_nil] at h1 ⊢
    omega
  · simp
theorem kept_len (K : List (List Td)) (h : ∀ e ∈ K, ∀ y ∈ e, Nu y) : (K.flatMap (itemD [32, 107])).length ≤ 64 * (K.length + tdRows K) := rows_len _ 64 K (fun e he => itemD_len _ (by simp) e (h e he))
theorem acks_len (A : List (List Td)) (h : ∀ e ∈ A, ∀ y ∈ e, Nu y) : (A.flatMap ackD).length ≤ 112 * (A.length + tdRows A) := rows_len _ 112 A (fun e he => ackD_len e (h e he))
theorem itemO_len {c s : Int} (hc : I64 c) (hs : I64 s) (d : List Nat) : (itemO c s d).length ≤ 48 + 2 * d.length := by
  unfold itemO
  split
  · simp
  · have := itemT_len [32, 105] hc hs d
    simp only [List.length_cons, List.length_nil] at this
    omega
theorem serviceT_len {b : Int} (hb : I64 b) (K : List (List Td)) (h : ∀ e ∈ K, ∀ y ∈ e, Nu y) : (serviceT b K).length ≤ 24 + 64 * (K.length + tdRows K) := by
  unfold serviceT
  split
  · simp
  · have h1 := numB_len (mark := 58) (i64s1 hb)
    have h2 := kept_len K h
    simp only [List.length_append, List.length_cons, List.length_nil] at h1 ⊢
    omega
theorem i64s10 {a b c d e f g h i j : Int} (ha : I64 a) (hb : I64 b) (hc : I64 c) (hd : I64 d) (he : I64 e) (hf : I64 f) (hg : I64 g) (hh : I64 h) (hi : I64 i) (hj : I64 j) : ∀ x ∈ [a, b, c, d, e, f, g, h, i, j], I64 x := by
  intro x hx
  simp only [List.mem_cons, List.not_mem_nil, or_false] at hx
  rcases hx with rfl | rfl | rfl | rfl | rfl | rfl | rfl | rfl | rfl | rfl <;> assumption
set_option maxHeartbeats 1000000 in
theorem obsD_len (e : List Td) (h : ∀ y ∈ e, Nu y) (hs : tdEl e ≤ 1048576) : (obsD e).length ≤ 512 + 512 * tdEl e := by
  unfold obsD
  split
  · rename_i code ix c s d b K S A M v0 v1 v2 v3 v4 v5 v6 v7
    simp only [tdEl] at hs ⊢
    have d0 := (h d (by simp)).inv.2.1
    have k0 := (h K (by simp)).inv.2.2.1
    have a0 := (h A (by simp)).inv.2.2.1
    have m0 := (h M (by simp)).inv.2.2.1
    have h0 := decI_len (h code (by simp)).inv.1
    have h1 := numB_len (mark := 32) (i64s10 (h ix (by simp)).inv.1 (h v0 (by simp)).inv.1 (h v1 (by simp)).inv.1 (h v2 (by simp)).inv.1 (h v3 (by simp)).inv.1 (h v4 (by simp)).inv.1 (h v5 (by simp)).inv.1 (h v6 (by simp)).inv.1 (h v7 (by simp)).inv.1 (i64sN M.L.length (by omega)))
    have h2 := acks_len A.L (h A (by simp)).inv.2.2.2
    have h3 := itemO_len (h c (by simp)).inv.1 (h s (by simp)).inv.1 d.d
    have h4 := serviceT_len (h b (by simp)).inv.1 K.L (h K (by simp)).inv.2.2.2
    simp only [obsT, List.length_append, List.length_cons, List.length_nil] at h1 ⊢
    omega
  · simp
/-- one more -/
theorem flat_snoc (f : List Td → List Nat) {L : List (List Tr)} {k : Nat} {e : List Tr} (h : L[k]? = some e) : (tellR (L.take (k + 1))).flatMap f = (tellR (L.take k)).flatMap f ++ f (e.map Tr.tell) := by
  rw [List.take_add_one, h]
  simp [tellR]
/-- rows that lie below B -/
def RowLow (B : Nat) (w : World) (ks : List Ki) (a : Option Addr) (L : List (List Tr)) : Prop := ∀ w', Below B w w' → RowOk w' ks a L
theorem RowLow.on {B : Nat} {w w' : World} {ks : List Ki} {a : Option Addr} {L : List (List Tr)} (h : RowLow B w ks a L) (hb : Below B w w') : RowLow B w' ks a L := fun x hx => h x (hb.trans hx)
theorem RowLow.ok {B : Nat} {w : World} {ks : List Ki} {a : Option Addr} {L : List (List Tr)} (h : RowLow B w ks a L) : RowOk w ks a L := h w (Below.refl _ _)
theorem RowOk.low {w : World} {ks : List Ki} {a : Option Addr} {L : List (List Tr)} (h : RowOk w ks a L) : RowLow w.heap.size w ks a L := fun _ hb => h.grown0 ⟨hb.os, hb.tape, hb.output, hb.size, fun k hk _ => hb.block k hk⟩
theorem SlB.low {w : World} {oa : Option Addr} {n : Nat} {d : List Nat} (h : SlB w oa n d) : SlLow w.heap.size w oa n d := fun _ hb => h.grown0 ⟨hb.os, hb.tape, hb.output, hb.size, fun k hk _ => hb.block k hk⟩
theorem RowLow.byt {B : Nat} {w : World} {ks : List Ki} {a : Option Addr} {L : List (List Tr)} (h : RowLow B w ks a L) {i : Nat} {e : List Tr} (hi : L[i]? = some e) {d : List Nat} {oa : Option Addr} {p : Nat} (hy : .byt d oa p ∈ e) : SlLow B w oa d.length d := fun x hx => ((h x hx i e hi).2.1 _ hy).isByt
theorem RowLow.row {B : Nat} {w : World} {ks ks' : List Ki} {a : Option Addr} {L : List (List Tr)} (h : RowLow B w ks a L) {i j : Nat} {e : List Tr} (hi : L[i]? = some e) {m : Nat} {oa : Option Addr} {p : Nat} {K : List (List Tr)} (hy : e[j]? = some (.row m oa p K)) (hk : ks[j]? = some (.row ks')) (h0 : 0 < ks'.length) : RowLow B w ks' oa K := fun x hx => ((h x hx i e hi).2.1 _ (List.mem_of_getElem? hy)).rowOk ((h x hx i e hi).1.2 j _ _ hy hk) h0
end Go.Proofs.YtkjjglnbbahbkaaDoor

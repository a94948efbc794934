/-
  Rows of elements that are some numbers and a slice of bytes: items and sessions as the laws mark them.
-/
import Derived.Test.YtdajcpcajdhplaaDoorSes
namespace Go.Proofs.YtdajcpcajdhplaaDoor
open Go.RowKit

/-- an element: its numbers, its bytes, the bytes' block, their capacity -/
structure El where
  hd : List Int
  d : List Nat
  o : Option Nat
  cp : Nat
def El.cells (x : El) : List Value := x.hd.map (Value.int .i64) ++ [.slice (oad x.o) x.d.length x.cp]
def El.tell (x : El) : List Int × List Nat := (x.hd, x.d)
/-- only blocks of a set are turned -/
structure Only (S : Nat → Prop) (w w' : World) : Prop where
  os : w'.os = w.os
  tape : w'.tape = w.tape
  output : w'.output = w.output
  size : w.heap.size ≤ w'.heap.size
  block : ∀ k, k < w.heap.size → ¬ S k → w'.heap[k]? = w.heap[k]?
theorem Only.refl (S : Nat → Prop) (w : World) : Only S w w := ⟨rfl, rfl, rfl, Nat.le_refl _, fun _ _ _ => rfl⟩
theorem Only.trans {S : Nat → Prop} {a b c : World} (h : Only S a b) (k : Only S b c) : Only S a c :=
  ⟨k.os.trans h.os, k.tape.trans h.tape, k.output.trans h.output, Nat.le_trans h.size k.size, fun j hj hn => (k.block j (Nat.lt_of_lt_of_le hj h.size) hn).trans (h.block j hj hn)⟩
theorem Only.of {S : Nat → Prop} {a b : World} {row : Option Nat} (h : a.grownBy b row) (hr : ∀ k, row = some k → S k) : Only S a b :=
  ⟨h.os, h.tape, h.output, h.size, fun j hj hn => h.block j hj (fun e => hn (hr j e.symm))⟩
theorem Only.set {S : Nat → Prop} {a b : World} (h : Only S a b) (g i : Nat) (v : Value) (hp : S g) : Only S a (b.setCell ⟨g, i, none⟩ v) :=
  h.trans (Only.of (row := some g) (grownBy_setCell (grownBy_refl _ _)) (fun k e => by cases e; exact hp))
theorem Only.mono {S T : Nat → Prop} {a b : World} (h : Only S a b) (hST : ∀ k, S k → T k) : Only T a b := ⟨h.os, h.tape, h.output, h.size, fun j hj hn => h.block j hj (fun e => hn (hST j e))⟩
/-- what is newer than all of a is a's growth -/
theorem Only.grown {S : Nat → Prop} {a b c : World} (h : Only S b c) (hg : a.grownBy b none) (hl : ∀ k, S k → a.heap.size ≤ k) : a.grownBy c none :=
  ⟨h.os.trans hg.os, h.tape.trans hg.tape, h.output.trans hg.output, Nat.le_trans hg.size h.size, fun j hj _ => (h.block j (Nat.lt_of_lt_of_le hj hg.size) (fun e => by have := hl j e; omega)).trans (hg.block j hj (by simp))⟩
/-- elements in a block, each with bytes of its own -/
structure ElAt (w : World) (t : TypeId) (m g : Nat) (L : List El) : Prop where
  row : ∃ cur : Array Value, w.heap[g]? = some (.cells cur t (0, 0)) ∧ ∀ (i : Nat) (x : El), L[i]? = some x → (∀ (j : Nat) (n : Int), x.hd[j]? = some n → cur[i * (m + 1) + j]? = some (.int .i64 n)) ∧ cur[i * (m + 1) + m]? = some (.slice (oad x.o) x.d.length x.cp)
  own : ∀ (i : Nat) (x : El), L[i]? = some x → x.hd.length = m ∧ OwnS w 5 (oad x.o) x.d.length x.d ∧ (x.o = none → x.cp = 0)
  far : ∀ (i j : Nat) (x y : El) (k : Nat), L[i]? = some x → L[j]? = some y → x.o = some k → y.o = some k → i = j
/-- .. or no elements, and no block -/
def ElO (w : World) (t : TypeId) (m : Nat) (oa : Option Addr) (cap : Nat) (L : List El) : Prop :=
  (oa = none ∧ cap = 0 ∧ L = []) ∨ ∃ g, oa = some ⟨g, 0, none⟩ ∧ ElAt w t m g L
/-- the blocks of elements -/
def ElB (oa : Option Addr) (L : List El) (k : Nat) : Prop := oa = some ⟨k, 0, none⟩ ∨ ∃ x ∈ L, x.o = some k
theorem ElAt.lt {w : World} {t : TypeId} {m g : Nat} {L : List El} (h : ElAt w t m g L) : g < w.heap.size := by
  obtain ⟨cur, hg, _⟩ := h.row
  exact (Array.getElem?_eq_some_iff.1 hg).1
theorem ownS_blk {w : World} {e : TypeId} {o : Option Nat} {n : Nat} {zs : List Nat} (h : OwnS w e (oad o) n zs) {k : Nat} (hk : o = some k) : Own w e k zs := by
  subst hk
  obtain ⟨_, ⟨h1, _⟩ | ⟨g, h1, hO⟩⟩ := h
  · cases h1
  · obtain rfl : k = g := by simpa [oad] using h1
    exact hO
theorem ElAt.ne {w : World} {t : TypeId} {m g : Nat} {L : List El} (h : ElAt w t m g L) (ht : t ≠ 5) {i : Nat} {x : El} (hx : L[i]? = some x) {k : Nat} (hk : x.o = some k) : k ≠ g := by
  obtain ⟨cur, hg, _⟩ := h.row
  intro e
  subst e
  exact ht (own_type (ownS_blk (h.own i x hx).2.1 hk) hg).symm
theorem ElAt.cell {w : World} {t : TypeId} {m g : Nat} {L : List El} (h : ElAt w t m g L) {i : Nat} {x : El} (hx : L[i]? = some x) {j : Nat} {n : Int} (hj : x.hd[j]? = some n) :
    w.cell? ⟨g, i * (m + 1) + j, none⟩ = some (.int .i64 n) := by
  obtain ⟨cur, hg, hc⟩ := h.row
  simp [World.cell?, hg, (hc i x hx).1 j n hj]
theorem ElAt.froz {w : World} {t : TypeId} {m g : Nat} {L : List El} (h : ElAt w t m g L) (j : Nat) : w.frozen? ⟨g, j, none⟩ = false := by
  obtain ⟨cur, hg, hc⟩ := h.row
  simp [World.frozen?, hg]
theorem ElAt.slice {w : World} {t : TypeId} {m g : Nat} {L : List El} (h : ElAt w t m g L) {i : Nat} {x : El} (hx : L[i]? = some x) :
    w.cell? ⟨g, i * (m + 1) + m, none⟩ = some (.slice (oad x.o) x.d.length x.cp) := by
  obtain ⟨cur, hg, hc⟩ := h.row
  simp [World.cell?, hg, (hc i x hx).2]
theorem el_set_get {L : List El} {k i : Nat} {x r : El} (hk : k < L.length) (h : (L.set k x)[i]? = some r) : (i = k ∧ r = x) ∨ (i ≠ k ∧ L[i]? = some r) := by
  by_cases e : i = k
  · subst e
    rw [List.getElem?_set_self hk] at h
    exact .inl ⟨rfl, (Option.some.inj h).symm⟩
  · rw [List.getElem?_set_ne (Ne.symm e)] at h
    exact .inr ⟨e, h⟩
theorem el_far {L : List El} {k : Nat} {x x' : El} (hx : L[k]? = some x) (ho : x'.o = x.o) (hf : ∀ (i j : Nat) (x y : El) (k : Nat), L[i]? = some x → L[j]? = some y → x.o = some k → y.o = some k → i = j) :
    ∀ (i j : Nat) (y z : El) (b : Nat), (L.set k x')[i]? = some y → (L.set k x')[j]? = some z → y.o = some b → z.o = some b → i = j := by
  have hk : k < L.length := (List.getElem?_eq_some_iff.1 hx).1
  intro i j y z b hi hj hy hz
  rcases el_set_get hk hi with ⟨rfl, rfl⟩ | ⟨hik, hi'⟩
  · rcases el_set_get hk hj with ⟨rfl, rfl⟩ | ⟨hjk, hj'⟩
    · rfl
    · exact hf i j x z b hx hj' (by rw [← ho]; exact hy) hz
  · rcases el_set_get hk hj with ⟨rfl, rfl⟩ | ⟨hjk, hj'⟩
    · exact hf i j y x b hi' hx hy (by rw [← ho]; exact hz)
    · exact hf i j y z b hi' hj' hy hz
theorem mul_apart {i k m a b : Nat} (hik : i ≠ k) (ha : a < m + 1) (hb : b < m + 1) : i * (m + 1) + a ≠ k * (m + 1) + b := by
  intro e
  have h1 : (i * (m + 1) + a) / (m + 1) = i := by rw [Nat.mul_comm, Nat.mul_add_div (by omega), Nat.div_eq_of_lt ha]; rfl
  have h2 : (k * (m + 1) + b) / (m + 1) = k := by rw [Nat.mul_comm, Nat.mul_add_div (by omega), Nat.div_eq_of_lt hb]; rfl
  rw [e, h2] at h1
  exact hik h1.symm
/-- a number of an element is written -/
theorem ElAt.setHd {w : World} {t : TypeId} {m g : Nat} {L : List El} (h : ElAt w t m g L) (ht : t ≠ 5) {k : Nat} {x : El} (hx : L[k]? = some x) (j : Nat) (hj : j < m) (v : Int) :
    ElAt (w.setCell ⟨g, k * (m + 1) + j, none⟩ (.int .i64 v)) t m g (L.set k { x with hd := x.hd.set j v }) := by
  have hk : k < L.length := (List.getElem?_eq_some_iff.1 hx).1
  have hne := fun {i : Nat} {s : El} (hs : L[i]? = some s) {b : Nat} (hb : s.o = some b) => h.ne ht hs hb
  obtain ⟨⟨cur, hg, hc⟩, hO, hf⟩ := h
  have hS : ∀ {i : Nat} {s : El}, L[i]? = some s → OwnS (w.setCell ⟨g, k * (m + 1) + j, none⟩ (.int .i64 v)) 5 (oad s.o) s.d.length s.d := fun {i s} hs =>
    (hO i s hs).2.1.grown (row := some g) (grownBy_setCell (grownBy_refl _ _)) (fun b hb e => by rw [blk_oad] at hb; exact hne hs hb (by simpa using e))
  refine ⟨⟨cur.setIfInBounds (k * (m + 1) + j) (.int .i64 v), heap_setCell_same w g (k * (m + 1) + j) cur _ _ hg, fun i s hs => ?_⟩, fun i s hs => ?_, el_far hx rfl hf⟩
  · rcases el_set_get hk hs with ⟨rfl, rfl⟩ | ⟨hik, hs'⟩
    · have h1 := hc i x hx
      have hl := (hO i x hx).1
      refine ⟨fun j' n hn => ?_, ?_⟩
      · by_cases e : j' = j
        · subst e
          have hb := (Array.getElem?_eq_some_iff.1 (h1.1 j' (x.hd[j']'(by omega)) (List.getElem?_eq_getElem (by omega)))).1
          rw [Array.getElem?_setIfInBounds, if_pos rfl, if_pos hb]
          simp only at hn
          rw [List.getElem?_set_self (by omega)] at hn
          rw [Option.some.inj hn]
        · simp only at hn
          rw [List.getElem?_set_ne (Ne.symm e)] at hn
          rw [Array.getElem?_setIfInBounds, if_neg (by omega)]
          exact h1.1 j' n hn
      · rw [Array.getElem?_setIfInBounds, if_neg (by omega)]
        exact h1.2
    · have h1 := hc i s hs'
      have hl := (hO i s hs').1
      refine ⟨fun j' n hn => ?_, ?_⟩
      · have hj' := (List.getElem?_eq_some_iff.1 hn).1
        rw [Array.getElem?_setIfInBounds, if_neg (mul_apart (Ne.symm hik) (by omega) (by omega))]
        exact h1.1 j' n hn
      · rw [Array.getElem?_setIfInBounds, if_neg (mul_apart (Ne.symm hik) (by omega) (by omega))]
        exact h1.2
  · rcases el_set_get hk hs with ⟨rfl, rfl⟩ | ⟨hik, hs'⟩
    · exact ⟨by simpa using (hO i x hx).1, hS (s := x) hx, (hO i x hx).2.2⟩
    · exact ⟨(hO i s hs').1, hS hs', (hO i s hs').2.2⟩
/-- an element's bytes are written -/
theorem ElAt.setD {w w' : World} {t : TypeId} {m g : Nat} {L : List El} (h : ElAt w t m g L) (ht : t ≠ 5) {k : Nat} {x : El} (hx : L[k]? = some x) {d : List Nat} (hl : d.length = x.d.length) (hO' : OwnS w' 5 (oad x.o) x.d.length d) (hgr : w.grownBy w' x.o) : ElAt w' t m g (L.set k { x with d := d }) := by
  have hk : k < L.length := (List.getElem?_eq_some_iff.1 hx).1
  have hgl := h.lt
  have hne : some g ≠ x.o := fun e => h.ne ht hx e.symm rfl
  obtain ⟨⟨cur, hg, hc⟩, hO, hf⟩ := h
  refine ⟨⟨cur, (hgr.block g hgl hne).trans hg, fun i s hs => ?_⟩, fun i s hs => ?_, el_far hx rfl hf⟩
  · rcases el_set_get hk hs with ⟨rfl, rfl⟩ | ⟨hik, hs'⟩
    · have h1 := hc i x hx
      exact ⟨h1.1, by simp only [hl]; exact h1.2⟩
    · exact hc i s hs'
  · rcases el_set_get hk hs with ⟨rfl, rfl⟩ | ⟨hik, hs'⟩
    · exact ⟨(hO i x hx).1, by simp only [hl]; exact hO', (hO i x hx).2.2⟩
    · refine ⟨(hO i s hs').1, (hO i s hs').2.1.grown hgr (fun b hb e => ?_), (hO i s hs').2.2⟩
      rw [blk_oad] at hb
      exact hik (hf i k s x b hs' hx hb e.symm)
/-- kept where its blocks are -/
theorem ElAt.kept {w w' : World} {t : TypeId} {m g : Nat} {L : List El} (h : ElAt w t m g L) (hk : ∀ k, k < w.heap.size → (k = g ∨ ∃ x ∈ L, x.o = some k) → w'.heap[k]? = w.heap[k]?) : ElAt w' t m g L := by
  have hgl := h.lt
  obtain ⟨⟨cur, hg, hc⟩, hO, hf⟩ := h
  refine ⟨⟨cur, (hk g hgl (.inl rfl)).trans hg, hc⟩, fun i x hx => ⟨(hO i x hx).1, ?_, (hO i x hx).2.2⟩, hf⟩
  obtain ⟨h1, h2⟩ := (hO i x hx).2.1
  refine ⟨h1, ?_⟩
  rcases h2 with h2 | ⟨b, hb, hOb⟩
  · exact .inl h2
  · refine .inr ⟨b, hb, hOb.of_block (hk b hOb.lt (.inr ⟨x, List.mem_of_getElem? hx, ?_⟩))⟩
    cases ho : x.o with
    | none => rw [ho] at hb; cases hb
    | some c => rw [ho] at hb; simpa [oad] using hb
/-- kept where others are turned -/
theorem ElO.apart {w w' : World} {S : Nat → Prop} {t : TypeId} {m cap : Nat} {oa : Option Addr} {L : List El} (h : ElO w t m oa cap L) (hb : Only S w w') (hd : ∀ k, ElB oa L k → ¬ S k) : ElO w' t m oa cap L := by
  rcases h with h | ⟨g, rfl, h2⟩
  · exact .inl h
  · refine .inr ⟨g, rfl, h2.kept (fun k hk hkk => hb.block k hk (hd k ?_))⟩
    rcases hkk with rfl | h
    · exact .inl rfl
    · exact .inr h
theorem ElO.grown0 {w w' : World} {t : TypeId} {m cap : Nat} {oa : Option Addr} {L : List El} (h : ElO w t m oa cap L) (hg : w.grownBy w' none) : ElO w' t m oa cap L :=
  h.apart (S := fun _ => False) (Only.of hg (by simp)) (by simp)
theorem ElO.lt {w : World} {t : TypeId} {m cap : Nat} {oa : Option Addr} {L : List El} (h : ElO w t m oa cap L) : ∀ k, ElB oa L k → k < w.heap.size := by
  intro k hk
  rcases h with ⟨rfl, _, rfl⟩ | ⟨g, rfl, hA⟩
  · rcases hk with h | ⟨x, hx, _⟩
    · cases h
    · simp at hx
  · rcases hk with h | ⟨x, hx, ho⟩
    · obtain rfl : g = k := by simpa using h
      exact hA.lt
    · obtain ⟨i, hi⟩ := List.getElem?_of_mem hx
      exact (ownS_blk (hA.own i x hi).2.1 ho).lt
/-- two lots of different types, with no bytes in common, are apart -/
theorem ElO.two {w : World} {t t' : TypeId} {m m' cap cap' : Nat} {oa ob : Option Addr} {L R : List El} (h : ElO w t m oa cap L) (h' : ElO w t' m' ob cap' R) (htt : t ≠ t') (ht : t ≠ 5) (ht' : t' ≠ 5)
    (hf : ∀ x ∈ L, ∀ y ∈ R, ∀ j, x.o = some j → y.o ≠ some j) : ∀ k, ElB oa L k → ¬ ElB ob R k := by
  intro k hk hk'
  rcases h with ⟨rfl, _, rfl⟩ | ⟨g, rfl, hA⟩
  · rcases hk with h | ⟨x, hx, _⟩
    · cases h
    · simp at hx
  rcases h' with ⟨rfl, _, rfl⟩ | ⟨g', rfl, hA'⟩
  · rcases hk' with h | ⟨x, hx, _⟩
    · cases h
    · simp at hx
  obtain ⟨cur, hc, _⟩ := hA.row
  obtain ⟨cur', hc', _⟩ := hA'.row
  rcases hk with h | ⟨x, hx, ho⟩
  · obtain rfl : g = k := by simpa using h
    rcases hk' with h | ⟨y, hy, hyo⟩
    · obtain rfl : g' = g := by simpa using h
      rw [hc] at hc'
      simp only [Option.some.injEq, Obj.cells.injEq] at hc'
      exact htt hc'.2.1
    · obtain ⟨i, hi⟩ := List.getElem?_of_mem hy
      exact ht (own_type (ownS_blk (hA'.own i y hi).2.1 hyo) hc).symm
  · obtain ⟨i, hi⟩ := List.getElem?_of_mem hx
    rcases hk' with h | ⟨y, hy, hyo⟩
    · obtain rfl : g' = k := by simpa using h
      exact ht' (own_type (ownS_blk (hA.own i x hi).2.1 ho) hc').symm
    · exact hf x hx y hy k ho hyo
/-- the mark at which element k begins -/
def eAt (c : Nat) (L : List El) (m : Nat) : Nat → Nat
  | 0 => m
  | k + 1 => eAt c L m k + c + (L[k]?.map (fun x => x.d.length)).getD 0
def mkE (c : Nat) (x : El) (m : Nat) : El := { x with hd := (List.range c).map (fun j => ((m + j : Nat) : Int)), d := marked x.d (m + c) x.d.length }
def stE (c : Nat) (L : List El) (m : Nat) : Nat → List El
  | 0 => L
  | k + 1 => match L[k]? with
    | some x => (stE c L m k).set k (mkE c x (eAt c L m k))
    | none => stE c L m k
theorem stE_len (c : Nat) (L : List El) (m k : Nat) : (stE c L m k).length = L.length := by
  induction k with
  | zero => rfl
  | succ k ih =>
    unfold stE
    split
    · simp [ih]
    · exact ih
theorem stE_get (c : Nat) (L : List El) (m k i : Nat) : (stE c L m k)[i]? = if i < k then L[i]?.map (fun r => mkE c r (eAt c L m i)) else L[i]? := by
  induction k with
  | zero => simp [stE]
  | succ k ih =>
    unfold stE
    cases hr : L[k]? with
    | none =>
      simp only
      rw [ih]
      by_cases h : i < k
      · rw [if_pos h, if_pos (by omega)]
      · rw [if_neg h]
        by_cases e : i = k
        · subst e; simp [hr]
        · rw [if_neg (by omega)]
    | some r =>
      simp only
      have hk : k < L.length := (List.getElem?_eq_some_iff.1 hr).1
      by_cases e : i = k
      · subst e
        rw [List.getElem?_set_self (by rw [stE_len]; exact hk), if_pos (by omega), hr]
        rfl
      · rw [List.getElem?_set_ne (Ne.symm e), ih]
        by_cases h : i < k
        · rw [if_pos h, if_pos (by omega)]
        · rw [if_neg h, if_neg (by omega)]
theorem stE_succ (c : Nat) (L : List El) (m k : Nat) (x : El) (hx : L[k]? = some x) : stE c L m (k + 1) = (stE c L m k).set k (mkE c x (eAt c L m k)) := by
  conv => lhs; unfold stE
  rw [hx]
theorem eAt_le (c : Nat) (L : List El) (m k B : Nat) (hB : ∀ x ∈ L, x.d.length ≤ B) : eAt c L m k ≤ m + k * (c + B) := by
  induction k with
  | zero => simp [eAt]
  | succ k ih =>
    have : (L[k]?.map (fun x => x.d.length)).getD 0 ≤ B := by
      cases hr : L[k]? with
      | none => simp
      | some r => simpa using hB r (List.mem_of_getElem? hr)
    simp only [eAt, Nat.add_mul, Nat.one_mul]
    omega
theorem stE_o (c : Nat) (L : List El) (m k : Nat) : ∀ x ∈ stE c L m k, ∃ y ∈ L, x.o = y.o := by
  intro x hx
  obtain ⟨i, hi⟩ := List.getElem?_of_mem hx
  rw [stE_get] at hi
  split at hi
  · cases hL : L[i]? with
    | none => rw [hL] at hi; cases hi
    | some y =>
      rw [hL] at hi
      simp only [Option.map_some, Option.some.injEq] at hi
      exact ⟨y, List.mem_of_getElem? hL, by rw [← hi]; rfl⟩
  · exact ⟨x, List.mem_of_getElem? hi, rfl⟩
theorem filterMap_inj (L : List Se) : (L.filterMap Se.o).Nodup → ∀ (i j : Nat) (a b : Se) (k : Nat), L[i]? = some a → L[j]? = some b → a.o = some k → b.o = some k → i = j := by
  induction L with
  | nil => intro _ i j a b k hi; simp at hi
  | cons x L ih =>
    intro hn i j a b k hi hj ha hb
    have hmem : ∀ (j : Nat) (b : Se), L[j]? = some b → b.o = some k → k ∈ L.filterMap Se.o := fun j b hj hb => List.mem_filterMap.2 ⟨b, List.mem_of_getElem? hj, hb⟩
    cases hx : x.o with
    | none =>
      rw [List.filterMap_cons_none hx] at hn
      cases i with
      | zero => simp at hi; subst hi; rw [hx] at ha; cases ha
      | succ i =>
        cases j with
        | zero => simp at hj; subst hj; rw [hx] at hb; cases hb
        | succ j => rw [ih hn i j a b k (by simpa using hi) (by simpa using hj) ha hb]
    | some c =>
      rw [List.filterMap_cons_some hx, List.nodup_cons] at hn
      cases i with
      | zero =>
        simp at hi; subst hi
        cases j with
        | zero => rfl
        | succ j =>
          rw [hx] at ha
          obtain rfl : c = k := by simpa using ha
          exact absurd (hmem j b (by simpa using hj) hb) hn.1
      | succ i =>
        cases j with
        | zero =>
          simp at hj; subst hj
          rw [hx] at hb
          obtain rfl : c = k := by simpa using hb
          exact absurd (hmem i a (by simpa using hi) ha) hn.1
        | succ j => rw [ih hn.2 i j a b k (by simpa using hi) (by simpa using hj) ha hb]
/-- sessions as elements -/
def Se.el (x : Se) : El := ⟨[(x.c : Int), (x.q : Int), (x.i : Int)], x.d, x.o, x.cp⟩
theorem stE_B (c : Nat) (oa : Option Addr) (L : List El) (m n k : Nat) (h : ElB oa (stE c L m n) k) : ElB oa L k := by
  rcases h with h | ⟨x, hx, ho⟩
  · exact .inl h
  · obtain ⟨y, hy, e⟩ := stE_o c L m n x hx
    exact .inr ⟨y, hy, by rw [← e]; exact ho⟩
theorem SesRow.el {w : World} {base : Nat} {v : Value} {L : List Se} (h : SesRow w base v L) : ∃ oa cap, v = .slice oa L.length cap ∧ ElO w 74 3 oa cap (L.map Se.el) ∧ ∀ k, ElB oa (L.map Se.el) k → base ≤ k := by
  rcases h.form with ⟨rfl, rfl⟩ | ⟨g, cap, cur, rfl, hb, hc, hm, hg, hcur⟩
  · refine ⟨none, 0, rfl, .inl ⟨rfl, rfl, rfl⟩, fun k hk => ?_⟩
    rcases hk with h | ⟨x, hx, _⟩
    · cases h
    · simp at hx
  · refine ⟨some ⟨g, 0, none⟩, cap, rfl, .inr ⟨g, rfl, ⟨⟨cur, hg, fun i x hx => ?_⟩, fun i x hx => ?_, fun i j x y k hi hj hx hy => ?_⟩⟩, fun k hk => ?_⟩
    · rw [List.getElem?_map] at hx
      obtain ⟨y, hy, rfl⟩ := Option.map_eq_some_iff.1 hx
      obtain ⟨h0, h1, h2, h3⟩ := hcur i y hy
      refine ⟨fun j n hn => ?_, by rw [show i * (3 + 1) + 3 = 4 * i + 3 by omega]; exact h3⟩
      have hj := (List.getElem?_eq_some_iff.1 hn).1
      simp only [Se.el, List.length_cons, List.length_nil] at hj hn
      rcases (show j = 0 ∨ j = 1 ∨ j = 2 by omega) with rfl | rfl | rfl
      · rw [show i * (3 + 1) + 0 = 4 * i by omega]; simp at hn; rw [← hn]; exact h0
      · rw [show i * (3 + 1) + 1 = 4 * i + 1 by omega]; simp at hn; rw [← hn]; exact h1
      · rw [show i * (3 + 1) + 2 = 4 * i + 2 by omega]; simp at hn; rw [← hn]; exact h2
    · rw [List.getElem?_map] at hx
      obtain ⟨y, hy, rfl⟩ := Option.map_eq_some_iff.1 hx
      have := h.2.1 y (List.mem_of_getElem? hy)
      exact ⟨rfl, this.1, this.2.1⟩
    · rw [List.getElem?_map] at hi hj
      obtain ⟨a, ha, rfl⟩ := Option.map_eq_some_iff.1 hi
      obtain ⟨b, hb', rfl⟩ := Option.map_eq_some_iff.1 hj
      exact filterMap_inj L h.2.2 i j a b k ha hb' hx hy
    · rcases hk with h' | ⟨x, hx, ho⟩
      · obtain rfl : g = k := by simpa using h'
        exact hb
      · obtain ⟨y, hy, rfl⟩ := List.mem_map.1 hx
        exact (h.2.1 y hy).2.2 k ho
end Go.Proofs.YtdajcpcajdhplaaDoor

/-
  Nested data: numbers, truths, bytes, rows of such; how it lies, what it tells; data that came in, opened.
-/
import Derived.Test.YtkjjglnbbahbkaaDoorBase
import Derived.Test.YtkjjglnbbahbkaaDoorOpenB
namespace Go.Proofs.YtkjjglnbbahbkaaDoor
open Go.ChangeShapes Go.WideShapes Go.ChangeAt Go.RowKit

inductive Tr where
  | int (n : Int)
  | bool (b : Bool)
  | byt (d : List Nat) (a : Option Addr) (cp : Nat)
  | row (m : Nat) (a : Option Addr) (cp : Nat) (L : List (List Tr))
def Tr.cell : Tr → Value
  | .int n => .int .i64 n
  | .bool b => .bool b
  | .byt d a cp => .slice a d.length cp
  | .row _ a cp L => .slice a L.length cp
/-- .. without its places -/
inductive Td where
  | int (n : Int)
  | bool (b : Bool)
  | byt (d : List Nat)
  | row (L : List (List Td))
mutual
def Tr.tell : Tr → Td
  | .int n => .int n
  | .bool b => .bool b
  | .byt d _ _ => .byt d
  | .row _ _ _ L => .row (tellRows L)
def tellRows : List (List Tr) → List (List Td)
  | [] => []
  | e :: L => tellEl e :: tellRows L
def tellEl : List Tr → List Td
  | [] => []
  | y :: e => y.tell :: tellEl e
end
theorem tellEl_map (e : List Tr) : tellEl e = e.map Tr.tell := by
  induction e with
  | nil => rfl
  | cons y e ih => simp [tellEl, ih]
theorem tellRows_map (L : List (List Tr)) : tellRows L = L.map (fun e => e.map Tr.tell) := by
  induction L with
  | nil => rfl
  | cons e L ih => simp [tellRows, tellEl_map, ih]
/-- a number of 64 bits -/
def I64 (n : Int) : Prop := -9223372036854775808 ≤ n ∧ n ≤ 9223372036854775807
/-- it lies there, and can be read -/
inductive Rd (w : World) : Tr → Prop
  | int {n : Int} (h : I64 n) : Rd w (.int n)
  | bool (b : Bool) : Rd w (.bool b)
  | byt {d : List Nat} {a : Option Addr} {cp : Nat} (hb : d.length ≤ maxLen) (h : SlB w a d.length d) : Rd w (.byt d a cp)
  | row {m : Nat} {a : Option Addr} {cp : Nat} {L : List (List Tr)} (hb : L.length ≤ maxLen) (hl : ∀ (i : Nat) (e : List Tr), L[i]? = some e → e.length = m)
      (hc : ∀ (i j : Nat) (e : List Tr) (y : Tr), L[i]? = some e → e[j]? = some y → ∃ b off, a = some ⟨b, off, none⟩ ∧ w.cell? ⟨b, off + i * m + j, none⟩ = some y.cell)
      (hr : ∀ (i j : Nat) (e : List Tr) (y : Tr), L[i]? = some e → e[j]? = some y → Rd w y) : Rd w (.row m a cp L)
theorem Rd.grown0 {w w' : World} {x : Tr} (h : Rd w x) (hg : w.grownBy w' none) : Rd w' x := by
  obtain ⟨hcell, -⟩ := bcell hg
  induction h with
  | int h => exact .int h
  | bool b => exact .bool b
  | byt hb h => exact .byt hb (h.grown0 hg)
  | row hb hl hc _ ih =>
    refine .row hb hl (fun i j e y hi hj => ?_) ih
    obtain ⟨b, off, ha, h⟩ := hc i j e y hi hj
    exact ⟨b, off, ha, (hcell _ _ (cell_block_lt h)).trans h⟩
/-- a block of it -/
inductive InB : Tr → Nat → Prop
  | byt {d : List Nat} {a : Addr} {cp : Nat} : InB (.byt d (some a) cp) a.block
  | here {m : Nat} {a : Addr} {cp : Nat} {L : List (List Tr)} : InB (.row m (some a) cp L) a.block
  | sub {m : Nat} {a : Option Addr} {cp : Nat} {L : List (List Tr)} {i j k : Nat} {e : List Tr} {y : Tr} (hi : L[i]? = some e) (hj : e[j]? = some y) (h : InB y k) : InB (.row m a cp L) k
theorem SlB.keep {w w' : World} {a : Option Addr} {len : Nat} {zs : List Nat} (h : SlB w a len zs) (hk : ∀ b off, a = some ⟨b, off, none⟩ → w'.heap[b]? = w.heap[b]?) : SlB w' a len zs := by
  obtain ⟨h1, h2, h3⟩ := h
  refine ⟨h1, h2, fun hn => ?_⟩
  obtain ⟨b, off, ha, hc⟩ := h3 hn
  exact ⟨b, off, ha, fun i hi => (World.cell?_of_block (hk b off ha)).trans (hc i hi)⟩
theorem Rd.keep {w w' : World} {x : Tr} (h : Rd w x) (hk : ∀ k, InB x k → w'.heap[k]? = w.heap[k]?) : Rd w' x := by
  induction h with
  | int h => exact .int h
  | bool b => exact .bool b
  | byt hb h => exact .byt hb (h.keep (fun b off ha => by subst ha; exact hk b .byt))
  | row hb hl hc _ ih =>
    refine .row hb hl (fun i j e y hi hj => ?_) (fun i j e y hi hj => ih i j e y hi hj (fun k hkk => hk k (.sub hi hj hkk)))
    obtain ⟨b, off, ha, h⟩ := hc i j e y hi hj
    refine ⟨b, off, ha, (World.cell?_of_block ?_).trans h⟩
    subst ha
    exact hk b .here
/-- a shape: what an element of a type is made of -/
inductive Ki where
  | int
  | bool
  | byt
  | row (ks : List Ki)
def Ki.leaf : Ki → Bool
  | .int => true
  | .bool => true
  | _ => false
inductive Fits : Tr → Ki → Prop
  | int (n : Int) : Fits (.int n) .int
  | bool (b : Bool) : Fits (.bool b) .bool
  | byt (d : List Nat) (a : Option Addr) (cp : Nat) : Fits (.byt d a cp) .byt
  | row {a : Option Addr} {cp : Nat} {L : List (List Tr)} {ks : List Ki} (hl : ∀ (i : Nat) (e : List Tr), L[i]? = some e → e.length = ks.length)
      (hf : ∀ (i j : Nat) (e : List Tr) (y : Tr) (k : Ki), L[i]? = some e → e[j]? = some y → ks[j]? = some k → Fits y k) : Fits (.row ks.length a cp L) (.row ks)
def FitsL (es : List Tr) (ks : List Ki) : Prop := es.length = ks.length ∧ ∀ (j : Nat) (y : Tr) (k : Ki), es[j]? = some y → ks[j]? = some k → Fits y k
/-- .. as the program's types have it -/
inductive Flat (P : Program) : TypeId → List Ki → Prop
  | int {t : TypeId} (h : P.underlying t = some (.int .i64)) : Flat P t [.int]
  | bool {t : TypeId} (h : P.underlying t = some .bool) : Flat P t [.bool]
  | byt {t e : TypeId} (h : P.underlying t = some (.slice e)) (he : P.underlying e = some (.int .u8)) (hc : P.cellsOf e = 1) : Flat P t [.byt]
  | row {t e : TypeId} {ks : List Ki} (h : P.underlying t = some (.slice e)) (hc : P.cellsOf e = ks.length) (h0 : 0 < ks.length) (hf : Flat P e ks) : Flat P t [.row ks]
  | struct {t : TypeId} {fs : Array Field} {kk : List (List Ki)} (h : P.underlying t = some (.struct fs)) (hn : fs.size = kk.length) (hc : P.cellsOf t = kk.flatten.length)
      (ho : ∀ (i : Nat) (f : Field) (ks : List Ki), fs[i]? = some f → kk[i]? = some ks → f.offset = (kk.take i).flatten.length ∧ P.cellsOf f.type = ks.length)
      (hf : ∀ (i : Nat) (f : Field) (ks : List Ki), fs[i]? = some f → kk[i]? = some ks → Flat P f.type ks) : Flat P t kk.flatten
theorem exists_list {α : Type} (Q : Nat → α → Prop) (n : Nat) (h : ∀ i, i < n → ∃ x, Q i x) : ∃ L : List α, L.length = n ∧ ∀ (i : Nat) (x : α), L[i]? = some x → Q i x := by
  induction n with
  | zero => exact ⟨[], rfl, fun i x hx => by simp at hx⟩
  | succ n ih =>
    obtain ⟨L, hl, hL⟩ := ih (fun i hi => h i (by omega))
    obtain ⟨x, hx⟩ := h n (by omega)
    refine ⟨L ++ [x], by simp [hl], fun i y hy => ?_⟩
    rcases Nat.lt_or_ge i L.length with hi | hi
    · rw [List.getElem?_append_left hi] at hy; exact hL i y hy
    · rw [List.getElem?_append_right hi] at hy
      have : i - L.length < 1 := by have := (List.getElem?_eq_some_iff.1 hy).1; simpa using this
      have e : i - L.length = 0 := by omega
      rw [e] at hy
      obtain rfl : x = y := by simpa using hy
      obtain rfl : i = n := by omega
      exact hx
theorem flatten_get {α : Type} (kk : List (List α)) : ∀ (i : Nat) (ks : List α) (j : Nat), kk[i]? = some ks → j < ks.length → kk.flatten[(kk.take i).flatten.length + j]? = ks[j]? := by
  induction kk with
  | nil => intro i ks j h; simp at h
  | cons k kk ih =>
    intro i ks j h hj
    cases i with
    | zero =>
      simp at h
      subst h
      simp only [List.take_zero, List.flatten_nil, List.length_nil, Nat.zero_add, List.flatten_cons]
      rw [List.getElem?_append_left hj]
    | succ i =>
      have h1 := ih i ks j (by simpa using h) hj
      rw [List.flatten_cons, List.take_succ_cons, List.flatten_cons, List.length_append, Nat.add_assoc, List.getElem?_append_right (by omega), show k.length + ((kk.take i).flatten.length + j) - k.length = (kk.take i).flatten.length + j by omega]
      exact h1
theorem flatten_at {α : Type} (kk : List (List α)) : ∀ (p : Nat) (x : α), kk.flatten[p]? = some x → ∃ (i : Nat) (ks : List α) (j : Nat), kk[i]? = some ks ∧ ks[j]? = some x ∧ p = (kk.take i).flatten.length + j := by
  induction kk with
  | nil => intro p x h; simp at h
  | cons k kk ih =>
    intro p x h
    rw [List.flatten_cons] at h
    rcases Nat.lt_or_ge p k.length with hp | hp
    · rw [List.getElem?_append_left hp] at h
      exact ⟨0, k, p, rfl, h, by simp⟩
    · rw [List.getElem?_append_right hp] at h
      obtain ⟨i, ks, j, h1, h2, h3⟩ := ih _ x h
      exact ⟨i + 1, ks, j, by simpa using h1, h2, by simp only [List.take_succ_cons, List.flatten_cons, List.length_append]; omega⟩
theorem add_noneT (b off i : Nat) : (⟨b, off, none⟩ : Addr).add i = ⟨b, off + i, none⟩ := by
  by_cases h0 : i = 0 <;> simp [Addr.add, h0]
/-- what came in, opened: whatever its type, so that it is of numbers, truths, bytes and rows -/
theorem open_flat {H : Type} {enc : TypeId × Value → H} {P : Program} {W : World} {t : TypeId} {ks : List Ki} (hF : Flat P t ks) : ∀ (fuel : Nat) (cs : List Value) (x : DataW H × List MemPlace), DataW.trod enc P W 0 (fun _ => true) true fuel t cs = some x → ∃ es : List Tr, es.map Tr.cell = cs ∧ FitsL es ks ∧ ∀ y ∈ es, Rd W y := by
  induction hF with
  | int h =>
    intro fuel cs x hx
    obtain ⟨n, rfl, -, hwf⟩ := DataW.trod_int h hx
    have hI : I64 n := by
      simp only [Lit.wf, Bool.and_eq_true, decide_eq_true_eq] at hwf
      exact hwf
    refine ⟨[.int n], rfl, ⟨rfl, fun j y k hj hk => ?_⟩, by simp; exact .int hI⟩
    cases j with
    | zero => simp at hj hk; subst hj hk; exact .int n
    | succ j => simp at hj
  | bool h =>
    intro fuel cs x hx
    obtain ⟨b, rfl, -⟩ := DataW.trod_bool h hx
    refine ⟨[.bool b], rfl, ⟨rfl, fun j y k hj hk => ?_⟩, by simp; exact .bool b⟩
    cases j with
    | zero => simp at hj hk; subst hj hk; exact .bool b
    | succ j => simp at hj
  | byt h he hc =>
    intro fuel cs x hx
    obtain ⟨a, len, cap, rfl⟩ : ∃ a len cap, cs = [.slice a len cap] := by
      rcases DataW.trod_slice h hx with ⟨h0, _⟩ | ⟨a, l, c, _, _, _, _, h0, _⟩
      · exact ⟨none, 0, 0, h0⟩
      · exact ⟨some a, l, c, h0⟩
    obtain ⟨zs, hs, hsm⟩ := slb_open (a := a) (len := len) (cap := cap) h he hc (d := x.1) (p := x.2) ⟨fuel, by simpa [Value.cells] using hx⟩
    have hzl := hs.1
    refine ⟨[.byt zs a cap], by simp [Tr.cell, hzl], ⟨rfl, fun j y k hj hk => ?_⟩, by simp; exact .byt (by rw [hzl]; exact hsm) (by rw [hzl]; exact hs)⟩
    cases j with
    | zero => simp at hj hk; subst hj hk; exact .byt _ _ _
    | succ j => simp at hj
  | @row t e ks h hc h0 hf ih =>
    intro fuel cs x hx
    have fin : ∀ (a : Option Addr) (cp : Nat) (L : List (List Tr)), L.length ≤ maxLen → (∀ (i : Nat) (el : List Tr), L[i]? = some el → FitsL el ks ∧ (∀ y ∈ el, Rd W y) ∧ ∀ (j : Nat) (y : Tr), el[j]? = some y → ∃ b off, a = some ⟨b, off, none⟩ ∧ W.cell? ⟨b, off + i * ks.length + j, none⟩ = some y.cell) → FitsL [.row ks.length a cp L] [.row ks] ∧ ∀ y ∈ [Tr.row ks.length a cp L], Rd W y := fun a cp L hmx hL => by
      refine ⟨⟨rfl, fun j y k hj hk => ?_⟩, fun y hy => ?_⟩
      · cases j with
        | zero =>
          simp at hj hk
          subst hj hk
          exact .row (fun i el hi => (hL i el hi).1.1) (fun i j el y k hi hj hk => (hL i el hi).1.2 j y k hj hk)
        | succ j => simp at hj
      · obtain rfl : y = _ := by simpa using hy
        exact .row hmx (fun i el hi => (hL i el hi).1.1) (fun i j el y hi hj => (hL i el hi).2.2 j y hj) (fun i j el y hi hj => (hL i el hi).2.1 y (List.mem_of_getElem? hj))
    rcases DataW.trod_slice h hx with ⟨h1, _⟩ | ⟨a, len, cap, elems, rest, n, _, hcs, -, _, hl, hm, hlen, hel, _, _⟩
    · subst h1
      exact ⟨[.row ks.length none 0 []], rfl, fin none 0 [] (Nat.zero_le _) (fun i el hi => by simp at hi)⟩
    · subst hcs
      have hsp0 : 0 < len → a.spot = none := fun h9 => by
        have h1 := hel 0 h9
        rw [List.getElem?_eq_getElem (by omega), Option.bind_eq_some_iff] at h1
        obtain ⟨cs', hcs', -⟩ := h1
        rw [hc] at hcs'
        obtain ⟨_, hcl, hcell⟩ := World.cells?_some hcs'
        have h2 := hcell 0 h0
        rw [List.getElem?_eq_getElem (by omega)] at h2
        have h3 := World.cell?_spot h2
        simpa [Addr.add] using h3
      have each : ∀ i, i < len → ∃ el : List Tr, FitsL el ks ∧ (∀ y ∈ el, Rd W y) ∧ ∀ (j : Nat) (y : Tr), el[j]? = some y → ∃ b off, some a = some (⟨b, off, none⟩ : Addr) ∧ W.cell? ⟨b, off + i * ks.length + j, none⟩ = some y.cell := fun i hi => by
        have h1 := hel i hi
        rw [List.getElem?_eq_getElem (by omega), Option.bind_eq_some_iff] at h1
        obtain ⟨cs', hcs', ht'⟩ := h1
        obtain ⟨el, hmap, hfit, hrd⟩ := ih n cs' _ ht'
        rw [hc] at hcs'
        obtain ⟨_, hcl, hcell⟩ := World.cells?_some hcs'
        have hell : el.length = ks.length := hfit.1
        have hcj : ∀ (j : Nat) (y : Tr), el[j]? = some y → W.cell? ((a.add (i * ks.length)).add j) = some y.cell := fun j y hj => by
          have hjl := (List.getElem?_eq_some_iff.1 hj).1
          have h2 := hcell j (by omega)
          rw [← hmap, List.getElem?_map, hj] at h2
          exact h2
        have hspot := hsp0 (by omega)
        obtain ⟨ab, ao, asp⟩ := a
        simp only at hspot
        subst hspot
        refine ⟨el, hfit, hrd, fun j y hj => ⟨ab, ao, rfl, ?_⟩⟩
        have h4 := hcj j y hj
        rw [add_noneT, add_noneT] at h4
        exact h4
      obtain ⟨L, hLl, hL⟩ := exists_list _ len each
      exact ⟨[.row ks.length (some a) cap L], by simp [Tr.cell, hLl], fin (some a) cap L (by omega) hL⟩
  | @struct t fs kk h hn hc ho hf ih =>
    intro fuel cs x hx
    obtain ⟨xs, n, rfl, -, hl, hlen, hfield⟩ := DataW.trod_struct h hx
    rw [hc] at hl
    have each : ∀ i, i < kk.length → ∃ el : List Tr, ∃ ks f, kk[i]? = some ks ∧ fs[i]? = some f ∧ el.map Tr.cell = (cs.drop f.offset).take ks.length ∧ FitsL el ks ∧ ∀ y ∈ el, Rd W y := fun i hi => by
      have hk := List.getElem?_eq_getElem hi
      have hfi : fs[i]? = some (fs[i]'(by omega)) := Array.getElem?_eq_getElem (by omega)
      have h1 := hfield i _ hfi
      rw [List.getElem?_eq_getElem (l := xs) (i := i) (by omega), (ho i _ _ hfi hk).2] at h1
      obtain ⟨el, h2, h3, h4⟩ := ih i _ _ hfi hk n _ _ h1
      exact ⟨el, _, _, hk, hfi, h2, h3, h4⟩
    obtain ⟨E, hEl, hE⟩ := exists_list _ kk.length each
    have hlens : ∀ (i : Nat) (el : List Tr) (ks : List Ki), E[i]? = some el → kk[i]? = some ks → el.length = ks.length := fun i el ks he hk => by
      obtain ⟨ks', f, hk', _, _, hfit, _⟩ := hE i el he
      rw [hk] at hk'
      obtain rfl := Option.some.inj hk'
      exact hfit.1
    have hpre : ∀ i, (E.take i).flatten.length = (kk.take i).flatten.length := fun i => by
      have e : (E.map List.length) = kk.map List.length := by
        refine List.ext_getElem? fun j => ?_
        rw [List.getElem?_map, List.getElem?_map]
        rcases Nat.lt_or_ge j kk.length with hj | hj
        · have h1 := List.getElem?_eq_getElem hj
          have h2 := List.getElem?_eq_getElem (l := E) (i := j) (by omega)
          rw [h1, h2]
          simp only [Option.map_some]
          rw [hlens j _ _ h2 h1]
        · rw [List.getElem?_eq_none (by omega), List.getElem?_eq_none hj]
          rfl
      rw [List.length_flatten, List.length_flatten, List.map_take, List.map_take, e]
    have hall : E.flatten.length = kk.flatten.length := by
      have h1 := hpre kk.length
      rwa [List.take_of_length_le (by omega), List.take_length] at h1
    refine ⟨E.flatten, ?_, ⟨hall, fun p y k hp hk => ?_⟩, fun y hy => ?_⟩
    · refine List.ext_getElem? fun p => ?_
      rw [List.getElem?_map]
      cases hp : E.flatten[p]? with
      | none =>
        have : E.flatten.length ≤ p := List.getElem?_eq_none_iff.1 hp
        rw [List.getElem?_eq_none (by omega)]
        rfl
      | some y =>
        obtain ⟨i, el, j, h1, h2, rfl⟩ := flatten_at E p y hp
        obtain ⟨ks, f, hk, hfi, hmap, hfit, _⟩ := hE i el h1
        have h3 : (el.map Tr.cell)[j]? = some y.cell := by rw [List.getElem?_map, h2]; rfl
        have hjl := (List.getElem?_eq_some_iff.1 h2).1
        rw [hmap, List.getElem?_take, if_pos (by rw [← hfit.1]; exact hjl), List.getElem?_drop, (ho i f ks hfi hk).1] at h3
        rw [hpre i, h3]
        rfl
    · obtain ⟨i, el, j, h1, h2, rfl⟩ := flatten_at E p y hp
      obtain ⟨ks, f, hk', hfi, hmap, hfit, _⟩ := hE i el h1
      have hjl := (List.getElem?_eq_some_iff.1 h2).1
      rw [hpre i, flatten_get kk i ks j hk' (by rw [← hfit.1]; exact hjl)] at hk
      exact hfit.2 j y k h2 hk
    · obtain ⟨el, hel, hy'⟩ := List.mem_flatten.1 hy
      obtain ⟨i, hi⟩ := List.getElem?_of_mem hel
      obtain ⟨_, _, _, _, _, _, hrd⟩ := hE i el hi
      exact hrd y hy'
end Go.Proofs.YtkjjglnbbahbkaaDoor

/-
  Nested data that was made new: its blocks lie from lo on, each row apart from its elements' (they lie behind it), all may be written.
-/
import Derived.Test.YtkjjglnbbahbkaaDoorTot
import Derived.Test.YtkjjglnbbahbkaaDoorTreeL
namespace Go.Proofs.YtkjjglnbbahbkaaDoor
open Go.RowKit

def Made (w : World) (lo : Nat) (x0 : Tr) : Prop :=
  ∀ P : Tr → Prop, (∀ (n : Int) (_h : I64 n), P (.int n)) →
    (∀ (b : Bool), P (.bool b)) →
    (∀ (s : ByteArray) (_h : s.size ≤ maxLen), P (.str s)) →
    (∀ (d : List Nat) (g : Nat) (cp : Nat) (_hg : lo ≤ g) (_hb : d.length ≤ 1048576) (_h : Own w 5 g d) (_hcp : cp = d.length), P (.byt d (some ⟨g, 0, none⟩) cp)) →
    (∀ (m : Nat) (g : Nat) (cp : Nat) (L : List (List Tr)) (_hg : lo ≤ g) (_hlt : g < w.heap.size) (_hb : L.length ≤ 1048576) (_hl : ∀ (i : Nat) (e : List Tr), L[i]? = some e → e.length = m) (_hc : ∀ (i : Nat) (e : List Tr), L[i]? = some e → w.rangeAt g (i * m) (e.map Tr.cell)) (_hf : ∀ o, w.frozen? ⟨g, o, none⟩ = false) (_hs : ∀ (i j : Nat) (e : List Tr) (y : Tr), L[i]? = some e → e[j]? = some y → P y), P (.row m (some ⟨g, 0, none⟩) cp L)) → P x0
theorem Made.int {w : World} {lo : Nat} {n : Int} (h : I64 n) : Made w lo (.int n) := fun _ c0 _ _ _ _ => c0 n h
theorem Made.bool {w : World} {lo : Nat} (b : Bool) : Made w lo (.bool b) := fun _ _ c1 _ _ _ => c1 b
theorem Made.str {w : World} {lo : Nat} {s : ByteArray} (h : s.size ≤ maxLen) : Made w lo (.str s) := fun _ _ _ c2 _ _ => c2 s h
theorem Made.byt {w : World} {lo : Nat} {d : List Nat} {g : Nat} {cp : Nat} (hg : lo ≤ g) (hb : d.length ≤ 1048576) (h : Own w 5 g d) (hcp : cp = d.length) : Made w lo (.byt d (some ⟨g, 0, none⟩) cp) := fun _ _ _ _ c3 _ => c3 d g cp hg hb h hcp
theorem Made.row {w : World} {lo : Nat} {m : Nat} {g : Nat} {cp : Nat} {L : List (List Tr)} (hg : lo ≤ g) (hlt : g < w.heap.size) (hb : L.length ≤ 1048576) (hl : ∀ (i : Nat) (e : List Tr), L[i]? = some e → e.length = m) (hc : ∀ (i : Nat) (e : List Tr), L[i]? = some e → w.rangeAt g (i * m) (e.map Tr.cell)) (hf : ∀ o, w.frozen? ⟨g, o, none⟩ = false) (hs : ∀ (i j : Nat) (e : List Tr) (y : Tr), L[i]? = some e → e[j]? = some y → Made w lo y) : Made w lo (.row m (some ⟨g, 0, none⟩) cp L) := fun P c0 c1 c2 c3 c4 => c4 m g cp L hg hlt hb hl hc hf (fun i j e y hi hj => hs i j e y hi hj P c0 c1 c2 c3 c4)
theorem Made.elim {w : World} {lo : Nat} {motive : (x0 : Tr) → Made w lo x0 → Prop}
    (int : ∀ {n : Int} (h : I64 n), motive (.int n) (.int h))
    (bool : ∀ (b : Bool), motive (.bool b) (.bool b))
    (str : ∀ {s : ByteArray} (h : s.size ≤ maxLen), motive (.str s) (.str h))
    (byt : ∀ {d : List Nat} {g : Nat} {cp : Nat} (hg : lo ≤ g) (hb : d.length ≤ 1048576) (h : Own w 5 g d) (hcp : cp = d.length), motive (.byt d (some ⟨g, 0, none⟩) cp) (.byt hg hb h hcp))
    (row : ∀ {m : Nat} {g : Nat} {cp : Nat} {L : List (List Tr)} (hg : lo ≤ g) (hlt : g < w.heap.size) (hb : L.length ≤ 1048576) (hl : ∀ (i : Nat) (e : List Tr), L[i]? = some e → e.length = m) (hc : ∀ (i : Nat) (e : List Tr), L[i]? = some e → w.rangeAt g (i * m) (e.map Tr.cell)) (hf : ∀ o, w.frozen? ⟨g, o, none⟩ = false) (hs : ∀ (i j : Nat) (e : List Tr) (y : Tr), L[i]? = some e → e[j]? = some y → Made w lo y), (∀ i j e y hi hj, motive y (hs i j e y hi hj)) → motive (.row m (some ⟨g, 0, none⟩) cp L) (.row hg hlt hb hl hc hf hs))
    {x0 : Tr} (h : Made w lo x0) : motive x0 h :=
  (h (fun x0 => ∃ h : Made w lo x0, motive x0 h) (fun _ h => ⟨.int h, int h ⟩)
    (fun b => ⟨.bool b, bool b ⟩)
    (fun _ h => ⟨.str h, str h ⟩)
    (fun _ _ _ hg hb h hcp => ⟨.byt hg hb h hcp, byt hg hb h hcp ⟩)
    (fun _ _ _ _ hg hlt hb hl hc hf hs => ⟨.row hg hlt hb hl hc hf (fun i j e y hi hj => (hs i j e y hi hj).elim fun a _ => a), row hg hlt hb hl hc hf (fun i j e y hi hj => (hs i j e y hi hj).elim fun a _ => a) (fun i j e y hi hj => (hs i j e y hi hj).elim fun _ b => b)⟩)).elim fun _ b => b
theorem World.frozen?_of_blockT {w w' : World} {a : Addr} (h : w'.heap[a.block]? = w.heap[a.block]?) : w'.frozen? a = w.frozen? a := by simp [World.frozen?, h]
theorem Made.keep {w w' : World} {lo : Nat} {x : Tr} (h : Made w lo x) (hsz : w.heap.size ≤ w'.heap.size) (hk : ∀ k, lo ≤ k → k < w.heap.size → w'.heap[k]? = w.heap[k]?) : Made w' lo x := by
  induction h using Made.elim with
  | int h => exact .int h
  | bool b => exact .bool b
  | str h => exact .str h
  | byt hg hb h hcp => exact .byt hg hb (h.of_block (hk _ hg (by obtain ⟨_, cur, hc, _⟩ := h; exact (Array.getElem?_eq_some_iff.1 hc).1))) hcp
  | row hg hlt hb hl hc hf _ ih =>
    exact .row hg (by omega) hb hl (fun i e hi j v hv => (World.cell?_of_block (hk _ hg hlt)).trans (hc i e hi j v hv)) (fun o => (World.frozen?_of_blockT (hk _ hg hlt)).trans (hf o)) ih
theorem Made.grown0 {w w' : World} {lo : Nat} {x : Tr} (h : Made w lo x) (hg : w.grownBy w' none) : Made w' lo x := h.keep hg.size (fun k _ hk => hg.block k hk (by simp))
theorem Made.low {w : World} {lo lo' : Nat} {x : Tr} (h : Made w lo x) (hle : lo' ≤ lo) : Made w lo' x := by
  induction h using Made.elim with
  | int h => exact .int h
  | bool b => exact .bool b
  | str h => exact .str h
  | byt hg hb h hcp => exact .byt (by omega) hb h hcp
  | row hg hlt hb hl hc hf _ ih => exact .row (by omega) hlt hb hl hc hf ih
theorem heap_setCells_other (b : Nat) : ∀ (vs : List Value) (o : Nat) (w : World) (k : Nat), k ≠ b → (w.setCells b o vs).heap[k]? = w.heap[k]?
  | [], _, _, _, _ => rfl
  | v :: r, o, w, k, h => by rw [World.setCells, heap_setCells_other b r (o + 1) _ k h, heap_setCell_other _ _ _ _ h]
theorem size_setCells (b : Nat) : ∀ (vs : List Value) (o : Nat) (w : World), (w.setCells b o vs).heap.size = w.heap.size
  | [], _, _ => rfl
  | v :: r, o, w => by rw [World.setCells, size_setCells b r (o + 1) _]; simp [World.setCell]
theorem grownBy_setCellsN {w0 : World} {b : Nat} (hb : w0.heap.size ≤ b) : ∀ (vs : List Value) (o : Nat) (w : World), w0.grownBy w none → w0.grownBy (w.setCells b o vs) none
  | [], _, _, h => h
  | v :: r, o, w, h => by rw [World.setCells]; exact grownBy_setCellsN hb r (o + 1) _ (grownBy_setNew h hb)
theorem Made.setCells {w : World} {lo b o : Nat} {vs : List Value} {x : Tr} (h : Made w lo x) (hb : b < lo) : Made (w.setCells b o vs) lo x :=
  h.keep (by rw [size_setCells]; exact Nat.le_refl _) (fun k hk _ => heap_setCells_other b vs o w k (by omega))
theorem Made.rd {w : World} {lo : Nat} {x : Tr} (h : Made w lo x) : Rd w x := by
  induction h using Made.elim with
  | int h => exact .int h
  | bool b => exact .bool b
  | str h => exact .str h
  | @byt d g cp hg hb h _ => exact .byt (by unfold maxLen; omega) (h.sl _ rfl)
  | @row m g cp L hg hlt hb hl hc hf _ ih =>
    refine .row (by unfold maxLen; omega) hl (fun i j e y hi hj => ⟨g, 0, rfl, ?_⟩) ih
    rw [Nat.zero_add]
    exact hc i e hi j _ (by rw [List.getElem?_map, hj]; rfl)
theorem Made.inv {w : World} {lo : Nat} {x : Tr} (h : Made w lo x) : (x.tell.tag = 3 → ∃ g, x.a = some ⟨g, 0, none⟩ ∧ lo ≤ g ∧ x.tell.d.length ≤ 1048576 ∧ Own w 5 g x.tell.d ∧ x.cp = x.tell.d.length) ∧ (x.tell.tag = 4 → ∀ (i j : Nat) (e : List Tr) (y : Tr), x.L[i]? = some e → e[j]? = some y → Made w lo y) := by
  cases h using Made.elim with
  | int h => exact ⟨fun e => (by cases e), fun e => (by cases e)⟩
  | bool b => exact ⟨fun e => (by cases e), fun e => (by cases e)⟩
  | str h => exact ⟨fun e => (by cases e), fun e => (by cases e)⟩
  | byt hg hb h hcp => exact ⟨fun _ => ⟨_, rfl, hg, hb, h, hcp⟩, fun e => (by cases e)⟩
  | row _ _ _ _ _ _ hs => exact ⟨fun e => (by cases e), fun _ => hs⟩
theorem InB.inv {x : Tr} {k : Nat} (h : InB x k) : (x.tell.tag = 3 ∨ x.tell.tag = 4) ∧ (x.tell.tag = 3 → ∀ a, x.a = some a → k = a.block) ∧ (x.tell.tag = 4 → (∃ a, x.a = some a ∧ k = a.block) ∨ ∃ (i j : Nat) (e : List Tr) (y : Tr), x.L[i]? = some e ∧ e[j]? = some y ∧ InB y k) := by
  cases h using InB.elim with
  | byt => exact ⟨.inl rfl, fun _ a ha => by cases ha; rfl, fun e => (by cases e)⟩
  | here => exact ⟨.inr rfl, fun e => (by cases e), fun _ => .inl ⟨_, rfl, rfl⟩⟩
  | sub hi hj h => exact ⟨.inr rfl, fun e => (by cases e), fun _ => .inr ⟨_, _, _, _, hi, hj, h⟩⟩
theorem Made.lt {w : World} {lo : Nat} {x : Tr} (h : Made w lo x) : ∀ k, InB x k → lo ≤ k ∧ k < w.heap.size := by
  induction h using Made.elim with
  | int _ => intro k hk; exact absurd hk.inv.1 (by show ¬ ((0 : Nat) = 3 ∨ (0 : Nat) = 4); decide)
  | bool b => intro k hk; exact absurd hk.inv.1 (by show ¬ ((1 : Nat) = 3 ∨ (1 : Nat) = 4); decide)
  | str h => intro k hk; exact absurd hk.inv.1 (by show ¬ ((2 : Nat) = 3 ∨ (2 : Nat) = 4); decide)
  | @byt d g cp hg hb h =>
    intro k hk
    have hk' : k = g := hk.inv.2.1 rfl _ rfl
    subst hk'
    obtain ⟨_, cur, hc, _⟩ := h
    exact ⟨hg, (Array.getElem?_eq_some_iff.1 hc).1⟩
  | row hg hlt hb hl hc hf _ ih =>
    intro k hk
    rcases hk.inv.2.2 rfl with ⟨a, ha, rfl⟩ | ⟨i, j, e, y, hi, hj, h⟩
    · cases ha
      exact ⟨hg, hlt⟩
    · exact ih i j e y hi hj k h
/-- out of a block: a fact on it in a later world -/
theorem grown_blk {W w' : World} {k : Nat} {o : Obj} (h : W.grownBy w' none) (hb : W.heap[k]? = some o) : w'.heap[k]? = some o :=
  (h.block k (Array.getElem?_eq_some_iff.1 hb).1 (by simp)).trans hb
theorem set_blk {W : World} {b : Nat} {cur : Array Value} {t : TypeId} (j : Nat) (v : Value) (h : W.heap[b]? = some (.cells cur t (0, 0))) : (W.setCell ⟨b, j, none⟩ v).heap[b]? = some (.cells (cur.setIfInBounds j v) t (0, 0)) := heap_setCell_same W b j cur t v h
theorem set_blkL {W : World} {b : Nat} {L : List Value} {t : TypeId} (j : Nat) (v : Value) (h : W.heap[b]? = some (.cells L.toArray t (0, 0))) : (W.setCell ⟨b, j, none⟩ v).heap[b]? = some (.cells (L.set j v).toArray t (0, 0)) := by
  have h1 := set_blk j v h
  rwa [List.setIfInBounds_toArray] at h1
theorem set_oth {W : World} {b b' : Nat} {o : Obj} (j : Nat) (v : Value) (hne : b' ≠ b) (h : W.heap[b']? = some o) : (W.setCell ⟨b, j, none⟩ v).heap[b']? = some o := (heap_setCell_other W ⟨b, j, none⟩ b' v hne).trans h
/-- a row that was made: whatever it holds, its cells are there -/
theorem there_of_block {w : World} {g : Nat} {cur : Array Value} {t : TypeId} {n : Nat} (h : w.heap[g]? = some (.cells cur t (0, 0))) (hn : n ≤ cur.size) : w.there g 0 n ∧ ∀ o, w.frozen? ⟨g, o, none⟩ = false := by
  have hf : ∀ o, w.frozen? ⟨g, o, none⟩ = false := fun o => by simp [World.frozen?, h]
  refine ⟨fun j hj => ⟨?_, by rw [Nat.zero_add]; exact hf j⟩, hf⟩
  rw [Nat.zero_add, cell_of_row w g j cur t (0, 0) h, Array.getElem?_eq_getElem (by omega)]
  rfl
theorem there_sub {w : World} {g n o k : Nat} (h : w.there g 0 n) (hk : o + k ≤ n) : w.there g o k := fun j hj => by
  have := h (o + j) (by omega)
  rwa [Nat.zero_add] at this
/-- a row as it is filled -/
structure Fill (w wr : World) (g n m : Nat) (L M : List (List Tr)) (ks : List Ki) : Prop where
  lt : g < wr.heap.size
  there : wr.there g 0 (n * m)
  free : ∀ o, wr.frozen? ⟨g, o, none⟩ = false
  cells : ∀ (i : Nat) (e : List Tr), M[i]? = some e → wr.rangeAt g (i * m) (e.map Tr.cell)
  fit : ∀ e ∈ M, FitsL e ks
  made : ∀ e ∈ M, ∀ y ∈ e, Made wr (g + 1) y
  tell : tellR M = tellR (L.take M.length)
  grown : w.grownBy wr none
theorem Fill.step {w wr w1 : World} {g n m : Nat} {L M : List (List Tr)} {ks : List Ki} (h : Fill w wr g n m L M ks) (hg : w.heap.size ≤ g) (hkm : ks.length = m) (hG : wr.grownBy w1 none) {e e' : List Tr} (he : L[M.length]? = some e) (hM : M.length < n) (hf : FitsL e' ks)
    (hmd : ∀ y ∈ e', Made w1 (g + 1) y) (ht : e'.map Tr.tell = e.map Tr.tell) : Fill w (w1.setCells g (M.length * m) (e'.map Tr.cell)) g n m L (M ++ [e']) ks := by
  have hlen : (e'.map Tr.cell).length = m := by rw [List.length_map, hf.1, hkm]
  have hb := bcell hG
  have hth : w1.there g 0 (n * m) := fun j hj => by
    obtain ⟨h1, h2⟩ := h.there j hj
    exact ⟨by rw [hb.1 _ _ h.lt]; exact h1, by rw [hb.2 _ _ h.lt]; exact h2⟩
  have hin : M.length * m + m ≤ n * m := by
    have h9 := Nat.mul_le_mul_right m (show M.length + 1 ≤ n by omega)
    rw [Nat.succ_mul] at h9
    exact h9
  refine ⟨by rw [size_setCells]; have := hG.size; have := h.lt; omega, World.there_setCells hth _ _ _, fun o => by rw [World.frozen?_setCells, hb.2 _ _ h.lt]; exact h.free o, fun i x hi => ?_, fun x hx => ?_, fun x hx => ?_, ?_, grownBy_setCellsN hg _ _ _ (grownBy_trans h.grown hG)⟩
  · rcases Nat.lt_or_ge i M.length with hil | hil
    · rw [List.getElem?_append_left hil] at hi
      have h1 : w1.rangeAt g (i * m) (x.map Tr.cell) := fun j v hv => (hb.1 _ _ h.lt).trans (h.cells i x hi j v hv)
      refine World.rangeAt_setCells_apart h1 _ _ _ (.inr (.inl ?_))
      have h2 := h.fit x (List.mem_of_getElem? hi)
      rw [List.length_map, h2.1, hkm]
      have h9 := Nat.mul_le_mul_right m (show i + 1 ≤ M.length by omega)
      rw [Nat.succ_mul] at h9
      exact h9
    · rw [List.getElem?_append_right hil] at hi
      have h0 : i - M.length < 1 := by have := (List.getElem?_eq_some_iff.1 hi).1; simpa using this
      have e0 : i - M.length = 0 := by omega
      rw [e0] at hi
      obtain rfl : e' = x := by simpa using hi
      obtain rfl : i = M.length := by omega
      exact World.rangeAt_setCells_same _ _ _ _ (by rw [hlen]; exact there_sub hth hin)
  · rcases List.mem_append.1 hx with hx | hx
    · exact h.fit x hx
    · obtain rfl : x = e' := by simpa using hx
      exact hf
  · rcases List.mem_append.1 hx with hx | hx
    · exact fun y hy => ((h.made x hx y hy).grown0 hG).setCells (by omega)
    · obtain rfl : x = e' := by simpa using hx
      exact fun y hy => (hmd y hy).setCells (by omega)
  · rw [List.length_append, List.length_singleton, List.take_add_one, he]
    have h1 := h.tell
    simp only [tellR, List.map_append, Option.toList, List.map_cons, List.map_nil, ht] at h1 ⊢
    rw [h1]
theorem Fill.all {w wr : World} {g n m cp : Nat} {L M : List (List Tr)} {ks : List Ki} (h : Fill w wr g n m L M ks) (hkm : ks.length = m) (hM : M.length = n) (hL : L.length = n) (hn : n ≤ 1048576) :
    Made wr g (.row ks.length (some ⟨g, 0, none⟩) cp M) ∧ Fits (.row ks.length (some ⟨g, 0, none⟩) cp M) (.row ks) ∧ tellR M = tellR L := by
  have hfi : ∀ (i : Nat) (e : List Tr), M[i]? = some e → FitsL e ks := fun i e hi => h.fit e (List.mem_of_getElem? hi)
  refine ⟨.row (Nat.le_refl _) h.lt (by omega) (fun i e hi => (hfi i e hi).1) (fun i e hi => by rw [hkm]; exact h.cells i e hi) h.free (fun i j e y hi hj => (h.made e (List.mem_of_getElem? hi) y (List.mem_of_getElem? hj)).low (by omega)), .row (fun i e hi => (hfi i e hi).1) (fun i j e y k hi hj hk => (hfi i e hi).2 j y k hj hk), ?_⟩
  rw [h.tell, hM, ← hL, List.take_length]
theorem results_cell1 {fn : Func} {p : Tmp} {ty : TypeId} (h : fn.results = #[.cell p ty]) (tmps : Array Value) (P : Program) (w : World) :
    (results fn tmps).run P w = ((asAddr (tmps.getD p undef)).run P w).andThen fun a w₁ => (loadVar ty a).run P w₁ := by
  simp only [results, h]
  simp [Sem.run_bind]
theorem results_ret {fn : Func} {p : Tmp} {ty : TypeId} (h : fn.results = #[.cell p ty]) {tmps : Array Value} {P : Program} {w : World} {v : Value} {a : Addr} (hp : tmps.getD p undef = .pointer (some a)) (hl : (loadVar ty a).run P w = .ok v w) :
    (results fn tmps).run P w = .ok v w := by
  rw [results_cell1 h, hp]
  simp [asAddr, Result.andThen, hl]
end Go.Proofs.YtkjjglnbbahbkaaDoor

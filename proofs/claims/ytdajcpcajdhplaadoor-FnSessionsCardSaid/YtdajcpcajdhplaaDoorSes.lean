/-
  Sessions in memory: a row of four cells each, with their bytes.
-/
import Derived.Test.YtdajcpcajdhplaaDoorReadS
import Derived.Test.YtdajcpcajdhplaaDoorApp
namespace Go.Proofs.YtdajcpcajdhplaaDoor
open Go.RowKit

theorem own_type {w : World} {e e' : TypeId} {g : Nat} {zs : List Nat} {cur : Array Value} {f : Nat × Nat} (h : Own w e g zs) (h' : w.heap[g]? = some (.cells cur e' f)) : e = e' := by
  obtain ⟨_, cur', hg, _⟩ := h
  rw [hg] at h'
  simp only [Option.some.injEq, Obj.cells.injEq] at h'
  exact h'.2.1
structure Se where
  c : Nat
  q : Nat
  i : Nat
  d : List Nat
  o : Option Nat
  cp : Nat
def Se.cells (x : Se) : List Value := [.int .i64 (x.c : Int), .int .i64 (x.q : Int), .int .i64 (x.i : Int), .slice (oad x.o) x.d.length x.cp]
def Se.tell (x : Se) : Sn := ⟨x.c, x.q, x.i, x.d⟩
def SeOwn (w : World) (base : Nat) (x : Se) : Prop := OwnS w 5 (oad x.o) x.d.length x.d ∧ (x.o = none → x.cp = 0) ∧ ∀ g, x.o = some g → base ≤ g
def SesRow (w : World) (base : Nat) (v : Value) (L : List Se) : Prop :=
  w.ownsRow base 74 4 v L.length (L.flatMap Se.cells) ∧ (∀ x ∈ L, SeOwn w base x) ∧ (L.filterMap Se.o).Nodup
theorem blk_oad (o : Option Nat) : blk (oad o) = o := by cases o <;> rfl
theorem SeOwn.lt {w : World} {base : Nat} {x : Se} (h : SeOwn w base x) : ∀ g, x.o = some g → g < w.heap.size := fun g hg => h.1.lt g (by rw [blk_oad]; exact hg)
theorem SeOwn.grown {w w' : World} {row : Option Nat} {base : Nat} {x : Se} (h : SeOwn w base x) (hg : w.grownBy w' row) (hne : ∀ g, x.o = some g → some g ≠ row) : SeOwn w' base x := ⟨h.1.grown hg (fun g e => hne g (by rw [← blk_oad x.o]; exact e)), h.2⟩
theorem SesRow.nil (w : World) (base : Nat) : SesRow w base (.slice none 0 0) [] := ⟨World.ownsRow_nil _ _ _ _, by simp, by simp⟩
theorem SesRow.lt {w : World} {base : Nat} {v : Value} {L : List Se} (h : SesRow w base v L) : ∀ g ∈ L.filterMap Se.o, g < w.heap.size := by
  intro g hg
  obtain ⟨x, hx, e⟩ := List.mem_filterMap.1 hg
  exact (h.2.1 x hx).lt g e
theorem SesRow.grown {w w' : World} {row : Option Nat} {base : Nat} {v : Value} {L : List Se} (h : SesRow w base v L) (hg : w.grownBy w' row) (hr : ∀ k, row = some k → k < base) : SesRow w' base v L := by
  obtain ⟨h1, h2, h3⟩ := h
  refine ⟨h1.kept hg ?_, fun x hx => (h2 x hx).grown hg (fun g e e2 => ?_), h3⟩
  · cases hv : v.ownBlock with
    | none => exact .inl rfl
    | some k =>
      refine .inr fun e => ?_
      have h5 := (h1.lt k hv).1
      have := hr k e.symm
      omega
  · have h4 := (h2 x hx).2.2 g e
    have := hr g e2.symm
    omega
theorem SesRow.lower {w : World} {base base' : Nat} {v : Value} {L : List Se} (h : SesRow w base v L) (hb : base' ≤ base) : SesRow w base' v L :=
  ⟨ownsRow_base h.1 hb, fun x hx => ⟨(h.2.1 x hx).1, (h.2.1 x hx).2.1, fun g e => Nat.le_trans hb ((h.2.1 x hx).2.2 g e)⟩, h.2.2⟩
/-- a session more: what an append onto the row leaves -/
theorem SesRow.append {w w' : World} {base : Nat} {v v' : Value} {L : List Se} {x : Se} (h : SesRow w base v L) (hO : SeOwn w base x) (hn : ∀ g, x.o = some g → g ∉ L.filterMap Se.o)
    (hown : w'.ownsRow base 74 4 v' (L.length + 1) (L.flatMap Se.cells ++ x.cells)) (hg : w.grownBy w' v.ownBlock) : SesRow w' base v' (L ++ [x]) := by
  obtain ⟨h1, h2, h3⟩ := h
  have hne : ∀ y : Se, SeOwn w base y → ∀ g, y.o = some g → some g ≠ v.ownBlock := by
    intro y hy g hyo e
    obtain ⟨_, ⟨h5, _⟩ | ⟨g2, h5, hgO⟩⟩ := hy.1
    · rw [hyo] at h5; cases h5
    · rw [hyo] at h5
      obtain rfl : g = g2 := by simpa [oad] using h5
      rcases h1.2 with ⟨rfl, _⟩ | ⟨g', cap, cur, rfl, hb', hg', _⟩
      · simp [Value.ownBlock] at e
      · simp only [Value.ownBlock, Option.some.injEq] at e
        subst e
        exact absurd (own_type hgO hg') (by decide)
  refine ⟨by simpa using hown, fun y hy => ?_, ?_⟩
  · rcases List.mem_append.1 hy with hr | hr
    · exact (h2 y hr).grown hg (hne y (h2 y hr))
    · obtain rfl : y = x := by simpa using hr
      exact hO.grown hg (hne y hO)
  · rw [List.filterMap_append, List.nodup_append]
    refine ⟨h3, ?_, fun a ha b hb' e => ?_⟩
    · cases hxo : x.o <;> simp [hxo]
    · subst e
      have : x.o = some a := by
        obtain ⟨y, hy, e⟩ := List.mem_filterMap.1 hb'
        obtain rfl : y = x := by simpa using hy
        exact e
      exact hn a this ha
theorem seflat_get (L : List Se) : ∀ (i : Nat) (x : Se), L[i]? = some x → (L.flatMap Se.cells)[4 * i]? = some (.int .i64 (x.c : Int)) ∧ (L.flatMap Se.cells)[4 * i + 1]? = some (.int .i64 (x.q : Int)) ∧ (L.flatMap Se.cells)[4 * i + 2]? = some (.int .i64 (x.i : Int)) ∧ (L.flatMap Se.cells)[4 * i + 3]? = some (.slice (oad x.o) x.d.length x.cp) := by
  induction L with
  | nil => intro i x h; simp at h
  | cons y L ih =>
    intro i x h
    cases i with
    | zero => simp at h; subst h; simp [Se.cells]
    | succ i =>
      have h1 := ih i x (by simpa using h)
      rw [show 4 * (i + 1) = 4 * i + 4 by omega, show 4 * i + 4 + 1 = 4 * i + 1 + 4 by omega, show 4 * i + 4 + 2 = 4 * i + 2 + 4 by omega, show 4 * i + 4 + 3 = 4 * i + 3 + 4 by omega]
      simpa [Se.cells] using h1
theorem seflat_len (L : List Se) : (L.flatMap Se.cells).length = L.length * 4 := by
  induction L with
  | nil => rfl
  | cons x L ih => simp [Se.cells, ih]; omega
/-- a row of sessions, with its address -/
theorem SesRow.form {w : World} {base : Nat} {v : Value} {L : List Se} (h : SesRow w base v L) : (v = .slice none 0 0 ∧ L = []) ∨ ∃ g cap cur, v = .slice (some ⟨g, 0, none⟩) L.length cap ∧ base ≤ g ∧ L.length ≤ cap ∧ cap ≤ maxLen ∧ w.heap[g]? = some (.cells cur 74 (0, 0)) ∧
      ∀ i x, L[i]? = some x → cur[4 * i]? = some (.int .i64 (x.c : Int)) ∧ cur[4 * i + 1]? = some (.int .i64 (x.q : Int)) ∧ cur[4 * i + 2]? = some (.int .i64 (x.i : Int)) ∧ cur[4 * i + 3]? = some (.slice (oad x.o) x.d.length x.cp) := by
  rcases h.1.2 with ⟨rfl, h0⟩ | ⟨g, cap, cur, rfl, hb, hg, hc, hm, hs, htake⟩
  · exact .inl ⟨rfl, List.eq_nil_of_length_eq_zero h0⟩
  · refine .inr ⟨g, cap, cur, rfl, hb, hc, hm, hg, fun i x hx => ?_⟩
    have hi : i < L.length := (List.getElem?_eq_some_iff.1 hx).1
    obtain ⟨h1, h2, h3, h4⟩ := seflat_get L i x hx
    rw [← htake] at h1 h2 h3 h4
    rw [List.getElem?_take, if_pos (by omega), Array.getElem?_toList] at h1
    rw [List.getElem?_take, if_pos (by omega), Array.getElem?_toList] at h2
    rw [List.getElem?_take, if_pos (by omega), Array.getElem?_toList] at h3
    rw [List.getElem?_take, if_pos (by omega), Array.getElem?_toList] at h4
    exact ⟨h1, h2, h3, h4⟩
/-- a slice of sessions as it is read -/
def SesSl (w : World) (oa : Option Addr) (L : List Se) : Prop :=
  ∀ i x, L[i]? = some x → ∃ g, oa = some ⟨g, 0, none⟩ ∧ w.cell? ⟨g, i * 4, none⟩ = some (.int .i64 (x.c : Int)) ∧ w.cell? ⟨g, i * 4 + 1, none⟩ = some (.int .i64 (x.q : Int)) ∧ w.cell? ⟨g, i * 4 + 2, none⟩ = some (.int .i64 (x.i : Int)) ∧ w.cell? ⟨g, i * 4 + 3, none⟩ = some (.slice (oad x.o) x.d.length x.cp) ∧ OwnS w 5 (oad x.o) x.d.length x.d ∧ g < w.heap.size
theorem SesRow.sl {w : World} {base : Nat} {v : Value} {L : List Se} (h : SesRow w base v L) : ∃ oa cap, v = .slice oa L.length cap ∧ SesSl w oa L ∧ L.length ≤ cap ∧ cap ≤ maxLen := by
  rcases h.form with ⟨rfl, rfl⟩ | ⟨g, cap, cur, rfl, hb, hc, hm, hg, hcur⟩
  · exact ⟨none, 0, rfl, fun i x hx => by simp at hx, Nat.le_refl _, Nat.zero_le _⟩
  · refine ⟨some ⟨g, 0, none⟩, cap, rfl, fun i x hx => ⟨g, rfl, ?_, ?_, ?_, ?_, (h.2.1 x (List.mem_of_getElem? hx)).1, (Array.getElem?_eq_some_iff.1 hg).1⟩, hc, hm⟩
    · rw [Nat.mul_comm]; simp [World.cell?, hg, (hcur i x hx).1]
    · rw [Nat.mul_comm]; simp [World.cell?, hg, (hcur i x hx).2.1]
    · rw [Nat.mul_comm]; simp [World.cell?, hg, (hcur i x hx).2.2.1]
    · rw [Nat.mul_comm]; simp [World.cell?, hg, (hcur i x hx).2.2.2]
theorem SesSl.grown {w w' : World} {oa : Option Addr} {L : List Se} (h : SesSl w oa L) (hg : w.grownBy w' none) : SesSl w' oa L := fun i x hx => by
  obtain ⟨g, h1, h2, h3, h4, h5, h6, h7⟩ := h i x hx
  obtain ⟨hc, -⟩ := bcell hg
  exact ⟨g, h1, (hc _ _ h7).trans h2, (hc _ _ h7).trans h3, (hc _ _ h7).trans h4, (hc _ _ h7).trans h5, h6.grown0 hg, Nat.lt_of_lt_of_le h7 hg.size⟩
end Go.Proofs.YtdajcpcajdhplaaDoor

/-
  DecodeState, the model's, walked.
-/
import Derived.Test.YtionggfecikedaaSpDec
import Derived.Deep.DeepCutAuto
namespace Go.Proofs.Ytionggfecikedaa
open Go.RowKit

structure SD (w wl : World) (p s B : Nat) (v : Value) (L : List Se) : Prop where
  grown : w.grownBy wl none
  pv : wl.heap[p]? = some (.cells #[.int .i64 0, .slice none 0 0, .slice none 0 0] 57 (0, 0))
  sv : wl.heap[s]? = some (.cells #[.int .i64 (B : Int), .slice none 0 0, v] 57 (0, 0))
  row : SesRow wl (s + 1) v L
  hp : w.heap.size ≤ p
  ps : p < s
theorem SD.slt {w wl : World} {p s B : Nat} {v : Value} {L : List Se} (h : SD w wl p s B v L) : s < wl.heap.size := (Array.getElem?_eq_some_iff.1 h.sv).1
theorem SD.cells {w wl : World} {p s B : Nat} {v : Value} {L : List Se} (h : SD w wl p s B v L) : wl.cell? ⟨s, 0, none⟩ = some (.int .i64 (B : Int)) ∧ wl.cell? ⟨s, 1, none⟩ = some (.slice none 0 0) ∧ wl.cell? ⟨s, 2, none⟩ = some v ∧ wl.frozen? ⟨s, 2, none⟩ = false := by
  have := h.sv
  simp [World.cell?, World.frozen?, this]
theorem SD.more {w wl wx : World} {p s B : Nat} {v : Value} {L : List Se} (h : SD w wl p s B v L) (hg : wl.grownBy wx none) : SD w wx p s B v L :=
  ⟨grownBy_trans h.grown hg, (hg.block p (by have := h.slt; have := h.ps; omega) (by simp)).trans h.pv, (hg.block s h.slt (by simp)).trans h.sv, h.row.grown hg (by simp), h.hp, h.ps⟩
/-- bytes grow in a row that is newer than all of it -/
theorem SD.far {w wl wx wy : World} {p s B g : Nat} {v : Value} {L : List Se} (h : SD w wl p s B v L) (h1 : wl.grownBy wx none) (h2 : wx.grownBy wy (some g)) (hg : wl.heap.size ≤ g) : SD w wy p s B v L := h.more (grownBy_new h1 h2 hg)
theorem SD.put {w wl wa : World} {p s B : Nat} {v v' : Value} {L : List Se} (h : SD w wl p s B v L) (x : Se) (hx : SeOwn wl (s + 1) x) (hn : ∀ g, x.o = some g → g ∉ L.filterMap Se.o)
    (hown : wa.ownsRow (s + 1) 79 4 v' (L.length + 1) (L.flatMap Se.cells ++ x.cells)) (hg : wl.grownBy wa v.ownBlock) : SD w (wa.setCell ⟨s, 2, none⟩ v') p s B v' (L ++ [x]) := by
  have hps := h.ps
  have hpp := h.hp
  have hv : ∀ k, v.ownBlock = some k → s + 1 ≤ k := fun k e => (h.row.1.lt k e).1
  have hset : wa.grownBy (wa.setCell ⟨s, 2, none⟩ v') (some s) := grownBy_setCell (grownBy_refl _ _)
  have hsv : wa.heap[s]? = some (.cells #[.int .i64 (B : Int), .slice none 0 0, v] 57 (0, 0)) := (hg.block s h.slt (fun e => by have := hv s e.symm; omega)).trans h.sv
  have hpv : wa.heap[p]? = some (.cells #[.int .i64 0, .slice none 0 0, .slice none 0 0] 57 (0, 0)) := (hg.block p (by have := h.slt; omega) (fun e => by have := hv p e.symm; omega)).trans h.pv
  refine ⟨grownBy_new (grownBy_row h.grown hg (fun k e => by have := hv k e; omega)) hset (by omega), (hset.block p (Array.getElem?_eq_some_iff.1 hpv).1 (by simp only [ne_eq, Option.some.injEq]; omega)).trans hpv, heap_setCell_same wa s 2 _ _ _ hsv, ?_, h.hp, h.ps⟩
  exact (h.row.append hx hn hown hg).grown hset (fun k e => by simp only [Option.some.injEq] at e; omega)
def SeBig (x : Se) : Prop := x.c ≤ 4611686018427387904 ∧ x.q ≤ 4611686018427387904 ∧ x.i ≤ 4611686018427387904 ∧ x.d.length ≤ 1073741824
theorem encSt_len (b : Nat) (l : List Sn) : (encSt b l).length = 16 + (encL l).length := by simp [encSt, leN_len]; omega
/-- what has been read, where the bytes are a state -/
def ReadTo (zs : List Nat) (B A : Nat) (L : List Se) : Prop := ∀ b' l', ValidS b' l' → encSt b' l' = zs → B = b' ∧ L.length ≤ l'.length ∧ l'.take L.length = L.map Se.tell ∧ A = 16 + (encL (L.map Se.tell)).length
theorem ReadTo.start (zs : List Nat) : ReadTo zs (at8 zs 0) 16 [] := by
  intro b' l' hV he
  refine ⟨at8_of zs (leN l'.length 8 ++ encL l') 0 b' (by rw [List.drop_zero, ← he]; rfl) (by have := hV.1; omega), by simp, by simp, by simp [encL]⟩
theorem ReadTo.more {zs : List Nat} {B A : Nat} {L : List Se} (h : ReadTo zs B A L) {b' : Nat} {l' : List Sn} (hV : ValidS b' l') (he : encSt b' l' = zs) (hA : A + 32 ≤ zs.length) : ∃ y t, okS y ∧ y.i ≤ 1000000 ∧ zs.drop A = encS y ++ t ∧ l'.take (L.length + 1) = L.map Se.tell ++ [y] ∧ L.length + 1 ≤ l'.length := by
  obtain ⟨h1, h2, h3, h4⟩ := h b' l' hV he
  have hlt : L.length < l'.length := by
    rcases Nat.lt_or_ge L.length l'.length with h5 | h5
    · exact h5
    · have h6 : l'.take L.length = l' := List.take_of_length_le h5
      rw [h6] at h3
      rw [← h3] at h4
      have h7 := encSt_len b' l'
      rw [he] at h7
      omega
  have h3' : l'.take (L.map Se.tell).length = L.map Se.tell := by simpa using h3
  obtain ⟨y, t, y1, y2, y3, y4⟩ := next_is hV he h3' (by simpa using hlt) h4
  refine ⟨y, t, y1, by have := hV.1; omega, y3, by simpa using y4, hlt⟩
/-- a session more has been read -/
theorem ReadTo.step {zs : List Nat} {B A n : Nat} {L : List Se} {x : Se} (h : ReadTo zs B A L) (hA : A + 32 ≤ zs.length) (hn : n = at8 zs (A + 24)) (hx : x.c = at8 zs A ∧ x.q = at8 zs (A + 8) ∧ x.i = at8 zs (A + 16) ∧ x.d = (zs.drop (A + 32)).take n) : ReadTo zs B (A + (32 + n)) (L ++ [x]) := by
  intro b' l' hV he
  obtain ⟨h1, h2, h3, h4⟩ := h b' l' hV he
  obtain ⟨y, t, y1, y2, y3, y4, y5⟩ := h.more hV he hA
  obtain ⟨e1, e2, e3, e4, e5, e6⟩ := encS_at y t zs A y3 y1 y2
  have hxy : x.tell = y := by
    obtain ⟨x1, x2, x3, x4⟩ := hx
    rw [hn, e4, e5] at x4
    cases y
    simp only [Se.tell] at *
    rw [x1, x2, x3, x4, e1, e2, e3]
  refine ⟨h1, by simpa using y5, ?_, ?_⟩
  · rw [List.map_append, List.map_cons, List.map_nil, hxy]
    simpa using y4
  · rw [List.map_append, List.map_cons, List.map_nil, hxy, encL_snoc, List.length_append, encS_len, hn, e4, h4]
    omega
theorem ReadTo.short {zs : List Nat} {B A : Nat} {L : List Se} (h : ReadTo zs B A L) (hA : A + 32 ≤ zs.length) (hn : zs.length < A + 32 + at8 zs (A + 24)) : ∀ b' l', ValidS b' l' → encSt b' l' ≠ zs := by
  intro b' l' hV he
  obtain ⟨y, t, y1, y2, y3, y4, y5⟩ := h.more hV he hA
  obtain ⟨e1, e2, e3, e4, e5, e6⟩ := encS_at y t zs A y3 y1 y2
  omega
theorem ReadTo.all {zs : List Nat} {B A : Nat} {L : List Se} (h : ReadTo zs B A L) (hA : ¬ (A + 32 ≤ zs.length ∧ L.length ≤ 50)) {b' : Nat} {l' : List Sn} (hV : ValidS b' l') (he : encSt b' l' = zs) : B = b' ∧ L.map Se.tell = l' := by
  obtain ⟨h1, h2, h3, h4⟩ := h b' l' hV he
  have h50 := hV.len
  refine ⟨h1, ?_⟩
  rcases Nat.lt_or_ge L.length l'.length with h5 | h5
  · exfalso
    have hlt : (L.map Se.tell).length < l'.length := by simpa using h5
    have h3' : l'.take (L.map Se.tell).length = L.map Se.tell := by simpa using h3
    obtain ⟨y, t, y1, y2, y3, y4⟩ := next_is hV he h3' hlt h4
    have hl := congrArg List.length y3
    rw [List.length_drop, List.length_append, encS_len] at hl
    omega
  · have h6 : l'.take L.length = l' := List.take_of_length_le h5
    rw [← h3, h6]
end Go.Proofs.Ytionggfecikedaa

/-
  DecodeState, the program's, walked.
-/
import Derived.Test.YtdajcpcajdhplaaDoorSvValid
namespace Go.Proofs.YtdajcpcajdhplaaDoor
open Go.RowKit

/-- what the reading of numbers says, one behind the other -/
def NumStep (wr : Bool) (zs : List Nat) (v : Nat) (wr' : Bool) (zs' : List Nat) : Prop :=
  v ≤ 1000000000 ∧ (wr = true → wr' = true) ∧ (wr' = false → zs = leN v 8 ++ zs') ∧ (∀ v0 t, wr = false → zs = leN v0 8 ++ t → v0 ≤ 1000000000 → wr' = false)
def BytStep (wr : Bool) (zs : List Nat) (n m : Nat) (d : List Nat) (wr' : Bool) (zs' : List Nat) : Prop :=
  (wr = true → wr' = true) ∧ (wr' = false → m = n ∧ zs = d ++ zs') ∧ (wr = false → n ≤ zs.length → wr' = false)
theorem NumStep.back {wr wr' : Bool} {zs zs' : List Nat} {v : Nat} (h : NumStep wr zs v wr' zs') (h' : wr' = false) : wr = false ∧ zs = leN v 8 ++ zs' := by
  refine ⟨?_, h.2.2.1 h'⟩
  cases wr with
  | false => rfl
  | true => have := h.2.1 rfl; rw [h'] at this; cases this
theorem NumStep.on {wr wr' : Bool} {zs zs' : List Nat} {v v0 : Nat} {t : List Nat} (h : NumStep wr zs v wr' zs') (hw : wr = false) (he : zs = leN v0 8 ++ t) (hv : v0 ≤ 1000000000) : wr' = false ∧ v = v0 ∧ zs' = t := by
  have h1 := h.2.2.2 v0 t hw he hv
  have h2 := h.2.2.1 h1
  have h3 := h.1
  rw [h2] at he
  obtain ⟨h4, h5⟩ := num_inj (by unfold P64; omega) (by unfold P64; omega) he
  exact ⟨h1, h4, h5⟩
theorem step_back {wr wr1 wr2 wr3 wr4 wr5 : Bool} {zs z1 z2 z3 z4 z5 d : List Nat} {c q i n m : Nat} (h1 : NumStep wr zs c wr1 z1) (h2 : NumStep wr1 z1 q wr2 z2) (h3 : NumStep wr2 z2 i wr3 z3) (h4 : NumStep wr3 z3 n wr4 z4) (h5 : BytStep wr4 z4 n m d wr5 z5) (hm : d.length = m) (h : wr5 = false) :
    wr = false ∧ zs = encS ⟨c, q, i, d⟩ ++ z5 := by
  obtain ⟨h6, h7⟩ := h5.2.1 h
  have w4 : wr4 = false := by
    cases wr4 with
    | false => rfl
    | true => have := h5.1 rfl; rw [h] at this; cases this
  obtain ⟨w3, e4⟩ := h4.back w4
  obtain ⟨w2, e3⟩ := h3.back w3
  obtain ⟨w1, e2⟩ := h2.back w2
  obtain ⟨w0, e1⟩ := h1.back w1
  refine ⟨w0, ?_⟩
  rw [e1, e2, e3, e4, h7]
  unfold encS
  simp only [List.append_assoc]
  rw [hm, h6]
theorem step_on {wr wr1 wr2 wr3 wr4 wr5 : Bool} {zs z1 z2 z3 z4 z5 d t : List Nat} {c q i n m : Nat} (y : Sn) (b : Nat) (h1 : NumStep wr zs c wr1 z1) (h2 : NumStep wr1 z1 q wr2 z2) (h3 : NumStep wr2 z2 i wr3 z3) (h4 : NumStep wr3 z3 n wr4 z4) (h5 : BytStep wr4 z4 n m d wr5 z5) (hw : wr = false) (he : zs = encS y ++ t) (hy : okS y ∧ y.i < b) (hb : b ≤ 1000000) : wr5 = false := by
  obtain ⟨⟨y1, y2, y3, y4, y5⟩, y6⟩ := hy
  unfold encS at he
  simp only [List.append_assoc] at he
  obtain ⟨w1, _, e1⟩ := h1.on hw he (by omega)
  obtain ⟨w2, _, e2⟩ := h2.on w1 e1 (by omega)
  obtain ⟨w3, _, e3⟩ := h3.on w2 e2 (by omega)
  obtain ⟨w4, hn, e4⟩ := h4.on w3 e3 (by omega)
  exact h5.2.2 w4 (by rw [e4, List.length_append]; omega)

/-- what stands while a state is read -/
structure PS (w0 wl : World) (p r b : Nat) (wr : Bool) (zs : List Nat) : Prop where
  grown : w0.grownBy wl none
  rd : ∃ off len cap, Rd wl r b off len cap wr ∧ SlB wl (some ⟨b, off, none⟩) len zs ∧ len ≤ cap ∧ cap ≤ maxLen ∧ len ≤ 1073741824
  pv : wl.heap[p]? = some (.cells #[.int .i64 0, .slice none 0 0, .slice none 0 0] 28 (0, 0))
  hb : b < w0.heap.size
  hp : w0.heap.size ≤ p
  hr : p < r
theorem PS.plt {w0 wl : World} {p r b : Nat} {wr : Bool} {zs : List Nat} (h : PS w0 wl p r b wr zs) : p < wl.heap.size := (Array.getElem?_eq_some_iff.1 h.pv).1
theorem PS.more {w0 wl wx : World} {p r b : Nat} {wr : Bool} {zs : List Nat} (h : PS w0 wl p r b wr zs) (hg : wl.grownBy wx none) : PS w0 wx p r b wr zs := by
  obtain ⟨off, len, cap, h1, h2, h3⟩ := h.rd
  exact ⟨grownBy_trans h.grown hg, ⟨off, len, cap, h1.grown hg (by simp), h2.grown0 hg, h3⟩, (hg.block p h.plt (by simp)).trans h.pv, h.hb, h.hp, h.hr⟩
/-- a number is read -/
theorem PS.number {w0 wl : World} {p r b : Nat} {wr : Bool} {zs : List Nat} (h : PS w0 wl p r b wr zs) :
    Calls Tryd.prog 39 #[.pointer (some ⟨r, 0, none⟩)] wl fun e wx => ∃ (v : Nat) (wr' : Bool) (zs' : List Nat), e = .returned (.int .i64 (v : Int)) ∧ NumStep wr zs v wr' zs' ∧ PS w0 wx p r b wr' zs' ∧ wl.grownBy wx (some r) := by
  obtain ⟨off, len, cap, h1, h2, h3, h4, h5⟩ := h.rd
  have hbl := Nat.lt_of_lt_of_le h.hb h.grown.size
  have hpp := h.hp
  have hrr := h.hr
  have hbb := h.hb
  refine (number_any r b off len cap wr zs wl h1 h2 hbl (by omega) h3 h4).mono ?_
  rintro e wx ⟨v, wr', zs', rfl, hv, ⟨off', len', cap', r1, r2, r3, r4, r5, r6, r7⟩, f1, f2⟩
  exact ⟨v, wr', zs', rfl, ⟨hv, r7, f1, f2⟩, ⟨grownBy_new h.grown r6 (by omega), ⟨off', len', cap', r1, r2, r4, r5, by omega⟩, (r6.block p h.plt (by simp only [ne_eq, Option.some.injEq]; omega)).trans h.pv, h.hb, h.hp, h.hr⟩, r6⟩
theorem PS.bytes {w0 wl : World} {p r b : Nat} {wr : Bool} {zs : List Nat} (h : PS w0 wl p r b wr zs) (n : Nat) :
    Calls Tryd.prog 40 #[.pointer (some ⟨r, 0, none⟩), .int .i64 (n : Int)] wl fun e wx => ∃ (o : Option Nat) (m cp : Nat) (d : List Nat) (wr' : Bool) (zs' : List Nat), e = .returned (.slice (oad o) m cp) ∧ OwnS wx 5 (oad o) m d ∧ (o = none → cp = 0) ∧ (∀ g, o = some g → wl.heap.size ≤ g) ∧ m ≤ 1073741824 ∧
      BytStep wr zs n m d wr' zs' ∧ PS w0 wx p r b wr' zs' ∧ wl.grownBy wx (some r) := by
  obtain ⟨off, len, cap, h1, h2, h3, h4, h5⟩ := h.rd
  have hbl := Nat.lt_of_lt_of_le h.hb h.grown.size
  have hpp := h.hp
  have hrr := h.hr
  have hbb := h.hb
  refine (rbytes_any r b off len cap n wr zs wl h1 h2 hbl (by omega) h3 h4 h5).mono ?_
  rintro e wx ⟨o, m, cp, d, wr', zs', rfl, hO, ho, hg, ⟨off', len', cap', r1, r2, r3, r4, r5, r6, r7⟩, f1, f2, f3⟩
  exact ⟨o, m, cp, d, wr', zs', rfl, hO, ho, hg, f3, ⟨r7, f1, by rw [h2.1]; exact f2⟩, ⟨grownBy_new h.grown r6 (by omega), ⟨off', len', cap', r1, r2, r4, r5, by omega⟩, (r6.block p h.plt (by simp only [ne_eq, Option.some.injEq]; omega)).trans h.pv, h.hb, h.hp, h.hr⟩, r6⟩
end Go.Proofs.YtdajcpcajdhplaaDoor
